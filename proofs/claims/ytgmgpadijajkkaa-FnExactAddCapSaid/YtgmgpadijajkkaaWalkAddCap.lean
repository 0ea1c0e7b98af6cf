/- The walk of the law FnExactAddCap: it returns true and writes nothing that was there. -/
import Derived.Test.YtgmgpadijajkkaaProgA
namespace Go.Proofs.Ytgmgpadijajkkaa
open Go.RowKit

set_option maxHeartbeats 2000000 in
theorem walkAddCap (a : Int) (b : Int) (w : World) (_ha : (Lit.int .i64 a).wf = true) (_hb : (Lit.int .i64 b).wf = true) :
    Calls Try.prog 5 #[.int .i64 a, .int .i64 b] w fun e w' => e = .returned (.bool true) ∧ Below w.heap.size w w' := by
  have CS := Lib.hid (fun W => specAddCap a b W)
  have CI := Lib.hid (fun W => implAddCap a b W)
  generalize addC a b = r at CS CI
  have hrr : (r == r) = true := by simp
  go_enter Try.func5, Try.ntmps5
  go_wp2_with fail
  refine (CS.out _).mono ?_
  rintro e w1 ⟨rfl, rfl⟩
  go_wp2_with fail
  refine (CI.out _).mono ?_
  rintro e w1 ⟨rfl, rfl⟩
  go_wp2
  go_ret
  exact ⟨rfl, Below.refl _ _⟩
end Go.Proofs.Ytgmgpadijajkkaa
