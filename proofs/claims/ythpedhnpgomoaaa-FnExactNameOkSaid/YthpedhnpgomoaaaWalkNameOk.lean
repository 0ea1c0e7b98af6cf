/- The walk of the law FnExactNameOk: it returns true and writes nothing that was there. -/
import Derived.Test.YthpedhnpgomoaaaNameOk
namespace Go.Proofs.Ythpedhnpgomoaaa
open Go.RowKit

set_option maxHeartbeats 1000000 in
theorem walkNameOk (a0 : ByteArray) (w : World) (h0 : a0.size ≤ maxLen) :
    Calls Try.prog 4 #[.string a0] w fun e w' => e = .returned (.bool true) ∧ Below w.heap.size w w' := by
  unfold maxLen at h0
  by_cases hb : a0.size ≤ 1048576
  · have CS := Lib.hid (fun W => specName a0 W (by omega))
    have CI := Lib.hid (fun W => implName a0 W (by omega))
    generalize nameB a0 = b at CS CI
    go_enter Try.func4, Try.ntmps4
    go_wp2_with fail
    refine (CS.out _).mono ?_
    rintro e w1 ⟨rfl, rfl⟩
    go_wp2_with fail
    refine (CI.out _).mono ?_
    rintro e w1 ⟨rfl, rfl⟩
    go_wp2
    go_ret
    exact ⟨rfl, Below.refl _ _⟩
  · have hb2 : 1048576 < a0.size := by omega
    go_enter Try.func4, Try.ntmps4
    go_wp2
    go_ret
    exact ⟨rfl, Below.refl _ _⟩
end Go.Proofs.Ythpedhnpgomoaaa
