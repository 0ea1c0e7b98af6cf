/- The program's small functions that read a frame's parts: a demand that panics, a number at a place, the head. Condition: at most 2^21 bytes. -/
import Derived.Test.YtmlfhjkogcabiaaFrMath
import Derived.Test.YtmlfhjkogcabiaaGetFixImpl
import Derived.Defers
import Derived.Recover
import Derived.WalkSmall
namespace Go.Proofs.Ytmlfhjkogcabiaa
open Go.RowKit

theorem demand_yes (c : Int) (w : World) : Calls Try.prog 87 #[.bool true, .int .i64 c] w fun e w' => e = .returned (.tuple #[]) ∧ w = w' := by
  go_enter Try.func87, Try.ntmps87
  go_wp2
  go_end0
  exact ⟨rfl, rfl⟩
def gaveE (c : Int) : PanicEntry := { v := .iface 105 (.int .i64 c), recovered := false }
theorem demand_no (c : Int) (w : World) : Calls Try.prog 87 #[.bool false, .int .i64 c] w fun e w' => e = .panicked [gaveE c] ∧ w = w' := by
  go_enter Try.func87, Try.ntmps87
  go_wp2
  exact ⟨rfl, rfl, rfl⟩
theorem fixAt_any (A : Option Addr) (n c k : Nat) (xs : List Nat) (w : World) (hr : Rd w A n xs) (hn : n ≤ 2097152) (hk : k + 6 ≤ n) :
    Calls Try.prog 89 #[.slice A n c, .int .i64 (k : Int)] w fun e w' => e = .returned (.int .i64 (fixNat xs k 6 : Nat)) ∧ w = w' := by
  have hv : fixVal xs (k : Int) n = .tuple #[.int .i64 (fixNat xs k 6 : Nat), .bool true] := by
    have h1 : fixOk (k : Int) n = true := by unfold fixOk; simp; omega
    unfold fixVal
    rw [h1]
    simp
  have C := Lib.hid (implGetFix A n c (k : Int) xs w hr hn (by omega) (by omega))
  rw [hv] at C
  clear hr hv
  go_enter Try.func89, Try.ntmps89
  go_wp2_with fail
  refine C.out.mono ?_
  rintro e w1 ⟨rfl, rfl⟩
  go_wp2
  go_ret
  exact ⟨rfl, rfl⟩
end Go.Proofs.Ytmlfhjkogcabiaa
