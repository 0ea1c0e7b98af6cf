/- The contract of the program's writer of signed numbers. Condition: at most 2^20 bytes. -/
import Derived.Test.YtmbabbapcjphgaaZigMath
import Derived.Test.YtmbabbapcjphgaaPutVarImpl
namespace Go.Proofs.Ytmbabbapcjphgaa
open Go.RowKit

set_option maxRecDepth 10000 in
theorem implPutZig (A : Option Addr) (n c : Nat) (a : Int) (xs : List Nat) (w : World) (hr : Rd w A n xs) (hn : n ≤ 1048600) :
    Calls Try.prog 74 #[.slice A n c, .int .i64 a] w (PutRes w (zigOk a) (putZig xs a)) := by
  by_cases h : -140737488355328 ≤ a ∧ a ≤ 140737488355327
  · have e1 : zigOk a = true := by simp only [zigOk, decide_eq_true h]
    have e2 : putZig xs a = putVar xs (zig a) := by simp [putZig, e1]
    have e3 := zig_num a e1
    rw [e1, e2]
    have C := Lib.hid (implPutVar A n c (zig a) xs w hr hn)
    rw [e3] at C
    obtain ⟨ha, hb⟩ := h
    clear e1 e2 e3
    by_cases hneg : a < 0
    · have e4 : zig a = -2 * a - 1 := by simp [zig, hneg]
      rw [e4] at C ⊢
      generalize putVar xs _ = ys at C ⊢
      clear e4
      go_enter Try.func74, Try.ntmps74
      go_wp2_with (go_at_call 73; refine C.out.mono ?_; rintro e w' ⟨A1, c1, rfl, ho, hb⟩)
      go_ret2
      exact ⟨A1, c1, rfl, ho, hb⟩
    · have e4 : zig a = 2 * a := by simp [zig, hneg]
      rw [e4] at C ⊢
      generalize putVar xs _ = ys at C ⊢
      clear e4
      go_enter Try.func74, Try.ntmps74
      go_wp2_with (go_at_call 73; refine C.out.mono ?_; rintro e w' ⟨A1, c1, rfl, ho, hb⟩)
      go_ret2
      exact ⟨A1, c1, rfl, ho, hb⟩
  · have e1 : zigOk a = false := by simp only [zigOk, decide_eq_false h]
    have e2 : putZig xs a = [] := by simp [putZig, e1]
    rw [e1, e2]
    clear e1 e2
    by_cases hneg : a < -140737488355328
    · go_enter Try.func74, Try.ntmps74
      go_wp2
      go_ret2
      exact PutRes.no w
    · have h2 : 140737488355327 < a := by omega
      go_enter Try.func74, Try.ntmps74
      go_wp2
      go_ret2
      exact PutRes.no w
end Go.Proofs.Ytmbabbapcjphgaa
