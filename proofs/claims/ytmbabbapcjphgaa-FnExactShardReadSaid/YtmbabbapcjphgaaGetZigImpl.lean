/- The contract of the program's reader of signed numbers. Condition: at most 2^21 bytes. -/
import Derived.Test.YtmbabbapcjphgaaGetZigMath
import Derived.Test.YtmbabbapcjphgaaGetVarImpl
namespace Go.Proofs.Ytmbabbapcjphgaa
open Go.RowKit

set_option maxRecDepth 10000 in
set_option maxHeartbeats 400000 in
theorem implGetZig (A : Option Addr) (n c : Nat) (a : Int) (xs : List Nat) (w : World) (hr : Rd w A n xs) (hn : n ≤ 2097152) :
    Calls Try.prog 79 #[.slice A n c, .int .i64 a] w fun e w' => e = .returned (gzVal xs a n) ∧ w = w' := by
  have C := Lib.hid (implGetVar A n c a xs w hr hn)
  cases h : gv xs a n with
  | false =>
    rw [gz_no xs a n h]
    rw [gvVal_no xs a n h] at C
    clear h
    go_enter Try.func79, Try.ntmps79
    go_wp2_with (go_at_call 78; refine C.out.mono ?_; rintro e w' ⟨rfl, rfl⟩)
    go_ret3
    exact ⟨rfl, rfl⟩
  | true =>
    rw [gz_yes xs a n h]
    rw [gvVal_yes xs a n h] at C
    obtain ⟨hb0, hb1⟩ := gvN_bounds xs a n
    generalize gvN xs a n = v at hb0 hb1 C ⊢
    generalize gvE xs a n = m at C ⊢
    clear h
    by_cases ho : v % 2 = 1
    · have e1 : Hid (unzig v = -(v / 2) - 1) := by simp [unzig, ho, Hid]
      have ho2 : (v % 2 == 1) = true := by rw [beq_iff_eq]; exact ho
      clear ho
      go_enter Try.func79, Try.ntmps79
      go_wp2_with (go_at_call 78; refine C.out.mono ?_; rintro e w' ⟨rfl, rfl⟩)
      go_ret3
      exact ⟨by rw [e1.out]; rfl, rfl⟩
    · have e1 : Hid (unzig v = v / 2) := by simp [unzig, ho, Hid]
      have ho2 : (v % 2 == 1) = false := beq_eq_false_iff_ne.mpr ho
      clear ho
      go_enter Try.func79, Try.ntmps79
      go_wp2_with (go_at_call 78; refine C.out.mono ?_; rintro e w' ⟨rfl, rfl⟩)
      go_ret3
      exact ⟨by rw [e1.out]; rfl, rfl⟩
end Go.Proofs.Ytmbabbapcjphgaa
