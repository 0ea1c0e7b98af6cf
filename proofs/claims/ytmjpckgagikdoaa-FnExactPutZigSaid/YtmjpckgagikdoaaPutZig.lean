/- The contracts of the writers of signed numbers: the sign is the lowest bit of a number of variable length. Condition: at most 2^20 bytes. -/
import Derived.Test.YtmjpckgagikdoaaPutVar
namespace Go.Proofs.Ytmjpckgagikdoaa
open Go.RowKit

def zigOk (n : Int) : Bool := decide (-140737488355328 ≤ n ∧ n ≤ 140737488355327)
/-- The number that bears the sign in its lowest bit. -/
def zig (n : Int) : Int := if n < 0 then -2 * n - 1 else 2 * n
def putZig (xs : List Nat) (n : Int) : List Nat := if zigOk n then putVar xs (zig n) else []

theorem zig_num (n : Int) (h : zigOk n = true) : numOk (zig n) = true := by
  simp only [zigOk, decide_eq_true_eq] at h
  simp only [numOk, decide_eq_true_eq]
  unfold zig
  by_cases hn : n < 0
  · rw [if_pos hn]; omega
  · rw [if_neg hn]; omega

theorem putZig_small (xs : List Nat) (a : Int) (h : ∀ x ∈ xs, x < 256) : ∀ x ∈ putZig xs a, x < 256 := by
  unfold putZig
  split
  · exact putVar_small xs _ h
  · simp
theorem putZig_length (xs : List Nat) (a : Int) : (putZig xs a).length ≤ xs.length + 7 := by
  unfold putZig
  split
  · exact putVar_length xs _
  · simp

set_option maxRecDepth 10000 in
theorem specPutZig (A : Option Addr) (n c : Nat) (a : Int) (xs : List Nat) (w : World) (hr : Rd w A n xs) (hn : n ≤ 1048600) :
    Calls Try.prog 18 #[.slice A n c, .int .i64 a] w (PutRes w (zigOk a) (putZig xs a)) := by
  by_cases h : -140737488355328 ≤ a ∧ a ≤ 140737488355327
  · have e1 : zigOk a = true := by simp only [zigOk, decide_eq_true h]
    have e2 : putZig xs a = putVar xs (zig a) := by simp [putZig, e1]
    have e3 := zig_num a e1
    rw [e1, e2]
    have C := Lib.hid (specPutVar A n c (zig a) xs w hr hn)
    rw [e3] at C
    obtain ⟨ha, hb⟩ := h
    clear e1 e2 e3
    by_cases hneg : a < 0
    · have e4 : zig a = -2 * a - 1 := by simp [zig, hneg]
      rw [e4] at C ⊢
      generalize putVar xs _ = ys at C ⊢
      clear e4
      go_enter Try.func18, Try.ntmps18
      go_wp2_with (go_at_call 10; refine C.out.mono ?_; rintro e w' ⟨A1, c1, rfl, ho, hb⟩)
      go_ret2
      exact ⟨A1, c1, rfl, ho, hb⟩
    · have e4 : zig a = 2 * a := by simp [zig, hneg]
      rw [e4] at C ⊢
      generalize putVar xs _ = ys at C ⊢
      clear e4
      go_enter Try.func18, Try.ntmps18
      go_wp2_with (go_at_call 10; refine C.out.mono ?_; rintro e w' ⟨A1, c1, rfl, ho, hb⟩)
      go_ret2
      exact ⟨A1, c1, rfl, ho, hb⟩
  · have e1 : zigOk a = false := by simp only [zigOk, decide_eq_false h]
    have e2 : putZig xs a = [] := by simp [putZig, e1]
    rw [e1, e2]
    clear e1 e2
    by_cases hneg : a < -140737488355328
    · go_enter Try.func18, Try.ntmps18
      go_wp2
      go_ret2
      exact PutRes.no w
    · have h2 : 140737488355327 < a := by omega
      go_enter Try.func18, Try.ntmps18
      go_wp2
      go_ret2
      exact PutRes.no w

set_option maxRecDepth 10000 in
theorem implPutZig (A : Option Addr) (n c : Nat) (a : Int) (xs : List Nat) (w : World) (hr : Rd w A n xs) (hn : n ≤ 1048600) :
    Calls Try.prog 19 #[.slice A n c, .int .i64 a] w (PutRes w (zigOk a) (putZig xs a)) := by
  by_cases h : -140737488355328 ≤ a ∧ a ≤ 140737488355327
  · have e1 : zigOk a = true := by simp only [zigOk, decide_eq_true h]
    have e2 : putZig xs a = putVar xs (zig a) := by simp [putZig, e1]
    have e3 := zig_num a e1
    rw [e1, e2]
    have C := Lib.hid (implPutVar A n c (zig a) xs w hr hn)
    rw [e3] at C
    obtain ⟨ha, hb⟩ := h
    clear e1 e2 e3
    by_cases hneg : a < 0
    · have e4 : zig a = -2 * a - 1 := by simp [zig, hneg]
      rw [e4] at C ⊢
      generalize putVar xs _ = ys at C ⊢
      clear e4
      go_enter Try.func19, Try.ntmps19
      go_wp2_with (go_at_call 12; refine C.out.mono ?_; rintro e w' ⟨A1, c1, rfl, ho, hb⟩)
      go_ret2
      exact ⟨A1, c1, rfl, ho, hb⟩
    · have e4 : zig a = 2 * a := by simp [zig, hneg]
      rw [e4] at C ⊢
      generalize putVar xs _ = ys at C ⊢
      clear e4
      go_enter Try.func19, Try.ntmps19
      go_wp2_with (go_at_call 12; refine C.out.mono ?_; rintro e w' ⟨A1, c1, rfl, ho, hb⟩)
      go_ret2
      exact ⟨A1, c1, rfl, ho, hb⟩
  · have e1 : zigOk a = false := by simp only [zigOk, decide_eq_false h]
    have e2 : putZig xs a = [] := by simp [putZig, e1]
    rw [e1, e2]
    clear e1 e2
    by_cases hneg : a < -140737488355328
    · go_enter Try.func19, Try.ntmps19
      go_wp2
      go_ret2
      exact PutRes.no w
    · have h2 : 140737488355327 < a := by omega
      go_enter Try.func19, Try.ntmps19
      go_wp2
      go_ret2
      exact PutRes.no w

end Go.Proofs.Ytmjpckgagikdoaa
