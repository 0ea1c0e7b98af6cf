/- The contract of slices.Clone at bytes. Condition: at most 2^21 bytes. -/
import Derived.Test.YtbkchmkhaapmaaaDoorPutMath
namespace Go.Proofs.YtbkchmkhaapmaaaDoor
open Go.RowKit

theorem clone_any (A : Option Addr) (n c : Nat) (xs : List Nat) (w : World) (hr : Rd w A n xs) (hn : n ≤ 2097152) :
    Calls Tryd.prog 62 #[.slice A n c] w (Made w n xs) := by
  obtain ⟨i0, hi, hz0, hz1, hz2⟩ := info_parts Tryd.infoByte
  rcases A with _ | a
  · obtain rfl : n = 0 := by
      rcases Nat.eq_zero_or_pos n with h | h
      · exact h
      · obtain ⟨_, _, h, _⟩ := hr.lies h
        cases h
    obtain rfl : xs = [] := List.eq_nil_of_length_eq_zero hr.len
    have e1 := fun w : World => Lib.run_eql_slice_nil (P := Tryd.prog) w 22 5 none 0 c 0 0 Tryd.underlying22
    go_enter Tryd.func62, Tryd.ntmps62
    go_wp2
    go_ret
    exact ⟨none, 0, rfl, World.ownsRow_nil _ _ _ _, Below.refl _ _⟩
  · have e1 := fun w : World => Lib.run_eql_slice_nil (P := Tryd.prog) w 22 5 (some a) n c 0 0 Tryd.underlying22
    go_enter Tryd.func62, Tryd.ntmps62
    go_wp2_with (at_builtin; refine wpList_append_any _ rfl (.tmp 5) (.tmp 6) _ rfl w.heap.size 5 i0 _ 1 1 Tryd.underlying22 hi hz0 hz1 hz2 rfl (by omega) (.slice (some ⟨w.heap.size, 0, none⟩) 0 0) 0 [] rfl (built_none w) w.heap.size (some a) n c (vb xs) rfl (hr.reads.alloc (Nat.le_refl _) _) (vb_oneCell xs) (by simp only [maxLen]; omega) (by omega) (by simp) ?_; intro v1 w1 hown1 hg1 hat1)
    obtain ⟨A1, c1, rfl⟩ := own_form hown1
    go_ret
    exact ⟨A1, c1, by simp, by simpa using hown1, below_built hg1⟩
end Go.Proofs.YtbkchmkhaapmaaaDoor
