/- The contract of the program's writer of numbers of variable length. Condition: at most 2^20 bytes. -/
import Derived.Test.YtbkchmkhaapmaaaDoorClone
import Derived.Test.YtbkchmkhaapmaaaDoorNumImpl
namespace Go.Proofs.YtbkchmkhaapmaaaDoor
open Go.RowKit

set_option maxRecDepth 10000 in
set_option maxHeartbeats 1000000 in
theorem implPutVar_yes (A : Option Addr) (n c m : Nat) (xs : List Nat) (w : World) (hr : Rd w A n xs) (hn : n ≤ 1048600) (hm : m ≤ 281474976710655) :
    Calls Tryd.prog 47 #[.slice A n c, .int .i64 (m : Int)] w (PutRes w true (xs ++ digits 6 m)) := by
  obtain ⟨i0, hi, hz0, hz1, hz2⟩ := info_parts Tryd.infoByte
  have HL := Lib.hid hr.len
  have hleft : Left (xs ++ digits 6 m) xs 6 m := ⟨rfl, by omega⟩
  go_enter Tryd.func47, Tryd.ntmps47
  go_wp2_with (first
    | (go_at_call 61; refine (implNum_yes _ _ (by omega) (by omega)).mono ?_; rintro e w' ⟨rfl, rfl⟩)
    | (go_at_call 62; refine (clone_any A n c xs w hr (by omega)).mono ?_; rintro e w1 ⟨A1, c1, rfl, hown1, hb1⟩))
  have ho1 : w1.ownsRow w.heap.size 5 1 (.slice A1 n c1) xs.length (vb xs) := by rw [HL.out]; exact hown1
  have hlen : xs.length ≤ 1048600 := by rw [HL.out]; omega
  clear hown1
  go_loopw [1, 6] (fun t v wr => ∃ (r f : Nat) (ys : List Nat), t = .int .i64 (r : Int) ∧ r ≤ 281474976710655 ∧ Left (xs ++ digits 6 m) ys f r ∧ ys.length + f ≤ 1048606 ∧ wr.ownsRow w.heap.size 5 1 v ys.length (vb ys) ∧ Below w.heap.size w wr) (fun t _ _ => (intOf t).toNat)
  case atStart => exact ⟨m, 6, xs, rfl, hm, hleft, by omega, ho1, hb1⟩
  case round =>
    obtain ⟨r, f, ys, rfl, hrm, hlf, hyl, hown, hbel⟩ := hrel
    by_cases hbig : 128 ≤ r
    · obtain ⟨g, rfl, hlf2⟩ := hlf.step hbig
      go_wp2_with (at_builtin; refine wpList_append_any _ rfl (.tmp 14) (.tmp 18) _ rfl w.heap.size 5 i0 _ 1 1 Tryd.underlying22 hi hz0 hz1 hz2 rfl (by omega) _ ys.length (vb ys) rfl (hown.alloc _) (wr.heap.size + 1) (some ⟨wr.heap.size, 0, none⟩) 1 1 [.int .u8 _] rfl (one_reads _ _) (one_cell _) (by simp only [maxLen]; omega) (by omega) (by have := hbel.size; simp; omega) ?_; intro v2 w2 hown2 hg2 hat2)
      have hb2 : Below w.heap.size w w2 := below_app hbel hown hg2
      have ho2 := own_snoc (y := r % 128 + 128) hown2 rfl (or128 r)
      clear hown2 hg2 hat2 hown hlf
      go_roundw
      case rel => exact ⟨r / 128, g, _, by go_num, by omega, hlf2, by simp; omega, ho2, hb2⟩
      case measure => simp [intOf]; omega
    · have hd := hlf.done (by omega)
      go_wp2_with (at_builtin; refine wpList_append_any _ rfl (.tmp 22) (.tmp 25) _ rfl w.heap.size 5 i0 _ 1 1 Tryd.underlying22 hi hz0 hz1 hz2 rfl (by omega) _ ys.length (vb ys) rfl (hown.alloc _) (wr.heap.size + 1) (some ⟨wr.heap.size, 0, none⟩) 1 1 [.int .u8 (r : Int)] rfl (one_reads _ _) (one_cell _) (by simp only [maxLen]; omega) (by omega) (by have := hbel.size; simp; omega) ?_; intro v2 w2 hown2 hg2 hat2)
      have hb2 : Below w.heap.size w w2 := below_app hbel hown hg2
      have ho2 := own_snoc (y := r) hown2 rfl rfl
      obtain ⟨A2, c2, rfl⟩ := own_form ho2
      go_ret2
      rw [hd] at ho2
      exact ⟨A2, c2, by rw [← hd]; rfl, ho2, hb2⟩

set_option maxRecDepth 10000 in
theorem implPutVar_no (A : Option Addr) (n c : Nat) (m : Int) (w : World) (hm : m < 0 ∨ 281474976710655 < m) :
    Calls Tryd.prog 47 #[.slice A n c, .int .i64 m] w (PutRes w false []) := by
  go_enter Tryd.func47, Tryd.ntmps47
  go_wp2_with (go_at_call 61; refine (implNum_no _ _ hm).mono ?_; rintro e w' ⟨rfl, rfl⟩)
  go_ret2
  exact PutRes.no w

theorem implPutVar (A : Option Addr) (n c : Nat) (a : Int) (xs : List Nat) (w : World) (hr : Rd w A n xs) (hn : n ≤ 1048600) :
    Calls Tryd.prog 47 #[.slice A n c, .int .i64 a] w (PutRes w (numOk a) (putVar xs a)) := by
  by_cases h : 0 ≤ a ∧ a ≤ 281474976710655
  · obtain ⟨m, rfl⟩ : ∃ m : Nat, a = m := ⟨a.toNat, by omega⟩
    have e1 : numOk (m : Int) = true := by simp only [numOk, decide_eq_true h]
    have e2 : putVar xs (m : Int) = xs ++ digits 6 m := by simp [putVar, e1]
    rw [e1, e2]
    exact implPutVar_yes A n c m xs w hr hn (by omega)
  · have e1 : numOk a = false := by simp only [numOk, decide_eq_false h]
    have e2 : putVar xs a = [] := by simp [putVar, e1]
    rw [e1, e2]
    exact implPutVar_no A n c a w (by omega)
end Go.Proofs.YtbkchmkhaapmaaaDoor
