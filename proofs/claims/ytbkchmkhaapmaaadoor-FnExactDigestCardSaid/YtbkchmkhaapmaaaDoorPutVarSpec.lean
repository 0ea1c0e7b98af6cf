/- The contract of the model's writer of numbers of variable length. Condition: at most 2^20 bytes. -/
import Derived.Test.YtbkchmkhaapmaaaDoorPutMath
import Derived.Test.YtbkchmkhaapmaaaDoorNumSpec
namespace Go.Proofs.YtbkchmkhaapmaaaDoor
open Go.RowKit

set_option maxRecDepth 10000 in
set_option maxHeartbeats 1000000 in
theorem specPutVar_yes (A : Option Addr) (n c m : Nat) (xs : List Nat) (w : World) (hr : Rd w A n xs) (hn : n ≤ 1048600) (hm : m ≤ 281474976710655) :
    Calls Tryd.prog 58 #[.slice A n c, .int .i64 (m : Int)] w (PutRes w true (xs ++ digits 6 m)) := by
  obtain ⟨i0, hi, hz0, hz1, hz2⟩ := info_parts Tryd.infoByte
  have HL := Lib.hid hr.len
  have hleft : Left (xs ++ digits 6 m) xs 6 m := ⟨rfl, by omega⟩
  go_enter Tryd.func58, Tryd.ntmps58
  go_wp2_with (first
    | (go_at_call 64; refine (specNum_yes _ _ (by omega) (by omega)).mono ?_; rintro e w' ⟨rfl, rfl⟩)
    | (at_builtin; refine wpList_append_any _ rfl (.tmp 10) (.tmp 11) _ rfl w.heap.size 5 i0 _ 1 1 Tryd.underlying22 hi hz0 hz1 hz2 rfl (by omega) (.slice (some ⟨w.heap.size, 0, none⟩) 0 0) 0 [] rfl (built_none w) w.heap.size A n c (vb xs) rfl (hr.reads.alloc (Nat.le_refl _) _) (vb_oneCell xs) (by simp only [maxLen]; omega) (by omega) (by simp) ?_; intro v1 w1 hown1 hg1 hat1))
  have hb1 : Below w.heap.size w w1 := below_built hg1
  have ho1 : w1.ownsRow w.heap.size 5 1 v1 xs.length (vb xs) := by rw [HL.out]; simpa using hown1
  have hlen : xs.length ≤ 1048600 := by rw [HL.out]; omega
  clear hg1 hat1 hown1
  go_loopw [1, 6] (fun t v wr => ∃ (r f : Nat) (ys : List Nat), t = .int .i64 (r : Int) ∧ r ≤ 281474976710655 ∧ Left (xs ++ digits 6 m) ys f r ∧ ys.length + f ≤ 1048606 ∧ wr.ownsRow w.heap.size 5 1 v ys.length (vb ys) ∧ Below w.heap.size w wr) (fun t _ _ => (intOf t).toNat)
  case atStart => exact ⟨m, 6, xs, rfl, hm, hleft, by omega, ho1, hb1⟩
  case round =>
    obtain ⟨r, f, ys, rfl, hrm, hlf, hyl, hown, hbel⟩ := hrel
    by_cases hbig : 128 ≤ r
    · obtain ⟨g, rfl, hlf2⟩ := hlf.step hbig
      go_wp2_with (at_builtin; refine wpList_append_any _ rfl (.tmp 15) (.tmp 20) _ rfl w.heap.size 5 i0 _ 1 1 Tryd.underlying22 hi hz0 hz1 hz2 rfl (by omega) _ ys.length (vb ys) rfl (hown.alloc _) (wr.heap.size + 1) (some ⟨wr.heap.size, 0, none⟩) 1 1 [.int .u8 ((r : Int) % 128 + 128)] rfl (one_reads _ _) (one_cell _) (by simp only [maxLen]; omega) (by omega) (by have := hbel.size; simp; omega) ?_; intro v2 w2 hown2 hg2 hat2)
      have hb2 : Below w.heap.size w w2 := below_app hbel hown hg2
      have ho2 := own_snoc (y := r % 128 + 128) hown2 rfl (by omega)
      clear hown2 hg2 hat2 hown hlf
      go_roundw
      case rel => exact ⟨r / 128, g, _, by go_num, by omega, hlf2, by simp; omega, ho2, hb2⟩
      case measure => simp [intOf]; omega
    · have hd := hlf.done (by omega)
      go_wp2_with (at_builtin; refine wpList_append_any _ rfl (.tmp 24) (.tmp 27) _ rfl w.heap.size 5 i0 _ 1 1 Tryd.underlying22 hi hz0 hz1 hz2 rfl (by omega) _ ys.length (vb ys) rfl (hown.alloc _) (wr.heap.size + 1) (some ⟨wr.heap.size, 0, none⟩) 1 1 [.int .u8 (r : Int)] rfl (one_reads _ _) (one_cell _) (by simp only [maxLen]; omega) (by omega) (by have := hbel.size; simp; omega) ?_; intro v2 w2 hown2 hg2 hat2)
      have hb2 : Below w.heap.size w w2 := below_app hbel hown hg2
      have ho2 := own_snoc (y := r) hown2 rfl rfl
      obtain ⟨A2, c2, rfl⟩ := own_form ho2
      go_ret2
      rw [hd] at ho2
      exact ⟨A2, c2, by rw [← hd]; rfl, ho2, hb2⟩

set_option maxRecDepth 10000 in
theorem specPutVar_no (A : Option Addr) (n c : Nat) (m : Int) (w : World) (hm : m < 0 ∨ 281474976710655 < m) :
    Calls Tryd.prog 58 #[.slice A n c, .int .i64 m] w (PutRes w false []) := by
  go_enter Tryd.func58, Tryd.ntmps58
  go_wp2_with (go_at_call 64; refine (specNum_no _ _ hm).mono ?_; rintro e w' ⟨rfl, rfl⟩)
  go_ret2
  exact PutRes.no w

theorem specPutVar (A : Option Addr) (n c : Nat) (a : Int) (xs : List Nat) (w : World) (hr : Rd w A n xs) (hn : n ≤ 1048600) :
    Calls Tryd.prog 58 #[.slice A n c, .int .i64 a] w (PutRes w (numOk a) (putVar xs a)) := by
  by_cases h : 0 ≤ a ∧ a ≤ 281474976710655
  · obtain ⟨m, rfl⟩ : ∃ m : Nat, a = m := ⟨a.toNat, by omega⟩
    have e1 : numOk (m : Int) = true := by simp only [numOk, decide_eq_true h]
    have e2 : putVar xs (m : Int) = xs ++ digits 6 m := by simp [putVar, e1]
    rw [e1, e2]
    exact specPutVar_yes A n c m xs w hr hn (by omega)
  · have e1 : numOk a = false := by simp only [numOk, decide_eq_false h]
    have e2 : putVar xs a = [] := by simp [putVar, e1]
    rw [e1, e2]
    exact specPutVar_no A n c a w (by omega)
end Go.Proofs.YtbkchmkhaapmaaaDoor
