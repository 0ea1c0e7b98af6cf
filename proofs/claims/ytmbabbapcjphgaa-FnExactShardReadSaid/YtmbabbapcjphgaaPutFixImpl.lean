/- The contract of the program's writer of six bytes. Condition: at most 2^20 bytes. -/
import Derived.Test.YtmbabbapcjphgaaPutFixMath
import Derived.Test.YtmbabbapcjphgaaClone
import Derived.Test.YtmbabbapcjphgaaNumImpl
namespace Go.Proofs.Ytmbabbapcjphgaa
open Go.RowKit

set_option maxRecDepth 10000 in
set_option maxHeartbeats 1000000 in
theorem implPutFix_yes (A : Option Addr) (n c m : Nat) (xs : List Nat) (w : World) (hr : Rd w A n xs) (hn : n ≤ 1048600) (hm : m ≤ 281474976710655) :
    Calls Try.prog 81 #[.slice A n c, .int .i64 (m : Int)] w (PutRes w true (xs ++ fixBytes m 6)) := by
  obtain ⟨i0, hi, hz0, hz1, hz2⟩ := info_parts Try.infoByte
  have HL := Lib.hid hr.len
  go_enter Try.func81, Try.ntmps81
  go_wp2_with (first
    | (go_at_call 87; refine (implNum_yes _ _ (by omega) (by omega)).mono ?_; rintro e w' ⟨rfl, rfl⟩)
    | (go_at_call 101; refine (clone_any A n c xs w hr (by omega)).mono ?_; rintro e w1 ⟨A1, c1, rfl, hown1, hb1⟩))
  have ho1 : w1.ownsRow w.heap.size 5 1 (.slice A1 n c1) (xs ++ fixBytes m 0).length (vb (xs ++ fixBytes m 0)) := by simp only [fixBytes, List.range_zero, List.map_nil, List.append_nil]; rw [HL.out]; exact hown1
  have hlen : xs.length ≤ 1048600 := by rw [HL.out]; omega
  clear hown1
  go_loopw [6, 7, 13] (fun v _ t wr => ∃ j : Nat, j ≤ 6 ∧ t = .int .i64 (j : Int) ∧ wr.ownsRow w.heap.size 5 1 v (xs ++ fixBytes m j).length (vb (xs ++ fixBytes m j)) ∧ Below w.heap.size w wr) (fun _ _ t _ => 6 - (intOf t).toNat)
  case atStart => exact ⟨0, by omega, rfl, ho1, hb1⟩
  case round =>
    obtain ⟨j, hj, rfl, hown, hbel⟩ := hrel
    have hyl : (xs ++ fixBytes m j).length ≤ 1048606 := by rw [List.length_append, fixBytes_length]; omega
    have hsn := Lib.hid (fixBytes_succ m j)
    obtain ⟨ys, hys⟩ : ∃ ys, ys = xs ++ fixBytes m j := ⟨_, rfl⟩
    rw [← hys] at hown hyl
    have HY := Lib.hid hys
    clear hys
    by_cases hbig : j < 6
    · go_wp2_with (at_builtin; refine wpList_append_any _ rfl (.tmp 16) (.tmp 23) _ rfl w.heap.size 5 i0 _ 1 1 Try.underlying55 hi hz0 hz1 hz2 rfl (by omega) _ ys.length (vb ys) rfl (hown.alloc _) (wr.heap.size + 1) (some ⟨wr.heap.size, 0, none⟩) 1 1 [.int .u8 _] rfl (one_reads _ _) (one_cell _) (by simp only [maxLen]; omega) (by omega) (by have := hbel.size; simp; omega) ?_; intro v2 w2 hown2 hg2 hat2)
      have hb2 : Below w.heap.size w w2 := below_app hbel hown hg2
      have ho2 := own_snoc (y := fixByte m j) hown2 rfl (fixByte_shift m j)
      rw [HY.out, List.append_assoc, ← hsn.out] at ho2
      clear hown2 hg2 hat2 hown
      go_roundw
      case rel => exact ⟨j + 1, by omega, by go_num, ho2, hb2⟩
      case measure => simp [intOf]; omega
    · obtain rfl : j = 6 := by omega
      go_wp2
      obtain ⟨A2, c2, rfl⟩ := own_form hown
      go_ret2
      rw [HY.out] at hown
      exact ⟨A2, c2, by rw [← HY.out]; rfl, hown, hbel⟩

set_option maxRecDepth 10000 in
theorem implPutFix_no (A : Option Addr) (n c : Nat) (m : Int) (w : World) (hm : m < 0 ∨ 281474976710655 < m) :
    Calls Try.prog 81 #[.slice A n c, .int .i64 m] w (PutRes w false []) := by
  go_enter Try.func81, Try.ntmps81
  go_wp2_with (go_at_call 87; refine (implNum_no _ _ hm).mono ?_; rintro e w' ⟨rfl, rfl⟩)
  go_ret2
  exact PutRes.no w

theorem implPutFix (A : Option Addr) (n c : Nat) (a : Int) (xs : List Nat) (w : World) (hr : Rd w A n xs) (hn : n ≤ 1048600) :
    Calls Try.prog 81 #[.slice A n c, .int .i64 a] w (PutRes w (numOk a) (putFix xs a)) := by
  by_cases h : 0 ≤ a ∧ a ≤ 281474976710655
  · obtain ⟨m, rfl⟩ : ∃ m : Nat, a = m := ⟨a.toNat, by omega⟩
    have e1 : numOk (m : Int) = true := by simp only [numOk, decide_eq_true h]
    have e2 : putFix xs (m : Int) = xs ++ fixBytes m 6 := by simp [putFix, e1]
    rw [e1, e2]
    exact implPutFix_yes A n c m xs w hr hn (by omega)
  · have e1 : numOk a = false := by simp only [numOk, decide_eq_false h]
    have e2 : putFix xs a = [] := by simp [putFix, e1]
    rw [e1, e2]
    exact implPutFix_no A n c a w (by omega)
end Go.Proofs.Ytmbabbapcjphgaa
