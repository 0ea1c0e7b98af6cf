/- The contract of the model's writer of six bytes. Condition: at most 2^20 bytes. -/
import Derived.Test.YtmbabbapcjphgaaPutFixMath
import Derived.Test.YtmbabbapcjphgaaNumSpec
namespace Go.Proofs.Ytmbabbapcjphgaa
open Go.RowKit

set_option maxRecDepth 10000 in
set_option maxHeartbeats 1000000 in
theorem specPutFix_yes (A : Option Addr) (n c m : Nat) (xs : List Nat) (w : World) (hr : Rd w A n xs) (hn : n ≤ 1048600) (hm : m ≤ 281474976710655) :
    Calls Try.prog 80 #[.slice A n c, .int .i64 (m : Int)] w (PutRes w true (xs ++ fixBytes m 6)) := by
  obtain ⟨i0, hi, hz0, hz1, hz2⟩ := info_parts Try.infoByte
  have HL := Lib.hid hr.len
  go_enter Try.func80, Try.ntmps80
  go_wp2_with (first
    | (go_at_call 86; refine (specNum_yes _ _ (by omega) (by omega)).mono ?_; rintro e w' ⟨rfl, rfl⟩)
    | (at_builtin; refine wpList_append_any _ rfl (.tmp 13) (.tmp 14) _ rfl w.heap.size 5 i0 _ 1 1 Try.underlying55 hi hz0 hz1 hz2 rfl (by omega) (.slice (some ⟨w.heap.size, 0, none⟩) 0 0) 0 [] rfl (built_none w) w.heap.size A n c (vb xs) rfl (hr.reads.alloc (Nat.le_refl _) _) (vb_oneCell xs) (by simp only [maxLen]; omega) (by omega) (by simp) ?_; intro v1 w1 hown1 hg1 hat1))
  have hb1 : Below w.heap.size w w1 := below_built hg1
  have ho1 : w1.ownsRow w.heap.size 5 1 v1 (xs ++ fixBytes m 0).length (vb (xs ++ fixBytes m 0)) := by simp only [fixBytes, List.range_zero, List.map_nil, List.append_nil]; rw [HL.out]; simpa using hown1
  have hlen : xs.length ≤ 1048600 := by rw [HL.out]; omega
  clear hg1 hat1 hown1
  go_loopw [6, 7, 8, 9] (fun v t _ _ wr => ∃ j : Nat, j ≤ 6 ∧ t = .int .i64 (5 - (j : Int)) ∧ wr.ownsRow w.heap.size 5 1 v (xs ++ fixBytes m j).length (vb (xs ++ fixBytes m j)) ∧ Below w.heap.size w wr) (fun _ t _ _ _ => (1 + intOf t).toNat)
  case atStart => exact ⟨0, by omega, rfl, ho1, hb1⟩
  case round =>
    obtain ⟨j, hj, rfl, hown, hbel⟩ := hrel
    obtain ⟨wo, rfl⟩ : ∃ wo : World, wo = wr := ⟨_, rfl⟩
    have hyl : (xs ++ fixBytes m j).length ≤ 1048606 := by rw [List.length_append, fixBytes_length]; omega
    have hsn := Lib.hid (fixBytes_succ m j)
    obtain ⟨ys, hys⟩ : ∃ ys, ys = xs ++ fixBytes m j := ⟨_, rfl⟩
    rw [← hys] at hown hyl
    have HY := Lib.hid hys
    clear hys
    by_cases hbig : j < 6
    · go_wp2
      go_loop [8, 9] (fun x t => ∃ i : Nat, i ≤ 5 - j ∧ t = .int .i64 (i : Int) ∧ x = .int .i64 ((m / 256 ^ i : Nat) : Int)) (fun _ t => 5 - (intOf t).toNat)
      case atStart => exact ⟨0, by omega, rfl, by simp⟩
      case round =>
        obtain ⟨i, hi5, rfl, rfl⟩ := hrel
        have hle : m / 256 ^ i ≤ 281474976710655 := Nat.le_trans (Nat.div_le_self _ _) hm
        have hst := Lib.hid (div_256 m i)
        obtain ⟨q, hq⟩ : ∃ q, q = m / 256 ^ i := ⟨_, rfl⟩
        rw [← hq] at hle hst
        have HQ := Lib.hid hq
        rw [← hq]
        clear hq
        by_cases hlt : i < 5 - j
        · go_wp2
          go_round
          case rel => exact ⟨i + 1, by omega, by go_num, by rw [← hst.out]; go_num⟩
          case measure => simp [intOf]; omega
        · have hij : i = 5 - j := by omega
          have HB : Hid (q % 256 = fixByte m j) := by unfold fixByte; rw [← hij, HQ.out]; exact rfl
          have h1 : ¬ (i : Int) < 5 - (j : Int) := by omega
          clear hij
          go_wp2_with (at_builtin; refine wpList_append_any _ rfl (.tmp 28) (.tmp 32) _ rfl w.heap.size 5 i0 _ 1 1 Try.underlying55 hi hz0 hz1 hz2 rfl (by omega) _ ys.length (vb ys) rfl (hown.alloc _) (wo.heap.size + 1) (some ⟨wo.heap.size, 0, none⟩) 1 1 [.int .u8 _] rfl (one_reads _ _) (one_cell _) (by simp only [maxLen]; omega) (by omega) (by have := hbel.size; simp; omega) ?_; intro v2 w2 hown2 hg2 hat2)
          have hb2 : Below w.heap.size w w2 := below_app hbel hown hg2
          have ho2 := own_snoc (y := fixByte m j) hown2 rfl (by rw [← HB.out]; omega)
          rw [HY.out, List.append_assoc, ← hsn.out] at ho2
          clear hown2 hg2 hat2 hown
          go_roundw
          case rel => exact ⟨j + 1, by omega, by go_num, ho2, hb2⟩
          case measure => simp [intOf]; omega
    · obtain rfl : j = 6 := by omega
      go_wp2
      obtain ⟨A2, c2, rfl⟩ := own_form hown
      go_ret2
      rw [HY.out] at hown
      exact ⟨A2, c2, by rw [← HY.out]; rfl, hown, hbel⟩

set_option maxRecDepth 10000 in
theorem specPutFix_no (A : Option Addr) (n c : Nat) (m : Int) (w : World) (hm : m < 0 ∨ 281474976710655 < m) :
    Calls Try.prog 80 #[.slice A n c, .int .i64 m] w (PutRes w false []) := by
  go_enter Try.func80, Try.ntmps80
  go_wp2_with (go_at_call 86; refine (specNum_no _ _ hm).mono ?_; rintro e w' ⟨rfl, rfl⟩)
  go_ret2
  exact PutRes.no w

theorem specPutFix (A : Option Addr) (n c : Nat) (a : Int) (xs : List Nat) (w : World) (hr : Rd w A n xs) (hn : n ≤ 1048600) :
    Calls Try.prog 80 #[.slice A n c, .int .i64 a] w (PutRes w (numOk a) (putFix xs a)) := by
  by_cases h : 0 ≤ a ∧ a ≤ 281474976710655
  · obtain ⟨m, rfl⟩ : ∃ m : Nat, a = m := ⟨a.toNat, by omega⟩
    have e1 : numOk (m : Int) = true := by simp only [numOk, decide_eq_true h]
    have e2 : putFix xs (m : Int) = xs ++ fixBytes m 6 := by simp [putFix, e1]
    rw [e1, e2]
    exact specPutFix_yes A n c m xs w hr hn (by omega)
  · have e1 : numOk a = false := by simp only [numOk, decide_eq_false h]
    have e2 : putFix xs a = [] := by simp [putFix, e1]
    rw [e1, e2]
    exact specPutFix_no A n c a w (by omega)
end Go.Proofs.Ytmbabbapcjphgaa
