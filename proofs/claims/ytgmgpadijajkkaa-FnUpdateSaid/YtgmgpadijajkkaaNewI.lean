/- The contracts of the program's new values (ranks, components, distances), of its count of Out edges and of its test of views. Condition: at most 2^21 views. -/
import Derived.Test.YtgmgpadijajkkaaProgI
import Derived.Test.YtgmgpadijajkkaaVB
namespace Go.Proofs.Ytgmgpadijajkkaa
open Go.RowKit

theorem g_val {k : IntKind} {a b : Int} (h : a = b) : Value.int k a = .int k b := by rw [h]

set_option maxRecDepth 10000 in
set_option maxHeartbeats 1000000 in
theorem implNewRank (x : Int) (A : Option Addr) (n c : Nat) (es : List VE) (w : World) (hr : SlV w A n es) (hn : n ≤ 2097152) :
    Calls Try.prog 48 #[.int .i64 x, .slice A n c] w (fun e w' => e = .returned (.int .i64 (newRank es)) ∧ Below w.heap.size w w') := by
  have HR := Lib.hid hr
  have HL := Lib.hid hr.len
  clear hr
  have CA := Lib.hid (fun a b W => implAddCap a b W)
  go_enter Try.func48, Try.ntmps48
  go_wp2
  go_loopw [5, 10] (fun s i wr => ∃ k : Nat, k ≤ n ∧ i = .int .i64 (k : Int) ∧ s = .int .i64 (rankS (es.take k)) ∧ Hid (Below w.heap.size w wr)) (fun _ i _ => n - (intOf i).toNat)
  case atStart => exact ⟨0, Nat.zero_le _, rfl, rfl, Lib.hid (Below.refl _ _)⟩
  case round =>
    obtain ⟨k, hk, rfl, rfl, hbel⟩ := hrel
    have HLIM := Lib.hid (rankS_lim (es.take k))
    obtain ⟨s, hs⟩ : ∃ s, s = rankS (es.take k) := ⟨_, rfl⟩
    rw [← hs] at HLIM
    simp only [← hs]
    have HS := Lib.hid hs
    clear hs
    by_cases hlt : k < n
    · skip
      obtain ⟨b, off, e, rfl, hbw, he, c0, c1, c2, c3⟩ := HR.out.at_ hlt
      have c0 := (hbel.out.cell (p := ⟨b, off + k * 4, none⟩) hbw).trans c0
      have c1 := (hbel.out.cell (p := ⟨b, off + k * 4 + 1, none⟩) hbw).trans c1
      have c2 := (hbel.out.cell (p := ⟨b, off + k * 4 + 2, none⟩) hbw).trans c2
      have c3 := (hbel.out.cell (p := ⟨b, off + k * 4 + 3, none⟩) hbw).trans c3
      have HN := Lib.hid (rankS_snoc he.out)
      cases hi : e.i with
      | true =>
        rw [hi] at c0
        go_wp2_with fail
        refine (CA.out s e.v _).mono ?_
        rintro e1 w1 ⟨rfl, rfl⟩
        go_wp2
        go_roundw
        case rel => exact ⟨k + 1, by omega, by go_num, by rw [HN.out, ← HS.out]; unfold rankStep; rw [hi]; rfl, Lib.hid (g_chain hbel.out (below_a1 _ _))⟩
        case measure => simp [intOf]; omega
      | false =>
        rw [hi] at c0
        go_wp2
        go_roundw
        case rel => exact ⟨k + 1, by omega, by go_num, by rw [HN.out, ← HS.out]; unfold rankStep; rw [hi]; rfl, Lib.hid (g_chain hbel.out (below_a1 _ _))⟩
        case measure => simp [intOf]; omega
    · obtain rfl : k = n := by omega
      have hb0 : 0 ≤ 17 * s := by have := HLIM.out; omega
      have hb1 : 17 * s ≤ 17 * 1099511627776 := by have := HLIM.out; omega
      have hq1 : IntKind.i64.wrap (17 * s) = 17 * s := IntWalk.i64_in _ (by omega)
      have hq2 : IntKind.i64.wrap (Int.tdiv (17 * s) 20) = Int.tdiv (17 * s) 20 := IntWalk.i64_in _ (by rw [Int.tdiv_eq_ediv_of_nonneg hb0]; omega)
      go_wp2_with fail
      refine (CA.out 157286 (Int.tdiv (17 * s) 20) _).mono ?_
      rintro e1 w1 ⟨rfl, rfl⟩
      go_wp2
      go_ret
      exact ⟨g_int (by unfold newRank; rw [HS.out, ← HL.out, List.take_length]), hbel.out⟩
set_option maxRecDepth 10000 in
set_option maxHeartbeats 1000000 in
theorem implNewComponent (x : Int) (A : Option Addr) (n c : Nat) (es : List VE) (w : World) (hr : SlV w A n es) (hn : n ≤ 2097152) :
    Calls Try.prog 52 #[.int .i64 x, .slice A n c] w (fun e w' => e = .returned (.int .i64 (minAll x es)) ∧ Below w.heap.size w w') := by
  have HR := Lib.hid hr
  have HL := Lib.hid hr.len
  clear hr
  go_enter Try.func52, Try.ntmps52
  go_wp2
  go_loopw [0, 9] (fun s i wr => ∃ k : Nat, k ≤ n ∧ i = .int .i64 (k : Int) ∧ s = .int .i64 (minAll x (es.take k)) ∧ Hid (Below w.heap.size w wr)) (fun _ i _ => n - (intOf i).toNat)
  case atStart => exact ⟨0, Nat.zero_le _, rfl, rfl, Lib.hid (Below.refl _ _)⟩
  case round =>
    obtain ⟨k, hk, rfl, rfl, hbel⟩ := hrel
    obtain ⟨s, hs⟩ : ∃ s, s = minAll x (es.take k) := ⟨_, rfl⟩
    simp only [← hs]
    have HS := Lib.hid hs
    clear hs
    by_cases hlt : k < n
    · skip
      obtain ⟨b, off, e, rfl, hbw, he, c0, c1, c2, c3⟩ := HR.out.at_ hlt
      have c0 := (hbel.out.cell (p := ⟨b, off + k * 4, none⟩) hbw).trans c0
      have c1 := (hbel.out.cell (p := ⟨b, off + k * 4 + 1, none⟩) hbw).trans c1
      have c2 := (hbel.out.cell (p := ⟨b, off + k * 4 + 2, none⟩) hbw).trans c2
      have c3 := (hbel.out.cell (p := ⟨b, off + k * 4 + 3, none⟩) hbw).trans c3
      have HN := Lib.hid (minAll_snoc x he.out)
      have HZ := Lib.hid (show min s e.v = min s e.v from rfl)
      obtain ⟨z, hz⟩ : ∃ z, min s e.v = z := ⟨_, rfl⟩
      have HZ := Lib.hid hz
      go_wp2
      all_goals
        go_roundw
        case rel => exact ⟨k + 1, by omega, by go_num, g_val (by rw [HN.out, ← HS.out]; first | exact HZ.out.symm | (have := HZ.out; omega) | omega), Lib.hid (g_chain hbel.out (below_a1 _ _))⟩
        case measure => simp [intOf]; omega
    · obtain rfl : k = n := by omega
      go_wp2
      go_ret
      exact ⟨g_int (by rw [HS.out, ← HL.out, List.take_length]), hbel.out⟩
set_option maxRecDepth 10000 in
set_option maxHeartbeats 1000000 in
theorem implNewDistance (x : Int) (A : Option Addr) (n c : Nat) (es : List VE) (w : World) (hr : SlV w A n es) (hn : n ≤ 2097152) :
    Calls Try.prog 56 #[.int .i64 x, .slice A n c] w (fun e w' => e = .returned (.int .i64 (minPath x es)) ∧ Below w.heap.size w w') := by
  have HR := Lib.hid hr
  have HL := Lib.hid hr.len
  clear hr
  have CA := Lib.hid (fun a b W => implAddCap a b W)
  go_enter Try.func56, Try.ntmps56
  go_wp2
  go_loopw [0, 9] (fun s i wr => ∃ k : Nat, k ≤ n ∧ i = .int .i64 (k : Int) ∧ s = .int .i64 (minPath x (es.take k)) ∧ Hid (Below w.heap.size w wr)) (fun _ i _ => n - (intOf i).toNat)
  case atStart => exact ⟨0, Nat.zero_le _, rfl, rfl, Lib.hid (Below.refl _ _)⟩
  case round =>
    obtain ⟨k, hk, rfl, rfl, hbel⟩ := hrel
    obtain ⟨s, hs⟩ : ∃ s, s = minPath x (es.take k) := ⟨_, rfl⟩
    simp only [← hs]
    have HS := Lib.hid hs
    clear hs
    by_cases hlt : k < n
    · skip
      obtain ⟨b, off, e, rfl, hbw, he, c0, c1, c2, c3⟩ := HR.out.at_ hlt
      have c0 := (hbel.out.cell (p := ⟨b, off + k * 4, none⟩) hbw).trans c0
      have c1 := (hbel.out.cell (p := ⟨b, off + k * 4 + 1, none⟩) hbw).trans c1
      have c2 := (hbel.out.cell (p := ⟨b, off + k * 4 + 2, none⟩) hbw).trans c2
      have c3 := (hbel.out.cell (p := ⟨b, off + k * 4 + 3, none⟩) hbw).trans c3
      have HN := Lib.hid (minPath_snoc x he.out)
      cases hi : e.i with
      | true =>
        rw [hi] at c0
        have HP : Hid (pathStep s e = min s (addC e.v e.w)) := Lib.hid (by unfold pathStep; rw [hi]; rfl)
        go_wp2_with fail
        refine (CA.out e.v e.w _).mono ?_
        generalize addC e.v e.w = q at HP
        rintro e1 w1 ⟨rfl, rfl⟩
        obtain ⟨z, hz⟩ : ∃ z, min s q = z := ⟨_, rfl⟩
        have HZ := Lib.hid hz
        go_wp2
        all_goals
          go_roundw
          case rel => exact ⟨k + 1, by omega, by go_num, g_val (by rw [HN.out, ← HS.out, HP.out]; first | exact HZ.out.symm | (have := HZ.out; omega) | omega), Lib.hid (g_chain hbel.out (below_a1 _ _))⟩
          case measure => simp [intOf]; omega
      | false =>
        rw [hi] at c0
        go_wp2
        go_roundw
        case rel => exact ⟨k + 1, by omega, by go_num, by rw [HN.out, ← HS.out]; unfold pathStep; rw [hi]; rfl, Lib.hid (g_chain hbel.out (below_a1 _ _))⟩
        case measure => simp [intOf]; omega
    · obtain rfl : k = n := by omega
      go_wp2
      go_ret
      exact ⟨g_int (by rw [HS.out, ← HL.out, List.take_length]), hbel.out⟩
set_option maxRecDepth 10000 in
set_option maxHeartbeats 1000000 in
theorem implCountOuts (A : Option Addr) (n c : Nat) (es : List VE) (w : World) (hr : SlV w A n es) (hn : n ≤ 2097152) :
    Calls Try.prog 36 #[.slice A n c] w (fun e w' => e = .returned (.int .i64 (outsN es : Int)) ∧ Below w.heap.size w w') := by
  have HR := Lib.hid hr
  have HL := Lib.hid hr.len
  clear hr
  go_enter Try.func36, Try.ntmps36
  go_wp2
  go_loopw [3, 8] (fun s i wr => ∃ k : Nat, k ≤ n ∧ i = .int .i64 (k : Int) ∧ s = .int .i64 (outsN (es.take k) : Int) ∧ Hid (Below w.heap.size w wr)) (fun _ i _ => n - (intOf i).toNat)
  case atStart => exact ⟨0, Nat.zero_le _, rfl, rfl, Lib.hid (Below.refl _ _)⟩
  case round =>
    obtain ⟨k, hk, rfl, rfl, hbel⟩ := hrel
    have HO := outsN_le (es.take k)
    rw [List.length_take] at HO
    obtain ⟨s, hs⟩ : ∃ s, s = outsN (es.take k) := ⟨_, rfl⟩
    rw [← hs] at HO
    simp only [← hs]
    have HS := Lib.hid hs
    have hs2 : s ≤ 2097152 := by omega
    clear hs HO
    by_cases hlt : k < n
    · skip
      obtain ⟨b, off, e, rfl, hbw, he, c0, c1, c2, c3⟩ := HR.out.at_ hlt
      have c0 := (hbel.out.cell (p := ⟨b, off + k * 4, none⟩) hbw).trans c0
      have c1 := (hbel.out.cell (p := ⟨b, off + k * 4 + 1, none⟩) hbw).trans c1
      have c2 := (hbel.out.cell (p := ⟨b, off + k * 4 + 2, none⟩) hbw).trans c2
      have c3 := (hbel.out.cell (p := ⟨b, off + k * 4 + 3, none⟩) hbw).trans c3
      have HN := Lib.hid (outsN_snoc he.out)
      cases hi : e.o with
      | true =>
        rw [hi] at c1 HN
        go_wp2
        go_roundw
        case rel => exact ⟨k + 1, by omega, by go_num, g_val (by rw [HN.out, if_pos rfl, ← HS.out]; first | rfl | omega | (simp only [IntKind.wrap_i64]; omega)), Lib.hid (g_chain hbel.out (below_a1 _ _))⟩
        case measure => simp [intOf]; omega
      | false =>
        rw [hi] at c1 HN
        go_wp2
        go_roundw
        case rel => exact ⟨k + 1, by omega, by go_num, by rw [HN.out, if_neg (by simp), ← HS.out], Lib.hid (g_chain hbel.out (below_a1 _ _))⟩
        case measure => simp [intOf]; omega
    · obtain rfl : k = n := by omega
      go_wp2
      go_ret
      exact ⟨g_int (by rw [HS.out, ← HL.out, List.take_length]), hbel.out⟩
end Go.Proofs.Ytgmgpadijajkkaa
