/- The contracts of the model's new values (ranks, components and distances). Condition: at most 2^21 views. -/
import Derived.Test.YtgmgpadijajkkaaNewI
namespace Go.Proofs.Ytgmgpadijajkkaa
open Go.RowKit

theorem specMin (a b : Int) (w : World) : Calls Try.prog 65 #[.int .i64 a, .int .i64 b] w (fun e w' => e = .returned (.int .i64 (min a b)) ∧ w' = w) := by
  by_cases h : a < b
  · rw [Int.min_eq_left (by omega)]
    go_enter Try.func65, Try.ntmps65
    go_wp2
    go_ret
    exact ⟨rfl, rfl⟩
  · rw [Int.min_eq_right (by omega)]
    go_enter Try.func65, Try.ntmps65
    go_wp2
    go_ret
    exact ⟨rfl, rfl⟩

set_option maxRecDepth 10000 in
set_option maxHeartbeats 1000000 in
theorem specRank (A : Option Addr) (n c : Nat) (es : List VE) (w : World) (hr : SlV w A n es) (hn : n ≤ 2097152) :
    Calls Try.prog 62 #[.slice A n c] w (fun e w' => e = .returned (.int .i64 (newRank es)) ∧ Below w.heap.size w w') := by
  have HR := Lib.hid hr
  have HL := Lib.hid hr.len
  clear hr
  have CA := Lib.hid (fun a b W => specAddCap a b W)
  have CC := Lib.hid (fun v W => specCap v W)
  go_enter Try.func62, Try.ntmps62
  go_wp2
  go_loopw [3, 8] (fun s i wr => ∃ k : Nat, k ≤ n ∧ i = .int .i64 (k : Int) ∧ s = .int .i64 (rankS (es.take k)) ∧ Hid (Below w.heap.size w wr)) (fun _ i _ => n - (intOf i).toNat)
  case atStart => exact ⟨0, Nat.zero_le _, rfl, rfl, Lib.hid (Below.refl _ _)⟩
  case round =>
    obtain ⟨k, hk, rfl, rfl, hbel⟩ := hrel
    have HLIM := Lib.hid (rankS_lim (es.take k))
    obtain ⟨s, hs⟩ : ∃ s, s = rankS (es.take k) := ⟨_, rfl⟩
    rw [← hs] at HLIM
    simp only [← hs]
    have HS := Lib.hid hs
    clear hs
    by_cases hlt : k < n
    · skip
      obtain ⟨b, off, e, rfl, hbw, he, c0, c1, c2, c3⟩ := HR.out.at_ hlt
      have c0 := (hbel.out.cell (p := ⟨b, off + k * 4, none⟩) hbw).trans c0
      have c1 := (hbel.out.cell (p := ⟨b, off + k * 4 + 1, none⟩) hbw).trans c1
      have c2 := (hbel.out.cell (p := ⟨b, off + k * 4 + 2, none⟩) hbw).trans c2
      have c3 := (hbel.out.cell (p := ⟨b, off + k * 4 + 3, none⟩) hbw).trans c3
      have HN := Lib.hid (rankS_snoc he.out)
      cases hi : e.i with
      | true =>
        rw [hi] at c0
        go_wp2_with fail
        refine (CA.out s e.v _).mono ?_
        rintro e1 w1 ⟨rfl, rfl⟩
        go_wp2
        go_roundw
        case rel => exact ⟨k + 1, by omega, by go_num, by rw [HN.out, ← HS.out]; unfold rankStep; rw [hi]; rfl, Lib.hid (g_chain hbel.out (below_a1 _ _))⟩
        case measure => simp [intOf]; omega
      | false =>
        rw [hi] at c0
        go_wp2
        go_roundw
        case rel => exact ⟨k + 1, by omega, by go_num, by rw [HN.out, ← HS.out]; unfold rankStep; rw [hi]; rfl, Lib.hid (g_chain hbel.out (below_a1 _ _))⟩
        case measure => simp [intOf]; omega
    · obtain rfl : k = n := by omega
      have hb0 : 0 ≤ 17 * s := by have := HLIM.out; omega
      have hb1 : 17 * s ≤ 17 * 1099511627776 := by have := HLIM.out; omega
      have hq1 : IntKind.i64.wrap (17 * s) = 17 * s := IntWalk.i64_in _ (by omega)
      have hq2 : IntKind.i64.wrap (Int.tdiv (17 * s) 20) = Int.tdiv (17 * s) 20 := IntWalk.i64_in _ (by rw [Int.tdiv_eq_ediv_of_nonneg hb0]; omega)
      have hq3 : IntKind.i64.wrap (157286 + Int.tdiv (17 * s) 20) = 157286 + Int.tdiv (17 * s) 20 := IntWalk.i64_in _ (by rw [Int.tdiv_eq_ediv_of_nonneg hb0]; omega)
      have hq4 : 0 ≤ Int.tdiv (17 * s) 20 := by rw [Int.tdiv_eq_ediv_of_nonneg hb0]; omega
      have HQ := Lib.hid (addC_in (a := 157286) (by omega) hq4)
      go_wp2_with fail
      refine (CC.out (157286 + Int.tdiv (17 * s) 20) _).mono ?_
      rintro e1 w1 ⟨rfl, rfl⟩
      go_wp2
      go_ret
      exact ⟨g_int (by rw [← HQ.out]; unfold newRank; rw [HS.out, ← HL.out, List.take_length]), hbel.out⟩
end Go.Proofs.Ytgmgpadijajkkaa
