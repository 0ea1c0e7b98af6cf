/- Views: the contracts of the laws' helpers that compare. Condition: at most 2^21 views. -/
import Derived.Test.YtgmgpadijajkkaaVB
namespace Go.Proofs.Ytgmgpadijajkkaa
open Go.RowKit

theorem eqV_any (e : VE) (w : World) :
    Calls Try.prog 43 #[.agg #[.bool e.i, .bool e.o, .int .i64 e.w, .int .i64 e.v], .agg #[.bool e.i, .bool e.o, .int .i64 e.w, .int .i64 e.v]] w (GTell w true) := by
  go_enter Try.func43, Try.ntmps43
  go_wp2
  go_ret
  exact ⟨rfl, below_a2 _ _ _⟩

set_option maxRecDepth 10000 in
set_option maxHeartbeats 1000000 in
theorem eqVs_any (A B : Option Addr) (n c d : Nat) (es : List VE) (w : World) (ha : SlV w A n es) (hb : SlV w B n es) (hn : n ≤ 2097152) :
    Calls Try.prog 24 #[.slice A n c, .slice B n d] w (GTell w true) := by
  have HA := Lib.hid ha
  have HB := Lib.hid hb
  have CE := Lib.hid (fun e W => eqV_any e W)
  clear ha hb
  go_enter Try.func24, Try.ntmps24
  go_wp2
  go_loopw [5] (fun i wr => ∃ k : Nat, k ≤ n ∧ i = .int .i64 k ∧ Hid (Below w.heap.size w wr)) (fun i _ => n - (intOf i).toNat)
  case atStart => exact ⟨0, Nat.zero_le _, rfl, Lib.hid (Below.refl _ _)⟩
  case round =>
    obtain ⟨k, hk, rfl, hbel⟩ := hrel
    by_cases hlt : k < n
    · obtain ⟨b, off, e, rfl, hbw, he, c0, c1, c2, c3⟩ := HA.out.at_ hlt
      obtain ⟨b', off', e', rfl, hbw', he', c0', c1', c2', c3'⟩ := HB.out.at_ hlt
      have hee : e' = e := by have h1 := he.out; rw [he'.out] at h1; injection h1
      subst hee
      have c0 := (hbel.out.cell (p := ⟨b, off + k * 4, none⟩) hbw).trans c0
      have c1 := (hbel.out.cell (p := ⟨b, off + k * 4 + 1, none⟩) hbw).trans c1
      have c2 := (hbel.out.cell (p := ⟨b, off + k * 4 + 2, none⟩) hbw).trans c2
      have c3 := (hbel.out.cell (p := ⟨b, off + k * 4 + 3, none⟩) hbw).trans c3
      have c0' := (hbel.out.cell (p := ⟨b', off' + k * 4, none⟩) hbw').trans c0'
      have c1' := (hbel.out.cell (p := ⟨b', off' + k * 4 + 1, none⟩) hbw').trans c1'
      have c2' := (hbel.out.cell (p := ⟨b', off' + k * 4 + 2, none⟩) hbw').trans c2'
      have c3' := (hbel.out.cell (p := ⟨b', off' + k * 4 + 3, none⟩) hbw').trans c3'
      clear he he'
      go_wp2
      go_region_with (go_at_call 43; ((with_reducible refine (CE.out e' _).mono ?_)); rintro e1 w1 ⟨rfl, hb1⟩)
      all_goals
        go_wp2
        go_roundw
        case rel => exact ⟨k + 1, by omega, by go_num, Lib.hid (by first | exact g_chain hbel.out hb1 | exact g_chain hbel.out.drew hb1 | exact (g_chain hbel.out.drew hb1).drew)⟩
        case measure => simp [intOf]; omega
    · go_wp2
      go_ret
      exact ⟨rfl, hbel.out⟩
end Go.Proofs.Ytgmgpadijajkkaa
