/- Shard edges and shards: the contracts of the laws' helpers that compare, that leave marks and that look for them. Condition: at most 2^21 edges. -/
import Derived.Test.YtmbabbapcjphgaaKEB
namespace Go.Proofs.Ytmbabbapcjphgaa
open Go.RowKit

theorem eqK_any (e : KE) (w : World) :
    Calls Try.prog 91 #[.agg #[.int .i64 e.f, .int .i64 e.t, .int .i64 e.w, .int .i64 e.i, .int .i64 e.v], .agg #[.int .i64 e.f, .int .i64 e.t, .int .i64 e.w, .int .i64 e.i, .int .i64 e.v]] w (GTell w true) := by
  go_enter Try.func91, Try.ntmps91
  go_wp2
  go_ret
  exact ⟨rfl, below_a2 _ _ _⟩

set_option maxRecDepth 10000 in
set_option maxHeartbeats 1000000 in
theorem eqKs_any (A B : Option Addr) (n c d : Nat) (es : List KE) (w : World) (ha : SlK w A n es) (hb : SlK w B n es) (hn : n ≤ 2097152) :
    Calls Try.prog 54 #[.slice A n c, .slice B n d] w (GTell w true) := by
  have HA := Lib.hid ha
  have HB := Lib.hid hb
  have CE := Lib.hid (fun e W => eqK_any e W)
  clear ha hb
  go_enter Try.func54, Try.ntmps54
  go_wp2
  go_loopw [5] (fun i wr => ∃ k : Nat, k ≤ n ∧ i = .int .i64 k ∧ Hid (Below w.heap.size w wr)) (fun i _ => n - (intOf i).toNat)
  case atStart => exact ⟨0, Nat.zero_le _, rfl, Lib.hid (Below.refl _ _)⟩
  case round =>
    obtain ⟨k, hk, rfl, hbel⟩ := hrel
    by_cases hlt : k < n
    · obtain ⟨b, off, e, rfl, hbw, he, c0, c1, c2, c3, c4⟩ := HA.out.at_ hlt
      obtain ⟨b', off', e', rfl, hbw', he', c0', c1', c2', c3', c4'⟩ := HB.out.at_ hlt
      have hee : e' = e := by have h1 := he.out; rw [he'.out] at h1; injection h1
      subst hee
      have c0 := (hbel.out.cell (p := ⟨b, off + k * 5, none⟩) hbw).trans c0
      have c1 := (hbel.out.cell (p := ⟨b, off + k * 5 + 1, none⟩) hbw).trans c1
      have c2 := (hbel.out.cell (p := ⟨b, off + k * 5 + 2, none⟩) hbw).trans c2
      have c3 := (hbel.out.cell (p := ⟨b, off + k * 5 + 3, none⟩) hbw).trans c3
      have c4 := (hbel.out.cell (p := ⟨b, off + k * 5 + 4, none⟩) hbw).trans c4
      have c0' := (hbel.out.cell (p := ⟨b', off' + k * 5, none⟩) hbw').trans c0'
      have c1' := (hbel.out.cell (p := ⟨b', off' + k * 5 + 1, none⟩) hbw').trans c1'
      have c2' := (hbel.out.cell (p := ⟨b', off' + k * 5 + 2, none⟩) hbw').trans c2'
      have c3' := (hbel.out.cell (p := ⟨b', off' + k * 5 + 3, none⟩) hbw').trans c3'
      have c4' := (hbel.out.cell (p := ⟨b', off' + k * 5 + 4, none⟩) hbw').trans c4'
      clear he he'
      go_wp2
      go_region_with (go_at_call 91; ((with_reducible refine (CE.out e' _).mono ?_)); rintro e1 w1 ⟨rfl, hb1⟩)
      all_goals
        go_wp2
        go_roundw
        case rel => exact ⟨k + 1, by omega, by go_num, Lib.hid (by first | exact g_chain hbel.out hb1 | exact g_chain hbel.out.drew hb1 | exact (g_chain hbel.out.drew hb1).drew)⟩
        case measure => simp [intOf]; omega
    · go_wp2
      go_ret
      exact ⟨rfl, hbel.out⟩
theorem eqShard_any (lo hi : Int) (A B : Option Addr) (n c d : Nat) (es : List KE) (w : World) (ha : SlK w A n es) (hb : SlK w B n es) (hn : n ≤ 2097152) :
    Calls Try.prog 19 #[.agg #[.int .i64 lo, .int .i64 hi, .slice A n c], .agg #[.int .i64 lo, .int .i64 hi, .slice B n d]] w (GTell w true) := by
  have CE := Lib.hid (fun W (h : Below w.heap.size w W) => eqKs_any A B n c d es W (ha.below h) (hb.below h) hn)
  clear ha hb
  go_enter Try.func19, Try.ntmps19
  go_wp2_with fail
  refine (CE.out _ (below_a2 _ _ _)).mono ?_
  rintro e w1 ⟨rfl, hb1⟩
  go_wp2
  go_ret
  exact ⟨rfl, g_chain (below_a2 _ _ _) hb1⟩
end Go.Proofs.Ytmbabbapcjphgaa
