/- The contracts of the model's functions that ask whether a shard is valid. Condition: at most 2^20 edges. -/
import Derived.Test.YtmbabbapcjphgaaShMath
import Derived.Test.YtmbabbapcjphgaaKEB
import Derived.Test.YtmbabbapcjphgaaNumSpec
namespace Go.Proofs.Ytmbabbapcjphgaa
open Go.RowKit

set_option maxRecDepth 10000 in
set_option maxHeartbeats 2000000 in
theorem specEdge (lo hi : Int) (A : Option Addr) (n c : Nat) (e : KE) (w : World) :
    Calls Try.prog 49 #[.agg #[.int .i64 lo, .int .i64 hi, .slice A n c], .agg #[.int .i64 e.f, .int .i64 e.t, .int .i64 e.w, .int .i64 e.i, .int .i64 e.v]] w (GTell w (kedgeB lo hi e)) := by
  have HB := Lib.hid (below_a2 w (.cells #[.int .i64 lo, .int .i64 hi, .slice A n c] 35) (.cells #[.int .i64 e.f, .int .i64 e.t, .int .i64 e.w, .int .i64 e.i, .int .i64 e.v] 77))
  cases hv : kedgeB lo hi e with
  | true =>
    obtain ⟨h1, h2, h3, h4, h5, h6, h7, h8, h9, h10⟩ := kedgeB_iff hv
    clear hv
    go_enter Try.func49, Try.ntmps49
    go_wp2_with (go_at_call 86; refine (specNum_yes _ _ h9 h10).mono ?_; rintro e w' ⟨rfl, rfl⟩)
    go_ret
    exact ⟨rfl, HB.out⟩
  | false =>
    have hp := kedgeB_parts hv
    clear hv
    rcases hp with h1 | ⟨h1, h2⟩ | ⟨h1, h2, h3⟩ | ⟨h1, h2, h3, h4⟩ | ⟨h1, h2, h3, h4, h5⟩ | ⟨h1, h2, h3, h4, h5, h6⟩ | ⟨h1, h2, h3, h4, h5, h6, h7⟩ | ⟨h1, h2, h3, h4, h5, h6, h7, h8⟩ | ⟨h1, h2, h3, h4, h5, h6, h7, h8, h9⟩
    case inr.inr.inr.inr.inr.inr.inr.inr =>
      have h10 : e.v < 0 ∨ 281474976710655 < e.v := by omega
      clear h9
      go_enter Try.func49, Try.ntmps49
      go_wp2_with (go_at_call 86; refine (specNum_no _ _ h10).mono ?_; rintro e w' ⟨rfl, rfl⟩)
      go_ret
      exact ⟨rfl, HB.out⟩
    all_goals
      go_enter Try.func49, Try.ntmps49
      go_wp2
      go_ret
      exact ⟨g_bool (by first | rfl | (simp <;> omega)), HB.out⟩

set_option maxRecDepth 10000 in
set_option maxHeartbeats 4000000 in
theorem specShardOk (lo hi : Int) (A : Option Addr) (n c : Nat) (es : List KE) (w : World) (hr : SlK w A n es) (hn : n ≤ 1048576) :
    Calls Try.prog 16 #[.agg #[.int .i64 lo, .int .i64 hi, .slice A n c]] w (GTell w (shardB lo hi es)) := by
  have hel := hr.len
  have HB0 := Lib.hid (below_a1 w (.cells #[.int .i64 lo, .int .i64 hi, .slice A n c] 35))
  by_cases h1 : 0 ≤ lo
  · by_cases h2 : lo < hi
    · by_cases h3 : hi ≤ 150
      · by_cases h4 : n ≤ 400
        · rw [shardB_yes h1 h2 h3 (by omega)]
          have CE := Lib.hid (fun e W => specEdge lo hi A n c e W)
          have HR := Lib.hid hr
          have HEL := Lib.hid hel
          clear hr hel
          go_enter Try.func16, Try.ntmps16
          go_wp2
          have X0 := Lib.hid (HBox.new w lo hi A n c 35)
          go_loopw [29] (fun i wr => ∃ (k : Nat) (p q : Int), k ≤ n ∧ i = .int .i64 k ∧ Hid (HBox wr w.heap.size lo hi A n c) ∧ Hid (Below w.heap.size w wr) ∧ Hid (runK lo hi p q (es.drop k) = runK lo hi (-1) 0 es) ∧ Hid (k = 0 → p = -1 ∧ q = 0) ∧ Hid (∀ (j : Nat) (e : KE), k = j + 1 → es[j]? = some e → p = e.f ∧ q = e.i)) (fun i _ => n - (intOf i).toNat)
          case atStart => exact ⟨0, -1, 0, Nat.zero_le _, rfl, X0, HB0, Lib.hid rfl, Lib.hid (fun _ => ⟨rfl, rfl⟩), Lib.hid (fun j e h => by omega)⟩
          case round =>
            clear X0 HB0
            obtain ⟨k, p, q, hk, rfl, hx, hbel, hrun, hz, hpq⟩ := hrel
            by_cases hlt : k < n
            · obtain ⟨b, off, e, rfl, hbw, he, c0, c1, c2, c3, c4⟩ := HR.out.at_ hlt
              have c0 := (hbel.out.cell (p := ⟨b, off + k * 5, none⟩) hbw).trans c0
              have c1 := (hbel.out.cell (p := ⟨b, off + k * 5 + 1, none⟩) hbw).trans c1
              have c2 := (hbel.out.cell (p := ⟨b, off + k * 5 + 2, none⟩) hbw).trans c2
              have c3 := (hbel.out.cell (p := ⟨b, off + k * 5 + 3, none⟩) hbw).trans c3
              have c4 := (hbel.out.cell (p := ⟨b, off + k * 5 + 4, none⟩) hbw).trans c4
              obtain ⟨l0, x0, x1, x2⟩ := hx.out
              have hwle : w.heap.size ≤ wr.heap.size := hbel.out.size
              go_wp2_with fail
              refine (CE.out e _).mono ?_
              rintro e1 w1 ⟨rfl, hb1⟩
              have HA1 := Lib.hid (below_a1 wr (.cells #[.int .i64 e.f, .int .i64 e.t, .int .i64 e.w, .int .i64 e.i, .int .i64 e.v] 77))
              have HB1 := Lib.hid (g_chain HA1.out hb1)
              have X1 := Lib.hid (hx.out.below HB1.out)
              have hl1 : wr.heap.size < w1.heap.size := by have := hb1.size; simp at this; omega
              have y0 : w1.cell? ⟨wr.heap.size, 0, none⟩ = some (.int .i64 e.f) := (hb1.cell (p := ⟨wr.heap.size, 0, none⟩) (by simp)).trans (by simp)
              have y3 : w1.cell? ⟨wr.heap.size, 3, none⟩ = some (.int .i64 e.i) := (hb1.cell (p := ⟨wr.heap.size, 3, none⟩) (by simp)).trans (by simp)
              obtain ⟨z0, z1, z2, z3⟩ := X1.out
              clear hb1 c0 c1 c2 c3 c4 l0 x0 x1 x2 hx
              have HQ := Lib.hid (runK_drop he.out hrun.out)
              clear hrun
              cases hv : kedgeB lo hi e with
              | false =>
                have HV : Hid (runK lo hi (-1) 0 es = false) := Lib.hid (by rw [← HQ.out, hv]; rfl)
                go_wp2
                go_ret
                rw [HV.out]
                exact ⟨rfl, g_chain hbel.out HB1.out⟩
              | true =>
                have hke := kedgeB_iff hv
                have hf0 : 0 ≤ e.f := hke.1
                clear hke
                cases ha : afterB p q e with
                | true =>
                  have HN : Hid (runK lo hi e.f e.i (es.drop (k + 1)) = runK lo hi (-1) 0 es) := Lib.hid (by rw [← HQ.out, hv, ha]; rfl)
                  have haf := afterB_iff ha
                  clear hv ha HQ
                  rcases Nat.eq_zero_or_pos k with hk0 | hpos
                  · have hk1 : decide (0 < k) = false := by simp; omega
                    have HK0 := Lib.hid hk0
                    clear hk0
                    go_wp2
                    go_quiet (fail)
                    rename Nat => nq
                    have HB2 := Lib.hid (below_drewN HB1.out nq)
                    have X2 := Lib.hid (X1.out.below (below_drewN (Below.refl _ w1) nq))
                    generalize w1.drewN nq = w2 at *
                    go_wp2
                    go_roundw
                    case rel => exact ⟨k + 1, e.f, e.i, by omega, by go_num, X2, Lib.hid (g_chain hbel.out HB2.out), HN, Lib.hid (fun h => by omega), Lib.hid (prev_next he.out)⟩
                    case measure => simp [intOf]; omega
                  · obtain ⟨j, hj⟩ : ∃ j, j + 1 = k := ⟨k - 1, by omega⟩
                    obtain ⟨b', off', e', hA, hbw', he', d0, d1, d2, d3, d4⟩ := HR.out.at_ (show j < n by omega)
                    injection hA with hA
                    injection hA with hA1 hA2
                    subst hA1 hA2
                    obtain ⟨rfl, rfl⟩ := hpq.out j e' hj.symm he'.out
                    have d0 := ((g_chain hbel.out HB1.out).cell (p := ⟨b, off + j * 5, none⟩) hbw).trans d0
                    have d3 := ((g_chain hbel.out HB1.out).cell (p := ⟨b, off + j * 5 + 3, none⟩) hbw).trans d3
                    have hj1 : (k : Int) - 1 = (j : Int) := by omega
                    have hj2 : decide (0 < k) = true := by simp; omega
                    have hj3 : j < n := by omega
                    have HJ := Lib.hid hj
                    clear d1 d2 d4 he' hpq hz hj hpos
                    rcases haf with h5 | ⟨h5, h6⟩
                    · have h8 : decide (e.f < e'.f) = false := by simp; omega
                      have h9 : (e'.f == e.f) = false := by simp; omega
                      go_wp2
                      go_quiet (fail)
                      rename Nat => nq
                      have HB2 := Lib.hid (below_drewN HB1.out nq)
                      have X2 := Lib.hid (X1.out.below (below_drewN (Below.refl _ w1) nq))
                      generalize w1.drewN nq = w2 at *
                      go_wp2
                      go_roundw
                      case rel => exact ⟨k + 1, e.f, e.i, by omega, by go_num, X2, Lib.hid (g_chain hbel.out HB2.out), HN, Lib.hid (fun h => by omega), Lib.hid (prev_next he.out)⟩
                      case measure => simp [intOf]; omega
                    · have h8 : decide (e.f < e'.f) = false := by simp; omega
                      have h9 : (e'.f == e.f) = true := by simp; omega
                      have h10 : decide (e.i ≤ e'.i) = false := by simp; omega
                      go_wp2
                      go_quiet (fail)
                      rename Nat => nq
                      have HB2 := Lib.hid (below_drewN HB1.out nq)
                      have X2 := Lib.hid (X1.out.below (below_drewN (Below.refl _ w1) nq))
                      generalize w1.drewN nq = w2 at *
                      go_wp2
                      go_roundw
                      case rel => exact ⟨k + 1, e.f, e.i, by omega, by go_num, X2, Lib.hid (g_chain hbel.out HB2.out), HN, Lib.hid (fun h => by omega), Lib.hid (prev_next he.out)⟩
                      case measure => simp [intOf]; omega
                | false =>
                  have HV : Hid (runK lo hi (-1) 0 es = false) := Lib.hid (by rw [← HQ.out, hv, ha]; rfl)
                  have haf := of_decide_eq_false ha
                  clear hv ha HQ
                  rcases Nat.eq_zero_or_pos k with rfl | hpos
                  · obtain ⟨rfl, rfl⟩ := hz.out rfl
                    exact absurd (.inl (by omega)) haf
                  · obtain ⟨j, hj⟩ : ∃ j, j + 1 = k := ⟨k - 1, by omega⟩
                    obtain ⟨b', off', e', hA, hbw', he', d0, d1, d2, d3, d4⟩ := HR.out.at_ (show j < n by omega)
                    injection hA with hA
                    injection hA with hA1 hA2
                    subst hA1 hA2
                    obtain ⟨rfl, rfl⟩ := hpq.out j e' hj.symm he'.out
                    have d0 := ((g_chain hbel.out HB1.out).cell (p := ⟨b, off + j * 5, none⟩) hbw).trans d0
                    have d3 := ((g_chain hbel.out HB1.out).cell (p := ⟨b, off + j * 5 + 3, none⟩) hbw).trans d3
                    have hj1 : (k : Int) - 1 = (j : Int) := by omega
                    have hj2 : decide (0 < k) = true := by simp; omega
                    have hj3 : j < n := by omega
                    have HJ := Lib.hid hj
                    clear d1 d2 d4 he' hpq hz hj hpos
                    rcases Int.lt_or_le e.f e'.f with h5 | h5
                    · clear haf
                      have h8 : decide (e.f < e'.f) = true := by simp; omega
                      go_wp2
                      go_quiet (fail)
                      rename Nat => nq
                      have HB2 := Lib.hid (below_drewN HB1.out nq)
                      have X2 := Lib.hid (X1.out.below (below_drewN (Below.refl _ w1) nq))
                      generalize w1.drewN nq = w2 at *
                      go_wp2
                      go_ret
                      rw [HV.out]
                      exact ⟨rfl, g_chain hbel.out HB2.out⟩
                    · have h6 : e'.f = e.f := by omega
                      have h7 : e.i ≤ e'.i := by omega
                      clear haf
                      have h8 : decide (e.f < e'.f) = false := by simp; omega
                      have h9 : (e'.f == e.f) = true := by simp; omega
                      have h10 : decide (e.i ≤ e'.i) = true := by simp; omega
                      go_wp2
                      go_quiet (fail)
                      rename Nat => nq
                      have HB2 := Lib.hid (below_drewN HB1.out nq)
                      have X2 := Lib.hid (X1.out.below (below_drewN (Below.refl _ w1) nq))
                      generalize w1.drewN nq = w2 at *
                      go_wp2
                      go_ret
                      rw [HV.out]
                      exact ⟨rfl, g_chain hbel.out HB2.out⟩
            · obtain rfl : k = n := by omega
              have HV : Hid (runK lo hi (-1) 0 es = true) := Lib.hid (by
                have h := hrun.out
                rw [List.drop_eq_nil_of_le (by rw [HEL.out]; exact Nat.le_refl _), runK] at h
                exact h.symm)
              go_wp2
              go_ret
              rw [HV.out]
              exact ⟨rfl, hbel.out⟩
        · have HV : Hid (shardB lo hi es = false) := Lib.hid (by simp [shardB, hel, h4])
          clear hr hel
          go_enter Try.func16, Try.ntmps16
          go_wp2
          go_ret
          rw [HV.out]
          exact ⟨g_bool (by first | rfl | (simp <;> omega)), HB0.out⟩
      · have HV : Hid (shardB lo hi es = false) := Lib.hid (by simp [shardB, h3])
        clear hr hel
        go_enter Try.func16, Try.ntmps16
        go_wp2
        go_ret
        rw [HV.out]
        exact ⟨g_bool (by first | rfl | (simp <;> omega)), HB0.out⟩
    · have HV : Hid (shardB lo hi es = false) := Lib.hid (by simp [shardB, h2])
      clear hr hel
      go_enter Try.func16, Try.ntmps16
      go_wp2
      go_ret
      rw [HV.out]
      exact ⟨g_bool (by first | rfl | (simp <;> omega)), HB0.out⟩
  · have HV : Hid (shardB lo hi es = false) := Lib.hid (by simp [shardB, h1])
    clear hr hel
    go_enter Try.func16, Try.ntmps16
    go_wp2
    go_ret
    rw [HV.out]
    exact ⟨g_bool (by first | rfl | (simp <;> omega)), HB0.out⟩
end Go.Proofs.Ytmbabbapcjphgaa
