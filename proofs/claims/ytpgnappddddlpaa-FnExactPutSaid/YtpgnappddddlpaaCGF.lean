/- The contracts of the model's functions that ask whether a shard is valid. Condition: at most 2^20 edges. // The contract of the model's Joined. Condition: at most 2^20 shards, of at most 2^20 edges each. // The contracts of the model's FarmOk and FarmGraph. Condition: at most 2^20 ends, shards and edges of a shard. -/
import Derived.Test.YtpgnappddddlpaaCGA
import Derived.Test.YtpgnappddddlpaaCGC
import Derived.Test.YtpgnappddddlpaaCGE
import Derived.Test.YtpgnappddddlpaaCGD
namespace Go.Proofs.Ytpgnappddddlpaa
open Go.RowKit

set_option maxRecDepth 10000 in
set_option maxHeartbeats 2000000 in
theorem specEdge (lo hi : Int) (A : Option Addr) (n c : Nat) (e : KE) (w : World) :
    Calls Try.prog 148 #[.agg #[.int .i64 lo, .int .i64 hi, .slice A n c], .agg #[.int .i64 e.f, .int .i64 e.t, .int .i64 e.w, .int .i64 e.i, .int .i64 e.v]] w (GTell w (kedgeB lo hi e)) := by
  have HB := Lib.hid (below_a2 w (.cells #[.int .i64 lo, .int .i64 hi, .slice A n c] 85) (.cells #[.int .i64 e.f, .int .i64 e.t, .int .i64 e.w, .int .i64 e.i, .int .i64 e.v] 40))
  cases hv : kedgeB lo hi e with
  | true =>
    obtain ⟨h1, h2, h3, h4, h5, h6, h7, h8, h9, h10⟩ := kedgeB_iff hv
    clear hv
    go_enter Try.func148, Try.ntmps148
    go_wp2_with (go_at_call 131; refine (specNum_yes _ _ h9 h10).mono ?_; rintro e w' ⟨rfl, rfl⟩)
    go_ret
    exact ⟨rfl, HB.out⟩
  | false =>
    have hp := kedgeB_parts hv
    clear hv
    rcases hp with h1 | ⟨h1, h2⟩ | ⟨h1, h2, h3⟩ | ⟨h1, h2, h3, h4⟩ | ⟨h1, h2, h3, h4, h5⟩ | ⟨h1, h2, h3, h4, h5, h6⟩ | ⟨h1, h2, h3, h4, h5, h6, h7⟩ | ⟨h1, h2, h3, h4, h5, h6, h7, h8⟩ | ⟨h1, h2, h3, h4, h5, h6, h7, h8, h9⟩
    case inr.inr.inr.inr.inr.inr.inr.inr =>
      have h10 : e.v < 0 ∨ 281474976710655 < e.v := by omega
      clear h9
      go_enter Try.func148, Try.ntmps148
      go_wp2_with (go_at_call 131; refine (specNum_no _ _ h10).mono ?_; rintro e w' ⟨rfl, rfl⟩)
      go_ret
      exact ⟨rfl, HB.out⟩
    all_goals
      go_enter Try.func148, Try.ntmps148
      go_wp2
      go_ret
      exact ⟨g_bool (by first | rfl | (simp <;> omega)), HB.out⟩

set_option maxRecDepth 10000 in
set_option maxHeartbeats 4000000 in
theorem specShardOk (lo hi : Int) (A : Option Addr) (n c : Nat) (es : List KE) (w : World) (hr : SlK w A n es) (hn : n ≤ 1048576) :
    Calls Try.prog 115 #[.agg #[.int .i64 lo, .int .i64 hi, .slice A n c]] w (GTell w (shardB lo hi es)) := by
  have hel := hr.len
  have HB0 := Lib.hid (below_a1 w (.cells #[.int .i64 lo, .int .i64 hi, .slice A n c] 85))
  by_cases h1 : 0 ≤ lo
  · by_cases h2 : lo < hi
    · by_cases h3 : hi ≤ 150
      · by_cases h4 : n ≤ 400
        · rw [shardB_yes h1 h2 h3 (by omega)]
          have CE := Lib.hid (fun e W => specEdge lo hi A n c e W)
          have HR := Lib.hid hr
          have HEL := Lib.hid hel
          clear hr hel
          go_enter Try.func115, Try.ntmps115
          go_wp2
          have X0 := Lib.hid (HBox.new w lo hi A n c 85)
          go_loopw [29] (fun i wr => ∃ (k : Nat) (p q : Int), k ≤ n ∧ i = .int .i64 k ∧ Hid (HBox wr w.heap.size lo hi A n c) ∧ Hid (Below w.heap.size w wr) ∧ Hid (runK lo hi p q (es.drop k) = runK lo hi (-1) 0 es) ∧ Hid (k = 0 → p = -1 ∧ q = 0) ∧ Hid (∀ (j : Nat) (e : KE), k = j + 1 → es[j]? = some e → p = e.f ∧ q = e.i)) (fun i _ => n - (intOf i).toNat)
          case atStart => exact ⟨0, -1, 0, Nat.zero_le _, rfl, X0, HB0, Lib.hid rfl, Lib.hid (fun _ => ⟨rfl, rfl⟩), Lib.hid (fun j e h => by omega)⟩
          case round =>
            clear X0 HB0
            obtain ⟨k, p, q, hk, rfl, hx, hbel, hrun, hz, hpq⟩ := hrel
            by_cases hlt : k < n
            · obtain ⟨b, off, e, rfl, hbw, he, c0, c1, c2, c3, c4⟩ := HR.out.at_ hlt
              have c0 := (hbel.out.cell (p := ⟨b, off + k * 5, none⟩) hbw).trans c0
              have c1 := (hbel.out.cell (p := ⟨b, off + k * 5 + 1, none⟩) hbw).trans c1
              have c2 := (hbel.out.cell (p := ⟨b, off + k * 5 + 2, none⟩) hbw).trans c2
              have c3 := (hbel.out.cell (p := ⟨b, off + k * 5 + 3, none⟩) hbw).trans c3
              have c4 := (hbel.out.cell (p := ⟨b, off + k * 5 + 4, none⟩) hbw).trans c4
              obtain ⟨l0, x0, x1, x2⟩ := hx.out
              have hwle : w.heap.size ≤ wr.heap.size := hbel.out.size
              go_wp2_with fail
              refine (CE.out e _).mono ?_
              rintro e1 w1 ⟨rfl, hb1⟩
              have HA1 := Lib.hid (below_a1 wr (.cells #[.int .i64 e.f, .int .i64 e.t, .int .i64 e.w, .int .i64 e.i, .int .i64 e.v] 40))
              have HB1 := Lib.hid (g_chain HA1.out hb1)
              have X1 := Lib.hid (hx.out.below HB1.out)
              have hl1 : wr.heap.size < w1.heap.size := by have := hb1.size; simp at this; omega
              have y0 : w1.cell? ⟨wr.heap.size, 0, none⟩ = some (.int .i64 e.f) := (hb1.cell (p := ⟨wr.heap.size, 0, none⟩) (by simp)).trans (by simp)
              have y3 : w1.cell? ⟨wr.heap.size, 3, none⟩ = some (.int .i64 e.i) := (hb1.cell (p := ⟨wr.heap.size, 3, none⟩) (by simp)).trans (by simp)
              obtain ⟨z0, z1, z2, z3⟩ := X1.out
              clear hb1 c0 c1 c2 c3 c4 l0 x0 x1 x2 hx
              have HQ := Lib.hid (runK_drop he.out hrun.out)
              clear hrun
              cases hv : kedgeB lo hi e with
              | false =>
                have HV : Hid (runK lo hi (-1) 0 es = false) := Lib.hid (by rw [← HQ.out, hv]; rfl)
                go_wp2
                go_ret
                rw [HV.out]
                exact ⟨rfl, g_chain hbel.out HB1.out⟩
              | true =>
                have hke := kedgeB_iff hv
                have hf0 : 0 ≤ e.f := hke.1
                clear hke
                cases ha : afterB p q e with
                | true =>
                  have HN : Hid (runK lo hi e.f e.i (es.drop (k + 1)) = runK lo hi (-1) 0 es) := Lib.hid (by rw [← HQ.out, hv, ha]; rfl)
                  have haf := afterB_iff ha
                  clear hv ha HQ
                  rcases Nat.eq_zero_or_pos k with hk0 | hpos
                  · have hk1 : decide (0 < k) = false := by simp; omega
                    have HK0 := Lib.hid hk0
                    clear hk0
                    go_wp2
                    go_quiet (fail)
                    rename Nat => nq
                    have HB2 := Lib.hid (below_drewN HB1.out nq)
                    have X2 := Lib.hid (X1.out.below (below_drewN (Below.refl _ w1) nq))
                    generalize w1.drewN nq = w2 at *
                    go_wp2
                    go_roundw
                    case rel => exact ⟨k + 1, e.f, e.i, by omega, by go_num, X2, Lib.hid (g_chain hbel.out HB2.out), HN, Lib.hid (fun h => by omega), Lib.hid (prev_next he.out)⟩
                    case measure => simp [intOf]; omega
                  · obtain ⟨j, hj⟩ : ∃ j, j + 1 = k := ⟨k - 1, by omega⟩
                    obtain ⟨b', off', e', hA, hbw', he', d0, d1, d2, d3, d4⟩ := HR.out.at_ (show j < n by omega)
                    injection hA with hA
                    injection hA with hA1 hA2
                    subst hA1 hA2
                    obtain ⟨rfl, rfl⟩ := hpq.out j e' hj.symm he'.out
                    have d0 := ((g_chain hbel.out HB1.out).cell (p := ⟨b, off + j * 5, none⟩) hbw).trans d0
                    have d3 := ((g_chain hbel.out HB1.out).cell (p := ⟨b, off + j * 5 + 3, none⟩) hbw).trans d3
                    have hj1 : (k : Int) - 1 = (j : Int) := by omega
                    have hj2 : decide (0 < k) = true := by simp; omega
                    have hj3 : j < n := by omega
                    have HJ := Lib.hid hj
                    clear d1 d2 d4 he' hpq hz hj hpos
                    rcases haf with h5 | ⟨h5, h6⟩
                    · have h8 : decide (e.f < e'.f) = false := by simp; omega
                      have h9 : (e'.f == e.f) = false := by simp; omega
                      go_wp2
                      go_quiet (fail)
                      rename Nat => nq
                      have HB2 := Lib.hid (below_drewN HB1.out nq)
                      have X2 := Lib.hid (X1.out.below (below_drewN (Below.refl _ w1) nq))
                      generalize w1.drewN nq = w2 at *
                      go_wp2
                      go_roundw
                      case rel => exact ⟨k + 1, e.f, e.i, by omega, by go_num, X2, Lib.hid (g_chain hbel.out HB2.out), HN, Lib.hid (fun h => by omega), Lib.hid (prev_next he.out)⟩
                      case measure => simp [intOf]; omega
                    · have h8 : decide (e.f < e'.f) = false := by simp; omega
                      have h9 : (e'.f == e.f) = true := by simp; omega
                      have h10 : decide (e.i ≤ e'.i) = false := by simp; omega
                      go_wp2
                      go_quiet (fail)
                      rename Nat => nq
                      have HB2 := Lib.hid (below_drewN HB1.out nq)
                      have X2 := Lib.hid (X1.out.below (below_drewN (Below.refl _ w1) nq))
                      generalize w1.drewN nq = w2 at *
                      go_wp2
                      go_roundw
                      case rel => exact ⟨k + 1, e.f, e.i, by omega, by go_num, X2, Lib.hid (g_chain hbel.out HB2.out), HN, Lib.hid (fun h => by omega), Lib.hid (prev_next he.out)⟩
                      case measure => simp [intOf]; omega
                | false =>
                  have HV : Hid (runK lo hi (-1) 0 es = false) := Lib.hid (by rw [← HQ.out, hv, ha]; rfl)
                  have haf := of_decide_eq_false ha
                  clear hv ha HQ
                  rcases Nat.eq_zero_or_pos k with rfl | hpos
                  · obtain ⟨rfl, rfl⟩ := hz.out rfl
                    exact absurd (.inl (by omega)) haf
                  · obtain ⟨j, hj⟩ : ∃ j, j + 1 = k := ⟨k - 1, by omega⟩
                    obtain ⟨b', off', e', hA, hbw', he', d0, d1, d2, d3, d4⟩ := HR.out.at_ (show j < n by omega)
                    injection hA with hA
                    injection hA with hA1 hA2
                    subst hA1 hA2
                    obtain ⟨rfl, rfl⟩ := hpq.out j e' hj.symm he'.out
                    have d0 := ((g_chain hbel.out HB1.out).cell (p := ⟨b, off + j * 5, none⟩) hbw).trans d0
                    have d3 := ((g_chain hbel.out HB1.out).cell (p := ⟨b, off + j * 5 + 3, none⟩) hbw).trans d3
                    have hj1 : (k : Int) - 1 = (j : Int) := by omega
                    have hj2 : decide (0 < k) = true := by simp; omega
                    have hj3 : j < n := by omega
                    have HJ := Lib.hid hj
                    clear d1 d2 d4 he' hpq hz hj hpos
                    rcases Int.lt_or_le e.f e'.f with h5 | h5
                    · clear haf
                      have h8 : decide (e.f < e'.f) = true := by simp; omega
                      go_wp2
                      go_quiet (fail)
                      rename Nat => nq
                      have HB2 := Lib.hid (below_drewN HB1.out nq)
                      have X2 := Lib.hid (X1.out.below (below_drewN (Below.refl _ w1) nq))
                      generalize w1.drewN nq = w2 at *
                      go_wp2
                      go_ret
                      rw [HV.out]
                      exact ⟨rfl, g_chain hbel.out HB2.out⟩
                    · have h6 : e'.f = e.f := by omega
                      have h7 : e.i ≤ e'.i := by omega
                      clear haf
                      have h8 : decide (e.f < e'.f) = false := by simp; omega
                      have h9 : (e'.f == e.f) = true := by simp; omega
                      have h10 : decide (e.i ≤ e'.i) = true := by simp; omega
                      go_wp2
                      go_quiet (fail)
                      rename Nat => nq
                      have HB2 := Lib.hid (below_drewN HB1.out nq)
                      have X2 := Lib.hid (X1.out.below (below_drewN (Below.refl _ w1) nq))
                      generalize w1.drewN nq = w2 at *
                      go_wp2
                      go_ret
                      rw [HV.out]
                      exact ⟨rfl, g_chain hbel.out HB2.out⟩
            · obtain rfl : k = n := by omega
              have HV : Hid (runK lo hi (-1) 0 es = true) := Lib.hid (by
                have h := hrun.out
                rw [List.drop_eq_nil_of_le (by rw [HEL.out]; exact Nat.le_refl _), runK] at h
                exact h.symm)
              go_wp2
              go_ret
              rw [HV.out]
              exact ⟨rfl, hbel.out⟩
        · have HV : Hid (shardB lo hi es = false) := Lib.hid (by simp [shardB, hel, h4])
          clear hr hel
          go_enter Try.func115, Try.ntmps115
          go_wp2
          go_ret
          rw [HV.out]
          exact ⟨g_bool (by first | rfl | (simp <;> omega)), HB0.out⟩
      · have HV : Hid (shardB lo hi es = false) := Lib.hid (by simp [shardB, h3])
        clear hr hel
        go_enter Try.func115, Try.ntmps115
        go_wp2
        go_ret
        rw [HV.out]
        exact ⟨g_bool (by first | rfl | (simp <;> omega)), HB0.out⟩
    · have HV : Hid (shardB lo hi es = false) := Lib.hid (by simp [shardB, h2])
      clear hr hel
      go_enter Try.func115, Try.ntmps115
      go_wp2
      go_ret
      rw [HV.out]
      exact ⟨g_bool (by first | rfl | (simp <;> omega)), HB0.out⟩
  · have HV : Hid (shardB lo hi es = false) := Lib.hid (by simp [shardB, h1])
    clear hr hel
    go_enter Try.func115, Try.ntmps115
    go_wp2
    go_ret
    rw [HV.out]
    exact ⟨g_bool (by first | rfl | (simp <;> omega)), HB0.out⟩
end Go.Proofs.Ytpgnappddddlpaa
namespace Go.Proofs.Ytpgnappddddlpaa
open Go.RowKit

theorem Try.infoBool : (Try.prog.info? 4).map (fun i => (i.zero, i.size, i.bytes)) = some (some (.bool false), 1, 1) := by kernel_rfl
def vbo (xs : List Bool) : List Value := xs.map .bool
theorem vbo_get {xs : List Bool} {j : Nat} {b : Bool} (h : xs[j]? = some b) : (vbo xs)[j]? = some (.bool b) := by simp [vbo, h]
theorem vbo_set (xs : List Bool) (j : Nat) (b : Bool) : (vbo xs).set j (.bool b) = vbo (xs.set j b) := by simp [vbo, List.map_set]
theorem vbo_rep (n : Nat) : (List.replicate n false).flatMap (fun b : Bool => [Value.bool b]) = vbo (List.replicate n false) := by
  unfold vbo
  induction n with
  | zero => rfl
  | succ n ih => simp [List.replicate_succ, ih]
/-- One edge stored at place j. -/
theorem join_lay {w : World} {lo ty g c n m j : Nat} {F : List KE} {e : KE} (h : w.ownsRow lo ty 3 (.slice (some ⟨g, 0, none⟩) n c) n ((edgeRow m F).flatMap GE.cells)) (hj : e.i = (j : Int)) (hm : j < m) (hn : hadB F j = false) :
    (((w.setCell ⟨g, j * 3, none⟩ (.int .i64 e.f)).setCell ⟨g, j * 3 + 1, none⟩ (.int .i64 e.t)).setCell ⟨g, j * 3 + 2, none⟩ (.int .i64 e.w)).ownsRow lo ty 3 (.slice (some ⟨g, 0, none⟩) n c) n ((edgeRow m (F ++ [e])).flatMap GE.cells) ∧
      w.grownBy (((w.setCell ⟨g, j * 3, none⟩ (.int .i64 e.f)).setCell ⟨g, j * 3 + 1, none⟩ (.int .i64 e.t)).setCell ⟨g, j * 3 + 2, none⟩ (.int .i64 e.w)) (some g) := by
  have hl : j < (edgeRow m F).length := by rw [edgeRow_len]; exact hm
  have h1 : edgeRow m F = (edgeRow m F).take j ++ (edgeRow m F)[j] :: (edgeRow m F).drop (j + 1) := by
    rw [← List.drop_eq_getElem_cons hl, List.take_append_drop]
  have h2 : edgeRow m (F ++ [e]) = (edgeRow m F).take j ++ e.ge :: (edgeRow m F).drop (j + 1) := by
    rw [← edgeRow_snoc hj hn]
    exact (List.set_eq_take_append_cons_drop ..).trans (if_pos hl)
  rw [h1] at h
  have h3 := g_lay (k := j) (e := e.ge) h (by rw [List.length_take]; omega)
  rw [h2]
  exact h3

set_option maxRecDepth 20000 in
set_option maxHeartbeats 8000000 in
theorem specJoined (N : Int) (A : Option Addr) (n c : Nat) (bs : List HE) (w : World) (hr : SlH w A n bs) (hn : n ≤ 1048576) (hs : ∀ e ∈ bs, e.n ≤ 1048576) :
    Calls Try.prog 67 #[.int .i64 N, .slice A n c] w (MadeJ w (joinN N (sdL bs)) (joinE N (sdL bs)) (joinB N (sdL bs))) := by
  obtain ⟨i0, hi, hz0, hz1, hz2⟩ := info_parts Try.infoEdge
  obtain ⟨j0, hj, jz0, jz1, jz2⟩ := info_parts Try.infoBool
  have HR := Lib.hid hr
  have HL := Lib.hid hr.len
  have HS := Lib.hid hs
  clear hr hs
  have HB0 := Lib.hid (below_a1 w (.cells #[.int .i64 0, .slice none 0 0] 58))
  have R0 := Lib.hid (DBox.new w (.int .i64 0) (.slice none 0 0) 58)
  go_enter Try.func67, Try.ntmps67
  go_wp2
  go_loopw [6, 7, 18] (fun u v i wr => ∃ (k m : Nat) (a : Int), k ≤ n ∧ i = .int .i64 k ∧ v = .int .i64 a ∧ u = .int .i64 m ∧ 0 ≤ a ∧ a ≤ 150 ∧ m ≤ 400 * k ∧ Hid (m = (flatK ((sdL bs).take k)).length) ∧ Hid (chainB N 0 (sdL bs) = chainB N a ((sdL bs).drop k)) ∧ Hid (DBox wr w.heap.size (.int .i64 0) (.slice none 0 0)) ∧ Hid (Below w.heap.size w wr)) (fun _ _ i _ => n - (intOf i).toNat)
  case atStart => exact ⟨0, 0, 0, Nat.zero_le _, rfl, rfl, rfl, by omega, by omega, Nat.zero_le _, Lib.hid rfl, Lib.hid rfl, R0, HB0⟩
  case round =>
    clear R0 HB0
    obtain ⟨k, m, a, hk, rfl, rfl, rfl, ha0, ha1, hm4, hm, hch, hbox, hbel⟩ := hrel
    by_cases hlt : k < n
    · obtain ⟨b, off, e, rfl, hbw, he, hok, c0, c1, c2⟩ := HR.out.at_ hlt
      have c0 := (hbel.out.cell (p := ⟨b, off + k * 3, none⟩) hbw).trans c0
      have c1 := (hbel.out.cell (p := ⟨b, off + k * 3 + 1, none⟩) hbw).trans c1
      have c2 := (hbel.out.cell (p := ⟨b, off + k * 3 + 2, none⟩) hbw).trans c2
      have C := Lib.hid (fun W (h : Below w.heap.size w W) => specShardOk e.lo e.hi e.A e.n e.c e.es W (hok.out.rd.below h) (HS.out e (List.mem_of_getElem? he.out)))
      have HA := Lib.hid (g_chain hbel.out (below_a1 wr (.cells #[.int .i64 e.lo, .int .i64 e.hi, .slice e.A e.n e.c] 85)))
      have HC := Lib.hid (hch.out.trans (chain_step he.out))
      have HEL := Lib.hid hok.out.rd.len
      clear hch hok
      go_wp2_with fail
      refine (C.out _ HA.out).mono ?_
      rintro e1 w1 ⟨rfl, hb1⟩
      have X1 := Lib.hid ((HBox.new wr e.lo e.hi e.A e.n e.c 85).below hb1)
      have HB := Lib.hid (g_chain HA.out hb1)
      have hbox1 := Lib.hid ((hbox.out.alloc _).below hb1)
      obtain ⟨l0, x0, x1, x2⟩ := X1.out
      obtain ⟨l1, y0, y1, yf⟩ := hbox1.out
      have yf0 := yf 0
      have yf1 := yf 1
      clear hb1 C c0 c1 c2 yf hbox
      cases hv : shardB e.lo e.hi e.es with
      | false =>
        have HJ : Hid (joinB N (sdL bs) = false) := Lib.hid (join_chain (by rw [HC.out, hv]; rfl))
        clear hv
        go_wp2
        refine bodyPost_ret (v := .tuple #[.agg #[.int .i64 0, .slice none 0 0], .bool false]) (by simp [results, Try.results67, go_sem, y0, y1]) rfl ?_
        rw [HJ.out, (join_none HJ.out).1, (join_none HJ.out).2]
        exact ⟨none, 0, rfl, World.ownsRow_nil _ _ _ _, by repeat (first | exact HB.out | refine Below.setCell ?_ (by simp) _)⟩
      | true =>
        by_cases hq : e.lo = a
        · have HN : Hid (chainB N 0 (sdL bs) = chainB N e.hi ((sdL bs).drop (k + 1))) := Lib.hid (by rw [HC.out, hv, decide_eq_true hq]; rfl)
          have hsb := shardB_iff hv
          have hen : e.n ≤ 400 := by have := hsb.2.2.2.1; have := HEL.out; omega
          have he0 : 0 ≤ e.hi := by omega
          have he1 : e.hi ≤ 150 := hsb.2.2.1
          have HM : Hid (m + e.n = (flatK ((sdL bs).take (k + 1))).length) := Lib.hid (by rw [flat_step he.out, List.length_append, ← hm.out, HEL.out])
          clear hv HC hsb
          go_wp2
          go_roundw
          case rel => exact ⟨k + 1, m + e.n, e.hi, by omega, by go_num, rfl, by go_num, he0, he1, by omega, HM, HN, hbox1, HB⟩
          case measure => simp [intOf]; omega
        · have HJ : Hid (joinB N (sdL bs) = false) := Lib.hid (join_chain (by rw [HC.out, decide_eq_false hq]; simp))
          have hq2 : (e.lo == a) = false := by simpa using hq
          clear hv HC
          go_wp2
          refine bodyPost_ret (v := .tuple #[.agg #[.int .i64 0, .slice none 0 0], .bool false]) (by simp [results, Try.results67, go_sem, y0, y1]) rfl ?_
          rw [HJ.out, (join_none HJ.out).1, (join_none HJ.out).2]
          exact ⟨none, 0, rfl, World.ownsRow_nil _ _ _ _, by repeat (first | exact HB.out | refine Below.setCell ?_ (by simp) _)⟩
    · obtain rfl : k = n := by omega
      have hFA := flat_all bs (k := k) (by rw [HL.out]; exact Nat.le_refl _)
      rw [hFA] at hm
      clear hFA
      have HV : Hid (chainB N 0 (sdL bs) = decide (a = N)) := Lib.hid (by
        have h := hch.out
        rw [List.drop_eq_nil_of_le (by rw [sdL_len, HL.out]; exact Nat.le_refl _), chainB] at h
        exact h)
      clear hch
      obtain ⟨l1, y0, y1, yf⟩ := hbox.out
      have yf0 := yf 0
      have yf1 := yf 1
      clear yf
      by_cases hq : a = N
      · subst hq
        have HC : Hid (chainB a 0 (sdL bs) = true) := Lib.hid (by rw [HV.out]; simp)
        by_cases hm5 : m ≤ 400
        · have HFE := Lib.hid (flat_each HC.out)
          have hrw : w.heap.size < wr.heap.size := hbox.out.lt
          go_wp2_with (first
            | (at_make; refine wpList_make_full _ rfl (.tmp 57) (.tmp 57) 56 rfl wr.heap.size 145 i0 (.agg #[.int .i64 0, .int .i64 0, .int .i64 0]) 3 Try.underlying56 hi hz0 hz1 .i64 .i64 _ _ m rfl rfl rfl rfl (by rw [hz2]; omega) (by unfold maxLen; omega) (Nat.le_refl _) ?_; intro w2 hown2 hg2)
            | (at_make; refine wpList_make_full _ rfl (.tmp 60) (.tmp 60) 143 rfl (w2.heap.size + 1) 4 j0 (.bool false) 1 Try.underlying143 hj jz0 jz1 .i64 .i64 _ _ m rfl rfl rfl rfl (by rw [jz2]; omega) (by unfold maxLen; omega) (by simp) ?_; intro w4 hown4 hg4))
          have hE2 := hown2
          rw [g_rep GE.cells zeroG 3 GE.cells_len (by omega) (Value.agg #[.int .i64 0, .int .i64 0, .int .i64 0]).cells rfl m, ← edgeRow_nil] at hE2
          have hH4 := hown4
          rw [g_rep (fun b : Bool => [Value.bool b]) false 1 (fun _ => rfl) (by omega) (Value.bool false).cells rfl m, vbo_rep, ← hadRow_nil] at hH4
          have heb : wr.heap.size < w2.heap.size := (hE2.lt wr.heap.size rfl).2
          obtain ⟨eb, hebe⟩ : ∃ eb, eb = wr.heap.size := ⟨_, rfl⟩
          obtain ⟨gb, hgbe⟩ : ∃ gb, gb = w2.heap.size := ⟨_, rfl⟩
          have hbA : Below wr.heap.size wr (w2.alloc (.cells #[.int .i64 a, .slice (some ⟨wr.heap.size, 0, none⟩) m m] 58)) := ((Below.refl _ _).grown hg2 (Nat.le_refl _) (by simp)).trans ((below_a1 w2 _).mono (Nat.le_of_lt heb))
          have hbB := hbA.grown hg4 hbA.size (by simp)
          have hbox4 := Lib.hid (hbox.out.below hbB)
          have hbel4 := Lib.hid (g_chain hbel.out hbB)
          have hG4 := Lib.hid ((DBox.new w2 (.int .i64 a) (.slice (some ⟨wr.heap.size, 0, none⟩) m m) 58).grown hg4 (by simp))
          have hE4 := Lib.hid ((hE2.alloc (.cells #[.int .i64 a, .slice (some ⟨wr.heap.size, 0, none⟩) m m] 58)).kept hg4 (.inr (by simp [Value.ownBlock])))
          rw [World.size_alloc] at hH4
          have hH5 := Lib.hid hH4
          clear hown2 hown4 hE2 hH4 hbA hbB hg2 hg4 hbox l1 y0 y1 yf0 yf1 hbel
          rw [← hebe] at hG4 hE4 heb hrw ⊢
          rw [← hgbe] at hG4 hH5 heb ⊢
          clear hebe hgbe
          go_loopw [64] (fun i wr => ∃ k2 : Nat, k2 ≤ k ∧ i = .int .i64 k2 ∧ Hid (∀ x ∈ flatK ((sdL bs).take k2), x.i < (m : Int) ∧ x.f < a) ∧ Hid (((flatK ((sdL bs).take k2)).map KE.i).Nodup) ∧ Hid (wr.ownsRow eb 145 3 (.slice (some ⟨eb, 0, none⟩) m m) m ((edgeRow m (flatK ((sdL bs).take k2))).flatMap GE.cells)) ∧ Hid (wr.ownsRow (gb + 1) 4 1 (.slice (some ⟨gb + 1, 0, none⟩) m m) m (vbo (hadRow m (flatK ((sdL bs).take k2))))) ∧ Hid (DBox wr gb (.int .i64 a) (.slice (some ⟨eb, 0, none⟩) m m)) ∧ Hid (DBox wr w.heap.size (.int .i64 0) (.slice none 0 0)) ∧ Hid (Below w.heap.size w wr)) (fun i _ => k - (intOf i).toNat)
          case atStart => exact ⟨0, Nat.zero_le _, rfl, Lib.hid (by simp [flatK]), Lib.hid (by simp [flatK]), hE4, hH5, hG4, hbox4, hbel4⟩
          case round =>
            rename World => W2
            clear hE4 hH5 hG4 hbox4 hbel4
            obtain ⟨k2, hk2, rfl, hall, hnd, hE, hH, hG, hbox, hbel⟩ := hrel
            by_cases hlk : k2 < k
            · obtain ⟨b, off, e, rfl, hbw, he, hok, c0, c1, c2⟩ := HR.out.at_ hlk
              obtain ⟨elo, ehi, eA, en, ec, ees⟩ := e
              have c0 : W2.cell? ⟨b, off + k2 * 3, none⟩ = some (.int .i64 elo) := (hbel.out.cell (p := ⟨b, off + k2 * 3, none⟩) hbw).trans c0
              have c1 : W2.cell? ⟨b, off + k2 * 3 + 1, none⟩ = some (.int .i64 ehi) := (hbel.out.cell (p := ⟨b, off + k2 * 3 + 1, none⟩) hbw).trans c1
              have c2 : W2.cell? ⟨b, off + k2 * 3 + 2, none⟩ = some (.slice eA en ec) := (hbel.out.cell (p := ⟨b, off + k2 * 3 + 2, none⟩) hbw).trans c2
              have hen : en ≤ 400 := by
                have h1 := shardB_iff (chain_each HC.out (elo, ehi, ees) (List.mem_map_of_mem (List.mem_of_getElem? he.out)))
                have h2 := hok.out.rd.len
                have h3 : ees.length ≤ 400 := h1.2.2.2.1
                have h4 : ees.length = en := h2
                omega
              have HEL : Hid (ees.length = en) := Lib.hid hok.out.rd.len
              have HRE : Hid (SlK w eA en ees) := Lib.hid hok.out.rd
              have HBA := Lib.hid (below_a1 W2 (.cells #[.int .i64 elo, .int .i64 ehi, .slice eA en ec] 85))
              have hbox1 := Lib.hid (hbox.out.below HBA.out)
              have hbel1 := Lib.hid (g_chain hbel.out HBA.out)
              have hG1 := Lib.hid (hG.out.below HBA.out)
              have hall1 : Hid (∀ x ∈ flatK ((sdL bs).take k2) ++ ees.take 0, x.i < (m : Int) ∧ x.f < a) := Lib.hid (by simpa using hall.out)
              have hnd1 : Hid (((flatK ((sdL bs).take k2) ++ ees.take 0).map KE.i).Nodup) := Lib.hid (by simpa using hnd.out)
              have hE1 := Lib.hid (own_below hE.out HBA.out)
              have hH1 := Lib.hid (own_below hH.out HBA.out)
              rw [show flatK ((sdL bs).take k2) = flatK ((sdL bs).take k2) ++ ees.take 0 by simp] at hE1 hH1
              clear hok hbox hG hall hnd hE hH
              go_wp2
              clear c0 c1 c2
              generalize W2.alloc (.cells #[.int .i64 elo, .int .i64 ehi, .slice eA en ec] 85) = W3 at *
              go_loopw [71] (fun i wr => ∃ j : Nat, j ≤ en ∧ i = .int .i64 j ∧ Hid (∀ x ∈ flatK ((sdL bs).take k2) ++ ees.take j, x.i < (m : Int) ∧ x.f < a) ∧ Hid (((flatK ((sdL bs).take k2) ++ ees.take j).map KE.i).Nodup) ∧ Hid (wr.ownsRow eb 145 3 (.slice (some ⟨eb, 0, none⟩) m m) m ((edgeRow m (flatK ((sdL bs).take k2) ++ ees.take j)).flatMap GE.cells)) ∧ Hid (wr.ownsRow (gb + 1) 4 1 (.slice (some ⟨gb + 1, 0, none⟩) m m) m (vbo (hadRow m (flatK ((sdL bs).take k2) ++ ees.take j)))) ∧ Hid (DBox wr gb (.int .i64 a) (.slice (some ⟨eb, 0, none⟩) m m)) ∧ Hid (DBox wr w.heap.size (.int .i64 0) (.slice none 0 0)) ∧ Hid (Below w.heap.size w wr)) (fun i _ => en - (intOf i).toNat)
              case atStart => exact ⟨0, Nat.zero_le _, rfl, hall1, hnd1, hE1, hH1, hG1, hbox1, hbel1⟩
              case round =>
                rename World => W4
                clear hbox1 hbel1 hG1 hall1 hnd1 hE1 hH1 HBA
                obtain ⟨j, hj, rfl, hall, hnd, hE, hH, hG, hbox, hbel⟩ := hrel
                by_cases hlj : j < en
                · obtain ⟨b', off', x, rfl, hbw', hx, d0, d1, d2, d3, d4⟩ := HRE.out.at_ hlj
                  have d0 := (hbel.out.cell (p := ⟨b', off' + j * 5, none⟩) hbw').trans d0
                  have d1 := (hbel.out.cell (p := ⟨b', off' + j * 5 + 1, none⟩) hbw').trans d1
                  have d2 := (hbel.out.cell (p := ⟨b', off' + j * 5 + 2, none⟩) hbw').trans d2
                  have d3 := (hbel.out.cell (p := ⟨b', off' + j * 5 + 3, none⟩) hbw').trans d3
                  have d4 := (hbel.out.cell (p := ⟨b', off' + j * 5 + 4, none⟩) hbw').trans d4
                  obtain ⟨G, hG9⟩ := flat_mid he.out hx.out
                  have HFM := Lib.hid hG9
                  have hxF : x ∈ flatK (sdL bs) := by
                    rw [hG9]
                    simp
                  have hx3 := HFE.out x hxF
                  have HXF := Lib.hid hxF
                  have HTK := Lib.hid (g_take ees j x hx.out)
                  have HBX := Lib.hid (below_a1 W4 (.cells #[.int .i64 x.f, .int .i64 x.t, .int .i64 x.w, .int .i64 x.i, .int .i64 x.v] 40))
                  have hbox2 := Lib.hid (hbox.out.below HBX.out)
                  have hbel2 := Lib.hid (g_chain hbel.out HBX.out)
                  have hG2 := Lib.hid (hG.out.below HBX.out)
                  have hE2 := Lib.hid (own_below hE.out HBX.out)
                  have hH2 := Lib.hid (own_below hH.out HBX.out)
                  obtain ⟨l0, y0, y1, yf⟩ := hbox2.out
                  have yf0 := yf 0
                  have yf1 := yf 1
                  have HLT := Lib.hid ((hH.out.lt (gb + 1) rfl).2)
                  have HE4 := Lib.hid hE.out
                  have HH4 := Lib.hid hH.out
                  have HG4 := Lib.hid hG.out
                  have HX4 := Lib.hid hbox.out
                  clear yf hxF hbox hG hE hH hG9
                  obtain ⟨xf, xt, xw, xi, xv⟩ := x
                  simp only at d0 d1 d2 d3 d4 hx3 HBX hbox2 hbel2 hG2 hE2 hH2 y0 y1 yf0 yf1
                  obtain ⟨p, rfl⟩ : ∃ p : Nat, xi = p := ⟨xi.toNat, by omega⟩
                  rcases Nat.lt_or_ge p m with hpm | hpm
                  · rcases Int.lt_or_le xf a with hxa | hxa
                    · obtain ⟨hd, hhd⟩ : ∃ hd, hadB (flatK ((sdL bs).take k2) ++ ees.take j) p = hd := ⟨_, rfl⟩
                      have HHD := Lib.hid hhd
                      have hc9 : (W4.alloc (.cells #[.int .i64 xf, .int .i64 xt, .int .i64 xw, .int .i64 (p : Int), .int .i64 xv] 40)).cell? ⟨gb + 1, p, none⟩ = some (.bool hd) := (hH2.out.cellAt p (by omega)).trans (by rw [vbo_get (hadRow_get hpm), hhd])
                      have hf9 := hH2.out.frozenAt p
                      have hl9 := (hH2.out.lt (gb + 1) rfl).2
                      clear hhd
                      cases hd with
                      | true =>
                        have HJ : Hid (joinB a (sdL bs) = false) := Lib.hid (join_dup (by rw [HFM.out]; exact nodup_no rfl HHD.out))
                        go_wp2
                        refine bodyPost_ret (v := .tuple #[.agg #[.int .i64 0, .slice none 0 0], .bool false]) (by simp [results, Try.results67, go_sem, y0, y1]) rfl ?_
                        rw [HJ.out, (join_none HJ.out).1, (join_none HJ.out).2]
                        exact ⟨none, 0, rfl, World.ownsRow_nil _ _ _ _, by repeat (first | exact hbel2.out | refine Below.setCell ?_ (by simp) _)⟩
                      | false =>
                        obtain ⟨eo, heo⟩ : ∃ eo, edgeOf (flatK ((sdL bs).take k2) ++ ees.take j) p = eo := ⟨_, rfl⟩
                        have hq9 := fun i (hi : i < 3) => (HE4.out.cellAt (p * 3 + i) (by omega)).trans (flat_get GE.cells 3 GE.cells_len _ p i eo (by rw [edgeRow_get hpm, heo]) hi)
                        have q0 : W4.cell? ⟨eb, p * 3, none⟩ = some (.int .i64 eo.f) := hq9 0 (by omega)
                        have q1 : W4.cell? ⟨eb, p * 3 + 1, none⟩ = some (.int .i64 eo.t) := hq9 1 (by omega)
                        have q2 : W4.cell? ⟨eb, p * 3 + 2, none⟩ = some (.int .i64 eo.w) := hq9 2 (by omega)
                        have qf0 := HE4.out.frozenAt (p * 3)
                        have qf1 := HE4.out.frozenAt (p * 3 + 1)
                        have qf2 := HE4.out.frozenAt (p * 3 + 2)
                        have hc8 : W4.cell? ⟨gb + 1, p, none⟩ = some (.bool false) := (HH4.out.cellAt p (by omega)).trans (by rw [vbo_get (hadRow_get hpm), HHD.out])
                        have hf8 := HH4.out.frozenAt p
                        have hl10 : gb + 1 < W4.heap.size := HLT.out
                        have hl11 : eb < W4.heap.size := (HE4.out.lt eb rfl).2
                        have hH6 := HH4.out.stored p (.bool true)
                        rw [vbo_set, hadRow_snoc (e := ⟨xf, xt, xw, (p : Int), xv⟩) rfl] at hH6
                        have hE6 := HE4.out.kept hH6.2 (.inr (by simp [Value.ownBlock]; omega))
                        have hE7 := join_lay (e := ⟨xf, xt, xw, (p : Int), xv⟩) hE6 rfl hpm HHD.out
                        have HE8 := Lib.hid hE7.1
                        have HH8 := Lib.hid (hH6.1.kept hE7.2 (.inr (by simp [Value.ownBlock]; omega)))
                        have HG8 := Lib.hid ((HG4.out.grown hH6.2 (by simp)).grown hE7.2 (by simp; omega))
                        have HR8 := Lib.hid ((HX4.out.grown hH6.2 (by simp; omega)).grown hE7.2 (by simp; omega))
                        have HB8 := Lib.hid ((hbel.out.grown hH6.2 hbel.out.size (fun i hi => by injection hi with hi; omega)).grown hE7.2 (by simpa using hbel.out.size) (fun i hi => by injection hi with hi; omega))
                        have HND : Hid (((flatK ((sdL bs).take k2) ++ ees.take (j + 1)).map KE.i).Nodup) := Lib.hid (by rw [HTK.out, ← List.append_assoc]; exact nodup_snoc hnd.out rfl HHD.out)
                        have HAL : Hid (∀ y ∈ flatK ((sdL bs).take k2) ++ ees.take (j + 1), y.i < (m : Int) ∧ y.f < a) := Lib.hid (by
                          intro y hy
                          rw [HTK.out, ← List.append_assoc] at hy
                          rcases List.mem_append.1 hy with hy | hy
                          · exact hall.out y hy
                          · simp at hy; subst hy; exact ⟨by show (p : Int) < m; omega, hxa⟩)
                        rw [List.append_assoc, ← HTK.out] at HE8 HH8
                        obtain ⟨gl, g0, g1, gf⟩ := HG4.out
                        clear hq9 heo hH6 hE6 hE7 gf hc9 hf9 hl9
                        go_wp2
                        go_roundw
                        case rel =>
                          refine ⟨j + 1, by omega, by go_num, HAL, HND, Lib.hid ?_, Lib.hid ?_, Lib.hid ?_, Lib.hid ?_, Lib.hid ?_⟩
                          · exact own_below HE8.out (below_a1 _ _)
                          · exact own_below HH8.out (below_a1 _ _)
                          · exact HG8.out.alloc _
                          · exact HR8.out.alloc _
                          · exact g_chain HB8.out (below_a1 _ _)
                        case measure => simp [intOf]; omega
                    · have HJ := Lib.hid (join_no1 (N := a) HXF.out (.inr hxa))
                      go_wp2
                      refine bodyPost_ret (v := .tuple #[.agg #[.int .i64 0, .slice none 0 0], .bool false]) (by simp [results, Try.results67, go_sem, y0, y1]) rfl ?_
                      rw [HJ.out, (join_none HJ.out).1, (join_none HJ.out).2]
                      exact ⟨none, 0, rfl, World.ownsRow_nil _ _ _ _, by repeat (first | exact hbel2.out | refine Below.setCell ?_ (by simp) _)⟩
                  · have HJ := Lib.hid (join_no1 (N := a) HXF.out (.inl (by rw [← hm.out]; show (m : Int) ≤ (p : Int); omega)))
                    go_wp2
                    refine bodyPost_ret (v := .tuple #[.agg #[.int .i64 0, .slice none 0 0], .bool false]) (by simp [results, Try.results67, go_sem, y0, y1]) rfl ?_
                    rw [HJ.out, (join_none HJ.out).1, (join_none HJ.out).2]
                    exact ⟨none, 0, rfl, World.ownsRow_nil _ _ _ _, by repeat (first | exact hbel2.out | refine Below.setCell ?_ (by simp) _)⟩
                · obtain rfl : j = en := by omega
                  have hft : Hid (flatK ((sdL bs).take (k2 + 1)) = flatK ((sdL bs).take k2) ++ ees.take j) := Lib.hid (by rw [show flatK ((sdL bs).take (k2 + 1)) = flatK ((sdL bs).take k2) ++ ees from flat_step he.out, show ees.take j = ees from List.take_of_length_le (by rw [HEL.out]; exact Nat.le_refl _)])
                  go_wp2
                  go_roundw
                  case rel => exact ⟨k2 + 1, by omega, by go_num, Lib.hid (by rw [hft.out]; exact hall.out), Lib.hid (by rw [hft.out]; exact hnd.out), Lib.hid (by rw [hft.out]; exact hE.out), Lib.hid (by rw [hft.out]; exact hH.out), hG, hbox, hbel⟩
                  case measure => simp [intOf]; omega
            · obtain rfl : k2 = k := by omega
              have hFB := flat_all bs (k := k2) (by rw [HL.out]; exact Nat.le_refl _)
              rw [hFB] at hall hnd hE
              clear hFB
              have HJ := Lib.hid (join_yes0 HC.out (by rw [← hm.out]; exact hm5) (by rw [← hm.out]; exact hall.out) hnd.out)
              have HEJ : Hid (edgeRow m (flatK (sdL bs)) = edgesJ (flatK (sdL bs))) := Lib.hid (by rw [hm.out]; rfl)
              have HJL : Hid ((edgesJ (flatK (sdL bs))).length = m) := Lib.hid (by rw [← HEJ.out, edgeRow_len])
              obtain ⟨l1, y0, y1, yf⟩ := hbox.out
              have yf0 := yf 0
              have yf1 := yf 1
              obtain ⟨gl, g0, g1, gf⟩ := hG.out
              clear yf gf
              go_wp2
              refine bodyPost_ret (v := .tuple #[.agg #[.int .i64 a, .slice (some ⟨eb, 0, none⟩) m m], .bool true]) (by simp [results, Try.results67, go_sem, y0, y1]) rfl ?_
              rw [HJ.out, (join_some HJ.out).1, (join_some HJ.out).2]
              refine ⟨_, m, by rw [HJL.out], ?_, by repeat (first | exact hbel.out | refine Below.setCell ?_ (by simp) _)⟩
              rw [HJL.out, ← HEJ.out]
              exact own_monoG (own_lowG (own_lowG hE.out (by show w.heap.size < eb; omega) _) (by show w.heap.size < eb; omega) _) (by omega)
        · have HJ : Hid (joinB a (sdL bs) = false) := Lib.hid (join_long (by rw [← hm.out]; omega))
          go_wp2
          refine bodyPost_ret (v := .tuple #[.agg #[.int .i64 0, .slice none 0 0], .bool false]) (by simp [results, Try.results67, go_sem, y0, y1]) rfl ?_
          rw [HJ.out, (join_none HJ.out).1, (join_none HJ.out).2]
          exact ⟨none, 0, rfl, World.ownsRow_nil _ _ _ _, by repeat (first | exact hbel.out | refine Below.setCell ?_ (by simp) _)⟩
      · have HJ : Hid (joinB N (sdL bs) = false) := Lib.hid (join_chain (by rw [HV.out]; exact decide_eq_false hq))
        have hq2 : (a == N) = false := by simpa using hq
        have hp : N < 0 ∨ (0 ≤ N ∧ 150 < N) ∨ (0 ≤ N ∧ N ≤ 150) := by omega
        rcases hp with h1 | ⟨h1, h2⟩ | ⟨h1, h2⟩
        all_goals
          go_wp2
          refine bodyPost_ret (v := .tuple #[.agg #[.int .i64 0, .slice none 0 0], .bool false]) (by simp [results, Try.results67, go_sem, y0, y1]) rfl ?_
          rw [HJ.out, (join_none HJ.out).1, (join_none HJ.out).2]
          exact ⟨none, 0, rfl, World.ownsRow_nil _ _ _ _, by repeat (first | exact hbel.out | refine Below.setCell ?_ (by simp) _)⟩
end Go.Proofs.Ytpgnappddddlpaa
namespace Go.Proofs.Ytpgnappddddlpaa
open Go.RowKit
set_option linter.unusedVariables false

theorem sdL_get2 {bs : List HE} {k : Nat} {e : HE} (h : bs[k]? = some e) : (sdL bs)[k]? = some (e.lo, e.hi, e.es) := by
  unfold sdL
  rw [List.getElem?_map, h]
  rfl
set_option maxRecDepth 20000 in
set_option maxHeartbeats 4000000 in
theorem specFarmOk (N : Int) (A : Option Addr) (n c : Nat) (E : List Int) (B : Option Addr) (m d : Nat) (bs : List HE) (w : World) (hA : SlI w A n E) (hB : SlH w B m bs) (hn : n ≤ 1048576) (hm : m ≤ 1048576) (hs : ∀ e ∈ bs, e.n ≤ 1048576) :
    Calls Try.prog 23 #[.agg #[.int .i64 N, .slice A n c, .slice B m d]] w (GTell w (farmB N E (sdL bs))) := by
  have CE := Lib.hid (fun W (h : Below w.heap.size w W) => specEndsOk N A n c E W (hA.below h) hn)
  have CP := Lib.hid (fun p W (h : Below w.heap.size w W) => specSpan A n c E p W (hA.below h) hn)
  have CJ := Lib.hid (fun W (h : Below w.heap.size w W) => specJoined N B m d bs W (hB.below h) hm hs)
  have HB := Lib.hid hB
  have HL := Lib.hid hB.len
  have HLE := Lib.hid hA.len
  have HS := Lib.hid hs
  have B0 := Lib.hid (Blk.new w #[.int .i64 N, .slice A n c, .slice B m d] 26)
  have H0 := Lib.hid (below_a1 w (.cells #[.int .i64 N, .slice A n c, .slice B m d] 26))
  clear hA hB hs
  cases hv : endsB N E with
  | false =>
    rw [hv] at CE
    have HF := Lib.hid (farm_no_ends (l := sdL bs) hv)
    clear hv
    go_enter Try.func23, Try.ntmps23
    go_wp2_with fail
    refine (CE.out _ H0.out).mono ?_
    rintro e w1 ⟨rfl, hb⟩
    have H1 := Lib.hid (g_chain H0.out hb)
    clear hb
    go_wp2
    go_ret
    rw [HF.out]
    exact ⟨rfl, H1.out⟩
  | true =>
    rw [hv] at CE
    clear hv
    by_cases hnm : m = n
    · subst hnm
      go_enter Try.func23, Try.ntmps23
      go_wp2_with fail
      refine (CE.out _ H0.out).mono ?_
      rintro e w1 ⟨rfl, hb⟩
      have H1 := Lib.hid (g_chain H0.out hb)
      have B1 := Lib.hid (B0.out.below hb)
      clear hb
      have x0 := B1.out.cell (i := 0) rfl
      have x1 := B1.out.cell (i := 1) rfl
      have x2 := B1.out.cell (i := 2) rfl
      go_wp2
      clear x0 x1 x2
      go_loopw [29] (fun i wr => ∃ k : Nat, k ≤ m ∧ i = .int .i64 (k : Int) ∧ Hid (∀ (j : Nat) (s : SD), j < k → (sdL bs)[j]? = some s → s.1 = (spanR E (j : Int)).1 ∧ s.2.1 = (spanR E (j : Int)).2) ∧ Hid (∀ s ∈ (sdL bs).take k, ∀ e ∈ s.2.2, e.v ≤ 1099511627776) ∧ Hid (Blk wr w.heap.size #[.int .i64 N, .slice A m c, .slice B m d] 26) ∧ Hid (Below w.heap.size w wr)) (fun i _ => m - (intOf i).toNat)
      case atStart => exact ⟨0, Nat.zero_le _, rfl, Lib.hid (fun j s h => absurd h (Nat.not_lt_zero _)), Lib.hid (by simp), B1, H1⟩
      case round =>
        clear B1 H1 H0 B0
        obtain ⟨k, hk, rfl, hsp, hfar, hbx, hbel⟩ := hrel
        by_cases hlt : k < m
        · obtain ⟨b, off, e, rfl, hbw, he, hok, c0, c1, c2⟩ := HB.out.at_ hlt
          obtain ⟨elo, ehi, eA, en, ec, ees⟩ := e
          have c0 : wr.cell? ⟨b, off + k * 3, none⟩ = some (.int .i64 elo) := (hbel.out.cell (p := ⟨b, off + k * 3, none⟩) hbw).trans c0
          have c1 : wr.cell? ⟨b, off + k * 3 + 1, none⟩ = some (.int .i64 ehi) := (hbel.out.cell (p := ⟨b, off + k * 3 + 1, none⟩) hbw).trans c1
          have c2 : wr.cell? ⟨b, off + k * 3 + 2, none⟩ = some (.slice eA en ec) := (hbel.out.cell (p := ⟨b, off + k * 3 + 2, none⟩) hbw).trans c2
          have HRE : Hid (SlK w eA en ees) := Lib.hid hok.out.rd
          have hen : en ≤ 1048576 := HS.out _ (List.mem_of_getElem? he.out)
          have HG : Hid ((sdL bs)[k]? = some (elo, ehi, ees)) := Lib.hid (sdL_get2 he.out)
          have HTK : Hid ((sdL bs).take (k + 1) = (sdL bs).take k ++ [(elo, ehi, ees)]) := Lib.hid (sdL_take he.out)
          have HA := Lib.hid (below_a1 wr (.cells #[.int .i64 elo, .int .i64 ehi, .slice eA en ec] 85))
          have B2 := Lib.hid (hbx.out.below HA.out)
          have S2 := Lib.hid (Blk.new wr #[.int .i64 elo, .int .i64 ehi, .slice eA en ec] 85)
          have H2 := Lib.hid (g_chain hbel.out HA.out)
          have hlw : w.heap.size < wr.heap.size := Blk.lt hbx.out
          have CP1 := Lib.hid (fun W h => CP.out (k : Int) W h)
          have HNO := Lib.hid (fun h => farm_no_span (N := N) (E := E) HG.out h)
          have x1 := hbx.out.cell (i := 1) rfl
          clear hok he hbx HA
          obtain ⟨s1, hs1⟩ : ∃ s1, s1 = (spanR E (k : Int)).1 := ⟨_, rfl⟩
          obtain ⟨s2, hs2⟩ : ∃ s2, s2 = (spanR E (k : Int)).2 := ⟨_, rfl⟩
          rw [← hs1, ← hs2] at HNO CP1
          have HS1 := Lib.hid hs1
          have HS2 := Lib.hid hs2
          clear hs1 hs2
          go_wp2_with fail
          refine (CP1.out _ H2.out).mono ?_
          rintro e1 w2 ⟨rfl, hb⟩
          have B3 := Lib.hid (B2.out.below hb)
          have S3 := Lib.hid (S2.out.below hb)
          have H3 := Lib.hid (g_chain H2.out hb)
          clear hb c0 c1 c2 x1 B2 S2 H2
          have y0 := S3.out.cell (i := 0) rfl
          have y1 := S3.out.cell (i := 1) rfl
          have y2 := S3.out.cell (i := 2) rfl
          by_cases hq1 : elo = s1
          · by_cases hq2 : ehi = s2
            · have HSP : Hid (∀ (j : Nat) (s : SD), j < k + 1 → (sdL bs)[j]? = some s → s.1 = (spanR E (j : Int)).1 ∧ s.2.1 = (spanR E (j : Int)).2) := Lib.hid (fun j s hj hg => by
                rcases Nat.lt_or_ge j k with h1 | h1
                · exact hsp.out j s h1 hg
                · obtain rfl : j = k := by omega
                  rw [HG.out] at hg
                  injection hg with hg
                  subst hg
                  exact ⟨by rw [← HS1.out]; exact hq1, by rw [← HS2.out]; exact hq2⟩)
              clear hsp HNO HS1 HS2
              go_wp2
              clear y0 y1 y2 hq1 hq2
              go_loopw [54] (fun i wr => ∃ j : Nat, j ≤ en ∧ i = .int .i64 (j : Int) ∧ Hid (∀ e ∈ ees.take j, e.v ≤ 1099511627776) ∧ Hid (Blk wr w.heap.size #[.int .i64 N, .slice A m c, .slice (some ⟨b, off, none⟩) m d] 26) ∧ Hid (Below w.heap.size w wr)) (fun i _ => en - (intOf i).toNat)
              case atStart => exact ⟨0, Nat.zero_le _, rfl, Lib.hid (by simp), B3, H3⟩
              case round =>
                clear B3 H3 S3
                rename World => W5
                obtain ⟨j, hj, rfl, hfj, hbx, hbel⟩ := hrel
                by_cases hlj : j < en
                · obtain ⟨b', off', x, rfl, hbw', hx, d0, d1, d2, d3, d4⟩ := HRE.out.at_ hlj
                  have d0 := (hbel.out.cell (p := ⟨b', off' + j * 5, none⟩) hbw').trans d0
                  have d1 := (hbel.out.cell (p := ⟨b', off' + j * 5 + 1, none⟩) hbw').trans d1
                  have d2 := (hbel.out.cell (p := ⟨b', off' + j * 5 + 2, none⟩) hbw').trans d2
                  have d3 := (hbel.out.cell (p := ⟨b', off' + j * 5 + 3, none⟩) hbw').trans d3
                  have d4 := (hbel.out.cell (p := ⟨b', off' + j * 5 + 4, none⟩) hbw').trans d4
                  have HA := Lib.hid (below_a1 W5 (.cells #[.int .i64 x.f, .int .i64 x.t, .int .i64 x.w, .int .i64 x.i, .int .i64 x.v] 40))
                  have B6 := Lib.hid (hbx.out.below HA.out)
                  have H6 := Lib.hid (g_chain hbel.out HA.out)
                  clear hbx HA
                  rcases Int.lt_or_le 1099511627776 x.v with hxv | hxv
                  · have HF := Lib.hid (farm_no_val (N := N) (E := E) (List.mem_of_getElem? HG.out) (List.mem_of_getElem? hx.out) hxv)
                    go_wp2
                    go_ret
                    rw [HF.out]
                    exact ⟨rfl, H6.out⟩
                  · have HFJ : Hid (∀ e ∈ ees.take (j + 1), e.v ≤ 1099511627776) := Lib.hid (by
                      rw [g_take ees j x hx.out]
                      intro y hy
                      rcases List.mem_append.1 hy with hy | hy
                      · exact hfj.out y hy
                      · rw [List.mem_singleton.1 hy]; exact hxv)
                    go_wp2
                    go_roundw
                    case rel => exact ⟨j + 1, by omega, by go_num, HFJ, B6, H6⟩
                    case measure => simp [intOf]; omega
                · obtain rfl : j = en := by omega
                  have HFK : Hid (∀ s ∈ (sdL bs).take (k + 1), ∀ e ∈ s.2.2, e.v ≤ 1099511627776) := Lib.hid (by
                    rw [HTK.out]
                    intro s hs2 e he2
                    rcases List.mem_append.1 hs2 with hs2 | hs2
                    · exact hfar.out s hs2 e he2
                    · rw [List.mem_singleton.1 hs2] at he2
                      exact hfj.out e (by rw [List.take_of_length_le (by rw [HRE.out.len]; exact Nat.le_refl _)]; exact he2))
                  go_wp2
                  go_roundw
                  case rel => exact ⟨k + 1, by omega, by go_num, HSP, HFK, hbx, hbel⟩
                  case measure => simp [intOf]; omega
            · have HF := Lib.hid (HNO.out (.inr hq2))
              have hq4 : (ehi == s2) = false := by simpa using hq2
              clear hq2
              go_wp2
              go_ret
              rw [HF.out]
              exact ⟨rfl, H3.out⟩
          · have HF := Lib.hid (HNO.out (.inl hq1))
            have hq3 : (elo == s1) = false := by simpa using hq1
            clear hq1
            go_wp2
            go_ret
            rw [HF.out]
            exact ⟨rfl, H3.out⟩
        · obtain rfl : k = m := by omega
          have HJ : Hid (farmB N E (sdL bs) = joinB N (sdL bs)) := Lib.hid (farm_spec (by rw [HLE.out, sdL_len, HL.out]) (fun j s hg => hsp.out j s (by have := (List.getElem?_eq_some_iff.1 hg).1; rw [sdL_len, HL.out] at this; exact this) hg) (fun s hs2 => hfar.out s (by rw [List.take_of_length_le (by rw [sdL_len, HL.out]; exact Nat.le_refl _)]; exact hs2)))
          have x0 := hbx.out.cell (i := 0) rfl
          have x2 := hbx.out.cell (i := 2) rfl
          clear hfar hsp
          go_wp2_with fail
          refine (CJ.out _ hbel.out).mono ?_
          rintro e1 w2 ⟨A1, c1, rfl, ho, hb1⟩
          have H3 := Lib.hid (g_chain hbel.out hb1)
          clear hb1 ho x0 x2
          go_wp2
          go_ret
          rw [HJ.out]
          exact ⟨rfl, g_chain H3.out (below_a1 _ _)⟩
    · have HF := Lib.hid (farm_no_len (N := N) (E := E) (l := sdL bs) (by rw [HLE.out, sdL_len, HL.out]; exact fun e => hnm e.symm))
      have hq : ((m : Int) == (n : Int)) = false := by simp; omega
      go_enter Try.func23, Try.ntmps23
      go_wp2_with fail
      refine (CE.out _ H0.out).mono ?_
      rintro e w1 ⟨rfl, hb⟩
      have H1 := Lib.hid (g_chain H0.out hb)
      have B1 := Lib.hid (B0.out.below hb)
      clear hb
      have x1 := B1.out.cell (i := 1) rfl
      have x2 := B1.out.cell (i := 2) rfl
      go_wp2
      go_ret
      rw [HF.out]
      exact ⟨rfl, H1.out⟩
/-- The model's FarmGraph. -/
theorem specFarmGraph (N : Int) (A : Option Addr) (n c : Nat) (E : List Int) (B : Option Addr) (m d : Nat) (bs : List HE) (w : World) (hA : SlI w A n E) (hB : SlH w B m bs) (hn : n ≤ 1048576) (hm : m ≤ 1048576) (hs : ∀ e ∈ bs, e.n ≤ 1048576) :
    Calls Try.prog 34 #[.agg #[.int .i64 N, .slice A n c, .slice B m d]] w (MadeGr w (farmN N E (sdL bs)) (farmG N E (sdL bs))) := by
  have C := Lib.hid (fun W (h : Below w.heap.size w W) => specFarmOk N A n c E B m d bs W (hA.below h) (hB.below h) hn hm hs)
  have CJ := Lib.hid (fun W (h : Below w.heap.size w W) => specJoined N B m d bs W (hB.below h) hm hs)
  have H0 := Lib.hid (below_a2 w (.cells #[.int .i64 N, .slice A n c, .slice B m d] 26) (.cells #[.int .i64 0, .slice none 0 0] 58))
  have B0 := Lib.hid ((Blk.new w #[.int .i64 N, .slice A n c, .slice B m d] 26).alloc (.cells #[.int .i64 0, .slice none 0 0] 58))
  have Z0 : Hid (Blk ((w.alloc (.cells #[.int .i64 N, .slice A n c, .slice B m d] 26)).alloc (.cells #[.int .i64 0, .slice none 0 0] 58)) (w.heap.size + 1) #[.int .i64 0, .slice none 0 0] 58) := Lib.hid (by have h := Blk.new (w.alloc (.cells #[.int .i64 N, .slice A n c, .slice B m d] 26)) #[.int .i64 0, .slice none 0 0] 58; simpa using h)
  clear hA hB hs
  cases hv : farmB N E (sdL bs) with
  | false =>
    rw [hv] at C
    rw [(farmG_no hv).1, (farmG_no hv).2]
    clear hv
    go_enter Try.func34, Try.ntmps34
    go_wp2_with fail
    refine (C.out _ H0.out).mono ?_
    rintro e w1 ⟨rfl, hb⟩
    have Z1 := Lib.hid (Z0.out.below hb)
    have H1 := Lib.hid (g_chain H0.out hb)
    clear hb
    have z0 := Z1.out.cell (i := 0) rfl
    have z1 := Z1.out.cell (i := 1) rfl
    have f0 := Z1.out.frozen 0
    have f1 := Z1.out.frozen 1
    go_wp2
    refine bodyPost_ret (v := .agg #[.int .i64 0, .slice none 0 0]) (by simp [results, Try.results34, go_sem, z0, z1]) rfl ?_
    exact ⟨none, 0, rfl, World.ownsRow_nil _ _ _ _, by repeat (first | exact H1.out | refine Below.setCell ?_ (by simp) _)⟩
  | true =>
    rw [hv] at C
    have HJ : farmB N E (sdL bs) = joinB N (sdL bs) := by rw [hv, (farmB_iff hv).2.2]
    rw [(farmG_join HJ).1, (farmG_join HJ).2]
    clear hv HJ
    generalize joinB N (sdL bs) = rb at CJ
    generalize joinN N (sdL bs) = rn at CJ ⊢
    generalize joinE N (sdL bs) = rg at CJ ⊢
    go_enter Try.func34, Try.ntmps34
    go_wp2_with fail
    refine (C.out _ H0.out).mono ?_
    rintro e w1 ⟨rfl, hb⟩
    have Z1 := Lib.hid (Z0.out.below hb)
    have B1 := Lib.hid (B0.out.below hb)
    have H1 := Lib.hid (g_chain H0.out hb)
    have hz1 : w.heap.size + 1 < w1.heap.size := Blk.lt Z1.out
    clear hb
    have x0 := B1.out.cell (i := 0) rfl
    have x2 := B1.out.cell (i := 2) rfl
    go_wp2_with fail
    refine (CJ.out _ H1.out).mono ?_
    rintro e w2 ⟨A1, c1, rfl, ho, hb⟩
    have Z2 := Lib.hid (Z1.out.below hb)
    have hzl : w.heap.size + 1 < w2.heap.size := Blk.lt Z2.out
    have H2 := Lib.hid (g_chain H1.out hb)
    have HO := Lib.hid (own_monoG ho H1.out.size)
    have HFAR := Lib.hid (fun (e : (Value.slice A1 rg.length c1).ownBlock = some (w.heap.size + 1)) => by have h1 := (ho.lt _ e).1; show False; omega)
    clear hb ho x0 x2
    have z0 := Z2.out.cell (i := 0) rfl
    have z1 := Z2.out.cell (i := 1) rfl
    have f0 := Z2.out.frozen 0
    have f1 := Z2.out.frozen 1
    go_wp2
    refine bodyPost_ret (v := .agg #[.int .i64 rn, .slice A1 rg.length c1]) (by simp [results, Try.results34, go_sem, z0, z1, hzl]) rfl ?_
    refine ⟨A1, c1, rfl, ?_, by repeat (first | exact H2.out | refine Below.setCell ?_ (by simp) _ | refine g_chain ?_ (below_a1 _ _))⟩
    have hap : ∀ (W : World) (i : Nat) (u : Value), W.ownsRow w.heap.size 145 3 (.slice A1 rg.length c1) rg.length (rg.flatMap GE.cells) → (W.setCell ⟨w.heap.size + 1, i, none⟩ u).ownsRow w.heap.size 145 3 (.slice A1 rg.length c1) rg.length (rg.flatMap GE.cells) := fun W i u h => h.kept (row := some (w.heap.size + 1)) ⟨rfl, rfl, rfl, by simp, fun q _ hq => Below.heap_setCell W ⟨w.heap.size + 1, i, none⟩ u q (fun e => hq (by rw [show q = w.heap.size + 1 from e]))⟩ (.inr HFAR.out)
    first | exact hap _ _ _ (hap _ _ _ HO.out) | exact own_below (hap _ _ _ (hap _ _ _ HO.out)) (below_a1 _ _)
end Go.Proofs.Ytpgnappddddlpaa
