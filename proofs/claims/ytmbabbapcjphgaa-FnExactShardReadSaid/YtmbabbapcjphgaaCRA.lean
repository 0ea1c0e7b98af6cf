/- The contract of the model's test for a number. // The contract of the model's writer of numbers of variable length. Condition: at most 2^20 bytes. // The contract of the model's writer of signed numbers. Condition: at most 2^20 bytes. // The contracts of the model's functions that ask whether a shard is valid. Condition: at most 2^20 edges. // The model's encoding of a shard. Condition: at most 2^20 edges. -/
import Derived.Test.YtmbabbapcjphgaaBase
import Derived.Test.YtmbabbapcjphgaaPutMath
import Derived.Test.YtmbabbapcjphgaaZigMath
import Derived.Test.YtmbabbapcjphgaaShMath
import Derived.Test.YtmbabbapcjphgaaKEB
import Derived.Test.YtmbabbapcjphgaaSBytesM
namespace Go.Proofs.Ytmbabbapcjphgaa
open Go.RowKit

theorem specNum_yes (n : Int) (w : World) (h0 : 0 ≤ n) (h1 : n ≤ 281474976710655) : Calls Try.prog 86 #[.int .i64 n] w fun e w' => e = .returned (.bool true) ∧ w = w' := by
  go_enter Try.func86, Try.ntmps86
  go_wp2
  go_ret
  exact ⟨rfl, rfl⟩

theorem specNum_no (n : Int) (w : World) (h : n < 0 ∨ 281474976710655 < n) : Calls Try.prog 86 #[.int .i64 n] w fun e w' => e = .returned (.bool false) ∧ w = w' := by
  rcases h with h | h
  · go_enter Try.func86, Try.ntmps86
    go_wp2
    go_ret
    exact ⟨rfl, rfl⟩
  · have h0 : 0 ≤ n := by omega
    have h2 : decide (n ≤ 281474976710655) = false := by simpa using h
    go_enter Try.func86, Try.ntmps86
    go_wp2
    go_ret
    exact ⟨rfl, rfl⟩
end Go.Proofs.Ytmbabbapcjphgaa
namespace Go.Proofs.Ytmbabbapcjphgaa
open Go.RowKit

set_option maxRecDepth 10000 in
set_option maxHeartbeats 1000000 in
theorem specPutVar_yes (A : Option Addr) (n c m : Nat) (xs : List Nat) (w : World) (hr : Rd w A n xs) (hn : n ≤ 1048600) (hm : m ≤ 281474976710655) :
    Calls Try.prog 70 #[.slice A n c, .int .i64 (m : Int)] w (PutRes w true (xs ++ digits 6 m)) := by
  obtain ⟨i0, hi, hz0, hz1, hz2⟩ := info_parts Try.infoByte
  have HL := Lib.hid hr.len
  have hleft : Left (xs ++ digits 6 m) xs 6 m := ⟨rfl, by omega⟩
  go_enter Try.func70, Try.ntmps70
  go_wp2_with (first
    | (go_at_call 86; refine (specNum_yes _ _ (by omega) (by omega)).mono ?_; rintro e w' ⟨rfl, rfl⟩)
    | (at_builtin; refine wpList_append_any _ rfl (.tmp 10) (.tmp 11) _ rfl w.heap.size 5 i0 _ 1 1 Try.underlying55 hi hz0 hz1 hz2 rfl (by omega) (.slice (some ⟨w.heap.size, 0, none⟩) 0 0) 0 [] rfl (built_none w) w.heap.size A n c (vb xs) rfl (hr.reads.alloc (Nat.le_refl _) _) (vb_oneCell xs) (by simp only [maxLen]; omega) (by omega) (by simp) ?_; intro v1 w1 hown1 hg1 hat1))
  have hb1 : Below w.heap.size w w1 := below_built hg1
  have ho1 : w1.ownsRow w.heap.size 5 1 v1 xs.length (vb xs) := by rw [HL.out]; simpa using hown1
  have hlen : xs.length ≤ 1048600 := by rw [HL.out]; omega
  clear hg1 hat1 hown1
  go_loopw [1, 6] (fun t v wr => ∃ (r f : Nat) (ys : List Nat), t = .int .i64 (r : Int) ∧ r ≤ 281474976710655 ∧ Left (xs ++ digits 6 m) ys f r ∧ ys.length + f ≤ 1048606 ∧ wr.ownsRow w.heap.size 5 1 v ys.length (vb ys) ∧ Below w.heap.size w wr) (fun t _ _ => (intOf t).toNat)
  case atStart => exact ⟨m, 6, xs, rfl, hm, hleft, by omega, ho1, hb1⟩
  case round =>
    obtain ⟨r, f, ys, rfl, hrm, hlf, hyl, hown, hbel⟩ := hrel
    by_cases hbig : 128 ≤ r
    · obtain ⟨g, rfl, hlf2⟩ := hlf.step hbig
      go_wp2_with (at_builtin; refine wpList_append_any _ rfl (.tmp 15) (.tmp 20) _ rfl w.heap.size 5 i0 _ 1 1 Try.underlying55 hi hz0 hz1 hz2 rfl (by omega) _ ys.length (vb ys) rfl (hown.alloc _) (wr.heap.size + 1) (some ⟨wr.heap.size, 0, none⟩) 1 1 [.int .u8 ((r : Int) % 128 + 128)] rfl (one_reads _ _) (one_cell _) (by simp only [maxLen]; omega) (by omega) (by have := hbel.size; simp; omega) ?_; intro v2 w2 hown2 hg2 hat2)
      have hb2 : Below w.heap.size w w2 := below_app hbel hown hg2
      have ho2 := own_snoc (y := r % 128 + 128) hown2 rfl (by omega)
      clear hown2 hg2 hat2 hown hlf
      go_roundw
      case rel => exact ⟨r / 128, g, _, by go_num, by omega, hlf2, by simp; omega, ho2, hb2⟩
      case measure => simp [intOf]; omega
    · have hd := hlf.done (by omega)
      go_wp2_with (at_builtin; refine wpList_append_any _ rfl (.tmp 24) (.tmp 27) _ rfl w.heap.size 5 i0 _ 1 1 Try.underlying55 hi hz0 hz1 hz2 rfl (by omega) _ ys.length (vb ys) rfl (hown.alloc _) (wr.heap.size + 1) (some ⟨wr.heap.size, 0, none⟩) 1 1 [.int .u8 (r : Int)] rfl (one_reads _ _) (one_cell _) (by simp only [maxLen]; omega) (by omega) (by have := hbel.size; simp; omega) ?_; intro v2 w2 hown2 hg2 hat2)
      have hb2 : Below w.heap.size w w2 := below_app hbel hown hg2
      have ho2 := own_snoc (y := r) hown2 rfl rfl
      obtain ⟨A2, c2, rfl⟩ := own_form ho2
      go_ret2
      rw [hd] at ho2
      exact ⟨A2, c2, by rw [← hd]; rfl, ho2, hb2⟩

set_option maxRecDepth 10000 in
theorem specPutVar_no (A : Option Addr) (n c : Nat) (m : Int) (w : World) (hm : m < 0 ∨ 281474976710655 < m) :
    Calls Try.prog 70 #[.slice A n c, .int .i64 m] w (PutRes w false []) := by
  go_enter Try.func70, Try.ntmps70
  go_wp2_with (go_at_call 86; refine (specNum_no _ _ hm).mono ?_; rintro e w' ⟨rfl, rfl⟩)
  go_ret2
  exact PutRes.no w

theorem specPutVar (A : Option Addr) (n c : Nat) (a : Int) (xs : List Nat) (w : World) (hr : Rd w A n xs) (hn : n ≤ 1048600) :
    Calls Try.prog 70 #[.slice A n c, .int .i64 a] w (PutRes w (numOk a) (putVar xs a)) := by
  by_cases h : 0 ≤ a ∧ a ≤ 281474976710655
  · obtain ⟨m, rfl⟩ : ∃ m : Nat, a = m := ⟨a.toNat, by omega⟩
    have e1 : numOk (m : Int) = true := by simp only [numOk, decide_eq_true h]
    have e2 : putVar xs (m : Int) = xs ++ digits 6 m := by simp [putVar, e1]
    rw [e1, e2]
    exact specPutVar_yes A n c m xs w hr hn (by omega)
  · have e1 : numOk a = false := by simp only [numOk, decide_eq_false h]
    have e2 : putVar xs a = [] := by simp [putVar, e1]
    rw [e1, e2]
    exact specPutVar_no A n c a w (by omega)
end Go.Proofs.Ytmbabbapcjphgaa
namespace Go.Proofs.Ytmbabbapcjphgaa
open Go.RowKit

set_option maxRecDepth 10000 in
theorem specPutZig (A : Option Addr) (n c : Nat) (a : Int) (xs : List Nat) (w : World) (hr : Rd w A n xs) (hn : n ≤ 1048600) :
    Calls Try.prog 71 #[.slice A n c, .int .i64 a] w (PutRes w (zigOk a) (putZig xs a)) := by
  by_cases h : -140737488355328 ≤ a ∧ a ≤ 140737488355327
  · have e1 : zigOk a = true := by simp only [zigOk, decide_eq_true h]
    have e2 : putZig xs a = putVar xs (zig a) := by simp [putZig, e1]
    have e3 := zig_num a e1
    rw [e1, e2]
    have C := Lib.hid (specPutVar A n c (zig a) xs w hr hn)
    rw [e3] at C
    obtain ⟨ha, hb⟩ := h
    clear e1 e2 e3
    by_cases hneg : a < 0
    · have e4 : zig a = -2 * a - 1 := by simp [zig, hneg]
      rw [e4] at C ⊢
      generalize putVar xs _ = ys at C ⊢
      clear e4
      go_enter Try.func71, Try.ntmps71
      go_wp2_with (go_at_call 70; refine C.out.mono ?_; rintro e w' ⟨A1, c1, rfl, ho, hb⟩)
      go_ret2
      exact ⟨A1, c1, rfl, ho, hb⟩
    · have e4 : zig a = 2 * a := by simp [zig, hneg]
      rw [e4] at C ⊢
      generalize putVar xs _ = ys at C ⊢
      clear e4
      go_enter Try.func71, Try.ntmps71
      go_wp2_with (go_at_call 70; refine C.out.mono ?_; rintro e w' ⟨A1, c1, rfl, ho, hb⟩)
      go_ret2
      exact ⟨A1, c1, rfl, ho, hb⟩
  · have e1 : zigOk a = false := by simp only [zigOk, decide_eq_false h]
    have e2 : putZig xs a = [] := by simp [putZig, e1]
    rw [e1, e2]
    clear e1 e2
    by_cases hneg : a < -140737488355328
    · go_enter Try.func71, Try.ntmps71
      go_wp2
      go_ret2
      exact PutRes.no w
    · have h2 : 140737488355327 < a := by omega
      go_enter Try.func71, Try.ntmps71
      go_wp2
      go_ret2
      exact PutRes.no w
end Go.Proofs.Ytmbabbapcjphgaa
namespace Go.Proofs.Ytmbabbapcjphgaa
open Go.RowKit

set_option maxRecDepth 10000 in
set_option maxHeartbeats 2000000 in
theorem specEdge (lo hi : Int) (A : Option Addr) (n c : Nat) (e : KE) (w : World) :
    Calls Try.prog 49 #[.agg #[.int .i64 lo, .int .i64 hi, .slice A n c], .agg #[.int .i64 e.f, .int .i64 e.t, .int .i64 e.w, .int .i64 e.i, .int .i64 e.v]] w (GTell w (kedgeB lo hi e)) := by
  have HB := Lib.hid (below_a2 w (.cells #[.int .i64 lo, .int .i64 hi, .slice A n c] 35) (.cells #[.int .i64 e.f, .int .i64 e.t, .int .i64 e.w, .int .i64 e.i, .int .i64 e.v] 77))
  cases hv : kedgeB lo hi e with
  | true =>
    obtain ⟨h1, h2, h3, h4, h5, h6, h7, h8, h9, h10⟩ := kedgeB_iff hv
    clear hv
    go_enter Try.func49, Try.ntmps49
    go_wp2_with (go_at_call 86; refine (specNum_yes _ _ h9 h10).mono ?_; rintro e w' ⟨rfl, rfl⟩)
    go_ret
    exact ⟨rfl, HB.out⟩
  | false =>
    have hp := kedgeB_parts hv
    clear hv
    rcases hp with h1 | ⟨h1, h2⟩ | ⟨h1, h2, h3⟩ | ⟨h1, h2, h3, h4⟩ | ⟨h1, h2, h3, h4, h5⟩ | ⟨h1, h2, h3, h4, h5, h6⟩ | ⟨h1, h2, h3, h4, h5, h6, h7⟩ | ⟨h1, h2, h3, h4, h5, h6, h7, h8⟩ | ⟨h1, h2, h3, h4, h5, h6, h7, h8, h9⟩
    case inr.inr.inr.inr.inr.inr.inr.inr =>
      have h10 : e.v < 0 ∨ 281474976710655 < e.v := by omega
      clear h9
      go_enter Try.func49, Try.ntmps49
      go_wp2_with (go_at_call 86; refine (specNum_no _ _ h10).mono ?_; rintro e w' ⟨rfl, rfl⟩)
      go_ret
      exact ⟨rfl, HB.out⟩
    all_goals
      go_enter Try.func49, Try.ntmps49
      go_wp2
      go_ret
      exact ⟨g_bool (by first | rfl | (simp <;> omega)), HB.out⟩

set_option maxRecDepth 10000 in
set_option maxHeartbeats 4000000 in
theorem specShardOk (lo hi : Int) (A : Option Addr) (n c : Nat) (es : List KE) (w : World) (hr : SlK w A n es) (hn : n ≤ 1048576) :
    Calls Try.prog 16 #[.agg #[.int .i64 lo, .int .i64 hi, .slice A n c]] w (GTell w (shardB lo hi es)) := by
  have hel := hr.len
  have HB0 := Lib.hid (below_a1 w (.cells #[.int .i64 lo, .int .i64 hi, .slice A n c] 35))
  by_cases h1 : 0 ≤ lo
  · by_cases h2 : lo < hi
    · by_cases h3 : hi ≤ 150
      · by_cases h4 : n ≤ 400
        · rw [shardB_yes h1 h2 h3 (by omega)]
          have CE := Lib.hid (fun e W => specEdge lo hi A n c e W)
          have HR := Lib.hid hr
          have HEL := Lib.hid hel
          clear hr hel
          go_enter Try.func16, Try.ntmps16
          go_wp2
          have X0 := Lib.hid (HBox.new w lo hi A n c 35)
          go_loopw [29] (fun i wr => ∃ (k : Nat) (p q : Int), k ≤ n ∧ i = .int .i64 k ∧ Hid (HBox wr w.heap.size lo hi A n c) ∧ Hid (Below w.heap.size w wr) ∧ Hid (runK lo hi p q (es.drop k) = runK lo hi (-1) 0 es) ∧ Hid (k = 0 → p = -1 ∧ q = 0) ∧ Hid (∀ (j : Nat) (e : KE), k = j + 1 → es[j]? = some e → p = e.f ∧ q = e.i)) (fun i _ => n - (intOf i).toNat)
          case atStart => exact ⟨0, -1, 0, Nat.zero_le _, rfl, X0, HB0, Lib.hid rfl, Lib.hid (fun _ => ⟨rfl, rfl⟩), Lib.hid (fun j e h => by omega)⟩
          case round =>
            clear X0 HB0
            obtain ⟨k, p, q, hk, rfl, hx, hbel, hrun, hz, hpq⟩ := hrel
            by_cases hlt : k < n
            · obtain ⟨b, off, e, rfl, hbw, he, c0, c1, c2, c3, c4⟩ := HR.out.at_ hlt
              have c0 := (hbel.out.cell (p := ⟨b, off + k * 5, none⟩) hbw).trans c0
              have c1 := (hbel.out.cell (p := ⟨b, off + k * 5 + 1, none⟩) hbw).trans c1
              have c2 := (hbel.out.cell (p := ⟨b, off + k * 5 + 2, none⟩) hbw).trans c2
              have c3 := (hbel.out.cell (p := ⟨b, off + k * 5 + 3, none⟩) hbw).trans c3
              have c4 := (hbel.out.cell (p := ⟨b, off + k * 5 + 4, none⟩) hbw).trans c4
              obtain ⟨l0, x0, x1, x2⟩ := hx.out
              have hwle : w.heap.size ≤ wr.heap.size := hbel.out.size
              go_wp2_with fail
              refine (CE.out e _).mono ?_
              rintro e1 w1 ⟨rfl, hb1⟩
              have HA1 := Lib.hid (below_a1 wr (.cells #[.int .i64 e.f, .int .i64 e.t, .int .i64 e.w, .int .i64 e.i, .int .i64 e.v] 77))
              have HB1 := Lib.hid (g_chain HA1.out hb1)
              have X1 := Lib.hid (hx.out.below HB1.out)
              have hl1 : wr.heap.size < w1.heap.size := by have := hb1.size; simp at this; omega
              have y0 : w1.cell? ⟨wr.heap.size, 0, none⟩ = some (.int .i64 e.f) := (hb1.cell (p := ⟨wr.heap.size, 0, none⟩) (by simp)).trans (by simp)
              have y3 : w1.cell? ⟨wr.heap.size, 3, none⟩ = some (.int .i64 e.i) := (hb1.cell (p := ⟨wr.heap.size, 3, none⟩) (by simp)).trans (by simp)
              obtain ⟨z0, z1, z2, z3⟩ := X1.out
              clear hb1 c0 c1 c2 c3 c4 l0 x0 x1 x2 hx
              have HQ := Lib.hid (runK_drop he.out hrun.out)
              clear hrun
              cases hv : kedgeB lo hi e with
              | false =>
                have HV : Hid (runK lo hi (-1) 0 es = false) := Lib.hid (by rw [← HQ.out, hv]; rfl)
                go_wp2
                go_ret
                rw [HV.out]
                exact ⟨rfl, g_chain hbel.out HB1.out⟩
              | true =>
                have hke := kedgeB_iff hv
                have hf0 : 0 ≤ e.f := hke.1
                clear hke
                cases ha : afterB p q e with
                | true =>
                  have HN : Hid (runK lo hi e.f e.i (es.drop (k + 1)) = runK lo hi (-1) 0 es) := Lib.hid (by rw [← HQ.out, hv, ha]; rfl)
                  have haf := afterB_iff ha
                  clear hv ha HQ
                  rcases Nat.eq_zero_or_pos k with hk0 | hpos
                  · have hk1 : decide (0 < k) = false := by simp; omega
                    have HK0 := Lib.hid hk0
                    clear hk0
                    go_wp2
                    go_quiet (fail)
                    rename Nat => nq
                    have HB2 := Lib.hid (below_drewN HB1.out nq)
                    have X2 := Lib.hid (X1.out.below (below_drewN (Below.refl _ w1) nq))
                    generalize w1.drewN nq = w2 at *
                    go_wp2
                    go_roundw
                    case rel => exact ⟨k + 1, e.f, e.i, by omega, by go_num, X2, Lib.hid (g_chain hbel.out HB2.out), HN, Lib.hid (fun h => by omega), Lib.hid (prev_next he.out)⟩
                    case measure => simp [intOf]; omega
                  · obtain ⟨j, hj⟩ : ∃ j, j + 1 = k := ⟨k - 1, by omega⟩
                    obtain ⟨b', off', e', hA, hbw', he', d0, d1, d2, d3, d4⟩ := HR.out.at_ (show j < n by omega)
                    injection hA with hA
                    injection hA with hA1 hA2
                    subst hA1 hA2
                    obtain ⟨rfl, rfl⟩ := hpq.out j e' hj.symm he'.out
                    have d0 := ((g_chain hbel.out HB1.out).cell (p := ⟨b, off + j * 5, none⟩) hbw).trans d0
                    have d3 := ((g_chain hbel.out HB1.out).cell (p := ⟨b, off + j * 5 + 3, none⟩) hbw).trans d3
                    have hj1 : (k : Int) - 1 = (j : Int) := by omega
                    have hj2 : decide (0 < k) = true := by simp; omega
                    have hj3 : j < n := by omega
                    have HJ := Lib.hid hj
                    clear d1 d2 d4 he' hpq hz hj hpos
                    rcases haf with h5 | ⟨h5, h6⟩
                    · have h8 : decide (e.f < e'.f) = false := by simp; omega
                      have h9 : (e'.f == e.f) = false := by simp; omega
                      go_wp2
                      go_quiet (fail)
                      rename Nat => nq
                      have HB2 := Lib.hid (below_drewN HB1.out nq)
                      have X2 := Lib.hid (X1.out.below (below_drewN (Below.refl _ w1) nq))
                      generalize w1.drewN nq = w2 at *
                      go_wp2
                      go_roundw
                      case rel => exact ⟨k + 1, e.f, e.i, by omega, by go_num, X2, Lib.hid (g_chain hbel.out HB2.out), HN, Lib.hid (fun h => by omega), Lib.hid (prev_next he.out)⟩
                      case measure => simp [intOf]; omega
                    · have h8 : decide (e.f < e'.f) = false := by simp; omega
                      have h9 : (e'.f == e.f) = true := by simp; omega
                      have h10 : decide (e.i ≤ e'.i) = false := by simp; omega
                      go_wp2
                      go_quiet (fail)
                      rename Nat => nq
                      have HB2 := Lib.hid (below_drewN HB1.out nq)
                      have X2 := Lib.hid (X1.out.below (below_drewN (Below.refl _ w1) nq))
                      generalize w1.drewN nq = w2 at *
                      go_wp2
                      go_roundw
                      case rel => exact ⟨k + 1, e.f, e.i, by omega, by go_num, X2, Lib.hid (g_chain hbel.out HB2.out), HN, Lib.hid (fun h => by omega), Lib.hid (prev_next he.out)⟩
                      case measure => simp [intOf]; omega
                | false =>
                  have HV : Hid (runK lo hi (-1) 0 es = false) := Lib.hid (by rw [← HQ.out, hv, ha]; rfl)
                  have haf := of_decide_eq_false ha
                  clear hv ha HQ
                  rcases Nat.eq_zero_or_pos k with rfl | hpos
                  · obtain ⟨rfl, rfl⟩ := hz.out rfl
                    exact absurd (.inl (by omega)) haf
                  · obtain ⟨j, hj⟩ : ∃ j, j + 1 = k := ⟨k - 1, by omega⟩
                    obtain ⟨b', off', e', hA, hbw', he', d0, d1, d2, d3, d4⟩ := HR.out.at_ (show j < n by omega)
                    injection hA with hA
                    injection hA with hA1 hA2
                    subst hA1 hA2
                    obtain ⟨rfl, rfl⟩ := hpq.out j e' hj.symm he'.out
                    have d0 := ((g_chain hbel.out HB1.out).cell (p := ⟨b, off + j * 5, none⟩) hbw).trans d0
                    have d3 := ((g_chain hbel.out HB1.out).cell (p := ⟨b, off + j * 5 + 3, none⟩) hbw).trans d3
                    have hj1 : (k : Int) - 1 = (j : Int) := by omega
                    have hj2 : decide (0 < k) = true := by simp; omega
                    have hj3 : j < n := by omega
                    have HJ := Lib.hid hj
                    clear d1 d2 d4 he' hpq hz hj hpos
                    rcases Int.lt_or_le e.f e'.f with h5 | h5
                    · clear haf
                      have h8 : decide (e.f < e'.f) = true := by simp; omega
                      go_wp2
                      go_quiet (fail)
                      rename Nat => nq
                      have HB2 := Lib.hid (below_drewN HB1.out nq)
                      have X2 := Lib.hid (X1.out.below (below_drewN (Below.refl _ w1) nq))
                      generalize w1.drewN nq = w2 at *
                      go_wp2
                      go_ret
                      rw [HV.out]
                      exact ⟨rfl, g_chain hbel.out HB2.out⟩
                    · have h6 : e'.f = e.f := by omega
                      have h7 : e.i ≤ e'.i := by omega
                      clear haf
                      have h8 : decide (e.f < e'.f) = false := by simp; omega
                      have h9 : (e'.f == e.f) = true := by simp; omega
                      have h10 : decide (e.i ≤ e'.i) = true := by simp; omega
                      go_wp2
                      go_quiet (fail)
                      rename Nat => nq
                      have HB2 := Lib.hid (below_drewN HB1.out nq)
                      have X2 := Lib.hid (X1.out.below (below_drewN (Below.refl _ w1) nq))
                      generalize w1.drewN nq = w2 at *
                      go_wp2
                      go_ret
                      rw [HV.out]
                      exact ⟨rfl, g_chain hbel.out HB2.out⟩
            · obtain rfl : k = n := by omega
              have HV : Hid (runK lo hi (-1) 0 es = true) := Lib.hid (by
                have h := hrun.out
                rw [List.drop_eq_nil_of_le (by rw [HEL.out]; exact Nat.le_refl _), runK] at h
                exact h.symm)
              go_wp2
              go_ret
              rw [HV.out]
              exact ⟨rfl, hbel.out⟩
        · have HV : Hid (shardB lo hi es = false) := Lib.hid (by simp [shardB, hel, h4])
          clear hr hel
          go_enter Try.func16, Try.ntmps16
          go_wp2
          go_ret
          rw [HV.out]
          exact ⟨g_bool (by first | rfl | (simp <;> omega)), HB0.out⟩
      · have HV : Hid (shardB lo hi es = false) := Lib.hid (by simp [shardB, h3])
        clear hr hel
        go_enter Try.func16, Try.ntmps16
        go_wp2
        go_ret
        rw [HV.out]
        exact ⟨g_bool (by first | rfl | (simp <;> omega)), HB0.out⟩
    · have HV : Hid (shardB lo hi es = false) := Lib.hid (by simp [shardB, h2])
      clear hr hel
      go_enter Try.func16, Try.ntmps16
      go_wp2
      go_ret
      rw [HV.out]
      exact ⟨g_bool (by first | rfl | (simp <;> omega)), HB0.out⟩
  · have HV : Hid (shardB lo hi es = false) := Lib.hid (by simp [shardB, h1])
    clear hr hel
    go_enter Try.func16, Try.ntmps16
    go_wp2
    go_ret
    rw [HV.out]
    exact ⟨g_bool (by first | rfl | (simp <;> omega)), HB0.out⟩
end Go.Proofs.Ytmbabbapcjphgaa
namespace Go.Proofs.Ytmbabbapcjphgaa
open Go.RowKit

set_option maxRecDepth 20000 in
set_option maxHeartbeats 8000000 in
theorem specShardBytes (lo hi : Int) (A : Option Addr) (n c : Nat) (es : List KE) (w : World) (hr : SlK w A n es) (hn : n ≤ 1048576) :
    Calls Try.prog 30 #[.agg #[.int .i64 lo, .int .i64 hi, .slice A n c]] w (PutRes w (shardB lo hi es) (shardY lo hi es)) := by
  have HS := Lib.hid hr
  have HL := Lib.hid hr.len
  have CO := Lib.hid (fun W (h : Below w.heap.size w W) => specShardOk lo hi A n c es W (hr.below h) hn)
  have B0 := Lib.hid (HBox.new w lo hi A n c 35)
  have H0 := Lib.hid (below_a1 w (.cells #[.int .i64 lo, .int .i64 hi, .slice A n c] 35))
  cases hv : shardB lo hi es with
  | false =>
    rw [hv] at CO
    have hy : shardY lo hi es = [] := by simp [shardY, hv]
    rw [hy]
    clear hr hv hy
    go_enter Try.func30, Try.ntmps30
    go_wp2_with fail
    refine (CO.out _ H0.out).mono ?_
    rintro e w1 ⟨rfl, hb⟩
    have HB := Lib.hid (g_chain H0.out hb)
    clear hb
    go_wp2
    go_ret2
    exact PutRes.nope w _ HB.out
  | true =>
    rw [hv] at CO
    obtain ⟨l0, l1, l2, l3, hrun⟩ := shardB_iff hv
    have HD := Lib.hid (dif_at l0 l2 es (-1) 0 ⟨0, lo, 0, 0, 0⟩ hrun (nr_first l1))
    have hy : Hid (shardY lo hi es = encTo lo hi es es.length) := Lib.hid (by unfold shardY encTo; rw [hv, if_pos rfl, List.take_length])
    have hn4 : n ≤ 400 := by rw [← HL.out]; exact l3
    have HN : Hid ((n : Int) = (es.length : Int)) := Lib.hid (by rw [HL.out])
    have o1 : numOk lo = true := by simp only [numOk, decide_eq_true_eq]; omega
    have o2 : numOk hi = true := by simp only [numOk, decide_eq_true_eq]; omega
    have o3 : numOk (n : Int) = true := by simp only [numOk, decide_eq_true_eq]; omega
    have C1 := Lib.hid (fun W => specPutVar none 0 0 lo [] W Rd.nil (by omega))
    have z1 := putVar_length [] lo
    have z2 := putVar_length [] hi
    have z3 := putVar_length [] (n : Int)
    simp only [List.length_nil] at z1 z2 z3
    have s1 := Lib.hid (putY_small lo)
    have s2 := Lib.hid (putY_small hi)
    have C2 := Lib.hid (fun W A c (h : Rd W A (putVar [] lo).length (putVar [] lo)) => specPutVar A _ c hi _ W h (by omega))
    have C3 := Lib.hid (fun W A c (h : Rd W A (putVar [] lo ++ putVar [] hi).length (putVar [] lo ++ putVar [] hi)) => specPutVar A _ c (n : Int) _ W h (by rw [List.length_append]; omega))
    rw [o1] at C1
    rw [o2, putVar_onto _ _ o2] at C2
    rw [o3, putVar_onto _ _ o3] at C3
    have HH : Hid (putVar [] lo ++ putVar [] hi ++ putVar [] (n : Int) = encTo lo hi es 0) := Lib.hid (by unfold encTo headY; rw [List.take_zero, encEs, List.append_nil, List.append_assoc, HN.out])
    generalize putVar [] lo = y1 at C1 C2 C3 HH s1 z1
    generalize putVar [] hi = y2 at C2 C3 HH s2 z2
    have s12 : Hid (∀ x ∈ y1 ++ y2, x < 256) := Lib.hid (fun x hx => by rcases List.mem_append.1 hx with hx | hx; exact s1.out x hx; exact s2.out x hx)
    generalize y1 ++ y2 = y12 at C2 C3 HH s12
    rw [HH.out] at C3
    have HSZ := Lib.hid (encTo_len lo hi es · l3)
    have HSM := Lib.hid (encTo_small lo hi es)
    have HST := Lib.hid (encTo_step lo hi es)
    generalize hy0 : encTo lo hi es 0 = y0 at C3
    have HY0 := Lib.hid hy0
    clear hr hv hrun o1 o2 o3 z1 z2 z3 HH hy0
    go_enter Try.func30, Try.ntmps30
    go_wp2_with fail
    refine (CO.out _ H0.out).mono ?_
    rintro e w1 ⟨rfl, hb⟩
    have B1 := Lib.hid (B0.out.below hb)
    have H1 := Lib.hid (g_chain H0.out hb)
    obtain ⟨b0, b1, b2, b3⟩ := B1.out
    clear hb
    go_wp2_with fail
    refine (C1.out _).mono ?_
    rintro e w2 ⟨A2, c2, rfl, ho, hb⟩
    have B2 := Lib.hid (B1.out.below hb)
    have H2 := Lib.hid (g_chain H1.out hb)
    have R2 := Lib.hid (Rd.of_own ho s1.out)
    clear hb ho b0 b1 b2 b3
    obtain ⟨b0, b1, b2, b3⟩ := B2.out
    go_wp2_with fail
    refine (C2.out _ _ _ R2.out).mono ?_
    rintro e w3 ⟨A3, c3, rfl, ho, hb⟩
    have B3 := Lib.hid (B2.out.below hb)
    have H3 := Lib.hid (g_chain H2.out hb)
    have R3 := Lib.hid (Rd.of_own ho s12.out)
    clear hb ho b0 b1 b2 b3
    obtain ⟨b0, b1, b2, b3⟩ := B3.out
    go_wp2_with fail
    refine (C3.out _ _ _ R3.out).mono ?_
    rintro e w4 ⟨A4, c4, rfl, ho, hb⟩
    have B4 := Lib.hid (B3.out.below hb)
    have H4 := Lib.hid (g_chain H3.out hb)
    have O4 := Lib.hid (own_monoG (lo' := w.heap.size) ho H3.out.size)
    have hw4 : w.heap.size < w4.heap.size := B4.out.lt
    clear hb ho b0 b1 b2 b3
    have K5 : Hid (KBlk (w4.alloc (.cells #[.int .i64 0, .int .i64 lo, .int .i64 0, .int .i64 0, .int .i64 0] 77)) w4.heap.size (lastK ⟨0, lo, 0, 0, 0⟩ (es.take 0))) := Lib.hid (KBlk.new w4 ⟨0, lo, 0, 0, 0⟩)
    have HB5 := Lib.hid (below_a1 w4 (.cells #[.int .i64 0, .int .i64 lo, .int .i64 0, .int .i64 0, .int .i64 0] 77))
    have B5 := Lib.hid (B4.out.below HB5.out)
    have H5 := Lib.hid (g_chain H4.out HB5.out)
    have O5 : Hid ((w4.alloc (.cells #[.int .i64 0, .int .i64 lo, .int .i64 0, .int .i64 0, .int .i64 0] 77)).ownsRow w.heap.size 5 1 (.slice A4 y0.length c4) y0.length (vb y0)) := Lib.hid (own_below O4.out HB5.out)
    obtain ⟨b0, b1, b2, b3⟩ := B4.out
    go_wp2
    clear b0 b1 b2 b3
    go_loopw [4, 8, 39] (fun b _ i wr => ∃ (j : Nat) (A1 : Option Addr) (c1 : Nat) (ys : List Nat), j ≤ n ∧ i = .int .i64 (j : Int) ∧ b = .slice A1 ys.length c1 ∧ Hid (ys = encTo lo hi es j) ∧ Hid (wr.ownsRow w.heap.size 5 1 (.slice A1 ys.length c1) ys.length (vb ys)) ∧ Hid (KBlk wr w4.heap.size (lastK ⟨0, lo, 0, 0, 0⟩ (es.take j))) ∧ Hid (HBox wr w.heap.size lo hi A n c) ∧ Hid (Below w.heap.size w wr)) (fun _ _ i _ => n - (intOf i).toNat)
    case atStart => exact ⟨0, A4, c4, y0, Nat.zero_le _, rfl, rfl, Lib.hid HY0.out.symm, O5, K5, B5, H5⟩
    case round =>
      clear O5 K5 B5 H5 HB5 O4 H4 B4 B3 H3 R3 B2 H2 R2 B1 H1
      obtain ⟨j, A1, c1, ys, hj, rfl, rfl, hys, hown, hkb, hbx, hbel⟩ := hrel
      by_cases hlt : j < n
      · obtain ⟨b, off, e, rfl, hbw, he, c00, c01, c02, c03, c04⟩ := (HS.out.below hbel.out).at_ hlt
        have hdd := (HD.out j e he.out).1
        have HNX := Lib.hid (HST.out j e he.out)
        have HLK : Hid (lastK ⟨0, lo, 0, 0, 0⟩ (es.take (j + 1)) = e) := Lib.hid (by rw [g_take es j e he.out, lastK_snoc])
        generalize lastK ⟨0, lo, 0, 0, 0⟩ (es.take j) = q at hdd HNX hkb
        obtain ⟨o1, o2, o3, o4⟩ := dif_ok hdd
        obtain ⟨d1, d2, d3, d4, d5, d6, d7, d8⟩ := hdd
        have hyl : ys.length ≤ 11221 := by rw [hys.out]; exact HSZ.out j
        have hysm : Hid (∀ x ∈ ys, x < 256) := Lib.hid (by rw [hys.out]; exact HSM.out j)
        have e1 := putVar_length [] (e.f - q.f)
        have e2 := putZig_length [] (e.t - q.t)
        have e3 := putVar_length [] e.w
        have e4 := putZig_length [] (e.i - q.i)
        simp only [List.length_nil] at e1 e2 e3 e4
        have t1 := Lib.hid (putY_small (e.f - q.f))
        have t2 := Lib.hid (putZ_small (e.t - q.t))
        have t3 := Lib.hid (putY_small e.w)
        have t4 := Lib.hid (putZ_small (e.i - q.i))
        unfold encE at HNX
        rw [← hys.out] at HNX
        have P1 := Lib.hid (fun W A c (h : Rd W A ys.length ys) => specPutVar A _ c (e.f - q.f) _ W h (by omega))
        rw [o1, putVar_onto _ _ o1] at P1
        generalize putVar [] (e.f - q.f) = x1 at P1 HNX e1 t1
        have P2 := Lib.hid (fun W A c (h : Rd W A (ys ++ x1).length (ys ++ x1)) => specPutZig A _ c (e.t - q.t) _ W h (by rw [List.length_append]; omega))
        rw [o2, putZig_onto _ _ o2] at P2
        generalize putZig [] (e.t - q.t) = x2 at P2 HNX e2 t2
        have P3 := Lib.hid (fun W A c (h : Rd W A (ys ++ x1 ++ x2).length (ys ++ x1 ++ x2)) => specPutVar A _ c e.w _ W h (by rw [List.length_append, List.length_append]; omega))
        rw [o3, putVar_onto _ _ o3] at P3
        generalize putVar [] e.w = x3 at P3 HNX e3 t3
        have P4 := Lib.hid (fun W A c (h : Rd W A (ys ++ x1 ++ x2 ++ x3).length (ys ++ x1 ++ x2 ++ x3)) => specPutZig A _ c (e.i - q.i) _ W h (by rw [List.length_append, List.length_append, List.length_append]; omega))
        rw [o4, putZig_onto _ _ o4] at P4
        generalize putZig [] (e.i - q.i) = x4 at P4 HNX e4 t4
        have u1 : Hid (∀ x ∈ ys ++ x1, x < 256) := Lib.hid (fun x hx => by rcases List.mem_append.1 hx with hx | hx; exact hysm.out x hx; exact t1.out x hx)
        have u2 : Hid (∀ x ∈ ys ++ x1 ++ x2, x < 256) := Lib.hid (fun x hx => by rcases List.mem_append.1 hx with hx | hx; exact u1.out x hx; exact t2.out x hx)
        have u3 : Hid (∀ x ∈ ys ++ x1 ++ x2 ++ x3, x < 256) := Lib.hid (fun x hx => by rcases List.mem_append.1 hx with hx | hx; exact u2.out x hx; exact t3.out x hx)
        have HNY : Hid (encTo lo hi es (j + 1) = ys ++ x1 ++ x2 ++ x3 ++ x4) := Lib.hid (by rw [HNX.out]; simp only [List.append_assoc])
        generalize ys ++ x1 = ya at P1 P2 P3 P4 u1 u2 u3 HNY
        generalize ya ++ x2 = yb at P2 P3 P4 u2 u3 HNY
        generalize yb ++ x3 = yc at P3 P4 u3 HNY
        generalize yc ++ x4 = yd at P4 HNY
        clear o1 o2 o3 o4 e1 e2 e3 e4 t1 t2 t3 t4 HNX he
        -- the edge in its own block
        have A1b := Lib.hid (below_a1 wr (.cells #[.int .i64 e.f, .int .i64 e.t, .int .i64 e.w, .int .i64 e.i, .int .i64 e.v] 77))
        have E1 := Lib.hid (KBlk.new wr e)
        have Q1 := Lib.hid (hkb.out.below A1b.out)
        have X1 := Lib.hid (hbx.out.below A1b.out)
        have G1 := Lib.hid (g_chain hbel.out A1b.out)
        have R1 := Lib.hid ((Rd.of_own hown.out hysm.out).below A1b.out)
        obtain ⟨q0, q1, q2, q3, q4⟩ := hkb.out.cells
        have hql : w4.heap.size < wr.heap.size := Blk.lt hkb.out
        go_wp2_with fail
        clear c00 c01 c02 c03 c04 q0 q1 q2 q3 q4
        refine (P1.out _ _ _ R1.out).mono ?_
        rintro e' wa ⟨Aa, ca, rfl, ho, hb⟩
        have E2 := Lib.hid (E1.out.below hb)
        have Q2 := Lib.hid (Q1.out.below hb)
        have X2 := Lib.hid (X1.out.below hb)
        have G2 := Lib.hid (g_chain G1.out hb)
        have R2 := Lib.hid (Rd.of_own ho u1.out)
        clear hb ho
        obtain ⟨q0, q1, q2, q3, q4⟩ := Q2.out.cells
        obtain ⟨c00, c01, c02, c03, c04⟩ := E2.out.cells
        go_wp2_with fail
        clear c00 c01 c02 c03 c04 q0 q1 q2 q3 q4
        refine (P2.out _ _ _ R2.out).mono ?_
        rintro e' wb ⟨Ab, cb, rfl, ho, hb⟩
        have E3 := Lib.hid (E2.out.below hb)
        have Q3 := Lib.hid (Q2.out.below hb)
        have X3 := Lib.hid (X2.out.below hb)
        have G3 := Lib.hid (g_chain G2.out hb)
        have R3 := Lib.hid (Rd.of_own ho u2.out)
        clear hb ho
        obtain ⟨q0, q1, q2, q3, q4⟩ := Q3.out.cells
        obtain ⟨c00, c01, c02, c03, c04⟩ := E3.out.cells
        go_wp2_with fail
        clear c00 c01 c02 c03 c04 q0 q1 q2 q3 q4
        refine (P3.out _ _ _ R3.out).mono ?_
        rintro e' wc ⟨Ac, cc, rfl, ho, hb⟩
        have E4 := Lib.hid (E3.out.below hb)
        have Q4 := Lib.hid (Q3.out.below hb)
        have X4 := Lib.hid (X3.out.below hb)
        have G4 := Lib.hid (g_chain G3.out hb)
        have R4 := Lib.hid (Rd.of_own ho u3.out)
        clear hb ho
        obtain ⟨q0, q1, q2, q3, q4⟩ := Q4.out.cells
        obtain ⟨c00, c01, c02, c03, c04⟩ := E4.out.cells
        go_wp2_with fail
        clear c00 c01 c02 c03 c04 q0 q1 q2 q3 q4
        refine (P4.out _ _ _ R4.out).mono ?_
        rintro e' wd ⟨Ad, cd, rfl, ho, hb⟩
        have E5 := Lib.hid (E4.out.below hb)
        have Q5 := Lib.hid (Q4.out.below hb)
        have X5 := Lib.hid (X4.out.below hb)
        have G5 := Lib.hid (g_chain G4.out hb)
        have O5 : Hid (wd.ownsRow w.heap.size 5 1 (.slice Ad yd.length cd) yd.length (vb yd)) := Lib.hid (own_monoG ho G4.out.size)
        clear hb ho
        obtain ⟨q0, q1, q2, q3, q4⟩ := Q5.out.cells
        obtain ⟨c00, c01, c02, c03, c04⟩ := E5.out.cells
        have f0 := Blk.frozen Q5.out 0
        have f1 := Blk.frozen Q5.out 1
        have f2 := Blk.frozen Q5.out 2
        have f3 := Blk.frozen Q5.out 3
        have f4 := Blk.frozen Q5.out 4
        have O6 := Lib.hid (own_lay5 O5.out (own_type O5.out Q5.out (by decide)) e)
        have Q6 := Lib.hid (Q5.out.lay e)
        have X6 := Lib.hid (X5.out.lay5 (g := w4.heap.size) (by omega) e)
        have G6 := Lib.hid (below_lay5 G5.out (b := w4.heap.size) (by omega) e)
        go_wp2
        go_roundw
        case rel => exact ⟨j + 1, Ad, cd, yd, by omega, by go_num, rfl, Lib.hid HNY.out.symm, O6, Lib.hid (by rw [HLK.out]; exact Q6.out), X6, G6⟩
        case measure => simp [intOf]; omega
      · obtain rfl : j = n := by omega
        go_wp2
        go_ret2
        have h1 := hy.out
        rw [HL.out, ← hys.out] at h1
        rw [h1]
        exact ⟨A1, c1, rfl, hown.out, hbel.out⟩
end Go.Proofs.Ytmbabbapcjphgaa
