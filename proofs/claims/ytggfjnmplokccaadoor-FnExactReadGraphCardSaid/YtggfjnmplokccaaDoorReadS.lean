/- The contract of the model's function that reads a graph's text. Condition: at most 2^20 bytes. -/
import Derived.Test.YtggfjnmplokccaaDoorLinesS
import Derived.Test.YtggfjnmplokccaaDoorReadBox
import Derived.Deep.RegionLaw
namespace Go.Proofs.YtggfjnmplokccaaDoor
open Go.RowKit

theorem nums_three {xs : List Int} (h : xs.length = 3) : ∃ a b c, xs = [a, b, c] := by
  match xs, h with
  | [a, b, c], _ => exact ⟨a, b, c, rfl⟩
theorem nums_first {xs : List Int} (h : xs.length = 1) : ∃ a, xs = [a] := by
  match xs, h with
  | [a], _ => exact ⟨a, rfl⟩

theorem SlI.three {w : World} {A : Option Addr} {a b c : Int} (h : SlI w A 3 [a, b, c]) : ∃ g off, A = some ⟨g, off, none⟩ ∧ g < w.heap.size ∧ w.cell? ⟨g, off, none⟩ = some (.int .i64 a) ∧ w.cell? ⟨g, off + 1, none⟩ = some (.int .i64 b) ∧ w.cell? ⟨g, off + 2, none⟩ = some (.int .i64 c) := by
  obtain ⟨g, off, rfl, hb, hc⟩ := h.row.lies (by omega)
  exact ⟨g, off, rfl, hb, hc 0 _ rfl, hc 1 _ rfl, hc 2 _ rfl⟩

set_option maxRecDepth 10000 in
set_option maxHeartbeats 8000000 in
theorem specRead (s : ByteArray) (w : World) (hs : s.size ≤ 1048576) : Calls Tryd.prog 5 #[.string s] w (ReadRes w (readG s)) := by
  by_cases hbig : 20000 < s.size
  · have HV := Lib.hid (readG_long hbig)
    go_enter Tryd.func5, Tryd.ntmps5
    go_wp2
    refine bodyPost_ret (v := .tuple #[.agg #[.int .i64 0, .slice none 0 0], .int .i64 2]) (by simp [results, Tryd.results5, go_sem]) rfl ?_
    rw [HV.out]
    exact ⟨none, 0, rfl, World.ownsRow_nil _ _ _ _, below_a1 _ _⟩
  · have CL := Lib.hid (fun W => specLines s W hs)
    have hmem := Lib.hid (linesOf_mem s)
    have hlen := linesOf_length s
    have CN := Lib.hid (fun p W (h : p.size ≤ 1048576) => specNums p W h)
    have HR0 := Lib.hid (fun h => readG_none (s := s) hbig h)
    have HR1 := Lib.hid (fun h r h1 h2 => readG_head (s := s) (h := h) (r := r) hbig h1 h2)
    have HR2 := Lib.hid (fun h r n h1 h2 h3 => readG_much (s := s) (h := h) (r := r) (n := n) hbig h1 h2 h3)
    have HR3 := Lib.hid (fun h r n h1 h2 h3 => readG_go (s := s) (h := h) (r := r) (n := n) hbig h1 h2 h3)
    generalize readG s = R at HR0 HR1 HR2 HR3
    generalize linesOf s = ls at CL hmem hlen HR0 HR1 HR2 HR3
    unfold PartsRes at CL
    obtain ⟨n, hn⟩ : ∃ n, n = ls.length := ⟨_, rfl⟩
    rw [← hn] at CL hlen
    go_enter Tryd.func5, Tryd.ntmps5
    have D0 := Lib.hid (DBox.new w (.int .i64 0) (.slice none 0 0) 24)
    have HB0 := Lib.hid (below_a1 w (.cells #[.int .i64 0, .slice none 0 0] 24))
    go_wp2_with fail
    refine (CL.out _).mono ?_
    rintro e w1 ⟨P, c, rfl, hop, hb1⟩
    have D1 := Lib.hid (D0.out.below hb1)
    have HB1 := Lib.hid (g_chain HB0.out hb1)
    have HP := Lib.hid (RdS.of_own hop)
    have hc := own_cap hop
    clear D0 HB0 hop hb1
    obtain ⟨l0, x0, x1, xf⟩ := D1.out
    have xf0 := xf 0
    have xf1 := xf 1
    cases ls with
    | nil =>
      obtain rfl : n = 0 := hn
      have HV := Lib.hid (HR0.out rfl)
      go_wp2
      refine bodyPost_ret (v := .tuple #[.agg #[.int .i64 0, .slice none 0 0], .int .i64 1]) (by simp [results, Tryd.results5, go_sem, x0, x1]) rfl ?_
      rw [HV.out]
      exact read_bad 1 HB1.out _ _
    | cons h r =>
      have hn1 : n ≤ r.length + 1 := by rw [hn, List.length_cons]; exact Nat.le_refl _
      have hn2 : r.length + 1 ≤ n := by rw [hn, List.length_cons]; exact Nat.le_refl _
      clear hn
      obtain ⟨b, off, p, rfl, hbw, hp, c0⟩ := HP.out.at_ (k := 0) (by omega)
      obtain rfl : h = p := by have := hp.out; simpa using this
      simp only [Nat.add_zero] at c0
      have hhs := hmem.out h (by simp)
      have CH := Lib.hid (fun W => CN.out h W (by omega))
      have hzz : ((n : Int) == 0) = false := by simp; omega
      have H1 := Lib.hid (fun h2 => HR1.out h r rfl h2)
      have H2 := Lib.hid (fun n h2 h3 => HR2.out h r n rfl h2 h3)
      have H3 := Lib.hid (fun n h2 h3 => HR3.out h r n rfl h2 h3)
      generalize numsOf h = xs at CH H1 H2 H3
      unfold NumsRes at CH
      obtain ⟨xn, hxn⟩ : ∃ xn, xn = xs.length := ⟨_, rfl⟩
      rw [← hxn] at CH
      clear HR0 HR1 HR2 HR3 hp xf
      have hpos : 0 < n := by omega
      go_wp2_with fail
      refine (CH.out _).mono ?_
      rintro e w2 ⟨V, cV, rfl, hov, hb2⟩
      have D2 := Lib.hid (D1.out.below hb2)
      have HB2 := Lib.hid (g_chain HB1.out hb2)
      have HP2 := Lib.hid (HP.out.below hb2)
      have HV2 := Lib.hid (SlI.of_own hov)
      clear l0 x0 x1 xf0 xf1 D1 HB1 HP hov hb2 c0
      obtain ⟨l0, x0, x1, xf⟩ := D2.out
      have xf0 := xf 0
      have xf1 := xf 1
      clear xf
      by_cases hx1 : xn = 1
      · subst hx1
        obtain ⟨x, rfl⟩ := nums_first hxn.symm
        obtain ⟨bv, ov, y, rfl, hbv, hy, cv⟩ := HV2.out.at_ (j := 0) (by omega)
        obtain rfl : x = y := by have := hy.out; simpa using this
        simp only [Nat.add_zero] at cv
        clear hxn hy
        by_cases h150 : 150 < x
        · have HV := Lib.hid (H2.out x rfl h150)
          go_wp2
          refine bodyPost_ret (v := .tuple #[.agg #[.int .i64 0, .slice none 0 0], .int .i64 2]) (by simp [results, Tryd.results5, go_sem, x0, x1]) rfl ?_
          rw [HV.out]
          exact read_bad 2 HB2.out _ _
        · have HV := Lib.hid (H3.out x rfl (by omega))
          obtain ⟨P', hsl, hrd⟩ := rest_from HP2.out (by omega) hc
          obtain ⟨m, hm⟩ : ∃ m, m = n - 1 := ⟨_, rfl⟩
          rw [← hm] at hsl hrd
          have hml : r.length = m := by omega
          have HRD := Lib.hid (show RdS w2 P' m r from by simpa using hrd)
          have G3 := Lib.hid (DBox.new w2 (.int .i64 x) (.slice none 0 0) 24)
          have D3 := Lib.hid (D2.out.alloc (.cells #[.int .i64 x, .slice none 0 0] 24))
          have HB3 := Lib.hid (g_chain HB2.out (below_a1 w2 (.cells #[.int .i64 x, .slice none 0 0] 24)))
          have HRD3 := Lib.hid (HRD.out.below (below_a1 w2 (.cells #[.int .i64 x, .slice none 0 0] 24)))
          have hmm := Lib.hid (fun p (hp : p ∈ r) => hmem.out p (List.mem_cons_of_mem _ hp))
          have hs3 : w.heap.size < w2.heap.size := l0
          have hm20 : m ≤ 20000 := by omega
          have HPL := Lib.hid (fun hm0 : 0 < m => hrd.lt hm0)
          clear hrd HRD H1 H2 H3 CH hmem HP2 hbw HV2 hm hn1 hn2 hpos hzz D2 HB2 l0 x0 x1 xf0 xf1
          obtain ⟨l0, x0, x1, xf⟩ := D3.out
          have xf0 := xf 0
          have xf1 := xf 1
          clear xf
          obtain ⟨i0, hi, hz0, hz1, hz2⟩ := info_parts Tryd.infoEdge
          go_wp2
          clear l0 x0 x1 xf0 xf1 hsl
          have hg0 : w2.heap.size < (w2.alloc (.cells #[.int .i64 x, .slice none 0 0] 24)).heap.size := G3.out.lt
          generalize w2.alloc (.cells #[.int .i64 x, .slice none 0 0] 24) = W0 at G3 D3 HB3 HRD3 hg0 ⊢
          go_loopw [40] (fun i wr => ∃ (k : Nat) (acc : List GE) (A : Option Addr) (ca : Nat), k ≤ m ∧ i = .int .i64 k ∧ Hid (R = readE x acc (r.drop k)) ∧ acc.length ≤ 400 ∧ Hid (DBox wr w2.heap.size (.int .i64 x) (.slice A acc.length ca)) ∧ Hid (wr.ownsRow W0.heap.size 36 3 (.slice A acc.length ca) acc.length (acc.flatMap GE.cells)) ∧ Hid (W0.grownBy wr (some w2.heap.size))) (fun i _ => m - (intOf i).toNat)
          case atStart => exact ⟨0, [], none, 0, by omega, rfl, HV, by simp, G3, Lib.hid (World.ownsRow_nil _ _ _ _), Lib.hid (World.grownBy.refl _ _)⟩
          case round =>
            clear G3
            obtain ⟨k, acc, A, ca, hk, rfl, HRE, hacc, hgb, hown, hgr⟩ := hrel
            have hrd := Lib.hid (show k < m → RdS wr P' m r from fun hkm => HRD3.out.other hgr.out (fun b off sp h1 h2 => by
              have := HPL.out (by omega) b off sp h1
              injection h2 with h2
              omega))
            have hdb := Lib.hid (D3.out.grown hgr.out (by intro hh; injection hh with hh; omega))
            have hbel : Hid (Below w.heap.size w wr) := Lib.hid (HB3.out.grown hgr.out HB3.out.size (fun q hq => by injection hq with hq; omega))
            by_cases hlt : k < m
            · obtain ⟨b', off', p, rfl, hbw, hp, c0⟩ := (hrd.out hlt).at_ hlt
              have hpm : p ∈ r := List.mem_of_getElem? hp.out
              have CQ := Lib.hid (fun W => CN.out p W (by have := hmm.out p hpm; omega))
              have HRE2 : Hid (R = readE x acc (p :: r.drop (k + 1))) := Lib.hid (by rw [HRE.out, g_drop r k p hp.out])
              have HE1 := Lib.hid (fun h => edgeL_len (N := x) (s := p) h)
              have HE2 := Lib.hid (fun a b c h => edgeL_three (N := x) (s := p) (a := a) (b := b) (c := c) h)
              generalize numsOf p = ys at CQ HE1 HE2
              unfold NumsRes at CQ
              obtain ⟨yn, hyn⟩ : ∃ yn, yn = ys.length := ⟨_, rfl⟩
              rw [← hyn] at CQ
              have HYN := Lib.hid hyn
              clear hyn hpm HRE
              go_wp2_with fail
              refine (CQ.out _).mono ?_
              rintro e w4 ⟨V2, c2, rfl, hov2, hb4⟩
              have hgb4 := Lib.hid (hgb.out.below hb4)
              have hown4 := Lib.hid (own_below hown.out hb4)
              have hgr4 := Lib.hid (grown_below hgr.out hb4)
              have hdb4 := Lib.hid (hdb.out.below hb4)
              have hbel4 := Lib.hid (g_chain hbel.out hb4)
              have HV4 := Lib.hid (SlI.of_own hov2)
              have HAV : Hid (∀ b off sp, V2 = some ⟨b, off, sp⟩ → (Value.slice A acc.length ca).ownBlock ≠ some b ∧ w2.heap.size ≠ b) := Lib.hid (fun b off sp h1 => by
                have h3 := (hov2.lt b (by rw [h1]; rfl)).1
                have h5 := hgr.out.size
                refine ⟨fun h2 => ?_, by omega⟩
                have h4 := (hown.out.lt b h2).2
                omega)
              clear hgb hown hgr hdb hbel hb4 hov2 c0 hrd
              obtain ⟨l0, x0, x1, xf⟩ := hdb4.out
              have xf0 := xf 0
              have xf1 := xf 1
              obtain ⟨gl, g0, g1, gf⟩ := hgb4.out
              have gf0 := gf 0
              have gf1 := gf 1
              clear xf gf
              by_cases hy3 : yn = 3
              · subst hy3
                obtain ⟨a, b, c, rfl⟩ := nums_three HYN.out.symm
                obtain ⟨gv, ov, rfl, hgv, v0, v1, v2⟩ := HV4.out.three
                have HE := Lib.hid (HE2.out a b c rfl)
                clear HE1 HE2 HV4 HYN CQ
                have HBAD : Hid (¬ (a < x ∧ b < x ∧ c ≤ 1000) → R = badG 1) := Lib.hid (fun hh => by rw [HRE2.out]; exact readE_none (by rw [HE.out, if_neg hh]))
                by_cases h1 : a < x
                · by_cases h2 : b < x
                  · by_cases h3 : c ≤ 1000
                    · have HS : Hid (edgeL x p = some ⟨a, b, c⟩) := Lib.hid (by rw [HE.out, if_pos ⟨h1, h2, h3⟩])
                      have D1 := Lib.hid (show decide (x ≤ a) = false by simp; omega)
                      have D2 := Lib.hid (show decide (x ≤ b) = false by simp; omega)
                      have D3 := Lib.hid (show decide (1000 < c) = false by simp; omega)
                      by_cases h4 : acc.length = 400
                      · have HV := Lib.hid (HRE2.out.trans (readE_full HS.out h4))
                        go_wp2
                        have d1 := D1.out
                        have d2 := D2.out
                        have d3 := D3.out
                        go_region
                        all_goals
                          go_wp2
                          refine bodyPost_ret (v := .tuple #[.agg #[.int .i64 0, .slice none 0 0], .int .i64 2]) (by simp [results, Tryd.results5, go_sem, x0, x1]) rfl ?_
                          rw [HV.out]
                          exact (read_bad 2 hbel4.out _ _).drew
                      · have HV := Lib.hid (HRE2.out.trans (readE_step HS.out h4))
                        have HGV : Hid ((Value.slice A acc.length ca).ownBlock ≠ some gv) := Lib.hid (HAV.out gv ov none rfl).1
                        have hg2v := (HAV.out gv ov none rfl).2
                        have HNE : Hid ((Value.slice A acc.length ca).ownBlock ≠ some w2.heap.size) := Lib.hid (fun hh => by have := (hown4.out.lt _ hh).1; omega)
                        have hne : ((acc.length : Int) == 400) = false := by simp; omega
                        go_wp2
                        have d1 := D1.out
                        have d2 := D2.out
                        have d3 := D3.out
                        go_region
                        all_goals
                          go_wp2
                          go_region_law (refine step_append_any _ (by rfl) (.tmp 77) (.tmp 88) _ (by rfl) W0.heap.size 36 i0 _ 3 24 Tryd.underlying22 hi hz0 hz1 hz2 rfl (by omega) (.slice A acc.length ca) acc.length (acc.flatMap GE.cells) (by rfl) (hown4.out.alloc _) (w4.heap.size + 1) (some ⟨w4.heap.size, 0, none⟩) 1 1 [.int .i64 a, .int .i64 b, .int .i64 c] (by rfl) (three_reads _ _ _ _ _ _ rfl) (GE.cells_one ⟨a, b, c⟩) (by simp only [maxLen]; omega) (by omega) (by have := hgr4.out.size; simp; omega) ?_; intro v3 w5 hown3 hg3 hat3; obtain ⟨A3, c3, rfl, hnc3⟩ := own_formG hown3; have hgb5 : DBox w5 w2.heap.size (.int .i64 x) (.slice A acc.length ca) := (by first | exact (hgb4.out.alloc _).grown hg3 HNE.out | exact (hgb4.out.alloc _).drew.grown hg3 HNE.out | exact (hgb4.out.alloc _).drew.drew.grown hg3 HNE.out); obtain ⟨gl5, g50, g51, gf5⟩ := hgb5; have g5f := gf5 1)
                          all_goals
                            have HG5 : Hid (W0.grownBy w5 (some w2.heap.size)) := Lib.hid (by first | exact grown_up (grown_below hgr4.out (below_a1 _ _)) hg3 (fun j hj => (hown4.out.lt j hj).1) | exact grown_up (grown_drew (grown_below hgr4.out (below_a1 _ _))) hg3 (fun j hj => (hown4.out.lt j hj).1) | exact grown_up (grown_drew (grown_drew (grown_below hgr4.out (below_a1 _ _)))) hg3 (fun j hj => (hown4.out.lt j hj).1))
                            have HO5 := Lib.hid (own_lowG hown3 (p := ⟨w2.heap.size, 1, none⟩) hg0 (.slice A3 (acc.length + 1) c3))
                            have HD5 := Lib.hid (DBox.set1 ⟨gl5, g50, g51, gf5⟩ (.slice A3 (acc.length + 1) c3))
                            clear hg3 hown3 hat3 g50 g51 gf5 g5f
                            go_wp2
                            go_roundw
                            case rel => exact ⟨k + 1, acc ++ [⟨a, b, c⟩], A3, c3, by omega, by go_num, HV, by rw [List.length_append]; simp; omega, Lib.hid (by rw [List.length_append]; first | exact HD5.out | exact HD5.out.drew), Lib.hid (by rw [List.length_append, flat_one]; exact HO5.out), Lib.hid (by first | exact grown_set HG5.out _ | exact grown_drew (grown_set HG5.out _))⟩
                            case measure => simp [intOf]; omega
                    · have HV := Lib.hid (HBAD.out (by omega))
                      have D1 := Lib.hid (show decide (x ≤ a) = false by simp; omega)
                      have D2 := Lib.hid (show decide (x ≤ b) = false by simp; omega)
                      have D3 := Lib.hid (show decide (1000 < c) = true by simp; omega)
                      go_wp2
                      have d1 := D1.out
                      have d2 := D2.out
                      have d3 := D3.out
                      go_region
                      all_goals
                        go_wp2
                        refine bodyPost_ret (v := .tuple #[.agg #[.int .i64 0, .slice none 0 0], .int .i64 1]) (by simp [results, Tryd.results5, go_sem, x0, x1]) rfl ?_
                        rw [HV.out]
                        exact (read_bad 1 hbel4.out _ _).drew
                  · have HV := Lib.hid (HBAD.out (by omega))
                    have D1 := Lib.hid (show decide (x ≤ a) = false by simp; omega)
                    have D2 := Lib.hid (show decide (x ≤ b) = true by simp; omega)
                    go_wp2
                    have d1 := D1.out
                    have d2 := D2.out
                    go_region
                    all_goals
                      go_wp2
                      refine bodyPost_ret (v := .tuple #[.agg #[.int .i64 0, .slice none 0 0], .int .i64 1]) (by simp [results, Tryd.results5, go_sem, x0, x1]) rfl ?_
                      rw [HV.out]
                      exact (read_bad 1 hbel4.out _ _).drew
                · have HV := Lib.hid (HBAD.out (by omega))
                  have D1 := Lib.hid (show decide (x ≤ a) = true by simp; omega)
                  go_wp2
                  have d1 := D1.out
                  go_region
                  all_goals
                    go_wp2
                    refine bodyPost_ret (v := .tuple #[.agg #[.int .i64 0, .slice none 0 0], .int .i64 1]) (by simp [results, Tryd.results5, go_sem, x0, x1]) rfl ?_
                    rw [HV.out]
                    exact (read_bad 1 hbel4.out _ _).drew
              · have HV : Hid (R = badG 1) := Lib.hid (by rw [HRE2.out]; exact readE_none (HE1.out (by rw [← HYN.out]; exact hy3)))
                have hne : ((yn : Int) == 3) = false := by simp; omega
                go_wp2
                refine bodyPost_ret (v := .tuple #[.agg #[.int .i64 0, .slice none 0 0], .int .i64 1]) (by simp [results, Tryd.results5, go_sem, x0, x1]) rfl ?_
                rw [HV.out]
                exact read_bad 1 hbel4.out _ _
            · obtain rfl : k = m := by omega
              have HV : Hid (R = ⟨x, acc, 0⟩) := Lib.hid (by rw [HRE.out, List.drop_of_length_le (by omega)]; rfl)
              obtain ⟨l0, x0, x1, xf⟩ := hdb.out
              have xf0 := xf 0
              have xf1 := xf 1
              obtain ⟨gl, g0, g1, gf⟩ := hgb.out
              have gf0 := gf 0
              have gf1 := gf 1
              clear xf gf
              go_wp2
              refine bodyPost_ret (v := .tuple #[.agg #[.int .i64 x, .slice A acc.length ca], .int .i64 0]) (by simp [results, Tryd.results5, go_sem, x0, x1]) rfl ?_
              rw [HV.out]
              exact read_fine hbel.out hown.out rfl (by omega) _ _
      · have HV := Lib.hid (H1.out (by rw [← hxn]; exact hx1))
        have hne : ((xn : Int) == 1) = false := by simp; omega
        go_wp2
        refine bodyPost_ret (v := .tuple #[.agg #[.int .i64 0, .slice none 0 0], .int .i64 1]) (by simp [results, Tryd.results5, go_sem, x0, x1]) rfl ?_
        rw [HV.out]
        exact read_bad 1 HB2.out _ _
end Go.Proofs.YtggfjnmplokccaaDoor
