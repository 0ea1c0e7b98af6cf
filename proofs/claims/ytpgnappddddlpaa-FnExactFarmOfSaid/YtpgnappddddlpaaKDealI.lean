/- The contract of the program's Shards. Condition: at most 2^20 edges and ends. -/
import Derived.Test.YtpgnappddddlpaaCOH
import Derived.Test.YtpgnappddddlpaaCOC
import Derived.Test.YtpgnappddddlpaaCOL
import Derived.Test.YtpgnappddddlpaaCOB
import Derived.Test.YtpgnappddddlpaaCOJ
import Derived.Deep.RegionLaw
import Derived.Deep.DeepCutAuto
import Derived.Deep.RegionHeld3
namespace Go.Proofs.Ytpgnappddddlpaa
open Go.RowKit Go.Maps

theorem zeroEdgeR (w : World) : (zeroValue 145).run Try.prog w = .ok (.agg #[.int .i64 0, .int .i64 0, .int .i64 0]) w := by kernel_rfl
/-- The load of the row that the round turns, under a name: so that the walk branches over it. -/
def ld76 : Op := .load 83 (.tmp 76)
attribute [local go_sem] ld76
set_option maxRecDepth 20000 in
set_option maxHeartbeats 80000000 in
theorem implShards (N : Int) (A : Option Addr) (n c : Nat) (es : List GE) (E : Option Addr) (m d : Nat) (ends : List Int) (size : Int) (w : World) (hr : SlG w A n es) (hn : n ≤ 1048576) (hI : SlI w E m ends) (hm : m ≤ 1048576) (hsw : size ≤ 9223372036854775807) :
    Calls Try.prog 76 #[.agg #[.int .i64 N, .slice A n c], .slice E m d, .int .i64 size] w (MadeHs w (shardsR N es ends size)) := by
  obtain ⟨i0, hi, hz0, hz1, hz2⟩ := info_parts Try.infoRec
  have HEL := Lib.hid hr.len
  have HIL := Lib.hid hI.len
  have HR := Lib.hid hr
  have HI := Lib.hid hI
  have CG := Lib.hid (fun W (h : Below w.heap.size w W) => implGraphOk N A n c es W (hr.below h) hn)
  have CN := Lib.hid (fun W (h : Below w.heap.size w W) => implEndsOk N E m d ends W (hI.below h) hm)
  have HB0 := Lib.hid (below_a1 w (.cells #[.int .i64 N, .slice A n c] 58))
  clear hr hI
  cases hg : graphB N es with
  | false =>
    rw [shardsR_no (.inl hg)]
    rw [hg] at CG
    clear hg
    go_enter Try.func76, Try.ntmps76
    go_wp2_with fail
    refine (CG.out _ HB0.out).mono ?_
    rintro e w1 ⟨rfl, hb1⟩
    go_wp2
    go_ret
    exact hs_none _ _ (g_chain HB0.out hb1)
  | true =>
    cases hen : endsB N ends with
    | false =>
      rw [shardsR_no (.inr (.inl hen))]
      rw [hg] at CG
      rw [hen] at CN
      clear hg hen
      go_enter Try.func76, Try.ntmps76
      go_wp2_with fail
      refine (CG.out _ HB0.out).mono ?_
      rintro e w1 ⟨rfl, hb1⟩
      have HB1 := Lib.hid (g_chain HB0.out hb1)
      obtain ⟨l0, x0, x1⟩ := (NBox.new w N A n c 58).below hb1
      clear hb1
      go_wp2_with fail
      refine (CN.out _ HB1.out).mono ?_
      rintro e w2 ⟨rfl, hb2⟩
      go_wp2
      go_ret
      exact hs_none _ _ (g_chain HB1.out hb2)
    | true =>
      by_cases hsz : 1 ≤ size
      · have HG := Lib.hid hg
        have HN := Lib.hid hen
        have hn4 : n ≤ 400 := by have := (graphB_iff hg).2.2.1; have := HEL.out; omega
        rw [shardsR_yes hg hen hsz]
        rw [hg] at CG
        rw [hen] at CN
        clear hg hen
        go_enter Try.func76, Try.ntmps76
        go_wp2_with fail
        refine (CG.out _ HB0.out).mono ?_
        rintro e w1 ⟨rfl, hb1⟩
        have HB1 := Lib.hid (g_chain HB0.out hb1)
        have X1 := Lib.hid ((NBox.new w N A n c 58).below hb1)
        obtain ⟨l0, x0, x1⟩ := X1.out
        clear hb1
        go_wp2_with fail
        refine (CN.out _ HB1.out).mono ?_
        rintro e w2 ⟨rfl, hb2⟩
        have HB2 := Lib.hid (g_chain HB1.out hb2)
        have X2 := Lib.hid (X1.out.below hb2)
        have hw2 : w.heap.size < w2.heap.size := X2.out.lt
        clear hb2 l0 x0 x1 X1 HB1 CG CN
        obtain ⟨l0, x0, x1⟩ := X2.out
        have hmm := @run_makeMap Try.prog
        go_wp2
        have M3 := Lib.hid (ByRec.new w2 ends es)
        have X3 := Lib.hid (X2.out.below (below_a1 w2 (.map #[] 0)))
        have HB3 := Lib.hid (g_chain HB2.out (below_a1 w2 (.map #[] 0)))
        clear l0 x0 x1
        go_loopw [7, 35] (fun u i wr => ∃ (k : Nat) (P : Option Addr) (cP : Nat), k ≤ n ∧ i = .int .i64 k ∧ u = .slice P k cP ∧ Hid (wr.ownsRow (w2.heap.size + 1) 150 3 (.slice P k cP) k ((recsK ends es k).flatMap GE.cells)) ∧ Hid (ByRec wr w2.heap.size k ends es k) ∧ Hid (NBox wr w.heap.size N A n c) ∧ w2.heap.size + 1 ≤ wr.heap.size ∧ Hid (Below w.heap.size w wr)) (fun _ i _ => n - (intOf i).toNat)
        case atStart => exact ⟨0, none, 0, Nat.zero_le _, rfl, rfl, Lib.hid (World.ownsRow_nil _ _ _ _), M3, X3, by simp, HB3⟩
        case round =>
          rename World => W3
          clear M3 X3 HB3
          obtain ⟨k, P, cP, hk, rfl, rfl, hown, hmap, hx, hw23, hbel⟩ := hrel
          by_cases hlt : k < n
          · obtain ⟨b, off, e, rfl, hbw, he, c0, c1, c2⟩ := HR.out.at_ hlt
            have c0 := (hbel.out.cell (p := ⟨b, off + k * 3, none⟩) hbw).trans c0
            have c1 := (hbel.out.cell (p := ⟨b, off + k * 3 + 1, none⟩) hbw).trans c1
            have c2 := (hbel.out.cell (p := ⟨b, off + k * 3 + 2, none⟩) hbw).trans c2
            have HST := Lib.hid (recsK_step (ends := ends) he.out)
            have CI := Lib.hid (fun W (h : Below w.heap.size w W) => implIv E m d ends e.t W (HI.out.below h) hm)
            have CP := Lib.hid (fun W => place_any (ivE ends e.t) e.f (k : Int) W)
            obtain ⟨iv, hiv⟩ : ∃ iv, ivE ends e.t = iv := ⟨_, rfl⟩
            have HIV := Lib.hid hiv
            rw [hiv] at CI HST CP
            clear hiv
            have HBA := Lib.hid (below_a1 W3 (.cells #[.int .i64 e.f, .int .i64 e.t, .int .i64 e.w] 145))
            have EB : Hid (RBox (W3.alloc (.cells #[.int .i64 e.f, .int .i64 e.t, .int .i64 e.w] 145)) W3.heap.size e) := Lib.hid ⟨by simp, by simp, by simp, by simp⟩
            have hown1 := Lib.hid (own_below hown.out HBA.out)
            have hmap1 := Lib.hid (hmap.out.below HBA.out)
            have hx1 := Lib.hid (hx.out.below HBA.out)
            have hbel1 := Lib.hid (g_chain hbel.out HBA.out)
            have hON := Lib.hid (GE.cells_one ⟨iv, e.f, (k : Int)⟩)
            obtain ⟨eb, eb0, eb1, eb2⟩ := EB.out
            go_wp2
            have HOB : Hid (∀ q, (Value.slice P k cP).ownBlock = some q → w2.heap.size + 1 ≤ q ∧ q < W3.heap.size) := Lib.hid (fun q hq => hown.out.lt q hq)
            clear c0 c1 c2 hown hx hmap
            have hw34 : w2.heap.size + 1 ≤ (W3.alloc (.cells #[.int .i64 e.f, .int .i64 e.t, .int .i64 e.w] 145)).heap.size := by simp; omega
            have hw35 : W3.heap.size < (W3.alloc (.cells #[.int .i64 e.f, .int .i64 e.t, .int .i64 e.w] 145)).heap.size := by simp
            have EK := Lib.hid (Blk.new W3 #[.int .i64 e.f, .int .i64 e.t, .int .i64 e.w] 145)
            generalize W3.alloc (.cells #[.int .i64 e.f, .int .i64 e.t, .int .i64 e.w] 145) = W4 at *
            go_upto_region 8 with fail
            go_cut [11] (fun s11 wx => ∃ rb : Nat, s11 = .pointer (some ⟨rb, 0, none⟩) ∧ Hid (Blk wx rb #[.int .i64 iv, .int .i64 e.f, .int .i64 (k : Int)] 150) ∧ Hid (W4.heap.size ≤ rb) ∧ Hid (Below W4.heap.size W4 wx))
            case first =>
              go_region_law (first
                | (go_simp; go_at_call 124; ((with_reducible refine (CI.out _ (by first | exact hbel1.out | exact hbel1.out.drew | exact g_chain hbel1.out.drew (below_a1 _ _))).mono ?_)); rintro e1 w5 ⟨rfl, hb5⟩; have HB5 : Hid (Below W4.heap.size W4 w5) := Lib.hid (by first | exact (below_drewN (Below.refl _ W4) 1).trans hb5 | exact hb5 | exact g_chain (g_chain (below_drewN (Below.refl _ W4) 1) (below_a1 _ _)) hb5); obtain ⟨el, e0, e1x, e2⟩ := EB.out.below HB5.out; (first | (have QA : Hid (Blk w5 W4.heap.size #[.int .i64 0, .int .i64 0, .int .i64 0] 150) := Lib.hid ((Blk.new W4.drew #[.int .i64 0, .int .i64 0, .int .i64 0] 150).below hb5); have qa0 := QA.out.cell (i := 0) rfl; have qa1 := QA.out.cell (i := 1) rfl; have qa2 := QA.out.cell (i := 2) rfl; have qf0 := QA.out.frozen 0; have qf1 := QA.out.frozen 1; have qf2 := QA.out.frozen 2) | skip))
                | (go_simp; go_at_call 123; ((with_reducible refine (CP.out _).mono ?_)); rintro e3 w6 ⟨rfl, hb6⟩; have HB6 : Hid (Below W4.heap.size W4 w6) := Lib.hid (by first | exact g_chain HB5.out hb6 | exact g_chain (g_chain HB5.out (below_a1 _ _)) hb6); (first | (have QB : Hid (Blk w6 W4.heap.size #[.int .i64 0, .int .i64 0, .int .i64 0] 150) := Lib.hid (QA.out.keep (hb6.block _ QA.out.lt)); have qb0 := QB.out.cell (i := 0) rfl; have qb1 := QB.out.cell (i := 1) rfl; have qb2 := QB.out.cell (i := 2) rfl; have qg0 := QB.out.frozen 0; have qg1 := QB.out.frozen 1; have qg2 := QB.out.frozen 2) | (have QB : Hid (Blk w6 w5.heap.size #[.int .i64 0, .int .i64 0, .int .i64 0] 150) := Lib.hid ((Blk.new w5 #[.int .i64 0, .int .i64 0, .int .i64 0] 150).below hb6); have qb0 := QB.out.cell (i := 0) rfl; have qb1 := QB.out.cell (i := 1) rfl; have qb2 := QB.out.cell (i := 2) rfl; have qg0 := QB.out.frozen 0; have qg1 := QB.out.frozen 1; have qg2 := QB.out.frozen 2) | skip)))
              all_goals
                go_wp2_with fail
                go_meet
                refine ⟨_, rfl, Lib.hid ?_, Lib.hid ?_, Lib.hid ?_⟩
                · first
                  | exact Blk.new _ _ _
                  | exact ((QB.out.set 0 _).set 1 _).set 2 _
                · first
                  | exact Nat.le_refl _
                  | exact HB5.out.size
                  | exact HB6.out.size
                · repeat (first | exact HB6.out | exact g_chain HB6.out (below_a1 _ _) | refine Below.setCell ?_ (by first | exact Nat.le_refl _ | exact HB5.out.size | exact HB6.out.size) _)
            case rest =>
              obtain ⟨rb, rfl, hrb, hrl, hb7⟩ := hcut
              have hwk := rec_wf HG.out HN.out (by rw [HIL.out]; exact hm) he.out
              rw [HIV.out] at hwk
              have hkey := keyRec hwk.1 hwk.2.1 hwk.2.2
              have HWF := Lib.hid (fun (j : Nat) (x : GE) (_ : j ≤ k) (h : es[j]? = some x) => rec_wf HG.out HN.out (by rw [HIL.out]; exact hm) h)
              have r0 := hrb.out.cell (i := 0) rfl
              have r1 := hrb.out.cell (i := 1) rfl
              have r2 := hrb.out.cell (i := 2) rfl
              have hl7 := hrb.out.lt
              have hz7 : W4.heap.size ≤ wc.heap.size := hb7.out.size
              have hrl2 : W4.heap.size ≤ rb := hrl.out
              have HAL := Lib.hid (below_a1 wc (.cells #[.int .i64 iv, .int .i64 e.f, .int .i64 (k : Int)] 150))
              have R8 := Lib.hid (own_below (own_below hown1.out hb7.out) HAL.out)
              have B8 := Lib.hid (g_chain (g_chain hbel1.out hb7.out) HAL.out)
              have M8 := Lib.hid ((hmap1.out.below hb7.out).below HAL.out)
              have X8 := Lib.hid ((hx1.out.below hb7.out).below HAL.out)
              have E8 := Lib.hid ((EK.out.below hb7.out).below HAL.out)
              have RB8 := Lib.hid (hrb.out.below HAL.out)
              clear hwk
              obtain ⟨D, hD, hDm, hDa⟩ := M8.out.map
              have HD := Lib.hid hD
              have HDm := Lib.hid hDm
              have HDa := Lib.hid hDa
              clear hD hDm hDa M8
              go_wp2_with (first
                | (at_builtin; refine wpList_append_any _ rfl (.tmp 48) (.tmp 50) 148 rfl (w2.heap.size + 1) 150 i0 _ 3 24 Try.underlying148 hi hz0 hz1 hz2 rfl (by omega) _ k ((recsK ends es k).flatMap GE.cells) rfl R8.out (wc.heap.size + 1) (some ⟨wc.heap.size, 0, none⟩) 1 1 [.int .i64 iv, .int .i64 e.f, .int .i64 (k : Int)] rfl (three_reads _ _ _ _ _ _ rfl) hON.out (by simp only [maxLen]; omega) (by omega) (by simp; omega) ?_; intro v3 w9 hown3 hg3 hat3; obtain ⟨P3, c3, rfl, -⟩ := own_formG hown3; have RB9 := Lib.hid (RB8.out.grown hg3 (fun hh => by have := (HOB.out _ hh).2; omega)); have E9 := Lib.hid (E8.out.grown hg3 (fun hh => by have := (HOB.out _ hh).2; omega)); have s0 := RB9.out.cell (i := 0) rfl; have s1 := RB9.out.cell (i := 1) rfl; have s2 := RB9.out.cell (i := 2) rfl; have e0 := E9.out.cell (i := 0) rfl; have e1 := E9.out.cell (i := 1) rfl; have e2 := E9.out.cell (i := 2) rfl)
                | (at_mapUpdate; refine wpList_mapUpdate_own _ rfl _ _ _ 155 rfl 150 145 Try.keyedRec Try.underlying155 rawE w2.heap.size k D rfl (HD.out.kept hg3 (fun hh => by have := (HOB.out _ hh.symm).1; omega)) (by unfold maxLen; omega) _ _ _ rfl rfl hkey _ [] rfl ?_; intro w10 ho10 hg10))
              have hnb : ∀ q, (Value.slice P k cP).ownBlock = some q → w2.heap.size + 1 ≤ q ∧ q < W3.heap.size := HOB.out
              have M10 : Hid (ByRec w10 w2.heap.size (k + 1) ends es (k + 1)) := Lib.hid (by
                refine ByRec.put he.out HWF.out ?_ HDm.out HDa.out
                rw [HIV.out]
                exact ho10)
              have hrow9 := hown3
              have R10 := Lib.hid (hrow9.kept hg10 (by
                cases hv : (Value.slice P3 (k + 1) c3).ownBlock with
                | none => exact .inl rfl
                | some q => exact .inr (fun hh => by injection hh with hh; have := (hrow9.lt q hv).1; omega)))
              have X10 := Lib.hid ((X8.out.keep hg3.size (hg3.block _ X8.out.lt (fun hh => by have := (hnb _ hh.symm).1; omega))).keep hg10.size (hg10.block _ (X8.out.keep hg3.size (hg3.block _ X8.out.lt (fun hh => by have := (hnb _ hh.symm).1; omega))).lt (fun hh => by injection hh with hh; omega)))
              have B10 := Lib.hid ((B8.out.grown hg3 B8.out.size (fun q hq => by have := (hnb q hq).1; omega)).grown hg10 (by have h1 := B8.out.size; have h2 := hg3.size; omega) (fun q hq => by injection hq with hq; omega))
              have hw10 : w2.heap.size + 1 ≤ w10.heap.size := by have h1 := hg3.size; have h2 := hg10.size; simp at h1; omega
              clear hown3 hg3 hat3 ho10 hg10 hrow9 hnb
              go_wp2
              go_roundw
              case rel => exact ⟨k + 1, P3, c3, by omega, by go_num, rfl, Lib.hid (by rw [HST.out, List.flatMap_append]; simpa [GE.cells] using R10.out), M10, X10, hw10, B10⟩
              case measure => simp [intOf]; omega
          · obtain rfl : k = n := by omega
            obtain ⟨j0, hj, jz0, jz1, jz2⟩ := info_parts Try.infoSEdge
            have CE := Lib.hid (implEmpty E m d ends W3 (HI.out.below hbel.out) hm)
            have hL := merge_batches hsz (recsK ends es k)
            have hrl : (recsK ends es k).length = k := recsK_len ends es k
            have CSO := Lib.hid (fun W (h : Below W3.heap.size W3 W) => implSortAll P k cP (recsK ends es k) size W (SlG.of_own (own_below hown.out h) hrl) (by omega) (bat_cap hown.out) hsw)
            rw [hL] at CSO
            have hLL : sortR (recsK ends es k) = sortedRecs ends es := by unfold sortedRecs; rw [HEL.out]
            rw [hLL] at CSO
            clear hL hLL hrl
            have HRG := Lib.hid (fun r (h : r ∈ sortedRecs ends es) => rec_range HG.out HN.out h)
            have hlen : (sortedRecs ends es).length = k := by rw [sortedRecs_len, HEL.out]
            have HSL := Lib.hid hlen
            generalize hLs : sortedRecs ends es = L at CSO HRG HSL
            have hlen2 : L.length = k := HSL.out
            unfold MadeRc at CSO
            have HLS := Lib.hid hLs
            clear hLs hlen
            go_wp2_with fail
            refine CE.out.mono ?_
            rintro e1 w5 ⟨Q, cQ, rfl, hr5, hb5⟩
            have hpl : (pairsE 0 ends).length = m := by rw [pairsE_len, HIL.out]
            rw [hpl] at hr5 ⊢
            have R5 := Lib.hid hr5
            have HB5 := Lib.hid hb5
            have BS5 : Hid ((emptyHs (pairsE 0 ends)).map HE.sd = shardRow ends es (L.take 0) m) := Lib.hid (by rw [emptyHs_sd, List.take_zero, ← shardRow_nil ends es, HIL.out])
            clear hr5 hb5 CE hpl
            go_wp2_with fail
            refine (CSO.out _ HB5.out).mono ?_
            rintro e2 w6 ⟨A7, c7, rfl, ho7, hb7⟩
            have h35 : W3.heap.size ≤ w5.heap.size := HB5.out.size
            have h56 : w5.heap.size ≤ w6.heap.size := hb7.size
            have B6 := g_chain HB5.out hb7
            have HW6 := Lib.hid (g_chain hbel.out B6)
            have D7 := Lib.hid (SlG.of_own ho7 rfl)
            have HA7 : Hid (∀ q, (Value.slice A7 L.length c7).ownBlock = some q → w5.heap.size ≤ q) := Lib.hid (fun q hq => (ho7.lt q hq).1)
            have HQB : Hid (∀ q, (Value.slice Q m cQ).ownBlock = some q → W3.heap.size ≤ q ∧ q < w5.heap.size) := Lib.hid (fun q hq => R5.out.lt q hq)
            have R6 := Lib.hid (own_below R5.out hb7)
            have M6 := Lib.hid (hmap.out.below B6)
            have X6 := Lib.hid (hx.out.below B6)
            have hmb : w2.heap.size < W3.heap.size := hmap.out.lt
            clear ho7 hb7 CSO hown hx hmap B6
            go_wp2
            go_loopw [62] (fun i wr => ∃ (q : Nat) (bs : List HE), q ≤ L.length ∧ i = .int .i64 q ∧ Hid (bs.map HE.sd = shardRow ends es (L.take q) m) ∧ Hid (wr.ownsRow W3.heap.size 85 3 (.slice Q m cQ) m (bs.flatMap HE.cells)) ∧ Hid (OwnHL wr w6.heap.size bs) ∧ Hid (OnlyB (fun b => (Value.slice Q m cQ).ownBlock = some b) w6 wr)) (fun i _ => L.length - (intOf i).toNat)
            case atStart => exact ⟨0, _, Nat.zero_le _, rfl, BS5, R6, Lib.hid (emptyHs_own _ _ _), Lib.hid (OnlyB.refl _ _)⟩
            case round =>
              rename World => W7
              clear R6 BS5
              obtain ⟨q, bs, hq, rfl, hbs, hrow, hdat, honly⟩ := hrel
              by_cases hlq : q < L.length
              · obtain ⟨b7, off7, r, rfl, hb7w, hr7, d0, d1, d2⟩ := D7.out.at_ hlq
                obtain ⟨pp, j, e, hre, hpp, hej, hjn, hiv⟩ := HRG.out r (List.mem_of_getElem? hr7.out)
                subst hre
                rw [HIL.out] at hpp
                have hb75 : w5.heap.size ≤ b7 := HA7.out b7 rfl
                have hk7 : W7.heap[b7]? = w6.heap[b7]? := honly.out.block b7 hb7w (fun hh => by have := (HQB.out _ hh).2; omega)
                have d0 : W7.cell? ⟨b7, off7 + q * 3, none⟩ = some (.int .i64 (pp : Int)) := (World.cell?_of_block (a := ⟨b7, off7 + q * 3, none⟩) hk7).trans d0
                have d1 : W7.cell? ⟨b7, off7 + q * 3 + 1, none⟩ = some (.int .i64 e.f) := (World.cell?_of_block (a := ⟨b7, off7 + q * 3 + 1, none⟩) hk7).trans d1
                have d2 : W7.cell? ⟨b7, off7 + q * 3 + 2, none⟩ = some (.int .i64 (j : Int)) := (World.cell?_of_block (a := ⟨b7, off7 + q * 3 + 2, none⟩) hk7).trans d2
                obtain ⟨g, hgQ⟩ := g_own_at hrow.out (by omega)
                subst hgQ
                have hgl := HQB.out g rfl
                have hbl : bs.length = m := by have := congrArg List.length hbs.out; rw [List.length_map, shardRow_len] at this; exact this
                have hxe : bs[pp]? = some (bs[pp]'(by omega)) := List.getElem?_eq_getElem (by omega)
                obtain ⟨x, hxp⟩ : ∃ x, bs[pp]'(by omega) = x := ⟨_, rfl⟩
                rw [hxp] at hxe
                clear hxp
                obtain ⟨xlo, xhi, xA, xn, xc, xes⟩ := x
                have hcx : W7.cell? ⟨g, pp * 3 + 2, none⟩ = some (.slice xA xn xc) := (hrow.out.cellAt (pp * 3 + 2) (by omega)).trans (flat_get HE.cells 3 HE.cells_len bs pp 2 _ hxe (by omega))
                have hfx := hrow.out.frozenAt (pp * 3 + 2)
                have hgW := (hrow.out.lt g rfl).2
                have M7 := Lib.hid (M6.out.only (w' := W7) (honly.out.block _ M6.out.lt (fun hh => by have := (HQB.out _ hh).1; omega)))
                obtain ⟨D, hD, hDm, hDa⟩ := M7.out.map
                have hat := hDa j e (by have := HEL.out; omega) hej (.held (.agg #[.int .i64 0, .int .i64 0, .int .i64 0]))
                have hwk := rec_wf HG.out HN.out (by rw [HIL.out]; exact hm) hej
                rw [← hiv] at hat hwk
                have hat : D.atKey (recLit (pp : Int) e.f (j : Int)) (.held (.agg #[.int .i64 0, .int .i64 0, .int .i64 0])) = .held (.agg #[.int .i64 e.f, .int .i64 e.t, .int .i64 e.w]) := hat
                clear hiv
                have hkey := keyRec hwk.1 hwk.2.1 hwk.2.2
                have HAL := Lib.hid (below_a1 W7 (.cells #[.int .i64 (pp : Int), .int .i64 e.f, .int .i64 (j : Int)] 150))
                have hrunA := lookup_plain (World.drew (W7.alloc (.cells #[.int .i64 (pp : Int), .int .i64 e.f, .int .i64 (j : Int)] 150))) Try.keyedRec Try.underlying155 (zeroEdgeR _) (hD.kept (grownBy_of_below HAL.out none) (by simp)).drew hkey hat
                have hrunB := lookup_plain (World.drew ((W7.alloc (.cells #[.int .i64 (pp : Int), .int .i64 e.f, .int .i64 (j : Int)] 150)).alloc (.cells #[.int .i64 0, .int .i64 0, .int .i64 0] 145))) Try.keyedRec Try.underlying155 (zeroEdgeR _) (((hD.kept (grownBy_of_below HAL.out none) (by simp)).alloc _).drew) hkey hat
                have hpm1 : (pp : Int) < (m : Int) := by omega
                have R8 := Blk.new W7 #[.int .i64 (pp : Int), .int .i64 e.f, .int .i64 (j : Int)] 150
                have q0 := R8.cell (i := 0) rfl
                have q1 := R8.cell (i := 1) rfl
                have q2 := R8.cell (i := 2) rfl
                have ZR : Hid (Blk (World.drew ((W7.alloc (.cells #[.int .i64 (pp : Int), .int .i64 e.f, .int .i64 (j : Int)] 150)).alloc (.cells #[.int .i64 e.f, .int .i64 e.t, .int .i64 e.w] 145))) W7.heap.size #[.int .i64 (pp : Int), .int .i64 e.f, .int .i64 (j : Int)] 150) := Lib.hid (((Blk.new W7 #[.int .i64 (pp : Int), .int .i64 e.f, .int .i64 (j : Int)] 150).alloc _).drew)
                have ZE : Hid (Blk (World.drew ((W7.alloc (.cells #[.int .i64 (pp : Int), .int .i64 e.f, .int .i64 (j : Int)] 150)).alloc (.cells #[.int .i64 e.f, .int .i64 e.t, .int .i64 e.w] 145))) (W7.heap.size + 1) #[.int .i64 e.f, .int .i64 e.t, .int .i64 e.w] 145) := Lib.hid (by
                  have h := Blk.new (W7.alloc (.cells #[.int .i64 (pp : Int), .int .i64 e.f, .int .i64 (j : Int)] 150)) #[.int .i64 e.f, .int .i64 e.t, .int .i64 e.w] 145
                  rw [World.size_alloc] at h
                  exact h.drew)
                have ZB : Hid (Below W7.heap.size W7 (World.drew ((W7.alloc (.cells #[.int .i64 (pp : Int), .int .i64 e.f, .int .i64 (j : Int)] 150)).alloc (.cells #[.int .i64 e.f, .int .i64 e.t, .int .i64 e.w] 145)))) := Lib.hid (below_a2 _ _ _).drew
                go_upto_region 16 with fail
                go_cut [15, 16] (fun s15 s16 wx => s15 = .pointer (some ⟨W7.heap.size + 1, 0, none⟩) ∧ s16 = .pointer (some ⟨g, pp * 3, none⟩) ∧ Hid (Blk wx W7.heap.size #[.int .i64 (pp : Int), .int .i64 e.f, .int .i64 (j : Int)] 150) ∧ Hid (Blk wx (W7.heap.size + 1) #[.int .i64 e.f, .int .i64 e.t, .int .i64 e.w] 145) ∧ Hid (Below W7.heap.size W7 wx))
                case first =>
                  go_region_with (fail)
                  all_goals
                    go_wp2_with fail
                    go_meet
                    exact ⟨rfl, rfl, ZR, ZE, ZB⟩
                case rest =>
                  obtain ⟨rfl, rfl, hRB, hEB, hBW⟩ := hcut
                  have r0 := hRB.out.cell (i := 0) rfl
                  have r1 := hRB.out.cell (i := 1) rfl
                  have r2 := hRB.out.cell (i := 2) rfl
                  have e0 := hEB.out.cell (i := 0) rfl
                  have e1 := hEB.out.cell (i := 1) rfl
                  have e2 := hEB.out.cell (i := 2) rfl
                  have hsz9 : W7.heap.size + 1 < wc.heap.size := hEB.out.lt
                  have hcx9 := (hBW.out.cell (p := ⟨g, pp * 3 + 2, none⟩) hgW).trans hcx
                  have hfx9 := (hBW.out.frozen (p := ⟨g, pp * 3 + 2, none⟩) hgW).trans hfx
                  have hsplit : bs = bs.take pp ++ ⟨xlo, xhi, xA, xn, xc, xes⟩ :: bs.drop (pp + 1) := by rw [← g_drop bs pp _ hxe, List.take_append_drop]
                  have hmem : (⟨xlo, xhi, xA, xn, xc, xes⟩ : HE) ∈ bs := List.mem_of_getElem? hxe
                  have HXL : Hid (xes.length = xn) := Lib.hid (hdat.out.len _ hmem)
                  have HXO : Hid (wc.ownsRow w6.heap.size 40 5 (.slice xA xn xc) xn (xes.flatMap KE.cells)) := Lib.hid (own_below (hdat.out.own _ hmem) hBW.out)
                  have HXB : Hid (∀ i, (Value.slice xA xn xc).ownBlock = some i → w6.heap.size ≤ i ∧ i < W7.heap.size) := Lib.hid (fun i hi => (hdat.out.own _ hmem).lt i hi)
                  have hsd : shardAt ends es (L.take q) pp = (xlo, xhi, xes) := by
                    have h1 : (bs.map HE.sd)[pp]? = some (xlo, xhi, xes) := by rw [List.getElem?_map, hxe]; rfl
                    rw [hbs.out, shardRow_get hpp] at h1
                    injection h1
                  have HSD := Lib.hid hsd
                  have hxn4 : xn ≤ 400 := by
                    have h1 : xes = dealt es (L.take q) (pp : Int) := by unfold shardAt at hsd; injection hsd with _ h1; injection h1 with _ h1; exact h1.symm
                    have h2 := dealt_len es (L.take q) (pp : Int)
                    rw [← h1, List.length_take] at h2
                    have := HXL.out
                    omega
                  have HSPL := Lib.hid hsplit
                  have HHX := Lib.hid hxe
                  have HON2 := Lib.hid (KE.cells_one ⟨e.f, e.t, e.w, (j : Int), 0⟩)
                  have HROW := Lib.hid hrow.out
                  have HDAT := Lib.hid hdat.out
                  have hw67 : w6.heap.size ≤ W7.heap.size := honly.out.size
                  clear hsplit hmem hsd hxe hcx hfx hkey hrunA hrunB hD hDm hDa M7 R8 q0 q1 q2 hat hrow hdat hwk ZR ZE ZB d0 d1 d2
                  have HKO : Hid (keOf es ⟨(pp : Int), e.f, (j : Int)⟩ = ⟨e.f, e.t, e.w, (j : Int), 0⟩) := Lib.hid (keOf_some _ _ hej)
                  have FIN : Hid (∀ (Wa w12 : World) (P3 : Option Addr) (c3 : Nat), Below wc.heap.size wc Wa → Wa.grownBy w12 (Value.slice xA xn xc).ownBlock → w12.ownsRow w6.heap.size 40 5 (.slice P3 (xn + 1) c3) (xn + 1) (xes.flatMap KE.cells ++ KE.cells ⟨e.f, e.t, e.w, (j : Int), 0⟩) → ((Value.slice P3 (xn + 1) c3).ownBlock = (Value.slice xA xn xc).ownBlock ∨ (Value.slice P3 (xn + 1) c3).ownBlock = some Wa.heap.size) →
                      ∃ bs' : List HE, bs'.map HE.sd = shardRow ends es (L.take (q + 1)) m ∧ (w12.setCell ⟨g, pp * 3 + 2, none⟩ (.slice P3 (xn + 1) c3)).ownsRow W3.heap.size 85 3 (.slice (some ⟨g, 0, none⟩) m cQ) m (bs'.flatMap HE.cells) ∧ OwnHL (w12.setCell ⟨g, pp * 3 + 2, none⟩ (.slice P3 (xn + 1) c3)) w6.heap.size bs' ∧ OnlyB (fun b => (Value.slice (some ⟨g, 0, none⟩) m cQ).ownBlock = some b) w6 (w12.setCell ⟨g, pp * 3 + 2, none⟩ (.slice P3 (xn + 1) c3))) := Lib.hid (by
                    intro Wa w12 P3 c3 hba hg3 hown3 hat3
                    have hB7 : Below W7.heap.size W7 Wa := g_chain hBW.out hba
                    have hsz7 : W7.heap.size ≤ Wa.heap.size := hB7.size
                    have hr12 := (own_below HROW.out hB7).kept hg3 (.inr (fun hh => by have := (HXB.out g hh.symm).1; omega))
                    have hst := hr12.stored (pp * 3 + 2) (.slice P3 (xn + 1) c3)
                    rw [flat_set HE.cells 3 HE.cells_len bs pp 2 _ ⟨xlo, xhi, P3, xn + 1, c3, xes ++ [⟨e.f, e.t, e.w, (j : Int), 0⟩]⟩ _ HHX.out (by omega) rfl] at hst
                    have hd7 := HDAT.out.below hB7
                    rw [HSPL.out] at hd7
                    have hda := hd7.app (d' := ⟨xlo, xhi, P3, xn + 1, c3, xes ++ [⟨e.f, e.t, e.w, (j : Int), 0⟩]⟩) hg3 (by show w12.ownsRow w6.heap.size 40 5 (.slice P3 (xn + 1) c3) (xn + 1) ((xes ++ [(⟨e.f, e.t, e.w, (j : Int), 0⟩ : KE)]).flatMap KE.cells); rw [List.flatMap_append]; simpa using hown3) (by show (xes ++ _).length = xn + 1; rw [List.length_append, HXL.out]; rfl) (hat3.imp id (fun hh => ⟨_, hh, Nat.le_refl _⟩))
                    have hse : bs.set pp ⟨xlo, xhi, P3, xn + 1, c3, xes ++ [⟨e.f, e.t, e.w, (j : Int), 0⟩]⟩ = bs.take pp ++ ⟨xlo, xhi, P3, xn + 1, c3, xes ++ [⟨e.f, e.t, e.w, (j : Int), 0⟩]⟩ :: bs.drop (pp + 1) := (List.set_eq_take_append_cons_drop ..).trans (if_pos (by rw [hbl]; exact hpp))
                    refine ⟨bs.set pp ⟨xlo, xhi, P3, xn + 1, c3, xes ++ [⟨e.f, e.t, e.w, (j : Int), 0⟩]⟩, ?_, hst.1, ?_, ?_⟩
                    · have h1 := shardRow_deal (ends := ends) (es := es) (n := m) hr7.out (p := pp) rfl
                      have h2 := HSD.out
                      unfold shardAt at h2
                      injection h2 with h3 h2
                      injection h2 with h4 h5
                      rw [← h1, h3, h4, h5, HKO.out, List.map_set, hbs.out]
                      rfl
                    · rw [hse]
                      exact hda.setLow (p := ⟨g, pp * 3 + 2, none⟩) (by show g < w6.heap.size; omega) _
                    · exact ((honly.out.below hB7).grown2 hg3 (fun i hi => .inr (HXB.out i hi).1)).grown2 (row := some g) hst.2 (fun i hi => by injection hi with hi; subst hi; exact .inl rfl))
                  clear HSD HSPL HKO HDAT hbs hr7
                  have RBD := Lib.hid (hRB.out.drew)
                  have EBD := Lib.hid (hEB.out.drew)
                  have XOD : Hid (wc.drew.ownsRow w6.heap.size 40 5 (.slice xA xn xc) xn (xes.flatMap KE.cells)) := Lib.hid HXO.out
                  have RWD : Hid (wc.drew.ownsRow W3.heap.size 85 3 (.slice (some ⟨g, 0, none⟩) m cQ) m (bs.flatMap HE.cells)) := Lib.hid (by have h := own_below HROW.out hBW.out; exact h)
                  have BWD := Lib.hid ((Below.refl wc.heap.size wc).drew)
                  have KP : Hid (∀ W : World, Blk W W7.heap.size #[.int .i64 (pp : Int), .int .i64 e.f, .int .i64 (j : Int)] 150 → Blk W (W7.heap.size + 1) #[.int .i64 e.f, .int .i64 e.t, .int .i64 e.w] 145 → (W.cell? ⟨W7.heap.size + 1, 0, none⟩ = some (.int .i64 e.f) ∧ W.cell? ⟨W7.heap.size + 1, 1, none⟩ = some (.int .i64 e.t) ∧ W.cell? ⟨W7.heap.size + 1, 2, none⟩ = some (.int .i64 e.w) ∧ W.cell? ⟨W7.heap.size, 2, none⟩ = some (.int .i64 (j : Int)))) := Lib.hid (fun W h1 h2 => ⟨h2.cell (i := 0) rfl, h2.cell (i := 1) rfl, h2.cell (i := 2) rfl, h1.cell (i := 2) rfl⟩)
                  have HG1 : Hid (W7.heap.size ≠ g ∧ W7.heap.size + 1 ≠ g) := Lib.hid ⟨by omega, by omega⟩
                  have hglt : g < wc.heap.size := by omega
                  have hgne : g ≠ wc.heap.size := by omega
                  have hgne2 : wc.heap.size ≠ g := by omega
                  have hcn := hglt; have hca : ∀ o : Obj, (wc.alloc o).cell? ⟨g, pp * 3 + 2, none⟩ = some (.slice xA xn xc) := fun o => ((below_a1 wc o).cell (p := ⟨g, pp * 3 + 2, none⟩) hglt).trans hcx9
                  go_wp2_with fail
                  rw [show (Op.load 83 (.tmp 76)) = ld76 from rfl]
                  go_region_held3 (fun W => W.cell? ⟨W7.heap.size + 1, 0, none⟩ = some (.int .i64 e.f) ∧ W.cell? ⟨W7.heap.size + 1, 1, none⟩ = some (.int .i64 e.t) ∧ W.cell? ⟨W7.heap.size + 1, 2, none⟩ = some (.int .i64 e.w) ∧ W.cell? ⟨W7.heap.size, 2, none⟩ = some (.int .i64 (j : Int)))
                    (first
                      | exact KP.out _ RBD.out EBD.out
                      | exact KP.out _ (RBD.out.alloc _) (EBD.out.alloc _)
                      | exact KP.out _ RB12.out EB12.out
                      | exact KP.out _ (RB12.out.other HG1.out.1 _) (EB12.out.other HG1.out.2 _))
                    (first
                      | ((refine step_append_any _ rfl (.tmp 77) (.tmp 87) _ rfl w6.heap.size 40 j0 _ 5 40 Try.underlying83 hj jz0 jz1 jz2 rfl (by omega) (.slice xA xn xc) xn (xes.flatMap KE.cells) rfl (own_below XOD.out (below_a1 _ _)) (wc.heap.size + 1) (some ⟨wc.heap.size, 0, none⟩) 1 1 (KE.cells ⟨e.f, e.t, e.w, (j : Int), 0⟩) rfl (five_reads _ ⟨e.f, e.t, e.w, (j : Int), 0⟩ _ _ rfl) HON2.out (by simp only [maxLen]; omega) (by omega) (by simp; omega) ?_); intro v3 w12 hown3 hg3 hat3; obtain ⟨P3, c3, rfl, -⟩ := own_formG hown3; have HR12 : Hid (w12.ownsRow W3.heap.size 85 3 (.slice (some ⟨g, 0, none⟩) m cQ) m (bs.flatMap HE.cells)) := Lib.hid ((own_below RWD.out (below_a1 _ _)).kept hg3 (.inr (fun hh => by have := (HXB.out g hh.symm).1; omega))); have hcy := HR12.out.frozenAt (pp * 3 + 2); have hcz : w12.cell? ⟨g, pp * 3 + 2, none⟩ = some (.slice xA xn xc) := (HR12.out.cellAt (pp * 3 + 2) (by omega)).trans (flat_get HE.cells 3 HE.cells_len bs pp 2 _ HHX.out (by omega)); have RB12 := Lib.hid ((RBD.out.alloc _).grown hg3 (fun hh => by have := (HXB.out _ hh).2; omega)); have EB12 := Lib.hid ((EBD.out.alloc _).grown hg3 (fun hh => by have := (HXB.out _ hh).2; omega))))
                  all_goals
                    obtain ⟨bs', h1, h2, h3, h4⟩ := FIN.out _ w12 P3 c3 (g_chain BWD.out (below_a1 wc.drew _)) hg3 hown3 hat3
                    have H1 := Lib.hid h1
                    have H2 := Lib.hid h2
                    have H3 := Lib.hid h3
                    have H4 := Lib.hid h4
                    clear h1 h2 h3 h4 hg3 hown3 hat3 hcy hcz HR12 RB12 EB12
                    go_wp2_with fail
                    go_roundw
                    case rel => exact ⟨q + 1, bs', by omega, by go_num, H1, H2, H3, H4⟩
                    case measure => simp [intOf]; omega
              · obtain rfl : q = L.length := by omega
                have HBS := Lib.hid hbs.out
                have HLN : Hid (bs.length = m) := Lib.hid (by have := congrArg List.length hbs.out; rw [List.length_map, shardRow_len] at this; exact this)
                clear hbs
                have hsw3 : w.heap.size ≤ W3.heap.size := by omega
                have hsw6 : w.heap.size ≤ w6.heap.size := by omega
                go_wp2
                go_ret
                refine ⟨Q, m, cQ, bs, rfl, ⟨own_monoG hrow.out hsw3, HLN.out, hdat.out.mono hsw6⟩, ?_, HW6.out.trans (honly.out.toBelow hsw6 (fun b hb => by have := (HQB.out _ hb).1; omega))⟩
                rw [HBS.out, List.take_length, HLS.out, HIL.out]
      · rw [shardsR_no (.inr (.inr (by omega)))]
        rw [hg] at CG
        rw [hen] at CN
        clear hg hen
        go_enter Try.func76, Try.ntmps76
        go_wp2_with fail
        refine (CG.out _ HB0.out).mono ?_
        rintro e w1 ⟨rfl, hb1⟩
        have HB1 := Lib.hid (g_chain HB0.out hb1)
        obtain ⟨l0, x0, x1⟩ := (NBox.new w N A n c 58).below hb1
        clear hb1
        go_wp2_with fail
        refine (CN.out _ HB1.out).mono ?_
        rintro e w2 ⟨rfl, hb2⟩
        go_wp2
        go_ret
        exact hs_none _ _ (g_chain HB1.out hb2)
end Go.Proofs.Ytpgnappddddlpaa
