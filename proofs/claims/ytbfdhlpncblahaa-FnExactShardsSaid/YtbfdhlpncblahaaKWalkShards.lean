/- The walk of the law FnExactShards: it returns true and writes nothing that was there. -/
import Derived.Test.YtbfdhlpncblahaaKDealS
import Derived.Test.YtbfdhlpncblahaaKDealI
import Derived.Test.YtbfdhlpncblahaaBatI
import Derived.Test.YtbfdhlpncblahaaCShB
import Derived.Test.YtbfdhlpncblahaaCShH
import Derived.Test.YtbfdhlpncblahaaKHeEq
import Derived.Test.YtbfdhlpncblahaaGrEq
import Derived.Test.YtbfdhlpncblahaaGraph
namespace Go.Proofs.Ytbfdhlpncblahaa
open Go.RowKit

theorem asc_len : ∀ (xs : List Int) (l : Int), ascB l xs = true → l + (xs.length : Int) ≤ lastE l xs
  | [], _, _ => by simp [lastE]
  | x :: r, l, h => by
    simp only [ascB, Bool.and_eq_true, decide_eq_true_eq] at h
    have := asc_len r x h.2
    simp only [lastE, List.length_cons]
    omega
theorem flat_row (ends : List Int) (es L : List GE) : ∀ n, (flatK (shardRow ends es L n)).length ≤ n * L.length
  | 0 => by simp [shardRow, flatK]
  | n + 1 => by
    have h1 := flat_row ends es L n
    have h2 := dealt_len es L (n : Int)
    rw [shardRow_step]
    unfold flatK at *
    rw [List.flatMap_append, List.length_append]
    have h3 : ([shardAt ends es L n].flatMap (fun s : SD => s.2.2)).length = (dealt es L (n : Int)).length := by simp [shardAt]
    rw [h3, Nat.succ_mul]
    omega
theorem shards_small (N : Int) (es : List GE) (ends : List Int) (size : Int) : (shardsR N es ends size).length + (flatK (shardsR N es ends size)).length ≤ 1048576 := by
  unfold shardsR
  split
  · rename_i h
    have h1 := (graphB_iff h.1).2.2.1
    have h2 := endsB_iff h.2.1
    have h3 := asc_len ends 0 h2.1
    have h4 : ends.length ≤ 150 := by have := h2.2.2.1; have := h2.2.2.2; omega
    have h5 := flat_row ends es (sortedRecs ends es) ends.length
    rw [sortedRecs_len] at h5
    rw [shardRow_len]
    have h6 : ends.length * es.length ≤ 150 * 400 := Nat.mul_le_mul h4 h1
    omega
  · simp [flatK]

set_option maxRecDepth 20000 in
set_option maxHeartbeats 8000000 in
theorem walkShards (N : Int) (A : Option Addr) (n c : Nat) (es : List GE) (E : Option Addr) (m d : Nat) (ends : List Int) (size : Int) (w : World) (hin : GrIn w N A n es) (hie : IntsIn w E m d ends) (hv : (Lit.int .i64 size).wf = true) :
    Calls Try.prog 4 #[.agg #[.int .i64 N, .slice A n c], .slice E m d, .int .i64 size] w fun e w' => e = .returned (.bool true) ∧ Below w.heap.size w w' := by
  have CZ := Lib.hid (fun W => szGraph_any N A n c 1048576 W hin.l (by omega) (by omega))
  have HS := Lib.hid hin.g
  have HI := Lib.hid hie.g
  by_cases hm : m ≤ 1048576
  · by_cases hb : (n : Int) ≤ 1048576
    · rw [leftG_pos hb] at CZ
      have hp : (0 : Int) ≤ 1048576 - (n : Int) := by omega
      generalize (1048576 : Int) - (n : Int) = q at CZ hp
      have CT := Lib.hid (fun W (h : Below w.heap.size w W) => toGraph_any N A n c es W (HS.out.below h) (by omega))
      have CC := Lib.hid (fun W (h : Below w.heap.size w W) => copyInts_any E m d ends W (HI.out.below h) (by omega))
      have hel := hin.g.len
      have hxn : es.length ≤ 1048576 := by omega
      have CS := Lib.hid (fun W A c E d (h : SlG W A es.length es) (h2 : SlI W E m ends) => specShards N A es.length c es E m d ends size W h hxn h2 hm)
      have CI := Lib.hid (fun W A c E d (h : SlG W A es.length es) (h2 : SlI W E m ends) => implShards N A es.length c es E m d ends size W h hxn h2 hm (wf_le hv))
      have HSZ := Lib.hid (shards_small N es ends size)
      generalize shardsR N es ends size = ls at CS CI HSZ
      have CE := Lib.hid (fun W A c A' c' (h1 : SlG W A es.length es) (h2 : SlG W A' es.length es) => eqGraph_any N A A' es.length c c' es W h1 h2 (by omega))
      have CM := Lib.hid (fun W lo A c (h : W.ownsRow lo 91 3 (.slice A es.length c) es.length (es.flatMap GE.cells)) => markGraph_any N A es.length c lo 1 es W h rfl (by omega) (by omega))
      have CQ := Lib.hid (fun W A A' c c' (h1 : SlI W A m ends) (h2 : SlI W A' m ends) => eqInts_any A A' m c c' ends W h1 h2 (by omega))
      have CK := Lib.hid (fun W lo A c (h : OwI W lo A m c ends) => markInts_any A m c lo (1 + 3 * es.length) ends W h (by omega) (by omega))
      generalize 1 + 3 * es.length = kk at CM CK
      have hmm : (0 : Int) ≤ ((kk + m : Nat) : Int) := by omega
      have hmn : ¬ ((kk + m : Nat) : Int) < 0 := by omega
      clear hin hie hb hel hv
      go_enter Try.func4, Try.ntmps4
      go_wp2_with fail
      refine (CZ.out _).mono ?_
      rintro e wa ⟨rfl, hba⟩
      have B0 := Lib.hid ((NBox.new w N A n c 35).below hba)
      have HA := Lib.hid (g_chain (below_a1 w _) hba)
      obtain ⟨l0, c00, c01⟩ := B0.out
      clear hba
      go_wp2_with fail
      refine (CT.out _ HA.out).mono ?_
      rintro e wb ⟨A1, c1, rfl, ho1, hbb⟩
      have B1 := Lib.hid (B0.out.below hbb)
      have HB := Lib.hid (g_chain HA.out hbb)
      have D1 := Lib.hid (SlG.of_own ho1 rfl)
      clear hbb ho1 c00 c01 l0
      go_wp2_with fail
      refine (CC.out _ HB.out).mono ?_
      rintro e wx ⟨E1, k1, rfl, hoe, hbx⟩
      have B1x := Lib.hid (B1.out.below hbx)
      have HX := Lib.hid (g_chain HB.out hbx)
      have D1x := Lib.hid (D1.out.below hbx)
      have F1 := Lib.hid hoe.rd
      clear hbx hoe
      go_wp2_with fail
      refine (CS.out _ _ _ _ _ D1x.out F1.out).mono ?_
      rintro e wc ⟨Aw, nw, cw, wbs, rfl, how, hxw, hbc⟩
      have SW := Lib.hid (how.small hxw HSZ.out)
      have W2 := Lib.hid how
      have XW := Lib.hid hxw
      have B2 := Lib.hid (B1x.out.below hbc)
      have HC := Lib.hid (g_chain HX.out hbc)
      have hlc : w.heap.size < wc.heap.size := B2.out.lt
      obtain ⟨l0, c00, c01⟩ := B2.out
      clear hbc how hxw
      go_wp2_with fail
      refine (CT.out _ HC.out).mono ?_
      rintro e wd ⟨A2, c2, rfl, ho2, hbd⟩
      have X3 : Hid (XBox (wd.alloc (.cells #[.int .i64 N, .slice A2 es.length c2] 42)) wc.heap.size wd.heap.size N A2 es.length c2 es) := Lib.hid ⟨NBox.new wd N A2 es.length c2 _, own_below ho2 (below_a1 wd _)⟩
      have HBD := Lib.hid (g_chain hbd (below_a1 wd (.cells #[.int .i64 N, .slice A2 es.length c2] 42)))
      have B3 := Lib.hid (B2.out.below HBD.out)
      have W3 := Lib.hid (W2.out.below HBD.out)
      have HD := Lib.hid (g_chain HC.out HBD.out)
      have hcd : wc.heap.size ≤ wd.heap.size := hbd.size
      clear hbd ho2 c00 c01 l0
      go_wp2_with fail
      refine (CC.out _ HD.out).mono ?_
      rintro e wy ⟨E2, k2, rfl, hoe, hby⟩
      have hdy : wd.heap.size + 1 ≤ wy.heap.size := by have := hby.size; simpa using this
      have I2 := Lib.hid hoe
      have HAL := Lib.hid (Nat.le_refl (wd.alloc (.cells #[.int .i64 N, .slice A2 es.length c2] 42)).heap.size)
      have IB : Hid (∀ k, (Value.slice E2 m k2).ownBlock = some k → wd.heap.size + 1 ≤ k ∧ k < wy.heap.size) := Lib.hid (fun k hk => by have := hoe.lt k hk; simpa using this)
      have XB : Hid (∀ k, (Value.slice A2 es.length c2).ownBlock = some k → wc.heap.size ≤ k ∧ k < wd.heap.size + 1) := Lib.hid (fun k hk => by have := X3.out.own.lt k hk; simpa using this)
      have X3y := Lib.hid (X3.out.below hby)
      have B3y := Lib.hid (B3.out.below hby)
      have W3y := Lib.hid (W3.out.below hby)
      have HY := Lib.hid (g_chain HD.out hby)
      obtain ⟨l1, c10, c11⟩ := X3y.out.box
      clear hby hoe
      go_wp2_with fail
      refine (CI.out _ _ _ _ _ (SlG.of_own X3y.out.own rfl) I2.out.rd).mono ?_
      rintro e we ⟨Ag, ng, cg, gbs, rfl, hog, hxg, hbe⟩
      have SG := Lib.hid (hog.small hxg HSZ.out)
      have XG := Lib.hid hxg
      obtain rfl : ng = nw := by rw [SG.out.k, SW.out.k]
      have G4 := Lib.hid hog
      have B4 := Lib.hid (B3y.out.below hbe)
      have X4 := Lib.hid (X3y.out.below hbe)
      have W4 := Lib.hid (W3y.out.below hbe)
      have I4 := Lib.hid (I2.out.below hbe)
      have HEE := Lib.hid (g_chain HY.out hbe)
      have hye : wy.heap.size ≤ we.heap.size := hbe.size
      have GB : Hid (∀ k, blkH Ag ng cg gbs k → wy.heap.size ≤ k ∧ k < we.heap.size) := Lib.hid (fun k hk => hog.blk hk)
      have hng : ng ≤ 2097152 := by have := SG.out.c; omega
      have HNG : Hid (∀ e ∈ gbs, e.n ≤ 2097152) := Lib.hid (fun e he => by have := SG.out.e e he; omega)
      have HK8 : Hid (endH 1 gbs ≤ 16777216) := Lib.hid (by have := SG.out.s; omega)
      have CV := Lib.hid (fun W A c bs (h1 : SlH W Ag ng gbs) (h2 : SlH W A ng bs) (h3 : bs.map HE.sd = ls) => eqHs_any Ag A ng cg c gbs bs W h1 h2 (XG.out.trans h3.symm) hng HNG.out)
      have HM1 := Lib.hid (fun lo W (h : OwnH W lo Ag ng cg gbs) => markHs_any Ag ng cg lo 1 gbs W h hng HNG.out HK8.out)
      have HH1 := Lib.hid (fun W (h : SlH W Ag ng (markH 1 gbs)) => heldHs_any Ag ng cg 1 gbs W h hng HNG.out HK8.out SG.out.l)
      generalize endH 1 gbs = m1 at HM1 HH1 HK8
      have hm1 : (0 : Int) ≤ (m1 : Int) := by omega
      clear hbe hog hxg l1 c10 c11
      go_wp2_with fail
      refine (CV.out _ _ _ _ G4.out.sl W4.out.sl XW.out).mono ?_
      rintro e wf ⟨rfl, hbf⟩
      have G5 := Lib.hid (G4.out.below hbf)
      have B5 := Lib.hid (B4.out.below hbf)
      have X5 := Lib.hid (X4.out.below hbf)
      have W5 := Lib.hid (W4.out.below hbf)
      have I5 := Lib.hid (I4.out.below hbf)
      have HF := Lib.hid (g_chain HEE.out hbf)
      obtain ⟨l0, c00, c01⟩ := B5.out
      obtain ⟨l1, c10, c11⟩ := X5.out.box
      clear hbf
      go_wp2
      go_region_with (first
        | (go_at_call 18; ((with_reducible refine (CT.out _ (by first | exact HF.out | exact HF.out.drew | exact HF.out.drew.drew)).mono ?_)); rintro e wg ⟨A3, c3, rfl, ho3, hbg⟩; have HBG : Hid (Below wf.heap.size wf wg) := Lib.hid (by first | exact hbg | exact ⟨hbg.os, hbg.tape, hbg.output, hbg.size, hbg.block⟩); obtain ⟨l2, c20, c21⟩ := (X5.out.below HBG.out).box; have D5 := Lib.hid (SlG.of_own (X5.out.below HBG.out).own rfl); have D6 := Lib.hid (SlG.of_own ho3 rfl))
        | (go_at_call 22; ((with_reducible refine (CE.out _ _ _ _ _ D5.out D6.out).mono ?_)); rintro e wh ⟨rfl, hbh⟩))
      all_goals
        have HBH : Hid (Below wf.heap.size wf wh) := Lib.hid (g_chain HBG.out hbh)
        have G6 := Lib.hid (G5.out.below HBH.out)
        have B6 := Lib.hid (B5.out.below HBH.out)
        have X6 := Lib.hid (X5.out.below HBH.out)
        have W6 := Lib.hid (W5.out.below HBH.out)
        have I6 := Lib.hid (I5.out.below HBH.out)
        have HH := Lib.hid (g_chain HF.out HBH.out)
        clear l0 c00 c01 l1 c10 c11 l2 c20 c21 ho3 hbg hbh D5 D6
        go_wp2_with fail
        refine (CC.out _ HH.out).mono ?_
        rintro e wi ⟨E3, k3, rfl, hoe, hbi⟩
        have G7 := Lib.hid (G6.out.below hbi)
        have B7 := Lib.hid (B6.out.below hbi)
        have X7 := Lib.hid (X6.out.below hbi)
        have W7 := Lib.hid (W6.out.below hbi)
        have I7 := Lib.hid (I6.out.below hbi)
        have F7 := Lib.hid hoe.rd
        have HI7 := Lib.hid (g_chain HH.out hbi)
        clear hbi hoe
        go_wp2_with fail
        refine (CQ.out _ _ _ _ _ I7.out.rd F7.out).mono ?_
        rintro e wj ⟨rfl, hbj⟩
        have G8 := Lib.hid (G7.out.below hbj)
        have B8 := Lib.hid (B7.out.below hbj)
        have X8 := Lib.hid (X7.out.below hbj)
        have W8 := Lib.hid (W7.out.below hbj)
        have I8 := Lib.hid (I7.out.below hbj)
        have HJ := Lib.hid (g_chain HI7.out hbj)
        obtain ⟨l1, c10, c11⟩ := X8.out.box
        clear hbj
        go_wp2_with fail
        refine (CM.out _ _ _ _ X8.out.own).mono ?_
        rintro e wk ⟨rfl, hgk⟩
        have G9 := Lib.hid (G8.out.other G4.out hgk (fun k hk => by have := XB.out k hk; omega))
        have B9 := Lib.hid (B8.out.keep hgk.size (hgk.block _ B8.out.lt (fun hh => by have := XB.out _ hh.symm; omega)))
        have W9 := Lib.hid (W8.out.other W2.out hgk (fun k hk => by have := XB.out k hk; omega))
        have I9 : Hid (OwI wk _ E2 m k2 ends) := Lib.hid (own_other I8.out hgk (ne_of_after I2.out X3.out.own HAL.out))
        have HK9 := Lib.hid (HJ.out.grown hgk HJ.out.size (fun j hj => by have := XB.out j hj; omega))
        clear l1 c10 c11 hgk
        go_wp2_with fail
        refine (CK.out _ _ _ _ I9.out).mono ?_
        rintro e wl ⟨rfl, hok, hgl⟩
        have G10 := Lib.hid (G9.out.other G4.out hgl (fun k hk => by have := IB.out k hk; omega))
        have B10 := Lib.hid (B9.out.keep hgl.size (hgl.block _ B9.out.lt (fun hh => by have := IB.out _ hh.symm; omega)))
        have W10 := Lib.hid (W9.out.other W2.out hgl (fun k hk => by have := IB.out k hk; omega))
        have HL := Lib.hid (HK9.out.grown hgl HK9.out.size (fun j hj => by have := IB.out j hj; omega))
        clear hok hgl
        go_wp2_with fail
        refine (CV.out _ _ _ _ G10.out.sl W10.out.sl XW.out).mono ?_
        rintro e wm ⟨rfl, hbm⟩
        have G11 := Lib.hid (G10.out.below hbm)
        have B11 := Lib.hid (B10.out.below hbm)
        have W11 := Lib.hid (W10.out.below hbm)
        have HM := Lib.hid (g_chain HL.out hbm)
        clear hbm
        go_wp2_with fail
        refine (HM1.out _ _ G11.out).mono ?_
        rintro e wn ⟨rfl, hmk, hgn⟩
        have M12 := Lib.hid hmk.sl
        have B12 := Lib.hid (B11.out.keep hgn.size (hgn.block _ B11.out.lt (fun hs => by have h2 := GB.out _ hs; omega)))
        have W12 := Lib.hid (W11.out.only W2.out hgn (fun k hk => by have := GB.out k hk; omega))
        have HN := Lib.hid (HM.out.trans (hgn.toBelow HM.out.size (fun k hk => by have := GB.out k hk; omega)))
        clear hgn hmk
        go_wp2_with fail
        refine (HH1.out _ M12.out).mono ?_
        rintro e wo ⟨rfl, hbo⟩
        have M13 := Lib.hid (M12.out.below hbo)
        have B13 := Lib.hid (B12.out.below hbo)
        have W13 := Lib.hid (W12.out.below hbo)
        have HO := Lib.hid (g_chain HN.out hbo)
        obtain ⟨l0, c00, c01⟩ := B13.out
        clear hbo
        go_wp2_with fail
        refine (CT.out _ HO.out).mono ?_
        rintro e wp ⟨A4, c4, rfl, ho4, hbp⟩
        have M14 := Lib.hid (M13.out.below hbp)
        have W14 := Lib.hid (W13.out.below hbp)
        have D14 := Lib.hid (SlG.of_own ho4 rfl)
        have HP := Lib.hid (g_chain HO.out hbp)
        clear hbp ho4 l0 c00 c01
        go_wp2_with fail
        refine (CC.out _ HP.out).mono ?_
        rintro e wq ⟨E4, k4, rfl, hoe, hbq⟩
        have M15 := Lib.hid (M14.out.below hbq)
        have W15 := Lib.hid (W14.out.below hbq)
        have D15 := Lib.hid (D14.out.below hbq)
        have F15 := Lib.hid hoe.rd
        have HQ := Lib.hid (g_chain HP.out hbq)
        clear hbq hoe
        go_wp2_with fail
        refine (CI.out _ _ _ _ _ D15.out F15.out).mono ?_
        rintro e wr ⟨Ah, nh, ch, hbs, rfl, hoh, hxh, hbr⟩
        have SH := Lib.hid (hoh.small hxh HSZ.out)
        obtain rfl : ng = nh := by rw [SW.out.k, SH.out.k]
        have XH := Lib.hid hxh
        have GH := Lib.hid hoh.sl
        have M16 := Lib.hid (M15.out.below hbr)
        have W16 := Lib.hid (W15.out.below hbr)
        have HR := Lib.hid (g_chain HQ.out hbr)
        have HNH : Hid (∀ e ∈ hbs, e.n ≤ 2097152) := Lib.hid (fun e he => by have := SH.out.e e he; omega)
        clear hbr hoh hxh
        go_wp2_with fail
        refine (eqHs_any _ _ _ _ _ _ _ _ GH.out W16.out.sl (XH.out.trans XW.out.symm) hng HNH.out).mono ?_
        rintro e ws ⟨rfl, hbs2⟩
        have M17 := Lib.hid (M16.out.below hbs2)
        have HS17 := Lib.hid (g_chain HR.out hbs2)
        clear hbs2
        go_wp2_with fail
        refine (HH1.out _ M17.out).mono ?_
        rintro e wt ⟨rfl, hbt⟩
        go_wp2
        go_ret
        exact ⟨rfl, g_chain HS17.out hbt⟩
    · rw [leftG_neg (by omega)] at CZ
      clear hin hie hb
      go_enter Try.func4, Try.ntmps4
      go_wp2_with fail
      refine (CZ.out _).mono ?_
      rintro e wa ⟨rfl, hba⟩
      go_wp2
      go_ret
      exact ⟨rfl, g_chain (below_a1 w _) hba⟩
  · have hm2 : (1048576 : Int) < (m : Int) := by omega
    clear hin hie CZ HS HI
    go_enter Try.func4, Try.ntmps4
    go_wp2
    go_ret
    exact ⟨rfl, below_a1 w _⟩
end Go.Proofs.Ytbfdhlpncblahaa
