/- The walk of the law FnExactBatches: it returns true and writes nothing that was there. -/
import Derived.Test.YtdmdikbcgpbbdaaBatS
import Derived.Test.YtdmdikbcgpbbdaaBatI
import Derived.Test.YtdmdikbcgpbbdaaBatOwn
import Derived.Test.YtdmdikbcgpbbdaaRecLaw
import Derived.Test.YtdmdikbcgpbbdaaRecEq
import Derived.Test.YtdmdikbcgpbbdaaRecArg
namespace Go.Proofs.Ytdmdikbcgpbbdaa
open Go.RowKit

set_option maxRecDepth 20000 in
set_option maxHeartbeats 8000000 in
theorem walkBatches (A : Option Addr) (n c : Nat) (es : List GE) (b : Int) (w : World) (hin : RecsIn w A n c es) (hv : (Lit.int .i64 b).wf = true) :
    Calls Try.prog 8 #[.slice A n c, .int .i64 b] w fun e w' => e = .returned (.bool true) ∧ Below w.heap.size w w' := by
  have CZ := Lib.hid (fun W => szRecs_any A n c 1048576 W hin.l (by omega) (by omega))
  have HS := Lib.hid hin.g
  by_cases hb : (n : Int) ≤ 1048576
  · rw [leftG_pos hb] at CZ
    have hp : (0 : Int) ≤ 1048576 - (n : Int) := by omega
    generalize (1048576 : Int) - (n : Int) = q at CZ hp
    have CT := Lib.hid (fun W (h : Below w.heap.size w W) => toRecs_any A n c es W (HS.out.below h) (by omega))
    have hel := hin.g.len
    have hxn : es.length ≤ 2097152 := by omega
    have hxm : es.length ≤ 1048576 := by omega
    have CS : Hid (∀ W A c, SlG W A es.length es → es.length ≤ c → Calls Try.prog 37 #[.slice A es.length c, .int .i64 b] W (MadeT W (batchesZ b es))) := Lib.hid (fun W A c h hc => specBatches A es.length c es b W h hxm hc)
    have CI : Hid (∀ W A c, SlG W A es.length es → es.length ≤ c → Calls Try.prog 38 #[.slice A es.length c, .int .i64 b] W (MadeT W (batchesZ b es))) := Lib.hid (fun W A c h hc => implBatches A es.length c es b W h hxm hc (wf_le hv))
    have CE := Lib.hid (fun W A c A' c' (h1 : SlG W A es.length es) (h2 : SlG W A' es.length es) => eqRecs_any A A' es.length c c' es W h1 h2 hxn)
    have hkx : (0 : Int) ≤ ((1 + 3 * es.length : Nat) : Int) := by omega
    have CM := Lib.hid (fun W lo A c (h : W.ownsRow lo 30 3 (.slice A es.length c) es.length (es.flatMap GE.cells)) => (markRecs_any A es.length c lo 1 es W h rfl hxn (by omega)).mono fun _ _ h => MarkedRc.to3 h)
    have HX1 := Lib.hid (Nat.le_trans (batchesZ_len b es) hxm)
    have HX2 := Lib.hid (Nat.le_trans (batchesZ_total b es) hxm)
    generalize batchesZ b es = xs at CS CI HX1 HX2
    generalize 1 + 3 * es.length = kk at CM hkx
    have HCAP := Lib.hid (fun (W : World) (lo : Nat) A c (h : W.ownsRow lo 30 3 (.slice A es.length c) es.length (es.flatMap GE.cells)) => bat_cap h)
    clear hin hb hel hxn hxm
    go_enter Try.func8, Try.ntmps8
    go_wp2_with fail
    refine (CZ.out _).mono ?_
    rintro e wa ⟨rfl, rfl⟩
    go_wp2_with fail
    refine (CT.out _ (Below.refl _ _)).mono ?_
    rintro e wb ⟨A1, c1, rfl, ho1, hbb⟩
    have HB := Lib.hid hbb
    have D1 := Lib.hid (SlG.of_own ho1 rfl)
    have K1 := Lib.hid (bat_cap ho1)
    clear hbb ho1
    go_wp2_with fail
    refine (CS.out _ _ _ D1.out K1.out).mono ?_
    rintro e wc ⟨Aw, nw, cw, bw, rfl, how, hxw, hbc⟩
    have W2 := Lib.hid how
    have XW := Lib.hid hxw
    have SW := Lib.hid (how.small hxw HX1.out HX2.out)
    have HC := Lib.hid (g_chain HB.out hbc)
    clear hbc how hxw
    go_wp2_with fail
    refine (CT.out _ HC.out).mono ?_
    rintro e wd ⟨A2, c2, rfl, ho2, hbd⟩
    have X3 := Lib.hid ho2
    have K3 := Lib.hid (bat_cap ho2)
    have W3 := Lib.hid (W2.out.below hbd)
    have HD := Lib.hid (g_chain HC.out hbd)
    have hcd : wc.heap.size ≤ wd.heap.size := hbd.size
    clear hbd ho2
    go_wp2_with fail
    refine (CI.out _ _ _ (SlG.of_own X3.out rfl) K3.out).mono ?_
    rintro e we ⟨Ag, ng, cg, bg, rfl, hog, hxg, hbe⟩
    have SG := Lib.hid (hog.small hxg HX1.out HX2.out)
    obtain rfl : ng = nw := by rw [SG.out.k, SW.out.k]
    have G4 := Lib.hid hog
    have XE := Lib.hid (hxg.trans XW.out.symm)
    have X4 := Lib.hid (own_below X3.out hbe)
    have W4 := Lib.hid (W3.out.below hbe)
    have HE := Lib.hid (g_chain HD.out hbe)
    have hn1 : ng ≤ 2097152 := by have := SG.out.c; omega
    have HN2 : Hid (∀ e ∈ bg, e.n ≤ 2097152) := Lib.hid (fun e he => by have := SG.out.e e he; omega)
    have HK8 : Hid (endT 1 bg ≤ 8388608) := Lib.hid (by have := SG.out.s; omega)
    obtain ⟨m, hm⟩ : ∃ m, endT 1 bg = m := ⟨_, rfl⟩
    have HM1 := Lib.hid (fun lo W (h : OwnT W lo Ag ng cg bg) => markBats_any Ag ng cg lo 1 bg W h hn1 HN2.out HK8.out)
    have HH1 := Lib.hid (fun W (h : SlT W Ag ng (markT 1 bg)) => heldBats_any Ag ng cg 1 bg W h hn1 HN2.out HK8.out SG.out.l)
    rw [hm] at HM1 HH1
    have hm0 : (0 : Int) ≤ (m : Int) := by omega
    clear hbe hog hxg hm
    go_wp2_with fail
    refine (eqBats_any _ _ _ _ _ _ _ _ G4.out.sl W4.out.sl XE.out hn1 HN2.out).mono ?_
    rintro e wf ⟨rfl, hbf⟩
    have G5 := Lib.hid (G4.out.below hbf)
    have X5 := Lib.hid (own_below X4.out hbf)
    have W5 := Lib.hid (W4.out.below hbf)
    have HF := Lib.hid (g_chain HE.out hbf)
    clear hbf
    go_wp2_with fail
    refine (CT.out _ HF.out).mono ?_
    rintro e wg ⟨A3, c3, rfl, ho3, hbg⟩
    have D5 := Lib.hid (SlG.of_own ho3 rfl)
    have G6 := Lib.hid (G5.out.below hbg)
    have X6 := Lib.hid (own_below X5.out hbg)
    have W6 := Lib.hid (W5.out.below hbg)
    have HG := Lib.hid (g_chain HF.out hbg)
    clear hbg ho3
    go_wp2_with fail
    refine (CE.out _ _ _ _ _ (SlG.of_own X6.out rfl) D5.out).mono ?_
    rintro e wh ⟨rfl, hbh⟩
    have G7 := Lib.hid (G6.out.below hbh)
    have X7 := Lib.hid (own_below X6.out hbh)
    have W7 := Lib.hid (W6.out.below hbh)
    have HH := Lib.hid (g_chain HG.out hbh)
    clear hbh
    go_wp2_with fail
    refine (CM.out _ _ _ _ X7.out).mono ?_
    rintro e wi ⟨rfl, -, hgi⟩
    have W8 := Lib.hid (W7.out.other W2.out hgi (fun k hk h => by have := (X3.out.lt k hk).1; omega))
    have G8 := Lib.hid (G7.out.other G4.out hgi (fun k hk h => by have := (X3.out.lt k hk).2; omega))
    have HI := Lib.hid (HH.out.grown hgi HH.out.size (fun j hj => by have := (X7.out.lt j hj).1; have := HC.out.size; omega))
    clear hgi
    go_wp2_with fail
    refine (eqBats_any _ _ _ _ _ _ _ _ G8.out.sl W8.out.sl XE.out hn1 HN2.out).mono ?_
    rintro e wj ⟨rfl, hbj⟩
    have G9 := Lib.hid (G8.out.below hbj)
    have W9 := Lib.hid (W8.out.below hbj)
    have HJ := Lib.hid (g_chain HI.out hbj)
    clear hbj
    go_wp2_with fail
    refine (HM1.out _ _ G9.out).mono ?_
    rintro e wk ⟨rfl, hok, hgk⟩
    have M10 := Lib.hid hok.sl
    have W10 := Lib.hid (W9.out.only W2.out hgk (fun k hk h => by have := (G4.out.blk hk).1; omega))
    have HK := Lib.hid (HJ.out.trans (hgk.toBelow HJ.out.size (fun k hk => by have := (G4.out.blk hk).1; have := HC.out.size; omega)))
    clear hok hgk
    go_wp2_with fail
    refine (HH1.out _ M10.out).mono ?_
    rintro e wl ⟨rfl, hbl⟩
    have M11 := Lib.hid (M10.out.below hbl)
    have W11 := Lib.hid (W10.out.below hbl)
    have HL := Lib.hid (g_chain HK.out hbl)
    clear hbl
    go_wp2_with fail
    refine (CT.out _ HL.out).mono ?_
    rintro e wm ⟨A4, c4, rfl, ho4, hbm⟩
    have M12 := Lib.hid (M11.out.below hbm)
    have W12 := Lib.hid (W11.out.below hbm)
    have D12 := Lib.hid (SlG.of_own ho4 rfl)
    have K12 := Lib.hid (bat_cap ho4)
    have HM := Lib.hid (g_chain HL.out hbm)
    clear hbm ho4
    go_wp2_with fail
    refine (CI.out _ _ _ D12.out K12.out).mono ?_
    rintro e wn ⟨Ah, nh, ch, bh, rfl, hoh, hxh, hbn⟩
    have SH := Lib.hid (hoh.small hxh HX1.out HX2.out)
    obtain rfl : nh = ng := by rw [SH.out.k, SG.out.k]
    have GH := Lib.hid hoh.sl
    have XH := Lib.hid (hxh.trans XW.out.symm)
    have HN3 : Hid (∀ e ∈ bh, e.n ≤ 2097152) := Lib.hid (fun e he => by have := SH.out.e e he; omega)
    have M13 := Lib.hid (M12.out.below hbn)
    have W13 := Lib.hid (W12.out.below hbn)
    have HN := Lib.hid (g_chain HM.out hbn)
    clear hbn hoh hxh
    go_wp2_with fail
    refine (eqBats_any _ _ _ _ _ _ _ _ GH.out W13.out.sl XH.out hn1 HN3.out).mono ?_
    rintro e wo ⟨rfl, hbo⟩
    have M14 := Lib.hid (M13.out.below hbo)
    have HO := Lib.hid (g_chain HN.out hbo)
    clear hbo
    go_wp2_with fail
    refine (HH1.out _ M14.out).mono ?_
    rintro e wp ⟨rfl, hbp⟩
    go_wp2
    go_ret
    exact ⟨rfl, g_chain HO.out hbp⟩
  · rw [leftG_neg (by omega)] at CZ
    clear hin hb
    go_enter Try.func8, Try.ntmps8
    go_wp2_with fail
    refine (CZ.out _).mono ?_
    rintro e wa ⟨rfl, rfl⟩
    go_wp2
    go_ret
    exact ⟨rfl, Below.refl _ _⟩
end Go.Proofs.Ytdmdikbcgpbbdaa
