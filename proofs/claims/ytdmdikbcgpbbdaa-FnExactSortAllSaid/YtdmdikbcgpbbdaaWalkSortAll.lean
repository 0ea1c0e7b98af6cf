/- The walk of the law FnExactSortAll: it returns true and writes nothing that was there. -/
import Derived.Test.YtdmdikbcgpbbdaaSortAll
import Derived.Test.YtdmdikbcgpbbdaaSortS
import Derived.Test.YtdmdikbcgpbbdaaRecLaw
import Derived.Test.YtdmdikbcgpbbdaaRecEq
import Derived.Test.YtdmdikbcgpbbdaaRecHeld
import Derived.Test.YtdmdikbcgpbbdaaRecArg
import Derived.Test.YtdmdikbcgpbbdaaRecW
namespace Go.Proofs.Ytdmdikbcgpbbdaa
open Go.RowKit

set_option maxRecDepth 20000 in
set_option maxHeartbeats 8000000 in
theorem walkSortAll (A : Option Addr) (n c : Nat) (es : List GE) (b : Int) (w : World) (hin : RecsIn w A n c es) (_hv : (Lit.int .i64 b).wf = true) :
    Calls Try.prog 10 #[.slice A n c, .int .i64 b] w fun e w' => e = .returned (.bool true) ∧ Below w.heap.size w w' := by
  have CZ := Lib.hid (fun W => szRecs_any A n c 1048576 W hin.l (by omega) (by omega))
  have HS := Lib.hid hin.g
  by_cases hb : (n : Int) ≤ 1048576
  · rw [leftG_pos hb] at CZ
    have hp : (0 : Int) ≤ 1048576 - (n : Int) := by omega
    generalize (1048576 : Int) - (n : Int) = q at CZ hp
    have CT := Lib.hid (fun W (h : Below w.heap.size w W) => toRecs_any A n c es W (HS.out.below h) (by omega))
    have hel := hin.g.len
    have hxn : es.length ≤ 2097152 := by omega
    have hxm : es.length ≤ 1048576 := by omega
    have CS : Hid (∀ W A c, SlG W A es.length es → es.length ≤ c → Calls Try.prog 46 #[.slice A es.length c, .int .i64 b] W (MadeRc W (mergeAll (batchesZ b es)))) := Lib.hid (fun W A c h hc => specSortAll A es.length c es b W h hxm hc)
    have CI : Hid (∀ W A c, SlG W A es.length es → es.length ≤ c → Calls Try.prog 12 #[.slice A es.length c, .int .i64 b] W (MadeRc W (mergeAll (batchesZ b es)))) := Lib.hid (fun W A c h hc => implSortAll A es.length c es b W h hxm hc (wf_le _hv))
    have CE := Lib.hid (fun W A c A' c' (h1 : SlG W A es.length es) (h2 : SlG W A' es.length es) => eqRecs_any A A' es.length c c' es W h1 h2 hxn)
    have hkx : (0 : Int) ≤ ((1 + 3 * es.length : Nat) : Int) := by omega
    have CM := Lib.hid (fun W lo A c (h : W.ownsRow lo 30 3 (.slice A es.length c) es.length (es.flatMap GE.cells)) => (markRecs_any A es.length c lo 1 es W h rfl hxn (by omega)).mono fun _ _ h => MarkedRc.to3 h)
    have hxl : (mergeAll (batchesZ b es)).length ≤ 2097152 := (by have h1 := mergeAll_len (batchesZ b es); have h2 := batchesZ_total b es; omega)
    generalize mergeAll (batchesZ b es) = xs at CS CI hxl
    have CQ := Lib.hid (fun W A A' c c' (h1 : SlG W A xs.length xs) (h2 : SlG W A' xs.length xs) => eqRecs_any A A' xs.length c c' xs W h1 h2 hxl)
    have CK := Lib.hid (fun W lo A c (h : W.ownsRow lo 30 3 (.slice A xs.length c) xs.length (xs.flatMap GE.cells)) => (markRecs_any A xs.length c lo 1 xs W h rfl hxl (by omega)).mono fun _ _ h => MarkedRc.to3 h)
    have CH := Lib.hid (fun W A c (h : SlG W A xs.length (markG 1 xs)) => heldRecs_any A xs.length c 1 xs W h hxl (by omega))
    have HML := Lib.hid (markG_len xs 1)
    generalize 1 + 3 * es.length = kk at CM hkx
    have hmm : (0 : Int) ≤ ((1 + 3 * xs.length : Nat) : Int) := by omega
    generalize 1 + 3 * xs.length = mm at CK CH hmm
    clear hin hb hel hxn hxm hxl
    go_enter Try.func10, Try.ntmps10
    go_wp2_with fail
    refine (CZ.out _).mono ?_
    rintro e wa ⟨rfl, rfl⟩
    go_wp2_with fail
    refine (CT.out _ (Below.refl _ _)).mono ?_
    rintro e wb ⟨A1, c1, rfl, ho1, hbb⟩
    have HB := Lib.hid hbb
    have D1 := Lib.hid (SlG.of_own ho1 rfl)
    have K1 := Lib.hid (bat_cap ho1)
    clear hbb ho1
    go_wp2_with fail
    refine (CS.out _ _ _ D1.out K1.out).mono ?_
    rintro e wc ⟨Aw, cw, rfl, how, hbc⟩
    have W2 := Lib.hid how
    have HC := Lib.hid (g_chain HB.out hbc)
    clear hbc how
    go_wp2_with fail
    refine (CT.out _ HC.out).mono ?_
    rintro e wd ⟨A2, c2, rfl, ho2, hbd⟩
    have X3 := Lib.hid ho2
    have K3 := Lib.hid (bat_cap ho2)
    have W3 := Lib.hid (own_below W2.out hbd)
    have HD := Lib.hid (g_chain HC.out hbd)
    have hcd : wc.heap.size ≤ wd.heap.size := hbd.size
    clear hbd ho2
    go_wp2_with fail
    refine (CI.out _ _ _ (SlG.of_own X3.out rfl) K3.out).mono ?_
    rintro e we ⟨Ag, cg, rfl, hog, hbe⟩
    have G4 := Lib.hid hog
    have X4 := Lib.hid (own_below X3.out hbe)
    have W4 := Lib.hid (own_below W3.out hbe)
    have HE := Lib.hid (g_chain HD.out hbe)
    clear hbe hog
    go_wp2_with fail
    refine (CQ.out _ _ _ _ _ (SlG.of_own G4.out rfl) (SlG.of_own W4.out rfl)).mono ?_
    rintro e wf ⟨rfl, hbf⟩
    have G5 := Lib.hid (own_below G4.out hbf)
    have X5 := Lib.hid (own_below X4.out hbf)
    have W5 := Lib.hid (own_below W4.out hbf)
    have HF := Lib.hid (g_chain HE.out hbf)
    clear hbf
    go_wp2_with fail
    refine (CT.out _ HF.out).mono ?_
    rintro e wg ⟨A3, c3, rfl, ho3, hbg⟩
    have D5 := Lib.hid (SlG.of_own ho3 rfl)
    have G6 := Lib.hid (own_below G5.out hbg)
    have X6 := Lib.hid (own_below X5.out hbg)
    have W6 := Lib.hid (own_below W5.out hbg)
    have HG := Lib.hid (g_chain HF.out hbg)
    clear hbg ho3
    go_wp2_with fail
    refine (CE.out _ _ _ _ _ (SlG.of_own X6.out rfl) D5.out).mono ?_
    rintro e wh ⟨rfl, hbh⟩
    have G7 := Lib.hid (own_below G6.out hbh)
    have X7 := Lib.hid (own_below X6.out hbh)
    have W7 := Lib.hid (own_below W6.out hbh)
    have HH := Lib.hid (g_chain HG.out hbh)
    clear hbh
    go_wp2_with fail
    refine (CM.out _ _ _ _ X7.out).mono ?_
    rintro e wi ⟨rfl, -, hgi⟩
    have W8 := Lib.hid (own_other W7.out hgi (ne_of_before W2.out X3.out (Nat.le_refl _)))
    have G8 := Lib.hid (own_other G7.out hgi (ne_of_after G4.out X3.out (Nat.le_refl _)))
    have HI := Lib.hid (HH.out.grown hgi HH.out.size (fun j hj => by have := (X7.out.lt j hj).1; have := HC.out.size; omega))
    clear hgi
    go_wp2_with fail
    refine (CQ.out _ _ _ _ _ (SlG.of_own G8.out rfl) (SlG.of_own W8.out rfl)).mono ?_
    rintro e wj ⟨rfl, hbj⟩
    have G9 := Lib.hid (own_below G8.out hbj)
    have W9 := Lib.hid (own_below W8.out hbj)
    have HJ := Lib.hid (g_chain HI.out hbj)
    clear hbj
    go_wp2_with fail
    refine (CK.out _ _ _ _ G9.out).mono ?_
    rintro e wk ⟨rfl, hok, hgk⟩
    have M10 := Lib.hid (SlG.of_own hok HML.out)
    have W10 := Lib.hid (own_other W9.out hgk (ne_of_before W2.out G9.out hcd))
    have HK := Lib.hid (HJ.out.grown hgk HJ.out.size (fun j hj => by have := (G9.out.lt j hj).1; have := HC.out.size; omega))
    clear hok hgk
    go_wp2_with fail
    refine (CH.out _ _ _ M10.out).mono ?_
    rintro e wl ⟨rfl, hbl⟩
    have M11 := Lib.hid (M10.out.below hbl)
    have W11 := Lib.hid (own_below W10.out hbl)
    have HL := Lib.hid (g_chain HK.out hbl)
    clear hbl
    go_wp2_with fail
    refine (CT.out _ HL.out).mono ?_
    rintro e wm ⟨A4, c4, rfl, ho4, hbm⟩
    have M12 := Lib.hid (M11.out.below hbm)
    have W12 := Lib.hid (own_below W11.out hbm)
    have D12 := Lib.hid (SlG.of_own ho4 rfl)
    have K12 := Lib.hid (bat_cap ho4)
    have HM := Lib.hid (g_chain HL.out hbm)
    clear hbm ho4
    go_wp2_with fail
    refine (CI.out _ _ _ D12.out K12.out).mono ?_
    rintro e wn ⟨Ah, ch, rfl, hoh, hbn⟩
    have GH := Lib.hid (SlG.of_own hoh rfl)
    have M13 := Lib.hid (M12.out.below hbn)
    have W13 := Lib.hid (own_below W12.out hbn)
    have HN := Lib.hid (g_chain HM.out hbn)
    clear hbn hoh
    go_wp2_with fail
    refine (CQ.out _ _ _ _ _ GH.out (SlG.of_own W13.out rfl)).mono ?_
    rintro e wo ⟨rfl, hbo⟩
    have M14 := Lib.hid (M13.out.below hbo)
    have HO := Lib.hid (g_chain HN.out hbo)
    clear hbo
    go_wp2_with fail
    refine (CH.out _ _ _ M14.out).mono ?_
    rintro e wp ⟨rfl, hbp⟩
    go_wp2
    go_ret
    exact ⟨rfl, g_chain HO.out hbp⟩
  · rw [leftG_neg (by omega)] at CZ
    clear hin hb
    go_enter Try.func10, Try.ntmps10
    go_wp2_with fail
    refine (CZ.out _).mono ?_
    rintro e wa ⟨rfl, rfl⟩
    go_wp2
    go_ret
    exact ⟨rfl, Below.refl _ _⟩
end Go.Proofs.Ytdmdikbcgpbbdaa
