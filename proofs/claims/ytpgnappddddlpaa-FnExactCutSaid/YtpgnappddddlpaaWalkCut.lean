/- The walk of the law FnExactCut: it returns true and writes nothing that was there. -/
import Derived.Test.YtpgnappddddlpaaLawInts
import Derived.Test.YtpgnappddddlpaaGrLaw
import Derived.Test.YtpgnappddddlpaaCutW
namespace Go.Proofs.Ytpgnappddddlpaa
open Go.RowKit

set_option maxRecDepth 20000 in
set_option maxHeartbeats 8000000 in
theorem walkCut (N : Int) (A : Option Addr) (n c : Nat) (es : List GE) (b : Int) (w : World) (hin : GrIn w N A n es) (_hv : (Lit.int .i64 b).wf = true) :
    Calls Try.prog 12 #[.agg #[.int .i64 N, .slice A n c], .int .i64 b] w fun e w' => e = .returned (.bool true) ∧ Below w.heap.size w w' := by
  have CZ := Lib.hid (fun W => szGraph_any N A n c 1048576 W hin.l (by omega) (by omega))
  have HS := Lib.hid hin.g
  by_cases hb : (n : Int) ≤ 1048576
  · rw [leftG_pos hb] at CZ
    have hp : (0 : Int) ≤ 1048576 - (n : Int) := by omega
    generalize (1048576 : Int) - (n : Int) = q at CZ hp
    have CT := Lib.hid (fun W (h : Below w.heap.size w W) => toGraph_any N A n c es W (HS.out.below h) (by omega))
    have hel := hin.g.len
    have hxn : es.length ≤ 1048576 := by omega
    have CS := Lib.hid (fun W A c (h : SlG W A es.length es) => specCut N A es.length c es b W h hxn)
    have CI := Lib.hid (fun W A c (h : SlG W A es.length es) => implCut N A es.length c es b W h hxn)
    have CE := Lib.hid (fun W A c A' c' (h1 : SlG W A es.length es) (h2 : SlG W A' es.length es) => eqGraph_any N A A' es.length c c' es W h1 h2 (by omega))
    have hkx : (0 : Int) ≤ ((1 + 3 * es.length : Nat) : Int) := by omega
    have CM := Lib.hid (fun W lo A c (h : W.ownsRow lo 145 3 (.slice A es.length c) es.length (es.flatMap GE.cells)) => markGraph_any N A es.length c lo 1 es W h rfl (by omega) (by omega))
    have hxl := cutR_len N es b
    generalize cutR N es b = xs at CS CI hxl
    have CQ := Lib.hid (fun W A A' c c' (h1 : SlI W A xs.length xs) (h2 : SlI W A' xs.length xs) => eqInts_any A A' xs.length c c' xs W h1 h2 (by omega))
    have CK := Lib.hid (fun W lo A c (h : OwI W lo A xs.length c xs) => markInts_any A xs.length c lo 1 xs W h (by omega) (by omega))
    have CH := Lib.hid (fun W A c (h : SlI W A xs.length (ints 1 xs.length)) => heldInts_any A xs.length c 1 W h (by omega) (by omega))
    generalize 1 + 3 * es.length = kk at CM hkx
    have hmm : (0 : Int) ≤ ((1 + xs.length : Nat) : Int) := by omega
    clear hin hb hel
    go_enter Try.func12, Try.ntmps12
    go_wp2_with fail
    refine (CZ.out _).mono ?_
    rintro e wa ⟨rfl, hba⟩
    have B0 := Lib.hid ((NBox.new w N A n c 53).below hba)
    have HA := Lib.hid (g_chain (below_a1 w _) hba)
    obtain ⟨l0, c00, c01⟩ := B0.out
    clear hba
    go_wp2_with fail
    refine (CT.out _ HA.out).mono ?_
    rintro e wb ⟨A1, c1, rfl, ho1, hbb⟩
    have B1 := Lib.hid (B0.out.below hbb)
    have HB := Lib.hid (g_chain HA.out hbb)
    have D1 := Lib.hid (SlG.of_own ho1 rfl)
    clear hbb ho1 c00 c01 l0
    go_wp2_with fail
    refine (CS.out _ _ _ D1.out).mono ?_
    rintro e wc ⟨Aw, nw, cw, rfl, how, hbc⟩
    obtain rfl := how.cnt
    have W2 := Lib.hid how
    have B2 := Lib.hid (B1.out.below hbc)
    have HC := Lib.hid (g_chain HB.out hbc)
    obtain ⟨l0, c00, c01⟩ := B2.out
    clear hbc how
    go_wp2_with fail
    refine (CT.out _ HC.out).mono ?_
    rintro e wd ⟨A2, c2, rfl, ho2, hbd⟩
    have X3 : Hid (XBox (wd.alloc (.cells #[.int .i64 N, .slice A2 es.length c2] 58)) wc.heap.size wd.heap.size N A2 es.length c2 es) := Lib.hid ⟨NBox.new wd N A2 es.length c2 _, own_below ho2 (below_a1 wd _)⟩
    have B3 := Lib.hid ((B2.out.below hbd).below (below_a1 wd (.cells #[.int .i64 N, .slice A2 es.length c2] 58)))
    have W3 := Lib.hid ((W2.out.below hbd).below (below_a1 wd (.cells #[.int .i64 N, .slice A2 es.length c2] 58)))
    have HD := Lib.hid (g_chain (g_chain HC.out hbd) (below_a1 wd (.cells #[.int .i64 N, .slice A2 es.length c2] 58)))
    have hcd : wc.heap.size ≤ wd.heap.size := hbd.size
    clear hbd ho2 c00 c01 l0
    go_wp2_with fail
    refine (CI.out _ _ _ (SlG.of_own X3.out.own rfl)).mono ?_
    rintro e we ⟨Ag, ng, cg, rfl, hog, hbe⟩
    obtain rfl := hog.cnt
    have G4 := Lib.hid hog
    have B4 := Lib.hid (B3.out.below hbe)
    have X4 := Lib.hid (X3.out.below hbe)
    have W4 := Lib.hid (W3.out.below hbe)
    have HE := Lib.hid (g_chain HD.out hbe)
    clear hbe hog
    go_wp2_with fail
    refine (CQ.out _ _ _ _ _ G4.out.rd W4.out.rd).mono ?_
    rintro e wf ⟨rfl, hbf⟩
    have G5 := Lib.hid (G4.out.below hbf)
    have B5 := Lib.hid (B4.out.below hbf)
    have X5 := Lib.hid (X4.out.below hbf)
    have W5 := Lib.hid (W4.out.below hbf)
    have HF := Lib.hid (g_chain HE.out hbf)
    obtain ⟨l0, c00, c01⟩ := B5.out
    obtain ⟨l1, c10, c11⟩ := X5.out.box
    clear hbf
    go_wp2
    go_region_with (first
      | (go_at_call 28; ((with_reducible refine (CT.out _ (by first | exact HF.out | exact HF.out.drew | exact HF.out.drew.drew)).mono ?_)); rintro e wg ⟨A3, c3, rfl, ho3, hbg⟩; have HBG : Hid (Below wf.heap.size wf wg) := Lib.hid (by first | exact hbg | exact ⟨hbg.os, hbg.tape, hbg.output, hbg.size, hbg.block⟩); obtain ⟨l2, c20, c21⟩ := (X5.out.below HBG.out).box; have D5 := Lib.hid (SlG.of_own (X5.out.below HBG.out).own rfl); have D6 := Lib.hid (SlG.of_own ho3 rfl))
      | (go_at_call 30; ((with_reducible refine (CE.out _ _ _ _ _ D5.out D6.out).mono ?_)); rintro e wh ⟨rfl, hbh⟩))
    all_goals
      have HBH : Hid (Below wf.heap.size wf wh) := Lib.hid (g_chain HBG.out hbh)
      have G6 := Lib.hid (G5.out.below HBH.out)
      have B6 := Lib.hid (B5.out.below HBH.out)
      have X6 := Lib.hid (X5.out.below HBH.out)
      have W6 := Lib.hid (W5.out.below HBH.out)
      have HH := Lib.hid (g_chain HF.out HBH.out)
      clear l0 c00 c01 l1 c10 c11 l2 c20 c21 ho3 hbg hbh D5 D6
      obtain ⟨l1, c10, c11⟩ := X6.out.box
      go_wp2_with fail
      refine (CM.out _ _ _ _ X6.out.own).mono ?_
      rintro e wi ⟨rfl, hgi⟩
      have W7 : Hid (OwI wi _ Aw xs.length cw xs) := Lib.hid (own_other W6.out hgi (ne_of_before W2.out X6.out.own (Nat.le_refl _)))
      have G7 : Hid (OwI wi _ Ag xs.length cg xs) := Lib.hid (own_other G6.out hgi (ne_of_after G4.out X3.out.own (Nat.le_refl _)))
      have B7 := Lib.hid (B6.out.keep hgi.size (hgi.block _ B6.out.lt (fun hh => by have := (X6.out.own.lt _ hh.symm).1; have := HC.out.size; have := B2.out.lt; omega)))
      have HI := Lib.hid (HH.out.grown hgi HH.out.size (fun j hj => by have := (X6.out.own.lt j hj).1; have := HC.out.size; omega))
      clear l1 c10 c11 hgi
      go_wp2_with fail
      refine (CQ.out _ _ _ _ _ G7.out.rd W7.out.rd).mono ?_
      rintro e wj ⟨rfl, hbj⟩
      have G8 := Lib.hid (G7.out.below hbj)
      have B8 := Lib.hid (B7.out.below hbj)
      have W8 := Lib.hid (W7.out.below hbj)
      have HJ := Lib.hid (g_chain HI.out hbj)
      clear hbj
      go_wp2_with fail
      refine (CK.out _ _ _ _ G8.out).mono ?_
      rintro e wk ⟨rfl, hok, hgk⟩
      have M9 : Hid (OwI wk _ Ag xs.length cg (ints 1 xs.length)) := Lib.hid hok
      have hwx : wc.heap.size ≤ (wd.alloc (.cells #[.int .i64 N, .slice A2 es.length c2] 58)).heap.size := by simp; omega
      have W9 : Hid (OwI wk _ Aw xs.length cw xs) := Lib.hid (own_other W8.out hgk (ne_of_before W2.out G8.out hwx))
      have B9 := Lib.hid (B8.out.keep hgk.size (hgk.block _ B8.out.lt (fun hh => by have := (G8.out.lt _ hh.symm).1; have := B2.out.lt; omega)))
      have HK := Lib.hid (HJ.out.grown hgk HJ.out.size (fun j hj => by have := (G8.out.lt j hj).1; have := HC.out.size; omega))
      clear hok hgk
      go_wp2_with fail
      refine (CH.out _ _ _ M9.out.rd).mono ?_
      rintro e wl ⟨rfl, rfl⟩
      obtain ⟨l0, c00, c01⟩ := B9.out
      go_wp2_with fail
      refine (CT.out _ HK.out).mono ?_
      rintro e wm ⟨A4, c4, rfl, ho4, hbm⟩
      have M10 := Lib.hid (M9.out.below hbm)
      have W10 := Lib.hid (W9.out.below hbm)
      have D10 := Lib.hid (SlG.of_own ho4 rfl)
      have HM := Lib.hid (g_chain HK.out hbm)
      clear hbm ho4 l0 c00 c01
      go_wp2_with fail
      refine (CI.out _ _ _ D10.out).mono ?_
      rintro e wn ⟨Ah, nh, ch, rfl, hoh, hbn⟩
      obtain rfl := hoh.cnt
      have GH := Lib.hid hoh.rd
      have M11 := Lib.hid (M10.out.below hbn)
      have W11 := Lib.hid (W10.out.below hbn)
      have HN := Lib.hid (g_chain HM.out hbn)
      clear hbn hoh
      go_wp2_with fail
      refine (CQ.out _ _ _ _ _ GH.out W11.out.rd).mono ?_
      rintro e wo ⟨rfl, hbo⟩
      have M12 := Lib.hid (M11.out.below hbo)
      have HO := Lib.hid (g_chain HN.out hbo)
      clear hbo
      go_wp2_with fail
      refine (CH.out _ _ _ M12.out.rd).mono ?_
      rintro e wp ⟨rfl, rfl⟩
      go_wp2
      go_ret
      exact ⟨rfl, HO.out⟩
  · rw [leftG_neg (by omega)] at CZ
    clear hin hb
    go_enter Try.func12, Try.ntmps12
    go_wp2_with fail
    refine (CZ.out _).mono ?_
    rintro e wa ⟨rfl, hba⟩
    go_wp2
    go_ret
    exact ⟨rfl, g_chain (below_a1 w _) hba⟩
end Go.Proofs.Ytpgnappddddlpaa
