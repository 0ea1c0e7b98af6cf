/- The walk of the law FnExactDiskBend: it returns true and writes nothing that was there. -/
import Derived.Test.YtfcomnpoehpgiaaKBendImpl
namespace Go.Proofs.Ytfcomnpoehpgiaa
open Go.RowKit

set_option maxRecDepth 20000 in
set_option maxHeartbeats 8000000 in
theorem walkDiskBend (room fuse : Int) (A : Option Addr) (n c : Nat) (B : Option Addr) (m d : Nat) (es : List Ent) (os : List OpE) (s : ByteArray) (a1 a2 : Int) (w : World) (hin : DiskIn w room fuse A n B m es os) (_hs1 : s.size ≤ maxLen) (h1 : (Lit.int .i64 a1).wf = true) (_h2 : (Lit.int .i64 a2).wf = true) :
    Calls Try.prog 13 #[.agg #[.int .i64 room, .int .i64 fuse, .slice A n c, .slice B m d], .string s, .int .i64 a1, .int .i64 a2] w fun e w' => e = .returned (.bool true) ∧ Below w.heap.size w w' := by
  by_cases hsz : s.size ≤ 1048576
  · have dsz : decide (1048576 < s.size) = false := by simp; omega
    have dsz' : decide ((1048576 : Int) < (s.size : Int)) = false := by simp; omega
    have CZ := Lib.hid (fun o => hin.sz (below_a1 w o) c d 1048576 (by omega) (by omega))
    by_cases hb : (((ddOf room fuse es os).weight : Nat) : Int) ≤ 1048576
    · have HWT : (ddOf room fuse es os).weight ≤ 1048576 := by omega
      rw [szI_pos hb] at CZ
      have hp : (0 : Int) ≤ 1048576 - (((ddOf room fuse es os).weight : Nat) : Int) := by omega
      generalize (1048576 : Int) - (((ddOf room fuse es os).weight : Nat) : Int) = q at CZ hp
      have MM := Lib.hid (hin.meant HWT)
      obtain ⟨r, hr⟩ : ∃ r, r = ddOf room fuse es os := ⟨_, rfl⟩
      have e1 : room = r.room := by rw [hr]; rfl
      have e2 : fuse = r.fuse := by rw [hr]; rfl
      rw [← hr] at MM
      subst e1 e2
      have CT := Lib.hid (fun W (h : Below w.heap.size w W) => (MM.out.below h).copy c d)
      have CS := Lib.hid (fun W A n c B m d es os (h : Meant W r A n B m es os) (hc : m ≤ d) => specBend r s a1 a2 h1 A n c B m d es os W h)
      have CI := Lib.hid (fun W A n c B m d es os (h : Meant W r A n B m es os) (hc : m ≤ d) => implBend r s a1 a2 h1 A n c B m d es os W h)
      have HW := Lib.hid MM.out.wt
      have HU := Lib.hid (bendD_bulk MM.out.wt s a1 a2)
      generalize bendD r s a1 a2 = ans at CS CI HU
      generalize (bendK r s a1 a2).isSome = x at CS CI
      clear hin hb hr HWT
      go_enter Try.func13, Try.ntmps13
      go_wp2_with fail
      refine (CZ.out _).mono ?_
      rintro e wa ⟨rfl, hba⟩
      have B0 := Lib.hid ((ABox.first w r.room r.fuse A n c B m d 52).below hba)
      obtain ⟨l0, c00, c01, c02, c03⟩ := B0.out.box
      clear hba
      go_wp2_with fail
      refine (CT.out _ B0.out.keep).mono ?_
      rintro e wb ⟨A1, c1, B1, d1, es1, os1, rfl, hf1, ho1, hd1, hbb⟩
      have Q1 := Lib.hid (B0.out.below hbb)
      have M1 := Lib.hid (meant_made hd1 hf1 ho1 HW.out)
      have K1 := Lib.hid (own_capK hd1.o.row)
      clear hbb hd1 hf1 ho1 c00 c01 c02 c03 l0
      go_wp2_with fail
      refine (CS.out _ _ _ _ _ _ _ _ _ M1.out K1.out).mono ?_
      rintro e wc ⟨Aw, nw, cw, Bw, mw, dw, esw, osw, rfl, hfw, how, slw, sow, hbc⟩
      have W2 := Lib.hid (WBox.first (c := cw) (d := dw) slw sow hfw how 26)
      have Q2 := Lib.hid ((Q1.out.below hbc).below (below_a1 wc (.cells #[.int .i64 ans.room, .int .i64 ans.fuse, .slice Aw nw cw, .slice Bw mw dw] 26)))
      have hlw : w.heap.size ≤ wc.heap.size := (Q1.out.below hbc).keep.size
      obtain ⟨l0, c00, c01, c02, c03⟩ := Q2.out.box
      clear hbc slw sow hfw how
      go_wp2_with fail
      refine (CT.out _ Q2.out.keep).mono ?_
      rintro e wd ⟨A2, c2, B2, d2, es2, os2, rfl, hf2, ho2, hd2, hbd⟩
      have X3 := Lib.hid (GBox.first (r := r) hd2 rfl rfl hf2 ho2 26)
      have FX := Lib.hid ((meant_made hd2 hf2 ho2 HW.out).fits)
      have K3 := Lib.hid (own_capK hd2.o.row)
      have M3 := Lib.hid ((meant_made hd2 hf2 ho2 HW.out).below (below_a1 wd (.cells #[.int .i64 r.room, .int .i64 r.fuse, .slice A2 es2.length c2, .slice B2 os2.length d2] 26)))
      have W3 := Lib.hid ((W2.out.below hbd).below (below_a1 wd (.cells #[.int .i64 r.room, .int .i64 r.fuse, .slice A2 es2.length c2, .slice B2 os2.length d2] 26)))
      have Q3 := Lib.hid ((Q2.out.below hbd).below (below_a1 wd (.cells #[.int .i64 r.room, .int .i64 r.fuse, .slice A2 es2.length c2, .slice B2 os2.length d2] 26)))
      have hlx : wc.heap.size < wd.heap.size := by have := hbd.size; simp at this; omega
      clear hbd hd2 hf2 ho2 c00 c01 c02 c03 l0
      go_wp2_with fail
      refine (CI.out _ _ _ _ _ _ _ _ _ M3.out K3.out).mono ?_
      rintro e we ⟨Ag, ng, cg, Bg, mg, dg, esg, osg, rfl, hfg, hog, hlg, hmg, hdg, hbe⟩
      have G4 := Lib.hid (GBox.first (c := cg) (d := dg) hdg hlg hmg hfg hog 26)
      have X4 := Lib.hid ((X3.out.below hbe).below (below_a1 we (.cells #[.int .i64 ans.room, .int .i64 ans.fuse, .slice Ag ng cg, .slice Bg mg dg] 26)))
      have M4 := Lib.hid ((M3.out.below hbe).below (below_a1 we (.cells #[.int .i64 ans.room, .int .i64 ans.fuse, .slice Ag ng cg, .slice Bg mg dg] 26)))
      have W4 := Lib.hid ((W3.out.below hbe).below (below_a1 we (.cells #[.int .i64 ans.room, .int .i64 ans.fuse, .slice Ag ng cg, .slice Bg mg dg] 26)))
      have Q4 := Lib.hid ((Q3.out.below hbe).below (below_a1 we (.cells #[.int .i64 ans.room, .int .i64 ans.fuse, .slice Ag ng cg, .slice Bg mg dg] 26)))
      have hlg0 : (wd.alloc (.cells #[.int .i64 r.room, .int .i64 r.fuse, .slice A2 es2.length c2, .slice B2 os2.length d2] 26)).heap.size ≤ we.heap.size := hbe.size
      clear hbe hdg hfg hog hlg hmg
      obtain ⟨l1, c10, c11, c12, c13⟩ := W4.out.box
      go_wp2_with fail
      refine (eq_gw HU.out G4.out W4.out).mono ?_
      rintro e wf ⟨rfl, hbf⟩
      have G5 := Lib.hid (G4.out.below hbf)
      have X5 := Lib.hid (X4.out.below hbf)
      have M5 := Lib.hid (M4.out.below hbf)
      have W5 := Lib.hid (W4.out.below hbf)
      have Q5 := Lib.hid (Q4.out.below hbf)
      clear hbf c10 c11 c12 c13 l1
      obtain ⟨l0, c00, c01, c02, c03⟩ := Q5.out.box
      obtain ⟨l1, c10, c11, c12, c13⟩ := X5.out.box
      go_wp2
      go_region_with (first
        | (go_at_call 35; ((with_reducible refine (CT.out _ (by first | exact Q5.out.keep | exact Q5.out.keep.drew | exact Q5.out.keep.drew.drew)).mono ?_)); rintro e wg ⟨A3, c3, B3, d3, es3, os3, rfl, hf3, ho3, hd3, hbg⟩; have HBG : Hid (Below wf.heap.size wf wg) := Lib.hid (by first | exact hbg | exact ⟨hbg.os, hbg.tape, hbg.output, hbg.size, hbg.block⟩); obtain ⟨l2, c20, c21, c22, c23⟩ := (X5.out.below HBG.out).box; have M6 := Lib.hid (M5.out.below HBG.out); have M7 := Lib.hid (meant_made hd3 hf3 ho3 HW.out))
        | (go_at_call 36; ((with_reducible refine (M6.out.eq M7.out _ _ _ _).mono ?_)); rintro e wh ⟨rfl, hbh⟩))
      all_goals
        have HBH : Hid (Below wf.heap.size wf wh) := Lib.hid (below_chain HBG.out hbh)
        have G6 := Lib.hid (G5.out.below HBH.out)
        have X6 := Lib.hid (X5.out.below HBH.out)
        have W6 := Lib.hid (W5.out.below HBH.out)
        have Q6 := Lib.hid (Q5.out.below HBH.out)
        clear l0 c00 c01 c02 c03 l1 c10 c11 c12 c13 l2 c20 c21 c22 c23 hf3 ho3 hd3 hbg hbh M6 M7
        obtain ⟨l1, c10, c11, c12, c13⟩ := X6.out.box
        go_wp2_with fail
        refine (mark_x FX.out X6.out).mono ?_
        rintro e wi ⟨rfl, hDi, hyi⟩
        have W7 := Lib.hid (W6.out.only hyi (fun k hk => by have h1 := (X6.out.inS k hk).1; simp only [World.size_alloc] at h1; omega))
        have Q7 := Lib.hid (Q6.out.only hyi (fun k hk => by have h1 := (X6.out.inS k hk).1; simp only [World.size_alloc] at h1; omega))
        have G7 := Lib.hid (G6.out.only hyi (fun k hk => by have h1 := (X6.out.inS k hk).2; simp; omega) (by exact hlg0))
        have hkx : (0 : Int) ≤ (endOs (endEs 1 es2) os2 : Int) := by omega
        clear l1 c10 c11 c12 c13 hDi hyi
        obtain ⟨l1, c10, c11, c12, c13⟩ := G7.out.box
        obtain ⟨l2, c20, c21, c22, c23⟩ := W7.out.box
        go_wp2_with fail
        refine (eq_gw HU.out G7.out W7.out).mono ?_
        rintro e wj ⟨rfl, hbj⟩
        have G8 := Lib.hid (G7.out.below hbj)
        have W8 := Lib.hid (W7.out.below hbj)
        have Q8 := Lib.hid (Q7.out.below hbj)
        clear l1 c10 c11 c12 c13 l2 c20 c21 c22 c23 hbj
        obtain ⟨l1, c10, c11, c12, c13⟩ := G8.out.box
        go_wp2_with fail
        refine (mark_g HU.out G8.out).mono ?_
        rintro e wk ⟨rfl, hDk, hyk⟩
        have HF := Lib.hid (G8.out.fits HU.out)
        have N9 := Lib.hid (G8.out.marked hyk hDk)
        have W9 := Lib.hid (W8.out.only hyk (fun k hk => by have h1 := (G8.out.inS k hk).1; simp only [World.size_alloc] at h1; omega))
        have Q9 := Lib.hid (Q8.out.only hyk (fun k hk => by have h1 := (G8.out.inS k hk).1; simp only [World.size_alloc] at h1; omega))
        clear l1 c10 c11 c12 c13 hDk hyk
        obtain ⟨l1, c10, c11, c12, c13⟩ := N9.out.box
        go_wp2_with fail
        refine (held_m HF.out N9.out).mono ?_
        rintro e wl ⟨rfl, hbl⟩
        have N10 := Lib.hid (N9.out.below hbl)
        have W10 := Lib.hid (W9.out.below hbl)
        have Q10 := Lib.hid (Q9.out.below hbl)
        have htop : (0 : Int) ≤ (endOs (endEs 1 esg) osg : Int) := by omega
        clear l1 c10 c11 c12 c13 hbl
        obtain ⟨l0, c00, c01, c02, c03⟩ := Q10.out.box
        go_wp2_with fail
        refine (CT.out _ Q10.out.keep).mono ?_
        rintro e wm ⟨A4, c4, B4, d4, es4, os4, rfl, hf4, ho4, hd4, hbm⟩
        have M11 := Lib.hid (meant_made hd4 hf4 ho4 HW.out)
        have K11 := Lib.hid (own_capK hd4.o.row)
        have N11 := Lib.hid (N10.out.below hbm)
        have W11 := Lib.hid (W10.out.below hbm)
        have Q11 := Lib.hid (Q10.out.below hbm)
        clear l0 c00 c01 c02 c03 hf4 ho4 hd4 hbm
        go_wp2_with fail
        refine (CI.out _ _ _ _ _ _ _ _ _ M11.out K11.out).mono ?_
        rintro e wn ⟨Ah, nh, ch, Bh, mh, dh, esh, osh, rfl, hfh, hoh, hlh, hmh, hdh, hbn⟩
        have GH := Lib.hid (GBox.first (c := ch) (d := dh) hdh hlh hmh hfh hoh 26)
        have N12 := Lib.hid ((N11.out.below hbn).below (below_a1 wn (.cells #[.int .i64 ans.room, .int .i64 ans.fuse, .slice Ah nh ch, .slice Bh mh dh] 26)))
        have W12 := Lib.hid ((W11.out.below hbn).below (below_a1 wn (.cells #[.int .i64 ans.room, .int .i64 ans.fuse, .slice Ah nh ch, .slice Bh mh dh] 26)))
        have Q12 := Lib.hid ((Q11.out.below hbn).below (below_a1 wn (.cells #[.int .i64 ans.room, .int .i64 ans.fuse, .slice Ah nh ch, .slice Bh mh dh] 26)))
        clear hfh hoh hlh hmh hdh hbn
        obtain ⟨l2, c20, c21, c22, c23⟩ := W12.out.box
        go_wp2_with fail
        refine (eq_gw HU.out GH.out W12.out).mono ?_
        rintro e wo ⟨rfl, hbo⟩
        have N13 := Lib.hid (N12.out.below hbo)
        have Q13 := Lib.hid (Q12.out.below hbo)
        clear l2 c20 c21 c22 c23 hbo
        obtain ⟨l1, c10, c11, c12, c13⟩ := N13.out.box
        go_wp2_with fail
        refine (held_m HF.out N13.out).mono ?_
        rintro e wp ⟨rfl, hbp⟩
        go_wp2
        go_ret
        exact ⟨rfl, (Q13.out.below hbp).keep⟩
    · rw [szI_neg (by omega)] at CZ
      clear hin hb
      go_enter Try.func13, Try.ntmps13
      go_wp2_with fail
      refine (CZ.out _).mono ?_
      rintro e wa ⟨rfl, hba⟩
      go_wp2
      go_ret
      exact ⟨rfl, below_chain (below_a1 w _) hba⟩
  · have dsz : decide (1048576 < s.size) = true := by simp; omega
    have dsz' : decide ((1048576 : Int) < (s.size : Int)) = true := by simp; omega
    clear hin
    go_enter Try.func13, Try.ntmps13
    go_wp2
    go_ret
    exact ⟨rfl, below_a1 w _⟩
end Go.Proofs.Ytfcomnpoehpgiaa
