/- The walk of the law FnExactDiskNew: it returns true and writes nothing that was there. -/
import Derived.Test.YthpedhnpgomoaaaDiskNew
namespace Go.Proofs.Ythpedhnpgomoaaa
open Go.RowKit

theorem newD_bulk (room : Int) : (newD room).bulk ≤ 2097152 := by
  unfold newD
  split <;> simp [DD.bulk, DD.zero, bulkF, bulkO]

set_option maxRecDepth 20000 in
set_option maxHeartbeats 4000000 in
theorem walkDiskNew (a0 : Int) (w : World) (_h0 : (Lit.int .i64 a0).wf = true) : Calls Try.prog 7 #[.int .i64 a0] w fun e w' => e = .returned (.bool true) ∧ Below w.heap.size w w' := by
  have CS := Lib.hid (fun W => specNew a0 W)
  have CI := Lib.hid (fun W => implNew a0 W)
  have HU := Lib.hid (newD_bulk a0)
  generalize newD a0 = r at CS CI HU
  generalize newOk a0 = ok at CS CI
  go_enter Try.func7, Try.ntmps7
  go_wp2_with fail
  refine (CS.out _).mono ?_
  rintro e wb ⟨Aw, nw, cw, Bw, mw, dw, esw, osw, rfl, hfw, how, slw, sow, hbb⟩
  have WW := Lib.hid (WBox.first (c := cw) (d := dw) slw sow hfw how 26)
  have HB := Lib.hid hbb
  clear slw sow hfw how hbb
  go_wp2_with fail
  refine (CI.out _).mono ?_
  rintro e wd ⟨Ag, ng, cg, Bg, mg, dg, esg, osg, rfl, hfg, hog, hlg, hmg, hdg, hbd⟩
  have GG := Lib.hid (GBox.first (c := cg) (d := dg) hdg hlg hmg hfg hog 26)
  have WD := Lib.hid (WW.out.below hbd)
  obtain ⟨l1, c10, c11, c12, c13⟩ := WD.out.box
  have WE := Lib.hid (WD.out.below (below_a1 wd (.cells #[.int .i64 r.room, .int .i64 r.fuse, .slice Ag ng cg, .slice Bg mg dg] 26)))
  have HBD := Lib.hid ((HB.out.trans ((below_a1 wb _).mono HB.out.size)).trans (hbd.mono (by have := HB.out.size; simp; omega)))
  have hlo : w.heap.size ≤ wd.heap.size := HBD.out.size
  clear hfg hog hlg hmg hdg hbd
  go_wp2_with fail
  refine (eq_gw HU.out GG.out WE.out).mono ?_
  rintro e we ⟨rfl, hbe⟩
  have G1 := Lib.hid (GG.out.below hbe)
  have W1 := Lib.hid (WE.out.below hbe)
  have HB1 := Lib.hid ((HBD.out.trans ((below_a1 wd _).mono HBD.out.size)).trans (hbe.mono (by simp; omega)))
  obtain ⟨l2, c20, c21, c22, c23⟩ := G1.out.box
  clear hbe c10 c11 c12 c13 l1
  go_wp2_with fail
  refine (mark_g HU.out G1.out).mono ?_
  rintro e wf ⟨rfl, hDf, hyf⟩
  have HF := Lib.hid (G1.out.fits HU.out)
  have M1 := Lib.hid (G1.out.marked hyf hDf)
  have W2 := Lib.hid (W1.out.only hyf (fun k hk => by have h1 := (G1.out.inS k hk).1; simp only [World.size_alloc] at h1; omega))
  have HB2 := Lib.hid (HB1.out.trans (hyf.toBelow HB1.out.size (fun k hk => by have h1 := (G1.out.inS k hk).1; have h2 := HB.out.size; simp only [World.size_alloc] at h1; omega)))
  obtain ⟨l3, c30, c31, c32, c33⟩ := M1.out.box
  clear hDf hyf c20 c21 c22 c23 l2
  go_wp2_with fail
  refine (held_m HF.out M1.out).mono ?_
  rintro e wg ⟨rfl, hbg⟩
  have M2 := Lib.hid (M1.out.below hbg)
  have W3 := Lib.hid (W2.out.below hbg)
  have HB3 := Lib.hid (HB2.out.trans (hbg.mono HB2.out.size))
  have htop : (0 : Int) ≤ (endOs (endEs 1 esg) osg : Int) := by omega
  clear hbg c30 c31 c32 c33 l3
  go_wp2_with fail
  refine (CI.out _).mono ?_
  rintro e wh ⟨Ah, nh, ch, Bh, mh, dh, esh, osh, rfl, hfh, hoh, hlh, hmh, hdh, hbh⟩
  have GH := Lib.hid (GBox.first (c := ch) (d := dh) hdh hlh hmh hfh hoh 26)
  have W4 := Lib.hid (W3.out.below hbh)
  obtain ⟨l4, c40, c41, c42, c43⟩ := W4.out.box
  have W5 := Lib.hid (W4.out.below (below_a1 wh (.cells #[.int .i64 r.room, .int .i64 r.fuse, .slice Ah nh ch, .slice Bh mh dh] 26)))
  have M3 := Lib.hid ((M2.out.below hbh).below (below_a1 wh (.cells #[.int .i64 r.room, .int .i64 r.fuse, .slice Ah nh ch, .slice Bh mh dh] 26)))
  have HB4 := Lib.hid (HB3.out.trans (hbh.mono HB3.out.size))
  clear hfh hoh hlh hmh hdh hbh
  go_wp2_with fail
  refine (eq_gw HU.out GH.out W5.out).mono ?_
  rintro e wi ⟨rfl, hbi⟩
  have M4 := Lib.hid (M3.out.below hbi)
  obtain ⟨l5, c50, c51, c52, c53⟩ := M4.out.box
  have HB5 := Lib.hid ((HB4.out.trans ((below_a1 wh _).mono HB4.out.size)).trans (hbi.mono (by have := HB4.out.size; simp; omega)))
  clear hbi c40 c41 c42 c43 l4
  go_wp2_with fail
  refine (held_m HF.out M4.out).mono ?_
  rintro e wj ⟨rfl, hbj⟩
  go_wp2
  go_ret
  exact ⟨rfl, HB5.out.trans (hbj.mono HB5.out.size)⟩
end Go.Proofs.Ythpedhnpgomoaaa
