/- The walk of the law FnExactFramesRead: it returns true and writes nothing that was there. -/
import Derived.Test.YtmlfhjkogcabiaaFrsSpec
import Derived.Test.YtmlfhjkogcabiaaFrsHelp
import Derived.Test.YtmlfhjkogcabiaaFrKeep
namespace Go.Proofs.Ytmlfhjkogcabiaa
open Go.RowKit

theorem OwnR.lows {w w' : World} {lo n c hi : Nat} {A : Option Addr} {es : List FrE} {row : Option Nat} (h : OwnR w lo A n c es) (hg : w.grownBy w' row) (hr : ∀ k, row = some k → k < hi) (hl : hi ≤ lo) : OwnR w' lo A n c es :=
  h.keep (fun k h1 h2 => hg.block k h2 (fun e => by have := hr k e.symm; omega))
theorem only_kept {S : Nat → Prop} {anc W W' : World} {lo : Nat} (h : Below anc.heap.size anc W) (hy : Only S W W') (hs : ∀ k, S k → lo ≤ k) (hl : anc.heap.size ≤ lo) : Below anc.heap.size anc W' :=
  h.trans (hy.toBelow h.size (fun k hk => Nat.le_trans hl (hs k hk)))
theorem OwnR.blk {w : World} {lo n c : Nat} {A : Option Addr} {es : List FrE} (h : OwnR w lo A n c es) : ∀ k, blkR A es k → lo ≤ k := by
  rintro k (⟨o, s, rfl⟩ | ⟨e, he, hk⟩)
  · exact (h.row.lt k rfl).1
  · exact (h.dat.lt (List.mem_map.2 ⟨e, he, rfl⟩) k hk).1

set_option maxRecDepth 20000 in
set_option maxHeartbeats 4000000 in
theorem walkFramesRead (d : Dat) (w : World) (hok : d.Ok w) (hn : d.n ≤ maxLen) :
    Calls Try.prog 5 #[.slice d.A d.n d.c] w fun e w' => e = .returned (.bool true) ∧ Below w.heap.size w w' := by
  unfold maxLen at hn
  by_cases hb : d.n ≤ 1048576
  · have dsz : decide ((1048576 : Int) < (d.n : Int)) = false := by simp; omega
    have dsz' : decide (1048576 < d.n) = false := by simp; omega
    have CT := Lib.hid (fun W (h : Below w.heap.size w W) => copy_any d.A d.n d.c d.xs W (hok.rd.below h) (by omega))
    have CS := Lib.hid (fun W A c (h : Rd W A d.n d.xs) (hc : d.n ≤ c) => specFrames A d.n c d.xs W h (by omega) hc)
    have CI := Lib.hid (fun W A c (h : Rd W A d.n d.xs) (hc : d.n ≤ c) => implFrames A d.n c d.xs W h (by omega) hc)
    have HXS := Lib.hid hok.rd.small
    have htot := frsAll_tot d.xs
    have hdl := hok.rd.len
    have CQ := Lib.hid (fun W A c A' c' (h1 : Rd W A d.n d.xs) (h2 : Rd W A' d.n d.xs) => tells_same (A := A) (B := A') (c := c) (d := c') h1 h2 (by omega))
    have CM := Lib.hid (fun W lo A c (h : W.ownsRow lo 5 1 (.slice A d.n c) d.n (vb d.xs)) => markB_any A d.n c lo 1 d.xs W h (by omega) (by omega))
    generalize frsAll d.xs = R at CS CI htot
    obtain ⟨fs, stop⟩ := R
    simp only at htot
    have HTOT : Hid (∀ es : List FrE, (es.map fun e => e.d.n) = (es.map FrE.fr).map (fun p => p.2.length) → es.map FrE.fr = fs → es.length ≤ 2097152 ∧ (∀ e ∈ es, e.d.n ≤ 2097152) ∧ endRs 1 es ≤ 4194304) := Lib.hid (fun es h1 h2 => by
      rw [h2] at h1
      have h3 : es.length = fs.length := by rw [← h2, List.length_map]
      have h4 := endRs_sum es 1
      rw [h1] at h4
      refine ⟨by omega, fun e he => ?_, by omega⟩
      have h5 := le_sum_of_mem (fun e : FrE => e.d.n) es e he
      rw [h1] at h5
      omega)
    obtain ⟨A0, n0, c0, xs⟩ := d
    simp only at *
    have hk1 : (0 : Int) ≤ ((1 + n0 : Nat) : Int) := by omega
    clear hok hn hb htot hdl
    go_enter Try.func5, Try.ntmps5
    go_wp2_with fail
    refine (CT.out _ (Below.refl _ _)).mono ?_
    rintro e wb ⟨A1, c1, rfl, ho1, hbb⟩
    have HB := Lib.hid hbb
    have D1 := Lib.hid (Rd.of_own ho1 HXS.out)
    have K1 := Lib.hid (own_cap ho1)
    clear hbb ho1
    go_wp2_with fail
    refine (CS.out _ _ _ D1.out K1.out).mono ?_
    rintro e wc ⟨Aw, cw, ew, rfl, hew, how, hbc⟩
    have HEW := Lib.hid hew
    have W2 := Lib.hid how.sl
    have HC := Lib.hid (fr_chain HB.out hbc)
    clear hbc how hew
    go_wp2_with fail
    refine (CT.out _ HC.out).mono ?_
    rintro e wd ⟨A2, c2, rfl, ho2, hbd⟩
    have KW3 := Lib.hid hbd
    have HD := Lib.hid (fr_chain HC.out hbd)
    have O3 := Lib.hid ho2
    have HAL := Lib.hid ho2.lt
    have D3 := Lib.hid (Rd.of_own ho2 HXS.out)
    have K3 := Lib.hid (own_cap ho2)
    have hcd : wc.heap.size ≤ wd.heap.size := hbd.size
    clear hbd ho2
    go_wp2_with fail
    refine (CI.out _ _ _ D3.out K3.out).mono ?_
    rintro e we ⟨Ag, cg, eg, rfl, heg, hog, hbe⟩
    obtain ⟨hgl, hgs, hge⟩ := HTOT.out eg hog.sums heg
    have HGS := Lib.hid hgs
    have HEG := Lib.hid (heg.trans HEW.out.symm)
    have hlen : ew.length = eg.length := by have := congrArg List.length HEG.out; simp at this; exact this.symm
    have HLEN := Lib.hid hlen
    have CE := Lib.hid (fun W A c c' (es : List FrE) (hm : es.map FrE.fr = ew.map FrE.fr) (h1 : SlR W A eg.length es) (h2 : SlR W Aw eg.length ew) (h4 : ∀ e ∈ es, e.d.n ≤ 2097152) => eqFrs_any A Aw eg.length c c' es ew W h1 h2 hm hgl h4)
    rw [hlen] at W2 ⊢
    clear hlen
    have G4 := Lib.hid hog
    have KW4 := Lib.hid (fr_chain KW3.out hbe)
    have HE := Lib.hid (fr_chain HD.out hbe)
    have O4 := Lib.hid (own_below O3.out hbe)
    clear hbe hog O3 hgs
    go_wp2_with fail
    refine (CE.out _ _ _ _ eg HEG.out G4.out.sl (W2.out.below KW4.out) HGS.out).mono ?_
    rintro e wf ⟨rfl, hbf⟩
    have G5 := Lib.hid (G4.out.below hbf)
    have KW5 := Lib.hid (fr_chain KW4.out hbf)
    have HF := Lib.hid (fr_chain HE.out hbf)
    have O5 := Lib.hid (own_below O4.out hbf)
    clear hbf KW4 O4
    go_wp2_with fail
    refine (CT.out _ HF.out).mono ?_
    rintro e wg ⟨A4, c4, rfl, ho4, hbg⟩
    have G6 := Lib.hid (G5.out.below hbg)
    have KW6 := Lib.hid (fr_chain KW5.out hbg)
    have HG := Lib.hid (fr_chain HF.out hbg)
    have O6 := Lib.hid (own_below O5.out hbg)
    have D6 := Lib.hid (Rd.of_own ho4 HXS.out)
    clear hbg ho4 G5 KW5 O5
    go_wp2_with fail
    refine (CQ.out _ _ _ _ _ (Rd.of_own O6.out HXS.out) D6.out).mono ?_
    rintro e wh ⟨rfl, hbh⟩
    have G7 := Lib.hid (G6.out.below hbh)
    have KW7 := Lib.hid (fr_chain KW6.out hbh)
    have HH := Lib.hid (fr_chain HG.out hbh)
    have O7 := Lib.hid (own_below O6.out hbh)
    clear hbh G6 KW6 O6 D6
    go_wp2_with fail
    refine (CM.out _ _ _ _ O7.out).mono ?_
    rintro e wi ⟨rfl, _, hgi⟩
    have HOL := Lib.hid (fun k hk => O7.out.lt k hk)
    have HDL : Hid (∀ k, (Value.slice A2 n0 c2).ownBlock = some k → k < wd.heap.size) := Lib.hid (fun k hk => (HAL.out k hk).2)
    have G8 := Lib.hid (G7.out.lows hgi (fun k hk => HDL.out k hk) (Nat.le_refl _))
    have KW8 := Lib.hid (kept_grown KW7.out hgi (fun k hk => (HOL.out k hk).1) (Nat.le_refl _))
    have HI := Lib.hid (kept_grown HH.out hgi (fun k hk => (HOL.out k hk).1) HC.out.size)
    clear hgi G7 KW7 O7
    go_wp2_with fail
    refine (CE.out _ _ _ _ eg HEG.out G8.out.sl (W2.out.below KW8.out) HGS.out).mono ?_
    rintro e wj ⟨rfl, hbj⟩
    have G9 := Lib.hid (G8.out.below hbj)
    have KW9 := Lib.hid (fr_chain KW8.out hbj)
    have HJ := Lib.hid (fr_chain HI.out hbj)
    clear hbj G8 KW8
    go_wp2_with fail
    refine (markRs_any Ag eg.length cg wd.heap.size 1 eg _ G9.out hgl HGS.out (by omega) hge).mono ?_
    rintro e wk ⟨rfl, hok, hyk⟩
    have HBL := Lib.hid G9.out.blk
    have N10 := Lib.hid hok
    have KW10 := Lib.hid (only_kept KW9.out hyk HBL.out hcd)
    have HK := Lib.hid (only_kept HJ.out hyk HBL.out HD.out.size)
    clear hok hyk G9 KW9
    have hkp : (0 : Int) ≤ ((endRs 1 eg : Nat) : Int) := by omega
    have CH := Lib.hid (fun W (h : SlR W Ag eg.length (markRs 1 eg)) => heldRs_any Ag eg.length cg 1 eg W h hgl HGS.out (by omega) hge)
    generalize ((endRs 1 eg : Nat) : Int) = kq at CH hkp
    go_wp2_with fail
    refine (CH.out _ N10.out.sl).mono ?_
    rintro e wl ⟨rfl, hbl⟩
    have N11 := Lib.hid (N10.out.below hbl)
    have KW11 := Lib.hid (fr_chain KW10.out hbl)
    have HL := Lib.hid (fr_chain HK.out hbl)
    clear hbl N10 KW10
    go_wp2_with fail
    refine (CT.out _ HL.out).mono ?_
    rintro e wm ⟨A5, c5, rfl, ho5, hbm⟩
    have D12 := Lib.hid (Rd.of_own ho5 HXS.out)
    have K12 := Lib.hid (own_cap ho5)
    have N12 := Lib.hid (N11.out.below hbm)
    have KW12 := Lib.hid (fr_chain KW11.out hbm)
    have HM := Lib.hid (fr_chain HL.out hbm)
    clear hbm ho5 N11 KW11
    go_wp2_with fail
    refine (CI.out _ _ _ D12.out K12.out).mono ?_
    rintro e wn ⟨Ah, ch, eh, rfl, heh, hoh, hbn⟩
    obtain ⟨hhl, hhs, -⟩ := HTOT.out eh hoh.sums heh
    have HHS := Lib.hid hhs
    have HEH := Lib.hid (heh.trans HEW.out.symm)
    have hlen2 : eh.length = eg.length := by have := congrArg List.length HEH.out; rw [List.length_map, List.length_map, HLEN.out] at this; exact this
    have P13 := Lib.hid hoh.sl
    have N13 := Lib.hid (N12.out.below hbn)
    have KW13 := Lib.hid (fr_chain KW12.out hbn)
    have HN := Lib.hid (fr_chain HM.out hbn)
    have W13 := Lib.hid (W2.out.below KW13.out)
    rw [hlen2] at P13 ⊢
    clear hbn hoh N12 KW12 hhs hlen2 hhl
    go_wp2_with fail
    refine (CE.out _ _ _ _ eh HEH.out P13.out W13.out HHS.out).mono ?_
    rintro e wo ⟨rfl, hbo⟩
    have N14 := Lib.hid (N13.out.below hbo)
    have HO := Lib.hid (fr_chain HN.out hbo)
    clear hbo
    go_wp2_with fail
    refine (CH.out _ N14.out.sl).mono ?_
    rintro e wp ⟨rfl, hbp⟩
    go_wp2
    go_ret
    exact ⟨rfl, fr_chain HO.out hbp⟩
  · have dsz : decide ((1048576 : Int) < (d.n : Int)) = true := by simp; omega
    have dsz' : decide (1048576 < d.n) = true := by simp; omega
    clear hok
    go_enter Try.func5, Try.ntmps5
    go_wp2
    go_ret
    exact ⟨rfl, Below.refl _ _⟩
end Go.Proofs.Ytmlfhjkogcabiaa
