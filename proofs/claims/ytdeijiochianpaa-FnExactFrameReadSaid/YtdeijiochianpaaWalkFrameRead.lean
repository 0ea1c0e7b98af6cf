/- The walk of the law FnExactFrameRead: it returns true and writes nothing that was there. -/
import Derived.Test.YtdeijiochianpaaFrSpec
import Derived.Test.YtdeijiochianpaaFrKeep
namespace Go.Proofs.Ytdeijiochianpaa
open Go.RowKit

set_option maxRecDepth 20000 in
set_option maxHeartbeats 4000000 in
theorem walkFrameRead (d : Dat) (a : Int) (w : World) (hok : d.Ok w) (hn : d.n ≤ maxLen) (_ha : (Lit.int .i64 a).wf = true) :
    Calls Try.prog 6 #[.slice d.A d.n d.c, .int .i64 a] w fun e w' => e = .returned (.bool true) ∧ Below w.heap.size w w' := by
  unfold maxLen at hn
  by_cases hb : d.n ≤ 1048576
  · have dsz : decide ((1048576 : Int) < (d.n : Int)) = false := by simp; omega
    have dsz' : decide (1048576 < d.n) = false := by simp; omega
    have CT := Lib.hid (fun W (h : Below w.heap.size w W) => copy_any d.A d.n d.c d.xs W (hok.rd.below h) (by omega))
    have CS := Lib.hid (fun W A c (h : Rd W A d.n d.xs) (hc : d.n ≤ c) => specFrameRead A d.n c d.xs a W h (by omega) hc)
    have CI := Lib.hid (fun W A c (h : Rd W A d.n d.xs) (hc : d.n ≤ c) => implFrameRead A d.n c d.xs a W h (by omega) hc)
    have hsm := frR_small d.xs a hok.rd.small
    have HXS := Lib.hid hok.rd.small
    have HXL : Hid (d.xs.length = d.n) := Lib.hid hok.rd.len
    have CQ := Lib.hid (fun W A c A' c' (h1 : Rd W A d.n d.xs) (h2 : Rd W A' d.n d.xs) => tells_same (A := A) (B := A') (c := c) (d := c') h1 h2 (by omega))
    have CM := Lib.hid (fun W lo A c (h : W.ownsRow lo 5 1 (.slice A d.n c) d.n (vb d.xs)) => markB_any A d.n c lo 1 d.xs W h (by omega) (by omega))
    generalize frR d.xs a = R at CS CI hsm
    obtain ⟨⟨kd, data⟩, nx, cd⟩ := R
    have HSM : Hid (∀ x ∈ data, x < 256) := Lib.hid hsm.1
    have hdl : data.length ≤ 60000 := hsm.2
    have CE := Lib.hid (fun W A c A' c' (h1 : (⟨A, data.length, c, data⟩ : Dat).Ok W) (h2 : Rd W A' data.length data ∧ data.length ≤ c') => eqFr_any kd ⟨A, data.length, c, data⟩ ⟨A', data.length, c', data⟩ W h1 ⟨h2.1, h2.2⟩ rfl (by show data.length ≤ 2097152; omega))
    have CK := Lib.hid (fun W lo A c (h : W.ownsRow lo 5 1 (.slice A data.length c) data.length (vb data)) => markFrK kd A data.length c lo 1 data W h (by omega) (by omega))
    have CH := Lib.hid (fun W A c (h : Rd W A data.length (marksK 1 data.length)) => heldFrK kd A data.length c 1 W h (by omega) (by omega))
    obtain ⟨A0, n0, c0, xs⟩ := d
    simp only at *
    have hk1 : (0 : Int) ≤ ((1 + n0 : Nat) : Int) := by omega
    have hk2 : (0 : Int) ≤ ((1 + data.length : Nat) : Int) := by omega
    clear hok hn hb hsm
    go_enter Try.func6, Try.ntmps6
    go_wp2_with fail
    refine (CT.out _ (Below.refl _ _)).mono ?_
    rintro e wb ⟨A1, c1, rfl, ho1, hbb⟩
    have HB := Lib.hid hbb
    have D1 := Lib.hid (Rd.of_own ho1 HXS.out)
    have K1 := Lib.hid (own_cap ho1)
    clear hbb ho1
    go_wp2_with fail
    refine (CS.out _ _ _ D1.out K1.out).mono ?_
    rintro e wc ⟨Aw, cw, rfl, hrw, hcw, hbc⟩
    have W2 : Hid (Rd wc Aw data.length data ∧ data.length ≤ cw) := Lib.hid ⟨hrw, hcw⟩
    have X2 := Lib.hid (Box2.new wc (.int .i64 kd) (.slice Aw data.length cw) 59)
    have KW2 := Lib.hid (below_a1 wc (.cells #[.int .i64 kd, .slice Aw data.length cw] 59))
    have HC := Lib.hid (fr_chain HB.out hbc)
    have HC1 := Lib.hid (fr_chain HC.out KW2.out)
    clear hbc hrw hcw
    go_wp2_with fail
    refine (CT.out _ HC1.out).mono ?_
    rintro e wd ⟨A2, c2, rfl, ho2, hbd⟩
    have X3 := Lib.hid (X2.out.below hbd)
    have KW3 := Lib.hid (fr_chain KW2.out hbd)
    have HD := Lib.hid (fr_chain HC1.out hbd)
    have O3 := Lib.hid ho2
    have HAL := Lib.hid ho2.lt
    have D3 := Lib.hid (Rd.of_own ho2 HXS.out)
    have K3 := Lib.hid (own_cap ho2)
    have hcw1 : wc.heap.size < (wc.alloc (.cells #[.int .i64 kd, .slice Aw data.length cw] 59)).heap.size := by simp
    have hcd : wc.heap.size < wd.heap.size := Nat.lt_of_lt_of_le hcw1 hbd.size
    clear hbd ho2
    go_wp2_with fail
    refine (CI.out _ _ _ D3.out K3.out).mono ?_
    rintro e we ⟨Ag, cg, rfl, hog, hbe⟩
    have G4 : Hid ((we.alloc (.cells #[.int .i64 kd, .slice Ag data.length cg] 59)).ownsRow wd.heap.size 5 1 (.slice Ag data.length cg) data.length (vb data)) := Lib.hid (own_below hog (below_a1 we _))
    have Y4 := Lib.hid (Box2.new we (.int .i64 kd) (.slice Ag data.length cg) 59)
    have KE := Lib.hid (fr_chain hbe (below_a1 we (.cells #[.int .i64 kd, .slice Ag data.length cg] 59)))
    have X4 := Lib.hid (X3.out.below KE.out)
    have KW4 := Lib.hid (fr_chain KW3.out KE.out)
    have HE := Lib.hid (fr_chain HD.out KE.out)
    have O4 := Lib.hid (own_below O3.out KE.out)
    have HGL := Lib.hid hog.lt
    have hde : wd.heap.size ≤ we.heap.size := hbe.size
    clear hbe hog X3 KW3 O3
    obtain ⟨l0, c00, c01⟩ := X4.out
    obtain ⟨l1, c10, c11⟩ := Y4.out
    go_wp2_with fail
    refine (CE.out _ _ _ _ _ (made_ok G4.out HSM.out) ⟨W2.out.1.below KW4.out, W2.out.2⟩).mono ?_
    rintro e wf ⟨rfl, hbf⟩
    have G5 := Lib.hid (own_below G4.out hbf)
    have Y5 := Lib.hid (Y4.out.below hbf)
    have X5 := Lib.hid (X4.out.below hbf)
    have KW5 := Lib.hid (fr_chain KW4.out hbf)
    have HF := Lib.hid (fr_chain HE.out hbf)
    have O5 := Lib.hid (own_below O4.out hbf)
    clear hbf l0 c00 c01 l1 c10 c11 G4 Y4 X4 KW4 O4
    go_wp2_with fail
    refine (CT.out _ HF.out).mono ?_
    rintro e wg ⟨A4, c4, rfl, ho4, hbg⟩
    have G6 := Lib.hid (own_below G5.out hbg)
    have Y6 := Lib.hid (Y5.out.below hbg)
    have X6 := Lib.hid (X5.out.below hbg)
    have KW6 := Lib.hid (fr_chain KW5.out hbg)
    have HG := Lib.hid (fr_chain HF.out hbg)
    have O6 := Lib.hid (own_below O5.out hbg)
    have D6 := Lib.hid (Rd.of_own ho4 HXS.out)
    clear hbg ho4 G5 Y5 X5 KW5 O5
    go_wp2_with fail
    refine (CQ.out _ _ _ _ _ (Rd.of_own O6.out HXS.out) D6.out).mono ?_
    rintro e wh ⟨rfl, hbh⟩
    have G7 := Lib.hid (own_below G6.out hbh)
    have Y7 := Lib.hid (Y6.out.below hbh)
    have X7 := Lib.hid (X6.out.below hbh)
    have KW7 := Lib.hid (fr_chain KW6.out hbh)
    have HH := Lib.hid (fr_chain HG.out hbh)
    have O7 := Lib.hid (own_below O6.out hbh)
    clear hbh G6 Y6 X6 KW6 O6 D6
    go_wp2_with fail
    refine (CM.out _ _ _ _ O7.out).mono ?_
    rintro e wi ⟨rfl, _, hgi⟩
    have HOL := Lib.hid (fun k hk => O7.out.lt k hk)
    have HDL : Hid (∀ k, (Value.slice A2 n0 c2).ownBlock = some k → k < wd.heap.size) := Lib.hid (fun k hk => (HAL.out k hk).2)
    have G8 := Lib.hid (row_grown G7.out hgi (fun k hk => HDL.out k hk) (Nat.le_refl _))
    have Y8 := Lib.hid (Y7.out.keep hgi.size (hgi.block _ Y7.out.lt (fun hh => by have := HDL.out _ hh.symm; omega)))
    have X8 := Lib.hid (box2_grown X7.out hgi (fun k hk => (HOL.out k hk).1) hcw1)
    have KW8 := Lib.hid (kept_grown KW7.out hgi (fun k hk => (HOL.out k hk).1) (Nat.le_of_lt hcw1))
    have HI := Lib.hid (kept_grown HH.out hgi (fun k hk => (HOL.out k hk).1) HC1.out.size)
    clear hgi G7 Y7 X7 KW7 O7
    obtain ⟨l0, c00, c01⟩ := X8.out
    obtain ⟨l1, c10, c11⟩ := Y8.out
    go_wp2_with fail
    refine (CE.out _ _ _ _ _ (made_ok G8.out HSM.out) ⟨W2.out.1.below KW8.out, W2.out.2⟩).mono ?_
    rintro e wj ⟨rfl, hbj⟩
    have G9 := Lib.hid (own_below G8.out hbj)
    have Y9 := Lib.hid (Y8.out.below hbj)
    have X9 := Lib.hid (X8.out.below hbj)
    have KW9 := Lib.hid (fr_chain KW8.out hbj)
    have HJ := Lib.hid (fr_chain HI.out hbj)
    clear hbj l0 c00 c01 l1 c10 c11 G8 Y8 X8 KW8
    obtain ⟨l1, c10, c11⟩ := Y9.out
    go_wp2_with fail
    refine (CK.out _ _ _ _ G9.out).mono ?_
    rintro e wk ⟨rfl, hok, hgk⟩
    have HGM := Lib.hid (fun k hk => (G9.out.lt k hk).1)
    have N10 := Lib.hid hok
    have Y10 := Lib.hid (Y9.out.keep hgk.size (hgk.block _ Y9.out.lt (fun hh => by have := (HGL.out _ hh.symm).2; omega)))
    have X10 := Lib.hid (box2_grown X9.out hgk (fun k hk => HGM.out k hk) hcd)
    have KW10 := Lib.hid (kept_grown KW9.out hgk (fun k hk => HGM.out k hk) (Nat.le_of_lt hcd))
    have HK := Lib.hid (kept_grown HJ.out hgk (fun k hk => HGM.out k hk) HD.out.size)
    clear hok hgk l1 c10 c11 G9 Y9 X9 KW9
    obtain ⟨l1, c10, c11⟩ := Y10.out
    go_wp2_with fail
    refine (CH.out _ _ _ (Rd.of_own N10.out (marksK_small _ _))).mono ?_
    rintro e wl ⟨rfl, hbl⟩
    have N11 := Lib.hid (own_below N10.out hbl)
    have Y11 := Lib.hid (Y10.out.below hbl)
    have X11 := Lib.hid (X10.out.below hbl)
    have KW11 := Lib.hid (fr_chain KW10.out hbl)
    have HL := Lib.hid (fr_chain HK.out hbl)
    clear hbl l1 c10 c11 N10 Y10 X10 KW10
    go_wp2_with fail
    refine (CT.out _ HL.out).mono ?_
    rintro e wm ⟨A5, c5, rfl, ho5, hbm⟩
    have D12 := Lib.hid (Rd.of_own ho5 HXS.out)
    have K12 := Lib.hid (own_cap ho5)
    have N12 := Lib.hid (own_below N11.out hbm)
    have Y12 := Lib.hid (Y11.out.below hbm)
    have X12 := Lib.hid (X11.out.below hbm)
    have KW12 := Lib.hid (fr_chain KW11.out hbm)
    have HM := Lib.hid (fr_chain HL.out hbm)
    clear hbm ho5 N11 Y11 X11 KW11
    go_wp2_with fail
    refine (CI.out _ _ _ D12.out K12.out).mono ?_
    rintro e wn ⟨Ah, ch, rfl, hoh, hbn⟩
    have KN := Lib.hid (fr_chain hbn (below_a1 wn (.cells #[.int .i64 kd, .slice Ah data.length ch] 59)))
    have H13 : Hid ((we.alloc (.cells #[.int .i64 kd, .slice Ah data.length ch] 59)).heap.size = (we.alloc (.cells #[.int .i64 kd, .slice Ah data.length ch] 59)).heap.size) := Lib.hid rfl
    have P13 : Hid ((⟨Ah, data.length, ch, data⟩ : Dat).Ok (wn.alloc (.cells #[.int .i64 kd, .slice Ah data.length ch] 59))) := Lib.hid ((made_ok hoh HSM.out).below (below_a1 wn _))
    have Q13 := Lib.hid (Box2.new wn (.int .i64 kd) (.slice Ah data.length ch) 59)
    have N13 := Lib.hid (own_below N12.out KN.out)
    have Y13 := Lib.hid (Y12.out.below KN.out)
    have X13 := Lib.hid (X12.out.below KN.out)
    have KW13 := Lib.hid (fr_chain KW12.out KN.out)
    have HN := Lib.hid (fr_chain HM.out KN.out)
    clear hbn hoh N12 Y12 X12 KW12 H13
    obtain ⟨l0, c00, c01⟩ := X13.out
    obtain ⟨l1, c10, c11⟩ := Q13.out
    go_wp2_with fail
    refine (CE.out _ _ _ _ _ P13.out ⟨W2.out.1.below KW13.out, W2.out.2⟩).mono ?_
    rintro e wo ⟨rfl, hbo⟩
    have N14 := Lib.hid (own_below N13.out hbo)
    have Y14 := Lib.hid (Y13.out.below hbo)
    have HO := Lib.hid (fr_chain HN.out hbo)
    clear hbo l0 c00 c01 l1 c10 c11
    obtain ⟨l1, c10, c11⟩ := Y14.out
    go_wp2_with fail
    refine (CH.out _ _ _ (Rd.of_own N14.out (marksK_small _ _))).mono ?_
    rintro e wp ⟨rfl, hbp⟩
    go_wp2
    go_ret
    exact ⟨rfl, fr_chain HO.out hbp⟩
  · have dsz : decide ((1048576 : Int) < (d.n : Int)) = true := by simp; omega
    have dsz' : decide (1048576 < d.n) = true := by simp; omega
    clear hok
    go_enter Try.func6, Try.ntmps6
    go_wp2
    go_ret
    exact ⟨rfl, Below.refl _ _⟩
end Go.Proofs.Ytdeijiochianpaa
