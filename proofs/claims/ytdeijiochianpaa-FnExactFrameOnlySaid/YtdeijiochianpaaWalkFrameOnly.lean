/- The walk of the law FnExactFrameOnly: it returns true and writes nothing that was there. -/
import Derived.Test.YtdeijiochianpaaFrOnly
import Derived.Test.YtdeijiochianpaaFrKeep
namespace Go.Proofs.Ytdeijiochianpaa
open Go.RowKit

set_option maxRecDepth 20000 in
set_option maxHeartbeats 4000000 in
theorem walkFrameOnly (d : Dat) (a : Int) (w : World) (hok : d.Ok w) (hn : d.n ≤ maxLen) (_ha : (Lit.int .i64 a).wf = true) :
    Calls Try.prog 8 #[.slice d.A d.n d.c, .int .i64 a] w fun e w' => e = .returned (.bool true) ∧ Below w.heap.size w w' := by
  unfold maxLen at hn
  by_cases hb : d.n ≤ 1048576
  · have dsz : decide ((1048576 : Int) < (d.n : Int)) = false := by simp; omega
    have dsz' : decide (1048576 < d.n) = false := by simp; omega
    have CT := Lib.hid (fun W (h : Below w.heap.size w W) => copy_any d.A d.n d.c d.xs W (hok.rd.below h) (by omega))
    have CS := Lib.hid (fun W A c (h : Rd W A d.n d.xs) (hc : d.n ≤ c) => specOnly A d.n c d.xs a W h (by omega) hc)
    have CI := Lib.hid (fun W A c (h : Rd W A d.n d.xs) (hc : d.n ≤ c) => implOnly A d.n c d.xs a W h (by omega) hc)
    have hsm := onlyR_small d.xs a hok.rd.small
    have HXS := Lib.hid hok.rd.small
    have CQ := Lib.hid (fun W A c A' c' (h1 : Rd W A d.n d.xs) (h2 : Rd W A' d.n d.xs) => tells_same (A := A) (B := A') (c := c) (d := c') h1 h2 (by omega))
    have CM := Lib.hid (fun W lo A c (h : W.ownsRow lo 5 1 (.slice A d.n c) d.n (vb d.xs)) => markB_any A d.n c lo 1 d.xs W h (by omega) (by omega))
    generalize onlyR d.xs a = R at CS CI hsm
    obtain ⟨data, ok⟩ := R
    have HSM : Hid (∀ x ∈ data, x < 256) := Lib.hid hsm.1
    have hdl : data.length ≤ 60000 := hsm.2
    have CE := Lib.hid (fun W A c A' c' (h1 : Rd W A data.length data) (h2 : Rd W A' data.length data) => tells_same (A := A) (B := A') (c := c) (d := c') h1 h2 (by omega))
    have CK := Lib.hid (fun W lo A c (h : W.ownsRow lo 5 1 (.slice A data.length c) data.length (vb data)) => markB_any A data.length c lo 1 data W h (by omega) (by omega))
    have CH := Lib.hid (fun W A c (h : Rd W A data.length (marksK 1 data.length)) => heldB_any A data.length c 1 W h (by omega) (by omega))
    obtain ⟨A0, n0, c0, xs⟩ := d
    simp only at *
    have hk1 : (0 : Int) ≤ ((1 + n0 : Nat) : Int) := by omega
    have hk2 : (0 : Int) ≤ ((1 + data.length : Nat) : Int) := by omega
    clear hok hn hb hsm
    go_enter Try.func8, Try.ntmps8
    go_wp2_with fail
    refine (CT.out _ (Below.refl _ _)).mono ?_
    rintro e wb ⟨A1, c1, rfl, ho1, hbb⟩
    have HB := Lib.hid hbb
    have D1 := Lib.hid (Rd.of_own ho1 HXS.out)
    have K1 := Lib.hid (own_cap ho1)
    clear hbb ho1
    go_wp2_with fail
    refine (CS.out _ _ _ D1.out K1.out).mono ?_
    rintro e wc ⟨Aw, cw, rfl, hrw, hbc⟩
    have W2 : Hid (Rd wc Aw data.length data) := Lib.hid hrw
    have HC := Lib.hid (fr_chain HB.out hbc)
    clear hbc hrw
    go_wp2_with fail
    refine (CT.out _ HC.out).mono ?_
    rintro e wd ⟨A2, c2, rfl, ho2, hbd⟩
    have KW3 := Lib.hid hbd
    have HD := Lib.hid (fr_chain HC.out hbd)
    have O3 := Lib.hid ho2
    have HAL := Lib.hid ho2.lt
    have D3 := Lib.hid (Rd.of_own ho2 HXS.out)
    have K3 := Lib.hid (own_cap ho2)
    have hcd : wc.heap.size ≤ wd.heap.size := hbd.size
    clear hbd ho2
    go_wp2_with fail
    refine (CI.out _ _ _ D3.out K3.out).mono ?_
    rintro e we ⟨Ag, cg, rfl, hog, hbe⟩
    have G4 : Hid (we.ownsRow wd.heap.size 5 1 (.slice Ag data.length cg) data.length (vb data)) := Lib.hid hog
    have KW4 := Lib.hid (fr_chain KW3.out hbe)
    have HE := Lib.hid (fr_chain HD.out hbe)
    have O4 := Lib.hid (own_below O3.out hbe)
    clear hbe hog KW3 O3
    go_wp2_with fail
    refine (CE.out _ _ _ _ _ (Rd.of_own G4.out HSM.out) (W2.out.below KW4.out)).mono ?_
    rintro e wf ⟨rfl, hbf⟩
    have G5 := Lib.hid (own_below G4.out hbf)
    have KW5 := Lib.hid (fr_chain KW4.out hbf)
    have HF := Lib.hid (fr_chain HE.out hbf)
    have O5 := Lib.hid (own_below O4.out hbf)
    clear hbf G4 KW4 O4
    go_wp2_with fail
    refine (CT.out _ HF.out).mono ?_
    rintro e wg ⟨A4, c4, rfl, ho4, hbg⟩
    have G6 := Lib.hid (own_below G5.out hbg)
    have KW6 := Lib.hid (fr_chain KW5.out hbg)
    have HG := Lib.hid (fr_chain HF.out hbg)
    have O6 := Lib.hid (own_below O5.out hbg)
    have D6 := Lib.hid (Rd.of_own ho4 HXS.out)
    clear hbg ho4 G5 KW5 O5
    go_wp2_with fail
    refine (CQ.out _ _ _ _ _ (Rd.of_own O6.out HXS.out) D6.out).mono ?_
    rintro e wh ⟨rfl, hbh⟩
    have G7 := Lib.hid (own_below G6.out hbh)
    have KW7 := Lib.hid (fr_chain KW6.out hbh)
    have HH := Lib.hid (fr_chain HG.out hbh)
    have O7 := Lib.hid (own_below O6.out hbh)
    clear hbh G6 KW6 O6 D6
    go_wp2_with fail
    refine (CM.out _ _ _ _ O7.out).mono ?_
    rintro e wi ⟨rfl, _, hgi⟩
    have HOL := Lib.hid (fun k hk => O7.out.lt k hk)
    have G8 := Lib.hid (row_grown G7.out hgi (fun k hk => (HAL.out k hk).2) (Nat.le_refl _))
    have KW8 := Lib.hid (kept_grown KW7.out hgi (fun k hk => (HOL.out k hk).1) (Nat.le_refl _))
    have HI := Lib.hid (kept_grown HH.out hgi (fun k hk => (HOL.out k hk).1) HC.out.size)
    clear hgi G7 KW7 O7
    go_wp2_with fail
    refine (CE.out _ _ _ _ _ (Rd.of_own G8.out HSM.out) (W2.out.below KW8.out)).mono ?_
    rintro e wj ⟨rfl, hbj⟩
    have G9 := Lib.hid (own_below G8.out hbj)
    have KW9 := Lib.hid (fr_chain KW8.out hbj)
    have HJ := Lib.hid (fr_chain HI.out hbj)
    clear hbj G8 KW8
    go_wp2_with fail
    refine (CK.out _ _ _ _ G9.out).mono ?_
    rintro e wk ⟨rfl, hok, hgk⟩
    have HGM := Lib.hid (fun k hk => (G9.out.lt k hk).1)
    have N10 := Lib.hid hok
    have KW10 := Lib.hid (kept_grown KW9.out hgk (fun k hk => HGM.out k hk) hcd)
    have HK := Lib.hid (kept_grown HJ.out hgk (fun k hk => HGM.out k hk) HD.out.size)
    clear hok hgk G9 KW9
    go_wp2_with fail
    refine (CH.out _ _ _ (Rd.of_own N10.out (marksK_small _ _))).mono ?_
    rintro e wl ⟨rfl, rfl⟩
    go_wp2_with fail
    refine (CT.out _ HK.out).mono ?_
    rintro e wm ⟨A5, c5, rfl, ho5, hbm⟩
    have D12 := Lib.hid (Rd.of_own ho5 HXS.out)
    have K12 := Lib.hid (own_cap ho5)
    have N12 := Lib.hid (own_below N10.out hbm)
    have KW12 := Lib.hid (fr_chain KW10.out hbm)
    have HM := Lib.hid (fr_chain HK.out hbm)
    clear hbm ho5 N10 KW10
    go_wp2_with fail
    refine (CI.out _ _ _ D12.out K12.out).mono ?_
    rintro e wn ⟨Ah, ch, rfl, hoh, hbn⟩
    have P13 := Lib.hid (Rd.of_own hoh HSM.out)
    have N13 := Lib.hid (own_below N12.out hbn)
    have KW13 := Lib.hid (fr_chain KW12.out hbn)
    have HN := Lib.hid (fr_chain HM.out hbn)
    clear hbn hoh N12 KW12
    go_wp2_with fail
    refine (CE.out _ _ _ _ _ P13.out (W2.out.below KW13.out)).mono ?_
    rintro e wo ⟨rfl, hbo⟩
    have N14 := Lib.hid (own_below N13.out hbo)
    have HO := Lib.hid (fr_chain HN.out hbo)
    clear hbo
    go_wp2_with fail
    refine (CH.out _ _ _ (Rd.of_own N14.out (marksK_small _ _))).mono ?_
    rintro e wp ⟨rfl, rfl⟩
    go_wp2
    go_ret
    exact ⟨rfl, HO.out⟩
  · have dsz : decide ((1048576 : Int) < (d.n : Int)) = true := by simp; omega
    have dsz' : decide (1048576 < d.n) = true := by simp; omega
    clear hok
    go_enter Try.func8, Try.ntmps8
    go_wp2
    go_ret
    exact ⟨rfl, Below.refl _ _⟩
end Go.Proofs.Ytdeijiochianpaa
