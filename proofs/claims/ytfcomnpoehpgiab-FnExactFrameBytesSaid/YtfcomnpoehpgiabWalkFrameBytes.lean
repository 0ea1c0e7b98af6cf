/- The walk of the law FnExactFrameBytes: it returns true and writes nothing that was there. -/
import Derived.Test.YtfcomnpoehpgiabFrBytes
import Derived.Test.YtfcomnpoehpgiabMark
namespace Go.Proofs.Ytfcomnpoehpgiab
open Go.RowKit

theorem markFr_any (kind : Int) (A : Option Addr) (n c lo : Nat) (xs : List Nat) (w : World) (ho : w.ownsRow lo 5 1 (.slice A n c) n (vb xs)) (hn : n ≤ 2097152) :
    Calls Try.prog 20 #[.agg #[.int .i64 kind, .slice A n c], .int .i64 1] w fun e w' => e = .returned (.int .i64 (n + 1 : Int)) ∧ w.grownBy w' (Value.slice A n c).ownBlock := by
  have C := Lib.hid (mark_any A n c lo xs (w.alloc (.cells #[.int .i64 kind, .slice A n c] 26)) (ho.alloc _) hn)
  clear ho
  go_enter Try.func20, Try.ntmps20
  go_wp2_with fail
  refine C.out.mono ?_
  rintro e w1 ⟨rfl, _, hg⟩
  go_wp2
  go_ret
  exact ⟨rfl, grownBy_trans (grownBy_of_below (below_a1 w _) _) hg⟩
theorem kept_grown {anc W W' : World} {row : Option Nat} {lo : Nat} (h : Below anc.heap.size anc W) (hg : W.grownBy W' row) (hr : ∀ k, row = some k → lo ≤ k) (hl : anc.heap.size ≤ lo) : Below anc.heap.size anc W' :=
  h.grown hg h.size (fun k hk => Nat.le_trans hl (hr k hk))
theorem box2_grown {W W' : World} {b lo : Nat} {v0 v1 : Value} {row : Option Nat} (h : Box2 W b v0 v1) (hg : W.grownBy W' row) (hr : ∀ k, row = some k → lo ≤ k) (hl : b < lo) : Box2 W' b v0 v1 :=
  h.keep hg.size (hg.block b h.lt (fun e => by have := hr b e.symm; omega))
theorem row_grown {W W' : World} {lo e n c : Nat} {A : Option Addr} {xs : List Value} {row : Option Nat} {hi : Nat} (h : W.ownsRow lo e 1 (.slice A n c) n xs) (hg : W.grownBy W' row) (hr : ∀ k, row = some k → k < hi) (hl : hi ≤ lo) : W'.ownsRow lo e 1 (.slice A n c) n xs := by
  refine h.kept hg ?_
  cases hb : (Value.slice A n c).ownBlock with
  | none => exact .inl rfl
  | some k => exact .inr (fun e => by have := hr k e.symm; have := (h.lt k hb).1; omega)
theorem tells_same {A B : Option Addr} {n c d : Nat} {xs : List Nat} {w : World} (ha : Rd w A n xs) (hb : Rd w B n xs) (hn : n ≤ 2097152) :
    Calls Try.prog 19 #[.slice A n c, .slice B n d] w (FTell w true) :=
  (same_any A B n c d xs w ha hb hn).mono fun _ _ ⟨he, m, hw⟩ => ⟨he, by rw [hw]; exact below_drewN (Below.refl _ _) m⟩

set_option maxRecDepth 20000 in
set_option maxHeartbeats 8000000 in
theorem walkFrameBytes (kind : Int) (d : Dat) (w : World) (hin : FrIn w kind d) :
    Calls Try.prog 5 #[.agg #[.int .i64 kind, .slice d.A d.n d.c]] w fun e w' => e = .returned (.bool true) ∧ Below w.heap.size w w' := by
  obtain ⟨_, hok, hn⟩ := hin
  have CZ := Lib.hid (fun W => szFr_any kind d.A d.n d.c 1048576 W hn (by omega) (by omega))
  by_cases hb : (d.n : Int) ≤ 1048576
  · rw [leftN_pos hb] at CZ
    have hp : (0 : Int) ≤ 1048576 - (d.n : Int) := by omega
    generalize (1048576 : Int) - (d.n : Int) = q at CZ hp
    have CT := Lib.hid (fun W (h : Below w.heap.size w W) => toFr_any kind d W (hok.below h) (by omega))
    have hxl : d.n = d.xs.length := hok.rd.len.symm
    have hxn : d.xs.length ≤ 1048576 := by omega
    have HSM := Lib.hid hok.rd.small
    have CS := Lib.hid (fun W A c (h : (⟨A, d.xs.length, c, d.xs⟩ : Dat).Ok W) => specFrBytes kind ⟨A, d.xs.length, c, d.xs⟩ W h (by omega))
    have CI := Lib.hid (fun W A c (h : (⟨A, d.xs.length, c, d.xs⟩ : Dat).Ok W) => implFrBytes kind ⟨A, d.xs.length, c, d.xs⟩ W h (by omega))
    have CE := Lib.hid (fun W A c A' c' (h1 : (⟨A, d.xs.length, c, d.xs⟩ : Dat).Ok W) (h2 : (⟨A', d.xs.length, c', d.xs⟩ : Dat).Ok W) => eqFr_any kind ⟨A, d.xs.length, c, d.xs⟩ ⟨A', d.xs.length, c', d.xs⟩ W h1 h2 rfl (by show d.xs.length ≤ 2097152; omega))
    have HYS := Lib.hid (frB_small kind d.xs HSM.out)
    have hyl : (frB kind d.xs).length ≤ 2097152 := by have := frB_len kind d.xs; omega
    obtain ⟨A0, n0, c0, xs⟩ := d
    simp only at *
    generalize frOk kind xs.length = ok at CS CI
    generalize frB kind xs = ys at CS CI HYS hyl
    clear hn hb hxl hok
    go_enter Try.func5, Try.ntmps5
    go_wp2_with fail
    refine (CZ.out _).mono ?_
    rintro e wa ⟨rfl, hba⟩
    have B0 := Lib.hid ((Box2.new w (.int .i64 kind) (.slice A0 n0 c0) 33).below hba)
    have HA := Lib.hid (fr_chain (below_a1 w _) hba)
    obtain ⟨l0, c00, c01⟩ := B0.out
    clear hba
    go_wp2_with fail
    refine (CT.out _ HA.out).mono ?_
    rintro e wb ⟨A1, c1, rfl, ho1, hbb⟩
    have B1 := Lib.hid (B0.out.below hbb)
    have HB := Lib.hid (fr_chain HA.out hbb)
    have D1 := Lib.hid (made_ok ho1 HSM.out)
    clear hbb ho1 c00 c01 l0
    go_wp2_with fail
    refine (CS.out _ _ _ D1.out).mono ?_
    rintro e wc ⟨Aw, cw, rfl, how, hbc⟩
    have HRW := Lib.hid (Rd.of_own how HYS.out)
    have B2 := Lib.hid (B1.out.below hbc)
    have HC := Lib.hid (fr_chain HB.out hbc)
    have hlc : w.heap.size < wc.heap.size := B2.out.lt
    obtain ⟨l0, c00, c01⟩ := B2.out
    clear hbc how
    go_wp2_with fail
    refine (CT.out _ HC.out).mono ?_
    rintro e wd ⟨A2, c2, rfl, ho2, hbd⟩
    have HXL := Lib.hid (fun k (hk : (Value.slice A2 xs.length c2).ownBlock = some k) => ho2.lt k hk)
    have O2 := Lib.hid (ho2.alloc (.cells #[.int .i64 kind, .slice A2 xs.length c2] 26))
    have X2 := Lib.hid (Box2.new wd (.int .i64 kind) (.slice A2 xs.length c2) 26)
    have B3 := Lib.hid ((B2.out.below hbd).below (below_a1 wd (.cells #[.int .i64 kind, .slice A2 xs.length c2] 26)))
    have W3 := Lib.hid (fr_chain hbd (below_a1 wd (.cells #[.int .i64 kind, .slice A2 xs.length c2] 26)))
    have HD := Lib.hid (fr_chain HC.out W3.out)
    have hwcd : wc.heap.size ≤ wd.heap.size := hbd.size
    clear hbd ho2 c00 c01 l0
    go_wp2_with fail
    refine (CI.out _ _ _ (made_ok O2.out HSM.out)).mono ?_
    rintro e we ⟨Ag, cg, rfl, hog, hbe⟩
    have G4 : Hid (we.ownsRow (wd.heap.size + 1) 5 1 (.slice Ag ys.length cg) ys.length (vb ys)) := Lib.hid (by rw [World.size_alloc] at hog; exact hog)
    have B4 := Lib.hid (B3.out.below hbe)
    have X4 := Lib.hid (X2.out.below hbe)
    have O4 := Lib.hid (own_below O2.out hbe)
    have W4 := Lib.hid (fr_chain W3.out hbe)
    have HE := Lib.hid (fr_chain HD.out hbe)
    clear hbe hog
    go_wp2_with fail
    refine (tells_same (Rd.of_own G4.out HYS.out) (HRW.out.below W4.out) hyl).mono ?_
    rintro e wf ⟨rfl, hbf⟩
    have G5 := Lib.hid (own_below G4.out hbf)
    have B5 := Lib.hid (B4.out.below hbf)
    have X5 := Lib.hid (X4.out.below hbf)
    have O5 := Lib.hid (own_below O4.out hbf)
    have W5 := Lib.hid (fr_chain W4.out hbf)
    have HF := Lib.hid (fr_chain HE.out hbf)
    clear hbf
    obtain ⟨l0, c00, c01⟩ := B5.out
    obtain ⟨l1, c10, c11⟩ := X5.out
    go_wp2
    go_region_with (first
      | (go_at_call 15; ((with_reducible refine (CT.out _ (by first | exact HF.out | exact HF.out.drew | exact HF.out.drew.drew)).mono ?_)); rintro e wg ⟨A3, c3, rfl, ho3, hbg⟩; have HBG : Hid (Below wf.heap.size wf wg) := Lib.hid (by first | exact hbg | exact ⟨hbg.os, hbg.tape, hbg.output, hbg.size, hbg.block⟩); obtain ⟨l2, c20, c21⟩ := X5.out.below HBG.out; have D5 := Lib.hid (made_ok (own_below O5.out HBG.out) HSM.out); have D6 := Lib.hid (made_ok ho3 HSM.out))
      | (go_at_call 17; ((with_reducible refine (CE.out _ _ _ _ _ D5.out D6.out).mono ?_)); rintro e wh ⟨rfl, hbh⟩))
    all_goals
      have HBH : Hid (Below wf.heap.size wf wh) := Lib.hid (fr_chain HBG.out hbh)
      have G6 := Lib.hid (own_below G5.out HBH.out)
      have B6 := Lib.hid (B5.out.below HBH.out)
      have X6 := Lib.hid (X5.out.below HBH.out)
      have O6 := Lib.hid (own_below O5.out HBH.out)
      have W6 := Lib.hid (fr_chain W5.out HBH.out)
      have H6 := Lib.hid (fr_chain HF.out HBH.out)
      clear l0 c00 c01 l1 c10 c11 l2 c20 c21 ho3 hbg hbh D5 D6
      obtain ⟨l1, c10, c11⟩ := X6.out
      go_wp2_with fail
      refine (markFr_any kind A2 xs.length c2 _ xs wh O6.out (by omega)).mono ?_
      rintro e wi ⟨rfl, hgi⟩
      have G7 := Lib.hid (row_grown G6.out hgi (fun k hk => (HXL.out k hk).2) (by omega))
      have B7 := Lib.hid (box2_grown B6.out hgi (fun k hk => (HXL.out k hk).1) hlc)
      have W7 := Lib.hid (kept_grown W6.out hgi (fun k hk => (HXL.out k hk).1) (Nat.le_refl _))
      have H7 := Lib.hid (kept_grown H6.out hgi (fun k hk => (HXL.out k hk).1) (by omega))
      have hkx : (0 : Int) ≤ (xs.length : Int) + 1 := by omega
      clear l1 c10 c11 hgi
      go_wp2_with fail
      refine (tells_same (Rd.of_own G7.out HYS.out) (HRW.out.below W7.out) hyl).mono ?_
      rintro e wj ⟨rfl, hbj⟩
      have G8 := Lib.hid (own_below G7.out hbj)
      have B8 := Lib.hid (B7.out.below hbj)
      have W8 := Lib.hid (fr_chain W7.out hbj)
      have H8 := Lib.hid (fr_chain H7.out hbj)
      clear hbj
      go_wp2_with fail
      refine (mark_any Ag ys.length cg (wd.heap.size + 1) ys wj G8.out hyl).mono ?_
      rintro e wk ⟨rfl, hok9, hgk⟩
      have N9 := Lib.hid hok9
      have B9 := Lib.hid (box2_grown B8.out hgk (fun k hk => (G8.out.lt k hk).1) (by omega))
      have W9 := Lib.hid (kept_grown W8.out hgk (fun k hk => (G8.out.lt k hk).1) (by omega))
      have H9 := Lib.hid (kept_grown H8.out hgk (fun k hk => (G8.out.lt k hk).1) (by omega))
      clear hok9 hgk
      go_wp2_with fail
      refine (held_any Ag ys.length cg wk (Rd.of_own N9.out (marks_small _)) hyl).mono ?_
      rintro e wl ⟨rfl, rfl⟩
      obtain ⟨l0, c00, c01⟩ := B9.out
      go_wp2_with fail
      refine (CT.out _ H9.out).mono ?_
      rintro e wm ⟨A4, c4, rfl, ho4, hbm⟩
      have D11 := Lib.hid (made_ok ho4 HSM.out)
      have N11 := Lib.hid (own_below N9.out hbm)
      have W11 := Lib.hid (fr_chain W9.out hbm)
      have H11 := Lib.hid (fr_chain H9.out hbm)
      clear l0 c00 c01 ho4 hbm
      go_wp2_with fail
      refine (CI.out _ _ _ D11.out).mono ?_
      rintro e wn ⟨Ah, ch, rfl, hoh, hbn⟩
      have GH := Lib.hid hoh
      have N12 := Lib.hid (own_below N11.out hbn)
      have W12 := Lib.hid (fr_chain W11.out hbn)
      have H12 := Lib.hid (fr_chain H11.out hbn)
      clear hoh hbn
      go_wp2_with fail
      refine (tells_same (Rd.of_own GH.out HYS.out) (HRW.out.below W12.out) hyl).mono ?_
      rintro e wo ⟨rfl, hbo⟩
      have N13 := Lib.hid (own_below N12.out hbo)
      have H13 := Lib.hid (fr_chain H12.out hbo)
      clear hbo
      go_wp2_with fail
      refine (held_any Ag ys.length cg wo (Rd.of_own N13.out (marks_small _)) hyl).mono ?_
      rintro e wp ⟨rfl, rfl⟩
      go_wp2
      go_ret
      exact ⟨rfl, H13.out⟩
  · rw [leftN_neg (by omega)] at CZ
    obtain ⟨A0, n0, c0, xs⟩ := d
    simp only at *
    clear hn hb hok
    go_enter Try.func5, Try.ntmps5
    go_wp2_with fail
    refine (CZ.out _).mono ?_
    rintro e wa ⟨rfl, hba⟩
    go_wp2
    go_ret
    exact ⟨rfl, fr_chain (below_a1 w _) hba⟩
end Go.Proofs.Ytfcomnpoehpgiab
