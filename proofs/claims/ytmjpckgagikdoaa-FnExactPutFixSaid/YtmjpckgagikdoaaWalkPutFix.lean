/- The walk of the law FnExactPutFix: it returns true and writes nothing that was there. -/
import Derived.Test.YtmjpckgagikdoaaPutFixSpec
import Derived.Test.YtmjpckgagikdoaaPutFixImpl
import Derived.Test.YtmjpckgagikdoaaCopy
import Derived.Test.YtmjpckgagikdoaaMark
namespace Go.Proofs.Ytmjpckgagikdoaa
open Go.RowKit

set_option maxRecDepth 20000 in
set_option maxHeartbeats 1000000 in
theorem walkPutFix (a0 : Option Addr) (len0 cap0 : Nat) (z0 : List Int) (a1 : Int) (w : World) (w0 : IsRow .u8 w a0 len0 cap0 z0) (w1 : (Lit.int .i64 a1).wf = true) :
    Calls Try.prog 7 #[.slice a0 len0 cap0, .int .i64 a1] w fun e w' => e = .returned (.bool true) ∧ Below w.heap.size w w' := by
  obtain ⟨hlc, hcm, xs, hr⟩ := w0.rd
  obtain ⟨hb1, hb2⟩ := bounds_i64 w1
  clear w0 w1
  unfold maxLen at hcm
  by_cases hbig : len0 ≤ 1048576
  · have hsm := Lib.hid (putFix_small xs a1 hr.small)
    have hle : (putFix xs a1).length ≤ 2097152 := by have h := putFix_length xs a1; rw [hr.len] at h; omega
    have CS := Lib.hid (fun A c W h => specPutFix A len0 c a1 xs W h (by omega))
    have CI := Lib.hid (fun A c W h => implPutFix A len0 c a1 xs W h (by omega))
    generalize putFix xs a1 = ys at hsm hle CS CI
    generalize numOk a1 = ok at CS CI
    obtain ⟨m, hm⟩ : ∃ m, m = ys.length := ⟨_, rfl⟩
    have HM := Lib.hid hm
    have HR := Lib.hid hr
    have hl1 : m ≤ 2097152 := by omega
    clear hm hr hle
    unfold PutRes at CS CI
    rw [← HM.out] at CS CI
    go_enter Try.func7, Try.ntmps7
    go_wp2_with fail
    refine (copy_any a0 len0 cap0 xs w HR.out (by omega)).mono ?_
    rintro e wa ⟨A1, c1, rfl, ho1, hba⟩
    have R1 := Lib.hid (Rd.of_own ho1 HR.out.small)
    go_wp2_with fail
    refine (CS.out A1 c1 wa R1.out).mono ?_
    rintro e wb ⟨Aw, cw, rfl, how, hbb⟩
    have hbb0 := hba.trans (hbb.mono hba.size)
    have Rb := Lib.hid (HR.out.below hbb0)
    have Rw := Lib.hid (Rd.of_own how hsm.out)
    go_wp2_with fail
    refine (copy_any a0 len0 cap0 xs wb Rb.out (by omega)).mono ?_
    rintro e wc ⟨Ax, cx, rfl, hox, hbc⟩
    have hbc0 := hbb0.trans (hbc.mono hbb0.size)
    have Rx := Lib.hid (Rd.of_own hox HR.out.small)
    go_wp2_with fail
    refine (CI.out Ax cx wc Rx.out).mono ?_
    rintro e wd ⟨Ag, cg, rfl, hog, hbd⟩
    have hbd0 := hbc0.trans (hbd.mono hbc0.size)
    have Rg := Lib.hid (Rd.of_own hog hsm.out)
    have Rwd := Lib.hid ((Rw.out.below hbc).below hbd)
    go_wp2_with fail
    refine (same_any Ag Aw m cg cw ys wd Rg.out Rwd.out (by omega)).mono ?_
    rintro e we ⟨rfl, k1, rfl⟩
    have Rd0 := Lib.hid ((HR.out.below hbd0).drewN k1)
    go_wp2_with fail
    refine (copy_any a0 len0 cap0 xs _ Rd0.out (by omega)).mono ?_
    rintro e we ⟨Ay, cy, rfl, hoy, hbe⟩
    have hbde : Below wd.heap.size wd we := (below_drewN (Below.refl _ _) k1).trans hbe
    have hbe0 := hbd0.trans (hbde.mono hbd0.size)
    have Ry := Lib.hid (Rd.of_own hoy HR.out.small)
    have Rxe := Lib.hid ((Rx.out.below hbd).below hbde)
    go_wp2_with fail
    refine (same_any Ax Ay len0 cx cy xs we Rxe.out Ry.out (by omega)).mono ?_
    rintro e wf ⟨rfl, k2, rfl⟩
    have hoxf := Lib.hid (own_drewN (own_below (own_below hox hbd) hbde) k2)
    go_wp2_with fail
    refine (mark_any Ax len0 cx wb.heap.size xs _ hoxf.out (by omega)).mono ?_
    rintro e wf ⟨rfl, hoxm, hgf⟩
    have hne1 := ne_of_after hog hox (Nat.le_refl _)
    have hne2 := ne_of_before how hox (Nat.le_refl _)
    have hbf0 := below_mark (below_drewN hbe0 k2) hgf hoxf.out hbb0.size
    have hogf := Lib.hid (own_other (own_drewN (own_below hog hbde) k2) hgf hne1)
    have Rgf := Lib.hid (Rd.of_own hogf.out hsm.out)
    have Rwf := Lib.hid (((Rwd.out.below hbde).drewN k2).other hgf hne2)
    have HNE3 := Lib.hid (ne_of_before how hog hbc.size)
    clear hne1 hne2 hgf hoxm
    go_wp2_with fail
    refine (same_any Ag Aw m cg cw ys wf Rgf.out Rwf.out (by omega)).mono ?_
    rintro e wg ⟨rfl, k3, rfl⟩
    go_wp2_with fail
    refine (mark_any Ag m cg wc.heap.size ys _ (own_drewN hogf.out k3) (by omega)).mono ?_
    rintro e wg ⟨rfl, hogm, hgg⟩
    have hbg0 := below_mark (below_drewN hbf0 k3) hgg (own_drewN hogf.out k3) hbc0.size
    have Rgg := Lib.hid (Rd.of_own hogm (marks_small m))
    have Rwg := Lib.hid ((Rwf.out.drewN k3).other hgg HNE3.out)
    have Rg0 := Lib.hid (HR.out.below hbg0)
    clear hgg hogm
    go_wp2_with fail
    refine (held_any Ag m cg wg Rgg.out (by omega)).mono ?_
    rintro e wh ⟨rfl, rfl⟩
    go_wp2_with fail
    refine (copy_any a0 len0 cap0 xs wg Rg0.out (by omega)).mono ?_
    rintro e wh ⟨Az, cz, rfl, hoz, hbh⟩
    have Rz := Lib.hid (Rd.of_own hoz HR.out.small)
    go_wp2_with fail
    refine (CI.out Az cz wh Rz.out).mono ?_
    rintro e wi ⟨Ah, ch, rfl, hoh, hbi⟩
    have hbgi := hbh.trans (hbi.mono hbh.size)
    have Rh := Lib.hid (Rd.of_own hoh hsm.out)
    have Rwi := Lib.hid (Rwg.out.below hbgi)
    have Rgi := Lib.hid (Rgg.out.below hbgi)
    have hbi0 := hbg0.trans (hbgi.mono hbg0.size)
    go_wp2_with fail
    refine (same_any Ah Aw m ch cw ys wi Rh.out Rwi.out (by omega)).mono ?_
    rintro e wj ⟨rfl, k4, rfl⟩
    go_wp2_with fail
    refine (held_any Ag m cg _ (Rgi.out.drewN k4) (by omega)).mono ?_
    rintro e wk ⟨rfl, rfl⟩
    go_wp2
    go_ret
    exact ⟨rfl, below_drewN hbi0 k4⟩
  · go_enter Try.func7, Try.ntmps7
    go_wp2
    go_ret
    exact ⟨rfl, Below.refl _ _⟩
end Go.Proofs.Ytmjpckgagikdoaa
