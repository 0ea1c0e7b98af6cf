/- The walk of the law FnExactFsOpOk: it returns true and writes nothing that was there. -/
import Derived.Test.YthpedhnpgomoaaaRes
import Derived.Test.YthpedhnpgomoaaaOpen
namespace Go.Proofs.Ythpedhnpgomoaaa
open Go.RowKit

set_option maxRecDepth 20000 in
set_option maxHeartbeats 4000000 in
theorem walkFsOpOk (o : OpE) (w : World) (ho : OpIn w o) :
    Calls Try.prog 5 #[.agg #[.int .i64 o.kind, .string o.nm, .string o.to, .slice o.d.A o.d.n o.d.c]] w fun e w' => e = .returned (.bool true) ∧ Below w.heap.size w w' := by
  obtain ⟨hok, hs, ht, hn, _⟩ := ho
  have CZ := Lib.hid (fun W => szOp_any o.kind o.nm o.to o.d.A o.d.n o.d.c 1048576 W hs ht hn (by omega) (by omega))
  by_cases hb : ((o.nm.size + o.to.size + o.d.n : Nat) : Int) ≤ 1048576
  · rw [szI_pos hb] at CZ
    have hp : (0 : Int) ≤ 1048576 - ((o.nm.size + o.to.size + o.d.n : Nat) : Int) := by omega
    generalize (1048576 : Int) - ((o.nm.size + o.to.size + o.d.n : Nat) : Int) = q at CZ hp
    have CT := Lib.hid (fun W (h : Below w.heap.size w W) => toOp_any o.kind o.nm o.to o.d W (hok.below h) (by omega))
    have hxl : o.d.n = o.d.xs.length := hok.rd.len.symm
    have hxn : o.d.xs.length ≤ 2097152 := by omega
    have HSM := Lib.hid hok.rd.small
    have CS := Lib.hid (fun W A c => specOpOk o.kind o.nm o.to A o.d.xs.length c W (by omega) (by omega) (by omega))
    have CI := Lib.hid (fun W A c => implOpOk o.kind o.nm o.to A o.d.xs.length c W (by omega) (by omega) (by omega))
    have CE := Lib.hid (fun W A c A' c' (h1 : (⟨A, o.d.xs.length, c, o.d.xs⟩ : Dat).Ok W) (h2 : (⟨A', o.d.xs.length, c', o.d.xs⟩ : Dat).Ok W) => eqOp_any o.kind o.nm o.to ⟨A, o.d.xs.length, c, o.d.xs⟩ ⟨A', o.d.xs.length, c', o.d.xs⟩ W h1 h2 rfl hxn)
    generalize opOkB o.kind o.nm o.to o.d.xs.length = ok at CS CI
    obtain ⟨kind, nm, to, A0, n0, c0, xs⟩ := o
    simp only at *
    clear hs ht hn hb hxl hok
    go_enter Try.func5, Try.ntmps5
    go_wp2_with fail
    refine (CZ.out _).mono ?_
    rintro e wa ⟨rfl, hba⟩
    have B0 := Lib.hid ((Box4.new w (.int .i64 kind) (.string nm) (.string to) (.slice A0 n0 c0) 43).below hba)
    have HA := Lib.hid ((below_a1 w _).trans (hba.mono (by simp)))
    obtain ⟨l0, c00, c01, c02, c03⟩ := B0.out
    clear hba
    go_wp2_with fail
    refine (CT.out _ HA.out).mono ?_
    rintro e wb ⟨A1, c1, rfl, ho1, hbb⟩
    have B1 := Lib.hid (B0.out.below hbb)
    have HB := Lib.hid (HA.out.trans (hbb.mono HA.out.size))
    clear hbb ho1 c00 c01 c02 c03 l0
    go_wp2_with fail
    refine (CS.out _ _ _).mono ?_
    rintro e wc ⟨rfl, hbc⟩
    have B2 := Lib.hid (B1.out.below hbc)
    have HC := Lib.hid (HB.out.trans (hbc.mono HB.out.size))
    obtain ⟨l0, c00, c01, c02, c03⟩ := B2.out
    clear hbc
    go_wp2_with fail
    refine (CT.out _ HC.out).mono ?_
    rintro e wd ⟨A2, c2, rfl, ho2, hbd⟩
    have D2 : Hid (Dat.Ok (wd.alloc (.cells #[.int .i64 kind, .string nm, .string to, .slice A2 xs.length c2] 30)) ⟨A2, xs.length, c2, xs⟩) := Lib.hid ((OwnB.one (d := ⟨A2, xs.length, c2, xs⟩) ho2 HSM.out).ok _ (by simp)).alloc _
    have X2 := Lib.hid (Box4.new wd (.int .i64 kind) (.string nm) (.string to) (.slice A2 xs.length c2) 30)
    have B3 := Lib.hid ((B2.out.below hbd).alloc (.cells #[.int .i64 kind, .string nm, .string to, .slice A2 xs.length c2] 30))
    have HD := Lib.hid ((HC.out.trans (hbd.mono HC.out.size)).trans ((below_a1 wd (.cells #[.int .i64 kind, .string nm, .string to, .slice A2 xs.length c2] 30)).mono (HC.out.trans (hbd.mono HC.out.size)).size))
    clear hbd ho2 c00 c01 c02 c03 l0
    go_wp2_with fail
    refine (CI.out _ _ _).mono ?_
    rintro e we ⟨rfl, hbe⟩
    have B4 := Lib.hid (B3.out.below hbe)
    have X4 := Lib.hid (X2.out.below hbe)
    have D4 := Lib.hid (D2.out.below hbe)
    have HE := Lib.hid (HD.out.trans (hbe.mono HD.out.size))
    obtain ⟨l0, c00, c01, c02, c03⟩ := B4.out
    obtain ⟨l1, c10, c11, c12, c13⟩ := X4.out
    clear hbe
    go_wp2
    go_region_with (first
      | (go_at_call 30; ((with_reducible refine (CT.out _ (by first | exact HE.out | exact HE.out.drew | exact HE.out.drew.drew)).mono ?_)); rintro e wf ⟨A3, c3, rfl, ho3, hbf⟩; obtain ⟨l2, c20, c21, c22, c23⟩ := X4.out.keep hbf.size (hbf.block _ X4.out.lt); have D5 := Lib.hid (D4.out.keep (w' := wf) hbf.size hbf.block); have D6 := Lib.hid ((OwnB.one (d := ⟨A3, xs.length, c3, xs⟩) ho3 HSM.out).ok _ (List.mem_singleton.2 rfl)))
      | (go_at_call 32; ((with_reducible refine (CE.out _ _ _ _ _ D5.out D6.out).mono ?_)); rintro e wg ⟨rfl, hbg⟩))
    all_goals
      go_wp2
      go_ret
      exact ⟨rfl, (HE.out.drew.trans (hbf.mono HE.out.size)).trans (hbg.mono (HE.out.drew.trans (hbf.mono HE.out.size)).size)⟩
  · rw [szI_neg (by omega)] at CZ
    obtain ⟨kind, nm, to, A0, n0, c0, xs⟩ := o
    simp only at *
    clear hs ht hn hb hok
    go_enter Try.func5, Try.ntmps5
    go_wp2_with fail
    refine (CZ.out _).mono ?_
    rintro e wa ⟨rfl, hba⟩
    go_wp2
    go_ret
    exact ⟨rfl, (below_a1 w _).trans (hba.mono (by simp))⟩
end Go.Proofs.Ythpedhnpgomoaaa
