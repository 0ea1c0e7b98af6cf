/- The walk of the law FnSets: it returns true and writes nothing that was there. Condition: none (the law itself stops at 2^20 bytes). -/
import Derived.Test.YtbkchmkhaapmaaaDoorSetMake
import Derived.Test.YtbkchmkhaapmaaaDoorSetLaw
import Derived.Test.YtbkchmkhaapmaaaDoorSetEitherI
import Derived.Test.YtbkchmkhaapmaaaDoorSetHasI
import Derived.Test.YtbkchmkhaapmaaaDoorSetMemS
import Derived.Test.YtbkchmkhaapmaaaDoorSetWithI
import Derived.Test.YtbkchmkhaapmaaaDoorSetDigI
import Derived.Test.YtbkchmkhaapmaaaDoorMkNum
import Derived.Deep.RegionHeld3
namespace Go.Proofs.YtbkchmkhaapmaaaDoor
open Go.RowKit
set_option linter.unusedVariables false

/-- What stands while the law runs: the three sets in their variables. -/
structure SSt (w W : World) (N p q r : Nat) (As Aa Ab : Option Addr) (c1 c2 c3 : Nat) (ys axs bs : List Nat) : Prop where
  h : Below w.heap.size w W
  ps : Box2 W p (.int .i64 (N : Int)) (.slice As ys.length c1)
  pa : Box2 W q (.int .i64 (N : Int)) (.slice Aa axs.length c2)
  pb : Box2 W r (.int .i64 (N : Int)) (.slice Ab bs.length c3)
  os : W.ownsRow w.heap.size 5 1 (.slice As ys.length c1) ys.length (vb ys)
  oa : W.ownsRow w.heap.size 5 1 (.slice Aa axs.length c2) axs.length (vb axs)
  ob : W.ownsRow w.heap.size 5 1 (.slice Ab bs.length c3) bs.length (vb bs)
theorem SSt.below {w W W' : World} {N p q r : Nat} {As Aa Ab : Option Addr} {c1 c2 c3 : Nat} {ys axs bs : List Nat} (h : SSt w W N p q r As Aa Ab c1 c2 c3 ys axs bs) (hb : Below W.heap.size W W') : SSt w W' N p q r As Aa Ab c1 c2 c3 ys axs bs :=
  ⟨s_chain h.h hb, h.ps.below hb, h.pa.below hb, h.pb.below hb, own_below h.os hb, own_below h.oa hb, own_below h.ob hb⟩
/-- .. and the union. -/
structure SSx (w W : World) (N p q r t : Nat) (As Aa Ab Ax : Option Addr) (c1 c2 c3 c4 : Nat) (ys axs bs : List Nat) : Prop where
  s : SSt w W N p q r As Aa Ab c1 c2 c3 ys axs bs
  px : Box2 W t (.int .i64 (N : Int)) (.slice Ax axs.length c4)
  ox : W.ownsRow w.heap.size 5 1 (.slice Ax axs.length c4) axs.length (vb axs)
theorem SSx.below {w W W' : World} {N p q r t : Nat} {As Aa Ab Ax : Option Addr} {c1 c2 c3 c4 : Nat} {ys axs bs : List Nat} (h : SSx w W N p q r t As Aa Ab Ax c1 c2 c3 c4 ys axs bs) (hb : Below W.heap.size W W') : SSx w W' N p q r t As Aa Ab Ax c1 c2 c3 c4 ys axs bs :=
  ⟨h.s.below hb, h.px.below hb, own_below h.ox hb⟩
set_option maxRecDepth 20000 in
set_option maxHeartbeats 16000000 in
theorem walkFnSets (A : Option Addr) (n c : Nat) (xs : List Nat) (w : World) (hr : Rd w A n xs) (_hnc : n ≤ c) (_hcm : c ≤ maxLen) (hw : Wts w) :
    Calls Tryd.prog 3 #[.slice A n c] w fun e w' => e = .returned (.bool true) ∧ Below w.heap.size w w' := by
  by_cases hbig : n ≤ 1048576
  · have C0 := Lib.hid (makeSet A n c xs w hr hbig)
    have CN := Lib.hid (fun W (h : Below w.heap.size w W) (m : Nat) (h0 : 0 < m) (hm : m ≤ 256) => makeNum A n c m xs W (hr.below h) hbig h0 hm)
    have HW := Lib.hid hw
    clear hr hw
    go_enter Tryd.func3, Tryd.ntmps3
    go_wp2_with fail
    refine C0.out.mono ?_
    rintro e w1 ⟨N, ys, hN0, hN30, hok, hsm, As, c1, rfl, ho1, hb1⟩
    have P1 := Lib.hid (Box2.new w1 (.int .i64 (N : Int)) (.slice As ys.length c1) 24)
    have O1 := Lib.hid (own_below ho1 (below_a1 w1 (.cells #[.int .i64 (N : Int), .slice As ys.length c1] 24)))
    have H1 := Lib.hid (s_chain hb1 (below_a1 w1 (.cells #[.int .i64 (N : Int), .slice As ys.length c1] 24)))
    clear ho1 hb1
    obtain ⟨l1, k10, k11⟩ := P1.out
    go_wp2_with fail
    refine (CN.out _ H1.out N hN0 (by omega)).mono ?_
    rintro e w2 ⟨v, hv, rfl, hb2⟩
    have P2 := Lib.hid (P1.out.below hb2)
    have O2 := Lib.hid (own_below O1.out hb2)
    have H2 := Lib.hid (s_chain H1.out hb2)
    have HV := Lib.hid (SV.mk hok hsm hv)
    clear hb2 l1 k10 k11 hok P1 O1 H1
    have HY : Hid (ys.length ≤ 20) := Lib.hid (by have h9 := HV.out.dim; unfold bytesN at h9; omega)
    have hyl := HY.out
    obtain ⟨axs, hasE⟩ : ∃ axs, Hid (addV ys v = axs) := ⟨_, Lib.hid rfl⟩
    obtain ⟨bs, hbsE⟩ : ∃ bs, Hid (delV (addV ys v) v = bs) := ⟨_, Lib.hid rfl⟩
    have Fa := Lib.hid HV.out.aok
    have Fas := Lib.hid HV.out.asm
    have Fb := Lib.hid HV.out.bok
    have Fbs := Lib.hid HV.out.bsm
    have Fab := Lib.hid HV.out.abit
    have Fbb := Lib.hid HV.out.bbit
    have Fe := Lib.hid HV.out.either
    have Fp := Lib.hid HV.out.parts
    have Fm := Lib.hid HV.out.more
    have Fl := Lib.hid (fun (k : Nat) (z : Int) (hz : (memsB (N : Int) ys)[k]? = some z) => HV.out.listed hz)
    have Fla := Lib.hid (addV_len ys v)
    have Flb := Lib.hid ((delV_len (addV ys v) v).trans (addV_len ys v))
    have Fw := Lib.hid HV.out.with_
    have Fo := Lib.hid HV.out.wipe
    rw [hbsE.out] at Fb Fbs Fbb Fe Fp Flb Fo
    rw [hasE.out] at Fa Fas Fab Fe Fp Fm Fla Fw Fo
    have hal : axs.length ≤ 20 := by rw [Fla.out]; exact hyl
    have hbl : bs.length ≤ 20 := by rw [Flb.out]; exact hyl
    have CA := Lib.hid (implWith (N : Int) (v : Int) As ys.length c1 ys w2 (HW.out.below H2.out) (Rd.of_own O2.out hsm) (by omega) (WalkArith.wf_i64 (by omega)))
    rw [Fw.out.1, Fw.out.2] at CA
    obtain ⟨l2, k20, k21⟩ := P2.out
    go_wp2_with fail
    refine CA.out.mono ?_
    rintro e w3 ⟨Aa, c2, rfl, ho3, hb3⟩
    have HBX := Lib.hid (s_chain hb3 (below_a1 w3 (.cells #[.int .i64 (N : Int), .slice Aa axs.length c2] 24)))
    have P3 := Lib.hid (P2.out.below HBX.out)
    have Q3 := Lib.hid (Box2.new w3 (.int .i64 (N : Int)) (.slice Aa axs.length c2) 24)
    have O3 := Lib.hid (own_below O2.out HBX.out)
    have OA3 := Lib.hid (own_below (own_monoG (lo' := w.heap.size) ho3 H2.out.size) (below_a1 w3 (.cells #[.int .i64 (N : Int), .slice Aa axs.length c2] 24)))
    have H3 := Lib.hid (s_chain H2.out HBX.out)
    clear hb3 ho3 l2 k20 k21 P2 O2 H2 HBX CA
    have CB := Lib.hid (implWithout (N : Int) (v : Int) Aa axs.length c2 axs _ (HW.out.below H3.out) (Rd.of_own OA3.out Fas.out) (by omega) (WalkArith.wf_i64 (by omega)))
    rw [Fo.out.1, Fo.out.2] at CB
    obtain ⟨l3, k30, k31⟩ := Q3.out
    go_wp2_with fail
    refine CB.out.mono ?_
    rintro e w4 ⟨Ab, c3, rfl, ho4, hb4⟩
    have HBX := Lib.hid (s_chain hb4 (below_a1 w4 (.cells #[.int .i64 (N : Int), .slice Ab bs.length c3] 24)))
    have ST : Hid (SSt w (w4.alloc (.cells #[.int .i64 (N : Int), .slice Ab bs.length c3] 24)) N w1.heap.size w3.heap.size w4.heap.size As Aa Ab c1 c2 c3 ys axs bs) := Lib.hid ⟨s_chain H3.out HBX.out, P3.out.below HBX.out, Q3.out.below HBX.out, Box2.new w4 _ _ _, own_below O3.out HBX.out, own_below OA3.out HBX.out, own_below (own_monoG (lo' := w.heap.size) ho4 H3.out.size) (below_a1 w4 _)⟩
    clear hb4 ho4 l3 k30 k31 P3 Q3 O3 OA3 H3 HBX CB
    go_wp2
    go_loopw [7] (fun i wr => ∃ k : Nat, k ≤ N ∧ i = .int .i64 (k : Int) ∧ Hid (SSt w wr N w1.heap.size w3.heap.size w4.heap.size As Aa Ab c1 c2 c3 ys axs bs)) (fun i _ => N - (intOf i).toNat)
    case atStart => exact ⟨0, Nat.zero_le _, rfl, ST⟩
    case round =>
      clear ST
      obtain ⟨k, hk, rfl, hst⟩ := hrel
      obtain ⟨ls, s0, s1⟩ := hst.out.ps
      by_cases hlt : k < N
      · have TA := Lib.hid (fun W (h : SSt w W N w1.heap.size w3.heap.size w4.heap.size As Aa Ab c1 c2 c3 ys axs bs) => by have h9 := implHas (N : Int) (k : Int) Aa axs.length c2 axs W (HW.out.below h.h) (Rd.of_own h.oa Fas.out) (by omega) (WalkArith.wf_i64 (by omega)); rw [has_of Fa.out hlt, Fab.out] at h9; exact h9)
        have TB := Lib.hid (fun W (h : SSt w W N w1.heap.size w3.heap.size w4.heap.size As Aa Ab c1 c2 c3 ys axs bs) => by have h9 := implHas (N : Int) (k : Int) Ab bs.length c3 bs W (HW.out.below h.h) (Rd.of_own h.ob Fbs.out) (by omega) (WalkArith.wf_i64 (by omega)); rw [has_of Fb.out hlt, Fbb.out] at h9; exact h9)
        have TS := Lib.hid (fun W (h : SSt w W N w1.heap.size w3.heap.size w4.heap.size As Aa Ab c1 c2 c3 ys axs bs) => by have h9 := specHas (N : Int) (k : Int) As ys.length c1 ys W (Rd.of_own h.os hsm) (by omega) (WalkArith.wf_i64 (by omega)); rw [has_of HV.out.ok hlt] at h9; exact h9)
        obtain ⟨la, a0, a1⟩ := hst.out.pa
        by_cases hkv : k = v
        · have d1 : ((k : Int) == (v : Int)) = true := by simp; omega
          have d2 : ((k : Int) != (v : Int)) = false := by simp; omega
          have d3 : (k == v) = true := by simp; omega
          rw [decide_eq_true hkv, Bool.true_or] at TA
          rw [decide_eq_true hkv, Bool.not_true, Bool.false_and] at TB
          clear hkv
          go_wp2_with fail
          refine (TA.out _ hst.out).mono ?_
          rintro e w5 ⟨rfl, hb5⟩
          have S5 := Lib.hid (hst.out.below hb5)
          clear hb5 ls s0 s1 la a0 a1
          obtain ⟨lb, b0, b1⟩ := S5.out.pb
          go_wp2_with fail
          refine (TB.out _ S5.out).mono ?_
          rintro e w6 ⟨rfl, hb6⟩
          have S6 := Lib.hid (S5.out.below hb6)
          clear hb6 lb b0 b1
          go_wp2
          go_roundw
          case rel => exact ⟨k + 1, by omega, by go_num, S6⟩
          case measure => simp [intOf]; omega
        · have d1 : ((k : Int) == (v : Int)) = false := by simp; omega
          have d2 : ((k : Int) != (v : Int)) = true := by simp; omega
          have d3 : (k == v) = false := by simp; omega
          rw [decide_eq_false hkv, Bool.false_or] at TA
          rw [decide_eq_false hkv, Bool.not_false, Bool.true_and] at TB
          clear hkv
          generalize bitN ys k = bt at TA TB TS
          have e1 : (bt == bt) = true := by simp
          have e2 : (bt != bt) = false := by simp
          go_wp2_with fail
          refine (TA.out _ hst.out).mono ?_
          rintro e w5 ⟨rfl, hb5⟩
          have S5 := Lib.hid (hst.out.below hb5)
          clear hb5 ls s0 s1 la a0 a1
          obtain ⟨ls, s0, s1⟩ := S5.out.ps
          go_wp2_with fail
          refine (TS.out _ S5.out).mono ?_
          rintro e w6 ⟨rfl, hb6⟩
          have S6 := Lib.hid (S5.out.below hb6)
          clear hb6 ls s0 s1
          obtain ⟨lb, b0, b1⟩ := S6.out.pb
          go_wp2_with fail
          refine (TB.out _ S6.out).mono ?_
          rintro e w7 ⟨rfl, hb7⟩
          have S7 := Lib.hid (S6.out.below hb7)
          clear hb7 lb b0 b1
          obtain ⟨ls, s0, s1⟩ := S7.out.ps
          go_wp2_with fail
          refine (TS.out _ S7.out).mono ?_
          rintro e w8 ⟨rfl, hb8⟩
          have S8 := Lib.hid (S7.out.below hb8)
          clear hb8 ls s0 s1
          go_wp2
          go_roundw
          case rel => exact ⟨k + 1, by omega, by go_num, S8⟩
          case measure => simp [intOf]; omega
      · obtain rfl : k = N := by omega
        obtain ⟨la, a0, a1⟩ := hst.out.pa
        obtain ⟨lb, b0, b1⟩ := hst.out.pb
        have CE := Lib.hid (implEither (k : Int) (k : Int) Aa Ab axs.length c2 bs.length c3 axs bs wr (HW.out.below hst.out.h) (Rd.of_own hst.out.oa Fas.out) (Rd.of_own hst.out.ob Fbs.out) (by omega) (by omega))
        rw [Fe.out.1, Fe.out.2.1, Fe.out.2.2] at CE
        go_wp2_with fail
        refine CE.out.mono ?_
        rintro e w5 ⟨Ax, c4, rfl, ho5, hb5⟩
        have HBX := Lib.hid (s_chain hb5 (below_a1 w5 (.cells #[.int .i64 (k : Int), .slice Ax axs.length c4] 24)))
        have SX : Hid (SSx w (w5.alloc (.cells #[.int .i64 (k : Int), .slice Ax axs.length c4] 24)) k w1.heap.size w3.heap.size w4.heap.size w5.heap.size As Aa Ab Ax c1 c2 c3 c4 ys axs bs) := Lib.hid ⟨hst.out.below HBX.out, Box2.new w5 _ _ _, own_below (own_monoG (lo' := w.heap.size) ho5 hst.out.h.size) (below_a1 w5 _)⟩
        clear ho5 hb5 HBX CE ls s0 s1 la a0 a1 lb b0 b1 hst
        obtain ⟨ls, s0, s1⟩ := SX.out.s.ps
        have CM := Lib.hid (implMembers (k : Int) As ys.length c1 ys _ (HW.out.below SX.out.s.h) (Rd.of_own SX.out.s.os hsm) (by omega))
        have hml := memsB_len (k : Int) ys
        have CM2 := Lib.hid (fun W (h : SSx w W k w1.heap.size w3.heap.size w4.heap.size w5.heap.size As Aa Ab Ax c1 c2 c3 c4 ys axs bs) => specMembers (k : Int) As ys.length c1 ys W (Rd.of_own h.s.os hsm) (by omega))
        have CM3 := Lib.hid (fun W (h : SSx w W k w1.heap.size w3.heap.size w4.heap.size w5.heap.size As Aa Ab Ax c1 c2 c3 c4 ys axs bs) => implMembers (k : Int) Aa axs.length c2 axs W (HW.out.below h.s.h) (Rd.of_own h.s.oa Fas.out) (by omega))
        generalize memsB (k : Int) ys = ms at CM CM2 Fm Fl hml
        generalize memsB (k : Int) axs = ma at CM3 Fm
        go_wp2_with fail
        refine CM.out.mono ?_
        rintro e w6 ⟨AM, cM, rfl, hoM, hb6⟩
        have S6 := Lib.hid (SX.out.below hb6)
        have OM := Lib.hid hoM
        clear hoM hb6 SX CM ls s0 s1
        go_wp2
        go_loopw [10, 69] (fun t i wr => ∃ j : Nat, j ≤ ms.length ∧ i = .int .i64 (j : Int) ∧ t = .int .i64 (j : Int) ∧ Hid (SSx w wr k w1.heap.size w3.heap.size w4.heap.size w5.heap.size As Aa Ab Ax c1 c2 c3 c4 ys axs bs) ∧ Hid (SlI wr AM ms.length ms)) (fun _ i _ => ms.length - (intOf i).toNat)
        case atStart => exact ⟨0, Nat.zero_le _, rfl, rfl, S6, Lib.hid (SlI.of_own OM.out)⟩
        case round =>
          clear S6 OM
          obtain ⟨j, hj, rfl, rfl, hsx, hrd⟩ := hrel
          by_cases hlj : j < ms.length
          · obtain ⟨bm, om, z, hAM, hbm, hz, hcz⟩ := hrd.out.at_ hlj
            obtain ⟨u, rfl, huN, hub⟩ := Fl.out j z hz.out
            have TS := Lib.hid (by have h9 := specHas (k : Int) (u : Int) As ys.length c1 ys wr (Rd.of_own hsx.out.s.os hsm) (by omega) (WalkArith.wf_i64 (by omega)); rw [has_of HV.out.ok huN, hub] at h9; exact h9)
            clear hz hub
            subst hAM
            obtain ⟨ls, s0, s1⟩ := hsx.out.s.ps
            go_wp2_with fail
            refine TS.out.mono ?_
            rintro e w7 ⟨rfl, hb7⟩
            have S7 := Lib.hid (hsx.out.below hb7)
            have R7 := Lib.hid (hrd.out.below hb7)
            clear hb7 ls s0 s1 hcz
            go_wp2
            go_roundw
            case rel => exact ⟨j + 1, by omega, by go_num, by go_num, S7, R7⟩
            case measure => simp [intOf]; omega
          · obtain rfl : j = ms.length := by omega
            have CX := Lib.hid (fun W (h : SSx w W k w1.heap.size w3.heap.size w4.heap.size w5.heap.size As Aa Ab Ax c1 c2 c3 c4 ys axs bs) => implDigest (k : Int) Ax axs.length c4 axs W (HW.out.below h.s.h) (Rd.of_own h.ox Fas.out) (by omega))
            have CY := Lib.hid (fun W (h : SSx w W k w1.heap.size w3.heap.size w4.heap.size w5.heap.size As Aa Ab Ax c1 c2 c3 c4 ys axs bs) => implDigest (k : Int) Aa axs.length c2 axs W (HW.out.below h.s.h) (Rd.of_own h.s.oa Fas.out) (by omega))
            have CZ := Lib.hid (fun W (h : SSx w W k w1.heap.size w3.heap.size w4.heap.size w5.heap.size As Aa Ab Ax c1 c2 c3 c4 ys axs bs) => implDigest (k : Int) Ab bs.length c3 bs W (HW.out.below h.s.h) (Rd.of_own h.s.ob Fbs.out) (by omega))
            have CO := Lib.hid (fun W (h : SSx w W k w1.heap.size w3.heap.size w4.heap.size w5.heap.size As Aa Ab Ax c1 c2 c3 c4 ys axs bs) => by have h9 := implSetOk (k : Int) Ab bs.length c3 bs W (HW.out.below h.s.h) (Rd.of_own h.s.ob Fbs.out) (by omega); rw [Fb.out] at h9; exact h9)
            generalize digB (k : Int) axs = ga at CX CY Fp
            generalize digB (k : Int) bs = gb at CZ Fp
            have x1 : (ga == ga) = true := by simp
            have x2 : (ga != gb) = true := by simp; exact Fp.out
            have x3 : (ga == gb) = false := by simp; exact Fp.out
            have x4 : decide ((ms.length : Int) ≤ (ma.length : Int)) = true := by simp; exact Fm.out
            have x5 : decide (ms.length ≤ ma.length) = true := by simp; exact Fm.out
            have x6 : ((ms.length : Int) == (ms.length : Int)) = true := by simp
            have S7 := hsx
            have SD : Hid (SSx w wr.drew k w1.heap.size w3.heap.size w4.heap.size w5.heap.size As Aa Ab Ax c1 c2 c3 c4 ys axs bs) := Lib.hid (hsx.out.below (Below.refl _ _).drew)
            clear S7 hsx
            go_wp2
            refine wp_region_any (by kernel_rfl) ?_
            change wpAny _ _ _ _ _ _ _ (World.drew _)
            refine wpAny_of_held (S := fun W => W.cell? ⟨w1.heap.size, 0, none⟩ = some (.int .i64 (k : Int)) ∧ W.cell? ⟨w1.heap.size, 1, none⟩ = some (.slice As ys.length c1) ∧ W.cell? ⟨w3.heap.size, 0, none⟩ = some (.int .i64 (k : Int)) ∧ W.cell? ⟨w3.heap.size, 1, none⟩ = some (.slice Aa axs.length c2) ∧ W.cell? ⟨w4.heap.size, 0, none⟩ = some (.int .i64 (k : Int)) ∧ W.cell? ⟨w4.heap.size, 1, none⟩ = some (.slice Ab bs.length c3) ∧ W.cell? ⟨w5.heap.size, 0, none⟩ = some (.int .i64 (k : Int)) ∧ W.cell? ⟨w5.heap.size, 1, none⟩ = some (.slice Ax axs.length c4)) _ _ _ _ ?_
            refine wpAnyH_take (i := 0) (oi := ⟨_, _, _, _, _, _⟩) (v := .bool true) rfl (by kernel_rfl) (by kernel_rfl) (by kernel_rfl) (fun _ _ _ h => h) (Or.inl ⟨by kernel_rfl, fun W hS => by (obtain ⟨r0, r1, r2, r3, r4, r5, r6, r7⟩ := hS); go_simp⟩) ⟨SD.out.s.ps.c0, SD.out.s.ps.c1, SD.out.s.pa.c0, SD.out.s.pa.c1, SD.out.s.pb.c0, SD.out.s.pb.c1, SD.out.px.c0, SD.out.px.c1⟩ ?_
            (try simp only [Act.put, List.setIfInBounds_toArray, List.set_cons_zero, List.set_cons_succ])
            refine wpAnyH_take (i := 1) (oi := ⟨_, _, _, _, _, _⟩) (v := .bool true) rfl (by kernel_rfl) (by kernel_rfl) (by kernel_rfl) (fun _ _ _ h => h) (Or.inl ⟨by kernel_rfl, fun W hS => by (obtain ⟨r0, r1, r2, r3, r4, r5, r6, r7⟩ := hS); go_simp⟩) ⟨SD.out.s.ps.c0, SD.out.s.ps.c1, SD.out.s.pa.c0, SD.out.s.pa.c1, SD.out.s.pb.c0, SD.out.s.pb.c1, SD.out.px.c0, SD.out.px.c1⟩ ?_
            (try simp only [Act.put, List.setIfInBounds_toArray, List.set_cons_zero, List.set_cons_succ])
            refine wpAnyH_take (i := 2) (oi := ⟨_, _, _, _, _, _⟩) (v := .agg #[.int .i64 (k : Int), .slice Ax axs.length c4]) rfl (by kernel_rfl) (by kernel_rfl) (by kernel_rfl) (fun _ _ _ h => h) (Or.inl ⟨by kernel_rfl, fun W hS => by (obtain ⟨r0, r1, r2, r3, r4, r5, r6, r7⟩ := hS); go_simp⟩) ⟨SD.out.s.ps.c0, SD.out.s.ps.c1, SD.out.s.pa.c0, SD.out.s.pa.c1, SD.out.s.pb.c0, SD.out.s.pb.c1, SD.out.px.c0, SD.out.px.c1⟩ ?_
            (try simp only [Act.put, List.setIfInBounds_toArray, List.set_cons_zero, List.set_cons_succ])
            refine wpAnyH_take (i := 4) (oi := ⟨_, _, _, _, _, _⟩) (v := .agg #[.int .i64 (k : Int), .slice Aa axs.length c2]) rfl (by kernel_rfl) (by kernel_rfl) (by kernel_rfl) (fun _ _ _ h => h) (Or.inl ⟨by kernel_rfl, fun W hS => by (obtain ⟨r0, r1, r2, r3, r4, r5, r6, r7⟩ := hS); go_simp⟩) ⟨SD.out.s.ps.c0, SD.out.s.ps.c1, SD.out.s.pa.c0, SD.out.s.pa.c1, SD.out.s.pb.c0, SD.out.s.pb.c1, SD.out.px.c0, SD.out.px.c1⟩ ?_
            (try simp only [Act.put, List.setIfInBounds_toArray, List.set_cons_zero, List.set_cons_succ])
            refine wpAnyH_ready (rs := [3]) (by kernel_rfl) (by simp) (AllReadyH.cons rfl (fun K hK => ?_) AllReadyH.nil)
            go_simp
            go_at_call 20
            refine (CX.out _ SD.out).mono ?_
            rintro e w11 ⟨rfl, hb⟩
            have S11 := Lib.hid (SD.out.below hb)
            clear hb SD
            dsimp only
            refine hK.out _ _ ⟨S11.out.s.ps.c0, S11.out.s.ps.c1, S11.out.s.pa.c0, S11.out.s.pa.c1, S11.out.s.pb.c0, S11.out.s.pb.c1, S11.out.px.c0, S11.out.px.c1⟩ (fun _ => ?_)
            clear hK K
            (try simp only [Act.put, List.setIfInBounds_toArray, List.set_cons_zero, List.set_cons_succ])
            refine wpAnyH_ready (rs := [5]) (by kernel_rfl) (by simp) (AllReadyH.cons rfl (fun K hK => ?_) AllReadyH.nil)
            go_simp
            go_at_call 20
            refine (CY.out _ S11.out).mono ?_
            rintro e w12 ⟨rfl, hb⟩
            have S12 := Lib.hid (S11.out.below hb)
            clear hb S11
            dsimp only
            refine hK.out _ _ ⟨S12.out.s.ps.c0, S12.out.s.ps.c1, S12.out.s.pa.c0, S12.out.s.pa.c1, S12.out.s.pb.c0, S12.out.s.pb.c1, S12.out.px.c0, S12.out.px.c1⟩ (fun _ => ?_)
            clear hK K
            (try simp only [Act.put, List.setIfInBounds_toArray, List.set_cons_zero, List.set_cons_succ])
            refine wpAnyH_take (i := 6) (oi := ⟨_, _, _, _, _, _⟩) (v := .bool true) rfl (by kernel_rfl) (by kernel_rfl) (by kernel_rfl) (fun _ _ _ h => h) (Or.inl ⟨by kernel_rfl, fun W hS => by (obtain ⟨r0, r1, r2, r3, r4, r5, r6, r7⟩ := hS); go_simp⟩) ⟨S12.out.s.ps.c0, S12.out.s.ps.c1, S12.out.s.pa.c0, S12.out.s.pa.c1, S12.out.s.pb.c0, S12.out.s.pb.c1, S12.out.px.c0, S12.out.px.c1⟩ ?_
            (try simp only [Act.put, List.setIfInBounds_toArray, List.set_cons_zero, List.set_cons_succ])
            refine wpAnyH_take (i := 7) (oi := ⟨_, _, _, _, _, _⟩) (v := .bool true) rfl (by kernel_rfl) (by kernel_rfl) (by kernel_rfl) (fun _ _ _ h => h) (Or.inl ⟨by kernel_rfl, fun W hS => by (obtain ⟨r0, r1, r2, r3, r4, r5, r6, r7⟩ := hS); go_simp⟩) ⟨S12.out.s.ps.c0, S12.out.s.ps.c1, S12.out.s.pa.c0, S12.out.s.pa.c1, S12.out.s.pb.c0, S12.out.s.pb.c1, S12.out.px.c0, S12.out.px.c1⟩ ?_
            (try simp only [Act.put, List.setIfInBounds_toArray, List.set_cons_zero, List.set_cons_succ])
            refine wpAnyH_take (i := 8) (oi := ⟨_, _, _, _, _, _⟩) (v := .bool true) rfl (by kernel_rfl) (by kernel_rfl) (by kernel_rfl) (fun _ _ _ h => h) (Or.inl ⟨by kernel_rfl, fun W hS => by (obtain ⟨r0, r1, r2, r3, r4, r5, r6, r7⟩ := hS); go_simp⟩) ⟨S12.out.s.ps.c0, S12.out.s.ps.c1, S12.out.s.pa.c0, S12.out.s.pa.c1, S12.out.s.pb.c0, S12.out.s.pb.c1, S12.out.px.c0, S12.out.px.c1⟩ ?_
            (try simp only [Act.put, List.setIfInBounds_toArray, List.set_cons_zero, List.set_cons_succ])
            refine wpAnyH_take (i := 9) (oi := ⟨_, _, _, _, _, _⟩) (v := .agg #[.int .i64 (k : Int), .slice Ab bs.length c3]) rfl (by kernel_rfl) (by kernel_rfl) (by kernel_rfl) (fun _ _ _ h => h) (Or.inl ⟨by kernel_rfl, fun W hS => by (obtain ⟨r0, r1, r2, r3, r4, r5, r6, r7⟩ := hS); go_simp⟩) ⟨S12.out.s.ps.c0, S12.out.s.ps.c1, S12.out.s.pa.c0, S12.out.s.pa.c1, S12.out.s.pb.c0, S12.out.s.pb.c1, S12.out.px.c0, S12.out.px.c1⟩ ?_
            (try simp only [Act.put, List.setIfInBounds_toArray, List.set_cons_zero, List.set_cons_succ])
            refine wpAnyH_ready (rs := [10]) (by kernel_rfl) (by simp) (AllReadyH.cons rfl (fun K hK => ?_) AllReadyH.nil)
            go_simp
            go_at_call 21
            refine (CO.out _ S12.out).mono ?_
            rintro e w13 ⟨rfl, hb⟩
            have S13 := Lib.hid (S12.out.below hb)
            clear hb S12
            dsimp only
            refine hK.out _ _ ⟨S13.out.s.ps.c0, S13.out.s.ps.c1, S13.out.s.pa.c0, S13.out.s.pa.c1, S13.out.s.pb.c0, S13.out.s.pb.c1, S13.out.px.c0, S13.out.px.c1⟩ (fun _ => ?_)
            clear hK K
            (try simp only [Act.put, List.setIfInBounds_toArray, List.set_cons_zero, List.set_cons_succ])
            refine wpAnyH_take (i := 11) (oi := ⟨_, _, _, _, _, _⟩) (v := .bool true) rfl (by kernel_rfl) (by kernel_rfl) (by kernel_rfl) (fun _ _ _ h => h) (Or.inl ⟨by kernel_rfl, fun W hS => by (obtain ⟨r0, r1, r2, r3, r4, r5, r6, r7⟩ := hS); go_simp⟩) ⟨S13.out.s.ps.c0, S13.out.s.ps.c1, S13.out.s.pa.c0, S13.out.s.pa.c1, S13.out.s.pb.c0, S13.out.s.pb.c1, S13.out.px.c0, S13.out.px.c1⟩ ?_
            (try simp only [Act.put, List.setIfInBounds_toArray, List.set_cons_zero, List.set_cons_succ])
            refine wpAnyH_take (i := 12) (oi := ⟨_, _, _, _, _, _⟩) (v := .bool true) rfl (by kernel_rfl) (by kernel_rfl) (by kernel_rfl) (fun _ _ _ h => h) (Or.inl ⟨by kernel_rfl, fun W hS => by (obtain ⟨r0, r1, r2, r3, r4, r5, r6, r7⟩ := hS); go_simp⟩) ⟨S13.out.s.ps.c0, S13.out.s.ps.c1, S13.out.s.pa.c0, S13.out.s.pa.c1, S13.out.s.pb.c0, S13.out.s.pb.c1, S13.out.px.c0, S13.out.px.c1⟩ ?_
            (try simp only [Act.put, List.setIfInBounds_toArray, List.set_cons_zero, List.set_cons_succ])
            refine wpAnyH_take (i := 13) (oi := ⟨_, _, _, _, _, _⟩) (v := .agg #[.int .i64 (k : Int), .slice Aa axs.length c2]) rfl (by kernel_rfl) (by kernel_rfl) (by kernel_rfl) (fun _ _ _ h => h) (Or.inl ⟨by kernel_rfl, fun W hS => by (obtain ⟨r0, r1, r2, r3, r4, r5, r6, r7⟩ := hS); go_simp⟩) ⟨S13.out.s.ps.c0, S13.out.s.ps.c1, S13.out.s.pa.c0, S13.out.s.pa.c1, S13.out.s.pb.c0, S13.out.s.pb.c1, S13.out.px.c0, S13.out.px.c1⟩ ?_
            (try simp only [Act.put, List.setIfInBounds_toArray, List.set_cons_zero, List.set_cons_succ])
            refine wpAnyH_take (i := 16) (oi := ⟨_, _, _, _, _, _⟩) (v := .int .i64 (ms.length : Int)) rfl (by kernel_rfl) (by kernel_rfl) (by kernel_rfl) (fun _ _ _ h => h) (Or.inl ⟨by kernel_rfl, fun W hS => by (obtain ⟨r0, r1, r2, r3, r4, r5, r6, r7⟩ := hS); go_simp⟩) ⟨S13.out.s.ps.c0, S13.out.s.ps.c1, S13.out.s.pa.c0, S13.out.s.pa.c1, S13.out.s.pb.c0, S13.out.s.pb.c1, S13.out.px.c0, S13.out.px.c1⟩ ?_
            (try simp only [Act.put, List.setIfInBounds_toArray, List.set_cons_zero, List.set_cons_succ])
            refine wpAnyH_ready (rs := [14]) (by kernel_rfl) (by simp) (AllReadyH.cons rfl (fun K hK => ?_) AllReadyH.nil)
            go_simp
            go_at_call 19
            refine (CM3.out _ S13.out).mono ?_
            rintro e w14 ⟨AY, cY, rfl, -, hb⟩
            have S14 := Lib.hid (S13.out.below hb)
            clear hb S13
            dsimp only
            refine hK.out _ _ ⟨S14.out.s.ps.c0, S14.out.s.ps.c1, S14.out.s.pa.c0, S14.out.s.pa.c1, S14.out.s.pb.c0, S14.out.s.pb.c1, S14.out.px.c0, S14.out.px.c1⟩ (fun _ => ?_)
            clear hK K
            (try simp only [Act.put, List.setIfInBounds_toArray, List.set_cons_zero, List.set_cons_succ])
            refine wpAnyH_take (i := 15) (oi := ⟨_, _, _, _, _, _⟩) (v := .int .i64 (ma.length : Int)) rfl (by kernel_rfl) (by kernel_rfl) (by kernel_rfl) (fun _ _ _ h => h) (Or.inl ⟨by kernel_rfl, fun W hS => by (obtain ⟨r0, r1, r2, r3, r4, r5, r6, r7⟩ := hS); go_simp⟩) ⟨S14.out.s.ps.c0, S14.out.s.ps.c1, S14.out.s.pa.c0, S14.out.s.pa.c1, S14.out.s.pb.c0, S14.out.s.pb.c1, S14.out.px.c0, S14.out.px.c1⟩ ?_
            (try simp only [Act.put, List.setIfInBounds_toArray, List.set_cons_zero, List.set_cons_succ])
            refine wpAnyH_take (i := 17) (oi := ⟨_, _, _, _, _, _⟩) (v := .bool true) rfl (by kernel_rfl) (by kernel_rfl) (by kernel_rfl) (fun _ _ _ h => h) (Or.inl ⟨by kernel_rfl, fun W hS => by (obtain ⟨r0, r1, r2, r3, r4, r5, r6, r7⟩ := hS); go_simp⟩) ⟨S14.out.s.ps.c0, S14.out.s.ps.c1, S14.out.s.pa.c0, S14.out.s.pa.c1, S14.out.s.pb.c0, S14.out.s.pb.c1, S14.out.px.c0, S14.out.px.c1⟩ ?_
            (try simp only [Act.put, List.setIfInBounds_toArray, List.set_cons_zero, List.set_cons_succ])
            refine wpAnyH_take (i := 18) (oi := ⟨_, _, _, _, _, _⟩) (v := .bool true) rfl (by kernel_rfl) (by kernel_rfl) (by kernel_rfl) (fun _ _ _ h => h) (Or.inl ⟨by kernel_rfl, fun W hS => by (obtain ⟨r0, r1, r2, r3, r4, r5, r6, r7⟩ := hS); go_simp⟩) ⟨S14.out.s.ps.c0, S14.out.s.ps.c1, S14.out.s.pa.c0, S14.out.s.pa.c1, S14.out.s.pb.c0, S14.out.s.pb.c1, S14.out.px.c0, S14.out.px.c1⟩ ?_
            (try simp only [Act.put, List.setIfInBounds_toArray, List.set_cons_zero, List.set_cons_succ])
            refine wpAnyH_take (i := 19) (oi := ⟨_, _, _, _, _, _⟩) (v := .bool true) rfl (by kernel_rfl) (by kernel_rfl) (by kernel_rfl) (fun _ _ _ h => h) (Or.inl ⟨by kernel_rfl, fun W hS => by (obtain ⟨r0, r1, r2, r3, r4, r5, r6, r7⟩ := hS); go_simp⟩) ⟨S14.out.s.ps.c0, S14.out.s.ps.c1, S14.out.s.pa.c0, S14.out.s.pa.c1, S14.out.s.pb.c0, S14.out.s.pb.c1, S14.out.px.c0, S14.out.px.c1⟩ ?_
            (try simp only [Act.put, List.setIfInBounds_toArray, List.set_cons_zero, List.set_cons_succ])
            refine wpAnyH_take (i := 20) (oi := ⟨_, _, _, _, _, _⟩) (v := .int .i64 (ms.length : Int)) rfl (by kernel_rfl) (by kernel_rfl) (by kernel_rfl) (fun _ _ _ h => h) (Or.inl ⟨by kernel_rfl, fun W hS => by (obtain ⟨r0, r1, r2, r3, r4, r5, r6, r7⟩ := hS); go_simp⟩) ⟨S14.out.s.ps.c0, S14.out.s.ps.c1, S14.out.s.pa.c0, S14.out.s.pa.c1, S14.out.s.pb.c0, S14.out.s.pb.c1, S14.out.px.c0, S14.out.px.c1⟩ ?_
            (try simp only [Act.put, List.setIfInBounds_toArray, List.set_cons_zero, List.set_cons_succ])
            refine wpAnyH_take (i := 21) (oi := ⟨_, _, _, _, _, _⟩) (v := .agg #[.int .i64 (k : Int), .slice As ys.length c1]) rfl (by kernel_rfl) (by kernel_rfl) (by kernel_rfl) (fun _ _ _ h => h) (Or.inl ⟨by kernel_rfl, fun W hS => by (obtain ⟨r0, r1, r2, r3, r4, r5, r6, r7⟩ := hS); go_simp⟩) ⟨S14.out.s.ps.c0, S14.out.s.ps.c1, S14.out.s.pa.c0, S14.out.s.pa.c1, S14.out.s.pb.c0, S14.out.s.pb.c1, S14.out.px.c0, S14.out.px.c1⟩ ?_
            (try simp only [Act.put, List.setIfInBounds_toArray, List.set_cons_zero, List.set_cons_succ])
            refine wpAnyH_ready (rs := [22]) (by kernel_rfl) (by simp) (AllReadyH.cons rfl (fun K hK => ?_) AllReadyH.nil)
            go_simp
            go_at_call 22
            refine (CM2.out _ S14.out).mono ?_
            rintro e w15 ⟨AZ, cZ, rfl, -, hb⟩
            have S15 := Lib.hid (S14.out.below hb)
            clear hb S14
            dsimp only
            refine hK.out _ _ ⟨S15.out.s.ps.c0, S15.out.s.ps.c1, S15.out.s.pa.c0, S15.out.s.pa.c1, S15.out.s.pb.c0, S15.out.s.pb.c1, S15.out.px.c0, S15.out.px.c1⟩ (fun _ => ?_)
            clear hK K
            (try simp only [Act.put, List.setIfInBounds_toArray, List.set_cons_zero, List.set_cons_succ])
            refine wpAnyH_take (i := 23) (oi := ⟨_, _, _, _, _, _⟩) (v := .int .i64 (ms.length : Int)) rfl (by kernel_rfl) (by kernel_rfl) (by kernel_rfl) (fun _ _ _ h => h) (Or.inl ⟨by kernel_rfl, fun W hS => by (obtain ⟨r0, r1, r2, r3, r4, r5, r6, r7⟩ := hS); go_simp⟩) ⟨S15.out.s.ps.c0, S15.out.s.ps.c1, S15.out.s.pa.c0, S15.out.s.pa.c1, S15.out.s.pb.c0, S15.out.s.pb.c1, S15.out.px.c0, S15.out.px.c1⟩ ?_
            (try simp only [Act.put, List.setIfInBounds_toArray, List.set_cons_zero, List.set_cons_succ])
            refine wpAnyH_take (i := 24) (oi := ⟨_, _, _, _, _, _⟩) (v := .bool true) rfl (by kernel_rfl) (by kernel_rfl) (by kernel_rfl) (fun _ _ _ h => h) (Or.inl ⟨by kernel_rfl, fun W hS => by (obtain ⟨r0, r1, r2, r3, r4, r5, r6, r7⟩ := hS); go_simp⟩) ⟨S15.out.s.ps.c0, S15.out.s.ps.c1, S15.out.s.pa.c0, S15.out.s.pa.c1, S15.out.s.pb.c0, S15.out.s.pb.c1, S15.out.px.c0, S15.out.px.c1⟩ ?_
            (try simp only [Act.put, List.setIfInBounds_toArray, List.set_cons_zero, List.set_cons_succ])
            refine wpAnyH_take (i := 25) (oi := ⟨_, _, _, _, _, _⟩) (v := .bool true) rfl (by kernel_rfl) (by kernel_rfl) (by kernel_rfl) (fun _ _ _ h => h) (Or.inl ⟨by kernel_rfl, fun W hS => by (obtain ⟨r0, r1, r2, r3, r4, r5, r6, r7⟩ := hS); go_simp⟩) ⟨S15.out.s.ps.c0, S15.out.s.ps.c1, S15.out.s.pa.c0, S15.out.s.pa.c1, S15.out.s.pb.c0, S15.out.s.pb.c1, S15.out.px.c0, S15.out.px.c1⟩ ?_
            (try simp only [Act.put, List.setIfInBounds_toArray, List.set_cons_zero, List.set_cons_succ])
            refine wpAnyH_take (i := 26) (oi := ⟨_, _, _, _, _, _⟩) (v := .bool true) rfl (by kernel_rfl) (by kernel_rfl) (by kernel_rfl) (fun _ _ _ h => h) (Or.inl ⟨by kernel_rfl, fun W hS => by (obtain ⟨r0, r1, r2, r3, r4, r5, r6, r7⟩ := hS); go_simp⟩) ⟨S15.out.s.ps.c0, S15.out.s.ps.c1, S15.out.s.pa.c0, S15.out.s.pa.c1, S15.out.s.pb.c0, S15.out.s.pb.c1, S15.out.px.c0, S15.out.px.c1⟩ ?_
            (try simp only [Act.put, List.setIfInBounds_toArray, List.set_cons_zero, List.set_cons_succ])
            refine wpAnyH_take (i := 27) (oi := ⟨_, _, _, _, _, _⟩) (v := .agg #[.int .i64 (k : Int), .slice Aa axs.length c2]) rfl (by kernel_rfl) (by kernel_rfl) (by kernel_rfl) (fun _ _ _ h => h) (Or.inl ⟨by kernel_rfl, fun W hS => by (obtain ⟨r0, r1, r2, r3, r4, r5, r6, r7⟩ := hS); go_simp⟩) ⟨S15.out.s.ps.c0, S15.out.s.ps.c1, S15.out.s.pa.c0, S15.out.s.pa.c1, S15.out.s.pb.c0, S15.out.s.pb.c1, S15.out.px.c0, S15.out.px.c1⟩ ?_
            (try simp only [Act.put, List.setIfInBounds_toArray, List.set_cons_zero, List.set_cons_succ])
            refine wpAnyH_take (i := 29) (oi := ⟨_, _, _, _, _, _⟩) (v := .agg #[.int .i64 (k : Int), .slice Ab bs.length c3]) rfl (by kernel_rfl) (by kernel_rfl) (by kernel_rfl) (fun _ _ _ h => h) (Or.inl ⟨by kernel_rfl, fun W hS => by (obtain ⟨r0, r1, r2, r3, r4, r5, r6, r7⟩ := hS); go_simp⟩) ⟨S15.out.s.ps.c0, S15.out.s.ps.c1, S15.out.s.pa.c0, S15.out.s.pa.c1, S15.out.s.pb.c0, S15.out.s.pb.c1, S15.out.px.c0, S15.out.px.c1⟩ ?_
            (try simp only [Act.put, List.setIfInBounds_toArray, List.set_cons_zero, List.set_cons_succ])
            refine wpAnyH_ready (rs := [28]) (by kernel_rfl) (by simp) (AllReadyH.cons rfl (fun K hK => ?_) AllReadyH.nil)
            go_simp
            go_at_call 20
            refine (CY.out _ S15.out).mono ?_
            rintro e w16 ⟨rfl, hb⟩
            have S16 := Lib.hid (S15.out.below hb)
            clear hb S15
            dsimp only
            refine hK.out _ _ ⟨S16.out.s.ps.c0, S16.out.s.ps.c1, S16.out.s.pa.c0, S16.out.s.pa.c1, S16.out.s.pb.c0, S16.out.s.pb.c1, S16.out.px.c0, S16.out.px.c1⟩ (fun _ => ?_)
            clear hK K
            (try simp only [Act.put, List.setIfInBounds_toArray, List.set_cons_zero, List.set_cons_succ])
            refine wpAnyH_ready (rs := [30]) (by kernel_rfl) (by simp) (AllReadyH.cons rfl (fun K hK => ?_) AllReadyH.nil)
            go_simp
            go_at_call 20
            refine (CZ.out _ S16.out).mono ?_
            rintro e w17 ⟨rfl, hb⟩
            have S17 := Lib.hid (S16.out.below hb)
            clear hb S16
            dsimp only
            refine hK.out _ _ ⟨S17.out.s.ps.c0, S17.out.s.ps.c1, S17.out.s.pa.c0, S17.out.s.pa.c1, S17.out.s.pb.c0, S17.out.s.pb.c1, S17.out.px.c0, S17.out.px.c1⟩ (fun _ => ?_)
            clear hK K
            (try simp only [Act.put, List.setIfInBounds_toArray, List.set_cons_zero, List.set_cons_succ])
            refine wpAnyH_take (i := 31) (oi := ⟨_, _, _, _, _, _⟩) (v := .bool true) rfl (by kernel_rfl) (by kernel_rfl) (by kernel_rfl) (fun _ _ _ h => h) (Or.inl ⟨by kernel_rfl, fun W hS => by (obtain ⟨r0, r1, r2, r3, r4, r5, r6, r7⟩ := hS); go_simp⟩) ⟨S17.out.s.ps.c0, S17.out.s.ps.c1, S17.out.s.pa.c0, S17.out.s.pa.c1, S17.out.s.pb.c0, S17.out.s.pb.c1, S17.out.px.c0, S17.out.px.c1⟩ ?_
            (try simp only [Act.put, List.setIfInBounds_toArray, List.set_cons_zero, List.set_cons_succ])
            refine wpAnyH_take (i := 32) (oi := ⟨_, _, _, _, _, _⟩) (v := .bool true) rfl (by kernel_rfl) (by kernel_rfl) (by kernel_rfl) (fun _ _ _ h => h) (Or.inl ⟨by kernel_rfl, fun W hS => by (obtain ⟨r0, r1, r2, r3, r4, r5, r6, r7⟩ := hS); go_simp⟩) ⟨S17.out.s.ps.c0, S17.out.s.ps.c1, S17.out.s.pa.c0, S17.out.s.pa.c1, S17.out.s.pb.c0, S17.out.s.pb.c1, S17.out.px.c0, S17.out.px.c1⟩ ?_
            (try simp only [Act.put, List.setIfInBounds_toArray, List.set_cons_zero, List.set_cons_succ])
            refine wpAnyH_take (i := 33) (oi := ⟨_, _, _, _, _, _⟩) (v := .bool true) rfl (by kernel_rfl) (by kernel_rfl) (by kernel_rfl) (fun _ _ _ h => h) (Or.inl ⟨by kernel_rfl, fun W hS => by (obtain ⟨r0, r1, r2, r3, r4, r5, r6, r7⟩ := hS); go_simp⟩) ⟨S17.out.s.ps.c0, S17.out.s.ps.c1, S17.out.s.pa.c0, S17.out.s.pa.c1, S17.out.s.pb.c0, S17.out.s.pb.c1, S17.out.px.c0, S17.out.px.c1⟩ ?_
            (try simp only [Act.put, List.setIfInBounds_toArray, List.set_cons_zero, List.set_cons_succ])
            refine wpAnyH_done (by kernel_rfl) ?_ _
            go_wp2
            go_ret
            exact ⟨rfl, S17.out.s.h⟩
  · go_enter Tryd.func3, Tryd.ntmps3
    go_wp2
    go_ret
    exact ⟨rfl, Below.refl _ _⟩
end Go.Proofs.YtbkchmkhaapmaaaDoor
