/- The walk of the law FnExactHas: it returns true and writes nothing that was there. -/
import Derived.Test.YtbkchmkhaapmaaaDoorSetArg
import Derived.Test.YtbkchmkhaapmaaaDoorSetHasI
import Derived.Test.YtbkchmkhaapmaaaDoorSetHasS
namespace Go.Proofs.YtbkchmkhaapmaaaDoor
open Go.RowKit
set_option linter.unusedVariables false

set_option maxRecDepth 20000 in
set_option maxHeartbeats 8000000 in
theorem walkHas (N : Int) (A : Option Addr) (c : Nat) (xs : List Nat) (a1 : Int) (w : World) (hin : SetIn w N A c xs) (w1 : (Lit.int .i64 a1).wf = true) (hw : Wts w) :
    Calls Tryd.prog 6 #[.agg #[.int .i64 N, .slice A xs.length c], .int .i64 a1] w fun e w' => e = .returned (.bool true) ∧ Below w.heap.size w w' := by
  have HW := Lib.hid hw
  have CZ := Lib.hid (fun W => szSet_any N A xs.length c 1048576 W hin.l (by omega) (by omega))
  by_cases hb : (xs.length : Int) ≤ 1048576
  · skip
    rw [leftN_pos hb] at CZ
    have hp : (0 : Int) ≤ 1048576 - (xs.length : Int) := by omega
    generalize (1048576 : Int) - (xs.length : Int) = q at CZ hp
    have hxn : xs.length ≤ 1048576 := by omega
    have HSM := Lib.hid hin.g.small
    have CT := Lib.hid (fun W (h : Below w.heap.size w W) => toSet_is N A c xs W (hin.g.below h) hin.cap (by omega))
    have CE := Lib.hid (fun W b b' A A' c c' (h1 : W.ownsRow b 5 1 (.slice A xs.length c) xs.length (vb xs)) (h2 : W.ownsRow b' 5 1 (.slice A' xs.length c') xs.length (vb xs)) => eqSet_is N A A' c c' xs W (Rd.of_own h1 HSM.out) (Rd.of_own h2 HSM.out) (own_cap h1) (own_cap h2) (by omega))
    have CM := Lib.hid (fun W b A c (h : W.ownsRow b 5 1 (.slice A xs.length c) xs.length (vb xs)) => markSet_is N A c b 1 xs W h (by omega) (by omega))
    have CS := Lib.hid (fun W (h0 : Below w.heap.size w W) b A c (h : W.ownsRow b 5 1 (.slice A xs.length c) xs.length (vb xs)) => specHas N a1 A xs.length c xs W (Rd.of_own h HSM.out) (by omega) w1)
    have CI := Lib.hid (fun W (h0 : Below w.heap.size w W) b A c (h : W.ownsRow b 5 1 (.slice A xs.length c) xs.length (vb xs)) => implHas N a1 A xs.length c xs W (hw.below h0) (Rd.of_own h HSM.out) (by omega) w1)
    generalize hasB N xs a1 = rb at CS CI
    have hrb : (rb == rb) = true := by simp
    have hrb2 : (rb != rb) = false := by simp
    have hk5 : (0 : Int) ≤ ((1 + xs.length : Nat) : Int) := by omega
    unfold MarkedZ at CM
    generalize ((1 + xs.length : Nat) : Int) = ka at CM hk5
    clear hin hb
    go_enter Tryd.func6, Tryd.ntmps6
    go_wp2_with fail
    refine (CZ.out _).mono ?_
    rintro e w1 ⟨rfl, hb⟩
    have B0_1 := Lib.hid ((Box2.new w (.int .i64 N) (.slice A xs.length c) 36).below hb)
    have H_2 := Lib.hid (s_chain (below_a1 w _) hb)
    have sz_3 : Hid (w.heap.size + 1 ≤ w1.heap.size) := Lib.hid (by have := hb.size; simpa using this)
    clear hb
    obtain ⟨l_4, l_4a, l_4b⟩ := B0_1.out
    go_wp2_with fail
    refine (CT.out _ H_2.out).mono ?_
    rintro e w2 ⟨Ap, cp, rfl, ho, hb⟩
    clear l_4 l_4a l_4b
    have B0_5 := Lib.hid (B0_1.out.below hb)
    clear B0_1
    have H_6 := Lib.hid (s_chain H_2.out hb)
    clear H_2
    have sz_7 := Lib.hid (Below.size hb)
    have RG_8 := Lib.hid (ho).lt
    have Xp_9 := Lib.hid (ho)
    clear ho hb
    go_wp2_with fail
    refine (CS.out _ H_6.out _ _ _ Xp_9.out).mono ?_
    rintro e w3 ⟨rfl, hb⟩
    have B0_10 := Lib.hid (B0_5.out.below hb)
    clear B0_5
    have H_11 := Lib.hid (s_chain H_6.out hb)
    clear H_6
    have sz_12 := Lib.hid (Below.size hb)
    clear hb
    obtain ⟨l_13, l_13a, l_13b⟩ := B0_10.out
    go_wp2_with fail
    refine (CT.out _ H_11.out).mono ?_
    rintro e w4 ⟨Ax, cx, rfl, ho, hb⟩
    clear l_13 l_13a l_13b
    have B0_14 := Lib.hid (B0_10.out.below hb)
    clear B0_10
    have H_15 := Lib.hid (s_chain H_11.out hb)
    clear H_11
    have sz_16 := Lib.hid (Below.size hb)
    have RG_17 := Lib.hid (ho).lt
    have Xx_18 := Lib.hid (ho)
    clear ho hb
    have hb := below_a1 w4 (.cells #[.int .i64 N, .slice Ax xs.length cx] 24)
    have B0_19 := Lib.hid (B0_14.out.below hb)
    clear B0_14
    have H_20 := Lib.hid (s_chain H_15.out hb)
    clear H_15
    have Xx_21 := Lib.hid (own_below Xx_18.out hb)
    clear Xx_18
    have sz_22 := Lib.hid (Below.size hb)
    have XBx_23 := Lib.hid (Box2.new w4 (.int .i64 N) (.slice Ax xs.length cx) 24)
    have sz_24 : Hid (w4.heap.size + 1 ≤ (w4.alloc (.cells #[.int .i64 N, .slice Ax xs.length cx] 24)).heap.size) := Lib.hid (by simp)
    clear hb
    obtain ⟨l_25, l_25a, l_25b⟩ := XBx_23.out
    go_wp2_with fail
    refine (CI.out _ H_20.out _ _ _ Xx_21.out).mono ?_
    rintro e w5 ⟨rfl, hb⟩
    clear l_25 l_25a l_25b
    have B0_26 := Lib.hid (B0_19.out.below hb)
    clear B0_19
    have H_27 := Lib.hid (s_chain H_20.out hb)
    clear H_20
    have Xx_28 := Lib.hid (own_below Xx_21.out hb)
    clear Xx_21
    have XBx_29 := Lib.hid (XBx_23.out.below hb)
    clear XBx_23
    have sz_30 := Lib.hid (Below.size hb)
    clear hb
    obtain ⟨l_31, l_31a, l_31b⟩ := B0_26.out
    obtain ⟨l_32, l_32a, l_32b⟩ := XBx_29.out
    go_wp2
    go_region_with (first
      | (go_at_call 25; ((with_reducible refine (CT.out _ (by first | exact H_27.out | exact H_27.out.drew | exact H_27.out.drew.drew)).mono ?_)); rintro e w6 ⟨A3, c3, rfl, ho3, hbg⟩; have HBG : Hid (Below w5.heap.size w5 w6) := Lib.hid (by first | exact hbg | exact ⟨hbg.os, hbg.tape, hbg.output, hbg.size, hbg.block⟩); obtain ⟨l2, c20, c21⟩ := (XBx_29.out.below HBG.out); have D5 := Lib.hid (own_below Xx_28.out HBG.out); have D6 := Lib.hid ho3)
      | (go_at_call 26; ((with_reducible refine (CE.out _ _ _ _ _ _ _ D5.out D6.out).mono ?_)); rintro e w7 ⟨rfl, hbh⟩))
    all_goals
      have HBH : Hid (Below w5.heap.size w5 w7) := Lib.hid (s_chain HBG.out hbh)
      have B0_33 := Lib.hid (B0_26.out.below HBH.out)
      clear B0_26
      have H_34 := Lib.hid (s_chain H_27.out HBH.out)
      clear H_27
      have Xx_35 := Lib.hid (own_below Xx_28.out HBH.out)
      clear Xx_28
      have XBx_36 := Lib.hid (XBx_29.out.below HBH.out)
      clear XBx_29
      have sz_37 := Lib.hid (Below.size HBH.out)
      clear l_31 l_31a l_31b
      clear l_32 l_32a l_32b
      clear l2 c20 c21 ho3 hbg hbh D5 D6 HBG HBH
      go_wp2
      go_ret
      exact ⟨rfl, H_34.out⟩
  · rw [leftN_neg (by omega)] at CZ
    clear hin hb HW hw
    go_enter Tryd.func6, Tryd.ntmps6
    go_wp2_with fail
    refine (CZ.out _).mono ?_
    rintro e wa ⟨rfl, hba⟩
    go_wp2
    go_ret
    exact ⟨rfl, s_chain (below_a1 w _) hba⟩
end Go.Proofs.YtbkchmkhaapmaaaDoor
