/- The walk of the law FnExactWith: it returns true and writes nothing that was there. -/
import Derived.Test.YtbkchmkhaapmaaaDoorSetArg
import Derived.Test.YtbkchmkhaapmaaaDoorSetWithI
import Derived.Test.YtbkchmkhaapmaaaDoorSetTurnS
namespace Go.Proofs.YtbkchmkhaapmaaaDoor
open Go.RowKit
set_option linter.unusedVariables false

set_option maxRecDepth 20000 in
set_option maxHeartbeats 8000000 in
theorem walkWith (N : Int) (A : Option Addr) (c : Nat) (xs : List Nat) (a1 : Int) (w : World) (hin : SetIn w N A c xs) (w1 : (Lit.int .i64 a1).wf = true) (hw : Wts w) :
    Calls Tryd.prog 7 #[.agg #[.int .i64 N, .slice A xs.length c], .int .i64 a1] w fun e w' => e = .returned (.bool true) ∧ Below w.heap.size w w' := by
  have HW := Lib.hid hw
  have CZ := Lib.hid (fun W => szSet_any N A xs.length c 1048576 W hin.l (by omega) (by omega))
  by_cases hb : (xs.length : Int) ≤ 1048576
  · skip
    rw [leftN_pos hb] at CZ
    have hp : (0 : Int) ≤ 1048576 - (xs.length : Int) := by omega
    generalize (1048576 : Int) - (xs.length : Int) = q at CZ hp
    have hxn : xs.length ≤ 1048576 := by omega
    have HSM := Lib.hid hin.g.small
    have CT := Lib.hid (fun W (h : Below w.heap.size w W) => toSet_is N A c xs W (hin.g.below h) hin.cap (by omega))
    have CE := Lib.hid (fun W b b' A A' c c' (h1 : W.ownsRow b 5 1 (.slice A xs.length c) xs.length (vb xs)) (h2 : W.ownsRow b' 5 1 (.slice A' xs.length c') xs.length (vb xs)) => eqSet_is N A A' c c' xs W (Rd.of_own h1 HSM.out) (Rd.of_own h2 HSM.out) (own_cap h1) (own_cap h2) (by omega))
    have CM := Lib.hid (fun W b A c (h : W.ownsRow b 5 1 (.slice A xs.length c) xs.length (vb xs)) => markSet_is N A c b 1 xs W h (by omega) (by omega))
    have CS := Lib.hid (fun W (h0 : Below w.heap.size w W) b A c (h : W.ownsRow b 5 1 (.slice A xs.length c) xs.length (vb xs)) => specWith N a1 A xs.length c xs W (Rd.of_own h HSM.out) (by omega) w1)
    have CI := Lib.hid (fun W (h0 : Below w.heap.size w W) b A c (h : W.ownsRow b 5 1 (.slice A xs.length c) xs.length (vb xs)) => implWith N a1 A xs.length c xs W (hw.below h0) (Rd.of_own h HSM.out) (by omega) w1)
    have HRS := Lib.hid (withX_small (N := N) HSM.out a1)
    have hrl := withX_len N xs a1
    generalize withN N xs = rN at CS CI
    generalize withX N xs a1 = rx at CS CI HRS hrl
    have CV := Lib.hid (fun W b b' A A' c c' (h1 : W.ownsRow b 5 1 (.slice A rx.length c) rx.length (vb rx)) (h2 : W.ownsRow b' 5 1 (.slice A' rx.length c') rx.length (vb rx)) => eqSet_is rN A A' c c' rx W (Rd.of_own h1 HRS.out) (Rd.of_own h2 HRS.out) (own_cap h1) (own_cap h2) (by omega))
    have CN := Lib.hid (fun W b A c (h : W.ownsRow b 5 1 (.slice A rx.length c) rx.length (vb rx)) => markSet_is rN A c b 1 rx W h (by omega) (by omega))
    have CH := Lib.hid (fun W b A c (h : W.ownsRow b 5 1 (.slice A rx.length c) rx.length (vb (marksK 1 rx.length))) => heldSet_is rN A rx.length c W (Rd.of_own h (marksK_small _ _)) (by omega))
    have hk3 : (0 : Int) ≤ ((1 + rx.length : Nat) : Int) := by omega
    unfold MarkedZ at CN
    generalize ((1 + rx.length : Nat) : Int) = kz at CN CH hk3
    have hk5 : (0 : Int) ≤ ((1 + xs.length : Nat) : Int) := by omega
    unfold MarkedZ at CM
    generalize ((1 + xs.length : Nat) : Int) = ka at CM hk5
    clear hin hb
    go_enter Tryd.func7, Tryd.ntmps7
    go_wp2_with fail
    refine (CZ.out _).mono ?_
    rintro e w1 ⟨rfl, hb⟩
    have B0_1 := Lib.hid ((Box2.new w (.int .i64 N) (.slice A xs.length c) 36).below hb)
    have H_2 := Lib.hid (s_chain (below_a1 w _) hb)
    have sz_3 : Hid (w.heap.size + 1 ≤ w1.heap.size) := Lib.hid (by have := hb.size; simpa using this)
    clear hb
    obtain ⟨l_4, l_4a, l_4b⟩ := B0_1.out
    go_wp2_with fail
    refine (CT.out _ H_2.out).mono ?_
    rintro e w2 ⟨Ap, cp, rfl, ho, hb⟩
    clear l_4 l_4a l_4b
    have B0_5 := Lib.hid (B0_1.out.below hb)
    clear B0_1
    have H_6 := Lib.hid (s_chain H_2.out hb)
    clear H_2
    have sz_7 := Lib.hid (Below.size hb)
    have RG_8 := Lib.hid (ho).lt
    have Xp_9 := Lib.hid (ho)
    clear ho hb
    go_wp2_with fail
    refine (CS.out _ H_6.out _ _ _ Xp_9.out).mono ?_
    rintro e w3 ⟨Aw, cw, rfl, ho, hb⟩
    have B0_10 := Lib.hid (B0_5.out.below hb)
    clear B0_5
    have H_11 := Lib.hid (s_chain H_6.out hb)
    clear H_6
    have sz_12 := Lib.hid (Below.size hb)
    have RG_13 := Lib.hid (ho).lt
    have Gw_14 := Lib.hid (ho)
    clear ho hb
    have hb := below_a1 w3 (.cells #[.int .i64 rN, .slice Aw rx.length cw] 24)
    have B0_15 := Lib.hid (B0_10.out.below hb)
    clear B0_10
    have H_16 := Lib.hid (s_chain H_11.out hb)
    clear H_11
    have Gw_17 := Lib.hid (own_below Gw_14.out hb)
    clear Gw_14
    have sz_18 := Lib.hid (Below.size hb)
    have GBw_19 := Lib.hid (Box2.new w3 (.int .i64 rN) (.slice Aw rx.length cw) 24)
    have sz_20 : Hid (w3.heap.size + 1 ≤ (w3.alloc (.cells #[.int .i64 rN, .slice Aw rx.length cw] 24)).heap.size) := Lib.hid (by simp)
    clear hb
    obtain ⟨l_21, l_21a, l_21b⟩ := B0_15.out
    go_wp2_with fail
    refine (CT.out _ H_16.out).mono ?_
    rintro e w4 ⟨Ax, cx, rfl, ho, hb⟩
    clear l_21 l_21a l_21b
    have B0_22 := Lib.hid (B0_15.out.below hb)
    clear B0_15
    have H_23 := Lib.hid (s_chain H_16.out hb)
    clear H_16
    have Gw_24 := Lib.hid (own_below Gw_17.out hb)
    clear Gw_17
    have GBw_25 := Lib.hid (GBw_19.out.below hb)
    clear GBw_19
    have sz_26 := Lib.hid (Below.size hb)
    have RG_27 := Lib.hid (ho).lt
    have Xx_28 := Lib.hid (ho)
    clear ho hb
    have hb := below_a1 w4 (.cells #[.int .i64 N, .slice Ax xs.length cx] 24)
    have B0_29 := Lib.hid (B0_22.out.below hb)
    clear B0_22
    have H_30 := Lib.hid (s_chain H_23.out hb)
    clear H_23
    have Gw_31 := Lib.hid (own_below Gw_24.out hb)
    clear Gw_24
    have GBw_32 := Lib.hid (GBw_25.out.below hb)
    clear GBw_25
    have Xx_33 := Lib.hid (own_below Xx_28.out hb)
    clear Xx_28
    have sz_34 := Lib.hid (Below.size hb)
    have XBx_35 := Lib.hid (Box2.new w4 (.int .i64 N) (.slice Ax xs.length cx) 24)
    have sz_36 : Hid (w4.heap.size + 1 ≤ (w4.alloc (.cells #[.int .i64 N, .slice Ax xs.length cx] 24)).heap.size) := Lib.hid (by simp)
    clear hb
    obtain ⟨l_37, l_37a, l_37b⟩ := XBx_35.out
    go_wp2_with fail
    refine (CI.out _ H_30.out _ _ _ Xx_33.out).mono ?_
    rintro e w5 ⟨Ag, cg, rfl, ho, hb⟩
    clear l_37 l_37a l_37b
    have B0_38 := Lib.hid (B0_29.out.below hb)
    clear B0_29
    have H_39 := Lib.hid (s_chain H_30.out hb)
    clear H_30
    have Gw_40 := Lib.hid (own_below Gw_31.out hb)
    clear Gw_31
    have GBw_41 := Lib.hid (GBw_32.out.below hb)
    clear GBw_32
    have Xx_42 := Lib.hid (own_below Xx_33.out hb)
    clear Xx_33
    have XBx_43 := Lib.hid (XBx_35.out.below hb)
    clear XBx_35
    have sz_44 := Lib.hid (Below.size hb)
    have RG_45 := Lib.hid (ho).lt
    have Gg_46 := Lib.hid (ho)
    clear ho hb
    have hb := below_a1 w5 (.cells #[.int .i64 rN, .slice Ag rx.length cg] 24)
    have B0_47 := Lib.hid (B0_38.out.below hb)
    clear B0_38
    have H_48 := Lib.hid (s_chain H_39.out hb)
    clear H_39
    have Gw_49 := Lib.hid (own_below Gw_40.out hb)
    clear Gw_40
    have GBw_50 := Lib.hid (GBw_41.out.below hb)
    clear GBw_41
    have Xx_51 := Lib.hid (own_below Xx_42.out hb)
    clear Xx_42
    have XBx_52 := Lib.hid (XBx_43.out.below hb)
    clear XBx_43
    have Gg_53 := Lib.hid (own_below Gg_46.out hb)
    clear Gg_46
    have sz_54 := Lib.hid (Below.size hb)
    have GBg_55 := Lib.hid (Box2.new w5 (.int .i64 rN) (.slice Ag rx.length cg) 24)
    have sz_56 : Hid (w5.heap.size + 1 ≤ (w5.alloc (.cells #[.int .i64 rN, .slice Ag rx.length cg] 24)).heap.size) := Lib.hid (by simp)
    clear hb
    obtain ⟨l_57, l_57a, l_57b⟩ := GBg_55.out
    obtain ⟨l_58, l_58a, l_58b⟩ := GBw_50.out
    go_wp2_with fail
    refine (CV.out _ _ _ _ _ _ _ Gg_53.out Gw_49.out).mono ?_
    rintro e w6 ⟨rfl, hb⟩
    clear l_57 l_57a l_57b
    clear l_58 l_58a l_58b
    have B0_59 := Lib.hid (B0_47.out.below hb)
    clear B0_47
    have H_60 := Lib.hid (s_chain H_48.out hb)
    clear H_48
    have Gw_61 := Lib.hid (own_below Gw_49.out hb)
    clear Gw_49
    have GBw_62 := Lib.hid (GBw_50.out.below hb)
    clear GBw_50
    have Xx_63 := Lib.hid (own_below Xx_51.out hb)
    clear Xx_51
    have XBx_64 := Lib.hid (XBx_52.out.below hb)
    clear XBx_52
    have Gg_65 := Lib.hid (own_below Gg_53.out hb)
    clear Gg_53
    have GBg_66 := Lib.hid (GBg_55.out.below hb)
    clear GBg_55
    have sz_67 := Lib.hid (Below.size hb)
    clear hb
    obtain ⟨l_68, l_68a, l_68b⟩ := B0_59.out
    obtain ⟨l_69, l_69a, l_69b⟩ := XBx_64.out
    go_wp2
    go_region_with (first
      | (go_at_call 25; ((with_reducible refine (CT.out _ (by first | exact H_60.out | exact H_60.out.drew | exact H_60.out.drew.drew)).mono ?_)); rintro e w7 ⟨A3, c3, rfl, ho3, hbg⟩; have HBG : Hid (Below w6.heap.size w6 w7) := Lib.hid (by first | exact hbg | exact ⟨hbg.os, hbg.tape, hbg.output, hbg.size, hbg.block⟩); obtain ⟨l2, c20, c21⟩ := (XBx_64.out.below HBG.out); have D5 := Lib.hid (own_below Xx_63.out HBG.out); have D6 := Lib.hid ho3)
      | (go_at_call 26; ((with_reducible refine (CE.out _ _ _ _ _ _ _ D5.out D6.out).mono ?_)); rintro e w8 ⟨rfl, hbh⟩))
    all_goals
      have HBH : Hid (Below w6.heap.size w6 w8) := Lib.hid (s_chain HBG.out hbh)
      have B0_70 := Lib.hid (B0_59.out.below HBH.out)
      clear B0_59
      have H_71 := Lib.hid (s_chain H_60.out HBH.out)
      clear H_60
      have Gw_72 := Lib.hid (own_below Gw_61.out HBH.out)
      clear Gw_61
      have GBw_73 := Lib.hid (GBw_62.out.below HBH.out)
      clear GBw_62
      have Xx_74 := Lib.hid (own_below Xx_63.out HBH.out)
      clear Xx_63
      have XBx_75 := Lib.hid (XBx_64.out.below HBH.out)
      clear XBx_64
      have Gg_76 := Lib.hid (own_below Gg_65.out HBH.out)
      clear Gg_65
      have GBg_77 := Lib.hid (GBg_66.out.below HBH.out)
      clear GBg_66
      have sz_78 := Lib.hid (Below.size HBH.out)
      clear l_68 l_68a l_68b
      clear l_69 l_69a l_69b
      clear l2 c20 c21 ho3 hbg hbh D5 D6 HBG HBH
      obtain ⟨l_79, l_79a, l_79b⟩ := XBx_75.out
      go_wp2_with fail
      refine (CM.out _ _ _ _ Xx_74.out).mono ?_
      rintro e w9 ⟨rfl, -, hg⟩
      clear l_79 l_79a l_79b
      have B0_80 := Lib.hid (B0_70.out.far hg RG_27.out (by have := sz_3.out; have := sz_7.out; have := sz_12.out; have := sz_18.out; have := sz_20.out; have := sz_26.out; have := sz_34.out; have := sz_36.out; have := sz_44.out; have := sz_54.out; have := sz_56.out; have := sz_67.out; have := sz_78.out; omega))
      clear B0_70
      have H_81 := Lib.hid (H_71.out.grown hg H_71.out.size (fun j hj => by have := RG_27.out j hj; have := sz_3.out; have := sz_7.out; have := sz_12.out; have := sz_18.out; have := sz_20.out; have := sz_26.out; have := sz_34.out; have := sz_36.out; have := sz_44.out; have := sz_54.out; have := sz_56.out; have := sz_67.out; have := sz_78.out; omega))
      clear H_71
      have Gw_82 := Lib.hid (own_far Gw_72.out hg RG_13.out RG_27.out (by have := sz_3.out; have := sz_7.out; have := sz_12.out; have := sz_18.out; have := sz_20.out; have := sz_26.out; have := sz_34.out; have := sz_36.out; have := sz_44.out; have := sz_54.out; have := sz_56.out; have := sz_67.out; have := sz_78.out; omega))
      clear Gw_72
      have GBw_83 := Lib.hid (GBw_73.out.far hg RG_27.out (by have := sz_3.out; have := sz_7.out; have := sz_12.out; have := sz_18.out; have := sz_20.out; have := sz_26.out; have := sz_34.out; have := sz_36.out; have := sz_44.out; have := sz_54.out; have := sz_56.out; have := sz_67.out; have := sz_78.out; omega))
      clear GBw_73
      have XBx_84 := Lib.hid (XBx_75.out.far hg RG_27.out (by have := sz_3.out; have := sz_7.out; have := sz_12.out; have := sz_18.out; have := sz_20.out; have := sz_26.out; have := sz_34.out; have := sz_36.out; have := sz_44.out; have := sz_54.out; have := sz_56.out; have := sz_67.out; have := sz_78.out; omega))
      clear XBx_75
      have Gg_85 := Lib.hid (own_far Gg_76.out hg RG_45.out RG_27.out (by have := sz_3.out; have := sz_7.out; have := sz_12.out; have := sz_18.out; have := sz_20.out; have := sz_26.out; have := sz_34.out; have := sz_36.out; have := sz_44.out; have := sz_54.out; have := sz_56.out; have := sz_67.out; have := sz_78.out; omega))
      clear Gg_76
      have GBg_86 := Lib.hid (GBg_77.out.far hg RG_27.out (by have := sz_3.out; have := sz_7.out; have := sz_12.out; have := sz_18.out; have := sz_20.out; have := sz_26.out; have := sz_34.out; have := sz_36.out; have := sz_44.out; have := sz_54.out; have := sz_56.out; have := sz_67.out; have := sz_78.out; omega))
      clear GBg_77
      have sz_87 := Lib.hid (World.grownBy.size hg)
      clear hg
      obtain ⟨l_88, l_88a, l_88b⟩ := GBg_86.out
      obtain ⟨l_89, l_89a, l_89b⟩ := GBw_83.out
      go_wp2_with fail
      refine (CV.out _ _ _ _ _ _ _ Gg_85.out Gw_82.out).mono ?_
      rintro e w10 ⟨rfl, hb⟩
      clear l_88 l_88a l_88b
      clear l_89 l_89a l_89b
      have B0_90 := Lib.hid (B0_80.out.below hb)
      clear B0_80
      have H_91 := Lib.hid (s_chain H_81.out hb)
      clear H_81
      have Gw_92 := Lib.hid (own_below Gw_82.out hb)
      clear Gw_82
      have GBw_93 := Lib.hid (GBw_83.out.below hb)
      clear GBw_83
      have Gg_94 := Lib.hid (own_below Gg_85.out hb)
      clear Gg_85
      have GBg_95 := Lib.hid (GBg_86.out.below hb)
      clear GBg_86
      have sz_96 := Lib.hid (Below.size hb)
      clear hb
      obtain ⟨l_97, l_97a, l_97b⟩ := GBg_95.out
      go_wp2_with fail
      refine (CN.out _ _ _ _ Gg_94.out).mono ?_
      rintro e w11 ⟨rfl, hmk, hg⟩
      clear l_97 l_97a l_97b
      have B0_98 := Lib.hid (B0_90.out.far hg RG_45.out (by have := sz_3.out; have := sz_7.out; have := sz_12.out; have := sz_18.out; have := sz_20.out; have := sz_26.out; have := sz_34.out; have := sz_36.out; have := sz_44.out; have := sz_54.out; have := sz_56.out; have := sz_67.out; have := sz_78.out; have := sz_87.out; have := sz_96.out; omega))
      clear B0_90
      have H_99 := Lib.hid (H_91.out.grown hg H_91.out.size (fun j hj => by have := RG_45.out j hj; have := sz_3.out; have := sz_7.out; have := sz_12.out; have := sz_18.out; have := sz_20.out; have := sz_26.out; have := sz_34.out; have := sz_36.out; have := sz_44.out; have := sz_54.out; have := sz_56.out; have := sz_67.out; have := sz_78.out; have := sz_87.out; have := sz_96.out; omega))
      clear H_91
      have Gw_100 := Lib.hid (own_far Gw_92.out hg RG_13.out RG_45.out (by have := sz_3.out; have := sz_7.out; have := sz_12.out; have := sz_18.out; have := sz_20.out; have := sz_26.out; have := sz_34.out; have := sz_36.out; have := sz_44.out; have := sz_54.out; have := sz_56.out; have := sz_67.out; have := sz_78.out; have := sz_87.out; have := sz_96.out; omega))
      clear Gw_92
      have GBw_101 := Lib.hid (GBw_93.out.far hg RG_45.out (by have := sz_3.out; have := sz_7.out; have := sz_12.out; have := sz_18.out; have := sz_20.out; have := sz_26.out; have := sz_34.out; have := sz_36.out; have := sz_44.out; have := sz_54.out; have := sz_56.out; have := sz_67.out; have := sz_78.out; have := sz_87.out; have := sz_96.out; omega))
      clear GBw_93
      have GBg_102 := Lib.hid (GBg_95.out.far hg RG_45.out (by have := sz_3.out; have := sz_7.out; have := sz_12.out; have := sz_18.out; have := sz_20.out; have := sz_26.out; have := sz_34.out; have := sz_36.out; have := sz_44.out; have := sz_54.out; have := sz_56.out; have := sz_67.out; have := sz_78.out; have := sz_87.out; have := sz_96.out; omega))
      clear GBg_95
      have sz_103 := Lib.hid (World.grownBy.size hg)
      have RG_104 := Lib.hid (hmk).lt
      have M_105 := Lib.hid (hmk)
      clear hg hmk
      obtain ⟨l_106, l_106a, l_106b⟩ := GBg_102.out
      go_wp2_with fail
      refine (CH.out _ _ _ _ M_105.out).mono ?_
      rintro e w12 ⟨rfl, hb⟩
      clear l_106 l_106a l_106b
      have B0_107 := Lib.hid (B0_98.out.below hb)
      clear B0_98
      have H_108 := Lib.hid (s_chain H_99.out hb)
      clear H_99
      have Gw_109 := Lib.hid (own_below Gw_100.out hb)
      clear Gw_100
      have GBw_110 := Lib.hid (GBw_101.out.below hb)
      clear GBw_101
      have GBg_111 := Lib.hid (GBg_102.out.below hb)
      clear GBg_102
      have M_112 := Lib.hid (own_below M_105.out hb)
      clear M_105
      have sz_113 := Lib.hid (Below.size hb)
      clear hb
      obtain ⟨l_114, l_114a, l_114b⟩ := B0_107.out
      go_wp2_with fail
      refine (CT.out _ H_108.out).mono ?_
      rintro e w13 ⟨Ay, cy, rfl, ho, hb⟩
      clear l_114 l_114a l_114b
      have B0_115 := Lib.hid (B0_107.out.below hb)
      clear B0_107
      have H_116 := Lib.hid (s_chain H_108.out hb)
      clear H_108
      have Gw_117 := Lib.hid (own_below Gw_109.out hb)
      clear Gw_109
      have GBw_118 := Lib.hid (GBw_110.out.below hb)
      clear GBw_110
      have GBg_119 := Lib.hid (GBg_111.out.below hb)
      clear GBg_111
      have M_120 := Lib.hid (own_below M_112.out hb)
      clear M_112
      have sz_121 := Lib.hid (Below.size hb)
      have RG_122 := Lib.hid (ho).lt
      have Xy_123 := Lib.hid (ho)
      clear ho hb
      go_wp2_with fail
      refine (CI.out _ H_116.out _ _ _ Xy_123.out).mono ?_
      rintro e w14 ⟨Ah, ch, rfl, ho, hb⟩
      have B0_124 := Lib.hid (B0_115.out.below hb)
      clear B0_115
      have H_125 := Lib.hid (s_chain H_116.out hb)
      clear H_116
      have Gw_126 := Lib.hid (own_below Gw_117.out hb)
      clear Gw_117
      have GBw_127 := Lib.hid (GBw_118.out.below hb)
      clear GBw_118
      have GBg_128 := Lib.hid (GBg_119.out.below hb)
      clear GBg_119
      have M_129 := Lib.hid (own_below M_120.out hb)
      clear M_120
      have sz_130 := Lib.hid (Below.size hb)
      have RG_131 := Lib.hid (ho).lt
      have Gh_132 := Lib.hid (ho)
      clear ho hb
      have hb := below_a1 w14 (.cells #[.int .i64 rN, .slice Ah rx.length ch] 24)
      have B0_133 := Lib.hid (B0_124.out.below hb)
      clear B0_124
      have H_134 := Lib.hid (s_chain H_125.out hb)
      clear H_125
      have Gw_135 := Lib.hid (own_below Gw_126.out hb)
      clear Gw_126
      have GBw_136 := Lib.hid (GBw_127.out.below hb)
      clear GBw_127
      have GBg_137 := Lib.hid (GBg_128.out.below hb)
      clear GBg_128
      have M_138 := Lib.hid (own_below M_129.out hb)
      clear M_129
      have Gh_139 := Lib.hid (own_below Gh_132.out hb)
      clear Gh_132
      have sz_140 := Lib.hid (Below.size hb)
      have GBh_141 := Lib.hid (Box2.new w14 (.int .i64 rN) (.slice Ah rx.length ch) 24)
      have sz_142 : Hid (w14.heap.size + 1 ≤ (w14.alloc (.cells #[.int .i64 rN, .slice Ah rx.length ch] 24)).heap.size) := Lib.hid (by simp)
      clear hb
      obtain ⟨l_143, l_143a, l_143b⟩ := GBh_141.out
      obtain ⟨l_144, l_144a, l_144b⟩ := GBw_136.out
      go_wp2_with fail
      refine (CV.out _ _ _ _ _ _ _ Gh_139.out Gw_135.out).mono ?_
      rintro e w15 ⟨rfl, hb⟩
      clear l_143 l_143a l_143b
      clear l_144 l_144a l_144b
      have B0_145 := Lib.hid (B0_133.out.below hb)
      clear B0_133
      have H_146 := Lib.hid (s_chain H_134.out hb)
      clear H_134
      have Gw_147 := Lib.hid (own_below Gw_135.out hb)
      clear Gw_135
      have GBw_148 := Lib.hid (GBw_136.out.below hb)
      clear GBw_136
      have GBg_149 := Lib.hid (GBg_137.out.below hb)
      clear GBg_137
      have M_150 := Lib.hid (own_below M_138.out hb)
      clear M_138
      have Gh_151 := Lib.hid (own_below Gh_139.out hb)
      clear Gh_139
      have GBh_152 := Lib.hid (GBh_141.out.below hb)
      clear GBh_141
      have sz_153 := Lib.hid (Below.size hb)
      clear hb
      obtain ⟨l_154, l_154a, l_154b⟩ := GBg_149.out
      go_wp2_with fail
      refine (CH.out _ _ _ _ M_150.out).mono ?_
      rintro e w16 ⟨rfl, hb⟩
      clear l_154 l_154a l_154b
      have B0_155 := Lib.hid (B0_145.out.below hb)
      clear B0_145
      have H_156 := Lib.hid (s_chain H_146.out hb)
      clear H_146
      have Gw_157 := Lib.hid (own_below Gw_147.out hb)
      clear Gw_147
      have GBw_158 := Lib.hid (GBw_148.out.below hb)
      clear GBw_148
      have GBg_159 := Lib.hid (GBg_149.out.below hb)
      clear GBg_149
      have M_160 := Lib.hid (own_below M_150.out hb)
      clear M_150
      have Gh_161 := Lib.hid (own_below Gh_151.out hb)
      clear Gh_151
      have GBh_162 := Lib.hid (GBh_152.out.below hb)
      clear GBh_152
      have sz_163 := Lib.hid (Below.size hb)
      clear hb
      go_wp2
      go_ret
      exact ⟨rfl, H_156.out⟩
  · rw [leftN_neg (by omega)] at CZ
    clear hin hb HW hw
    go_enter Tryd.func7, Tryd.ntmps7
    go_wp2_with fail
    refine (CZ.out _).mono ?_
    rintro e wa ⟨rfl, hba⟩
    go_wp2
    go_ret
    exact ⟨rfl, s_chain (below_a1 w _) hba⟩
end Go.Proofs.YtbkchmkhaapmaaaDoor
