/- The walk of the law FnExactMembers: it returns true and writes nothing that was there. -/
import Derived.Test.YtbkchmkhaapmaaaDoorSetArg
import Derived.Test.YtbkchmkhaapmaaaDoorSetHasI
import Derived.Test.YtbkchmkhaapmaaaDoorSetMemS
import Derived.Test.YtbkchmkhaapmaaaDoorLawInts
namespace Go.Proofs.YtbkchmkhaapmaaaDoor
open Go.RowKit
set_option linter.unusedVariables false

set_option maxRecDepth 20000 in
set_option maxHeartbeats 8000000 in
theorem walkMembers (N : Int) (A : Option Addr) (c : Nat) (xs : List Nat) (w : World) (hin : SetIn w N A c xs) (hw : Wts w) :
    Calls Tryd.prog 9 #[.agg #[.int .i64 N, .slice A xs.length c]] w fun e w' => e = .returned (.bool true) ∧ Below w.heap.size w w' := by
  have HW := Lib.hid hw
  have CZ := Lib.hid (fun W => szSet_any N A xs.length c 1048576 W hin.l (by omega) (by omega))
  by_cases hb : (xs.length : Int) ≤ 1048576
  · skip
    rw [leftN_pos hb] at CZ
    have hp : (0 : Int) ≤ 1048576 - (xs.length : Int) := by omega
    generalize (1048576 : Int) - (xs.length : Int) = q at CZ hp
    have hxn : xs.length ≤ 1048576 := by omega
    have HSM := Lib.hid hin.g.small
    have CT := Lib.hid (fun W (h : Below w.heap.size w W) => toSet_is N A c xs W (hin.g.below h) hin.cap (by omega))
    have CE := Lib.hid (fun W b b' A A' c c' (h1 : W.ownsRow b 5 1 (.slice A xs.length c) xs.length (vb xs)) (h2 : W.ownsRow b' 5 1 (.slice A' xs.length c') xs.length (vb xs)) => eqSet_is N A A' c c' xs W (Rd.of_own h1 HSM.out) (Rd.of_own h2 HSM.out) (own_cap h1) (own_cap h2) (by omega))
    have CM := Lib.hid (fun W b A c (h : W.ownsRow b 5 1 (.slice A xs.length c) xs.length (vb xs)) => markSet_is N A c b 1 xs W h (by omega) (by omega))
    have CS := Lib.hid (fun W (h0 : Below w.heap.size w W) b A c (h : W.ownsRow b 5 1 (.slice A xs.length c) xs.length (vb xs)) => specMembers N A xs.length c xs W (Rd.of_own h HSM.out) (by omega))
    have CI := Lib.hid (fun W (h0 : Below w.heap.size w W) b A c (h : W.ownsRow b 5 1 (.slice A xs.length c) xs.length (vb xs)) => implMembers N A xs.length c xs W (hw.below h0) (Rd.of_own h HSM.out) (by omega))
    have hrl := memsB_len N xs
    generalize memsB N xs = rs at CS CI hrl
    have CV := Lib.hid (fun W b b' A A' c c' (h1 : W.ownsRow b 3 1 (.slice A rs.length c) rs.length (vi rs)) (h2 : W.ownsRow b' 3 1 (.slice A' rs.length c') rs.length (vi rs)) => eqInts_any A A' rs.length c c' rs W (SlI.of_own h1) (SlI.of_own h2) (by omega))
    have CN := Lib.hid (fun W b A c (h : W.ownsRow b 3 1 (.slice A rs.length c) rs.length (vi rs)) => markInts_any A rs.length c b 1 rs W h (by omega) (by omega))
    have CH := Lib.hid (fun W b A c (h : W.ownsRow b 3 1 (.slice A rs.length c) rs.length (vi (ints 1 rs.length))) => heldN_any A rs.length c 1 W (SlI.of_own h) (by omega) (by omega))
    have hk3 : (0 : Int) ≤ ((1 + rs.length : Nat) : Int) := by omega
    unfold MarkedI at CN
    generalize hk4 : 1 + rs.length = kz at CN CH hk3
    clear hk4
    have hk5 : (0 : Int) ≤ ((1 + xs.length : Nat) : Int) := by omega
    unfold MarkedZ at CM
    generalize ((1 + xs.length : Nat) : Int) = ka at CM hk5
    clear hin hb
    go_enter Tryd.func9, Tryd.ntmps9
    go_wp2_with fail
    refine (CZ.out _).mono ?_
    rintro e w1 ⟨rfl, hb⟩
    have B0_1 := Lib.hid ((Box2.new w (.int .i64 N) (.slice A xs.length c) 36).below hb)
    have H_2 := Lib.hid (s_chain (below_a1 w _) hb)
    have sz_3 : Hid (w.heap.size + 1 ≤ w1.heap.size) := Lib.hid (by have := hb.size; simpa using this)
    clear hb
    obtain ⟨l_4, l_4a, l_4b⟩ := B0_1.out
    go_wp2_with fail
    refine (CT.out _ H_2.out).mono ?_
    rintro e w2 ⟨Ap, cp, rfl, ho, hb⟩
    clear l_4 l_4a l_4b
    have B0_5 := Lib.hid (B0_1.out.below hb)
    clear B0_1
    have H_6 := Lib.hid (s_chain H_2.out hb)
    clear H_2
    have sz_7 := Lib.hid (Below.size hb)
    have RG_8 := Lib.hid (ho).lt
    have Xp_9 := Lib.hid (ho)
    clear ho hb
    go_wp2_with fail
    refine (CS.out _ H_6.out _ _ _ Xp_9.out).mono ?_
    rintro e w3 ⟨Aw, cw, rfl, ho, hb⟩
    have B0_10 := Lib.hid (B0_5.out.below hb)
    clear B0_5
    have H_11 := Lib.hid (s_chain H_6.out hb)
    clear H_6
    have sz_12 := Lib.hid (Below.size hb)
    have RG_13 := Lib.hid (ho).lt
    have Gw_14 := Lib.hid (ho)
    clear ho hb
    obtain ⟨l_15, l_15a, l_15b⟩ := B0_10.out
    go_wp2_with fail
    refine (CT.out _ H_11.out).mono ?_
    rintro e w4 ⟨Ax, cx, rfl, ho, hb⟩
    clear l_15 l_15a l_15b
    have B0_16 := Lib.hid (B0_10.out.below hb)
    clear B0_10
    have H_17 := Lib.hid (s_chain H_11.out hb)
    clear H_11
    have Gw_18 := Lib.hid (own_below Gw_14.out hb)
    clear Gw_14
    have sz_19 := Lib.hid (Below.size hb)
    have RG_20 := Lib.hid (ho).lt
    have Xx_21 := Lib.hid (ho)
    clear ho hb
    have hb := below_a1 w4 (.cells #[.int .i64 N, .slice Ax xs.length cx] 24)
    have B0_22 := Lib.hid (B0_16.out.below hb)
    clear B0_16
    have H_23 := Lib.hid (s_chain H_17.out hb)
    clear H_17
    have Gw_24 := Lib.hid (own_below Gw_18.out hb)
    clear Gw_18
    have Xx_25 := Lib.hid (own_below Xx_21.out hb)
    clear Xx_21
    have sz_26 := Lib.hid (Below.size hb)
    have XBx_27 := Lib.hid (Box2.new w4 (.int .i64 N) (.slice Ax xs.length cx) 24)
    have sz_28 : Hid (w4.heap.size + 1 ≤ (w4.alloc (.cells #[.int .i64 N, .slice Ax xs.length cx] 24)).heap.size) := Lib.hid (by simp)
    clear hb
    obtain ⟨l_29, l_29a, l_29b⟩ := XBx_27.out
    go_wp2_with fail
    refine (CI.out _ H_23.out _ _ _ Xx_25.out).mono ?_
    rintro e w5 ⟨Ag, cg, rfl, ho, hb⟩
    clear l_29 l_29a l_29b
    have B0_30 := Lib.hid (B0_22.out.below hb)
    clear B0_22
    have H_31 := Lib.hid (s_chain H_23.out hb)
    clear H_23
    have Gw_32 := Lib.hid (own_below Gw_24.out hb)
    clear Gw_24
    have Xx_33 := Lib.hid (own_below Xx_25.out hb)
    clear Xx_25
    have XBx_34 := Lib.hid (XBx_27.out.below hb)
    clear XBx_27
    have sz_35 := Lib.hid (Below.size hb)
    have RG_36 := Lib.hid (ho).lt
    have Gg_37 := Lib.hid (ho)
    clear ho hb
    go_wp2_with fail
    refine (CV.out _ _ _ _ _ _ _ Gg_37.out Gw_32.out).mono ?_
    rintro e w6 ⟨rfl, hb⟩
    have B0_38 := Lib.hid (B0_30.out.below hb)
    clear B0_30
    have H_39 := Lib.hid (s_chain H_31.out hb)
    clear H_31
    have Gw_40 := Lib.hid (own_below Gw_32.out hb)
    clear Gw_32
    have Xx_41 := Lib.hid (own_below Xx_33.out hb)
    clear Xx_33
    have XBx_42 := Lib.hid (XBx_34.out.below hb)
    clear XBx_34
    have Gg_43 := Lib.hid (own_below Gg_37.out hb)
    clear Gg_37
    have sz_44 := Lib.hid (Below.size hb)
    clear hb
    obtain ⟨l_45, l_45a, l_45b⟩ := B0_38.out
    obtain ⟨l_46, l_46a, l_46b⟩ := XBx_42.out
    go_wp2
    go_region_with (first
      | (go_at_call 25; ((with_reducible refine (CT.out _ (by first | exact H_39.out | exact H_39.out.drew | exact H_39.out.drew.drew)).mono ?_)); rintro e w7 ⟨A3, c3, rfl, ho3, hbg⟩; have HBG : Hid (Below w6.heap.size w6 w7) := Lib.hid (by first | exact hbg | exact ⟨hbg.os, hbg.tape, hbg.output, hbg.size, hbg.block⟩); obtain ⟨l2, c20, c21⟩ := (XBx_42.out.below HBG.out); have D5 := Lib.hid (own_below Xx_41.out HBG.out); have D6 := Lib.hid ho3)
      | (go_at_call 26; ((with_reducible refine (CE.out _ _ _ _ _ _ _ D5.out D6.out).mono ?_)); rintro e w8 ⟨rfl, hbh⟩))
    all_goals
      have HBH : Hid (Below w6.heap.size w6 w8) := Lib.hid (s_chain HBG.out hbh)
      have B0_47 := Lib.hid (B0_38.out.below HBH.out)
      clear B0_38
      have H_48 := Lib.hid (s_chain H_39.out HBH.out)
      clear H_39
      have Gw_49 := Lib.hid (own_below Gw_40.out HBH.out)
      clear Gw_40
      have Xx_50 := Lib.hid (own_below Xx_41.out HBH.out)
      clear Xx_41
      have XBx_51 := Lib.hid (XBx_42.out.below HBH.out)
      clear XBx_42
      have Gg_52 := Lib.hid (own_below Gg_43.out HBH.out)
      clear Gg_43
      have sz_53 := Lib.hid (Below.size HBH.out)
      clear l_45 l_45a l_45b
      clear l_46 l_46a l_46b
      clear l2 c20 c21 ho3 hbg hbh D5 D6 HBG HBH
      obtain ⟨l_54, l_54a, l_54b⟩ := XBx_51.out
      go_wp2_with fail
      refine (CM.out _ _ _ _ Xx_50.out).mono ?_
      rintro e w9 ⟨rfl, -, hg⟩
      clear l_54 l_54a l_54b
      have B0_55 := Lib.hid (B0_47.out.far hg RG_20.out (by have := sz_3.out; have := sz_7.out; have := sz_12.out; have := sz_19.out; have := sz_26.out; have := sz_28.out; have := sz_35.out; have := sz_44.out; have := sz_53.out; omega))
      clear B0_47
      have H_56 := Lib.hid (H_48.out.grown hg H_48.out.size (fun j hj => by have := RG_20.out j hj; have := sz_3.out; have := sz_7.out; have := sz_12.out; have := sz_19.out; have := sz_26.out; have := sz_28.out; have := sz_35.out; have := sz_44.out; have := sz_53.out; omega))
      clear H_48
      have Gw_57 := Lib.hid (own_far Gw_49.out hg RG_13.out RG_20.out (by have := sz_3.out; have := sz_7.out; have := sz_12.out; have := sz_19.out; have := sz_26.out; have := sz_28.out; have := sz_35.out; have := sz_44.out; have := sz_53.out; omega))
      clear Gw_49
      have XBx_58 := Lib.hid (XBx_51.out.far hg RG_20.out (by have := sz_3.out; have := sz_7.out; have := sz_12.out; have := sz_19.out; have := sz_26.out; have := sz_28.out; have := sz_35.out; have := sz_44.out; have := sz_53.out; omega))
      clear XBx_51
      have Gg_59 := Lib.hid (own_far Gg_52.out hg RG_36.out RG_20.out (by have := sz_3.out; have := sz_7.out; have := sz_12.out; have := sz_19.out; have := sz_26.out; have := sz_28.out; have := sz_35.out; have := sz_44.out; have := sz_53.out; omega))
      clear Gg_52
      have sz_60 := Lib.hid (World.grownBy.size hg)
      clear hg
      go_wp2_with fail
      refine (CV.out _ _ _ _ _ _ _ Gg_59.out Gw_57.out).mono ?_
      rintro e w10 ⟨rfl, hb⟩
      have B0_61 := Lib.hid (B0_55.out.below hb)
      clear B0_55
      have H_62 := Lib.hid (s_chain H_56.out hb)
      clear H_56
      have Gw_63 := Lib.hid (own_below Gw_57.out hb)
      clear Gw_57
      have Gg_64 := Lib.hid (own_below Gg_59.out hb)
      clear Gg_59
      have sz_65 := Lib.hid (Below.size hb)
      clear hb
      go_wp2_with fail
      refine (CN.out _ _ _ _ Gg_64.out).mono ?_
      rintro e w11 ⟨rfl, hmk, hg⟩
      have B0_66 := Lib.hid (B0_61.out.far hg RG_36.out (by have := sz_3.out; have := sz_7.out; have := sz_12.out; have := sz_19.out; have := sz_26.out; have := sz_28.out; have := sz_35.out; have := sz_44.out; have := sz_53.out; have := sz_60.out; have := sz_65.out; omega))
      clear B0_61
      have H_67 := Lib.hid (H_62.out.grown hg H_62.out.size (fun j hj => by have := RG_36.out j hj; have := sz_3.out; have := sz_7.out; have := sz_12.out; have := sz_19.out; have := sz_26.out; have := sz_28.out; have := sz_35.out; have := sz_44.out; have := sz_53.out; have := sz_60.out; have := sz_65.out; omega))
      clear H_62
      have Gw_68 := Lib.hid (own_far Gw_63.out hg RG_13.out RG_36.out (by have := sz_3.out; have := sz_7.out; have := sz_12.out; have := sz_19.out; have := sz_26.out; have := sz_28.out; have := sz_35.out; have := sz_44.out; have := sz_53.out; have := sz_60.out; have := sz_65.out; omega))
      clear Gw_63
      have sz_69 := Lib.hid (World.grownBy.size hg)
      have RG_70 := Lib.hid (hmk).lt
      have M_71 := Lib.hid (hmk)
      clear hg hmk
      go_wp2_with fail
      refine (CH.out _ _ _ _ M_71.out).mono ?_
      rintro e w12 ⟨rfl, hb⟩
      have B0_72 := Lib.hid (B0_66.out.below hb)
      clear B0_66
      have H_73 := Lib.hid (s_chain H_67.out hb)
      clear H_67
      have Gw_74 := Lib.hid (own_below Gw_68.out hb)
      clear Gw_68
      have M_75 := Lib.hid (own_below M_71.out hb)
      clear M_71
      have sz_76 := Lib.hid (Below.size hb)
      clear hb
      obtain ⟨l_77, l_77a, l_77b⟩ := B0_72.out
      go_wp2_with fail
      refine (CT.out _ H_73.out).mono ?_
      rintro e w13 ⟨Ay, cy, rfl, ho, hb⟩
      clear l_77 l_77a l_77b
      have B0_78 := Lib.hid (B0_72.out.below hb)
      clear B0_72
      have H_79 := Lib.hid (s_chain H_73.out hb)
      clear H_73
      have Gw_80 := Lib.hid (own_below Gw_74.out hb)
      clear Gw_74
      have M_81 := Lib.hid (own_below M_75.out hb)
      clear M_75
      have sz_82 := Lib.hid (Below.size hb)
      have RG_83 := Lib.hid (ho).lt
      have Xy_84 := Lib.hid (ho)
      clear ho hb
      go_wp2_with fail
      refine (CI.out _ H_79.out _ _ _ Xy_84.out).mono ?_
      rintro e w14 ⟨Ah, ch, rfl, ho, hb⟩
      have B0_85 := Lib.hid (B0_78.out.below hb)
      clear B0_78
      have H_86 := Lib.hid (s_chain H_79.out hb)
      clear H_79
      have Gw_87 := Lib.hid (own_below Gw_80.out hb)
      clear Gw_80
      have M_88 := Lib.hid (own_below M_81.out hb)
      clear M_81
      have sz_89 := Lib.hid (Below.size hb)
      have RG_90 := Lib.hid (ho).lt
      have Gh_91 := Lib.hid (ho)
      clear ho hb
      go_wp2_with fail
      refine (CV.out _ _ _ _ _ _ _ Gh_91.out Gw_87.out).mono ?_
      rintro e w15 ⟨rfl, hb⟩
      have B0_92 := Lib.hid (B0_85.out.below hb)
      clear B0_85
      have H_93 := Lib.hid (s_chain H_86.out hb)
      clear H_86
      have Gw_94 := Lib.hid (own_below Gw_87.out hb)
      clear Gw_87
      have M_95 := Lib.hid (own_below M_88.out hb)
      clear M_88
      have Gh_96 := Lib.hid (own_below Gh_91.out hb)
      clear Gh_91
      have sz_97 := Lib.hid (Below.size hb)
      clear hb
      go_wp2_with fail
      refine (CH.out _ _ _ _ M_95.out).mono ?_
      rintro e w16 ⟨rfl, hb⟩
      have B0_98 := Lib.hid (B0_92.out.below hb)
      clear B0_92
      have H_99 := Lib.hid (s_chain H_93.out hb)
      clear H_93
      have Gw_100 := Lib.hid (own_below Gw_94.out hb)
      clear Gw_94
      have M_101 := Lib.hid (own_below M_95.out hb)
      clear M_95
      have Gh_102 := Lib.hid (own_below Gh_96.out hb)
      clear Gh_96
      have sz_103 := Lib.hid (Below.size hb)
      clear hb
      go_wp2
      go_ret
      exact ⟨rfl, H_99.out⟩
  · rw [leftN_neg (by omega)] at CZ
    clear hin hb HW hw
    go_enter Tryd.func9, Tryd.ntmps9
    go_wp2_with fail
    refine (CZ.out _).mono ?_
    rintro e wa ⟨rfl, hba⟩
    go_wp2
    go_ret
    exact ⟨rfl, s_chain (below_a1 w _) hba⟩
end Go.Proofs.YtbkchmkhaapmaaaDoor
