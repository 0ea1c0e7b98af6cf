/- The walk of the law FnExactSetNew: it returns true and writes nothing that was there. -/
import Derived.Test.YtbkchmkhaapmaaaDoorSetArg
import Derived.Test.YtbkchmkhaapmaaaDoorSetNewI
import Derived.Test.YtbkchmkhaapmaaaDoorSetNewS
namespace Go.Proofs.YtbkchmkhaapmaaaDoor
open Go.RowKit
set_option linter.unusedVariables false

set_option maxRecDepth 20000 in
set_option maxHeartbeats 8000000 in
theorem walkSetNew (a0 : Int) (a1 : Bool) (w : World) (w0 : (Lit.int .i64 a0).wf = true) (hw : Wts w) :
    Calls Tryd.prog 5 #[.int .i64 a0, .bool a1] w fun e w' => e = .returned (.bool true) ∧ Below w.heap.size w w' := by
  have HW := Lib.hid hw
  have CS := Lib.hid (fun W (h0 : Below w.heap.size w W) => specSetNew a0 a1 W w0)
  have CI := Lib.hid (fun W (h0 : Below w.heap.size w W) => implSetNew a0 a1 W (hw.below h0) w0)
  have HRS := Lib.hid (newX_small a0 a1)
  have hrl := newX_len a0 a1
  generalize newN a0 = rN at CS CI
  generalize newB a0 = rb at CS CI
  generalize newX a0 a1 = rx at CS CI HRS hrl
  have CV := Lib.hid (fun W b b' A A' c c' (h1 : W.ownsRow b 5 1 (.slice A rx.length c) rx.length (vb rx)) (h2 : W.ownsRow b' 5 1 (.slice A' rx.length c') rx.length (vb rx)) => eqSet_is rN A A' c c' rx W (Rd.of_own h1 HRS.out) (Rd.of_own h2 HRS.out) (own_cap h1) (own_cap h2) (by omega))
  have CN := Lib.hid (fun W b A c (h : W.ownsRow b 5 1 (.slice A rx.length c) rx.length (vb rx)) => markSet_is rN A c b 1 rx W h (by omega) (by omega))
  have CH := Lib.hid (fun W b A c (h : W.ownsRow b 5 1 (.slice A rx.length c) rx.length (vb (marksK 1 rx.length))) => heldSet_is rN A rx.length c W (Rd.of_own h (marksK_small _ _)) (by omega))
  have hk3 : (0 : Int) ≤ ((1 + rx.length : Nat) : Int) := by omega
  unfold MarkedZ at CN
  generalize ((1 + rx.length : Nat) : Int) = kz at CN CH hk3
  have hrb : (rb == rb) = true := by simp
  have hrb2 : (rb != rb) = false := by simp
  go_enter Tryd.func5, Tryd.ntmps5
  have H_1 := Lib.hid (Below.refl w.heap.size w)
  go_wp2_with fail
  refine (CS.out _ H_1.out ).mono ?_
  rintro e w1 ⟨Aw, cw, rfl, ho, hb⟩
  have H_2 := Lib.hid (s_chain H_1.out hb)
  clear H_1
  have sz_3 := Lib.hid (Below.size hb)
  have RG_4 := Lib.hid (ho).lt
  have Gw_5 := Lib.hid (ho)
  clear ho hb
  have hb := below_a1 w1 (.cells #[.int .i64 rN, .slice Aw rx.length cw] 24)
  have H_6 := Lib.hid (s_chain H_2.out hb)
  clear H_2
  have Gw_7 := Lib.hid (own_below Gw_5.out hb)
  clear Gw_5
  have sz_8 := Lib.hid (Below.size hb)
  have GBw_9 := Lib.hid (Box2.new w1 (.int .i64 rN) (.slice Aw rx.length cw) 24)
  have sz_10 : Hid (w1.heap.size + 1 ≤ (w1.alloc (.cells #[.int .i64 rN, .slice Aw rx.length cw] 24)).heap.size) := Lib.hid (by simp)
  clear hb
  go_wp2_with fail
  refine (CI.out _ H_6.out ).mono ?_
  rintro e w2 ⟨Ag, cg, rfl, ho, hb⟩
  have H_11 := Lib.hid (s_chain H_6.out hb)
  clear H_6
  have Gw_12 := Lib.hid (own_below Gw_7.out hb)
  clear Gw_7
  have GBw_13 := Lib.hid (GBw_9.out.below hb)
  clear GBw_9
  have sz_14 := Lib.hid (Below.size hb)
  have RG_15 := Lib.hid (ho).lt
  have Gg_16 := Lib.hid (ho)
  clear ho hb
  have hb := below_a1 w2 (.cells #[.int .i64 rN, .slice Ag rx.length cg] 24)
  have H_17 := Lib.hid (s_chain H_11.out hb)
  clear H_11
  have Gw_18 := Lib.hid (own_below Gw_12.out hb)
  clear Gw_12
  have GBw_19 := Lib.hid (GBw_13.out.below hb)
  clear GBw_13
  have Gg_20 := Lib.hid (own_below Gg_16.out hb)
  clear Gg_16
  have sz_21 := Lib.hid (Below.size hb)
  have GBg_22 := Lib.hid (Box2.new w2 (.int .i64 rN) (.slice Ag rx.length cg) 24)
  have sz_23 : Hid (w2.heap.size + 1 ≤ (w2.alloc (.cells #[.int .i64 rN, .slice Ag rx.length cg] 24)).heap.size) := Lib.hid (by simp)
  clear hb
  obtain ⟨l_24, l_24a, l_24b⟩ := GBg_22.out
  obtain ⟨l_25, l_25a, l_25b⟩ := GBw_19.out
  go_wp2_with fail
  refine (CV.out _ _ _ _ _ _ _ Gg_20.out Gw_18.out).mono ?_
  rintro e w3 ⟨rfl, hb⟩
  clear l_24 l_24a l_24b
  clear l_25 l_25a l_25b
  have H_26 := Lib.hid (s_chain H_17.out hb)
  clear H_17
  have Gw_27 := Lib.hid (own_below Gw_18.out hb)
  clear Gw_18
  have GBw_28 := Lib.hid (GBw_19.out.below hb)
  clear GBw_19
  have Gg_29 := Lib.hid (own_below Gg_20.out hb)
  clear Gg_20
  have GBg_30 := Lib.hid (GBg_22.out.below hb)
  clear GBg_22
  have sz_31 := Lib.hid (Below.size hb)
  clear hb
  obtain ⟨l_32, l_32a, l_32b⟩ := GBg_30.out
  go_wp2_with fail
  refine (CN.out _ _ _ _ Gg_29.out).mono ?_
  rintro e w4 ⟨rfl, hmk, hg⟩
  clear l_32 l_32a l_32b
  have H_33 := Lib.hid (H_26.out.grown hg H_26.out.size (fun j hj => by have := RG_15.out j hj; have := sz_3.out; have := sz_8.out; have := sz_10.out; have := sz_14.out; have := sz_21.out; have := sz_23.out; have := sz_31.out; omega))
  clear H_26
  have Gw_34 := Lib.hid (own_far Gw_27.out hg RG_4.out RG_15.out (by have := sz_3.out; have := sz_8.out; have := sz_10.out; have := sz_14.out; have := sz_21.out; have := sz_23.out; have := sz_31.out; omega))
  clear Gw_27
  have GBw_35 := Lib.hid (GBw_28.out.far hg RG_15.out (by have := sz_3.out; have := sz_8.out; have := sz_10.out; have := sz_14.out; have := sz_21.out; have := sz_23.out; have := sz_31.out; omega))
  clear GBw_28
  have GBg_36 := Lib.hid (GBg_30.out.far hg RG_15.out (by have := sz_3.out; have := sz_8.out; have := sz_10.out; have := sz_14.out; have := sz_21.out; have := sz_23.out; have := sz_31.out; omega))
  clear GBg_30
  have sz_37 := Lib.hid (World.grownBy.size hg)
  have RG_38 := Lib.hid (hmk).lt
  have M_39 := Lib.hid (hmk)
  clear hg hmk
  obtain ⟨l_40, l_40a, l_40b⟩ := GBg_36.out
  go_wp2_with fail
  refine (CH.out _ _ _ _ M_39.out).mono ?_
  rintro e w5 ⟨rfl, hb⟩
  clear l_40 l_40a l_40b
  have H_41 := Lib.hid (s_chain H_33.out hb)
  clear H_33
  have Gw_42 := Lib.hid (own_below Gw_34.out hb)
  clear Gw_34
  have GBw_43 := Lib.hid (GBw_35.out.below hb)
  clear GBw_35
  have GBg_44 := Lib.hid (GBg_36.out.below hb)
  clear GBg_36
  have M_45 := Lib.hid (own_below M_39.out hb)
  clear M_39
  have sz_46 := Lib.hid (Below.size hb)
  clear hb
  go_wp2_with fail
  refine (CI.out _ H_41.out ).mono ?_
  rintro e w6 ⟨Ah, ch, rfl, ho, hb⟩
  have H_47 := Lib.hid (s_chain H_41.out hb)
  clear H_41
  have Gw_48 := Lib.hid (own_below Gw_42.out hb)
  clear Gw_42
  have GBw_49 := Lib.hid (GBw_43.out.below hb)
  clear GBw_43
  have GBg_50 := Lib.hid (GBg_44.out.below hb)
  clear GBg_44
  have M_51 := Lib.hid (own_below M_45.out hb)
  clear M_45
  have sz_52 := Lib.hid (Below.size hb)
  have RG_53 := Lib.hid (ho).lt
  have Gh_54 := Lib.hid (ho)
  clear ho hb
  have hb := below_a1 w6 (.cells #[.int .i64 rN, .slice Ah rx.length ch] 24)
  have H_55 := Lib.hid (s_chain H_47.out hb)
  clear H_47
  have Gw_56 := Lib.hid (own_below Gw_48.out hb)
  clear Gw_48
  have GBw_57 := Lib.hid (GBw_49.out.below hb)
  clear GBw_49
  have GBg_58 := Lib.hid (GBg_50.out.below hb)
  clear GBg_50
  have M_59 := Lib.hid (own_below M_51.out hb)
  clear M_51
  have Gh_60 := Lib.hid (own_below Gh_54.out hb)
  clear Gh_54
  have sz_61 := Lib.hid (Below.size hb)
  have GBh_62 := Lib.hid (Box2.new w6 (.int .i64 rN) (.slice Ah rx.length ch) 24)
  have sz_63 : Hid (w6.heap.size + 1 ≤ (w6.alloc (.cells #[.int .i64 rN, .slice Ah rx.length ch] 24)).heap.size) := Lib.hid (by simp)
  clear hb
  obtain ⟨l_64, l_64a, l_64b⟩ := GBh_62.out
  obtain ⟨l_65, l_65a, l_65b⟩ := GBw_57.out
  go_wp2_with fail
  refine (CV.out _ _ _ _ _ _ _ Gh_60.out Gw_56.out).mono ?_
  rintro e w7 ⟨rfl, hb⟩
  clear l_64 l_64a l_64b
  clear l_65 l_65a l_65b
  have H_66 := Lib.hid (s_chain H_55.out hb)
  clear H_55
  have Gw_67 := Lib.hid (own_below Gw_56.out hb)
  clear Gw_56
  have GBw_68 := Lib.hid (GBw_57.out.below hb)
  clear GBw_57
  have GBg_69 := Lib.hid (GBg_58.out.below hb)
  clear GBg_58
  have M_70 := Lib.hid (own_below M_59.out hb)
  clear M_59
  have Gh_71 := Lib.hid (own_below Gh_60.out hb)
  clear Gh_60
  have GBh_72 := Lib.hid (GBh_62.out.below hb)
  clear GBh_62
  have sz_73 := Lib.hid (Below.size hb)
  clear hb
  obtain ⟨l_74, l_74a, l_74b⟩ := GBg_69.out
  go_wp2_with fail
  refine (CH.out _ _ _ _ M_70.out).mono ?_
  rintro e w8 ⟨rfl, hb⟩
  clear l_74 l_74a l_74b
  have H_75 := Lib.hid (s_chain H_66.out hb)
  clear H_66
  have Gw_76 := Lib.hid (own_below Gw_67.out hb)
  clear Gw_67
  have GBw_77 := Lib.hid (GBw_68.out.below hb)
  clear GBw_68
  have GBg_78 := Lib.hid (GBg_69.out.below hb)
  clear GBg_69
  have M_79 := Lib.hid (own_below M_70.out hb)
  clear M_70
  have Gh_80 := Lib.hid (own_below Gh_71.out hb)
  clear Gh_71
  have GBh_81 := Lib.hid (GBh_72.out.below hb)
  clear GBh_72
  have sz_82 := Lib.hid (Below.size hb)
  clear hb
  go_wp2
  go_ret
  exact ⟨rfl, H_75.out⟩
end Go.Proofs.YtbkchmkhaapmaaaDoor
