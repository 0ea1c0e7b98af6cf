/- The walk of the law FnExactShardBytes: it returns true and writes nothing that was there. -/
import Derived.Test.YtmbabbapcjphgaaPackRes
import Derived.Test.YtmbabbapcjphgaaSBytesI
import Derived.Test.YtmbabbapcjphgaaCSC
import Derived.Test.YtmbabbapcjphgaaCSB
import Derived.Test.YtmbabbapcjphgaaCSA
namespace Go.Proofs.Ytmbabbapcjphgaa
open Go.RowKit

set_option maxRecDepth 20000 in
set_option maxHeartbeats 8000000 in
theorem walkShardBytes (lo hi : Int) (A : Option Addr) (n c : Nat) (es : List KE) (w : World) (hin : ShIn w lo hi A n c es) :
    Calls Try.prog 6 #[.agg #[.int .i64 lo, .int .i64 hi, .slice A n c]] w fun e w' => e = .returned (.bool true) ∧ Below w.heap.size w w' := by
  have CZ := Lib.hid (fun W => szShard_any lo hi A n c 1048576 W hin.l (by omega) (by omega))
  have HS := Lib.hid hin.g
  by_cases hb : (n : Int) ≤ 1048576
  · skip
    rw [leftG_pos hb] at CZ
    have hp : (0 : Int) ≤ 1048576 - (n : Int) := by omega
    generalize (1048576 : Int) - (n : Int) = q at CZ hp
    have CT := Lib.hid (fun W (h : Below w.heap.size w W) => toShard_any lo hi A n c es W (HS.out.below h) (by omega))
    have hel := hin.g.len
    have hxn : es.length ≤ 1048576 := by omega
    have CE := Lib.hid (fun W A c A' c' (h1 : SlK W A es.length es) (h2 : SlK W A' es.length es) => eqShard_any lo hi A A' es.length c c' es W h1 h2 (by omega))
    have CM := Lib.hid (fun W b A c (h : W.ownsRow b 77 5 (.slice A es.length c) es.length (es.flatMap KE.cells)) => markShard_any lo hi A es.length c b 1 es W h rfl (by omega) (by omega))
    have CS := Lib.hid (fun W A c (h : SlK W A es.length es) => specShardBytes lo hi A es.length c es W h hxn)
    have CI := Lib.hid (fun W A c (h : SlK W A es.length es) => implShardBytes lo hi A es.length c es W h hxn)
    have HSM : Hid (∀ b ∈ (shardY lo hi es), b < 256) := Lib.hid (shardY_small lo hi es)
    have hyl : ((shardY lo hi es)).length ≤ 11221 := shardY_len lo hi es
    generalize (shardY lo hi es) = ys at CS CI HSM hyl
    generalize (shardB lo hi es) = rb at CS CI
    have CV := Lib.hid (fun W A A' c c' (h1 : Rd W A ys.length ys) (h2 : Rd W A' ys.length ys) => eqY_any A A' ys.length c c' ys W h1 h2 (by omega))
    have CN := Lib.hid (fun W b A c (h : W.ownsRow b 5 1 (.slice A ys.length c) ys.length (vb ys)) => mark_any A ys.length c b ys W h (by omega))
    have CH := Lib.hid (fun W A c (h : Rd W A ys.length (marks ys.length)) => heldY_any A ys.length c W h (by omega))
    have hrb : (rb == rb) = true := by simp
    unfold Marked5 at CM
    have hk5 : (0 : Int) ≤ ((1 + 5 * es.length : Nat) : Int) := by omega
    generalize 1 + 5 * es.length = ka at CM hk5
    clear hin hb hel
    go_enter Try.func6, Try.ntmps6
    go_wp2_with fail
    refine (CZ.out _).mono ?_
    rintro e w1 ⟨rfl, hb⟩
    have B0_1 := Lib.hid ((HBox.new w lo hi A n c 30).below hb)
    have H_2 := Lib.hid (g_chain (below_a1 w _) hb)
    have sz_3 : Hid (w.heap.size + 1 ≤ w1.heap.size) := Lib.hid (by have := hb.size; simpa using this)
    clear hb
    obtain ⟨l_4, l_4a, l_4b, l_4c⟩ := B0_1.out
    go_wp2_with fail
    refine (CT.out _ H_2.out).mono ?_
    rintro e w2 ⟨Ap, cp, rfl, ho, hb⟩
    clear l_4 l_4a l_4b l_4c
    have B0_5 := Lib.hid (B0_1.out.below hb)
    clear B0_1
    have H_6 := Lib.hid (g_chain H_2.out hb)
    clear H_2
    have sz_7 := Lib.hid (Below.size hb)
    have Tp_8 := Lib.hid (SlK.of_own ho rfl)
    clear ho hb
    go_wp2_with fail
    refine (CS.out _ _ _ Tp_8.out).mono ?_
    rintro e w3 ⟨Aw, cw, rfl, ho, hb⟩
    have B0_9 := Lib.hid (B0_5.out.below hb)
    clear B0_5
    have H_10 := Lib.hid (g_chain H_6.out hb)
    clear H_6
    have sz_11 := Lib.hid (Below.size hb)
    have RG_12 := Lib.hid ho.lt
    have G_13 := Lib.hid ho
    clear ho hb
    obtain ⟨l_14, l_14a, l_14b, l_14c⟩ := B0_9.out
    go_wp2_with fail
    refine (CT.out _ H_10.out).mono ?_
    rintro e w4 ⟨Ax, cx, rfl, ho, hb⟩
    clear l_14 l_14a l_14b l_14c
    have B0_15 := Lib.hid (B0_9.out.below hb)
    clear B0_9
    have H_16 := Lib.hid (g_chain H_10.out hb)
    clear H_10
    have Gw_17 := Lib.hid (own_below G_13.out hb)
    clear G_13
    have sz_18 := Lib.hid (Below.size hb)
    have RX_19 := Lib.hid ho.lt
    have XO_20 := Lib.hid ho
    clear ho hb
    have hb := below_a1 w4 (.cells #[.int .i64 lo, .int .i64 hi, .slice Ax es.length cx] 35)
    have B0_21 := Lib.hid (B0_15.out.below hb)
    clear B0_15
    have H_22 := Lib.hid (g_chain H_16.out hb)
    clear H_16
    have Gw_23 := Lib.hid (own_below Gw_17.out hb)
    clear Gw_17
    have XOx_24 := Lib.hid (own_below XO_20.out hb)
    clear XO_20
    have sz_25 : Hid (w4.heap.size + 1 ≤ (w4.alloc (.cells #[.int .i64 lo, .int .i64 hi, .slice Ax es.length cx] 35)).heap.size) := Lib.hid (by simp)
    have XBx_26 := Lib.hid (HBox.new w4 lo hi Ax es.length cx 35)
    clear hb
    obtain ⟨l_27, l_27a, l_27b, l_27c⟩ := XBx_26.out
    go_wp2_with fail
    refine (CI.out _ _ _ (SlK.of_own XOx_24.out rfl)).mono ?_
    rintro e w5 ⟨Ag, cg, rfl, ho, hb⟩
    clear l_27 l_27a l_27b l_27c
    have B0_28 := Lib.hid (B0_21.out.below hb)
    clear B0_21
    have H_29 := Lib.hid (g_chain H_22.out hb)
    clear H_22
    have Gw_30 := Lib.hid (own_below Gw_23.out hb)
    clear Gw_23
    have XOx_31 := Lib.hid (own_below XOx_24.out hb)
    clear XOx_24
    have XBx_32 := Lib.hid (XBx_26.out.below hb)
    clear XBx_26
    have sz_33 := Lib.hid (Below.size hb)
    have RG_34 := Lib.hid ho.lt
    have G_35 := Lib.hid ho
    clear ho hb
    go_wp2_with fail
    refine (CV.out _ _ _ _ _ (Rd.of_own G_35.out HSM.out) (Rd.of_own Gw_30.out HSM.out)).mono ?_
    rintro e w6 ⟨rfl, hb⟩
    have B0_36 := Lib.hid (B0_28.out.below hb)
    clear B0_28
    have H_37 := Lib.hid (g_chain H_29.out hb)
    clear H_29
    have Gw_38 := Lib.hid (own_below Gw_30.out hb)
    clear Gw_30
    have XOx_39 := Lib.hid (own_below XOx_31.out hb)
    clear XOx_31
    have XBx_40 := Lib.hid (XBx_32.out.below hb)
    clear XBx_32
    have Gg_41 := Lib.hid (own_below G_35.out hb)
    clear G_35
    have sz_42 := Lib.hid (Below.size hb)
    clear hb
    obtain ⟨l_43, l_43a, l_43b, l_43c⟩ := B0_36.out
    obtain ⟨l_44, l_44a, l_44b, l_44c⟩ := XBx_40.out
    go_wp2
    go_region_with (first
      | (go_at_call 17; ((with_reducible refine (CT.out _ (by first | exact H_37.out | exact H_37.out.drew | exact H_37.out.drew.drew)).mono ?_)); rintro e w7 ⟨A3, c3, rfl, ho3, hbg⟩; have HBG : Hid (Below w6.heap.size w6 w7) := Lib.hid (by first | exact hbg | exact ⟨hbg.os, hbg.tape, hbg.output, hbg.size, hbg.block⟩); obtain ⟨l2, c20, c21, c22⟩ := (XBx_40.out.below HBG.out); have D5 := Lib.hid (SlK.of_own (own_below XOx_39.out HBG.out) rfl); have D6 := Lib.hid (SlK.of_own ho3 rfl))
      | (go_at_call 19; ((with_reducible refine (CE.out _ _ _ _ _ D5.out D6.out).mono ?_)); rintro e w8 ⟨rfl, hbh⟩))
    all_goals
      have HBH : Hid (Below w6.heap.size w6 w8) := Lib.hid (g_chain HBG.out hbh)
      have B0_45 := Lib.hid (B0_36.out.below HBH.out)
      clear B0_36
      have H_46 := Lib.hid (g_chain H_37.out HBH.out)
      clear H_37
      have Gw_47 := Lib.hid (own_below Gw_38.out HBH.out)
      clear Gw_38
      have XOx_48 := Lib.hid (own_below XOx_39.out HBH.out)
      clear XOx_39
      have XBx_49 := Lib.hid (XBx_40.out.below HBH.out)
      clear XBx_40
      have Gg_50 := Lib.hid (own_below Gg_41.out HBH.out)
      clear Gg_41
      have sz_51 := Lib.hid (Below.size HBH.out)
      clear l_43 l_43a l_43b l_43c
      clear l_44 l_44a l_44b l_44c
      clear l2 c20 c21 c22 ho3 hbg hbh D5 D6 HBG HBH
      obtain ⟨l_52, l_52a, l_52b, l_52c⟩ := XBx_49.out
      go_wp2_with fail
      refine (CM.out _ _ _ _ XOx_48.out).mono ?_
      rintro e w9 ⟨rfl, -, hg⟩
      clear l_52 l_52a l_52b l_52c
      have B0_53 := Lib.hid (B0_45.out.far hg RX_19.out (by have := sz_3.out; have := sz_7.out; have := sz_11.out; have := sz_18.out; have := sz_25.out; have := sz_33.out; have := sz_42.out; have := sz_51.out; omega))
      clear B0_45
      have H_54 := Lib.hid (H_46.out.grown hg H_46.out.size (fun j hj => by have := RX_19.out j hj; have := sz_3.out; have := sz_7.out; have := sz_11.out; have := sz_18.out; have := sz_25.out; have := sz_33.out; have := sz_42.out; have := sz_51.out; omega))
      clear H_46
      have Gw_55 := Lib.hid (own_far Gw_47.out hg RG_12.out RX_19.out (by have := sz_3.out; have := sz_7.out; have := sz_11.out; have := sz_18.out; have := sz_25.out; have := sz_33.out; have := sz_42.out; have := sz_51.out; omega))
      clear Gw_47
      have XBx_57 := Lib.hid (XBx_49.out.far hg RX_19.out (by have := sz_3.out; have := sz_7.out; have := sz_11.out; have := sz_18.out; have := sz_25.out; have := sz_33.out; have := sz_42.out; have := sz_51.out; omega))
      clear XBx_49
      have Gg_58 := Lib.hid (own_far Gg_50.out hg RG_34.out RX_19.out (by have := sz_3.out; have := sz_7.out; have := sz_11.out; have := sz_18.out; have := sz_25.out; have := sz_33.out; have := sz_42.out; have := sz_51.out; omega))
      clear Gg_50
      have sz_59 := Lib.hid (World.grownBy.size hg)
      clear hg
      go_wp2_with fail
      refine (CV.out _ _ _ _ _ (Rd.of_own Gg_58.out HSM.out) (Rd.of_own Gw_55.out HSM.out)).mono ?_
      rintro e w10 ⟨rfl, hb⟩
      have B0_60 := Lib.hid (B0_53.out.below hb)
      clear B0_53
      have H_61 := Lib.hid (g_chain H_54.out hb)
      clear H_54
      have Gw_62 := Lib.hid (own_below Gw_55.out hb)
      clear Gw_55
      have Gg_63 := Lib.hid (own_below Gg_58.out hb)
      clear Gg_58
      have sz_64 := Lib.hid (Below.size hb)
      clear hb
      go_wp2_with fail
      refine (CN.out _ _ _ _ Gg_63.out).mono ?_
      rintro e w11 ⟨rfl, hmk, hg⟩
      have B0_65 := Lib.hid (B0_60.out.far hg RG_34.out (by have := sz_3.out; have := sz_7.out; have := sz_11.out; have := sz_18.out; have := sz_25.out; have := sz_33.out; have := sz_42.out; have := sz_51.out; have := sz_59.out; have := sz_64.out; omega))
      clear B0_60
      have H_66 := Lib.hid (H_61.out.grown hg H_61.out.size (fun j hj => by have := RG_34.out j hj; have := sz_3.out; have := sz_7.out; have := sz_11.out; have := sz_18.out; have := sz_25.out; have := sz_33.out; have := sz_42.out; have := sz_51.out; have := sz_59.out; have := sz_64.out; omega))
      clear H_61
      have Gw_67 := Lib.hid (own_far Gw_62.out hg RG_12.out RG_34.out (by have := sz_3.out; have := sz_7.out; have := sz_11.out; have := sz_18.out; have := sz_25.out; have := sz_33.out; have := sz_42.out; have := sz_51.out; have := sz_59.out; have := sz_64.out; omega))
      clear Gw_62
      have sz_69 := Lib.hid (World.grownBy.size hg)
      have M_70 := Lib.hid (Rd.of_own hmk (marks_small _))
      clear hg hmk
      go_wp2_with fail
      refine (CH.out _ _ _ M_70.out).mono ?_
      rintro e w12 ⟨rfl, hb⟩
      have B0_71 := Lib.hid (B0_65.out.below hb)
      clear B0_65
      have H_72 := Lib.hid (g_chain H_66.out hb)
      clear H_66
      have Gw_73 := Lib.hid (own_below Gw_67.out hb)
      clear Gw_67
      have M_74 := Lib.hid (M_70.out.below hb)
      clear M_70
      have sz_75 := Lib.hid (Below.size hb)
      clear hb
      obtain ⟨l_76, l_76a, l_76b, l_76c⟩ := B0_71.out
      go_wp2_with fail
      refine (CT.out _ H_72.out).mono ?_
      rintro e w13 ⟨Ay, cy, rfl, ho, hb⟩
      clear l_76 l_76a l_76b l_76c
      have B0_77 := Lib.hid (B0_71.out.below hb)
      clear B0_71
      have H_78 := Lib.hid (g_chain H_72.out hb)
      clear H_72
      have Gw_79 := Lib.hid (own_below Gw_73.out hb)
      clear Gw_73
      have M_80 := Lib.hid (M_74.out.below hb)
      clear M_74
      have sz_81 := Lib.hid (Below.size hb)
      have Ty_82 := Lib.hid (SlK.of_own ho rfl)
      clear ho hb
      go_wp2_with fail
      refine (CI.out _ _ _ Ty_82.out).mono ?_
      rintro e w14 ⟨Ah, ch, rfl, ho, hb⟩
      have B0_83 := Lib.hid (B0_77.out.below hb)
      clear B0_77
      have H_84 := Lib.hid (g_chain H_78.out hb)
      clear H_78
      have Gw_85 := Lib.hid (own_below Gw_79.out hb)
      clear Gw_79
      have M_86 := Lib.hid (M_80.out.below hb)
      clear M_80
      have sz_87 := Lib.hid (Below.size hb)
      have RG_88 := Lib.hid ho.lt
      have G_89 := Lib.hid ho
      clear ho hb
      go_wp2_with fail
      refine (CV.out _ _ _ _ _ (Rd.of_own G_89.out HSM.out) (Rd.of_own Gw_85.out HSM.out)).mono ?_
      rintro e w15 ⟨rfl, hb⟩
      have B0_90 := Lib.hid (B0_83.out.below hb)
      clear B0_83
      have H_91 := Lib.hid (g_chain H_84.out hb)
      clear H_84
      have Gw_92 := Lib.hid (own_below Gw_85.out hb)
      clear Gw_85
      have M_93 := Lib.hid (M_86.out.below hb)
      clear M_86
      have Gh_94 := Lib.hid (own_below G_89.out hb)
      clear G_89
      have sz_95 := Lib.hid (Below.size hb)
      clear hb
      go_wp2_with fail
      refine (CH.out _ _ _ M_93.out).mono ?_
      rintro e w16 ⟨rfl, hb⟩
      have B0_96 := Lib.hid (B0_90.out.below hb)
      clear B0_90
      have H_97 := Lib.hid (g_chain H_91.out hb)
      clear H_91
      have Gw_98 := Lib.hid (own_below Gw_92.out hb)
      clear Gw_92
      have M_99 := Lib.hid (M_93.out.below hb)
      clear M_93
      have Gh_100 := Lib.hid (own_below Gh_94.out hb)
      clear Gh_94
      have sz_101 := Lib.hid (Below.size hb)
      clear hb
      go_wp2
      go_ret
      exact ⟨rfl, H_97.out⟩
  · rw [leftG_neg (by omega)] at CZ
    clear hin hb
    go_enter Try.func6, Try.ntmps6
    go_wp2_with fail
    refine (CZ.out _).mono ?_
    rintro e wa ⟨rfl, hba⟩
    go_wp2
    go_ret
    exact ⟨rfl, g_chain (below_a1 w _) hba⟩
end Go.Proofs.Ytmbabbapcjphgaa
