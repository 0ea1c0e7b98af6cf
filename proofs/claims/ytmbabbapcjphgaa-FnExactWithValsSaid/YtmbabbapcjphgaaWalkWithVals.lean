/- The walk of the law FnExactWithVals: it returns true and writes nothing that was there. -/
import Derived.Test.YtmbabbapcjphgaaPackRes
import Derived.Test.YtmbabbapcjphgaaValsI
import Derived.Test.YtmbabbapcjphgaaValsS
import Derived.Test.YtmbabbapcjphgaaKHold
import Derived.Test.YtmbabbapcjphgaaKLaw
import Derived.Test.YtmbabbapcjphgaaKEq
import Derived.Test.YtmbabbapcjphgaaKArg
import Derived.Test.YtmbabbapcjphgaaIntArg
import Derived.Test.YtmbabbapcjphgaaLawInts
namespace Go.Proofs.Ytmbabbapcjphgaa
open Go.RowKit

set_option maxRecDepth 20000 in
set_option maxHeartbeats 8000000 in
theorem walkWithVals (lo hi : Int) (A : Option Addr) (n c : Nat) (es : List KE) (E : Option Addr) (m d : Nat) (l : List Int) (w : World) (hin : ShIn w lo hi A n c es) (hie : IntsIn w E m d l) :
    Calls Try.prog 10 #[.agg #[.int .i64 lo, .int .i64 hi, .slice A n c], .slice E m d] w fun e w' => e = .returned (.bool true) ∧ Below w.heap.size w w' := by
  have HI := Lib.hid hie.g
  have CZ := Lib.hid (fun W => szShard_any lo hi A n c 1048576 W hin.l (by omega) (by omega))
  have HS := Lib.hid hin.g
  by_cases hm : m ≤ 1048576
  · skip
    by_cases hb : (n : Int) ≤ 1048576
    · skip
      rw [leftG_pos hb] at CZ
      have hp : (0 : Int) ≤ 1048576 - (n : Int) := by omega
      generalize (1048576 : Int) - (n : Int) = q at CZ hp
      have CT := Lib.hid (fun W (h : Below w.heap.size w W) => toShard_any lo hi A n c es W (HS.out.below h) (by omega))
      have hel := hin.g.len
      have hxn : es.length ≤ 1048576 := by omega
      have CE := Lib.hid (fun W A c A' c' (h1 : SlK W A es.length es) (h2 : SlK W A' es.length es) => eqShard_any lo hi A A' es.length c c' es W h1 h2 (by omega))
      have CM := Lib.hid (fun W b A c (h : W.ownsRow b 77 5 (.slice A es.length c) es.length (es.flatMap KE.cells)) => markShard_any lo hi A es.length c b 1 es W h rfl (by omega) (by omega))
      have hln := hie.g.len
      have CC := Lib.hid (fun W (h : Below w.heap.size w W) => copyInts_any E m d l W (HI.out.below h) (by omega))
      have CQ := Lib.hid (fun W A A' c c' (h1 : SlI W A m l) (h2 : SlI W A' m l) => eqInts_any A A' m c c' l W h1 h2 (by omega))
      have CK := Lib.hid (fun W b A c (h : OwI W b A m c l) => markInts_any A m c b (1 + 5 * es.length) l W h (by omega) (by omega))
      have CS := Lib.hid (fun W A c (h : SlK W A es.length es) E d (h2 : SlI W E m l) => specWithVals lo hi A es.length c es E m d l W h hxn h2 hm)
      have CI := Lib.hid (fun W A c (h : SlK W A es.length es) E d (h2 : SlI W E m l) => implWithVals lo hi A es.length c es E m d l W h hxn h2 hm)
      have hyl : ((valsR lo hi es l)).length ≤ 400 := valsR_len lo hi es l
      generalize (valsLo lo hi es l) = rlo at CS CI
      generalize (valsHi lo hi es l) = rhi at CS CI
      generalize (valsR lo hi es l) = res at CS CI hyl
      generalize (valsB lo hi es l) = rb at CS CI
      have CV := Lib.hid (fun W A c A' c' (h1 : SlK W A res.length res) (h2 : SlK W A' res.length res) => eqShard_any rlo rhi A A' res.length c c' res W h1 h2 (by omega))
      have CN := Lib.hid (fun W b A c (h : W.ownsRow b 77 5 (.slice A res.length c) res.length (res.flatMap KE.cells)) => markShard_any rlo rhi A res.length c b 1 res W h rfl (by omega) (by omega))
      have CH := Lib.hid (fun W A c (h : SlK W A res.length (mark5 1 res)) => heldShard_any rlo rhi A res.length c 1 res W h (by omega) (by omega))
      have hk3 : (0 : Int) ≤ ((1 + 5 * res.length : Nat) : Int) := by omega
      unfold Marked5 at CN
      generalize hk4 : 1 + 5 * res.length = kz at CN CH hk3
      clear hk4
      have hrb : (rb == rb) = true := by simp
      unfold Marked5 at CM
      unfold MarkedI at CK
      have hk5 : (0 : Int) ≤ ((1 + 5 * es.length + m : Nat) : Int) := by omega
      have hk6 : (0 : Int) ≤ ((1 + 5 * es.length : Nat) : Int) := by omega
      generalize 1 + 5 * es.length = ka at CM CK hk5 hk6
      generalize ka + m = kb at CK hk5
      clear hin hb hel hie hln
      go_enter Try.func10, Try.ntmps10
      go_wp2_with fail
      refine (CZ.out _).mono ?_
      rintro e w1 ⟨rfl, hb⟩
      have B0_1 := Lib.hid ((HBox.new w lo hi A n c 30).below hb)
      have H_2 := Lib.hid (g_chain (below_a1 w _) hb)
      have sz_3 : Hid (w.heap.size + 1 ≤ w1.heap.size) := Lib.hid (by have := hb.size; simpa using this)
      clear hb
      obtain ⟨l_4, l_4a, l_4b, l_4c⟩ := B0_1.out
      go_wp2_with fail
      refine (CT.out _ H_2.out).mono ?_
      rintro e w2 ⟨Ap, cp, rfl, ho, hb⟩
      clear l_4 l_4a l_4b l_4c
      have B0_5 := Lib.hid (B0_1.out.below hb)
      clear B0_1
      have H_6 := Lib.hid (g_chain H_2.out hb)
      clear H_2
      have sz_7 := Lib.hid (Below.size hb)
      have Tp_8 := Lib.hid (SlK.of_own ho rfl)
      clear ho hb
      go_wp2_with fail
      refine (CC.out _ H_6.out).mono ?_
      rintro e w3 ⟨Ep, dp, rfl, hoe, hb⟩
      have B0_9 := Lib.hid (B0_5.out.below hb)
      clear B0_5
      have H_10 := Lib.hid (g_chain H_6.out hb)
      clear H_6
      have Tp_11 := Lib.hid (Tp_8.out.below hb)
      clear Tp_8
      have sz_12 := Lib.hid (Below.size hb)
      have Sp_13 := Lib.hid (SlI.of_own hoe)
      clear hoe hb
      go_wp2_with fail
      refine (CS.out _ _ _ Tp_11.out _ _ Sp_13.out).mono ?_
      rintro e w4 ⟨Aw, cw, rfl, ho, hb⟩
      have B0_14 := Lib.hid (B0_9.out.below hb)
      clear B0_9
      have H_15 := Lib.hid (g_chain H_10.out hb)
      clear H_10
      have sz_16 := Lib.hid (Below.size hb)
      have RG_17 := Lib.hid ho.lt
      have G_18 := Lib.hid ho
      clear ho hb
      have hb := below_a1 w4 (.cells #[.int .i64 rlo, .int .i64 rhi, .slice Aw res.length cw] 35)
      have B0_19 := Lib.hid (B0_14.out.below hb)
      clear B0_14
      have H_20 := Lib.hid (g_chain H_15.out hb)
      clear H_15
      have Gw_21 := Lib.hid (own_below G_18.out hb)
      clear G_18
      have sz_22 : Hid (w4.heap.size + 1 ≤ (w4.alloc (.cells #[.int .i64 rlo, .int .i64 rhi, .slice Aw res.length cw] 35)).heap.size) := Lib.hid (by simp)
      have GBw_23 := Lib.hid (HBox.new w4 rlo rhi Aw res.length cw 35)
      clear hb
      obtain ⟨l_24, l_24a, l_24b, l_24c⟩ := B0_19.out
      go_wp2_with fail
      refine (CT.out _ H_20.out).mono ?_
      rintro e w5 ⟨Ax, cx, rfl, ho, hb⟩
      clear l_24 l_24a l_24b l_24c
      have B0_25 := Lib.hid (B0_19.out.below hb)
      clear B0_19
      have H_26 := Lib.hid (g_chain H_20.out hb)
      clear H_20
      have Gw_27 := Lib.hid (own_below Gw_21.out hb)
      clear Gw_21
      have GBw_28 := Lib.hid (GBw_23.out.below hb)
      clear GBw_23
      have sz_29 := Lib.hid (Below.size hb)
      have RX_30 := Lib.hid ho.lt
      have XO_31 := Lib.hid ho
      clear ho hb
      have hb := below_a1 w5 (.cells #[.int .i64 lo, .int .i64 hi, .slice Ax es.length cx] 35)
      have B0_32 := Lib.hid (B0_25.out.below hb)
      clear B0_25
      have H_33 := Lib.hid (g_chain H_26.out hb)
      clear H_26
      have Gw_34 := Lib.hid (own_below Gw_27.out hb)
      clear Gw_27
      have GBw_35 := Lib.hid (GBw_28.out.below hb)
      clear GBw_28
      have XOx_36 := Lib.hid (own_below XO_31.out hb)
      clear XO_31
      have sz_37 : Hid (w5.heap.size + 1 ≤ (w5.alloc (.cells #[.int .i64 lo, .int .i64 hi, .slice Ax es.length cx] 35)).heap.size) := Lib.hid (by simp)
      have XBx_38 := Lib.hid (HBox.new w5 lo hi Ax es.length cx 35)
      clear hb
      go_wp2_with fail
      refine (CC.out _ H_33.out).mono ?_
      rintro e w6 ⟨Ex, dx, rfl, hoe, hb⟩
      have B0_39 := Lib.hid (B0_32.out.below hb)
      clear B0_32
      have H_40 := Lib.hid (g_chain H_33.out hb)
      clear H_33
      have Gw_41 := Lib.hid (own_below Gw_34.out hb)
      clear Gw_34
      have GBw_42 := Lib.hid (GBw_35.out.below hb)
      clear GBw_35
      have XOx_43 := Lib.hid (own_below XOx_36.out hb)
      clear XOx_36
      have XBx_44 := Lib.hid (XBx_38.out.below hb)
      clear XBx_38
      have sz_45 := Lib.hid (Below.size hb)
      have RE_46 := Lib.hid hoe.lt
      have EO_47 := Lib.hid hoe
      clear hoe hb
      obtain ⟨l_48, l_48a, l_48b, l_48c⟩ := XBx_44.out
      go_wp2_with fail
      refine (CI.out _ _ _ (SlK.of_own XOx_43.out rfl) _ _ (SlI.of_own EO_47.out)).mono ?_
      rintro e w7 ⟨Ag, cg, rfl, ho, hb⟩
      clear l_48 l_48a l_48b l_48c
      have B0_49 := Lib.hid (B0_39.out.below hb)
      clear B0_39
      have H_50 := Lib.hid (g_chain H_40.out hb)
      clear H_40
      have Gw_51 := Lib.hid (own_below Gw_41.out hb)
      clear Gw_41
      have GBw_52 := Lib.hid (GBw_42.out.below hb)
      clear GBw_42
      have XOx_53 := Lib.hid (own_below XOx_43.out hb)
      clear XOx_43
      have XBx_54 := Lib.hid (XBx_44.out.below hb)
      clear XBx_44
      have EOx_55 := Lib.hid (own_below EO_47.out hb)
      clear EO_47
      have sz_56 := Lib.hid (Below.size hb)
      have RG_57 := Lib.hid ho.lt
      have G_58 := Lib.hid ho
      clear ho hb
      have hb := below_a1 w7 (.cells #[.int .i64 rlo, .int .i64 rhi, .slice Ag res.length cg] 35)
      have B0_59 := Lib.hid (B0_49.out.below hb)
      clear B0_49
      have H_60 := Lib.hid (g_chain H_50.out hb)
      clear H_50
      have Gw_61 := Lib.hid (own_below Gw_51.out hb)
      clear Gw_51
      have GBw_62 := Lib.hid (GBw_52.out.below hb)
      clear GBw_52
      have XOx_63 := Lib.hid (own_below XOx_53.out hb)
      clear XOx_53
      have XBx_64 := Lib.hid (XBx_54.out.below hb)
      clear XBx_54
      have EOx_65 := Lib.hid (own_below EOx_55.out hb)
      clear EOx_55
      have Gg_66 := Lib.hid (own_below G_58.out hb)
      clear G_58
      have sz_67 : Hid (w7.heap.size + 1 ≤ (w7.alloc (.cells #[.int .i64 rlo, .int .i64 rhi, .slice Ag res.length cg] 35)).heap.size) := Lib.hid (by simp)
      have GBg_68 := Lib.hid (HBox.new w7 rlo rhi Ag res.length cg 35)
      clear hb
      obtain ⟨l_69, l_69a, l_69b, l_69c⟩ := GBg_68.out
      obtain ⟨l_70, l_70a, l_70b, l_70c⟩ := GBw_62.out
      go_wp2_with fail
      refine (CV.out _ _ _ _ _ (SlK.of_own Gg_66.out rfl) (SlK.of_own Gw_61.out rfl)).mono ?_
      rintro e w8 ⟨rfl, hb⟩
      clear l_69 l_69a l_69b l_69c
      clear l_70 l_70a l_70b l_70c
      have B0_71 := Lib.hid (B0_59.out.below hb)
      clear B0_59
      have H_72 := Lib.hid (g_chain H_60.out hb)
      clear H_60
      have Gw_73 := Lib.hid (own_below Gw_61.out hb)
      clear Gw_61
      have GBw_74 := Lib.hid (GBw_62.out.below hb)
      clear GBw_62
      have XOx_75 := Lib.hid (own_below XOx_63.out hb)
      clear XOx_63
      have XBx_76 := Lib.hid (XBx_64.out.below hb)
      clear XBx_64
      have EOx_77 := Lib.hid (own_below EOx_65.out hb)
      clear EOx_65
      have Gg_78 := Lib.hid (own_below Gg_66.out hb)
      clear Gg_66
      have GBg_79 := Lib.hid (GBg_68.out.below hb)
      clear GBg_68
      have sz_80 := Lib.hid (Below.size hb)
      clear hb
      obtain ⟨l_81, l_81a, l_81b, l_81c⟩ := B0_71.out
      obtain ⟨l_82, l_82a, l_82b, l_82c⟩ := XBx_76.out
      go_wp2
      go_region_with (first
        | (go_at_call 17; ((with_reducible refine (CT.out _ (by first | exact H_72.out | exact H_72.out.drew | exact H_72.out.drew.drew)).mono ?_)); rintro e w9 ⟨A3, c3, rfl, ho3, hbg⟩; have HBG : Hid (Below w8.heap.size w8 w9) := Lib.hid (by first | exact hbg | exact ⟨hbg.os, hbg.tape, hbg.output, hbg.size, hbg.block⟩); obtain ⟨l2, c20, c21, c22⟩ := (XBx_76.out.below HBG.out); have D5 := Lib.hid (SlK.of_own (own_below XOx_75.out HBG.out) rfl); have D6 := Lib.hid (SlK.of_own ho3 rfl))
        | (go_at_call 19; ((with_reducible refine (CE.out _ _ _ _ _ D5.out D6.out).mono ?_)); rintro e w10 ⟨rfl, hbh⟩))
      all_goals
        have HBH : Hid (Below w8.heap.size w8 w10) := Lib.hid (g_chain HBG.out hbh)
        have B0_83 := Lib.hid (B0_71.out.below HBH.out)
        clear B0_71
        have H_84 := Lib.hid (g_chain H_72.out HBH.out)
        clear H_72
        have Gw_85 := Lib.hid (own_below Gw_73.out HBH.out)
        clear Gw_73
        have GBw_86 := Lib.hid (GBw_74.out.below HBH.out)
        clear GBw_74
        have XOx_87 := Lib.hid (own_below XOx_75.out HBH.out)
        clear XOx_75
        have XBx_88 := Lib.hid (XBx_76.out.below HBH.out)
        clear XBx_76
        have EOx_89 := Lib.hid (own_below EOx_77.out HBH.out)
        clear EOx_77
        have Gg_90 := Lib.hid (own_below Gg_78.out HBH.out)
        clear Gg_78
        have GBg_91 := Lib.hid (GBg_79.out.below HBH.out)
        clear GBg_79
        have sz_92 := Lib.hid (Below.size HBH.out)
        clear l_81 l_81a l_81b l_81c
        clear l_82 l_82a l_82b l_82c
        clear l2 c20 c21 c22 ho3 hbg hbh D5 D6 HBG HBH
        go_wp2_with fail
        refine (CC.out _ H_84.out).mono ?_
        rintro e w11 ⟨E3, d3, rfl, hoe, hb⟩
        have B0_93 := Lib.hid (B0_83.out.below hb)
        clear B0_83
        have H_94 := Lib.hid (g_chain H_84.out hb)
        clear H_84
        have Gw_95 := Lib.hid (own_below Gw_85.out hb)
        clear Gw_85
        have GBw_96 := Lib.hid (GBw_86.out.below hb)
        clear GBw_86
        have XOx_97 := Lib.hid (own_below XOx_87.out hb)
        clear XOx_87
        have XBx_98 := Lib.hid (XBx_88.out.below hb)
        clear XBx_88
        have EOx_99 := Lib.hid (own_below EOx_89.out hb)
        clear EOx_89
        have Gg_100 := Lib.hid (own_below Gg_90.out hb)
        clear Gg_90
        have GBg_101 := Lib.hid (GBg_91.out.below hb)
        clear GBg_91
        have sz_102 := Lib.hid (Below.size hb)
        have S3_103 := Lib.hid (SlI.of_own hoe)
        clear hoe hb
        go_wp2_with fail
        refine (CQ.out _ _ _ _ _ (SlI.of_own EOx_99.out) S3_103.out).mono ?_
        rintro e w12 ⟨rfl, hb⟩
        have B0_104 := Lib.hid (B0_93.out.below hb)
        clear B0_93
        have H_105 := Lib.hid (g_chain H_94.out hb)
        clear H_94
        have Gw_106 := Lib.hid (own_below Gw_95.out hb)
        clear Gw_95
        have GBw_107 := Lib.hid (GBw_96.out.below hb)
        clear GBw_96
        have XOx_108 := Lib.hid (own_below XOx_97.out hb)
        clear XOx_97
        have XBx_109 := Lib.hid (XBx_98.out.below hb)
        clear XBx_98
        have EOx_110 := Lib.hid (own_below EOx_99.out hb)
        clear EOx_99
        have Gg_111 := Lib.hid (own_below Gg_100.out hb)
        clear Gg_100
        have GBg_112 := Lib.hid (GBg_101.out.below hb)
        clear GBg_101
        have S3_113 := Lib.hid (S3_103.out.below hb)
        clear S3_103
        have sz_114 := Lib.hid (Below.size hb)
        clear hb
        obtain ⟨l_115, l_115a, l_115b, l_115c⟩ := XBx_109.out
        go_wp2_with fail
        refine (CM.out _ _ _ _ XOx_108.out).mono ?_
        rintro e w13 ⟨rfl, -, hg⟩
        clear l_115 l_115a l_115b l_115c
        have B0_116 := Lib.hid (B0_104.out.far hg RX_30.out (by have := sz_3.out; have := sz_7.out; have := sz_12.out; have := sz_16.out; have := sz_22.out; have := sz_29.out; have := sz_37.out; have := sz_45.out; have := sz_56.out; have := sz_67.out; have := sz_80.out; have := sz_92.out; have := sz_102.out; have := sz_114.out; omega))
        clear B0_104
        have H_117 := Lib.hid (H_105.out.grown hg H_105.out.size (fun j hj => by have := RX_30.out j hj; have := sz_3.out; have := sz_7.out; have := sz_12.out; have := sz_16.out; have := sz_22.out; have := sz_29.out; have := sz_37.out; have := sz_45.out; have := sz_56.out; have := sz_67.out; have := sz_80.out; have := sz_92.out; have := sz_102.out; have := sz_114.out; omega))
        clear H_105
        have Gw_118 := Lib.hid (own_far Gw_106.out hg RG_17.out RX_30.out (by have := sz_3.out; have := sz_7.out; have := sz_12.out; have := sz_16.out; have := sz_22.out; have := sz_29.out; have := sz_37.out; have := sz_45.out; have := sz_56.out; have := sz_67.out; have := sz_80.out; have := sz_92.out; have := sz_102.out; have := sz_114.out; omega))
        clear Gw_106
        have GBw_119 := Lib.hid (GBw_107.out.far hg RX_30.out (by have := sz_3.out; have := sz_7.out; have := sz_12.out; have := sz_16.out; have := sz_22.out; have := sz_29.out; have := sz_37.out; have := sz_45.out; have := sz_56.out; have := sz_67.out; have := sz_80.out; have := sz_92.out; have := sz_102.out; have := sz_114.out; omega))
        clear GBw_107
        have XBx_121 := Lib.hid (XBx_109.out.far hg RX_30.out (by have := sz_3.out; have := sz_7.out; have := sz_12.out; have := sz_16.out; have := sz_22.out; have := sz_29.out; have := sz_37.out; have := sz_45.out; have := sz_56.out; have := sz_67.out; have := sz_80.out; have := sz_92.out; have := sz_102.out; have := sz_114.out; omega))
        clear XBx_109
        have EOx_122 := Lib.hid (own_far EOx_110.out hg RE_46.out RX_30.out (by have := sz_3.out; have := sz_7.out; have := sz_12.out; have := sz_16.out; have := sz_22.out; have := sz_29.out; have := sz_37.out; have := sz_45.out; have := sz_56.out; have := sz_67.out; have := sz_80.out; have := sz_92.out; have := sz_102.out; have := sz_114.out; omega))
        clear EOx_110
        have Gg_123 := Lib.hid (own_far Gg_111.out hg RG_57.out RX_30.out (by have := sz_3.out; have := sz_7.out; have := sz_12.out; have := sz_16.out; have := sz_22.out; have := sz_29.out; have := sz_37.out; have := sz_45.out; have := sz_56.out; have := sz_67.out; have := sz_80.out; have := sz_92.out; have := sz_102.out; have := sz_114.out; omega))
        clear Gg_111
        have GBg_124 := Lib.hid (GBg_112.out.far hg RX_30.out (by have := sz_3.out; have := sz_7.out; have := sz_12.out; have := sz_16.out; have := sz_22.out; have := sz_29.out; have := sz_37.out; have := sz_45.out; have := sz_56.out; have := sz_67.out; have := sz_80.out; have := sz_92.out; have := sz_102.out; have := sz_114.out; omega))
        clear GBg_112
        have sz_125 := Lib.hid (World.grownBy.size hg)
        clear hg
        go_wp2_with fail
        refine (CK.out _ _ _ _ EOx_122.out).mono ?_
        rintro e w14 ⟨rfl, -, hg⟩
        have B0_126 := Lib.hid (B0_116.out.far hg RE_46.out (by have := sz_3.out; have := sz_7.out; have := sz_12.out; have := sz_16.out; have := sz_22.out; have := sz_29.out; have := sz_37.out; have := sz_45.out; have := sz_56.out; have := sz_67.out; have := sz_80.out; have := sz_92.out; have := sz_102.out; have := sz_114.out; have := sz_125.out; omega))
        clear B0_116
        have H_127 := Lib.hid (H_117.out.grown hg H_117.out.size (fun j hj => by have := RE_46.out j hj; have := sz_3.out; have := sz_7.out; have := sz_12.out; have := sz_16.out; have := sz_22.out; have := sz_29.out; have := sz_37.out; have := sz_45.out; have := sz_56.out; have := sz_67.out; have := sz_80.out; have := sz_92.out; have := sz_102.out; have := sz_114.out; have := sz_125.out; omega))
        clear H_117
        have Gw_128 := Lib.hid (own_far Gw_118.out hg RG_17.out RE_46.out (by have := sz_3.out; have := sz_7.out; have := sz_12.out; have := sz_16.out; have := sz_22.out; have := sz_29.out; have := sz_37.out; have := sz_45.out; have := sz_56.out; have := sz_67.out; have := sz_80.out; have := sz_92.out; have := sz_102.out; have := sz_114.out; have := sz_125.out; omega))
        clear Gw_118
        have GBw_129 := Lib.hid (GBw_119.out.far hg RE_46.out (by have := sz_3.out; have := sz_7.out; have := sz_12.out; have := sz_16.out; have := sz_22.out; have := sz_29.out; have := sz_37.out; have := sz_45.out; have := sz_56.out; have := sz_67.out; have := sz_80.out; have := sz_92.out; have := sz_102.out; have := sz_114.out; have := sz_125.out; omega))
        clear GBw_119
        have XBx_130 := Lib.hid (XBx_121.out.far hg RE_46.out (by have := sz_3.out; have := sz_7.out; have := sz_12.out; have := sz_16.out; have := sz_22.out; have := sz_29.out; have := sz_37.out; have := sz_45.out; have := sz_56.out; have := sz_67.out; have := sz_80.out; have := sz_92.out; have := sz_102.out; have := sz_114.out; have := sz_125.out; omega))
        clear XBx_121
        have Gg_132 := Lib.hid (own_far Gg_123.out hg RG_57.out RE_46.out (by have := sz_3.out; have := sz_7.out; have := sz_12.out; have := sz_16.out; have := sz_22.out; have := sz_29.out; have := sz_37.out; have := sz_45.out; have := sz_56.out; have := sz_67.out; have := sz_80.out; have := sz_92.out; have := sz_102.out; have := sz_114.out; have := sz_125.out; omega))
        clear Gg_123
        have GBg_133 := Lib.hid (GBg_124.out.far hg RE_46.out (by have := sz_3.out; have := sz_7.out; have := sz_12.out; have := sz_16.out; have := sz_22.out; have := sz_29.out; have := sz_37.out; have := sz_45.out; have := sz_56.out; have := sz_67.out; have := sz_80.out; have := sz_92.out; have := sz_102.out; have := sz_114.out; have := sz_125.out; omega))
        clear GBg_124
        have sz_134 := Lib.hid (World.grownBy.size hg)
        clear hg
        obtain ⟨l_135, l_135a, l_135b, l_135c⟩ := GBg_133.out
        obtain ⟨l_136, l_136a, l_136b, l_136c⟩ := GBw_129.out
        go_wp2_with fail
        refine (CV.out _ _ _ _ _ (SlK.of_own Gg_132.out rfl) (SlK.of_own Gw_128.out rfl)).mono ?_
        rintro e w15 ⟨rfl, hb⟩
        clear l_135 l_135a l_135b l_135c
        clear l_136 l_136a l_136b l_136c
        have B0_137 := Lib.hid (B0_126.out.below hb)
        clear B0_126
        have H_138 := Lib.hid (g_chain H_127.out hb)
        clear H_127
        have Gw_139 := Lib.hid (own_below Gw_128.out hb)
        clear Gw_128
        have GBw_140 := Lib.hid (GBw_129.out.below hb)
        clear GBw_129
        have Gg_141 := Lib.hid (own_below Gg_132.out hb)
        clear Gg_132
        have GBg_142 := Lib.hid (GBg_133.out.below hb)
        clear GBg_133
        have sz_143 := Lib.hid (Below.size hb)
        clear hb
        obtain ⟨l_144, l_144a, l_144b, l_144c⟩ := GBg_142.out
        go_wp2_with fail
        refine (CN.out _ _ _ _ Gg_141.out).mono ?_
        rintro e w16 ⟨rfl, hmk, hg⟩
        clear l_144 l_144a l_144b l_144c
        have B0_145 := Lib.hid (B0_137.out.far hg RG_57.out (by have := sz_3.out; have := sz_7.out; have := sz_12.out; have := sz_16.out; have := sz_22.out; have := sz_29.out; have := sz_37.out; have := sz_45.out; have := sz_56.out; have := sz_67.out; have := sz_80.out; have := sz_92.out; have := sz_102.out; have := sz_114.out; have := sz_125.out; have := sz_134.out; have := sz_143.out; omega))
        clear B0_137
        have H_146 := Lib.hid (H_138.out.grown hg H_138.out.size (fun j hj => by have := RG_57.out j hj; have := sz_3.out; have := sz_7.out; have := sz_12.out; have := sz_16.out; have := sz_22.out; have := sz_29.out; have := sz_37.out; have := sz_45.out; have := sz_56.out; have := sz_67.out; have := sz_80.out; have := sz_92.out; have := sz_102.out; have := sz_114.out; have := sz_125.out; have := sz_134.out; have := sz_143.out; omega))
        clear H_138
        have Gw_147 := Lib.hid (own_far Gw_139.out hg RG_17.out RG_57.out (by have := sz_3.out; have := sz_7.out; have := sz_12.out; have := sz_16.out; have := sz_22.out; have := sz_29.out; have := sz_37.out; have := sz_45.out; have := sz_56.out; have := sz_67.out; have := sz_80.out; have := sz_92.out; have := sz_102.out; have := sz_114.out; have := sz_125.out; have := sz_134.out; have := sz_143.out; omega))
        clear Gw_139
        have GBw_148 := Lib.hid (GBw_140.out.far hg RG_57.out (by have := sz_3.out; have := sz_7.out; have := sz_12.out; have := sz_16.out; have := sz_22.out; have := sz_29.out; have := sz_37.out; have := sz_45.out; have := sz_56.out; have := sz_67.out; have := sz_80.out; have := sz_92.out; have := sz_102.out; have := sz_114.out; have := sz_125.out; have := sz_134.out; have := sz_143.out; omega))
        clear GBw_140
        have GBg_150 := Lib.hid (GBg_142.out.far hg RG_57.out (by have := sz_3.out; have := sz_7.out; have := sz_12.out; have := sz_16.out; have := sz_22.out; have := sz_29.out; have := sz_37.out; have := sz_45.out; have := sz_56.out; have := sz_67.out; have := sz_80.out; have := sz_92.out; have := sz_102.out; have := sz_114.out; have := sz_125.out; have := sz_134.out; have := sz_143.out; omega))
        clear GBg_142
        have sz_151 := Lib.hid (World.grownBy.size hg)
        have M_152 := Lib.hid (SlK.of_own hmk (by rw [mark5_len]))
        clear hg hmk
        obtain ⟨l_153, l_153a, l_153b, l_153c⟩ := GBg_150.out
        go_wp2_with fail
        refine (CH.out _ _ _ M_152.out).mono ?_
        rintro e w17 ⟨rfl, hb⟩
        clear l_153 l_153a l_153b l_153c
        have B0_154 := Lib.hid (B0_145.out.below hb)
        clear B0_145
        have H_155 := Lib.hid (g_chain H_146.out hb)
        clear H_146
        have Gw_156 := Lib.hid (own_below Gw_147.out hb)
        clear Gw_147
        have GBw_157 := Lib.hid (GBw_148.out.below hb)
        clear GBw_148
        have GBg_158 := Lib.hid (GBg_150.out.below hb)
        clear GBg_150
        have M_159 := Lib.hid (M_152.out.below hb)
        clear M_152
        have sz_160 := Lib.hid (Below.size hb)
        clear hb
        obtain ⟨l_161, l_161a, l_161b, l_161c⟩ := B0_154.out
        go_wp2_with fail
        refine (CT.out _ H_155.out).mono ?_
        rintro e w18 ⟨Ay, cy, rfl, ho, hb⟩
        clear l_161 l_161a l_161b l_161c
        have B0_162 := Lib.hid (B0_154.out.below hb)
        clear B0_154
        have H_163 := Lib.hid (g_chain H_155.out hb)
        clear H_155
        have Gw_164 := Lib.hid (own_below Gw_156.out hb)
        clear Gw_156
        have GBw_165 := Lib.hid (GBw_157.out.below hb)
        clear GBw_157
        have GBg_166 := Lib.hid (GBg_158.out.below hb)
        clear GBg_158
        have M_167 := Lib.hid (M_159.out.below hb)
        clear M_159
        have sz_168 := Lib.hid (Below.size hb)
        have Ty_169 := Lib.hid (SlK.of_own ho rfl)
        clear ho hb
        go_wp2_with fail
        refine (CC.out _ H_163.out).mono ?_
        rintro e w19 ⟨Ey, dy, rfl, hoe, hb⟩
        have B0_170 := Lib.hid (B0_162.out.below hb)
        clear B0_162
        have H_171 := Lib.hid (g_chain H_163.out hb)
        clear H_163
        have Gw_172 := Lib.hid (own_below Gw_164.out hb)
        clear Gw_164
        have GBw_173 := Lib.hid (GBw_165.out.below hb)
        clear GBw_165
        have GBg_174 := Lib.hid (GBg_166.out.below hb)
        clear GBg_166
        have M_175 := Lib.hid (M_167.out.below hb)
        clear M_167
        have Ty_176 := Lib.hid (Ty_169.out.below hb)
        clear Ty_169
        have sz_177 := Lib.hid (Below.size hb)
        have Sy_178 := Lib.hid (SlI.of_own hoe)
        clear hoe hb
        go_wp2_with fail
        refine (CI.out _ _ _ Ty_176.out _ _ Sy_178.out).mono ?_
        rintro e w20 ⟨Ah, ch, rfl, ho, hb⟩
        have B0_179 := Lib.hid (B0_170.out.below hb)
        clear B0_170
        have H_180 := Lib.hid (g_chain H_171.out hb)
        clear H_171
        have Gw_181 := Lib.hid (own_below Gw_172.out hb)
        clear Gw_172
        have GBw_182 := Lib.hid (GBw_173.out.below hb)
        clear GBw_173
        have GBg_183 := Lib.hid (GBg_174.out.below hb)
        clear GBg_174
        have M_184 := Lib.hid (M_175.out.below hb)
        clear M_175
        have sz_185 := Lib.hid (Below.size hb)
        have RG_186 := Lib.hid ho.lt
        have G_187 := Lib.hid ho
        clear ho hb
        have hb := below_a1 w20 (.cells #[.int .i64 rlo, .int .i64 rhi, .slice Ah res.length ch] 35)
        have B0_188 := Lib.hid (B0_179.out.below hb)
        clear B0_179
        have H_189 := Lib.hid (g_chain H_180.out hb)
        clear H_180
        have Gw_190 := Lib.hid (own_below Gw_181.out hb)
        clear Gw_181
        have GBw_191 := Lib.hid (GBw_182.out.below hb)
        clear GBw_182
        have GBg_192 := Lib.hid (GBg_183.out.below hb)
        clear GBg_183
        have M_193 := Lib.hid (M_184.out.below hb)
        clear M_184
        have Gh_194 := Lib.hid (own_below G_187.out hb)
        clear G_187
        have sz_195 : Hid (w20.heap.size + 1 ≤ (w20.alloc (.cells #[.int .i64 rlo, .int .i64 rhi, .slice Ah res.length ch] 35)).heap.size) := Lib.hid (by simp)
        have GBh_196 := Lib.hid (HBox.new w20 rlo rhi Ah res.length ch 35)
        clear hb
        obtain ⟨l_197, l_197a, l_197b, l_197c⟩ := GBh_196.out
        obtain ⟨l_198, l_198a, l_198b, l_198c⟩ := GBw_191.out
        go_wp2_with fail
        refine (CV.out _ _ _ _ _ (SlK.of_own Gh_194.out rfl) (SlK.of_own Gw_190.out rfl)).mono ?_
        rintro e w21 ⟨rfl, hb⟩
        clear l_197 l_197a l_197b l_197c
        clear l_198 l_198a l_198b l_198c
        have B0_199 := Lib.hid (B0_188.out.below hb)
        clear B0_188
        have H_200 := Lib.hid (g_chain H_189.out hb)
        clear H_189
        have Gw_201 := Lib.hid (own_below Gw_190.out hb)
        clear Gw_190
        have GBw_202 := Lib.hid (GBw_191.out.below hb)
        clear GBw_191
        have GBg_203 := Lib.hid (GBg_192.out.below hb)
        clear GBg_192
        have M_204 := Lib.hid (M_193.out.below hb)
        clear M_193
        have Gh_205 := Lib.hid (own_below Gh_194.out hb)
        clear Gh_194
        have GBh_206 := Lib.hid (GBh_196.out.below hb)
        clear GBh_196
        have sz_207 := Lib.hid (Below.size hb)
        clear hb
        obtain ⟨l_208, l_208a, l_208b, l_208c⟩ := GBg_203.out
        go_wp2_with fail
        refine (CH.out _ _ _ M_204.out).mono ?_
        rintro e w22 ⟨rfl, hb⟩
        clear l_208 l_208a l_208b l_208c
        have B0_209 := Lib.hid (B0_199.out.below hb)
        clear B0_199
        have H_210 := Lib.hid (g_chain H_200.out hb)
        clear H_200
        have Gw_211 := Lib.hid (own_below Gw_201.out hb)
        clear Gw_201
        have GBw_212 := Lib.hid (GBw_202.out.below hb)
        clear GBw_202
        have GBg_213 := Lib.hid (GBg_203.out.below hb)
        clear GBg_203
        have M_214 := Lib.hid (M_204.out.below hb)
        clear M_204
        have Gh_215 := Lib.hid (own_below Gh_205.out hb)
        clear Gh_205
        have GBh_216 := Lib.hid (GBh_206.out.below hb)
        clear GBh_206
        have sz_217 := Lib.hid (Below.size hb)
        clear hb
        go_wp2
        go_ret
        exact ⟨rfl, H_210.out⟩
    · rw [leftG_neg (by omega)] at CZ
      clear hin hb hie
      go_enter Try.func10, Try.ntmps10
      go_wp2_with fail
      refine (CZ.out _).mono ?_
      rintro e wa ⟨rfl, hba⟩
      go_wp2
      go_ret
      exact ⟨rfl, g_chain (below_a1 w _) hba⟩
  · have hm2 : (1048576 : Int) < (m : Int) := by omega
    clear hie HI hin CZ HS
    go_enter Try.func10, Try.ntmps10
    go_wp2
    go_ret
    exact ⟨rfl, by first | exact Below.refl _ _ | exact below_a1 w _⟩
end Go.Proofs.Ytmbabbapcjphgaa
