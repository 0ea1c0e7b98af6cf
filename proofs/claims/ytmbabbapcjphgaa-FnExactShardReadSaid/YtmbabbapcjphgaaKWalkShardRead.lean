/- The walk of the law FnExactShardRead: it returns true and writes nothing that was there. -/
import Derived.Test.YtmbabbapcjphgaaPackRes
import Derived.Test.YtmbabbapcjphgaaCRD
import Derived.Test.YtmbabbapcjphgaaCRB
import Derived.Test.YtmbabbapcjphgaaCRC
import Derived.Test.YtmbabbapcjphgaaKEq
import Derived.Test.YtmbabbapcjphgaaYArg
namespace Go.Proofs.Ytmbabbapcjphgaa
open Go.RowKit

set_option maxRecDepth 20000 in
set_option maxHeartbeats 8000000 in
theorem walkShardRead (A : Option Addr) (n c : Nat) (xs : List Nat) (a : Int) (w : World) (hr : Rd w A n xs) (_hnc : n ≤ c) (_hcm : c ≤ maxLen) (hwa : (Lit.int .i64 a).wf = true) :
    Calls Try.prog 7 #[.slice A n c, .int .i64 a] w fun e w' => e = .returned (.bool true) ∧ Below w.heap.size w w' := by
  by_cases hbig : n ≤ 1048576
  · skip
    obtain ⟨hb1, hb2⟩ := bounds_i64 hwa
    have HR := Lib.hid hr
    have CC := Lib.hid (fun W (h : Below w.heap.size w W) => copy_any A n c xs W (HR.out.below h) (by omega))
    have CQ := Lib.hid (fun W A A' c c' (h1 : Rd W A n xs) (h2 : Rd W A' n xs) => eqY_any A A' n c c' xs W h1 h2 (by omega))
    have CK := Lib.hid (fun W b A c (h : W.ownsRow b 5 1 (.slice A n c) n (vb xs)) => mark_any A n c b xs W h (by omega))
    have CS := Lib.hid (fun W A c (h : Rd W A n xs) (hc : n ≤ c) => specShardRead A n c a xs W h hc (by omega))
    have CI := Lib.hid (fun W A c (h : Rd W A n xs) (hc : n ≤ c) => implShardRead A n c a xs W h (by omega))
    have hyl : ((shrE xs a n)).length ≤ 400 := shrE_len xs a n
    generalize (shrLo xs a n) = rlo at CS CI
    generalize (shrHi xs a n) = rhi at CS CI
    generalize (shrE xs a n) = res at CS CI hyl
    generalize (shrP xs a n) = rp at CS CI
    generalize (shrG xs a n) = rb at CS CI
    have CV := Lib.hid (fun W A c A' c' (h1 : SlK W A res.length res) (h2 : SlK W A' res.length res) => eqShard_any rlo rhi A A' res.length c c' res W h1 h2 (by omega))
    have CN := Lib.hid (fun W b A c (h : W.ownsRow b 77 5 (.slice A res.length c) res.length (res.flatMap KE.cells)) => markShard_any rlo rhi A res.length c b 1 res W h rfl (by omega) (by omega))
    have CH := Lib.hid (fun W A c (h : SlK W A res.length (mark5 1 res)) => heldShard_any rlo rhi A res.length c 1 res W h (by omega) (by omega))
    have hk3 : (0 : Int) ≤ ((1 + 5 * res.length : Nat) : Int) := by omega
    unfold Marked5 at CN
    generalize hk4 : 1 + 5 * res.length = kz at CN CH hk3
    clear hk4
    have hrb : (rb == rb) = true := by simp
    have hrp : (rp == rp) = true := by simp
    skip
    go_enter Try.func7, Try.ntmps7
    have H_1 := Lib.hid (Below.refl w.heap.size w)
    go_wp2_with fail
    refine (CC.out _ H_1.out).mono ?_
    rintro e w1 ⟨Ap, cp, rfl, ho, hb⟩
    have H_2 := Lib.hid (g_chain H_1.out hb)
    clear H_1
    have sz_3 := Lib.hid (Below.size hb)
    have hcapp := own_cap ho
    have Tp_4 := Lib.hid (Rd.of_own ho HR.out.small)
    clear ho hb
    go_wp2_with fail
    refine (CS.out _ _ _ Tp_4.out hcapp).mono ?_
    rintro e w2 ⟨Aw, cw, rfl, ho, hb⟩
    have H_5 := Lib.hid (g_chain H_2.out hb)
    clear H_2
    have sz_6 := Lib.hid (Below.size hb)
    have RG_7 := Lib.hid ho.lt
    have G_8 := Lib.hid ho
    clear ho hb
    have hb := below_a1 w2 (.cells #[.int .i64 rlo, .int .i64 rhi, .slice Aw res.length cw] 35)
    have H_9 := Lib.hid (g_chain H_5.out hb)
    clear H_5
    have Gw_10 := Lib.hid (own_below G_8.out hb)
    clear G_8
    have sz_11 : Hid (w2.heap.size + 1 ≤ (w2.alloc (.cells #[.int .i64 rlo, .int .i64 rhi, .slice Aw res.length cw] 35)).heap.size) := Lib.hid (by simp)
    have GBw_12 := Lib.hid (HBox.new w2 rlo rhi Aw res.length cw 35)
    clear hb
    go_wp2_with fail
    refine (CC.out _ H_9.out).mono ?_
    rintro e w3 ⟨Ax, cx, rfl, ho, hb⟩
    have H_13 := Lib.hid (g_chain H_9.out hb)
    clear H_9
    have Gw_14 := Lib.hid (own_below Gw_10.out hb)
    clear Gw_10
    have GBw_15 := Lib.hid (GBw_12.out.below hb)
    clear GBw_12
    have sz_16 := Lib.hid (Below.size hb)
    have hcapx := own_cap ho
    have RX_17 := Lib.hid ho.lt
    have XO_18 := Lib.hid ho
    clear ho hb
    go_wp2_with fail
    refine (CI.out _ _ _ (Rd.of_own XO_18.out HR.out.small) hcapx).mono ?_
    rintro e w4 ⟨Ag, cg, rfl, ho, hb⟩
    have H_19 := Lib.hid (g_chain H_13.out hb)
    clear H_13
    have Gw_20 := Lib.hid (own_below Gw_14.out hb)
    clear Gw_14
    have GBw_21 := Lib.hid (GBw_15.out.below hb)
    clear GBw_15
    have XOx_22 := Lib.hid (own_below XO_18.out hb)
    clear XO_18
    have sz_23 := Lib.hid (Below.size hb)
    have RG_24 := Lib.hid ho.lt
    have G_25 := Lib.hid ho
    clear ho hb
    have hb := below_a1 w4 (.cells #[.int .i64 rlo, .int .i64 rhi, .slice Ag res.length cg] 35)
    have H_26 := Lib.hid (g_chain H_19.out hb)
    clear H_19
    have Gw_27 := Lib.hid (own_below Gw_20.out hb)
    clear Gw_20
    have GBw_28 := Lib.hid (GBw_21.out.below hb)
    clear GBw_21
    have XOx_29 := Lib.hid (own_below XOx_22.out hb)
    clear XOx_22
    have Gg_30 := Lib.hid (own_below G_25.out hb)
    clear G_25
    have sz_31 : Hid (w4.heap.size + 1 ≤ (w4.alloc (.cells #[.int .i64 rlo, .int .i64 rhi, .slice Ag res.length cg] 35)).heap.size) := Lib.hid (by simp)
    have GBg_32 := Lib.hid (HBox.new w4 rlo rhi Ag res.length cg 35)
    clear hb
    obtain ⟨l_33, l_33a, l_33b, l_33c⟩ := GBg_32.out
    obtain ⟨l_34, l_34a, l_34b, l_34c⟩ := GBw_28.out
    go_wp2_with fail
    refine (CV.out _ _ _ _ _ (SlK.of_own Gg_30.out rfl) (SlK.of_own Gw_27.out rfl)).mono ?_
    rintro e w5 ⟨rfl, hb⟩
    clear l_33 l_33a l_33b l_33c
    clear l_34 l_34a l_34b l_34c
    have H_35 := Lib.hid (g_chain H_26.out hb)
    clear H_26
    have Gw_36 := Lib.hid (own_below Gw_27.out hb)
    clear Gw_27
    have GBw_37 := Lib.hid (GBw_28.out.below hb)
    clear GBw_28
    have XOx_38 := Lib.hid (own_below XOx_29.out hb)
    clear XOx_29
    have Gg_39 := Lib.hid (own_below Gg_30.out hb)
    clear Gg_30
    have GBg_40 := Lib.hid (GBg_32.out.below hb)
    clear GBg_32
    have sz_41 := Lib.hid (Below.size hb)
    clear hb
    go_wp2_with fail
    refine (CC.out _ H_35.out).mono ?_
    rintro e w6 ⟨A3, c3, rfl, ho, hb⟩
    have H_42 := Lib.hid (g_chain H_35.out hb)
    clear H_35
    have Gw_43 := Lib.hid (own_below Gw_36.out hb)
    clear Gw_36
    have GBw_44 := Lib.hid (GBw_37.out.below hb)
    clear GBw_37
    have XOx_45 := Lib.hid (own_below XOx_38.out hb)
    clear XOx_38
    have Gg_46 := Lib.hid (own_below Gg_39.out hb)
    clear Gg_39
    have GBg_47 := Lib.hid (GBg_40.out.below hb)
    clear GBg_40
    have sz_48 := Lib.hid (Below.size hb)
    have T3_49 := Lib.hid (Rd.of_own ho HR.out.small)
    clear ho hb
    go_wp2_with fail
    refine (CQ.out _ _ _ _ _ (Rd.of_own XOx_45.out HR.out.small) T3_49.out).mono ?_
    rintro e w7 ⟨rfl, hb⟩
    have H_50 := Lib.hid (g_chain H_42.out hb)
    clear H_42
    have Gw_51 := Lib.hid (own_below Gw_43.out hb)
    clear Gw_43
    have GBw_52 := Lib.hid (GBw_44.out.below hb)
    clear GBw_44
    have XOx_53 := Lib.hid (own_below XOx_45.out hb)
    clear XOx_45
    have Gg_54 := Lib.hid (own_below Gg_46.out hb)
    clear Gg_46
    have GBg_55 := Lib.hid (GBg_47.out.below hb)
    clear GBg_47
    have T3_56 := Lib.hid (T3_49.out.below hb)
    clear T3_49
    have sz_57 := Lib.hid (Below.size hb)
    clear hb
    go_wp2_with fail
    refine (CK.out _ _ _ _ XOx_53.out).mono ?_
    rintro e w8 ⟨rfl, -, hg⟩
    have H_58 := Lib.hid (H_50.out.grown hg H_50.out.size (fun j hj => by have := RX_17.out j hj; have := sz_3.out; have := sz_6.out; have := sz_11.out; have := sz_16.out; have := sz_23.out; have := sz_31.out; have := sz_41.out; have := sz_48.out; have := sz_57.out; omega))
    clear H_50
    have Gw_59 := Lib.hid (own_far Gw_51.out hg RG_7.out RX_17.out (by have := sz_3.out; have := sz_6.out; have := sz_11.out; have := sz_16.out; have := sz_23.out; have := sz_31.out; have := sz_41.out; have := sz_48.out; have := sz_57.out; omega))
    clear Gw_51
    have GBw_60 := Lib.hid (GBw_52.out.far hg RX_17.out (by have := sz_3.out; have := sz_6.out; have := sz_11.out; have := sz_16.out; have := sz_23.out; have := sz_31.out; have := sz_41.out; have := sz_48.out; have := sz_57.out; omega))
    clear GBw_52
    have Gg_62 := Lib.hid (own_far Gg_54.out hg RG_24.out RX_17.out (by have := sz_3.out; have := sz_6.out; have := sz_11.out; have := sz_16.out; have := sz_23.out; have := sz_31.out; have := sz_41.out; have := sz_48.out; have := sz_57.out; omega))
    clear Gg_54
    have GBg_63 := Lib.hid (GBg_55.out.far hg RX_17.out (by have := sz_3.out; have := sz_6.out; have := sz_11.out; have := sz_16.out; have := sz_23.out; have := sz_31.out; have := sz_41.out; have := sz_48.out; have := sz_57.out; omega))
    clear GBg_55
    have sz_64 := Lib.hid (World.grownBy.size hg)
    clear hg
    obtain ⟨l_65, l_65a, l_65b, l_65c⟩ := GBg_63.out
    obtain ⟨l_66, l_66a, l_66b, l_66c⟩ := GBw_60.out
    go_wp2_with fail
    refine (CV.out _ _ _ _ _ (SlK.of_own Gg_62.out rfl) (SlK.of_own Gw_59.out rfl)).mono ?_
    rintro e w9 ⟨rfl, hb⟩
    clear l_65 l_65a l_65b l_65c
    clear l_66 l_66a l_66b l_66c
    have H_67 := Lib.hid (g_chain H_58.out hb)
    clear H_58
    have Gw_68 := Lib.hid (own_below Gw_59.out hb)
    clear Gw_59
    have GBw_69 := Lib.hid (GBw_60.out.below hb)
    clear GBw_60
    have Gg_70 := Lib.hid (own_below Gg_62.out hb)
    clear Gg_62
    have GBg_71 := Lib.hid (GBg_63.out.below hb)
    clear GBg_63
    have sz_72 := Lib.hid (Below.size hb)
    clear hb
    obtain ⟨l_73, l_73a, l_73b, l_73c⟩ := GBg_71.out
    go_wp2_with fail
    refine (CN.out _ _ _ _ Gg_70.out).mono ?_
    rintro e w10 ⟨rfl, hmk, hg⟩
    clear l_73 l_73a l_73b l_73c
    have H_74 := Lib.hid (H_67.out.grown hg H_67.out.size (fun j hj => by have := RG_24.out j hj; have := sz_3.out; have := sz_6.out; have := sz_11.out; have := sz_16.out; have := sz_23.out; have := sz_31.out; have := sz_41.out; have := sz_48.out; have := sz_57.out; have := sz_64.out; have := sz_72.out; omega))
    clear H_67
    have Gw_75 := Lib.hid (own_far Gw_68.out hg RG_7.out RG_24.out (by have := sz_3.out; have := sz_6.out; have := sz_11.out; have := sz_16.out; have := sz_23.out; have := sz_31.out; have := sz_41.out; have := sz_48.out; have := sz_57.out; have := sz_64.out; have := sz_72.out; omega))
    clear Gw_68
    have GBw_76 := Lib.hid (GBw_69.out.far hg RG_24.out (by have := sz_3.out; have := sz_6.out; have := sz_11.out; have := sz_16.out; have := sz_23.out; have := sz_31.out; have := sz_41.out; have := sz_48.out; have := sz_57.out; have := sz_64.out; have := sz_72.out; omega))
    clear GBw_69
    have GBg_78 := Lib.hid (GBg_71.out.far hg RG_24.out (by have := sz_3.out; have := sz_6.out; have := sz_11.out; have := sz_16.out; have := sz_23.out; have := sz_31.out; have := sz_41.out; have := sz_48.out; have := sz_57.out; have := sz_64.out; have := sz_72.out; omega))
    clear GBg_71
    have sz_79 := Lib.hid (World.grownBy.size hg)
    have M_80 := Lib.hid (SlK.of_own hmk (by rw [mark5_len]))
    clear hg hmk
    obtain ⟨l_81, l_81a, l_81b, l_81c⟩ := GBg_78.out
    go_wp2_with fail
    refine (CH.out _ _ _ M_80.out).mono ?_
    rintro e w11 ⟨rfl, hb⟩
    clear l_81 l_81a l_81b l_81c
    have H_82 := Lib.hid (g_chain H_74.out hb)
    clear H_74
    have Gw_83 := Lib.hid (own_below Gw_75.out hb)
    clear Gw_75
    have GBw_84 := Lib.hid (GBw_76.out.below hb)
    clear GBw_76
    have GBg_85 := Lib.hid (GBg_78.out.below hb)
    clear GBg_78
    have M_86 := Lib.hid (M_80.out.below hb)
    clear M_80
    have sz_87 := Lib.hid (Below.size hb)
    clear hb
    go_wp2_with fail
    refine (CC.out _ H_82.out).mono ?_
    rintro e w12 ⟨Ay, cy, rfl, ho, hb⟩
    have H_88 := Lib.hid (g_chain H_82.out hb)
    clear H_82
    have Gw_89 := Lib.hid (own_below Gw_83.out hb)
    clear Gw_83
    have GBw_90 := Lib.hid (GBw_84.out.below hb)
    clear GBw_84
    have GBg_91 := Lib.hid (GBg_85.out.below hb)
    clear GBg_85
    have M_92 := Lib.hid (M_86.out.below hb)
    clear M_86
    have sz_93 := Lib.hid (Below.size hb)
    have hcapy := own_cap ho
    have Ty_94 := Lib.hid (Rd.of_own ho HR.out.small)
    clear ho hb
    go_wp2_with fail
    refine (CI.out _ _ _ Ty_94.out hcapy).mono ?_
    rintro e w13 ⟨Ah, ch, rfl, ho, hb⟩
    have H_95 := Lib.hid (g_chain H_88.out hb)
    clear H_88
    have Gw_96 := Lib.hid (own_below Gw_89.out hb)
    clear Gw_89
    have GBw_97 := Lib.hid (GBw_90.out.below hb)
    clear GBw_90
    have GBg_98 := Lib.hid (GBg_91.out.below hb)
    clear GBg_91
    have M_99 := Lib.hid (M_92.out.below hb)
    clear M_92
    have sz_100 := Lib.hid (Below.size hb)
    have RG_101 := Lib.hid ho.lt
    have G_102 := Lib.hid ho
    clear ho hb
    have hb := below_a1 w13 (.cells #[.int .i64 rlo, .int .i64 rhi, .slice Ah res.length ch] 35)
    have H_103 := Lib.hid (g_chain H_95.out hb)
    clear H_95
    have Gw_104 := Lib.hid (own_below Gw_96.out hb)
    clear Gw_96
    have GBw_105 := Lib.hid (GBw_97.out.below hb)
    clear GBw_97
    have GBg_106 := Lib.hid (GBg_98.out.below hb)
    clear GBg_98
    have M_107 := Lib.hid (M_99.out.below hb)
    clear M_99
    have Gh_108 := Lib.hid (own_below G_102.out hb)
    clear G_102
    have sz_109 : Hid (w13.heap.size + 1 ≤ (w13.alloc (.cells #[.int .i64 rlo, .int .i64 rhi, .slice Ah res.length ch] 35)).heap.size) := Lib.hid (by simp)
    have GBh_110 := Lib.hid (HBox.new w13 rlo rhi Ah res.length ch 35)
    clear hb
    obtain ⟨l_111, l_111a, l_111b, l_111c⟩ := GBh_110.out
    obtain ⟨l_112, l_112a, l_112b, l_112c⟩ := GBw_105.out
    go_wp2_with fail
    refine (CV.out _ _ _ _ _ (SlK.of_own Gh_108.out rfl) (SlK.of_own Gw_104.out rfl)).mono ?_
    rintro e w14 ⟨rfl, hb⟩
    clear l_111 l_111a l_111b l_111c
    clear l_112 l_112a l_112b l_112c
    have H_113 := Lib.hid (g_chain H_103.out hb)
    clear H_103
    have Gw_114 := Lib.hid (own_below Gw_104.out hb)
    clear Gw_104
    have GBw_115 := Lib.hid (GBw_105.out.below hb)
    clear GBw_105
    have GBg_116 := Lib.hid (GBg_106.out.below hb)
    clear GBg_106
    have M_117 := Lib.hid (M_107.out.below hb)
    clear M_107
    have Gh_118 := Lib.hid (own_below Gh_108.out hb)
    clear Gh_108
    have GBh_119 := Lib.hid (GBh_110.out.below hb)
    clear GBh_110
    have sz_120 := Lib.hid (Below.size hb)
    clear hb
    obtain ⟨l_121, l_121a, l_121b, l_121c⟩ := GBg_116.out
    go_wp2_with fail
    refine (CH.out _ _ _ M_117.out).mono ?_
    rintro e w15 ⟨rfl, hb⟩
    clear l_121 l_121a l_121b l_121c
    have H_122 := Lib.hid (g_chain H_113.out hb)
    clear H_113
    have Gw_123 := Lib.hid (own_below Gw_114.out hb)
    clear Gw_114
    have GBw_124 := Lib.hid (GBw_115.out.below hb)
    clear GBw_115
    have GBg_125 := Lib.hid (GBg_116.out.below hb)
    clear GBg_116
    have M_126 := Lib.hid (M_117.out.below hb)
    clear M_117
    have Gh_127 := Lib.hid (own_below Gh_118.out hb)
    clear Gh_118
    have GBh_128 := Lib.hid (GBh_119.out.below hb)
    clear GBh_119
    have sz_129 := Lib.hid (Below.size hb)
    clear hb
    go_wp2
    go_ret
    exact ⟨rfl, H_122.out⟩
  · go_enter Try.func7, Try.ntmps7
    go_wp2
    go_ret
    exact ⟨rfl, Below.refl _ _⟩
end Go.Proofs.Ytmbabbapcjphgaa
