/- The walk of the law FnExactUpdate: it returns true and writes nothing that was there. -/
import Derived.Test.YtgmgpadijajkkaaUpdI
import Derived.Test.YtgmgpadijajkkaaUpdS
import Derived.Test.YtgmgpadijajkkaaVLaw
import Derived.Test.YtgmgpadijajkkaaVEq
import Derived.Test.YtgmgpadijajkkaaVMark
import Derived.Test.YtgmgpadijajkkaaVArg
import Derived.Test.YtgmgpadijajkkaaVHold
import Derived.Test.YtgmgpadijajkkaaLawInts
namespace Go.Proofs.Ytgmgpadijajkkaa
open Go.RowKit

set_option maxRecDepth 20000 in
set_option maxHeartbeats 8000000 in
theorem walkUpdate (p s v x : Int) (A : Option Addr) (n c : Nat) (es : List VE) (w : World) (_hj : (Lit.int .i64 p).wf = true ∧ (Lit.int .i64 s).wf = true) (_hv : (Lit.int .i64 v).wf = true) (_hx : (Lit.int .i64 x).wf = true) (hin : ViewsIn w A n c es) :
    Calls Try.prog 8 #[.agg #[.int .i64 p, .int .i64 s], .int .i64 v, .int .i64 x, .slice A n c] w fun e w' => e = .returned (.bool true) ∧ Below w.heap.size w w' := by
  have CZ := Lib.hid (fun W => szV_any A n c 1048576 W hin.l (by omega) (by omega))
  have HS := Lib.hid hin.g
  have HLL := Lib.hid hin.g.len
  by_cases hb : (n : Int) ≤ 1048576
  · skip
    rw [leftG_pos hb] at CZ
    have hp : (0 : Int) ≤ 1048576 - (n : Int) := by omega
    generalize (1048576 : Int) - (n : Int) = q at CZ hp
    have hel := hin.g.len
    have hnn : n ≤ 1048576 := by omega
    have CJ := Lib.hid (fun W => toJob_any p s W)
    have CT := Lib.hid (fun W (h : Below w.heap.size w W) => toVs_any A n c es W (HS.out.below h) (by omega))
    unfold MadeVs at CT
    rw [hel] at CT
    have CE := Lib.hid (fun W A A' c c' (h1 : SlV W A n es) (h2 : SlV W A' n es) => eqVs_any A A' n c c' es W h1 h2 (by omega))
    have CM := Lib.hid (fun W b A c (h : W.ownsRow b 32 4 (.slice A n c) n (es.flatMap VE.cells)) => markVs_any A n c b 1 es W h hel (by omega) (by omega))
    have CS := Lib.hid (fun W A c (h : SlV W A n es) => specUpdate p s v x A n c es W h hnn)
    have CI := Lib.hid (fun W A c (h : SlV W A n es) => implUpdate p s v x A n c es W h hnn)
    have hyl : (updE p v x es).length ≤ 1048576 := by
      unfold updE
      split
      · rw [List.length_map]; omega
      · simp
    generalize updE p v x es = rs at CS CI hyl
    generalize updV p v x es = rp at CS CI
    unfold MadeU at CS CI
    have CV := Lib.hid (fun W A A' c c' (h1 : SlI W A rs.length rs) (h2 : SlI W A' rs.length rs) => eqInts_any A A' rs.length c c' rs W h1 h2 (by omega))
    have CN := Lib.hid (fun W b A c (h : OwI W b A rs.length c rs) => markInts_any A rs.length c b 1 rs W h (by omega) (by omega))
    have CH := Lib.hid (fun W A c (h : SlI W A rs.length (ints 1 rs.length)) => heldZ_any A rs.length c 1 W h (by omega) (by omega))
    have hk3 : (0 : Int) ≤ ((1 + rs.length : Nat) : Int) := by omega
    unfold MarkedI at CN
    generalize hk4 : 1 + rs.length = kz at CN CH hk3
    have hk5 : (0 : Int) ≤ ((1 + 4 * n : Nat) : Int) := by omega
    unfold Marked4 at CM
    generalize 1 + 4 * n = kb at CM hk5
    have hrp : (rp == rp) = true := by simp
    clear hk4 hin hb hel
    go_enter Try.func8, Try.ntmps8
    go_wp2_with fail
    refine (CZ.out _).mono ?_
    rintro e w1 ⟨rfl, rfl⟩
    have H_1 := Lib.hid (below_a1 w (.cells #[.int .i64 p, .int .i64 s] 34))
    have JB_2 := Lib.hid (Blk.new w #[.int .i64 p, .int .i64 s] 34)
    have sz_3 : Hid (w.heap.size + 1 ≤ (w.alloc (.cells #[.int .i64 p, .int .i64 s] 34)).heap.size) := Lib.hid (by simp)
    have j_4 := JB_2.out.cell (i := 0) rfl
    have j_5 := JB_2.out.cell (i := 1) rfl
    go_wp2_with fail
    refine (CJ.out _).mono ?_
    rintro e w2 ⟨rfl, hb⟩
    clear j_4 j_5
    have H_6 := Lib.hid (g_chain H_1.out hb)
    clear H_1
    have JB_7 := Lib.hid (JB_2.out.below hb)
    clear JB_2
    have sz_8 := Lib.hid (Below.size hb)
    clear hb
    go_wp2_with fail
    refine (CT.out _ H_6.out).mono ?_
    rintro e w3 ⟨Ap, cp, rfl, ho, hb⟩
    have H_9 := Lib.hid (g_chain H_6.out hb)
    clear H_6
    have JB_10 := Lib.hid (JB_7.out.below hb)
    clear JB_7
    have sz_11 := Lib.hid (Below.size hb)
    have Tp_12 := Lib.hid (SlV.of_own ho HLL.out)
    clear ho hb
    go_wp2_with fail
    refine (CS.out _ _ _ Tp_12.out).mono ?_
    rintro e w4 ⟨Aw, cw, rfl, ho, hb⟩
    have H_13 := Lib.hid (g_chain H_9.out hb)
    clear H_9
    have JB_14 := Lib.hid (JB_10.out.below hb)
    clear JB_10
    have sz_15 := Lib.hid (Below.size hb)
    have RG_16 := Lib.hid ho.lt
    have G_17 := Lib.hid ho
    clear ho hb
    go_wp2_with fail
    refine (CT.out _ H_13.out).mono ?_
    rintro e w5 ⟨Ax, cx, rfl, ho, hb⟩
    have H_18 := Lib.hid (g_chain H_13.out hb)
    clear H_13
    have JB_19 := Lib.hid (JB_14.out.below hb)
    clear JB_14
    have Gw_20 := Lib.hid (own_below G_17.out hb)
    clear G_17
    have sz_21 := Lib.hid (Below.size hb)
    have RX_22 := Lib.hid ho.lt
    have XO_23 := Lib.hid ho
    clear ho hb
    have j_24 := JB_19.out.cell (i := 0) rfl
    have j_25 := JB_19.out.cell (i := 1) rfl
    go_wp2_with fail
    refine (CJ.out _).mono ?_
    rintro e w6 ⟨rfl, hb⟩
    clear j_24 j_25
    have H_26 := Lib.hid (g_chain H_18.out hb)
    clear H_18
    have JB_27 := Lib.hid (JB_19.out.below hb)
    clear JB_19
    have Gw_28 := Lib.hid (own_below Gw_20.out hb)
    clear Gw_20
    have XOx_29 := Lib.hid (own_below XO_23.out hb)
    clear XO_23
    have sz_30 := Lib.hid (Below.size hb)
    clear hb
    go_wp2_with fail
    refine (CI.out _ _ _ (SlV.of_own XOx_29.out HLL.out)).mono ?_
    rintro e w7 ⟨Ag, cg, rfl, ho, hb⟩
    have H_31 := Lib.hid (g_chain H_26.out hb)
    clear H_26
    have JB_32 := Lib.hid (JB_27.out.below hb)
    clear JB_27
    have Gw_33 := Lib.hid (own_below Gw_28.out hb)
    clear Gw_28
    have XOx_34 := Lib.hid (own_below XOx_29.out hb)
    clear XOx_29
    have sz_35 := Lib.hid (Below.size hb)
    have RG_36 := Lib.hid ho.lt
    have G_37 := Lib.hid ho
    clear ho hb
    go_wp2_with fail
    refine (CV.out _ _ _ _ _ (SlI.of_own G_37.out) (SlI.of_own Gw_33.out)).mono ?_
    rintro e w8 ⟨rfl, hb⟩
    have H_38 := Lib.hid (g_chain H_31.out hb)
    clear H_31
    have JB_39 := Lib.hid (JB_32.out.below hb)
    clear JB_32
    have Gw_40 := Lib.hid (own_below Gw_33.out hb)
    clear Gw_33
    have XOx_41 := Lib.hid (own_below XOx_34.out hb)
    clear XOx_34
    have Gg_42 := Lib.hid (own_below G_37.out hb)
    clear G_37
    have sz_43 := Lib.hid (Below.size hb)
    clear hb
    go_wp2_with fail
    refine (CT.out _ H_38.out).mono ?_
    rintro e w9 ⟨A3, c3, rfl, ho, hb⟩
    have H_44 := Lib.hid (g_chain H_38.out hb)
    clear H_38
    have JB_45 := Lib.hid (JB_39.out.below hb)
    clear JB_39
    have Gw_46 := Lib.hid (own_below Gw_40.out hb)
    clear Gw_40
    have XOx_47 := Lib.hid (own_below XOx_41.out hb)
    clear XOx_41
    have Gg_48 := Lib.hid (own_below Gg_42.out hb)
    clear Gg_42
    have sz_49 := Lib.hid (Below.size hb)
    have T3_50 := Lib.hid (SlV.of_own ho HLL.out)
    clear ho hb
    go_wp2_with fail
    refine (CE.out _ _ _ _ _ (SlV.of_own XOx_47.out HLL.out) T3_50.out).mono ?_
    rintro e w10 ⟨rfl, hb⟩
    have H_51 := Lib.hid (g_chain H_44.out hb)
    clear H_44
    have JB_52 := Lib.hid (JB_45.out.below hb)
    clear JB_45
    have Gw_53 := Lib.hid (own_below Gw_46.out hb)
    clear Gw_46
    have XOx_54 := Lib.hid (own_below XOx_47.out hb)
    clear XOx_47
    have Gg_55 := Lib.hid (own_below Gg_48.out hb)
    clear Gg_48
    have T3_56 := Lib.hid (T3_50.out.below hb)
    clear T3_50
    have sz_57 := Lib.hid (Below.size hb)
    clear hb
    go_wp2_with fail
    refine (CM.out _ _ _ _ XOx_54.out).mono ?_
    rintro e w11 ⟨rfl, hg⟩
    have H_58 := Lib.hid (H_51.out.grown hg H_51.out.size (fun j hj => by have := RX_22.out j hj; have := sz_3.out; have := sz_8.out; have := sz_11.out; have := sz_15.out; have := sz_21.out; have := sz_30.out; have := sz_35.out; have := sz_43.out; have := sz_49.out; have := sz_57.out; omega))
    clear H_51
    have JB_59 := Lib.hid (JB_52.out.far hg RX_22.out (by have := sz_3.out; have := sz_8.out; have := sz_11.out; have := sz_15.out; have := sz_21.out; have := sz_30.out; have := sz_35.out; have := sz_43.out; have := sz_49.out; have := sz_57.out; omega))
    clear JB_52
    have Gw_60 := Lib.hid (own_farV Gw_53.out hg RG_16.out RX_22.out (by have := sz_3.out; have := sz_8.out; have := sz_11.out; have := sz_15.out; have := sz_21.out; have := sz_30.out; have := sz_35.out; have := sz_43.out; have := sz_49.out; have := sz_57.out; omega))
    clear Gw_53
    have Gg_62 := Lib.hid (own_farV Gg_55.out hg RG_36.out RX_22.out (by have := sz_3.out; have := sz_8.out; have := sz_11.out; have := sz_15.out; have := sz_21.out; have := sz_30.out; have := sz_35.out; have := sz_43.out; have := sz_49.out; have := sz_57.out; omega))
    clear Gg_55
    have sz_63 := Lib.hid (World.grownBy.size hg)
    clear hg
    go_wp2_with fail
    refine (CV.out _ _ _ _ _ (SlI.of_own Gg_62.out) (SlI.of_own Gw_60.out)).mono ?_
    rintro e w12 ⟨rfl, hb⟩
    have H_64 := Lib.hid (g_chain H_58.out hb)
    clear H_58
    have JB_65 := Lib.hid (JB_59.out.below hb)
    clear JB_59
    have Gw_66 := Lib.hid (own_below Gw_60.out hb)
    clear Gw_60
    have Gg_67 := Lib.hid (own_below Gg_62.out hb)
    clear Gg_62
    have sz_68 := Lib.hid (Below.size hb)
    clear hb
    go_wp2_with fail
    refine (CN.out _ _ _ _ Gg_67.out).mono ?_
    rintro e w13 ⟨rfl, hmk, hg⟩
    have H_69 := Lib.hid (H_64.out.grown hg H_64.out.size (fun j hj => by have := RG_36.out j hj; have := sz_3.out; have := sz_8.out; have := sz_11.out; have := sz_15.out; have := sz_21.out; have := sz_30.out; have := sz_35.out; have := sz_43.out; have := sz_49.out; have := sz_57.out; have := sz_63.out; have := sz_68.out; omega))
    clear H_64
    have JB_70 := Lib.hid (JB_65.out.far hg RG_36.out (by have := sz_3.out; have := sz_8.out; have := sz_11.out; have := sz_15.out; have := sz_21.out; have := sz_30.out; have := sz_35.out; have := sz_43.out; have := sz_49.out; have := sz_57.out; have := sz_63.out; have := sz_68.out; omega))
    clear JB_65
    have Gw_71 := Lib.hid (own_farV Gw_66.out hg RG_16.out RG_36.out (by have := sz_3.out; have := sz_8.out; have := sz_11.out; have := sz_15.out; have := sz_21.out; have := sz_30.out; have := sz_35.out; have := sz_43.out; have := sz_49.out; have := sz_57.out; have := sz_63.out; have := sz_68.out; omega))
    clear Gw_66
    have sz_73 := Lib.hid (World.grownBy.size hg)
    have M_74 := Lib.hid (SlI.of_own hmk)
    clear hg hmk
    go_wp2_with fail
    refine (CH.out _ _ _ M_74.out).mono ?_
    rintro e w14 ⟨rfl, hb⟩
    have H_75 := Lib.hid (g_chain H_69.out hb)
    clear H_69
    have JB_76 := Lib.hid (JB_70.out.below hb)
    clear JB_70
    have Gw_77 := Lib.hid (own_below Gw_71.out hb)
    clear Gw_71
    have M_78 := Lib.hid (M_74.out.below hb)
    clear M_74
    have sz_79 := Lib.hid (Below.size hb)
    clear hb
    have j_80 := JB_76.out.cell (i := 0) rfl
    have j_81 := JB_76.out.cell (i := 1) rfl
    go_wp2_with fail
    refine (CJ.out _).mono ?_
    rintro e w15 ⟨rfl, hb⟩
    clear j_80 j_81
    have H_82 := Lib.hid (g_chain H_75.out hb)
    clear H_75
    have JB_83 := Lib.hid (JB_76.out.below hb)
    clear JB_76
    have Gw_84 := Lib.hid (own_below Gw_77.out hb)
    clear Gw_77
    have M_85 := Lib.hid (M_78.out.below hb)
    clear M_78
    have sz_86 := Lib.hid (Below.size hb)
    clear hb
    go_wp2_with fail
    refine (CT.out _ H_82.out).mono ?_
    rintro e w16 ⟨Ay, cy, rfl, ho, hb⟩
    have H_87 := Lib.hid (g_chain H_82.out hb)
    clear H_82
    have JB_88 := Lib.hid (JB_83.out.below hb)
    clear JB_83
    have Gw_89 := Lib.hid (own_below Gw_84.out hb)
    clear Gw_84
    have M_90 := Lib.hid (M_85.out.below hb)
    clear M_85
    have sz_91 := Lib.hid (Below.size hb)
    have Ty_92 := Lib.hid (SlV.of_own ho HLL.out)
    clear ho hb
    go_wp2_with fail
    refine (CI.out _ _ _ Ty_92.out).mono ?_
    rintro e w17 ⟨Ah, ch, rfl, ho, hb⟩
    have H_93 := Lib.hid (g_chain H_87.out hb)
    clear H_87
    have JB_94 := Lib.hid (JB_88.out.below hb)
    clear JB_88
    have Gw_95 := Lib.hid (own_below Gw_89.out hb)
    clear Gw_89
    have M_96 := Lib.hid (M_90.out.below hb)
    clear M_90
    have sz_97 := Lib.hid (Below.size hb)
    have RG_98 := Lib.hid ho.lt
    have G_99 := Lib.hid ho
    clear ho hb
    go_wp2_with fail
    refine (CV.out _ _ _ _ _ (SlI.of_own G_99.out) (SlI.of_own Gw_95.out)).mono ?_
    rintro e w18 ⟨rfl, hb⟩
    have H_100 := Lib.hid (g_chain H_93.out hb)
    clear H_93
    have JB_101 := Lib.hid (JB_94.out.below hb)
    clear JB_94
    have Gw_102 := Lib.hid (own_below Gw_95.out hb)
    clear Gw_95
    have M_103 := Lib.hid (M_96.out.below hb)
    clear M_96
    have Gh_104 := Lib.hid (own_below G_99.out hb)
    clear G_99
    have sz_105 := Lib.hid (Below.size hb)
    clear hb
    go_wp2_with fail
    refine (CH.out _ _ _ M_103.out).mono ?_
    rintro e w19 ⟨rfl, hb⟩
    have H_106 := Lib.hid (g_chain H_100.out hb)
    clear H_100
    have JB_107 := Lib.hid (JB_101.out.below hb)
    clear JB_101
    have Gw_108 := Lib.hid (own_below Gw_102.out hb)
    clear Gw_102
    have M_109 := Lib.hid (M_103.out.below hb)
    clear M_103
    have Gh_110 := Lib.hid (own_below Gh_104.out hb)
    clear Gh_104
    have sz_111 := Lib.hid (Below.size hb)
    clear hb
    go_wp2
    go_ret
    exact ⟨rfl, H_106.out⟩
  · rw [leftG_neg (by omega)] at CZ
    clear hin hb
    go_enter Try.func8, Try.ntmps8
    go_wp2_with fail
    refine (CZ.out _).mono ?_
    rintro e wa ⟨rfl, rfl⟩
    go_wp2
    go_ret
    exact ⟨rfl, below_a1 _ _⟩
end Go.Proofs.Ytgmgpadijajkkaa
