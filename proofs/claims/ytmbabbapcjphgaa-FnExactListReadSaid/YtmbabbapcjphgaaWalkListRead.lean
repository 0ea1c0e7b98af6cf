/- The walk of the law FnExactListRead: it returns true and writes nothing that was there. -/
import Derived.Test.YtmbabbapcjphgaaPackRes
import Derived.Test.YtmbabbapcjphgaaLReadI
import Derived.Test.YtmbabbapcjphgaaLReadS
import Derived.Test.YtmbabbapcjphgaaKHold
import Derived.Test.YtmbabbapcjphgaaLawInts
import Derived.Test.YtmbabbapcjphgaaYArg
namespace Go.Proofs.Ytmbabbapcjphgaa
open Go.RowKit

set_option maxRecDepth 20000 in
set_option maxHeartbeats 8000000 in
theorem walkListRead (A : Option Addr) (n c : Nat) (xs : List Nat) (a : Int) (w : World) (hr : Rd w A n xs) (_hnc : n ≤ c) (_hcm : c ≤ maxLen) (hwa : (Lit.int .i64 a).wf = true) :
    Calls Try.prog 9 #[.slice A n c, .int .i64 a] w fun e w' => e = .returned (.bool true) ∧ Below w.heap.size w w' := by
  by_cases hbig : n ≤ 1048576
  · skip
    obtain ⟨hb1, hb2⟩ := bounds_i64 hwa
    have HR := Lib.hid hr
    have CC := Lib.hid (fun W (h : Below w.heap.size w W) => copy_any A n c xs W (HR.out.below h) (by omega))
    have CQ := Lib.hid (fun W A A' c c' (h1 : Rd W A n xs) (h2 : Rd W A' n xs) => eqY_any A A' n c c' xs W h1 h2 (by omega))
    have CK := Lib.hid (fun W b A c (h : W.ownsRow b 5 1 (.slice A n c) n (vb xs)) => mark_any A n c b xs W h (by omega))
    have CS := Lib.hid (fun W A c (h : Rd W A n xs) (hc : n ≤ c) => specListRead A n c a xs W h hc (by omega))
    have CI := Lib.hid (fun W A c (h : Rd W A n xs) (hc : n ≤ c) => implListRead A n c a xs W h (by omega))
    have hyl : ((listR xs a n)).length ≤ 400 := listR_len xs a n
    generalize (listR xs a n) = rs at CS CI hyl
    generalize (listP xs a n) = rp at CS CI
    generalize (listG xs a n) = rb at CS CI
    have CV := Lib.hid (fun W A A' c c' (h1 : SlI W A rs.length rs) (h2 : SlI W A' rs.length rs) => eqInts_any A A' rs.length c c' rs W h1 h2 (by omega))
    have CN := Lib.hid (fun W b A c (h : OwI W b A rs.length c rs) => markInts_any A rs.length c b 1 rs W h (by omega) (by omega))
    have CH := Lib.hid (fun W A c (h : SlI W A rs.length (ints 1 rs.length)) => heldN_any A rs.length c 1 W h (by omega) (by omega))
    have hk3 : (0 : Int) ≤ ((1 + rs.length : Nat) : Int) := by omega
    unfold MarkedI at CN
    generalize hk4 : 1 + rs.length = kz at CN CH hk3
    clear hk4
    have hrb : (rb == rb) = true := by simp
    have hrp : (rp == rp) = true := by simp
    skip
    go_enter Try.func9, Try.ntmps9
    have H_1 := Lib.hid (Below.refl w.heap.size w)
    go_wp2_with fail
    refine (CC.out _ H_1.out).mono ?_
    rintro e w1 ⟨Ap, cp, rfl, ho, hb⟩
    have H_2 := Lib.hid (g_chain H_1.out hb)
    clear H_1
    have sz_3 := Lib.hid (Below.size hb)
    have hcapp := own_cap ho
    have Tp_4 := Lib.hid (Rd.of_own ho HR.out.small)
    clear ho hb
    go_wp2_with fail
    refine (CS.out _ _ _ Tp_4.out hcapp).mono ?_
    rintro e w2 ⟨Aw, cw, rfl, ho, hb⟩
    have H_5 := Lib.hid (g_chain H_2.out hb)
    clear H_2
    have sz_6 := Lib.hid (Below.size hb)
    have RG_7 := Lib.hid ho.lt
    have G_8 := Lib.hid ho
    clear ho hb
    go_wp2_with fail
    refine (CC.out _ H_5.out).mono ?_
    rintro e w3 ⟨Ax, cx, rfl, ho, hb⟩
    have H_9 := Lib.hid (g_chain H_5.out hb)
    clear H_5
    have Gw_10 := Lib.hid (own_below G_8.out hb)
    clear G_8
    have sz_11 := Lib.hid (Below.size hb)
    have hcapx := own_cap ho
    have RX_12 := Lib.hid ho.lt
    have XO_13 := Lib.hid ho
    clear ho hb
    go_wp2_with fail
    refine (CI.out _ _ _ (Rd.of_own XO_13.out HR.out.small) hcapx).mono ?_
    rintro e w4 ⟨Ag, cg, rfl, ho, hb⟩
    have H_14 := Lib.hid (g_chain H_9.out hb)
    clear H_9
    have Gw_15 := Lib.hid (own_below Gw_10.out hb)
    clear Gw_10
    have XOx_16 := Lib.hid (own_below XO_13.out hb)
    clear XO_13
    have sz_17 := Lib.hid (Below.size hb)
    have RG_18 := Lib.hid ho.lt
    have G_19 := Lib.hid ho
    clear ho hb
    go_wp2_with fail
    refine (CV.out _ _ _ _ _ (SlI.of_own G_19.out) (SlI.of_own Gw_15.out)).mono ?_
    rintro e w5 ⟨rfl, hb⟩
    have H_20 := Lib.hid (g_chain H_14.out hb)
    clear H_14
    have Gw_21 := Lib.hid (own_below Gw_15.out hb)
    clear Gw_15
    have XOx_22 := Lib.hid (own_below XOx_16.out hb)
    clear XOx_16
    have Gg_23 := Lib.hid (own_below G_19.out hb)
    clear G_19
    have sz_24 := Lib.hid (Below.size hb)
    clear hb
    go_wp2_with fail
    refine (CC.out _ H_20.out).mono ?_
    rintro e w6 ⟨A3, c3, rfl, ho, hb⟩
    have H_25 := Lib.hid (g_chain H_20.out hb)
    clear H_20
    have Gw_26 := Lib.hid (own_below Gw_21.out hb)
    clear Gw_21
    have XOx_27 := Lib.hid (own_below XOx_22.out hb)
    clear XOx_22
    have Gg_28 := Lib.hid (own_below Gg_23.out hb)
    clear Gg_23
    have sz_29 := Lib.hid (Below.size hb)
    have T3_30 := Lib.hid (Rd.of_own ho HR.out.small)
    clear ho hb
    go_wp2_with fail
    refine (CQ.out _ _ _ _ _ (Rd.of_own XOx_27.out HR.out.small) T3_30.out).mono ?_
    rintro e w7 ⟨rfl, hb⟩
    have H_31 := Lib.hid (g_chain H_25.out hb)
    clear H_25
    have Gw_32 := Lib.hid (own_below Gw_26.out hb)
    clear Gw_26
    have XOx_33 := Lib.hid (own_below XOx_27.out hb)
    clear XOx_27
    have Gg_34 := Lib.hid (own_below Gg_28.out hb)
    clear Gg_28
    have T3_35 := Lib.hid (T3_30.out.below hb)
    clear T3_30
    have sz_36 := Lib.hid (Below.size hb)
    clear hb
    go_wp2_with fail
    refine (CK.out _ _ _ _ XOx_33.out).mono ?_
    rintro e w8 ⟨rfl, -, hg⟩
    have H_37 := Lib.hid (H_31.out.grown hg H_31.out.size (fun j hj => by have := RX_12.out j hj; have := sz_3.out; have := sz_6.out; have := sz_11.out; have := sz_17.out; have := sz_24.out; have := sz_29.out; have := sz_36.out; omega))
    clear H_31
    have Gw_38 := Lib.hid (own_far Gw_32.out hg RG_7.out RX_12.out (by have := sz_3.out; have := sz_6.out; have := sz_11.out; have := sz_17.out; have := sz_24.out; have := sz_29.out; have := sz_36.out; omega))
    clear Gw_32
    have Gg_40 := Lib.hid (own_far Gg_34.out hg RG_18.out RX_12.out (by have := sz_3.out; have := sz_6.out; have := sz_11.out; have := sz_17.out; have := sz_24.out; have := sz_29.out; have := sz_36.out; omega))
    clear Gg_34
    have sz_41 := Lib.hid (World.grownBy.size hg)
    clear hg
    go_wp2_with fail
    refine (CV.out _ _ _ _ _ (SlI.of_own Gg_40.out) (SlI.of_own Gw_38.out)).mono ?_
    rintro e w9 ⟨rfl, hb⟩
    have H_42 := Lib.hid (g_chain H_37.out hb)
    clear H_37
    have Gw_43 := Lib.hid (own_below Gw_38.out hb)
    clear Gw_38
    have Gg_44 := Lib.hid (own_below Gg_40.out hb)
    clear Gg_40
    have sz_45 := Lib.hid (Below.size hb)
    clear hb
    go_wp2_with fail
    refine (CN.out _ _ _ _ Gg_44.out).mono ?_
    rintro e w10 ⟨rfl, hmk, hg⟩
    have H_46 := Lib.hid (H_42.out.grown hg H_42.out.size (fun j hj => by have := RG_18.out j hj; have := sz_3.out; have := sz_6.out; have := sz_11.out; have := sz_17.out; have := sz_24.out; have := sz_29.out; have := sz_36.out; have := sz_41.out; have := sz_45.out; omega))
    clear H_42
    have Gw_47 := Lib.hid (own_far Gw_43.out hg RG_7.out RG_18.out (by have := sz_3.out; have := sz_6.out; have := sz_11.out; have := sz_17.out; have := sz_24.out; have := sz_29.out; have := sz_36.out; have := sz_41.out; have := sz_45.out; omega))
    clear Gw_43
    have sz_49 := Lib.hid (World.grownBy.size hg)
    have M_50 := Lib.hid (SlI.of_own hmk)
    clear hg hmk
    go_wp2_with fail
    refine (CH.out _ _ _ M_50.out).mono ?_
    rintro e w11 ⟨rfl, hb⟩
    have H_51 := Lib.hid (g_chain H_46.out hb)
    clear H_46
    have Gw_52 := Lib.hid (own_below Gw_47.out hb)
    clear Gw_47
    have M_53 := Lib.hid (M_50.out.below hb)
    clear M_50
    have sz_54 := Lib.hid (Below.size hb)
    clear hb
    go_wp2_with fail
    refine (CC.out _ H_51.out).mono ?_
    rintro e w12 ⟨Ay, cy, rfl, ho, hb⟩
    have H_55 := Lib.hid (g_chain H_51.out hb)
    clear H_51
    have Gw_56 := Lib.hid (own_below Gw_52.out hb)
    clear Gw_52
    have M_57 := Lib.hid (M_53.out.below hb)
    clear M_53
    have sz_58 := Lib.hid (Below.size hb)
    have hcapy := own_cap ho
    have Ty_59 := Lib.hid (Rd.of_own ho HR.out.small)
    clear ho hb
    go_wp2_with fail
    refine (CI.out _ _ _ Ty_59.out hcapy).mono ?_
    rintro e w13 ⟨Ah, ch, rfl, ho, hb⟩
    have H_60 := Lib.hid (g_chain H_55.out hb)
    clear H_55
    have Gw_61 := Lib.hid (own_below Gw_56.out hb)
    clear Gw_56
    have M_62 := Lib.hid (M_57.out.below hb)
    clear M_57
    have sz_63 := Lib.hid (Below.size hb)
    have RG_64 := Lib.hid ho.lt
    have G_65 := Lib.hid ho
    clear ho hb
    go_wp2_with fail
    refine (CV.out _ _ _ _ _ (SlI.of_own G_65.out) (SlI.of_own Gw_61.out)).mono ?_
    rintro e w14 ⟨rfl, hb⟩
    have H_66 := Lib.hid (g_chain H_60.out hb)
    clear H_60
    have Gw_67 := Lib.hid (own_below Gw_61.out hb)
    clear Gw_61
    have M_68 := Lib.hid (M_62.out.below hb)
    clear M_62
    have Gh_69 := Lib.hid (own_below G_65.out hb)
    clear G_65
    have sz_70 := Lib.hid (Below.size hb)
    clear hb
    go_wp2_with fail
    refine (CH.out _ _ _ M_68.out).mono ?_
    rintro e w15 ⟨rfl, hb⟩
    have H_71 := Lib.hid (g_chain H_66.out hb)
    clear H_66
    have Gw_72 := Lib.hid (own_below Gw_67.out hb)
    clear Gw_67
    have M_73 := Lib.hid (M_68.out.below hb)
    clear M_68
    have Gh_74 := Lib.hid (own_below Gh_69.out hb)
    clear Gh_69
    have sz_75 := Lib.hid (Below.size hb)
    clear hb
    go_wp2
    go_ret
    exact ⟨rfl, H_71.out⟩
  · go_enter Try.func9, Try.ntmps9
    go_wp2
    go_ret
    exact ⟨rfl, Below.refl _ _⟩
end Go.Proofs.Ytmbabbapcjphgaa
