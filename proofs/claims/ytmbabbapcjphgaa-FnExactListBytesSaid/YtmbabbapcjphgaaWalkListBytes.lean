/- The walk of the law FnExactListBytes: it returns true and writes nothing that was there. -/
import Derived.Test.YtmbabbapcjphgaaPackRes
import Derived.Test.YtmbabbapcjphgaaListI
import Derived.Test.YtmbabbapcjphgaaListS
import Derived.Test.YtmbabbapcjphgaaKHold
import Derived.Test.YtmbabbapcjphgaaIntArg
import Derived.Test.YtmbabbapcjphgaaLawInts
namespace Go.Proofs.Ytmbabbapcjphgaa
open Go.RowKit

set_option maxRecDepth 20000 in
set_option maxHeartbeats 8000000 in
theorem walkListBytes (E : Option Addr) (m d : Nat) (l : List Int) (w : World) (hie : IntsIn w E m d l) :
    Calls Try.prog 8 #[.slice E m d] w fun e w' => e = .returned (.bool true) ∧ Below w.heap.size w w' := by
  have HI := Lib.hid hie.g
  by_cases hm : m ≤ 1048576
  · skip
    have hln := hie.g.len
    have CC := Lib.hid (fun W (h : Below w.heap.size w W) => copyInts_any E m d l W (HI.out.below h) (by omega))
    have CQ := Lib.hid (fun W A A' c c' (h1 : SlI W A m l) (h2 : SlI W A' m l) => eqInts_any A A' m c c' l W h1 h2 (by omega))
    have CK := Lib.hid (fun W b A c (h : OwI W b A m c l) => markInts_any A m c b 1 l W h (by omega) (by omega))
    have CS := Lib.hid (fun W E d (h2 : SlI W E m l) => specListBytes E m d l W h2 hm)
    have CI := Lib.hid (fun W E d (h2 : SlI W E m l) => implListBytes E m d l W h2 hm)
    have HSM : Hid (∀ b ∈ (listY l), b < 256) := Lib.hid (listY_small l)
    have hyl : ((listY l)).length ≤ 2807 := listY_len l
    generalize (listY l) = ys at CS CI HSM hyl
    generalize (listOk l) = rb at CS CI
    have CV := Lib.hid (fun W A A' c c' (h1 : Rd W A ys.length ys) (h2 : Rd W A' ys.length ys) => eqY_any A A' ys.length c c' ys W h1 h2 (by omega))
    have CN := Lib.hid (fun W b A c (h : W.ownsRow b 5 1 (.slice A ys.length c) ys.length (vb ys)) => mark_any A ys.length c b ys W h (by omega))
    have CH := Lib.hid (fun W A c (h : Rd W A ys.length (marks ys.length)) => heldY_any A ys.length c W h (by omega))
    have hrb : (rb == rb) = true := by simp
    have hk5 : (0 : Int) ≤ ((1 + m : Nat) : Int) := by omega
    generalize 1 + m = kb at CK hk5
    clear hie hln
    go_enter Try.func8, Try.ntmps8
    have H_1 := Lib.hid (Below.refl w.heap.size w)
    go_wp2_with fail
    refine (CC.out _ H_1.out).mono ?_
    rintro e w1 ⟨Ep, dp, rfl, hoe, hb⟩
    have H_2 := Lib.hid (g_chain H_1.out hb)
    clear H_1
    have sz_3 := Lib.hid (Below.size hb)
    have Sp_4 := Lib.hid (SlI.of_own hoe)
    clear hoe hb
    go_wp2_with fail
    refine (CS.out _ _ _ Sp_4.out).mono ?_
    rintro e w2 ⟨Aw, cw, rfl, ho, hb⟩
    have H_5 := Lib.hid (g_chain H_2.out hb)
    clear H_2
    have sz_6 := Lib.hid (Below.size hb)
    have RG_7 := Lib.hid ho.lt
    have G_8 := Lib.hid ho
    clear ho hb
    go_wp2_with fail
    refine (CC.out _ H_5.out).mono ?_
    rintro e w3 ⟨Ex, dx, rfl, hoe, hb⟩
    have H_9 := Lib.hid (g_chain H_5.out hb)
    clear H_5
    have Gw_10 := Lib.hid (own_below G_8.out hb)
    clear G_8
    have sz_11 := Lib.hid (Below.size hb)
    have RE_12 := Lib.hid hoe.lt
    have EO_13 := Lib.hid hoe
    clear hoe hb
    go_wp2_with fail
    refine (CI.out _ _ _ (SlI.of_own EO_13.out)).mono ?_
    rintro e w4 ⟨Ag, cg, rfl, ho, hb⟩
    have H_14 := Lib.hid (g_chain H_9.out hb)
    clear H_9
    have Gw_15 := Lib.hid (own_below Gw_10.out hb)
    clear Gw_10
    have EOx_16 := Lib.hid (own_below EO_13.out hb)
    clear EO_13
    have sz_17 := Lib.hid (Below.size hb)
    have RG_18 := Lib.hid ho.lt
    have G_19 := Lib.hid ho
    clear ho hb
    go_wp2_with fail
    refine (CV.out _ _ _ _ _ (Rd.of_own G_19.out HSM.out) (Rd.of_own Gw_15.out HSM.out)).mono ?_
    rintro e w5 ⟨rfl, hb⟩
    have H_20 := Lib.hid (g_chain H_14.out hb)
    clear H_14
    have Gw_21 := Lib.hid (own_below Gw_15.out hb)
    clear Gw_15
    have EOx_22 := Lib.hid (own_below EOx_16.out hb)
    clear EOx_16
    have Gg_23 := Lib.hid (own_below G_19.out hb)
    clear G_19
    have sz_24 := Lib.hid (Below.size hb)
    clear hb
    go_wp2_with fail
    refine (CC.out _ H_20.out).mono ?_
    rintro e w6 ⟨E3, d3, rfl, hoe, hb⟩
    have H_25 := Lib.hid (g_chain H_20.out hb)
    clear H_20
    have Gw_26 := Lib.hid (own_below Gw_21.out hb)
    clear Gw_21
    have EOx_27 := Lib.hid (own_below EOx_22.out hb)
    clear EOx_22
    have Gg_28 := Lib.hid (own_below Gg_23.out hb)
    clear Gg_23
    have sz_29 := Lib.hid (Below.size hb)
    have S3_30 := Lib.hid (SlI.of_own hoe)
    clear hoe hb
    go_wp2_with fail
    refine (CQ.out _ _ _ _ _ (SlI.of_own EOx_27.out) S3_30.out).mono ?_
    rintro e w7 ⟨rfl, hb⟩
    have H_31 := Lib.hid (g_chain H_25.out hb)
    clear H_25
    have Gw_32 := Lib.hid (own_below Gw_26.out hb)
    clear Gw_26
    have EOx_33 := Lib.hid (own_below EOx_27.out hb)
    clear EOx_27
    have Gg_34 := Lib.hid (own_below Gg_28.out hb)
    clear Gg_28
    have S3_35 := Lib.hid (S3_30.out.below hb)
    clear S3_30
    have sz_36 := Lib.hid (Below.size hb)
    clear hb
    go_wp2_with fail
    refine (CK.out _ _ _ _ EOx_33.out).mono ?_
    rintro e w8 ⟨rfl, -, hg⟩
    have H_37 := Lib.hid (H_31.out.grown hg H_31.out.size (fun j hj => by have := RE_12.out j hj; have := sz_3.out; have := sz_6.out; have := sz_11.out; have := sz_17.out; have := sz_24.out; have := sz_29.out; have := sz_36.out; omega))
    clear H_31
    have Gw_38 := Lib.hid (own_far Gw_32.out hg RG_7.out RE_12.out (by have := sz_3.out; have := sz_6.out; have := sz_11.out; have := sz_17.out; have := sz_24.out; have := sz_29.out; have := sz_36.out; omega))
    clear Gw_32
    have Gg_40 := Lib.hid (own_far Gg_34.out hg RG_18.out RE_12.out (by have := sz_3.out; have := sz_6.out; have := sz_11.out; have := sz_17.out; have := sz_24.out; have := sz_29.out; have := sz_36.out; omega))
    clear Gg_34
    have sz_41 := Lib.hid (World.grownBy.size hg)
    clear hg
    go_wp2_with fail
    refine (CV.out _ _ _ _ _ (Rd.of_own Gg_40.out HSM.out) (Rd.of_own Gw_38.out HSM.out)).mono ?_
    rintro e w9 ⟨rfl, hb⟩
    have H_42 := Lib.hid (g_chain H_37.out hb)
    clear H_37
    have Gw_43 := Lib.hid (own_below Gw_38.out hb)
    clear Gw_38
    have Gg_44 := Lib.hid (own_below Gg_40.out hb)
    clear Gg_40
    have sz_45 := Lib.hid (Below.size hb)
    clear hb
    go_wp2_with fail
    refine (CN.out _ _ _ _ Gg_44.out).mono ?_
    rintro e w10 ⟨rfl, hmk, hg⟩
    have H_46 := Lib.hid (H_42.out.grown hg H_42.out.size (fun j hj => by have := RG_18.out j hj; have := sz_3.out; have := sz_6.out; have := sz_11.out; have := sz_17.out; have := sz_24.out; have := sz_29.out; have := sz_36.out; have := sz_41.out; have := sz_45.out; omega))
    clear H_42
    have Gw_47 := Lib.hid (own_far Gw_43.out hg RG_7.out RG_18.out (by have := sz_3.out; have := sz_6.out; have := sz_11.out; have := sz_17.out; have := sz_24.out; have := sz_29.out; have := sz_36.out; have := sz_41.out; have := sz_45.out; omega))
    clear Gw_43
    have sz_49 := Lib.hid (World.grownBy.size hg)
    have M_50 := Lib.hid (Rd.of_own hmk (marks_small _))
    clear hg hmk
    go_wp2_with fail
    refine (CH.out _ _ _ M_50.out).mono ?_
    rintro e w11 ⟨rfl, hb⟩
    have H_51 := Lib.hid (g_chain H_46.out hb)
    clear H_46
    have Gw_52 := Lib.hid (own_below Gw_47.out hb)
    clear Gw_47
    have M_53 := Lib.hid (M_50.out.below hb)
    clear M_50
    have sz_54 := Lib.hid (Below.size hb)
    clear hb
    go_wp2_with fail
    refine (CC.out _ H_51.out).mono ?_
    rintro e w12 ⟨Ey, dy, rfl, hoe, hb⟩
    have H_55 := Lib.hid (g_chain H_51.out hb)
    clear H_51
    have Gw_56 := Lib.hid (own_below Gw_52.out hb)
    clear Gw_52
    have M_57 := Lib.hid (M_53.out.below hb)
    clear M_53
    have sz_58 := Lib.hid (Below.size hb)
    have Sy_59 := Lib.hid (SlI.of_own hoe)
    clear hoe hb
    go_wp2_with fail
    refine (CI.out _ _ _ Sy_59.out).mono ?_
    rintro e w13 ⟨Ah, ch, rfl, ho, hb⟩
    have H_60 := Lib.hid (g_chain H_55.out hb)
    clear H_55
    have Gw_61 := Lib.hid (own_below Gw_56.out hb)
    clear Gw_56
    have M_62 := Lib.hid (M_57.out.below hb)
    clear M_57
    have sz_63 := Lib.hid (Below.size hb)
    have RG_64 := Lib.hid ho.lt
    have G_65 := Lib.hid ho
    clear ho hb
    go_wp2_with fail
    refine (CV.out _ _ _ _ _ (Rd.of_own G_65.out HSM.out) (Rd.of_own Gw_61.out HSM.out)).mono ?_
    rintro e w14 ⟨rfl, hb⟩
    have H_66 := Lib.hid (g_chain H_60.out hb)
    clear H_60
    have Gw_67 := Lib.hid (own_below Gw_61.out hb)
    clear Gw_61
    have M_68 := Lib.hid (M_62.out.below hb)
    clear M_62
    have Gh_69 := Lib.hid (own_below G_65.out hb)
    clear G_65
    have sz_70 := Lib.hid (Below.size hb)
    clear hb
    go_wp2_with fail
    refine (CH.out _ _ _ M_68.out).mono ?_
    rintro e w15 ⟨rfl, hb⟩
    have H_71 := Lib.hid (g_chain H_66.out hb)
    clear H_66
    have Gw_72 := Lib.hid (own_below Gw_67.out hb)
    clear Gw_67
    have M_73 := Lib.hid (M_68.out.below hb)
    clear M_68
    have Gh_74 := Lib.hid (own_below Gh_69.out hb)
    clear Gh_69
    have sz_75 := Lib.hid (Below.size hb)
    clear hb
    go_wp2
    go_ret
    exact ⟨rfl, H_71.out⟩
  · have hm2 : (1048576 : Int) < (m : Int) := by omega
    clear hie HI
    go_enter Try.func8, Try.ntmps8
    go_wp2
    go_ret
    exact ⟨rfl, by first | exact Below.refl _ _ | exact below_a1 w _⟩
end Go.Proofs.Ytmbabbapcjphgaa
