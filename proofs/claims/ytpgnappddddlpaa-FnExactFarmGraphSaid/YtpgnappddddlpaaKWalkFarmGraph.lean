/- The walk of the law FnExactFarmGraph: it returns true and writes nothing that was there. -/
import Derived.Test.YtpgnappddddlpaaCGG
import Derived.Test.YtpgnappddddlpaaCGI
import Derived.Deep.Cut
import Derived.Deep.RegionHeld3
import Derived.Deep.RegionWith
namespace Go.Proofs.Ytpgnappddddlpaa
open Go.RowKit
set_option linter.unusedVariables false

theorem held_nameK {P : Program} {md : Region.Mode} {ops : Array Oper} {Q : Exit → Act → World → Prop} {S : World → Prop} {fuel : Nat} {listed : Array Bool} {a : Act} {w : World} (hS : S w) (h : S w → wpAnyH P md ops Q S fuel listed a w) : wpAnyH P md ops Q S fuel listed a w := h hS
set_option maxRecDepth 20000 in
set_option maxHeartbeats 16000000 in
theorem walkFarmGraph (N : Int) (AE : Option Addr) (nE cE : Nat) (AS : Option Addr) (nS cS : Nat) (es : List Int) (bs : List HE) (w : World) (hf : FarmIn w N AE nE cE AS nS cS es bs) :
    Calls Try.prog 6 #[.agg #[.int .i64 N, .slice AE nE cE, .slice AS nS cS]] w fun e w' => e = .returned (.bool true) ∧ Below w.heap.size w w' := by
  obtain rfl := hf.e.g.len
  obtain rfl := hf.s.g.len
  have B0H : Hid (Below w.heap.size w (w.alloc (.cells #[.int .i64 N, .slice AE es.length cE, .slice AS bs.length cS] 46))) := Lib.hid (below_a1 _ _)
  have B00 : Hid (Blk (w.alloc (.cells #[.int .i64 N, .slice AE es.length cE, .slice AS bs.length cS] 46)) (w.heap.size) #[.int .i64 N, .slice AE es.length cE, .slice AS bs.length cS] 46) := Lib.hid (by have h := Blk.new w #[.int .i64 N, .slice AE es.length cE, .slice AS bs.length cS] 46; simpa using h)
  have CZ0 : Hid (∀ W, Below w.heap.size w W → Calls _ _ _ W _) := Lib.hid (fun W h => szFarm_any N AE es.length cE AS bs.length cS bs 1048576 W (hf.s.g.below h) hf.e.l hf.s.l hf.s.e (by omega) (by omega))
  by_cases hb0 : (((es.length + (bs.length + sumH bs)) : Nat) : Int) ≤ 1048576
  rotate_left
  · skip
    rw [leftG_neg (by omega)] at CZ0
    clear hf hb0
    go_enter Try.func6, Try.ntmps6
    have y0_0 := B00.out.cell (i := 0) rfl
    have y0_1 := B00.out.cell (i := 1) rfl
    have y0_2 := B00.out.cell (i := 2) rfl
    go_wp2_with fail
    refine (CZ0.out _ B0H.out).mono ?_
    rintro e wz0 ⟨rfl, hba⟩
    have HA0 := Lib.hid (g_chain B0H.out hba)
    clear hba y0_0 y0_1 y0_2
    go_wp2
    go_ret
    exact ⟨rfl, HA0.out⟩
  rw [leftG_pos hb0] at CZ0
  have hp0 : (0 : Int) ≤ 1048576 - (((es.length + (bs.length + sumH bs)) : Nat) : Int) := by omega
  have hq0 : 1048576 - (((es.length + (bs.length + sumH bs)) : Nat) : Int) ≤ 1048576 := by omega
  have hes : es.length ≤ 1048576 := by omega
  have hlens : ∀ d ∈ bs, d.es.length = d.n := fun d hd => (hf.s.g.each d hd).rd.len
  have hsz : (sdL bs).length + (flatK (sdL bs)).length ≤ 1048576 := by rw [← sum_flat (bs := bs) (ls := sdL bs) rfl hlens, sdL_len]; omega
  have hsm := HSm.of (M := 1048576) (n := bs.length) rfl hlens rfl hsz
  have hbl : bs.length ≤ 1048576 := by omega
  have CTF : Hid (∀ W, Below w.heap.size w W → Calls Try.prog 24 #[.agg #[.int .i64 N, .slice AE es.length cE, .slice AS bs.length cS]] W (MadeF W N es (sdL bs))) := Lib.hid (fun W h => toFarm_any N AE es.length cE AS bs.length cS es bs W (hf.e.g.below h) (hf.s.g.below h) (by omega) (by omega) (fun e he => by have := hsm.e e he; omega))
  have HSA := Lib.hid hsz
  unfold MadeF at CTF
  generalize (1048576 : Int) - (((es.length + (bs.length + sumH bs)) : Nat) : Int) = q0 at CZ0 hp0
  generalize sdL bs = ls at CTF HSA
  have CEFarm := Lib.hid (fun W lo l h (Af1 : Option Addr) (cf1 : Nat) (Bf1 : Option Addr) (df1 : Nat) lo' l' h' (Af2 : Option Addr) (cf2 : Nat) (Bf2 : Option Addr) (df2 : Nat) (h1 : FOwn W lo l h Af1 es.length cf1 Bf1 ls.length df1 es ls) (h2 : FOwn W lo' l' h' Af2 es.length cf2 Bf2 ls.length df2 es ls) => eqFarm_any N Af1 es.length cf1 Bf1 ls.length df1 Af2 cf2 Bf2 df2 es ls W h1.rd h2.rd (by omega) HSA.out)
  have CMFarm := Lib.hid (fun W lo l h (Af1 : Option Addr) (cf1 : Nat) (Bf1 : Option Addr) (df1 : Nat) (h1 : FOwn W lo l h Af1 es.length cf1 Bf1 ls.length df1 es ls) => markFarm_any N Af1 es.length cf1 Bf1 ls.length df1 lo l h 1 es ls W h1 (by omega) HSA.out (by omega))
  unfold MarkedF at CMFarm
  have CS := Lib.hid (fun W lo1 l1 h1 (Af1 : Option Addr) (cf1 : Nat) (Bf1 : Option Addr) (df1 : Nat) (hk1 : FOwn W lo1 l1 h1 Af1 es.length cf1 Bf1 ls.length df1 es ls) => specFarmGraph_k N Af1 es.length cf1 es Bf1 ls.length df1 ls W hk1.rd (by omega) HSA.out)
  have CI := Lib.hid (fun W lo1 l1 h1 (Af1 : Option Addr) (cf1 : Nat) (Bf1 : Option Addr) (df1 : Nat) (hk1 : FOwn W lo1 l1 h1 Af1 es.length cf1 Bf1 ls.length df1 es ls) => implFarmGraph_k N Af1 es.length cf1 es Bf1 ls.length df1 ls W hk1.rd (by omega) HSA.out)
  unfold MadeGr at CS CI
  have hrl : (farmG N es ls).length ≤ 400 := farmG_len N es ls
  generalize farmN N es ls = rN at CS CI
  generalize farmG N es ls = rG at CS CI hrl
  have CER := Lib.hid (fun W lo l h (Ag1 : Option Addr) (cg1 : Nat) lo' l' h' (Ag2 : Option Addr) (cg2 : Nat) (h1 : GOwn W lo l h Ag1 rG.length cg1 rG) (h2 : GOwn W lo' l' h' Ag2 rG.length cg2 rG) => eqGraph_any rN Ag1 Ag2 rG.length cg1 cg2 rG W (SlG.of_own h1.e rfl) (SlG.of_own h2.e rfl) (by omega))
  have CMR := Lib.hid (fun W lo l h (Ag1 : Option Addr) (cg1 : Nat) (h1 : GOwn W lo l h Ag1 rG.length cg1 rG) => markG_k rN Ag1 rG.length cg1 lo l h 1 rG W h1 rfl (by omega) (by omega))
  have CHR := Lib.hid (fun W (Ag1 : Option Addr) (cg1 : Nat) (h1 : GMk W 1 Ag1 rG.length) => heldG_k rN Ag1 rG.length cg1 1 W h1 (by omega) (by omega))
  have hkk : (0 : Int) ≤ (((1 + 3 * rG.length) : Nat) : Int) := by omega
  generalize 1 + 3 * rG.length = kr at CMR CHR hkk
  have hka0 : (0 : Int) ≤ (((endFm 1 es ls) : Nat) : Int) := by omega
  generalize endFm 1 es ls = ka0 at CMFarm hka0
  clear hf hb0 hq0 hsz hsm hlens hbl
  have H_1 := Lib.hid (B0H.out)
  have Bfarm_2 := Lib.hid (B00.out)
  clear B0H B00
  have sz_3 : Hid (w.heap.size + 1 ≤ (w.alloc (.cells #[.int .i64 N, .slice AE es.length cE, .slice AS bs.length cS] 46)).heap.size) := Lib.hid (by simp)
  go_enter Try.func6, Try.ntmps6
  have x_4 := Bfarm_2.out.cell (i := 0) rfl
  have x_5 := Bfarm_2.out.cell (i := 1) rfl
  have x_6 := Bfarm_2.out.cell (i := 2) rfl
  have lt_7 := Bfarm_2.out.lt
  go_wp2_with fail
  refine (CZ0.out _ H_1.out).mono ?_
  rintro e w1 ⟨rfl, hb⟩
  clear x_4 x_5 x_6 lt_7
  have H_8 := Lib.hid (g_chain H_1.out hb)
  clear H_1
  have Bfarm_9 := Lib.hid (Bfarm_2.out.below hb)
  clear Bfarm_2
  have sz_10 := Lib.hid (Below.size hb)
  clear hb
  have x_11 := Bfarm_9.out.cell (i := 0) rfl
  have x_12 := Bfarm_9.out.cell (i := 1) rfl
  have x_13 := Bfarm_9.out.cell (i := 2) rfl
  have lt_14 := Bfarm_9.out.lt
  go_wp2_with fail
  refine (CTF.out _ H_8.out).mono ?_
  rintro e w2 ⟨Afp, cfp, Bfp, dfp, rfl, ho, hb⟩
  clear x_11 x_12 x_13 lt_14
  have H_15 := Lib.hid (g_chain H_8.out hb)
  clear H_8
  have Bfarm_16 := Lib.hid (Bfarm_9.out.below hb)
  clear Bfarm_9
  have sz_17 := Lib.hid (Below.size hb)
  have farmp_18 := Lib.hid (ho)
  clear hb
  clear ho
  go_wp2_with fail
  refine (CS.out _ _ _ _ _ _ _ _ farmp_18.out).mono ?_
  rintro e w3 ⟨Agw, cgw, rfl, ho, hb⟩
  have H_19 := Lib.hid (g_chain H_15.out hb)
  clear H_15
  have Bfarm_20 := Lib.hid (Bfarm_16.out.below hb)
  clear Bfarm_16
  have farmp_21 := Lib.hid (farmp_18.out.below hb)
  clear farmp_18
  have sz_22 := Lib.hid (Below.size hb)
  have Rw_23 := Lib.hid (GOwn.of ho)
  clear hb
  clear ho
  have hb := below_a1 w3 (.cells #[.int .i64 rN, .slice Agw rG.length cgw] 58)
  have sz_24 := Lib.hid (Blk.lt Bfarm_20.out)
  have H_25 := Lib.hid (g_chain H_19.out hb)
  clear H_19
  have Bfarm_26 := Lib.hid (Bfarm_20.out.below hb)
  clear Bfarm_20
  have farmp_27 := Lib.hid (farmp_21.out.below hb)
  clear farmp_21
  have Rw_28 := Lib.hid (Rw_23.out.below hb)
  clear Rw_23
  have sz_29 := Lib.hid (Below.size hb)
  clear hb
  have Bw_30 := Lib.hid (Blk.new w3 #[.int .i64 rN, .slice Agw rG.length cgw] 58)
  have sz_31 : Hid (w3.heap.size + 1 ≤ (w3.alloc (.cells #[.int .i64 rN, .slice Agw rG.length cgw] 58)).heap.size) := Lib.hid (by simp)
  clear farmp_27
  have x_32 := Bfarm_26.out.cell (i := 0) rfl
  have x_33 := Bfarm_26.out.cell (i := 1) rfl
  have x_34 := Bfarm_26.out.cell (i := 2) rfl
  have lt_35 := Bfarm_26.out.lt
  go_wp2_with fail
  refine (CTF.out _ H_25.out).mono ?_
  rintro e w4 ⟨Afx, cfx, Bfx, dfx, rfl, ho, hb⟩
  clear x_32 x_33 x_34 lt_35
  have H_36 := Lib.hid (g_chain H_25.out hb)
  clear H_25
  have Bfarm_37 := Lib.hid (Bfarm_26.out.below hb)
  clear Bfarm_26
  have Rw_38 := Lib.hid (Rw_28.out.below hb)
  clear Rw_28
  have Bw_39 := Lib.hid (Bw_30.out.below hb)
  clear Bw_30
  have sz_40 := Lib.hid (Below.size hb)
  have farmx_41 := Lib.hid (ho)
  clear hb
  clear ho
  have hb := below_a1 w4 (.cells #[.int .i64 N, .slice Afx es.length cfx, .slice Bfx ls.length dfx] 26)
  have sz_42 := Lib.hid (Blk.lt Bfarm_37.out)
  have sz_43 := Lib.hid (Blk.lt Bw_39.out)
  have H_44 := Lib.hid (g_chain H_36.out hb)
  clear H_36
  have Bfarm_45 := Lib.hid (Bfarm_37.out.below hb)
  clear Bfarm_37
  have Rw_46 := Lib.hid (Rw_38.out.below hb)
  clear Rw_38
  have Bw_47 := Lib.hid (Bw_39.out.below hb)
  clear Bw_39
  have farmx_48 := Lib.hid (farmx_41.out.below hb)
  clear farmx_41
  have sz_49 := Lib.hid (Below.size hb)
  clear hb
  have Xfarm_50 := Lib.hid (Blk.new w4 #[.int .i64 N, .slice Afx es.length cfx, .slice Bfx ls.length dfx] 26)
  have sz_51 : Hid (w4.heap.size + 1 ≤ (w4.alloc (.cells #[.int .i64 N, .slice Afx es.length cfx, .slice Bfx ls.length dfx] 26)).heap.size) := Lib.hid (by simp)
  have x_52 := Xfarm_50.out.cell (i := 0) rfl
  have x_53 := Xfarm_50.out.cell (i := 1) rfl
  have x_54 := Xfarm_50.out.cell (i := 2) rfl
  have lt_55 := Xfarm_50.out.lt
  go_wp2_with fail
  refine (CI.out _ _ _ _ _ _ _ _ farmx_48.out).mono ?_
  rintro e w5 ⟨Agg, cgg, rfl, ho, hb⟩
  clear x_52 x_53 x_54 lt_55
  have H_56 := Lib.hid (g_chain H_44.out hb)
  clear H_44
  have Bfarm_57 := Lib.hid (Bfarm_45.out.below hb)
  clear Bfarm_45
  have Rw_58 := Lib.hid (Rw_46.out.below hb)
  clear Rw_46
  have Bw_59 := Lib.hid (Bw_47.out.below hb)
  clear Bw_47
  have farmx_60 := Lib.hid (farmx_48.out.below hb)
  clear farmx_48
  have Xfarm_61 := Lib.hid (Xfarm_50.out.below hb)
  clear Xfarm_50
  have sz_62 := Lib.hid (Below.size hb)
  have Rg_63 := Lib.hid (GOwn.of ho)
  clear hb
  clear ho
  have hb := below_a1 w5 (.cells #[.int .i64 rN, .slice Agg rG.length cgg] 58)
  have sz_64 := Lib.hid (Blk.lt Bfarm_57.out)
  have sz_65 := Lib.hid (Blk.lt Bw_59.out)
  have sz_66 := Lib.hid (Blk.lt Xfarm_61.out)
  have H_67 := Lib.hid (g_chain H_56.out hb)
  clear H_56
  have Bfarm_68 := Lib.hid (Bfarm_57.out.below hb)
  clear Bfarm_57
  have Rw_69 := Lib.hid (Rw_58.out.below hb)
  clear Rw_58
  have Bw_70 := Lib.hid (Bw_59.out.below hb)
  clear Bw_59
  have farmx_71 := Lib.hid (farmx_60.out.below hb)
  clear farmx_60
  have Xfarm_72 := Lib.hid (Xfarm_61.out.below hb)
  clear Xfarm_61
  have Rg_73 := Lib.hid (Rg_63.out.below hb)
  clear Rg_63
  have sz_74 := Lib.hid (Below.size hb)
  clear hb
  have Bg_75 := Lib.hid (Blk.new w5 #[.int .i64 rN, .slice Agg rG.length cgg] 58)
  have sz_76 : Hid (w5.heap.size + 1 ≤ (w5.alloc (.cells #[.int .i64 rN, .slice Agg rG.length cgg] 58)).heap.size) := Lib.hid (by simp)
  have x_77 := Bg_75.out.cell (i := 0) rfl
  have x_78 := Bg_75.out.cell (i := 1) rfl
  have lt_79 := Bg_75.out.lt
  have x_80 := Bw_70.out.cell (i := 0) rfl
  have x_81 := Bw_70.out.cell (i := 1) rfl
  have lt_82 := Bw_70.out.lt
  go_wp2_with fail
  refine (CER.out _ _ _ _ _ _ _ _ _ _ _ Rg_73.out Rw_69.out).mono ?_
  rintro e w6 ⟨rfl, hb⟩
  clear x_77 x_78 lt_79 x_80 x_81 lt_82
  have H_83 := Lib.hid (g_chain H_67.out hb)
  clear H_67
  have Bfarm_84 := Lib.hid (Bfarm_68.out.below hb)
  clear Bfarm_68
  have Rw_85 := Lib.hid (Rw_69.out.below hb)
  clear Rw_69
  have Bw_86 := Lib.hid (Bw_70.out.below hb)
  clear Bw_70
  have farmx_87 := Lib.hid (farmx_71.out.below hb)
  clear farmx_71
  have Xfarm_88 := Lib.hid (Xfarm_72.out.below hb)
  clear Xfarm_72
  have Rg_89 := Lib.hid (Rg_73.out.below hb)
  clear Rg_73
  have Bg_90 := Lib.hid (Bg_75.out.below hb)
  clear Bg_75
  have sz_91 := Lib.hid (Below.size hb)
  clear hb
  go_upto_region 10 with fail
  refine wp_region_any (by kernel_rfl) ?_
  change wpAny _ _ _ _ _ _ _ (World.drew _)
  have hb : Below w6.heap.size w6 (World.drew w6) := (Below.refl _ _).drew
  have H_92 := Lib.hid (g_chain H_83.out hb)
  clear H_83
  have Bfarm_93 := Lib.hid (Bfarm_84.out.below hb)
  clear Bfarm_84
  have Rw_94 := Lib.hid (Rw_85.out.below hb)
  clear Rw_85
  have Bw_95 := Lib.hid (Bw_86.out.below hb)
  clear Bw_86
  have farmx_96 := Lib.hid (farmx_87.out.below hb)
  clear farmx_87
  have Xfarm_97 := Lib.hid (Xfarm_88.out.below hb)
  clear Xfarm_88
  have Rg_98 := Lib.hid (Rg_89.out.below hb)
  clear Rg_89
  have Bg_99 := Lib.hid (Bg_90.out.below hb)
  clear Bg_90
  have sz_100 := Lib.hid (Below.size hb)
  clear hb
  generalize hDD : World.drew w6 = w7 at H_92 Bfarm_93 Rw_94 Bw_95 farmx_96 Xfarm_97 Rg_98 Bg_99 sz_100 ⊢
  clear hDD
  refine wpAny_of_held (S := fun W => W.cell? ⟨w.heap.size, 0, none⟩ = some (.int .i64 N) ∧ W.cell? ⟨w.heap.size, 1, none⟩ = some (.slice AE es.length cE) ∧ W.cell? ⟨w.heap.size, 2, none⟩ = some (.slice AS bs.length cS) ∧ W.cell? ⟨w4.heap.size, 0, none⟩ = some (.int .i64 N) ∧ W.cell? ⟨w4.heap.size, 1, none⟩ = some (.slice Afx es.length cfx) ∧ W.cell? ⟨w4.heap.size, 2, none⟩ = some (.slice Bfx ls.length dfx)) _ _ _ _ ?_
  refine held_nameK ⟨Bfarm_93.out.cell (i := 0) rfl, Bfarm_93.out.cell (i := 1) rfl, Bfarm_93.out.cell (i := 2) rfl, Xfarm_97.out.cell (i := 0) rfl, Xfarm_97.out.cell (i := 1) rfl, Xfarm_97.out.cell (i := 2) rfl⟩ (fun hS => ?_)
  refine wpAnyH_take (i := 0) (oi := ⟨_, _, _, _, _, _⟩) (v := .agg #[.int .i64 N, .slice Afx es.length cfx, .slice Bfx ls.length dfx]) rfl (by kernel_rfl) (by kernel_rfl) (by kernel_rfl) (fun _ _ _ h => h) (Or.inl ⟨by kernel_rfl, fun W hS => by (obtain ⟨s0, s1, s2, s3, s4, s5⟩ := hS); go_simp⟩) hS ?_
  (try simp only [Act.put, List.setIfInBounds_toArray, List.set_cons_zero, List.set_cons_succ])
  refine wpAnyH_take (i := 1) (oi := ⟨_, _, _, _, _, _⟩) (v := .agg #[.int .i64 N, .slice AE es.length cE, .slice AS bs.length cS]) rfl (by kernel_rfl) (by kernel_rfl) (by kernel_rfl) (fun _ _ _ h => h) (Or.inl ⟨by kernel_rfl, fun W hS => by (obtain ⟨s0, s1, s2, s3, s4, s5⟩ := hS); go_simp⟩) hS ?_
  (try simp only [Act.put, List.setIfInBounds_toArray, List.set_cons_zero, List.set_cons_succ])
  refine wpAnyH_ready (rs := [2]) (by kernel_rfl) (by simp) (AllReadyH.cons rfl (fun K hK => ?_) AllReadyH.nil)
  go_simp
  go_at_call 24
  refine (CTF.out _ H_92.out).mono ?_
  rintro e w8 ⟨Afq, cfq, Bfq, dfq, rfl, ho, hb⟩
  have H_101 := Lib.hid (g_chain H_92.out hb)
  clear H_92
  have Bfarm_102 := Lib.hid (Bfarm_93.out.below hb)
  clear Bfarm_93
  have Rw_103 := Lib.hid (Rw_94.out.below hb)
  clear Rw_94
  have Bw_104 := Lib.hid (Bw_95.out.below hb)
  clear Bw_95
  have farmx_105 := Lib.hid (farmx_96.out.below hb)
  clear farmx_96
  have Xfarm_106 := Lib.hid (Xfarm_97.out.below hb)
  clear Xfarm_97
  have Rg_107 := Lib.hid (Rg_98.out.below hb)
  clear Rg_98
  have Bg_108 := Lib.hid (Bg_99.out.below hb)
  clear Bg_99
  have sz_109 := Lib.hid (Below.size hb)
  have farmq_110 := Lib.hid (ho)
  clear ho hb
  dsimp only
  refine hK.out _ _ ⟨Bfarm_102.out.cell (i := 0) rfl, Bfarm_102.out.cell (i := 1) rfl, Bfarm_102.out.cell (i := 2) rfl, Xfarm_106.out.cell (i := 0) rfl, Xfarm_106.out.cell (i := 1) rfl, Xfarm_106.out.cell (i := 2) rfl⟩ (fun hS => ?_)
  clear hK K
  (try simp only [Act.put, List.setIfInBounds_toArray, List.set_cons_zero, List.set_cons_succ])
  refine wpAnyH_ready (rs := [3]) (by kernel_rfl) (by simp) (AllReadyH.cons rfl (fun K hK => ?_) AllReadyH.nil)
  go_simp
  go_at_call 25
  refine (CEFarm.out _ _ _ _ _ _ _ _ _ _ _ _ _ _ _ farmx_105.out farmq_110.out).mono ?_
  rintro e w9 ⟨rfl, hb⟩
  have H_111 := Lib.hid (g_chain H_101.out hb)
  clear H_101
  have Bfarm_112 := Lib.hid (Bfarm_102.out.below hb)
  clear Bfarm_102
  have Rw_113 := Lib.hid (Rw_103.out.below hb)
  clear Rw_103
  have Bw_114 := Lib.hid (Bw_104.out.below hb)
  clear Bw_104
  have farmx_115 := Lib.hid (farmx_105.out.below hb)
  clear farmx_105
  have Xfarm_116 := Lib.hid (Xfarm_106.out.below hb)
  clear Xfarm_106
  have Rg_117 := Lib.hid (Rg_107.out.below hb)
  clear Rg_107
  have Bg_118 := Lib.hid (Bg_108.out.below hb)
  clear Bg_108
  have farmq_119 := Lib.hid (farmq_110.out.below hb)
  clear farmq_110
  have sz_120 := Lib.hid (Below.size hb)
  clear hb
  dsimp only
  refine hK.out _ _ ⟨Bfarm_112.out.cell (i := 0) rfl, Bfarm_112.out.cell (i := 1) rfl, Bfarm_112.out.cell (i := 2) rfl, Xfarm_116.out.cell (i := 0) rfl, Xfarm_116.out.cell (i := 1) rfl, Xfarm_116.out.cell (i := 2) rfl⟩ (fun hS => ?_)
  clear hK K
  (try simp only [Act.put, List.setIfInBounds_toArray, List.set_cons_zero, List.set_cons_succ])
  refine wpAnyH_take (i := 4) (oi := ⟨_, _, _, _, _, _⟩) (v := .bool false) rfl (by kernel_rfl) (by kernel_rfl) (by kernel_rfl) (fun _ _ _ h => h) (Or.inl ⟨by kernel_rfl, fun W hS => by (obtain ⟨s0, s1, s2, s3, s4, s5⟩ := hS); go_simp⟩) hS ?_
  (try simp only [Act.put, List.setIfInBounds_toArray, List.set_cons_zero, List.set_cons_succ])
  refine wpAnyH_done (by kernel_rfl) ?_ _
  clear farmq_119
  have x_121 := Xfarm_116.out.cell (i := 0) rfl
  have x_122 := Xfarm_116.out.cell (i := 1) rfl
  have x_123 := Xfarm_116.out.cell (i := 2) rfl
  have lt_124 := Xfarm_116.out.lt
  go_wp2_with fail
  refine (CMFarm.out _ _ _ _ _ _ _ _ farmx_115.out).mono ?_
  rintro e w10 ⟨rfl, hm, hwr⟩
  clear x_121 x_122 x_123 lt_124
  have zz0 := sz_3.out
  have zz1 := sz_10.out
  have zz2 := sz_17.out
  have zz3 := sz_22.out
  have zz4 := sz_24.out
  have zz5 := sz_29.out
  have zz6 := sz_31.out
  have zz7 := sz_40.out
  have zz8 := sz_42.out
  have zz9 := sz_43.out
  have zz10 := sz_49.out
  have zz11 := sz_51.out
  have zz12 := sz_62.out
  have zz13 := sz_64.out
  have zz14 := sz_65.out
  have zz15 := sz_66.out
  have zz16 := sz_74.out
  have zz17 := sz_76.out
  have zz18 := sz_91.out
  have zz19 := sz_100.out
  have zz20 := sz_109.out
  have zz21 := sz_120.out
  have H_125 := Lib.hid (Wr.orig hwr H_111.out (by omega) (by omega))
  clear H_111
  have Bfarm_126 := Lib.hid (Wr.blk hwr Bfarm_112.out (by omega))
  clear Bfarm_112
  have Rw_127 := Lib.hid (GOwn.wr hwr Rw_113.out (by omega))
  clear Rw_113
  have Bw_128 := Lib.hid (Wr.blk hwr Bw_114.out (by omega))
  clear Bw_114
  have Xfarm_129 := Lib.hid (Wr.blk hwr Xfarm_116.out (by omega))
  clear Xfarm_116
  have Rg_130 := Lib.hid (GOwn.wr hwr Rg_117.out (by omega))
  clear Rg_117
  have Bg_131 := Lib.hid (Wr.blk hwr Bg_118.out (by omega))
  clear Bg_118
  clear zz0 zz1 zz2 zz3 zz4 zz5 zz6 zz7 zz8 zz9 zz10 zz11 zz12 zz13 zz14 zz15 zz16 zz17 zz18 zz19 zz20 zz21
  have sz_132 := Lib.hid (Wr.size hwr)
  clear hwr
  clear hm
  clear Xfarm_129
  have x_133 := Bg_131.out.cell (i := 0) rfl
  have x_134 := Bg_131.out.cell (i := 1) rfl
  have lt_135 := Bg_131.out.lt
  have x_136 := Bw_128.out.cell (i := 0) rfl
  have x_137 := Bw_128.out.cell (i := 1) rfl
  have lt_138 := Bw_128.out.lt
  go_wp2_with fail
  refine (CER.out _ _ _ _ _ _ _ _ _ _ _ Rg_130.out Rw_127.out).mono ?_
  rintro e w11 ⟨rfl, hb⟩
  clear x_133 x_134 lt_135 x_136 x_137 lt_138
  have H_139 := Lib.hid (g_chain H_125.out hb)
  clear H_125
  have Bfarm_140 := Lib.hid (Bfarm_126.out.below hb)
  clear Bfarm_126
  have Rw_141 := Lib.hid (Rw_127.out.below hb)
  clear Rw_127
  have Bw_142 := Lib.hid (Bw_128.out.below hb)
  clear Bw_128
  have Rg_143 := Lib.hid (Rg_130.out.below hb)
  clear Rg_130
  have Bg_144 := Lib.hid (Bg_131.out.below hb)
  clear Bg_131
  have sz_145 := Lib.hid (Below.size hb)
  clear hb
  have x_146 := Bg_144.out.cell (i := 0) rfl
  have x_147 := Bg_144.out.cell (i := 1) rfl
  have lt_148 := Bg_144.out.lt
  go_wp2_with fail
  refine (CMR.out _ _ _ _ _ _ Rg_143.out).mono ?_
  rintro e w12 ⟨rfl, hm, hwr⟩
  clear x_146 x_147 lt_148
  have zz0 := sz_3.out
  have zz1 := sz_10.out
  have zz2 := sz_17.out
  have zz3 := sz_22.out
  have zz4 := sz_24.out
  have zz5 := sz_29.out
  have zz6 := sz_31.out
  have zz7 := sz_40.out
  have zz8 := sz_42.out
  have zz9 := sz_43.out
  have zz10 := sz_49.out
  have zz11 := sz_51.out
  have zz12 := sz_62.out
  have zz13 := sz_64.out
  have zz14 := sz_65.out
  have zz15 := sz_66.out
  have zz16 := sz_74.out
  have zz17 := sz_76.out
  have zz18 := sz_91.out
  have zz19 := sz_100.out
  have zz20 := sz_109.out
  have zz21 := sz_120.out
  have zz22 := sz_132.out
  have zz23 := sz_145.out
  have H_149 := Lib.hid (Wr.orig hwr H_139.out (by omega) (by omega))
  clear H_139
  have Bfarm_150 := Lib.hid (Wr.blk hwr Bfarm_140.out (by omega))
  clear Bfarm_140
  have Rw_151 := Lib.hid (GOwn.wr hwr Rw_141.out (by omega))
  clear Rw_141
  have Bw_152 := Lib.hid (Wr.blk hwr Bw_142.out (by omega))
  clear Bw_142
  have Bg_153 := Lib.hid (Wr.blk hwr Bg_144.out (by omega))
  clear Bg_144
  clear zz0 zz1 zz2 zz3 zz4 zz5 zz6 zz7 zz8 zz9 zz10 zz11 zz12 zz13 zz14 zz15 zz16 zz17 zz18 zz19 zz20 zz21 zz22 zz23
  have sz_154 := Lib.hid (Wr.size hwr)
  clear hwr
  have M_155 := Lib.hid (hm)
  clear hm
  have x_156 := Bg_153.out.cell (i := 0) rfl
  have x_157 := Bg_153.out.cell (i := 1) rfl
  have lt_158 := Bg_153.out.lt
  go_wp2_with fail
  refine (CHR.out _ _ _ M_155.out).mono ?_
  rintro e w13 ⟨rfl, hb⟩
  clear x_156 x_157 lt_158
  have H_159 := Lib.hid (g_chain H_149.out hb)
  clear H_149
  have Bfarm_160 := Lib.hid (Bfarm_150.out.below hb)
  clear Bfarm_150
  have Rw_161 := Lib.hid (Rw_151.out.below hb)
  clear Rw_151
  have Bw_162 := Lib.hid (Bw_152.out.below hb)
  clear Bw_152
  have Bg_163 := Lib.hid (Bg_153.out.below hb)
  clear Bg_153
  have M_164 := Lib.hid (M_155.out.below hb)
  clear M_155
  have sz_165 := Lib.hid (Below.size hb)
  clear hb
  have x_166 := Bfarm_160.out.cell (i := 0) rfl
  have x_167 := Bfarm_160.out.cell (i := 1) rfl
  have x_168 := Bfarm_160.out.cell (i := 2) rfl
  have lt_169 := Bfarm_160.out.lt
  go_wp2_with fail
  refine (CTF.out _ H_159.out).mono ?_
  rintro e w14 ⟨Afy, cfy, Bfy, dfy, rfl, ho, hb⟩
  clear x_166 x_167 x_168 lt_169
  have H_170 := Lib.hid (g_chain H_159.out hb)
  clear H_159
  have Bfarm_171 := Lib.hid (Bfarm_160.out.below hb)
  clear Bfarm_160
  have Rw_172 := Lib.hid (Rw_161.out.below hb)
  clear Rw_161
  have Bw_173 := Lib.hid (Bw_162.out.below hb)
  clear Bw_162
  have Bg_174 := Lib.hid (Bg_163.out.below hb)
  clear Bg_163
  have M_175 := Lib.hid (M_164.out.below hb)
  clear M_164
  have sz_176 := Lib.hid (Below.size hb)
  have farmy_177 := Lib.hid (ho)
  clear hb
  clear ho
  go_wp2_with fail
  refine (CI.out _ _ _ _ _ _ _ _ farmy_177.out).mono ?_
  rintro e w15 ⟨Agh, cgh, rfl, ho, hb⟩
  have H_178 := Lib.hid (g_chain H_170.out hb)
  clear H_170
  have Bfarm_179 := Lib.hid (Bfarm_171.out.below hb)
  clear Bfarm_171
  have Rw_180 := Lib.hid (Rw_172.out.below hb)
  clear Rw_172
  have Bw_181 := Lib.hid (Bw_173.out.below hb)
  clear Bw_173
  have Bg_182 := Lib.hid (Bg_174.out.below hb)
  clear Bg_174
  have M_183 := Lib.hid (M_175.out.below hb)
  clear M_175
  have farmy_184 := Lib.hid (farmy_177.out.below hb)
  clear farmy_177
  have sz_185 := Lib.hid (Below.size hb)
  have Rh_186 := Lib.hid (GOwn.of ho)
  clear hb
  clear ho
  have hb := below_a1 w15 (.cells #[.int .i64 rN, .slice Agh rG.length cgh] 58)
  have sz_187 := Lib.hid (Blk.lt Bfarm_179.out)
  have sz_188 := Lib.hid (Blk.lt Bw_181.out)
  have sz_189 := Lib.hid (Blk.lt Bg_182.out)
  have H_190 := Lib.hid (g_chain H_178.out hb)
  clear H_178
  have Bfarm_191 := Lib.hid (Bfarm_179.out.below hb)
  clear Bfarm_179
  have Rw_192 := Lib.hid (Rw_180.out.below hb)
  clear Rw_180
  have Bw_193 := Lib.hid (Bw_181.out.below hb)
  clear Bw_181
  have Bg_194 := Lib.hid (Bg_182.out.below hb)
  clear Bg_182
  have M_195 := Lib.hid (M_183.out.below hb)
  clear M_183
  have farmy_196 := Lib.hid (farmy_184.out.below hb)
  clear farmy_184
  have Rh_197 := Lib.hid (Rh_186.out.below hb)
  clear Rh_186
  have sz_198 := Lib.hid (Below.size hb)
  clear hb
  have Bh_199 := Lib.hid (Blk.new w15 #[.int .i64 rN, .slice Agh rG.length cgh] 58)
  have sz_200 : Hid (w15.heap.size + 1 ≤ (w15.alloc (.cells #[.int .i64 rN, .slice Agh rG.length cgh] 58)).heap.size) := Lib.hid (by simp)
  clear farmy_196
  have x_201 := Bh_199.out.cell (i := 0) rfl
  have x_202 := Bh_199.out.cell (i := 1) rfl
  have lt_203 := Bh_199.out.lt
  have x_204 := Bw_193.out.cell (i := 0) rfl
  have x_205 := Bw_193.out.cell (i := 1) rfl
  have lt_206 := Bw_193.out.lt
  go_wp2_with fail
  refine (CER.out _ _ _ _ _ _ _ _ _ _ _ Rh_197.out Rw_192.out).mono ?_
  rintro e w16 ⟨rfl, hb⟩
  clear x_201 x_202 lt_203 x_204 x_205 lt_206
  have H_207 := Lib.hid (g_chain H_190.out hb)
  clear H_190
  have Bfarm_208 := Lib.hid (Bfarm_191.out.below hb)
  clear Bfarm_191
  have Rw_209 := Lib.hid (Rw_192.out.below hb)
  clear Rw_192
  have Bw_210 := Lib.hid (Bw_193.out.below hb)
  clear Bw_193
  have Bg_211 := Lib.hid (Bg_194.out.below hb)
  clear Bg_194
  have M_212 := Lib.hid (M_195.out.below hb)
  clear M_195
  have Rh_213 := Lib.hid (Rh_197.out.below hb)
  clear Rh_197
  have Bh_214 := Lib.hid (Bh_199.out.below hb)
  clear Bh_199
  have sz_215 := Lib.hid (Below.size hb)
  clear hb
  have x_216 := Bg_211.out.cell (i := 0) rfl
  have x_217 := Bg_211.out.cell (i := 1) rfl
  have lt_218 := Bg_211.out.lt
  go_wp2_with fail
  refine (CHR.out _ _ _ M_212.out).mono ?_
  rintro e w17 ⟨rfl, hb⟩
  clear x_216 x_217 lt_218
  have H_219 := Lib.hid (g_chain H_207.out hb)
  clear H_207
  have Bfarm_220 := Lib.hid (Bfarm_208.out.below hb)
  clear Bfarm_208
  have Rw_221 := Lib.hid (Rw_209.out.below hb)
  clear Rw_209
  have Bw_222 := Lib.hid (Bw_210.out.below hb)
  clear Bw_210
  have Bg_223 := Lib.hid (Bg_211.out.below hb)
  clear Bg_211
  have M_224 := Lib.hid (M_212.out.below hb)
  clear M_212
  have Rh_225 := Lib.hid (Rh_213.out.below hb)
  clear Rh_213
  have Bh_226 := Lib.hid (Bh_214.out.below hb)
  clear Bh_214
  have sz_227 := Lib.hid (Below.size hb)
  clear hb
  go_wp2
  go_ret
  exact ⟨rfl, H_219.out⟩
end Go.Proofs.Ytpgnappddddlpaa
