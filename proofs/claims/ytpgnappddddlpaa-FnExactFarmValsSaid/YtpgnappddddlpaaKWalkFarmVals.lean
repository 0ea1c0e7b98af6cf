/- The walk of the law FnExactFarmVals: it returns true and writes nothing that was there. -/
import Derived.Test.YtpgnappddddlpaaCGG
import Derived.Test.YtpgnappddddlpaaCGI
import Derived.Test.YtpgnappddddlpaaKFarmV
import Derived.Deep.Cut
import Derived.Deep.RegionHeld3
import Derived.Deep.RegionWith
namespace Go.Proofs.Ytpgnappddddlpaa
open Go.RowKit
set_option linter.unusedVariables false

theorem held_nameK {P : Program} {md : Region.Mode} {ops : Array Oper} {Q : Exit → Act → World → Prop} {S : World → Prop} {fuel : Nat} {listed : Array Bool} {a : Act} {w : World} (hS : S w) (h : S w → wpAnyH P md ops Q S fuel listed a w) : wpAnyH P md ops Q S fuel listed a w := h hS
set_option maxRecDepth 20000 in
set_option maxHeartbeats 16000000 in
theorem walkFarmVals (N : Int) (AE : Option Addr) (nE cE : Nat) (AS : Option Addr) (nS cS : Nat) (es : List Int) (bs : List HE) (w : World) (hf : FarmIn w N AE nE cE AS nS cS es bs) :
    Calls Try.prog 7 #[.agg #[.int .i64 N, .slice AE nE cE, .slice AS nS cS]] w fun e w' => e = .returned (.bool true) ∧ Below w.heap.size w w' := by
  obtain rfl := hf.e.g.len
  obtain rfl := hf.s.g.len
  have B0H : Hid (Below w.heap.size w (w.alloc (.cells #[.int .i64 N, .slice AE es.length cE, .slice AS bs.length cS] 46))) := Lib.hid (below_a1 _ _)
  have B00 : Hid (Blk (w.alloc (.cells #[.int .i64 N, .slice AE es.length cE, .slice AS bs.length cS] 46)) (w.heap.size) #[.int .i64 N, .slice AE es.length cE, .slice AS bs.length cS] 46) := Lib.hid (by have h := Blk.new w #[.int .i64 N, .slice AE es.length cE, .slice AS bs.length cS] 46; simpa using h)
  have CZ0 : Hid (∀ W, Below w.heap.size w W → Calls _ _ _ W _) := Lib.hid (fun W h => szFarm_any N AE es.length cE AS bs.length cS bs 1048576 W (hf.s.g.below h) hf.e.l hf.s.l hf.s.e (by omega) (by omega))
  by_cases hb0 : (((es.length + (bs.length + sumH bs)) : Nat) : Int) ≤ 1048576
  rotate_left
  · skip
    rw [leftG_neg (by omega)] at CZ0
    clear hf hb0
    go_enter Try.func7, Try.ntmps7
    have y0_0 := B00.out.cell (i := 0) rfl
    have y0_1 := B00.out.cell (i := 1) rfl
    have y0_2 := B00.out.cell (i := 2) rfl
    go_wp2_with fail
    refine (CZ0.out _ B0H.out).mono ?_
    rintro e wz0 ⟨rfl, hba⟩
    have HA0 := Lib.hid (g_chain B0H.out hba)
    clear hba y0_0 y0_1 y0_2
    go_wp2
    go_ret
    exact ⟨rfl, HA0.out⟩
  rw [leftG_pos hb0] at CZ0
  have hp0 : (0 : Int) ≤ 1048576 - (((es.length + (bs.length + sumH bs)) : Nat) : Int) := by omega
  have hq0 : 1048576 - (((es.length + (bs.length + sumH bs)) : Nat) : Int) ≤ 1048576 := by omega
  have hes : es.length ≤ 1048576 := by omega
  have hlens : ∀ d ∈ bs, d.es.length = d.n := fun d hd => (hf.s.g.each d hd).rd.len
  have hsz : (sdL bs).length + (flatK (sdL bs)).length ≤ 1048576 := by rw [← sum_flat (bs := bs) (ls := sdL bs) rfl hlens, sdL_len]; omega
  have hsm := HSm.of (M := 1048576) (n := bs.length) rfl hlens rfl hsz
  have hbl : bs.length ≤ 1048576 := by omega
  have CTF : Hid (∀ W, Below w.heap.size w W → Calls Try.prog 24 #[.agg #[.int .i64 N, .slice AE es.length cE, .slice AS bs.length cS]] W (MadeF W N es (sdL bs))) := Lib.hid (fun W h => toFarm_any N AE es.length cE AS bs.length cS es bs W (hf.e.g.below h) (hf.s.g.below h) (by omega) (by omega) (fun e he => by have := hsm.e e he; omega))
  have HSA := Lib.hid hsz
  unfold MadeF at CTF
  generalize (1048576 : Int) - (((es.length + (bs.length + sumH bs)) : Nat) : Int) = q0 at CZ0 hp0
  generalize sdL bs = ls at CTF HSA
  have CEFarm := Lib.hid (fun W lo l h (Af1 : Option Addr) (cf1 : Nat) (Bf1 : Option Addr) (df1 : Nat) lo' l' h' (Af2 : Option Addr) (cf2 : Nat) (Bf2 : Option Addr) (df2 : Nat) (h1 : FOwn W lo l h Af1 es.length cf1 Bf1 ls.length df1 es ls) (h2 : FOwn W lo' l' h' Af2 es.length cf2 Bf2 ls.length df2 es ls) => eqFarm_any N Af1 es.length cf1 Bf1 ls.length df1 Af2 cf2 Bf2 df2 es ls W h1.rd h2.rd (by omega) HSA.out)
  have CMFarm := Lib.hid (fun W lo l h (Af1 : Option Addr) (cf1 : Nat) (Bf1 : Option Addr) (df1 : Nat) (h1 : FOwn W lo l h Af1 es.length cf1 Bf1 ls.length df1 es ls) => markFarm_any N Af1 es.length cf1 Bf1 ls.length df1 lo l h 1 es ls W h1 (by omega) HSA.out (by omega))
  unfold MarkedF at CMFarm
  have CS := Lib.hid (fun W lo1 l1 h1 (Af1 : Option Addr) (cf1 : Nat) (Bf1 : Option Addr) (df1 : Nat) (hk1 : FOwn W lo1 l1 h1 Af1 es.length cf1 Bf1 ls.length df1 es ls) => specFarmVals_k N Af1 es.length cf1 es Bf1 ls.length df1 ls W hk1.rd (by omega) HSA.out)
  have CI := Lib.hid (fun W lo1 l1 h1 (Af1 : Option Addr) (cf1 : Nat) (Bf1 : Option Addr) (df1 : Nat) (hk1 : FOwn W lo1 l1 h1 Af1 es.length cf1 Bf1 ls.length df1 es ls) => implFarmVals_k N Af1 es.length cf1 es Bf1 ls.length df1 ls W hk1.rd (by omega) HSA.out)
  unfold MadeN at CS CI
  have hrl : (farmV N es ls).length ≤ 400 := farmV_len N es ls
  generalize farmV N es ls = rs at CS CI hrl
  have CER := Lib.hid (fun W lo l h (Ai1 : Option Addr) (ci1 : Nat) lo' l' h' (Ai2 : Option Addr) (ci2 : Nat) (h1 : NOwn W lo l h Ai1 rs.length ci1 rs) (h2 : NOwn W lo' l' h' Ai2 rs.length ci2 rs) => eqInts_any Ai1 Ai2 rs.length ci1 ci2 rs W (SlI.of_own h1.e) (SlI.of_own h2.e) (by omega))
  have CMR := Lib.hid (fun W lo l h (Ai1 : Option Addr) (ci1 : Nat) (h1 : NOwn W lo l h Ai1 rs.length ci1 rs) => markN_k Ai1 rs.length ci1 lo l h 1 rs W h1 (by omega) (by omega))
  have CHR := Lib.hid (fun W (Ai1 : Option Addr) (ci1 : Nat) (h1 : NMk W 1 Ai1 rs.length) => heldN_k Ai1 rs.length ci1 1 W h1 (by omega) (by omega))
  have hkk : (0 : Int) ≤ (((1 + rs.length) : Nat) : Int) := by omega
  generalize 1 + rs.length = kr at CMR CHR hkk
  have hka0 : (0 : Int) ≤ ((endFm 1 es ls : Nat) : Int) := by omega
  generalize endFm 1 es ls = ka0 at CMFarm hka0
  clear hf hb0 hq0 hsz hsm hlens hbl
  have H_1 := Lib.hid (B0H.out)
  have Bfarm_2 := Lib.hid (B00.out)
  clear B0H B00
  have sz_3 : Hid (w.heap.size + 1 ≤ (w.alloc (.cells #[.int .i64 N, .slice AE es.length cE, .slice AS bs.length cS] 46)).heap.size) := Lib.hid (by simp)
  go_enter Try.func7, Try.ntmps7
  have x_4 := Bfarm_2.out.cell (i := 0) rfl
  have x_5 := Bfarm_2.out.cell (i := 1) rfl
  have x_6 := Bfarm_2.out.cell (i := 2) rfl
  have lt_7 := Bfarm_2.out.lt
  go_wp2_with fail
  refine (CZ0.out _ H_1.out).mono ?_
  rintro e w1 ⟨rfl, hb⟩
  clear x_4 x_5 x_6 lt_7
  have H_8 := Lib.hid (g_chain H_1.out hb)
  clear H_1
  have Bfarm_9 := Lib.hid (Bfarm_2.out.below hb)
  clear Bfarm_2
  have sz_10 := Lib.hid (Below.size hb)
  clear hb
  have x_11 := Bfarm_9.out.cell (i := 0) rfl
  have x_12 := Bfarm_9.out.cell (i := 1) rfl
  have x_13 := Bfarm_9.out.cell (i := 2) rfl
  have lt_14 := Bfarm_9.out.lt
  go_wp2_with fail
  refine (CTF.out _ H_8.out).mono ?_
  rintro e w2 ⟨Afp, cfp, Bfp, dfp, rfl, ho, hb⟩
  clear x_11 x_12 x_13 lt_14
  have H_15 := Lib.hid (g_chain H_8.out hb)
  clear H_8
  have Bfarm_16 := Lib.hid (Bfarm_9.out.below hb)
  clear Bfarm_9
  have sz_17 := Lib.hid (Below.size hb)
  have farmp_18 := Lib.hid (ho)
  clear hb
  clear ho
  go_wp2_with fail
  refine (CS.out _ _ _ _ _ _ _ _ farmp_18.out).mono ?_
  rintro e w3 ⟨Aiw, ciw, rfl, ho, hb⟩
  have H_19 := Lib.hid (g_chain H_15.out hb)
  clear H_15
  have Bfarm_20 := Lib.hid (Bfarm_16.out.below hb)
  clear Bfarm_16
  have farmp_21 := Lib.hid (farmp_18.out.below hb)
  clear farmp_18
  have sz_22 := Lib.hid (Below.size hb)
  have Rw_23 := Lib.hid (NOwn.of ho)
  clear hb
  clear ho
  clear farmp_21
  have x_24 := Bfarm_20.out.cell (i := 0) rfl
  have x_25 := Bfarm_20.out.cell (i := 1) rfl
  have x_26 := Bfarm_20.out.cell (i := 2) rfl
  have lt_27 := Bfarm_20.out.lt
  go_wp2_with fail
  refine (CTF.out _ H_19.out).mono ?_
  rintro e w4 ⟨Afx, cfx, Bfx, dfx, rfl, ho, hb⟩
  clear x_24 x_25 x_26 lt_27
  have H_28 := Lib.hid (g_chain H_19.out hb)
  clear H_19
  have Bfarm_29 := Lib.hid (Bfarm_20.out.below hb)
  clear Bfarm_20
  have Rw_30 := Lib.hid (Rw_23.out.below hb)
  clear Rw_23
  have sz_31 := Lib.hid (Below.size hb)
  have farmx_32 := Lib.hid (ho)
  clear hb
  clear ho
  have hb := below_a1 w4 (.cells #[.int .i64 N, .slice Afx es.length cfx, .slice Bfx ls.length dfx] 26)
  have sz_33 := Lib.hid (Blk.lt Bfarm_29.out)
  have H_34 := Lib.hid (g_chain H_28.out hb)
  clear H_28
  have Bfarm_35 := Lib.hid (Bfarm_29.out.below hb)
  clear Bfarm_29
  have Rw_36 := Lib.hid (Rw_30.out.below hb)
  clear Rw_30
  have farmx_37 := Lib.hid (farmx_32.out.below hb)
  clear farmx_32
  have sz_38 := Lib.hid (Below.size hb)
  clear hb
  have Xfarm_39 := Lib.hid (Blk.new w4 #[.int .i64 N, .slice Afx es.length cfx, .slice Bfx ls.length dfx] 26)
  have sz_40 : Hid (w4.heap.size + 1 ≤ (w4.alloc (.cells #[.int .i64 N, .slice Afx es.length cfx, .slice Bfx ls.length dfx] 26)).heap.size) := Lib.hid (by simp)
  have x_41 := Xfarm_39.out.cell (i := 0) rfl
  have x_42 := Xfarm_39.out.cell (i := 1) rfl
  have x_43 := Xfarm_39.out.cell (i := 2) rfl
  have lt_44 := Xfarm_39.out.lt
  go_wp2_with fail
  refine (CI.out _ _ _ _ _ _ _ _ farmx_37.out).mono ?_
  rintro e w5 ⟨Aig, cig, rfl, ho, hb⟩
  clear x_41 x_42 x_43 lt_44
  have H_45 := Lib.hid (g_chain H_34.out hb)
  clear H_34
  have Bfarm_46 := Lib.hid (Bfarm_35.out.below hb)
  clear Bfarm_35
  have Rw_47 := Lib.hid (Rw_36.out.below hb)
  clear Rw_36
  have farmx_48 := Lib.hid (farmx_37.out.below hb)
  clear farmx_37
  have Xfarm_49 := Lib.hid (Xfarm_39.out.below hb)
  clear Xfarm_39
  have sz_50 := Lib.hid (Below.size hb)
  have Rg_51 := Lib.hid (NOwn.of ho)
  clear hb
  clear ho
  go_wp2_with fail
  refine (CER.out _ _ _ _ _ _ _ _ _ _ _ Rg_51.out Rw_47.out).mono ?_
  rintro e w6 ⟨rfl, hb⟩
  have H_52 := Lib.hid (g_chain H_45.out hb)
  clear H_45
  have Bfarm_53 := Lib.hid (Bfarm_46.out.below hb)
  clear Bfarm_46
  have Rw_54 := Lib.hid (Rw_47.out.below hb)
  clear Rw_47
  have farmx_55 := Lib.hid (farmx_48.out.below hb)
  clear farmx_48
  have Xfarm_56 := Lib.hid (Xfarm_49.out.below hb)
  clear Xfarm_49
  have Rg_57 := Lib.hid (Rg_51.out.below hb)
  clear Rg_51
  have sz_58 := Lib.hid (Below.size hb)
  clear hb
  go_upto_region 10 with fail
  refine wp_region_any (by kernel_rfl) ?_
  change wpAny _ _ _ _ _ _ _ (World.drew _)
  have hb : Below w6.heap.size w6 (World.drew w6) := (Below.refl _ _).drew
  have H_59 := Lib.hid (g_chain H_52.out hb)
  clear H_52
  have Bfarm_60 := Lib.hid (Bfarm_53.out.below hb)
  clear Bfarm_53
  have Rw_61 := Lib.hid (Rw_54.out.below hb)
  clear Rw_54
  have farmx_62 := Lib.hid (farmx_55.out.below hb)
  clear farmx_55
  have Xfarm_63 := Lib.hid (Xfarm_56.out.below hb)
  clear Xfarm_56
  have Rg_64 := Lib.hid (Rg_57.out.below hb)
  clear Rg_57
  have sz_65 := Lib.hid (Below.size hb)
  clear hb
  generalize hDD : World.drew w6 = w7 at H_59 Bfarm_60 Rw_61 farmx_62 Xfarm_63 Rg_64 sz_65 ⊢
  clear hDD
  refine wpAny_of_held (S := fun W => W.cell? ⟨w.heap.size, 0, none⟩ = some (.int .i64 N) ∧ W.cell? ⟨w.heap.size, 1, none⟩ = some (.slice AE es.length cE) ∧ W.cell? ⟨w.heap.size, 2, none⟩ = some (.slice AS bs.length cS) ∧ W.cell? ⟨w4.heap.size, 0, none⟩ = some (.int .i64 N) ∧ W.cell? ⟨w4.heap.size, 1, none⟩ = some (.slice Afx es.length cfx) ∧ W.cell? ⟨w4.heap.size, 2, none⟩ = some (.slice Bfx ls.length dfx)) _ _ _ _ ?_
  refine held_nameK ⟨Bfarm_60.out.cell (i := 0) rfl, Bfarm_60.out.cell (i := 1) rfl, Bfarm_60.out.cell (i := 2) rfl, Xfarm_63.out.cell (i := 0) rfl, Xfarm_63.out.cell (i := 1) rfl, Xfarm_63.out.cell (i := 2) rfl⟩ (fun hS => ?_)
  refine wpAnyH_take (i := 0) (oi := ⟨_, _, _, _, _, _⟩) (v := .agg #[.int .i64 N, .slice Afx es.length cfx, .slice Bfx ls.length dfx]) rfl (by kernel_rfl) (by kernel_rfl) (by kernel_rfl) (fun _ _ _ h => h) (Or.inl ⟨by kernel_rfl, fun W hS => by (obtain ⟨s0, s1, s2, s3, s4, s5⟩ := hS); go_simp⟩) hS ?_
  (try simp only [Act.put, List.setIfInBounds_toArray, List.set_cons_zero, List.set_cons_succ])
  refine wpAnyH_take (i := 1) (oi := ⟨_, _, _, _, _, _⟩) (v := .agg #[.int .i64 N, .slice AE es.length cE, .slice AS bs.length cS]) rfl (by kernel_rfl) (by kernel_rfl) (by kernel_rfl) (fun _ _ _ h => h) (Or.inl ⟨by kernel_rfl, fun W hS => by (obtain ⟨s0, s1, s2, s3, s4, s5⟩ := hS); go_simp⟩) hS ?_
  (try simp only [Act.put, List.setIfInBounds_toArray, List.set_cons_zero, List.set_cons_succ])
  refine wpAnyH_ready (rs := [2]) (by kernel_rfl) (by simp) (AllReadyH.cons rfl (fun K hK => ?_) AllReadyH.nil)
  go_simp
  go_at_call 24
  refine (CTF.out _ H_59.out).mono ?_
  rintro e w8 ⟨Afq, cfq, Bfq, dfq, rfl, ho, hb⟩
  have H_66 := Lib.hid (g_chain H_59.out hb)
  clear H_59
  have Bfarm_67 := Lib.hid (Bfarm_60.out.below hb)
  clear Bfarm_60
  have Rw_68 := Lib.hid (Rw_61.out.below hb)
  clear Rw_61
  have farmx_69 := Lib.hid (farmx_62.out.below hb)
  clear farmx_62
  have Xfarm_70 := Lib.hid (Xfarm_63.out.below hb)
  clear Xfarm_63
  have Rg_71 := Lib.hid (Rg_64.out.below hb)
  clear Rg_64
  have sz_72 := Lib.hid (Below.size hb)
  have farmq_73 := Lib.hid (ho)
  clear ho hb
  dsimp only
  refine hK.out _ _ ⟨Bfarm_67.out.cell (i := 0) rfl, Bfarm_67.out.cell (i := 1) rfl, Bfarm_67.out.cell (i := 2) rfl, Xfarm_70.out.cell (i := 0) rfl, Xfarm_70.out.cell (i := 1) rfl, Xfarm_70.out.cell (i := 2) rfl⟩ (fun hS => ?_)
  clear hK K
  (try simp only [Act.put, List.setIfInBounds_toArray, List.set_cons_zero, List.set_cons_succ])
  refine wpAnyH_ready (rs := [3]) (by kernel_rfl) (by simp) (AllReadyH.cons rfl (fun K hK => ?_) AllReadyH.nil)
  go_simp
  go_at_call 25
  refine (CEFarm.out _ _ _ _ _ _ _ _ _ _ _ _ _ _ _ farmx_69.out farmq_73.out).mono ?_
  rintro e w9 ⟨rfl, hb⟩
  have H_74 := Lib.hid (g_chain H_66.out hb)
  clear H_66
  have Bfarm_75 := Lib.hid (Bfarm_67.out.below hb)
  clear Bfarm_67
  have Rw_76 := Lib.hid (Rw_68.out.below hb)
  clear Rw_68
  have farmx_77 := Lib.hid (farmx_69.out.below hb)
  clear farmx_69
  have Xfarm_78 := Lib.hid (Xfarm_70.out.below hb)
  clear Xfarm_70
  have Rg_79 := Lib.hid (Rg_71.out.below hb)
  clear Rg_71
  have farmq_80 := Lib.hid (farmq_73.out.below hb)
  clear farmq_73
  have sz_81 := Lib.hid (Below.size hb)
  clear hb
  dsimp only
  refine hK.out _ _ ⟨Bfarm_75.out.cell (i := 0) rfl, Bfarm_75.out.cell (i := 1) rfl, Bfarm_75.out.cell (i := 2) rfl, Xfarm_78.out.cell (i := 0) rfl, Xfarm_78.out.cell (i := 1) rfl, Xfarm_78.out.cell (i := 2) rfl⟩ (fun hS => ?_)
  clear hK K
  (try simp only [Act.put, List.setIfInBounds_toArray, List.set_cons_zero, List.set_cons_succ])
  refine wpAnyH_take (i := 4) (oi := ⟨_, _, _, _, _, _⟩) (v := .bool false) rfl (by kernel_rfl) (by kernel_rfl) (by kernel_rfl) (fun _ _ _ h => h) (Or.inl ⟨by kernel_rfl, fun W hS => by (obtain ⟨s0, s1, s2, s3, s4, s5⟩ := hS); go_simp⟩) hS ?_
  (try simp only [Act.put, List.setIfInBounds_toArray, List.set_cons_zero, List.set_cons_succ])
  refine wpAnyH_done (by kernel_rfl) ?_ _
  clear farmq_80
  have x_82 := Xfarm_78.out.cell (i := 0) rfl
  have x_83 := Xfarm_78.out.cell (i := 1) rfl
  have x_84 := Xfarm_78.out.cell (i := 2) rfl
  have lt_85 := Xfarm_78.out.lt
  go_wp2_with fail
  refine (CMFarm.out _ _ _ _ _ _ _ _ farmx_77.out).mono ?_
  rintro e w10 ⟨rfl, hm, hwr⟩
  clear x_82 x_83 x_84 lt_85
  have zz0 := sz_3.out
  have zz1 := sz_10.out
  have zz2 := sz_17.out
  have zz3 := sz_22.out
  have zz4 := sz_31.out
  have zz5 := sz_33.out
  have zz6 := sz_38.out
  have zz7 := sz_40.out
  have zz8 := sz_50.out
  have zz9 := sz_58.out
  have zz10 := sz_65.out
  have zz11 := sz_72.out
  have zz12 := sz_81.out
  have H_86 := Lib.hid (Wr.orig hwr H_74.out (by omega) (by omega))
  clear H_74
  have Bfarm_87 := Lib.hid (Wr.blk hwr Bfarm_75.out (by omega))
  clear Bfarm_75
  have Rw_88 := Lib.hid (NOwn.wr hwr Rw_76.out (by omega))
  clear Rw_76
  have Xfarm_89 := Lib.hid (Wr.blk hwr Xfarm_78.out (by omega))
  clear Xfarm_78
  have Rg_90 := Lib.hid (NOwn.wr hwr Rg_79.out (by omega))
  clear Rg_79
  clear zz0 zz1 zz2 zz3 zz4 zz5 zz6 zz7 zz8 zz9 zz10 zz11 zz12
  have sz_91 := Lib.hid (Wr.size hwr)
  clear hwr
  clear hm
  clear Xfarm_89
  go_wp2_with fail
  refine (CER.out _ _ _ _ _ _ _ _ _ _ _ Rg_90.out Rw_88.out).mono ?_
  rintro e w11 ⟨rfl, hb⟩
  have H_92 := Lib.hid (g_chain H_86.out hb)
  clear H_86
  have Bfarm_93 := Lib.hid (Bfarm_87.out.below hb)
  clear Bfarm_87
  have Rw_94 := Lib.hid (Rw_88.out.below hb)
  clear Rw_88
  have Rg_95 := Lib.hid (Rg_90.out.below hb)
  clear Rg_90
  have sz_96 := Lib.hid (Below.size hb)
  clear hb
  go_wp2_with fail
  refine (CMR.out _ _ _ _ _ _ Rg_95.out).mono ?_
  rintro e w12 ⟨rfl, hm, hwr⟩
  skip
  have zz0 := sz_3.out
  have zz1 := sz_10.out
  have zz2 := sz_17.out
  have zz3 := sz_22.out
  have zz4 := sz_31.out
  have zz5 := sz_33.out
  have zz6 := sz_38.out
  have zz7 := sz_40.out
  have zz8 := sz_50.out
  have zz9 := sz_58.out
  have zz10 := sz_65.out
  have zz11 := sz_72.out
  have zz12 := sz_81.out
  have zz13 := sz_91.out
  have zz14 := sz_96.out
  have H_97 := Lib.hid (Wr.orig hwr H_92.out (by omega) (by omega))
  clear H_92
  have Bfarm_98 := Lib.hid (Wr.blk hwr Bfarm_93.out (by omega))
  clear Bfarm_93
  have Rw_99 := Lib.hid (NOwn.wr hwr Rw_94.out (by omega))
  clear Rw_94
  clear zz0 zz1 zz2 zz3 zz4 zz5 zz6 zz7 zz8 zz9 zz10 zz11 zz12 zz13 zz14
  have sz_100 := Lib.hid (Wr.size hwr)
  clear hwr
  have M_101 := Lib.hid (hm)
  clear hm
  go_wp2_with fail
  refine (CHR.out _ _ _ M_101.out).mono ?_
  rintro e w13 ⟨rfl, hb⟩
  have H_102 := Lib.hid (g_chain H_97.out hb)
  clear H_97
  have Bfarm_103 := Lib.hid (Bfarm_98.out.below hb)
  clear Bfarm_98
  have Rw_104 := Lib.hid (Rw_99.out.below hb)
  clear Rw_99
  have M_105 := Lib.hid (M_101.out.below hb)
  clear M_101
  have sz_106 := Lib.hid (Below.size hb)
  clear hb
  have x_107 := Bfarm_103.out.cell (i := 0) rfl
  have x_108 := Bfarm_103.out.cell (i := 1) rfl
  have x_109 := Bfarm_103.out.cell (i := 2) rfl
  have lt_110 := Bfarm_103.out.lt
  go_wp2_with fail
  refine (CTF.out _ H_102.out).mono ?_
  rintro e w14 ⟨Afy, cfy, Bfy, dfy, rfl, ho, hb⟩
  clear x_107 x_108 x_109 lt_110
  have H_111 := Lib.hid (g_chain H_102.out hb)
  clear H_102
  have Bfarm_112 := Lib.hid (Bfarm_103.out.below hb)
  clear Bfarm_103
  have Rw_113 := Lib.hid (Rw_104.out.below hb)
  clear Rw_104
  have M_114 := Lib.hid (M_105.out.below hb)
  clear M_105
  have sz_115 := Lib.hid (Below.size hb)
  have farmy_116 := Lib.hid (ho)
  clear hb
  clear ho
  go_wp2_with fail
  refine (CI.out _ _ _ _ _ _ _ _ farmy_116.out).mono ?_
  rintro e w15 ⟨Aih, cih, rfl, ho, hb⟩
  have H_117 := Lib.hid (g_chain H_111.out hb)
  clear H_111
  have Bfarm_118 := Lib.hid (Bfarm_112.out.below hb)
  clear Bfarm_112
  have Rw_119 := Lib.hid (Rw_113.out.below hb)
  clear Rw_113
  have M_120 := Lib.hid (M_114.out.below hb)
  clear M_114
  have farmy_121 := Lib.hid (farmy_116.out.below hb)
  clear farmy_116
  have sz_122 := Lib.hid (Below.size hb)
  have Rh_123 := Lib.hid (NOwn.of ho)
  clear hb
  clear ho
  clear farmy_121
  go_wp2_with fail
  refine (CER.out _ _ _ _ _ _ _ _ _ _ _ Rh_123.out Rw_119.out).mono ?_
  rintro e w16 ⟨rfl, hb⟩
  have H_124 := Lib.hid (g_chain H_117.out hb)
  clear H_117
  have Bfarm_125 := Lib.hid (Bfarm_118.out.below hb)
  clear Bfarm_118
  have Rw_126 := Lib.hid (Rw_119.out.below hb)
  clear Rw_119
  have M_127 := Lib.hid (M_120.out.below hb)
  clear M_120
  have Rh_128 := Lib.hid (Rh_123.out.below hb)
  clear Rh_123
  have sz_129 := Lib.hid (Below.size hb)
  clear hb
  go_wp2_with fail
  refine (CHR.out _ _ _ M_127.out).mono ?_
  rintro e w17 ⟨rfl, hb⟩
  have H_130 := Lib.hid (g_chain H_124.out hb)
  clear H_124
  have Bfarm_131 := Lib.hid (Bfarm_125.out.below hb)
  clear Bfarm_125
  have Rw_132 := Lib.hid (Rw_126.out.below hb)
  clear Rw_126
  have M_133 := Lib.hid (M_127.out.below hb)
  clear M_127
  have Rh_134 := Lib.hid (Rh_128.out.below hb)
  clear Rh_128
  have sz_135 := Lib.hid (Below.size hb)
  clear hb
  go_wp2
  go_ret
  exact ⟨rfl, H_130.out⟩
end Go.Proofs.Ytpgnappddddlpaa
