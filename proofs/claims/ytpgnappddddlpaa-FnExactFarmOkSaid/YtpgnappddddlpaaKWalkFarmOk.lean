/- The walk of the law FnExactFarmOk: it returns true and writes nothing that was there. -/
import Derived.Test.YtpgnappddddlpaaCGG
import Derived.Test.YtpgnappddddlpaaCGI
import Derived.Deep.Cut
import Derived.Deep.RegionHeld3
import Derived.Deep.RegionWith
namespace Go.Proofs.Ytpgnappddddlpaa
open Go.RowKit
set_option linter.unusedVariables false

theorem held_nameK {P : Program} {md : Region.Mode} {ops : Array Oper} {Q : Exit → Act → World → Prop} {S : World → Prop} {fuel : Nat} {listed : Array Bool} {a : Act} {w : World} (hS : S w) (h : S w → wpAnyH P md ops Q S fuel listed a w) : wpAnyH P md ops Q S fuel listed a w := h hS
set_option maxRecDepth 20000 in
set_option maxHeartbeats 16000000 in
theorem walkFarmOk (N : Int) (AE : Option Addr) (nE cE : Nat) (AS : Option Addr) (nS cS : Nat) (es : List Int) (bs : List HE) (w : World) (hf : FarmIn w N AE nE cE AS nS cS es bs) :
    Calls Try.prog 4 #[.agg #[.int .i64 N, .slice AE nE cE, .slice AS nS cS]] w fun e w' => e = .returned (.bool true) ∧ Below w.heap.size w w' := by
  obtain rfl := hf.e.g.len
  obtain rfl := hf.s.g.len
  have B0H : Hid (Below w.heap.size w (w.alloc (.cells #[.int .i64 N, .slice AE es.length cE, .slice AS bs.length cS] 46))) := Lib.hid (below_a1 _ _)
  have B00 : Hid (Blk (w.alloc (.cells #[.int .i64 N, .slice AE es.length cE, .slice AS bs.length cS] 46)) (w.heap.size) #[.int .i64 N, .slice AE es.length cE, .slice AS bs.length cS] 46) := Lib.hid (by have h := Blk.new w #[.int .i64 N, .slice AE es.length cE, .slice AS bs.length cS] 46; simpa using h)
  have CZ0 : Hid (∀ W, Below w.heap.size w W → Calls _ _ _ W _) := Lib.hid (fun W h => szFarm_any N AE es.length cE AS bs.length cS bs 1048576 W (hf.s.g.below h) hf.e.l hf.s.l hf.s.e (by omega) (by omega))
  by_cases hb0 : (((es.length + (bs.length + sumH bs)) : Nat) : Int) ≤ 1048576
  rotate_left
  · skip
    rw [leftG_neg (by omega)] at CZ0
    clear hf hb0
    go_enter Try.func4, Try.ntmps4
    have y0_0 := B00.out.cell (i := 0) rfl
    have y0_1 := B00.out.cell (i := 1) rfl
    have y0_2 := B00.out.cell (i := 2) rfl
    go_wp2_with fail
    refine (CZ0.out _ B0H.out).mono ?_
    rintro e wz0 ⟨rfl, hba⟩
    have HA0 := Lib.hid (g_chain B0H.out hba)
    clear hba y0_0 y0_1 y0_2
    go_wp2
    go_ret
    exact ⟨rfl, HA0.out⟩
  rw [leftG_pos hb0] at CZ0
  have hp0 : (0 : Int) ≤ 1048576 - (((es.length + (bs.length + sumH bs)) : Nat) : Int) := by omega
  have hq0 : 1048576 - (((es.length + (bs.length + sumH bs)) : Nat) : Int) ≤ 1048576 := by omega
  have hes : es.length ≤ 1048576 := by omega
  have hlens : ∀ d ∈ bs, d.es.length = d.n := fun d hd => (hf.s.g.each d hd).rd.len
  have hsz : (sdL bs).length + (flatK (sdL bs)).length ≤ 1048576 := by rw [← sum_flat (bs := bs) (ls := sdL bs) rfl hlens, sdL_len]; omega
  have hsm := HSm.of (M := 1048576) (n := bs.length) rfl hlens rfl hsz
  have hbl : bs.length ≤ 1048576 := by omega
  have CTF : Hid (∀ W, Below w.heap.size w W → Calls Try.prog 24 #[.agg #[.int .i64 N, .slice AE es.length cE, .slice AS bs.length cS]] W (MadeF W N es (sdL bs))) := Lib.hid (fun W h => toFarm_any N AE es.length cE AS bs.length cS es bs W (hf.e.g.below h) (hf.s.g.below h) (by omega) (by omega) (fun e he => by have := hsm.e e he; omega))
  have HSA := Lib.hid hsz
  unfold MadeF at CTF
  generalize (1048576 : Int) - (((es.length + (bs.length + sumH bs)) : Nat) : Int) = q0 at CZ0 hp0
  generalize sdL bs = ls at CTF HSA
  have CEFarm := Lib.hid (fun W lo l h (Af1 : Option Addr) (cf1 : Nat) (Bf1 : Option Addr) (df1 : Nat) lo' l' h' (Af2 : Option Addr) (cf2 : Nat) (Bf2 : Option Addr) (df2 : Nat) (h1 : FOwn W lo l h Af1 es.length cf1 Bf1 ls.length df1 es ls) (h2 : FOwn W lo' l' h' Af2 es.length cf2 Bf2 ls.length df2 es ls) => eqFarm_any N Af1 es.length cf1 Bf1 ls.length df1 Af2 cf2 Bf2 df2 es ls W h1.rd h2.rd (by omega) HSA.out)
  have CMFarm := Lib.hid (fun W lo l h (Af1 : Option Addr) (cf1 : Nat) (Bf1 : Option Addr) (df1 : Nat) (h1 : FOwn W lo l h Af1 es.length cf1 Bf1 ls.length df1 es ls) => markFarm_any N Af1 es.length cf1 Bf1 ls.length df1 lo l h 1 es ls W h1 (by omega) HSA.out (by omega))
  unfold MarkedF at CMFarm
  have CS := Lib.hid (fun W lo1 l1 h1 (Af1 : Option Addr) (cf1 : Nat) (Bf1 : Option Addr) (df1 : Nat) (hk1 : FOwn W lo1 l1 h1 Af1 es.length cf1 Bf1 ls.length df1 es ls) => specFarmOk_k N Af1 es.length cf1 es Bf1 ls.length df1 ls W hk1.rd (by omega) HSA.out)
  have CI := Lib.hid (fun W lo1 l1 h1 (Af1 : Option Addr) (cf1 : Nat) (Bf1 : Option Addr) (df1 : Nat) (hk1 : FOwn W lo1 l1 h1 Af1 es.length cf1 Bf1 ls.length df1 es ls) => implFarmOk_k N Af1 es.length cf1 es Bf1 ls.length df1 ls W hk1.rd (by omega) HSA.out)
  generalize farmB N es ls = rb at CS CI
  have hrb : (rb == rb) = true := by simp
  have hrb2 : (rb != rb) = false := by simp
  clear hf hb0 hq0 hsz hsm hlens hbl
  have H_1 := Lib.hid (B0H.out)
  have Bfarm_2 := Lib.hid (B00.out)
  clear B0H B00
  have sz_3 : Hid (w.heap.size + 1 ≤ (w.alloc (.cells #[.int .i64 N, .slice AE es.length cE, .slice AS bs.length cS] 46)).heap.size) := Lib.hid (by simp)
  go_enter Try.func4, Try.ntmps4
  have x_4 := Bfarm_2.out.cell (i := 0) rfl
  have x_5 := Bfarm_2.out.cell (i := 1) rfl
  have x_6 := Bfarm_2.out.cell (i := 2) rfl
  have lt_7 := Bfarm_2.out.lt
  go_wp2_with fail
  refine (CZ0.out _ H_1.out).mono ?_
  rintro e w1 ⟨rfl, hb⟩
  clear x_4 x_5 x_6 lt_7
  have H_8 := Lib.hid (g_chain H_1.out hb)
  clear H_1
  have Bfarm_9 := Lib.hid (Bfarm_2.out.below hb)
  clear Bfarm_2
  have sz_10 := Lib.hid (Below.size hb)
  clear hb
  have x_11 := Bfarm_9.out.cell (i := 0) rfl
  have x_12 := Bfarm_9.out.cell (i := 1) rfl
  have x_13 := Bfarm_9.out.cell (i := 2) rfl
  have lt_14 := Bfarm_9.out.lt
  go_wp2_with fail
  refine (CTF.out _ H_8.out).mono ?_
  rintro e w2 ⟨Afp, cfp, Bfp, dfp, rfl, ho, hb⟩
  clear x_11 x_12 x_13 lt_14
  have H_15 := Lib.hid (g_chain H_8.out hb)
  clear H_8
  have Bfarm_16 := Lib.hid (Bfarm_9.out.below hb)
  clear Bfarm_9
  have sz_17 := Lib.hid (Below.size hb)
  have farmp_18 := Lib.hid (ho)
  clear hb
  clear ho
  go_wp2_with fail
  refine (CS.out _ _ _ _ _ _ _ _ farmp_18.out).mono ?_
  rintro e w3 ⟨rfl, hb⟩
  have H_19 := Lib.hid (g_chain H_15.out hb)
  clear H_15
  have Bfarm_20 := Lib.hid (Bfarm_16.out.below hb)
  clear Bfarm_16
  have farmp_21 := Lib.hid (farmp_18.out.below hb)
  clear farmp_18
  have sz_22 := Lib.hid (Below.size hb)
  clear hb
  clear farmp_21
  have x_23 := Bfarm_20.out.cell (i := 0) rfl
  have x_24 := Bfarm_20.out.cell (i := 1) rfl
  have x_25 := Bfarm_20.out.cell (i := 2) rfl
  have lt_26 := Bfarm_20.out.lt
  go_wp2_with fail
  refine (CTF.out _ H_19.out).mono ?_
  rintro e w4 ⟨Afx, cfx, Bfx, dfx, rfl, ho, hb⟩
  clear x_23 x_24 x_25 lt_26
  have H_27 := Lib.hid (g_chain H_19.out hb)
  clear H_19
  have Bfarm_28 := Lib.hid (Bfarm_20.out.below hb)
  clear Bfarm_20
  have sz_29 := Lib.hid (Below.size hb)
  have farmx_30 := Lib.hid (ho)
  clear hb
  clear ho
  have hb := below_a1 w4 (.cells #[.int .i64 N, .slice Afx es.length cfx, .slice Bfx ls.length dfx] 26)
  have sz_31 := Lib.hid (Blk.lt Bfarm_28.out)
  have H_32 := Lib.hid (g_chain H_27.out hb)
  clear H_27
  have Bfarm_33 := Lib.hid (Bfarm_28.out.below hb)
  clear Bfarm_28
  have farmx_34 := Lib.hid (farmx_30.out.below hb)
  clear farmx_30
  have sz_35 := Lib.hid (Below.size hb)
  clear hb
  have Xfarm_36 := Lib.hid (Blk.new w4 #[.int .i64 N, .slice Afx es.length cfx, .slice Bfx ls.length dfx] 26)
  have sz_37 : Hid (w4.heap.size + 1 ≤ (w4.alloc (.cells #[.int .i64 N, .slice Afx es.length cfx, .slice Bfx ls.length dfx] 26)).heap.size) := Lib.hid (by simp)
  have x_38 := Xfarm_36.out.cell (i := 0) rfl
  have x_39 := Xfarm_36.out.cell (i := 1) rfl
  have x_40 := Xfarm_36.out.cell (i := 2) rfl
  have lt_41 := Xfarm_36.out.lt
  go_wp2_with fail
  refine (CI.out _ _ _ _ _ _ _ _ farmx_34.out).mono ?_
  rintro e w5 ⟨rfl, hb⟩
  clear x_38 x_39 x_40 lt_41
  have H_42 := Lib.hid (g_chain H_32.out hb)
  clear H_32
  have Bfarm_43 := Lib.hid (Bfarm_33.out.below hb)
  clear Bfarm_33
  have farmx_44 := Lib.hid (farmx_34.out.below hb)
  clear farmx_34
  have Xfarm_45 := Lib.hid (Xfarm_36.out.below hb)
  clear Xfarm_36
  have sz_46 := Lib.hid (Below.size hb)
  clear hb
  go_upto_region 10 with fail
  refine wp_region_any (by kernel_rfl) ?_
  change wpAny _ _ _ _ _ _ _ (World.drew _)
  have hb : Below w5.heap.size w5 (World.drew w5) := (Below.refl _ _).drew
  have H_47 := Lib.hid (g_chain H_42.out hb)
  clear H_42
  have Bfarm_48 := Lib.hid (Bfarm_43.out.below hb)
  clear Bfarm_43
  have farmx_49 := Lib.hid (farmx_44.out.below hb)
  clear farmx_44
  have Xfarm_50 := Lib.hid (Xfarm_45.out.below hb)
  clear Xfarm_45
  have sz_51 := Lib.hid (Below.size hb)
  clear hb
  generalize hDD : World.drew w5 = w6 at H_47 Bfarm_48 farmx_49 Xfarm_50 sz_51 ⊢
  clear hDD
  refine wpAny_of_held (S := fun W => W.cell? ⟨w.heap.size, 0, none⟩ = some (.int .i64 N) ∧ W.cell? ⟨w.heap.size, 1, none⟩ = some (.slice AE es.length cE) ∧ W.cell? ⟨w.heap.size, 2, none⟩ = some (.slice AS bs.length cS) ∧ W.cell? ⟨w4.heap.size, 0, none⟩ = some (.int .i64 N) ∧ W.cell? ⟨w4.heap.size, 1, none⟩ = some (.slice Afx es.length cfx) ∧ W.cell? ⟨w4.heap.size, 2, none⟩ = some (.slice Bfx ls.length dfx)) _ _ _ _ ?_
  refine held_nameK ⟨Bfarm_48.out.cell (i := 0) rfl, Bfarm_48.out.cell (i := 1) rfl, Bfarm_48.out.cell (i := 2) rfl, Xfarm_50.out.cell (i := 0) rfl, Xfarm_50.out.cell (i := 1) rfl, Xfarm_50.out.cell (i := 2) rfl⟩ (fun hS => ?_)
  refine wpAnyH_take (i := 0) (oi := ⟨_, _, _, _, _, _⟩) (v := .agg #[.int .i64 N, .slice Afx es.length cfx, .slice Bfx ls.length dfx]) rfl (by kernel_rfl) (by kernel_rfl) (by kernel_rfl) (fun _ _ _ h => h) (Or.inl ⟨by kernel_rfl, fun W hS => by (obtain ⟨s0, s1, s2, s3, s4, s5⟩ := hS); go_simp⟩) hS ?_
  (try simp only [Act.put, List.setIfInBounds_toArray, List.set_cons_zero, List.set_cons_succ])
  refine wpAnyH_take (i := 1) (oi := ⟨_, _, _, _, _, _⟩) (v := .agg #[.int .i64 N, .slice AE es.length cE, .slice AS bs.length cS]) rfl (by kernel_rfl) (by kernel_rfl) (by kernel_rfl) (fun _ _ _ h => h) (Or.inl ⟨by kernel_rfl, fun W hS => by (obtain ⟨s0, s1, s2, s3, s4, s5⟩ := hS); go_simp⟩) hS ?_
  (try simp only [Act.put, List.setIfInBounds_toArray, List.set_cons_zero, List.set_cons_succ])
  refine wpAnyH_ready (rs := [2]) (by kernel_rfl) (by simp) (AllReadyH.cons rfl (fun K hK => ?_) AllReadyH.nil)
  go_simp
  go_at_call 24
  refine (CTF.out _ H_47.out).mono ?_
  rintro e w7 ⟨Afq, cfq, Bfq, dfq, rfl, ho, hb⟩
  have H_52 := Lib.hid (g_chain H_47.out hb)
  clear H_47
  have Bfarm_53 := Lib.hid (Bfarm_48.out.below hb)
  clear Bfarm_48
  have farmx_54 := Lib.hid (farmx_49.out.below hb)
  clear farmx_49
  have Xfarm_55 := Lib.hid (Xfarm_50.out.below hb)
  clear Xfarm_50
  have sz_56 := Lib.hid (Below.size hb)
  have farmq_57 := Lib.hid (ho)
  clear ho hb
  dsimp only
  refine hK.out _ _ ⟨Bfarm_53.out.cell (i := 0) rfl, Bfarm_53.out.cell (i := 1) rfl, Bfarm_53.out.cell (i := 2) rfl, Xfarm_55.out.cell (i := 0) rfl, Xfarm_55.out.cell (i := 1) rfl, Xfarm_55.out.cell (i := 2) rfl⟩ (fun hS => ?_)
  clear hK K
  (try simp only [Act.put, List.setIfInBounds_toArray, List.set_cons_zero, List.set_cons_succ])
  refine wpAnyH_ready (rs := [3]) (by kernel_rfl) (by simp) (AllReadyH.cons rfl (fun K hK => ?_) AllReadyH.nil)
  go_simp
  go_at_call 25
  refine (CEFarm.out _ _ _ _ _ _ _ _ _ _ _ _ _ _ _ farmx_54.out farmq_57.out).mono ?_
  rintro e w8 ⟨rfl, hb⟩
  have H_58 := Lib.hid (g_chain H_52.out hb)
  clear H_52
  have Bfarm_59 := Lib.hid (Bfarm_53.out.below hb)
  clear Bfarm_53
  have farmx_60 := Lib.hid (farmx_54.out.below hb)
  clear farmx_54
  have Xfarm_61 := Lib.hid (Xfarm_55.out.below hb)
  clear Xfarm_55
  have farmq_62 := Lib.hid (farmq_57.out.below hb)
  clear farmq_57
  have sz_63 := Lib.hid (Below.size hb)
  clear hb
  dsimp only
  refine hK.out _ _ ⟨Bfarm_59.out.cell (i := 0) rfl, Bfarm_59.out.cell (i := 1) rfl, Bfarm_59.out.cell (i := 2) rfl, Xfarm_61.out.cell (i := 0) rfl, Xfarm_61.out.cell (i := 1) rfl, Xfarm_61.out.cell (i := 2) rfl⟩ (fun hS => ?_)
  clear hK K
  (try simp only [Act.put, List.setIfInBounds_toArray, List.set_cons_zero, List.set_cons_succ])
  refine wpAnyH_take (i := 4) (oi := ⟨_, _, _, _, _, _⟩) (v := .bool false) rfl (by kernel_rfl) (by kernel_rfl) (by kernel_rfl) (fun _ _ _ h => h) (Or.inl ⟨by kernel_rfl, fun W hS => by (obtain ⟨s0, s1, s2, s3, s4, s5⟩ := hS); go_simp⟩) hS ?_
  (try simp only [Act.put, List.setIfInBounds_toArray, List.set_cons_zero, List.set_cons_succ])
  refine wpAnyH_done (by kernel_rfl) ?_ _
  clear farmq_62
  go_wp2
  go_ret
  exact ⟨rfl, H_58.out⟩
end Go.Proofs.Ytpgnappddddlpaa
