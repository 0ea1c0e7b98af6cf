/- The walk of the law FnExactRunOk: it returns true and writes nothing that was there. -/
import Derived.Test.YtlhcobkncceodaaDoorKRunArg
import Derived.Test.YtlhcobkncceodaaDoorKRunOkI
import Derived.Test.YtlhcobkncceodaaDoorKRunOkS
import Derived.Test.YtlhcobkncceodaaDoorCD
import Derived.Deep.Cut
import Derived.Deep.RegionHeld3
namespace Go.Proofs.YtlhcobkncceodaaDoor
open Go.RowKit
set_option linter.unusedVariables false

set_option maxRecDepth 20000 in
set_option maxHeartbeats 16000000 in
theorem walkRunOk (N : Int) (AG : Option Addr) (l cG : Nat) (G : List GE) (p s it : Int) (dn : Bool) (A : Option Addr) (n c : Nat) (B : Option Addr) (m d : Nat) (nn : Int) (C : Option Addr) (j k : Nat) (vs ev : List Int) (nx : List Nat) (w : World) (hig : GrIn w N AG l G) (hir : RunIn w p s it dn A n c B m d nn C j k vs ev nx) (hw : Wts w) :
    Calls Tryd.prog 3 #[.agg #[.int .i64 N, .slice AG l cG], .agg #[.int .i64 p, .int .i64 s, .int .i64 it, .bool dn, .slice A n c, .slice B m d, .int .i64 nn, .slice C j k]] w fun e w' => e = .returned (.bool true) ∧ Below w.heap.size w w' := by
  have HLG := Lib.hid hig.g.len
  have HLV := Lib.hid hir.v.g.len
  have HLE := Lib.hid hir.e.g.len
  have HLX := Lib.hid hir.x.g.len
  have hjk : j ≤ k := by have h1 := hir.x.cap; have h2 := hir.j; omega
  have hjj := hir.j
  subst hjj
  have CZ1 := Lib.hid (fun W => szGraph_any N AG l cG 1048576 W hig.l (by omega) (by omega))
  have B0G := Lib.hid ((Blk.new w #[.int .i64 N, .slice AG l cG] 24).alloc (.cells #[.int .i64 p, .int .i64 s, .int .i64 it, .bool dn, .slice A n c, .slice B m d, .int .i64 nn, .slice C nx.length k] 32))
  have B0R : Hid (Blk ((w.alloc (.cells #[.int .i64 N, .slice AG l cG] 24)).alloc (.cells #[.int .i64 p, .int .i64 s, .int .i64 it, .bool dn, .slice A n c, .slice B m d, .int .i64 nn, .slice C nx.length k] 32)) (w.heap.size + 1) #[.int .i64 p, .int .i64 s, .int .i64 it, .bool dn, .slice A n c, .slice B m d, .int .i64 nn, .slice C nx.length k] 32) := Lib.hid (by have h := Blk.new (w.alloc (.cells #[.int .i64 N, .slice AG l cG] 24)) #[.int .i64 p, .int .i64 s, .int .i64 it, .bool dn, .slice A n c, .slice B m d, .int .i64 nn, .slice C nx.length k] 32; simpa using h)
  have B0H := Lib.hid (below_a2 w (.cells #[.int .i64 N, .slice AG l cG] 24) (.cells #[.int .i64 p, .int .i64 s, .int .i64 it, .bool dn, .slice A n c, .slice B m d, .int .i64 nn, .slice C nx.length k] 32))
  by_cases hb1 : (l : Int) ≤ 1048576
  rotate_left
  · rw [leftG_neg (by omega)] at CZ1
    clear hig hir hw
    go_enter Tryd.func3, Tryd.ntmps3
    go_wp2_with fail
    refine (CZ1.out _).mono ?_
    rintro e wa ⟨rfl, hba⟩
    go_wp2
    go_ret
    exact ⟨rfl, g_chain B0H.out hba⟩
  rw [leftG_pos hb1] at CZ1
  have hp0 : (0 : Int) ≤ 1048576 - (l : Int) := by omega
  have hp1 : (1048576 : Int) - (l : Int) ≤ 1048576 := by omega
  have CZ2 := Lib.hid (fun W => szRun_is p s it dn A n c B m d nn C nx.length k vs ev nx W HLV.out HLE.out rfl (1048576 - (l : Int)) hir.v.l hir.e.l hir.x.l hp0 hp1)
  by_cases hb2 : ((n + m + nx.length : Nat) : Int) ≤ 1048576 - (l : Int)
  rotate_left
  · rw [leftG_neg (by omega)] at CZ2
    generalize (1048576 : Int) - (l : Int) = q0 at CZ1 CZ2 hp0
    clear hig hir hw hb1 hb2 hp1
    go_enter Tryd.func3, Tryd.ntmps3
    go_wp2_with fail
    refine (CZ1.out _).mono ?_
    rintro e wa ⟨rfl, hba⟩
    have HA := Lib.hid (g_chain B0H.out hba)
    have BA := Lib.hid (B0R.out.below hba)
    clear hba
    have y0 := BA.out.cell (i := 0) rfl
    have y1 := BA.out.cell (i := 1) rfl
    have y2 := BA.out.cell (i := 2) rfl
    have y3 := BA.out.cell (i := 3) rfl
    have y4 := BA.out.cell (i := 4) rfl
    have y5 := BA.out.cell (i := 5) rfl
    have y6 := BA.out.cell (i := 6) rfl
    have y7 := BA.out.cell (i := 7) rfl
    go_wp2_with fail
    refine (CZ2.out _).mono ?_
    rintro e wb ⟨rfl, hbb⟩
    go_wp2
    go_ret
    exact ⟨rfl, g_chain HA.out hbb⟩
  rw [leftG_pos hb2] at CZ2
  have hp2 : (0 : Int) ≤ 1048576 - (l : Int) - ((n + m + nx.length : Nat) : Int) := by omega
  have hl : l ≤ 1048576 := by omega
  have hn : n ≤ 1048576 := by omega
  have hm : m ≤ 1048576 := by omega
  have hj : nx.length ≤ 1048576 := by omega
  generalize (1048576 : Int) - (l : Int) - ((n + m + nx.length : Nat) : Int) = q1 at CZ2 hp2
  generalize (1048576 : Int) - (l : Int) = q0 at CZ1 CZ2 hp0
  have HS := Lib.hid hir.x.g.small
  have CTG := Lib.hid (fun W (h : Below w.heap.size w W) => toGraph_any N AG l cG G W (hig.g.below h) (by omega))
  have CTR := Lib.hid (fun W (h : Below w.heap.size w W) => toRun_is p s it dn A n c B m d nn C nx.length k vs ev nx W (hir.v.g.below h) (hir.e.g.below h) (hir.x.g.below h) hjk (by omega) (by omega) (by omega))
  unfold MadeGr at CTG
  rw [HLG.out] at CTG
  have CEG := Lib.hid (fun W A A' c c' (h1 : SlG W A l G) (h2 : SlG W A' l G) => eqGraph_any N A A' l c c' G W h1 h2 (by omega))
  have CER := Lib.hid (fun W lo A c B d C k lo' A' c' B' d' C' k' (h1 : Rows3 W lo A n c B m d C nx.length k vs ev nx) (h2 : Rows3 W lo' A' n c' B' m d' C' nx.length k' vs ev nx) => eqRun_is p s it dn A n c B m d nn C nx.length k vs ev nx W A' c' B' d' C' k' (SlI.of_own h1.v) (SlI.of_own h1.e) (Rd.of_own h1.x HS.out) (SlI.of_own h2.v) (SlI.of_own h2.e) (Rd.of_own h2.x HS.out) h1.cap h2.cap (by omega) (by omega) (by omega))
  have CS := Lib.hid (fun W lo AG1 cG1 lo2 A1 c1 B1 d1 C1 k1 (hg : W.ownsRow lo 76 3 (.slice AG1 l cG1) l (G.flatMap GE.cells)) (hr : Rows3 W lo2 A1 n c1 B1 m d1 C1 nx.length k1 vs ev nx) => specRunOk N AG1 l cG1 G p s it dn A1 n c1 B1 m d1 nn C1 nx.length k1 vs ev nx W (SlG.of_own hg HLG.out) (SlI.of_own hr.v) (SlI.of_own hr.e) (Rd.of_own hr.x HS.out) (by omega) (by omega) (by omega) (by omega))
  have CI := Lib.hid (fun W (h0 : Below w.heap.size w W) lo AG1 cG1 lo2 A1 c1 B1 d1 C1 k1 (hg : W.ownsRow lo 76 3 (.slice AG1 l cG1) l (G.flatMap GE.cells)) (hr : Rows3 W lo2 A1 n c1 B1 m d1 C1 nx.length k1 vs ev nx) => implRunOk N AG1 l cG1 G p s it dn A1 n c1 B1 m d1 nn C1 nx.length k1 vs ev nx W (hw.below h0) (SlG.of_own hg HLG.out) (SlI.of_own hr.v) (SlI.of_own hr.e) (Rd.of_own hr.x HS.out) (by omega) (by omega) (by omega) (by omega))
  generalize runB N G ⟨p, s, it, dn, vs, ev, nn, nx⟩ = rb at CS CI
  have hrb : (rb == rb) = true := by simp
  have hrb2 : (rb != rb) = false := by simp
  clear hig hir hb1 hb2 hw
  have H_1 := Lib.hid (B0H.out)
  have BG_2 := Lib.hid (B0G.out)
  have BR_3 := Lib.hid (B0R.out)
  clear B0H B0G B0R
  have sz_4 : Hid (w.heap.size + 2 ≤ ((w.alloc (.cells #[.int .i64 N, .slice AG l cG] 24)).alloc (.cells #[.int .i64 p, .int .i64 s, .int .i64 it, .bool dn, .slice A n c, .slice B m d, .int .i64 nn, .slice C nx.length k] 32)).heap.size) := Lib.hid (by simp)
  go_enter Tryd.func3, Tryd.ntmps3
  have x_5 := BG_2.out.cell (i := 0) rfl
  have x_6 := BG_2.out.cell (i := 1) rfl
  have lt_7 := BG_2.out.lt
  have x_8 := BR_3.out.cell (i := 0) rfl
  have x_9 := BR_3.out.cell (i := 1) rfl
  have x_10 := BR_3.out.cell (i := 2) rfl
  have x_11 := BR_3.out.cell (i := 3) rfl
  have x_12 := BR_3.out.cell (i := 4) rfl
  have x_13 := BR_3.out.cell (i := 5) rfl
  have x_14 := BR_3.out.cell (i := 6) rfl
  have x_15 := BR_3.out.cell (i := 7) rfl
  have lt_16 := BR_3.out.lt
  go_wp2_with fail
  refine (CZ1.out _).mono ?_
  rintro e w1 ⟨rfl, hb⟩
  clear x_5 x_6 lt_7 x_8 x_9 x_10 x_11 x_12 x_13 x_14 x_15 lt_16
  have H_17 := Lib.hid (g_chain H_1.out hb)
  clear H_1
  have BG_18 := Lib.hid (BG_2.out.below hb)
  clear BG_2
  have BR_19 := Lib.hid (BR_3.out.below hb)
  clear BR_3
  have sz_20 := Lib.hid (Below.size hb)
  clear hb
  have x_21 := BG_18.out.cell (i := 0) rfl
  have x_22 := BG_18.out.cell (i := 1) rfl
  have lt_23 := BG_18.out.lt
  have x_24 := BR_19.out.cell (i := 0) rfl
  have x_25 := BR_19.out.cell (i := 1) rfl
  have x_26 := BR_19.out.cell (i := 2) rfl
  have x_27 := BR_19.out.cell (i := 3) rfl
  have x_28 := BR_19.out.cell (i := 4) rfl
  have x_29 := BR_19.out.cell (i := 5) rfl
  have x_30 := BR_19.out.cell (i := 6) rfl
  have x_31 := BR_19.out.cell (i := 7) rfl
  have lt_32 := BR_19.out.lt
  go_wp2_with fail
  refine (CZ2.out _).mono ?_
  rintro e w2 ⟨rfl, hb⟩
  clear x_21 x_22 lt_23 x_24 x_25 x_26 x_27 x_28 x_29 x_30 x_31 lt_32
  have H_33 := Lib.hid (g_chain H_17.out hb)
  clear H_17
  have BG_34 := Lib.hid (BG_18.out.below hb)
  clear BG_18
  have BR_35 := Lib.hid (BR_19.out.below hb)
  clear BR_19
  have sz_36 := Lib.hid (Below.size hb)
  clear hb
  go_upto_region 8 with fail
  refine wp_region_any (by kernel_rfl) ?_
  change wpAny _ _ _ _ _ _ _ (World.drew _)
  have hb : Below w2.heap.size w2 (World.drew w2) := (Below.refl _ _).drew
  have H_37 := Lib.hid (g_chain H_33.out hb)
  clear H_33
  have BG_38 := Lib.hid (BG_34.out.below hb)
  clear BG_34
  have BR_39 := Lib.hid (BR_35.out.below hb)
  clear BR_35
  have sz_40 := Lib.hid (Below.size hb)
  clear hb
  generalize hDD : World.drew w2 = w3 at H_37 BG_38 BR_39 sz_40 ⊢
  clear hDD
  refine wpAny_of_held (S := fun W => W.cell? ⟨w.heap.size, 0, none⟩ = some (.int .i64 N) ∧ W.cell? ⟨w.heap.size, 1, none⟩ = some (.slice AG l cG) ∧ W.cell? ⟨w.heap.size + 1, 0, none⟩ = some (.int .i64 p) ∧ W.cell? ⟨w.heap.size + 1, 1, none⟩ = some (.int .i64 s) ∧ W.cell? ⟨w.heap.size + 1, 2, none⟩ = some (.int .i64 it) ∧ W.cell? ⟨w.heap.size + 1, 3, none⟩ = some (.bool dn) ∧ W.cell? ⟨w.heap.size + 1, 4, none⟩ = some (.slice A n c) ∧ W.cell? ⟨w.heap.size + 1, 5, none⟩ = some (.slice B m d) ∧ W.cell? ⟨w.heap.size + 1, 6, none⟩ = some (.int .i64 nn) ∧ W.cell? ⟨w.heap.size + 1, 7, none⟩ = some (.slice C nx.length k)) _ _ _ _ ?_
  refine wpAnyH_take (i := 0) (oi := ⟨_, _, _, _, _, _⟩) (v := .agg #[.int .i64 N, .slice AG l cG]) rfl (by kernel_rfl) (by kernel_rfl) (by kernel_rfl) (fun _ _ _ h => h) (Or.inl ⟨by kernel_rfl, fun W hS => by (obtain ⟨s0, s1, s2, s3, s4, s5, s6, s7, s8, s9⟩ := hS); go_simp⟩) ⟨BG_38.out.cell (i := 0) rfl, BG_38.out.cell (i := 1) rfl, BR_39.out.cell (i := 0) rfl, BR_39.out.cell (i := 1) rfl, BR_39.out.cell (i := 2) rfl, BR_39.out.cell (i := 3) rfl, BR_39.out.cell (i := 4) rfl, BR_39.out.cell (i := 5) rfl, BR_39.out.cell (i := 6) rfl, BR_39.out.cell (i := 7) rfl⟩ ?_
  (try simp only [Act.put, List.setIfInBounds_toArray, List.set_cons_zero, List.set_cons_succ])
  refine wpAnyH_take (i := 2) (oi := ⟨_, _, _, _, _, _⟩) (v := .agg #[.int .i64 p, .int .i64 s, .int .i64 it, .bool dn, .slice A n c, .slice B m d, .int .i64 nn, .slice C nx.length k]) rfl (by kernel_rfl) (by kernel_rfl) (by kernel_rfl) (fun _ _ _ h => h) (Or.inl ⟨by kernel_rfl, fun W hS => by (obtain ⟨s0, s1, s2, s3, s4, s5, s6, s7, s8, s9⟩ := hS); go_simp⟩) ⟨BG_38.out.cell (i := 0) rfl, BG_38.out.cell (i := 1) rfl, BR_39.out.cell (i := 0) rfl, BR_39.out.cell (i := 1) rfl, BR_39.out.cell (i := 2) rfl, BR_39.out.cell (i := 3) rfl, BR_39.out.cell (i := 4) rfl, BR_39.out.cell (i := 5) rfl, BR_39.out.cell (i := 6) rfl, BR_39.out.cell (i := 7) rfl⟩ ?_
  (try simp only [Act.put, List.setIfInBounds_toArray, List.set_cons_zero, List.set_cons_succ])
  refine wpAnyH_ready (rs := [1]) (by kernel_rfl) (by simp) (AllReadyH.cons rfl (fun K hK => ?_) AllReadyH.nil)
  go_simp
  go_at_call 8
  refine (CTG.out _ H_37.out).mono ?_
  rintro e w4 ⟨Ags, cgs, rfl, ho, hb⟩
  have H_41 := Lib.hid (g_chain H_37.out hb)
  clear H_37
  have BG_42 := Lib.hid (BG_38.out.below hb)
  clear BG_38
  have BR_43 := Lib.hid (BR_39.out.below hb)
  clear BR_39
  have sz_44 := Lib.hid (Below.size hb)
  have RG_45 := Lib.hid (ho).lt
  have Gs_46 := Lib.hid (ho)
  clear ho hb
  dsimp only
  refine hK.out _ _ ⟨BG_42.out.cell (i := 0) rfl, BG_42.out.cell (i := 1) rfl, BR_43.out.cell (i := 0) rfl, BR_43.out.cell (i := 1) rfl, BR_43.out.cell (i := 2) rfl, BR_43.out.cell (i := 3) rfl, BR_43.out.cell (i := 4) rfl, BR_43.out.cell (i := 5) rfl, BR_43.out.cell (i := 6) rfl, BR_43.out.cell (i := 7) rfl⟩ (fun _ => ?_)
  clear hK K
  (try simp only [Act.put, List.setIfInBounds_toArray, List.set_cons_zero, List.set_cons_succ])
  refine wpAnyH_ready (rs := [3]) (by kernel_rfl) (by simp) (AllReadyH.cons rfl (fun K hK => ?_) AllReadyH.nil)
  go_simp
  go_at_call 9
  refine (CTR.out _ H_41.out).mono ?_
  rintro e w5 ⟨As, cs, Bs, ds, Cs, ks, rfl, ho, hb⟩
  have H_47 := Lib.hid (g_chain H_41.out hb)
  clear H_41
  have BG_48 := Lib.hid (BG_42.out.below hb)
  clear BG_42
  have BR_49 := Lib.hid (BR_43.out.below hb)
  clear BR_43
  have Gs_50 := Lib.hid (own_below Gs_46.out hb)
  clear Gs_46
  have sz_51 := Lib.hid (Below.size hb)
  have RG_52 := Lib.hid (ho).at_
  have Rs_53 := Lib.hid (ho)
  clear ho hb
  dsimp only
  refine hK.out _ _ ⟨BG_48.out.cell (i := 0) rfl, BG_48.out.cell (i := 1) rfl, BR_49.out.cell (i := 0) rfl, BR_49.out.cell (i := 1) rfl, BR_49.out.cell (i := 2) rfl, BR_49.out.cell (i := 3) rfl, BR_49.out.cell (i := 4) rfl, BR_49.out.cell (i := 5) rfl, BR_49.out.cell (i := 6) rfl, BR_49.out.cell (i := 7) rfl⟩ (fun _ => ?_)
  clear hK K
  (try simp only [Act.put, List.setIfInBounds_toArray, List.set_cons_zero, List.set_cons_succ])
  refine wpAnyH_ready (rs := [4]) (by kernel_rfl) (by simp) (AllReadyH.cons rfl (fun K hK => ?_) AllReadyH.nil)
  go_simp
  go_at_call 7
  refine (CS.out _ _ _ _ _ _ _ _ _ _ _ Gs_50.out Rs_53.out).mono ?_
  rintro e w6 ⟨rfl, hb⟩
  have H_54 := Lib.hid (g_chain H_47.out hb)
  clear H_47
  have BG_55 := Lib.hid (BG_48.out.below hb)
  clear BG_48
  have BR_56 := Lib.hid (BR_49.out.below hb)
  clear BR_49
  have Gs_57 := Lib.hid (own_below Gs_50.out hb)
  clear Gs_50
  have Rs_58 := Lib.hid (Rs_53.out.below hb)
  clear Rs_53
  have sz_59 := Lib.hid (Below.size hb)
  clear hb
  dsimp only
  refine hK.out _ _ ⟨BG_55.out.cell (i := 0) rfl, BG_55.out.cell (i := 1) rfl, BR_56.out.cell (i := 0) rfl, BR_56.out.cell (i := 1) rfl, BR_56.out.cell (i := 2) rfl, BR_56.out.cell (i := 3) rfl, BR_56.out.cell (i := 4) rfl, BR_56.out.cell (i := 5) rfl, BR_56.out.cell (i := 6) rfl, BR_56.out.cell (i := 7) rfl⟩ (fun _ => ?_)
  clear hK K
  (try simp only [Act.put, List.setIfInBounds_toArray, List.set_cons_zero, List.set_cons_succ])
  refine wpAnyH_take (i := 5) (oi := ⟨_, _, _, _, _, _⟩) (v := .bool rb) rfl (by kernel_rfl) (by kernel_rfl) (by kernel_rfl) (fun _ _ _ h => h) (Or.inl ⟨by kernel_rfl, fun W hS => by (obtain ⟨s0, s1, s2, s3, s4, s5, s6, s7, s8, s9⟩ := hS); go_simp⟩) ⟨BG_55.out.cell (i := 0) rfl, BG_55.out.cell (i := 1) rfl, BR_56.out.cell (i := 0) rfl, BR_56.out.cell (i := 1) rfl, BR_56.out.cell (i := 2) rfl, BR_56.out.cell (i := 3) rfl, BR_56.out.cell (i := 4) rfl, BR_56.out.cell (i := 5) rfl, BR_56.out.cell (i := 6) rfl, BR_56.out.cell (i := 7) rfl⟩ ?_
  (try simp only [Act.put, List.setIfInBounds_toArray, List.set_cons_zero, List.set_cons_succ])
  refine wpAnyH_done (by kernel_rfl) ?_ _
  clear Gs_57
  clear Rs_58
  have x_60 := BG_55.out.cell (i := 0) rfl
  have x_61 := BG_55.out.cell (i := 1) rfl
  have lt_62 := BG_55.out.lt
  have x_63 := BR_56.out.cell (i := 0) rfl
  have x_64 := BR_56.out.cell (i := 1) rfl
  have x_65 := BR_56.out.cell (i := 2) rfl
  have x_66 := BR_56.out.cell (i := 3) rfl
  have x_67 := BR_56.out.cell (i := 4) rfl
  have x_68 := BR_56.out.cell (i := 5) rfl
  have x_69 := BR_56.out.cell (i := 6) rfl
  have x_70 := BR_56.out.cell (i := 7) rfl
  have lt_71 := BR_56.out.lt
  go_wp2_with fail
  refine (CTG.out _ H_54.out).mono ?_
  rintro e w7 ⟨Agx, cgx, rfl, ho, hb⟩
  clear x_60 x_61 lt_62 x_63 x_64 x_65 x_66 x_67 x_68 x_69 x_70 lt_71
  have H_72 := Lib.hid (g_chain H_54.out hb)
  clear H_54
  have BG_73 := Lib.hid (BG_55.out.below hb)
  clear BG_55
  have BR_74 := Lib.hid (BR_56.out.below hb)
  clear BR_56
  have sz_75 := Lib.hid (Below.size hb)
  have RG_76 := Lib.hid (ho).lt
  have Gx_77 := Lib.hid (ho)
  clear ho
  clear hb
  have hb := below_a1 w7 (.cells #[.int .i64 N, .slice Agx l cgx] 38)
  have sz_78 := Lib.hid (Blk.lt BG_73.out)
  have sz_79 := Lib.hid (Blk.lt BR_74.out)
  have H_80 := Lib.hid (g_chain H_72.out hb)
  clear H_72
  have BG_81 := Lib.hid (BG_73.out.below hb)
  clear BG_73
  have BR_82 := Lib.hid (BR_74.out.below hb)
  clear BR_74
  have Gx_83 := Lib.hid (own_below Gx_77.out hb)
  clear Gx_77
  have sz_84 := Lib.hid (Below.size hb)
  clear hb
  have X0_85 := Lib.hid (Blk.new w7 #[.int .i64 N, .slice Agx l cgx] 38)
  have sz_86 : Hid (w7.heap.size + 1 ≤ (w7.alloc (.cells #[.int .i64 N, .slice Agx l cgx] 38)).heap.size) := Lib.hid (by simp)
  have x_87 := BG_81.out.cell (i := 0) rfl
  have x_88 := BG_81.out.cell (i := 1) rfl
  have lt_89 := BG_81.out.lt
  have x_90 := BR_82.out.cell (i := 0) rfl
  have x_91 := BR_82.out.cell (i := 1) rfl
  have x_92 := BR_82.out.cell (i := 2) rfl
  have x_93 := BR_82.out.cell (i := 3) rfl
  have x_94 := BR_82.out.cell (i := 4) rfl
  have x_95 := BR_82.out.cell (i := 5) rfl
  have x_96 := BR_82.out.cell (i := 6) rfl
  have x_97 := BR_82.out.cell (i := 7) rfl
  have lt_98 := BR_82.out.lt
  go_wp2_with fail
  refine (CTR.out _ H_80.out).mono ?_
  rintro e w8 ⟨Ax, cx, Bx, dx, Cx, kx, rfl, ho, hb⟩
  clear x_87 x_88 lt_89 x_90 x_91 x_92 x_93 x_94 x_95 x_96 x_97 lt_98
  have H_99 := Lib.hid (g_chain H_80.out hb)
  clear H_80
  have BG_100 := Lib.hid (BG_81.out.below hb)
  clear BG_81
  have BR_101 := Lib.hid (BR_82.out.below hb)
  clear BR_82
  have Gx_102 := Lib.hid (own_below Gx_83.out hb)
  clear Gx_83
  have X0_103 := Lib.hid (X0_85.out.below hb)
  clear X0_85
  have sz_104 := Lib.hid (Below.size hb)
  have RG_105 := Lib.hid (ho).at_
  have Rx_106 := Lib.hid (ho)
  clear ho
  clear hb
  have hb := below_a1 w8 (.cells #[.int .i64 p, .int .i64 s, .int .i64 it, .bool dn, .slice Ax n cx, .slice Bx m dx, .int .i64 nn, .slice Cx nx.length kx] 43)
  have sz_107 := Lib.hid (Blk.lt BG_100.out)
  have sz_108 := Lib.hid (Blk.lt BR_101.out)
  have sz_109 := Lib.hid (Blk.lt X0_103.out)
  have H_110 := Lib.hid (g_chain H_99.out hb)
  clear H_99
  have BG_111 := Lib.hid (BG_100.out.below hb)
  clear BG_100
  have BR_112 := Lib.hid (BR_101.out.below hb)
  clear BR_101
  have Gx_113 := Lib.hid (own_below Gx_102.out hb)
  clear Gx_102
  have X0_114 := Lib.hid (X0_103.out.below hb)
  clear X0_103
  have Rx_115 := Lib.hid (Rx_106.out.below hb)
  clear Rx_106
  have sz_116 := Lib.hid (Below.size hb)
  clear hb
  have X1_117 := Lib.hid (Blk.new w8 #[.int .i64 p, .int .i64 s, .int .i64 it, .bool dn, .slice Ax n cx, .slice Bx m dx, .int .i64 nn, .slice Cx nx.length kx] 43)
  have sz_118 : Hid (w8.heap.size + 1 ≤ (w8.alloc (.cells #[.int .i64 p, .int .i64 s, .int .i64 it, .bool dn, .slice Ax n cx, .slice Bx m dx, .int .i64 nn, .slice Cx nx.length kx] 43)).heap.size) := Lib.hid (by simp)
  have x_119 := X0_114.out.cell (i := 0) rfl
  have x_120 := X0_114.out.cell (i := 1) rfl
  have lt_121 := X0_114.out.lt
  have x_122 := X1_117.out.cell (i := 0) rfl
  have x_123 := X1_117.out.cell (i := 1) rfl
  have x_124 := X1_117.out.cell (i := 2) rfl
  have x_125 := X1_117.out.cell (i := 3) rfl
  have x_126 := X1_117.out.cell (i := 4) rfl
  have x_127 := X1_117.out.cell (i := 5) rfl
  have x_128 := X1_117.out.cell (i := 6) rfl
  have x_129 := X1_117.out.cell (i := 7) rfl
  have lt_130 := X1_117.out.lt
  go_wp2_with fail
  refine (CI.out _ H_110.out _ _ _ _ _ _ _ _ _ _ Gx_113.out Rx_115.out).mono ?_
  rintro e w9 ⟨rfl, hb⟩
  clear x_119 x_120 lt_121 x_122 x_123 x_124 x_125 x_126 x_127 x_128 x_129 lt_130
  have H_131 := Lib.hid (g_chain H_110.out hb)
  clear H_110
  have BG_132 := Lib.hid (BG_111.out.below hb)
  clear BG_111
  have BR_133 := Lib.hid (BR_112.out.below hb)
  clear BR_112
  have Gx_134 := Lib.hid (own_below Gx_113.out hb)
  clear Gx_113
  have X0_135 := Lib.hid (X0_114.out.below hb)
  clear X0_114
  have Rx_136 := Lib.hid (Rx_115.out.below hb)
  clear Rx_115
  have X1_137 := Lib.hid (X1_117.out.below hb)
  clear X1_117
  have sz_138 := Lib.hid (Below.size hb)
  clear hb
  go_upto_region 14 with fail
  refine wp_region_any (by kernel_rfl) ?_
  change wpAny _ _ _ _ _ _ _ (World.drew _)
  have hb : Below w9.heap.size w9 (World.drew w9) := (Below.refl _ _).drew
  have H_139 := Lib.hid (g_chain H_131.out hb)
  clear H_131
  have BG_140 := Lib.hid (BG_132.out.below hb)
  clear BG_132
  have BR_141 := Lib.hid (BR_133.out.below hb)
  clear BR_133
  have Gx_142 := Lib.hid (own_below Gx_134.out hb)
  clear Gx_134
  have X0_143 := Lib.hid (X0_135.out.below hb)
  clear X0_135
  have Rx_144 := Lib.hid (Rx_136.out.below hb)
  clear Rx_136
  have X1_145 := Lib.hid (X1_137.out.below hb)
  clear X1_137
  have sz_146 := Lib.hid (Below.size hb)
  clear hb
  generalize hDD : World.drew w9 = w10 at H_139 BG_140 BR_141 Gx_142 X0_143 Rx_144 X1_145 sz_146 ⊢
  clear hDD
  refine wpAny_of_held (S := fun W => W.cell? ⟨w.heap.size, 0, none⟩ = some (.int .i64 N) ∧ W.cell? ⟨w.heap.size, 1, none⟩ = some (.slice AG l cG) ∧ W.cell? ⟨w.heap.size + 1, 0, none⟩ = some (.int .i64 p) ∧ W.cell? ⟨w.heap.size + 1, 1, none⟩ = some (.int .i64 s) ∧ W.cell? ⟨w.heap.size + 1, 2, none⟩ = some (.int .i64 it) ∧ W.cell? ⟨w.heap.size + 1, 3, none⟩ = some (.bool dn) ∧ W.cell? ⟨w.heap.size + 1, 4, none⟩ = some (.slice A n c) ∧ W.cell? ⟨w.heap.size + 1, 5, none⟩ = some (.slice B m d) ∧ W.cell? ⟨w.heap.size + 1, 6, none⟩ = some (.int .i64 nn) ∧ W.cell? ⟨w.heap.size + 1, 7, none⟩ = some (.slice C nx.length k) ∧ W.cell? ⟨w7.heap.size, 0, none⟩ = some (.int .i64 N) ∧ W.cell? ⟨w7.heap.size, 1, none⟩ = some (.slice Agx l cgx)) _ _ _ _ ?_
  refine wpAnyH_take (i := 0) (oi := ⟨_, _, _, _, _, _⟩) (v := .agg #[.int .i64 N, .slice Agx l cgx]) rfl (by kernel_rfl) (by kernel_rfl) (by kernel_rfl) (fun _ _ _ h => h) (Or.inl ⟨by kernel_rfl, fun W hS => by (obtain ⟨s0, s1, s2, s3, s4, s5, s6, s7, s8, s9, s10, s11⟩ := hS); go_simp⟩) ⟨BG_140.out.cell (i := 0) rfl, BG_140.out.cell (i := 1) rfl, BR_141.out.cell (i := 0) rfl, BR_141.out.cell (i := 1) rfl, BR_141.out.cell (i := 2) rfl, BR_141.out.cell (i := 3) rfl, BR_141.out.cell (i := 4) rfl, BR_141.out.cell (i := 5) rfl, BR_141.out.cell (i := 6) rfl, BR_141.out.cell (i := 7) rfl, X0_143.out.cell (i := 0) rfl, X0_143.out.cell (i := 1) rfl⟩ ?_
  (try simp only [Act.put, List.setIfInBounds_toArray, List.set_cons_zero, List.set_cons_succ])
  refine wpAnyH_take (i := 1) (oi := ⟨_, _, _, _, _, _⟩) (v := .agg #[.int .i64 N, .slice AG l cG]) rfl (by kernel_rfl) (by kernel_rfl) (by kernel_rfl) (fun _ _ _ h => h) (Or.inl ⟨by kernel_rfl, fun W hS => by (obtain ⟨s0, s1, s2, s3, s4, s5, s6, s7, s8, s9, s10, s11⟩ := hS); go_simp⟩) ⟨BG_140.out.cell (i := 0) rfl, BG_140.out.cell (i := 1) rfl, BR_141.out.cell (i := 0) rfl, BR_141.out.cell (i := 1) rfl, BR_141.out.cell (i := 2) rfl, BR_141.out.cell (i := 3) rfl, BR_141.out.cell (i := 4) rfl, BR_141.out.cell (i := 5) rfl, BR_141.out.cell (i := 6) rfl, BR_141.out.cell (i := 7) rfl, X0_143.out.cell (i := 0) rfl, X0_143.out.cell (i := 1) rfl⟩ ?_
  (try simp only [Act.put, List.setIfInBounds_toArray, List.set_cons_zero, List.set_cons_succ])
  refine wpAnyH_ready (rs := [2]) (by kernel_rfl) (by simp) (AllReadyH.cons rfl (fun K hK => ?_) AllReadyH.nil)
  go_simp
  go_at_call 8
  refine (CTG.out _ H_139.out).mono ?_
  rintro e w11 ⟨Agq, cgq, rfl, ho, hb⟩
  have H_147 := Lib.hid (g_chain H_139.out hb)
  clear H_139
  have BG_148 := Lib.hid (BG_140.out.below hb)
  clear BG_140
  have BR_149 := Lib.hid (BR_141.out.below hb)
  clear BR_141
  have Gx_150 := Lib.hid (own_below Gx_142.out hb)
  clear Gx_142
  have X0_151 := Lib.hid (X0_143.out.below hb)
  clear X0_143
  have Rx_152 := Lib.hid (Rx_144.out.below hb)
  clear Rx_144
  have X1_153 := Lib.hid (X1_145.out.below hb)
  clear X1_145
  have sz_154 := Lib.hid (Below.size hb)
  have RG_155 := Lib.hid (ho).lt
  have Gq_156 := Lib.hid (ho)
  clear ho hb
  dsimp only
  refine hK.out _ _ ⟨BG_148.out.cell (i := 0) rfl, BG_148.out.cell (i := 1) rfl, BR_149.out.cell (i := 0) rfl, BR_149.out.cell (i := 1) rfl, BR_149.out.cell (i := 2) rfl, BR_149.out.cell (i := 3) rfl, BR_149.out.cell (i := 4) rfl, BR_149.out.cell (i := 5) rfl, BR_149.out.cell (i := 6) rfl, BR_149.out.cell (i := 7) rfl, X0_151.out.cell (i := 0) rfl, X0_151.out.cell (i := 1) rfl⟩ (fun _ => ?_)
  clear hK K
  (try simp only [Act.put, List.setIfInBounds_toArray, List.set_cons_zero, List.set_cons_succ])
  refine wpAnyH_ready (rs := [3]) (by kernel_rfl) (by simp) (AllReadyH.cons rfl (fun K hK => ?_) AllReadyH.nil)
  go_simp
  go_at_call 11
  refine (CEG.out _ _ _ _ _ (SlG.of_own Gx_150.out HLG.out) (SlG.of_own Gq_156.out HLG.out)).mono ?_
  rintro e w12 ⟨rfl, hb⟩
  have H_157 := Lib.hid (g_chain H_147.out hb)
  clear H_147
  have BG_158 := Lib.hid (BG_148.out.below hb)
  clear BG_148
  have BR_159 := Lib.hid (BR_149.out.below hb)
  clear BR_149
  have Gx_160 := Lib.hid (own_below Gx_150.out hb)
  clear Gx_150
  have X0_161 := Lib.hid (X0_151.out.below hb)
  clear X0_151
  have Rx_162 := Lib.hid (Rx_152.out.below hb)
  clear Rx_152
  have X1_163 := Lib.hid (X1_153.out.below hb)
  clear X1_153
  have Gq_164 := Lib.hid (own_below Gq_156.out hb)
  clear Gq_156
  have sz_165 := Lib.hid (Below.size hb)
  clear hb
  dsimp only
  refine hK.out _ _ ⟨BG_158.out.cell (i := 0) rfl, BG_158.out.cell (i := 1) rfl, BR_159.out.cell (i := 0) rfl, BR_159.out.cell (i := 1) rfl, BR_159.out.cell (i := 2) rfl, BR_159.out.cell (i := 3) rfl, BR_159.out.cell (i := 4) rfl, BR_159.out.cell (i := 5) rfl, BR_159.out.cell (i := 6) rfl, BR_159.out.cell (i := 7) rfl, X0_161.out.cell (i := 0) rfl, X0_161.out.cell (i := 1) rfl⟩ (fun _ => ?_)
  clear hK K
  (try simp only [Act.put, List.setIfInBounds_toArray, List.set_cons_zero, List.set_cons_succ])
  refine wpAnyH_take (i := 4) (oi := ⟨_, _, _, _, _, _⟩) (v := .bool false) rfl (by kernel_rfl) (by kernel_rfl) (by kernel_rfl) (fun _ _ _ h => h) (Or.inl ⟨by kernel_rfl, fun W hS => by (obtain ⟨s0, s1, s2, s3, s4, s5, s6, s7, s8, s9, s10, s11⟩ := hS); go_simp⟩) ⟨BG_158.out.cell (i := 0) rfl, BG_158.out.cell (i := 1) rfl, BR_159.out.cell (i := 0) rfl, BR_159.out.cell (i := 1) rfl, BR_159.out.cell (i := 2) rfl, BR_159.out.cell (i := 3) rfl, BR_159.out.cell (i := 4) rfl, BR_159.out.cell (i := 5) rfl, BR_159.out.cell (i := 6) rfl, BR_159.out.cell (i := 7) rfl, X0_161.out.cell (i := 0) rfl, X0_161.out.cell (i := 1) rfl⟩ ?_
  (try simp only [Act.put, List.setIfInBounds_toArray, List.set_cons_zero, List.set_cons_succ])
  refine wpAnyH_done (by kernel_rfl) ?_ _
  clear Gq_164
  go_upto_region 16 with fail
  refine wp_region_any (by kernel_rfl) ?_
  change wpAny _ _ _ _ _ _ _ (World.drew _)
  have hb : Below w12.heap.size w12 (World.drew w12) := (Below.refl _ _).drew
  have H_166 := Lib.hid (g_chain H_157.out hb)
  clear H_157
  have BG_167 := Lib.hid (BG_158.out.below hb)
  clear BG_158
  have BR_168 := Lib.hid (BR_159.out.below hb)
  clear BR_159
  have Gx_169 := Lib.hid (own_below Gx_160.out hb)
  clear Gx_160
  have X0_170 := Lib.hid (X0_161.out.below hb)
  clear X0_161
  have Rx_171 := Lib.hid (Rx_162.out.below hb)
  clear Rx_162
  have X1_172 := Lib.hid (X1_163.out.below hb)
  clear X1_163
  have sz_173 := Lib.hid (Below.size hb)
  clear hb
  generalize hDD : World.drew w12 = w13 at H_166 BG_167 BR_168 Gx_169 X0_170 Rx_171 X1_172 sz_173 ⊢
  clear hDD
  refine wpAny_of_held (S := fun W => W.cell? ⟨w.heap.size, 0, none⟩ = some (.int .i64 N) ∧ W.cell? ⟨w.heap.size, 1, none⟩ = some (.slice AG l cG) ∧ W.cell? ⟨w.heap.size + 1, 0, none⟩ = some (.int .i64 p) ∧ W.cell? ⟨w.heap.size + 1, 1, none⟩ = some (.int .i64 s) ∧ W.cell? ⟨w.heap.size + 1, 2, none⟩ = some (.int .i64 it) ∧ W.cell? ⟨w.heap.size + 1, 3, none⟩ = some (.bool dn) ∧ W.cell? ⟨w.heap.size + 1, 4, none⟩ = some (.slice A n c) ∧ W.cell? ⟨w.heap.size + 1, 5, none⟩ = some (.slice B m d) ∧ W.cell? ⟨w.heap.size + 1, 6, none⟩ = some (.int .i64 nn) ∧ W.cell? ⟨w.heap.size + 1, 7, none⟩ = some (.slice C nx.length k) ∧ W.cell? ⟨w8.heap.size, 0, none⟩ = some (.int .i64 p) ∧ W.cell? ⟨w8.heap.size, 1, none⟩ = some (.int .i64 s) ∧ W.cell? ⟨w8.heap.size, 2, none⟩ = some (.int .i64 it) ∧ W.cell? ⟨w8.heap.size, 3, none⟩ = some (.bool dn) ∧ W.cell? ⟨w8.heap.size, 4, none⟩ = some (.slice Ax n cx) ∧ W.cell? ⟨w8.heap.size, 5, none⟩ = some (.slice Bx m dx) ∧ W.cell? ⟨w8.heap.size, 6, none⟩ = some (.int .i64 nn) ∧ W.cell? ⟨w8.heap.size, 7, none⟩ = some (.slice Cx nx.length kx)) _ _ _ _ ?_
  refine wpAnyH_take (i := 0) (oi := ⟨_, _, _, _, _, _⟩) (v := .agg #[.int .i64 p, .int .i64 s, .int .i64 it, .bool dn, .slice Ax n cx, .slice Bx m dx, .int .i64 nn, .slice Cx nx.length kx]) rfl (by kernel_rfl) (by kernel_rfl) (by kernel_rfl) (fun _ _ _ h => h) (Or.inl ⟨by kernel_rfl, fun W hS => by (obtain ⟨s0, s1, s2, s3, s4, s5, s6, s7, s8, s9, s10, s11, s12, s13, s14, s15, s16, s17⟩ := hS); go_simp⟩) ⟨BG_167.out.cell (i := 0) rfl, BG_167.out.cell (i := 1) rfl, BR_168.out.cell (i := 0) rfl, BR_168.out.cell (i := 1) rfl, BR_168.out.cell (i := 2) rfl, BR_168.out.cell (i := 3) rfl, BR_168.out.cell (i := 4) rfl, BR_168.out.cell (i := 5) rfl, BR_168.out.cell (i := 6) rfl, BR_168.out.cell (i := 7) rfl, X1_172.out.cell (i := 0) rfl, X1_172.out.cell (i := 1) rfl, X1_172.out.cell (i := 2) rfl, X1_172.out.cell (i := 3) rfl, X1_172.out.cell (i := 4) rfl, X1_172.out.cell (i := 5) rfl, X1_172.out.cell (i := 6) rfl, X1_172.out.cell (i := 7) rfl⟩ ?_
  (try simp only [Act.put, List.setIfInBounds_toArray, List.set_cons_zero, List.set_cons_succ])
  refine wpAnyH_take (i := 1) (oi := ⟨_, _, _, _, _, _⟩) (v := .agg #[.int .i64 p, .int .i64 s, .int .i64 it, .bool dn, .slice A n c, .slice B m d, .int .i64 nn, .slice C nx.length k]) rfl (by kernel_rfl) (by kernel_rfl) (by kernel_rfl) (fun _ _ _ h => h) (Or.inl ⟨by kernel_rfl, fun W hS => by (obtain ⟨s0, s1, s2, s3, s4, s5, s6, s7, s8, s9, s10, s11, s12, s13, s14, s15, s16, s17⟩ := hS); go_simp⟩) ⟨BG_167.out.cell (i := 0) rfl, BG_167.out.cell (i := 1) rfl, BR_168.out.cell (i := 0) rfl, BR_168.out.cell (i := 1) rfl, BR_168.out.cell (i := 2) rfl, BR_168.out.cell (i := 3) rfl, BR_168.out.cell (i := 4) rfl, BR_168.out.cell (i := 5) rfl, BR_168.out.cell (i := 6) rfl, BR_168.out.cell (i := 7) rfl, X1_172.out.cell (i := 0) rfl, X1_172.out.cell (i := 1) rfl, X1_172.out.cell (i := 2) rfl, X1_172.out.cell (i := 3) rfl, X1_172.out.cell (i := 4) rfl, X1_172.out.cell (i := 5) rfl, X1_172.out.cell (i := 6) rfl, X1_172.out.cell (i := 7) rfl⟩ ?_
  (try simp only [Act.put, List.setIfInBounds_toArray, List.set_cons_zero, List.set_cons_succ])
  refine wpAnyH_ready (rs := [2]) (by kernel_rfl) (by simp) (AllReadyH.cons rfl (fun K hK => ?_) AllReadyH.nil)
  go_simp
  go_at_call 9
  refine (CTR.out _ H_166.out).mono ?_
  rintro e w14 ⟨Aq, cq, Bq, dq, Cq, kq, rfl, ho, hb⟩
  have H_174 := Lib.hid (g_chain H_166.out hb)
  clear H_166
  have BG_175 := Lib.hid (BG_167.out.below hb)
  clear BG_167
  have BR_176 := Lib.hid (BR_168.out.below hb)
  clear BR_168
  have Gx_177 := Lib.hid (own_below Gx_169.out hb)
  clear Gx_169
  have X0_178 := Lib.hid (X0_170.out.below hb)
  clear X0_170
  have Rx_179 := Lib.hid (Rx_171.out.below hb)
  clear Rx_171
  have X1_180 := Lib.hid (X1_172.out.below hb)
  clear X1_172
  have sz_181 := Lib.hid (Below.size hb)
  have RG_182 := Lib.hid (ho).at_
  have Rq_183 := Lib.hid (ho)
  clear ho hb
  dsimp only
  refine hK.out _ _ ⟨BG_175.out.cell (i := 0) rfl, BG_175.out.cell (i := 1) rfl, BR_176.out.cell (i := 0) rfl, BR_176.out.cell (i := 1) rfl, BR_176.out.cell (i := 2) rfl, BR_176.out.cell (i := 3) rfl, BR_176.out.cell (i := 4) rfl, BR_176.out.cell (i := 5) rfl, BR_176.out.cell (i := 6) rfl, BR_176.out.cell (i := 7) rfl, X1_180.out.cell (i := 0) rfl, X1_180.out.cell (i := 1) rfl, X1_180.out.cell (i := 2) rfl, X1_180.out.cell (i := 3) rfl, X1_180.out.cell (i := 4) rfl, X1_180.out.cell (i := 5) rfl, X1_180.out.cell (i := 6) rfl, X1_180.out.cell (i := 7) rfl⟩ (fun _ => ?_)
  clear hK K
  (try simp only [Act.put, List.setIfInBounds_toArray, List.set_cons_zero, List.set_cons_succ])
  refine wpAnyH_ready (rs := [3]) (by kernel_rfl) (by simp) (AllReadyH.cons rfl (fun K hK => ?_) AllReadyH.nil)
  go_simp
  go_at_call 12
  refine (CER.out _ _ _ _ _ _ _ _ _ _ _ _ _ _ _ Rx_179.out Rq_183.out).mono ?_
  rintro e w15 ⟨rfl, hb⟩
  have H_184 := Lib.hid (g_chain H_174.out hb)
  clear H_174
  have BG_185 := Lib.hid (BG_175.out.below hb)
  clear BG_175
  have BR_186 := Lib.hid (BR_176.out.below hb)
  clear BR_176
  have Gx_187 := Lib.hid (own_below Gx_177.out hb)
  clear Gx_177
  have X0_188 := Lib.hid (X0_178.out.below hb)
  clear X0_178
  have Rx_189 := Lib.hid (Rx_179.out.below hb)
  clear Rx_179
  have X1_190 := Lib.hid (X1_180.out.below hb)
  clear X1_180
  have Rq_191 := Lib.hid (Rq_183.out.below hb)
  clear Rq_183
  have sz_192 := Lib.hid (Below.size hb)
  clear hb
  dsimp only
  refine hK.out _ _ ⟨BG_185.out.cell (i := 0) rfl, BG_185.out.cell (i := 1) rfl, BR_186.out.cell (i := 0) rfl, BR_186.out.cell (i := 1) rfl, BR_186.out.cell (i := 2) rfl, BR_186.out.cell (i := 3) rfl, BR_186.out.cell (i := 4) rfl, BR_186.out.cell (i := 5) rfl, BR_186.out.cell (i := 6) rfl, BR_186.out.cell (i := 7) rfl, X1_190.out.cell (i := 0) rfl, X1_190.out.cell (i := 1) rfl, X1_190.out.cell (i := 2) rfl, X1_190.out.cell (i := 3) rfl, X1_190.out.cell (i := 4) rfl, X1_190.out.cell (i := 5) rfl, X1_190.out.cell (i := 6) rfl, X1_190.out.cell (i := 7) rfl⟩ (fun _ => ?_)
  clear hK K
  (try simp only [Act.put, List.setIfInBounds_toArray, List.set_cons_zero, List.set_cons_succ])
  refine wpAnyH_take (i := 4) (oi := ⟨_, _, _, _, _, _⟩) (v := .bool false) rfl (by kernel_rfl) (by kernel_rfl) (by kernel_rfl) (fun _ _ _ h => h) (Or.inl ⟨by kernel_rfl, fun W hS => by (obtain ⟨s0, s1, s2, s3, s4, s5, s6, s7, s8, s9, s10, s11, s12, s13, s14, s15, s16, s17⟩ := hS); go_simp⟩) ⟨BG_185.out.cell (i := 0) rfl, BG_185.out.cell (i := 1) rfl, BR_186.out.cell (i := 0) rfl, BR_186.out.cell (i := 1) rfl, BR_186.out.cell (i := 2) rfl, BR_186.out.cell (i := 3) rfl, BR_186.out.cell (i := 4) rfl, BR_186.out.cell (i := 5) rfl, BR_186.out.cell (i := 6) rfl, BR_186.out.cell (i := 7) rfl, X1_190.out.cell (i := 0) rfl, X1_190.out.cell (i := 1) rfl, X1_190.out.cell (i := 2) rfl, X1_190.out.cell (i := 3) rfl, X1_190.out.cell (i := 4) rfl, X1_190.out.cell (i := 5) rfl, X1_190.out.cell (i := 6) rfl, X1_190.out.cell (i := 7) rfl⟩ ?_
  (try simp only [Act.put, List.setIfInBounds_toArray, List.set_cons_zero, List.set_cons_succ])
  refine wpAnyH_done (by kernel_rfl) ?_ _
  clear Rq_191
  go_wp2
  go_ret
  exact ⟨rfl, H_184.out⟩
end Go.Proofs.YtlhcobkncceodaaDoor
