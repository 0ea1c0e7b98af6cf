/- The walk of the law FnExactViews: it returns true and writes nothing that was there. -/
import Derived.Test.YtlhcobkncceodaaGreatDoorKRunArg
import Derived.Test.YtlhcobkncceodaaGreatDoorKViewsC
import Derived.Test.YtlhcobkncceodaaGreatDoorCF
import Derived.Test.YtlhcobkncceodaaGreatDoorCD
import Derived.Test.YtlhcobkncceodaaGreatDoorKSetLaid
import Derived.Deep.Cut
import Derived.Deep.RegionHeld3
namespace Go.Proofs.YtlhcobkncceodaaGreatDoor
open Go.RowKit
set_option linter.unusedVariables false

set_option maxRecDepth 20000 in
set_option maxHeartbeats 16000000 in
theorem walkViews (N : Int) (AG : Option Addr) (l cG : Nat) (G : List GE) (p s it : Int) (dn : Bool) (A : Option Addr) (n c : Nat) (B : Option Addr) (m d : Nat) (nn : Int) (C : Option Addr) (j k : Nat) (vs ev : List Int) (nx : List Nat) (v : Int) (w : World) (hig : GrIn w N AG l G) (hir : RunIn w p s it dn A n c B m d nn C j k vs ev nx) (_hv : (Lit.int .i64 v).wf = true) (hw : Wts w) :
    Calls Tryz.prog 5 #[.agg #[.int .i64 N, .slice AG l cG], .agg #[.int .i64 p, .int .i64 s, .int .i64 it, .bool dn, .slice A n c, .slice B m d, .int .i64 nn, .slice C j k], .int .i64 v] w fun e w' => e = .returned (.bool true) ∧ Below w.heap.size w w' := by
  have HLG := Lib.hid hig.g.len
  have HLV := Lib.hid hir.v.g.len
  have HLE := Lib.hid hir.e.g.len
  have HLX := Lib.hid hir.x.g.len
  have hjk : j ≤ k := by have h1 := hir.x.cap; have h2 := hir.j; omega
  have hjj := hir.j
  subst hjj
  have CZ1 := Lib.hid (fun W => szGraph_any N AG l cG 1048576 W hig.l (by omega) (by omega))
  have B0G := Lib.hid ((Blk.new w #[.int .i64 N, .slice AG l cG] 46).alloc (.cells #[.int .i64 p, .int .i64 s, .int .i64 it, .bool dn, .slice A n c, .slice B m d, .int .i64 nn, .slice C nx.length k] 50))
  have B0R : Hid (Blk ((w.alloc (.cells #[.int .i64 N, .slice AG l cG] 46)).alloc (.cells #[.int .i64 p, .int .i64 s, .int .i64 it, .bool dn, .slice A n c, .slice B m d, .int .i64 nn, .slice C nx.length k] 50)) (w.heap.size + 1) #[.int .i64 p, .int .i64 s, .int .i64 it, .bool dn, .slice A n c, .slice B m d, .int .i64 nn, .slice C nx.length k] 50) := Lib.hid (by have h := Blk.new (w.alloc (.cells #[.int .i64 N, .slice AG l cG] 46)) #[.int .i64 p, .int .i64 s, .int .i64 it, .bool dn, .slice A n c, .slice B m d, .int .i64 nn, .slice C nx.length k] 50; simpa using h)
  have B0H := Lib.hid (below_a2 w (.cells #[.int .i64 N, .slice AG l cG] 46) (.cells #[.int .i64 p, .int .i64 s, .int .i64 it, .bool dn, .slice A n c, .slice B m d, .int .i64 nn, .slice C nx.length k] 50))
  by_cases hb1 : (l : Int) ≤ 1048576
  rotate_left
  · rw [leftG_neg (by omega)] at CZ1
    clear hig hir hw
    go_enter Tryz.func5, Tryz.ntmps5
    go_wp2_with fail
    refine (CZ1.out _).mono ?_
    rintro e wa ⟨rfl, hba⟩
    go_wp2
    go_ret
    exact ⟨rfl, g_chain B0H.out hba⟩
  rw [leftG_pos hb1] at CZ1
  have hp0 : (0 : Int) ≤ 1048576 - (l : Int) := by omega
  have hp1 : (1048576 : Int) - (l : Int) ≤ 1048576 := by omega
  have CZ2 := Lib.hid (fun W => szRun_is p s it dn A n c B m d nn C nx.length k vs ev nx W HLV.out HLE.out rfl (1048576 - (l : Int)) hir.v.l hir.e.l hir.x.l hp0 hp1)
  by_cases hb2 : ((n + m + nx.length : Nat) : Int) ≤ 1048576 - (l : Int)
  rotate_left
  · rw [leftG_neg (by omega)] at CZ2
    generalize (1048576 : Int) - (l : Int) = q0 at CZ1 CZ2 hp0
    clear hig hir hw hb1 hb2 hp1
    go_enter Tryz.func5, Tryz.ntmps5
    go_wp2_with fail
    refine (CZ1.out _).mono ?_
    rintro e wa ⟨rfl, hba⟩
    have HA := Lib.hid (g_chain B0H.out hba)
    have BA := Lib.hid (B0R.out.below hba)
    clear hba
    have y0 := BA.out.cell (i := 0) rfl
    have y1 := BA.out.cell (i := 1) rfl
    have y2 := BA.out.cell (i := 2) rfl
    have y3 := BA.out.cell (i := 3) rfl
    have y4 := BA.out.cell (i := 4) rfl
    have y5 := BA.out.cell (i := 5) rfl
    have y6 := BA.out.cell (i := 6) rfl
    have y7 := BA.out.cell (i := 7) rfl
    go_wp2_with fail
    refine (CZ2.out _).mono ?_
    rintro e wb ⟨rfl, hbb⟩
    go_wp2
    go_ret
    exact ⟨rfl, g_chain HA.out hbb⟩
  rw [leftG_pos hb2] at CZ2
  have hp2 : (0 : Int) ≤ 1048576 - (l : Int) - ((n + m + nx.length : Nat) : Int) := by omega
  have hl : l ≤ 1048576 := by omega
  have hn : n ≤ 1048576 := by omega
  have hm : m ≤ 1048576 := by omega
  have hj : nx.length ≤ 1048576 := by omega
  generalize (1048576 : Int) - (l : Int) - ((n + m + nx.length : Nat) : Int) = q1 at CZ2 hp2
  generalize (1048576 : Int) - (l : Int) = q0 at CZ1 CZ2 hp0
  have HS := Lib.hid hir.x.g.small
  have CTG := Lib.hid (fun W (h : Below w.heap.size w W) => toGraph_any N AG l cG G W (hig.g.below h) (by omega))
  have CTR := Lib.hid (fun W (h : Below w.heap.size w W) => toRun_is p s it dn A n c B m d nn C nx.length k vs ev nx W (hir.v.g.below h) (hir.e.g.below h) (hir.x.g.below h) hjk (by omega) (by omega) (by omega))
  unfold MadeGr at CTG
  rw [HLG.out] at CTG
  have CEG := Lib.hid (fun W A A' c c' (h1 : SlG W A l G) (h2 : SlG W A' l G) => eqGraph_any N A A' l c c' G W h1 h2 (by omega))
  have CER := Lib.hid (fun W lo A c B d C k lo' A' c' B' d' C' k' (h1 : Rows3 W lo A n c B m d C nx.length k vs ev nx) (h2 : Rows3 W lo' A' n c' B' m d' C' nx.length k' vs ev nx) => eqRun_is p s it dn A n c B m d nn C nx.length k vs ev nx W A' c' B' d' C' k' (SlI.of_own h1.v) (SlI.of_own h1.e) (Rd.of_own h1.x HS.out) (SlI.of_own h2.v) (SlI.of_own h2.e) (Rd.of_own h2.x HS.out) h1.cap h2.cap (by omega) (by omega) (by omega))
  have CS := Lib.hid (fun W lo AG1 cG1 lo2 A1 c1 B1 d1 C1 k1 (hg : W.ownsRow lo 113 3 (.slice AG1 l cG1) l (G.flatMap GE.cells)) (hr : Rows3 W lo2 A1 n c1 B1 m d1 C1 nx.length k1 vs ev nx) => specViews N AG1 l cG1 G p s it dn A1 n c1 B1 m d1 nn C1 nx.length k1 vs ev nx v W (SlG.of_own hg HLG.out) (SlI.of_own hr.v) (SlI.of_own hr.e) (Rd.of_own hr.x HS.out) (by omega) (by omega) (by omega) (by omega))
  have CI := Lib.hid (fun W (h0 : Below w.heap.size w W) lo AG1 cG1 lo2 A1 c1 B1 d1 C1 k1 (hg : W.ownsRow lo 113 3 (.slice AG1 l cG1) l (G.flatMap GE.cells)) (hr : Rows3 W lo2 A1 n c1 B1 m d1 C1 nx.length k1 vs ev nx) => implViews N AG1 l cG1 G p s it dn A1 n c1 B1 m d1 nn C1 nx.length k1 vs ev nx v W (hw.below h0) (SlG.of_own hg HLG.out) (SlI.of_own hr.v) (SlI.of_own hr.e) (Rd.of_own hr.x HS.out) (by omega) (by omega) (by omega) (by omega))
  have HVL : Hid ((viewsR N G ⟨p, s, it, dn, vs, ev, nn, nx⟩ v).length = (placesR N G ⟨p, s, it, dn, vs, ev, nn, nx⟩ v).length ∧ (placesR N G ⟨p, s, it, dn, vs, ev, nn, nx⟩ v).length ≤ 1048576) := Lib.hid (by
    unfold viewsR placesR
    split
    · have h1 := idx_len G v G.length
      have h2 := HLG.out
      constructor
      · unfold viewsT; rw [List.length_map]
      · omega
    · simp)
  generalize viewsR N G ⟨p, s, it, dn, vs, ev, nn, nx⟩ v = es at CS CI HVL
  generalize placesR N G ⟨p, s, it, dn, vs, ev, nn, nx⟩ v = is at CS CI HVL
  have hvl := HVL.out.1
  have hil := HVL.out.2
  unfold MadeVI at CS CI
  have CMG := Lib.hid (fun W lo A c (h : W.ownsRow lo 113 3 (.slice A l c) l (G.flatMap GE.cells)) => markGraph_any N A l c lo 1 G W h HLG.out (by omega) (by omega))
  have CMR := Lib.hid (fun W lo A c B d C k (h : Rows3 W lo A n c B m d C nx.length k vs ev nx) => markRun_any p s it dn nn A n c B m d C nx.length k lo (1 + 3 * l) vs ev nx W h.v h.e h.x h.ap (by omega) (by omega) (by omega) (by omega))
  have CEV := Lib.hid (fun W lo A c lo' A' c' (h1 : W.ownsRow lo 93 4 (.slice A is.length c) is.length (es.flatMap VE.cells)) (h2 : W.ownsRow lo' 93 4 (.slice A' is.length c') is.length (es.flatMap VE.cells)) => eqVs_any A A' is.length c c' es W (SlV.of_own h1 hvl) (SlV.of_own h2 hvl) (by omega))
  have CEI := Lib.hid (fun W lo A c lo' A' c' (h1 : W.ownsRow lo 3 1 (.slice A is.length c) is.length (vi (zI is))) (h2 : W.ownsRow lo' 3 1 (.slice A' is.length c') is.length (vi (zI is))) => eqInts_any A A' is.length c c' (zI is) W (SlI.of_own h1) (SlI.of_own h2) (by omega))
  have CMV := Lib.hid (fun W lo A c (h : W.ownsRow lo 93 4 (.slice A is.length c) is.length (es.flatMap VE.cells)) => markV4_any A is.length c lo 1 es W h hvl (by omega) (by omega))
  have CHV := Lib.hid (fun W lo A c (h : W.ownsRow lo 93 4 (.slice A is.length c) is.length ((mark4 1 is.length).flatMap VE.cells)) => heldV4_any A is.length c 1 W (SlV.of_own h (mark4_len _ _)) (by omega) (by omega))
  have CHI := Lib.hid (fun W lo A c (h : W.ownsRow lo 3 1 (.slice A is.length c) is.length (vi (ints (1 + 4 * is.length) is.length))) => heldZ_any A is.length c (1 + 4 * is.length) W (SlI.of_own h) (by omega) (by omega))
  have CMI := Lib.hid (fun W lo A c (h : W.ownsRow lo 3 1 (.slice A is.length c) is.length (vi (zI is))) => markInts_any A is.length c lo (1 + 4 * is.length) (zI is) W h (by omega) (by omega))
  
  have hk1 : (0 : Int) ≤ ((1 + 3 * l : Nat) : Int) := by omega
  have hk2 : (0 : Int) ≤ ((1 + 3 * l + n + m + nx.length : Nat) : Int) := by omega
  have hk3 : (0 : Int) ≤ ((1 + 4 * is.length : Nat) : Int) := by omega
  have hk4 : (0 : Int) ≤ ((1 + 4 * is.length + is.length : Nat) : Int) := by omega
  clear hig hir hb1 hb2 hw
  have H_1 := Lib.hid (B0H.out)
  have BG_2 := Lib.hid (B0G.out)
  have BR_3 := Lib.hid (B0R.out)
  clear B0H B0G B0R
  have sz_4 : Hid (w.heap.size + 2 ≤ ((w.alloc (.cells #[.int .i64 N, .slice AG l cG] 46)).alloc (.cells #[.int .i64 p, .int .i64 s, .int .i64 it, .bool dn, .slice A n c, .slice B m d, .int .i64 nn, .slice C nx.length k] 50)).heap.size) := Lib.hid (by simp)
  go_enter Tryz.func5, Tryz.ntmps5
  have x_5 := BG_2.out.cell (i := 0) rfl
  have x_6 := BG_2.out.cell (i := 1) rfl
  have lt_7 := BG_2.out.lt
  have x_8 := BR_3.out.cell (i := 0) rfl
  have x_9 := BR_3.out.cell (i := 1) rfl
  have x_10 := BR_3.out.cell (i := 2) rfl
  have x_11 := BR_3.out.cell (i := 3) rfl
  have x_12 := BR_3.out.cell (i := 4) rfl
  have x_13 := BR_3.out.cell (i := 5) rfl
  have x_14 := BR_3.out.cell (i := 6) rfl
  have x_15 := BR_3.out.cell (i := 7) rfl
  have lt_16 := BR_3.out.lt
  go_wp2_with fail
  refine (CZ1.out _).mono ?_
  rintro e w1 ⟨rfl, hb⟩
  clear x_5 x_6 lt_7 x_8 x_9 x_10 x_11 x_12 x_13 x_14 x_15 lt_16
  have H_17 := Lib.hid (g_chain H_1.out hb)
  clear H_1
  have BG_18 := Lib.hid (BG_2.out.below hb)
  clear BG_2
  have BR_19 := Lib.hid (BR_3.out.below hb)
  clear BR_3
  have sz_20 := Lib.hid (Below.size hb)
  clear hb
  have x_21 := BG_18.out.cell (i := 0) rfl
  have x_22 := BG_18.out.cell (i := 1) rfl
  have lt_23 := BG_18.out.lt
  have x_24 := BR_19.out.cell (i := 0) rfl
  have x_25 := BR_19.out.cell (i := 1) rfl
  have x_26 := BR_19.out.cell (i := 2) rfl
  have x_27 := BR_19.out.cell (i := 3) rfl
  have x_28 := BR_19.out.cell (i := 4) rfl
  have x_29 := BR_19.out.cell (i := 5) rfl
  have x_30 := BR_19.out.cell (i := 6) rfl
  have x_31 := BR_19.out.cell (i := 7) rfl
  have lt_32 := BR_19.out.lt
  go_wp2_with fail
  refine (CZ2.out _).mono ?_
  rintro e w2 ⟨rfl, hb⟩
  clear x_21 x_22 lt_23 x_24 x_25 x_26 x_27 x_28 x_29 x_30 x_31 lt_32
  have H_33 := Lib.hid (g_chain H_17.out hb)
  clear H_17
  have BG_34 := Lib.hid (BG_18.out.below hb)
  clear BG_18
  have BR_35 := Lib.hid (BR_19.out.below hb)
  clear BR_19
  have sz_36 := Lib.hid (Below.size hb)
  clear hb
  go_upto_region 8 with fail
  refine wp_region_any (by kernel_rfl) ?_
  change wpAny _ _ _ _ _ _ _ (World.drew _)
  have hb : Below w2.heap.size w2 (World.drew w2) := (Below.refl _ _).drew
  have H_37 := Lib.hid (g_chain H_33.out hb)
  clear H_33
  have BG_38 := Lib.hid (BG_34.out.below hb)
  clear BG_34
  have BR_39 := Lib.hid (BR_35.out.below hb)
  clear BR_35
  have sz_40 := Lib.hid (Below.size hb)
  clear hb
  generalize hDD : World.drew w2 = w3 at H_37 BG_38 BR_39 sz_40 ⊢
  clear hDD
  refine wpAny_of_held (S := fun W => W.cell? ⟨w.heap.size, 0, none⟩ = some (.int .i64 N) ∧ W.cell? ⟨w.heap.size, 1, none⟩ = some (.slice AG l cG) ∧ W.cell? ⟨w.heap.size + 1, 0, none⟩ = some (.int .i64 p) ∧ W.cell? ⟨w.heap.size + 1, 1, none⟩ = some (.int .i64 s) ∧ W.cell? ⟨w.heap.size + 1, 2, none⟩ = some (.int .i64 it) ∧ W.cell? ⟨w.heap.size + 1, 3, none⟩ = some (.bool dn) ∧ W.cell? ⟨w.heap.size + 1, 4, none⟩ = some (.slice A n c) ∧ W.cell? ⟨w.heap.size + 1, 5, none⟩ = some (.slice B m d) ∧ W.cell? ⟨w.heap.size + 1, 6, none⟩ = some (.int .i64 nn) ∧ W.cell? ⟨w.heap.size + 1, 7, none⟩ = some (.slice C nx.length k)) _ _ _ _ ?_
  refine wpAnyH_take (i := 0) (oi := ⟨_, _, _, _, _, _⟩) (v := .agg #[.int .i64 N, .slice AG l cG]) rfl (by kernel_rfl) (by kernel_rfl) (by kernel_rfl) (fun _ _ _ h => h) (Or.inl ⟨by kernel_rfl, fun W hS => by (obtain ⟨s0, s1, s2, s3, s4, s5, s6, s7, s8, s9⟩ := hS); go_simp⟩) ⟨BG_38.out.cell (i := 0) rfl, BG_38.out.cell (i := 1) rfl, BR_39.out.cell (i := 0) rfl, BR_39.out.cell (i := 1) rfl, BR_39.out.cell (i := 2) rfl, BR_39.out.cell (i := 3) rfl, BR_39.out.cell (i := 4) rfl, BR_39.out.cell (i := 5) rfl, BR_39.out.cell (i := 6) rfl, BR_39.out.cell (i := 7) rfl⟩ ?_
  (try simp only [Act.put, List.setIfInBounds_toArray, List.set_cons_zero, List.set_cons_succ])
  refine wpAnyH_take (i := 2) (oi := ⟨_, _, _, _, _, _⟩) (v := .agg #[.int .i64 p, .int .i64 s, .int .i64 it, .bool dn, .slice A n c, .slice B m d, .int .i64 nn, .slice C nx.length k]) rfl (by kernel_rfl) (by kernel_rfl) (by kernel_rfl) (fun _ _ _ h => h) (Or.inl ⟨by kernel_rfl, fun W hS => by (obtain ⟨s0, s1, s2, s3, s4, s5, s6, s7, s8, s9⟩ := hS); go_simp⟩) ⟨BG_38.out.cell (i := 0) rfl, BG_38.out.cell (i := 1) rfl, BR_39.out.cell (i := 0) rfl, BR_39.out.cell (i := 1) rfl, BR_39.out.cell (i := 2) rfl, BR_39.out.cell (i := 3) rfl, BR_39.out.cell (i := 4) rfl, BR_39.out.cell (i := 5) rfl, BR_39.out.cell (i := 6) rfl, BR_39.out.cell (i := 7) rfl⟩ ?_
  (try simp only [Act.put, List.setIfInBounds_toArray, List.set_cons_zero, List.set_cons_succ])
  refine wpAnyH_take (i := 4) (oi := ⟨_, _, _, _, _, _⟩) (v := .int .i64 v) rfl (by kernel_rfl) (by kernel_rfl) (by kernel_rfl) (fun _ _ _ h => h) (Or.inl ⟨by kernel_rfl, fun W hS => by (obtain ⟨s0, s1, s2, s3, s4, s5, s6, s7, s8, s9⟩ := hS); go_simp⟩) ⟨BG_38.out.cell (i := 0) rfl, BG_38.out.cell (i := 1) rfl, BR_39.out.cell (i := 0) rfl, BR_39.out.cell (i := 1) rfl, BR_39.out.cell (i := 2) rfl, BR_39.out.cell (i := 3) rfl, BR_39.out.cell (i := 4) rfl, BR_39.out.cell (i := 5) rfl, BR_39.out.cell (i := 6) rfl, BR_39.out.cell (i := 7) rfl⟩ ?_
  (try simp only [Act.put, List.setIfInBounds_toArray, List.set_cons_zero, List.set_cons_succ])
  refine wpAnyH_ready (rs := [1]) (by kernel_rfl) (by simp) (AllReadyH.cons rfl (fun K hK => ?_) AllReadyH.nil)
  go_simp
  go_at_call 20
  refine (CTG.out _ H_37.out).mono ?_
  rintro e w4 ⟨Ags, cgs, rfl, ho, hb⟩
  have H_41 := Lib.hid (g_chain H_37.out hb)
  clear H_37
  have BG_42 := Lib.hid (BG_38.out.below hb)
  clear BG_38
  have BR_43 := Lib.hid (BR_39.out.below hb)
  clear BR_39
  have sz_44 := Lib.hid (Below.size hb)
  have RG_45 := Lib.hid (ho).lt
  have Gs_46 := Lib.hid (ho)
  clear ho hb
  dsimp only
  refine hK.out _ _ ⟨BG_42.out.cell (i := 0) rfl, BG_42.out.cell (i := 1) rfl, BR_43.out.cell (i := 0) rfl, BR_43.out.cell (i := 1) rfl, BR_43.out.cell (i := 2) rfl, BR_43.out.cell (i := 3) rfl, BR_43.out.cell (i := 4) rfl, BR_43.out.cell (i := 5) rfl, BR_43.out.cell (i := 6) rfl, BR_43.out.cell (i := 7) rfl⟩ (fun _ => ?_)
  clear hK K
  (try simp only [Act.put, List.setIfInBounds_toArray, List.set_cons_zero, List.set_cons_succ])
  refine wpAnyH_ready (rs := [3]) (by kernel_rfl) (by simp) (AllReadyH.cons rfl (fun K hK => ?_) AllReadyH.nil)
  go_simp
  go_at_call 21
  refine (CTR.out _ H_41.out).mono ?_
  rintro e w5 ⟨As, cs, Bs, ds, Cs, ks, rfl, ho, hb⟩
  have H_47 := Lib.hid (g_chain H_41.out hb)
  clear H_41
  have BG_48 := Lib.hid (BG_42.out.below hb)
  clear BG_42
  have BR_49 := Lib.hid (BR_43.out.below hb)
  clear BR_43
  have Gs_50 := Lib.hid (own_below Gs_46.out hb)
  clear Gs_46
  have sz_51 := Lib.hid (Below.size hb)
  have RG_52 := Lib.hid (ho).at_
  have Rs_53 := Lib.hid (ho)
  clear ho hb
  dsimp only
  refine hK.out _ _ ⟨BG_48.out.cell (i := 0) rfl, BG_48.out.cell (i := 1) rfl, BR_49.out.cell (i := 0) rfl, BR_49.out.cell (i := 1) rfl, BR_49.out.cell (i := 2) rfl, BR_49.out.cell (i := 3) rfl, BR_49.out.cell (i := 4) rfl, BR_49.out.cell (i := 5) rfl, BR_49.out.cell (i := 6) rfl, BR_49.out.cell (i := 7) rfl⟩ (fun _ => ?_)
  clear hK K
  (try simp only [Act.put, List.setIfInBounds_toArray, List.set_cons_zero, List.set_cons_succ])
  refine wpAnyH_ready (rs := [5]) (by kernel_rfl) (by simp) (AllReadyH.cons rfl (fun K hK => ?_) AllReadyH.nil)
  go_simp
  go_at_call 19
  refine (CS.out _ _ _ _ _ _ _ _ _ _ _ Gs_50.out Rs_53.out).mono ?_
  rintro e w6 ⟨Vw, uw, Iw, yw, rfl, ho1, ho2, hb⟩
  have H_54 := Lib.hid (g_chain H_47.out hb)
  clear H_47
  have BG_55 := Lib.hid (BG_48.out.below hb)
  clear BG_48
  have BR_56 := Lib.hid (BR_49.out.below hb)
  clear BR_49
  have Gs_57 := Lib.hid (own_below Gs_50.out hb)
  clear Gs_50
  have Rs_58 := Lib.hid (Rs_53.out.below hb)
  clear Rs_53
  have sz_59 := Lib.hid (Below.size hb)
  have RG_60 := Lib.hid (ho1).lt
  have Vw_61 := Lib.hid (ho1)
  have RG_62 := Lib.hid (ho2).lt
  have Iw_63 := Lib.hid (ho2)
  clear ho1 ho2 hb
  dsimp only
  refine hK.out _ _ ⟨BG_55.out.cell (i := 0) rfl, BG_55.out.cell (i := 1) rfl, BR_56.out.cell (i := 0) rfl, BR_56.out.cell (i := 1) rfl, BR_56.out.cell (i := 2) rfl, BR_56.out.cell (i := 3) rfl, BR_56.out.cell (i := 4) rfl, BR_56.out.cell (i := 5) rfl, BR_56.out.cell (i := 6) rfl, BR_56.out.cell (i := 7) rfl⟩ (fun _ => ?_)
  clear hK K
  (try simp only [Act.put, List.setIfInBounds_toArray, List.set_cons_zero, List.set_cons_succ])
  refine wpAnyH_take (i := 6) (oi := ⟨_, _, _, _, _, _⟩) (v := .tuple #[.slice Vw is.length uw, .slice Iw is.length yw]) rfl (by kernel_rfl) (by kernel_rfl) (by kernel_rfl) (fun _ _ _ h => h) (Or.inl ⟨by kernel_rfl, fun W hS => by (obtain ⟨s0, s1, s2, s3, s4, s5, s6, s7, s8, s9⟩ := hS); go_simp⟩) ⟨BG_55.out.cell (i := 0) rfl, BG_55.out.cell (i := 1) rfl, BR_56.out.cell (i := 0) rfl, BR_56.out.cell (i := 1) rfl, BR_56.out.cell (i := 2) rfl, BR_56.out.cell (i := 3) rfl, BR_56.out.cell (i := 4) rfl, BR_56.out.cell (i := 5) rfl, BR_56.out.cell (i := 6) rfl, BR_56.out.cell (i := 7) rfl⟩ ?_
  (try simp only [Act.put, List.setIfInBounds_toArray, List.set_cons_zero, List.set_cons_succ])
  refine wpAnyH_take (i := 7) (oi := ⟨_, _, _, _, _, _⟩) (v := .slice Vw is.length uw) rfl (by kernel_rfl) (by kernel_rfl) (by kernel_rfl) (fun _ _ _ h => h) (Or.inl ⟨by kernel_rfl, fun W hS => by (obtain ⟨s0, s1, s2, s3, s4, s5, s6, s7, s8, s9⟩ := hS); go_simp⟩) ⟨BG_55.out.cell (i := 0) rfl, BG_55.out.cell (i := 1) rfl, BR_56.out.cell (i := 0) rfl, BR_56.out.cell (i := 1) rfl, BR_56.out.cell (i := 2) rfl, BR_56.out.cell (i := 3) rfl, BR_56.out.cell (i := 4) rfl, BR_56.out.cell (i := 5) rfl, BR_56.out.cell (i := 6) rfl, BR_56.out.cell (i := 7) rfl⟩ ?_
  (try simp only [Act.put, List.setIfInBounds_toArray, List.set_cons_zero, List.set_cons_succ])
  refine wpAnyH_take (i := 8) (oi := ⟨_, _, _, _, _, _⟩) (v := .slice Iw is.length yw) rfl (by kernel_rfl) (by kernel_rfl) (by kernel_rfl) (fun _ _ _ h => h) (Or.inl ⟨by kernel_rfl, fun W hS => by (obtain ⟨s0, s1, s2, s3, s4, s5, s6, s7, s8, s9⟩ := hS); go_simp⟩) ⟨BG_55.out.cell (i := 0) rfl, BG_55.out.cell (i := 1) rfl, BR_56.out.cell (i := 0) rfl, BR_56.out.cell (i := 1) rfl, BR_56.out.cell (i := 2) rfl, BR_56.out.cell (i := 3) rfl, BR_56.out.cell (i := 4) rfl, BR_56.out.cell (i := 5) rfl, BR_56.out.cell (i := 6) rfl, BR_56.out.cell (i := 7) rfl⟩ ?_
  (try simp only [Act.put, List.setIfInBounds_toArray, List.set_cons_zero, List.set_cons_succ])
  refine wpAnyH_take (i := 9) (oi := ⟨_, _, _, _, _, _⟩) (v := .slice Vw is.length uw) rfl (by kernel_rfl) (by kernel_rfl) (by kernel_rfl) (fun _ _ _ h => h) (Or.inl ⟨by kernel_rfl, fun W hS => by (obtain ⟨s0, s1, s2, s3, s4, s5, s6, s7, s8, s9⟩ := hS); go_simp⟩) ⟨BG_55.out.cell (i := 0) rfl, BG_55.out.cell (i := 1) rfl, BR_56.out.cell (i := 0) rfl, BR_56.out.cell (i := 1) rfl, BR_56.out.cell (i := 2) rfl, BR_56.out.cell (i := 3) rfl, BR_56.out.cell (i := 4) rfl, BR_56.out.cell (i := 5) rfl, BR_56.out.cell (i := 6) rfl, BR_56.out.cell (i := 7) rfl⟩ ?_
  (try simp only [Act.put, List.setIfInBounds_toArray, List.set_cons_zero, List.set_cons_succ])
  refine wpAnyH_take (i := 10) (oi := ⟨_, _, _, _, _, _⟩) (v := .slice Iw is.length yw) rfl (by kernel_rfl) (by kernel_rfl) (by kernel_rfl) (fun _ _ _ h => h) (Or.inl ⟨by kernel_rfl, fun W hS => by (obtain ⟨s0, s1, s2, s3, s4, s5, s6, s7, s8, s9⟩ := hS); go_simp⟩) ⟨BG_55.out.cell (i := 0) rfl, BG_55.out.cell (i := 1) rfl, BR_56.out.cell (i := 0) rfl, BR_56.out.cell (i := 1) rfl, BR_56.out.cell (i := 2) rfl, BR_56.out.cell (i := 3) rfl, BR_56.out.cell (i := 4) rfl, BR_56.out.cell (i := 5) rfl, BR_56.out.cell (i := 6) rfl, BR_56.out.cell (i := 7) rfl⟩ ?_
  (try simp only [Act.put, List.setIfInBounds_toArray, List.set_cons_zero, List.set_cons_succ])
  refine wpAnyH_done (by kernel_rfl) ?_ _
  clear Gs_57
  clear Rs_58
  have x_64 := BG_55.out.cell (i := 0) rfl
  have x_65 := BG_55.out.cell (i := 1) rfl
  have lt_66 := BG_55.out.lt
  have x_67 := BR_56.out.cell (i := 0) rfl
  have x_68 := BR_56.out.cell (i := 1) rfl
  have x_69 := BR_56.out.cell (i := 2) rfl
  have x_70 := BR_56.out.cell (i := 3) rfl
  have x_71 := BR_56.out.cell (i := 4) rfl
  have x_72 := BR_56.out.cell (i := 5) rfl
  have x_73 := BR_56.out.cell (i := 6) rfl
  have x_74 := BR_56.out.cell (i := 7) rfl
  have lt_75 := BR_56.out.lt
  go_wp2_with fail
  refine (CTG.out _ H_54.out).mono ?_
  rintro e w7 ⟨Agx, cgx, rfl, ho, hb⟩
  clear x_64 x_65 lt_66 x_67 x_68 x_69 x_70 x_71 x_72 x_73 x_74 lt_75
  have H_76 := Lib.hid (g_chain H_54.out hb)
  clear H_54
  have BG_77 := Lib.hid (BG_55.out.below hb)
  clear BG_55
  have BR_78 := Lib.hid (BR_56.out.below hb)
  clear BR_56
  have Vw_79 := Lib.hid (own_below Vw_61.out hb)
  clear Vw_61
  have Iw_80 := Lib.hid (own_below Iw_63.out hb)
  clear Iw_63
  have sz_81 := Lib.hid (Below.size hb)
  have RG_82 := Lib.hid (ho).lt
  have Gx_83 := Lib.hid (ho)
  clear ho
  clear hb
  have hb := below_a1 w7 (.cells #[.int .i64 N, .slice Agx l cgx] 25)
  have sz_84 := Lib.hid (Blk.lt BG_77.out)
  have sz_85 := Lib.hid (Blk.lt BR_78.out)
  have H_86 := Lib.hid (g_chain H_76.out hb)
  clear H_76
  have BG_87 := Lib.hid (BG_77.out.below hb)
  clear BG_77
  have BR_88 := Lib.hid (BR_78.out.below hb)
  clear BR_78
  have Vw_89 := Lib.hid (own_below Vw_79.out hb)
  clear Vw_79
  have Iw_90 := Lib.hid (own_below Iw_80.out hb)
  clear Iw_80
  have Gx_91 := Lib.hid (own_below Gx_83.out hb)
  clear Gx_83
  have sz_92 := Lib.hid (Below.size hb)
  clear hb
  have X0_93 := Lib.hid (Blk.new w7 #[.int .i64 N, .slice Agx l cgx] 25)
  have sz_94 : Hid (w7.heap.size + 1 ≤ (w7.alloc (.cells #[.int .i64 N, .slice Agx l cgx] 25)).heap.size) := Lib.hid (by simp)
  have x_95 := BG_87.out.cell (i := 0) rfl
  have x_96 := BG_87.out.cell (i := 1) rfl
  have lt_97 := BG_87.out.lt
  have x_98 := BR_88.out.cell (i := 0) rfl
  have x_99 := BR_88.out.cell (i := 1) rfl
  have x_100 := BR_88.out.cell (i := 2) rfl
  have x_101 := BR_88.out.cell (i := 3) rfl
  have x_102 := BR_88.out.cell (i := 4) rfl
  have x_103 := BR_88.out.cell (i := 5) rfl
  have x_104 := BR_88.out.cell (i := 6) rfl
  have x_105 := BR_88.out.cell (i := 7) rfl
  have lt_106 := BR_88.out.lt
  go_wp2_with fail
  refine (CTR.out _ H_86.out).mono ?_
  rintro e w8 ⟨Ax, cx, Bx, dx, Cx, kx, rfl, ho, hb⟩
  clear x_95 x_96 lt_97 x_98 x_99 x_100 x_101 x_102 x_103 x_104 x_105 lt_106
  have H_107 := Lib.hid (g_chain H_86.out hb)
  clear H_86
  have BG_108 := Lib.hid (BG_87.out.below hb)
  clear BG_87
  have BR_109 := Lib.hid (BR_88.out.below hb)
  clear BR_88
  have Vw_110 := Lib.hid (own_below Vw_89.out hb)
  clear Vw_89
  have Iw_111 := Lib.hid (own_below Iw_90.out hb)
  clear Iw_90
  have Gx_112 := Lib.hid (own_below Gx_91.out hb)
  clear Gx_91
  have X0_113 := Lib.hid (X0_93.out.below hb)
  clear X0_93
  have sz_114 := Lib.hid (Below.size hb)
  have RG_115 := Lib.hid (ho).at_
  have Rx_116 := Lib.hid (ho)
  clear ho
  clear hb
  have hb := below_a1 w8 (.cells #[.int .i64 p, .int .i64 s, .int .i64 it, .bool dn, .slice Ax n cx, .slice Bx m dx, .int .i64 nn, .slice Cx nx.length kx] 32)
  have sz_117 := Lib.hid (Blk.lt BG_108.out)
  have sz_118 := Lib.hid (Blk.lt BR_109.out)
  have sz_119 := Lib.hid (Blk.lt X0_113.out)
  have H_120 := Lib.hid (g_chain H_107.out hb)
  clear H_107
  have BG_121 := Lib.hid (BG_108.out.below hb)
  clear BG_108
  have BR_122 := Lib.hid (BR_109.out.below hb)
  clear BR_109
  have Vw_123 := Lib.hid (own_below Vw_110.out hb)
  clear Vw_110
  have Iw_124 := Lib.hid (own_below Iw_111.out hb)
  clear Iw_111
  have Gx_125 := Lib.hid (own_below Gx_112.out hb)
  clear Gx_112
  have X0_126 := Lib.hid (X0_113.out.below hb)
  clear X0_113
  have Rx_127 := Lib.hid (Rx_116.out.below hb)
  clear Rx_116
  have sz_128 := Lib.hid (Below.size hb)
  clear hb
  have X1_129 := Lib.hid (Blk.new w8 #[.int .i64 p, .int .i64 s, .int .i64 it, .bool dn, .slice Ax n cx, .slice Bx m dx, .int .i64 nn, .slice Cx nx.length kx] 32)
  have sz_130 : Hid (w8.heap.size + 1 ≤ (w8.alloc (.cells #[.int .i64 p, .int .i64 s, .int .i64 it, .bool dn, .slice Ax n cx, .slice Bx m dx, .int .i64 nn, .slice Cx nx.length kx] 32)).heap.size) := Lib.hid (by simp)
  have x_131 := X0_126.out.cell (i := 0) rfl
  have x_132 := X0_126.out.cell (i := 1) rfl
  have lt_133 := X0_126.out.lt
  have x_134 := X1_129.out.cell (i := 0) rfl
  have x_135 := X1_129.out.cell (i := 1) rfl
  have x_136 := X1_129.out.cell (i := 2) rfl
  have x_137 := X1_129.out.cell (i := 3) rfl
  have x_138 := X1_129.out.cell (i := 4) rfl
  have x_139 := X1_129.out.cell (i := 5) rfl
  have x_140 := X1_129.out.cell (i := 6) rfl
  have x_141 := X1_129.out.cell (i := 7) rfl
  have lt_142 := X1_129.out.lt
  go_wp2_with fail
  refine (CI.out _ H_120.out _ _ _ _ _ _ _ _ _ _ Gx_125.out Rx_127.out).mono ?_
  rintro e w9 ⟨Vg, ug, Ig, yg, rfl, ho1, ho2, hb⟩
  clear x_131 x_132 lt_133 x_134 x_135 x_136 x_137 x_138 x_139 x_140 x_141 lt_142
  have H_143 := Lib.hid (g_chain H_120.out hb)
  clear H_120
  have BG_144 := Lib.hid (BG_121.out.below hb)
  clear BG_121
  have BR_145 := Lib.hid (BR_122.out.below hb)
  clear BR_122
  have Vw_146 := Lib.hid (own_below Vw_123.out hb)
  clear Vw_123
  have Iw_147 := Lib.hid (own_below Iw_124.out hb)
  clear Iw_124
  have Gx_148 := Lib.hid (own_below Gx_125.out hb)
  clear Gx_125
  have X0_149 := Lib.hid (X0_126.out.below hb)
  clear X0_126
  have Rx_150 := Lib.hid (Rx_127.out.below hb)
  clear Rx_127
  have X1_151 := Lib.hid (X1_129.out.below hb)
  clear X1_129
  have sz_152 := Lib.hid (Below.size hb)
  have RG_153 := Lib.hid (ho1).lt
  have Vg_154 := Lib.hid (ho1)
  have RG_155 := Lib.hid (ho2).lt
  have Ig_156 := Lib.hid (ho2)
  clear ho1 ho2
  clear hb
  go_wp2_with fail
  refine (CEV.out _ _ _ _ _ _ _ Vg_154.out Vw_146.out).mono ?_
  rintro e w10 ⟨rfl, hb⟩
  have H_157 := Lib.hid (g_chain H_143.out hb)
  clear H_143
  have BG_158 := Lib.hid (BG_144.out.below hb)
  clear BG_144
  have BR_159 := Lib.hid (BR_145.out.below hb)
  clear BR_145
  have Vw_160 := Lib.hid (own_below Vw_146.out hb)
  clear Vw_146
  have Iw_161 := Lib.hid (own_below Iw_147.out hb)
  clear Iw_147
  have Gx_162 := Lib.hid (own_below Gx_148.out hb)
  clear Gx_148
  have X0_163 := Lib.hid (X0_149.out.below hb)
  clear X0_149
  have Rx_164 := Lib.hid (Rx_150.out.below hb)
  clear Rx_150
  have X1_165 := Lib.hid (X1_151.out.below hb)
  clear X1_151
  have Vg_166 := Lib.hid (own_below Vg_154.out hb)
  clear Vg_154
  have Ig_167 := Lib.hid (own_below Ig_156.out hb)
  clear Ig_156
  have sz_168 := Lib.hid (Below.size hb)
  clear hb
  go_wp2_with fail
  refine (CEI.out _ _ _ _ _ _ _ Ig_167.out Iw_161.out).mono ?_
  rintro e w11 ⟨rfl, hb⟩
  have H_169 := Lib.hid (g_chain H_157.out hb)
  clear H_157
  have BG_170 := Lib.hid (BG_158.out.below hb)
  clear BG_158
  have BR_171 := Lib.hid (BR_159.out.below hb)
  clear BR_159
  have Vw_172 := Lib.hid (own_below Vw_160.out hb)
  clear Vw_160
  have Iw_173 := Lib.hid (own_below Iw_161.out hb)
  clear Iw_161
  have Gx_174 := Lib.hid (own_below Gx_162.out hb)
  clear Gx_162
  have X0_175 := Lib.hid (X0_163.out.below hb)
  clear X0_163
  have Rx_176 := Lib.hid (Rx_164.out.below hb)
  clear Rx_164
  have X1_177 := Lib.hid (X1_165.out.below hb)
  clear X1_165
  have Vg_178 := Lib.hid (own_below Vg_166.out hb)
  clear Vg_166
  have Ig_179 := Lib.hid (own_below Ig_167.out hb)
  clear Ig_167
  have sz_180 := Lib.hid (Below.size hb)
  clear hb
  go_upto_region 14 with fail
  refine wp_region_any (by kernel_rfl) ?_
  change wpAny _ _ _ _ _ _ _ (World.drew _)
  have hb : Below w11.heap.size w11 (World.drew w11) := (Below.refl _ _).drew
  have H_181 := Lib.hid (g_chain H_169.out hb)
  clear H_169
  have BG_182 := Lib.hid (BG_170.out.below hb)
  clear BG_170
  have BR_183 := Lib.hid (BR_171.out.below hb)
  clear BR_171
  have Vw_184 := Lib.hid (own_below Vw_172.out hb)
  clear Vw_172
  have Iw_185 := Lib.hid (own_below Iw_173.out hb)
  clear Iw_173
  have Gx_186 := Lib.hid (own_below Gx_174.out hb)
  clear Gx_174
  have X0_187 := Lib.hid (X0_175.out.below hb)
  clear X0_175
  have Rx_188 := Lib.hid (Rx_176.out.below hb)
  clear Rx_176
  have X1_189 := Lib.hid (X1_177.out.below hb)
  clear X1_177
  have Vg_190 := Lib.hid (own_below Vg_178.out hb)
  clear Vg_178
  have Ig_191 := Lib.hid (own_below Ig_179.out hb)
  clear Ig_179
  have sz_192 := Lib.hid (Below.size hb)
  clear hb
  generalize hDD : World.drew w11 = w12 at H_181 BG_182 BR_183 Vw_184 Iw_185 Gx_186 X0_187 Rx_188 X1_189 Vg_190 Ig_191 sz_192 ⊢
  clear hDD
  refine wpAny_of_held (S := fun W => W.cell? ⟨w.heap.size, 0, none⟩ = some (.int .i64 N) ∧ W.cell? ⟨w.heap.size, 1, none⟩ = some (.slice AG l cG) ∧ W.cell? ⟨w.heap.size + 1, 0, none⟩ = some (.int .i64 p) ∧ W.cell? ⟨w.heap.size + 1, 1, none⟩ = some (.int .i64 s) ∧ W.cell? ⟨w.heap.size + 1, 2, none⟩ = some (.int .i64 it) ∧ W.cell? ⟨w.heap.size + 1, 3, none⟩ = some (.bool dn) ∧ W.cell? ⟨w.heap.size + 1, 4, none⟩ = some (.slice A n c) ∧ W.cell? ⟨w.heap.size + 1, 5, none⟩ = some (.slice B m d) ∧ W.cell? ⟨w.heap.size + 1, 6, none⟩ = some (.int .i64 nn) ∧ W.cell? ⟨w.heap.size + 1, 7, none⟩ = some (.slice C nx.length k) ∧ W.cell? ⟨w7.heap.size, 0, none⟩ = some (.int .i64 N) ∧ W.cell? ⟨w7.heap.size, 1, none⟩ = some (.slice Agx l cgx)) _ _ _ _ ?_
  refine wpAnyH_take (i := 0) (oi := ⟨_, _, _, _, _, _⟩) (v := .agg #[.int .i64 N, .slice Agx l cgx]) rfl (by kernel_rfl) (by kernel_rfl) (by kernel_rfl) (fun _ _ _ h => h) (Or.inl ⟨by kernel_rfl, fun W hS => by (obtain ⟨s0, s1, s2, s3, s4, s5, s6, s7, s8, s9, s10, s11⟩ := hS); go_simp⟩) ⟨BG_182.out.cell (i := 0) rfl, BG_182.out.cell (i := 1) rfl, BR_183.out.cell (i := 0) rfl, BR_183.out.cell (i := 1) rfl, BR_183.out.cell (i := 2) rfl, BR_183.out.cell (i := 3) rfl, BR_183.out.cell (i := 4) rfl, BR_183.out.cell (i := 5) rfl, BR_183.out.cell (i := 6) rfl, BR_183.out.cell (i := 7) rfl, X0_187.out.cell (i := 0) rfl, X0_187.out.cell (i := 1) rfl⟩ ?_
  (try simp only [Act.put, List.setIfInBounds_toArray, List.set_cons_zero, List.set_cons_succ])
  refine wpAnyH_take (i := 1) (oi := ⟨_, _, _, _, _, _⟩) (v := .agg #[.int .i64 N, .slice AG l cG]) rfl (by kernel_rfl) (by kernel_rfl) (by kernel_rfl) (fun _ _ _ h => h) (Or.inl ⟨by kernel_rfl, fun W hS => by (obtain ⟨s0, s1, s2, s3, s4, s5, s6, s7, s8, s9, s10, s11⟩ := hS); go_simp⟩) ⟨BG_182.out.cell (i := 0) rfl, BG_182.out.cell (i := 1) rfl, BR_183.out.cell (i := 0) rfl, BR_183.out.cell (i := 1) rfl, BR_183.out.cell (i := 2) rfl, BR_183.out.cell (i := 3) rfl, BR_183.out.cell (i := 4) rfl, BR_183.out.cell (i := 5) rfl, BR_183.out.cell (i := 6) rfl, BR_183.out.cell (i := 7) rfl, X0_187.out.cell (i := 0) rfl, X0_187.out.cell (i := 1) rfl⟩ ?_
  (try simp only [Act.put, List.setIfInBounds_toArray, List.set_cons_zero, List.set_cons_succ])
  refine wpAnyH_ready (rs := [2]) (by kernel_rfl) (by simp) (AllReadyH.cons rfl (fun K hK => ?_) AllReadyH.nil)
  go_simp
  go_at_call 20
  refine (CTG.out _ H_181.out).mono ?_
  rintro e w13 ⟨Agq, cgq, rfl, ho, hb⟩
  have H_193 := Lib.hid (g_chain H_181.out hb)
  clear H_181
  have BG_194 := Lib.hid (BG_182.out.below hb)
  clear BG_182
  have BR_195 := Lib.hid (BR_183.out.below hb)
  clear BR_183
  have Vw_196 := Lib.hid (own_below Vw_184.out hb)
  clear Vw_184
  have Iw_197 := Lib.hid (own_below Iw_185.out hb)
  clear Iw_185
  have Gx_198 := Lib.hid (own_below Gx_186.out hb)
  clear Gx_186
  have X0_199 := Lib.hid (X0_187.out.below hb)
  clear X0_187
  have Rx_200 := Lib.hid (Rx_188.out.below hb)
  clear Rx_188
  have X1_201 := Lib.hid (X1_189.out.below hb)
  clear X1_189
  have Vg_202 := Lib.hid (own_below Vg_190.out hb)
  clear Vg_190
  have Ig_203 := Lib.hid (own_below Ig_191.out hb)
  clear Ig_191
  have sz_204 := Lib.hid (Below.size hb)
  have RG_205 := Lib.hid (ho).lt
  have Gq_206 := Lib.hid (ho)
  clear ho hb
  dsimp only
  refine hK.out _ _ ⟨BG_194.out.cell (i := 0) rfl, BG_194.out.cell (i := 1) rfl, BR_195.out.cell (i := 0) rfl, BR_195.out.cell (i := 1) rfl, BR_195.out.cell (i := 2) rfl, BR_195.out.cell (i := 3) rfl, BR_195.out.cell (i := 4) rfl, BR_195.out.cell (i := 5) rfl, BR_195.out.cell (i := 6) rfl, BR_195.out.cell (i := 7) rfl, X0_199.out.cell (i := 0) rfl, X0_199.out.cell (i := 1) rfl⟩ (fun _ => ?_)
  clear hK K
  (try simp only [Act.put, List.setIfInBounds_toArray, List.set_cons_zero, List.set_cons_succ])
  refine wpAnyH_ready (rs := [3]) (by kernel_rfl) (by simp) (AllReadyH.cons rfl (fun K hK => ?_) AllReadyH.nil)
  go_simp
  go_at_call 25
  refine (CEG.out _ _ _ _ _ (SlG.of_own Gx_198.out HLG.out) (SlG.of_own Gq_206.out HLG.out)).mono ?_
  rintro e w14 ⟨rfl, hb⟩
  have H_207 := Lib.hid (g_chain H_193.out hb)
  clear H_193
  have BG_208 := Lib.hid (BG_194.out.below hb)
  clear BG_194
  have BR_209 := Lib.hid (BR_195.out.below hb)
  clear BR_195
  have Vw_210 := Lib.hid (own_below Vw_196.out hb)
  clear Vw_196
  have Iw_211 := Lib.hid (own_below Iw_197.out hb)
  clear Iw_197
  have Gx_212 := Lib.hid (own_below Gx_198.out hb)
  clear Gx_198
  have X0_213 := Lib.hid (X0_199.out.below hb)
  clear X0_199
  have Rx_214 := Lib.hid (Rx_200.out.below hb)
  clear Rx_200
  have X1_215 := Lib.hid (X1_201.out.below hb)
  clear X1_201
  have Vg_216 := Lib.hid (own_below Vg_202.out hb)
  clear Vg_202
  have Ig_217 := Lib.hid (own_below Ig_203.out hb)
  clear Ig_203
  have Gq_218 := Lib.hid (own_below Gq_206.out hb)
  clear Gq_206
  have sz_219 := Lib.hid (Below.size hb)
  clear hb
  dsimp only
  refine hK.out _ _ ⟨BG_208.out.cell (i := 0) rfl, BG_208.out.cell (i := 1) rfl, BR_209.out.cell (i := 0) rfl, BR_209.out.cell (i := 1) rfl, BR_209.out.cell (i := 2) rfl, BR_209.out.cell (i := 3) rfl, BR_209.out.cell (i := 4) rfl, BR_209.out.cell (i := 5) rfl, BR_209.out.cell (i := 6) rfl, BR_209.out.cell (i := 7) rfl, X0_213.out.cell (i := 0) rfl, X0_213.out.cell (i := 1) rfl⟩ (fun _ => ?_)
  clear hK K
  (try simp only [Act.put, List.setIfInBounds_toArray, List.set_cons_zero, List.set_cons_succ])
  refine wpAnyH_take (i := 4) (oi := ⟨_, _, _, _, _, _⟩) (v := .bool false) rfl (by kernel_rfl) (by kernel_rfl) (by kernel_rfl) (fun _ _ _ h => h) (Or.inl ⟨by kernel_rfl, fun W hS => by (obtain ⟨s0, s1, s2, s3, s4, s5, s6, s7, s8, s9, s10, s11⟩ := hS); go_simp⟩) ⟨BG_208.out.cell (i := 0) rfl, BG_208.out.cell (i := 1) rfl, BR_209.out.cell (i := 0) rfl, BR_209.out.cell (i := 1) rfl, BR_209.out.cell (i := 2) rfl, BR_209.out.cell (i := 3) rfl, BR_209.out.cell (i := 4) rfl, BR_209.out.cell (i := 5) rfl, BR_209.out.cell (i := 6) rfl, BR_209.out.cell (i := 7) rfl, X0_213.out.cell (i := 0) rfl, X0_213.out.cell (i := 1) rfl⟩ ?_
  (try simp only [Act.put, List.setIfInBounds_toArray, List.set_cons_zero, List.set_cons_succ])
  refine wpAnyH_done (by kernel_rfl) ?_ _
  clear Gq_218
  go_upto_region 16 with fail
  refine wp_region_any (by kernel_rfl) ?_
  change wpAny _ _ _ _ _ _ _ (World.drew _)
  have hb : Below w14.heap.size w14 (World.drew w14) := (Below.refl _ _).drew
  have H_220 := Lib.hid (g_chain H_207.out hb)
  clear H_207
  have BG_221 := Lib.hid (BG_208.out.below hb)
  clear BG_208
  have BR_222 := Lib.hid (BR_209.out.below hb)
  clear BR_209
  have Vw_223 := Lib.hid (own_below Vw_210.out hb)
  clear Vw_210
  have Iw_224 := Lib.hid (own_below Iw_211.out hb)
  clear Iw_211
  have Gx_225 := Lib.hid (own_below Gx_212.out hb)
  clear Gx_212
  have X0_226 := Lib.hid (X0_213.out.below hb)
  clear X0_213
  have Rx_227 := Lib.hid (Rx_214.out.below hb)
  clear Rx_214
  have X1_228 := Lib.hid (X1_215.out.below hb)
  clear X1_215
  have Vg_229 := Lib.hid (own_below Vg_216.out hb)
  clear Vg_216
  have Ig_230 := Lib.hid (own_below Ig_217.out hb)
  clear Ig_217
  have sz_231 := Lib.hid (Below.size hb)
  clear hb
  generalize hDD : World.drew w14 = w15 at H_220 BG_221 BR_222 Vw_223 Iw_224 Gx_225 X0_226 Rx_227 X1_228 Vg_229 Ig_230 sz_231 ⊢
  clear hDD
  refine wpAny_of_held (S := fun W => W.cell? ⟨w.heap.size, 0, none⟩ = some (.int .i64 N) ∧ W.cell? ⟨w.heap.size, 1, none⟩ = some (.slice AG l cG) ∧ W.cell? ⟨w.heap.size + 1, 0, none⟩ = some (.int .i64 p) ∧ W.cell? ⟨w.heap.size + 1, 1, none⟩ = some (.int .i64 s) ∧ W.cell? ⟨w.heap.size + 1, 2, none⟩ = some (.int .i64 it) ∧ W.cell? ⟨w.heap.size + 1, 3, none⟩ = some (.bool dn) ∧ W.cell? ⟨w.heap.size + 1, 4, none⟩ = some (.slice A n c) ∧ W.cell? ⟨w.heap.size + 1, 5, none⟩ = some (.slice B m d) ∧ W.cell? ⟨w.heap.size + 1, 6, none⟩ = some (.int .i64 nn) ∧ W.cell? ⟨w.heap.size + 1, 7, none⟩ = some (.slice C nx.length k) ∧ W.cell? ⟨w8.heap.size, 0, none⟩ = some (.int .i64 p) ∧ W.cell? ⟨w8.heap.size, 1, none⟩ = some (.int .i64 s) ∧ W.cell? ⟨w8.heap.size, 2, none⟩ = some (.int .i64 it) ∧ W.cell? ⟨w8.heap.size, 3, none⟩ = some (.bool dn) ∧ W.cell? ⟨w8.heap.size, 4, none⟩ = some (.slice Ax n cx) ∧ W.cell? ⟨w8.heap.size, 5, none⟩ = some (.slice Bx m dx) ∧ W.cell? ⟨w8.heap.size, 6, none⟩ = some (.int .i64 nn) ∧ W.cell? ⟨w8.heap.size, 7, none⟩ = some (.slice Cx nx.length kx)) _ _ _ _ ?_
  refine wpAnyH_take (i := 0) (oi := ⟨_, _, _, _, _, _⟩) (v := .agg #[.int .i64 p, .int .i64 s, .int .i64 it, .bool dn, .slice Ax n cx, .slice Bx m dx, .int .i64 nn, .slice Cx nx.length kx]) rfl (by kernel_rfl) (by kernel_rfl) (by kernel_rfl) (fun _ _ _ h => h) (Or.inl ⟨by kernel_rfl, fun W hS => by (obtain ⟨s0, s1, s2, s3, s4, s5, s6, s7, s8, s9, s10, s11, s12, s13, s14, s15, s16, s17⟩ := hS); go_simp⟩) ⟨BG_221.out.cell (i := 0) rfl, BG_221.out.cell (i := 1) rfl, BR_222.out.cell (i := 0) rfl, BR_222.out.cell (i := 1) rfl, BR_222.out.cell (i := 2) rfl, BR_222.out.cell (i := 3) rfl, BR_222.out.cell (i := 4) rfl, BR_222.out.cell (i := 5) rfl, BR_222.out.cell (i := 6) rfl, BR_222.out.cell (i := 7) rfl, X1_228.out.cell (i := 0) rfl, X1_228.out.cell (i := 1) rfl, X1_228.out.cell (i := 2) rfl, X1_228.out.cell (i := 3) rfl, X1_228.out.cell (i := 4) rfl, X1_228.out.cell (i := 5) rfl, X1_228.out.cell (i := 6) rfl, X1_228.out.cell (i := 7) rfl⟩ ?_
  (try simp only [Act.put, List.setIfInBounds_toArray, List.set_cons_zero, List.set_cons_succ])
  refine wpAnyH_take (i := 1) (oi := ⟨_, _, _, _, _, _⟩) (v := .agg #[.int .i64 p, .int .i64 s, .int .i64 it, .bool dn, .slice A n c, .slice B m d, .int .i64 nn, .slice C nx.length k]) rfl (by kernel_rfl) (by kernel_rfl) (by kernel_rfl) (fun _ _ _ h => h) (Or.inl ⟨by kernel_rfl, fun W hS => by (obtain ⟨s0, s1, s2, s3, s4, s5, s6, s7, s8, s9, s10, s11, s12, s13, s14, s15, s16, s17⟩ := hS); go_simp⟩) ⟨BG_221.out.cell (i := 0) rfl, BG_221.out.cell (i := 1) rfl, BR_222.out.cell (i := 0) rfl, BR_222.out.cell (i := 1) rfl, BR_222.out.cell (i := 2) rfl, BR_222.out.cell (i := 3) rfl, BR_222.out.cell (i := 4) rfl, BR_222.out.cell (i := 5) rfl, BR_222.out.cell (i := 6) rfl, BR_222.out.cell (i := 7) rfl, X1_228.out.cell (i := 0) rfl, X1_228.out.cell (i := 1) rfl, X1_228.out.cell (i := 2) rfl, X1_228.out.cell (i := 3) rfl, X1_228.out.cell (i := 4) rfl, X1_228.out.cell (i := 5) rfl, X1_228.out.cell (i := 6) rfl, X1_228.out.cell (i := 7) rfl⟩ ?_
  (try simp only [Act.put, List.setIfInBounds_toArray, List.set_cons_zero, List.set_cons_succ])
  refine wpAnyH_ready (rs := [2]) (by kernel_rfl) (by simp) (AllReadyH.cons rfl (fun K hK => ?_) AllReadyH.nil)
  go_simp
  go_at_call 21
  refine (CTR.out _ H_220.out).mono ?_
  rintro e w16 ⟨Aq, cq, Bq, dq, Cq, kq, rfl, ho, hb⟩
  have H_232 := Lib.hid (g_chain H_220.out hb)
  clear H_220
  have BG_233 := Lib.hid (BG_221.out.below hb)
  clear BG_221
  have BR_234 := Lib.hid (BR_222.out.below hb)
  clear BR_222
  have Vw_235 := Lib.hid (own_below Vw_223.out hb)
  clear Vw_223
  have Iw_236 := Lib.hid (own_below Iw_224.out hb)
  clear Iw_224
  have Gx_237 := Lib.hid (own_below Gx_225.out hb)
  clear Gx_225
  have X0_238 := Lib.hid (X0_226.out.below hb)
  clear X0_226
  have Rx_239 := Lib.hid (Rx_227.out.below hb)
  clear Rx_227
  have X1_240 := Lib.hid (X1_228.out.below hb)
  clear X1_228
  have Vg_241 := Lib.hid (own_below Vg_229.out hb)
  clear Vg_229
  have Ig_242 := Lib.hid (own_below Ig_230.out hb)
  clear Ig_230
  have sz_243 := Lib.hid (Below.size hb)
  have RG_244 := Lib.hid (ho).at_
  have Rq_245 := Lib.hid (ho)
  clear ho hb
  dsimp only
  refine hK.out _ _ ⟨BG_233.out.cell (i := 0) rfl, BG_233.out.cell (i := 1) rfl, BR_234.out.cell (i := 0) rfl, BR_234.out.cell (i := 1) rfl, BR_234.out.cell (i := 2) rfl, BR_234.out.cell (i := 3) rfl, BR_234.out.cell (i := 4) rfl, BR_234.out.cell (i := 5) rfl, BR_234.out.cell (i := 6) rfl, BR_234.out.cell (i := 7) rfl, X1_240.out.cell (i := 0) rfl, X1_240.out.cell (i := 1) rfl, X1_240.out.cell (i := 2) rfl, X1_240.out.cell (i := 3) rfl, X1_240.out.cell (i := 4) rfl, X1_240.out.cell (i := 5) rfl, X1_240.out.cell (i := 6) rfl, X1_240.out.cell (i := 7) rfl⟩ (fun _ => ?_)
  clear hK K
  (try simp only [Act.put, List.setIfInBounds_toArray, List.set_cons_zero, List.set_cons_succ])
  refine wpAnyH_ready (rs := [3]) (by kernel_rfl) (by simp) (AllReadyH.cons rfl (fun K hK => ?_) AllReadyH.nil)
  go_simp
  go_at_call 26
  refine (CER.out _ _ _ _ _ _ _ _ _ _ _ _ _ _ _ Rx_239.out Rq_245.out).mono ?_
  rintro e w17 ⟨rfl, hb⟩
  have H_246 := Lib.hid (g_chain H_232.out hb)
  clear H_232
  have BG_247 := Lib.hid (BG_233.out.below hb)
  clear BG_233
  have BR_248 := Lib.hid (BR_234.out.below hb)
  clear BR_234
  have Vw_249 := Lib.hid (own_below Vw_235.out hb)
  clear Vw_235
  have Iw_250 := Lib.hid (own_below Iw_236.out hb)
  clear Iw_236
  have Gx_251 := Lib.hid (own_below Gx_237.out hb)
  clear Gx_237
  have X0_252 := Lib.hid (X0_238.out.below hb)
  clear X0_238
  have Rx_253 := Lib.hid (Rx_239.out.below hb)
  clear Rx_239
  have X1_254 := Lib.hid (X1_240.out.below hb)
  clear X1_240
  have Vg_255 := Lib.hid (own_below Vg_241.out hb)
  clear Vg_241
  have Ig_256 := Lib.hid (own_below Ig_242.out hb)
  clear Ig_242
  have Rq_257 := Lib.hid (Rq_245.out.below hb)
  clear Rq_245
  have sz_258 := Lib.hid (Below.size hb)
  clear hb
  dsimp only
  refine hK.out _ _ ⟨BG_247.out.cell (i := 0) rfl, BG_247.out.cell (i := 1) rfl, BR_248.out.cell (i := 0) rfl, BR_248.out.cell (i := 1) rfl, BR_248.out.cell (i := 2) rfl, BR_248.out.cell (i := 3) rfl, BR_248.out.cell (i := 4) rfl, BR_248.out.cell (i := 5) rfl, BR_248.out.cell (i := 6) rfl, BR_248.out.cell (i := 7) rfl, X1_254.out.cell (i := 0) rfl, X1_254.out.cell (i := 1) rfl, X1_254.out.cell (i := 2) rfl, X1_254.out.cell (i := 3) rfl, X1_254.out.cell (i := 4) rfl, X1_254.out.cell (i := 5) rfl, X1_254.out.cell (i := 6) rfl, X1_254.out.cell (i := 7) rfl⟩ (fun _ => ?_)
  clear hK K
  (try simp only [Act.put, List.setIfInBounds_toArray, List.set_cons_zero, List.set_cons_succ])
  refine wpAnyH_take (i := 4) (oi := ⟨_, _, _, _, _, _⟩) (v := .bool false) rfl (by kernel_rfl) (by kernel_rfl) (by kernel_rfl) (fun _ _ _ h => h) (Or.inl ⟨by kernel_rfl, fun W hS => by (obtain ⟨s0, s1, s2, s3, s4, s5, s6, s7, s8, s9, s10, s11, s12, s13, s14, s15, s16, s17⟩ := hS); go_simp⟩) ⟨BG_247.out.cell (i := 0) rfl, BG_247.out.cell (i := 1) rfl, BR_248.out.cell (i := 0) rfl, BR_248.out.cell (i := 1) rfl, BR_248.out.cell (i := 2) rfl, BR_248.out.cell (i := 3) rfl, BR_248.out.cell (i := 4) rfl, BR_248.out.cell (i := 5) rfl, BR_248.out.cell (i := 6) rfl, BR_248.out.cell (i := 7) rfl, X1_254.out.cell (i := 0) rfl, X1_254.out.cell (i := 1) rfl, X1_254.out.cell (i := 2) rfl, X1_254.out.cell (i := 3) rfl, X1_254.out.cell (i := 4) rfl, X1_254.out.cell (i := 5) rfl, X1_254.out.cell (i := 6) rfl, X1_254.out.cell (i := 7) rfl⟩ ?_
  (try simp only [Act.put, List.setIfInBounds_toArray, List.set_cons_zero, List.set_cons_succ])
  refine wpAnyH_done (by kernel_rfl) ?_ _
  clear Rq_257
  have x_259 := X0_252.out.cell (i := 0) rfl
  have x_260 := X0_252.out.cell (i := 1) rfl
  have lt_261 := X0_252.out.lt
  go_wp2_with fail
  refine (CMG.out _ _ _ _ Gx_251.out).mono ?_
  rintro e w18 ⟨rfl, hg⟩
  clear x_259 x_260 lt_261
  have hwr := Wr.of_grown hg RG_82.out
  have H_262 := Lib.hid (Wr.orig hwr H_246.out (by have := sz_4.out; have := sz_20.out; have := sz_36.out; have := sz_40.out; have := sz_44.out; have := sz_51.out; have := sz_59.out; have := sz_81.out; have := sz_84.out; have := sz_85.out; have := sz_92.out; have := sz_94.out; have := sz_114.out; have := sz_117.out; have := sz_118.out; have := sz_119.out; have := sz_128.out; have := sz_130.out; have := sz_152.out; have := sz_168.out; have := sz_180.out; have := sz_192.out; have := sz_204.out; have := sz_219.out; have := sz_231.out; have := sz_243.out; have := sz_258.out; omega) (by have := sz_4.out; have := sz_20.out; have := sz_36.out; have := sz_40.out; have := sz_44.out; have := sz_51.out; have := sz_59.out; have := sz_81.out; have := sz_84.out; have := sz_85.out; have := sz_92.out; have := sz_94.out; have := sz_114.out; have := sz_117.out; have := sz_118.out; have := sz_119.out; have := sz_128.out; have := sz_130.out; have := sz_152.out; have := sz_168.out; have := sz_180.out; have := sz_192.out; have := sz_204.out; have := sz_219.out; have := sz_231.out; have := sz_243.out; have := sz_258.out; omega))
  clear H_246
  have BG_263 := Lib.hid (Wr.blk hwr BG_247.out (by have := sz_4.out; have := sz_20.out; have := sz_36.out; have := sz_40.out; have := sz_44.out; have := sz_51.out; have := sz_59.out; have := sz_81.out; have := sz_84.out; have := sz_85.out; have := sz_92.out; have := sz_94.out; have := sz_114.out; have := sz_117.out; have := sz_118.out; have := sz_119.out; have := sz_128.out; have := sz_130.out; have := sz_152.out; have := sz_168.out; have := sz_180.out; have := sz_192.out; have := sz_204.out; have := sz_219.out; have := sz_231.out; have := sz_243.out; have := sz_258.out; omega))
  clear BG_247
  have BR_264 := Lib.hid (Wr.blk hwr BR_248.out (by have := sz_4.out; have := sz_20.out; have := sz_36.out; have := sz_40.out; have := sz_44.out; have := sz_51.out; have := sz_59.out; have := sz_81.out; have := sz_84.out; have := sz_85.out; have := sz_92.out; have := sz_94.out; have := sz_114.out; have := sz_117.out; have := sz_118.out; have := sz_119.out; have := sz_128.out; have := sz_130.out; have := sz_152.out; have := sz_168.out; have := sz_180.out; have := sz_192.out; have := sz_204.out; have := sz_219.out; have := sz_231.out; have := sz_243.out; have := sz_258.out; omega))
  clear BR_248
  have Vw_265 := Lib.hid (Wr.own hwr Vw_249.out RG_60.out (by have := sz_4.out; have := sz_20.out; have := sz_36.out; have := sz_40.out; have := sz_44.out; have := sz_51.out; have := sz_59.out; have := sz_81.out; have := sz_84.out; have := sz_85.out; have := sz_92.out; have := sz_94.out; have := sz_114.out; have := sz_117.out; have := sz_118.out; have := sz_119.out; have := sz_128.out; have := sz_130.out; have := sz_152.out; have := sz_168.out; have := sz_180.out; have := sz_192.out; have := sz_204.out; have := sz_219.out; have := sz_231.out; have := sz_243.out; have := sz_258.out; omega))
  clear Vw_249
  have Iw_266 := Lib.hid (Wr.own hwr Iw_250.out RG_62.out (by have := sz_4.out; have := sz_20.out; have := sz_36.out; have := sz_40.out; have := sz_44.out; have := sz_51.out; have := sz_59.out; have := sz_81.out; have := sz_84.out; have := sz_85.out; have := sz_92.out; have := sz_94.out; have := sz_114.out; have := sz_117.out; have := sz_118.out; have := sz_119.out; have := sz_128.out; have := sz_130.out; have := sz_152.out; have := sz_168.out; have := sz_180.out; have := sz_192.out; have := sz_204.out; have := sz_219.out; have := sz_231.out; have := sz_243.out; have := sz_258.out; omega))
  clear Iw_250
  have X0_267 := Lib.hid (Wr.blk hwr X0_252.out (by have := sz_4.out; have := sz_20.out; have := sz_36.out; have := sz_40.out; have := sz_44.out; have := sz_51.out; have := sz_59.out; have := sz_81.out; have := sz_84.out; have := sz_85.out; have := sz_92.out; have := sz_94.out; have := sz_114.out; have := sz_117.out; have := sz_118.out; have := sz_119.out; have := sz_128.out; have := sz_130.out; have := sz_152.out; have := sz_168.out; have := sz_180.out; have := sz_192.out; have := sz_204.out; have := sz_219.out; have := sz_231.out; have := sz_243.out; have := sz_258.out; omega))
  clear X0_252
  have Rx_268 := Lib.hid (Wr.rows hwr Rx_253.out RG_115.out (by have := sz_4.out; have := sz_20.out; have := sz_36.out; have := sz_40.out; have := sz_44.out; have := sz_51.out; have := sz_59.out; have := sz_81.out; have := sz_84.out; have := sz_85.out; have := sz_92.out; have := sz_94.out; have := sz_114.out; have := sz_117.out; have := sz_118.out; have := sz_119.out; have := sz_128.out; have := sz_130.out; have := sz_152.out; have := sz_168.out; have := sz_180.out; have := sz_192.out; have := sz_204.out; have := sz_219.out; have := sz_231.out; have := sz_243.out; have := sz_258.out; omega))
  clear Rx_253
  have X1_269 := Lib.hid (Wr.blk hwr X1_254.out (by have := sz_4.out; have := sz_20.out; have := sz_36.out; have := sz_40.out; have := sz_44.out; have := sz_51.out; have := sz_59.out; have := sz_81.out; have := sz_84.out; have := sz_85.out; have := sz_92.out; have := sz_94.out; have := sz_114.out; have := sz_117.out; have := sz_118.out; have := sz_119.out; have := sz_128.out; have := sz_130.out; have := sz_152.out; have := sz_168.out; have := sz_180.out; have := sz_192.out; have := sz_204.out; have := sz_219.out; have := sz_231.out; have := sz_243.out; have := sz_258.out; omega))
  clear X1_254
  have Vg_270 := Lib.hid (Wr.own hwr Vg_255.out RG_153.out (by have := sz_4.out; have := sz_20.out; have := sz_36.out; have := sz_40.out; have := sz_44.out; have := sz_51.out; have := sz_59.out; have := sz_81.out; have := sz_84.out; have := sz_85.out; have := sz_92.out; have := sz_94.out; have := sz_114.out; have := sz_117.out; have := sz_118.out; have := sz_119.out; have := sz_128.out; have := sz_130.out; have := sz_152.out; have := sz_168.out; have := sz_180.out; have := sz_192.out; have := sz_204.out; have := sz_219.out; have := sz_231.out; have := sz_243.out; have := sz_258.out; omega))
  clear Vg_255
  have Ig_271 := Lib.hid (Wr.own hwr Ig_256.out RG_155.out (by have := sz_4.out; have := sz_20.out; have := sz_36.out; have := sz_40.out; have := sz_44.out; have := sz_51.out; have := sz_59.out; have := sz_81.out; have := sz_84.out; have := sz_85.out; have := sz_92.out; have := sz_94.out; have := sz_114.out; have := sz_117.out; have := sz_118.out; have := sz_119.out; have := sz_128.out; have := sz_130.out; have := sz_152.out; have := sz_168.out; have := sz_180.out; have := sz_192.out; have := sz_204.out; have := sz_219.out; have := sz_231.out; have := sz_243.out; have := sz_258.out; omega))
  clear Ig_256
  have sz_272 := Lib.hid (Wr.size hwr)
  clear hwr
  clear hg
  clear X0_267
  have x_273 := X1_269.out.cell (i := 0) rfl
  have x_274 := X1_269.out.cell (i := 1) rfl
  have x_275 := X1_269.out.cell (i := 2) rfl
  have x_276 := X1_269.out.cell (i := 3) rfl
  have x_277 := X1_269.out.cell (i := 4) rfl
  have x_278 := X1_269.out.cell (i := 5) rfl
  have x_279 := X1_269.out.cell (i := 6) rfl
  have x_280 := X1_269.out.cell (i := 7) rfl
  have lt_281 := X1_269.out.lt
  unfold MarkedRun at CMR
  go_wp2_with fail
  refine (CMR.out _ _ _ _ _ _ _ _ Rx_268.out).mono ?_
  rintro e w19 ⟨rfl, hm, ho⟩
  clear x_273 x_274 x_275 x_276 x_277 x_278 x_279 x_280 lt_281
  have hwr := Wr.of_only ho RG_115.out
  have H_282 := Lib.hid (Wr.orig hwr H_262.out (by have := sz_4.out; have := sz_20.out; have := sz_36.out; have := sz_40.out; have := sz_44.out; have := sz_51.out; have := sz_59.out; have := sz_81.out; have := sz_84.out; have := sz_85.out; have := sz_92.out; have := sz_94.out; have := sz_114.out; have := sz_117.out; have := sz_118.out; have := sz_119.out; have := sz_128.out; have := sz_130.out; have := sz_152.out; have := sz_168.out; have := sz_180.out; have := sz_192.out; have := sz_204.out; have := sz_219.out; have := sz_231.out; have := sz_243.out; have := sz_258.out; have := sz_272.out; omega) (by have := sz_4.out; have := sz_20.out; have := sz_36.out; have := sz_40.out; have := sz_44.out; have := sz_51.out; have := sz_59.out; have := sz_81.out; have := sz_84.out; have := sz_85.out; have := sz_92.out; have := sz_94.out; have := sz_114.out; have := sz_117.out; have := sz_118.out; have := sz_119.out; have := sz_128.out; have := sz_130.out; have := sz_152.out; have := sz_168.out; have := sz_180.out; have := sz_192.out; have := sz_204.out; have := sz_219.out; have := sz_231.out; have := sz_243.out; have := sz_258.out; have := sz_272.out; omega))
  clear H_262
  have BG_283 := Lib.hid (Wr.blk hwr BG_263.out (by have := sz_4.out; have := sz_20.out; have := sz_36.out; have := sz_40.out; have := sz_44.out; have := sz_51.out; have := sz_59.out; have := sz_81.out; have := sz_84.out; have := sz_85.out; have := sz_92.out; have := sz_94.out; have := sz_114.out; have := sz_117.out; have := sz_118.out; have := sz_119.out; have := sz_128.out; have := sz_130.out; have := sz_152.out; have := sz_168.out; have := sz_180.out; have := sz_192.out; have := sz_204.out; have := sz_219.out; have := sz_231.out; have := sz_243.out; have := sz_258.out; have := sz_272.out; omega))
  clear BG_263
  have BR_284 := Lib.hid (Wr.blk hwr BR_264.out (by have := sz_4.out; have := sz_20.out; have := sz_36.out; have := sz_40.out; have := sz_44.out; have := sz_51.out; have := sz_59.out; have := sz_81.out; have := sz_84.out; have := sz_85.out; have := sz_92.out; have := sz_94.out; have := sz_114.out; have := sz_117.out; have := sz_118.out; have := sz_119.out; have := sz_128.out; have := sz_130.out; have := sz_152.out; have := sz_168.out; have := sz_180.out; have := sz_192.out; have := sz_204.out; have := sz_219.out; have := sz_231.out; have := sz_243.out; have := sz_258.out; have := sz_272.out; omega))
  clear BR_264
  have Vw_285 := Lib.hid (Wr.own hwr Vw_265.out RG_60.out (by have := sz_4.out; have := sz_20.out; have := sz_36.out; have := sz_40.out; have := sz_44.out; have := sz_51.out; have := sz_59.out; have := sz_81.out; have := sz_84.out; have := sz_85.out; have := sz_92.out; have := sz_94.out; have := sz_114.out; have := sz_117.out; have := sz_118.out; have := sz_119.out; have := sz_128.out; have := sz_130.out; have := sz_152.out; have := sz_168.out; have := sz_180.out; have := sz_192.out; have := sz_204.out; have := sz_219.out; have := sz_231.out; have := sz_243.out; have := sz_258.out; have := sz_272.out; omega))
  clear Vw_265
  have Iw_286 := Lib.hid (Wr.own hwr Iw_266.out RG_62.out (by have := sz_4.out; have := sz_20.out; have := sz_36.out; have := sz_40.out; have := sz_44.out; have := sz_51.out; have := sz_59.out; have := sz_81.out; have := sz_84.out; have := sz_85.out; have := sz_92.out; have := sz_94.out; have := sz_114.out; have := sz_117.out; have := sz_118.out; have := sz_119.out; have := sz_128.out; have := sz_130.out; have := sz_152.out; have := sz_168.out; have := sz_180.out; have := sz_192.out; have := sz_204.out; have := sz_219.out; have := sz_231.out; have := sz_243.out; have := sz_258.out; have := sz_272.out; omega))
  clear Iw_266
  have X1_287 := Lib.hid (Wr.blk hwr X1_269.out (by have := sz_4.out; have := sz_20.out; have := sz_36.out; have := sz_40.out; have := sz_44.out; have := sz_51.out; have := sz_59.out; have := sz_81.out; have := sz_84.out; have := sz_85.out; have := sz_92.out; have := sz_94.out; have := sz_114.out; have := sz_117.out; have := sz_118.out; have := sz_119.out; have := sz_128.out; have := sz_130.out; have := sz_152.out; have := sz_168.out; have := sz_180.out; have := sz_192.out; have := sz_204.out; have := sz_219.out; have := sz_231.out; have := sz_243.out; have := sz_258.out; have := sz_272.out; omega))
  clear X1_269
  have Vg_288 := Lib.hid (Wr.own hwr Vg_270.out RG_153.out (by have := sz_4.out; have := sz_20.out; have := sz_36.out; have := sz_40.out; have := sz_44.out; have := sz_51.out; have := sz_59.out; have := sz_81.out; have := sz_84.out; have := sz_85.out; have := sz_92.out; have := sz_94.out; have := sz_114.out; have := sz_117.out; have := sz_118.out; have := sz_119.out; have := sz_128.out; have := sz_130.out; have := sz_152.out; have := sz_168.out; have := sz_180.out; have := sz_192.out; have := sz_204.out; have := sz_219.out; have := sz_231.out; have := sz_243.out; have := sz_258.out; have := sz_272.out; omega))
  clear Vg_270
  have Ig_289 := Lib.hid (Wr.own hwr Ig_271.out RG_155.out (by have := sz_4.out; have := sz_20.out; have := sz_36.out; have := sz_40.out; have := sz_44.out; have := sz_51.out; have := sz_59.out; have := sz_81.out; have := sz_84.out; have := sz_85.out; have := sz_92.out; have := sz_94.out; have := sz_114.out; have := sz_117.out; have := sz_118.out; have := sz_119.out; have := sz_128.out; have := sz_130.out; have := sz_152.out; have := sz_168.out; have := sz_180.out; have := sz_192.out; have := sz_204.out; have := sz_219.out; have := sz_231.out; have := sz_243.out; have := sz_258.out; have := sz_272.out; omega))
  clear Ig_271
  have sz_290 := Lib.hid (Wr.size hwr)
  clear hwr
  clear ho hm
  clear X1_287
  go_wp2_with fail
  refine (CEV.out _ _ _ _ _ _ _ Vg_288.out Vw_285.out).mono ?_
  rintro e w20 ⟨rfl, hb⟩
  have H_291 := Lib.hid (g_chain H_282.out hb)
  clear H_282
  have BG_292 := Lib.hid (BG_283.out.below hb)
  clear BG_283
  have BR_293 := Lib.hid (BR_284.out.below hb)
  clear BR_284
  have Vw_294 := Lib.hid (own_below Vw_285.out hb)
  clear Vw_285
  have Iw_295 := Lib.hid (own_below Iw_286.out hb)
  clear Iw_286
  have Vg_296 := Lib.hid (own_below Vg_288.out hb)
  clear Vg_288
  have Ig_297 := Lib.hid (own_below Ig_289.out hb)
  clear Ig_289
  have sz_298 := Lib.hid (Below.size hb)
  clear hb
  go_wp2_with fail
  refine (CEI.out _ _ _ _ _ _ _ Ig_297.out Iw_295.out).mono ?_
  rintro e w21 ⟨rfl, hb⟩
  have H_299 := Lib.hid (g_chain H_291.out hb)
  clear H_291
  have BG_300 := Lib.hid (BG_292.out.below hb)
  clear BG_292
  have BR_301 := Lib.hid (BR_293.out.below hb)
  clear BR_293
  have Vw_302 := Lib.hid (own_below Vw_294.out hb)
  clear Vw_294
  have Iw_303 := Lib.hid (own_below Iw_295.out hb)
  clear Iw_295
  have Vg_304 := Lib.hid (own_below Vg_296.out hb)
  clear Vg_296
  have Ig_305 := Lib.hid (own_below Ig_297.out hb)
  clear Ig_297
  have sz_306 := Lib.hid (Below.size hb)
  clear hb
  unfold MarkedV at CMV
  unfold MarkedI at CMI
  go_wp2_with fail
  refine (CMV.out _ _ _ _ Vg_304.out).mono ?_
  rintro e w22 ⟨rfl, hm, hg⟩
  have hwr := Wr.of_grown hg RG_153.out
  have H_307 := Lib.hid (Wr.orig hwr H_299.out (by have := sz_4.out; have := sz_20.out; have := sz_36.out; have := sz_40.out; have := sz_44.out; have := sz_51.out; have := sz_59.out; have := sz_81.out; have := sz_84.out; have := sz_85.out; have := sz_92.out; have := sz_94.out; have := sz_114.out; have := sz_117.out; have := sz_118.out; have := sz_119.out; have := sz_128.out; have := sz_130.out; have := sz_152.out; have := sz_168.out; have := sz_180.out; have := sz_192.out; have := sz_204.out; have := sz_219.out; have := sz_231.out; have := sz_243.out; have := sz_258.out; have := sz_272.out; have := sz_290.out; have := sz_298.out; have := sz_306.out; omega) (by have := sz_4.out; have := sz_20.out; have := sz_36.out; have := sz_40.out; have := sz_44.out; have := sz_51.out; have := sz_59.out; have := sz_81.out; have := sz_84.out; have := sz_85.out; have := sz_92.out; have := sz_94.out; have := sz_114.out; have := sz_117.out; have := sz_118.out; have := sz_119.out; have := sz_128.out; have := sz_130.out; have := sz_152.out; have := sz_168.out; have := sz_180.out; have := sz_192.out; have := sz_204.out; have := sz_219.out; have := sz_231.out; have := sz_243.out; have := sz_258.out; have := sz_272.out; have := sz_290.out; have := sz_298.out; have := sz_306.out; omega))
  clear H_299
  have BG_308 := Lib.hid (Wr.blk hwr BG_300.out (by have := sz_4.out; have := sz_20.out; have := sz_36.out; have := sz_40.out; have := sz_44.out; have := sz_51.out; have := sz_59.out; have := sz_81.out; have := sz_84.out; have := sz_85.out; have := sz_92.out; have := sz_94.out; have := sz_114.out; have := sz_117.out; have := sz_118.out; have := sz_119.out; have := sz_128.out; have := sz_130.out; have := sz_152.out; have := sz_168.out; have := sz_180.out; have := sz_192.out; have := sz_204.out; have := sz_219.out; have := sz_231.out; have := sz_243.out; have := sz_258.out; have := sz_272.out; have := sz_290.out; have := sz_298.out; have := sz_306.out; omega))
  clear BG_300
  have BR_309 := Lib.hid (Wr.blk hwr BR_301.out (by have := sz_4.out; have := sz_20.out; have := sz_36.out; have := sz_40.out; have := sz_44.out; have := sz_51.out; have := sz_59.out; have := sz_81.out; have := sz_84.out; have := sz_85.out; have := sz_92.out; have := sz_94.out; have := sz_114.out; have := sz_117.out; have := sz_118.out; have := sz_119.out; have := sz_128.out; have := sz_130.out; have := sz_152.out; have := sz_168.out; have := sz_180.out; have := sz_192.out; have := sz_204.out; have := sz_219.out; have := sz_231.out; have := sz_243.out; have := sz_258.out; have := sz_272.out; have := sz_290.out; have := sz_298.out; have := sz_306.out; omega))
  clear BR_301
  have Vw_310 := Lib.hid (Wr.own hwr Vw_302.out RG_60.out (by have := sz_4.out; have := sz_20.out; have := sz_36.out; have := sz_40.out; have := sz_44.out; have := sz_51.out; have := sz_59.out; have := sz_81.out; have := sz_84.out; have := sz_85.out; have := sz_92.out; have := sz_94.out; have := sz_114.out; have := sz_117.out; have := sz_118.out; have := sz_119.out; have := sz_128.out; have := sz_130.out; have := sz_152.out; have := sz_168.out; have := sz_180.out; have := sz_192.out; have := sz_204.out; have := sz_219.out; have := sz_231.out; have := sz_243.out; have := sz_258.out; have := sz_272.out; have := sz_290.out; have := sz_298.out; have := sz_306.out; omega))
  clear Vw_302
  have Iw_311 := Lib.hid (Wr.own hwr Iw_303.out RG_62.out (by have := sz_4.out; have := sz_20.out; have := sz_36.out; have := sz_40.out; have := sz_44.out; have := sz_51.out; have := sz_59.out; have := sz_81.out; have := sz_84.out; have := sz_85.out; have := sz_92.out; have := sz_94.out; have := sz_114.out; have := sz_117.out; have := sz_118.out; have := sz_119.out; have := sz_128.out; have := sz_130.out; have := sz_152.out; have := sz_168.out; have := sz_180.out; have := sz_192.out; have := sz_204.out; have := sz_219.out; have := sz_231.out; have := sz_243.out; have := sz_258.out; have := sz_272.out; have := sz_290.out; have := sz_298.out; have := sz_306.out; omega))
  clear Iw_303
  have Ig_312 := Lib.hid (World.ownsRow.kept Ig_305.out hg ((own_types Ig_305.out Vg_304.out (by decide)).imp id fun h e => h e.symm))
  clear Ig_305
  have sz_313 := Lib.hid (Wr.size hwr)
  have RG_314 := Lib.hid (hm).lt
  have Mv_315 := Lib.hid (hm)
  clear hwr hg hm
  go_wp2_with fail
  refine (CMI.out _ _ _ _ Ig_312.out).mono ?_
  rintro e w23 ⟨rfl, hm, hg⟩
  have hwr := Wr.of_grown hg RG_155.out
  have H_316 := Lib.hid (Wr.orig hwr H_307.out (by have := sz_4.out; have := sz_20.out; have := sz_36.out; have := sz_40.out; have := sz_44.out; have := sz_51.out; have := sz_59.out; have := sz_81.out; have := sz_84.out; have := sz_85.out; have := sz_92.out; have := sz_94.out; have := sz_114.out; have := sz_117.out; have := sz_118.out; have := sz_119.out; have := sz_128.out; have := sz_130.out; have := sz_152.out; have := sz_168.out; have := sz_180.out; have := sz_192.out; have := sz_204.out; have := sz_219.out; have := sz_231.out; have := sz_243.out; have := sz_258.out; have := sz_272.out; have := sz_290.out; have := sz_298.out; have := sz_306.out; have := sz_313.out; omega) (by have := sz_4.out; have := sz_20.out; have := sz_36.out; have := sz_40.out; have := sz_44.out; have := sz_51.out; have := sz_59.out; have := sz_81.out; have := sz_84.out; have := sz_85.out; have := sz_92.out; have := sz_94.out; have := sz_114.out; have := sz_117.out; have := sz_118.out; have := sz_119.out; have := sz_128.out; have := sz_130.out; have := sz_152.out; have := sz_168.out; have := sz_180.out; have := sz_192.out; have := sz_204.out; have := sz_219.out; have := sz_231.out; have := sz_243.out; have := sz_258.out; have := sz_272.out; have := sz_290.out; have := sz_298.out; have := sz_306.out; have := sz_313.out; omega))
  clear H_307
  have BG_317 := Lib.hid (Wr.blk hwr BG_308.out (by have := sz_4.out; have := sz_20.out; have := sz_36.out; have := sz_40.out; have := sz_44.out; have := sz_51.out; have := sz_59.out; have := sz_81.out; have := sz_84.out; have := sz_85.out; have := sz_92.out; have := sz_94.out; have := sz_114.out; have := sz_117.out; have := sz_118.out; have := sz_119.out; have := sz_128.out; have := sz_130.out; have := sz_152.out; have := sz_168.out; have := sz_180.out; have := sz_192.out; have := sz_204.out; have := sz_219.out; have := sz_231.out; have := sz_243.out; have := sz_258.out; have := sz_272.out; have := sz_290.out; have := sz_298.out; have := sz_306.out; have := sz_313.out; omega))
  clear BG_308
  have BR_318 := Lib.hid (Wr.blk hwr BR_309.out (by have := sz_4.out; have := sz_20.out; have := sz_36.out; have := sz_40.out; have := sz_44.out; have := sz_51.out; have := sz_59.out; have := sz_81.out; have := sz_84.out; have := sz_85.out; have := sz_92.out; have := sz_94.out; have := sz_114.out; have := sz_117.out; have := sz_118.out; have := sz_119.out; have := sz_128.out; have := sz_130.out; have := sz_152.out; have := sz_168.out; have := sz_180.out; have := sz_192.out; have := sz_204.out; have := sz_219.out; have := sz_231.out; have := sz_243.out; have := sz_258.out; have := sz_272.out; have := sz_290.out; have := sz_298.out; have := sz_306.out; have := sz_313.out; omega))
  clear BR_309
  have Vw_319 := Lib.hid (Wr.own hwr Vw_310.out RG_60.out (by have := sz_4.out; have := sz_20.out; have := sz_36.out; have := sz_40.out; have := sz_44.out; have := sz_51.out; have := sz_59.out; have := sz_81.out; have := sz_84.out; have := sz_85.out; have := sz_92.out; have := sz_94.out; have := sz_114.out; have := sz_117.out; have := sz_118.out; have := sz_119.out; have := sz_128.out; have := sz_130.out; have := sz_152.out; have := sz_168.out; have := sz_180.out; have := sz_192.out; have := sz_204.out; have := sz_219.out; have := sz_231.out; have := sz_243.out; have := sz_258.out; have := sz_272.out; have := sz_290.out; have := sz_298.out; have := sz_306.out; have := sz_313.out; omega))
  clear Vw_310
  have Iw_320 := Lib.hid (Wr.own hwr Iw_311.out RG_62.out (by have := sz_4.out; have := sz_20.out; have := sz_36.out; have := sz_40.out; have := sz_44.out; have := sz_51.out; have := sz_59.out; have := sz_81.out; have := sz_84.out; have := sz_85.out; have := sz_92.out; have := sz_94.out; have := sz_114.out; have := sz_117.out; have := sz_118.out; have := sz_119.out; have := sz_128.out; have := sz_130.out; have := sz_152.out; have := sz_168.out; have := sz_180.out; have := sz_192.out; have := sz_204.out; have := sz_219.out; have := sz_231.out; have := sz_243.out; have := sz_258.out; have := sz_272.out; have := sz_290.out; have := sz_298.out; have := sz_306.out; have := sz_313.out; omega))
  clear Iw_311
  have Mv_321 := Lib.hid (World.ownsRow.kept Mv_315.out hg ((own_types Mv_315.out Ig_312.out (by decide)).imp id fun h e => h e.symm))
  clear Mv_315
  have sz_322 := Lib.hid (Wr.size hwr)
  have RG_323 := Lib.hid (hm).lt
  have Mi_324 := Lib.hid (hm)
  clear hwr hg hm
  go_wp2_with fail
  refine (CHV.out _ _ _ _ Mv_321.out).mono ?_
  rintro e w24 ⟨rfl, hb⟩
  have H_325 := Lib.hid (g_chain H_316.out hb)
  clear H_316
  have BG_326 := Lib.hid (BG_317.out.below hb)
  clear BG_317
  have BR_327 := Lib.hid (BR_318.out.below hb)
  clear BR_318
  have Vw_328 := Lib.hid (own_below Vw_319.out hb)
  clear Vw_319
  have Iw_329 := Lib.hid (own_below Iw_320.out hb)
  clear Iw_320
  have Mv_330 := Lib.hid (own_below Mv_321.out hb)
  clear Mv_321
  have Mi_331 := Lib.hid (own_below Mi_324.out hb)
  clear Mi_324
  have sz_332 := Lib.hid (Below.size hb)
  clear hb
  go_wp2_with fail
  refine (CHI.out _ _ _ _ Mi_331.out).mono ?_
  rintro e w25 ⟨rfl, hb⟩
  have H_333 := Lib.hid (g_chain H_325.out hb)
  clear H_325
  have BG_334 := Lib.hid (BG_326.out.below hb)
  clear BG_326
  have BR_335 := Lib.hid (BR_327.out.below hb)
  clear BR_327
  have Vw_336 := Lib.hid (own_below Vw_328.out hb)
  clear Vw_328
  have Iw_337 := Lib.hid (own_below Iw_329.out hb)
  clear Iw_329
  have Mv_338 := Lib.hid (own_below Mv_330.out hb)
  clear Mv_330
  have Mi_339 := Lib.hid (own_below Mi_331.out hb)
  clear Mi_331
  have sz_340 := Lib.hid (Below.size hb)
  clear hb
  go_upto_region 35 with fail
  refine wp_region_any (by kernel_rfl) ?_
  change wpAny _ _ _ _ _ _ _ (World.drew _)
  have hb : Below w25.heap.size w25 (World.drew w25) := (Below.refl _ _).drew
  have H_341 := Lib.hid (g_chain H_333.out hb)
  clear H_333
  have BG_342 := Lib.hid (BG_334.out.below hb)
  clear BG_334
  have BR_343 := Lib.hid (BR_335.out.below hb)
  clear BR_335
  have Vw_344 := Lib.hid (own_below Vw_336.out hb)
  clear Vw_336
  have Iw_345 := Lib.hid (own_below Iw_337.out hb)
  clear Iw_337
  have Mv_346 := Lib.hid (own_below Mv_338.out hb)
  clear Mv_338
  have Mi_347 := Lib.hid (own_below Mi_339.out hb)
  clear Mi_339
  have sz_348 := Lib.hid (Below.size hb)
  clear hb
  generalize hDD : World.drew w25 = w26 at H_341 BG_342 BR_343 Vw_344 Iw_345 Mv_346 Mi_347 sz_348 ⊢
  clear hDD
  refine wpAny_of_held (S := fun W => W.cell? ⟨w.heap.size, 0, none⟩ = some (.int .i64 N) ∧ W.cell? ⟨w.heap.size, 1, none⟩ = some (.slice AG l cG) ∧ W.cell? ⟨w.heap.size + 1, 0, none⟩ = some (.int .i64 p) ∧ W.cell? ⟨w.heap.size + 1, 1, none⟩ = some (.int .i64 s) ∧ W.cell? ⟨w.heap.size + 1, 2, none⟩ = some (.int .i64 it) ∧ W.cell? ⟨w.heap.size + 1, 3, none⟩ = some (.bool dn) ∧ W.cell? ⟨w.heap.size + 1, 4, none⟩ = some (.slice A n c) ∧ W.cell? ⟨w.heap.size + 1, 5, none⟩ = some (.slice B m d) ∧ W.cell? ⟨w.heap.size + 1, 6, none⟩ = some (.int .i64 nn) ∧ W.cell? ⟨w.heap.size + 1, 7, none⟩ = some (.slice C nx.length k)) _ _ _ _ ?_
  refine wpAnyH_take (i := 0) (oi := ⟨_, _, _, _, _, _⟩) (v := .agg #[.int .i64 N, .slice AG l cG]) rfl (by kernel_rfl) (by kernel_rfl) (by kernel_rfl) (fun _ _ _ h => h) (Or.inl ⟨by kernel_rfl, fun W hS => by (obtain ⟨s0, s1, s2, s3, s4, s5, s6, s7, s8, s9⟩ := hS); go_simp⟩) ⟨BG_342.out.cell (i := 0) rfl, BG_342.out.cell (i := 1) rfl, BR_343.out.cell (i := 0) rfl, BR_343.out.cell (i := 1) rfl, BR_343.out.cell (i := 2) rfl, BR_343.out.cell (i := 3) rfl, BR_343.out.cell (i := 4) rfl, BR_343.out.cell (i := 5) rfl, BR_343.out.cell (i := 6) rfl, BR_343.out.cell (i := 7) rfl⟩ ?_
  (try simp only [Act.put, List.setIfInBounds_toArray, List.set_cons_zero, List.set_cons_succ])
  refine wpAnyH_take (i := 2) (oi := ⟨_, _, _, _, _, _⟩) (v := .agg #[.int .i64 p, .int .i64 s, .int .i64 it, .bool dn, .slice A n c, .slice B m d, .int .i64 nn, .slice C nx.length k]) rfl (by kernel_rfl) (by kernel_rfl) (by kernel_rfl) (fun _ _ _ h => h) (Or.inl ⟨by kernel_rfl, fun W hS => by (obtain ⟨s0, s1, s2, s3, s4, s5, s6, s7, s8, s9⟩ := hS); go_simp⟩) ⟨BG_342.out.cell (i := 0) rfl, BG_342.out.cell (i := 1) rfl, BR_343.out.cell (i := 0) rfl, BR_343.out.cell (i := 1) rfl, BR_343.out.cell (i := 2) rfl, BR_343.out.cell (i := 3) rfl, BR_343.out.cell (i := 4) rfl, BR_343.out.cell (i := 5) rfl, BR_343.out.cell (i := 6) rfl, BR_343.out.cell (i := 7) rfl⟩ ?_
  (try simp only [Act.put, List.setIfInBounds_toArray, List.set_cons_zero, List.set_cons_succ])
  refine wpAnyH_take (i := 4) (oi := ⟨_, _, _, _, _, _⟩) (v := .int .i64 v) rfl (by kernel_rfl) (by kernel_rfl) (by kernel_rfl) (fun _ _ _ h => h) (Or.inl ⟨by kernel_rfl, fun W hS => by (obtain ⟨s0, s1, s2, s3, s4, s5, s6, s7, s8, s9⟩ := hS); go_simp⟩) ⟨BG_342.out.cell (i := 0) rfl, BG_342.out.cell (i := 1) rfl, BR_343.out.cell (i := 0) rfl, BR_343.out.cell (i := 1) rfl, BR_343.out.cell (i := 2) rfl, BR_343.out.cell (i := 3) rfl, BR_343.out.cell (i := 4) rfl, BR_343.out.cell (i := 5) rfl, BR_343.out.cell (i := 6) rfl, BR_343.out.cell (i := 7) rfl⟩ ?_
  (try simp only [Act.put, List.setIfInBounds_toArray, List.set_cons_zero, List.set_cons_succ])
  refine wpAnyH_ready (rs := [1]) (by kernel_rfl) (by simp) (AllReadyH.cons rfl (fun K hK => ?_) AllReadyH.nil)
  go_simp
  go_at_call 20
  refine (CTG.out _ H_341.out).mono ?_
  rintro e w27 ⟨Agt, cgt, rfl, ho, hb⟩
  have H_349 := Lib.hid (g_chain H_341.out hb)
  clear H_341
  have BG_350 := Lib.hid (BG_342.out.below hb)
  clear BG_342
  have BR_351 := Lib.hid (BR_343.out.below hb)
  clear BR_343
  have Vw_352 := Lib.hid (own_below Vw_344.out hb)
  clear Vw_344
  have Iw_353 := Lib.hid (own_below Iw_345.out hb)
  clear Iw_345
  have Mv_354 := Lib.hid (own_below Mv_346.out hb)
  clear Mv_346
  have Mi_355 := Lib.hid (own_below Mi_347.out hb)
  clear Mi_347
  have sz_356 := Lib.hid (Below.size hb)
  have RG_357 := Lib.hid (ho).lt
  have Gt_358 := Lib.hid (ho)
  clear ho hb
  dsimp only
  refine hK.out _ _ ⟨BG_350.out.cell (i := 0) rfl, BG_350.out.cell (i := 1) rfl, BR_351.out.cell (i := 0) rfl, BR_351.out.cell (i := 1) rfl, BR_351.out.cell (i := 2) rfl, BR_351.out.cell (i := 3) rfl, BR_351.out.cell (i := 4) rfl, BR_351.out.cell (i := 5) rfl, BR_351.out.cell (i := 6) rfl, BR_351.out.cell (i := 7) rfl⟩ (fun _ => ?_)
  clear hK K
  (try simp only [Act.put, List.setIfInBounds_toArray, List.set_cons_zero, List.set_cons_succ])
  refine wpAnyH_ready (rs := [3]) (by kernel_rfl) (by simp) (AllReadyH.cons rfl (fun K hK => ?_) AllReadyH.nil)
  go_simp
  go_at_call 21
  refine (CTR.out _ H_349.out).mono ?_
  rintro e w28 ⟨At, ct, Bt, dt, Ct, kt, rfl, ho, hb⟩
  have H_359 := Lib.hid (g_chain H_349.out hb)
  clear H_349
  have BG_360 := Lib.hid (BG_350.out.below hb)
  clear BG_350
  have BR_361 := Lib.hid (BR_351.out.below hb)
  clear BR_351
  have Vw_362 := Lib.hid (own_below Vw_352.out hb)
  clear Vw_352
  have Iw_363 := Lib.hid (own_below Iw_353.out hb)
  clear Iw_353
  have Mv_364 := Lib.hid (own_below Mv_354.out hb)
  clear Mv_354
  have Mi_365 := Lib.hid (own_below Mi_355.out hb)
  clear Mi_355
  have Gt_366 := Lib.hid (own_below Gt_358.out hb)
  clear Gt_358
  have sz_367 := Lib.hid (Below.size hb)
  have RG_368 := Lib.hid (ho).at_
  have Rt_369 := Lib.hid (ho)
  clear ho hb
  dsimp only
  refine hK.out _ _ ⟨BG_360.out.cell (i := 0) rfl, BG_360.out.cell (i := 1) rfl, BR_361.out.cell (i := 0) rfl, BR_361.out.cell (i := 1) rfl, BR_361.out.cell (i := 2) rfl, BR_361.out.cell (i := 3) rfl, BR_361.out.cell (i := 4) rfl, BR_361.out.cell (i := 5) rfl, BR_361.out.cell (i := 6) rfl, BR_361.out.cell (i := 7) rfl⟩ (fun _ => ?_)
  clear hK K
  (try simp only [Act.put, List.setIfInBounds_toArray, List.set_cons_zero, List.set_cons_succ])
  refine wpAnyH_ready (rs := [5]) (by kernel_rfl) (by simp) (AllReadyH.cons rfl (fun K hK => ?_) AllReadyH.nil)
  go_simp
  go_at_call 22
  refine (CI.out _ H_359.out _ _ _ _ _ _ _ _ _ _ Gt_366.out Rt_369.out).mono ?_
  rintro e w29 ⟨Vh, uh, Ih, yh, rfl, ho1, ho2, hb⟩
  have H_370 := Lib.hid (g_chain H_359.out hb)
  clear H_359
  have BG_371 := Lib.hid (BG_360.out.below hb)
  clear BG_360
  have BR_372 := Lib.hid (BR_361.out.below hb)
  clear BR_361
  have Vw_373 := Lib.hid (own_below Vw_362.out hb)
  clear Vw_362
  have Iw_374 := Lib.hid (own_below Iw_363.out hb)
  clear Iw_363
  have Mv_375 := Lib.hid (own_below Mv_364.out hb)
  clear Mv_364
  have Mi_376 := Lib.hid (own_below Mi_365.out hb)
  clear Mi_365
  have Gt_377 := Lib.hid (own_below Gt_366.out hb)
  clear Gt_366
  have Rt_378 := Lib.hid (Rt_369.out.below hb)
  clear Rt_369
  have sz_379 := Lib.hid (Below.size hb)
  have RG_380 := Lib.hid (ho1).lt
  have Vh_381 := Lib.hid (ho1)
  have RG_382 := Lib.hid (ho2).lt
  have Ih_383 := Lib.hid (ho2)
  clear ho1 ho2 hb
  dsimp only
  refine hK.out _ _ ⟨BG_371.out.cell (i := 0) rfl, BG_371.out.cell (i := 1) rfl, BR_372.out.cell (i := 0) rfl, BR_372.out.cell (i := 1) rfl, BR_372.out.cell (i := 2) rfl, BR_372.out.cell (i := 3) rfl, BR_372.out.cell (i := 4) rfl, BR_372.out.cell (i := 5) rfl, BR_372.out.cell (i := 6) rfl, BR_372.out.cell (i := 7) rfl⟩ (fun _ => ?_)
  clear hK K
  (try simp only [Act.put, List.setIfInBounds_toArray, List.set_cons_zero, List.set_cons_succ])
  refine wpAnyH_take (i := 6) (oi := ⟨_, _, _, _, _, _⟩) (v := .tuple #[.slice Vh is.length uh, .slice Ih is.length yh]) rfl (by kernel_rfl) (by kernel_rfl) (by kernel_rfl) (fun _ _ _ h => h) (Or.inl ⟨by kernel_rfl, fun W hS => by (obtain ⟨s0, s1, s2, s3, s4, s5, s6, s7, s8, s9⟩ := hS); go_simp⟩) ⟨BG_371.out.cell (i := 0) rfl, BG_371.out.cell (i := 1) rfl, BR_372.out.cell (i := 0) rfl, BR_372.out.cell (i := 1) rfl, BR_372.out.cell (i := 2) rfl, BR_372.out.cell (i := 3) rfl, BR_372.out.cell (i := 4) rfl, BR_372.out.cell (i := 5) rfl, BR_372.out.cell (i := 6) rfl, BR_372.out.cell (i := 7) rfl⟩ ?_
  (try simp only [Act.put, List.setIfInBounds_toArray, List.set_cons_zero, List.set_cons_succ])
  refine wpAnyH_take (i := 7) (oi := ⟨_, _, _, _, _, _⟩) (v := .slice Vh is.length uh) rfl (by kernel_rfl) (by kernel_rfl) (by kernel_rfl) (fun _ _ _ h => h) (Or.inl ⟨by kernel_rfl, fun W hS => by (obtain ⟨s0, s1, s2, s3, s4, s5, s6, s7, s8, s9⟩ := hS); go_simp⟩) ⟨BG_371.out.cell (i := 0) rfl, BG_371.out.cell (i := 1) rfl, BR_372.out.cell (i := 0) rfl, BR_372.out.cell (i := 1) rfl, BR_372.out.cell (i := 2) rfl, BR_372.out.cell (i := 3) rfl, BR_372.out.cell (i := 4) rfl, BR_372.out.cell (i := 5) rfl, BR_372.out.cell (i := 6) rfl, BR_372.out.cell (i := 7) rfl⟩ ?_
  (try simp only [Act.put, List.setIfInBounds_toArray, List.set_cons_zero, List.set_cons_succ])
  refine wpAnyH_take (i := 8) (oi := ⟨_, _, _, _, _, _⟩) (v := .slice Ih is.length yh) rfl (by kernel_rfl) (by kernel_rfl) (by kernel_rfl) (fun _ _ _ h => h) (Or.inl ⟨by kernel_rfl, fun W hS => by (obtain ⟨s0, s1, s2, s3, s4, s5, s6, s7, s8, s9⟩ := hS); go_simp⟩) ⟨BG_371.out.cell (i := 0) rfl, BG_371.out.cell (i := 1) rfl, BR_372.out.cell (i := 0) rfl, BR_372.out.cell (i := 1) rfl, BR_372.out.cell (i := 2) rfl, BR_372.out.cell (i := 3) rfl, BR_372.out.cell (i := 4) rfl, BR_372.out.cell (i := 5) rfl, BR_372.out.cell (i := 6) rfl, BR_372.out.cell (i := 7) rfl⟩ ?_
  (try simp only [Act.put, List.setIfInBounds_toArray, List.set_cons_zero, List.set_cons_succ])
  refine wpAnyH_take (i := 9) (oi := ⟨_, _, _, _, _, _⟩) (v := .slice Vh is.length uh) rfl (by kernel_rfl) (by kernel_rfl) (by kernel_rfl) (fun _ _ _ h => h) (Or.inl ⟨by kernel_rfl, fun W hS => by (obtain ⟨s0, s1, s2, s3, s4, s5, s6, s7, s8, s9⟩ := hS); go_simp⟩) ⟨BG_371.out.cell (i := 0) rfl, BG_371.out.cell (i := 1) rfl, BR_372.out.cell (i := 0) rfl, BR_372.out.cell (i := 1) rfl, BR_372.out.cell (i := 2) rfl, BR_372.out.cell (i := 3) rfl, BR_372.out.cell (i := 4) rfl, BR_372.out.cell (i := 5) rfl, BR_372.out.cell (i := 6) rfl, BR_372.out.cell (i := 7) rfl⟩ ?_
  (try simp only [Act.put, List.setIfInBounds_toArray, List.set_cons_zero, List.set_cons_succ])
  refine wpAnyH_take (i := 10) (oi := ⟨_, _, _, _, _, _⟩) (v := .slice Ih is.length yh) rfl (by kernel_rfl) (by kernel_rfl) (by kernel_rfl) (fun _ _ _ h => h) (Or.inl ⟨by kernel_rfl, fun W hS => by (obtain ⟨s0, s1, s2, s3, s4, s5, s6, s7, s8, s9⟩ := hS); go_simp⟩) ⟨BG_371.out.cell (i := 0) rfl, BG_371.out.cell (i := 1) rfl, BR_372.out.cell (i := 0) rfl, BR_372.out.cell (i := 1) rfl, BR_372.out.cell (i := 2) rfl, BR_372.out.cell (i := 3) rfl, BR_372.out.cell (i := 4) rfl, BR_372.out.cell (i := 5) rfl, BR_372.out.cell (i := 6) rfl, BR_372.out.cell (i := 7) rfl⟩ ?_
  (try simp only [Act.put, List.setIfInBounds_toArray, List.set_cons_zero, List.set_cons_succ])
  refine wpAnyH_done (by kernel_rfl) ?_ _
  clear Gt_377
  clear Rt_378
  go_wp2_with fail
  refine (CEV.out _ _ _ _ _ _ _ Vh_381.out Vw_373.out).mono ?_
  rintro e w30 ⟨rfl, hb⟩
  have H_384 := Lib.hid (g_chain H_370.out hb)
  clear H_370
  have BG_385 := Lib.hid (BG_371.out.below hb)
  clear BG_371
  have BR_386 := Lib.hid (BR_372.out.below hb)
  clear BR_372
  have Vw_387 := Lib.hid (own_below Vw_373.out hb)
  clear Vw_373
  have Iw_388 := Lib.hid (own_below Iw_374.out hb)
  clear Iw_374
  have Mv_389 := Lib.hid (own_below Mv_375.out hb)
  clear Mv_375
  have Mi_390 := Lib.hid (own_below Mi_376.out hb)
  clear Mi_376
  have Vh_391 := Lib.hid (own_below Vh_381.out hb)
  clear Vh_381
  have Ih_392 := Lib.hid (own_below Ih_383.out hb)
  clear Ih_383
  have sz_393 := Lib.hid (Below.size hb)
  clear hb
  go_wp2_with fail
  refine (CEI.out _ _ _ _ _ _ _ Ih_392.out Iw_388.out).mono ?_
  rintro e w31 ⟨rfl, hb⟩
  have H_394 := Lib.hid (g_chain H_384.out hb)
  clear H_384
  have BG_395 := Lib.hid (BG_385.out.below hb)
  clear BG_385
  have BR_396 := Lib.hid (BR_386.out.below hb)
  clear BR_386
  have Vw_397 := Lib.hid (own_below Vw_387.out hb)
  clear Vw_387
  have Iw_398 := Lib.hid (own_below Iw_388.out hb)
  clear Iw_388
  have Mv_399 := Lib.hid (own_below Mv_389.out hb)
  clear Mv_389
  have Mi_400 := Lib.hid (own_below Mi_390.out hb)
  clear Mi_390
  have Vh_401 := Lib.hid (own_below Vh_391.out hb)
  clear Vh_391
  have Ih_402 := Lib.hid (own_below Ih_392.out hb)
  clear Ih_392
  have sz_403 := Lib.hid (Below.size hb)
  clear hb
  go_wp2_with fail
  refine (CHV.out _ _ _ _ Mv_399.out).mono ?_
  rintro e w32 ⟨rfl, hb⟩
  have H_404 := Lib.hid (g_chain H_394.out hb)
  clear H_394
  have BG_405 := Lib.hid (BG_395.out.below hb)
  clear BG_395
  have BR_406 := Lib.hid (BR_396.out.below hb)
  clear BR_396
  have Vw_407 := Lib.hid (own_below Vw_397.out hb)
  clear Vw_397
  have Iw_408 := Lib.hid (own_below Iw_398.out hb)
  clear Iw_398
  have Mv_409 := Lib.hid (own_below Mv_399.out hb)
  clear Mv_399
  have Mi_410 := Lib.hid (own_below Mi_400.out hb)
  clear Mi_400
  have Vh_411 := Lib.hid (own_below Vh_401.out hb)
  clear Vh_401
  have Ih_412 := Lib.hid (own_below Ih_402.out hb)
  clear Ih_402
  have sz_413 := Lib.hid (Below.size hb)
  clear hb
  go_wp2_with fail
  refine (CHI.out _ _ _ _ Mi_410.out).mono ?_
  rintro e w33 ⟨rfl, hb⟩
  have H_414 := Lib.hid (g_chain H_404.out hb)
  clear H_404
  have BG_415 := Lib.hid (BG_405.out.below hb)
  clear BG_405
  have BR_416 := Lib.hid (BR_406.out.below hb)
  clear BR_406
  have Vw_417 := Lib.hid (own_below Vw_407.out hb)
  clear Vw_407
  have Iw_418 := Lib.hid (own_below Iw_408.out hb)
  clear Iw_408
  have Mv_419 := Lib.hid (own_below Mv_409.out hb)
  clear Mv_409
  have Mi_420 := Lib.hid (own_below Mi_410.out hb)
  clear Mi_410
  have Vh_421 := Lib.hid (own_below Vh_411.out hb)
  clear Vh_411
  have Ih_422 := Lib.hid (own_below Ih_412.out hb)
  clear Ih_412
  have sz_423 := Lib.hid (Below.size hb)
  clear hb
  go_wp2
  go_ret
  exact ⟨rfl, H_414.out⟩
end Go.Proofs.YtlhcobkncceodaaGreatDoor
