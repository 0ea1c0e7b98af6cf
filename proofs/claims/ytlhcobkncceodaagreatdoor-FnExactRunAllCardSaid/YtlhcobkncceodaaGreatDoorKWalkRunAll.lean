/- The walk of the law FnExactRunAll: it returns true and writes nothing that was there. -/
import Derived.Test.YtlhcobkncceodaaGreatDoorCGE
import Derived.Test.YtlhcobkncceodaaGreatDoorCGD
import Derived.Test.YtlhcobkncceodaaGreatDoorCGF
import Derived.Test.YtlhcobkncceodaaGreatDoorKRunAllI
import Derived.Test.YtlhcobkncceodaaGreatDoorKRunAllS
import Derived.Deep.Cut
import Derived.Deep.RegionHeld3
import Derived.Deep.RegionWith
namespace Go.Proofs.YtlhcobkncceodaaGreatDoor
open Go.RowKit
set_option linter.unusedVariables false

theorem held_nameL {P : Program} {md : Region.Mode} {ops : Array Oper} {Q : Exit → Act → World → Prop} {S : World → Prop} {fuel : Nat} {listed : Array Bool} {a : Act} {w : World} (hS : S w) (h : S w → wpAnyH P md ops Q S fuel listed a w) : wpAnyH P md ops Q S fuel listed a w := h hS
set_option maxRecDepth 20000 in
set_option maxHeartbeats 16000000 in
theorem walkRunAll (N : Int) (AG : Option Addr) (l cG : Nat) (G : List GE) (p s it : Int) (dn : Bool) (A : Option Addr) (n c : Nat) (B : Option Addr) (m d : Nat) (nn : Int) (C : Option Addr) (j k : Nat) (vs ev : List Int) (nx : List Nat) (most : Int) (w : World) (hig : GrIn w N AG l G) (hir : RunIn w p s it dn A n c B m d nn C j k vs ev nx) (_hv : (Lit.int .i64 most).wf = true) (hw : Wts w) :
    Calls Tryz.prog 8 #[.agg #[.int .i64 N, .slice AG l cG], .agg #[.int .i64 p, .int .i64 s, .int .i64 it, .bool dn, .slice A n c, .slice B m d, .int .i64 nn, .slice C j k], .int .i64 most] w fun e w' => e = .returned (.bool true) ∧ Below w.heap.size w w' := by
  have HLG := Lib.hid hig.g.len
  have HLV := Lib.hid hir.v.g.len
  have HLE := Lib.hid hir.e.g.len
  have HLX := Lib.hid hir.x.g.len
  have hjk : j ≤ k := by have h1 := hir.x.cap; have h2 := hir.j; omega
  have hjj := hir.j
  subst hjj
  have CZ1 := Lib.hid (fun W => szGraph_any N AG l cG 1048576 W hig.l (by omega) (by omega))
  have B0G := Lib.hid ((Blk.new w #[.int .i64 N, .slice AG l cG] 46).alloc (.cells #[.int .i64 p, .int .i64 s, .int .i64 it, .bool dn, .slice A n c, .slice B m d, .int .i64 nn, .slice C nx.length k] 50))
  have B0R : Hid (Blk ((w.alloc (.cells #[.int .i64 N, .slice AG l cG] 46)).alloc (.cells #[.int .i64 p, .int .i64 s, .int .i64 it, .bool dn, .slice A n c, .slice B m d, .int .i64 nn, .slice C nx.length k] 50)) (w.heap.size + 1) #[.int .i64 p, .int .i64 s, .int .i64 it, .bool dn, .slice A n c, .slice B m d, .int .i64 nn, .slice C nx.length k] 50) := Lib.hid (by have h := Blk.new (w.alloc (.cells #[.int .i64 N, .slice AG l cG] 46)) #[.int .i64 p, .int .i64 s, .int .i64 it, .bool dn, .slice A n c, .slice B m d, .int .i64 nn, .slice C nx.length k] 50; simpa using h)
  have B0H := Lib.hid (below_a2 w (.cells #[.int .i64 N, .slice AG l cG] 46) (.cells #[.int .i64 p, .int .i64 s, .int .i64 it, .bool dn, .slice A n c, .slice B m d, .int .i64 nn, .slice C nx.length k] 50))
  by_cases hb1 : (l : Int) ≤ 1048576
  rotate_left
  · rw [leftG_neg (by omega)] at CZ1
    clear hig hir hw
    go_enter Tryz.func8, Tryz.ntmps8
    go_wp2_with fail
    refine (CZ1.out _).mono ?_
    rintro e wa ⟨rfl, hba⟩
    go_wp2
    go_ret
    exact ⟨rfl, g_chain B0H.out hba⟩
  rw [leftG_pos hb1] at CZ1
  have hp0 : (0 : Int) ≤ 1048576 - (l : Int) := by omega
  have hp1 : (1048576 : Int) - (l : Int) ≤ 1048576 := by omega
  have CZ2 := Lib.hid (fun W => szRun_is p s it dn A n c B m d nn C nx.length k vs ev nx W HLV.out HLE.out rfl (1048576 - (l : Int)) hir.v.l hir.e.l hir.x.l hp0 hp1)
  by_cases hb2 : ((n + m + nx.length : Nat) : Int) ≤ 1048576 - (l : Int)
  rotate_left
  · rw [leftG_neg (by omega)] at CZ2
    generalize (1048576 : Int) - (l : Int) = q0 at CZ1 CZ2 hp0
    clear hig hir hw hb1 hb2 hp1
    go_enter Tryz.func8, Tryz.ntmps8
    go_wp2_with fail
    refine (CZ1.out _).mono ?_
    rintro e wa ⟨rfl, hba⟩
    have HA := Lib.hid (g_chain B0H.out hba)
    have BA := Lib.hid (B0R.out.below hba)
    clear hba
    have y0 := BA.out.cell (i := 0) rfl
    have y1 := BA.out.cell (i := 1) rfl
    have y2 := BA.out.cell (i := 2) rfl
    have y3 := BA.out.cell (i := 3) rfl
    have y4 := BA.out.cell (i := 4) rfl
    have y5 := BA.out.cell (i := 5) rfl
    have y6 := BA.out.cell (i := 6) rfl
    have y7 := BA.out.cell (i := 7) rfl
    go_wp2_with fail
    refine (CZ2.out _).mono ?_
    rintro e wb ⟨rfl, hbb⟩
    go_wp2
    go_ret
    exact ⟨rfl, g_chain HA.out hbb⟩
  rw [leftG_pos hb2] at CZ2
  have hp2 : (0 : Int) ≤ 1048576 - (l : Int) - ((n + m + nx.length : Nat) : Int) := by omega
  have hl : l ≤ 1048576 := by omega
  have hn : n ≤ 1048576 := by omega
  have hm : m ≤ 1048576 := by omega
  have hj : nx.length ≤ 1048576 := by omega
  generalize (1048576 : Int) - (l : Int) - ((n + m + nx.length : Nat) : Int) = q1 at CZ2 hp2
  generalize (1048576 : Int) - (l : Int) = q0 at CZ1 CZ2 hp0
  have HS := Lib.hid hir.x.g.small
  have CTG := Lib.hid (fun W (h : Below w.heap.size w W) => toGraph_any N AG l cG G W (hig.g.below h) (by omega))
  have CTR := Lib.hid (fun W (h : Below w.heap.size w W) => toRun_is p s it dn A n c B m d nn C nx.length k vs ev nx W (hir.v.g.below h) (hir.e.g.below h) (hir.x.g.below h) hjk (by omega) (by omega) (by omega))
  have CER := Lib.hid (fun W lo A c B d C k lo' A' c' B' d' C' k' (h1 : Rows3 W lo A n c B m d C nx.length k vs ev nx) (h2 : Rows3 W lo' A' n c' B' m d' C' nx.length k' vs ev nx) => eqRun_is p s it dn A n c B m d nn C nx.length k vs ev nx W A' c' B' d' C' k' (SlI.of_own h1.v) (SlI.of_own h1.e) (Rd.of_own h1.x HS.out) (SlI.of_own h2.v) (SlI.of_own h2.e) (Rd.of_own h2.x HS.out) h1.cap h2.cap (by omega) (by omega) (by omega))
  unfold MadeGr at CTG
  rw [HLG.out] at CTG
  have CEG := Lib.hid (fun W A A' c c' (h1 : SlG W A l G) (h2 : SlG W A' l G) => eqGraph_any N A A' l c c' G W h1 h2 (by omega))
  have CMG := Lib.hid (fun W lo A c (h : W.ownsRow lo 113 3 (.slice A l c) l (G.flatMap GE.cells)) => markGraph_any N A l c lo 1 G W h HLG.out (by omega) (by omega))
  have CMR := Lib.hid (fun W lo A c B d C k (h : Rows3 W lo A n c B m d C nx.length k vs ev nx) => markRun_any p s it dn nn A n c B m d C nx.length k lo (1 + 3 * l) vs ev nx W h.v h.e h.x h.ap (by omega) (by omega) (by omega) (by omega))
  unfold MarkedRun at CMR
  have CS := Lib.hid (fun W lo AG1 cG1 lo2 A1 c1 B1 d1 C1 k1 (hg : W.ownsRow lo 113 3 (.slice AG1 l cG1) l (G.flatMap GE.cells)) (hr : Rows3 W lo2 A1 n c1 B1 m d1 C1 nx.length k1 vs ev nx) => specRunAll N AG1 l cG1 G p s it dn A1 n c1 B1 m d1 nn C1 nx.length k1 vs ev nx most W (SlG.of_own hg HLG.out) (SlI.of_own hr.v) (SlI.of_own hr.e) (Rd.of_own hr.x HS.out) (by omega) (by omega) (by omega) (by omega))
  have CI := Lib.hid (fun W (h0 : Below w.heap.size w W) lo AG1 cG1 lo2 A1 c1 B1 d1 C1 k1 (hg : W.ownsRow lo 113 3 (.slice AG1 l cG1) l (G.flatMap GE.cells)) (hr : Rows3 W lo2 A1 n c1 B1 m d1 C1 nx.length k1 vs ev nx) => implRunAll N AG1 l cG1 G p s it dn A1 n c1 B1 m d1 nn C1 nx.length k1 vs ev nx most W (hw.below h0) (SlG.of_own hg HLG.out) (SlI.of_own hr.v) (SlI.of_own hr.e) (Rd.of_own hr.x HS.out) (by omega) (by omega) (by omega) (by omega))
  have HLM := Lib.hid (lim_all N G ⟨p, s, it, dn, vs, ev, nn, nx⟩ most.toNat HS.out)
  unfold MadeRO at CS CI
  generalize allO N G ⟨p, s, it, dn, vs, ev, nn, nx⟩ most.toNat = rr at CS CI HLM
  obtain ⟨rp, rs, ri, rd, rv, re, rn, rx⟩ := rr
  obtain ⟨hls, hlv, hle, hlx⟩ := HLM.out
  have HSR := Lib.hid hls
  clear hls
  simp only at CS CI hlv hle hlx
  have CEA := Lib.hid (fun W lo A c B d C k lo' A' c' B' d' C' k' (h1 : Rows3 W lo A rv.length c B re.length d C rx.length k rv re rx) (h2 : Rows3 W lo' A' rv.length c' B' re.length d' C' rx.length k' rv re rx) => eqRun_is rp rs ri rd A rv.length c B re.length d rn C rx.length k rv re rx W A' c' B' d' C' k' (SlI.of_own h1.v) (SlI.of_own h1.e) (Rd.of_own h1.x HSR.out) (SlI.of_own h2.v) (SlI.of_own h2.e) (Rd.of_own h2.x HSR.out) h1.cap h2.cap (by omega) (by omega) (by omega))
  have CMA := Lib.hid (fun W lo A c B d C k (h : Rows3 W lo A rv.length c B re.length d C rx.length k rv re rx) => markRun_any rp rs ri rd rn A rv.length c B re.length d C rx.length k lo 1 rv re rx W h.v h.e h.x h.ap (by omega) (by omega) (by omega) (by omega))
  unfold MarkedRun at CMA
  have CHA := Lib.hid (fun W lo A c B d C k (h1 : W.ownsRow lo 3 1 (.slice A rv.length c) rv.length (vi (ints 1 rv.length))) (h2 : W.ownsRow lo 3 1 (.slice B re.length d) re.length (vi (ints (1 + rv.length) re.length))) (h3 : W.ownsRow lo 5 1 (.slice C rx.length k) rx.length (vb (marksK (1 + rv.length + re.length) rx.length))) => heldRun_any rp rs ri rd rn A rv.length c B re.length d C rx.length k W (SlI.of_own h1) (SlI.of_own h2) (Rd.of_own h3 (marksK_small _ _)) (by omega) (by omega) (by omega))
  have hk1 : (0 : Int) ≤ ((1 + 3 * l : Nat) : Int) := by omega
  have hk2 : (0 : Int) ≤ ((1 + 3 * l + n + m + nx.length : Nat) : Int) := by omega
  have hk3 : (0 : Int) ≤ ((1 + rv.length + re.length + rx.length : Nat) : Int) := by omega
  clear hig hir hb1 hb2 hw
  have H_1 := Lib.hid (B0H.out)
  have BG_2 := Lib.hid (B0G.out)
  have BR_3 := Lib.hid (B0R.out)
  clear B0H B0G B0R
  have sz_4 : Hid (w.heap.size + 2 ≤ ((w.alloc (.cells #[.int .i64 N, .slice AG l cG] 46)).alloc (.cells #[.int .i64 p, .int .i64 s, .int .i64 it, .bool dn, .slice A n c, .slice B m d, .int .i64 nn, .slice C nx.length k] 50)).heap.size) := Lib.hid (by simp)
  go_enter Tryz.func8, Tryz.ntmps8
  have x_5 := BG_2.out.cell (i := 0) rfl
  have x_6 := BG_2.out.cell (i := 1) rfl
  have lt_7 := BG_2.out.lt
  have x_8 := BR_3.out.cell (i := 0) rfl
  have x_9 := BR_3.out.cell (i := 1) rfl
  have x_10 := BR_3.out.cell (i := 2) rfl
  have x_11 := BR_3.out.cell (i := 3) rfl
  have x_12 := BR_3.out.cell (i := 4) rfl
  have x_13 := BR_3.out.cell (i := 5) rfl
  have x_14 := BR_3.out.cell (i := 6) rfl
  have x_15 := BR_3.out.cell (i := 7) rfl
  have lt_16 := BR_3.out.lt
  go_wp2_with fail
  refine (CZ1.out _).mono ?_
  rintro e w1 ⟨rfl, hb⟩
  clear x_5 x_6 lt_7 x_8 x_9 x_10 x_11 x_12 x_13 x_14 x_15 lt_16
  have H_17 := Lib.hid (g_chain H_1.out hb)
  clear H_1
  have BG_18 := Lib.hid (BG_2.out.below hb)
  clear BG_2
  have BR_19 := Lib.hid (BR_3.out.below hb)
  clear BR_3
  have sz_20 := Lib.hid (Below.size hb)
  clear hb
  have x_21 := BG_18.out.cell (i := 0) rfl
  have x_22 := BG_18.out.cell (i := 1) rfl
  have lt_23 := BG_18.out.lt
  have x_24 := BR_19.out.cell (i := 0) rfl
  have x_25 := BR_19.out.cell (i := 1) rfl
  have x_26 := BR_19.out.cell (i := 2) rfl
  have x_27 := BR_19.out.cell (i := 3) rfl
  have x_28 := BR_19.out.cell (i := 4) rfl
  have x_29 := BR_19.out.cell (i := 5) rfl
  have x_30 := BR_19.out.cell (i := 6) rfl
  have x_31 := BR_19.out.cell (i := 7) rfl
  have lt_32 := BR_19.out.lt
  go_wp2_with fail
  refine (CZ2.out _).mono ?_
  rintro e w2 ⟨rfl, hb⟩
  clear x_21 x_22 lt_23 x_24 x_25 x_26 x_27 x_28 x_29 x_30 x_31 lt_32
  have H_33 := Lib.hid (g_chain H_17.out hb)
  clear H_17
  have BG_34 := Lib.hid (BG_18.out.below hb)
  clear BG_18
  have BR_35 := Lib.hid (BR_19.out.below hb)
  clear BR_19
  have sz_36 := Lib.hid (Below.size hb)
  clear hb
  go_upto_region 8 with fail
  go_cut [8] (fun (sa : Value) (wx : World) => ∃ (q : Nat) (Aw : Option Addr) (cw : Nat) (Bw : Option Addr) (dw : Nat) (Cw : Option Addr) (kw : Nat), sa = .pointer (some ⟨q, 0, none⟩) ∧ Hid (Below w2.heap.size w2 wx) ∧ Hid (Blk wx q #[.int .i64 rp, .int .i64 rs, .int .i64 ri, .bool rd, .slice Aw rv.length cw, .slice Bw re.length dw, .int .i64 rn, .slice Cw rx.length kw] 32) ∧ Hid (Rows3 wx w2.heap.size Aw rv.length cw Bw re.length dw Cw rx.length kw rv re rx) ∧ Hid (w2.heap.size ≤ q ∧ q < wx.heap.size))
  case first =>
    have HSF : ∀ W, Hid (Below w2.heap.size w2 W) → (W.cell? ⟨w.heap.size, 0, none⟩ = some (.int .i64 N) ∧ W.cell? ⟨w.heap.size, 1, none⟩ = some (.slice AG l cG) ∧ W.cell? ⟨w.heap.size + 1, 0, none⟩ = some (.int .i64 p) ∧ W.cell? ⟨w.heap.size + 1, 1, none⟩ = some (.int .i64 s) ∧ W.cell? ⟨w.heap.size + 1, 2, none⟩ = some (.int .i64 it) ∧ W.cell? ⟨w.heap.size + 1, 3, none⟩ = some (.bool dn) ∧ W.cell? ⟨w.heap.size + 1, 4, none⟩ = some (.slice A n c) ∧ W.cell? ⟨w.heap.size + 1, 5, none⟩ = some (.slice B m d) ∧ W.cell? ⟨w.heap.size + 1, 6, none⟩ = some (.int .i64 nn) ∧ W.cell? ⟨w.heap.size + 1, 7, none⟩ = some (.slice C nx.length k)) := fun W HR => ⟨(BG_34.out.below HR.out).cell (i := 0) rfl, (BG_34.out.below HR.out).cell (i := 1) rfl, (BR_35.out.below HR.out).cell (i := 0) rfl, (BR_35.out.below HR.out).cell (i := 1) rfl, (BR_35.out.below HR.out).cell (i := 2) rfl, (BR_35.out.below HR.out).cell (i := 3) rfl, (BR_35.out.below HR.out).cell (i := 4) rfl, (BR_35.out.below HR.out).cell (i := 5) rfl, (BR_35.out.below HR.out).cell (i := 6) rfl, (BR_35.out.below HR.out).cell (i := 7) rfl⟩
    have HR : Hid (Below w2.heap.size w2 w2.drew) := Lib.hid (Below.refl _ _).drew
    refine wp_region_any (by kernel_rfl) ?_
    change wpAny _ _ _ _ _ _ _ (World.drew _)
    refine wpAny_of_held (S := fun W => W.cell? ⟨w.heap.size, 0, none⟩ = some (.int .i64 N) ∧ W.cell? ⟨w.heap.size, 1, none⟩ = some (.slice AG l cG) ∧ W.cell? ⟨w.heap.size + 1, 0, none⟩ = some (.int .i64 p) ∧ W.cell? ⟨w.heap.size + 1, 1, none⟩ = some (.int .i64 s) ∧ W.cell? ⟨w.heap.size + 1, 2, none⟩ = some (.int .i64 it) ∧ W.cell? ⟨w.heap.size + 1, 3, none⟩ = some (.bool dn) ∧ W.cell? ⟨w.heap.size + 1, 4, none⟩ = some (.slice A n c) ∧ W.cell? ⟨w.heap.size + 1, 5, none⟩ = some (.slice B m d) ∧ W.cell? ⟨w.heap.size + 1, 6, none⟩ = some (.int .i64 nn) ∧ W.cell? ⟨w.heap.size + 1, 7, none⟩ = some (.slice C nx.length k)) _ _ _ _ ?_
    generalize hDD : World.drew w2 = W at HR ⊢
    clear hDD
    refine wpAnyH_take (i := 0) (oi := ⟨_, _, _, _, _, _⟩) (v := .agg #[.int .i64 N, .slice AG l cG]) rfl (by kernel_rfl) (by kernel_rfl) (by kernel_rfl) (fun _ _ _ h => h) (Or.inl ⟨by kernel_rfl, fun W hS => by (obtain ⟨s0, s1, s2, s3, s4, s5, s6, s7, s8, s9⟩ := hS); go_simp⟩) (HSF _ HR) ?_
    (try simp only [Act.put, List.setIfInBounds_toArray, List.set_cons_zero, List.set_cons_succ])
    refine wpAnyH_take (i := 2) (oi := ⟨_, _, _, _, _, _⟩) (v := .agg #[.int .i64 p, .int .i64 s, .int .i64 it, .bool dn, .slice A n c, .slice B m d, .int .i64 nn, .slice C nx.length k]) rfl (by kernel_rfl) (by kernel_rfl) (by kernel_rfl) (fun _ _ _ h => h) (Or.inl ⟨by kernel_rfl, fun W hS => by (obtain ⟨s0, s1, s2, s3, s4, s5, s6, s7, s8, s9⟩ := hS); go_simp⟩) (HSF _ HR) ?_
    (try simp only [Act.put, List.setIfInBounds_toArray, List.set_cons_zero, List.set_cons_succ])
    refine wpAnyH_take (i := 4) (oi := ⟨_, _, _, _, _, _⟩) (v := .int .i64 most) rfl (by kernel_rfl) (by kernel_rfl) (by kernel_rfl) (fun _ _ _ h => h) (Or.inl ⟨by kernel_rfl, fun W hS => by (obtain ⟨s0, s1, s2, s3, s4, s5, s6, s7, s8, s9⟩ := hS); go_simp⟩) (HSF _ HR) ?_
    (try simp only [Act.put, List.setIfInBounds_toArray, List.set_cons_zero, List.set_cons_succ])
    refine (fun (Gr8_3_1 : ∀ (W : World) (Ad : Option Addr) (cd : Nat) (A9 : Option Addr) (c9 : Nat) (B9 : Option Addr) (d9 : Nat) (C9 : Option Addr) (k9 : Nat) (Aw : Option Addr) (cw : Nat) (Bw : Option Addr) (dw : Nat) (Cw : Option Addr) (kw : Nat) (q : Nat), Hid (Below w2.heap.size w2 W) → Hid (Rows3 W w2.heap.size Aw rv.length cw Bw re.length dw Cw rx.length kw rv re rx) → Hid (Blk W q #[.int .i64 0, .int .i64 0, .int .i64 0, .bool false, .slice none 0 0, .slice none 0 0, .int .i64 0, .slice none 0 0] 32) → Hid (w2.heap.size ≤ q) → (?Xr8_3_1 : World → (Option Addr) → Nat → (Option Addr) → Nat → (Option Addr) → Nat → (Option Addr) → Nat → (Option Addr) → Nat → (Option Addr) → Nat → (Option Addr) → Nat → Nat → Prop) W Ad cd A9 c9 B9 d9 C9 k9 Aw cw Bw dw Cw kw q) => ?_) ?_
    rotate_left
    refine (fun (Gr8_3_0 : ∀ (W : World) (Ad : Option Addr) (cd : Nat) (A9 : Option Addr) (c9 : Nat) (B9 : Option Addr) (d9 : Nat) (C9 : Option Addr) (k9 : Nat) (Aw : Option Addr) (cw : Nat) (Bw : Option Addr) (dw : Nat) (Cw : Option Addr) (kw : Nat), Hid (Below w2.heap.size w2 W) → Hid (Rows3 W w2.heap.size Aw rv.length cw Bw re.length dw Cw rx.length kw rv re rx) → (?Xr8_3_0 : World → (Option Addr) → Nat → (Option Addr) → Nat → (Option Addr) → Nat → (Option Addr) → Nat → (Option Addr) → Nat → (Option Addr) → Nat → (Option Addr) → Nat → Prop) W Ad cd A9 c9 B9 d9 C9 k9 Aw cw Bw dw Cw kw) => ?_) ?_
    rotate_left
    refine (fun (Gr8_2_1 : ∀ (W : World) (Ad : Option Addr) (cd : Nat) (A9 : Option Addr) (c9 : Nat) (B9 : Option Addr) (d9 : Nat) (C9 : Option Addr) (k9 : Nat) (q : Nat), Hid (Below w2.heap.size w2 W) → Hid (W.ownsRow w2.heap.size 113 3 (.slice Ad l cd) l (G.flatMap GE.cells)) → Hid (Rows3 W w2.heap.size A9 n c9 B9 m d9 C9 nx.length k9 vs ev nx) → Hid (Blk W q #[.int .i64 0, .int .i64 0, .int .i64 0, .bool false, .slice none 0 0, .slice none 0 0, .int .i64 0, .slice none 0 0] 32) → Hid (w2.heap.size ≤ q) → (?Xr8_2_1 : World → (Option Addr) → Nat → (Option Addr) → Nat → (Option Addr) → Nat → (Option Addr) → Nat → Nat → Prop) W Ad cd A9 c9 B9 d9 C9 k9 q) => ?_) ?_
    rotate_left
    refine (fun (Gr8_2_0 : ∀ (W : World) (Ad : Option Addr) (cd : Nat) (A9 : Option Addr) (c9 : Nat) (B9 : Option Addr) (d9 : Nat) (C9 : Option Addr) (k9 : Nat), Hid (Below w2.heap.size w2 W) → Hid (W.ownsRow w2.heap.size 113 3 (.slice Ad l cd) l (G.flatMap GE.cells)) → Hid (Rows3 W w2.heap.size A9 n c9 B9 m d9 C9 nx.length k9 vs ev nx) → (?Xr8_2_0 : World → (Option Addr) → Nat → (Option Addr) → Nat → (Option Addr) → Nat → (Option Addr) → Nat → Prop) W Ad cd A9 c9 B9 d9 C9 k9) => ?_) ?_
    rotate_left
    refine (fun (Gr8_1_1 : ∀ (W : World) (Ad : Option Addr) (cd : Nat) (q : Nat), Hid (Below w2.heap.size w2 W) → Hid (W.ownsRow w2.heap.size 113 3 (.slice Ad l cd) l (G.flatMap GE.cells)) → Hid (Blk W q #[.int .i64 0, .int .i64 0, .int .i64 0, .bool false, .slice none 0 0, .slice none 0 0, .int .i64 0, .slice none 0 0] 32) → Hid (w2.heap.size ≤ q) → (?Xr8_1_1 : World → (Option Addr) → Nat → Nat → Prop) W Ad cd q) => ?_) ?_
    rotate_left
    refine (fun (Gr8_1_0 : ∀ (W : World) (Ad : Option Addr) (cd : Nat), Hid (Below w2.heap.size w2 W) → Hid (W.ownsRow w2.heap.size 113 3 (.slice Ad l cd) l (G.flatMap GE.cells)) → (?Xr8_1_0 : World → (Option Addr) → Nat → Prop) W Ad cd) => ?_) ?_
    rotate_left
    refine (fun (Gr8_0_1 : ∀ (W : World) (q : Nat), Hid (Below w2.heap.size w2 W) → Hid (Blk W q #[.int .i64 0, .int .i64 0, .int .i64 0, .bool false, .slice none 0 0, .slice none 0 0, .int .i64 0, .slice none 0 0] 32) → Hid (w2.heap.size ≤ q) → (?Xr8_0_1 : World → Nat → Prop) W q) => ?_) ?_
    rotate_left
    change wpAnyH _ _ _ _ _ _ #[true, false, true, false, true, false, false, false] _ _
    refine wpAnyH_ready (rs := [1, 6]) (by kernel_rfl) (by simp) (AllReadyH.cons rfl (fun K hK => ?_) (AllReadyH.cons rfl (fun K hK => ?_) AllReadyH.nil))
    · skip
      go_simp
      go_at_call 20
      refine (CTG.out W (g_chain H_33.out HR.out)).mono ?_
      rintro e W2 ⟨Ad, cd, rfl, ho, hb⟩
      have DG : Hid (W2.ownsRow w2.heap.size 113 3 (.slice Ad l cd) l (G.flatMap GE.cells)) := Lib.hid (own_monoG ho (Below.size HR.out))
      have HR := Lib.hid (g_chain HR.out hb)
      clear hb
      dsimp only
      refine hK.out _ _ (HSF _ HR) (fun _ => ?_)
      clear hK K
      (try simp only [List.setIfInBounds_toArray, List.set_cons_zero, List.set_cons_succ])
      change wpAnyH _ _ _ _ _ _ #[true, true, true, false, true, false, false, false] _ _
      exact Gr8_1_0 W2 Ad cd HR DG
    · skip
      go_simp
      have hb := below_a1 W (.cells #[.int .i64 0, .int .i64 0, .int .i64 0, .bool false, .slice none 0 0, .slice none 0 0, .int .i64 0, .slice none 0 0] 32)
      have Zq : Hid (Blk (W.alloc (.cells #[.int .i64 0, .int .i64 0, .int .i64 0, .bool false, .slice none 0 0, .slice none 0 0, .int .i64 0, .slice none 0 0] 32)) W.heap.size #[.int .i64 0, .int .i64 0, .int .i64 0, .bool false, .slice none 0 0, .slice none 0 0, .int .i64 0, .slice none 0 0] 32) := Lib.hid (Blk.new W #[.int .i64 0, .int .i64 0, .int .i64 0, .bool false, .slice none 0 0, .slice none 0 0, .int .i64 0, .slice none 0 0] 32)
      have HQq : Hid (w2.heap.size ≤ W.heap.size) := Lib.hid (Below.size HR.out)
      have HR := Lib.hid (g_chain HR.out hb)
      clear hb
      refine hK.out _ _ (HSF _ HR) (fun _ => ?_)
      clear hK K
      (try simp only [List.setIfInBounds_toArray, List.set_cons_zero, List.set_cons_succ])
      generalize hZ : W.alloc (.cells #[.int .i64 0, .int .i64 0, .int .i64 0, .bool false, .slice none 0 0, .slice none 0 0, .int .i64 0, .slice none 0 0] 32) = W2 at Zq HR ⊢
      clear hZ
      generalize hZ : W.heap.size = q at Zq HQq ⊢
      clear hZ
      change wpAnyH _ _ _ _ _ _ #[true, false, true, false, true, false, true, false] _ _
      exact Gr8_0_1 W2 q HR Zq HQq
    · intro W q HR Zq HQq
      change wpAnyH _ _ _ _ _ _ #[true, false, true, false, true, false, true, false] _ _
      refine wpAnyH_ready (rs := [1]) (by kernel_rfl) (by simp) (AllReadyH.cons rfl (fun K hK => ?_) AllReadyH.nil)
      · skip
        go_simp
        go_at_call 20
        refine (CTG.out W (g_chain H_33.out HR.out)).mono ?_
        rintro e W2 ⟨Ad, cd, rfl, ho, hb⟩
        have Zq : Hid (Blk W2 q #[.int .i64 0, .int .i64 0, .int .i64 0, .bool false, .slice none 0 0, .slice none 0 0, .int .i64 0, .slice none 0 0] 32) := Lib.hid (Zq.out.below hb)
        have HQq : Hid (w2.heap.size ≤ q) := Lib.hid (HQq.out)
        have DG : Hid (W2.ownsRow w2.heap.size 113 3 (.slice Ad l cd) l (G.flatMap GE.cells)) := Lib.hid (own_monoG ho (Below.size HR.out))
        have HR := Lib.hid (g_chain HR.out hb)
        clear hb
        dsimp only
        refine hK.out _ _ (HSF _ HR) (fun _ => ?_)
        clear hK K
        (try simp only [List.setIfInBounds_toArray, List.set_cons_zero, List.set_cons_succ])
        change wpAnyH _ _ _ _ _ _ #[true, true, true, false, true, false, true, false] _ _
        exact Gr8_1_1 W2 Ad cd q HR DG Zq HQq
    · intro W Ad cd HR DG
      change wpAnyH _ _ _ _ _ _ #[true, true, true, false, true, false, false, false] _ _
      refine wpAnyH_ready (rs := [3, 6]) (by kernel_rfl) (by simp) (AllReadyH.cons rfl (fun K hK => ?_) (AllReadyH.cons rfl (fun K hK => ?_) AllReadyH.nil))
      · skip
        go_simp
        go_at_call 21
        refine (CTR.out W (g_chain H_33.out HR.out)).mono ?_
        rintro e W2 ⟨A9, c9, B9, d9, C9, k9, rfl, ho, hb⟩
        have DG : Hid (W2.ownsRow w2.heap.size 113 3 (.slice Ad l cd) l (G.flatMap GE.cells)) := Lib.hid (own_below DG.out hb)
        have DR : Hid (Rows3 W2 w2.heap.size A9 n c9 B9 m d9 C9 nx.length k9 vs ev nx) := Lib.hid (Rows3.mono ho (Below.size HR.out))
        have HR := Lib.hid (g_chain HR.out hb)
        clear hb
        dsimp only
        refine hK.out _ _ (HSF _ HR) (fun _ => ?_)
        clear hK K
        (try simp only [List.setIfInBounds_toArray, List.set_cons_zero, List.set_cons_succ])
        change wpAnyH _ _ _ _ _ _ #[true, true, true, true, true, false, false, false] _ _
        exact Gr8_2_0 W2 Ad cd A9 c9 B9 d9 C9 k9 HR DG DR
      · skip
        go_simp
        have hb := below_a1 W (.cells #[.int .i64 0, .int .i64 0, .int .i64 0, .bool false, .slice none 0 0, .slice none 0 0, .int .i64 0, .slice none 0 0] 32)
        have DG : Hid ((W.alloc (.cells #[.int .i64 0, .int .i64 0, .int .i64 0, .bool false, .slice none 0 0, .slice none 0 0, .int .i64 0, .slice none 0 0] 32)).ownsRow w2.heap.size 113 3 (.slice Ad l cd) l (G.flatMap GE.cells)) := Lib.hid (own_below DG.out hb)
        have Zq : Hid (Blk (W.alloc (.cells #[.int .i64 0, .int .i64 0, .int .i64 0, .bool false, .slice none 0 0, .slice none 0 0, .int .i64 0, .slice none 0 0] 32)) W.heap.size #[.int .i64 0, .int .i64 0, .int .i64 0, .bool false, .slice none 0 0, .slice none 0 0, .int .i64 0, .slice none 0 0] 32) := Lib.hid (Blk.new W #[.int .i64 0, .int .i64 0, .int .i64 0, .bool false, .slice none 0 0, .slice none 0 0, .int .i64 0, .slice none 0 0] 32)
        have HQq : Hid (w2.heap.size ≤ W.heap.size) := Lib.hid (Below.size HR.out)
        have HR := Lib.hid (g_chain HR.out hb)
        clear hb
        refine hK.out _ _ (HSF _ HR) (fun _ => ?_)
        clear hK K
        (try simp only [List.setIfInBounds_toArray, List.set_cons_zero, List.set_cons_succ])
        generalize hZ : W.alloc (.cells #[.int .i64 0, .int .i64 0, .int .i64 0, .bool false, .slice none 0 0, .slice none 0 0, .int .i64 0, .slice none 0 0] 32) = W2 at DG Zq HR ⊢
        clear hZ
        generalize hZ : W.heap.size = q at Zq HQq ⊢
        clear hZ
        change wpAnyH _ _ _ _ _ _ #[true, true, true, false, true, false, true, false] _ _
        exact Gr8_1_1 W2 Ad cd q HR DG Zq HQq
    · intro W Ad cd q HR DG Zq HQq
      change wpAnyH _ _ _ _ _ _ #[true, true, true, false, true, false, true, false] _ _
      refine wpAnyH_ready (rs := [3]) (by kernel_rfl) (by simp) (AllReadyH.cons rfl (fun K hK => ?_) AllReadyH.nil)
      · skip
        go_simp
        go_at_call 21
        refine (CTR.out W (g_chain H_33.out HR.out)).mono ?_
        rintro e W2 ⟨A9, c9, B9, d9, C9, k9, rfl, ho, hb⟩
        have DG : Hid (W2.ownsRow w2.heap.size 113 3 (.slice Ad l cd) l (G.flatMap GE.cells)) := Lib.hid (own_below DG.out hb)
        have Zq : Hid (Blk W2 q #[.int .i64 0, .int .i64 0, .int .i64 0, .bool false, .slice none 0 0, .slice none 0 0, .int .i64 0, .slice none 0 0] 32) := Lib.hid (Zq.out.below hb)
        have HQq : Hid (w2.heap.size ≤ q) := Lib.hid (HQq.out)
        have DR : Hid (Rows3 W2 w2.heap.size A9 n c9 B9 m d9 C9 nx.length k9 vs ev nx) := Lib.hid (Rows3.mono ho (Below.size HR.out))
        have HR := Lib.hid (g_chain HR.out hb)
        clear hb
        dsimp only
        refine hK.out _ _ (HSF _ HR) (fun _ => ?_)
        clear hK K
        (try simp only [List.setIfInBounds_toArray, List.set_cons_zero, List.set_cons_succ])
        change wpAnyH _ _ _ _ _ _ #[true, true, true, true, true, false, true, false] _ _
        exact Gr8_2_1 W2 Ad cd A9 c9 B9 d9 C9 k9 q HR DG DR Zq HQq
    · intro W Ad cd A9 c9 B9 d9 C9 k9 HR DG DR
      change wpAnyH _ _ _ _ _ _ #[true, true, true, true, true, false, false, false] _ _
      refine wpAnyH_ready (rs := [5, 6]) (by kernel_rfl) (by simp) (AllReadyH.cons rfl (fun K hK => ?_) (AllReadyH.cons rfl (fun K hK => ?_) AllReadyH.nil))
      · skip
        go_simp
        go_at_call 11
        refine (CS.out W _ _ _ _ _ _ _ _ _ _ DG.out DR.out).mono ?_
        rintro e W2 ⟨Aw, cw, Bw, dw, Cw, kw, rfl, ho, hb⟩
        have O : Hid (Rows3 W2 w2.heap.size Aw rv.length cw Bw re.length dw Cw rx.length kw rv re rx) := Lib.hid (Rows3.mono ho (Below.size HR.out))
        have HR := Lib.hid (g_chain HR.out hb)
        clear hb
        dsimp only
        refine hK.out _ _ (HSF _ HR) (fun _ => ?_)
        clear hK K
        (try simp only [List.setIfInBounds_toArray, List.set_cons_zero, List.set_cons_succ])
        change wpAnyH _ _ _ _ _ _ #[true, true, true, true, true, true, false, false] _ _
        exact Gr8_3_0 W2 Ad cd A9 c9 B9 d9 C9 k9 Aw cw Bw dw Cw kw HR O
      · skip
        go_simp
        have hb := below_a1 W (.cells #[.int .i64 0, .int .i64 0, .int .i64 0, .bool false, .slice none 0 0, .slice none 0 0, .int .i64 0, .slice none 0 0] 32)
        have DG : Hid ((W.alloc (.cells #[.int .i64 0, .int .i64 0, .int .i64 0, .bool false, .slice none 0 0, .slice none 0 0, .int .i64 0, .slice none 0 0] 32)).ownsRow w2.heap.size 113 3 (.slice Ad l cd) l (G.flatMap GE.cells)) := Lib.hid (own_below DG.out hb)
        have DR : Hid (Rows3 (W.alloc (.cells #[.int .i64 0, .int .i64 0, .int .i64 0, .bool false, .slice none 0 0, .slice none 0 0, .int .i64 0, .slice none 0 0] 32)) w2.heap.size A9 n c9 B9 m d9 C9 nx.length k9 vs ev nx) := Lib.hid (DR.out.below hb)
        have Zq : Hid (Blk (W.alloc (.cells #[.int .i64 0, .int .i64 0, .int .i64 0, .bool false, .slice none 0 0, .slice none 0 0, .int .i64 0, .slice none 0 0] 32)) W.heap.size #[.int .i64 0, .int .i64 0, .int .i64 0, .bool false, .slice none 0 0, .slice none 0 0, .int .i64 0, .slice none 0 0] 32) := Lib.hid (Blk.new W #[.int .i64 0, .int .i64 0, .int .i64 0, .bool false, .slice none 0 0, .slice none 0 0, .int .i64 0, .slice none 0 0] 32)
        have HQq : Hid (w2.heap.size ≤ W.heap.size) := Lib.hid (Below.size HR.out)
        have HR := Lib.hid (g_chain HR.out hb)
        clear hb
        refine hK.out _ _ (HSF _ HR) (fun _ => ?_)
        clear hK K
        (try simp only [List.setIfInBounds_toArray, List.set_cons_zero, List.set_cons_succ])
        generalize hZ : W.alloc (.cells #[.int .i64 0, .int .i64 0, .int .i64 0, .bool false, .slice none 0 0, .slice none 0 0, .int .i64 0, .slice none 0 0] 32) = W2 at DG DR Zq HR ⊢
        clear hZ
        generalize hZ : W.heap.size = q at Zq HQq ⊢
        clear hZ
        change wpAnyH _ _ _ _ _ _ #[true, true, true, true, true, false, true, false] _ _
        exact Gr8_2_1 W2 Ad cd A9 c9 B9 d9 C9 k9 q HR DG DR Zq HQq
    · intro W Ad cd A9 c9 B9 d9 C9 k9 q HR DG DR Zq HQq
      change wpAnyH _ _ _ _ _ _ #[true, true, true, true, true, false, true, false] _ _
      refine wpAnyH_ready (rs := [5]) (by kernel_rfl) (by simp) (AllReadyH.cons rfl (fun K hK => ?_) AllReadyH.nil)
      · skip
        go_simp
        go_at_call 11
        refine (CS.out W _ _ _ _ _ _ _ _ _ _ DG.out DR.out).mono ?_
        rintro e W2 ⟨Aw, cw, Bw, dw, Cw, kw, rfl, ho, hb⟩
        have Zq : Hid (Blk W2 q #[.int .i64 0, .int .i64 0, .int .i64 0, .bool false, .slice none 0 0, .slice none 0 0, .int .i64 0, .slice none 0 0] 32) := Lib.hid (Zq.out.below hb)
        have HQq : Hid (w2.heap.size ≤ q) := Lib.hid (HQq.out)
        have O : Hid (Rows3 W2 w2.heap.size Aw rv.length cw Bw re.length dw Cw rx.length kw rv re rx) := Lib.hid (Rows3.mono ho (Below.size HR.out))
        have HR := Lib.hid (g_chain HR.out hb)
        clear hb
        dsimp only
        refine hK.out _ _ (HSF _ HR) (fun _ => ?_)
        clear hK K
        (try simp only [List.setIfInBounds_toArray, List.set_cons_zero, List.set_cons_succ])
        change wpAnyH _ _ _ _ _ _ #[true, true, true, true, true, true, true, false] _ _
        exact Gr8_3_1 W2 Ad cd A9 c9 B9 d9 C9 k9 Aw cw Bw dw Cw kw q HR O Zq HQq
    · intro W Ad cd A9 c9 B9 d9 C9 k9 Aw cw Bw dw Cw kw HR O
      change wpAnyH _ _ _ _ _ _ #[true, true, true, true, true, true, false, false] _ _
      refine wpAnyH_ready (rs := [6]) (by kernel_rfl) (by simp) (AllReadyH.cons rfl (fun K hK => ?_) AllReadyH.nil)
      · skip
        go_simp
        have hb := below_a1 W (.cells #[.int .i64 0, .int .i64 0, .int .i64 0, .bool false, .slice none 0 0, .slice none 0 0, .int .i64 0, .slice none 0 0] 32)
        have O : Hid (Rows3 (W.alloc (.cells #[.int .i64 0, .int .i64 0, .int .i64 0, .bool false, .slice none 0 0, .slice none 0 0, .int .i64 0, .slice none 0 0] 32)) w2.heap.size Aw rv.length cw Bw re.length dw Cw rx.length kw rv re rx) := Lib.hid (O.out.below hb)
        have Zq : Hid (Blk (W.alloc (.cells #[.int .i64 0, .int .i64 0, .int .i64 0, .bool false, .slice none 0 0, .slice none 0 0, .int .i64 0, .slice none 0 0] 32)) W.heap.size #[.int .i64 0, .int .i64 0, .int .i64 0, .bool false, .slice none 0 0, .slice none 0 0, .int .i64 0, .slice none 0 0] 32) := Lib.hid (Blk.new W #[.int .i64 0, .int .i64 0, .int .i64 0, .bool false, .slice none 0 0, .slice none 0 0, .int .i64 0, .slice none 0 0] 32)
        have HQq : Hid (w2.heap.size ≤ W.heap.size) := Lib.hid (Below.size HR.out)
        have HR := Lib.hid (g_chain HR.out hb)
        clear hb
        refine hK.out _ _ (HSF _ HR) (fun _ => ?_)
        clear hK K
        (try simp only [List.setIfInBounds_toArray, List.set_cons_zero, List.set_cons_succ])
        generalize hZ : W.alloc (.cells #[.int .i64 0, .int .i64 0, .int .i64 0, .bool false, .slice none 0 0, .slice none 0 0, .int .i64 0, .slice none 0 0] 32) = W2 at O Zq HR ⊢
        clear hZ
        generalize hZ : W.heap.size = q at Zq HQq ⊢
        clear hZ
        change wpAnyH _ _ _ _ _ _ #[true, true, true, true, true, true, true, false] _ _
        exact Gr8_3_1 W2 Ad cd A9 c9 B9 d9 C9 k9 Aw cw Bw dw Cw kw q HR O Zq HQq
    · intro W Ad cd A9 c9 B9 d9 C9 k9 Aw cw Bw dw Cw kw q HR O Zq HQq
      change wpAnyH _ _ _ _ _ _ #[true, true, true, true, true, true, true, false] _ _
      refine wpAnyH_ready (rs := [7]) (by kernel_rfl) (by simp) (AllReadyH.cons rfl (fun K hK => ?_) AllReadyH.nil)
      obtain ⟨zl, z0, z1, z2, z3, z4, z5, z6, z7⟩ := Zq.out.eight
      obtain ⟨f0, f1, f2, f3, f4, f5, f6, f7⟩ := Zq.out.eightF
      go_simp
      clear z0 z1 z2 z3 z4 z5 z6 z7 f0 f1 f2 f3 f4 f5 f6 f7
      have hgr := layR_grown W q (.int .i64 rp) (.int .i64 rs) (.int .i64 ri) (.bool rd) (.slice Aw rv.length cw) (.slice Bw re.length dw) (.int .i64 rn) (.slice Cw rx.length kw)
      have EBG := Lib.hid ((BG_34.out.below HR.out).grown hgr (by intro e; injection e with e; have h1 := HQq.out; have h2 := BG_34.out.lt; omega))
      have EBR := Lib.hid ((BR_35.out.below HR.out).grown hgr (by intro e; injection e with e; have h1 := HQq.out; have h2 := BR_35.out.lt; omega))
      refine hK.out _ _ ⟨EBG.out.cell (i := 0) rfl, EBG.out.cell (i := 1) rfl, EBR.out.cell (i := 0) rfl, EBR.out.cell (i := 1) rfl, EBR.out.cell (i := 2) rfl, EBR.out.cell (i := 3) rfl, EBR.out.cell (i := 4) rfl, EBR.out.cell (i := 5) rfl, EBR.out.cell (i := 6) rfl, EBR.out.cell (i := 7) rfl⟩ (fun _ => ?_)
      clear hK K
      (try simp only [List.setIfInBounds_toArray, List.set_cons_zero, List.set_cons_succ])
      refine wpAnyH_done (by kernel_rfl) ?_ _
      go_wp2_with fail
      go_meet
      exact ⟨q, Aw, cw, Bw, dw, Cw, kw, rfl, Lib.hid (HR.out.grown hgr (Below.size HR.out) (fun j hj => by injection hj with hj; have h1 := HQq.out; omega)), Lib.hid (layR_blk Zq.out), Lib.hid ⟨own_kept O.out.v hgr (own_kind O.out.v Zq.out (by decide)), own_kept O.out.e hgr (own_kind O.out.e Zq.out (by decide)), own_kept O.out.x hgr (own_kind O.out.x Zq.out (by decide)), O.out.ap⟩, Lib.hid ⟨HQq.out, Nat.lt_of_lt_of_le zl hgr.size⟩⟩
  case rest =>
    rename World => w3
    obtain ⟨qw, Aww, cww, Bww, dww, Cww, kww, rfl, hb, hx, ho, hq⟩ := hcut
    have H_37 := Lib.hid (g_chain H_33.out hb.out)
    clear H_33
    have BG_38 := Lib.hid (BG_34.out.below hb.out)
    clear BG_34
    have BR_39 := Lib.hid (BR_35.out.below hb.out)
    clear BR_35
    have sz_40 := Lib.hid (Below.size hb.out)
    have sz_41 := Lib.hid (hq.out.1)
    have sz_42 := Lib.hid (hq.out.2)
    have RG_43 := Lib.hid (ho.out).at_
    have Aw_44 := Lib.hid (ho.out)
    have Bw_45 := Lib.hid (hx.out)
    clear hb hx ho hq
    have x_46 := BG_38.out.cell (i := 0) rfl
    have x_47 := BG_38.out.cell (i := 1) rfl
    have lt_48 := BG_38.out.lt
    go_wp2_with fail
    refine (CTG.out _ H_37.out).mono ?_
    rintro e w4 ⟨Agx, cgx, rfl, ho, hb⟩
    clear x_46 x_47 lt_48
    have H_49 := Lib.hid (g_chain H_37.out hb)
    clear H_37
    have BG_50 := Lib.hid (BG_38.out.below hb)
    clear BG_38
    have BR_51 := Lib.hid (BR_39.out.below hb)
    clear BR_39
    have Aw_52 := Lib.hid (Aw_44.out.below hb)
    clear Aw_44
    have Bw_53 := Lib.hid (Bw_45.out.below hb)
    clear Bw_45
    have sz_54 := Lib.hid (Below.size hb)
    have RG_55 := Lib.hid (ho).lt
    have Gx_56 := Lib.hid (ho)
    clear ho
    clear hb
    have hb := below_a1 w4 (.cells #[.int .i64 N, .slice Agx l cgx] 25)
    have sz_57 := Lib.hid (Blk.lt BG_50.out)
    have sz_58 := Lib.hid (Blk.lt BR_51.out)
    have sz_59 := Lib.hid (Blk.lt Bw_53.out)
    have H_60 := Lib.hid (g_chain H_49.out hb)
    clear H_49
    have BG_61 := Lib.hid (BG_50.out.below hb)
    clear BG_50
    have BR_62 := Lib.hid (BR_51.out.below hb)
    clear BR_51
    have Aw_63 := Lib.hid (Aw_52.out.below hb)
    clear Aw_52
    have Bw_64 := Lib.hid (Bw_53.out.below hb)
    clear Bw_53
    have Gx_65 := Lib.hid (own_below Gx_56.out hb)
    clear Gx_56
    have sz_66 := Lib.hid (Below.size hb)
    clear hb
    have X0_67 := Lib.hid (Blk.new w4 #[.int .i64 N, .slice Agx l cgx] 25)
    have sz_68 : Hid (w4.heap.size + 1 ≤ (w4.alloc (.cells #[.int .i64 N, .slice Agx l cgx] 25)).heap.size) := Lib.hid (by simp)
    have x_69 := BR_62.out.cell (i := 0) rfl
    have x_70 := BR_62.out.cell (i := 1) rfl
    have x_71 := BR_62.out.cell (i := 2) rfl
    have x_72 := BR_62.out.cell (i := 3) rfl
    have x_73 := BR_62.out.cell (i := 4) rfl
    have x_74 := BR_62.out.cell (i := 5) rfl
    have x_75 := BR_62.out.cell (i := 6) rfl
    have x_76 := BR_62.out.cell (i := 7) rfl
    have lt_77 := BR_62.out.lt
    go_wp2_with fail
    refine (CTR.out _ H_60.out).mono ?_
    rintro e w5 ⟨Ax, cx, Bx, dx, Cx, kx, rfl, ho, hb⟩
    clear x_69 x_70 x_71 x_72 x_73 x_74 x_75 x_76 lt_77
    have H_78 := Lib.hid (g_chain H_60.out hb)
    clear H_60
    have BG_79 := Lib.hid (BG_61.out.below hb)
    clear BG_61
    have BR_80 := Lib.hid (BR_62.out.below hb)
    clear BR_62
    have Aw_81 := Lib.hid (Aw_63.out.below hb)
    clear Aw_63
    have Bw_82 := Lib.hid (Bw_64.out.below hb)
    clear Bw_64
    have Gx_83 := Lib.hid (own_below Gx_65.out hb)
    clear Gx_65
    have X0_84 := Lib.hid (X0_67.out.below hb)
    clear X0_67
    have sz_85 := Lib.hid (Below.size hb)
    have RG_86 := Lib.hid (ho).at_
    have Rx_87 := Lib.hid (ho)
    clear ho
    clear hb
    have hb := below_a1 w5 (.cells #[.int .i64 p, .int .i64 s, .int .i64 it, .bool dn, .slice Ax n cx, .slice Bx m dx, .int .i64 nn, .slice Cx nx.length kx] 32)
    have sz_88 := Lib.hid (Blk.lt BG_79.out)
    have sz_89 := Lib.hid (Blk.lt BR_80.out)
    have sz_90 := Lib.hid (Blk.lt Bw_82.out)
    have sz_91 := Lib.hid (Blk.lt X0_84.out)
    have H_92 := Lib.hid (g_chain H_78.out hb)
    clear H_78
    have BG_93 := Lib.hid (BG_79.out.below hb)
    clear BG_79
    have BR_94 := Lib.hid (BR_80.out.below hb)
    clear BR_80
    have Aw_95 := Lib.hid (Aw_81.out.below hb)
    clear Aw_81
    have Bw_96 := Lib.hid (Bw_82.out.below hb)
    clear Bw_82
    have Gx_97 := Lib.hid (own_below Gx_83.out hb)
    clear Gx_83
    have X0_98 := Lib.hid (X0_84.out.below hb)
    clear X0_84
    have Rx_99 := Lib.hid (Rx_87.out.below hb)
    clear Rx_87
    have sz_100 := Lib.hid (Below.size hb)
    clear hb
    have X1_101 := Lib.hid (Blk.new w5 #[.int .i64 p, .int .i64 s, .int .i64 it, .bool dn, .slice Ax n cx, .slice Bx m dx, .int .i64 nn, .slice Cx nx.length kx] 32)
    have sz_102 : Hid (w5.heap.size + 1 ≤ (w5.alloc (.cells #[.int .i64 p, .int .i64 s, .int .i64 it, .bool dn, .slice Ax n cx, .slice Bx m dx, .int .i64 nn, .slice Cx nx.length kx] 32)).heap.size) := Lib.hid (by simp)
    have x_103 := X0_98.out.cell (i := 0) rfl
    have x_104 := X0_98.out.cell (i := 1) rfl
    have lt_105 := X0_98.out.lt
    have x_106 := X1_101.out.cell (i := 0) rfl
    have x_107 := X1_101.out.cell (i := 1) rfl
    have x_108 := X1_101.out.cell (i := 2) rfl
    have x_109 := X1_101.out.cell (i := 3) rfl
    have x_110 := X1_101.out.cell (i := 4) rfl
    have x_111 := X1_101.out.cell (i := 5) rfl
    have x_112 := X1_101.out.cell (i := 6) rfl
    have x_113 := X1_101.out.cell (i := 7) rfl
    have lt_114 := X1_101.out.lt
    go_wp2_with fail
    refine (CI.out _ H_92.out _ _ _ _ _ _ _ _ _ _ Gx_97.out Rx_99.out).mono ?_
    rintro e w6 ⟨Awg, cwg, Bwg, dwg, Cwg, kwg, rfl, ho, hb⟩
    clear x_103 x_104 lt_105 x_106 x_107 x_108 x_109 x_110 x_111 x_112 x_113 lt_114
    have H_115 := Lib.hid (g_chain H_92.out hb)
    clear H_92
    have BG_116 := Lib.hid (BG_93.out.below hb)
    clear BG_93
    have BR_117 := Lib.hid (BR_94.out.below hb)
    clear BR_94
    have Aw_118 := Lib.hid (Aw_95.out.below hb)
    clear Aw_95
    have Bw_119 := Lib.hid (Bw_96.out.below hb)
    clear Bw_96
    have Gx_120 := Lib.hid (own_below Gx_97.out hb)
    clear Gx_97
    have X0_121 := Lib.hid (X0_98.out.below hb)
    clear X0_98
    have Rx_122 := Lib.hid (Rx_99.out.below hb)
    clear Rx_99
    have X1_123 := Lib.hid (X1_101.out.below hb)
    clear X1_101
    have sz_124 := Lib.hid (Below.size hb)
    have RG_125 := Lib.hid (ho).at_
    have Ag_126 := Lib.hid (ho)
    clear ho
    clear hb
    have hb := below_a1 w6 (.cells #[.int .i64 rp, .int .i64 rs, .int .i64 ri, .bool rd, .slice Awg rv.length cwg, .slice Bwg re.length dwg, .int .i64 rn, .slice Cwg rx.length kwg] 32)
    have sz_127 := Lib.hid (Blk.lt BG_116.out)
    have sz_128 := Lib.hid (Blk.lt BR_117.out)
    have sz_129 := Lib.hid (Blk.lt Bw_119.out)
    have sz_130 := Lib.hid (Blk.lt X0_121.out)
    have sz_131 := Lib.hid (Blk.lt X1_123.out)
    have H_132 := Lib.hid (g_chain H_115.out hb)
    clear H_115
    have BG_133 := Lib.hid (BG_116.out.below hb)
    clear BG_116
    have BR_134 := Lib.hid (BR_117.out.below hb)
    clear BR_117
    have Aw_135 := Lib.hid (Aw_118.out.below hb)
    clear Aw_118
    have Bw_136 := Lib.hid (Bw_119.out.below hb)
    clear Bw_119
    have Gx_137 := Lib.hid (own_below Gx_120.out hb)
    clear Gx_120
    have X0_138 := Lib.hid (X0_121.out.below hb)
    clear X0_121
    have Rx_139 := Lib.hid (Rx_122.out.below hb)
    clear Rx_122
    have X1_140 := Lib.hid (X1_123.out.below hb)
    clear X1_123
    have Ag_141 := Lib.hid (Ag_126.out.below hb)
    clear Ag_126
    have sz_142 := Lib.hid (Below.size hb)
    clear hb
    have Bg_143 := Lib.hid (Blk.new w6 #[.int .i64 rp, .int .i64 rs, .int .i64 ri, .bool rd, .slice Awg rv.length cwg, .slice Bwg re.length dwg, .int .i64 rn, .slice Cwg rx.length kwg] 32)
    have sz_144 : Hid (w6.heap.size + 1 ≤ (w6.alloc (.cells #[.int .i64 rp, .int .i64 rs, .int .i64 ri, .bool rd, .slice Awg rv.length cwg, .slice Bwg re.length dwg, .int .i64 rn, .slice Cwg rx.length kwg] 32)).heap.size) := Lib.hid (by simp)
    have x_145 := Bg_143.out.cell (i := 0) rfl
    have x_146 := Bg_143.out.cell (i := 1) rfl
    have x_147 := Bg_143.out.cell (i := 2) rfl
    have x_148 := Bg_143.out.cell (i := 3) rfl
    have x_149 := Bg_143.out.cell (i := 4) rfl
    have x_150 := Bg_143.out.cell (i := 5) rfl
    have x_151 := Bg_143.out.cell (i := 6) rfl
    have x_152 := Bg_143.out.cell (i := 7) rfl
    have lt_153 := Bg_143.out.lt
    have x_154 := Bw_136.out.cell (i := 0) rfl
    have x_155 := Bw_136.out.cell (i := 1) rfl
    have x_156 := Bw_136.out.cell (i := 2) rfl
    have x_157 := Bw_136.out.cell (i := 3) rfl
    have x_158 := Bw_136.out.cell (i := 4) rfl
    have x_159 := Bw_136.out.cell (i := 5) rfl
    have x_160 := Bw_136.out.cell (i := 6) rfl
    have x_161 := Bw_136.out.cell (i := 7) rfl
    have lt_162 := Bw_136.out.lt
    go_wp2_with fail
    refine (CEA.out _ _ _ _ _ _ _ _ _ _ _ _ _ _ _ Ag_141.out Aw_135.out).mono ?_
    rintro e w7 ⟨rfl, hb⟩
    clear x_145 x_146 x_147 x_148 x_149 x_150 x_151 x_152 lt_153 x_154 x_155 x_156 x_157 x_158 x_159 x_160 x_161 lt_162
    have H_163 := Lib.hid (g_chain H_132.out hb)
    clear H_132
    have BG_164 := Lib.hid (BG_133.out.below hb)
    clear BG_133
    have BR_165 := Lib.hid (BR_134.out.below hb)
    clear BR_134
    have Aw_166 := Lib.hid (Aw_135.out.below hb)
    clear Aw_135
    have Bw_167 := Lib.hid (Bw_136.out.below hb)
    clear Bw_136
    have Gx_168 := Lib.hid (own_below Gx_137.out hb)
    clear Gx_137
    have X0_169 := Lib.hid (X0_138.out.below hb)
    clear X0_138
    have Rx_170 := Lib.hid (Rx_139.out.below hb)
    clear Rx_139
    have X1_171 := Lib.hid (X1_140.out.below hb)
    clear X1_140
    have Ag_172 := Lib.hid (Ag_141.out.below hb)
    clear Ag_141
    have Bg_173 := Lib.hid (Bg_143.out.below hb)
    clear Bg_143
    have sz_174 := Lib.hid (Below.size hb)
    clear hb
    go_upto_region 14 with fail
    refine wp_region_any (by kernel_rfl) ?_
    change wpAny _ _ _ _ _ _ _ (World.drew _)
    have hb : Below w7.heap.size w7 (World.drew w7) := (Below.refl _ _).drew
    have H_175 := Lib.hid (g_chain H_163.out hb)
    clear H_163
    have BG_176 := Lib.hid (BG_164.out.below hb)
    clear BG_164
    have BR_177 := Lib.hid (BR_165.out.below hb)
    clear BR_165
    have Aw_178 := Lib.hid (Aw_166.out.below hb)
    clear Aw_166
    have Bw_179 := Lib.hid (Bw_167.out.below hb)
    clear Bw_167
    have Gx_180 := Lib.hid (own_below Gx_168.out hb)
    clear Gx_168
    have X0_181 := Lib.hid (X0_169.out.below hb)
    clear X0_169
    have Rx_182 := Lib.hid (Rx_170.out.below hb)
    clear Rx_170
    have X1_183 := Lib.hid (X1_171.out.below hb)
    clear X1_171
    have Ag_184 := Lib.hid (Ag_172.out.below hb)
    clear Ag_172
    have Bg_185 := Lib.hid (Bg_173.out.below hb)
    clear Bg_173
    have sz_186 := Lib.hid (Below.size hb)
    clear hb
    generalize hDD : World.drew w7 = w8 at H_175 BG_176 BR_177 Aw_178 Bw_179 Gx_180 X0_181 Rx_182 X1_183 Ag_184 Bg_185 sz_186 ⊢
    clear hDD
    refine wpAny_of_held (S := fun W => W.cell? ⟨w.heap.size, 0, none⟩ = some (.int .i64 N) ∧ W.cell? ⟨w.heap.size, 1, none⟩ = some (.slice AG l cG) ∧ W.cell? ⟨w4.heap.size, 0, none⟩ = some (.int .i64 N) ∧ W.cell? ⟨w4.heap.size, 1, none⟩ = some (.slice Agx l cgx)) _ _ _ _ ?_
    refine held_nameL ⟨BG_176.out.cell (i := 0) rfl, BG_176.out.cell (i := 1) rfl, X0_181.out.cell (i := 0) rfl, X0_181.out.cell (i := 1) rfl⟩ (fun hS => ?_)
    refine wpAnyH_take (i := 0) (oi := ⟨_, _, _, _, _, _⟩) (v := .agg #[.int .i64 N, .slice Agx l cgx]) rfl (by kernel_rfl) (by kernel_rfl) (by kernel_rfl) (fun _ _ _ h => h) (Or.inl ⟨by kernel_rfl, fun W hS => by (obtain ⟨s0, s1, s2, s3⟩ := hS); go_simp⟩) hS ?_
    (try simp only [Act.put, List.setIfInBounds_toArray, List.set_cons_zero, List.set_cons_succ])
    refine wpAnyH_take (i := 1) (oi := ⟨_, _, _, _, _, _⟩) (v := .agg #[.int .i64 N, .slice AG l cG]) rfl (by kernel_rfl) (by kernel_rfl) (by kernel_rfl) (fun _ _ _ h => h) (Or.inl ⟨by kernel_rfl, fun W hS => by (obtain ⟨s0, s1, s2, s3⟩ := hS); go_simp⟩) hS ?_
    (try simp only [Act.put, List.setIfInBounds_toArray, List.set_cons_zero, List.set_cons_succ])
    refine wpAnyH_ready (rs := [2]) (by kernel_rfl) (by simp) (AllReadyH.cons rfl (fun K hK => ?_) AllReadyH.nil)
    go_simp
    go_at_call 20
    refine (CTG.out _ H_175.out).mono ?_
    rintro e w9 ⟨Agq, cgq, rfl, ho, hb⟩
    have H_187 := Lib.hid (g_chain H_175.out hb)
    clear H_175
    have BG_188 := Lib.hid (BG_176.out.below hb)
    clear BG_176
    have BR_189 := Lib.hid (BR_177.out.below hb)
    clear BR_177
    have Aw_190 := Lib.hid (Aw_178.out.below hb)
    clear Aw_178
    have Bw_191 := Lib.hid (Bw_179.out.below hb)
    clear Bw_179
    have Gx_192 := Lib.hid (own_below Gx_180.out hb)
    clear Gx_180
    have X0_193 := Lib.hid (X0_181.out.below hb)
    clear X0_181
    have Rx_194 := Lib.hid (Rx_182.out.below hb)
    clear Rx_182
    have X1_195 := Lib.hid (X1_183.out.below hb)
    clear X1_183
    have Ag_196 := Lib.hid (Ag_184.out.below hb)
    clear Ag_184
    have Bg_197 := Lib.hid (Bg_185.out.below hb)
    clear Bg_185
    have sz_198 := Lib.hid (Below.size hb)
    have RG_199 := Lib.hid (ho).lt
    have Gq_200 := Lib.hid (ho)
    clear ho hb
    dsimp only
    refine hK.out _ _ ⟨BG_188.out.cell (i := 0) rfl, BG_188.out.cell (i := 1) rfl, X0_193.out.cell (i := 0) rfl, X0_193.out.cell (i := 1) rfl⟩ (fun hS => ?_)
    clear hK K
    (try simp only [Act.put, List.setIfInBounds_toArray, List.set_cons_zero, List.set_cons_succ])
    refine wpAnyH_ready (rs := [3]) (by kernel_rfl) (by simp) (AllReadyH.cons rfl (fun K hK => ?_) AllReadyH.nil)
    go_simp
    go_at_call 25
    refine (CEG.out _ _ _ _ _ (SlG.of_own Gx_192.out HLG.out) (SlG.of_own Gq_200.out HLG.out)).mono ?_
    rintro e w10 ⟨rfl, hb⟩
    have H_201 := Lib.hid (g_chain H_187.out hb)
    clear H_187
    have BG_202 := Lib.hid (BG_188.out.below hb)
    clear BG_188
    have BR_203 := Lib.hid (BR_189.out.below hb)
    clear BR_189
    have Aw_204 := Lib.hid (Aw_190.out.below hb)
    clear Aw_190
    have Bw_205 := Lib.hid (Bw_191.out.below hb)
    clear Bw_191
    have Gx_206 := Lib.hid (own_below Gx_192.out hb)
    clear Gx_192
    have X0_207 := Lib.hid (X0_193.out.below hb)
    clear X0_193
    have Rx_208 := Lib.hid (Rx_194.out.below hb)
    clear Rx_194
    have X1_209 := Lib.hid (X1_195.out.below hb)
    clear X1_195
    have Ag_210 := Lib.hid (Ag_196.out.below hb)
    clear Ag_196
    have Bg_211 := Lib.hid (Bg_197.out.below hb)
    clear Bg_197
    have Gq_212 := Lib.hid (own_below Gq_200.out hb)
    clear Gq_200
    have sz_213 := Lib.hid (Below.size hb)
    clear hb
    dsimp only
    refine hK.out _ _ ⟨BG_202.out.cell (i := 0) rfl, BG_202.out.cell (i := 1) rfl, X0_207.out.cell (i := 0) rfl, X0_207.out.cell (i := 1) rfl⟩ (fun hS => ?_)
    clear hK K
    (try simp only [Act.put, List.setIfInBounds_toArray, List.set_cons_zero, List.set_cons_succ])
    refine wpAnyH_take (i := 4) (oi := ⟨_, _, _, _, _, _⟩) (v := .bool false) rfl (by kernel_rfl) (by kernel_rfl) (by kernel_rfl) (fun _ _ _ h => h) (Or.inl ⟨by kernel_rfl, fun W hS => by (obtain ⟨s0, s1, s2, s3⟩ := hS); go_simp⟩) hS ?_
    (try simp only [Act.put, List.setIfInBounds_toArray, List.set_cons_zero, List.set_cons_succ])
    refine wpAnyH_done (by kernel_rfl) ?_ _
    clear Gq_212
    go_upto_region 16 with fail
    refine wp_region_any (by kernel_rfl) ?_
    change wpAny _ _ _ _ _ _ _ (World.drew _)
    have hb : Below w10.heap.size w10 (World.drew w10) := (Below.refl _ _).drew
    have H_214 := Lib.hid (g_chain H_201.out hb)
    clear H_201
    have BG_215 := Lib.hid (BG_202.out.below hb)
    clear BG_202
    have BR_216 := Lib.hid (BR_203.out.below hb)
    clear BR_203
    have Aw_217 := Lib.hid (Aw_204.out.below hb)
    clear Aw_204
    have Bw_218 := Lib.hid (Bw_205.out.below hb)
    clear Bw_205
    have Gx_219 := Lib.hid (own_below Gx_206.out hb)
    clear Gx_206
    have X0_220 := Lib.hid (X0_207.out.below hb)
    clear X0_207
    have Rx_221 := Lib.hid (Rx_208.out.below hb)
    clear Rx_208
    have X1_222 := Lib.hid (X1_209.out.below hb)
    clear X1_209
    have Ag_223 := Lib.hid (Ag_210.out.below hb)
    clear Ag_210
    have Bg_224 := Lib.hid (Bg_211.out.below hb)
    clear Bg_211
    have sz_225 := Lib.hid (Below.size hb)
    clear hb
    generalize hDD : World.drew w10 = w11 at H_214 BG_215 BR_216 Aw_217 Bw_218 Gx_219 X0_220 Rx_221 X1_222 Ag_223 Bg_224 sz_225 ⊢
    clear hDD
    refine wpAny_of_held (S := fun W => W.cell? ⟨w.heap.size + 1, 0, none⟩ = some (.int .i64 p) ∧ W.cell? ⟨w.heap.size + 1, 1, none⟩ = some (.int .i64 s) ∧ W.cell? ⟨w.heap.size + 1, 2, none⟩ = some (.int .i64 it) ∧ W.cell? ⟨w.heap.size + 1, 3, none⟩ = some (.bool dn) ∧ W.cell? ⟨w.heap.size + 1, 4, none⟩ = some (.slice A n c) ∧ W.cell? ⟨w.heap.size + 1, 5, none⟩ = some (.slice B m d) ∧ W.cell? ⟨w.heap.size + 1, 6, none⟩ = some (.int .i64 nn) ∧ W.cell? ⟨w.heap.size + 1, 7, none⟩ = some (.slice C nx.length k) ∧ W.cell? ⟨w5.heap.size, 0, none⟩ = some (.int .i64 p) ∧ W.cell? ⟨w5.heap.size, 1, none⟩ = some (.int .i64 s) ∧ W.cell? ⟨w5.heap.size, 2, none⟩ = some (.int .i64 it) ∧ W.cell? ⟨w5.heap.size, 3, none⟩ = some (.bool dn) ∧ W.cell? ⟨w5.heap.size, 4, none⟩ = some (.slice Ax n cx) ∧ W.cell? ⟨w5.heap.size, 5, none⟩ = some (.slice Bx m dx) ∧ W.cell? ⟨w5.heap.size, 6, none⟩ = some (.int .i64 nn) ∧ W.cell? ⟨w5.heap.size, 7, none⟩ = some (.slice Cx nx.length kx)) _ _ _ _ ?_
    refine held_nameL ⟨BR_216.out.cell (i := 0) rfl, BR_216.out.cell (i := 1) rfl, BR_216.out.cell (i := 2) rfl, BR_216.out.cell (i := 3) rfl, BR_216.out.cell (i := 4) rfl, BR_216.out.cell (i := 5) rfl, BR_216.out.cell (i := 6) rfl, BR_216.out.cell (i := 7) rfl, X1_222.out.cell (i := 0) rfl, X1_222.out.cell (i := 1) rfl, X1_222.out.cell (i := 2) rfl, X1_222.out.cell (i := 3) rfl, X1_222.out.cell (i := 4) rfl, X1_222.out.cell (i := 5) rfl, X1_222.out.cell (i := 6) rfl, X1_222.out.cell (i := 7) rfl⟩ (fun hS => ?_)
    refine wpAnyH_take (i := 0) (oi := ⟨_, _, _, _, _, _⟩) (v := .agg #[.int .i64 p, .int .i64 s, .int .i64 it, .bool dn, .slice Ax n cx, .slice Bx m dx, .int .i64 nn, .slice Cx nx.length kx]) rfl (by kernel_rfl) (by kernel_rfl) (by kernel_rfl) (fun _ _ _ h => h) (Or.inl ⟨by kernel_rfl, fun W hS => by (obtain ⟨s0, s1, s2, s3, s4, s5, s6, s7, s8, s9, s10, s11, s12, s13, s14, s15⟩ := hS); go_simp⟩) hS ?_
    (try simp only [Act.put, List.setIfInBounds_toArray, List.set_cons_zero, List.set_cons_succ])
    refine wpAnyH_take (i := 1) (oi := ⟨_, _, _, _, _, _⟩) (v := .agg #[.int .i64 p, .int .i64 s, .int .i64 it, .bool dn, .slice A n c, .slice B m d, .int .i64 nn, .slice C nx.length k]) rfl (by kernel_rfl) (by kernel_rfl) (by kernel_rfl) (fun _ _ _ h => h) (Or.inl ⟨by kernel_rfl, fun W hS => by (obtain ⟨s0, s1, s2, s3, s4, s5, s6, s7, s8, s9, s10, s11, s12, s13, s14, s15⟩ := hS); go_simp⟩) hS ?_
    (try simp only [Act.put, List.setIfInBounds_toArray, List.set_cons_zero, List.set_cons_succ])
    refine wpAnyH_ready (rs := [2]) (by kernel_rfl) (by simp) (AllReadyH.cons rfl (fun K hK => ?_) AllReadyH.nil)
    go_simp
    go_at_call 21
    refine (CTR.out _ H_214.out).mono ?_
    rintro e w12 ⟨Aq, cq, Bq, dq, Cq, kq, rfl, ho, hb⟩
    have H_226 := Lib.hid (g_chain H_214.out hb)
    clear H_214
    have BG_227 := Lib.hid (BG_215.out.below hb)
    clear BG_215
    have BR_228 := Lib.hid (BR_216.out.below hb)
    clear BR_216
    have Aw_229 := Lib.hid (Aw_217.out.below hb)
    clear Aw_217
    have Bw_230 := Lib.hid (Bw_218.out.below hb)
    clear Bw_218
    have Gx_231 := Lib.hid (own_below Gx_219.out hb)
    clear Gx_219
    have X0_232 := Lib.hid (X0_220.out.below hb)
    clear X0_220
    have Rx_233 := Lib.hid (Rx_221.out.below hb)
    clear Rx_221
    have X1_234 := Lib.hid (X1_222.out.below hb)
    clear X1_222
    have Ag_235 := Lib.hid (Ag_223.out.below hb)
    clear Ag_223
    have Bg_236 := Lib.hid (Bg_224.out.below hb)
    clear Bg_224
    have sz_237 := Lib.hid (Below.size hb)
    have RG_238 := Lib.hid (ho).at_
    have Rq_239 := Lib.hid (ho)
    clear ho hb
    dsimp only
    refine hK.out _ _ ⟨BR_228.out.cell (i := 0) rfl, BR_228.out.cell (i := 1) rfl, BR_228.out.cell (i := 2) rfl, BR_228.out.cell (i := 3) rfl, BR_228.out.cell (i := 4) rfl, BR_228.out.cell (i := 5) rfl, BR_228.out.cell (i := 6) rfl, BR_228.out.cell (i := 7) rfl, X1_234.out.cell (i := 0) rfl, X1_234.out.cell (i := 1) rfl, X1_234.out.cell (i := 2) rfl, X1_234.out.cell (i := 3) rfl, X1_234.out.cell (i := 4) rfl, X1_234.out.cell (i := 5) rfl, X1_234.out.cell (i := 6) rfl, X1_234.out.cell (i := 7) rfl⟩ (fun hS => ?_)
    clear hK K
    (try simp only [Act.put, List.setIfInBounds_toArray, List.set_cons_zero, List.set_cons_succ])
    refine wpAnyH_ready (rs := [3]) (by kernel_rfl) (by simp) (AllReadyH.cons rfl (fun K hK => ?_) AllReadyH.nil)
    go_simp
    go_at_call 26
    refine (CER.out _ _ _ _ _ _ _ _ _ _ _ _ _ _ _ Rx_233.out Rq_239.out).mono ?_
    rintro e w13 ⟨rfl, hb⟩
    have H_240 := Lib.hid (g_chain H_226.out hb)
    clear H_226
    have BG_241 := Lib.hid (BG_227.out.below hb)
    clear BG_227
    have BR_242 := Lib.hid (BR_228.out.below hb)
    clear BR_228
    have Aw_243 := Lib.hid (Aw_229.out.below hb)
    clear Aw_229
    have Bw_244 := Lib.hid (Bw_230.out.below hb)
    clear Bw_230
    have Gx_245 := Lib.hid (own_below Gx_231.out hb)
    clear Gx_231
    have X0_246 := Lib.hid (X0_232.out.below hb)
    clear X0_232
    have Rx_247 := Lib.hid (Rx_233.out.below hb)
    clear Rx_233
    have X1_248 := Lib.hid (X1_234.out.below hb)
    clear X1_234
    have Ag_249 := Lib.hid (Ag_235.out.below hb)
    clear Ag_235
    have Bg_250 := Lib.hid (Bg_236.out.below hb)
    clear Bg_236
    have Rq_251 := Lib.hid (Rq_239.out.below hb)
    clear Rq_239
    have sz_252 := Lib.hid (Below.size hb)
    clear hb
    dsimp only
    refine hK.out _ _ ⟨BR_242.out.cell (i := 0) rfl, BR_242.out.cell (i := 1) rfl, BR_242.out.cell (i := 2) rfl, BR_242.out.cell (i := 3) rfl, BR_242.out.cell (i := 4) rfl, BR_242.out.cell (i := 5) rfl, BR_242.out.cell (i := 6) rfl, BR_242.out.cell (i := 7) rfl, X1_248.out.cell (i := 0) rfl, X1_248.out.cell (i := 1) rfl, X1_248.out.cell (i := 2) rfl, X1_248.out.cell (i := 3) rfl, X1_248.out.cell (i := 4) rfl, X1_248.out.cell (i := 5) rfl, X1_248.out.cell (i := 6) rfl, X1_248.out.cell (i := 7) rfl⟩ (fun hS => ?_)
    clear hK K
    (try simp only [Act.put, List.setIfInBounds_toArray, List.set_cons_zero, List.set_cons_succ])
    refine wpAnyH_take (i := 4) (oi := ⟨_, _, _, _, _, _⟩) (v := .bool false) rfl (by kernel_rfl) (by kernel_rfl) (by kernel_rfl) (fun _ _ _ h => h) (Or.inl ⟨by kernel_rfl, fun W hS => by (obtain ⟨s0, s1, s2, s3, s4, s5, s6, s7, s8, s9, s10, s11, s12, s13, s14, s15⟩ := hS); go_simp⟩) hS ?_
    (try simp only [Act.put, List.setIfInBounds_toArray, List.set_cons_zero, List.set_cons_succ])
    refine wpAnyH_done (by kernel_rfl) ?_ _
    clear Rq_251
    have x_253 := X0_246.out.cell (i := 0) rfl
    have x_254 := X0_246.out.cell (i := 1) rfl
    have lt_255 := X0_246.out.lt
    go_wp2_with fail
    refine (CMG.out _ _ _ _ Gx_245.out).mono ?_
    rintro e w14 ⟨rfl, hg⟩
    clear x_253 x_254 lt_255
    have hwr := Wr.of_grown hg RG_55.out
    have H_256 := Lib.hid (Wr.orig hwr H_240.out (by have := sz_4.out; have := sz_20.out; have := sz_36.out; have := sz_40.out; have := sz_41.out; have := sz_42.out; have := sz_54.out; have := sz_57.out; have := sz_58.out; have := sz_59.out; have := sz_66.out; have := sz_68.out; have := sz_85.out; have := sz_88.out; have := sz_89.out; have := sz_90.out; have := sz_91.out; have := sz_100.out; have := sz_102.out; have := sz_124.out; have := sz_127.out; have := sz_128.out; have := sz_129.out; have := sz_130.out; have := sz_131.out; have := sz_142.out; have := sz_144.out; have := sz_174.out; have := sz_186.out; have := sz_198.out; have := sz_213.out; have := sz_225.out; have := sz_237.out; have := sz_252.out; omega) (by have := sz_4.out; have := sz_20.out; have := sz_36.out; have := sz_40.out; have := sz_41.out; have := sz_42.out; have := sz_54.out; have := sz_57.out; have := sz_58.out; have := sz_59.out; have := sz_66.out; have := sz_68.out; have := sz_85.out; have := sz_88.out; have := sz_89.out; have := sz_90.out; have := sz_91.out; have := sz_100.out; have := sz_102.out; have := sz_124.out; have := sz_127.out; have := sz_128.out; have := sz_129.out; have := sz_130.out; have := sz_131.out; have := sz_142.out; have := sz_144.out; have := sz_174.out; have := sz_186.out; have := sz_198.out; have := sz_213.out; have := sz_225.out; have := sz_237.out; have := sz_252.out; omega))
    clear H_240
    have BG_257 := Lib.hid (Wr.blk hwr BG_241.out (by have := sz_4.out; have := sz_20.out; have := sz_36.out; have := sz_40.out; have := sz_41.out; have := sz_42.out; have := sz_54.out; have := sz_57.out; have := sz_58.out; have := sz_59.out; have := sz_66.out; have := sz_68.out; have := sz_85.out; have := sz_88.out; have := sz_89.out; have := sz_90.out; have := sz_91.out; have := sz_100.out; have := sz_102.out; have := sz_124.out; have := sz_127.out; have := sz_128.out; have := sz_129.out; have := sz_130.out; have := sz_131.out; have := sz_142.out; have := sz_144.out; have := sz_174.out; have := sz_186.out; have := sz_198.out; have := sz_213.out; have := sz_225.out; have := sz_237.out; have := sz_252.out; omega))
    clear BG_241
    have BR_258 := Lib.hid (Wr.blk hwr BR_242.out (by have := sz_4.out; have := sz_20.out; have := sz_36.out; have := sz_40.out; have := sz_41.out; have := sz_42.out; have := sz_54.out; have := sz_57.out; have := sz_58.out; have := sz_59.out; have := sz_66.out; have := sz_68.out; have := sz_85.out; have := sz_88.out; have := sz_89.out; have := sz_90.out; have := sz_91.out; have := sz_100.out; have := sz_102.out; have := sz_124.out; have := sz_127.out; have := sz_128.out; have := sz_129.out; have := sz_130.out; have := sz_131.out; have := sz_142.out; have := sz_144.out; have := sz_174.out; have := sz_186.out; have := sz_198.out; have := sz_213.out; have := sz_225.out; have := sz_237.out; have := sz_252.out; omega))
    clear BR_242
    have Aw_259 := Lib.hid (Wr.rows hwr Aw_243.out RG_43.out (by have := sz_4.out; have := sz_20.out; have := sz_36.out; have := sz_40.out; have := sz_41.out; have := sz_42.out; have := sz_54.out; have := sz_57.out; have := sz_58.out; have := sz_59.out; have := sz_66.out; have := sz_68.out; have := sz_85.out; have := sz_88.out; have := sz_89.out; have := sz_90.out; have := sz_91.out; have := sz_100.out; have := sz_102.out; have := sz_124.out; have := sz_127.out; have := sz_128.out; have := sz_129.out; have := sz_130.out; have := sz_131.out; have := sz_142.out; have := sz_144.out; have := sz_174.out; have := sz_186.out; have := sz_198.out; have := sz_213.out; have := sz_225.out; have := sz_237.out; have := sz_252.out; omega))
    clear Aw_243
    have Bw_260 := Lib.hid (Wr.blk hwr Bw_244.out (by have := sz_4.out; have := sz_20.out; have := sz_36.out; have := sz_40.out; have := sz_41.out; have := sz_42.out; have := sz_54.out; have := sz_57.out; have := sz_58.out; have := sz_59.out; have := sz_66.out; have := sz_68.out; have := sz_85.out; have := sz_88.out; have := sz_89.out; have := sz_90.out; have := sz_91.out; have := sz_100.out; have := sz_102.out; have := sz_124.out; have := sz_127.out; have := sz_128.out; have := sz_129.out; have := sz_130.out; have := sz_131.out; have := sz_142.out; have := sz_144.out; have := sz_174.out; have := sz_186.out; have := sz_198.out; have := sz_213.out; have := sz_225.out; have := sz_237.out; have := sz_252.out; omega))
    clear Bw_244
    have X0_261 := Lib.hid (Wr.blk hwr X0_246.out (by have := sz_4.out; have := sz_20.out; have := sz_36.out; have := sz_40.out; have := sz_41.out; have := sz_42.out; have := sz_54.out; have := sz_57.out; have := sz_58.out; have := sz_59.out; have := sz_66.out; have := sz_68.out; have := sz_85.out; have := sz_88.out; have := sz_89.out; have := sz_90.out; have := sz_91.out; have := sz_100.out; have := sz_102.out; have := sz_124.out; have := sz_127.out; have := sz_128.out; have := sz_129.out; have := sz_130.out; have := sz_131.out; have := sz_142.out; have := sz_144.out; have := sz_174.out; have := sz_186.out; have := sz_198.out; have := sz_213.out; have := sz_225.out; have := sz_237.out; have := sz_252.out; omega))
    clear X0_246
    have Rx_262 := Lib.hid (Wr.rows hwr Rx_247.out RG_86.out (by have := sz_4.out; have := sz_20.out; have := sz_36.out; have := sz_40.out; have := sz_41.out; have := sz_42.out; have := sz_54.out; have := sz_57.out; have := sz_58.out; have := sz_59.out; have := sz_66.out; have := sz_68.out; have := sz_85.out; have := sz_88.out; have := sz_89.out; have := sz_90.out; have := sz_91.out; have := sz_100.out; have := sz_102.out; have := sz_124.out; have := sz_127.out; have := sz_128.out; have := sz_129.out; have := sz_130.out; have := sz_131.out; have := sz_142.out; have := sz_144.out; have := sz_174.out; have := sz_186.out; have := sz_198.out; have := sz_213.out; have := sz_225.out; have := sz_237.out; have := sz_252.out; omega))
    clear Rx_247
    have X1_263 := Lib.hid (Wr.blk hwr X1_248.out (by have := sz_4.out; have := sz_20.out; have := sz_36.out; have := sz_40.out; have := sz_41.out; have := sz_42.out; have := sz_54.out; have := sz_57.out; have := sz_58.out; have := sz_59.out; have := sz_66.out; have := sz_68.out; have := sz_85.out; have := sz_88.out; have := sz_89.out; have := sz_90.out; have := sz_91.out; have := sz_100.out; have := sz_102.out; have := sz_124.out; have := sz_127.out; have := sz_128.out; have := sz_129.out; have := sz_130.out; have := sz_131.out; have := sz_142.out; have := sz_144.out; have := sz_174.out; have := sz_186.out; have := sz_198.out; have := sz_213.out; have := sz_225.out; have := sz_237.out; have := sz_252.out; omega))
    clear X1_248
    have Ag_264 := Lib.hid (Wr.rows hwr Ag_249.out RG_125.out (by have := sz_4.out; have := sz_20.out; have := sz_36.out; have := sz_40.out; have := sz_41.out; have := sz_42.out; have := sz_54.out; have := sz_57.out; have := sz_58.out; have := sz_59.out; have := sz_66.out; have := sz_68.out; have := sz_85.out; have := sz_88.out; have := sz_89.out; have := sz_90.out; have := sz_91.out; have := sz_100.out; have := sz_102.out; have := sz_124.out; have := sz_127.out; have := sz_128.out; have := sz_129.out; have := sz_130.out; have := sz_131.out; have := sz_142.out; have := sz_144.out; have := sz_174.out; have := sz_186.out; have := sz_198.out; have := sz_213.out; have := sz_225.out; have := sz_237.out; have := sz_252.out; omega))
    clear Ag_249
    have Bg_265 := Lib.hid (Wr.blk hwr Bg_250.out (by have := sz_4.out; have := sz_20.out; have := sz_36.out; have := sz_40.out; have := sz_41.out; have := sz_42.out; have := sz_54.out; have := sz_57.out; have := sz_58.out; have := sz_59.out; have := sz_66.out; have := sz_68.out; have := sz_85.out; have := sz_88.out; have := sz_89.out; have := sz_90.out; have := sz_91.out; have := sz_100.out; have := sz_102.out; have := sz_124.out; have := sz_127.out; have := sz_128.out; have := sz_129.out; have := sz_130.out; have := sz_131.out; have := sz_142.out; have := sz_144.out; have := sz_174.out; have := sz_186.out; have := sz_198.out; have := sz_213.out; have := sz_225.out; have := sz_237.out; have := sz_252.out; omega))
    clear Bg_250
    have sz_266 := Lib.hid (Wr.size hwr)
    clear hwr
    clear hg
    clear X0_261
    have x_267 := X1_263.out.cell (i := 0) rfl
    have x_268 := X1_263.out.cell (i := 1) rfl
    have x_269 := X1_263.out.cell (i := 2) rfl
    have x_270 := X1_263.out.cell (i := 3) rfl
    have x_271 := X1_263.out.cell (i := 4) rfl
    have x_272 := X1_263.out.cell (i := 5) rfl
    have x_273 := X1_263.out.cell (i := 6) rfl
    have x_274 := X1_263.out.cell (i := 7) rfl
    have lt_275 := X1_263.out.lt
    go_wp2_with fail
    refine (CMR.out _ _ _ _ _ _ _ _ Rx_262.out).mono ?_
    rintro e w15 ⟨rfl, hm, ho⟩
    clear x_267 x_268 x_269 x_270 x_271 x_272 x_273 x_274 lt_275
    have hwr := Wr.of_only ho RG_86.out
    have H_276 := Lib.hid (Wr.orig hwr H_256.out (by have := sz_4.out; have := sz_20.out; have := sz_36.out; have := sz_40.out; have := sz_41.out; have := sz_42.out; have := sz_54.out; have := sz_57.out; have := sz_58.out; have := sz_59.out; have := sz_66.out; have := sz_68.out; have := sz_85.out; have := sz_88.out; have := sz_89.out; have := sz_90.out; have := sz_91.out; have := sz_100.out; have := sz_102.out; have := sz_124.out; have := sz_127.out; have := sz_128.out; have := sz_129.out; have := sz_130.out; have := sz_131.out; have := sz_142.out; have := sz_144.out; have := sz_174.out; have := sz_186.out; have := sz_198.out; have := sz_213.out; have := sz_225.out; have := sz_237.out; have := sz_252.out; have := sz_266.out; omega) (by have := sz_4.out; have := sz_20.out; have := sz_36.out; have := sz_40.out; have := sz_41.out; have := sz_42.out; have := sz_54.out; have := sz_57.out; have := sz_58.out; have := sz_59.out; have := sz_66.out; have := sz_68.out; have := sz_85.out; have := sz_88.out; have := sz_89.out; have := sz_90.out; have := sz_91.out; have := sz_100.out; have := sz_102.out; have := sz_124.out; have := sz_127.out; have := sz_128.out; have := sz_129.out; have := sz_130.out; have := sz_131.out; have := sz_142.out; have := sz_144.out; have := sz_174.out; have := sz_186.out; have := sz_198.out; have := sz_213.out; have := sz_225.out; have := sz_237.out; have := sz_252.out; have := sz_266.out; omega))
    clear H_256
    have BG_277 := Lib.hid (Wr.blk hwr BG_257.out (by have := sz_4.out; have := sz_20.out; have := sz_36.out; have := sz_40.out; have := sz_41.out; have := sz_42.out; have := sz_54.out; have := sz_57.out; have := sz_58.out; have := sz_59.out; have := sz_66.out; have := sz_68.out; have := sz_85.out; have := sz_88.out; have := sz_89.out; have := sz_90.out; have := sz_91.out; have := sz_100.out; have := sz_102.out; have := sz_124.out; have := sz_127.out; have := sz_128.out; have := sz_129.out; have := sz_130.out; have := sz_131.out; have := sz_142.out; have := sz_144.out; have := sz_174.out; have := sz_186.out; have := sz_198.out; have := sz_213.out; have := sz_225.out; have := sz_237.out; have := sz_252.out; have := sz_266.out; omega))
    clear BG_257
    have BR_278 := Lib.hid (Wr.blk hwr BR_258.out (by have := sz_4.out; have := sz_20.out; have := sz_36.out; have := sz_40.out; have := sz_41.out; have := sz_42.out; have := sz_54.out; have := sz_57.out; have := sz_58.out; have := sz_59.out; have := sz_66.out; have := sz_68.out; have := sz_85.out; have := sz_88.out; have := sz_89.out; have := sz_90.out; have := sz_91.out; have := sz_100.out; have := sz_102.out; have := sz_124.out; have := sz_127.out; have := sz_128.out; have := sz_129.out; have := sz_130.out; have := sz_131.out; have := sz_142.out; have := sz_144.out; have := sz_174.out; have := sz_186.out; have := sz_198.out; have := sz_213.out; have := sz_225.out; have := sz_237.out; have := sz_252.out; have := sz_266.out; omega))
    clear BR_258
    have Aw_279 := Lib.hid (Wr.rows hwr Aw_259.out RG_43.out (by have := sz_4.out; have := sz_20.out; have := sz_36.out; have := sz_40.out; have := sz_41.out; have := sz_42.out; have := sz_54.out; have := sz_57.out; have := sz_58.out; have := sz_59.out; have := sz_66.out; have := sz_68.out; have := sz_85.out; have := sz_88.out; have := sz_89.out; have := sz_90.out; have := sz_91.out; have := sz_100.out; have := sz_102.out; have := sz_124.out; have := sz_127.out; have := sz_128.out; have := sz_129.out; have := sz_130.out; have := sz_131.out; have := sz_142.out; have := sz_144.out; have := sz_174.out; have := sz_186.out; have := sz_198.out; have := sz_213.out; have := sz_225.out; have := sz_237.out; have := sz_252.out; have := sz_266.out; omega))
    clear Aw_259
    have Bw_280 := Lib.hid (Wr.blk hwr Bw_260.out (by have := sz_4.out; have := sz_20.out; have := sz_36.out; have := sz_40.out; have := sz_41.out; have := sz_42.out; have := sz_54.out; have := sz_57.out; have := sz_58.out; have := sz_59.out; have := sz_66.out; have := sz_68.out; have := sz_85.out; have := sz_88.out; have := sz_89.out; have := sz_90.out; have := sz_91.out; have := sz_100.out; have := sz_102.out; have := sz_124.out; have := sz_127.out; have := sz_128.out; have := sz_129.out; have := sz_130.out; have := sz_131.out; have := sz_142.out; have := sz_144.out; have := sz_174.out; have := sz_186.out; have := sz_198.out; have := sz_213.out; have := sz_225.out; have := sz_237.out; have := sz_252.out; have := sz_266.out; omega))
    clear Bw_260
    have X1_281 := Lib.hid (Wr.blk hwr X1_263.out (by have := sz_4.out; have := sz_20.out; have := sz_36.out; have := sz_40.out; have := sz_41.out; have := sz_42.out; have := sz_54.out; have := sz_57.out; have := sz_58.out; have := sz_59.out; have := sz_66.out; have := sz_68.out; have := sz_85.out; have := sz_88.out; have := sz_89.out; have := sz_90.out; have := sz_91.out; have := sz_100.out; have := sz_102.out; have := sz_124.out; have := sz_127.out; have := sz_128.out; have := sz_129.out; have := sz_130.out; have := sz_131.out; have := sz_142.out; have := sz_144.out; have := sz_174.out; have := sz_186.out; have := sz_198.out; have := sz_213.out; have := sz_225.out; have := sz_237.out; have := sz_252.out; have := sz_266.out; omega))
    clear X1_263
    have Ag_282 := Lib.hid (Wr.rows hwr Ag_264.out RG_125.out (by have := sz_4.out; have := sz_20.out; have := sz_36.out; have := sz_40.out; have := sz_41.out; have := sz_42.out; have := sz_54.out; have := sz_57.out; have := sz_58.out; have := sz_59.out; have := sz_66.out; have := sz_68.out; have := sz_85.out; have := sz_88.out; have := sz_89.out; have := sz_90.out; have := sz_91.out; have := sz_100.out; have := sz_102.out; have := sz_124.out; have := sz_127.out; have := sz_128.out; have := sz_129.out; have := sz_130.out; have := sz_131.out; have := sz_142.out; have := sz_144.out; have := sz_174.out; have := sz_186.out; have := sz_198.out; have := sz_213.out; have := sz_225.out; have := sz_237.out; have := sz_252.out; have := sz_266.out; omega))
    clear Ag_264
    have Bg_283 := Lib.hid (Wr.blk hwr Bg_265.out (by have := sz_4.out; have := sz_20.out; have := sz_36.out; have := sz_40.out; have := sz_41.out; have := sz_42.out; have := sz_54.out; have := sz_57.out; have := sz_58.out; have := sz_59.out; have := sz_66.out; have := sz_68.out; have := sz_85.out; have := sz_88.out; have := sz_89.out; have := sz_90.out; have := sz_91.out; have := sz_100.out; have := sz_102.out; have := sz_124.out; have := sz_127.out; have := sz_128.out; have := sz_129.out; have := sz_130.out; have := sz_131.out; have := sz_142.out; have := sz_144.out; have := sz_174.out; have := sz_186.out; have := sz_198.out; have := sz_213.out; have := sz_225.out; have := sz_237.out; have := sz_252.out; have := sz_266.out; omega))
    clear Bg_265
    have sz_284 := Lib.hid (Wr.size hwr)
    clear hwr
    clear ho hm
    clear X1_281
    have x_285 := Bg_283.out.cell (i := 0) rfl
    have x_286 := Bg_283.out.cell (i := 1) rfl
    have x_287 := Bg_283.out.cell (i := 2) rfl
    have x_288 := Bg_283.out.cell (i := 3) rfl
    have x_289 := Bg_283.out.cell (i := 4) rfl
    have x_290 := Bg_283.out.cell (i := 5) rfl
    have x_291 := Bg_283.out.cell (i := 6) rfl
    have x_292 := Bg_283.out.cell (i := 7) rfl
    have lt_293 := Bg_283.out.lt
    have x_294 := Bw_280.out.cell (i := 0) rfl
    have x_295 := Bw_280.out.cell (i := 1) rfl
    have x_296 := Bw_280.out.cell (i := 2) rfl
    have x_297 := Bw_280.out.cell (i := 3) rfl
    have x_298 := Bw_280.out.cell (i := 4) rfl
    have x_299 := Bw_280.out.cell (i := 5) rfl
    have x_300 := Bw_280.out.cell (i := 6) rfl
    have x_301 := Bw_280.out.cell (i := 7) rfl
    have lt_302 := Bw_280.out.lt
    go_wp2_with fail
    refine (CEA.out _ _ _ _ _ _ _ _ _ _ _ _ _ _ _ Ag_282.out Aw_279.out).mono ?_
    rintro e w16 ⟨rfl, hb⟩
    clear x_285 x_286 x_287 x_288 x_289 x_290 x_291 x_292 lt_293 x_294 x_295 x_296 x_297 x_298 x_299 x_300 x_301 lt_302
    have H_303 := Lib.hid (g_chain H_276.out hb)
    clear H_276
    have BG_304 := Lib.hid (BG_277.out.below hb)
    clear BG_277
    have BR_305 := Lib.hid (BR_278.out.below hb)
    clear BR_278
    have Aw_306 := Lib.hid (Aw_279.out.below hb)
    clear Aw_279
    have Bw_307 := Lib.hid (Bw_280.out.below hb)
    clear Bw_280
    have Ag_308 := Lib.hid (Ag_282.out.below hb)
    clear Ag_282
    have Bg_309 := Lib.hid (Bg_283.out.below hb)
    clear Bg_283
    have sz_310 := Lib.hid (Below.size hb)
    clear hb
    have x_311 := Bg_309.out.cell (i := 0) rfl
    have x_312 := Bg_309.out.cell (i := 1) rfl
    have x_313 := Bg_309.out.cell (i := 2) rfl
    have x_314 := Bg_309.out.cell (i := 3) rfl
    have x_315 := Bg_309.out.cell (i := 4) rfl
    have x_316 := Bg_309.out.cell (i := 5) rfl
    have x_317 := Bg_309.out.cell (i := 6) rfl
    have x_318 := Bg_309.out.cell (i := 7) rfl
    have lt_319 := Bg_309.out.lt
    go_wp2_with fail
    refine (CMA.out _ _ _ _ _ _ _ _ Ag_308.out).mono ?_
    rintro e w17 ⟨rfl, ⟨hm1, hm2, hm3⟩, ho⟩
    clear x_311 x_312 x_313 x_314 x_315 x_316 x_317 x_318 lt_319
    have hwr := Wr.of_only ho RG_125.out
    have H_320 := Lib.hid (Wr.orig hwr H_303.out (by have := sz_4.out; have := sz_20.out; have := sz_36.out; have := sz_40.out; have := sz_41.out; have := sz_42.out; have := sz_54.out; have := sz_57.out; have := sz_58.out; have := sz_59.out; have := sz_66.out; have := sz_68.out; have := sz_85.out; have := sz_88.out; have := sz_89.out; have := sz_90.out; have := sz_91.out; have := sz_100.out; have := sz_102.out; have := sz_124.out; have := sz_127.out; have := sz_128.out; have := sz_129.out; have := sz_130.out; have := sz_131.out; have := sz_142.out; have := sz_144.out; have := sz_174.out; have := sz_186.out; have := sz_198.out; have := sz_213.out; have := sz_225.out; have := sz_237.out; have := sz_252.out; have := sz_266.out; have := sz_284.out; have := sz_310.out; omega) (by have := sz_4.out; have := sz_20.out; have := sz_36.out; have := sz_40.out; have := sz_41.out; have := sz_42.out; have := sz_54.out; have := sz_57.out; have := sz_58.out; have := sz_59.out; have := sz_66.out; have := sz_68.out; have := sz_85.out; have := sz_88.out; have := sz_89.out; have := sz_90.out; have := sz_91.out; have := sz_100.out; have := sz_102.out; have := sz_124.out; have := sz_127.out; have := sz_128.out; have := sz_129.out; have := sz_130.out; have := sz_131.out; have := sz_142.out; have := sz_144.out; have := sz_174.out; have := sz_186.out; have := sz_198.out; have := sz_213.out; have := sz_225.out; have := sz_237.out; have := sz_252.out; have := sz_266.out; have := sz_284.out; have := sz_310.out; omega))
    clear H_303
    have BG_321 := Lib.hid (Wr.blk hwr BG_304.out (by have := sz_4.out; have := sz_20.out; have := sz_36.out; have := sz_40.out; have := sz_41.out; have := sz_42.out; have := sz_54.out; have := sz_57.out; have := sz_58.out; have := sz_59.out; have := sz_66.out; have := sz_68.out; have := sz_85.out; have := sz_88.out; have := sz_89.out; have := sz_90.out; have := sz_91.out; have := sz_100.out; have := sz_102.out; have := sz_124.out; have := sz_127.out; have := sz_128.out; have := sz_129.out; have := sz_130.out; have := sz_131.out; have := sz_142.out; have := sz_144.out; have := sz_174.out; have := sz_186.out; have := sz_198.out; have := sz_213.out; have := sz_225.out; have := sz_237.out; have := sz_252.out; have := sz_266.out; have := sz_284.out; have := sz_310.out; omega))
    clear BG_304
    have BR_322 := Lib.hid (Wr.blk hwr BR_305.out (by have := sz_4.out; have := sz_20.out; have := sz_36.out; have := sz_40.out; have := sz_41.out; have := sz_42.out; have := sz_54.out; have := sz_57.out; have := sz_58.out; have := sz_59.out; have := sz_66.out; have := sz_68.out; have := sz_85.out; have := sz_88.out; have := sz_89.out; have := sz_90.out; have := sz_91.out; have := sz_100.out; have := sz_102.out; have := sz_124.out; have := sz_127.out; have := sz_128.out; have := sz_129.out; have := sz_130.out; have := sz_131.out; have := sz_142.out; have := sz_144.out; have := sz_174.out; have := sz_186.out; have := sz_198.out; have := sz_213.out; have := sz_225.out; have := sz_237.out; have := sz_252.out; have := sz_266.out; have := sz_284.out; have := sz_310.out; omega))
    clear BR_305
    have Aw_323 := Lib.hid (Wr.rows hwr Aw_306.out RG_43.out (by have := sz_4.out; have := sz_20.out; have := sz_36.out; have := sz_40.out; have := sz_41.out; have := sz_42.out; have := sz_54.out; have := sz_57.out; have := sz_58.out; have := sz_59.out; have := sz_66.out; have := sz_68.out; have := sz_85.out; have := sz_88.out; have := sz_89.out; have := sz_90.out; have := sz_91.out; have := sz_100.out; have := sz_102.out; have := sz_124.out; have := sz_127.out; have := sz_128.out; have := sz_129.out; have := sz_130.out; have := sz_131.out; have := sz_142.out; have := sz_144.out; have := sz_174.out; have := sz_186.out; have := sz_198.out; have := sz_213.out; have := sz_225.out; have := sz_237.out; have := sz_252.out; have := sz_266.out; have := sz_284.out; have := sz_310.out; omega))
    clear Aw_306
    have Bw_324 := Lib.hid (Wr.blk hwr Bw_307.out (by have := sz_4.out; have := sz_20.out; have := sz_36.out; have := sz_40.out; have := sz_41.out; have := sz_42.out; have := sz_54.out; have := sz_57.out; have := sz_58.out; have := sz_59.out; have := sz_66.out; have := sz_68.out; have := sz_85.out; have := sz_88.out; have := sz_89.out; have := sz_90.out; have := sz_91.out; have := sz_100.out; have := sz_102.out; have := sz_124.out; have := sz_127.out; have := sz_128.out; have := sz_129.out; have := sz_130.out; have := sz_131.out; have := sz_142.out; have := sz_144.out; have := sz_174.out; have := sz_186.out; have := sz_198.out; have := sz_213.out; have := sz_225.out; have := sz_237.out; have := sz_252.out; have := sz_266.out; have := sz_284.out; have := sz_310.out; omega))
    clear Bw_307
    have Bg_325 := Lib.hid (Wr.blk hwr Bg_309.out (by have := sz_4.out; have := sz_20.out; have := sz_36.out; have := sz_40.out; have := sz_41.out; have := sz_42.out; have := sz_54.out; have := sz_57.out; have := sz_58.out; have := sz_59.out; have := sz_66.out; have := sz_68.out; have := sz_85.out; have := sz_88.out; have := sz_89.out; have := sz_90.out; have := sz_91.out; have := sz_100.out; have := sz_102.out; have := sz_124.out; have := sz_127.out; have := sz_128.out; have := sz_129.out; have := sz_130.out; have := sz_131.out; have := sz_142.out; have := sz_144.out; have := sz_174.out; have := sz_186.out; have := sz_198.out; have := sz_213.out; have := sz_225.out; have := sz_237.out; have := sz_252.out; have := sz_266.out; have := sz_284.out; have := sz_310.out; omega))
    clear Bg_309
    have sz_326 := Lib.hid (Wr.size hwr)
    clear hwr
    clear ho
    have RG_327 := Lib.hid (hm1).lt
    have M1_328 := Lib.hid (hm1)
    have RG_329 := Lib.hid (hm2).lt
    have M2_330 := Lib.hid (hm2)
    have RG_331 := Lib.hid (hm3).lt
    have M3_332 := Lib.hid (hm3)
    clear hm1 hm2 hm3
    have x_333 := Bg_325.out.cell (i := 0) rfl
    have x_334 := Bg_325.out.cell (i := 1) rfl
    have x_335 := Bg_325.out.cell (i := 2) rfl
    have x_336 := Bg_325.out.cell (i := 3) rfl
    have x_337 := Bg_325.out.cell (i := 4) rfl
    have x_338 := Bg_325.out.cell (i := 5) rfl
    have x_339 := Bg_325.out.cell (i := 6) rfl
    have x_340 := Bg_325.out.cell (i := 7) rfl
    have lt_341 := Bg_325.out.lt
    go_wp2_with fail
    refine (CHA.out _ _ _ _ _ _ _ _ M1_328.out M2_330.out M3_332.out).mono ?_
    rintro e w18 ⟨rfl, hb⟩
    clear x_333 x_334 x_335 x_336 x_337 x_338 x_339 x_340 lt_341
    have H_342 := Lib.hid (g_chain H_320.out hb)
    clear H_320
    have BG_343 := Lib.hid (BG_321.out.below hb)
    clear BG_321
    have BR_344 := Lib.hid (BR_322.out.below hb)
    clear BR_322
    have Aw_345 := Lib.hid (Aw_323.out.below hb)
    clear Aw_323
    have Bw_346 := Lib.hid (Bw_324.out.below hb)
    clear Bw_324
    have Bg_347 := Lib.hid (Bg_325.out.below hb)
    clear Bg_325
    have M1_348 := Lib.hid (own_below M1_328.out hb)
    clear M1_328
    have M2_349 := Lib.hid (own_below M2_330.out hb)
    clear M2_330
    have M3_350 := Lib.hid (own_below M3_332.out hb)
    clear M3_332
    have sz_351 := Lib.hid (Below.size hb)
    clear hb
    go_upto_region 31 with fail
    go_cut [15] (fun (sa : Value) (wx : World) => ∃ (q : Nat) (Aw : Option Addr) (cw : Nat) (Bw : Option Addr) (dw : Nat) (Cw : Option Addr) (kw : Nat), sa = .pointer (some ⟨q, 0, none⟩) ∧ Hid (Below w18.heap.size w18 wx) ∧ Hid (Blk wx q #[.int .i64 rp, .int .i64 rs, .int .i64 ri, .bool rd, .slice Aw rv.length cw, .slice Bw re.length dw, .int .i64 rn, .slice Cw rx.length kw] 32) ∧ Hid (Rows3 wx w18.heap.size Aw rv.length cw Bw re.length dw Cw rx.length kw rv re rx) ∧ Hid (w18.heap.size ≤ q ∧ q < wx.heap.size))
    case first =>
      have HSF : ∀ W, Hid (Below w18.heap.size w18 W) → (W.cell? ⟨w.heap.size, 0, none⟩ = some (.int .i64 N) ∧ W.cell? ⟨w.heap.size, 1, none⟩ = some (.slice AG l cG) ∧ W.cell? ⟨w.heap.size + 1, 0, none⟩ = some (.int .i64 p) ∧ W.cell? ⟨w.heap.size + 1, 1, none⟩ = some (.int .i64 s) ∧ W.cell? ⟨w.heap.size + 1, 2, none⟩ = some (.int .i64 it) ∧ W.cell? ⟨w.heap.size + 1, 3, none⟩ = some (.bool dn) ∧ W.cell? ⟨w.heap.size + 1, 4, none⟩ = some (.slice A n c) ∧ W.cell? ⟨w.heap.size + 1, 5, none⟩ = some (.slice B m d) ∧ W.cell? ⟨w.heap.size + 1, 6, none⟩ = some (.int .i64 nn) ∧ W.cell? ⟨w.heap.size + 1, 7, none⟩ = some (.slice C nx.length k)) := fun W HR => ⟨(BG_343.out.below HR.out).cell (i := 0) rfl, (BG_343.out.below HR.out).cell (i := 1) rfl, (BR_344.out.below HR.out).cell (i := 0) rfl, (BR_344.out.below HR.out).cell (i := 1) rfl, (BR_344.out.below HR.out).cell (i := 2) rfl, (BR_344.out.below HR.out).cell (i := 3) rfl, (BR_344.out.below HR.out).cell (i := 4) rfl, (BR_344.out.below HR.out).cell (i := 5) rfl, (BR_344.out.below HR.out).cell (i := 6) rfl, (BR_344.out.below HR.out).cell (i := 7) rfl⟩
      have HR : Hid (Below w18.heap.size w18 w18.drew) := Lib.hid (Below.refl _ _).drew
      refine wp_region_any (by kernel_rfl) ?_
      change wpAny _ _ _ _ _ _ _ (World.drew _)
      refine wpAny_of_held (S := fun W => W.cell? ⟨w.heap.size, 0, none⟩ = some (.int .i64 N) ∧ W.cell? ⟨w.heap.size, 1, none⟩ = some (.slice AG l cG) ∧ W.cell? ⟨w.heap.size + 1, 0, none⟩ = some (.int .i64 p) ∧ W.cell? ⟨w.heap.size + 1, 1, none⟩ = some (.int .i64 s) ∧ W.cell? ⟨w.heap.size + 1, 2, none⟩ = some (.int .i64 it) ∧ W.cell? ⟨w.heap.size + 1, 3, none⟩ = some (.bool dn) ∧ W.cell? ⟨w.heap.size + 1, 4, none⟩ = some (.slice A n c) ∧ W.cell? ⟨w.heap.size + 1, 5, none⟩ = some (.slice B m d) ∧ W.cell? ⟨w.heap.size + 1, 6, none⟩ = some (.int .i64 nn) ∧ W.cell? ⟨w.heap.size + 1, 7, none⟩ = some (.slice C nx.length k)) _ _ _ _ ?_
      generalize hDD : World.drew w18 = W at HR ⊢
      clear hDD
      refine wpAnyH_take (i := 0) (oi := ⟨_, _, _, _, _, _⟩) (v := .agg #[.int .i64 N, .slice AG l cG]) rfl (by kernel_rfl) (by kernel_rfl) (by kernel_rfl) (fun _ _ _ h => h) (Or.inl ⟨by kernel_rfl, fun W hS => by (obtain ⟨s0, s1, s2, s3, s4, s5, s6, s7, s8, s9⟩ := hS); go_simp⟩) (HSF _ HR) ?_
      (try simp only [Act.put, List.setIfInBounds_toArray, List.set_cons_zero, List.set_cons_succ])
      refine wpAnyH_take (i := 2) (oi := ⟨_, _, _, _, _, _⟩) (v := .agg #[.int .i64 p, .int .i64 s, .int .i64 it, .bool dn, .slice A n c, .slice B m d, .int .i64 nn, .slice C nx.length k]) rfl (by kernel_rfl) (by kernel_rfl) (by kernel_rfl) (fun _ _ _ h => h) (Or.inl ⟨by kernel_rfl, fun W hS => by (obtain ⟨s0, s1, s2, s3, s4, s5, s6, s7, s8, s9⟩ := hS); go_simp⟩) (HSF _ HR) ?_
      (try simp only [Act.put, List.setIfInBounds_toArray, List.set_cons_zero, List.set_cons_succ])
      refine wpAnyH_take (i := 4) (oi := ⟨_, _, _, _, _, _⟩) (v := .int .i64 most) rfl (by kernel_rfl) (by kernel_rfl) (by kernel_rfl) (fun _ _ _ h => h) (Or.inl ⟨by kernel_rfl, fun W hS => by (obtain ⟨s0, s1, s2, s3, s4, s5, s6, s7, s8, s9⟩ := hS); go_simp⟩) (HSF _ HR) ?_
      (try simp only [Act.put, List.setIfInBounds_toArray, List.set_cons_zero, List.set_cons_succ])
      refine (fun (Gr31_3_1 : ∀ (W : World) (Ad : Option Addr) (cd : Nat) (A9 : Option Addr) (c9 : Nat) (B9 : Option Addr) (d9 : Nat) (C9 : Option Addr) (k9 : Nat) (Aw : Option Addr) (cw : Nat) (Bw : Option Addr) (dw : Nat) (Cw : Option Addr) (kw : Nat) (q : Nat), Hid (Below w18.heap.size w18 W) → Hid (Rows3 W w18.heap.size Aw rv.length cw Bw re.length dw Cw rx.length kw rv re rx) → Hid (Blk W q #[.int .i64 0, .int .i64 0, .int .i64 0, .bool false, .slice none 0 0, .slice none 0 0, .int .i64 0, .slice none 0 0] 32) → Hid (w18.heap.size ≤ q) → (?Xr31_3_1 : World → (Option Addr) → Nat → (Option Addr) → Nat → (Option Addr) → Nat → (Option Addr) → Nat → (Option Addr) → Nat → (Option Addr) → Nat → (Option Addr) → Nat → Nat → Prop) W Ad cd A9 c9 B9 d9 C9 k9 Aw cw Bw dw Cw kw q) => ?_) ?_
      rotate_left
      refine (fun (Gr31_3_0 : ∀ (W : World) (Ad : Option Addr) (cd : Nat) (A9 : Option Addr) (c9 : Nat) (B9 : Option Addr) (d9 : Nat) (C9 : Option Addr) (k9 : Nat) (Aw : Option Addr) (cw : Nat) (Bw : Option Addr) (dw : Nat) (Cw : Option Addr) (kw : Nat), Hid (Below w18.heap.size w18 W) → Hid (Rows3 W w18.heap.size Aw rv.length cw Bw re.length dw Cw rx.length kw rv re rx) → (?Xr31_3_0 : World → (Option Addr) → Nat → (Option Addr) → Nat → (Option Addr) → Nat → (Option Addr) → Nat → (Option Addr) → Nat → (Option Addr) → Nat → (Option Addr) → Nat → Prop) W Ad cd A9 c9 B9 d9 C9 k9 Aw cw Bw dw Cw kw) => ?_) ?_
      rotate_left
      refine (fun (Gr31_2_1 : ∀ (W : World) (Ad : Option Addr) (cd : Nat) (A9 : Option Addr) (c9 : Nat) (B9 : Option Addr) (d9 : Nat) (C9 : Option Addr) (k9 : Nat) (q : Nat), Hid (Below w18.heap.size w18 W) → Hid (W.ownsRow w18.heap.size 113 3 (.slice Ad l cd) l (G.flatMap GE.cells)) → Hid (Rows3 W w18.heap.size A9 n c9 B9 m d9 C9 nx.length k9 vs ev nx) → Hid (Blk W q #[.int .i64 0, .int .i64 0, .int .i64 0, .bool false, .slice none 0 0, .slice none 0 0, .int .i64 0, .slice none 0 0] 32) → Hid (w18.heap.size ≤ q) → (?Xr31_2_1 : World → (Option Addr) → Nat → (Option Addr) → Nat → (Option Addr) → Nat → (Option Addr) → Nat → Nat → Prop) W Ad cd A9 c9 B9 d9 C9 k9 q) => ?_) ?_
      rotate_left
      refine (fun (Gr31_2_0 : ∀ (W : World) (Ad : Option Addr) (cd : Nat) (A9 : Option Addr) (c9 : Nat) (B9 : Option Addr) (d9 : Nat) (C9 : Option Addr) (k9 : Nat), Hid (Below w18.heap.size w18 W) → Hid (W.ownsRow w18.heap.size 113 3 (.slice Ad l cd) l (G.flatMap GE.cells)) → Hid (Rows3 W w18.heap.size A9 n c9 B9 m d9 C9 nx.length k9 vs ev nx) → (?Xr31_2_0 : World → (Option Addr) → Nat → (Option Addr) → Nat → (Option Addr) → Nat → (Option Addr) → Nat → Prop) W Ad cd A9 c9 B9 d9 C9 k9) => ?_) ?_
      rotate_left
      refine (fun (Gr31_1_1 : ∀ (W : World) (Ad : Option Addr) (cd : Nat) (q : Nat), Hid (Below w18.heap.size w18 W) → Hid (W.ownsRow w18.heap.size 113 3 (.slice Ad l cd) l (G.flatMap GE.cells)) → Hid (Blk W q #[.int .i64 0, .int .i64 0, .int .i64 0, .bool false, .slice none 0 0, .slice none 0 0, .int .i64 0, .slice none 0 0] 32) → Hid (w18.heap.size ≤ q) → (?Xr31_1_1 : World → (Option Addr) → Nat → Nat → Prop) W Ad cd q) => ?_) ?_
      rotate_left
      refine (fun (Gr31_1_0 : ∀ (W : World) (Ad : Option Addr) (cd : Nat), Hid (Below w18.heap.size w18 W) → Hid (W.ownsRow w18.heap.size 113 3 (.slice Ad l cd) l (G.flatMap GE.cells)) → (?Xr31_1_0 : World → (Option Addr) → Nat → Prop) W Ad cd) => ?_) ?_
      rotate_left
      refine (fun (Gr31_0_1 : ∀ (W : World) (q : Nat), Hid (Below w18.heap.size w18 W) → Hid (Blk W q #[.int .i64 0, .int .i64 0, .int .i64 0, .bool false, .slice none 0 0, .slice none 0 0, .int .i64 0, .slice none 0 0] 32) → Hid (w18.heap.size ≤ q) → (?Xr31_0_1 : World → Nat → Prop) W q) => ?_) ?_
      rotate_left
      change wpAnyH _ _ _ _ _ _ #[true, false, true, false, true, false, false, false] _ _
      refine wpAnyH_ready (rs := [1, 6]) (by kernel_rfl) (by simp) (AllReadyH.cons rfl (fun K hK => ?_) (AllReadyH.cons rfl (fun K hK => ?_) AllReadyH.nil))
      · skip
        go_simp
        go_at_call 20
        refine (CTG.out W (g_chain H_342.out HR.out)).mono ?_
        rintro e W2 ⟨Ad, cd, rfl, ho, hb⟩
        have DG : Hid (W2.ownsRow w18.heap.size 113 3 (.slice Ad l cd) l (G.flatMap GE.cells)) := Lib.hid (own_monoG ho (Below.size HR.out))
        have HR := Lib.hid (g_chain HR.out hb)
        clear hb
        dsimp only
        refine hK.out _ _ (HSF _ HR) (fun _ => ?_)
        clear hK K
        (try simp only [List.setIfInBounds_toArray, List.set_cons_zero, List.set_cons_succ])
        change wpAnyH _ _ _ _ _ _ #[true, true, true, false, true, false, false, false] _ _
        exact Gr31_1_0 W2 Ad cd HR DG
      · skip
        go_simp
        have hb := below_a1 W (.cells #[.int .i64 0, .int .i64 0, .int .i64 0, .bool false, .slice none 0 0, .slice none 0 0, .int .i64 0, .slice none 0 0] 32)
        have Zq : Hid (Blk (W.alloc (.cells #[.int .i64 0, .int .i64 0, .int .i64 0, .bool false, .slice none 0 0, .slice none 0 0, .int .i64 0, .slice none 0 0] 32)) W.heap.size #[.int .i64 0, .int .i64 0, .int .i64 0, .bool false, .slice none 0 0, .slice none 0 0, .int .i64 0, .slice none 0 0] 32) := Lib.hid (Blk.new W #[.int .i64 0, .int .i64 0, .int .i64 0, .bool false, .slice none 0 0, .slice none 0 0, .int .i64 0, .slice none 0 0] 32)
        have HQq : Hid (w18.heap.size ≤ W.heap.size) := Lib.hid (Below.size HR.out)
        have HR := Lib.hid (g_chain HR.out hb)
        clear hb
        refine hK.out _ _ (HSF _ HR) (fun _ => ?_)
        clear hK K
        (try simp only [List.setIfInBounds_toArray, List.set_cons_zero, List.set_cons_succ])
        generalize hZ : W.alloc (.cells #[.int .i64 0, .int .i64 0, .int .i64 0, .bool false, .slice none 0 0, .slice none 0 0, .int .i64 0, .slice none 0 0] 32) = W2 at Zq HR ⊢
        clear hZ
        generalize hZ : W.heap.size = q at Zq HQq ⊢
        clear hZ
        change wpAnyH _ _ _ _ _ _ #[true, false, true, false, true, false, true, false] _ _
        exact Gr31_0_1 W2 q HR Zq HQq
      · intro W q HR Zq HQq
        change wpAnyH _ _ _ _ _ _ #[true, false, true, false, true, false, true, false] _ _
        refine wpAnyH_ready (rs := [1]) (by kernel_rfl) (by simp) (AllReadyH.cons rfl (fun K hK => ?_) AllReadyH.nil)
        · skip
          go_simp
          go_at_call 20
          refine (CTG.out W (g_chain H_342.out HR.out)).mono ?_
          rintro e W2 ⟨Ad, cd, rfl, ho, hb⟩
          have Zq : Hid (Blk W2 q #[.int .i64 0, .int .i64 0, .int .i64 0, .bool false, .slice none 0 0, .slice none 0 0, .int .i64 0, .slice none 0 0] 32) := Lib.hid (Zq.out.below hb)
          have HQq : Hid (w18.heap.size ≤ q) := Lib.hid (HQq.out)
          have DG : Hid (W2.ownsRow w18.heap.size 113 3 (.slice Ad l cd) l (G.flatMap GE.cells)) := Lib.hid (own_monoG ho (Below.size HR.out))
          have HR := Lib.hid (g_chain HR.out hb)
          clear hb
          dsimp only
          refine hK.out _ _ (HSF _ HR) (fun _ => ?_)
          clear hK K
          (try simp only [List.setIfInBounds_toArray, List.set_cons_zero, List.set_cons_succ])
          change wpAnyH _ _ _ _ _ _ #[true, true, true, false, true, false, true, false] _ _
          exact Gr31_1_1 W2 Ad cd q HR DG Zq HQq
      · intro W Ad cd HR DG
        change wpAnyH _ _ _ _ _ _ #[true, true, true, false, true, false, false, false] _ _
        refine wpAnyH_ready (rs := [3, 6]) (by kernel_rfl) (by simp) (AllReadyH.cons rfl (fun K hK => ?_) (AllReadyH.cons rfl (fun K hK => ?_) AllReadyH.nil))
        · skip
          go_simp
          go_at_call 21
          refine (CTR.out W (g_chain H_342.out HR.out)).mono ?_
          rintro e W2 ⟨A9, c9, B9, d9, C9, k9, rfl, ho, hb⟩
          have DG : Hid (W2.ownsRow w18.heap.size 113 3 (.slice Ad l cd) l (G.flatMap GE.cells)) := Lib.hid (own_below DG.out hb)
          have DR : Hid (Rows3 W2 w18.heap.size A9 n c9 B9 m d9 C9 nx.length k9 vs ev nx) := Lib.hid (Rows3.mono ho (Below.size HR.out))
          have HR := Lib.hid (g_chain HR.out hb)
          clear hb
          dsimp only
          refine hK.out _ _ (HSF _ HR) (fun _ => ?_)
          clear hK K
          (try simp only [List.setIfInBounds_toArray, List.set_cons_zero, List.set_cons_succ])
          change wpAnyH _ _ _ _ _ _ #[true, true, true, true, true, false, false, false] _ _
          exact Gr31_2_0 W2 Ad cd A9 c9 B9 d9 C9 k9 HR DG DR
        · skip
          go_simp
          have hb := below_a1 W (.cells #[.int .i64 0, .int .i64 0, .int .i64 0, .bool false, .slice none 0 0, .slice none 0 0, .int .i64 0, .slice none 0 0] 32)
          have DG : Hid ((W.alloc (.cells #[.int .i64 0, .int .i64 0, .int .i64 0, .bool false, .slice none 0 0, .slice none 0 0, .int .i64 0, .slice none 0 0] 32)).ownsRow w18.heap.size 113 3 (.slice Ad l cd) l (G.flatMap GE.cells)) := Lib.hid (own_below DG.out hb)
          have Zq : Hid (Blk (W.alloc (.cells #[.int .i64 0, .int .i64 0, .int .i64 0, .bool false, .slice none 0 0, .slice none 0 0, .int .i64 0, .slice none 0 0] 32)) W.heap.size #[.int .i64 0, .int .i64 0, .int .i64 0, .bool false, .slice none 0 0, .slice none 0 0, .int .i64 0, .slice none 0 0] 32) := Lib.hid (Blk.new W #[.int .i64 0, .int .i64 0, .int .i64 0, .bool false, .slice none 0 0, .slice none 0 0, .int .i64 0, .slice none 0 0] 32)
          have HQq : Hid (w18.heap.size ≤ W.heap.size) := Lib.hid (Below.size HR.out)
          have HR := Lib.hid (g_chain HR.out hb)
          clear hb
          refine hK.out _ _ (HSF _ HR) (fun _ => ?_)
          clear hK K
          (try simp only [List.setIfInBounds_toArray, List.set_cons_zero, List.set_cons_succ])
          generalize hZ : W.alloc (.cells #[.int .i64 0, .int .i64 0, .int .i64 0, .bool false, .slice none 0 0, .slice none 0 0, .int .i64 0, .slice none 0 0] 32) = W2 at DG Zq HR ⊢
          clear hZ
          generalize hZ : W.heap.size = q at Zq HQq ⊢
          clear hZ
          change wpAnyH _ _ _ _ _ _ #[true, true, true, false, true, false, true, false] _ _
          exact Gr31_1_1 W2 Ad cd q HR DG Zq HQq
      · intro W Ad cd q HR DG Zq HQq
        change wpAnyH _ _ _ _ _ _ #[true, true, true, false, true, false, true, false] _ _
        refine wpAnyH_ready (rs := [3]) (by kernel_rfl) (by simp) (AllReadyH.cons rfl (fun K hK => ?_) AllReadyH.nil)
        · skip
          go_simp
          go_at_call 21
          refine (CTR.out W (g_chain H_342.out HR.out)).mono ?_
          rintro e W2 ⟨A9, c9, B9, d9, C9, k9, rfl, ho, hb⟩
          have DG : Hid (W2.ownsRow w18.heap.size 113 3 (.slice Ad l cd) l (G.flatMap GE.cells)) := Lib.hid (own_below DG.out hb)
          have Zq : Hid (Blk W2 q #[.int .i64 0, .int .i64 0, .int .i64 0, .bool false, .slice none 0 0, .slice none 0 0, .int .i64 0, .slice none 0 0] 32) := Lib.hid (Zq.out.below hb)
          have HQq : Hid (w18.heap.size ≤ q) := Lib.hid (HQq.out)
          have DR : Hid (Rows3 W2 w18.heap.size A9 n c9 B9 m d9 C9 nx.length k9 vs ev nx) := Lib.hid (Rows3.mono ho (Below.size HR.out))
          have HR := Lib.hid (g_chain HR.out hb)
          clear hb
          dsimp only
          refine hK.out _ _ (HSF _ HR) (fun _ => ?_)
          clear hK K
          (try simp only [List.setIfInBounds_toArray, List.set_cons_zero, List.set_cons_succ])
          change wpAnyH _ _ _ _ _ _ #[true, true, true, true, true, false, true, false] _ _
          exact Gr31_2_1 W2 Ad cd A9 c9 B9 d9 C9 k9 q HR DG DR Zq HQq
      · intro W Ad cd A9 c9 B9 d9 C9 k9 HR DG DR
        change wpAnyH _ _ _ _ _ _ #[true, true, true, true, true, false, false, false] _ _
        refine wpAnyH_ready (rs := [5, 6]) (by kernel_rfl) (by simp) (AllReadyH.cons rfl (fun K hK => ?_) (AllReadyH.cons rfl (fun K hK => ?_) AllReadyH.nil))
        · skip
          go_simp
          go_at_call 10
          refine (CI.out W (g_chain H_342.out HR.out) _ _ _ _ _ _ _ _ _ _ DG.out DR.out).mono ?_
          rintro e W2 ⟨Aw, cw, Bw, dw, Cw, kw, rfl, ho, hb⟩
          have O : Hid (Rows3 W2 w18.heap.size Aw rv.length cw Bw re.length dw Cw rx.length kw rv re rx) := Lib.hid (Rows3.mono ho (Below.size HR.out))
          have HR := Lib.hid (g_chain HR.out hb)
          clear hb
          dsimp only
          refine hK.out _ _ (HSF _ HR) (fun _ => ?_)
          clear hK K
          (try simp only [List.setIfInBounds_toArray, List.set_cons_zero, List.set_cons_succ])
          change wpAnyH _ _ _ _ _ _ #[true, true, true, true, true, true, false, false] _ _
          exact Gr31_3_0 W2 Ad cd A9 c9 B9 d9 C9 k9 Aw cw Bw dw Cw kw HR O
        · skip
          go_simp
          have hb := below_a1 W (.cells #[.int .i64 0, .int .i64 0, .int .i64 0, .bool false, .slice none 0 0, .slice none 0 0, .int .i64 0, .slice none 0 0] 32)
          have DG : Hid ((W.alloc (.cells #[.int .i64 0, .int .i64 0, .int .i64 0, .bool false, .slice none 0 0, .slice none 0 0, .int .i64 0, .slice none 0 0] 32)).ownsRow w18.heap.size 113 3 (.slice Ad l cd) l (G.flatMap GE.cells)) := Lib.hid (own_below DG.out hb)
          have DR : Hid (Rows3 (W.alloc (.cells #[.int .i64 0, .int .i64 0, .int .i64 0, .bool false, .slice none 0 0, .slice none 0 0, .int .i64 0, .slice none 0 0] 32)) w18.heap.size A9 n c9 B9 m d9 C9 nx.length k9 vs ev nx) := Lib.hid (DR.out.below hb)
          have Zq : Hid (Blk (W.alloc (.cells #[.int .i64 0, .int .i64 0, .int .i64 0, .bool false, .slice none 0 0, .slice none 0 0, .int .i64 0, .slice none 0 0] 32)) W.heap.size #[.int .i64 0, .int .i64 0, .int .i64 0, .bool false, .slice none 0 0, .slice none 0 0, .int .i64 0, .slice none 0 0] 32) := Lib.hid (Blk.new W #[.int .i64 0, .int .i64 0, .int .i64 0, .bool false, .slice none 0 0, .slice none 0 0, .int .i64 0, .slice none 0 0] 32)
          have HQq : Hid (w18.heap.size ≤ W.heap.size) := Lib.hid (Below.size HR.out)
          have HR := Lib.hid (g_chain HR.out hb)
          clear hb
          refine hK.out _ _ (HSF _ HR) (fun _ => ?_)
          clear hK K
          (try simp only [List.setIfInBounds_toArray, List.set_cons_zero, List.set_cons_succ])
          generalize hZ : W.alloc (.cells #[.int .i64 0, .int .i64 0, .int .i64 0, .bool false, .slice none 0 0, .slice none 0 0, .int .i64 0, .slice none 0 0] 32) = W2 at DG DR Zq HR ⊢
          clear hZ
          generalize hZ : W.heap.size = q at Zq HQq ⊢
          clear hZ
          change wpAnyH _ _ _ _ _ _ #[true, true, true, true, true, false, true, false] _ _
          exact Gr31_2_1 W2 Ad cd A9 c9 B9 d9 C9 k9 q HR DG DR Zq HQq
      · intro W Ad cd A9 c9 B9 d9 C9 k9 q HR DG DR Zq HQq
        change wpAnyH _ _ _ _ _ _ #[true, true, true, true, true, false, true, false] _ _
        refine wpAnyH_ready (rs := [5]) (by kernel_rfl) (by simp) (AllReadyH.cons rfl (fun K hK => ?_) AllReadyH.nil)
        · skip
          go_simp
          go_at_call 10
          refine (CI.out W (g_chain H_342.out HR.out) _ _ _ _ _ _ _ _ _ _ DG.out DR.out).mono ?_
          rintro e W2 ⟨Aw, cw, Bw, dw, Cw, kw, rfl, ho, hb⟩
          have Zq : Hid (Blk W2 q #[.int .i64 0, .int .i64 0, .int .i64 0, .bool false, .slice none 0 0, .slice none 0 0, .int .i64 0, .slice none 0 0] 32) := Lib.hid (Zq.out.below hb)
          have HQq : Hid (w18.heap.size ≤ q) := Lib.hid (HQq.out)
          have O : Hid (Rows3 W2 w18.heap.size Aw rv.length cw Bw re.length dw Cw rx.length kw rv re rx) := Lib.hid (Rows3.mono ho (Below.size HR.out))
          have HR := Lib.hid (g_chain HR.out hb)
          clear hb
          dsimp only
          refine hK.out _ _ (HSF _ HR) (fun _ => ?_)
          clear hK K
          (try simp only [List.setIfInBounds_toArray, List.set_cons_zero, List.set_cons_succ])
          change wpAnyH _ _ _ _ _ _ #[true, true, true, true, true, true, true, false] _ _
          exact Gr31_3_1 W2 Ad cd A9 c9 B9 d9 C9 k9 Aw cw Bw dw Cw kw q HR O Zq HQq
      · intro W Ad cd A9 c9 B9 d9 C9 k9 Aw cw Bw dw Cw kw HR O
        change wpAnyH _ _ _ _ _ _ #[true, true, true, true, true, true, false, false] _ _
        refine wpAnyH_ready (rs := [6]) (by kernel_rfl) (by simp) (AllReadyH.cons rfl (fun K hK => ?_) AllReadyH.nil)
        · skip
          go_simp
          have hb := below_a1 W (.cells #[.int .i64 0, .int .i64 0, .int .i64 0, .bool false, .slice none 0 0, .slice none 0 0, .int .i64 0, .slice none 0 0] 32)
          have O : Hid (Rows3 (W.alloc (.cells #[.int .i64 0, .int .i64 0, .int .i64 0, .bool false, .slice none 0 0, .slice none 0 0, .int .i64 0, .slice none 0 0] 32)) w18.heap.size Aw rv.length cw Bw re.length dw Cw rx.length kw rv re rx) := Lib.hid (O.out.below hb)
          have Zq : Hid (Blk (W.alloc (.cells #[.int .i64 0, .int .i64 0, .int .i64 0, .bool false, .slice none 0 0, .slice none 0 0, .int .i64 0, .slice none 0 0] 32)) W.heap.size #[.int .i64 0, .int .i64 0, .int .i64 0, .bool false, .slice none 0 0, .slice none 0 0, .int .i64 0, .slice none 0 0] 32) := Lib.hid (Blk.new W #[.int .i64 0, .int .i64 0, .int .i64 0, .bool false, .slice none 0 0, .slice none 0 0, .int .i64 0, .slice none 0 0] 32)
          have HQq : Hid (w18.heap.size ≤ W.heap.size) := Lib.hid (Below.size HR.out)
          have HR := Lib.hid (g_chain HR.out hb)
          clear hb
          refine hK.out _ _ (HSF _ HR) (fun _ => ?_)
          clear hK K
          (try simp only [List.setIfInBounds_toArray, List.set_cons_zero, List.set_cons_succ])
          generalize hZ : W.alloc (.cells #[.int .i64 0, .int .i64 0, .int .i64 0, .bool false, .slice none 0 0, .slice none 0 0, .int .i64 0, .slice none 0 0] 32) = W2 at O Zq HR ⊢
          clear hZ
          generalize hZ : W.heap.size = q at Zq HQq ⊢
          clear hZ
          change wpAnyH _ _ _ _ _ _ #[true, true, true, true, true, true, true, false] _ _
          exact Gr31_3_1 W2 Ad cd A9 c9 B9 d9 C9 k9 Aw cw Bw dw Cw kw q HR O Zq HQq
      · intro W Ad cd A9 c9 B9 d9 C9 k9 Aw cw Bw dw Cw kw q HR O Zq HQq
        change wpAnyH _ _ _ _ _ _ #[true, true, true, true, true, true, true, false] _ _
        refine wpAnyH_ready (rs := [7]) (by kernel_rfl) (by simp) (AllReadyH.cons rfl (fun K hK => ?_) AllReadyH.nil)
        obtain ⟨zl, z0, z1, z2, z3, z4, z5, z6, z7⟩ := Zq.out.eight
        obtain ⟨f0, f1, f2, f3, f4, f5, f6, f7⟩ := Zq.out.eightF
        go_simp
        clear z0 z1 z2 z3 z4 z5 z6 z7 f0 f1 f2 f3 f4 f5 f6 f7
        have hgr := layR_grown W q (.int .i64 rp) (.int .i64 rs) (.int .i64 ri) (.bool rd) (.slice Aw rv.length cw) (.slice Bw re.length dw) (.int .i64 rn) (.slice Cw rx.length kw)
        have EBG := Lib.hid ((BG_343.out.below HR.out).grown hgr (by intro e; injection e with e; have h1 := HQq.out; have h2 := BG_343.out.lt; omega))
        have EBR := Lib.hid ((BR_344.out.below HR.out).grown hgr (by intro e; injection e with e; have h1 := HQq.out; have h2 := BR_344.out.lt; omega))
        refine hK.out _ _ ⟨EBG.out.cell (i := 0) rfl, EBG.out.cell (i := 1) rfl, EBR.out.cell (i := 0) rfl, EBR.out.cell (i := 1) rfl, EBR.out.cell (i := 2) rfl, EBR.out.cell (i := 3) rfl, EBR.out.cell (i := 4) rfl, EBR.out.cell (i := 5) rfl, EBR.out.cell (i := 6) rfl, EBR.out.cell (i := 7) rfl⟩ (fun _ => ?_)
        clear hK K
        (try simp only [List.setIfInBounds_toArray, List.set_cons_zero, List.set_cons_succ])
        refine wpAnyH_done (by kernel_rfl) ?_ _
        go_wp2_with fail
        go_meet
        exact ⟨q, Aw, cw, Bw, dw, Cw, kw, rfl, Lib.hid (HR.out.grown hgr (Below.size HR.out) (fun j hj => by injection hj with hj; have h1 := HQq.out; omega)), Lib.hid (layR_blk Zq.out), Lib.hid ⟨own_kept O.out.v hgr (own_kind O.out.v Zq.out (by decide)), own_kept O.out.e hgr (own_kind O.out.e Zq.out (by decide)), own_kept O.out.x hgr (own_kind O.out.x Zq.out (by decide)), O.out.ap⟩, Lib.hid ⟨HQq.out, Nat.lt_of_lt_of_le zl hgr.size⟩⟩
    case rest =>
      rename World => w19
      obtain ⟨qh, Awh, cwh, Bwh, dwh, Cwh, kwh, rfl, hb, hx, ho, hq⟩ := hcut
      have H_352 := Lib.hid (g_chain H_342.out hb.out)
      clear H_342
      have BG_353 := Lib.hid (BG_343.out.below hb.out)
      clear BG_343
      have BR_354 := Lib.hid (BR_344.out.below hb.out)
      clear BR_344
      have Aw_355 := Lib.hid (Aw_345.out.below hb.out)
      clear Aw_345
      have Bw_356 := Lib.hid (Bw_346.out.below hb.out)
      clear Bw_346
      have Bg_357 := Lib.hid (Bg_347.out.below hb.out)
      clear Bg_347
      have M1_358 := Lib.hid (own_below M1_348.out hb.out)
      clear M1_348
      have M2_359 := Lib.hid (own_below M2_349.out hb.out)
      clear M2_349
      have M3_360 := Lib.hid (own_below M3_350.out hb.out)
      clear M3_350
      have sz_361 := Lib.hid (Below.size hb.out)
      have sz_362 := Lib.hid (hq.out.1)
      have sz_363 := Lib.hid (hq.out.2)
      have RG_364 := Lib.hid (ho.out).at_
      have Ah_365 := Lib.hid (ho.out)
      have Bh_366 := Lib.hid (hx.out)
      clear hb hx ho hq
      have x_367 := Bh_366.out.cell (i := 0) rfl
      have x_368 := Bh_366.out.cell (i := 1) rfl
      have x_369 := Bh_366.out.cell (i := 2) rfl
      have x_370 := Bh_366.out.cell (i := 3) rfl
      have x_371 := Bh_366.out.cell (i := 4) rfl
      have x_372 := Bh_366.out.cell (i := 5) rfl
      have x_373 := Bh_366.out.cell (i := 6) rfl
      have x_374 := Bh_366.out.cell (i := 7) rfl
      have lt_375 := Bh_366.out.lt
      have x_376 := Bw_356.out.cell (i := 0) rfl
      have x_377 := Bw_356.out.cell (i := 1) rfl
      have x_378 := Bw_356.out.cell (i := 2) rfl
      have x_379 := Bw_356.out.cell (i := 3) rfl
      have x_380 := Bw_356.out.cell (i := 4) rfl
      have x_381 := Bw_356.out.cell (i := 5) rfl
      have x_382 := Bw_356.out.cell (i := 6) rfl
      have x_383 := Bw_356.out.cell (i := 7) rfl
      have lt_384 := Bw_356.out.lt
      go_wp2_with fail
      refine (CEA.out _ _ _ _ _ _ _ _ _ _ _ _ _ _ _ Ah_365.out Aw_355.out).mono ?_
      rintro e w20 ⟨rfl, hb⟩
      clear x_367 x_368 x_369 x_370 x_371 x_372 x_373 x_374 lt_375 x_376 x_377 x_378 x_379 x_380 x_381 x_382 x_383 lt_384
      have H_385 := Lib.hid (g_chain H_352.out hb)
      clear H_352
      have BG_386 := Lib.hid (BG_353.out.below hb)
      clear BG_353
      have BR_387 := Lib.hid (BR_354.out.below hb)
      clear BR_354
      have Aw_388 := Lib.hid (Aw_355.out.below hb)
      clear Aw_355
      have Bw_389 := Lib.hid (Bw_356.out.below hb)
      clear Bw_356
      have Bg_390 := Lib.hid (Bg_357.out.below hb)
      clear Bg_357
      have M1_391 := Lib.hid (own_below M1_358.out hb)
      clear M1_358
      have M2_392 := Lib.hid (own_below M2_359.out hb)
      clear M2_359
      have M3_393 := Lib.hid (own_below M3_360.out hb)
      clear M3_360
      have Ah_394 := Lib.hid (Ah_365.out.below hb)
      clear Ah_365
      have Bh_395 := Lib.hid (Bh_366.out.below hb)
      clear Bh_366
      have sz_396 := Lib.hid (Below.size hb)
      clear hb
      have x_397 := Bg_390.out.cell (i := 0) rfl
      have x_398 := Bg_390.out.cell (i := 1) rfl
      have x_399 := Bg_390.out.cell (i := 2) rfl
      have x_400 := Bg_390.out.cell (i := 3) rfl
      have x_401 := Bg_390.out.cell (i := 4) rfl
      have x_402 := Bg_390.out.cell (i := 5) rfl
      have x_403 := Bg_390.out.cell (i := 6) rfl
      have x_404 := Bg_390.out.cell (i := 7) rfl
      have lt_405 := Bg_390.out.lt
      go_wp2_with fail
      refine (CHA.out _ _ _ _ _ _ _ _ M1_391.out M2_392.out M3_393.out).mono ?_
      rintro e w21 ⟨rfl, hb⟩
      clear x_397 x_398 x_399 x_400 x_401 x_402 x_403 x_404 lt_405
      have H_406 := Lib.hid (g_chain H_385.out hb)
      clear H_385
      have BG_407 := Lib.hid (BG_386.out.below hb)
      clear BG_386
      have BR_408 := Lib.hid (BR_387.out.below hb)
      clear BR_387
      have Aw_409 := Lib.hid (Aw_388.out.below hb)
      clear Aw_388
      have Bw_410 := Lib.hid (Bw_389.out.below hb)
      clear Bw_389
      have Bg_411 := Lib.hid (Bg_390.out.below hb)
      clear Bg_390
      have M1_412 := Lib.hid (own_below M1_391.out hb)
      clear M1_391
      have M2_413 := Lib.hid (own_below M2_392.out hb)
      clear M2_392
      have M3_414 := Lib.hid (own_below M3_393.out hb)
      clear M3_393
      have Ah_415 := Lib.hid (Ah_394.out.below hb)
      clear Ah_394
      have Bh_416 := Lib.hid (Bh_395.out.below hb)
      clear Bh_395
      have sz_417 := Lib.hid (Below.size hb)
      clear hb
      go_wp2
      go_ret
      exact ⟨rfl, H_406.out⟩
end Go.Proofs.YtlhcobkncceodaaGreatDoor
