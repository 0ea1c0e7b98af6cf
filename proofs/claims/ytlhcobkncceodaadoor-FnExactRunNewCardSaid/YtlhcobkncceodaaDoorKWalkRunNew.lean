/- The walk of the law FnExactRunNew: it returns true and writes nothing that was there. -/
import Derived.Test.YtlhcobkncceodaaDoorCGD
import Derived.Test.YtlhcobkncceodaaDoorCGC
import Derived.Test.YtlhcobkncceodaaDoorKRunNewI
import Derived.Test.YtlhcobkncceodaaDoorKRunNewS
import Derived.Deep.Cut
import Derived.Deep.RegionHeld3
import Derived.Deep.RegionWith
namespace Go.Proofs.YtlhcobkncceodaaDoor
open Go.RowKit
set_option linter.unusedVariables false

theorem held_nameL {P : Program} {md : Region.Mode} {ops : Array Oper} {Q : Exit → Act → World → Prop} {S : World → Prop} {fuel : Nat} {listed : Array Bool} {a : Act} {w : World} (hS : S w) (h : S w → wpAnyH P md ops Q S fuel listed a w) : wpAnyH P md ops Q S fuel listed a w := h hS
set_option maxRecDepth 20000 in
set_option maxHeartbeats 16000000 in
theorem walkRunNew (N : Int) (AG : Option Addr) (l cG : Nat) (G : List GE) (p s : Int) (w : World) (hig : GrIn w N AG l G) (_hj : (Lit.int .i64 p).wf = true ∧ (Lit.int .i64 s).wf = true) (hw : Wts w) :
    Calls Tryd.prog 4 #[.agg #[.int .i64 N, .slice AG l cG], .agg #[.int .i64 p, .int .i64 s]] w fun e w' => e = .returned (.bool true) ∧ Below w.heap.size w w' := by
  have HLG := Lib.hid hig.g.len
  have CZ1 := Lib.hid (fun W => szGraph_any N AG l cG 1048576 W hig.l (by omega) (by omega))
  have B0G := Lib.hid ((Blk.new w #[.int .i64 N, .slice AG l cG] 24).alloc (.cells #[.int .i64 p, .int .i64 s] 26))
  have B0R : Hid (Blk ((w.alloc (.cells #[.int .i64 N, .slice AG l cG] 24)).alloc (.cells #[.int .i64 p, .int .i64 s] 26)) (w.heap.size + 1) #[.int .i64 p, .int .i64 s] 26) := Lib.hid (by have h := Blk.new (w.alloc (.cells #[.int .i64 N, .slice AG l cG] 24)) #[.int .i64 p, .int .i64 s] 26; simpa using h)
  have B0H := Lib.hid (below_a2 w (.cells #[.int .i64 N, .slice AG l cG] 24) (.cells #[.int .i64 p, .int .i64 s] 26))
  by_cases hb1 : (l : Int) ≤ 1048576
  rotate_left
  · rw [leftG_neg (by omega)] at CZ1
    clear hig hw
    go_enter Tryd.func4, Tryd.ntmps4
    go_wp2_with fail
    refine (CZ1.out _).mono ?_
    rintro e wa ⟨rfl, hba⟩
    go_wp2
    go_ret
    exact ⟨rfl, g_chain B0H.out hba⟩
  rw [leftG_pos hb1] at CZ1
  have hp0 : (0 : Int) ≤ 1048576 - (l : Int) := by omega
  have hl : l ≤ 1048576 := by omega
  generalize (1048576 : Int) - (l : Int) = q0 at CZ1 hp0
  have CTG := Lib.hid (fun W (h : Below w.heap.size w W) => toGraph_any N AG l cG G W (hig.g.below h) (by omega))
  have CTJ := Lib.hid (fun W => toJob_any p s W)
  unfold MadeGr at CTG
  rw [HLG.out] at CTG
  have CEG := Lib.hid (fun W A A' c c' (h1 : SlG W A l G) (h2 : SlG W A' l G) => eqGraph_any N A A' l c c' G W h1 h2 (by omega))
  have CMG := Lib.hid (fun W lo A c (h : W.ownsRow lo 76 3 (.slice A l c) l (G.flatMap GE.cells)) => markGraph_any N A l c lo 1 G W h HLG.out (by omega) (by omega))
  have CS := Lib.hid (fun W lo AG1 cG1 (hg : W.ownsRow lo 76 3 (.slice AG1 l cG1) l (G.flatMap GE.cells)) => specRunNew N AG1 l cG1 G p s W (SlG.of_own hg HLG.out) (by omega))
  have CI := Lib.hid (fun W (h0 : Below w.heap.size w W) lo AG1 cG1 (hg : W.ownsRow lo 76 3 (.slice AG1 l cG1) l (G.flatMap GE.cells)) => implRunNew N AG1 l cG1 G p s W (hw.below h0) (SlG.of_own hg HLG.out) (by omega))
  have HLM := Lib.hid (lim_new N G p s)
  unfold MadeRB at CS CI
  generalize newB' N G p s = rb at CS CI
  have hrb : (rb == rb) = true := by simp
  have hrb2 : (rb != rb) = false := by simp
  generalize newO N G p s = rr at CS CI HLM
  obtain ⟨rp, rs, ri, rd, rv, re, rn, rx⟩ := rr
  obtain ⟨hls, hlv, hle, hlx⟩ := HLM.out
  have HSR := Lib.hid hls
  clear hls
  simp only at CS CI hlv hle hlx
  have CEA := Lib.hid (fun W lo A c B d C k lo' A' c' B' d' C' k' (h1 : Rows3 W lo A rv.length c B re.length d C rx.length k rv re rx) (h2 : Rows3 W lo' A' rv.length c' B' re.length d' C' rx.length k' rv re rx) => eqRun_is rp rs ri rd A rv.length c B re.length d rn C rx.length k rv re rx W A' c' B' d' C' k' (SlI.of_own h1.v) (SlI.of_own h1.e) (Rd.of_own h1.x HSR.out) (SlI.of_own h2.v) (SlI.of_own h2.e) (Rd.of_own h2.x HSR.out) h1.cap h2.cap (by omega) (by omega) (by omega))
  have CMA := Lib.hid (fun W lo A c B d C k (h : Rows3 W lo A rv.length c B re.length d C rx.length k rv re rx) => markRun_any rp rs ri rd rn A rv.length c B re.length d C rx.length k lo 1 rv re rx W h.v h.e h.x h.ap (by omega) (by omega) (by omega) (by omega))
  unfold MarkedRun at CMA
  have CHA := Lib.hid (fun W lo A c B d C k (h1 : W.ownsRow lo 3 1 (.slice A rv.length c) rv.length (vi (ints 1 rv.length))) (h2 : W.ownsRow lo 3 1 (.slice B re.length d) re.length (vi (ints (1 + rv.length) re.length))) (h3 : W.ownsRow lo 5 1 (.slice C rx.length k) rx.length (vb (marksK (1 + rv.length + re.length) rx.length))) => heldRun_any rp rs ri rd rn A rv.length c B re.length d C rx.length k W (SlI.of_own h1) (SlI.of_own h2) (Rd.of_own h3 (marksK_small _ _)) (by omega) (by omega) (by omega))
  have hk1 : (0 : Int) ≤ ((1 + 3 * l : Nat) : Int) := by omega
  have hk3 : (0 : Int) ≤ ((1 + rv.length + re.length + rx.length : Nat) : Int) := by omega
  clear hig hb1 hw
  have H_1 := Lib.hid (B0H.out)
  have BG_2 := Lib.hid (B0G.out)
  have BR_3 := Lib.hid (B0R.out)
  clear B0H B0G B0R
  have sz_4 : Hid (w.heap.size + 2 ≤ ((w.alloc (.cells #[.int .i64 N, .slice AG l cG] 24)).alloc (.cells #[.int .i64 p, .int .i64 s] 26)).heap.size) := Lib.hid (by simp)
  go_enter Tryd.func4, Tryd.ntmps4
  have x_5 := BG_2.out.cell (i := 0) rfl
  have x_6 := BG_2.out.cell (i := 1) rfl
  have lt_7 := BG_2.out.lt
  have x_8 := BR_3.out.cell (i := 0) rfl
  have x_9 := BR_3.out.cell (i := 1) rfl
  have lt_10 := BR_3.out.lt
  go_wp2_with fail
  refine (CZ1.out _).mono ?_
  rintro e w1 ⟨rfl, hb⟩
  clear x_5 x_6 lt_7 x_8 x_9 lt_10
  have H_11 := Lib.hid (g_chain H_1.out hb)
  clear H_1
  have BG_12 := Lib.hid (BG_2.out.below hb)
  clear BG_2
  have BR_13 := Lib.hid (BR_3.out.below hb)
  clear BR_3
  have sz_14 := Lib.hid (Below.size hb)
  clear hb
  go_upto_region 5 with fail
  go_cut [6, 7] (fun (sa : Value) (sb : Value) (wx : World) => ∃ (q : Nat) (Aw : Option Addr) (cw : Nat) (Bw : Option Addr) (dw : Nat) (Cw : Option Addr) (kw : Nat), sa = .pointer (some ⟨q, 0, none⟩) ∧ sb = .bool rb ∧ Hid (Below w1.heap.size w1 wx) ∧ Hid (Blk wx q #[.int .i64 rp, .int .i64 rs, .int .i64 ri, .bool rd, .slice Aw rv.length cw, .slice Bw re.length dw, .int .i64 rn, .slice Cw rx.length kw] 43) ∧ Hid (Rows3 wx w1.heap.size Aw rv.length cw Bw re.length dw Cw rx.length kw rv re rx) ∧ Hid (w1.heap.size ≤ q ∧ q < wx.heap.size))
  case first =>
    have HSF : ∀ W, Hid (Below w1.heap.size w1 W) → (W.cell? ⟨w.heap.size, 0, none⟩ = some (.int .i64 N) ∧ W.cell? ⟨w.heap.size, 1, none⟩ = some (.slice AG l cG) ∧ W.cell? ⟨w.heap.size + 1, 0, none⟩ = some (.int .i64 p) ∧ W.cell? ⟨w.heap.size + 1, 1, none⟩ = some (.int .i64 s)) := fun W HR => ⟨(BG_12.out.below HR.out).cell (i := 0) rfl, (BG_12.out.below HR.out).cell (i := 1) rfl, (BR_13.out.below HR.out).cell (i := 0) rfl, (BR_13.out.below HR.out).cell (i := 1) rfl⟩
    have HR : Hid (Below w1.heap.size w1 w1.drew) := Lib.hid (Below.refl _ _).drew
    refine wp_region_any (by kernel_rfl) ?_
    change wpAny _ _ _ _ _ _ _ (World.drew _)
    refine wpAny_of_held (S := fun W => W.cell? ⟨w.heap.size, 0, none⟩ = some (.int .i64 N) ∧ W.cell? ⟨w.heap.size, 1, none⟩ = some (.slice AG l cG) ∧ W.cell? ⟨w.heap.size + 1, 0, none⟩ = some (.int .i64 p) ∧ W.cell? ⟨w.heap.size + 1, 1, none⟩ = some (.int .i64 s)) _ _ _ _ ?_
    generalize hDD : World.drew w1 = W at HR ⊢
    clear hDD
    refine wpAnyH_take (i := 0) (oi := ⟨_, _, _, _, _, _⟩) (v := .agg #[.int .i64 N, .slice AG l cG]) rfl (by kernel_rfl) (by kernel_rfl) (by kernel_rfl) (fun _ _ _ h => h) (Or.inl ⟨by kernel_rfl, fun W hS => by (obtain ⟨s0, s1, s2, s3⟩ := hS); go_simp⟩) (HSF _ HR) ?_
    (try simp only [Act.put, List.setIfInBounds_toArray, List.set_cons_zero, List.set_cons_succ])
    refine wpAnyH_take (i := 2) (oi := ⟨_, _, _, _, _, _⟩) (v := .agg #[.int .i64 p, .int .i64 s]) rfl (by kernel_rfl) (by kernel_rfl) (by kernel_rfl) (fun _ _ _ h => h) (Or.inl ⟨by kernel_rfl, fun W hS => by (obtain ⟨s0, s1, s2, s3⟩ := hS); go_simp⟩) (HSF _ HR) ?_
    (try simp only [Act.put, List.setIfInBounds_toArray, List.set_cons_zero, List.set_cons_succ])
    refine (fun (Gr5_3_1 : ∀ (W : World) (Ad : Option Addr) (cd : Nat) (Aw : Option Addr) (cw : Nat) (Bw : Option Addr) (dw : Nat) (Cw : Option Addr) (kw : Nat) (q : Nat), Hid (Below w1.heap.size w1 W) → Hid (Rows3 W w1.heap.size Aw rv.length cw Bw re.length dw Cw rx.length kw rv re rx) → Hid (Blk W q #[.int .i64 0, .int .i64 0, .int .i64 0, .bool false, .slice none 0 0, .slice none 0 0, .int .i64 0, .slice none 0 0] 43) → Hid (w1.heap.size ≤ q) → (?Xr5_3_1 : World → (Option Addr) → Nat → (Option Addr) → Nat → (Option Addr) → Nat → (Option Addr) → Nat → Nat → Prop) W Ad cd Aw cw Bw dw Cw kw q) => ?_) ?_
    rotate_left
    refine (fun (Gr5_3_0 : ∀ (W : World) (Ad : Option Addr) (cd : Nat) (Aw : Option Addr) (cw : Nat) (Bw : Option Addr) (dw : Nat) (Cw : Option Addr) (kw : Nat), Hid (Below w1.heap.size w1 W) → Hid (Rows3 W w1.heap.size Aw rv.length cw Bw re.length dw Cw rx.length kw rv re rx) → (?Xr5_3_0 : World → (Option Addr) → Nat → (Option Addr) → Nat → (Option Addr) → Nat → (Option Addr) → Nat → Prop) W Ad cd Aw cw Bw dw Cw kw) => ?_) ?_
    rotate_left
    refine (fun (Gr5_2_1 : ∀ (W : World) (Ad : Option Addr) (cd : Nat) (q : Nat), Hid (Below w1.heap.size w1 W) → Hid (W.ownsRow w1.heap.size 76 3 (.slice Ad l cd) l (G.flatMap GE.cells)) → Hid (Blk W q #[.int .i64 0, .int .i64 0, .int .i64 0, .bool false, .slice none 0 0, .slice none 0 0, .int .i64 0, .slice none 0 0] 43) → Hid (w1.heap.size ≤ q) → (?Xr5_2_1 : World → (Option Addr) → Nat → Nat → Prop) W Ad cd q) => ?_) ?_
    rotate_left
    refine (fun (Gr5_2_0 : ∀ (W : World) (Ad : Option Addr) (cd : Nat), Hid (Below w1.heap.size w1 W) → Hid (W.ownsRow w1.heap.size 76 3 (.slice Ad l cd) l (G.flatMap GE.cells)) → (?Xr5_2_0 : World → (Option Addr) → Nat → Prop) W Ad cd) => ?_) ?_
    rotate_left
    refine (fun (Gr5_1_1 : ∀ (W : World) (Ad : Option Addr) (cd : Nat) (q : Nat), Hid (Below w1.heap.size w1 W) → Hid (W.ownsRow w1.heap.size 76 3 (.slice Ad l cd) l (G.flatMap GE.cells)) → Hid (Blk W q #[.int .i64 0, .int .i64 0, .int .i64 0, .bool false, .slice none 0 0, .slice none 0 0, .int .i64 0, .slice none 0 0] 43) → Hid (w1.heap.size ≤ q) → (?Xr5_1_1 : World → (Option Addr) → Nat → Nat → Prop) W Ad cd q) => ?_) ?_
    rotate_left
    refine (fun (Gr5_1_0 : ∀ (W : World) (Ad : Option Addr) (cd : Nat), Hid (Below w1.heap.size w1 W) → Hid (W.ownsRow w1.heap.size 76 3 (.slice Ad l cd) l (G.flatMap GE.cells)) → (?Xr5_1_0 : World → (Option Addr) → Nat → Prop) W Ad cd) => ?_) ?_
    rotate_left
    refine (fun (Gr5_0_1 : ∀ (W : World) (q : Nat), Hid (Below w1.heap.size w1 W) → Hid (Blk W q #[.int .i64 0, .int .i64 0, .int .i64 0, .bool false, .slice none 0 0, .slice none 0 0, .int .i64 0, .slice none 0 0] 43) → Hid (w1.heap.size ≤ q) → (?Xr5_0_1 : World → Nat → Prop) W q) => ?_) ?_
    rotate_left
    change wpAnyH _ _ _ _ _ _ #[true, false, true, false, false, false, false, false, false, false, false] _ _
    refine wpAnyH_ready (rs := [1, 8]) (by kernel_rfl) (by simp) (AllReadyH.cons rfl (fun K hK => ?_) (AllReadyH.cons rfl (fun K hK => ?_) AllReadyH.nil))
    · skip
      go_simp
      go_at_call 8
      refine (CTG.out W (g_chain H_11.out HR.out)).mono ?_
      rintro e W2 ⟨Ad, cd, rfl, ho, hb⟩
      have DG : Hid (W2.ownsRow w1.heap.size 76 3 (.slice Ad l cd) l (G.flatMap GE.cells)) := Lib.hid (own_monoG ho (Below.size HR.out))
      have HR := Lib.hid (g_chain HR.out hb)
      clear hb
      dsimp only
      refine hK.out _ _ (HSF _ HR) (fun _ => ?_)
      clear hK K
      (try simp only [List.setIfInBounds_toArray, List.set_cons_zero, List.set_cons_succ])
      change wpAnyH _ _ _ _ _ _ #[true, true, true, false, false, false, false, false, false, false, false] _ _
      exact Gr5_1_0 W2 Ad cd HR DG
    · skip
      go_simp
      have hb := below_a1 W (.cells #[.int .i64 0, .int .i64 0, .int .i64 0, .bool false, .slice none 0 0, .slice none 0 0, .int .i64 0, .slice none 0 0] 43)
      have Zq : Hid (Blk (W.alloc (.cells #[.int .i64 0, .int .i64 0, .int .i64 0, .bool false, .slice none 0 0, .slice none 0 0, .int .i64 0, .slice none 0 0] 43)) W.heap.size #[.int .i64 0, .int .i64 0, .int .i64 0, .bool false, .slice none 0 0, .slice none 0 0, .int .i64 0, .slice none 0 0] 43) := Lib.hid (Blk.new W #[.int .i64 0, .int .i64 0, .int .i64 0, .bool false, .slice none 0 0, .slice none 0 0, .int .i64 0, .slice none 0 0] 43)
      have HQq : Hid (w1.heap.size ≤ W.heap.size) := Lib.hid (Below.size HR.out)
      have HR := Lib.hid (g_chain HR.out hb)
      clear hb
      refine hK.out _ _ (HSF _ HR) (fun _ => ?_)
      clear hK K
      (try simp only [List.setIfInBounds_toArray, List.set_cons_zero, List.set_cons_succ])
      generalize hZ : W.alloc (.cells #[.int .i64 0, .int .i64 0, .int .i64 0, .bool false, .slice none 0 0, .slice none 0 0, .int .i64 0, .slice none 0 0] 43) = W2 at Zq HR ⊢
      clear hZ
      generalize hZ : W.heap.size = q at Zq HQq ⊢
      clear hZ
      change wpAnyH _ _ _ _ _ _ #[true, false, true, false, false, false, false, false, true, false, false] _ _
      exact Gr5_0_1 W2 q HR Zq HQq
    · intro W q HR Zq HQq
      change wpAnyH _ _ _ _ _ _ #[true, false, true, false, false, false, false, false, true, false, false] _ _
      refine wpAnyH_ready (rs := [1]) (by kernel_rfl) (by simp) (AllReadyH.cons rfl (fun K hK => ?_) AllReadyH.nil)
      · skip
        go_simp
        go_at_call 8
        refine (CTG.out W (g_chain H_11.out HR.out)).mono ?_
        rintro e W2 ⟨Ad, cd, rfl, ho, hb⟩
        have Zq : Hid (Blk W2 q #[.int .i64 0, .int .i64 0, .int .i64 0, .bool false, .slice none 0 0, .slice none 0 0, .int .i64 0, .slice none 0 0] 43) := Lib.hid (Zq.out.below hb)
        have HQq : Hid (w1.heap.size ≤ q) := Lib.hid (HQq.out)
        have DG : Hid (W2.ownsRow w1.heap.size 76 3 (.slice Ad l cd) l (G.flatMap GE.cells)) := Lib.hid (own_monoG ho (Below.size HR.out))
        have HR := Lib.hid (g_chain HR.out hb)
        clear hb
        dsimp only
        refine hK.out _ _ (HSF _ HR) (fun _ => ?_)
        clear hK K
        (try simp only [List.setIfInBounds_toArray, List.set_cons_zero, List.set_cons_succ])
        change wpAnyH _ _ _ _ _ _ #[true, true, true, false, false, false, false, false, true, false, false] _ _
        exact Gr5_1_1 W2 Ad cd q HR DG Zq HQq
    · intro W Ad cd HR DG
      change wpAnyH _ _ _ _ _ _ #[true, true, true, false, false, false, false, false, false, false, false] _ _
      refine wpAnyH_ready (rs := [3, 8]) (by kernel_rfl) (by simp) (AllReadyH.cons rfl (fun K hK => ?_) (AllReadyH.cons rfl (fun K hK => ?_) AllReadyH.nil))
      · skip
        go_simp
        go_at_call 14
        refine (CTJ.out W).mono ?_
        rintro e W2 ⟨rfl, hb⟩
        have DG : Hid (W2.ownsRow w1.heap.size 76 3 (.slice Ad l cd) l (G.flatMap GE.cells)) := Lib.hid (own_below DG.out hb)
        have HR := Lib.hid (g_chain HR.out hb)
        clear hb
        dsimp only
        refine hK.out _ _ (HSF _ HR) (fun _ => ?_)
        clear hK K
        (try simp only [List.setIfInBounds_toArray, List.set_cons_zero, List.set_cons_succ])
        change wpAnyH _ _ _ _ _ _ #[true, true, true, true, false, false, false, false, false, false, false] _ _
        exact Gr5_2_0 W2 Ad cd HR DG
      · skip
        go_simp
        have hb := below_a1 W (.cells #[.int .i64 0, .int .i64 0, .int .i64 0, .bool false, .slice none 0 0, .slice none 0 0, .int .i64 0, .slice none 0 0] 43)
        have DG : Hid ((W.alloc (.cells #[.int .i64 0, .int .i64 0, .int .i64 0, .bool false, .slice none 0 0, .slice none 0 0, .int .i64 0, .slice none 0 0] 43)).ownsRow w1.heap.size 76 3 (.slice Ad l cd) l (G.flatMap GE.cells)) := Lib.hid (own_below DG.out hb)
        have Zq : Hid (Blk (W.alloc (.cells #[.int .i64 0, .int .i64 0, .int .i64 0, .bool false, .slice none 0 0, .slice none 0 0, .int .i64 0, .slice none 0 0] 43)) W.heap.size #[.int .i64 0, .int .i64 0, .int .i64 0, .bool false, .slice none 0 0, .slice none 0 0, .int .i64 0, .slice none 0 0] 43) := Lib.hid (Blk.new W #[.int .i64 0, .int .i64 0, .int .i64 0, .bool false, .slice none 0 0, .slice none 0 0, .int .i64 0, .slice none 0 0] 43)
        have HQq : Hid (w1.heap.size ≤ W.heap.size) := Lib.hid (Below.size HR.out)
        have HR := Lib.hid (g_chain HR.out hb)
        clear hb
        refine hK.out _ _ (HSF _ HR) (fun _ => ?_)
        clear hK K
        (try simp only [List.setIfInBounds_toArray, List.set_cons_zero, List.set_cons_succ])
        generalize hZ : W.alloc (.cells #[.int .i64 0, .int .i64 0, .int .i64 0, .bool false, .slice none 0 0, .slice none 0 0, .int .i64 0, .slice none 0 0] 43) = W2 at DG Zq HR ⊢
        clear hZ
        generalize hZ : W.heap.size = q at Zq HQq ⊢
        clear hZ
        change wpAnyH _ _ _ _ _ _ #[true, true, true, false, false, false, false, false, true, false, false] _ _
        exact Gr5_1_1 W2 Ad cd q HR DG Zq HQq
    · intro W Ad cd q HR DG Zq HQq
      change wpAnyH _ _ _ _ _ _ #[true, true, true, false, false, false, false, false, true, false, false] _ _
      refine wpAnyH_ready (rs := [3]) (by kernel_rfl) (by simp) (AllReadyH.cons rfl (fun K hK => ?_) AllReadyH.nil)
      · skip
        go_simp
        go_at_call 14
        refine (CTJ.out W).mono ?_
        rintro e W2 ⟨rfl, hb⟩
        have DG : Hid (W2.ownsRow w1.heap.size 76 3 (.slice Ad l cd) l (G.flatMap GE.cells)) := Lib.hid (own_below DG.out hb)
        have Zq : Hid (Blk W2 q #[.int .i64 0, .int .i64 0, .int .i64 0, .bool false, .slice none 0 0, .slice none 0 0, .int .i64 0, .slice none 0 0] 43) := Lib.hid (Zq.out.below hb)
        have HQq : Hid (w1.heap.size ≤ q) := Lib.hid (HQq.out)
        have HR := Lib.hid (g_chain HR.out hb)
        clear hb
        dsimp only
        refine hK.out _ _ (HSF _ HR) (fun _ => ?_)
        clear hK K
        (try simp only [List.setIfInBounds_toArray, List.set_cons_zero, List.set_cons_succ])
        change wpAnyH _ _ _ _ _ _ #[true, true, true, true, false, false, false, false, true, false, false] _ _
        exact Gr5_2_1 W2 Ad cd q HR DG Zq HQq
    · intro W Ad cd HR DG
      change wpAnyH _ _ _ _ _ _ #[true, true, true, true, false, false, false, false, false, false, false] _ _
      refine wpAnyH_ready (rs := [4, 8]) (by kernel_rfl) (by simp) (AllReadyH.cons rfl (fun K hK => ?_) (AllReadyH.cons rfl (fun K hK => ?_) AllReadyH.nil))
      · skip
        go_simp
        go_at_call 13
        refine (CS.out W _ _ _ DG.out).mono ?_
        rintro e W2 ⟨Aw, cw, Bw, dw, Cw, kw, rfl, ho, hb⟩
        have O : Hid (Rows3 W2 w1.heap.size Aw rv.length cw Bw re.length dw Cw rx.length kw rv re rx) := Lib.hid (Rows3.mono ho (Below.size HR.out))
        have HR := Lib.hid (g_chain HR.out hb)
        clear hb
        dsimp only
        refine hK.out _ _ (HSF _ HR) (fun _ => ?_)
        clear hK K
        (try simp only [List.setIfInBounds_toArray, List.set_cons_zero, List.set_cons_succ])
        refine wpAnyH_take (i := 5) (oi := ⟨_, _, _, _, _, _⟩) (v := .tuple #[.agg #[.int .i64 rp, .int .i64 rs, .int .i64 ri, .bool rd, .slice Aw rv.length cw, .slice Bw re.length dw, .int .i64 rn, .slice Cw rx.length kw], .bool rb]) rfl (by kernel_rfl) (by kernel_rfl) (by kernel_rfl) (fun _ _ _ h => h) (Or.inl ⟨by kernel_rfl, fun W hS => by go_simp⟩) (HSF _ HR) ?_
        (try simp only [Act.put, List.setIfInBounds_toArray, List.set_cons_zero, List.set_cons_succ])
        refine wpAnyH_take (i := 6) (oi := ⟨_, _, _, _, _, _⟩) (v := .agg #[.int .i64 rp, .int .i64 rs, .int .i64 ri, .bool rd, .slice Aw rv.length cw, .slice Bw re.length dw, .int .i64 rn, .slice Cw rx.length kw]) rfl (by kernel_rfl) (by kernel_rfl) (by kernel_rfl) (fun _ _ _ h => h) (Or.inl ⟨by kernel_rfl, fun W hS => by go_simp⟩) (HSF _ HR) ?_
        (try simp only [Act.put, List.setIfInBounds_toArray, List.set_cons_zero, List.set_cons_succ])
        refine wpAnyH_take (i := 7) (oi := ⟨_, _, _, _, _, _⟩) (v := .bool rb) rfl (by kernel_rfl) (by kernel_rfl) (by kernel_rfl) (fun _ _ _ h => h) (Or.inl ⟨by kernel_rfl, fun W hS => by go_simp⟩) (HSF _ HR) ?_
        (try simp only [Act.put, List.setIfInBounds_toArray, List.set_cons_zero, List.set_cons_succ])
        change wpAnyH _ _ _ _ _ _ #[true, true, true, true, true, true, true, true, false, false, false] _ _
        exact Gr5_3_0 W2 Ad cd Aw cw Bw dw Cw kw HR O
      · skip
        go_simp
        have hb := below_a1 W (.cells #[.int .i64 0, .int .i64 0, .int .i64 0, .bool false, .slice none 0 0, .slice none 0 0, .int .i64 0, .slice none 0 0] 43)
        have DG : Hid ((W.alloc (.cells #[.int .i64 0, .int .i64 0, .int .i64 0, .bool false, .slice none 0 0, .slice none 0 0, .int .i64 0, .slice none 0 0] 43)).ownsRow w1.heap.size 76 3 (.slice Ad l cd) l (G.flatMap GE.cells)) := Lib.hid (own_below DG.out hb)
        have Zq : Hid (Blk (W.alloc (.cells #[.int .i64 0, .int .i64 0, .int .i64 0, .bool false, .slice none 0 0, .slice none 0 0, .int .i64 0, .slice none 0 0] 43)) W.heap.size #[.int .i64 0, .int .i64 0, .int .i64 0, .bool false, .slice none 0 0, .slice none 0 0, .int .i64 0, .slice none 0 0] 43) := Lib.hid (Blk.new W #[.int .i64 0, .int .i64 0, .int .i64 0, .bool false, .slice none 0 0, .slice none 0 0, .int .i64 0, .slice none 0 0] 43)
        have HQq : Hid (w1.heap.size ≤ W.heap.size) := Lib.hid (Below.size HR.out)
        have HR := Lib.hid (g_chain HR.out hb)
        clear hb
        refine hK.out _ _ (HSF _ HR) (fun _ => ?_)
        clear hK K
        (try simp only [List.setIfInBounds_toArray, List.set_cons_zero, List.set_cons_succ])
        generalize hZ : W.alloc (.cells #[.int .i64 0, .int .i64 0, .int .i64 0, .bool false, .slice none 0 0, .slice none 0 0, .int .i64 0, .slice none 0 0] 43) = W2 at DG Zq HR ⊢
        clear hZ
        generalize hZ : W.heap.size = q at Zq HQq ⊢
        clear hZ
        change wpAnyH _ _ _ _ _ _ #[true, true, true, true, false, false, false, false, true, false, false] _ _
        exact Gr5_2_1 W2 Ad cd q HR DG Zq HQq
    · intro W Ad cd q HR DG Zq HQq
      change wpAnyH _ _ _ _ _ _ #[true, true, true, true, false, false, false, false, true, false, false] _ _
      refine wpAnyH_ready (rs := [4]) (by kernel_rfl) (by simp) (AllReadyH.cons rfl (fun K hK => ?_) AllReadyH.nil)
      · skip
        go_simp
        go_at_call 13
        refine (CS.out W _ _ _ DG.out).mono ?_
        rintro e W2 ⟨Aw, cw, Bw, dw, Cw, kw, rfl, ho, hb⟩
        have Zq : Hid (Blk W2 q #[.int .i64 0, .int .i64 0, .int .i64 0, .bool false, .slice none 0 0, .slice none 0 0, .int .i64 0, .slice none 0 0] 43) := Lib.hid (Zq.out.below hb)
        have HQq : Hid (w1.heap.size ≤ q) := Lib.hid (HQq.out)
        have O : Hid (Rows3 W2 w1.heap.size Aw rv.length cw Bw re.length dw Cw rx.length kw rv re rx) := Lib.hid (Rows3.mono ho (Below.size HR.out))
        have HR := Lib.hid (g_chain HR.out hb)
        clear hb
        dsimp only
        refine hK.out _ _ (HSF _ HR) (fun _ => ?_)
        clear hK K
        (try simp only [List.setIfInBounds_toArray, List.set_cons_zero, List.set_cons_succ])
        refine wpAnyH_take (i := 5) (oi := ⟨_, _, _, _, _, _⟩) (v := .tuple #[.agg #[.int .i64 rp, .int .i64 rs, .int .i64 ri, .bool rd, .slice Aw rv.length cw, .slice Bw re.length dw, .int .i64 rn, .slice Cw rx.length kw], .bool rb]) rfl (by kernel_rfl) (by kernel_rfl) (by kernel_rfl) (fun _ _ _ h => h) (Or.inl ⟨by kernel_rfl, fun W hS => by go_simp⟩) (HSF _ HR) ?_
        (try simp only [Act.put, List.setIfInBounds_toArray, List.set_cons_zero, List.set_cons_succ])
        refine wpAnyH_take (i := 6) (oi := ⟨_, _, _, _, _, _⟩) (v := .agg #[.int .i64 rp, .int .i64 rs, .int .i64 ri, .bool rd, .slice Aw rv.length cw, .slice Bw re.length dw, .int .i64 rn, .slice Cw rx.length kw]) rfl (by kernel_rfl) (by kernel_rfl) (by kernel_rfl) (fun _ _ _ h => h) (Or.inl ⟨by kernel_rfl, fun W hS => by go_simp⟩) (HSF _ HR) ?_
        (try simp only [Act.put, List.setIfInBounds_toArray, List.set_cons_zero, List.set_cons_succ])
        refine wpAnyH_take (i := 7) (oi := ⟨_, _, _, _, _, _⟩) (v := .bool rb) rfl (by kernel_rfl) (by kernel_rfl) (by kernel_rfl) (fun _ _ _ h => h) (Or.inl ⟨by kernel_rfl, fun W hS => by go_simp⟩) (HSF _ HR) ?_
        (try simp only [Act.put, List.setIfInBounds_toArray, List.set_cons_zero, List.set_cons_succ])
        change wpAnyH _ _ _ _ _ _ #[true, true, true, true, true, true, true, true, true, false, false] _ _
        exact Gr5_3_1 W2 Ad cd Aw cw Bw dw Cw kw q HR O Zq HQq
    · intro W Ad cd Aw cw Bw dw Cw kw HR O
      change wpAnyH _ _ _ _ _ _ #[true, true, true, true, true, true, true, true, false, false, false] _ _
      refine wpAnyH_ready (rs := [8]) (by kernel_rfl) (by simp) (AllReadyH.cons rfl (fun K hK => ?_) AllReadyH.nil)
      · skip
        go_simp
        have hb := below_a1 W (.cells #[.int .i64 0, .int .i64 0, .int .i64 0, .bool false, .slice none 0 0, .slice none 0 0, .int .i64 0, .slice none 0 0] 43)
        have O : Hid (Rows3 (W.alloc (.cells #[.int .i64 0, .int .i64 0, .int .i64 0, .bool false, .slice none 0 0, .slice none 0 0, .int .i64 0, .slice none 0 0] 43)) w1.heap.size Aw rv.length cw Bw re.length dw Cw rx.length kw rv re rx) := Lib.hid (O.out.below hb)
        have Zq : Hid (Blk (W.alloc (.cells #[.int .i64 0, .int .i64 0, .int .i64 0, .bool false, .slice none 0 0, .slice none 0 0, .int .i64 0, .slice none 0 0] 43)) W.heap.size #[.int .i64 0, .int .i64 0, .int .i64 0, .bool false, .slice none 0 0, .slice none 0 0, .int .i64 0, .slice none 0 0] 43) := Lib.hid (Blk.new W #[.int .i64 0, .int .i64 0, .int .i64 0, .bool false, .slice none 0 0, .slice none 0 0, .int .i64 0, .slice none 0 0] 43)
        have HQq : Hid (w1.heap.size ≤ W.heap.size) := Lib.hid (Below.size HR.out)
        have HR := Lib.hid (g_chain HR.out hb)
        clear hb
        refine hK.out _ _ (HSF _ HR) (fun _ => ?_)
        clear hK K
        (try simp only [List.setIfInBounds_toArray, List.set_cons_zero, List.set_cons_succ])
        generalize hZ : W.alloc (.cells #[.int .i64 0, .int .i64 0, .int .i64 0, .bool false, .slice none 0 0, .slice none 0 0, .int .i64 0, .slice none 0 0] 43) = W2 at O Zq HR ⊢
        clear hZ
        generalize hZ : W.heap.size = q at Zq HQq ⊢
        clear hZ
        change wpAnyH _ _ _ _ _ _ #[true, true, true, true, true, true, true, true, true, false, false] _ _
        exact Gr5_3_1 W2 Ad cd Aw cw Bw dw Cw kw q HR O Zq HQq
    · intro W Ad cd Aw cw Bw dw Cw kw q HR O Zq HQq
      change wpAnyH _ _ _ _ _ _ #[true, true, true, true, true, true, true, true, true, false, false] _ _
      refine wpAnyH_ready (rs := [9]) (by kernel_rfl) (by simp) (AllReadyH.cons rfl (fun K hK => ?_) AllReadyH.nil)
      obtain ⟨zl, z0, z1, z2, z3, z4, z5, z6, z7⟩ := Zq.out.eight
      obtain ⟨f0, f1, f2, f3, f4, f5, f6, f7⟩ := Zq.out.eightF
      go_simp
      clear z0 z1 z2 z3 z4 z5 z6 z7 f0 f1 f2 f3 f4 f5 f6 f7
      have hgr := layR_grown W q (.int .i64 rp) (.int .i64 rs) (.int .i64 ri) (.bool rd) (.slice Aw rv.length cw) (.slice Bw re.length dw) (.int .i64 rn) (.slice Cw rx.length kw)
      have EBG := Lib.hid ((BG_12.out.below HR.out).grown hgr (by intro e; injection e with e; have h1 := HQq.out; have h2 := BG_12.out.lt; omega))
      have EBR := Lib.hid ((BR_13.out.below HR.out).grown hgr (by intro e; injection e with e; have h1 := HQq.out; have h2 := BR_13.out.lt; omega))
      refine hK.out _ _ ⟨EBG.out.cell (i := 0) rfl, EBG.out.cell (i := 1) rfl, EBR.out.cell (i := 0) rfl, EBR.out.cell (i := 1) rfl⟩ (fun _ => ?_)
      clear hK K
      (try simp only [List.setIfInBounds_toArray, List.set_cons_zero, List.set_cons_succ])
      refine wpAnyH_take (i := 10) (oi := ⟨_, _, _, _, _, _⟩) (v := .bool rb) rfl (by kernel_rfl) (by kernel_rfl) (by kernel_rfl) (fun _ _ _ h => h) (Or.inl ⟨by kernel_rfl, fun W hS => by go_simp⟩) ⟨EBG.out.cell (i := 0) rfl, EBG.out.cell (i := 1) rfl, EBR.out.cell (i := 0) rfl, EBR.out.cell (i := 1) rfl⟩ ?_
      (try simp only [Act.put, List.setIfInBounds_toArray, List.set_cons_zero, List.set_cons_succ])
      refine wpAnyH_done (by kernel_rfl) ?_ _
      go_wp2_with fail
      go_meet
      exact ⟨q, Aw, cw, Bw, dw, Cw, kw, rfl, rfl, Lib.hid (HR.out.grown hgr (Below.size HR.out) (fun j hj => by injection hj with hj; have h1 := HQq.out; omega)), Lib.hid (layR_blk Zq.out), Lib.hid ⟨own_kept O.out.v hgr (own_kind O.out.v Zq.out (by decide)), own_kept O.out.e hgr (own_kind O.out.e Zq.out (by decide)), own_kept O.out.x hgr (own_kind O.out.x Zq.out (by decide)), O.out.ap⟩, Lib.hid ⟨HQq.out, Nat.lt_of_lt_of_le zl hgr.size⟩⟩
  case rest =>
    rename World => w2
    obtain ⟨qw, Aww, cww, Bww, dww, Cww, kww, rfl, rfl, hb, hx, ho, hq⟩ := hcut
    have H_15 := Lib.hid (g_chain H_11.out hb.out)
    clear H_11
    have BG_16 := Lib.hid (BG_12.out.below hb.out)
    clear BG_12
    have BR_17 := Lib.hid (BR_13.out.below hb.out)
    clear BR_13
    have sz_18 := Lib.hid (Below.size hb.out)
    have sz_19 := Lib.hid (hq.out.1)
    have sz_20 := Lib.hid (hq.out.2)
    have RG_21 := Lib.hid (ho.out).at_
    have Aw_22 := Lib.hid (ho.out)
    have Bw_23 := Lib.hid (hx.out)
    clear hb hx ho hq
    have x_24 := BG_16.out.cell (i := 0) rfl
    have x_25 := BG_16.out.cell (i := 1) rfl
    have lt_26 := BG_16.out.lt
    go_wp2_with fail
    refine (CTG.out _ H_15.out).mono ?_
    rintro e w3 ⟨Agx, cgx, rfl, ho, hb⟩
    clear x_24 x_25 lt_26
    have H_27 := Lib.hid (g_chain H_15.out hb)
    clear H_15
    have BG_28 := Lib.hid (BG_16.out.below hb)
    clear BG_16
    have BR_29 := Lib.hid (BR_17.out.below hb)
    clear BR_17
    have Aw_30 := Lib.hid (Aw_22.out.below hb)
    clear Aw_22
    have Bw_31 := Lib.hid (Bw_23.out.below hb)
    clear Bw_23
    have sz_32 := Lib.hid (Below.size hb)
    have RG_33 := Lib.hid (ho).lt
    have Gx_34 := Lib.hid (ho)
    clear ho
    clear hb
    have hb := below_a1 w3 (.cells #[.int .i64 N, .slice Agx l cgx] 38)
    have sz_35 := Lib.hid (Blk.lt BG_28.out)
    have sz_36 := Lib.hid (Blk.lt BR_29.out)
    have sz_37 := Lib.hid (Blk.lt Bw_31.out)
    have H_38 := Lib.hid (g_chain H_27.out hb)
    clear H_27
    have BG_39 := Lib.hid (BG_28.out.below hb)
    clear BG_28
    have BR_40 := Lib.hid (BR_29.out.below hb)
    clear BR_29
    have Aw_41 := Lib.hid (Aw_30.out.below hb)
    clear Aw_30
    have Bw_42 := Lib.hid (Bw_31.out.below hb)
    clear Bw_31
    have Gx_43 := Lib.hid (own_below Gx_34.out hb)
    clear Gx_34
    have sz_44 := Lib.hid (Below.size hb)
    clear hb
    have X0_45 := Lib.hid (Blk.new w3 #[.int .i64 N, .slice Agx l cgx] 38)
    have sz_46 : Hid (w3.heap.size + 1 ≤ (w3.alloc (.cells #[.int .i64 N, .slice Agx l cgx] 38)).heap.size) := Lib.hid (by simp)
    go_upto_region 7 with fail
    go_cut [9, 10] (fun (sa : Value) (sb : Value) (wx : World) => ∃ (q : Nat) (Aw : Option Addr) (cw : Nat) (Bw : Option Addr) (dw : Nat) (Cw : Option Addr) (kw : Nat), sa = .pointer (some ⟨q, 0, none⟩) ∧ sb = .bool rb ∧ Hid (Below (w3.alloc (.cells #[.int .i64 N, .slice Agx l cgx] 38)).heap.size (w3.alloc (.cells #[.int .i64 N, .slice Agx l cgx] 38)) wx) ∧ Hid (Blk wx q #[.int .i64 rp, .int .i64 rs, .int .i64 ri, .bool rd, .slice Aw rv.length cw, .slice Bw re.length dw, .int .i64 rn, .slice Cw rx.length kw] 43) ∧ Hid (Rows3 wx (w3.alloc (.cells #[.int .i64 N, .slice Agx l cgx] 38)).heap.size Aw rv.length cw Bw re.length dw Cw rx.length kw rv re rx) ∧ Hid ((w3.alloc (.cells #[.int .i64 N, .slice Agx l cgx] 38)).heap.size ≤ q ∧ q < wx.heap.size))
    case first =>
      have HSF : ∀ W, Hid (Below (w3.alloc (.cells #[.int .i64 N, .slice Agx l cgx] 38)).heap.size (w3.alloc (.cells #[.int .i64 N, .slice Agx l cgx] 38)) W) → (W.cell? ⟨w3.heap.size, 0, none⟩ = some (.int .i64 N) ∧ W.cell? ⟨w3.heap.size, 1, none⟩ = some (.slice Agx l cgx) ∧ W.cell? ⟨w.heap.size + 1, 0, none⟩ = some (.int .i64 p) ∧ W.cell? ⟨w.heap.size + 1, 1, none⟩ = some (.int .i64 s)) := fun W HR => ⟨(X0_45.out.below HR.out).cell (i := 0) rfl, (X0_45.out.below HR.out).cell (i := 1) rfl, (BR_40.out.below HR.out).cell (i := 0) rfl, (BR_40.out.below HR.out).cell (i := 1) rfl⟩
      have HR : Hid (Below (w3.alloc (.cells #[.int .i64 N, .slice Agx l cgx] 38)).heap.size (w3.alloc (.cells #[.int .i64 N, .slice Agx l cgx] 38)) (w3.alloc (.cells #[.int .i64 N, .slice Agx l cgx] 38)).drew) := Lib.hid (Below.refl _ _).drew
      refine wp_region_any (by kernel_rfl) ?_
      change wpAny _ _ _ _ _ _ _ (World.drew _)
      refine wpAny_of_held (S := fun W => W.cell? ⟨w3.heap.size, 0, none⟩ = some (.int .i64 N) ∧ W.cell? ⟨w3.heap.size, 1, none⟩ = some (.slice Agx l cgx) ∧ W.cell? ⟨w.heap.size + 1, 0, none⟩ = some (.int .i64 p) ∧ W.cell? ⟨w.heap.size + 1, 1, none⟩ = some (.int .i64 s)) _ _ _ _ ?_
      generalize hDD : World.drew (w3.alloc (.cells #[.int .i64 N, .slice Agx l cgx] 38)) = W at HR ⊢
      clear hDD
      refine wpAnyH_take (i := 0) (oi := ⟨_, _, _, _, _, _⟩) (v := .agg #[.int .i64 N, .slice Agx l cgx]) rfl (by kernel_rfl) (by kernel_rfl) (by kernel_rfl) (fun _ _ _ h => h) (Or.inl ⟨by kernel_rfl, fun W hS => by (obtain ⟨s0, s1, s2, s3⟩ := hS); go_simp⟩) (HSF _ HR) ?_
      (try simp only [Act.put, List.setIfInBounds_toArray, List.set_cons_zero, List.set_cons_succ])
      refine wpAnyH_take (i := 1) (oi := ⟨_, _, _, _, _, _⟩) (v := .agg #[.int .i64 p, .int .i64 s]) rfl (by kernel_rfl) (by kernel_rfl) (by kernel_rfl) (fun _ _ _ h => h) (Or.inl ⟨by kernel_rfl, fun W hS => by (obtain ⟨s0, s1, s2, s3⟩ := hS); go_simp⟩) (HSF _ HR) ?_
      (try simp only [Act.put, List.setIfInBounds_toArray, List.set_cons_zero, List.set_cons_succ])
      refine (fun (Gr7_2_1 : ∀ (W : World) (Aw : Option Addr) (cw : Nat) (Bw : Option Addr) (dw : Nat) (Cw : Option Addr) (kw : Nat) (q : Nat), Hid (Below (w3.alloc (.cells #[.int .i64 N, .slice Agx l cgx] 38)).heap.size (w3.alloc (.cells #[.int .i64 N, .slice Agx l cgx] 38)) W) → Hid (Rows3 W (w3.alloc (.cells #[.int .i64 N, .slice Agx l cgx] 38)).heap.size Aw rv.length cw Bw re.length dw Cw rx.length kw rv re rx) → Hid (Blk W q #[.int .i64 0, .int .i64 0, .int .i64 0, .bool false, .slice none 0 0, .slice none 0 0, .int .i64 0, .slice none 0 0] 43) → Hid ((w3.alloc (.cells #[.int .i64 N, .slice Agx l cgx] 38)).heap.size ≤ q) → (?Xr7_2_1 : World → (Option Addr) → Nat → (Option Addr) → Nat → (Option Addr) → Nat → Nat → Prop) W Aw cw Bw dw Cw kw q) => ?_) ?_
      rotate_left
      refine (fun (Gr7_2_0 : ∀ (W : World) (Aw : Option Addr) (cw : Nat) (Bw : Option Addr) (dw : Nat) (Cw : Option Addr) (kw : Nat), Hid (Below (w3.alloc (.cells #[.int .i64 N, .slice Agx l cgx] 38)).heap.size (w3.alloc (.cells #[.int .i64 N, .slice Agx l cgx] 38)) W) → Hid (Rows3 W (w3.alloc (.cells #[.int .i64 N, .slice Agx l cgx] 38)).heap.size Aw rv.length cw Bw re.length dw Cw rx.length kw rv re rx) → (?Xr7_2_0 : World → (Option Addr) → Nat → (Option Addr) → Nat → (Option Addr) → Nat → Prop) W Aw cw Bw dw Cw kw) => ?_) ?_
      rotate_left
      refine (fun (Gr7_1_1 : ∀ (W : World) (q : Nat), Hid (Below (w3.alloc (.cells #[.int .i64 N, .slice Agx l cgx] 38)).heap.size (w3.alloc (.cells #[.int .i64 N, .slice Agx l cgx] 38)) W) → Hid (Blk W q #[.int .i64 0, .int .i64 0, .int .i64 0, .bool false, .slice none 0 0, .slice none 0 0, .int .i64 0, .slice none 0 0] 43) → Hid ((w3.alloc (.cells #[.int .i64 N, .slice Agx l cgx] 38)).heap.size ≤ q) → (?Xr7_1_1 : World → Nat → Prop) W q) => ?_) ?_
      rotate_left
      refine (fun (Gr7_1_0 : ∀ (W : World) , Hid (Below (w3.alloc (.cells #[.int .i64 N, .slice Agx l cgx] 38)).heap.size (w3.alloc (.cells #[.int .i64 N, .slice Agx l cgx] 38)) W) → (?Xr7_1_0 : World → Prop) W ) => ?_) ?_
      rotate_left
      refine (fun (Gr7_0_1 : ∀ (W : World) (q : Nat), Hid (Below (w3.alloc (.cells #[.int .i64 N, .slice Agx l cgx] 38)).heap.size (w3.alloc (.cells #[.int .i64 N, .slice Agx l cgx] 38)) W) → Hid (Blk W q #[.int .i64 0, .int .i64 0, .int .i64 0, .bool false, .slice none 0 0, .slice none 0 0, .int .i64 0, .slice none 0 0] 43) → Hid ((w3.alloc (.cells #[.int .i64 N, .slice Agx l cgx] 38)).heap.size ≤ q) → (?Xr7_0_1 : World → Nat → Prop) W q) => ?_) ?_
      rotate_left
      change wpAnyH _ _ _ _ _ _ #[true, true, false, false, false, false, false, false, false, false] _ _
      refine wpAnyH_ready (rs := [2, 7]) (by kernel_rfl) (by simp) (AllReadyH.cons rfl (fun K hK => ?_) (AllReadyH.cons rfl (fun K hK => ?_) AllReadyH.nil))
      · skip
        go_simp
        go_at_call 14
        refine (CTJ.out W).mono ?_
        rintro e W2 ⟨rfl, hb⟩
        have HR := Lib.hid (g_chain HR.out hb)
        clear hb
        dsimp only
        refine hK.out _ _ (HSF _ HR) (fun _ => ?_)
        clear hK K
        (try simp only [List.setIfInBounds_toArray, List.set_cons_zero, List.set_cons_succ])
        change wpAnyH _ _ _ _ _ _ #[true, true, true, false, false, false, false, false, false, false] _ _
        exact Gr7_1_0 W2  HR 
      · skip
        go_simp
        have hb := below_a1 W (.cells #[.int .i64 0, .int .i64 0, .int .i64 0, .bool false, .slice none 0 0, .slice none 0 0, .int .i64 0, .slice none 0 0] 43)
        have Zq : Hid (Blk (W.alloc (.cells #[.int .i64 0, .int .i64 0, .int .i64 0, .bool false, .slice none 0 0, .slice none 0 0, .int .i64 0, .slice none 0 0] 43)) W.heap.size #[.int .i64 0, .int .i64 0, .int .i64 0, .bool false, .slice none 0 0, .slice none 0 0, .int .i64 0, .slice none 0 0] 43) := Lib.hid (Blk.new W #[.int .i64 0, .int .i64 0, .int .i64 0, .bool false, .slice none 0 0, .slice none 0 0, .int .i64 0, .slice none 0 0] 43)
        have HQq : Hid ((w3.alloc (.cells #[.int .i64 N, .slice Agx l cgx] 38)).heap.size ≤ W.heap.size) := Lib.hid (Below.size HR.out)
        have HR := Lib.hid (g_chain HR.out hb)
        clear hb
        refine hK.out _ _ (HSF _ HR) (fun _ => ?_)
        clear hK K
        (try simp only [List.setIfInBounds_toArray, List.set_cons_zero, List.set_cons_succ])
        generalize hZ : W.alloc (.cells #[.int .i64 0, .int .i64 0, .int .i64 0, .bool false, .slice none 0 0, .slice none 0 0, .int .i64 0, .slice none 0 0] 43) = W2 at Zq HR ⊢
        clear hZ
        generalize hZ : W.heap.size = q at Zq HQq ⊢
        clear hZ
        change wpAnyH _ _ _ _ _ _ #[true, true, false, false, false, false, false, true, false, false] _ _
        exact Gr7_0_1 W2 q HR Zq HQq
      · intro W q HR Zq HQq
        change wpAnyH _ _ _ _ _ _ #[true, true, false, false, false, false, false, true, false, false] _ _
        refine wpAnyH_ready (rs := [2]) (by kernel_rfl) (by simp) (AllReadyH.cons rfl (fun K hK => ?_) AllReadyH.nil)
        · skip
          go_simp
          go_at_call 14
          refine (CTJ.out W).mono ?_
          rintro e W2 ⟨rfl, hb⟩
          have Zq : Hid (Blk W2 q #[.int .i64 0, .int .i64 0, .int .i64 0, .bool false, .slice none 0 0, .slice none 0 0, .int .i64 0, .slice none 0 0] 43) := Lib.hid (Zq.out.below hb)
          have HQq : Hid ((w3.alloc (.cells #[.int .i64 N, .slice Agx l cgx] 38)).heap.size ≤ q) := Lib.hid (HQq.out)
          have HR := Lib.hid (g_chain HR.out hb)
          clear hb
          dsimp only
          refine hK.out _ _ (HSF _ HR) (fun _ => ?_)
          clear hK K
          (try simp only [List.setIfInBounds_toArray, List.set_cons_zero, List.set_cons_succ])
          change wpAnyH _ _ _ _ _ _ #[true, true, true, false, false, false, false, true, false, false] _ _
          exact Gr7_1_1 W2 q HR Zq HQq
      · intro W  HR 
        change wpAnyH _ _ _ _ _ _ #[true, true, true, false, false, false, false, false, false, false] _ _
        refine wpAnyH_ready (rs := [3, 7]) (by kernel_rfl) (by simp) (AllReadyH.cons rfl (fun K hK => ?_) (AllReadyH.cons rfl (fun K hK => ?_) AllReadyH.nil))
        · skip
          go_simp
          go_at_call 15
          refine (CI.out W (g_chain H_38.out HR.out) _ _ _ (own_below Gx_43.out HR.out)).mono ?_
          rintro e W2 ⟨Aw, cw, Bw, dw, Cw, kw, rfl, ho, hb⟩
          have O : Hid (Rows3 W2 (w3.alloc (.cells #[.int .i64 N, .slice Agx l cgx] 38)).heap.size Aw rv.length cw Bw re.length dw Cw rx.length kw rv re rx) := Lib.hid (Rows3.mono ho (Below.size HR.out))
          have HR := Lib.hid (g_chain HR.out hb)
          clear hb
          dsimp only
          refine hK.out _ _ (HSF _ HR) (fun _ => ?_)
          clear hK K
          (try simp only [List.setIfInBounds_toArray, List.set_cons_zero, List.set_cons_succ])
          refine wpAnyH_take (i := 4) (oi := ⟨_, _, _, _, _, _⟩) (v := .tuple #[.agg #[.int .i64 rp, .int .i64 rs, .int .i64 ri, .bool rd, .slice Aw rv.length cw, .slice Bw re.length dw, .int .i64 rn, .slice Cw rx.length kw], .bool rb]) rfl (by kernel_rfl) (by kernel_rfl) (by kernel_rfl) (fun _ _ _ h => h) (Or.inl ⟨by kernel_rfl, fun W hS => by go_simp⟩) (HSF _ HR) ?_
          (try simp only [Act.put, List.setIfInBounds_toArray, List.set_cons_zero, List.set_cons_succ])
          refine wpAnyH_take (i := 5) (oi := ⟨_, _, _, _, _, _⟩) (v := .agg #[.int .i64 rp, .int .i64 rs, .int .i64 ri, .bool rd, .slice Aw rv.length cw, .slice Bw re.length dw, .int .i64 rn, .slice Cw rx.length kw]) rfl (by kernel_rfl) (by kernel_rfl) (by kernel_rfl) (fun _ _ _ h => h) (Or.inl ⟨by kernel_rfl, fun W hS => by go_simp⟩) (HSF _ HR) ?_
          (try simp only [Act.put, List.setIfInBounds_toArray, List.set_cons_zero, List.set_cons_succ])
          refine wpAnyH_take (i := 6) (oi := ⟨_, _, _, _, _, _⟩) (v := .bool rb) rfl (by kernel_rfl) (by kernel_rfl) (by kernel_rfl) (fun _ _ _ h => h) (Or.inl ⟨by kernel_rfl, fun W hS => by go_simp⟩) (HSF _ HR) ?_
          (try simp only [Act.put, List.setIfInBounds_toArray, List.set_cons_zero, List.set_cons_succ])
          change wpAnyH _ _ _ _ _ _ #[true, true, true, true, true, true, true, false, false, false] _ _
          exact Gr7_2_0 W2 Aw cw Bw dw Cw kw HR O
        · skip
          go_simp
          have hb := below_a1 W (.cells #[.int .i64 0, .int .i64 0, .int .i64 0, .bool false, .slice none 0 0, .slice none 0 0, .int .i64 0, .slice none 0 0] 43)
          have Zq : Hid (Blk (W.alloc (.cells #[.int .i64 0, .int .i64 0, .int .i64 0, .bool false, .slice none 0 0, .slice none 0 0, .int .i64 0, .slice none 0 0] 43)) W.heap.size #[.int .i64 0, .int .i64 0, .int .i64 0, .bool false, .slice none 0 0, .slice none 0 0, .int .i64 0, .slice none 0 0] 43) := Lib.hid (Blk.new W #[.int .i64 0, .int .i64 0, .int .i64 0, .bool false, .slice none 0 0, .slice none 0 0, .int .i64 0, .slice none 0 0] 43)
          have HQq : Hid ((w3.alloc (.cells #[.int .i64 N, .slice Agx l cgx] 38)).heap.size ≤ W.heap.size) := Lib.hid (Below.size HR.out)
          have HR := Lib.hid (g_chain HR.out hb)
          clear hb
          refine hK.out _ _ (HSF _ HR) (fun _ => ?_)
          clear hK K
          (try simp only [List.setIfInBounds_toArray, List.set_cons_zero, List.set_cons_succ])
          generalize hZ : W.alloc (.cells #[.int .i64 0, .int .i64 0, .int .i64 0, .bool false, .slice none 0 0, .slice none 0 0, .int .i64 0, .slice none 0 0] 43) = W2 at Zq HR ⊢
          clear hZ
          generalize hZ : W.heap.size = q at Zq HQq ⊢
          clear hZ
          change wpAnyH _ _ _ _ _ _ #[true, true, true, false, false, false, false, true, false, false] _ _
          exact Gr7_1_1 W2 q HR Zq HQq
      · intro W q HR Zq HQq
        change wpAnyH _ _ _ _ _ _ #[true, true, true, false, false, false, false, true, false, false] _ _
        refine wpAnyH_ready (rs := [3]) (by kernel_rfl) (by simp) (AllReadyH.cons rfl (fun K hK => ?_) AllReadyH.nil)
        · skip
          go_simp
          go_at_call 15
          refine (CI.out W (g_chain H_38.out HR.out) _ _ _ (own_below Gx_43.out HR.out)).mono ?_
          rintro e W2 ⟨Aw, cw, Bw, dw, Cw, kw, rfl, ho, hb⟩
          have Zq : Hid (Blk W2 q #[.int .i64 0, .int .i64 0, .int .i64 0, .bool false, .slice none 0 0, .slice none 0 0, .int .i64 0, .slice none 0 0] 43) := Lib.hid (Zq.out.below hb)
          have HQq : Hid ((w3.alloc (.cells #[.int .i64 N, .slice Agx l cgx] 38)).heap.size ≤ q) := Lib.hid (HQq.out)
          have O : Hid (Rows3 W2 (w3.alloc (.cells #[.int .i64 N, .slice Agx l cgx] 38)).heap.size Aw rv.length cw Bw re.length dw Cw rx.length kw rv re rx) := Lib.hid (Rows3.mono ho (Below.size HR.out))
          have HR := Lib.hid (g_chain HR.out hb)
          clear hb
          dsimp only
          refine hK.out _ _ (HSF _ HR) (fun _ => ?_)
          clear hK K
          (try simp only [List.setIfInBounds_toArray, List.set_cons_zero, List.set_cons_succ])
          refine wpAnyH_take (i := 4) (oi := ⟨_, _, _, _, _, _⟩) (v := .tuple #[.agg #[.int .i64 rp, .int .i64 rs, .int .i64 ri, .bool rd, .slice Aw rv.length cw, .slice Bw re.length dw, .int .i64 rn, .slice Cw rx.length kw], .bool rb]) rfl (by kernel_rfl) (by kernel_rfl) (by kernel_rfl) (fun _ _ _ h => h) (Or.inl ⟨by kernel_rfl, fun W hS => by go_simp⟩) (HSF _ HR) ?_
          (try simp only [Act.put, List.setIfInBounds_toArray, List.set_cons_zero, List.set_cons_succ])
          refine wpAnyH_take (i := 5) (oi := ⟨_, _, _, _, _, _⟩) (v := .agg #[.int .i64 rp, .int .i64 rs, .int .i64 ri, .bool rd, .slice Aw rv.length cw, .slice Bw re.length dw, .int .i64 rn, .slice Cw rx.length kw]) rfl (by kernel_rfl) (by kernel_rfl) (by kernel_rfl) (fun _ _ _ h => h) (Or.inl ⟨by kernel_rfl, fun W hS => by go_simp⟩) (HSF _ HR) ?_
          (try simp only [Act.put, List.setIfInBounds_toArray, List.set_cons_zero, List.set_cons_succ])
          refine wpAnyH_take (i := 6) (oi := ⟨_, _, _, _, _, _⟩) (v := .bool rb) rfl (by kernel_rfl) (by kernel_rfl) (by kernel_rfl) (fun _ _ _ h => h) (Or.inl ⟨by kernel_rfl, fun W hS => by go_simp⟩) (HSF _ HR) ?_
          (try simp only [Act.put, List.setIfInBounds_toArray, List.set_cons_zero, List.set_cons_succ])
          change wpAnyH _ _ _ _ _ _ #[true, true, true, true, true, true, true, true, false, false] _ _
          exact Gr7_2_1 W2 Aw cw Bw dw Cw kw q HR O Zq HQq
      · intro W Aw cw Bw dw Cw kw HR O
        change wpAnyH _ _ _ _ _ _ #[true, true, true, true, true, true, true, false, false, false] _ _
        refine wpAnyH_ready (rs := [7]) (by kernel_rfl) (by simp) (AllReadyH.cons rfl (fun K hK => ?_) AllReadyH.nil)
        · skip
          go_simp
          have hb := below_a1 W (.cells #[.int .i64 0, .int .i64 0, .int .i64 0, .bool false, .slice none 0 0, .slice none 0 0, .int .i64 0, .slice none 0 0] 43)
          have O : Hid (Rows3 (W.alloc (.cells #[.int .i64 0, .int .i64 0, .int .i64 0, .bool false, .slice none 0 0, .slice none 0 0, .int .i64 0, .slice none 0 0] 43)) (w3.alloc (.cells #[.int .i64 N, .slice Agx l cgx] 38)).heap.size Aw rv.length cw Bw re.length dw Cw rx.length kw rv re rx) := Lib.hid (O.out.below hb)
          have Zq : Hid (Blk (W.alloc (.cells #[.int .i64 0, .int .i64 0, .int .i64 0, .bool false, .slice none 0 0, .slice none 0 0, .int .i64 0, .slice none 0 0] 43)) W.heap.size #[.int .i64 0, .int .i64 0, .int .i64 0, .bool false, .slice none 0 0, .slice none 0 0, .int .i64 0, .slice none 0 0] 43) := Lib.hid (Blk.new W #[.int .i64 0, .int .i64 0, .int .i64 0, .bool false, .slice none 0 0, .slice none 0 0, .int .i64 0, .slice none 0 0] 43)
          have HQq : Hid ((w3.alloc (.cells #[.int .i64 N, .slice Agx l cgx] 38)).heap.size ≤ W.heap.size) := Lib.hid (Below.size HR.out)
          have HR := Lib.hid (g_chain HR.out hb)
          clear hb
          refine hK.out _ _ (HSF _ HR) (fun _ => ?_)
          clear hK K
          (try simp only [List.setIfInBounds_toArray, List.set_cons_zero, List.set_cons_succ])
          generalize hZ : W.alloc (.cells #[.int .i64 0, .int .i64 0, .int .i64 0, .bool false, .slice none 0 0, .slice none 0 0, .int .i64 0, .slice none 0 0] 43) = W2 at O Zq HR ⊢
          clear hZ
          generalize hZ : W.heap.size = q at Zq HQq ⊢
          clear hZ
          change wpAnyH _ _ _ _ _ _ #[true, true, true, true, true, true, true, true, false, false] _ _
          exact Gr7_2_1 W2 Aw cw Bw dw Cw kw q HR O Zq HQq
      · intro W Aw cw Bw dw Cw kw q HR O Zq HQq
        change wpAnyH _ _ _ _ _ _ #[true, true, true, true, true, true, true, true, false, false] _ _
        refine wpAnyH_ready (rs := [8]) (by kernel_rfl) (by simp) (AllReadyH.cons rfl (fun K hK => ?_) AllReadyH.nil)
        obtain ⟨zl, z0, z1, z2, z3, z4, z5, z6, z7⟩ := Zq.out.eight
        obtain ⟨f0, f1, f2, f3, f4, f5, f6, f7⟩ := Zq.out.eightF
        go_simp
        clear z0 z1 z2 z3 z4 z5 z6 z7 f0 f1 f2 f3 f4 f5 f6 f7
        have hgr := layR_grown W q (.int .i64 rp) (.int .i64 rs) (.int .i64 ri) (.bool rd) (.slice Aw rv.length cw) (.slice Bw re.length dw) (.int .i64 rn) (.slice Cw rx.length kw)
        have EX0 := Lib.hid ((X0_45.out.below HR.out).grown hgr (by intro e; injection e with e; have h1 := HQq.out; have h2 := X0_45.out.lt; omega))
        have EBR := Lib.hid ((BR_40.out.below HR.out).grown hgr (by intro e; injection e with e; have h1 := HQq.out; have h2 := BR_40.out.lt; omega))
        refine hK.out _ _ ⟨EX0.out.cell (i := 0) rfl, EX0.out.cell (i := 1) rfl, EBR.out.cell (i := 0) rfl, EBR.out.cell (i := 1) rfl⟩ (fun _ => ?_)
        clear hK K
        (try simp only [List.setIfInBounds_toArray, List.set_cons_zero, List.set_cons_succ])
        refine wpAnyH_take (i := 9) (oi := ⟨_, _, _, _, _, _⟩) (v := .bool rb) rfl (by kernel_rfl) (by kernel_rfl) (by kernel_rfl) (fun _ _ _ h => h) (Or.inl ⟨by kernel_rfl, fun W hS => by go_simp⟩) ⟨EX0.out.cell (i := 0) rfl, EX0.out.cell (i := 1) rfl, EBR.out.cell (i := 0) rfl, EBR.out.cell (i := 1) rfl⟩ ?_
        (try simp only [Act.put, List.setIfInBounds_toArray, List.set_cons_zero, List.set_cons_succ])
        refine wpAnyH_done (by kernel_rfl) ?_ _
        go_wp2_with fail
        go_meet
        exact ⟨q, Aw, cw, Bw, dw, Cw, kw, rfl, rfl, Lib.hid (HR.out.grown hgr (Below.size HR.out) (fun j hj => by injection hj with hj; have h1 := HQq.out; omega)), Lib.hid (layR_blk Zq.out), Lib.hid ⟨own_kept O.out.v hgr (own_kind O.out.v Zq.out (by decide)), own_kept O.out.e hgr (own_kind O.out.e Zq.out (by decide)), own_kept O.out.x hgr (own_kind O.out.x Zq.out (by decide)), O.out.ap⟩, Lib.hid ⟨HQq.out, Nat.lt_of_lt_of_le zl hgr.size⟩⟩
    case rest =>
      rename World => w4
      obtain ⟨qg, Awg, cwg, Bwg, dwg, Cwg, kwg, rfl, rfl, hb, hx, ho, hq⟩ := hcut
      have H_47 := Lib.hid (g_chain H_38.out hb.out)
      clear H_38
      have BG_48 := Lib.hid (BG_39.out.below hb.out)
      clear BG_39
      have BR_49 := Lib.hid (BR_40.out.below hb.out)
      clear BR_40
      have Aw_50 := Lib.hid (Aw_41.out.below hb.out)
      clear Aw_41
      have Bw_51 := Lib.hid (Bw_42.out.below hb.out)
      clear Bw_42
      have Gx_52 := Lib.hid (own_below Gx_43.out hb.out)
      clear Gx_43
      have X0_53 := Lib.hid (X0_45.out.below hb.out)
      clear X0_45
      have sz_54 := Lib.hid (Below.size hb.out)
      have sz_55 := Lib.hid (hq.out.1)
      have sz_56 := Lib.hid (hq.out.2)
      have RG_57 := Lib.hid (ho.out).at_
      have Ag_58 := Lib.hid (ho.out)
      have Bg_59 := Lib.hid (hx.out)
      clear hb hx ho hq
      have x_60 := Bg_59.out.cell (i := 0) rfl
      have x_61 := Bg_59.out.cell (i := 1) rfl
      have x_62 := Bg_59.out.cell (i := 2) rfl
      have x_63 := Bg_59.out.cell (i := 3) rfl
      have x_64 := Bg_59.out.cell (i := 4) rfl
      have x_65 := Bg_59.out.cell (i := 5) rfl
      have x_66 := Bg_59.out.cell (i := 6) rfl
      have x_67 := Bg_59.out.cell (i := 7) rfl
      have lt_68 := Bg_59.out.lt
      have x_69 := Bw_51.out.cell (i := 0) rfl
      have x_70 := Bw_51.out.cell (i := 1) rfl
      have x_71 := Bw_51.out.cell (i := 2) rfl
      have x_72 := Bw_51.out.cell (i := 3) rfl
      have x_73 := Bw_51.out.cell (i := 4) rfl
      have x_74 := Bw_51.out.cell (i := 5) rfl
      have x_75 := Bw_51.out.cell (i := 6) rfl
      have x_76 := Bw_51.out.cell (i := 7) rfl
      have lt_77 := Bw_51.out.lt
      go_wp2_with fail
      refine (CEA.out _ _ _ _ _ _ _ _ _ _ _ _ _ _ _ Ag_58.out Aw_50.out).mono ?_
      rintro e w5 ⟨rfl, hb⟩
      clear x_60 x_61 x_62 x_63 x_64 x_65 x_66 x_67 lt_68 x_69 x_70 x_71 x_72 x_73 x_74 x_75 x_76 lt_77
      have H_78 := Lib.hid (g_chain H_47.out hb)
      clear H_47
      have BG_79 := Lib.hid (BG_48.out.below hb)
      clear BG_48
      have BR_80 := Lib.hid (BR_49.out.below hb)
      clear BR_49
      have Aw_81 := Lib.hid (Aw_50.out.below hb)
      clear Aw_50
      have Bw_82 := Lib.hid (Bw_51.out.below hb)
      clear Bw_51
      have Gx_83 := Lib.hid (own_below Gx_52.out hb)
      clear Gx_52
      have X0_84 := Lib.hid (X0_53.out.below hb)
      clear X0_53
      have Ag_85 := Lib.hid (Ag_58.out.below hb)
      clear Ag_58
      have Bg_86 := Lib.hid (Bg_59.out.below hb)
      clear Bg_59
      have sz_87 := Lib.hid (Below.size hb)
      clear hb
      go_upto_region 10 with fail
      refine wp_region_any (by kernel_rfl) ?_
      change wpAny _ _ _ _ _ _ _ (World.drew _)
      have hb : Below w5.heap.size w5 (World.drew w5) := (Below.refl _ _).drew
      have H_88 := Lib.hid (g_chain H_78.out hb)
      clear H_78
      have BG_89 := Lib.hid (BG_79.out.below hb)
      clear BG_79
      have BR_90 := Lib.hid (BR_80.out.below hb)
      clear BR_80
      have Aw_91 := Lib.hid (Aw_81.out.below hb)
      clear Aw_81
      have Bw_92 := Lib.hid (Bw_82.out.below hb)
      clear Bw_82
      have Gx_93 := Lib.hid (own_below Gx_83.out hb)
      clear Gx_83
      have X0_94 := Lib.hid (X0_84.out.below hb)
      clear X0_84
      have Ag_95 := Lib.hid (Ag_85.out.below hb)
      clear Ag_85
      have Bg_96 := Lib.hid (Bg_86.out.below hb)
      clear Bg_86
      have sz_97 := Lib.hid (Below.size hb)
      clear hb
      generalize hDD : World.drew w5 = w6 at H_88 BG_89 BR_90 Aw_91 Bw_92 Gx_93 X0_94 Ag_95 Bg_96 sz_97 ⊢
      clear hDD
      refine wpAny_of_held (S := fun W => W.cell? ⟨w.heap.size, 0, none⟩ = some (.int .i64 N) ∧ W.cell? ⟨w.heap.size, 1, none⟩ = some (.slice AG l cG) ∧ W.cell? ⟨w3.heap.size, 0, none⟩ = some (.int .i64 N) ∧ W.cell? ⟨w3.heap.size, 1, none⟩ = some (.slice Agx l cgx)) _ _ _ _ ?_
      refine held_nameL ⟨BG_89.out.cell (i := 0) rfl, BG_89.out.cell (i := 1) rfl, X0_94.out.cell (i := 0) rfl, X0_94.out.cell (i := 1) rfl⟩ (fun hS => ?_)
      refine wpAnyH_take (i := 0) (oi := ⟨_, _, _, _, _, _⟩) (v := .agg #[.int .i64 N, .slice Agx l cgx]) rfl (by kernel_rfl) (by kernel_rfl) (by kernel_rfl) (fun _ _ _ h => h) (Or.inl ⟨by kernel_rfl, fun W hS => by (obtain ⟨s0, s1, s2, s3⟩ := hS); go_simp⟩) hS ?_
      (try simp only [Act.put, List.setIfInBounds_toArray, List.set_cons_zero, List.set_cons_succ])
      refine wpAnyH_take (i := 1) (oi := ⟨_, _, _, _, _, _⟩) (v := .agg #[.int .i64 N, .slice AG l cG]) rfl (by kernel_rfl) (by kernel_rfl) (by kernel_rfl) (fun _ _ _ h => h) (Or.inl ⟨by kernel_rfl, fun W hS => by (obtain ⟨s0, s1, s2, s3⟩ := hS); go_simp⟩) hS ?_
      (try simp only [Act.put, List.setIfInBounds_toArray, List.set_cons_zero, List.set_cons_succ])
      refine wpAnyH_ready (rs := [2]) (by kernel_rfl) (by simp) (AllReadyH.cons rfl (fun K hK => ?_) AllReadyH.nil)
      go_simp
      go_at_call 8
      refine (CTG.out _ H_88.out).mono ?_
      rintro e w7 ⟨Agq, cgq, rfl, ho, hb⟩
      have H_98 := Lib.hid (g_chain H_88.out hb)
      clear H_88
      have BG_99 := Lib.hid (BG_89.out.below hb)
      clear BG_89
      have BR_100 := Lib.hid (BR_90.out.below hb)
      clear BR_90
      have Aw_101 := Lib.hid (Aw_91.out.below hb)
      clear Aw_91
      have Bw_102 := Lib.hid (Bw_92.out.below hb)
      clear Bw_92
      have Gx_103 := Lib.hid (own_below Gx_93.out hb)
      clear Gx_93
      have X0_104 := Lib.hid (X0_94.out.below hb)
      clear X0_94
      have Ag_105 := Lib.hid (Ag_95.out.below hb)
      clear Ag_95
      have Bg_106 := Lib.hid (Bg_96.out.below hb)
      clear Bg_96
      have sz_107 := Lib.hid (Below.size hb)
      have RG_108 := Lib.hid (ho).lt
      have Gq_109 := Lib.hid (ho)
      clear ho hb
      dsimp only
      refine hK.out _ _ ⟨BG_99.out.cell (i := 0) rfl, BG_99.out.cell (i := 1) rfl, X0_104.out.cell (i := 0) rfl, X0_104.out.cell (i := 1) rfl⟩ (fun hS => ?_)
      clear hK K
      (try simp only [Act.put, List.setIfInBounds_toArray, List.set_cons_zero, List.set_cons_succ])
      refine wpAnyH_ready (rs := [3]) (by kernel_rfl) (by simp) (AllReadyH.cons rfl (fun K hK => ?_) AllReadyH.nil)
      go_simp
      go_at_call 11
      refine (CEG.out _ _ _ _ _ (SlG.of_own Gx_103.out HLG.out) (SlG.of_own Gq_109.out HLG.out)).mono ?_
      rintro e w8 ⟨rfl, hb⟩
      have H_110 := Lib.hid (g_chain H_98.out hb)
      clear H_98
      have BG_111 := Lib.hid (BG_99.out.below hb)
      clear BG_99
      have BR_112 := Lib.hid (BR_100.out.below hb)
      clear BR_100
      have Aw_113 := Lib.hid (Aw_101.out.below hb)
      clear Aw_101
      have Bw_114 := Lib.hid (Bw_102.out.below hb)
      clear Bw_102
      have Gx_115 := Lib.hid (own_below Gx_103.out hb)
      clear Gx_103
      have X0_116 := Lib.hid (X0_104.out.below hb)
      clear X0_104
      have Ag_117 := Lib.hid (Ag_105.out.below hb)
      clear Ag_105
      have Bg_118 := Lib.hid (Bg_106.out.below hb)
      clear Bg_106
      have Gq_119 := Lib.hid (own_below Gq_109.out hb)
      clear Gq_109
      have sz_120 := Lib.hid (Below.size hb)
      clear hb
      dsimp only
      refine hK.out _ _ ⟨BG_111.out.cell (i := 0) rfl, BG_111.out.cell (i := 1) rfl, X0_116.out.cell (i := 0) rfl, X0_116.out.cell (i := 1) rfl⟩ (fun hS => ?_)
      clear hK K
      (try simp only [Act.put, List.setIfInBounds_toArray, List.set_cons_zero, List.set_cons_succ])
      refine wpAnyH_take (i := 4) (oi := ⟨_, _, _, _, _, _⟩) (v := .bool false) rfl (by kernel_rfl) (by kernel_rfl) (by kernel_rfl) (fun _ _ _ h => h) (Or.inl ⟨by kernel_rfl, fun W hS => by (obtain ⟨s0, s1, s2, s3⟩ := hS); go_simp⟩) hS ?_
      (try simp only [Act.put, List.setIfInBounds_toArray, List.set_cons_zero, List.set_cons_succ])
      refine wpAnyH_done (by kernel_rfl) ?_ _
      clear Gq_119
      have x_121 := X0_116.out.cell (i := 0) rfl
      have x_122 := X0_116.out.cell (i := 1) rfl
      have lt_123 := X0_116.out.lt
      go_wp2_with fail
      refine (CMG.out _ _ _ _ Gx_115.out).mono ?_
      rintro e w9 ⟨rfl, hg⟩
      clear x_121 x_122 lt_123
      have hwr := Wr.of_grown hg RG_33.out
      have H_124 := Lib.hid (Wr.orig hwr H_110.out (by have := sz_4.out; have := sz_14.out; have := sz_18.out; have := sz_19.out; have := sz_20.out; have := sz_32.out; have := sz_35.out; have := sz_36.out; have := sz_37.out; have := sz_44.out; have := sz_46.out; have := sz_54.out; have := sz_55.out; have := sz_56.out; have := sz_87.out; have := sz_97.out; have := sz_107.out; have := sz_120.out; omega) (by have := sz_4.out; have := sz_14.out; have := sz_18.out; have := sz_19.out; have := sz_20.out; have := sz_32.out; have := sz_35.out; have := sz_36.out; have := sz_37.out; have := sz_44.out; have := sz_46.out; have := sz_54.out; have := sz_55.out; have := sz_56.out; have := sz_87.out; have := sz_97.out; have := sz_107.out; have := sz_120.out; omega))
      clear H_110
      have BG_125 := Lib.hid (Wr.blk hwr BG_111.out (by have := sz_4.out; have := sz_14.out; have := sz_18.out; have := sz_19.out; have := sz_20.out; have := sz_32.out; have := sz_35.out; have := sz_36.out; have := sz_37.out; have := sz_44.out; have := sz_46.out; have := sz_54.out; have := sz_55.out; have := sz_56.out; have := sz_87.out; have := sz_97.out; have := sz_107.out; have := sz_120.out; omega))
      clear BG_111
      have BR_126 := Lib.hid (Wr.blk hwr BR_112.out (by have := sz_4.out; have := sz_14.out; have := sz_18.out; have := sz_19.out; have := sz_20.out; have := sz_32.out; have := sz_35.out; have := sz_36.out; have := sz_37.out; have := sz_44.out; have := sz_46.out; have := sz_54.out; have := sz_55.out; have := sz_56.out; have := sz_87.out; have := sz_97.out; have := sz_107.out; have := sz_120.out; omega))
      clear BR_112
      have Aw_127 := Lib.hid (Wr.rows hwr Aw_113.out RG_21.out (by have := sz_4.out; have := sz_14.out; have := sz_18.out; have := sz_19.out; have := sz_20.out; have := sz_32.out; have := sz_35.out; have := sz_36.out; have := sz_37.out; have := sz_44.out; have := sz_46.out; have := sz_54.out; have := sz_55.out; have := sz_56.out; have := sz_87.out; have := sz_97.out; have := sz_107.out; have := sz_120.out; omega))
      clear Aw_113
      have Bw_128 := Lib.hid (Wr.blk hwr Bw_114.out (by have := sz_4.out; have := sz_14.out; have := sz_18.out; have := sz_19.out; have := sz_20.out; have := sz_32.out; have := sz_35.out; have := sz_36.out; have := sz_37.out; have := sz_44.out; have := sz_46.out; have := sz_54.out; have := sz_55.out; have := sz_56.out; have := sz_87.out; have := sz_97.out; have := sz_107.out; have := sz_120.out; omega))
      clear Bw_114
      have X0_129 := Lib.hid (Wr.blk hwr X0_116.out (by have := sz_4.out; have := sz_14.out; have := sz_18.out; have := sz_19.out; have := sz_20.out; have := sz_32.out; have := sz_35.out; have := sz_36.out; have := sz_37.out; have := sz_44.out; have := sz_46.out; have := sz_54.out; have := sz_55.out; have := sz_56.out; have := sz_87.out; have := sz_97.out; have := sz_107.out; have := sz_120.out; omega))
      clear X0_116
      have Ag_130 := Lib.hid (Wr.rows hwr Ag_117.out RG_57.out (by have := sz_4.out; have := sz_14.out; have := sz_18.out; have := sz_19.out; have := sz_20.out; have := sz_32.out; have := sz_35.out; have := sz_36.out; have := sz_37.out; have := sz_44.out; have := sz_46.out; have := sz_54.out; have := sz_55.out; have := sz_56.out; have := sz_87.out; have := sz_97.out; have := sz_107.out; have := sz_120.out; omega))
      clear Ag_117
      have Bg_131 := Lib.hid (Wr.blk hwr Bg_118.out (by have := sz_4.out; have := sz_14.out; have := sz_18.out; have := sz_19.out; have := sz_20.out; have := sz_32.out; have := sz_35.out; have := sz_36.out; have := sz_37.out; have := sz_44.out; have := sz_46.out; have := sz_54.out; have := sz_55.out; have := sz_56.out; have := sz_87.out; have := sz_97.out; have := sz_107.out; have := sz_120.out; omega))
      clear Bg_118
      have sz_132 := Lib.hid (Wr.size hwr)
      clear hwr
      clear hg
      clear X0_129
      have x_133 := Bg_131.out.cell (i := 0) rfl
      have x_134 := Bg_131.out.cell (i := 1) rfl
      have x_135 := Bg_131.out.cell (i := 2) rfl
      have x_136 := Bg_131.out.cell (i := 3) rfl
      have x_137 := Bg_131.out.cell (i := 4) rfl
      have x_138 := Bg_131.out.cell (i := 5) rfl
      have x_139 := Bg_131.out.cell (i := 6) rfl
      have x_140 := Bg_131.out.cell (i := 7) rfl
      have lt_141 := Bg_131.out.lt
      have x_142 := Bw_128.out.cell (i := 0) rfl
      have x_143 := Bw_128.out.cell (i := 1) rfl
      have x_144 := Bw_128.out.cell (i := 2) rfl
      have x_145 := Bw_128.out.cell (i := 3) rfl
      have x_146 := Bw_128.out.cell (i := 4) rfl
      have x_147 := Bw_128.out.cell (i := 5) rfl
      have x_148 := Bw_128.out.cell (i := 6) rfl
      have x_149 := Bw_128.out.cell (i := 7) rfl
      have lt_150 := Bw_128.out.lt
      go_wp2_with fail
      refine (CEA.out _ _ _ _ _ _ _ _ _ _ _ _ _ _ _ Ag_130.out Aw_127.out).mono ?_
      rintro e w10 ⟨rfl, hb⟩
      clear x_133 x_134 x_135 x_136 x_137 x_138 x_139 x_140 lt_141 x_142 x_143 x_144 x_145 x_146 x_147 x_148 x_149 lt_150
      have H_151 := Lib.hid (g_chain H_124.out hb)
      clear H_124
      have BG_152 := Lib.hid (BG_125.out.below hb)
      clear BG_125
      have BR_153 := Lib.hid (BR_126.out.below hb)
      clear BR_126
      have Aw_154 := Lib.hid (Aw_127.out.below hb)
      clear Aw_127
      have Bw_155 := Lib.hid (Bw_128.out.below hb)
      clear Bw_128
      have Ag_156 := Lib.hid (Ag_130.out.below hb)
      clear Ag_130
      have Bg_157 := Lib.hid (Bg_131.out.below hb)
      clear Bg_131
      have sz_158 := Lib.hid (Below.size hb)
      clear hb
      have x_159 := Bg_157.out.cell (i := 0) rfl
      have x_160 := Bg_157.out.cell (i := 1) rfl
      have x_161 := Bg_157.out.cell (i := 2) rfl
      have x_162 := Bg_157.out.cell (i := 3) rfl
      have x_163 := Bg_157.out.cell (i := 4) rfl
      have x_164 := Bg_157.out.cell (i := 5) rfl
      have x_165 := Bg_157.out.cell (i := 6) rfl
      have x_166 := Bg_157.out.cell (i := 7) rfl
      have lt_167 := Bg_157.out.lt
      go_wp2_with fail
      refine (CMA.out _ _ _ _ _ _ _ _ Ag_156.out).mono ?_
      rintro e w11 ⟨rfl, ⟨hm1, hm2, hm3⟩, ho⟩
      clear x_159 x_160 x_161 x_162 x_163 x_164 x_165 x_166 lt_167
      have hwr := Wr.of_only ho RG_57.out
      have H_168 := Lib.hid (Wr.orig hwr H_151.out (by have := sz_4.out; have := sz_14.out; have := sz_18.out; have := sz_19.out; have := sz_20.out; have := sz_32.out; have := sz_35.out; have := sz_36.out; have := sz_37.out; have := sz_44.out; have := sz_46.out; have := sz_54.out; have := sz_55.out; have := sz_56.out; have := sz_87.out; have := sz_97.out; have := sz_107.out; have := sz_120.out; have := sz_132.out; have := sz_158.out; omega) (by have := sz_4.out; have := sz_14.out; have := sz_18.out; have := sz_19.out; have := sz_20.out; have := sz_32.out; have := sz_35.out; have := sz_36.out; have := sz_37.out; have := sz_44.out; have := sz_46.out; have := sz_54.out; have := sz_55.out; have := sz_56.out; have := sz_87.out; have := sz_97.out; have := sz_107.out; have := sz_120.out; have := sz_132.out; have := sz_158.out; omega))
      clear H_151
      have BG_169 := Lib.hid (Wr.blk hwr BG_152.out (by have := sz_4.out; have := sz_14.out; have := sz_18.out; have := sz_19.out; have := sz_20.out; have := sz_32.out; have := sz_35.out; have := sz_36.out; have := sz_37.out; have := sz_44.out; have := sz_46.out; have := sz_54.out; have := sz_55.out; have := sz_56.out; have := sz_87.out; have := sz_97.out; have := sz_107.out; have := sz_120.out; have := sz_132.out; have := sz_158.out; omega))
      clear BG_152
      have BR_170 := Lib.hid (Wr.blk hwr BR_153.out (by have := sz_4.out; have := sz_14.out; have := sz_18.out; have := sz_19.out; have := sz_20.out; have := sz_32.out; have := sz_35.out; have := sz_36.out; have := sz_37.out; have := sz_44.out; have := sz_46.out; have := sz_54.out; have := sz_55.out; have := sz_56.out; have := sz_87.out; have := sz_97.out; have := sz_107.out; have := sz_120.out; have := sz_132.out; have := sz_158.out; omega))
      clear BR_153
      have Aw_171 := Lib.hid (Wr.rows hwr Aw_154.out RG_21.out (by have := sz_4.out; have := sz_14.out; have := sz_18.out; have := sz_19.out; have := sz_20.out; have := sz_32.out; have := sz_35.out; have := sz_36.out; have := sz_37.out; have := sz_44.out; have := sz_46.out; have := sz_54.out; have := sz_55.out; have := sz_56.out; have := sz_87.out; have := sz_97.out; have := sz_107.out; have := sz_120.out; have := sz_132.out; have := sz_158.out; omega))
      clear Aw_154
      have Bw_172 := Lib.hid (Wr.blk hwr Bw_155.out (by have := sz_4.out; have := sz_14.out; have := sz_18.out; have := sz_19.out; have := sz_20.out; have := sz_32.out; have := sz_35.out; have := sz_36.out; have := sz_37.out; have := sz_44.out; have := sz_46.out; have := sz_54.out; have := sz_55.out; have := sz_56.out; have := sz_87.out; have := sz_97.out; have := sz_107.out; have := sz_120.out; have := sz_132.out; have := sz_158.out; omega))
      clear Bw_155
      have Bg_173 := Lib.hid (OnlyB.blk ho Bg_157.out (by rintro (h | h | h) <;> first | exact own_kind Ag_156.out.v Bg_157.out (by decide) h | exact own_kind Ag_156.out.e Bg_157.out (by decide) h | exact own_kind Ag_156.out.x Bg_157.out (by decide) h))
      clear Bg_157
      have sz_174 := Lib.hid (Wr.size hwr)
      clear hwr
      clear ho
      have RG_175 := Lib.hid (hm1).lt
      have M1_176 := Lib.hid (hm1)
      have RG_177 := Lib.hid (hm2).lt
      have M2_178 := Lib.hid (hm2)
      have RG_179 := Lib.hid (hm3).lt
      have M3_180 := Lib.hid (hm3)
      clear hm1 hm2 hm3
      have x_181 := Bg_173.out.cell (i := 0) rfl
      have x_182 := Bg_173.out.cell (i := 1) rfl
      have x_183 := Bg_173.out.cell (i := 2) rfl
      have x_184 := Bg_173.out.cell (i := 3) rfl
      have x_185 := Bg_173.out.cell (i := 4) rfl
      have x_186 := Bg_173.out.cell (i := 5) rfl
      have x_187 := Bg_173.out.cell (i := 6) rfl
      have x_188 := Bg_173.out.cell (i := 7) rfl
      have lt_189 := Bg_173.out.lt
      go_wp2_with fail
      refine (CHA.out _ _ _ _ _ _ _ _ M1_176.out M2_178.out M3_180.out).mono ?_
      rintro e w12 ⟨rfl, hb⟩
      clear x_181 x_182 x_183 x_184 x_185 x_186 x_187 x_188 lt_189
      have H_190 := Lib.hid (g_chain H_168.out hb)
      clear H_168
      have BG_191 := Lib.hid (BG_169.out.below hb)
      clear BG_169
      have BR_192 := Lib.hid (BR_170.out.below hb)
      clear BR_170
      have Aw_193 := Lib.hid (Aw_171.out.below hb)
      clear Aw_171
      have Bw_194 := Lib.hid (Bw_172.out.below hb)
      clear Bw_172
      have Bg_195 := Lib.hid (Bg_173.out.below hb)
      clear Bg_173
      have M1_196 := Lib.hid (own_below M1_176.out hb)
      clear M1_176
      have M2_197 := Lib.hid (own_below M2_178.out hb)
      clear M2_178
      have M3_198 := Lib.hid (own_below M3_180.out hb)
      clear M3_180
      have sz_199 := Lib.hid (Below.size hb)
      clear hb
      go_upto_region 24 with fail
      go_cut [14, 15] (fun (sa : Value) (sb : Value) (wx : World) => ∃ (q : Nat) (Aw : Option Addr) (cw : Nat) (Bw : Option Addr) (dw : Nat) (Cw : Option Addr) (kw : Nat), sa = .pointer (some ⟨q, 0, none⟩) ∧ sb = .bool rb ∧ Hid (Below w12.heap.size w12 wx) ∧ Hid (Blk wx q #[.int .i64 rp, .int .i64 rs, .int .i64 ri, .bool rd, .slice Aw rv.length cw, .slice Bw re.length dw, .int .i64 rn, .slice Cw rx.length kw] 43) ∧ Hid (Rows3 wx w12.heap.size Aw rv.length cw Bw re.length dw Cw rx.length kw rv re rx) ∧ Hid (w12.heap.size ≤ q ∧ q < wx.heap.size))
      case first =>
        have HSF : ∀ W, Hid (Below w12.heap.size w12 W) → (W.cell? ⟨w.heap.size, 0, none⟩ = some (.int .i64 N) ∧ W.cell? ⟨w.heap.size, 1, none⟩ = some (.slice AG l cG) ∧ W.cell? ⟨w.heap.size + 1, 0, none⟩ = some (.int .i64 p) ∧ W.cell? ⟨w.heap.size + 1, 1, none⟩ = some (.int .i64 s)) := fun W HR => ⟨(BG_191.out.below HR.out).cell (i := 0) rfl, (BG_191.out.below HR.out).cell (i := 1) rfl, (BR_192.out.below HR.out).cell (i := 0) rfl, (BR_192.out.below HR.out).cell (i := 1) rfl⟩
        have HR : Hid (Below w12.heap.size w12 w12.drew) := Lib.hid (Below.refl _ _).drew
        refine wp_region_any (by kernel_rfl) ?_
        change wpAny _ _ _ _ _ _ _ (World.drew _)
        refine wpAny_of_held (S := fun W => W.cell? ⟨w.heap.size, 0, none⟩ = some (.int .i64 N) ∧ W.cell? ⟨w.heap.size, 1, none⟩ = some (.slice AG l cG) ∧ W.cell? ⟨w.heap.size + 1, 0, none⟩ = some (.int .i64 p) ∧ W.cell? ⟨w.heap.size + 1, 1, none⟩ = some (.int .i64 s)) _ _ _ _ ?_
        generalize hDD : World.drew w12 = W at HR ⊢
        clear hDD
        refine wpAnyH_take (i := 0) (oi := ⟨_, _, _, _, _, _⟩) (v := .agg #[.int .i64 N, .slice AG l cG]) rfl (by kernel_rfl) (by kernel_rfl) (by kernel_rfl) (fun _ _ _ h => h) (Or.inl ⟨by kernel_rfl, fun W hS => by (obtain ⟨s0, s1, s2, s3⟩ := hS); go_simp⟩) (HSF _ HR) ?_
        (try simp only [Act.put, List.setIfInBounds_toArray, List.set_cons_zero, List.set_cons_succ])
        refine wpAnyH_take (i := 2) (oi := ⟨_, _, _, _, _, _⟩) (v := .agg #[.int .i64 p, .int .i64 s]) rfl (by kernel_rfl) (by kernel_rfl) (by kernel_rfl) (fun _ _ _ h => h) (Or.inl ⟨by kernel_rfl, fun W hS => by (obtain ⟨s0, s1, s2, s3⟩ := hS); go_simp⟩) (HSF _ HR) ?_
        (try simp only [Act.put, List.setIfInBounds_toArray, List.set_cons_zero, List.set_cons_succ])
        refine (fun (Gr24_3_1 : ∀ (W : World) (Ad : Option Addr) (cd : Nat) (Aw : Option Addr) (cw : Nat) (Bw : Option Addr) (dw : Nat) (Cw : Option Addr) (kw : Nat) (q : Nat), Hid (Below w12.heap.size w12 W) → Hid (Rows3 W w12.heap.size Aw rv.length cw Bw re.length dw Cw rx.length kw rv re rx) → Hid (Blk W q #[.int .i64 0, .int .i64 0, .int .i64 0, .bool false, .slice none 0 0, .slice none 0 0, .int .i64 0, .slice none 0 0] 43) → Hid (w12.heap.size ≤ q) → (?Xr24_3_1 : World → (Option Addr) → Nat → (Option Addr) → Nat → (Option Addr) → Nat → (Option Addr) → Nat → Nat → Prop) W Ad cd Aw cw Bw dw Cw kw q) => ?_) ?_
        rotate_left
        refine (fun (Gr24_3_0 : ∀ (W : World) (Ad : Option Addr) (cd : Nat) (Aw : Option Addr) (cw : Nat) (Bw : Option Addr) (dw : Nat) (Cw : Option Addr) (kw : Nat), Hid (Below w12.heap.size w12 W) → Hid (Rows3 W w12.heap.size Aw rv.length cw Bw re.length dw Cw rx.length kw rv re rx) → (?Xr24_3_0 : World → (Option Addr) → Nat → (Option Addr) → Nat → (Option Addr) → Nat → (Option Addr) → Nat → Prop) W Ad cd Aw cw Bw dw Cw kw) => ?_) ?_
        rotate_left
        refine (fun (Gr24_2_1 : ∀ (W : World) (Ad : Option Addr) (cd : Nat) (q : Nat), Hid (Below w12.heap.size w12 W) → Hid (W.ownsRow w12.heap.size 76 3 (.slice Ad l cd) l (G.flatMap GE.cells)) → Hid (Blk W q #[.int .i64 0, .int .i64 0, .int .i64 0, .bool false, .slice none 0 0, .slice none 0 0, .int .i64 0, .slice none 0 0] 43) → Hid (w12.heap.size ≤ q) → (?Xr24_2_1 : World → (Option Addr) → Nat → Nat → Prop) W Ad cd q) => ?_) ?_
        rotate_left
        refine (fun (Gr24_2_0 : ∀ (W : World) (Ad : Option Addr) (cd : Nat), Hid (Below w12.heap.size w12 W) → Hid (W.ownsRow w12.heap.size 76 3 (.slice Ad l cd) l (G.flatMap GE.cells)) → (?Xr24_2_0 : World → (Option Addr) → Nat → Prop) W Ad cd) => ?_) ?_
        rotate_left
        refine (fun (Gr24_1_1 : ∀ (W : World) (Ad : Option Addr) (cd : Nat) (q : Nat), Hid (Below w12.heap.size w12 W) → Hid (W.ownsRow w12.heap.size 76 3 (.slice Ad l cd) l (G.flatMap GE.cells)) → Hid (Blk W q #[.int .i64 0, .int .i64 0, .int .i64 0, .bool false, .slice none 0 0, .slice none 0 0, .int .i64 0, .slice none 0 0] 43) → Hid (w12.heap.size ≤ q) → (?Xr24_1_1 : World → (Option Addr) → Nat → Nat → Prop) W Ad cd q) => ?_) ?_
        rotate_left
        refine (fun (Gr24_1_0 : ∀ (W : World) (Ad : Option Addr) (cd : Nat), Hid (Below w12.heap.size w12 W) → Hid (W.ownsRow w12.heap.size 76 3 (.slice Ad l cd) l (G.flatMap GE.cells)) → (?Xr24_1_0 : World → (Option Addr) → Nat → Prop) W Ad cd) => ?_) ?_
        rotate_left
        refine (fun (Gr24_0_1 : ∀ (W : World) (q : Nat), Hid (Below w12.heap.size w12 W) → Hid (Blk W q #[.int .i64 0, .int .i64 0, .int .i64 0, .bool false, .slice none 0 0, .slice none 0 0, .int .i64 0, .slice none 0 0] 43) → Hid (w12.heap.size ≤ q) → (?Xr24_0_1 : World → Nat → Prop) W q) => ?_) ?_
        rotate_left
        change wpAnyH _ _ _ _ _ _ #[true, false, true, false, false, false, false, false, false, false, false] _ _
        refine wpAnyH_ready (rs := [1, 8]) (by kernel_rfl) (by simp) (AllReadyH.cons rfl (fun K hK => ?_) (AllReadyH.cons rfl (fun K hK => ?_) AllReadyH.nil))
        · skip
          go_simp
          go_at_call 8
          refine (CTG.out W (g_chain H_190.out HR.out)).mono ?_
          rintro e W2 ⟨Ad, cd, rfl, ho, hb⟩
          have DG : Hid (W2.ownsRow w12.heap.size 76 3 (.slice Ad l cd) l (G.flatMap GE.cells)) := Lib.hid (own_monoG ho (Below.size HR.out))
          have HR := Lib.hid (g_chain HR.out hb)
          clear hb
          dsimp only
          refine hK.out _ _ (HSF _ HR) (fun _ => ?_)
          clear hK K
          (try simp only [List.setIfInBounds_toArray, List.set_cons_zero, List.set_cons_succ])
          change wpAnyH _ _ _ _ _ _ #[true, true, true, false, false, false, false, false, false, false, false] _ _
          exact Gr24_1_0 W2 Ad cd HR DG
        · skip
          go_simp
          have hb := below_a1 W (.cells #[.int .i64 0, .int .i64 0, .int .i64 0, .bool false, .slice none 0 0, .slice none 0 0, .int .i64 0, .slice none 0 0] 43)
          have Zq : Hid (Blk (W.alloc (.cells #[.int .i64 0, .int .i64 0, .int .i64 0, .bool false, .slice none 0 0, .slice none 0 0, .int .i64 0, .slice none 0 0] 43)) W.heap.size #[.int .i64 0, .int .i64 0, .int .i64 0, .bool false, .slice none 0 0, .slice none 0 0, .int .i64 0, .slice none 0 0] 43) := Lib.hid (Blk.new W #[.int .i64 0, .int .i64 0, .int .i64 0, .bool false, .slice none 0 0, .slice none 0 0, .int .i64 0, .slice none 0 0] 43)
          have HQq : Hid (w12.heap.size ≤ W.heap.size) := Lib.hid (Below.size HR.out)
          have HR := Lib.hid (g_chain HR.out hb)
          clear hb
          refine hK.out _ _ (HSF _ HR) (fun _ => ?_)
          clear hK K
          (try simp only [List.setIfInBounds_toArray, List.set_cons_zero, List.set_cons_succ])
          generalize hZ : W.alloc (.cells #[.int .i64 0, .int .i64 0, .int .i64 0, .bool false, .slice none 0 0, .slice none 0 0, .int .i64 0, .slice none 0 0] 43) = W2 at Zq HR ⊢
          clear hZ
          generalize hZ : W.heap.size = q at Zq HQq ⊢
          clear hZ
          change wpAnyH _ _ _ _ _ _ #[true, false, true, false, false, false, false, false, true, false, false] _ _
          exact Gr24_0_1 W2 q HR Zq HQq
        · intro W q HR Zq HQq
          change wpAnyH _ _ _ _ _ _ #[true, false, true, false, false, false, false, false, true, false, false] _ _
          refine wpAnyH_ready (rs := [1]) (by kernel_rfl) (by simp) (AllReadyH.cons rfl (fun K hK => ?_) AllReadyH.nil)
          · skip
            go_simp
            go_at_call 8
            refine (CTG.out W (g_chain H_190.out HR.out)).mono ?_
            rintro e W2 ⟨Ad, cd, rfl, ho, hb⟩
            have Zq : Hid (Blk W2 q #[.int .i64 0, .int .i64 0, .int .i64 0, .bool false, .slice none 0 0, .slice none 0 0, .int .i64 0, .slice none 0 0] 43) := Lib.hid (Zq.out.below hb)
            have HQq : Hid (w12.heap.size ≤ q) := Lib.hid (HQq.out)
            have DG : Hid (W2.ownsRow w12.heap.size 76 3 (.slice Ad l cd) l (G.flatMap GE.cells)) := Lib.hid (own_monoG ho (Below.size HR.out))
            have HR := Lib.hid (g_chain HR.out hb)
            clear hb
            dsimp only
            refine hK.out _ _ (HSF _ HR) (fun _ => ?_)
            clear hK K
            (try simp only [List.setIfInBounds_toArray, List.set_cons_zero, List.set_cons_succ])
            change wpAnyH _ _ _ _ _ _ #[true, true, true, false, false, false, false, false, true, false, false] _ _
            exact Gr24_1_1 W2 Ad cd q HR DG Zq HQq
        · intro W Ad cd HR DG
          change wpAnyH _ _ _ _ _ _ #[true, true, true, false, false, false, false, false, false, false, false] _ _
          refine wpAnyH_ready (rs := [3, 8]) (by kernel_rfl) (by simp) (AllReadyH.cons rfl (fun K hK => ?_) (AllReadyH.cons rfl (fun K hK => ?_) AllReadyH.nil))
          · skip
            go_simp
            go_at_call 14
            refine (CTJ.out W).mono ?_
            rintro e W2 ⟨rfl, hb⟩
            have DG : Hid (W2.ownsRow w12.heap.size 76 3 (.slice Ad l cd) l (G.flatMap GE.cells)) := Lib.hid (own_below DG.out hb)
            have HR := Lib.hid (g_chain HR.out hb)
            clear hb
            dsimp only
            refine hK.out _ _ (HSF _ HR) (fun _ => ?_)
            clear hK K
            (try simp only [List.setIfInBounds_toArray, List.set_cons_zero, List.set_cons_succ])
            change wpAnyH _ _ _ _ _ _ #[true, true, true, true, false, false, false, false, false, false, false] _ _
            exact Gr24_2_0 W2 Ad cd HR DG
          · skip
            go_simp
            have hb := below_a1 W (.cells #[.int .i64 0, .int .i64 0, .int .i64 0, .bool false, .slice none 0 0, .slice none 0 0, .int .i64 0, .slice none 0 0] 43)
            have DG : Hid ((W.alloc (.cells #[.int .i64 0, .int .i64 0, .int .i64 0, .bool false, .slice none 0 0, .slice none 0 0, .int .i64 0, .slice none 0 0] 43)).ownsRow w12.heap.size 76 3 (.slice Ad l cd) l (G.flatMap GE.cells)) := Lib.hid (own_below DG.out hb)
            have Zq : Hid (Blk (W.alloc (.cells #[.int .i64 0, .int .i64 0, .int .i64 0, .bool false, .slice none 0 0, .slice none 0 0, .int .i64 0, .slice none 0 0] 43)) W.heap.size #[.int .i64 0, .int .i64 0, .int .i64 0, .bool false, .slice none 0 0, .slice none 0 0, .int .i64 0, .slice none 0 0] 43) := Lib.hid (Blk.new W #[.int .i64 0, .int .i64 0, .int .i64 0, .bool false, .slice none 0 0, .slice none 0 0, .int .i64 0, .slice none 0 0] 43)
            have HQq : Hid (w12.heap.size ≤ W.heap.size) := Lib.hid (Below.size HR.out)
            have HR := Lib.hid (g_chain HR.out hb)
            clear hb
            refine hK.out _ _ (HSF _ HR) (fun _ => ?_)
            clear hK K
            (try simp only [List.setIfInBounds_toArray, List.set_cons_zero, List.set_cons_succ])
            generalize hZ : W.alloc (.cells #[.int .i64 0, .int .i64 0, .int .i64 0, .bool false, .slice none 0 0, .slice none 0 0, .int .i64 0, .slice none 0 0] 43) = W2 at DG Zq HR ⊢
            clear hZ
            generalize hZ : W.heap.size = q at Zq HQq ⊢
            clear hZ
            change wpAnyH _ _ _ _ _ _ #[true, true, true, false, false, false, false, false, true, false, false] _ _
            exact Gr24_1_1 W2 Ad cd q HR DG Zq HQq
        · intro W Ad cd q HR DG Zq HQq
          change wpAnyH _ _ _ _ _ _ #[true, true, true, false, false, false, false, false, true, false, false] _ _
          refine wpAnyH_ready (rs := [3]) (by kernel_rfl) (by simp) (AllReadyH.cons rfl (fun K hK => ?_) AllReadyH.nil)
          · skip
            go_simp
            go_at_call 14
            refine (CTJ.out W).mono ?_
            rintro e W2 ⟨rfl, hb⟩
            have DG : Hid (W2.ownsRow w12.heap.size 76 3 (.slice Ad l cd) l (G.flatMap GE.cells)) := Lib.hid (own_below DG.out hb)
            have Zq : Hid (Blk W2 q #[.int .i64 0, .int .i64 0, .int .i64 0, .bool false, .slice none 0 0, .slice none 0 0, .int .i64 0, .slice none 0 0] 43) := Lib.hid (Zq.out.below hb)
            have HQq : Hid (w12.heap.size ≤ q) := Lib.hid (HQq.out)
            have HR := Lib.hid (g_chain HR.out hb)
            clear hb
            dsimp only
            refine hK.out _ _ (HSF _ HR) (fun _ => ?_)
            clear hK K
            (try simp only [List.setIfInBounds_toArray, List.set_cons_zero, List.set_cons_succ])
            change wpAnyH _ _ _ _ _ _ #[true, true, true, true, false, false, false, false, true, false, false] _ _
            exact Gr24_2_1 W2 Ad cd q HR DG Zq HQq
        · intro W Ad cd HR DG
          change wpAnyH _ _ _ _ _ _ #[true, true, true, true, false, false, false, false, false, false, false] _ _
          refine wpAnyH_ready (rs := [4, 8]) (by kernel_rfl) (by simp) (AllReadyH.cons rfl (fun K hK => ?_) (AllReadyH.cons rfl (fun K hK => ?_) AllReadyH.nil))
          · skip
            go_simp
            go_at_call 15
            refine (CI.out W (g_chain H_190.out HR.out) _ _ _ DG.out).mono ?_
            rintro e W2 ⟨Aw, cw, Bw, dw, Cw, kw, rfl, ho, hb⟩
            have O : Hid (Rows3 W2 w12.heap.size Aw rv.length cw Bw re.length dw Cw rx.length kw rv re rx) := Lib.hid (Rows3.mono ho (Below.size HR.out))
            have HR := Lib.hid (g_chain HR.out hb)
            clear hb
            dsimp only
            refine hK.out _ _ (HSF _ HR) (fun _ => ?_)
            clear hK K
            (try simp only [List.setIfInBounds_toArray, List.set_cons_zero, List.set_cons_succ])
            refine wpAnyH_take (i := 5) (oi := ⟨_, _, _, _, _, _⟩) (v := .tuple #[.agg #[.int .i64 rp, .int .i64 rs, .int .i64 ri, .bool rd, .slice Aw rv.length cw, .slice Bw re.length dw, .int .i64 rn, .slice Cw rx.length kw], .bool rb]) rfl (by kernel_rfl) (by kernel_rfl) (by kernel_rfl) (fun _ _ _ h => h) (Or.inl ⟨by kernel_rfl, fun W hS => by go_simp⟩) (HSF _ HR) ?_
            (try simp only [Act.put, List.setIfInBounds_toArray, List.set_cons_zero, List.set_cons_succ])
            refine wpAnyH_take (i := 6) (oi := ⟨_, _, _, _, _, _⟩) (v := .agg #[.int .i64 rp, .int .i64 rs, .int .i64 ri, .bool rd, .slice Aw rv.length cw, .slice Bw re.length dw, .int .i64 rn, .slice Cw rx.length kw]) rfl (by kernel_rfl) (by kernel_rfl) (by kernel_rfl) (fun _ _ _ h => h) (Or.inl ⟨by kernel_rfl, fun W hS => by go_simp⟩) (HSF _ HR) ?_
            (try simp only [Act.put, List.setIfInBounds_toArray, List.set_cons_zero, List.set_cons_succ])
            refine wpAnyH_take (i := 7) (oi := ⟨_, _, _, _, _, _⟩) (v := .bool rb) rfl (by kernel_rfl) (by kernel_rfl) (by kernel_rfl) (fun _ _ _ h => h) (Or.inl ⟨by kernel_rfl, fun W hS => by go_simp⟩) (HSF _ HR) ?_
            (try simp only [Act.put, List.setIfInBounds_toArray, List.set_cons_zero, List.set_cons_succ])
            change wpAnyH _ _ _ _ _ _ #[true, true, true, true, true, true, true, true, false, false, false] _ _
            exact Gr24_3_0 W2 Ad cd Aw cw Bw dw Cw kw HR O
          · skip
            go_simp
            have hb := below_a1 W (.cells #[.int .i64 0, .int .i64 0, .int .i64 0, .bool false, .slice none 0 0, .slice none 0 0, .int .i64 0, .slice none 0 0] 43)
            have DG : Hid ((W.alloc (.cells #[.int .i64 0, .int .i64 0, .int .i64 0, .bool false, .slice none 0 0, .slice none 0 0, .int .i64 0, .slice none 0 0] 43)).ownsRow w12.heap.size 76 3 (.slice Ad l cd) l (G.flatMap GE.cells)) := Lib.hid (own_below DG.out hb)
            have Zq : Hid (Blk (W.alloc (.cells #[.int .i64 0, .int .i64 0, .int .i64 0, .bool false, .slice none 0 0, .slice none 0 0, .int .i64 0, .slice none 0 0] 43)) W.heap.size #[.int .i64 0, .int .i64 0, .int .i64 0, .bool false, .slice none 0 0, .slice none 0 0, .int .i64 0, .slice none 0 0] 43) := Lib.hid (Blk.new W #[.int .i64 0, .int .i64 0, .int .i64 0, .bool false, .slice none 0 0, .slice none 0 0, .int .i64 0, .slice none 0 0] 43)
            have HQq : Hid (w12.heap.size ≤ W.heap.size) := Lib.hid (Below.size HR.out)
            have HR := Lib.hid (g_chain HR.out hb)
            clear hb
            refine hK.out _ _ (HSF _ HR) (fun _ => ?_)
            clear hK K
            (try simp only [List.setIfInBounds_toArray, List.set_cons_zero, List.set_cons_succ])
            generalize hZ : W.alloc (.cells #[.int .i64 0, .int .i64 0, .int .i64 0, .bool false, .slice none 0 0, .slice none 0 0, .int .i64 0, .slice none 0 0] 43) = W2 at DG Zq HR ⊢
            clear hZ
            generalize hZ : W.heap.size = q at Zq HQq ⊢
            clear hZ
            change wpAnyH _ _ _ _ _ _ #[true, true, true, true, false, false, false, false, true, false, false] _ _
            exact Gr24_2_1 W2 Ad cd q HR DG Zq HQq
        · intro W Ad cd q HR DG Zq HQq
          change wpAnyH _ _ _ _ _ _ #[true, true, true, true, false, false, false, false, true, false, false] _ _
          refine wpAnyH_ready (rs := [4]) (by kernel_rfl) (by simp) (AllReadyH.cons rfl (fun K hK => ?_) AllReadyH.nil)
          · skip
            go_simp
            go_at_call 15
            refine (CI.out W (g_chain H_190.out HR.out) _ _ _ DG.out).mono ?_
            rintro e W2 ⟨Aw, cw, Bw, dw, Cw, kw, rfl, ho, hb⟩
            have Zq : Hid (Blk W2 q #[.int .i64 0, .int .i64 0, .int .i64 0, .bool false, .slice none 0 0, .slice none 0 0, .int .i64 0, .slice none 0 0] 43) := Lib.hid (Zq.out.below hb)
            have HQq : Hid (w12.heap.size ≤ q) := Lib.hid (HQq.out)
            have O : Hid (Rows3 W2 w12.heap.size Aw rv.length cw Bw re.length dw Cw rx.length kw rv re rx) := Lib.hid (Rows3.mono ho (Below.size HR.out))
            have HR := Lib.hid (g_chain HR.out hb)
            clear hb
            dsimp only
            refine hK.out _ _ (HSF _ HR) (fun _ => ?_)
            clear hK K
            (try simp only [List.setIfInBounds_toArray, List.set_cons_zero, List.set_cons_succ])
            refine wpAnyH_take (i := 5) (oi := ⟨_, _, _, _, _, _⟩) (v := .tuple #[.agg #[.int .i64 rp, .int .i64 rs, .int .i64 ri, .bool rd, .slice Aw rv.length cw, .slice Bw re.length dw, .int .i64 rn, .slice Cw rx.length kw], .bool rb]) rfl (by kernel_rfl) (by kernel_rfl) (by kernel_rfl) (fun _ _ _ h => h) (Or.inl ⟨by kernel_rfl, fun W hS => by go_simp⟩) (HSF _ HR) ?_
            (try simp only [Act.put, List.setIfInBounds_toArray, List.set_cons_zero, List.set_cons_succ])
            refine wpAnyH_take (i := 6) (oi := ⟨_, _, _, _, _, _⟩) (v := .agg #[.int .i64 rp, .int .i64 rs, .int .i64 ri, .bool rd, .slice Aw rv.length cw, .slice Bw re.length dw, .int .i64 rn, .slice Cw rx.length kw]) rfl (by kernel_rfl) (by kernel_rfl) (by kernel_rfl) (fun _ _ _ h => h) (Or.inl ⟨by kernel_rfl, fun W hS => by go_simp⟩) (HSF _ HR) ?_
            (try simp only [Act.put, List.setIfInBounds_toArray, List.set_cons_zero, List.set_cons_succ])
            refine wpAnyH_take (i := 7) (oi := ⟨_, _, _, _, _, _⟩) (v := .bool rb) rfl (by kernel_rfl) (by kernel_rfl) (by kernel_rfl) (fun _ _ _ h => h) (Or.inl ⟨by kernel_rfl, fun W hS => by go_simp⟩) (HSF _ HR) ?_
            (try simp only [Act.put, List.setIfInBounds_toArray, List.set_cons_zero, List.set_cons_succ])
            change wpAnyH _ _ _ _ _ _ #[true, true, true, true, true, true, true, true, true, false, false] _ _
            exact Gr24_3_1 W2 Ad cd Aw cw Bw dw Cw kw q HR O Zq HQq
        · intro W Ad cd Aw cw Bw dw Cw kw HR O
          change wpAnyH _ _ _ _ _ _ #[true, true, true, true, true, true, true, true, false, false, false] _ _
          refine wpAnyH_ready (rs := [8]) (by kernel_rfl) (by simp) (AllReadyH.cons rfl (fun K hK => ?_) AllReadyH.nil)
          · skip
            go_simp
            have hb := below_a1 W (.cells #[.int .i64 0, .int .i64 0, .int .i64 0, .bool false, .slice none 0 0, .slice none 0 0, .int .i64 0, .slice none 0 0] 43)
            have O : Hid (Rows3 (W.alloc (.cells #[.int .i64 0, .int .i64 0, .int .i64 0, .bool false, .slice none 0 0, .slice none 0 0, .int .i64 0, .slice none 0 0] 43)) w12.heap.size Aw rv.length cw Bw re.length dw Cw rx.length kw rv re rx) := Lib.hid (O.out.below hb)
            have Zq : Hid (Blk (W.alloc (.cells #[.int .i64 0, .int .i64 0, .int .i64 0, .bool false, .slice none 0 0, .slice none 0 0, .int .i64 0, .slice none 0 0] 43)) W.heap.size #[.int .i64 0, .int .i64 0, .int .i64 0, .bool false, .slice none 0 0, .slice none 0 0, .int .i64 0, .slice none 0 0] 43) := Lib.hid (Blk.new W #[.int .i64 0, .int .i64 0, .int .i64 0, .bool false, .slice none 0 0, .slice none 0 0, .int .i64 0, .slice none 0 0] 43)
            have HQq : Hid (w12.heap.size ≤ W.heap.size) := Lib.hid (Below.size HR.out)
            have HR := Lib.hid (g_chain HR.out hb)
            clear hb
            refine hK.out _ _ (HSF _ HR) (fun _ => ?_)
            clear hK K
            (try simp only [List.setIfInBounds_toArray, List.set_cons_zero, List.set_cons_succ])
            generalize hZ : W.alloc (.cells #[.int .i64 0, .int .i64 0, .int .i64 0, .bool false, .slice none 0 0, .slice none 0 0, .int .i64 0, .slice none 0 0] 43) = W2 at O Zq HR ⊢
            clear hZ
            generalize hZ : W.heap.size = q at Zq HQq ⊢
            clear hZ
            change wpAnyH _ _ _ _ _ _ #[true, true, true, true, true, true, true, true, true, false, false] _ _
            exact Gr24_3_1 W2 Ad cd Aw cw Bw dw Cw kw q HR O Zq HQq
        · intro W Ad cd Aw cw Bw dw Cw kw q HR O Zq HQq
          change wpAnyH _ _ _ _ _ _ #[true, true, true, true, true, true, true, true, true, false, false] _ _
          refine wpAnyH_ready (rs := [9]) (by kernel_rfl) (by simp) (AllReadyH.cons rfl (fun K hK => ?_) AllReadyH.nil)
          obtain ⟨zl, z0, z1, z2, z3, z4, z5, z6, z7⟩ := Zq.out.eight
          obtain ⟨f0, f1, f2, f3, f4, f5, f6, f7⟩ := Zq.out.eightF
          go_simp
          clear z0 z1 z2 z3 z4 z5 z6 z7 f0 f1 f2 f3 f4 f5 f6 f7
          have hgr := layR_grown W q (.int .i64 rp) (.int .i64 rs) (.int .i64 ri) (.bool rd) (.slice Aw rv.length cw) (.slice Bw re.length dw) (.int .i64 rn) (.slice Cw rx.length kw)
          have EBG := Lib.hid ((BG_191.out.below HR.out).grown hgr (by intro e; injection e with e; have h1 := HQq.out; have h2 := BG_191.out.lt; omega))
          have EBR := Lib.hid ((BR_192.out.below HR.out).grown hgr (by intro e; injection e with e; have h1 := HQq.out; have h2 := BR_192.out.lt; omega))
          refine hK.out _ _ ⟨EBG.out.cell (i := 0) rfl, EBG.out.cell (i := 1) rfl, EBR.out.cell (i := 0) rfl, EBR.out.cell (i := 1) rfl⟩ (fun _ => ?_)
          clear hK K
          (try simp only [List.setIfInBounds_toArray, List.set_cons_zero, List.set_cons_succ])
          refine wpAnyH_take (i := 10) (oi := ⟨_, _, _, _, _, _⟩) (v := .bool rb) rfl (by kernel_rfl) (by kernel_rfl) (by kernel_rfl) (fun _ _ _ h => h) (Or.inl ⟨by kernel_rfl, fun W hS => by go_simp⟩) ⟨EBG.out.cell (i := 0) rfl, EBG.out.cell (i := 1) rfl, EBR.out.cell (i := 0) rfl, EBR.out.cell (i := 1) rfl⟩ ?_
          (try simp only [Act.put, List.setIfInBounds_toArray, List.set_cons_zero, List.set_cons_succ])
          refine wpAnyH_done (by kernel_rfl) ?_ _
          go_wp2_with fail
          go_meet
          exact ⟨q, Aw, cw, Bw, dw, Cw, kw, rfl, rfl, Lib.hid (HR.out.grown hgr (Below.size HR.out) (fun j hj => by injection hj with hj; have h1 := HQq.out; omega)), Lib.hid (layR_blk Zq.out), Lib.hid ⟨own_kept O.out.v hgr (own_kind O.out.v Zq.out (by decide)), own_kept O.out.e hgr (own_kind O.out.e Zq.out (by decide)), own_kept O.out.x hgr (own_kind O.out.x Zq.out (by decide)), O.out.ap⟩, Lib.hid ⟨HQq.out, Nat.lt_of_lt_of_le zl hgr.size⟩⟩
      case rest =>
        rename World => w13
        obtain ⟨qh, Awh, cwh, Bwh, dwh, Cwh, kwh, rfl, rfl, hb, hx, ho, hq⟩ := hcut
        have H_200 := Lib.hid (g_chain H_190.out hb.out)
        clear H_190
        have BG_201 := Lib.hid (BG_191.out.below hb.out)
        clear BG_191
        have BR_202 := Lib.hid (BR_192.out.below hb.out)
        clear BR_192
        have Aw_203 := Lib.hid (Aw_193.out.below hb.out)
        clear Aw_193
        have Bw_204 := Lib.hid (Bw_194.out.below hb.out)
        clear Bw_194
        have Bg_205 := Lib.hid (Bg_195.out.below hb.out)
        clear Bg_195
        have M1_206 := Lib.hid (own_below M1_196.out hb.out)
        clear M1_196
        have M2_207 := Lib.hid (own_below M2_197.out hb.out)
        clear M2_197
        have M3_208 := Lib.hid (own_below M3_198.out hb.out)
        clear M3_198
        have sz_209 := Lib.hid (Below.size hb.out)
        have sz_210 := Lib.hid (hq.out.1)
        have sz_211 := Lib.hid (hq.out.2)
        have RG_212 := Lib.hid (ho.out).at_
        have Ah_213 := Lib.hid (ho.out)
        have Bh_214 := Lib.hid (hx.out)
        clear hb hx ho hq
        have x_215 := Bh_214.out.cell (i := 0) rfl
        have x_216 := Bh_214.out.cell (i := 1) rfl
        have x_217 := Bh_214.out.cell (i := 2) rfl
        have x_218 := Bh_214.out.cell (i := 3) rfl
        have x_219 := Bh_214.out.cell (i := 4) rfl
        have x_220 := Bh_214.out.cell (i := 5) rfl
        have x_221 := Bh_214.out.cell (i := 6) rfl
        have x_222 := Bh_214.out.cell (i := 7) rfl
        have lt_223 := Bh_214.out.lt
        have x_224 := Bw_204.out.cell (i := 0) rfl
        have x_225 := Bw_204.out.cell (i := 1) rfl
        have x_226 := Bw_204.out.cell (i := 2) rfl
        have x_227 := Bw_204.out.cell (i := 3) rfl
        have x_228 := Bw_204.out.cell (i := 4) rfl
        have x_229 := Bw_204.out.cell (i := 5) rfl
        have x_230 := Bw_204.out.cell (i := 6) rfl
        have x_231 := Bw_204.out.cell (i := 7) rfl
        have lt_232 := Bw_204.out.lt
        go_wp2_with fail
        refine (CEA.out _ _ _ _ _ _ _ _ _ _ _ _ _ _ _ Ah_213.out Aw_203.out).mono ?_
        rintro e w14 ⟨rfl, hb⟩
        clear x_215 x_216 x_217 x_218 x_219 x_220 x_221 x_222 lt_223 x_224 x_225 x_226 x_227 x_228 x_229 x_230 x_231 lt_232
        have H_233 := Lib.hid (g_chain H_200.out hb)
        clear H_200
        have BG_234 := Lib.hid (BG_201.out.below hb)
        clear BG_201
        have BR_235 := Lib.hid (BR_202.out.below hb)
        clear BR_202
        have Aw_236 := Lib.hid (Aw_203.out.below hb)
        clear Aw_203
        have Bw_237 := Lib.hid (Bw_204.out.below hb)
        clear Bw_204
        have Bg_238 := Lib.hid (Bg_205.out.below hb)
        clear Bg_205
        have M1_239 := Lib.hid (own_below M1_206.out hb)
        clear M1_206
        have M2_240 := Lib.hid (own_below M2_207.out hb)
        clear M2_207
        have M3_241 := Lib.hid (own_below M3_208.out hb)
        clear M3_208
        have Ah_242 := Lib.hid (Ah_213.out.below hb)
        clear Ah_213
        have Bh_243 := Lib.hid (Bh_214.out.below hb)
        clear Bh_214
        have sz_244 := Lib.hid (Below.size hb)
        clear hb
        have x_245 := Bg_238.out.cell (i := 0) rfl
        have x_246 := Bg_238.out.cell (i := 1) rfl
        have x_247 := Bg_238.out.cell (i := 2) rfl
        have x_248 := Bg_238.out.cell (i := 3) rfl
        have x_249 := Bg_238.out.cell (i := 4) rfl
        have x_250 := Bg_238.out.cell (i := 5) rfl
        have x_251 := Bg_238.out.cell (i := 6) rfl
        have x_252 := Bg_238.out.cell (i := 7) rfl
        have lt_253 := Bg_238.out.lt
        go_wp2_with fail
        refine (CHA.out _ _ _ _ _ _ _ _ M1_239.out M2_240.out M3_241.out).mono ?_
        rintro e w15 ⟨rfl, hb⟩
        clear x_245 x_246 x_247 x_248 x_249 x_250 x_251 x_252 lt_253
        have H_254 := Lib.hid (g_chain H_233.out hb)
        clear H_233
        have BG_255 := Lib.hid (BG_234.out.below hb)
        clear BG_234
        have BR_256 := Lib.hid (BR_235.out.below hb)
        clear BR_235
        have Aw_257 := Lib.hid (Aw_236.out.below hb)
        clear Aw_236
        have Bw_258 := Lib.hid (Bw_237.out.below hb)
        clear Bw_237
        have Bg_259 := Lib.hid (Bg_238.out.below hb)
        clear Bg_238
        have M1_260 := Lib.hid (own_below M1_239.out hb)
        clear M1_239
        have M2_261 := Lib.hid (own_below M2_240.out hb)
        clear M2_240
        have M3_262 := Lib.hid (own_below M3_241.out hb)
        clear M3_241
        have Ah_263 := Lib.hid (Ah_242.out.below hb)
        clear Ah_242
        have Bh_264 := Lib.hid (Bh_243.out.below hb)
        clear Bh_243
        have sz_265 := Lib.hid (Below.size hb)
        clear hb
        go_wp2
        go_ret
        exact ⟨rfl, H_254.out⟩
end Go.Proofs.YtlhcobkncceodaaDoor
