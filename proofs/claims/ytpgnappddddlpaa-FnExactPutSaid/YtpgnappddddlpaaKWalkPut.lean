/- The walk of the law FnExactPut: it returns true and writes nothing that was there. -/
import Derived.Test.YtpgnappddddlpaaCGG
import Derived.Test.YtpgnappddddlpaaCGI
import Derived.Test.YtpgnappddddlpaaCGM
import Derived.Test.YtpgnappddddlpaaKSubLaw
import Derived.Deep.DeepCutAuto
import Derived.Deep.Cut
import Derived.Deep.RegionHeld3
import Derived.Deep.RegionWith
namespace Go.Proofs.Ytpgnappddddlpaa
open Go.RowKit
set_option linter.unusedVariables false

theorem held_nameK {P : Program} {md : Region.Mode} {ops : Array Oper} {Q : Exit → Act → World → Prop} {S : World → Prop} {fuel : Nat} {listed : Array Bool} {a : Act} {w : World} (hS : S w) (h : S w → wpAnyH P md ops Q S fuel listed a w) : wpAnyH P md ops Q S fuel listed a w := h hS
set_option maxRecDepth 20000 in
set_option maxHeartbeats 16000000 in
theorem walkPut (N : Int) (AE : Option Addr) (nE cE : Nat) (AS : Option Addr) (nS cS : Nat) (es : List Int) (bs : List HE) (uP uL uH : Int) (AU : Option Addr) (nU cU : Nat) (uR : Int) (us : List LE) (w : World) (hf : FarmIn w N AE nE cE AS nS cS es bs) (hu : SubIn w uP uL uH AU nU cU uR us) :
    Calls Try.prog 10 #[.agg #[.int .i64 N, .slice AE nE cE, .slice AS nS cS], .agg #[.int .i64 uP, .int .i64 uL, .int .i64 uH, .slice AU nU cU, .int .i64 uR]] w fun e w' => e = .returned (.bool true) ∧ Below w.heap.size w w' := by
  obtain rfl := hf.e.g.len
  obtain rfl := hf.s.g.len
  obtain rfl := hu.g.len
  have B0H : Hid (Below w.heap.size w ((w.alloc (.cells #[.int .i64 N, .slice AE es.length cE, .slice AS bs.length cS] 46)).alloc (.cells #[.int .i64 uP, .int .i64 uL, .int .i64 uH, .slice AU us.length cU, .int .i64 uR] 73))) := Lib.hid (below_a2 _ _ _)
  have B00 : Hid (Blk ((w.alloc (.cells #[.int .i64 N, .slice AE es.length cE, .slice AS bs.length cS] 46)).alloc (.cells #[.int .i64 uP, .int .i64 uL, .int .i64 uH, .slice AU us.length cU, .int .i64 uR] 73)) (w.heap.size) #[.int .i64 N, .slice AE es.length cE, .slice AS bs.length cS] 46) := Lib.hid (by have h := (Blk.new w #[.int .i64 N, .slice AE es.length cE, .slice AS bs.length cS] 46).alloc (.cells #[.int .i64 uP, .int .i64 uL, .int .i64 uH, .slice AU us.length cU, .int .i64 uR] 73); simpa using h)
  have B01 : Hid (Blk ((w.alloc (.cells #[.int .i64 N, .slice AE es.length cE, .slice AS bs.length cS] 46)).alloc (.cells #[.int .i64 uP, .int .i64 uL, .int .i64 uH, .slice AU us.length cU, .int .i64 uR] 73)) (w.heap.size + 1) #[.int .i64 uP, .int .i64 uL, .int .i64 uH, .slice AU us.length cU, .int .i64 uR] 73) := Lib.hid (by have h := Blk.new (w.alloc (.cells #[.int .i64 N, .slice AE es.length cE, .slice AS bs.length cS] 46)) #[.int .i64 uP, .int .i64 uL, .int .i64 uH, .slice AU us.length cU, .int .i64 uR] 73; simpa using h)
  have CZ0 : Hid (∀ W, Below w.heap.size w W → Calls _ _ _ W _) := Lib.hid (fun W h => szFarm_any N AE es.length cE AS bs.length cS bs 1048576 W (hf.s.g.below h) hf.e.l hf.s.l hf.s.e (by omega) (by omega))
  by_cases hb0 : (((es.length + (bs.length + sumH bs)) : Nat) : Int) ≤ 1048576
  rotate_left
  · skip
    rw [leftG_neg (by omega)] at CZ0
    clear hf hu hb0
    go_enter Try.func10, Try.ntmps10
    have y0_0 := B00.out.cell (i := 0) rfl
    have y0_1 := B00.out.cell (i := 1) rfl
    have y0_2 := B00.out.cell (i := 2) rfl
    go_wp2_with fail
    refine (CZ0.out _ B0H.out).mono ?_
    rintro e wz0 ⟨rfl, hba⟩
    have HA0 := Lib.hid (g_chain B0H.out hba)
    clear hba y0_0 y0_1 y0_2
    go_wp2
    go_ret
    exact ⟨rfl, HA0.out⟩
  rw [leftG_pos hb0] at CZ0
  have hp0 : (0 : Int) ≤ 1048576 - (((es.length + (bs.length + sumH bs)) : Nat) : Int) := by omega
  have hq0 : 1048576 - (((es.length + (bs.length + sumH bs)) : Nat) : Int) ≤ 1048576 := by omega
  have CZ1 : Hid (∀ W, Below w.heap.size w W → Calls _ _ _ W _) := Lib.hid (fun W h => szSub_any uP uL uH uR AU us.length cU (1048576 - (((es.length + (bs.length + sumH bs)) : Nat) : Int)) W hu.l hp0 hq0)
  by_cases hb1 : ((us.length : Nat) : Int) ≤ 1048576 - (((es.length + (bs.length + sumH bs)) : Nat) : Int)
  rotate_left
  · skip
    rw [leftG_neg (by omega)] at CZ1
    generalize (1048576 : Int) - (((es.length + (bs.length + sumH bs)) : Nat) : Int) = q0 at CZ0 CZ1 hp0
    clear hf hu hb0 hb1 hq0
    go_enter Try.func10, Try.ntmps10
    have y0_0 := B00.out.cell (i := 0) rfl
    have y0_1 := B00.out.cell (i := 1) rfl
    have y0_2 := B00.out.cell (i := 2) rfl
    go_wp2_with fail
    refine (CZ0.out _ B0H.out).mono ?_
    rintro e wz0 ⟨rfl, hba⟩
    have HA0 := Lib.hid (g_chain B0H.out hba)
    have B01x := Lib.hid (B01.out.below hba)
    clear hba y0_0 y0_1 y0_2
    have y1_0 := B01x.out.cell (i := 0) rfl
    have y1_1 := B01x.out.cell (i := 1) rfl
    have y1_2 := B01x.out.cell (i := 2) rfl
    have y1_3 := B01x.out.cell (i := 3) rfl
    have y1_4 := B01x.out.cell (i := 4) rfl
    go_wp2_with fail
    refine (CZ1.out _ HA0.out).mono ?_
    rintro e wz1 ⟨rfl, hba⟩
    have HA1 := Lib.hid (g_chain HA0.out hba)
    clear hba y1_0 y1_1 y1_2 y1_3 y1_4
    go_wp2
    go_ret
    exact ⟨rfl, HA1.out⟩
  rw [leftG_pos hb1] at CZ1
  have hp1 : (0 : Int) ≤ 1048576 - (((es.length + (bs.length + sumH bs)) : Nat) : Int) - ((us.length : Nat) : Int) := by omega
  have hq1 : 1048576 - (((es.length + (bs.length + sumH bs)) : Nat) : Int) - ((us.length : Nat) : Int) ≤ 1048576 := by omega
  have hes : es.length ≤ 1048576 := by omega
  have hlens : ∀ d ∈ bs, d.es.length = d.n := fun d hd => (hf.s.g.each d hd).rd.len
  have hsz : (sdL bs).length + (flatK (sdL bs)).length ≤ 1048576 := by rw [← sum_flat (bs := bs) (ls := sdL bs) rfl hlens, sdL_len]; omega
  have hsm := HSm.of (M := 1048576) (n := bs.length) rfl hlens rfl hsz
  have hbl : bs.length ≤ 1048576 := by omega
  have CTF : Hid (∀ W, Below w.heap.size w W → Calls Try.prog 24 #[.agg #[.int .i64 N, .slice AE es.length cE, .slice AS bs.length cS]] W (MadeF W N es (sdL bs))) := Lib.hid (fun W h => toFarm_any N AE es.length cE AS bs.length cS es bs W (hf.e.g.below h) (hf.s.g.below h) (by omega) (by omega) (fun e he => by have := hsm.e e he; omega))
  have HSA := Lib.hid hsz
  unfold MadeF at CTF
  have hul : us.length ≤ 1048576 := by omega
  have CTU := Lib.hid (fun W (h : Below w.heap.size w W) => toSub_any uP uL uH uR AU us.length cU us W (hu.g.below h) (by omega))
  unfold MadeU at CTU
  generalize (1048576 : Int) - (((es.length + (bs.length + sumH bs)) : Nat) : Int) - ((us.length : Nat) : Int) = q1 at CZ1 hp1
  generalize (1048576 : Int) - (((es.length + (bs.length + sumH bs)) : Nat) : Int) = q0 at CZ0 hp0 CZ1
  generalize sdL bs = ls at CTF HSA
  have CEFarm := Lib.hid (fun W lo l h (Af1 : Option Addr) (cf1 : Nat) (Bf1 : Option Addr) (df1 : Nat) lo' l' h' (Af2 : Option Addr) (cf2 : Nat) (Bf2 : Option Addr) (df2 : Nat) (h1 : FOwn W lo l h Af1 es.length cf1 Bf1 ls.length df1 es ls) (h2 : FOwn W lo' l' h' Af2 es.length cf2 Bf2 ls.length df2 es ls) => eqFarm_any N Af1 es.length cf1 Bf1 ls.length df1 Af2 cf2 Bf2 df2 es ls W h1.rd h2.rd (by omega) HSA.out)
  have CMFarm := Lib.hid (fun W lo l h (Af1 : Option Addr) (cf1 : Nat) (Bf1 : Option Addr) (df1 : Nat) (h1 : FOwn W lo l h Af1 es.length cf1 Bf1 ls.length df1 es ls) => markFarm_any N Af1 es.length cf1 Bf1 ls.length df1 lo l h 1 es ls W h1 (by omega) HSA.out (by omega))
  unfold MarkedF at CMFarm
  have CESub := Lib.hid (fun W lo l h (Au1 : Option Addr) (cu1 : Nat) lo' l' h' (Au2 : Option Addr) (cu2 : Nat) (h1 : UOwn W lo l h Au1 us.length cu1 us) (h2 : UOwn W lo' l' h' Au2 us.length cu2 us) => eqSub_any uP uL uH uR Au1 Au2 us.length cu1 cu2 us W (SlL.of_own h1.e rfl) (SlL.of_own h2.e rfl) (by omega))
  have CMSub := Lib.hid (fun W lo l h (Au1 : Option Addr) (cu1 : Nat) (h1 : UOwn W lo l h Au1 us.length cu1 us) => markU_k uP uL uH uR Au1 us.length cu1 lo l h (endFm 1 es ls) us W h1 rfl (by omega) (by first | omega | (have := HSA.out; unfold endFm; omega)))
  have CS := Lib.hid (fun W (Af1 : Option Addr) (cf1 : Nat) (Bf1 : Option Addr) (df1 : Nat) (hk1 : FRd W Af1 es.length Bf1 ls.length es ls) (Au2 : Option Addr) (cu2 : Nat) (hk2 : SlL W Au2 us.length us) => specPut_k N Af1 es.length cf1 es Bf1 ls.length df1 ls uP uL uH Au2 us.length cu2 uR us W hk1 (by omega) HSA.out hk2 (by omega))
  have CI := Lib.hid (fun W (Af1 : Option Addr) (cf1 : Nat) (Bf1 : Option Addr) (df1 : Nat) (hk1 : FRd W Af1 es.length Bf1 ls.length es ls) (Au2 : Option Addr) (cu2 : Nat) (hk2 : SlL W Au2 us.length us) => implPut_k N Af1 es.length cf1 es Bf1 ls.length df1 ls uP uL uH Au2 us.length cu2 uR us W hk1 (by omega) HSA.out hk2 (by omega))
  unfold MadeFB at CS CI
  have hre : (fpE N es ls us).length ≤ 1048576 := (by have := @fp_few N es ls us; omega)
  have hrl : (fpL N es ls us).length + (flatK (fpL N es ls us)).length ≤ 1048576 := (by have := @fp_few N es ls us; omega)
  generalize fpN N es ls us = rN at CS CI
  generalize fpE N es ls us = rE at CS CI hre
  generalize fpL N es ls us = rL at CS CI hrl
  generalize putB N es ls us = rb at CS CI
  have HSR := Lib.hid hrl
  have CER := Lib.hid (fun W lo l h (Af1 : Option Addr) (cf1 : Nat) (Bf1 : Option Addr) (df1 : Nat) lo' l' h' (Af2 : Option Addr) (cf2 : Nat) (Bf2 : Option Addr) (df2 : Nat) (h1 : FOwn W lo l h Af1 rE.length cf1 Bf1 rL.length df1 rE rL) (h2 : FOwn W lo' l' h' Af2 rE.length cf2 Bf2 rL.length df2 rE rL) => eqFarm_any rN Af1 rE.length cf1 Bf1 rL.length df1 Af2 cf2 Bf2 df2 rE rL W h1.rd h2.rd (by omega) HSR.out)
  have CMR := Lib.hid (fun W lo l h (Af1 : Option Addr) (cf1 : Nat) (Bf1 : Option Addr) (df1 : Nat) (h1 : FOwn W lo l h Af1 rE.length cf1 Bf1 rL.length df1 rE rL) => markFarm_any rN Af1 rE.length cf1 Bf1 rL.length df1 lo l h 1 rE rL W h1 (by omega) HSR.out (by omega))
  unfold MarkedF at CMR
  have HKK : Hid (rE.length ≤ 1048576) := Lib.hid (by omega)
  have hkr0 : endFm 1 rE rL ≤ 16777216 := by have := HSR.out; unfold endFm; omega
  obtain ⟨kr, hkr⟩ : ∃ kr, kr = endFm 1 rE rL := ⟨_, rfl⟩
  rw [← hkr] at CMR hkr0
  clear hkr
  have CHR := Lib.hid (fun W (Af1 : Option Addr) (cf1 : Nat) (Bf1 : Option Addr) (df1 : Nat) (h1 : FMk W 1 Af1 rE.length Bf1 rL.length kr) => heldFarm_any rN Af1 rE.length cf1 Bf1 rL.length df1 1 kr W h1 (by omega) (by have := HSR.out; omega) (by omega) hkr0)
  have hkk : (0 : Int) ≤ (kr : Int) := by omega
  have hrb : (rb == rb) = true := by simp
  have hrb2 : (rb != rb) = false := by simp
  have hka1 : (0 : Int) ≤ ((((endFm 1 es ls) + 7 * us.length) : Nat) : Int) := by omega
  have hka0 : (0 : Int) ≤ (((endFm 1 es ls) : Nat) : Int) := by omega
  generalize (endFm 1 es ls) + 7 * us.length = ka1 at CMSub hka1
  generalize endFm 1 es ls = ka0 at CMFarm CMSub hka0
  clear hf hu hb0 hb1 hq0 hq1 hsz hsm hlens hbl
  have H_1 := Lib.hid (B0H.out)
  have Bfarm_2 := Lib.hid (B00.out)
  have Bsub_3 := Lib.hid (B01.out)
  clear B0H B00 B01
  have sz_4 : Hid (w.heap.size + 2 ≤ ((w.alloc (.cells #[.int .i64 N, .slice AE es.length cE, .slice AS bs.length cS] 46)).alloc (.cells #[.int .i64 uP, .int .i64 uL, .int .i64 uH, .slice AU us.length cU, .int .i64 uR] 73)).heap.size) := Lib.hid (by simp)
  go_enter Try.func10, Try.ntmps10
  have x_5 := Bfarm_2.out.cell (i := 0) rfl
  have x_6 := Bfarm_2.out.cell (i := 1) rfl
  have x_7 := Bfarm_2.out.cell (i := 2) rfl
  have lt_8 := Bfarm_2.out.lt
  go_wp2_with fail
  refine (CZ0.out _ H_1.out).mono ?_
  rintro e w1 ⟨rfl, hb⟩
  clear x_5 x_6 x_7 lt_8
  have H_9 := Lib.hid (g_chain H_1.out hb)
  clear H_1
  have Bfarm_10 := Lib.hid (Bfarm_2.out.below hb)
  clear Bfarm_2
  have Bsub_11 := Lib.hid (Bsub_3.out.below hb)
  clear Bsub_3
  have sz_12 := Lib.hid (Below.size hb)
  clear hb
  have x_13 := Bsub_11.out.cell (i := 0) rfl
  have x_14 := Bsub_11.out.cell (i := 1) rfl
  have x_15 := Bsub_11.out.cell (i := 2) rfl
  have x_16 := Bsub_11.out.cell (i := 3) rfl
  have x_17 := Bsub_11.out.cell (i := 4) rfl
  have lt_18 := Bsub_11.out.lt
  go_wp2_with fail
  refine (CZ1.out _ H_9.out).mono ?_
  rintro e w2 ⟨rfl, hb⟩
  clear x_13 x_14 x_15 x_16 x_17 lt_18
  have H_19 := Lib.hid (g_chain H_9.out hb)
  clear H_9
  have Bfarm_20 := Lib.hid (Bfarm_10.out.below hb)
  clear Bfarm_10
  have Bsub_21 := Lib.hid (Bsub_11.out.below hb)
  clear Bsub_11
  have sz_22 := Lib.hid (Below.size hb)
  clear hb
  go_upto_region 8 with fail
  go_cut [6, 7] (fun (sa sb : Value) (wx : World) => ∃ (q : Nat) (Afw : Option Addr) (cfw : Nat) (Bfw : Option Addr) (dfw : Nat), sa = .pointer (some ⟨q, 0, none⟩) ∧ sb = .bool rb ∧ Hid (Below w2.heap.size w2 wx) ∧ Hid (Blk wx q #[.int .i64 rN, .slice Afw rE.length cfw, .slice Bfw rL.length dfw] 26) ∧ Hid (FOwn wx w2.heap.size w2.heap.size wx.heap.size Afw rE.length cfw Bfw rL.length dfw rE rL) ∧ Hid (w2.heap.size ≤ q ∧ q < wx.heap.size))
  case first =>
    have HSF : ∀ W, Hid (Below w2.heap.size w2 W) → (W.cell? ⟨w.heap.size, 0, none⟩ = some (.int .i64 N) ∧ W.cell? ⟨w.heap.size, 1, none⟩ = some (.slice AE es.length cE) ∧ W.cell? ⟨w.heap.size, 2, none⟩ = some (.slice AS bs.length cS) ∧ W.cell? ⟨w.heap.size + 1, 0, none⟩ = some (.int .i64 uP) ∧ W.cell? ⟨w.heap.size + 1, 1, none⟩ = some (.int .i64 uL) ∧ W.cell? ⟨w.heap.size + 1, 2, none⟩ = some (.int .i64 uH) ∧ W.cell? ⟨w.heap.size + 1, 3, none⟩ = some (.slice AU us.length cU) ∧ W.cell? ⟨w.heap.size + 1, 4, none⟩ = some (.int .i64 uR)) := fun W HR => ⟨(Bfarm_20.out.below HR.out).cell (i := 0) rfl, (Bfarm_20.out.below HR.out).cell (i := 1) rfl, (Bfarm_20.out.below HR.out).cell (i := 2) rfl, (Bsub_21.out.below HR.out).cell (i := 0) rfl, (Bsub_21.out.below HR.out).cell (i := 1) rfl, (Bsub_21.out.below HR.out).cell (i := 2) rfl, (Bsub_21.out.below HR.out).cell (i := 3) rfl, (Bsub_21.out.below HR.out).cell (i := 4) rfl⟩
    have HR : Hid (Below w2.heap.size w2 w2.drew) := Lib.hid (Below.refl _ _).drew
    refine wp_region_any (by kernel_rfl) ?_
    change wpAny _ _ _ _ _ _ _ (World.drew _)
    refine wpAny_of_held (S := fun W => W.cell? ⟨w.heap.size, 0, none⟩ = some (.int .i64 N) ∧ W.cell? ⟨w.heap.size, 1, none⟩ = some (.slice AE es.length cE) ∧ W.cell? ⟨w.heap.size, 2, none⟩ = some (.slice AS bs.length cS) ∧ W.cell? ⟨w.heap.size + 1, 0, none⟩ = some (.int .i64 uP) ∧ W.cell? ⟨w.heap.size + 1, 1, none⟩ = some (.int .i64 uL) ∧ W.cell? ⟨w.heap.size + 1, 2, none⟩ = some (.int .i64 uH) ∧ W.cell? ⟨w.heap.size + 1, 3, none⟩ = some (.slice AU us.length cU) ∧ W.cell? ⟨w.heap.size + 1, 4, none⟩ = some (.int .i64 uR)) _ _ _ _ ?_
    generalize hDD : World.drew w2 = W at HR ⊢
    clear hDD
    refine wpAnyH_take (i := 0) (oi := ⟨_, _, _, _, _, _⟩) (v := .agg #[.int .i64 N, .slice AE es.length cE, .slice AS bs.length cS]) rfl (by kernel_rfl) (by kernel_rfl) (by kernel_rfl) (fun _ _ _ h => h) (Or.inl ⟨by kernel_rfl, fun W hS => by (obtain ⟨s0, s1, s2, s3, s4, s5, s6, s7⟩ := hS); go_simp⟩) (HSF _ HR) ?_
    (try simp only [Act.put, List.setIfInBounds_toArray, List.set_cons_zero, List.set_cons_succ])
    refine wpAnyH_take (i := 2) (oi := ⟨_, _, _, _, _, _⟩) (v := .agg #[.int .i64 uP, .int .i64 uL, .int .i64 uH, .slice AU us.length cU, .int .i64 uR]) rfl (by kernel_rfl) (by kernel_rfl) (by kernel_rfl) (fun _ _ _ h => h) (Or.inl ⟨by kernel_rfl, fun W hS => by (obtain ⟨s0, s1, s2, s3, s4, s5, s6, s7⟩ := hS); go_simp⟩) (HSF _ HR) ?_
    (try simp only [Act.put, List.setIfInBounds_toArray, List.set_cons_zero, List.set_cons_succ])
    refine (fun (Gr8w_3_1 : ∀ (W : World) (Af9 : Option Addr) (cf9 : Nat) (Bf9 : Option Addr) (df9 : Nat) (Au9 : Option Addr) (cu9 : Nat) (Afw : Option Addr) (cfw : Nat) (Bfw : Option Addr) (dfw : Nat) (q : Nat), Hid (Below w2.heap.size w2 W) → Hid (FOwn W w2.heap.size w2.heap.size W.heap.size Afw rE.length cfw Bfw rL.length dfw rE rL) → Hid (Blk W q #[.int .i64 0, .slice none 0 0, .slice none 0 0] 26) → Hid (w2.heap.size ≤ q) → (?Xr8w_3_1 : World → (Option Addr) → Nat → (Option Addr) → Nat → (Option Addr) → Nat → (Option Addr) → Nat → (Option Addr) → Nat → Nat → Prop) W Af9 cf9 Bf9 df9 Au9 cu9 Afw cfw Bfw dfw q) => ?_) ?_
    rotate_left
    refine (fun (Gr8w_3_0 : ∀ (W : World) (Af9 : Option Addr) (cf9 : Nat) (Bf9 : Option Addr) (df9 : Nat) (Au9 : Option Addr) (cu9 : Nat) (Afw : Option Addr) (cfw : Nat) (Bfw : Option Addr) (dfw : Nat), Hid (Below w2.heap.size w2 W) → Hid (FOwn W w2.heap.size w2.heap.size W.heap.size Afw rE.length cfw Bfw rL.length dfw rE rL) → (?Xr8w_3_0 : World → (Option Addr) → Nat → (Option Addr) → Nat → (Option Addr) → Nat → (Option Addr) → Nat → (Option Addr) → Nat → Prop) W Af9 cf9 Bf9 df9 Au9 cu9 Afw cfw Bfw dfw) => ?_) ?_
    rotate_left
    refine (fun (Gr8w_2_1 : ∀ (W : World) (Af9 : Option Addr) (cf9 : Nat) (Bf9 : Option Addr) (df9 : Nat) (Au9 : Option Addr) (cu9 : Nat) (q : Nat), Hid (Below w2.heap.size w2 W) → Hid (FRd W Af9 es.length Bf9 ls.length es ls) → Hid (SlL W Au9 us.length us) → Hid (Blk W q #[.int .i64 0, .slice none 0 0, .slice none 0 0] 26) → Hid (w2.heap.size ≤ q) → (?Xr8w_2_1 : World → (Option Addr) → Nat → (Option Addr) → Nat → (Option Addr) → Nat → Nat → Prop) W Af9 cf9 Bf9 df9 Au9 cu9 q) => ?_) ?_
    rotate_left
    refine (fun (Gr8w_2_0 : ∀ (W : World) (Af9 : Option Addr) (cf9 : Nat) (Bf9 : Option Addr) (df9 : Nat) (Au9 : Option Addr) (cu9 : Nat), Hid (Below w2.heap.size w2 W) → Hid (FRd W Af9 es.length Bf9 ls.length es ls) → Hid (SlL W Au9 us.length us) → (?Xr8w_2_0 : World → (Option Addr) → Nat → (Option Addr) → Nat → (Option Addr) → Nat → Prop) W Af9 cf9 Bf9 df9 Au9 cu9) => ?_) ?_
    rotate_left
    refine (fun (Gr8w_1_1 : ∀ (W : World) (Af9 : Option Addr) (cf9 : Nat) (Bf9 : Option Addr) (df9 : Nat) (q : Nat), Hid (Below w2.heap.size w2 W) → Hid (FRd W Af9 es.length Bf9 ls.length es ls) → Hid (Blk W q #[.int .i64 0, .slice none 0 0, .slice none 0 0] 26) → Hid (w2.heap.size ≤ q) → (?Xr8w_1_1 : World → (Option Addr) → Nat → (Option Addr) → Nat → Nat → Prop) W Af9 cf9 Bf9 df9 q) => ?_) ?_
    rotate_left
    refine (fun (Gr8w_1_0 : ∀ (W : World) (Af9 : Option Addr) (cf9 : Nat) (Bf9 : Option Addr) (df9 : Nat), Hid (Below w2.heap.size w2 W) → Hid (FRd W Af9 es.length Bf9 ls.length es ls) → (?Xr8w_1_0 : World → (Option Addr) → Nat → (Option Addr) → Nat → Prop) W Af9 cf9 Bf9 df9) => ?_) ?_
    rotate_left
    refine (fun (Gr8w_0_1 : ∀ (W : World) (q : Nat), Hid (Below w2.heap.size w2 W) → Hid (Blk W q #[.int .i64 0, .slice none 0 0, .slice none 0 0] 26) → Hid (w2.heap.size ≤ q) → (?Xr8w_0_1 : World → Nat → Prop) W q) => ?_) ?_
    rotate_left
    change wpAnyH _ _ _ _ _ _ #[true, false, true, false, false, false, false, false, false, false, false] _ _
    refine wpAnyH_ready (rs := [1, 8]) (by kernel_rfl) (by simp) (AllReadyH.cons rfl (fun K hK => ?_) (AllReadyH.cons rfl (fun K hK => ?_) AllReadyH.nil))
    · skip
      go_simp
      go_at_call 24
      refine (CTF.out W (g_chain H_19.out HR.out)).mono ?_
      rintro e W2 ⟨Af9, cf9, Bf9, df9, rfl, ho, hb⟩
      have DF : Hid (FRd W2 Af9 es.length Bf9 ls.length es ls) := Lib.hid (ho.rd)
      have HR := Lib.hid (g_chain HR.out hb)
      clear hb
      dsimp only
      refine hK.out _ _ (HSF _ HR) (fun _ => ?_)
      clear hK K
      (try simp only [List.setIfInBounds_toArray, List.set_cons_zero, List.set_cons_succ])
      change wpAnyH _ _ _ _ _ _ #[true, true, true, false, false, false, false, false, false, false, false] _ _
      exact Gr8w_1_0 W2 Af9 cf9 Bf9 df9 HR DF
    · skip
      go_simp
      have hb := below_a1 W (.cells #[.int .i64 0, .slice none 0 0, .slice none 0 0] 26)
      have Zq : Hid (Blk (W.alloc (.cells #[.int .i64 0, .slice none 0 0, .slice none 0 0] 26)) W.heap.size #[.int .i64 0, .slice none 0 0, .slice none 0 0] 26) := Lib.hid (Blk.new W #[.int .i64 0, .slice none 0 0, .slice none 0 0] 26)
      have HQq : Hid (w2.heap.size ≤ W.heap.size) := Lib.hid (Below.size HR.out)
      have HR := Lib.hid (g_chain HR.out hb)
      clear hb
      refine hK.out _ _ (HSF _ HR) (fun _ => ?_)
      clear hK K
      (try simp only [List.setIfInBounds_toArray, List.set_cons_zero, List.set_cons_succ])
      generalize hZ : W.alloc (.cells #[.int .i64 0, .slice none 0 0, .slice none 0 0] 26) = W2 at Zq HR ⊢
      clear hZ
      generalize hZ : W.heap.size = q at Zq HQq ⊢
      clear hZ
      change wpAnyH _ _ _ _ _ _ #[true, false, true, false, false, false, false, false, true, false, false] _ _
      exact Gr8w_0_1 W2 q HR Zq HQq
    · intro W q HR Zq HQq
      change wpAnyH _ _ _ _ _ _ #[true, false, true, false, false, false, false, false, true, false, false] _ _
      refine wpAnyH_ready (rs := [1]) (by kernel_rfl) (by simp) (AllReadyH.cons rfl (fun K hK => ?_) AllReadyH.nil)
      · skip
        go_simp
        go_at_call 24
        refine (CTF.out W (g_chain H_19.out HR.out)).mono ?_
        rintro e W2 ⟨Af9, cf9, Bf9, df9, rfl, ho, hb⟩
        have Zq : Hid (Blk W2 q #[.int .i64 0, .slice none 0 0, .slice none 0 0] 26) := Lib.hid (Zq.out.below hb)
        have HQq : Hid (w2.heap.size ≤ q) := Lib.hid (HQq.out)
        have DF : Hid (FRd W2 Af9 es.length Bf9 ls.length es ls) := Lib.hid (ho.rd)
        have HR := Lib.hid (g_chain HR.out hb)
        clear hb
        dsimp only
        refine hK.out _ _ (HSF _ HR) (fun _ => ?_)
        clear hK K
        (try simp only [List.setIfInBounds_toArray, List.set_cons_zero, List.set_cons_succ])
        change wpAnyH _ _ _ _ _ _ #[true, true, true, false, false, false, false, false, true, false, false] _ _
        exact Gr8w_1_1 W2 Af9 cf9 Bf9 df9 q HR DF Zq HQq
    · intro W Af9 cf9 Bf9 df9 HR DF
      change wpAnyH _ _ _ _ _ _ #[true, true, true, false, false, false, false, false, false, false, false] _ _
      refine wpAnyH_ready (rs := [3, 8]) (by kernel_rfl) (by simp) (AllReadyH.cons rfl (fun K hK => ?_) (AllReadyH.cons rfl (fun K hK => ?_) AllReadyH.nil))
      · skip
        go_simp
        go_at_call 48
        refine (CTU.out W (g_chain H_19.out HR.out)).mono ?_
        rintro e W2 ⟨Au9, cu9, rfl, ho, hb⟩
        have DF : Hid (FRd W2 Af9 es.length Bf9 ls.length es ls) := Lib.hid (DF.out.below hb)
        have DU : Hid (SlL W2 Au9 us.length us) := Lib.hid (SlL.of_own ho rfl)
        have HR := Lib.hid (g_chain HR.out hb)
        clear hb
        dsimp only
        refine hK.out _ _ (HSF _ HR) (fun _ => ?_)
        clear hK K
        (try simp only [List.setIfInBounds_toArray, List.set_cons_zero, List.set_cons_succ])
        change wpAnyH _ _ _ _ _ _ #[true, true, true, true, false, false, false, false, false, false, false] _ _
        exact Gr8w_2_0 W2 Af9 cf9 Bf9 df9 Au9 cu9 HR DF DU
      · skip
        go_simp
        have hb := below_a1 W (.cells #[.int .i64 0, .slice none 0 0, .slice none 0 0] 26)
        have DF : Hid (FRd (W.alloc (.cells #[.int .i64 0, .slice none 0 0, .slice none 0 0] 26)) Af9 es.length Bf9 ls.length es ls) := Lib.hid (DF.out.below hb)
        have Zq : Hid (Blk (W.alloc (.cells #[.int .i64 0, .slice none 0 0, .slice none 0 0] 26)) W.heap.size #[.int .i64 0, .slice none 0 0, .slice none 0 0] 26) := Lib.hid (Blk.new W #[.int .i64 0, .slice none 0 0, .slice none 0 0] 26)
        have HQq : Hid (w2.heap.size ≤ W.heap.size) := Lib.hid (Below.size HR.out)
        have HR := Lib.hid (g_chain HR.out hb)
        clear hb
        refine hK.out _ _ (HSF _ HR) (fun _ => ?_)
        clear hK K
        (try simp only [List.setIfInBounds_toArray, List.set_cons_zero, List.set_cons_succ])
        generalize hZ : W.alloc (.cells #[.int .i64 0, .slice none 0 0, .slice none 0 0] 26) = W2 at DF Zq HR ⊢
        clear hZ
        generalize hZ : W.heap.size = q at Zq HQq ⊢
        clear hZ
        change wpAnyH _ _ _ _ _ _ #[true, true, true, false, false, false, false, false, true, false, false] _ _
        exact Gr8w_1_1 W2 Af9 cf9 Bf9 df9 q HR DF Zq HQq
    · intro W Af9 cf9 Bf9 df9 q HR DF Zq HQq
      change wpAnyH _ _ _ _ _ _ #[true, true, true, false, false, false, false, false, true, false, false] _ _
      refine wpAnyH_ready (rs := [3]) (by kernel_rfl) (by simp) (AllReadyH.cons rfl (fun K hK => ?_) AllReadyH.nil)
      · skip
        go_simp
        go_at_call 48
        refine (CTU.out W (g_chain H_19.out HR.out)).mono ?_
        rintro e W2 ⟨Au9, cu9, rfl, ho, hb⟩
        have DF : Hid (FRd W2 Af9 es.length Bf9 ls.length es ls) := Lib.hid (DF.out.below hb)
        have Zq : Hid (Blk W2 q #[.int .i64 0, .slice none 0 0, .slice none 0 0] 26) := Lib.hid (Zq.out.below hb)
        have HQq : Hid (w2.heap.size ≤ q) := Lib.hid (HQq.out)
        have DU : Hid (SlL W2 Au9 us.length us) := Lib.hid (SlL.of_own ho rfl)
        have HR := Lib.hid (g_chain HR.out hb)
        clear hb
        dsimp only
        refine hK.out _ _ (HSF _ HR) (fun _ => ?_)
        clear hK K
        (try simp only [List.setIfInBounds_toArray, List.set_cons_zero, List.set_cons_succ])
        change wpAnyH _ _ _ _ _ _ #[true, true, true, true, false, false, false, false, true, false, false] _ _
        exact Gr8w_2_1 W2 Af9 cf9 Bf9 df9 Au9 cu9 q HR DF DU Zq HQq
    · intro W Af9 cf9 Bf9 df9 Au9 cu9 HR DF DU
      change wpAnyH _ _ _ _ _ _ #[true, true, true, true, false, false, false, false, false, false, false] _ _
      refine wpAnyH_ready (rs := [4, 8]) (by kernel_rfl) (by simp) (AllReadyH.cons rfl (fun K hK => ?_) (AllReadyH.cons rfl (fun K hK => ?_) AllReadyH.nil))
      · skip
        go_simp
        go_at_call 47
        refine (CS.out W Af9 cf9 Bf9 df9 DF.out Au9 cu9 DU.out).mono ?_
        rintro e W2 ⟨Afw, cfw, Bfw, dfw, rfl, ho, hb⟩
        have O : Hid (FOwn W2 w2.heap.size w2.heap.size W2.heap.size Afw rE.length cfw Bfw rL.length dfw rE rL) := Lib.hid ((ho.mono (Below.size HR.out)).wide (Below.size HR.out) (Nat.le_refl _))
        have HR := Lib.hid (g_chain HR.out hb)
        clear hb
        dsimp only
        refine hK.out _ _ (HSF _ HR) (fun _ => ?_)
        clear hK K
        (try simp only [List.setIfInBounds_toArray, List.set_cons_zero, List.set_cons_succ])
        refine wpAnyH_take (i := 5) (oi := ⟨_, _, _, _, _, _⟩) (v := .tuple #[.agg #[.int .i64 rN, .slice Afw rE.length cfw, .slice Bfw rL.length dfw], .bool rb]) rfl (by kernel_rfl) (by kernel_rfl) (by kernel_rfl) (fun _ _ _ h => h) (Or.inl ⟨by kernel_rfl, fun W hS => by go_simp⟩) (HSF _ HR) ?_
        (try simp only [Act.put, List.setIfInBounds_toArray, List.set_cons_zero, List.set_cons_succ])
        refine wpAnyH_take (i := 6) (oi := ⟨_, _, _, _, _, _⟩) (v := .agg #[.int .i64 rN, .slice Afw rE.length cfw, .slice Bfw rL.length dfw]) rfl (by kernel_rfl) (by kernel_rfl) (by kernel_rfl) (fun _ _ _ h => h) (Or.inl ⟨by kernel_rfl, fun W hS => by go_simp⟩) (HSF _ HR) ?_
        (try simp only [Act.put, List.setIfInBounds_toArray, List.set_cons_zero, List.set_cons_succ])
        refine wpAnyH_take (i := 7) (oi := ⟨_, _, _, _, _, _⟩) (v := .bool rb) rfl (by kernel_rfl) (by kernel_rfl) (by kernel_rfl) (fun _ _ _ h => h) (Or.inl ⟨by kernel_rfl, fun W hS => by go_simp⟩) (HSF _ HR) ?_
        (try simp only [Act.put, List.setIfInBounds_toArray, List.set_cons_zero, List.set_cons_succ])
        change wpAnyH _ _ _ _ _ _ #[true, true, true, true, true, true, true, true, false, false, false] _ _
        exact Gr8w_3_0 W2 Af9 cf9 Bf9 df9 Au9 cu9 Afw cfw Bfw dfw HR O
      · skip
        go_simp
        have hb := below_a1 W (.cells #[.int .i64 0, .slice none 0 0, .slice none 0 0] 26)
        have DF : Hid (FRd (W.alloc (.cells #[.int .i64 0, .slice none 0 0, .slice none 0 0] 26)) Af9 es.length Bf9 ls.length es ls) := Lib.hid (DF.out.below hb)
        have DU : Hid (SlL (W.alloc (.cells #[.int .i64 0, .slice none 0 0, .slice none 0 0] 26)) Au9 us.length us) := Lib.hid (DU.out.below hb)
        have Zq : Hid (Blk (W.alloc (.cells #[.int .i64 0, .slice none 0 0, .slice none 0 0] 26)) W.heap.size #[.int .i64 0, .slice none 0 0, .slice none 0 0] 26) := Lib.hid (Blk.new W #[.int .i64 0, .slice none 0 0, .slice none 0 0] 26)
        have HQq : Hid (w2.heap.size ≤ W.heap.size) := Lib.hid (Below.size HR.out)
        have HR := Lib.hid (g_chain HR.out hb)
        clear hb
        refine hK.out _ _ (HSF _ HR) (fun _ => ?_)
        clear hK K
        (try simp only [List.setIfInBounds_toArray, List.set_cons_zero, List.set_cons_succ])
        generalize hZ : W.alloc (.cells #[.int .i64 0, .slice none 0 0, .slice none 0 0] 26) = W2 at DF DU Zq HR ⊢
        clear hZ
        generalize hZ : W.heap.size = q at Zq HQq ⊢
        clear hZ
        change wpAnyH _ _ _ _ _ _ #[true, true, true, true, false, false, false, false, true, false, false] _ _
        exact Gr8w_2_1 W2 Af9 cf9 Bf9 df9 Au9 cu9 q HR DF DU Zq HQq
    · intro W Af9 cf9 Bf9 df9 Au9 cu9 q HR DF DU Zq HQq
      change wpAnyH _ _ _ _ _ _ #[true, true, true, true, false, false, false, false, true, false, false] _ _
      refine wpAnyH_ready (rs := [4]) (by kernel_rfl) (by simp) (AllReadyH.cons rfl (fun K hK => ?_) AllReadyH.nil)
      · skip
        go_simp
        go_at_call 47
        refine (CS.out W Af9 cf9 Bf9 df9 DF.out Au9 cu9 DU.out).mono ?_
        rintro e W2 ⟨Afw, cfw, Bfw, dfw, rfl, ho, hb⟩
        have Zq : Hid (Blk W2 q #[.int .i64 0, .slice none 0 0, .slice none 0 0] 26) := Lib.hid (Zq.out.below hb)
        have HQq : Hid (w2.heap.size ≤ q) := Lib.hid (HQq.out)
        have O : Hid (FOwn W2 w2.heap.size w2.heap.size W2.heap.size Afw rE.length cfw Bfw rL.length dfw rE rL) := Lib.hid ((ho.mono (Below.size HR.out)).wide (Below.size HR.out) (Nat.le_refl _))
        have HR := Lib.hid (g_chain HR.out hb)
        clear hb
        dsimp only
        refine hK.out _ _ (HSF _ HR) (fun _ => ?_)
        clear hK K
        (try simp only [List.setIfInBounds_toArray, List.set_cons_zero, List.set_cons_succ])
        refine wpAnyH_take (i := 5) (oi := ⟨_, _, _, _, _, _⟩) (v := .tuple #[.agg #[.int .i64 rN, .slice Afw rE.length cfw, .slice Bfw rL.length dfw], .bool rb]) rfl (by kernel_rfl) (by kernel_rfl) (by kernel_rfl) (fun _ _ _ h => h) (Or.inl ⟨by kernel_rfl, fun W hS => by go_simp⟩) (HSF _ HR) ?_
        (try simp only [Act.put, List.setIfInBounds_toArray, List.set_cons_zero, List.set_cons_succ])
        refine wpAnyH_take (i := 6) (oi := ⟨_, _, _, _, _, _⟩) (v := .agg #[.int .i64 rN, .slice Afw rE.length cfw, .slice Bfw rL.length dfw]) rfl (by kernel_rfl) (by kernel_rfl) (by kernel_rfl) (fun _ _ _ h => h) (Or.inl ⟨by kernel_rfl, fun W hS => by go_simp⟩) (HSF _ HR) ?_
        (try simp only [Act.put, List.setIfInBounds_toArray, List.set_cons_zero, List.set_cons_succ])
        refine wpAnyH_take (i := 7) (oi := ⟨_, _, _, _, _, _⟩) (v := .bool rb) rfl (by kernel_rfl) (by kernel_rfl) (by kernel_rfl) (fun _ _ _ h => h) (Or.inl ⟨by kernel_rfl, fun W hS => by go_simp⟩) (HSF _ HR) ?_
        (try simp only [Act.put, List.setIfInBounds_toArray, List.set_cons_zero, List.set_cons_succ])
        change wpAnyH _ _ _ _ _ _ #[true, true, true, true, true, true, true, true, true, false, false] _ _
        exact Gr8w_3_1 W2 Af9 cf9 Bf9 df9 Au9 cu9 Afw cfw Bfw dfw q HR O Zq HQq
    · intro W Af9 cf9 Bf9 df9 Au9 cu9 Afw cfw Bfw dfw HR O
      change wpAnyH _ _ _ _ _ _ #[true, true, true, true, true, true, true, true, false, false, false] _ _
      refine wpAnyH_ready (rs := [8]) (by kernel_rfl) (by simp) (AllReadyH.cons rfl (fun K hK => ?_) AllReadyH.nil)
      · skip
        go_simp
        have hb := below_a1 W (.cells #[.int .i64 0, .slice none 0 0, .slice none 0 0] 26)
        have O : Hid (FOwn (W.alloc (.cells #[.int .i64 0, .slice none 0 0, .slice none 0 0] 26)) w2.heap.size w2.heap.size (W.alloc (.cells #[.int .i64 0, .slice none 0 0, .slice none 0 0] 26)).heap.size Afw rE.length cfw Bfw rL.length dfw rE rL) := Lib.hid ((O.out.below hb).wide (Nat.le_refl _) (Below.size hb))
        have Zq : Hid (Blk (W.alloc (.cells #[.int .i64 0, .slice none 0 0, .slice none 0 0] 26)) W.heap.size #[.int .i64 0, .slice none 0 0, .slice none 0 0] 26) := Lib.hid (Blk.new W #[.int .i64 0, .slice none 0 0, .slice none 0 0] 26)
        have HQq : Hid (w2.heap.size ≤ W.heap.size) := Lib.hid (Below.size HR.out)
        have HR := Lib.hid (g_chain HR.out hb)
        clear hb
        refine hK.out _ _ (HSF _ HR) (fun _ => ?_)
        clear hK K
        (try simp only [List.setIfInBounds_toArray, List.set_cons_zero, List.set_cons_succ])
        generalize hZ : W.alloc (.cells #[.int .i64 0, .slice none 0 0, .slice none 0 0] 26) = W2 at O Zq HR ⊢
        clear hZ
        generalize hZ : W.heap.size = q at Zq HQq ⊢
        clear hZ
        change wpAnyH _ _ _ _ _ _ #[true, true, true, true, true, true, true, true, true, false, false] _ _
        exact Gr8w_3_1 W2 Af9 cf9 Bf9 df9 Au9 cu9 Afw cfw Bfw dfw q HR O Zq HQq
    · intro W Af9 cf9 Bf9 df9 Au9 cu9 Afw cfw Bfw dfw q HR O Zq HQq
      change wpAnyH _ _ _ _ _ _ #[true, true, true, true, true, true, true, true, true, false, false] _ _
      refine wpAnyH_ready (rs := [9]) (by kernel_rfl) (by simp) (AllReadyH.cons rfl (fun K hK => ?_) AllReadyH.nil)
      have z0 := Zq.out.cell (i := 0) rfl
      have f0 := Zq.out.frozen 0
      have z1 := Zq.out.cell (i := 1) rfl
      have f1 := Zq.out.frozen 1
      have z2 := Zq.out.cell (i := 2) rfl
      have f2 := Zq.out.frozen 2
      have zl := Zq.out.lt
      go_simp
      clear z0 f0 z1 f1 z2 f2
      have hgr := ((grown_cell W q 0 (.int .i64 rN)).trans (grown_cell (W.setCell ⟨q, 0, none⟩ (.int .i64 rN)) q 1 (.slice Afw rE.length cfw))).trans (grown_cell ((W.setCell ⟨q, 0, none⟩ (.int .i64 rN)).setCell ⟨q, 1, none⟩ (.slice Afw rE.length cfw)) q 2 (.slice Bfw rL.length dfw))
      have EBfarm := Lib.hid ((Bfarm_20.out.below HR.out).grown hgr (by intro e; injection e with e; have h1 := HQq.out; have h2 := Bfarm_20.out.lt; omega))
      have EBsub := Lib.hid ((Bsub_21.out.below HR.out).grown hgr (by intro e; injection e with e; have h1 := HQq.out; have h2 := Bsub_21.out.lt; omega))
      have O2 := Lib.hid ((O.out.boxed Zq.out hgr (by decide) (by decide) (by decide)).wide (Nat.le_refl _) (World.grownBy.size hgr))
      refine hK.out _ _ ⟨EBfarm.out.cell (i := 0) rfl, EBfarm.out.cell (i := 1) rfl, EBfarm.out.cell (i := 2) rfl, EBsub.out.cell (i := 0) rfl, EBsub.out.cell (i := 1) rfl, EBsub.out.cell (i := 2) rfl, EBsub.out.cell (i := 3) rfl, EBsub.out.cell (i := 4) rfl⟩ (fun _ => ?_)
      clear hK K
      (try simp only [List.setIfInBounds_toArray, List.set_cons_zero, List.set_cons_succ])
      refine wpAnyH_take (i := 10) (oi := ⟨_, _, _, _, _, _⟩) (v := .bool rb) rfl (by kernel_rfl) (by kernel_rfl) (by kernel_rfl) (fun _ _ _ h => h) (Or.inl ⟨by kernel_rfl, fun W hS => by go_simp⟩) ⟨EBfarm.out.cell (i := 0) rfl, EBfarm.out.cell (i := 1) rfl, EBfarm.out.cell (i := 2) rfl, EBsub.out.cell (i := 0) rfl, EBsub.out.cell (i := 1) rfl, EBsub.out.cell (i := 2) rfl, EBsub.out.cell (i := 3) rfl, EBsub.out.cell (i := 4) rfl⟩ ?_
      (try simp only [Act.put, List.setIfInBounds_toArray, List.set_cons_zero, List.set_cons_succ])
      refine wpAnyH_done (by kernel_rfl) ?_ _
      go_wp2_with fail
      go_meet
      have ZB : Blk (((W.setCell ⟨q, 0, none⟩ (.int .i64 rN)).setCell ⟨q, 1, none⟩ (.slice Afw rE.length cfw)).setCell ⟨q, 2, none⟩ (.slice Bfw rL.length dfw)) q #[.int .i64 rN, .slice Afw rE.length cfw, .slice Bfw rL.length dfw] 26 := Blk.set (Blk.set (Blk.set (Zq.out) 0 (.int .i64 rN)) 1 (.slice Afw rE.length cfw)) 2 (.slice Bfw rL.length dfw)
      exact ⟨q, Afw, cfw, Bfw, dfw, rfl, rfl, Lib.hid (HR.out.grown hgr (Below.size HR.out) (fun j hj => by injection hj with hj; have h1 := HQq.out; omega)), Lib.hid ZB, O2, Lib.hid ⟨HQq.out, ZB.lt⟩⟩
  case rest =>
    rename World => w3
    obtain ⟨qw, Afw, cfw, Bfw, dfw, rfl, rfl, hb, hx, ho, hq⟩ := hcut
    have H_23 := Lib.hid (g_chain H_19.out hb.out)
    clear H_19
    have Bfarm_24 := Lib.hid (Bfarm_20.out.below hb.out)
    clear Bfarm_20
    have Bsub_25 := Lib.hid (Bsub_21.out.below hb.out)
    clear Bsub_21
    have sz_26 := Lib.hid (Below.size hb.out)
    have sz_27 := Lib.hid (hq.out.1)
    have sz_28 := Lib.hid (hq.out.2)
    have Rw_29 := Lib.hid (ho.out)
    have Bw_30 := Lib.hid (hx.out)
    clear hb hx ho hq
    have x_31 := Bfarm_24.out.cell (i := 0) rfl
    have x_32 := Bfarm_24.out.cell (i := 1) rfl
    have x_33 := Bfarm_24.out.cell (i := 2) rfl
    have lt_34 := Bfarm_24.out.lt
    go_wp2_with fail
    refine (CTF.out _ H_23.out).mono ?_
    rintro e w4 ⟨Afx, cfx, Bfx, dfx, rfl, ho, hb⟩
    clear x_31 x_32 x_33 lt_34
    have H_35 := Lib.hid (g_chain H_23.out hb)
    clear H_23
    have Bfarm_36 := Lib.hid (Bfarm_24.out.below hb)
    clear Bfarm_24
    have Bsub_37 := Lib.hid (Bsub_25.out.below hb)
    clear Bsub_25
    have Rw_38 := Lib.hid (Rw_29.out.below hb)
    clear Rw_29
    have Bw_39 := Lib.hid (Bw_30.out.below hb)
    clear Bw_30
    have sz_40 := Lib.hid (Below.size hb)
    have farmx_41 := Lib.hid (ho)
    clear hb
    clear ho
    have hb := below_a1 w4 (.cells #[.int .i64 N, .slice Afx es.length cfx, .slice Bfx ls.length dfx] 26)
    have sz_42 := Lib.hid (Blk.lt Bfarm_36.out)
    have sz_43 := Lib.hid (Blk.lt Bsub_37.out)
    have sz_44 := Lib.hid (Blk.lt Bw_39.out)
    have H_45 := Lib.hid (g_chain H_35.out hb)
    clear H_35
    have Bfarm_46 := Lib.hid (Bfarm_36.out.below hb)
    clear Bfarm_36
    have Bsub_47 := Lib.hid (Bsub_37.out.below hb)
    clear Bsub_37
    have Rw_48 := Lib.hid (Rw_38.out.below hb)
    clear Rw_38
    have Bw_49 := Lib.hid (Bw_39.out.below hb)
    clear Bw_39
    have farmx_50 := Lib.hid (farmx_41.out.below hb)
    clear farmx_41
    have sz_51 := Lib.hid (Below.size hb)
    clear hb
    have Xfarm_52 := Lib.hid (Blk.new w4 #[.int .i64 N, .slice Afx es.length cfx, .slice Bfx ls.length dfx] 26)
    have sz_53 : Hid (w4.heap.size + 1 ≤ (w4.alloc (.cells #[.int .i64 N, .slice Afx es.length cfx, .slice Bfx ls.length dfx] 26)).heap.size) := Lib.hid (by simp)
    have x_54 := Bsub_47.out.cell (i := 0) rfl
    have x_55 := Bsub_47.out.cell (i := 1) rfl
    have x_56 := Bsub_47.out.cell (i := 2) rfl
    have x_57 := Bsub_47.out.cell (i := 3) rfl
    have x_58 := Bsub_47.out.cell (i := 4) rfl
    have lt_59 := Bsub_47.out.lt
    go_wp2_with fail
    refine (CTU.out _ H_45.out).mono ?_
    rintro e w5 ⟨Aux, cux, rfl, ho, hb⟩
    clear x_54 x_55 x_56 x_57 x_58 lt_59
    have H_60 := Lib.hid (g_chain H_45.out hb)
    clear H_45
    have Bfarm_61 := Lib.hid (Bfarm_46.out.below hb)
    clear Bfarm_46
    have Bsub_62 := Lib.hid (Bsub_47.out.below hb)
    clear Bsub_47
    have Rw_63 := Lib.hid (Rw_48.out.below hb)
    clear Rw_48
    have Bw_64 := Lib.hid (Bw_49.out.below hb)
    clear Bw_49
    have farmx_65 := Lib.hid (farmx_50.out.below hb)
    clear farmx_50
    have Xfarm_66 := Lib.hid (Xfarm_52.out.below hb)
    clear Xfarm_52
    have sz_67 := Lib.hid (Below.size hb)
    have subx_68 := Lib.hid (UOwn.of ho)
    clear hb
    clear ho
    have hb := below_a1 w5 (.cells #[.int .i64 uP, .int .i64 uL, .int .i64 uH, .slice Aux us.length cux, .int .i64 uR] 35)
    have sz_69 := Lib.hid (Blk.lt Bfarm_61.out)
    have sz_70 := Lib.hid (Blk.lt Bsub_62.out)
    have sz_71 := Lib.hid (Blk.lt Bw_64.out)
    have sz_72 := Lib.hid (Blk.lt Xfarm_66.out)
    have H_73 := Lib.hid (g_chain H_60.out hb)
    clear H_60
    have Bfarm_74 := Lib.hid (Bfarm_61.out.below hb)
    clear Bfarm_61
    have Bsub_75 := Lib.hid (Bsub_62.out.below hb)
    clear Bsub_62
    have Rw_76 := Lib.hid (Rw_63.out.below hb)
    clear Rw_63
    have Bw_77 := Lib.hid (Bw_64.out.below hb)
    clear Bw_64
    have farmx_78 := Lib.hid (farmx_65.out.below hb)
    clear farmx_65
    have Xfarm_79 := Lib.hid (Xfarm_66.out.below hb)
    clear Xfarm_66
    have subx_80 := Lib.hid (subx_68.out.below hb)
    clear subx_68
    have sz_81 := Lib.hid (Below.size hb)
    clear hb
    have Xsub_82 := Lib.hid (Blk.new w5 #[.int .i64 uP, .int .i64 uL, .int .i64 uH, .slice Aux us.length cux, .int .i64 uR] 35)
    have sz_83 : Hid (w5.heap.size + 1 ≤ (w5.alloc (.cells #[.int .i64 uP, .int .i64 uL, .int .i64 uH, .slice Aux us.length cux, .int .i64 uR] 35)).heap.size) := Lib.hid (by simp)
    have x_84 := Xfarm_79.out.cell (i := 0) rfl
    have x_85 := Xfarm_79.out.cell (i := 1) rfl
    have x_86 := Xfarm_79.out.cell (i := 2) rfl
    have lt_87 := Xfarm_79.out.lt
    have x_88 := Xsub_82.out.cell (i := 0) rfl
    have x_89 := Xsub_82.out.cell (i := 1) rfl
    have x_90 := Xsub_82.out.cell (i := 2) rfl
    have x_91 := Xsub_82.out.cell (i := 3) rfl
    have x_92 := Xsub_82.out.cell (i := 4) rfl
    have lt_93 := Xsub_82.out.lt
    go_wp2_with fail
    refine (CI.out _ _ _ _ _ (farmx_78.out.rd) _ _ ((SlL.of_own subx_80.out.e rfl))).mono ?_
    rintro e w6 ⟨Afg, cfg, Bfg, dfg, rfl, ho, hb⟩
    clear x_84 x_85 x_86 lt_87 x_88 x_89 x_90 x_91 x_92 lt_93
    have H_94 := Lib.hid (g_chain H_73.out hb)
    clear H_73
    have Bfarm_95 := Lib.hid (Bfarm_74.out.below hb)
    clear Bfarm_74
    have Bsub_96 := Lib.hid (Bsub_75.out.below hb)
    clear Bsub_75
    have Rw_97 := Lib.hid (Rw_76.out.below hb)
    clear Rw_76
    have Bw_98 := Lib.hid (Bw_77.out.below hb)
    clear Bw_77
    have farmx_99 := Lib.hid (farmx_78.out.below hb)
    clear farmx_78
    have Xfarm_100 := Lib.hid (Xfarm_79.out.below hb)
    clear Xfarm_79
    have subx_101 := Lib.hid (subx_80.out.below hb)
    clear subx_80
    have Xsub_102 := Lib.hid (Xsub_82.out.below hb)
    clear Xsub_82
    have sz_103 := Lib.hid (Below.size hb)
    have Rg_104 := Lib.hid (ho)
    clear hb
    clear ho
    have hb := below_a1 w6 (.cells #[.int .i64 rN, .slice Afg rE.length cfg, .slice Bfg rL.length dfg] 26)
    have sz_105 := Lib.hid (Blk.lt Bfarm_95.out)
    have sz_106 := Lib.hid (Blk.lt Bsub_96.out)
    have sz_107 := Lib.hid (Blk.lt Bw_98.out)
    have sz_108 := Lib.hid (Blk.lt Xfarm_100.out)
    have sz_109 := Lib.hid (Blk.lt Xsub_102.out)
    have H_110 := Lib.hid (g_chain H_94.out hb)
    clear H_94
    have Bfarm_111 := Lib.hid (Bfarm_95.out.below hb)
    clear Bfarm_95
    have Bsub_112 := Lib.hid (Bsub_96.out.below hb)
    clear Bsub_96
    have Rw_113 := Lib.hid (Rw_97.out.below hb)
    clear Rw_97
    have Bw_114 := Lib.hid (Bw_98.out.below hb)
    clear Bw_98
    have farmx_115 := Lib.hid (farmx_99.out.below hb)
    clear farmx_99
    have Xfarm_116 := Lib.hid (Xfarm_100.out.below hb)
    clear Xfarm_100
    have subx_117 := Lib.hid (subx_101.out.below hb)
    clear subx_101
    have Xsub_118 := Lib.hid (Xsub_102.out.below hb)
    clear Xsub_102
    have Rg_119 := Lib.hid (Rg_104.out.below hb)
    clear Rg_104
    have sz_120 := Lib.hid (Below.size hb)
    clear hb
    have Bg_121 := Lib.hid (Blk.new w6 #[.int .i64 rN, .slice Afg rE.length cfg, .slice Bfg rL.length dfg] 26)
    have sz_122 : Hid (w6.heap.size + 1 ≤ (w6.alloc (.cells #[.int .i64 rN, .slice Afg rE.length cfg, .slice Bfg rL.length dfg] 26)).heap.size) := Lib.hid (by simp)
    have x_123 := Bg_121.out.cell (i := 0) rfl
    have x_124 := Bg_121.out.cell (i := 1) rfl
    have x_125 := Bg_121.out.cell (i := 2) rfl
    have lt_126 := Bg_121.out.lt
    have x_127 := Bw_114.out.cell (i := 0) rfl
    have x_128 := Bw_114.out.cell (i := 1) rfl
    have x_129 := Bw_114.out.cell (i := 2) rfl
    have lt_130 := Bw_114.out.lt
    go_wp2_with fail
    refine (CER.out _ _ _ _ _ _ _ _ _ _ _ _ _ _ _ Rg_119.out Rw_113.out).mono ?_
    rintro e w7 ⟨rfl, hb⟩
    clear x_123 x_124 x_125 lt_126 x_127 x_128 x_129 lt_130
    have H_131 := Lib.hid (g_chain H_110.out hb)
    clear H_110
    have Bfarm_132 := Lib.hid (Bfarm_111.out.below hb)
    clear Bfarm_111
    have Bsub_133 := Lib.hid (Bsub_112.out.below hb)
    clear Bsub_112
    have Rw_134 := Lib.hid (Rw_113.out.below hb)
    clear Rw_113
    have Bw_135 := Lib.hid (Bw_114.out.below hb)
    clear Bw_114
    have farmx_136 := Lib.hid (farmx_115.out.below hb)
    clear farmx_115
    have Xfarm_137 := Lib.hid (Xfarm_116.out.below hb)
    clear Xfarm_116
    have subx_138 := Lib.hid (subx_117.out.below hb)
    clear subx_117
    have Xsub_139 := Lib.hid (Xsub_118.out.below hb)
    clear Xsub_118
    have Rg_140 := Lib.hid (Rg_119.out.below hb)
    clear Rg_119
    have Bg_141 := Lib.hid (Bg_121.out.below hb)
    clear Bg_121
    have sz_142 := Lib.hid (Below.size hb)
    clear hb
    go_upto_region 14 with fail
    refine wp_region_any (by kernel_rfl) ?_
    change wpAny _ _ _ _ _ _ _ (World.drew _)
    have hb : Below w7.heap.size w7 (World.drew w7) := (Below.refl _ _).drew
    have H_143 := Lib.hid (g_chain H_131.out hb)
    clear H_131
    have Bfarm_144 := Lib.hid (Bfarm_132.out.below hb)
    clear Bfarm_132
    have Bsub_145 := Lib.hid (Bsub_133.out.below hb)
    clear Bsub_133
    have Rw_146 := Lib.hid (Rw_134.out.below hb)
    clear Rw_134
    have Bw_147 := Lib.hid (Bw_135.out.below hb)
    clear Bw_135
    have farmx_148 := Lib.hid (farmx_136.out.below hb)
    clear farmx_136
    have Xfarm_149 := Lib.hid (Xfarm_137.out.below hb)
    clear Xfarm_137
    have subx_150 := Lib.hid (subx_138.out.below hb)
    clear subx_138
    have Xsub_151 := Lib.hid (Xsub_139.out.below hb)
    clear Xsub_139
    have Rg_152 := Lib.hid (Rg_140.out.below hb)
    clear Rg_140
    have Bg_153 := Lib.hid (Bg_141.out.below hb)
    clear Bg_141
    have sz_154 := Lib.hid (Below.size hb)
    clear hb
    generalize hDD : World.drew w7 = w8 at H_143 Bfarm_144 Bsub_145 Rw_146 Bw_147 farmx_148 Xfarm_149 subx_150 Xsub_151 Rg_152 Bg_153 sz_154 ⊢
    clear hDD
    refine wpAny_of_held (S := fun W => W.cell? ⟨w.heap.size, 0, none⟩ = some (.int .i64 N) ∧ W.cell? ⟨w.heap.size, 1, none⟩ = some (.slice AE es.length cE) ∧ W.cell? ⟨w.heap.size, 2, none⟩ = some (.slice AS bs.length cS) ∧ W.cell? ⟨w4.heap.size, 0, none⟩ = some (.int .i64 N) ∧ W.cell? ⟨w4.heap.size, 1, none⟩ = some (.slice Afx es.length cfx) ∧ W.cell? ⟨w4.heap.size, 2, none⟩ = some (.slice Bfx ls.length dfx)) _ _ _ _ ?_
    refine held_nameK ⟨Bfarm_144.out.cell (i := 0) rfl, Bfarm_144.out.cell (i := 1) rfl, Bfarm_144.out.cell (i := 2) rfl, Xfarm_149.out.cell (i := 0) rfl, Xfarm_149.out.cell (i := 1) rfl, Xfarm_149.out.cell (i := 2) rfl⟩ (fun hS => ?_)
    refine wpAnyH_take (i := 0) (oi := ⟨_, _, _, _, _, _⟩) (v := .agg #[.int .i64 N, .slice Afx es.length cfx, .slice Bfx ls.length dfx]) rfl (by kernel_rfl) (by kernel_rfl) (by kernel_rfl) (fun _ _ _ h => h) (Or.inl ⟨by kernel_rfl, fun W hS => by (obtain ⟨s0, s1, s2, s3, s4, s5⟩ := hS); go_simp⟩) hS ?_
    (try simp only [Act.put, List.setIfInBounds_toArray, List.set_cons_zero, List.set_cons_succ])
    refine wpAnyH_take (i := 1) (oi := ⟨_, _, _, _, _, _⟩) (v := .agg #[.int .i64 N, .slice AE es.length cE, .slice AS bs.length cS]) rfl (by kernel_rfl) (by kernel_rfl) (by kernel_rfl) (fun _ _ _ h => h) (Or.inl ⟨by kernel_rfl, fun W hS => by (obtain ⟨s0, s1, s2, s3, s4, s5⟩ := hS); go_simp⟩) hS ?_
    (try simp only [Act.put, List.setIfInBounds_toArray, List.set_cons_zero, List.set_cons_succ])
    refine wpAnyH_ready (rs := [2]) (by kernel_rfl) (by simp) (AllReadyH.cons rfl (fun K hK => ?_) AllReadyH.nil)
    go_simp
    go_at_call 24
    refine (CTF.out _ H_143.out).mono ?_
    rintro e w9 ⟨Afq, cfq, Bfq, dfq, rfl, ho, hb⟩
    have H_155 := Lib.hid (g_chain H_143.out hb)
    clear H_143
    have Bfarm_156 := Lib.hid (Bfarm_144.out.below hb)
    clear Bfarm_144
    have Bsub_157 := Lib.hid (Bsub_145.out.below hb)
    clear Bsub_145
    have Rw_158 := Lib.hid (Rw_146.out.below hb)
    clear Rw_146
    have Bw_159 := Lib.hid (Bw_147.out.below hb)
    clear Bw_147
    have farmx_160 := Lib.hid (farmx_148.out.below hb)
    clear farmx_148
    have Xfarm_161 := Lib.hid (Xfarm_149.out.below hb)
    clear Xfarm_149
    have subx_162 := Lib.hid (subx_150.out.below hb)
    clear subx_150
    have Xsub_163 := Lib.hid (Xsub_151.out.below hb)
    clear Xsub_151
    have Rg_164 := Lib.hid (Rg_152.out.below hb)
    clear Rg_152
    have Bg_165 := Lib.hid (Bg_153.out.below hb)
    clear Bg_153
    have sz_166 := Lib.hid (Below.size hb)
    have farmq_167 := Lib.hid (ho)
    clear ho hb
    dsimp only
    refine hK.out _ _ ⟨Bfarm_156.out.cell (i := 0) rfl, Bfarm_156.out.cell (i := 1) rfl, Bfarm_156.out.cell (i := 2) rfl, Xfarm_161.out.cell (i := 0) rfl, Xfarm_161.out.cell (i := 1) rfl, Xfarm_161.out.cell (i := 2) rfl⟩ (fun hS => ?_)
    clear hK K
    (try simp only [Act.put, List.setIfInBounds_toArray, List.set_cons_zero, List.set_cons_succ])
    refine wpAnyH_ready (rs := [3]) (by kernel_rfl) (by simp) (AllReadyH.cons rfl (fun K hK => ?_) AllReadyH.nil)
    go_simp
    go_at_call 25
    refine (CEFarm.out _ _ _ _ _ _ _ _ _ _ _ _ _ _ _ farmx_160.out farmq_167.out).mono ?_
    rintro e w10 ⟨rfl, hb⟩
    have H_168 := Lib.hid (g_chain H_155.out hb)
    clear H_155
    have Bfarm_169 := Lib.hid (Bfarm_156.out.below hb)
    clear Bfarm_156
    have Bsub_170 := Lib.hid (Bsub_157.out.below hb)
    clear Bsub_157
    have Rw_171 := Lib.hid (Rw_158.out.below hb)
    clear Rw_158
    have Bw_172 := Lib.hid (Bw_159.out.below hb)
    clear Bw_159
    have farmx_173 := Lib.hid (farmx_160.out.below hb)
    clear farmx_160
    have Xfarm_174 := Lib.hid (Xfarm_161.out.below hb)
    clear Xfarm_161
    have subx_175 := Lib.hid (subx_162.out.below hb)
    clear subx_162
    have Xsub_176 := Lib.hid (Xsub_163.out.below hb)
    clear Xsub_163
    have Rg_177 := Lib.hid (Rg_164.out.below hb)
    clear Rg_164
    have Bg_178 := Lib.hid (Bg_165.out.below hb)
    clear Bg_165
    have farmq_179 := Lib.hid (farmq_167.out.below hb)
    clear farmq_167
    have sz_180 := Lib.hid (Below.size hb)
    clear hb
    dsimp only
    refine hK.out _ _ ⟨Bfarm_169.out.cell (i := 0) rfl, Bfarm_169.out.cell (i := 1) rfl, Bfarm_169.out.cell (i := 2) rfl, Xfarm_174.out.cell (i := 0) rfl, Xfarm_174.out.cell (i := 1) rfl, Xfarm_174.out.cell (i := 2) rfl⟩ (fun hS => ?_)
    clear hK K
    (try simp only [Act.put, List.setIfInBounds_toArray, List.set_cons_zero, List.set_cons_succ])
    refine wpAnyH_take (i := 4) (oi := ⟨_, _, _, _, _, _⟩) (v := .bool false) rfl (by kernel_rfl) (by kernel_rfl) (by kernel_rfl) (fun _ _ _ h => h) (Or.inl ⟨by kernel_rfl, fun W hS => by (obtain ⟨s0, s1, s2, s3, s4, s5⟩ := hS); go_simp⟩) hS ?_
    (try simp only [Act.put, List.setIfInBounds_toArray, List.set_cons_zero, List.set_cons_succ])
    refine wpAnyH_done (by kernel_rfl) ?_ _
    clear farmq_179
    go_upto_region 16 with fail
    refine wp_region_any (by kernel_rfl) ?_
    change wpAny _ _ _ _ _ _ _ (World.drew _)
    have hb : Below w10.heap.size w10 (World.drew w10) := (Below.refl _ _).drew
    have H_181 := Lib.hid (g_chain H_168.out hb)
    clear H_168
    have Bfarm_182 := Lib.hid (Bfarm_169.out.below hb)
    clear Bfarm_169
    have Bsub_183 := Lib.hid (Bsub_170.out.below hb)
    clear Bsub_170
    have Rw_184 := Lib.hid (Rw_171.out.below hb)
    clear Rw_171
    have Bw_185 := Lib.hid (Bw_172.out.below hb)
    clear Bw_172
    have farmx_186 := Lib.hid (farmx_173.out.below hb)
    clear farmx_173
    have Xfarm_187 := Lib.hid (Xfarm_174.out.below hb)
    clear Xfarm_174
    have subx_188 := Lib.hid (subx_175.out.below hb)
    clear subx_175
    have Xsub_189 := Lib.hid (Xsub_176.out.below hb)
    clear Xsub_176
    have Rg_190 := Lib.hid (Rg_177.out.below hb)
    clear Rg_177
    have Bg_191 := Lib.hid (Bg_178.out.below hb)
    clear Bg_178
    have sz_192 := Lib.hid (Below.size hb)
    clear hb
    generalize hDD : World.drew w10 = w11 at H_181 Bfarm_182 Bsub_183 Rw_184 Bw_185 farmx_186 Xfarm_187 subx_188 Xsub_189 Rg_190 Bg_191 sz_192 ⊢
    clear hDD
    refine wpAny_of_held (S := fun W => W.cell? ⟨w.heap.size + 1, 0, none⟩ = some (.int .i64 uP) ∧ W.cell? ⟨w.heap.size + 1, 1, none⟩ = some (.int .i64 uL) ∧ W.cell? ⟨w.heap.size + 1, 2, none⟩ = some (.int .i64 uH) ∧ W.cell? ⟨w.heap.size + 1, 3, none⟩ = some (.slice AU us.length cU) ∧ W.cell? ⟨w.heap.size + 1, 4, none⟩ = some (.int .i64 uR) ∧ W.cell? ⟨w5.heap.size, 0, none⟩ = some (.int .i64 uP) ∧ W.cell? ⟨w5.heap.size, 1, none⟩ = some (.int .i64 uL) ∧ W.cell? ⟨w5.heap.size, 2, none⟩ = some (.int .i64 uH) ∧ W.cell? ⟨w5.heap.size, 3, none⟩ = some (.slice Aux us.length cux) ∧ W.cell? ⟨w5.heap.size, 4, none⟩ = some (.int .i64 uR)) _ _ _ _ ?_
    refine held_nameK ⟨Bsub_183.out.cell (i := 0) rfl, Bsub_183.out.cell (i := 1) rfl, Bsub_183.out.cell (i := 2) rfl, Bsub_183.out.cell (i := 3) rfl, Bsub_183.out.cell (i := 4) rfl, Xsub_189.out.cell (i := 0) rfl, Xsub_189.out.cell (i := 1) rfl, Xsub_189.out.cell (i := 2) rfl, Xsub_189.out.cell (i := 3) rfl, Xsub_189.out.cell (i := 4) rfl⟩ (fun hS => ?_)
    refine wpAnyH_take (i := 0) (oi := ⟨_, _, _, _, _, _⟩) (v := .agg #[.int .i64 uP, .int .i64 uL, .int .i64 uH, .slice Aux us.length cux, .int .i64 uR]) rfl (by kernel_rfl) (by kernel_rfl) (by kernel_rfl) (fun _ _ _ h => h) (Or.inl ⟨by kernel_rfl, fun W hS => by (obtain ⟨s0, s1, s2, s3, s4, s5, s6, s7, s8, s9⟩ := hS); go_simp⟩) hS ?_
    (try simp only [Act.put, List.setIfInBounds_toArray, List.set_cons_zero, List.set_cons_succ])
    refine wpAnyH_take (i := 1) (oi := ⟨_, _, _, _, _, _⟩) (v := .agg #[.int .i64 uP, .int .i64 uL, .int .i64 uH, .slice AU us.length cU, .int .i64 uR]) rfl (by kernel_rfl) (by kernel_rfl) (by kernel_rfl) (fun _ _ _ h => h) (Or.inl ⟨by kernel_rfl, fun W hS => by (obtain ⟨s0, s1, s2, s3, s4, s5, s6, s7, s8, s9⟩ := hS); go_simp⟩) hS ?_
    (try simp only [Act.put, List.setIfInBounds_toArray, List.set_cons_zero, List.set_cons_succ])
    refine wpAnyH_ready (rs := [2]) (by kernel_rfl) (by simp) (AllReadyH.cons rfl (fun K hK => ?_) AllReadyH.nil)
    go_simp
    go_at_call 48
    refine (CTU.out _ H_181.out).mono ?_
    rintro e w12 ⟨Auq, cuq, rfl, ho, hb⟩
    have H_193 := Lib.hid (g_chain H_181.out hb)
    clear H_181
    have Bfarm_194 := Lib.hid (Bfarm_182.out.below hb)
    clear Bfarm_182
    have Bsub_195 := Lib.hid (Bsub_183.out.below hb)
    clear Bsub_183
    have Rw_196 := Lib.hid (Rw_184.out.below hb)
    clear Rw_184
    have Bw_197 := Lib.hid (Bw_185.out.below hb)
    clear Bw_185
    have farmx_198 := Lib.hid (farmx_186.out.below hb)
    clear farmx_186
    have Xfarm_199 := Lib.hid (Xfarm_187.out.below hb)
    clear Xfarm_187
    have subx_200 := Lib.hid (subx_188.out.below hb)
    clear subx_188
    have Xsub_201 := Lib.hid (Xsub_189.out.below hb)
    clear Xsub_189
    have Rg_202 := Lib.hid (Rg_190.out.below hb)
    clear Rg_190
    have Bg_203 := Lib.hid (Bg_191.out.below hb)
    clear Bg_191
    have sz_204 := Lib.hid (Below.size hb)
    have subq_205 := Lib.hid (UOwn.of ho)
    clear ho hb
    dsimp only
    refine hK.out _ _ ⟨Bsub_195.out.cell (i := 0) rfl, Bsub_195.out.cell (i := 1) rfl, Bsub_195.out.cell (i := 2) rfl, Bsub_195.out.cell (i := 3) rfl, Bsub_195.out.cell (i := 4) rfl, Xsub_201.out.cell (i := 0) rfl, Xsub_201.out.cell (i := 1) rfl, Xsub_201.out.cell (i := 2) rfl, Xsub_201.out.cell (i := 3) rfl, Xsub_201.out.cell (i := 4) rfl⟩ (fun hS => ?_)
    clear hK K
    (try simp only [Act.put, List.setIfInBounds_toArray, List.set_cons_zero, List.set_cons_succ])
    refine wpAnyH_ready (rs := [3]) (by kernel_rfl) (by simp) (AllReadyH.cons rfl (fun K hK => ?_) AllReadyH.nil)
    go_simp
    go_at_call 43
    refine (CESub.out _ _ _ _ _ _ _ _ _ _ _ subx_200.out subq_205.out).mono ?_
    rintro e w13 ⟨rfl, hb⟩
    have H_206 := Lib.hid (g_chain H_193.out hb)
    clear H_193
    have Bfarm_207 := Lib.hid (Bfarm_194.out.below hb)
    clear Bfarm_194
    have Bsub_208 := Lib.hid (Bsub_195.out.below hb)
    clear Bsub_195
    have Rw_209 := Lib.hid (Rw_196.out.below hb)
    clear Rw_196
    have Bw_210 := Lib.hid (Bw_197.out.below hb)
    clear Bw_197
    have farmx_211 := Lib.hid (farmx_198.out.below hb)
    clear farmx_198
    have Xfarm_212 := Lib.hid (Xfarm_199.out.below hb)
    clear Xfarm_199
    have subx_213 := Lib.hid (subx_200.out.below hb)
    clear subx_200
    have Xsub_214 := Lib.hid (Xsub_201.out.below hb)
    clear Xsub_201
    have Rg_215 := Lib.hid (Rg_202.out.below hb)
    clear Rg_202
    have Bg_216 := Lib.hid (Bg_203.out.below hb)
    clear Bg_203
    have subq_217 := Lib.hid (subq_205.out.below hb)
    clear subq_205
    have sz_218 := Lib.hid (Below.size hb)
    clear hb
    dsimp only
    refine hK.out _ _ ⟨Bsub_208.out.cell (i := 0) rfl, Bsub_208.out.cell (i := 1) rfl, Bsub_208.out.cell (i := 2) rfl, Bsub_208.out.cell (i := 3) rfl, Bsub_208.out.cell (i := 4) rfl, Xsub_214.out.cell (i := 0) rfl, Xsub_214.out.cell (i := 1) rfl, Xsub_214.out.cell (i := 2) rfl, Xsub_214.out.cell (i := 3) rfl, Xsub_214.out.cell (i := 4) rfl⟩ (fun hS => ?_)
    clear hK K
    (try simp only [Act.put, List.setIfInBounds_toArray, List.set_cons_zero, List.set_cons_succ])
    refine wpAnyH_take (i := 4) (oi := ⟨_, _, _, _, _, _⟩) (v := .bool false) rfl (by kernel_rfl) (by kernel_rfl) (by kernel_rfl) (fun _ _ _ h => h) (Or.inl ⟨by kernel_rfl, fun W hS => by (obtain ⟨s0, s1, s2, s3, s4, s5, s6, s7, s8, s9⟩ := hS); go_simp⟩) hS ?_
    (try simp only [Act.put, List.setIfInBounds_toArray, List.set_cons_zero, List.set_cons_succ])
    refine wpAnyH_done (by kernel_rfl) ?_ _
    clear subq_217
    have x_219 := Xfarm_212.out.cell (i := 0) rfl
    have x_220 := Xfarm_212.out.cell (i := 1) rfl
    have x_221 := Xfarm_212.out.cell (i := 2) rfl
    have lt_222 := Xfarm_212.out.lt
    go_wp2_with fail
    refine (CMFarm.out _ _ _ _ _ _ _ _ farmx_211.out).mono ?_
    rintro e w14 ⟨rfl, hm, hwr⟩
    clear x_219 x_220 x_221 lt_222
    have zz0 := sz_4.out
    have zz1 := sz_12.out
    have zz2 := sz_22.out
    have zz3 := sz_26.out
    have zz4 := sz_27.out
    have zz5 := sz_28.out
    have zz6 := sz_40.out
    have zz7 := sz_42.out
    have zz8 := sz_43.out
    have zz9 := sz_44.out
    have zz10 := sz_51.out
    have zz11 := sz_53.out
    have zz12 := sz_67.out
    have zz13 := sz_69.out
    have zz14 := sz_70.out
    have zz15 := sz_71.out
    have zz16 := sz_72.out
    have zz17 := sz_81.out
    have zz18 := sz_83.out
    have zz19 := sz_103.out
    have zz20 := sz_105.out
    have zz21 := sz_106.out
    have zz22 := sz_107.out
    have zz23 := sz_108.out
    have zz24 := sz_109.out
    have zz25 := sz_120.out
    have zz26 := sz_122.out
    have zz27 := sz_142.out
    have zz28 := sz_154.out
    have zz29 := sz_166.out
    have zz30 := sz_180.out
    have zz31 := sz_192.out
    have zz32 := sz_204.out
    have zz33 := sz_218.out
    have H_223 := Lib.hid (Wr.orig hwr H_206.out (by omega) (by omega))
    clear H_206
    have Bfarm_224 := Lib.hid (Wr.blk hwr Bfarm_207.out (by omega))
    clear Bfarm_207
    have Bsub_225 := Lib.hid (Wr.blk hwr Bsub_208.out (by omega))
    clear Bsub_208
    have Rw_226 := Lib.hid (FOwn.wr hwr Rw_209.out (by omega))
    clear Rw_209
    have Bw_227 := Lib.hid (Wr.blk hwr Bw_210.out (by omega))
    clear Bw_210
    have Xfarm_228 := Lib.hid (Wr.blk hwr Xfarm_212.out (by omega))
    clear Xfarm_212
    have subx_229 := Lib.hid (UOwn.wr hwr subx_213.out (by omega))
    clear subx_213
    have Xsub_230 := Lib.hid (Wr.blk hwr Xsub_214.out (by omega))
    clear Xsub_214
    have Rg_231 := Lib.hid (FOwn.wr hwr Rg_215.out (by omega))
    clear Rg_215
    have Bg_232 := Lib.hid (Wr.blk hwr Bg_216.out (by omega))
    clear Bg_216
    clear zz0 zz1 zz2 zz3 zz4 zz5 zz6 zz7 zz8 zz9 zz10 zz11 zz12 zz13 zz14 zz15 zz16 zz17 zz18 zz19 zz20 zz21 zz22 zz23 zz24 zz25 zz26 zz27 zz28 zz29 zz30 zz31 zz32 zz33
    have sz_233 := Lib.hid (Wr.size hwr)
    clear hwr
    clear hm
    clear Xfarm_228
    have x_234 := Xsub_230.out.cell (i := 0) rfl
    have x_235 := Xsub_230.out.cell (i := 1) rfl
    have x_236 := Xsub_230.out.cell (i := 2) rfl
    have x_237 := Xsub_230.out.cell (i := 3) rfl
    have x_238 := Xsub_230.out.cell (i := 4) rfl
    have lt_239 := Xsub_230.out.lt
    go_wp2_with fail
    refine (CMSub.out _ _ _ _ _ _ subx_229.out).mono ?_
    rintro e w15 ⟨rfl, hm, hwr⟩
    clear x_234 x_235 x_236 x_237 x_238 lt_239
    have zz0 := sz_4.out
    have zz1 := sz_12.out
    have zz2 := sz_22.out
    have zz3 := sz_26.out
    have zz4 := sz_27.out
    have zz5 := sz_28.out
    have zz6 := sz_40.out
    have zz7 := sz_42.out
    have zz8 := sz_43.out
    have zz9 := sz_44.out
    have zz10 := sz_51.out
    have zz11 := sz_53.out
    have zz12 := sz_67.out
    have zz13 := sz_69.out
    have zz14 := sz_70.out
    have zz15 := sz_71.out
    have zz16 := sz_72.out
    have zz17 := sz_81.out
    have zz18 := sz_83.out
    have zz19 := sz_103.out
    have zz20 := sz_105.out
    have zz21 := sz_106.out
    have zz22 := sz_107.out
    have zz23 := sz_108.out
    have zz24 := sz_109.out
    have zz25 := sz_120.out
    have zz26 := sz_122.out
    have zz27 := sz_142.out
    have zz28 := sz_154.out
    have zz29 := sz_166.out
    have zz30 := sz_180.out
    have zz31 := sz_192.out
    have zz32 := sz_204.out
    have zz33 := sz_218.out
    have zz34 := sz_233.out
    have H_240 := Lib.hid (Wr.orig hwr H_223.out (by omega) (by omega))
    clear H_223
    have Bfarm_241 := Lib.hid (Wr.blk hwr Bfarm_224.out (by omega))
    clear Bfarm_224
    have Bsub_242 := Lib.hid (Wr.blk hwr Bsub_225.out (by omega))
    clear Bsub_225
    have Rw_243 := Lib.hid (FOwn.wr hwr Rw_226.out (by omega))
    clear Rw_226
    have Bw_244 := Lib.hid (Wr.blk hwr Bw_227.out (by omega))
    clear Bw_227
    have Xsub_245 := Lib.hid (Wr.blk hwr Xsub_230.out (by omega))
    clear Xsub_230
    have Rg_246 := Lib.hid (FOwn.wr hwr Rg_231.out (by omega))
    clear Rg_231
    have Bg_247 := Lib.hid (Wr.blk hwr Bg_232.out (by omega))
    clear Bg_232
    clear zz0 zz1 zz2 zz3 zz4 zz5 zz6 zz7 zz8 zz9 zz10 zz11 zz12 zz13 zz14 zz15 zz16 zz17 zz18 zz19 zz20 zz21 zz22 zz23 zz24 zz25 zz26 zz27 zz28 zz29 zz30 zz31 zz32 zz33 zz34
    have sz_248 := Lib.hid (Wr.size hwr)
    clear hwr
    clear hm
    clear Xsub_245
    have x_249 := Bg_247.out.cell (i := 0) rfl
    have x_250 := Bg_247.out.cell (i := 1) rfl
    have x_251 := Bg_247.out.cell (i := 2) rfl
    have lt_252 := Bg_247.out.lt
    have x_253 := Bw_244.out.cell (i := 0) rfl
    have x_254 := Bw_244.out.cell (i := 1) rfl
    have x_255 := Bw_244.out.cell (i := 2) rfl
    have lt_256 := Bw_244.out.lt
    go_wp2_with fail
    refine (CER.out _ _ _ _ _ _ _ _ _ _ _ _ _ _ _ Rg_246.out Rw_243.out).mono ?_
    rintro e w16 ⟨rfl, hb⟩
    clear x_249 x_250 x_251 lt_252 x_253 x_254 x_255 lt_256
    have H_257 := Lib.hid (g_chain H_240.out hb)
    clear H_240
    have Bfarm_258 := Lib.hid (Bfarm_241.out.below hb)
    clear Bfarm_241
    have Bsub_259 := Lib.hid (Bsub_242.out.below hb)
    clear Bsub_242
    have Rw_260 := Lib.hid (Rw_243.out.below hb)
    clear Rw_243
    have Bw_261 := Lib.hid (Bw_244.out.below hb)
    clear Bw_244
    have Rg_262 := Lib.hid (Rg_246.out.below hb)
    clear Rg_246
    have Bg_263 := Lib.hid (Bg_247.out.below hb)
    clear Bg_247
    have sz_264 := Lib.hid (Below.size hb)
    clear hb
    have x_265 := Bg_263.out.cell (i := 0) rfl
    have x_266 := Bg_263.out.cell (i := 1) rfl
    have x_267 := Bg_263.out.cell (i := 2) rfl
    have lt_268 := Bg_263.out.lt
    go_wp2_with fail
    refine (CMR.out _ _ _ _ _ _ _ _ Rg_262.out).mono ?_
    rintro e w17 ⟨rfl, hm, hwr⟩
    clear x_265 x_266 x_267 lt_268
    have zz0 := sz_4.out
    have zz1 := sz_12.out
    have zz2 := sz_22.out
    have zz3 := sz_26.out
    have zz4 := sz_27.out
    have zz5 := sz_28.out
    have zz6 := sz_40.out
    have zz7 := sz_42.out
    have zz8 := sz_43.out
    have zz9 := sz_44.out
    have zz10 := sz_51.out
    have zz11 := sz_53.out
    have zz12 := sz_67.out
    have zz13 := sz_69.out
    have zz14 := sz_70.out
    have zz15 := sz_71.out
    have zz16 := sz_72.out
    have zz17 := sz_81.out
    have zz18 := sz_83.out
    have zz19 := sz_103.out
    have zz20 := sz_105.out
    have zz21 := sz_106.out
    have zz22 := sz_107.out
    have zz23 := sz_108.out
    have zz24 := sz_109.out
    have zz25 := sz_120.out
    have zz26 := sz_122.out
    have zz27 := sz_142.out
    have zz28 := sz_154.out
    have zz29 := sz_166.out
    have zz30 := sz_180.out
    have zz31 := sz_192.out
    have zz32 := sz_204.out
    have zz33 := sz_218.out
    have zz34 := sz_233.out
    have zz35 := sz_248.out
    have zz36 := sz_264.out
    have H_269 := Lib.hid (Wr.orig hwr H_257.out (by omega) (by omega))
    clear H_257
    have Bfarm_270 := Lib.hid (Wr.blk hwr Bfarm_258.out (by omega))
    clear Bfarm_258
    have Bsub_271 := Lib.hid (Wr.blk hwr Bsub_259.out (by omega))
    clear Bsub_259
    have Rw_272 := Lib.hid (FOwn.wr hwr Rw_260.out (by omega))
    clear Rw_260
    have Bw_273 := Lib.hid (Wr.blk hwr Bw_261.out (by omega))
    clear Bw_261
    have Bg_274 := Lib.hid (Wr.blk hwr Bg_263.out (by omega))
    clear Bg_263
    clear zz0 zz1 zz2 zz3 zz4 zz5 zz6 zz7 zz8 zz9 zz10 zz11 zz12 zz13 zz14 zz15 zz16 zz17 zz18 zz19 zz20 zz21 zz22 zz23 zz24 zz25 zz26 zz27 zz28 zz29 zz30 zz31 zz32 zz33 zz34 zz35 zz36
    have sz_275 := Lib.hid (Wr.size hwr)
    clear hwr
    have M_276 := Lib.hid (hm)
    clear hm
    have x_277 := Bg_274.out.cell (i := 0) rfl
    have x_278 := Bg_274.out.cell (i := 1) rfl
    have x_279 := Bg_274.out.cell (i := 2) rfl
    have lt_280 := Bg_274.out.lt
    go_wp2_with fail
    refine (CHR.out _ _ _ _ _ M_276.out).mono ?_
    rintro e w18 ⟨rfl, hb⟩
    clear x_277 x_278 x_279 lt_280
    have H_281 := Lib.hid (g_chain H_269.out hb)
    clear H_269
    have Bfarm_282 := Lib.hid (Bfarm_270.out.below hb)
    clear Bfarm_270
    have Bsub_283 := Lib.hid (Bsub_271.out.below hb)
    clear Bsub_271
    have Rw_284 := Lib.hid (Rw_272.out.below hb)
    clear Rw_272
    have Bw_285 := Lib.hid (Bw_273.out.below hb)
    clear Bw_273
    have Bg_286 := Lib.hid (Bg_274.out.below hb)
    clear Bg_274
    have M_287 := Lib.hid (M_276.out.below hb)
    clear M_276
    have sz_288 := Lib.hid (Below.size hb)
    clear hb
    go_upto_region 31 with fail
    go_cut [15, 16] (fun (sa sb : Value) (wx : World) => ∃ (q : Nat) (Afh : Option Addr) (cfh : Nat) (Bfh : Option Addr) (dfh : Nat), sa = .pointer (some ⟨q, 0, none⟩) ∧ sb = .bool rb ∧ Hid (Below w18.heap.size w18 wx) ∧ Hid (Blk wx q #[.int .i64 rN, .slice Afh rE.length cfh, .slice Bfh rL.length dfh] 26) ∧ Hid (FOwn wx w18.heap.size w18.heap.size wx.heap.size Afh rE.length cfh Bfh rL.length dfh rE rL) ∧ Hid (w18.heap.size ≤ q ∧ q < wx.heap.size))
    case first =>
      have HSF : ∀ W, Hid (Below w18.heap.size w18 W) → (W.cell? ⟨w.heap.size, 0, none⟩ = some (.int .i64 N) ∧ W.cell? ⟨w.heap.size, 1, none⟩ = some (.slice AE es.length cE) ∧ W.cell? ⟨w.heap.size, 2, none⟩ = some (.slice AS bs.length cS) ∧ W.cell? ⟨w.heap.size + 1, 0, none⟩ = some (.int .i64 uP) ∧ W.cell? ⟨w.heap.size + 1, 1, none⟩ = some (.int .i64 uL) ∧ W.cell? ⟨w.heap.size + 1, 2, none⟩ = some (.int .i64 uH) ∧ W.cell? ⟨w.heap.size + 1, 3, none⟩ = some (.slice AU us.length cU) ∧ W.cell? ⟨w.heap.size + 1, 4, none⟩ = some (.int .i64 uR)) := fun W HR => ⟨(Bfarm_282.out.below HR.out).cell (i := 0) rfl, (Bfarm_282.out.below HR.out).cell (i := 1) rfl, (Bfarm_282.out.below HR.out).cell (i := 2) rfl, (Bsub_283.out.below HR.out).cell (i := 0) rfl, (Bsub_283.out.below HR.out).cell (i := 1) rfl, (Bsub_283.out.below HR.out).cell (i := 2) rfl, (Bsub_283.out.below HR.out).cell (i := 3) rfl, (Bsub_283.out.below HR.out).cell (i := 4) rfl⟩
      have HR : Hid (Below w18.heap.size w18 w18.drew) := Lib.hid (Below.refl _ _).drew
      refine wp_region_any (by kernel_rfl) ?_
      change wpAny _ _ _ _ _ _ _ (World.drew _)
      refine wpAny_of_held (S := fun W => W.cell? ⟨w.heap.size, 0, none⟩ = some (.int .i64 N) ∧ W.cell? ⟨w.heap.size, 1, none⟩ = some (.slice AE es.length cE) ∧ W.cell? ⟨w.heap.size, 2, none⟩ = some (.slice AS bs.length cS) ∧ W.cell? ⟨w.heap.size + 1, 0, none⟩ = some (.int .i64 uP) ∧ W.cell? ⟨w.heap.size + 1, 1, none⟩ = some (.int .i64 uL) ∧ W.cell? ⟨w.heap.size + 1, 2, none⟩ = some (.int .i64 uH) ∧ W.cell? ⟨w.heap.size + 1, 3, none⟩ = some (.slice AU us.length cU) ∧ W.cell? ⟨w.heap.size + 1, 4, none⟩ = some (.int .i64 uR)) _ _ _ _ ?_
      generalize hDD : World.drew w18 = W at HR ⊢
      clear hDD
      refine wpAnyH_take (i := 0) (oi := ⟨_, _, _, _, _, _⟩) (v := .agg #[.int .i64 N, .slice AE es.length cE, .slice AS bs.length cS]) rfl (by kernel_rfl) (by kernel_rfl) (by kernel_rfl) (fun _ _ _ h => h) (Or.inl ⟨by kernel_rfl, fun W hS => by (obtain ⟨s0, s1, s2, s3, s4, s5, s6, s7⟩ := hS); go_simp⟩) (HSF _ HR) ?_
      (try simp only [Act.put, List.setIfInBounds_toArray, List.set_cons_zero, List.set_cons_succ])
      refine wpAnyH_take (i := 2) (oi := ⟨_, _, _, _, _, _⟩) (v := .agg #[.int .i64 uP, .int .i64 uL, .int .i64 uH, .slice AU us.length cU, .int .i64 uR]) rfl (by kernel_rfl) (by kernel_rfl) (by kernel_rfl) (fun _ _ _ h => h) (Or.inl ⟨by kernel_rfl, fun W hS => by (obtain ⟨s0, s1, s2, s3, s4, s5, s6, s7⟩ := hS); go_simp⟩) (HSF _ HR) ?_
      (try simp only [Act.put, List.setIfInBounds_toArray, List.set_cons_zero, List.set_cons_succ])
      refine (fun (Gr31h_3_1 : ∀ (W : World) (Af9 : Option Addr) (cf9 : Nat) (Bf9 : Option Addr) (df9 : Nat) (Au9 : Option Addr) (cu9 : Nat) (Afh : Option Addr) (cfh : Nat) (Bfh : Option Addr) (dfh : Nat) (q : Nat), Hid (Below w18.heap.size w18 W) → Hid (FOwn W w18.heap.size w18.heap.size W.heap.size Afh rE.length cfh Bfh rL.length dfh rE rL) → Hid (Blk W q #[.int .i64 0, .slice none 0 0, .slice none 0 0] 26) → Hid (w18.heap.size ≤ q) → (?Xr31h_3_1 : World → (Option Addr) → Nat → (Option Addr) → Nat → (Option Addr) → Nat → (Option Addr) → Nat → (Option Addr) → Nat → Nat → Prop) W Af9 cf9 Bf9 df9 Au9 cu9 Afh cfh Bfh dfh q) => ?_) ?_
      rotate_left
      refine (fun (Gr31h_3_0 : ∀ (W : World) (Af9 : Option Addr) (cf9 : Nat) (Bf9 : Option Addr) (df9 : Nat) (Au9 : Option Addr) (cu9 : Nat) (Afh : Option Addr) (cfh : Nat) (Bfh : Option Addr) (dfh : Nat), Hid (Below w18.heap.size w18 W) → Hid (FOwn W w18.heap.size w18.heap.size W.heap.size Afh rE.length cfh Bfh rL.length dfh rE rL) → (?Xr31h_3_0 : World → (Option Addr) → Nat → (Option Addr) → Nat → (Option Addr) → Nat → (Option Addr) → Nat → (Option Addr) → Nat → Prop) W Af9 cf9 Bf9 df9 Au9 cu9 Afh cfh Bfh dfh) => ?_) ?_
      rotate_left
      refine (fun (Gr31h_2_1 : ∀ (W : World) (Af9 : Option Addr) (cf9 : Nat) (Bf9 : Option Addr) (df9 : Nat) (Au9 : Option Addr) (cu9 : Nat) (q : Nat), Hid (Below w18.heap.size w18 W) → Hid (FRd W Af9 es.length Bf9 ls.length es ls) → Hid (SlL W Au9 us.length us) → Hid (Blk W q #[.int .i64 0, .slice none 0 0, .slice none 0 0] 26) → Hid (w18.heap.size ≤ q) → (?Xr31h_2_1 : World → (Option Addr) → Nat → (Option Addr) → Nat → (Option Addr) → Nat → Nat → Prop) W Af9 cf9 Bf9 df9 Au9 cu9 q) => ?_) ?_
      rotate_left
      refine (fun (Gr31h_2_0 : ∀ (W : World) (Af9 : Option Addr) (cf9 : Nat) (Bf9 : Option Addr) (df9 : Nat) (Au9 : Option Addr) (cu9 : Nat), Hid (Below w18.heap.size w18 W) → Hid (FRd W Af9 es.length Bf9 ls.length es ls) → Hid (SlL W Au9 us.length us) → (?Xr31h_2_0 : World → (Option Addr) → Nat → (Option Addr) → Nat → (Option Addr) → Nat → Prop) W Af9 cf9 Bf9 df9 Au9 cu9) => ?_) ?_
      rotate_left
      refine (fun (Gr31h_1_1 : ∀ (W : World) (Af9 : Option Addr) (cf9 : Nat) (Bf9 : Option Addr) (df9 : Nat) (q : Nat), Hid (Below w18.heap.size w18 W) → Hid (FRd W Af9 es.length Bf9 ls.length es ls) → Hid (Blk W q #[.int .i64 0, .slice none 0 0, .slice none 0 0] 26) → Hid (w18.heap.size ≤ q) → (?Xr31h_1_1 : World → (Option Addr) → Nat → (Option Addr) → Nat → Nat → Prop) W Af9 cf9 Bf9 df9 q) => ?_) ?_
      rotate_left
      refine (fun (Gr31h_1_0 : ∀ (W : World) (Af9 : Option Addr) (cf9 : Nat) (Bf9 : Option Addr) (df9 : Nat), Hid (Below w18.heap.size w18 W) → Hid (FRd W Af9 es.length Bf9 ls.length es ls) → (?Xr31h_1_0 : World → (Option Addr) → Nat → (Option Addr) → Nat → Prop) W Af9 cf9 Bf9 df9) => ?_) ?_
      rotate_left
      refine (fun (Gr31h_0_1 : ∀ (W : World) (q : Nat), Hid (Below w18.heap.size w18 W) → Hid (Blk W q #[.int .i64 0, .slice none 0 0, .slice none 0 0] 26) → Hid (w18.heap.size ≤ q) → (?Xr31h_0_1 : World → Nat → Prop) W q) => ?_) ?_
      rotate_left
      change wpAnyH _ _ _ _ _ _ #[true, false, true, false, false, false, false, false, false, false, false] _ _
      refine wpAnyH_ready (rs := [1, 8]) (by kernel_rfl) (by simp) (AllReadyH.cons rfl (fun K hK => ?_) (AllReadyH.cons rfl (fun K hK => ?_) AllReadyH.nil))
      · skip
        go_simp
        go_at_call 24
        refine (CTF.out W (g_chain H_281.out HR.out)).mono ?_
        rintro e W2 ⟨Af9, cf9, Bf9, df9, rfl, ho, hb⟩
        have DF : Hid (FRd W2 Af9 es.length Bf9 ls.length es ls) := Lib.hid (ho.rd)
        have HR := Lib.hid (g_chain HR.out hb)
        clear hb
        dsimp only
        refine hK.out _ _ (HSF _ HR) (fun _ => ?_)
        clear hK K
        (try simp only [List.setIfInBounds_toArray, List.set_cons_zero, List.set_cons_succ])
        change wpAnyH _ _ _ _ _ _ #[true, true, true, false, false, false, false, false, false, false, false] _ _
        exact Gr31h_1_0 W2 Af9 cf9 Bf9 df9 HR DF
      · skip
        go_simp
        have hb := below_a1 W (.cells #[.int .i64 0, .slice none 0 0, .slice none 0 0] 26)
        have Zq : Hid (Blk (W.alloc (.cells #[.int .i64 0, .slice none 0 0, .slice none 0 0] 26)) W.heap.size #[.int .i64 0, .slice none 0 0, .slice none 0 0] 26) := Lib.hid (Blk.new W #[.int .i64 0, .slice none 0 0, .slice none 0 0] 26)
        have HQq : Hid (w18.heap.size ≤ W.heap.size) := Lib.hid (Below.size HR.out)
        have HR := Lib.hid (g_chain HR.out hb)
        clear hb
        refine hK.out _ _ (HSF _ HR) (fun _ => ?_)
        clear hK K
        (try simp only [List.setIfInBounds_toArray, List.set_cons_zero, List.set_cons_succ])
        generalize hZ : W.alloc (.cells #[.int .i64 0, .slice none 0 0, .slice none 0 0] 26) = W2 at Zq HR ⊢
        clear hZ
        generalize hZ : W.heap.size = q at Zq HQq ⊢
        clear hZ
        change wpAnyH _ _ _ _ _ _ #[true, false, true, false, false, false, false, false, true, false, false] _ _
        exact Gr31h_0_1 W2 q HR Zq HQq
      · intro W q HR Zq HQq
        change wpAnyH _ _ _ _ _ _ #[true, false, true, false, false, false, false, false, true, false, false] _ _
        refine wpAnyH_ready (rs := [1]) (by kernel_rfl) (by simp) (AllReadyH.cons rfl (fun K hK => ?_) AllReadyH.nil)
        · skip
          go_simp
          go_at_call 24
          refine (CTF.out W (g_chain H_281.out HR.out)).mono ?_
          rintro e W2 ⟨Af9, cf9, Bf9, df9, rfl, ho, hb⟩
          have Zq : Hid (Blk W2 q #[.int .i64 0, .slice none 0 0, .slice none 0 0] 26) := Lib.hid (Zq.out.below hb)
          have HQq : Hid (w18.heap.size ≤ q) := Lib.hid (HQq.out)
          have DF : Hid (FRd W2 Af9 es.length Bf9 ls.length es ls) := Lib.hid (ho.rd)
          have HR := Lib.hid (g_chain HR.out hb)
          clear hb
          dsimp only
          refine hK.out _ _ (HSF _ HR) (fun _ => ?_)
          clear hK K
          (try simp only [List.setIfInBounds_toArray, List.set_cons_zero, List.set_cons_succ])
          change wpAnyH _ _ _ _ _ _ #[true, true, true, false, false, false, false, false, true, false, false] _ _
          exact Gr31h_1_1 W2 Af9 cf9 Bf9 df9 q HR DF Zq HQq
      · intro W Af9 cf9 Bf9 df9 HR DF
        change wpAnyH _ _ _ _ _ _ #[true, true, true, false, false, false, false, false, false, false, false] _ _
        refine wpAnyH_ready (rs := [3, 8]) (by kernel_rfl) (by simp) (AllReadyH.cons rfl (fun K hK => ?_) (AllReadyH.cons rfl (fun K hK => ?_) AllReadyH.nil))
        · skip
          go_simp
          go_at_call 48
          refine (CTU.out W (g_chain H_281.out HR.out)).mono ?_
          rintro e W2 ⟨Au9, cu9, rfl, ho, hb⟩
          have DF : Hid (FRd W2 Af9 es.length Bf9 ls.length es ls) := Lib.hid (DF.out.below hb)
          have DU : Hid (SlL W2 Au9 us.length us) := Lib.hid (SlL.of_own ho rfl)
          have HR := Lib.hid (g_chain HR.out hb)
          clear hb
          dsimp only
          refine hK.out _ _ (HSF _ HR) (fun _ => ?_)
          clear hK K
          (try simp only [List.setIfInBounds_toArray, List.set_cons_zero, List.set_cons_succ])
          change wpAnyH _ _ _ _ _ _ #[true, true, true, true, false, false, false, false, false, false, false] _ _
          exact Gr31h_2_0 W2 Af9 cf9 Bf9 df9 Au9 cu9 HR DF DU
        · skip
          go_simp
          have hb := below_a1 W (.cells #[.int .i64 0, .slice none 0 0, .slice none 0 0] 26)
          have DF : Hid (FRd (W.alloc (.cells #[.int .i64 0, .slice none 0 0, .slice none 0 0] 26)) Af9 es.length Bf9 ls.length es ls) := Lib.hid (DF.out.below hb)
          have Zq : Hid (Blk (W.alloc (.cells #[.int .i64 0, .slice none 0 0, .slice none 0 0] 26)) W.heap.size #[.int .i64 0, .slice none 0 0, .slice none 0 0] 26) := Lib.hid (Blk.new W #[.int .i64 0, .slice none 0 0, .slice none 0 0] 26)
          have HQq : Hid (w18.heap.size ≤ W.heap.size) := Lib.hid (Below.size HR.out)
          have HR := Lib.hid (g_chain HR.out hb)
          clear hb
          refine hK.out _ _ (HSF _ HR) (fun _ => ?_)
          clear hK K
          (try simp only [List.setIfInBounds_toArray, List.set_cons_zero, List.set_cons_succ])
          generalize hZ : W.alloc (.cells #[.int .i64 0, .slice none 0 0, .slice none 0 0] 26) = W2 at DF Zq HR ⊢
          clear hZ
          generalize hZ : W.heap.size = q at Zq HQq ⊢
          clear hZ
          change wpAnyH _ _ _ _ _ _ #[true, true, true, false, false, false, false, false, true, false, false] _ _
          exact Gr31h_1_1 W2 Af9 cf9 Bf9 df9 q HR DF Zq HQq
      · intro W Af9 cf9 Bf9 df9 q HR DF Zq HQq
        change wpAnyH _ _ _ _ _ _ #[true, true, true, false, false, false, false, false, true, false, false] _ _
        refine wpAnyH_ready (rs := [3]) (by kernel_rfl) (by simp) (AllReadyH.cons rfl (fun K hK => ?_) AllReadyH.nil)
        · skip
          go_simp
          go_at_call 48
          refine (CTU.out W (g_chain H_281.out HR.out)).mono ?_
          rintro e W2 ⟨Au9, cu9, rfl, ho, hb⟩
          have DF : Hid (FRd W2 Af9 es.length Bf9 ls.length es ls) := Lib.hid (DF.out.below hb)
          have Zq : Hid (Blk W2 q #[.int .i64 0, .slice none 0 0, .slice none 0 0] 26) := Lib.hid (Zq.out.below hb)
          have HQq : Hid (w18.heap.size ≤ q) := Lib.hid (HQq.out)
          have DU : Hid (SlL W2 Au9 us.length us) := Lib.hid (SlL.of_own ho rfl)
          have HR := Lib.hid (g_chain HR.out hb)
          clear hb
          dsimp only
          refine hK.out _ _ (HSF _ HR) (fun _ => ?_)
          clear hK K
          (try simp only [List.setIfInBounds_toArray, List.set_cons_zero, List.set_cons_succ])
          change wpAnyH _ _ _ _ _ _ #[true, true, true, true, false, false, false, false, true, false, false] _ _
          exact Gr31h_2_1 W2 Af9 cf9 Bf9 df9 Au9 cu9 q HR DF DU Zq HQq
      · intro W Af9 cf9 Bf9 df9 Au9 cu9 HR DF DU
        change wpAnyH _ _ _ _ _ _ #[true, true, true, true, false, false, false, false, false, false, false] _ _
        refine wpAnyH_ready (rs := [4, 8]) (by kernel_rfl) (by simp) (AllReadyH.cons rfl (fun K hK => ?_) (AllReadyH.cons rfl (fun K hK => ?_) AllReadyH.nil))
        · skip
          go_simp
          go_at_call 20
          refine (CI.out W Af9 cf9 Bf9 df9 DF.out Au9 cu9 DU.out).mono ?_
          rintro e W2 ⟨Afh, cfh, Bfh, dfh, rfl, ho, hb⟩
          have O : Hid (FOwn W2 w18.heap.size w18.heap.size W2.heap.size Afh rE.length cfh Bfh rL.length dfh rE rL) := Lib.hid ((ho.mono (Below.size HR.out)).wide (Below.size HR.out) (Nat.le_refl _))
          have HR := Lib.hid (g_chain HR.out hb)
          clear hb
          dsimp only
          refine hK.out _ _ (HSF _ HR) (fun _ => ?_)
          clear hK K
          (try simp only [List.setIfInBounds_toArray, List.set_cons_zero, List.set_cons_succ])
          refine wpAnyH_take (i := 5) (oi := ⟨_, _, _, _, _, _⟩) (v := .tuple #[.agg #[.int .i64 rN, .slice Afh rE.length cfh, .slice Bfh rL.length dfh], .bool rb]) rfl (by kernel_rfl) (by kernel_rfl) (by kernel_rfl) (fun _ _ _ h => h) (Or.inl ⟨by kernel_rfl, fun W hS => by go_simp⟩) (HSF _ HR) ?_
          (try simp only [Act.put, List.setIfInBounds_toArray, List.set_cons_zero, List.set_cons_succ])
          refine wpAnyH_take (i := 6) (oi := ⟨_, _, _, _, _, _⟩) (v := .agg #[.int .i64 rN, .slice Afh rE.length cfh, .slice Bfh rL.length dfh]) rfl (by kernel_rfl) (by kernel_rfl) (by kernel_rfl) (fun _ _ _ h => h) (Or.inl ⟨by kernel_rfl, fun W hS => by go_simp⟩) (HSF _ HR) ?_
          (try simp only [Act.put, List.setIfInBounds_toArray, List.set_cons_zero, List.set_cons_succ])
          refine wpAnyH_take (i := 7) (oi := ⟨_, _, _, _, _, _⟩) (v := .bool rb) rfl (by kernel_rfl) (by kernel_rfl) (by kernel_rfl) (fun _ _ _ h => h) (Or.inl ⟨by kernel_rfl, fun W hS => by go_simp⟩) (HSF _ HR) ?_
          (try simp only [Act.put, List.setIfInBounds_toArray, List.set_cons_zero, List.set_cons_succ])
          change wpAnyH _ _ _ _ _ _ #[true, true, true, true, true, true, true, true, false, false, false] _ _
          exact Gr31h_3_0 W2 Af9 cf9 Bf9 df9 Au9 cu9 Afh cfh Bfh dfh HR O
        · skip
          go_simp
          have hb := below_a1 W (.cells #[.int .i64 0, .slice none 0 0, .slice none 0 0] 26)
          have DF : Hid (FRd (W.alloc (.cells #[.int .i64 0, .slice none 0 0, .slice none 0 0] 26)) Af9 es.length Bf9 ls.length es ls) := Lib.hid (DF.out.below hb)
          have DU : Hid (SlL (W.alloc (.cells #[.int .i64 0, .slice none 0 0, .slice none 0 0] 26)) Au9 us.length us) := Lib.hid (DU.out.below hb)
          have Zq : Hid (Blk (W.alloc (.cells #[.int .i64 0, .slice none 0 0, .slice none 0 0] 26)) W.heap.size #[.int .i64 0, .slice none 0 0, .slice none 0 0] 26) := Lib.hid (Blk.new W #[.int .i64 0, .slice none 0 0, .slice none 0 0] 26)
          have HQq : Hid (w18.heap.size ≤ W.heap.size) := Lib.hid (Below.size HR.out)
          have HR := Lib.hid (g_chain HR.out hb)
          clear hb
          refine hK.out _ _ (HSF _ HR) (fun _ => ?_)
          clear hK K
          (try simp only [List.setIfInBounds_toArray, List.set_cons_zero, List.set_cons_succ])
          generalize hZ : W.alloc (.cells #[.int .i64 0, .slice none 0 0, .slice none 0 0] 26) = W2 at DF DU Zq HR ⊢
          clear hZ
          generalize hZ : W.heap.size = q at Zq HQq ⊢
          clear hZ
          change wpAnyH _ _ _ _ _ _ #[true, true, true, true, false, false, false, false, true, false, false] _ _
          exact Gr31h_2_1 W2 Af9 cf9 Bf9 df9 Au9 cu9 q HR DF DU Zq HQq
      · intro W Af9 cf9 Bf9 df9 Au9 cu9 q HR DF DU Zq HQq
        change wpAnyH _ _ _ _ _ _ #[true, true, true, true, false, false, false, false, true, false, false] _ _
        refine wpAnyH_ready (rs := [4]) (by kernel_rfl) (by simp) (AllReadyH.cons rfl (fun K hK => ?_) AllReadyH.nil)
        · skip
          go_simp
          go_at_call 20
          refine (CI.out W Af9 cf9 Bf9 df9 DF.out Au9 cu9 DU.out).mono ?_
          rintro e W2 ⟨Afh, cfh, Bfh, dfh, rfl, ho, hb⟩
          have Zq : Hid (Blk W2 q #[.int .i64 0, .slice none 0 0, .slice none 0 0] 26) := Lib.hid (Zq.out.below hb)
          have HQq : Hid (w18.heap.size ≤ q) := Lib.hid (HQq.out)
          have O : Hid (FOwn W2 w18.heap.size w18.heap.size W2.heap.size Afh rE.length cfh Bfh rL.length dfh rE rL) := Lib.hid ((ho.mono (Below.size HR.out)).wide (Below.size HR.out) (Nat.le_refl _))
          have HR := Lib.hid (g_chain HR.out hb)
          clear hb
          dsimp only
          refine hK.out _ _ (HSF _ HR) (fun _ => ?_)
          clear hK K
          (try simp only [List.setIfInBounds_toArray, List.set_cons_zero, List.set_cons_succ])
          refine wpAnyH_take (i := 5) (oi := ⟨_, _, _, _, _, _⟩) (v := .tuple #[.agg #[.int .i64 rN, .slice Afh rE.length cfh, .slice Bfh rL.length dfh], .bool rb]) rfl (by kernel_rfl) (by kernel_rfl) (by kernel_rfl) (fun _ _ _ h => h) (Or.inl ⟨by kernel_rfl, fun W hS => by go_simp⟩) (HSF _ HR) ?_
          (try simp only [Act.put, List.setIfInBounds_toArray, List.set_cons_zero, List.set_cons_succ])
          refine wpAnyH_take (i := 6) (oi := ⟨_, _, _, _, _, _⟩) (v := .agg #[.int .i64 rN, .slice Afh rE.length cfh, .slice Bfh rL.length dfh]) rfl (by kernel_rfl) (by kernel_rfl) (by kernel_rfl) (fun _ _ _ h => h) (Or.inl ⟨by kernel_rfl, fun W hS => by go_simp⟩) (HSF _ HR) ?_
          (try simp only [Act.put, List.setIfInBounds_toArray, List.set_cons_zero, List.set_cons_succ])
          refine wpAnyH_take (i := 7) (oi := ⟨_, _, _, _, _, _⟩) (v := .bool rb) rfl (by kernel_rfl) (by kernel_rfl) (by kernel_rfl) (fun _ _ _ h => h) (Or.inl ⟨by kernel_rfl, fun W hS => by go_simp⟩) (HSF _ HR) ?_
          (try simp only [Act.put, List.setIfInBounds_toArray, List.set_cons_zero, List.set_cons_succ])
          change wpAnyH _ _ _ _ _ _ #[true, true, true, true, true, true, true, true, true, false, false] _ _
          exact Gr31h_3_1 W2 Af9 cf9 Bf9 df9 Au9 cu9 Afh cfh Bfh dfh q HR O Zq HQq
      · intro W Af9 cf9 Bf9 df9 Au9 cu9 Afh cfh Bfh dfh HR O
        change wpAnyH _ _ _ _ _ _ #[true, true, true, true, true, true, true, true, false, false, false] _ _
        refine wpAnyH_ready (rs := [8]) (by kernel_rfl) (by simp) (AllReadyH.cons rfl (fun K hK => ?_) AllReadyH.nil)
        · skip
          go_simp
          have hb := below_a1 W (.cells #[.int .i64 0, .slice none 0 0, .slice none 0 0] 26)
          have O : Hid (FOwn (W.alloc (.cells #[.int .i64 0, .slice none 0 0, .slice none 0 0] 26)) w18.heap.size w18.heap.size (W.alloc (.cells #[.int .i64 0, .slice none 0 0, .slice none 0 0] 26)).heap.size Afh rE.length cfh Bfh rL.length dfh rE rL) := Lib.hid ((O.out.below hb).wide (Nat.le_refl _) (Below.size hb))
          have Zq : Hid (Blk (W.alloc (.cells #[.int .i64 0, .slice none 0 0, .slice none 0 0] 26)) W.heap.size #[.int .i64 0, .slice none 0 0, .slice none 0 0] 26) := Lib.hid (Blk.new W #[.int .i64 0, .slice none 0 0, .slice none 0 0] 26)
          have HQq : Hid (w18.heap.size ≤ W.heap.size) := Lib.hid (Below.size HR.out)
          have HR := Lib.hid (g_chain HR.out hb)
          clear hb
          refine hK.out _ _ (HSF _ HR) (fun _ => ?_)
          clear hK K
          (try simp only [List.setIfInBounds_toArray, List.set_cons_zero, List.set_cons_succ])
          generalize hZ : W.alloc (.cells #[.int .i64 0, .slice none 0 0, .slice none 0 0] 26) = W2 at O Zq HR ⊢
          clear hZ
          generalize hZ : W.heap.size = q at Zq HQq ⊢
          clear hZ
          change wpAnyH _ _ _ _ _ _ #[true, true, true, true, true, true, true, true, true, false, false] _ _
          exact Gr31h_3_1 W2 Af9 cf9 Bf9 df9 Au9 cu9 Afh cfh Bfh dfh q HR O Zq HQq
      · intro W Af9 cf9 Bf9 df9 Au9 cu9 Afh cfh Bfh dfh q HR O Zq HQq
        change wpAnyH _ _ _ _ _ _ #[true, true, true, true, true, true, true, true, true, false, false] _ _
        refine wpAnyH_ready (rs := [9]) (by kernel_rfl) (by simp) (AllReadyH.cons rfl (fun K hK => ?_) AllReadyH.nil)
        have z0 := Zq.out.cell (i := 0) rfl
        have f0 := Zq.out.frozen 0
        have z1 := Zq.out.cell (i := 1) rfl
        have f1 := Zq.out.frozen 1
        have z2 := Zq.out.cell (i := 2) rfl
        have f2 := Zq.out.frozen 2
        have zl := Zq.out.lt
        go_simp
        clear z0 f0 z1 f1 z2 f2
        have hgr := ((grown_cell W q 0 (.int .i64 rN)).trans (grown_cell (W.setCell ⟨q, 0, none⟩ (.int .i64 rN)) q 1 (.slice Afh rE.length cfh))).trans (grown_cell ((W.setCell ⟨q, 0, none⟩ (.int .i64 rN)).setCell ⟨q, 1, none⟩ (.slice Afh rE.length cfh)) q 2 (.slice Bfh rL.length dfh))
        have EBfarm := Lib.hid ((Bfarm_282.out.below HR.out).grown hgr (by intro e; injection e with e; have h1 := HQq.out; have h2 := Bfarm_282.out.lt; omega))
        have EBsub := Lib.hid ((Bsub_283.out.below HR.out).grown hgr (by intro e; injection e with e; have h1 := HQq.out; have h2 := Bsub_283.out.lt; omega))
        have O2 := Lib.hid ((O.out.boxed Zq.out hgr (by decide) (by decide) (by decide)).wide (Nat.le_refl _) (World.grownBy.size hgr))
        refine hK.out _ _ ⟨EBfarm.out.cell (i := 0) rfl, EBfarm.out.cell (i := 1) rfl, EBfarm.out.cell (i := 2) rfl, EBsub.out.cell (i := 0) rfl, EBsub.out.cell (i := 1) rfl, EBsub.out.cell (i := 2) rfl, EBsub.out.cell (i := 3) rfl, EBsub.out.cell (i := 4) rfl⟩ (fun _ => ?_)
        clear hK K
        (try simp only [List.setIfInBounds_toArray, List.set_cons_zero, List.set_cons_succ])
        refine wpAnyH_take (i := 10) (oi := ⟨_, _, _, _, _, _⟩) (v := .bool rb) rfl (by kernel_rfl) (by kernel_rfl) (by kernel_rfl) (fun _ _ _ h => h) (Or.inl ⟨by kernel_rfl, fun W hS => by go_simp⟩) ⟨EBfarm.out.cell (i := 0) rfl, EBfarm.out.cell (i := 1) rfl, EBfarm.out.cell (i := 2) rfl, EBsub.out.cell (i := 0) rfl, EBsub.out.cell (i := 1) rfl, EBsub.out.cell (i := 2) rfl, EBsub.out.cell (i := 3) rfl, EBsub.out.cell (i := 4) rfl⟩ ?_
        (try simp only [Act.put, List.setIfInBounds_toArray, List.set_cons_zero, List.set_cons_succ])
        refine wpAnyH_done (by kernel_rfl) ?_ _
        go_wp2_with fail
        go_meet
        have ZB : Blk (((W.setCell ⟨q, 0, none⟩ (.int .i64 rN)).setCell ⟨q, 1, none⟩ (.slice Afh rE.length cfh)).setCell ⟨q, 2, none⟩ (.slice Bfh rL.length dfh)) q #[.int .i64 rN, .slice Afh rE.length cfh, .slice Bfh rL.length dfh] 26 := Blk.set (Blk.set (Blk.set (Zq.out) 0 (.int .i64 rN)) 1 (.slice Afh rE.length cfh)) 2 (.slice Bfh rL.length dfh)
        exact ⟨q, Afh, cfh, Bfh, dfh, rfl, rfl, Lib.hid (HR.out.grown hgr (Below.size HR.out) (fun j hj => by injection hj with hj; have h1 := HQq.out; omega)), Lib.hid ZB, O2, Lib.hid ⟨HQq.out, ZB.lt⟩⟩
    case rest =>
      rename World => w19
      obtain ⟨qh, Afh, cfh, Bfh, dfh, rfl, rfl, hb, hx, ho, hq⟩ := hcut
      have H_289 := Lib.hid (g_chain H_281.out hb.out)
      clear H_281
      have Bfarm_290 := Lib.hid (Bfarm_282.out.below hb.out)
      clear Bfarm_282
      have Bsub_291 := Lib.hid (Bsub_283.out.below hb.out)
      clear Bsub_283
      have Rw_292 := Lib.hid (Rw_284.out.below hb.out)
      clear Rw_284
      have Bw_293 := Lib.hid (Bw_285.out.below hb.out)
      clear Bw_285
      have Bg_294 := Lib.hid (Bg_286.out.below hb.out)
      clear Bg_286
      have M_295 := Lib.hid (M_287.out.below hb.out)
      clear M_287
      have sz_296 := Lib.hid (Below.size hb.out)
      have sz_297 := Lib.hid (hq.out.1)
      have sz_298 := Lib.hid (hq.out.2)
      have Rh_299 := Lib.hid (ho.out)
      have Bh_300 := Lib.hid (hx.out)
      clear hb hx ho hq
      have x_301 := Bh_300.out.cell (i := 0) rfl
      have x_302 := Bh_300.out.cell (i := 1) rfl
      have x_303 := Bh_300.out.cell (i := 2) rfl
      have lt_304 := Bh_300.out.lt
      have x_305 := Bw_293.out.cell (i := 0) rfl
      have x_306 := Bw_293.out.cell (i := 1) rfl
      have x_307 := Bw_293.out.cell (i := 2) rfl
      have lt_308 := Bw_293.out.lt
      go_wp2_with fail
      refine (CER.out _ _ _ _ _ _ _ _ _ _ _ _ _ _ _ Rh_299.out Rw_292.out).mono ?_
      rintro e w20 ⟨rfl, hb⟩
      clear x_301 x_302 x_303 lt_304 x_305 x_306 x_307 lt_308
      have H_309 := Lib.hid (g_chain H_289.out hb)
      clear H_289
      have Bfarm_310 := Lib.hid (Bfarm_290.out.below hb)
      clear Bfarm_290
      have Bsub_311 := Lib.hid (Bsub_291.out.below hb)
      clear Bsub_291
      have Rw_312 := Lib.hid (Rw_292.out.below hb)
      clear Rw_292
      have Bw_313 := Lib.hid (Bw_293.out.below hb)
      clear Bw_293
      have Bg_314 := Lib.hid (Bg_294.out.below hb)
      clear Bg_294
      have M_315 := Lib.hid (M_295.out.below hb)
      clear M_295
      have Rh_316 := Lib.hid (Rh_299.out.below hb)
      clear Rh_299
      have Bh_317 := Lib.hid (Bh_300.out.below hb)
      clear Bh_300
      have sz_318 := Lib.hid (Below.size hb)
      clear hb
      have x_319 := Bg_314.out.cell (i := 0) rfl
      have x_320 := Bg_314.out.cell (i := 1) rfl
      have x_321 := Bg_314.out.cell (i := 2) rfl
      have lt_322 := Bg_314.out.lt
      go_wp2_with fail
      refine (CHR.out _ _ _ _ _ M_315.out).mono ?_
      rintro e w21 ⟨rfl, hb⟩
      clear x_319 x_320 x_321 lt_322
      have H_323 := Lib.hid (g_chain H_309.out hb)
      clear H_309
      have Bfarm_324 := Lib.hid (Bfarm_310.out.below hb)
      clear Bfarm_310
      have Bsub_325 := Lib.hid (Bsub_311.out.below hb)
      clear Bsub_311
      have Rw_326 := Lib.hid (Rw_312.out.below hb)
      clear Rw_312
      have Bw_327 := Lib.hid (Bw_313.out.below hb)
      clear Bw_313
      have Bg_328 := Lib.hid (Bg_314.out.below hb)
      clear Bg_314
      have M_329 := Lib.hid (M_315.out.below hb)
      clear M_315
      have Rh_330 := Lib.hid (Rh_316.out.below hb)
      clear Rh_316
      have Bh_331 := Lib.hid (Bh_317.out.below hb)
      clear Bh_317
      have sz_332 := Lib.hid (Below.size hb)
      clear hb
      go_wp2
      go_ret
      exact ⟨rfl, H_323.out⟩
end Go.Proofs.Ytpgnappddddlpaa
