/- The walk of the law FnExactFarmWith: it returns true and writes nothing that was there. -/
import Derived.Test.YtpgnappddddlpaaCGG
import Derived.Test.YtpgnappddddlpaaCGI
import Derived.Test.YtpgnappddddlpaaKFarmWK
import Derived.Deep.Cut
import Derived.Deep.RegionHeld3
import Derived.Deep.RegionWith
namespace Go.Proofs.Ytpgnappddddlpaa
open Go.RowKit
set_option linter.unusedVariables false

theorem held_nameK {P : Program} {md : Region.Mode} {ops : Array Oper} {Q : Exit → Act → World → Prop} {S : World → Prop} {fuel : Nat} {listed : Array Bool} {a : Act} {w : World} (hS : S w) (h : S w → wpAnyH P md ops Q S fuel listed a w) : wpAnyH P md ops Q S fuel listed a w := h hS
set_option maxRecDepth 20000 in
set_option maxHeartbeats 16000000 in
theorem walkFarmWith (N : Int) (AE : Option Addr) (nE cE : Nat) (AS : Option Addr) (nS cS : Nat) (es : List Int) (bs : List HE) (AV : Option Addr) (nV cV : Nat) (vs : List Int) (w : World) (hf : FarmIn w N AE nE cE AS nS cS es bs) (hv : IntsIn w AV nV cV vs) :
    Calls Try.prog 8 #[.agg #[.int .i64 N, .slice AE nE cE, .slice AS nS cS], .slice AV nV cV] w fun e w' => e = .returned (.bool true) ∧ Below w.heap.size w w' := by
  obtain rfl := hf.e.g.len
  obtain rfl := hf.s.g.len
  obtain rfl := hv.g.len
  have B0H : Hid (Below w.heap.size w (w.alloc (.cells #[.int .i64 N, .slice AE es.length cE, .slice AS bs.length cS] 46))) := Lib.hid (below_a1 _ _)
  by_cases hm : vs.length ≤ 1048576
  rotate_left
  · have hm2 : (1048576 : Int) < (vs.length : Int) := by omega
    clear hf hv
    go_enter Try.func8, Try.ntmps8
    go_wp2
    go_ret
    exact ⟨rfl, B0H.out⟩
  have B00 : Hid (Blk (w.alloc (.cells #[.int .i64 N, .slice AE es.length cE, .slice AS bs.length cS] 46)) (w.heap.size) #[.int .i64 N, .slice AE es.length cE, .slice AS bs.length cS] 46) := Lib.hid (by have h := Blk.new w #[.int .i64 N, .slice AE es.length cE, .slice AS bs.length cS] 46; simpa using h)
  have CZ0 : Hid (∀ W, Below w.heap.size w W → Calls _ _ _ W _) := Lib.hid (fun W h => szFarm_any N AE es.length cE AS bs.length cS bs 1048576 W (hf.s.g.below h) hf.e.l hf.s.l hf.s.e (by omega) (by omega))
  by_cases hb0 : (((es.length + (bs.length + sumH bs)) : Nat) : Int) ≤ 1048576
  rotate_left
  · skip
    rw [leftG_neg (by omega)] at CZ0
    clear hf hv hb0
    go_enter Try.func8, Try.ntmps8
    have y0_0 := B00.out.cell (i := 0) rfl
    have y0_1 := B00.out.cell (i := 1) rfl
    have y0_2 := B00.out.cell (i := 2) rfl
    go_wp2_with fail
    refine (CZ0.out _ B0H.out).mono ?_
    rintro e wz0 ⟨rfl, hba⟩
    have HA0 := Lib.hid (g_chain B0H.out hba)
    clear hba y0_0 y0_1 y0_2
    go_wp2
    go_ret
    exact ⟨rfl, HA0.out⟩
  rw [leftG_pos hb0] at CZ0
  have hp0 : (0 : Int) ≤ 1048576 - (((es.length + (bs.length + sumH bs)) : Nat) : Int) := by omega
  have hq0 : 1048576 - (((es.length + (bs.length + sumH bs)) : Nat) : Int) ≤ 1048576 := by omega
  have hes : es.length ≤ 1048576 := by omega
  have hlens : ∀ d ∈ bs, d.es.length = d.n := fun d hd => (hf.s.g.each d hd).rd.len
  have hsz : (sdL bs).length + (flatK (sdL bs)).length ≤ 1048576 := by rw [← sum_flat (bs := bs) (ls := sdL bs) rfl hlens, sdL_len]; omega
  have hsm := HSm.of (M := 1048576) (n := bs.length) rfl hlens rfl hsz
  have hbl : bs.length ≤ 1048576 := by omega
  have CTF : Hid (∀ W, Below w.heap.size w W → Calls Try.prog 24 #[.agg #[.int .i64 N, .slice AE es.length cE, .slice AS bs.length cS]] W (MadeF W N es (sdL bs))) := Lib.hid (fun W h => toFarm_any N AE es.length cE AS bs.length cS es bs W (hf.e.g.below h) (hf.s.g.below h) (by omega) (by omega) (fun e he => by have := hsm.e e he; omega))
  have HSA := Lib.hid hsz
  unfold MadeF at CTF
  have CTI := Lib.hid (fun W (h : Below w.heap.size w W) => copyInts_any AV vs.length cV vs W (hv.g.below h) (by omega))
  unfold MadeN OwI at CTI
  generalize (1048576 : Int) - (((es.length + (bs.length + sumH bs)) : Nat) : Int) = q0 at CZ0 hp0
  generalize sdL bs = ls at CTF HSA
  have CEFarm := Lib.hid (fun W lo l h (Af1 : Option Addr) (cf1 : Nat) (Bf1 : Option Addr) (df1 : Nat) lo' l' h' (Af2 : Option Addr) (cf2 : Nat) (Bf2 : Option Addr) (df2 : Nat) (h1 : FOwn W lo l h Af1 es.length cf1 Bf1 ls.length df1 es ls) (h2 : FOwn W lo' l' h' Af2 es.length cf2 Bf2 ls.length df2 es ls) => eqFarm_any N Af1 es.length cf1 Bf1 ls.length df1 Af2 cf2 Bf2 df2 es ls W h1.rd h2.rd (by omega) HSA.out)
  have CMFarm := Lib.hid (fun W lo l h (Af1 : Option Addr) (cf1 : Nat) (Bf1 : Option Addr) (df1 : Nat) (h1 : FOwn W lo l h Af1 es.length cf1 Bf1 ls.length df1 es ls) => markFarm_any N Af1 es.length cf1 Bf1 ls.length df1 lo l h 1 es ls W h1 (by omega) HSA.out (by omega))
  unfold MarkedF at CMFarm
  have CEIntS := Lib.hid (fun W lo l h (Ai1 : Option Addr) (ci1 : Nat) lo' l' h' (Ai2 : Option Addr) (ci2 : Nat) (h1 : NOwn W lo l h Ai1 vs.length ci1 vs) (h2 : NOwn W lo' l' h' Ai2 vs.length ci2 vs) => eqInts_any Ai1 Ai2 vs.length ci1 ci2 vs W (SlI.of_own h1.e) (SlI.of_own h2.e) (by omega))
  have CMIntS := Lib.hid (fun W lo l h (Ai1 : Option Addr) (ci1 : Nat) (h1 : NOwn W lo l h Ai1 vs.length ci1 vs) => markN_k Ai1 vs.length ci1 lo l h (endFm 1 es ls) vs W h1 (by omega) (by first | omega | (have := HSA.out; unfold endFm; omega)))
  have CS := Lib.hid (fun W lo1 l1 h1 (Af1 : Option Addr) (cf1 : Nat) (Bf1 : Option Addr) (df1 : Nat) (hk1 : FOwn W lo1 l1 h1 Af1 es.length cf1 Bf1 ls.length df1 es ls) lo2 l2 h2 (Ai2 : Option Addr) (ci2 : Nat) (hk2 : NOwn W lo2 l2 h2 Ai2 vs.length ci2 vs) => specFarmWith_k N Af1 es.length cf1 es Bf1 ls.length df1 ls Ai2 vs.length ci2 vs W hk1.rd (by omega) HSA.out (SlI.of_own hk2.e) (by omega))
  have CI := Lib.hid (fun W lo1 l1 h1 (Af1 : Option Addr) (cf1 : Nat) (Bf1 : Option Addr) (df1 : Nat) (hk1 : FOwn W lo1 l1 h1 Af1 es.length cf1 Bf1 ls.length df1 es ls) lo2 l2 h2 (Ai2 : Option Addr) (ci2 : Nat) (hk2 : NOwn W lo2 l2 h2 Ai2 vs.length ci2 vs) => implFarmWith_k N Af1 es.length cf1 es Bf1 ls.length df1 ls Ai2 vs.length ci2 vs W hk1.rd (by omega) HSA.out (SlI.of_own hk2.e) (by omega))
  unfold MadeFB at CS CI
  have hre : (fwE N es ls vs).length ≤ 1048576 := (by have := @fw_few N es ls vs; omega)
  have hrl : (fwL N es ls vs).length + (flatK (fwL N es ls vs)).length ≤ 1048576 := (by have := @fw_few N es ls vs; omega)
  generalize fwN N es ls vs = rN at CS CI
  generalize fwE N es ls vs = rE at CS CI hre
  generalize fwL N es ls vs = rL at CS CI hrl
  generalize withB N es ls vs = rb at CS CI
  have HSR := Lib.hid hrl
  have CER := Lib.hid (fun W lo l h (Af1 : Option Addr) (cf1 : Nat) (Bf1 : Option Addr) (df1 : Nat) lo' l' h' (Af2 : Option Addr) (cf2 : Nat) (Bf2 : Option Addr) (df2 : Nat) (h1 : FOwn W lo l h Af1 rE.length cf1 Bf1 rL.length df1 rE rL) (h2 : FOwn W lo' l' h' Af2 rE.length cf2 Bf2 rL.length df2 rE rL) => eqFarm_any rN Af1 rE.length cf1 Bf1 rL.length df1 Af2 cf2 Bf2 df2 rE rL W h1.rd h2.rd (by omega) HSR.out)
  have CMR := Lib.hid (fun W lo l h (Af1 : Option Addr) (cf1 : Nat) (Bf1 : Option Addr) (df1 : Nat) (h1 : FOwn W lo l h Af1 rE.length cf1 Bf1 rL.length df1 rE rL) => markFarm_any rN Af1 rE.length cf1 Bf1 rL.length df1 lo l h 1 rE rL W h1 (by omega) HSR.out (by omega))
  unfold MarkedF at CMR
  have HKK : Hid (rE.length ≤ 1048576) := Lib.hid (by omega)
  have hkr0 : endFm 1 rE rL ≤ 16777216 := by have := HSR.out; unfold endFm; omega
  obtain ⟨kr, hkr⟩ : ∃ kr, kr = endFm 1 rE rL := ⟨_, rfl⟩
  rw [← hkr] at CMR hkr0
  clear hkr
  have CHR := Lib.hid (fun W (Af1 : Option Addr) (cf1 : Nat) (Bf1 : Option Addr) (df1 : Nat) (h1 : FMk W 1 Af1 rE.length Bf1 rL.length kr) => heldFarm_any rN Af1 rE.length cf1 Bf1 rL.length df1 1 kr W h1 (by omega) (by have := HSR.out; omega) (by omega) hkr0)
  have hkk : (0 : Int) ≤ (kr : Int) := by omega
  have hrb : (rb == rb) = true := by simp
  have hrb2 : (rb != rb) = false := by simp
  have hka1 : (0 : Int) ≤ ((((endFm 1 es ls) + vs.length) : Nat) : Int) := by omega
  have hka0 : (0 : Int) ≤ (((endFm 1 es ls) : Nat) : Int) := by omega
  generalize (endFm 1 es ls) + vs.length = ka1 at CMIntS hka1
  generalize endFm 1 es ls = ka0 at CMFarm CMIntS hka0
  clear hf hv hb0 hq0 hsz hsm hlens hbl
  have H_1 := Lib.hid (B0H.out)
  have Bfarm_2 := Lib.hid (B00.out)
  clear B0H B00
  have sz_3 : Hid (w.heap.size + 1 ≤ (w.alloc (.cells #[.int .i64 N, .slice AE es.length cE, .slice AS bs.length cS] 46)).heap.size) := Lib.hid (by simp)
  go_enter Try.func8, Try.ntmps8
  have x_4 := Bfarm_2.out.cell (i := 0) rfl
  have x_5 := Bfarm_2.out.cell (i := 1) rfl
  have x_6 := Bfarm_2.out.cell (i := 2) rfl
  have lt_7 := Bfarm_2.out.lt
  go_wp2_with fail
  refine (CZ0.out _ H_1.out).mono ?_
  rintro e w1 ⟨rfl, hb⟩
  clear x_4 x_5 x_6 lt_7
  have H_8 := Lib.hid (g_chain H_1.out hb)
  clear H_1
  have Bfarm_9 := Lib.hid (Bfarm_2.out.below hb)
  clear Bfarm_2
  have sz_10 := Lib.hid (Below.size hb)
  clear hb
  have x_11 := Bfarm_9.out.cell (i := 0) rfl
  have x_12 := Bfarm_9.out.cell (i := 1) rfl
  have x_13 := Bfarm_9.out.cell (i := 2) rfl
  have lt_14 := Bfarm_9.out.lt
  go_wp2_with fail
  refine (CTF.out _ H_8.out).mono ?_
  rintro e w2 ⟨Afp, cfp, Bfp, dfp, rfl, ho, hb⟩
  clear x_11 x_12 x_13 lt_14
  have H_15 := Lib.hid (g_chain H_8.out hb)
  clear H_8
  have Bfarm_16 := Lib.hid (Bfarm_9.out.below hb)
  clear Bfarm_9
  have sz_17 := Lib.hid (Below.size hb)
  have farmp_18 := Lib.hid (ho)
  clear hb
  clear ho
  go_wp2_with fail
  refine (CTI.out _ H_15.out).mono ?_
  rintro e w3 ⟨Aip, cip, rfl, ho, hb⟩
  have H_19 := Lib.hid (g_chain H_15.out hb)
  clear H_15
  have Bfarm_20 := Lib.hid (Bfarm_16.out.below hb)
  clear Bfarm_16
  have farmp_21 := Lib.hid (farmp_18.out.below hb)
  clear farmp_18
  have sz_22 := Lib.hid (Below.size hb)
  have intsp_23 := Lib.hid (NOwn.of ho)
  clear hb
  clear ho
  go_wp2_with fail
  refine (CS.out _ _ _ _ _ _ _ _ farmp_21.out _ _ _ _ _ intsp_23.out).mono ?_
  rintro e w4 ⟨Afw, cfw, Bfw, dfw, rfl, ho, hb⟩
  have H_24 := Lib.hid (g_chain H_19.out hb)
  clear H_19
  have Bfarm_25 := Lib.hid (Bfarm_20.out.below hb)
  clear Bfarm_20
  have farmp_26 := Lib.hid (farmp_21.out.below hb)
  clear farmp_21
  have intsp_27 := Lib.hid (intsp_23.out.below hb)
  clear intsp_23
  have sz_28 := Lib.hid (Below.size hb)
  have Rw_29 := Lib.hid (ho)
  clear hb
  clear ho
  have hb := below_a1 w4 (.cells #[.int .i64 rN, .slice Afw rE.length cfw, .slice Bfw rL.length dfw] 26)
  have sz_30 := Lib.hid (Blk.lt Bfarm_25.out)
  have H_31 := Lib.hid (g_chain H_24.out hb)
  clear H_24
  have Bfarm_32 := Lib.hid (Bfarm_25.out.below hb)
  clear Bfarm_25
  have farmp_33 := Lib.hid (farmp_26.out.below hb)
  clear farmp_26
  have intsp_34 := Lib.hid (intsp_27.out.below hb)
  clear intsp_27
  have Rw_35 := Lib.hid (Rw_29.out.below hb)
  clear Rw_29
  have sz_36 := Lib.hid (Below.size hb)
  clear hb
  have Bw_37 := Lib.hid (Blk.new w4 #[.int .i64 rN, .slice Afw rE.length cfw, .slice Bfw rL.length dfw] 26)
  have sz_38 : Hid (w4.heap.size + 1 ≤ (w4.alloc (.cells #[.int .i64 rN, .slice Afw rE.length cfw, .slice Bfw rL.length dfw] 26)).heap.size) := Lib.hid (by simp)
  clear farmp_33
  clear intsp_34
  have x_39 := Bfarm_32.out.cell (i := 0) rfl
  have x_40 := Bfarm_32.out.cell (i := 1) rfl
  have x_41 := Bfarm_32.out.cell (i := 2) rfl
  have lt_42 := Bfarm_32.out.lt
  go_wp2_with fail
  refine (CTF.out _ H_31.out).mono ?_
  rintro e w5 ⟨Afx, cfx, Bfx, dfx, rfl, ho, hb⟩
  clear x_39 x_40 x_41 lt_42
  have H_43 := Lib.hid (g_chain H_31.out hb)
  clear H_31
  have Bfarm_44 := Lib.hid (Bfarm_32.out.below hb)
  clear Bfarm_32
  have Rw_45 := Lib.hid (Rw_35.out.below hb)
  clear Rw_35
  have Bw_46 := Lib.hid (Bw_37.out.below hb)
  clear Bw_37
  have sz_47 := Lib.hid (Below.size hb)
  have farmx_48 := Lib.hid (ho)
  clear hb
  clear ho
  have hb := below_a1 w5 (.cells #[.int .i64 N, .slice Afx es.length cfx, .slice Bfx ls.length dfx] 26)
  have sz_49 := Lib.hid (Blk.lt Bfarm_44.out)
  have sz_50 := Lib.hid (Blk.lt Bw_46.out)
  have H_51 := Lib.hid (g_chain H_43.out hb)
  clear H_43
  have Bfarm_52 := Lib.hid (Bfarm_44.out.below hb)
  clear Bfarm_44
  have Rw_53 := Lib.hid (Rw_45.out.below hb)
  clear Rw_45
  have Bw_54 := Lib.hid (Bw_46.out.below hb)
  clear Bw_46
  have farmx_55 := Lib.hid (farmx_48.out.below hb)
  clear farmx_48
  have sz_56 := Lib.hid (Below.size hb)
  clear hb
  have Xfarm_57 := Lib.hid (Blk.new w5 #[.int .i64 N, .slice Afx es.length cfx, .slice Bfx ls.length dfx] 26)
  have sz_58 : Hid (w5.heap.size + 1 ≤ (w5.alloc (.cells #[.int .i64 N, .slice Afx es.length cfx, .slice Bfx ls.length dfx] 26)).heap.size) := Lib.hid (by simp)
  go_wp2_with fail
  refine (CTI.out _ H_51.out).mono ?_
  rintro e w6 ⟨Aix, cix, rfl, ho, hb⟩
  have H_59 := Lib.hid (g_chain H_51.out hb)
  clear H_51
  have Bfarm_60 := Lib.hid (Bfarm_52.out.below hb)
  clear Bfarm_52
  have Rw_61 := Lib.hid (Rw_53.out.below hb)
  clear Rw_53
  have Bw_62 := Lib.hid (Bw_54.out.below hb)
  clear Bw_54
  have farmx_63 := Lib.hid (farmx_55.out.below hb)
  clear farmx_55
  have Xfarm_64 := Lib.hid (Xfarm_57.out.below hb)
  clear Xfarm_57
  have sz_65 := Lib.hid (Below.size hb)
  have intsx_66 := Lib.hid (NOwn.of ho)
  clear hb
  clear ho
  have x_67 := Xfarm_64.out.cell (i := 0) rfl
  have x_68 := Xfarm_64.out.cell (i := 1) rfl
  have x_69 := Xfarm_64.out.cell (i := 2) rfl
  have lt_70 := Xfarm_64.out.lt
  go_wp2_with fail
  refine (CI.out _ _ _ _ _ _ _ _ farmx_63.out _ _ _ _ _ intsx_66.out).mono ?_
  rintro e w7 ⟨Afg, cfg, Bfg, dfg, rfl, ho, hb⟩
  clear x_67 x_68 x_69 lt_70
  have H_71 := Lib.hid (g_chain H_59.out hb)
  clear H_59
  have Bfarm_72 := Lib.hid (Bfarm_60.out.below hb)
  clear Bfarm_60
  have Rw_73 := Lib.hid (Rw_61.out.below hb)
  clear Rw_61
  have Bw_74 := Lib.hid (Bw_62.out.below hb)
  clear Bw_62
  have farmx_75 := Lib.hid (farmx_63.out.below hb)
  clear farmx_63
  have Xfarm_76 := Lib.hid (Xfarm_64.out.below hb)
  clear Xfarm_64
  have intsx_77 := Lib.hid (intsx_66.out.below hb)
  clear intsx_66
  have sz_78 := Lib.hid (Below.size hb)
  have Rg_79 := Lib.hid (ho)
  clear hb
  clear ho
  have hb := below_a1 w7 (.cells #[.int .i64 rN, .slice Afg rE.length cfg, .slice Bfg rL.length dfg] 26)
  have sz_80 := Lib.hid (Blk.lt Bfarm_72.out)
  have sz_81 := Lib.hid (Blk.lt Bw_74.out)
  have sz_82 := Lib.hid (Blk.lt Xfarm_76.out)
  have H_83 := Lib.hid (g_chain H_71.out hb)
  clear H_71
  have Bfarm_84 := Lib.hid (Bfarm_72.out.below hb)
  clear Bfarm_72
  have Rw_85 := Lib.hid (Rw_73.out.below hb)
  clear Rw_73
  have Bw_86 := Lib.hid (Bw_74.out.below hb)
  clear Bw_74
  have farmx_87 := Lib.hid (farmx_75.out.below hb)
  clear farmx_75
  have Xfarm_88 := Lib.hid (Xfarm_76.out.below hb)
  clear Xfarm_76
  have intsx_89 := Lib.hid (intsx_77.out.below hb)
  clear intsx_77
  have Rg_90 := Lib.hid (Rg_79.out.below hb)
  clear Rg_79
  have sz_91 := Lib.hid (Below.size hb)
  clear hb
  have Bg_92 := Lib.hid (Blk.new w7 #[.int .i64 rN, .slice Afg rE.length cfg, .slice Bfg rL.length dfg] 26)
  have sz_93 : Hid (w7.heap.size + 1 ≤ (w7.alloc (.cells #[.int .i64 rN, .slice Afg rE.length cfg, .slice Bfg rL.length dfg] 26)).heap.size) := Lib.hid (by simp)
  have x_94 := Bg_92.out.cell (i := 0) rfl
  have x_95 := Bg_92.out.cell (i := 1) rfl
  have x_96 := Bg_92.out.cell (i := 2) rfl
  have lt_97 := Bg_92.out.lt
  have x_98 := Bw_86.out.cell (i := 0) rfl
  have x_99 := Bw_86.out.cell (i := 1) rfl
  have x_100 := Bw_86.out.cell (i := 2) rfl
  have lt_101 := Bw_86.out.lt
  go_wp2_with fail
  refine (CER.out _ _ _ _ _ _ _ _ _ _ _ _ _ _ _ Rg_90.out Rw_85.out).mono ?_
  rintro e w8 ⟨rfl, hb⟩
  clear x_94 x_95 x_96 lt_97 x_98 x_99 x_100 lt_101
  have H_102 := Lib.hid (g_chain H_83.out hb)
  clear H_83
  have Bfarm_103 := Lib.hid (Bfarm_84.out.below hb)
  clear Bfarm_84
  have Rw_104 := Lib.hid (Rw_85.out.below hb)
  clear Rw_85
  have Bw_105 := Lib.hid (Bw_86.out.below hb)
  clear Bw_86
  have farmx_106 := Lib.hid (farmx_87.out.below hb)
  clear farmx_87
  have Xfarm_107 := Lib.hid (Xfarm_88.out.below hb)
  clear Xfarm_88
  have intsx_108 := Lib.hid (intsx_89.out.below hb)
  clear intsx_89
  have Rg_109 := Lib.hid (Rg_90.out.below hb)
  clear Rg_90
  have Bg_110 := Lib.hid (Bg_92.out.below hb)
  clear Bg_92
  have sz_111 := Lib.hid (Below.size hb)
  clear hb
  go_upto_region 13 with fail
  refine wp_region_any (by kernel_rfl) ?_
  change wpAny _ _ _ _ _ _ _ (World.drew _)
  have hb : Below w8.heap.size w8 (World.drew w8) := (Below.refl _ _).drew
  have H_112 := Lib.hid (g_chain H_102.out hb)
  clear H_102
  have Bfarm_113 := Lib.hid (Bfarm_103.out.below hb)
  clear Bfarm_103
  have Rw_114 := Lib.hid (Rw_104.out.below hb)
  clear Rw_104
  have Bw_115 := Lib.hid (Bw_105.out.below hb)
  clear Bw_105
  have farmx_116 := Lib.hid (farmx_106.out.below hb)
  clear farmx_106
  have Xfarm_117 := Lib.hid (Xfarm_107.out.below hb)
  clear Xfarm_107
  have intsx_118 := Lib.hid (intsx_108.out.below hb)
  clear intsx_108
  have Rg_119 := Lib.hid (Rg_109.out.below hb)
  clear Rg_109
  have Bg_120 := Lib.hid (Bg_110.out.below hb)
  clear Bg_110
  have sz_121 := Lib.hid (Below.size hb)
  clear hb
  generalize hDD : World.drew w8 = w9 at H_112 Bfarm_113 Rw_114 Bw_115 farmx_116 Xfarm_117 intsx_118 Rg_119 Bg_120 sz_121 ⊢
  clear hDD
  refine wpAny_of_held (S := fun W => W.cell? ⟨w.heap.size, 0, none⟩ = some (.int .i64 N) ∧ W.cell? ⟨w.heap.size, 1, none⟩ = some (.slice AE es.length cE) ∧ W.cell? ⟨w.heap.size, 2, none⟩ = some (.slice AS bs.length cS) ∧ W.cell? ⟨w5.heap.size, 0, none⟩ = some (.int .i64 N) ∧ W.cell? ⟨w5.heap.size, 1, none⟩ = some (.slice Afx es.length cfx) ∧ W.cell? ⟨w5.heap.size, 2, none⟩ = some (.slice Bfx ls.length dfx)) _ _ _ _ ?_
  refine held_nameK ⟨Bfarm_113.out.cell (i := 0) rfl, Bfarm_113.out.cell (i := 1) rfl, Bfarm_113.out.cell (i := 2) rfl, Xfarm_117.out.cell (i := 0) rfl, Xfarm_117.out.cell (i := 1) rfl, Xfarm_117.out.cell (i := 2) rfl⟩ (fun hS => ?_)
  refine wpAnyH_take (i := 0) (oi := ⟨_, _, _, _, _, _⟩) (v := .agg #[.int .i64 N, .slice Afx es.length cfx, .slice Bfx ls.length dfx]) rfl (by kernel_rfl) (by kernel_rfl) (by kernel_rfl) (fun _ _ _ h => h) (Or.inl ⟨by kernel_rfl, fun W hS => by (obtain ⟨s0, s1, s2, s3, s4, s5⟩ := hS); go_simp⟩) hS ?_
  (try simp only [Act.put, List.setIfInBounds_toArray, List.set_cons_zero, List.set_cons_succ])
  refine wpAnyH_take (i := 1) (oi := ⟨_, _, _, _, _, _⟩) (v := .agg #[.int .i64 N, .slice AE es.length cE, .slice AS bs.length cS]) rfl (by kernel_rfl) (by kernel_rfl) (by kernel_rfl) (fun _ _ _ h => h) (Or.inl ⟨by kernel_rfl, fun W hS => by (obtain ⟨s0, s1, s2, s3, s4, s5⟩ := hS); go_simp⟩) hS ?_
  (try simp only [Act.put, List.setIfInBounds_toArray, List.set_cons_zero, List.set_cons_succ])
  refine wpAnyH_ready (rs := [2]) (by kernel_rfl) (by simp) (AllReadyH.cons rfl (fun K hK => ?_) AllReadyH.nil)
  go_simp
  go_at_call 24
  refine (CTF.out _ H_112.out).mono ?_
  rintro e w10 ⟨Afq, cfq, Bfq, dfq, rfl, ho, hb⟩
  have H_122 := Lib.hid (g_chain H_112.out hb)
  clear H_112
  have Bfarm_123 := Lib.hid (Bfarm_113.out.below hb)
  clear Bfarm_113
  have Rw_124 := Lib.hid (Rw_114.out.below hb)
  clear Rw_114
  have Bw_125 := Lib.hid (Bw_115.out.below hb)
  clear Bw_115
  have farmx_126 := Lib.hid (farmx_116.out.below hb)
  clear farmx_116
  have Xfarm_127 := Lib.hid (Xfarm_117.out.below hb)
  clear Xfarm_117
  have intsx_128 := Lib.hid (intsx_118.out.below hb)
  clear intsx_118
  have Rg_129 := Lib.hid (Rg_119.out.below hb)
  clear Rg_119
  have Bg_130 := Lib.hid (Bg_120.out.below hb)
  clear Bg_120
  have sz_131 := Lib.hid (Below.size hb)
  have farmq_132 := Lib.hid (ho)
  clear ho hb
  dsimp only
  refine hK.out _ _ ⟨Bfarm_123.out.cell (i := 0) rfl, Bfarm_123.out.cell (i := 1) rfl, Bfarm_123.out.cell (i := 2) rfl, Xfarm_127.out.cell (i := 0) rfl, Xfarm_127.out.cell (i := 1) rfl, Xfarm_127.out.cell (i := 2) rfl⟩ (fun hS => ?_)
  clear hK K
  (try simp only [Act.put, List.setIfInBounds_toArray, List.set_cons_zero, List.set_cons_succ])
  refine wpAnyH_ready (rs := [3]) (by kernel_rfl) (by simp) (AllReadyH.cons rfl (fun K hK => ?_) AllReadyH.nil)
  go_simp
  go_at_call 25
  refine (CEFarm.out _ _ _ _ _ _ _ _ _ _ _ _ _ _ _ farmx_126.out farmq_132.out).mono ?_
  rintro e w11 ⟨rfl, hb⟩
  have H_133 := Lib.hid (g_chain H_122.out hb)
  clear H_122
  have Bfarm_134 := Lib.hid (Bfarm_123.out.below hb)
  clear Bfarm_123
  have Rw_135 := Lib.hid (Rw_124.out.below hb)
  clear Rw_124
  have Bw_136 := Lib.hid (Bw_125.out.below hb)
  clear Bw_125
  have farmx_137 := Lib.hid (farmx_126.out.below hb)
  clear farmx_126
  have Xfarm_138 := Lib.hid (Xfarm_127.out.below hb)
  clear Xfarm_127
  have intsx_139 := Lib.hid (intsx_128.out.below hb)
  clear intsx_128
  have Rg_140 := Lib.hid (Rg_129.out.below hb)
  clear Rg_129
  have Bg_141 := Lib.hid (Bg_130.out.below hb)
  clear Bg_130
  have farmq_142 := Lib.hid (farmq_132.out.below hb)
  clear farmq_132
  have sz_143 := Lib.hid (Below.size hb)
  clear hb
  dsimp only
  refine hK.out _ _ ⟨Bfarm_134.out.cell (i := 0) rfl, Bfarm_134.out.cell (i := 1) rfl, Bfarm_134.out.cell (i := 2) rfl, Xfarm_138.out.cell (i := 0) rfl, Xfarm_138.out.cell (i := 1) rfl, Xfarm_138.out.cell (i := 2) rfl⟩ (fun hS => ?_)
  clear hK K
  (try simp only [Act.put, List.setIfInBounds_toArray, List.set_cons_zero, List.set_cons_succ])
  refine wpAnyH_take (i := 4) (oi := ⟨_, _, _, _, _, _⟩) (v := .bool false) rfl (by kernel_rfl) (by kernel_rfl) (by kernel_rfl) (fun _ _ _ h => h) (Or.inl ⟨by kernel_rfl, fun W hS => by (obtain ⟨s0, s1, s2, s3, s4, s5⟩ := hS); go_simp⟩) hS ?_
  (try simp only [Act.put, List.setIfInBounds_toArray, List.set_cons_zero, List.set_cons_succ])
  refine wpAnyH_done (by kernel_rfl) ?_ _
  clear farmq_142
  go_wp2_with fail
  refine (CTI.out _ H_133.out).mono ?_
  rintro e w12 ⟨Aiq, ciq, rfl, ho, hb⟩
  have H_144 := Lib.hid (g_chain H_133.out hb)
  clear H_133
  have Bfarm_145 := Lib.hid (Bfarm_134.out.below hb)
  clear Bfarm_134
  have Rw_146 := Lib.hid (Rw_135.out.below hb)
  clear Rw_135
  have Bw_147 := Lib.hid (Bw_136.out.below hb)
  clear Bw_136
  have farmx_148 := Lib.hid (farmx_137.out.below hb)
  clear farmx_137
  have Xfarm_149 := Lib.hid (Xfarm_138.out.below hb)
  clear Xfarm_138
  have intsx_150 := Lib.hid (intsx_139.out.below hb)
  clear intsx_139
  have Rg_151 := Lib.hid (Rg_140.out.below hb)
  clear Rg_140
  have Bg_152 := Lib.hid (Bg_141.out.below hb)
  clear Bg_141
  have sz_153 := Lib.hid (Below.size hb)
  have intsq_154 := Lib.hid (NOwn.of ho)
  clear hb
  clear ho
  go_wp2_with fail
  refine (CEIntS.out _ _ _ _ _ _ _ _ _ _ _ intsx_150.out intsq_154.out).mono ?_
  rintro e w13 ⟨rfl, hb⟩
  have H_155 := Lib.hid (g_chain H_144.out hb)
  clear H_144
  have Bfarm_156 := Lib.hid (Bfarm_145.out.below hb)
  clear Bfarm_145
  have Rw_157 := Lib.hid (Rw_146.out.below hb)
  clear Rw_146
  have Bw_158 := Lib.hid (Bw_147.out.below hb)
  clear Bw_147
  have farmx_159 := Lib.hid (farmx_148.out.below hb)
  clear farmx_148
  have Xfarm_160 := Lib.hid (Xfarm_149.out.below hb)
  clear Xfarm_149
  have intsx_161 := Lib.hid (intsx_150.out.below hb)
  clear intsx_150
  have Rg_162 := Lib.hid (Rg_151.out.below hb)
  clear Rg_151
  have Bg_163 := Lib.hid (Bg_152.out.below hb)
  clear Bg_152
  have intsq_164 := Lib.hid (intsq_154.out.below hb)
  clear intsq_154
  have sz_165 := Lib.hid (Below.size hb)
  clear hb
  clear intsq_164
  have x_166 := Xfarm_160.out.cell (i := 0) rfl
  have x_167 := Xfarm_160.out.cell (i := 1) rfl
  have x_168 := Xfarm_160.out.cell (i := 2) rfl
  have lt_169 := Xfarm_160.out.lt
  go_wp2_with fail
  refine (CMFarm.out _ _ _ _ _ _ _ _ farmx_159.out).mono ?_
  rintro e w14 ⟨rfl, hm, hwr⟩
  clear x_166 x_167 x_168 lt_169
  have zz0 := sz_3.out
  have zz1 := sz_10.out
  have zz2 := sz_17.out
  have zz3 := sz_22.out
  have zz4 := sz_28.out
  have zz5 := sz_30.out
  have zz6 := sz_36.out
  have zz7 := sz_38.out
  have zz8 := sz_47.out
  have zz9 := sz_49.out
  have zz10 := sz_50.out
  have zz11 := sz_56.out
  have zz12 := sz_58.out
  have zz13 := sz_65.out
  have zz14 := sz_78.out
  have zz15 := sz_80.out
  have zz16 := sz_81.out
  have zz17 := sz_82.out
  have zz18 := sz_91.out
  have zz19 := sz_93.out
  have zz20 := sz_111.out
  have zz21 := sz_121.out
  have zz22 := sz_131.out
  have zz23 := sz_143.out
  have zz24 := sz_153.out
  have zz25 := sz_165.out
  have H_170 := Lib.hid (Wr.orig hwr H_155.out (by omega) (by omega))
  clear H_155
  have Bfarm_171 := Lib.hid (Wr.blk hwr Bfarm_156.out (by omega))
  clear Bfarm_156
  have Rw_172 := Lib.hid (FOwn.wr hwr Rw_157.out (by omega))
  clear Rw_157
  have Bw_173 := Lib.hid (Wr.blk hwr Bw_158.out (by omega))
  clear Bw_158
  have Xfarm_174 := Lib.hid (Wr.blk hwr Xfarm_160.out (by omega))
  clear Xfarm_160
  have intsx_175 := Lib.hid (NOwn.wr hwr intsx_161.out (by omega))
  clear intsx_161
  have Rg_176 := Lib.hid (FOwn.wr hwr Rg_162.out (by omega))
  clear Rg_162
  have Bg_177 := Lib.hid (Wr.blk hwr Bg_163.out (by omega))
  clear Bg_163
  clear zz0 zz1 zz2 zz3 zz4 zz5 zz6 zz7 zz8 zz9 zz10 zz11 zz12 zz13 zz14 zz15 zz16 zz17 zz18 zz19 zz20 zz21 zz22 zz23 zz24 zz25
  have sz_178 := Lib.hid (Wr.size hwr)
  clear hwr
  clear hm
  clear Xfarm_174
  go_wp2_with fail
  refine (CMIntS.out _ _ _ _ _ _ intsx_175.out).mono ?_
  rintro e w15 ⟨rfl, hm, hwr⟩
  skip
  have zz0 := sz_3.out
  have zz1 := sz_10.out
  have zz2 := sz_17.out
  have zz3 := sz_22.out
  have zz4 := sz_28.out
  have zz5 := sz_30.out
  have zz6 := sz_36.out
  have zz7 := sz_38.out
  have zz8 := sz_47.out
  have zz9 := sz_49.out
  have zz10 := sz_50.out
  have zz11 := sz_56.out
  have zz12 := sz_58.out
  have zz13 := sz_65.out
  have zz14 := sz_78.out
  have zz15 := sz_80.out
  have zz16 := sz_81.out
  have zz17 := sz_82.out
  have zz18 := sz_91.out
  have zz19 := sz_93.out
  have zz20 := sz_111.out
  have zz21 := sz_121.out
  have zz22 := sz_131.out
  have zz23 := sz_143.out
  have zz24 := sz_153.out
  have zz25 := sz_165.out
  have zz26 := sz_178.out
  have H_179 := Lib.hid (Wr.orig hwr H_170.out (by omega) (by omega))
  clear H_170
  have Bfarm_180 := Lib.hid (Wr.blk hwr Bfarm_171.out (by omega))
  clear Bfarm_171
  have Rw_181 := Lib.hid (FOwn.wr hwr Rw_172.out (by omega))
  clear Rw_172
  have Bw_182 := Lib.hid (Wr.blk hwr Bw_173.out (by omega))
  clear Bw_173
  have Rg_183 := Lib.hid (FOwn.wr hwr Rg_176.out (by omega))
  clear Rg_176
  have Bg_184 := Lib.hid (Wr.blk hwr Bg_177.out (by omega))
  clear Bg_177
  clear zz0 zz1 zz2 zz3 zz4 zz5 zz6 zz7 zz8 zz9 zz10 zz11 zz12 zz13 zz14 zz15 zz16 zz17 zz18 zz19 zz20 zz21 zz22 zz23 zz24 zz25 zz26
  have sz_185 := Lib.hid (Wr.size hwr)
  clear hwr
  clear hm
  have x_186 := Bg_184.out.cell (i := 0) rfl
  have x_187 := Bg_184.out.cell (i := 1) rfl
  have x_188 := Bg_184.out.cell (i := 2) rfl
  have lt_189 := Bg_184.out.lt
  have x_190 := Bw_182.out.cell (i := 0) rfl
  have x_191 := Bw_182.out.cell (i := 1) rfl
  have x_192 := Bw_182.out.cell (i := 2) rfl
  have lt_193 := Bw_182.out.lt
  go_wp2_with fail
  refine (CER.out _ _ _ _ _ _ _ _ _ _ _ _ _ _ _ Rg_183.out Rw_181.out).mono ?_
  rintro e w16 ⟨rfl, hb⟩
  clear x_186 x_187 x_188 lt_189 x_190 x_191 x_192 lt_193
  have H_194 := Lib.hid (g_chain H_179.out hb)
  clear H_179
  have Bfarm_195 := Lib.hid (Bfarm_180.out.below hb)
  clear Bfarm_180
  have Rw_196 := Lib.hid (Rw_181.out.below hb)
  clear Rw_181
  have Bw_197 := Lib.hid (Bw_182.out.below hb)
  clear Bw_182
  have Rg_198 := Lib.hid (Rg_183.out.below hb)
  clear Rg_183
  have Bg_199 := Lib.hid (Bg_184.out.below hb)
  clear Bg_184
  have sz_200 := Lib.hid (Below.size hb)
  clear hb
  have x_201 := Bg_199.out.cell (i := 0) rfl
  have x_202 := Bg_199.out.cell (i := 1) rfl
  have x_203 := Bg_199.out.cell (i := 2) rfl
  have lt_204 := Bg_199.out.lt
  go_wp2_with fail
  refine (CMR.out _ _ _ _ _ _ _ _ Rg_198.out).mono ?_
  rintro e w17 ⟨rfl, hm, hwr⟩
  clear x_201 x_202 x_203 lt_204
  have zz0 := sz_3.out
  have zz1 := sz_10.out
  have zz2 := sz_17.out
  have zz3 := sz_22.out
  have zz4 := sz_28.out
  have zz5 := sz_30.out
  have zz6 := sz_36.out
  have zz7 := sz_38.out
  have zz8 := sz_47.out
  have zz9 := sz_49.out
  have zz10 := sz_50.out
  have zz11 := sz_56.out
  have zz12 := sz_58.out
  have zz13 := sz_65.out
  have zz14 := sz_78.out
  have zz15 := sz_80.out
  have zz16 := sz_81.out
  have zz17 := sz_82.out
  have zz18 := sz_91.out
  have zz19 := sz_93.out
  have zz20 := sz_111.out
  have zz21 := sz_121.out
  have zz22 := sz_131.out
  have zz23 := sz_143.out
  have zz24 := sz_153.out
  have zz25 := sz_165.out
  have zz26 := sz_178.out
  have zz27 := sz_185.out
  have zz28 := sz_200.out
  have H_205 := Lib.hid (Wr.orig hwr H_194.out (by omega) (by omega))
  clear H_194
  have Bfarm_206 := Lib.hid (Wr.blk hwr Bfarm_195.out (by omega))
  clear Bfarm_195
  have Rw_207 := Lib.hid (FOwn.wr hwr Rw_196.out (by omega))
  clear Rw_196
  have Bw_208 := Lib.hid (Wr.blk hwr Bw_197.out (by omega))
  clear Bw_197
  have Bg_209 := Lib.hid (Wr.blk hwr Bg_199.out (by omega))
  clear Bg_199
  clear zz0 zz1 zz2 zz3 zz4 zz5 zz6 zz7 zz8 zz9 zz10 zz11 zz12 zz13 zz14 zz15 zz16 zz17 zz18 zz19 zz20 zz21 zz22 zz23 zz24 zz25 zz26 zz27 zz28
  have sz_210 := Lib.hid (Wr.size hwr)
  clear hwr
  have M_211 := Lib.hid (hm)
  clear hm
  have x_212 := Bg_209.out.cell (i := 0) rfl
  have x_213 := Bg_209.out.cell (i := 1) rfl
  have x_214 := Bg_209.out.cell (i := 2) rfl
  have lt_215 := Bg_209.out.lt
  go_wp2_with fail
  refine (CHR.out _ _ _ _ _ M_211.out).mono ?_
  rintro e w18 ⟨rfl, hb⟩
  clear x_212 x_213 x_214 lt_215
  have H_216 := Lib.hid (g_chain H_205.out hb)
  clear H_205
  have Bfarm_217 := Lib.hid (Bfarm_206.out.below hb)
  clear Bfarm_206
  have Rw_218 := Lib.hid (Rw_207.out.below hb)
  clear Rw_207
  have Bw_219 := Lib.hid (Bw_208.out.below hb)
  clear Bw_208
  have Bg_220 := Lib.hid (Bg_209.out.below hb)
  clear Bg_209
  have M_221 := Lib.hid (M_211.out.below hb)
  clear M_211
  have sz_222 := Lib.hid (Below.size hb)
  clear hb
  have x_223 := Bfarm_217.out.cell (i := 0) rfl
  have x_224 := Bfarm_217.out.cell (i := 1) rfl
  have x_225 := Bfarm_217.out.cell (i := 2) rfl
  have lt_226 := Bfarm_217.out.lt
  go_wp2_with fail
  refine (CTF.out _ H_216.out).mono ?_
  rintro e w19 ⟨Afy, cfy, Bfy, dfy, rfl, ho, hb⟩
  clear x_223 x_224 x_225 lt_226
  have H_227 := Lib.hid (g_chain H_216.out hb)
  clear H_216
  have Bfarm_228 := Lib.hid (Bfarm_217.out.below hb)
  clear Bfarm_217
  have Rw_229 := Lib.hid (Rw_218.out.below hb)
  clear Rw_218
  have Bw_230 := Lib.hid (Bw_219.out.below hb)
  clear Bw_219
  have Bg_231 := Lib.hid (Bg_220.out.below hb)
  clear Bg_220
  have M_232 := Lib.hid (M_221.out.below hb)
  clear M_221
  have sz_233 := Lib.hid (Below.size hb)
  have farmy_234 := Lib.hid (ho)
  clear hb
  clear ho
  go_wp2_with fail
  refine (CTI.out _ H_227.out).mono ?_
  rintro e w20 ⟨Aiy, ciy, rfl, ho, hb⟩
  have H_235 := Lib.hid (g_chain H_227.out hb)
  clear H_227
  have Bfarm_236 := Lib.hid (Bfarm_228.out.below hb)
  clear Bfarm_228
  have Rw_237 := Lib.hid (Rw_229.out.below hb)
  clear Rw_229
  have Bw_238 := Lib.hid (Bw_230.out.below hb)
  clear Bw_230
  have Bg_239 := Lib.hid (Bg_231.out.below hb)
  clear Bg_231
  have M_240 := Lib.hid (M_232.out.below hb)
  clear M_232
  have farmy_241 := Lib.hid (farmy_234.out.below hb)
  clear farmy_234
  have sz_242 := Lib.hid (Below.size hb)
  have intsy_243 := Lib.hid (NOwn.of ho)
  clear hb
  clear ho
  go_wp2_with fail
  refine (CI.out _ _ _ _ _ _ _ _ farmy_241.out _ _ _ _ _ intsy_243.out).mono ?_
  rintro e w21 ⟨Afh, cfh, Bfh, dfh, rfl, ho, hb⟩
  have H_244 := Lib.hid (g_chain H_235.out hb)
  clear H_235
  have Bfarm_245 := Lib.hid (Bfarm_236.out.below hb)
  clear Bfarm_236
  have Rw_246 := Lib.hid (Rw_237.out.below hb)
  clear Rw_237
  have Bw_247 := Lib.hid (Bw_238.out.below hb)
  clear Bw_238
  have Bg_248 := Lib.hid (Bg_239.out.below hb)
  clear Bg_239
  have M_249 := Lib.hid (M_240.out.below hb)
  clear M_240
  have farmy_250 := Lib.hid (farmy_241.out.below hb)
  clear farmy_241
  have intsy_251 := Lib.hid (intsy_243.out.below hb)
  clear intsy_243
  have sz_252 := Lib.hid (Below.size hb)
  have Rh_253 := Lib.hid (ho)
  clear hb
  clear ho
  have hb := below_a1 w21 (.cells #[.int .i64 rN, .slice Afh rE.length cfh, .slice Bfh rL.length dfh] 26)
  have sz_254 := Lib.hid (Blk.lt Bfarm_245.out)
  have sz_255 := Lib.hid (Blk.lt Bw_247.out)
  have sz_256 := Lib.hid (Blk.lt Bg_248.out)
  have H_257 := Lib.hid (g_chain H_244.out hb)
  clear H_244
  have Bfarm_258 := Lib.hid (Bfarm_245.out.below hb)
  clear Bfarm_245
  have Rw_259 := Lib.hid (Rw_246.out.below hb)
  clear Rw_246
  have Bw_260 := Lib.hid (Bw_247.out.below hb)
  clear Bw_247
  have Bg_261 := Lib.hid (Bg_248.out.below hb)
  clear Bg_248
  have M_262 := Lib.hid (M_249.out.below hb)
  clear M_249
  have farmy_263 := Lib.hid (farmy_250.out.below hb)
  clear farmy_250
  have intsy_264 := Lib.hid (intsy_251.out.below hb)
  clear intsy_251
  have Rh_265 := Lib.hid (Rh_253.out.below hb)
  clear Rh_253
  have sz_266 := Lib.hid (Below.size hb)
  clear hb
  have Bh_267 := Lib.hid (Blk.new w21 #[.int .i64 rN, .slice Afh rE.length cfh, .slice Bfh rL.length dfh] 26)
  have sz_268 : Hid (w21.heap.size + 1 ≤ (w21.alloc (.cells #[.int .i64 rN, .slice Afh rE.length cfh, .slice Bfh rL.length dfh] 26)).heap.size) := Lib.hid (by simp)
  clear farmy_263
  clear intsy_264
  have x_269 := Bh_267.out.cell (i := 0) rfl
  have x_270 := Bh_267.out.cell (i := 1) rfl
  have x_271 := Bh_267.out.cell (i := 2) rfl
  have lt_272 := Bh_267.out.lt
  have x_273 := Bw_260.out.cell (i := 0) rfl
  have x_274 := Bw_260.out.cell (i := 1) rfl
  have x_275 := Bw_260.out.cell (i := 2) rfl
  have lt_276 := Bw_260.out.lt
  go_wp2_with fail
  refine (CER.out _ _ _ _ _ _ _ _ _ _ _ _ _ _ _ Rh_265.out Rw_259.out).mono ?_
  rintro e w22 ⟨rfl, hb⟩
  clear x_269 x_270 x_271 lt_272 x_273 x_274 x_275 lt_276
  have H_277 := Lib.hid (g_chain H_257.out hb)
  clear H_257
  have Bfarm_278 := Lib.hid (Bfarm_258.out.below hb)
  clear Bfarm_258
  have Rw_279 := Lib.hid (Rw_259.out.below hb)
  clear Rw_259
  have Bw_280 := Lib.hid (Bw_260.out.below hb)
  clear Bw_260
  have Bg_281 := Lib.hid (Bg_261.out.below hb)
  clear Bg_261
  have M_282 := Lib.hid (M_262.out.below hb)
  clear M_262
  have Rh_283 := Lib.hid (Rh_265.out.below hb)
  clear Rh_265
  have Bh_284 := Lib.hid (Bh_267.out.below hb)
  clear Bh_267
  have sz_285 := Lib.hid (Below.size hb)
  clear hb
  have x_286 := Bg_281.out.cell (i := 0) rfl
  have x_287 := Bg_281.out.cell (i := 1) rfl
  have x_288 := Bg_281.out.cell (i := 2) rfl
  have lt_289 := Bg_281.out.lt
  go_wp2_with fail
  refine (CHR.out _ _ _ _ _ M_282.out).mono ?_
  rintro e w23 ⟨rfl, hb⟩
  clear x_286 x_287 x_288 lt_289
  have H_290 := Lib.hid (g_chain H_277.out hb)
  clear H_277
  have Bfarm_291 := Lib.hid (Bfarm_278.out.below hb)
  clear Bfarm_278
  have Rw_292 := Lib.hid (Rw_279.out.below hb)
  clear Rw_279
  have Bw_293 := Lib.hid (Bw_280.out.below hb)
  clear Bw_280
  have Bg_294 := Lib.hid (Bg_281.out.below hb)
  clear Bg_281
  have M_295 := Lib.hid (M_282.out.below hb)
  clear M_282
  have Rh_296 := Lib.hid (Rh_283.out.below hb)
  clear Rh_283
  have Bh_297 := Lib.hid (Bh_284.out.below hb)
  clear Bh_284
  have sz_298 := Lib.hid (Below.size hb)
  clear hb
  go_wp2
  go_ret
  exact ⟨rfl, H_290.out⟩
end Go.Proofs.Ytpgnappddddlpaa
