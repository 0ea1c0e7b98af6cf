/- The walk of the law FnRunOk: it returns true and writes nothing that was there. Condition: none (the law itself stops at 2^20 bytes). -/
import Derived.Test.YtlhcobkncceodaaGreatDoorCGJ
import Derived.Test.YtlhcobkncceodaaGreatDoorCGM
import Derived.Deep.Cut
import Derived.Deep.RegionHeld3
import Derived.Deep.RegionWith
namespace Go.Proofs.YtlhcobkncceodaaGreatDoor
open Go.RowKit
set_option linter.unusedVariables false

set_option maxRecDepth 20000 in
set_option maxHeartbeats 16000000 in
theorem walkFnRunOk (A : Option Addr) (n c : Nat) (xs : List Nat) (w : World) (hr : Rd w A n xs) (_hnc : n ≤ c) (_hcm : c ≤ maxLen) (hw : Wts w) :
    Calls Tryz.prog 4 #[.slice A n c] w fun e w' => e = .returned (.bool true) ∧ Below w.heap.size w w' := by
  by_cases hbig : n ≤ 1048576
  rotate_left
  · go_enter Tryz.func4, Tryz.ntmps4
    go_wp2
    go_ret
    exact ⟨rfl, Below.refl _ _⟩
  have C0 := Lib.hid (makeRun A n c xs w hr hbig)
  have HW := Lib.hid hw
  clear hr hw
  go_enter Tryz.func4, Tryz.ntmps4
  go_wp2_with fail
  refine C0.out.mono ?_
  rintro e w1 ⟨N, es, B, d, p, s, k, r, A1, c1, B1, d1, C1, k1, ⟨hN1, hk4, hgb, hjb, hl13, hre⟩, rfl, hown, hr3, hbl⟩
  have hR := all_run k _ (newR_ok hgb hjb) (newR_small p s)
  have hC := all_calm k _ (newR_ok hgb hjb) (newR_small p s) (newR_lab p s) (newR_calm hgb)
  have hit : r.it ≤ 3 := by
    have h1 := all_it_le (N : Int) es k (newR (N : Int) es p s)
    have h2 : (newR (N : Int) es p s).it = 0 := rfl
    rw [hre]
    omega
  rw [← hre] at hR hC
  have hi0 := hR.1.i
  have HR := Lib.hid hR
  have HCL := Lib.hid hC
  have HNN := Lib.hid hR.1.nn
  have HRL := Lib.hid (ops_lim hR.1)
  have HGB := Lib.hid hgb
  clear C0 hC hjb hre
  have HS0 := Lib.hid hbl.size
  have H_1 := Lib.hid (hbl)
  have G_2 := Lib.hid (hown)
  have R_3 := Lib.hid (hr3)
  clear hbl hown hr3
  have hb_4 := below_a1 w1 (.cells #[.int .i64 (N : Int), .slice B es.length d] 25)
  have sz_5 : Hid (w1.heap.size = w1.heap.size) := Lib.hid (by simp)
  have LT_6 := Lib.hid G_2.out.lt
  have H_7 := Lib.hid (g_chain H_1.out hb_4)
  clear H_1
  have G_8 := Lib.hid (own_below G_2.out hb_4)
  clear G_2
  have R_9 := Lib.hid (R_3.out.below hb_4)
  clear R_3
  have sz_10 := Lib.hid (Below.size hb_4)
  clear hb_4
  have BG_11 : Hid (Blk (w1.alloc (.cells #[.int .i64 (N : Int), .slice B es.length d] 25)) (w1.heap.size) #[.int .i64 (N : Int), .slice B es.length d] 25) := Lib.hid (by have h := Blk.new w1 #[.int .i64 (N : Int), .slice B es.length d] 25; simpa using h)
  have sz_12 : Hid (w1.heap.size + 1 ≤ (w1.alloc (.cells #[.int .i64 (N : Int), .slice B es.length d] 25)).heap.size) := Lib.hid (by simp)
  have hb_13 := below_a1 (w1.alloc (.cells #[.int .i64 (N : Int), .slice B es.length d] 25)) (.cells #[.int .i64 r.p, .int .i64 r.s, .int .i64 r.it, .bool r.dn, .slice A1 r.vs.length c1, .slice B1 r.ev.length d1, .int .i64 r.nn, .slice C1 r.nx.length k1] 32)
  have sz_14 : Hid ((w1.alloc (.cells #[.int .i64 (N : Int), .slice B es.length d] 25)).heap.size = w1.heap.size + 1) := Lib.hid (by simp)
  have LT_15 := Lib.hid G_8.out.lt
  have sz_16 := Lib.hid BG_11.out.lt
  have H_17 := Lib.hid (g_chain H_7.out hb_13)
  clear H_7
  have G_18 := Lib.hid (own_below G_8.out hb_13)
  clear G_8
  have R_19 := Lib.hid (R_9.out.below hb_13)
  clear R_9
  have BG_20 := Lib.hid (BG_11.out.below hb_13)
  clear BG_11
  have sz_21 := Lib.hid (Below.size hb_13)
  clear hb_13
  have BR_22 : Hid (Blk ((w1.alloc (.cells #[.int .i64 (N : Int), .slice B es.length d] 25)).alloc (.cells #[.int .i64 r.p, .int .i64 r.s, .int .i64 r.it, .bool r.dn, .slice A1 r.vs.length c1, .slice B1 r.ev.length d1, .int .i64 r.nn, .slice C1 r.nx.length k1] 32)) (w1.heap.size + 1) #[.int .i64 r.p, .int .i64 r.s, .int .i64 r.it, .bool r.dn, .slice A1 r.vs.length c1, .slice B1 r.ev.length d1, .int .i64 r.nn, .slice C1 r.nx.length k1] 32) := Lib.hid (by have h := Blk.new (w1.alloc (.cells #[.int .i64 (N : Int), .slice B es.length d] 25)) #[.int .i64 r.p, .int .i64 r.s, .int .i64 r.it, .bool r.dn, .slice A1 r.vs.length c1, .slice B1 r.ev.length d1, .int .i64 r.nn, .slice C1 r.nx.length k1] 32; simpa using h)
  have sz_23 : Hid (w1.heap.size + 1 + 1 ≤ ((w1.alloc (.cells #[.int .i64 (N : Int), .slice B es.length d] 25)).alloc (.cells #[.int .i64 r.p, .int .i64 r.s, .int .i64 r.it, .bool r.dn, .slice A1 r.vs.length c1, .slice B1 r.ev.length d1, .int .i64 r.nn, .slice C1 r.nx.length k1] 32)).heap.size) := Lib.hid (by simp)
  go_upto_region 4 with fail
  generalize hWW : ((w1.alloc (.cells #[.int .i64 (N : Int), .slice B es.length d] 25)).alloc (.cells #[.int .i64 r.p, .int .i64 r.s, .int .i64 r.it, .bool r.dn, .slice A1 r.vs.length c1, .slice B1 r.ev.length d1, .int .i64 r.nn, .slice C1 r.nx.length k1] 32)) = wz1 at H_17 G_18 R_19 BG_20 BR_22 sz_10 sz_12 sz_14 sz_16 sz_21 sz_23 ⊢
  clear hWW
  obtain ⟨r1, hr1⟩ : ∃ r1, r1 = allR (N : Int) es r 1 := ⟨_, rfl⟩
  obtain ⟨x, hx⟩ : ∃ x, x = allR (N : Int) es r 3 := ⟨_, rfl⟩
  have h12 : allR (N : Int) es r1 2 = x := by rw [hx, hr1]; exact (all_add (N : Int) es 2 1 r).symm
  have hX := all_run 3 r hR.1 hR.2
  have hR1 := all_run 1 r hR.1 hR.2
  rw [← hx] at hX
  rw [← hr1] at hR1
  have hrn := hR.1.nn
  have CA1 := Lib.hid (fun W (h : Below w.heap.size w W) (hs : SlG W B es.length es) lo (hst : Rows3 W lo A1 r.vs.length c1 B1 r.ev.length d1 C1 r.nx.length k1 r.vs r.ev r.nx) => implAllR N B d es r 1 A1 c1 B1 d1 C1 k1 lo W (HW.out.below h) hR.1 hR.2 hs hl13 hst)
  have CA3 := Lib.hid (fun W (h : Below w.heap.size w W) (hs : SlG W B es.length es) lo (hst : Rows3 W lo A1 r.vs.length c1 B1 r.ev.length d1 C1 r.nx.length k1 r.vs r.ev r.nx) => implAllR N B d es r 3 A1 c1 B1 d1 C1 k1 lo W (HW.out.below h) hR.1 hR.2 hs hl13 hst)
  have CA2 := Lib.hid (fun W (h : Below w.heap.size w W) (hs : SlG W B es.length es) A5 c5 B5 d5 C5 k5 lo (hst : Rows3 W lo A5 r1.vs.length c5 B5 r1.ev.length d5 C5 r1.nx.length k5 r1.vs r1.ev r1.nx) => implAllR N B d es r1 2 A5 c5 B5 d5 C5 k5 lo W (HW.out.below h) hR1.1 hR1.2 hs hl13 hst)
  unfold MadeRO at CA1 CA2 CA3
  rw [← hr1] at CA1
  rw [h12] at CA2
  rw [← hx] at CA3
  have CO := Lib.hid (fun W (h : Below w.heap.size w W) (hs : SlG W B es.length es) A5 c5 B5 d5 C5 k5 lo (hst : Rows3 W lo A5 x.vs.length c5 B5 x.ev.length d5 C5 x.nx.length k5 x.vs x.ev x.nx) => implOkR N B d es x A5 c5 B5 d5 C5 k5 lo W (HW.out.below h) hX.1 hX.2 hs hl13 hst)
  have HXL := Lib.hid (ops_lim hX.1)
  have HX := Lib.hid hX
  have CI := Lib.hid (fun b (hb : (r.dn || decide (r.it = 1000)) = !b) W (h : Below w.heap.size w W) (hs : SlG W B es.length es) lo (hst : Rows3 W lo A1 r.vs.length c1 B1 r.ev.length d1 C1 r.nx.length k1 r.vs r.ev r.nx) => implIterV N B d es r A1 c1 B1 d1 C1 k1 lo W (HW.out.below h) hR.1 hR.2 hs hl13 hst b hb)
  unfold MadeRB at CI
  clear hX hR1 hr1 h12 hx
  cases hdn : r.dn with
  | false =>
    have CIb := Lib.hid (CI.out true (by rw [hdn]; simp; omega))
    simp only [if_true] at CIb
    have hY := iter_run HR.out.1 HR.out.2 (by omega)
    have HYI : Hid ((iterR (N : Int) es r).it = r.it + 1) := Lib.hid rfl
    obtain ⟨y, hy⟩ : ∃ y, y = iterR (N : Int) es r := ⟨_, rfl⟩
    rw [← hy] at CIb hY HYI
    have HY := Lib.hid hY
    have HIE : Hid ((y.it == r.it + 1) = true) := Lib.hid (by rw [HYI.out]; simp)
    have HWI : Hid (IntKind.i64.wrap (r.it + 1) = r.it + 1) := Lib.hid (IntWalk.i64_in _ (by omega))
    have HYL : Hid (((y.vs.length : Int) == (N : Int)) = true) := Lib.hid (by have := HY.out.1.vl; simp; omega)
    clear hY hy HYI
    rw [hdn] at CIb CA1 CA3
    clear CI hrn
    have BR_24 : Hid (Blk wz1 (w1.heap.size + 1) #[.int .i64 r.p, .int .i64 r.s, .int .i64 r.it, .bool false, .slice A1 r.vs.length c1, .slice B1 r.ev.length d1, .int .i64 r.nn, .slice C1 r.nx.length k1] 32) := Lib.hid (by have h := BR_22.out; rw [hdn] at h; exact h)
    clear BR_22
    have x_25 := BG_20.out.cell (i := 0) rfl
    have x_26 := BG_20.out.cell (i := 1) rfl
    have lt_27 := BG_20.out.lt
    have x_28 := BR_24.out.cell (i := 0) rfl
    have x_29 := BR_24.out.cell (i := 1) rfl
    have x_30 := BR_24.out.cell (i := 2) rfl
    have x_31 := BR_24.out.cell (i := 3) rfl
    have x_32 := BR_24.out.cell (i := 4) rfl
    have x_33 := BR_24.out.cell (i := 5) rfl
    have x_34 := BR_24.out.cell (i := 6) rfl
    have x_35 := BR_24.out.cell (i := 7) rfl
    have lt_36 := BR_24.out.lt
    go_wp2_with fail
    refine (CIb.out _ H_17.out (SlG.of_own G_18.out rfl) _ R_19.out).mono ?_
    rintro e wm21 ⟨A2, c2, B2, d2, C2, k2, rfl, ho, hb⟩
    clear x_25
    clear x_26
    clear lt_27
    clear x_28
    clear x_29
    clear x_30
    clear x_31
    clear x_32
    clear x_33
    clear x_34
    clear x_35
    clear lt_36
    have H_37 := Lib.hid (g_chain H_17.out hb)
    clear H_17
    have G_38 := Lib.hid (own_below G_18.out hb)
    clear G_18
    have R_39 := Lib.hid (R_19.out.below hb)
    clear R_19
    have BG_40 := Lib.hid (BG_20.out.below hb)
    clear BG_20
    have BR_41 := Lib.hid (BR_24.out.below hb)
    clear BR_24
    have sz_42 := Lib.hid (Below.size hb)
    have Y_43 := Lib.hid (ho)
    clear ho hb
    have hb_44 := below_a1 wm21 (.cells #[.int .i64 y.p, .int .i64 y.s, .int .i64 y.it, .bool y.dn, .slice A2 y.vs.length c2, .slice B2 y.ev.length d2, .int .i64 y.nn, .slice C2 y.nx.length k2] 32)
    have sz_45 : Hid (wm21.heap.size = wm21.heap.size) := Lib.hid (by simp)
    have LT_46 := Lib.hid G_38.out.lt
    have sz_47 := Lib.hid BG_40.out.lt
    have sz_48 := Lib.hid BR_41.out.lt
    have H_49 := Lib.hid (g_chain H_37.out hb_44)
    clear H_37
    have G_50 := Lib.hid (own_below G_38.out hb_44)
    clear G_38
    have R_51 := Lib.hid (R_39.out.below hb_44)
    clear R_39
    have BG_52 := Lib.hid (BG_40.out.below hb_44)
    clear BG_40
    have BR_53 := Lib.hid (BR_41.out.below hb_44)
    clear BR_41
    have Y_54 := Lib.hid (Y_43.out.below hb_44)
    clear Y_43
    have sz_55 := Lib.hid (Below.size hb_44)
    clear hb_44
    have BY_56 : Hid (Blk (wm21.alloc (.cells #[.int .i64 y.p, .int .i64 y.s, .int .i64 y.it, .bool y.dn, .slice A2 y.vs.length c2, .slice B2 y.ev.length d2, .int .i64 y.nn, .slice C2 y.nx.length k2] 32)) (wm21.heap.size) #[.int .i64 y.p, .int .i64 y.s, .int .i64 y.it, .bool y.dn, .slice A2 y.vs.length c2, .slice B2 y.ev.length d2, .int .i64 y.nn, .slice C2 y.nx.length k2] 32) := Lib.hid (by have h := Blk.new wm21 #[.int .i64 y.p, .int .i64 y.s, .int .i64 y.it, .bool y.dn, .slice A2 y.vs.length c2, .slice B2 y.ev.length d2, .int .i64 y.nn, .slice C2 y.nx.length k2] 32; simpa using h)
    have sz_57 : Hid (wm21.heap.size + 1 ≤ (wm21.alloc (.cells #[.int .i64 y.p, .int .i64 y.s, .int .i64 y.it, .bool y.dn, .slice A2 y.vs.length c2, .slice B2 y.ev.length d2, .int .i64 y.nn, .slice C2 y.nx.length k2] 32)).heap.size) := Lib.hid (by simp)
    go_upto_region 5 with fail
    generalize hWW : (wm21.alloc (.cells #[.int .i64 y.p, .int .i64 y.s, .int .i64 y.it, .bool y.dn, .slice A2 y.vs.length c2, .slice B2 y.ev.length d2, .int .i64 y.nn, .slice C2 y.nx.length k2] 32)) = wz2 at H_49 G_50 R_51 BG_52 BR_53 Y_54 BY_56 sz_42 sz_45 sz_47 sz_48 sz_55 sz_57 ⊢
    clear hWW
    have x_58 := BG_52.out.cell (i := 0) rfl
    have x_59 := BG_52.out.cell (i := 1) rfl
    have lt_60 := BG_52.out.lt
    have x_61 := BR_53.out.cell (i := 0) rfl
    have x_62 := BR_53.out.cell (i := 1) rfl
    have x_63 := BR_53.out.cell (i := 2) rfl
    have x_64 := BR_53.out.cell (i := 3) rfl
    have x_65 := BR_53.out.cell (i := 4) rfl
    have x_66 := BR_53.out.cell (i := 5) rfl
    have x_67 := BR_53.out.cell (i := 6) rfl
    have x_68 := BR_53.out.cell (i := 7) rfl
    have lt_69 := BR_53.out.lt
    go_wp2_with fail
    refine (CA3.out _ H_49.out (SlG.of_own G_50.out rfl) _ R_51.out).mono ?_
    rintro e wm22 ⟨A3, c3, B3, d3, C3, k3, rfl, ho, hb⟩
    clear x_58
    clear x_59
    clear lt_60
    clear x_61
    clear x_62
    clear x_63
    clear x_64
    clear x_65
    clear x_66
    clear x_67
    clear x_68
    clear lt_69
    have H_70 := Lib.hid (g_chain H_49.out hb)
    clear H_49
    have G_71 := Lib.hid (own_below G_50.out hb)
    clear G_50
    have R_72 := Lib.hid (R_51.out.below hb)
    clear R_51
    have BG_73 := Lib.hid (BG_52.out.below hb)
    clear BG_52
    have BR_74 := Lib.hid (BR_53.out.below hb)
    clear BR_53
    have Y_75 := Lib.hid (Y_54.out.below hb)
    clear Y_54
    have BY_76 := Lib.hid (BY_56.out.below hb)
    clear BY_56
    have sz_77 := Lib.hid (Below.size hb)
    have O_78 := Lib.hid (ho)
    clear ho hb
    have hb_79 := below_a1 wm22 (.cells #[.int .i64 x.p, .int .i64 x.s, .int .i64 x.it, .bool x.dn, .slice A3 x.vs.length c3, .slice B3 x.ev.length d3, .int .i64 x.nn, .slice C3 x.nx.length k3] 32)
    have sz_80 : Hid (wm22.heap.size = wm22.heap.size) := Lib.hid (by simp)
    have LT_81 := Lib.hid G_71.out.lt
    have sz_82 := Lib.hid BG_73.out.lt
    have sz_83 := Lib.hid BR_74.out.lt
    have sz_84 := Lib.hid BY_76.out.lt
    have H_85 := Lib.hid (g_chain H_70.out hb_79)
    clear H_70
    have G_86 := Lib.hid (own_below G_71.out hb_79)
    clear G_71
    have R_87 := Lib.hid (R_72.out.below hb_79)
    clear R_72
    have BG_88 := Lib.hid (BG_73.out.below hb_79)
    clear BG_73
    have BR_89 := Lib.hid (BR_74.out.below hb_79)
    clear BR_74
    have Y_90 := Lib.hid (Y_75.out.below hb_79)
    clear Y_75
    have BY_91 := Lib.hid (BY_76.out.below hb_79)
    clear BY_76
    have O_92 := Lib.hid (O_78.out.below hb_79)
    clear O_78
    have sz_93 := Lib.hid (Below.size hb_79)
    clear hb_79
    have BO_94 : Hid (Blk (wm22.alloc (.cells #[.int .i64 x.p, .int .i64 x.s, .int .i64 x.it, .bool x.dn, .slice A3 x.vs.length c3, .slice B3 x.ev.length d3, .int .i64 x.nn, .slice C3 x.nx.length k3] 32)) (wm22.heap.size) #[.int .i64 x.p, .int .i64 x.s, .int .i64 x.it, .bool x.dn, .slice A3 x.vs.length c3, .slice B3 x.ev.length d3, .int .i64 x.nn, .slice C3 x.nx.length k3] 32) := Lib.hid (by have h := Blk.new wm22 #[.int .i64 x.p, .int .i64 x.s, .int .i64 x.it, .bool x.dn, .slice A3 x.vs.length c3, .slice B3 x.ev.length d3, .int .i64 x.nn, .slice C3 x.nx.length k3] 32; simpa using h)
    have sz_95 : Hid (wm22.heap.size + 1 ≤ (wm22.alloc (.cells #[.int .i64 x.p, .int .i64 x.s, .int .i64 x.it, .bool x.dn, .slice A3 x.vs.length c3, .slice B3 x.ev.length d3, .int .i64 x.nn, .slice C3 x.nx.length k3] 32)).heap.size) := Lib.hid (by simp)
    go_upto_region 8 with fail
    generalize hWW : (wm22.alloc (.cells #[.int .i64 x.p, .int .i64 x.s, .int .i64 x.it, .bool x.dn, .slice A3 x.vs.length c3, .slice B3 x.ev.length d3, .int .i64 x.nn, .slice C3 x.nx.length k3] 32)) = wz3 at H_85 G_86 R_87 BG_88 BR_89 Y_90 BY_91 O_92 BO_94 sz_80 sz_82 sz_83 sz_84 sz_93 sz_95 ⊢
    clear hWW
    go_cut [8] (fun (sa : Value) (wx : World) => ∃ (q : Nat) (A4 : Option Addr) (c4 : Nat) (B4 : Option Addr) (d4 : Nat) (C4 : Option Addr) (k4 : Nat), sa = .pointer (some ⟨q, 0, none⟩) ∧ Hid (Below wz3.heap.size wz3 wx) ∧ Hid (Blk wx q #[.int .i64 x.p, .int .i64 x.s, .int .i64 x.it, .bool x.dn, .slice A4 x.vs.length c4, .slice B4 x.ev.length d4, .int .i64 x.nn, .slice C4 x.nx.length k4] 32) ∧ Hid (Rows3 wx wz3.heap.size A4 x.vs.length c4 B4 x.ev.length d4 C4 x.nx.length k4 x.vs x.ev x.nx) ∧ Hid (wz3.heap.size ≤ q ∧ q < wx.heap.size))
    case first =>
      have HSF : ∀ W, Hid (Below wz3.heap.size wz3 W) → (W.cell? ⟨w1.heap.size, 0, none⟩ = some (.int .i64 (N : Int)) ∧ W.cell? ⟨w1.heap.size, 1, none⟩ = some (.slice B es.length d) ∧ W.cell? ⟨w1.heap.size + 1, 0, none⟩ = some (.int .i64 r.p) ∧ W.cell? ⟨w1.heap.size + 1, 1, none⟩ = some (.int .i64 r.s) ∧ W.cell? ⟨w1.heap.size + 1, 2, none⟩ = some (.int .i64 r.it) ∧ W.cell? ⟨w1.heap.size + 1, 3, none⟩ = some (.bool false) ∧ W.cell? ⟨w1.heap.size + 1, 4, none⟩ = some (.slice A1 r.vs.length c1) ∧ W.cell? ⟨w1.heap.size + 1, 5, none⟩ = some (.slice B1 r.ev.length d1) ∧ W.cell? ⟨w1.heap.size + 1, 6, none⟩ = some (.int .i64 r.nn) ∧ W.cell? ⟨w1.heap.size + 1, 7, none⟩ = some (.slice C1 r.nx.length k1)) := fun W HR => ⟨(BG_88.out.below HR.out).cell (i := 0) rfl, (BG_88.out.below HR.out).cell (i := 1) rfl, (BR_89.out.below HR.out).cell (i := 0) rfl, (BR_89.out.below HR.out).cell (i := 1) rfl, (BR_89.out.below HR.out).cell (i := 2) rfl, (BR_89.out.below HR.out).cell (i := 3) rfl, (BR_89.out.below HR.out).cell (i := 4) rfl, (BR_89.out.below HR.out).cell (i := 5) rfl, (BR_89.out.below HR.out).cell (i := 6) rfl, (BR_89.out.below HR.out).cell (i := 7) rfl⟩
      have HR : Hid (Below wz3.heap.size wz3 wz3.drew) := Lib.hid (Below.refl _ _).drew
      refine wp_region_any (by kernel_rfl) ?_
      change wpAny _ _ _ _ _ _ _ (World.drew _)
      refine wpAny_of_held (S := fun W => W.cell? ⟨w1.heap.size, 0, none⟩ = some (.int .i64 (N : Int)) ∧ W.cell? ⟨w1.heap.size, 1, none⟩ = some (.slice B es.length d) ∧ W.cell? ⟨w1.heap.size + 1, 0, none⟩ = some (.int .i64 r.p) ∧ W.cell? ⟨w1.heap.size + 1, 1, none⟩ = some (.int .i64 r.s) ∧ W.cell? ⟨w1.heap.size + 1, 2, none⟩ = some (.int .i64 r.it) ∧ W.cell? ⟨w1.heap.size + 1, 3, none⟩ = some (.bool false) ∧ W.cell? ⟨w1.heap.size + 1, 4, none⟩ = some (.slice A1 r.vs.length c1) ∧ W.cell? ⟨w1.heap.size + 1, 5, none⟩ = some (.slice B1 r.ev.length d1) ∧ W.cell? ⟨w1.heap.size + 1, 6, none⟩ = some (.int .i64 r.nn) ∧ W.cell? ⟨w1.heap.size + 1, 7, none⟩ = some (.slice C1 r.nx.length k1)) _ _ _ _ ?_
      generalize hDD : World.drew wz3 = W at HR ⊢
      clear hDD
      refine wpAnyH_take (i := 0) (oi := ⟨_, _, _, _, _, _⟩) (v := .agg #[.int .i64 (N : Int), .slice B es.length d]) rfl (by kernel_rfl) (by kernel_rfl) (by kernel_rfl) (fun _ _ _ h => h) (Or.inl ⟨by kernel_rfl, fun W hS => by (obtain ⟨s0, s1, s2, s3, s4, s5, s6, s7, s8, s9⟩ := hS); go_simp⟩) (HSF _ HR) ?_
      (try simp only [Act.put, List.setIfInBounds_toArray, List.set_cons_zero, List.set_cons_succ])
      refine wpAnyH_take (i := 1) (oi := ⟨_, _, _, _, _, _⟩) (v := .agg #[.int .i64 (N : Int), .slice B es.length d]) rfl (by kernel_rfl) (by kernel_rfl) (by kernel_rfl) (fun _ _ _ h => h) (Or.inl ⟨by kernel_rfl, fun W hS => by (obtain ⟨s0, s1, s2, s3, s4, s5, s6, s7, s8, s9⟩ := hS); go_simp⟩) (HSF _ HR) ?_
      (try simp only [Act.put, List.setIfInBounds_toArray, List.set_cons_zero, List.set_cons_succ])
      refine wpAnyH_take (i := 2) (oi := ⟨_, _, _, _, _, _⟩) (v := .agg #[.int .i64 r.p, .int .i64 r.s, .int .i64 r.it, .bool false, .slice A1 r.vs.length c1, .slice B1 r.ev.length d1, .int .i64 r.nn, .slice C1 r.nx.length k1]) rfl (by kernel_rfl) (by kernel_rfl) (by kernel_rfl) (fun _ _ _ h => h) (Or.inl ⟨by kernel_rfl, fun W hS => by (obtain ⟨s0, s1, s2, s3, s4, s5, s6, s7, s8, s9⟩ := hS); go_simp⟩) (HSF _ HR) ?_
      (try simp only [Act.put, List.setIfInBounds_toArray, List.set_cons_zero, List.set_cons_succ])
      refine (fun (Gra2_1 : ∀ (W : World) (A5 : Option Addr) (c5 : Nat) (B5 : Option Addr) (d5 : Nat) (C5 : Option Addr) (k5 : Nat) (A4 : Option Addr) (c4 : Nat) (B4 : Option Addr) (d4 : Nat) (C4 : Option Addr) (k4 : Nat) (q : Nat), Hid (Below wz3.heap.size wz3 W) → Hid (Rows3 W wz3.heap.size A4 x.vs.length c4 B4 x.ev.length d4 C4 x.nx.length k4 x.vs x.ev x.nx) → Hid (Blk W q #[.int .i64 0, .int .i64 0, .int .i64 0, .bool false, .slice none 0 0, .slice none 0 0, .int .i64 0, .slice none 0 0] 32) → Hid (wz3.heap.size ≤ q) → (?Xra2_1 : World → (Option Addr) → Nat → (Option Addr) → Nat → (Option Addr) → Nat → (Option Addr) → Nat → (Option Addr) → Nat → (Option Addr) → Nat → Nat → Prop) W A5 c5 B5 d5 C5 k5 A4 c4 B4 d4 C4 k4 q) => ?_) ?_
      rotate_left
      refine (fun (Gra2_0 : ∀ (W : World) (A5 : Option Addr) (c5 : Nat) (B5 : Option Addr) (d5 : Nat) (C5 : Option Addr) (k5 : Nat) (A4 : Option Addr) (c4 : Nat) (B4 : Option Addr) (d4 : Nat) (C4 : Option Addr) (k4 : Nat), Hid (Below wz3.heap.size wz3 W) → Hid (Rows3 W wz3.heap.size A4 x.vs.length c4 B4 x.ev.length d4 C4 x.nx.length k4 x.vs x.ev x.nx) → (?Xra2_0 : World → (Option Addr) → Nat → (Option Addr) → Nat → (Option Addr) → Nat → (Option Addr) → Nat → (Option Addr) → Nat → (Option Addr) → Nat → Prop) W A5 c5 B5 d5 C5 k5 A4 c4 B4 d4 C4 k4) => ?_) ?_
      rotate_left
      refine (fun (Gra1_1 : ∀ (W : World) (A5 : Option Addr) (c5 : Nat) (B5 : Option Addr) (d5 : Nat) (C5 : Option Addr) (k5 : Nat) (q : Nat), Hid (Below wz3.heap.size wz3 W) → Hid (Rows3 W wz3.heap.size A5 r1.vs.length c5 B5 r1.ev.length d5 C5 r1.nx.length k5 r1.vs r1.ev r1.nx) → Hid (Blk W q #[.int .i64 0, .int .i64 0, .int .i64 0, .bool false, .slice none 0 0, .slice none 0 0, .int .i64 0, .slice none 0 0] 32) → Hid (wz3.heap.size ≤ q) → (?Xra1_1 : World → (Option Addr) → Nat → (Option Addr) → Nat → (Option Addr) → Nat → Nat → Prop) W A5 c5 B5 d5 C5 k5 q) => ?_) ?_
      rotate_left
      refine (fun (Gra1_0 : ∀ (W : World) (A5 : Option Addr) (c5 : Nat) (B5 : Option Addr) (d5 : Nat) (C5 : Option Addr) (k5 : Nat), Hid (Below wz3.heap.size wz3 W) → Hid (Rows3 W wz3.heap.size A5 r1.vs.length c5 B5 r1.ev.length d5 C5 r1.nx.length k5 r1.vs r1.ev r1.nx) → (?Xra1_0 : World → (Option Addr) → Nat → (Option Addr) → Nat → (Option Addr) → Nat → Prop) W A5 c5 B5 d5 C5 k5) => ?_) ?_
      rotate_left
      refine (fun (Gra0_1 : ∀ (W : World) (q : Nat), Hid (Below wz3.heap.size wz3 W) → Hid (Blk W q #[.int .i64 0, .int .i64 0, .int .i64 0, .bool false, .slice none 0 0, .slice none 0 0, .int .i64 0, .slice none 0 0] 32) → Hid (wz3.heap.size ≤ q) → (?Xra0_1 : World → Nat → Prop) W q) => ?_) ?_
      rotate_left
      change wpAnyH _ _ _ _ _ _ #[true, true, true, false, false, false, false] _ _
      refine wpAnyH_ready (rs := [3, 5]) (by kernel_rfl) (by simp) (AllReadyH.cons rfl (fun K hK => ?_) (AllReadyH.cons rfl (fun K hK => ?_) AllReadyH.nil))
      · skip
        go_simp
        go_at_call 10
        refine (CA1.out W (g_chain H_85.out HR.out) (SlG.of_own (own_below G_86.out HR.out) rfl) _ (Rows3.below R_87.out HR.out)).mono ?_
        rintro e W2 ⟨A5, c5, B5, d5, C5, k5, rfl, ho, hb⟩
        have O1 : Hid (Rows3 W2 wz3.heap.size A5 r1.vs.length c5 B5 r1.ev.length d5 C5 r1.nx.length k5 r1.vs r1.ev r1.nx) := Lib.hid (Rows3.mono ho (Below.size HR.out))
        have HR := Lib.hid (g_chain HR.out hb)
        clear hb
        dsimp only
        refine hK.out _ _ (HSF _ HR) (fun _ => ?_)
        clear hK K
        (try simp only [List.setIfInBounds_toArray, List.set_cons_zero, List.set_cons_succ])
        change wpAnyH _ _ _ _ _ _ #[true, true, true, true, false, false, false] _ _
        exact Gra1_0 W2 A5 c5 B5 d5 C5 k5 HR O1
      · skip
        go_simp
        have hb := below_a1 W (.cells #[.int .i64 0, .int .i64 0, .int .i64 0, .bool false, .slice none 0 0, .slice none 0 0, .int .i64 0, .slice none 0 0] 32)
        have Zq : Hid (Blk (W.alloc (.cells #[.int .i64 0, .int .i64 0, .int .i64 0, .bool false, .slice none 0 0, .slice none 0 0, .int .i64 0, .slice none 0 0] 32)) W.heap.size #[.int .i64 0, .int .i64 0, .int .i64 0, .bool false, .slice none 0 0, .slice none 0 0, .int .i64 0, .slice none 0 0] 32) := Lib.hid (Blk.new W #[.int .i64 0, .int .i64 0, .int .i64 0, .bool false, .slice none 0 0, .slice none 0 0, .int .i64 0, .slice none 0 0] 32)
        have HQq : Hid (wz3.heap.size ≤ W.heap.size) := Lib.hid (Below.size HR.out)
        have HR := Lib.hid (g_chain HR.out hb)
        clear hb
        refine hK.out _ _ (HSF _ HR) (fun _ => ?_)
        clear hK K
        (try simp only [List.setIfInBounds_toArray, List.set_cons_zero, List.set_cons_succ])
        generalize hZ : W.alloc (.cells #[.int .i64 0, .int .i64 0, .int .i64 0, .bool false, .slice none 0 0, .slice none 0 0, .int .i64 0, .slice none 0 0] 32) = W2 at Zq HR ⊢
        clear hZ
        generalize hZ : W.heap.size = q at Zq HQq ⊢
        clear hZ
        change wpAnyH _ _ _ _ _ _ #[true, true, true, false, false, true, false] _ _
        exact Gra0_1 W2 q HR Zq HQq
      · intro W q HR Zq HQq
        change wpAnyH _ _ _ _ _ _ #[true, true, true, false, false, true, false] _ _
        refine wpAnyH_ready (rs := [3]) (by kernel_rfl) (by simp) (AllReadyH.cons rfl (fun K hK => ?_) AllReadyH.nil)
        · skip
          go_simp
          go_at_call 10
          refine (CA1.out W (g_chain H_85.out HR.out) (SlG.of_own (own_below G_86.out HR.out) rfl) _ (Rows3.below R_87.out HR.out)).mono ?_
          rintro e W2 ⟨A5, c5, B5, d5, C5, k5, rfl, ho, hb⟩
          have Zq : Hid (Blk W2 q #[.int .i64 0, .int .i64 0, .int .i64 0, .bool false, .slice none 0 0, .slice none 0 0, .int .i64 0, .slice none 0 0] 32) := Lib.hid (Zq.out.below hb)
          have HQq : Hid (wz3.heap.size ≤ q) := Lib.hid (HQq.out)
          have O1 : Hid (Rows3 W2 wz3.heap.size A5 r1.vs.length c5 B5 r1.ev.length d5 C5 r1.nx.length k5 r1.vs r1.ev r1.nx) := Lib.hid (Rows3.mono ho (Below.size HR.out))
          have HR := Lib.hid (g_chain HR.out hb)
          clear hb
          dsimp only
          refine hK.out _ _ (HSF _ HR) (fun _ => ?_)
          clear hK K
          (try simp only [List.setIfInBounds_toArray, List.set_cons_zero, List.set_cons_succ])
          change wpAnyH _ _ _ _ _ _ #[true, true, true, true, false, true, false] _ _
          exact Gra1_1 W2 A5 c5 B5 d5 C5 k5 q HR O1 Zq HQq
      · intro W A5 c5 B5 d5 C5 k5 HR O1
        change wpAnyH _ _ _ _ _ _ #[true, true, true, true, false, false, false] _ _
        refine wpAnyH_ready (rs := [4, 5]) (by kernel_rfl) (by simp) (AllReadyH.cons rfl (fun K hK => ?_) (AllReadyH.cons rfl (fun K hK => ?_) AllReadyH.nil))
        · skip
          go_simp
          go_at_call 10
          refine (CA2.out W (g_chain H_85.out HR.out) (SlG.of_own (own_below G_86.out HR.out) rfl) _ _ _ _ _ _ _ O1.out).mono ?_
          rintro e W2 ⟨A4, c4, B4, d4, C4, k4, rfl, ho, hb⟩
          have O2 : Hid (Rows3 W2 wz3.heap.size A4 x.vs.length c4 B4 x.ev.length d4 C4 x.nx.length k4 x.vs x.ev x.nx) := Lib.hid (Rows3.mono ho (Below.size HR.out))
          have HR := Lib.hid (g_chain HR.out hb)
          clear hb
          dsimp only
          refine hK.out _ _ (HSF _ HR) (fun _ => ?_)
          clear hK K
          (try simp only [List.setIfInBounds_toArray, List.set_cons_zero, List.set_cons_succ])
          change wpAnyH _ _ _ _ _ _ #[true, true, true, true, true, false, false] _ _
          exact Gra2_0 W2 A5 c5 B5 d5 C5 k5 A4 c4 B4 d4 C4 k4 HR O2
        · skip
          go_simp
          have hb := below_a1 W (.cells #[.int .i64 0, .int .i64 0, .int .i64 0, .bool false, .slice none 0 0, .slice none 0 0, .int .i64 0, .slice none 0 0] 32)
          have O1 : Hid (Rows3 (W.alloc (.cells #[.int .i64 0, .int .i64 0, .int .i64 0, .bool false, .slice none 0 0, .slice none 0 0, .int .i64 0, .slice none 0 0] 32)) wz3.heap.size A5 r1.vs.length c5 B5 r1.ev.length d5 C5 r1.nx.length k5 r1.vs r1.ev r1.nx) := Lib.hid (O1.out.below hb)
          have Zq : Hid (Blk (W.alloc (.cells #[.int .i64 0, .int .i64 0, .int .i64 0, .bool false, .slice none 0 0, .slice none 0 0, .int .i64 0, .slice none 0 0] 32)) W.heap.size #[.int .i64 0, .int .i64 0, .int .i64 0, .bool false, .slice none 0 0, .slice none 0 0, .int .i64 0, .slice none 0 0] 32) := Lib.hid (Blk.new W #[.int .i64 0, .int .i64 0, .int .i64 0, .bool false, .slice none 0 0, .slice none 0 0, .int .i64 0, .slice none 0 0] 32)
          have HQq : Hid (wz3.heap.size ≤ W.heap.size) := Lib.hid (Below.size HR.out)
          have HR := Lib.hid (g_chain HR.out hb)
          clear hb
          refine hK.out _ _ (HSF _ HR) (fun _ => ?_)
          clear hK K
          (try simp only [List.setIfInBounds_toArray, List.set_cons_zero, List.set_cons_succ])
          generalize hZ : W.alloc (.cells #[.int .i64 0, .int .i64 0, .int .i64 0, .bool false, .slice none 0 0, .slice none 0 0, .int .i64 0, .slice none 0 0] 32) = W2 at O1 Zq HR ⊢
          clear hZ
          generalize hZ : W.heap.size = q at Zq HQq ⊢
          clear hZ
          change wpAnyH _ _ _ _ _ _ #[true, true, true, true, false, true, false] _ _
          exact Gra1_1 W2 A5 c5 B5 d5 C5 k5 q HR O1 Zq HQq
      · intro W A5 c5 B5 d5 C5 k5 q HR O1 Zq HQq
        change wpAnyH _ _ _ _ _ _ #[true, true, true, true, false, true, false] _ _
        refine wpAnyH_ready (rs := [4]) (by kernel_rfl) (by simp) (AllReadyH.cons rfl (fun K hK => ?_) AllReadyH.nil)
        · skip
          go_simp
          go_at_call 10
          refine (CA2.out W (g_chain H_85.out HR.out) (SlG.of_own (own_below G_86.out HR.out) rfl) _ _ _ _ _ _ _ O1.out).mono ?_
          rintro e W2 ⟨A4, c4, B4, d4, C4, k4, rfl, ho, hb⟩
          have Zq : Hid (Blk W2 q #[.int .i64 0, .int .i64 0, .int .i64 0, .bool false, .slice none 0 0, .slice none 0 0, .int .i64 0, .slice none 0 0] 32) := Lib.hid (Zq.out.below hb)
          have HQq : Hid (wz3.heap.size ≤ q) := Lib.hid (HQq.out)
          have O2 : Hid (Rows3 W2 wz3.heap.size A4 x.vs.length c4 B4 x.ev.length d4 C4 x.nx.length k4 x.vs x.ev x.nx) := Lib.hid (Rows3.mono ho (Below.size HR.out))
          have HR := Lib.hid (g_chain HR.out hb)
          clear hb
          dsimp only
          refine hK.out _ _ (HSF _ HR) (fun _ => ?_)
          clear hK K
          (try simp only [List.setIfInBounds_toArray, List.set_cons_zero, List.set_cons_succ])
          change wpAnyH _ _ _ _ _ _ #[true, true, true, true, true, true, false] _ _
          exact Gra2_1 W2 A5 c5 B5 d5 C5 k5 A4 c4 B4 d4 C4 k4 q HR O2 Zq HQq
      · intro W A5 c5 B5 d5 C5 k5 A4 c4 B4 d4 C4 k4 HR O2
        change wpAnyH _ _ _ _ _ _ #[true, true, true, true, true, false, false] _ _
        refine wpAnyH_ready (rs := [5]) (by kernel_rfl) (by simp) (AllReadyH.cons rfl (fun K hK => ?_) AllReadyH.nil)
        · skip
          go_simp
          have hb := below_a1 W (.cells #[.int .i64 0, .int .i64 0, .int .i64 0, .bool false, .slice none 0 0, .slice none 0 0, .int .i64 0, .slice none 0 0] 32)
          have O2 : Hid (Rows3 (W.alloc (.cells #[.int .i64 0, .int .i64 0, .int .i64 0, .bool false, .slice none 0 0, .slice none 0 0, .int .i64 0, .slice none 0 0] 32)) wz3.heap.size A4 x.vs.length c4 B4 x.ev.length d4 C4 x.nx.length k4 x.vs x.ev x.nx) := Lib.hid (O2.out.below hb)
          have Zq : Hid (Blk (W.alloc (.cells #[.int .i64 0, .int .i64 0, .int .i64 0, .bool false, .slice none 0 0, .slice none 0 0, .int .i64 0, .slice none 0 0] 32)) W.heap.size #[.int .i64 0, .int .i64 0, .int .i64 0, .bool false, .slice none 0 0, .slice none 0 0, .int .i64 0, .slice none 0 0] 32) := Lib.hid (Blk.new W #[.int .i64 0, .int .i64 0, .int .i64 0, .bool false, .slice none 0 0, .slice none 0 0, .int .i64 0, .slice none 0 0] 32)
          have HQq : Hid (wz3.heap.size ≤ W.heap.size) := Lib.hid (Below.size HR.out)
          have HR := Lib.hid (g_chain HR.out hb)
          clear hb
          refine hK.out _ _ (HSF _ HR) (fun _ => ?_)
          clear hK K
          (try simp only [List.setIfInBounds_toArray, List.set_cons_zero, List.set_cons_succ])
          generalize hZ : W.alloc (.cells #[.int .i64 0, .int .i64 0, .int .i64 0, .bool false, .slice none 0 0, .slice none 0 0, .int .i64 0, .slice none 0 0] 32) = W2 at O2 Zq HR ⊢
          clear hZ
          generalize hZ : W.heap.size = q at Zq HQq ⊢
          clear hZ
          change wpAnyH _ _ _ _ _ _ #[true, true, true, true, true, true, false] _ _
          exact Gra2_1 W2 A5 c5 B5 d5 C5 k5 A4 c4 B4 d4 C4 k4 q HR O2 Zq HQq
      · intro W A5 c5 B5 d5 C5 k5 A4 c4 B4 d4 C4 k4 q HR O2 Zq HQq
        change wpAnyH _ _ _ _ _ _ #[true, true, true, true, true, true, false] _ _
        refine wpAnyH_ready (rs := [6]) (by kernel_rfl) (by simp) (AllReadyH.cons rfl (fun K hK => ?_) AllReadyH.nil)
        obtain ⟨zl, z0, z1, z2, z3, z4, z5, z6, z7⟩ := Zq.out.eight
        obtain ⟨f0, f1, f2, f3, f4, f5, f6, f7⟩ := Zq.out.eightF
        go_simp
        clear z0 z1 z2 z3 z4 z5 z6 z7 f0 f1 f2 f3 f4 f5 f6 f7
        have hgr := layR_grown W q (.int .i64 x.p) (.int .i64 x.s) (.int .i64 x.it) (.bool x.dn) (.slice A4 x.vs.length c4) (.slice B4 x.ev.length d4) (.int .i64 x.nn) (.slice C4 x.nx.length k4)
        have EBG := Lib.hid ((BG_88.out.below HR.out).grown hgr (by intro e; injection e with e; have h1 := HQq.out; have h2 := BG_88.out.lt; omega))
        have EBR := Lib.hid ((BR_89.out.below HR.out).grown hgr (by intro e; injection e with e; have h1 := HQq.out; have h2 := BR_89.out.lt; omega))
        refine hK.out _ _ ⟨EBG.out.cell (i := 0) rfl, EBG.out.cell (i := 1) rfl, EBR.out.cell (i := 0) rfl, EBR.out.cell (i := 1) rfl, EBR.out.cell (i := 2) rfl, EBR.out.cell (i := 3) rfl, EBR.out.cell (i := 4) rfl, EBR.out.cell (i := 5) rfl, EBR.out.cell (i := 6) rfl, EBR.out.cell (i := 7) rfl⟩ (fun _ => ?_)
        clear hK K
        (try simp only [List.setIfInBounds_toArray, List.set_cons_zero, List.set_cons_succ])
        refine wpAnyH_done (by kernel_rfl) ?_ _
        go_wp2_with fail
        go_meet
        exact ⟨q, A4, c4, B4, d4, C4, k4, rfl, Lib.hid (HR.out.grown hgr (Below.size HR.out) (fun j hj => by injection hj with hj; have h1 := HQq.out; omega)), Lib.hid (layR_blk Zq.out), Lib.hid (O2.out.past hgr Zq.out (by decide) (by decide)), Lib.hid ⟨HQq.out, Nat.lt_of_lt_of_le zl hgr.size⟩⟩
    case rest =>
      rename World => wt9
      obtain ⟨q9, A4, c4, B4, d4, C4, k4, rfl, hb, hx9, ho9, hq9⟩ := hcut
      have H_96 := Lib.hid (g_chain H_85.out hb.out)
      clear H_85
      have G_97 := Lib.hid (own_below G_86.out hb.out)
      clear G_86
      have R_98 := Lib.hid (R_87.out.below hb.out)
      clear R_87
      have BG_99 := Lib.hid (BG_88.out.below hb.out)
      clear BG_88
      have BR_100 := Lib.hid (BR_89.out.below hb.out)
      clear BR_89
      have Y_101 := Lib.hid (Y_90.out.below hb.out)
      clear Y_90
      have BY_102 := Lib.hid (BY_91.out.below hb.out)
      clear BY_91
      have O_103 := Lib.hid (O_92.out.below hb.out)
      clear O_92
      have BO_104 := Lib.hid (BO_94.out.below hb.out)
      clear BO_94
      have sz_105 := Lib.hid (Below.size hb.out)
      have sq1 := Lib.hid hq9.out.1
      have sq2 := Lib.hid hq9.out.2
      have T_106 := Lib.hid (ho9.out)
      have BT_107 := Lib.hid (hx9.out)
      clear hb hx9 ho9 hq9
      have x_108 := BO_104.out.cell (i := 0) rfl
      have x_109 := BO_104.out.cell (i := 1) rfl
      have x_110 := BO_104.out.cell (i := 2) rfl
      have x_111 := BO_104.out.cell (i := 3) rfl
      have x_112 := BO_104.out.cell (i := 4) rfl
      have x_113 := BO_104.out.cell (i := 5) rfl
      have x_114 := BO_104.out.cell (i := 6) rfl
      have x_115 := BO_104.out.cell (i := 7) rfl
      have lt_116 := BO_104.out.lt
      have x_117 := BT_107.out.cell (i := 0) rfl
      have x_118 := BT_107.out.cell (i := 1) rfl
      have x_119 := BT_107.out.cell (i := 2) rfl
      have x_120 := BT_107.out.cell (i := 3) rfl
      have x_121 := BT_107.out.cell (i := 4) rfl
      have x_122 := BT_107.out.cell (i := 5) rfl
      have x_123 := BT_107.out.cell (i := 6) rfl
      have x_124 := BT_107.out.cell (i := 7) rfl
      have lt_125 := BT_107.out.lt
      go_wp2_with fail
      refine (sameRun_any x.p x.s x.it x.dn A3 x.vs.length c3 B3 x.ev.length d3 x.nn C3 x.nx.length k3 A4 c4 B4 d4 C4 k4 x.vs x.ev x.nx _ (SlI.of_own O_103.out.v) (SlI.of_own O_103.out.e) (Rd.of_own O_103.out.x HX.out.2) (SlI.of_own T_106.out.v) (SlI.of_own T_106.out.e) (Rd.of_own T_106.out.x HX.out.2) (by have := HXL.out; omega) (by have := HXL.out; omega)).mono ?_
      rintro e w23 ⟨rfl, hb⟩
      clear x_108
      clear x_109
      clear x_110
      clear x_111
      clear x_112
      clear x_113
      clear x_114
      clear x_115
      clear lt_116
      clear x_117
      clear x_118
      clear x_119
      clear x_120
      clear x_121
      clear x_122
      clear x_123
      clear x_124
      clear lt_125
      have H_126 := Lib.hid (g_chain H_96.out hb)
      clear H_96
      have G_127 := Lib.hid (own_below G_97.out hb)
      clear G_97
      have R_128 := Lib.hid (R_98.out.below hb)
      clear R_98
      have BG_129 := Lib.hid (BG_99.out.below hb)
      clear BG_99
      have BR_130 := Lib.hid (BR_100.out.below hb)
      clear BR_100
      have Y_131 := Lib.hid (Y_101.out.below hb)
      clear Y_101
      have BY_132 := Lib.hid (BY_102.out.below hb)
      clear BY_102
      have O_133 := Lib.hid (O_103.out.below hb)
      clear O_103
      have BO_134 := Lib.hid (BO_104.out.below hb)
      clear BO_104
      have T_135 := Lib.hid (T_106.out.below hb)
      clear T_106
      have BT_136 := Lib.hid (BT_107.out.below hb)
      clear BT_107
      have sz_137 := Lib.hid (Below.size hb)
      clear hb
      have x_138 := BG_129.out.cell (i := 0) rfl
      have x_139 := BG_129.out.cell (i := 1) rfl
      have lt_140 := BG_129.out.lt
      have x_141 := BO_134.out.cell (i := 0) rfl
      have x_142 := BO_134.out.cell (i := 1) rfl
      have x_143 := BO_134.out.cell (i := 2) rfl
      have x_144 := BO_134.out.cell (i := 3) rfl
      have x_145 := BO_134.out.cell (i := 4) rfl
      have x_146 := BO_134.out.cell (i := 5) rfl
      have x_147 := BO_134.out.cell (i := 6) rfl
      have x_148 := BO_134.out.cell (i := 7) rfl
      have lt_149 := BO_134.out.lt
      go_wp2_with fail
      refine (CO.out _ H_126.out (SlG.of_own G_127.out rfl) _ _ _ _ _ _ _ O_133.out).mono ?_
      rintro e w24 ⟨rfl, hb⟩
      clear x_138
      clear x_139
      clear lt_140
      clear x_141
      clear x_142
      clear x_143
      clear x_144
      clear x_145
      clear x_146
      clear x_147
      clear x_148
      clear lt_149
      have H_150 := Lib.hid (g_chain H_126.out hb)
      clear H_126
      have G_151 := Lib.hid (own_below G_127.out hb)
      clear G_127
      have R_152 := Lib.hid (R_128.out.below hb)
      clear R_128
      have BG_153 := Lib.hid (BG_129.out.below hb)
      clear BG_129
      have BR_154 := Lib.hid (BR_130.out.below hb)
      clear BR_130
      have Y_155 := Lib.hid (Y_131.out.below hb)
      clear Y_131
      have BY_156 := Lib.hid (BY_132.out.below hb)
      clear BY_132
      have O_157 := Lib.hid (O_133.out.below hb)
      clear O_133
      have BO_158 := Lib.hid (BO_134.out.below hb)
      clear BO_134
      have T_159 := Lib.hid (T_135.out.below hb)
      clear T_135
      have BT_160 := Lib.hid (BT_136.out.below hb)
      clear BT_136
      have sz_161 := Lib.hid (Below.size hb)
      clear hb
      have x_162 := BG_153.out.cell (i := 0) rfl
      have x_163 := BG_153.out.cell (i := 1) rfl
      have lt_164 := BG_153.out.lt
      have x_165 := BY_156.out.cell (i := 0) rfl
      have x_166 := BY_156.out.cell (i := 1) rfl
      have x_167 := BY_156.out.cell (i := 2) rfl
      have x_168 := BY_156.out.cell (i := 3) rfl
      have x_169 := BY_156.out.cell (i := 4) rfl
      have x_170 := BY_156.out.cell (i := 5) rfl
      have x_171 := BY_156.out.cell (i := 6) rfl
      have x_172 := BY_156.out.cell (i := 7) rfl
      have lt_173 := BY_156.out.lt
      go_wp2_with fail
      refine (implOkR N B d es y A2 c2 B2 d2 C2 k2 _ _ (HW.out.below H_150.out) HY.out.1 HY.out.2 (SlG.of_own G_151.out rfl) hl13 Y_155.out).mono ?_
      rintro e w25 ⟨rfl, hb⟩
      clear x_162
      clear x_163
      clear lt_164
      clear x_165
      clear x_166
      clear x_167
      clear x_168
      clear x_169
      clear x_170
      clear x_171
      clear x_172
      clear lt_173
      have H_174 := Lib.hid (g_chain H_150.out hb)
      clear H_150
      have G_175 := Lib.hid (own_below G_151.out hb)
      clear G_151
      have R_176 := Lib.hid (R_152.out.below hb)
      clear R_152
      have BG_177 := Lib.hid (BG_153.out.below hb)
      clear BG_153
      have BR_178 := Lib.hid (BR_154.out.below hb)
      clear BR_154
      have Y_179 := Lib.hid (Y_155.out.below hb)
      clear Y_155
      have BY_180 := Lib.hid (BY_156.out.below hb)
      clear BY_156
      have O_181 := Lib.hid (O_157.out.below hb)
      clear O_157
      have BO_182 := Lib.hid (BO_158.out.below hb)
      clear BO_158
      have T_183 := Lib.hid (T_159.out.below hb)
      clear T_159
      have BT_184 := Lib.hid (BT_160.out.below hb)
      clear BT_160
      have sz_185 := Lib.hid (Below.size hb)
      clear hb
      have x_186 := BG_177.out.cell (i := 0) rfl
      have x_187 := BG_177.out.cell (i := 1) rfl
      have lt_188 := BG_177.out.lt
      have x_189 := BY_180.out.cell (i := 0) rfl
      have x_190 := BY_180.out.cell (i := 1) rfl
      have x_191 := BY_180.out.cell (i := 2) rfl
      have x_192 := BY_180.out.cell (i := 3) rfl
      have x_193 := BY_180.out.cell (i := 4) rfl
      have x_194 := BY_180.out.cell (i := 5) rfl
      have x_195 := BY_180.out.cell (i := 6) rfl
      have x_196 := BY_180.out.cell (i := 7) rfl
      have lt_197 := BY_180.out.lt
      have x_198 := BR_178.out.cell (i := 0) rfl
      have x_199 := BR_178.out.cell (i := 1) rfl
      have x_200 := BR_178.out.cell (i := 2) rfl
      have x_201 := BR_178.out.cell (i := 3) rfl
      have x_202 := BR_178.out.cell (i := 4) rfl
      have x_203 := BR_178.out.cell (i := 5) rfl
      have x_204 := BR_178.out.cell (i := 6) rfl
      have x_205 := BR_178.out.cell (i := 7) rfl
      have lt_206 := BR_178.out.lt
      have hie := HIE.out
      have hwi := HWI.out
      have hyl := HYL.out
      go_wp2
      go_ret
      exact ⟨rfl, H_174.out⟩
  | true =>
    have CIb := Lib.hid (CI.out false (by rw [hdn]; rfl))
    simp only [Bool.false_eq_true, if_false] at CIb
    generalize noRun = y at CIb
    rw [hdn] at CIb CA1 CA3
    clear CI hrn
    have BR_24 : Hid (Blk wz1 (w1.heap.size + 1) #[.int .i64 r.p, .int .i64 r.s, .int .i64 r.it, .bool true, .slice A1 r.vs.length c1, .slice B1 r.ev.length d1, .int .i64 r.nn, .slice C1 r.nx.length k1] 32) := Lib.hid (by have h := BR_22.out; rw [hdn] at h; exact h)
    clear BR_22
    have x_25 := BG_20.out.cell (i := 0) rfl
    have x_26 := BG_20.out.cell (i := 1) rfl
    have lt_27 := BG_20.out.lt
    have x_28 := BR_24.out.cell (i := 0) rfl
    have x_29 := BR_24.out.cell (i := 1) rfl
    have x_30 := BR_24.out.cell (i := 2) rfl
    have x_31 := BR_24.out.cell (i := 3) rfl
    have x_32 := BR_24.out.cell (i := 4) rfl
    have x_33 := BR_24.out.cell (i := 5) rfl
    have x_34 := BR_24.out.cell (i := 6) rfl
    have x_35 := BR_24.out.cell (i := 7) rfl
    have lt_36 := BR_24.out.lt
    go_wp2_with fail
    refine (CIb.out _ H_17.out (SlG.of_own G_18.out rfl) _ R_19.out).mono ?_
    rintro e wm21 ⟨A2, c2, B2, d2, C2, k2, rfl, ho, hb⟩
    clear x_25
    clear x_26
    clear lt_27
    clear x_28
    clear x_29
    clear x_30
    clear x_31
    clear x_32
    clear x_33
    clear x_34
    clear x_35
    clear lt_36
    have H_37 := Lib.hid (g_chain H_17.out hb)
    clear H_17
    have G_38 := Lib.hid (own_below G_18.out hb)
    clear G_18
    have R_39 := Lib.hid (R_19.out.below hb)
    clear R_19
    have BG_40 := Lib.hid (BG_20.out.below hb)
    clear BG_20
    have BR_41 := Lib.hid (BR_24.out.below hb)
    clear BR_24
    have sz_42 := Lib.hid (Below.size hb)
    have Y_43 := Lib.hid (ho)
    clear ho hb
    have hb_44 := below_a1 wm21 (.cells #[.int .i64 y.p, .int .i64 y.s, .int .i64 y.it, .bool y.dn, .slice A2 y.vs.length c2, .slice B2 y.ev.length d2, .int .i64 y.nn, .slice C2 y.nx.length k2] 32)
    have sz_45 : Hid (wm21.heap.size = wm21.heap.size) := Lib.hid (by simp)
    have LT_46 := Lib.hid G_38.out.lt
    have sz_47 := Lib.hid BG_40.out.lt
    have sz_48 := Lib.hid BR_41.out.lt
    have H_49 := Lib.hid (g_chain H_37.out hb_44)
    clear H_37
    have G_50 := Lib.hid (own_below G_38.out hb_44)
    clear G_38
    have R_51 := Lib.hid (R_39.out.below hb_44)
    clear R_39
    have BG_52 := Lib.hid (BG_40.out.below hb_44)
    clear BG_40
    have BR_53 := Lib.hid (BR_41.out.below hb_44)
    clear BR_41
    have Y_54 := Lib.hid (Y_43.out.below hb_44)
    clear Y_43
    have sz_55 := Lib.hid (Below.size hb_44)
    clear hb_44
    have BY_56 : Hid (Blk (wm21.alloc (.cells #[.int .i64 y.p, .int .i64 y.s, .int .i64 y.it, .bool y.dn, .slice A2 y.vs.length c2, .slice B2 y.ev.length d2, .int .i64 y.nn, .slice C2 y.nx.length k2] 32)) (wm21.heap.size) #[.int .i64 y.p, .int .i64 y.s, .int .i64 y.it, .bool y.dn, .slice A2 y.vs.length c2, .slice B2 y.ev.length d2, .int .i64 y.nn, .slice C2 y.nx.length k2] 32) := Lib.hid (by have h := Blk.new wm21 #[.int .i64 y.p, .int .i64 y.s, .int .i64 y.it, .bool y.dn, .slice A2 y.vs.length c2, .slice B2 y.ev.length d2, .int .i64 y.nn, .slice C2 y.nx.length k2] 32; simpa using h)
    have sz_57 : Hid (wm21.heap.size + 1 ≤ (wm21.alloc (.cells #[.int .i64 y.p, .int .i64 y.s, .int .i64 y.it, .bool y.dn, .slice A2 y.vs.length c2, .slice B2 y.ev.length d2, .int .i64 y.nn, .slice C2 y.nx.length k2] 32)).heap.size) := Lib.hid (by simp)
    go_upto_region 5 with fail
    generalize hWW : (wm21.alloc (.cells #[.int .i64 y.p, .int .i64 y.s, .int .i64 y.it, .bool y.dn, .slice A2 y.vs.length c2, .slice B2 y.ev.length d2, .int .i64 y.nn, .slice C2 y.nx.length k2] 32)) = wz4 at H_49 G_50 R_51 BG_52 BR_53 Y_54 BY_56 sz_42 sz_45 sz_47 sz_48 sz_55 sz_57 ⊢
    clear hWW
    have x_58 := BG_52.out.cell (i := 0) rfl
    have x_59 := BG_52.out.cell (i := 1) rfl
    have lt_60 := BG_52.out.lt
    have x_61 := BR_53.out.cell (i := 0) rfl
    have x_62 := BR_53.out.cell (i := 1) rfl
    have x_63 := BR_53.out.cell (i := 2) rfl
    have x_64 := BR_53.out.cell (i := 3) rfl
    have x_65 := BR_53.out.cell (i := 4) rfl
    have x_66 := BR_53.out.cell (i := 5) rfl
    have x_67 := BR_53.out.cell (i := 6) rfl
    have x_68 := BR_53.out.cell (i := 7) rfl
    have lt_69 := BR_53.out.lt
    go_wp2_with fail
    refine (CA3.out _ H_49.out (SlG.of_own G_50.out rfl) _ R_51.out).mono ?_
    rintro e wm22 ⟨A3, c3, B3, d3, C3, k3, rfl, ho, hb⟩
    clear x_58
    clear x_59
    clear lt_60
    clear x_61
    clear x_62
    clear x_63
    clear x_64
    clear x_65
    clear x_66
    clear x_67
    clear x_68
    clear lt_69
    have H_70 := Lib.hid (g_chain H_49.out hb)
    clear H_49
    have G_71 := Lib.hid (own_below G_50.out hb)
    clear G_50
    have R_72 := Lib.hid (R_51.out.below hb)
    clear R_51
    have BG_73 := Lib.hid (BG_52.out.below hb)
    clear BG_52
    have BR_74 := Lib.hid (BR_53.out.below hb)
    clear BR_53
    have Y_75 := Lib.hid (Y_54.out.below hb)
    clear Y_54
    have BY_76 := Lib.hid (BY_56.out.below hb)
    clear BY_56
    have sz_77 := Lib.hid (Below.size hb)
    have O_78 := Lib.hid (ho)
    clear ho hb
    have hb_79 := below_a1 wm22 (.cells #[.int .i64 x.p, .int .i64 x.s, .int .i64 x.it, .bool x.dn, .slice A3 x.vs.length c3, .slice B3 x.ev.length d3, .int .i64 x.nn, .slice C3 x.nx.length k3] 32)
    have sz_80 : Hid (wm22.heap.size = wm22.heap.size) := Lib.hid (by simp)
    have LT_81 := Lib.hid G_71.out.lt
    have sz_82 := Lib.hid BG_73.out.lt
    have sz_83 := Lib.hid BR_74.out.lt
    have sz_84 := Lib.hid BY_76.out.lt
    have H_85 := Lib.hid (g_chain H_70.out hb_79)
    clear H_70
    have G_86 := Lib.hid (own_below G_71.out hb_79)
    clear G_71
    have R_87 := Lib.hid (R_72.out.below hb_79)
    clear R_72
    have BG_88 := Lib.hid (BG_73.out.below hb_79)
    clear BG_73
    have BR_89 := Lib.hid (BR_74.out.below hb_79)
    clear BR_74
    have Y_90 := Lib.hid (Y_75.out.below hb_79)
    clear Y_75
    have BY_91 := Lib.hid (BY_76.out.below hb_79)
    clear BY_76
    have O_92 := Lib.hid (O_78.out.below hb_79)
    clear O_78
    have sz_93 := Lib.hid (Below.size hb_79)
    clear hb_79
    have BO_94 : Hid (Blk (wm22.alloc (.cells #[.int .i64 x.p, .int .i64 x.s, .int .i64 x.it, .bool x.dn, .slice A3 x.vs.length c3, .slice B3 x.ev.length d3, .int .i64 x.nn, .slice C3 x.nx.length k3] 32)) (wm22.heap.size) #[.int .i64 x.p, .int .i64 x.s, .int .i64 x.it, .bool x.dn, .slice A3 x.vs.length c3, .slice B3 x.ev.length d3, .int .i64 x.nn, .slice C3 x.nx.length k3] 32) := Lib.hid (by have h := Blk.new wm22 #[.int .i64 x.p, .int .i64 x.s, .int .i64 x.it, .bool x.dn, .slice A3 x.vs.length c3, .slice B3 x.ev.length d3, .int .i64 x.nn, .slice C3 x.nx.length k3] 32; simpa using h)
    have sz_95 : Hid (wm22.heap.size + 1 ≤ (wm22.alloc (.cells #[.int .i64 x.p, .int .i64 x.s, .int .i64 x.it, .bool x.dn, .slice A3 x.vs.length c3, .slice B3 x.ev.length d3, .int .i64 x.nn, .slice C3 x.nx.length k3] 32)).heap.size) := Lib.hid (by simp)
    go_upto_region 8 with fail
    generalize hWW : (wm22.alloc (.cells #[.int .i64 x.p, .int .i64 x.s, .int .i64 x.it, .bool x.dn, .slice A3 x.vs.length c3, .slice B3 x.ev.length d3, .int .i64 x.nn, .slice C3 x.nx.length k3] 32)) = wz5 at H_85 G_86 R_87 BG_88 BR_89 Y_90 BY_91 O_92 BO_94 sz_80 sz_82 sz_83 sz_84 sz_93 sz_95 ⊢
    clear hWW
    go_cut [8] (fun (sa : Value) (wx : World) => ∃ (q : Nat) (A4 : Option Addr) (c4 : Nat) (B4 : Option Addr) (d4 : Nat) (C4 : Option Addr) (k4 : Nat), sa = .pointer (some ⟨q, 0, none⟩) ∧ Hid (Below wz5.heap.size wz5 wx) ∧ Hid (Blk wx q #[.int .i64 x.p, .int .i64 x.s, .int .i64 x.it, .bool x.dn, .slice A4 x.vs.length c4, .slice B4 x.ev.length d4, .int .i64 x.nn, .slice C4 x.nx.length k4] 32) ∧ Hid (Rows3 wx wz5.heap.size A4 x.vs.length c4 B4 x.ev.length d4 C4 x.nx.length k4 x.vs x.ev x.nx) ∧ Hid (wz5.heap.size ≤ q ∧ q < wx.heap.size))
    case first =>
      have HSF : ∀ W, Hid (Below wz5.heap.size wz5 W) → (W.cell? ⟨w1.heap.size, 0, none⟩ = some (.int .i64 (N : Int)) ∧ W.cell? ⟨w1.heap.size, 1, none⟩ = some (.slice B es.length d) ∧ W.cell? ⟨w1.heap.size + 1, 0, none⟩ = some (.int .i64 r.p) ∧ W.cell? ⟨w1.heap.size + 1, 1, none⟩ = some (.int .i64 r.s) ∧ W.cell? ⟨w1.heap.size + 1, 2, none⟩ = some (.int .i64 r.it) ∧ W.cell? ⟨w1.heap.size + 1, 3, none⟩ = some (.bool true) ∧ W.cell? ⟨w1.heap.size + 1, 4, none⟩ = some (.slice A1 r.vs.length c1) ∧ W.cell? ⟨w1.heap.size + 1, 5, none⟩ = some (.slice B1 r.ev.length d1) ∧ W.cell? ⟨w1.heap.size + 1, 6, none⟩ = some (.int .i64 r.nn) ∧ W.cell? ⟨w1.heap.size + 1, 7, none⟩ = some (.slice C1 r.nx.length k1)) := fun W HR => ⟨(BG_88.out.below HR.out).cell (i := 0) rfl, (BG_88.out.below HR.out).cell (i := 1) rfl, (BR_89.out.below HR.out).cell (i := 0) rfl, (BR_89.out.below HR.out).cell (i := 1) rfl, (BR_89.out.below HR.out).cell (i := 2) rfl, (BR_89.out.below HR.out).cell (i := 3) rfl, (BR_89.out.below HR.out).cell (i := 4) rfl, (BR_89.out.below HR.out).cell (i := 5) rfl, (BR_89.out.below HR.out).cell (i := 6) rfl, (BR_89.out.below HR.out).cell (i := 7) rfl⟩
      have HR : Hid (Below wz5.heap.size wz5 wz5.drew) := Lib.hid (Below.refl _ _).drew
      refine wp_region_any (by kernel_rfl) ?_
      change wpAny _ _ _ _ _ _ _ (World.drew _)
      refine wpAny_of_held (S := fun W => W.cell? ⟨w1.heap.size, 0, none⟩ = some (.int .i64 (N : Int)) ∧ W.cell? ⟨w1.heap.size, 1, none⟩ = some (.slice B es.length d) ∧ W.cell? ⟨w1.heap.size + 1, 0, none⟩ = some (.int .i64 r.p) ∧ W.cell? ⟨w1.heap.size + 1, 1, none⟩ = some (.int .i64 r.s) ∧ W.cell? ⟨w1.heap.size + 1, 2, none⟩ = some (.int .i64 r.it) ∧ W.cell? ⟨w1.heap.size + 1, 3, none⟩ = some (.bool true) ∧ W.cell? ⟨w1.heap.size + 1, 4, none⟩ = some (.slice A1 r.vs.length c1) ∧ W.cell? ⟨w1.heap.size + 1, 5, none⟩ = some (.slice B1 r.ev.length d1) ∧ W.cell? ⟨w1.heap.size + 1, 6, none⟩ = some (.int .i64 r.nn) ∧ W.cell? ⟨w1.heap.size + 1, 7, none⟩ = some (.slice C1 r.nx.length k1)) _ _ _ _ ?_
      generalize hDD : World.drew wz5 = W at HR ⊢
      clear hDD
      refine wpAnyH_take (i := 0) (oi := ⟨_, _, _, _, _, _⟩) (v := .agg #[.int .i64 (N : Int), .slice B es.length d]) rfl (by kernel_rfl) (by kernel_rfl) (by kernel_rfl) (fun _ _ _ h => h) (Or.inl ⟨by kernel_rfl, fun W hS => by (obtain ⟨s0, s1, s2, s3, s4, s5, s6, s7, s8, s9⟩ := hS); go_simp⟩) (HSF _ HR) ?_
      (try simp only [Act.put, List.setIfInBounds_toArray, List.set_cons_zero, List.set_cons_succ])
      refine wpAnyH_take (i := 1) (oi := ⟨_, _, _, _, _, _⟩) (v := .agg #[.int .i64 (N : Int), .slice B es.length d]) rfl (by kernel_rfl) (by kernel_rfl) (by kernel_rfl) (fun _ _ _ h => h) (Or.inl ⟨by kernel_rfl, fun W hS => by (obtain ⟨s0, s1, s2, s3, s4, s5, s6, s7, s8, s9⟩ := hS); go_simp⟩) (HSF _ HR) ?_
      (try simp only [Act.put, List.setIfInBounds_toArray, List.set_cons_zero, List.set_cons_succ])
      refine wpAnyH_take (i := 2) (oi := ⟨_, _, _, _, _, _⟩) (v := .agg #[.int .i64 r.p, .int .i64 r.s, .int .i64 r.it, .bool true, .slice A1 r.vs.length c1, .slice B1 r.ev.length d1, .int .i64 r.nn, .slice C1 r.nx.length k1]) rfl (by kernel_rfl) (by kernel_rfl) (by kernel_rfl) (fun _ _ _ h => h) (Or.inl ⟨by kernel_rfl, fun W hS => by (obtain ⟨s0, s1, s2, s3, s4, s5, s6, s7, s8, s9⟩ := hS); go_simp⟩) (HSF _ HR) ?_
      (try simp only [Act.put, List.setIfInBounds_toArray, List.set_cons_zero, List.set_cons_succ])
      refine (fun (Grb2_1 : ∀ (W : World) (A5 : Option Addr) (c5 : Nat) (B5 : Option Addr) (d5 : Nat) (C5 : Option Addr) (k5 : Nat) (A4 : Option Addr) (c4 : Nat) (B4 : Option Addr) (d4 : Nat) (C4 : Option Addr) (k4 : Nat) (q : Nat), Hid (Below wz5.heap.size wz5 W) → Hid (Rows3 W wz5.heap.size A4 x.vs.length c4 B4 x.ev.length d4 C4 x.nx.length k4 x.vs x.ev x.nx) → Hid (Blk W q #[.int .i64 0, .int .i64 0, .int .i64 0, .bool false, .slice none 0 0, .slice none 0 0, .int .i64 0, .slice none 0 0] 32) → Hid (wz5.heap.size ≤ q) → (?Xrb2_1 : World → (Option Addr) → Nat → (Option Addr) → Nat → (Option Addr) → Nat → (Option Addr) → Nat → (Option Addr) → Nat → (Option Addr) → Nat → Nat → Prop) W A5 c5 B5 d5 C5 k5 A4 c4 B4 d4 C4 k4 q) => ?_) ?_
      rotate_left
      refine (fun (Grb2_0 : ∀ (W : World) (A5 : Option Addr) (c5 : Nat) (B5 : Option Addr) (d5 : Nat) (C5 : Option Addr) (k5 : Nat) (A4 : Option Addr) (c4 : Nat) (B4 : Option Addr) (d4 : Nat) (C4 : Option Addr) (k4 : Nat), Hid (Below wz5.heap.size wz5 W) → Hid (Rows3 W wz5.heap.size A4 x.vs.length c4 B4 x.ev.length d4 C4 x.nx.length k4 x.vs x.ev x.nx) → (?Xrb2_0 : World → (Option Addr) → Nat → (Option Addr) → Nat → (Option Addr) → Nat → (Option Addr) → Nat → (Option Addr) → Nat → (Option Addr) → Nat → Prop) W A5 c5 B5 d5 C5 k5 A4 c4 B4 d4 C4 k4) => ?_) ?_
      rotate_left
      refine (fun (Grb1_1 : ∀ (W : World) (A5 : Option Addr) (c5 : Nat) (B5 : Option Addr) (d5 : Nat) (C5 : Option Addr) (k5 : Nat) (q : Nat), Hid (Below wz5.heap.size wz5 W) → Hid (Rows3 W wz5.heap.size A5 r1.vs.length c5 B5 r1.ev.length d5 C5 r1.nx.length k5 r1.vs r1.ev r1.nx) → Hid (Blk W q #[.int .i64 0, .int .i64 0, .int .i64 0, .bool false, .slice none 0 0, .slice none 0 0, .int .i64 0, .slice none 0 0] 32) → Hid (wz5.heap.size ≤ q) → (?Xrb1_1 : World → (Option Addr) → Nat → (Option Addr) → Nat → (Option Addr) → Nat → Nat → Prop) W A5 c5 B5 d5 C5 k5 q) => ?_) ?_
      rotate_left
      refine (fun (Grb1_0 : ∀ (W : World) (A5 : Option Addr) (c5 : Nat) (B5 : Option Addr) (d5 : Nat) (C5 : Option Addr) (k5 : Nat), Hid (Below wz5.heap.size wz5 W) → Hid (Rows3 W wz5.heap.size A5 r1.vs.length c5 B5 r1.ev.length d5 C5 r1.nx.length k5 r1.vs r1.ev r1.nx) → (?Xrb1_0 : World → (Option Addr) → Nat → (Option Addr) → Nat → (Option Addr) → Nat → Prop) W A5 c5 B5 d5 C5 k5) => ?_) ?_
      rotate_left
      refine (fun (Grb0_1 : ∀ (W : World) (q : Nat), Hid (Below wz5.heap.size wz5 W) → Hid (Blk W q #[.int .i64 0, .int .i64 0, .int .i64 0, .bool false, .slice none 0 0, .slice none 0 0, .int .i64 0, .slice none 0 0] 32) → Hid (wz5.heap.size ≤ q) → (?Xrb0_1 : World → Nat → Prop) W q) => ?_) ?_
      rotate_left
      change wpAnyH _ _ _ _ _ _ #[true, true, true, false, false, false, false] _ _
      refine wpAnyH_ready (rs := [3, 5]) (by kernel_rfl) (by simp) (AllReadyH.cons rfl (fun K hK => ?_) (AllReadyH.cons rfl (fun K hK => ?_) AllReadyH.nil))
      · skip
        go_simp
        go_at_call 10
        refine (CA1.out W (g_chain H_85.out HR.out) (SlG.of_own (own_below G_86.out HR.out) rfl) _ (Rows3.below R_87.out HR.out)).mono ?_
        rintro e W2 ⟨A5, c5, B5, d5, C5, k5, rfl, ho, hb⟩
        have O1 : Hid (Rows3 W2 wz5.heap.size A5 r1.vs.length c5 B5 r1.ev.length d5 C5 r1.nx.length k5 r1.vs r1.ev r1.nx) := Lib.hid (Rows3.mono ho (Below.size HR.out))
        have HR := Lib.hid (g_chain HR.out hb)
        clear hb
        dsimp only
        refine hK.out _ _ (HSF _ HR) (fun _ => ?_)
        clear hK K
        (try simp only [List.setIfInBounds_toArray, List.set_cons_zero, List.set_cons_succ])
        change wpAnyH _ _ _ _ _ _ #[true, true, true, true, false, false, false] _ _
        exact Grb1_0 W2 A5 c5 B5 d5 C5 k5 HR O1
      · skip
        go_simp
        have hb := below_a1 W (.cells #[.int .i64 0, .int .i64 0, .int .i64 0, .bool false, .slice none 0 0, .slice none 0 0, .int .i64 0, .slice none 0 0] 32)
        have Zq : Hid (Blk (W.alloc (.cells #[.int .i64 0, .int .i64 0, .int .i64 0, .bool false, .slice none 0 0, .slice none 0 0, .int .i64 0, .slice none 0 0] 32)) W.heap.size #[.int .i64 0, .int .i64 0, .int .i64 0, .bool false, .slice none 0 0, .slice none 0 0, .int .i64 0, .slice none 0 0] 32) := Lib.hid (Blk.new W #[.int .i64 0, .int .i64 0, .int .i64 0, .bool false, .slice none 0 0, .slice none 0 0, .int .i64 0, .slice none 0 0] 32)
        have HQq : Hid (wz5.heap.size ≤ W.heap.size) := Lib.hid (Below.size HR.out)
        have HR := Lib.hid (g_chain HR.out hb)
        clear hb
        refine hK.out _ _ (HSF _ HR) (fun _ => ?_)
        clear hK K
        (try simp only [List.setIfInBounds_toArray, List.set_cons_zero, List.set_cons_succ])
        generalize hZ : W.alloc (.cells #[.int .i64 0, .int .i64 0, .int .i64 0, .bool false, .slice none 0 0, .slice none 0 0, .int .i64 0, .slice none 0 0] 32) = W2 at Zq HR ⊢
        clear hZ
        generalize hZ : W.heap.size = q at Zq HQq ⊢
        clear hZ
        change wpAnyH _ _ _ _ _ _ #[true, true, true, false, false, true, false] _ _
        exact Grb0_1 W2 q HR Zq HQq
      · intro W q HR Zq HQq
        change wpAnyH _ _ _ _ _ _ #[true, true, true, false, false, true, false] _ _
        refine wpAnyH_ready (rs := [3]) (by kernel_rfl) (by simp) (AllReadyH.cons rfl (fun K hK => ?_) AllReadyH.nil)
        · skip
          go_simp
          go_at_call 10
          refine (CA1.out W (g_chain H_85.out HR.out) (SlG.of_own (own_below G_86.out HR.out) rfl) _ (Rows3.below R_87.out HR.out)).mono ?_
          rintro e W2 ⟨A5, c5, B5, d5, C5, k5, rfl, ho, hb⟩
          have Zq : Hid (Blk W2 q #[.int .i64 0, .int .i64 0, .int .i64 0, .bool false, .slice none 0 0, .slice none 0 0, .int .i64 0, .slice none 0 0] 32) := Lib.hid (Zq.out.below hb)
          have HQq : Hid (wz5.heap.size ≤ q) := Lib.hid (HQq.out)
          have O1 : Hid (Rows3 W2 wz5.heap.size A5 r1.vs.length c5 B5 r1.ev.length d5 C5 r1.nx.length k5 r1.vs r1.ev r1.nx) := Lib.hid (Rows3.mono ho (Below.size HR.out))
          have HR := Lib.hid (g_chain HR.out hb)
          clear hb
          dsimp only
          refine hK.out _ _ (HSF _ HR) (fun _ => ?_)
          clear hK K
          (try simp only [List.setIfInBounds_toArray, List.set_cons_zero, List.set_cons_succ])
          change wpAnyH _ _ _ _ _ _ #[true, true, true, true, false, true, false] _ _
          exact Grb1_1 W2 A5 c5 B5 d5 C5 k5 q HR O1 Zq HQq
      · intro W A5 c5 B5 d5 C5 k5 HR O1
        change wpAnyH _ _ _ _ _ _ #[true, true, true, true, false, false, false] _ _
        refine wpAnyH_ready (rs := [4, 5]) (by kernel_rfl) (by simp) (AllReadyH.cons rfl (fun K hK => ?_) (AllReadyH.cons rfl (fun K hK => ?_) AllReadyH.nil))
        · skip
          go_simp
          go_at_call 10
          refine (CA2.out W (g_chain H_85.out HR.out) (SlG.of_own (own_below G_86.out HR.out) rfl) _ _ _ _ _ _ _ O1.out).mono ?_
          rintro e W2 ⟨A4, c4, B4, d4, C4, k4, rfl, ho, hb⟩
          have O2 : Hid (Rows3 W2 wz5.heap.size A4 x.vs.length c4 B4 x.ev.length d4 C4 x.nx.length k4 x.vs x.ev x.nx) := Lib.hid (Rows3.mono ho (Below.size HR.out))
          have HR := Lib.hid (g_chain HR.out hb)
          clear hb
          dsimp only
          refine hK.out _ _ (HSF _ HR) (fun _ => ?_)
          clear hK K
          (try simp only [List.setIfInBounds_toArray, List.set_cons_zero, List.set_cons_succ])
          change wpAnyH _ _ _ _ _ _ #[true, true, true, true, true, false, false] _ _
          exact Grb2_0 W2 A5 c5 B5 d5 C5 k5 A4 c4 B4 d4 C4 k4 HR O2
        · skip
          go_simp
          have hb := below_a1 W (.cells #[.int .i64 0, .int .i64 0, .int .i64 0, .bool false, .slice none 0 0, .slice none 0 0, .int .i64 0, .slice none 0 0] 32)
          have O1 : Hid (Rows3 (W.alloc (.cells #[.int .i64 0, .int .i64 0, .int .i64 0, .bool false, .slice none 0 0, .slice none 0 0, .int .i64 0, .slice none 0 0] 32)) wz5.heap.size A5 r1.vs.length c5 B5 r1.ev.length d5 C5 r1.nx.length k5 r1.vs r1.ev r1.nx) := Lib.hid (O1.out.below hb)
          have Zq : Hid (Blk (W.alloc (.cells #[.int .i64 0, .int .i64 0, .int .i64 0, .bool false, .slice none 0 0, .slice none 0 0, .int .i64 0, .slice none 0 0] 32)) W.heap.size #[.int .i64 0, .int .i64 0, .int .i64 0, .bool false, .slice none 0 0, .slice none 0 0, .int .i64 0, .slice none 0 0] 32) := Lib.hid (Blk.new W #[.int .i64 0, .int .i64 0, .int .i64 0, .bool false, .slice none 0 0, .slice none 0 0, .int .i64 0, .slice none 0 0] 32)
          have HQq : Hid (wz5.heap.size ≤ W.heap.size) := Lib.hid (Below.size HR.out)
          have HR := Lib.hid (g_chain HR.out hb)
          clear hb
          refine hK.out _ _ (HSF _ HR) (fun _ => ?_)
          clear hK K
          (try simp only [List.setIfInBounds_toArray, List.set_cons_zero, List.set_cons_succ])
          generalize hZ : W.alloc (.cells #[.int .i64 0, .int .i64 0, .int .i64 0, .bool false, .slice none 0 0, .slice none 0 0, .int .i64 0, .slice none 0 0] 32) = W2 at O1 Zq HR ⊢
          clear hZ
          generalize hZ : W.heap.size = q at Zq HQq ⊢
          clear hZ
          change wpAnyH _ _ _ _ _ _ #[true, true, true, true, false, true, false] _ _
          exact Grb1_1 W2 A5 c5 B5 d5 C5 k5 q HR O1 Zq HQq
      · intro W A5 c5 B5 d5 C5 k5 q HR O1 Zq HQq
        change wpAnyH _ _ _ _ _ _ #[true, true, true, true, false, true, false] _ _
        refine wpAnyH_ready (rs := [4]) (by kernel_rfl) (by simp) (AllReadyH.cons rfl (fun K hK => ?_) AllReadyH.nil)
        · skip
          go_simp
          go_at_call 10
          refine (CA2.out W (g_chain H_85.out HR.out) (SlG.of_own (own_below G_86.out HR.out) rfl) _ _ _ _ _ _ _ O1.out).mono ?_
          rintro e W2 ⟨A4, c4, B4, d4, C4, k4, rfl, ho, hb⟩
          have Zq : Hid (Blk W2 q #[.int .i64 0, .int .i64 0, .int .i64 0, .bool false, .slice none 0 0, .slice none 0 0, .int .i64 0, .slice none 0 0] 32) := Lib.hid (Zq.out.below hb)
          have HQq : Hid (wz5.heap.size ≤ q) := Lib.hid (HQq.out)
          have O2 : Hid (Rows3 W2 wz5.heap.size A4 x.vs.length c4 B4 x.ev.length d4 C4 x.nx.length k4 x.vs x.ev x.nx) := Lib.hid (Rows3.mono ho (Below.size HR.out))
          have HR := Lib.hid (g_chain HR.out hb)
          clear hb
          dsimp only
          refine hK.out _ _ (HSF _ HR) (fun _ => ?_)
          clear hK K
          (try simp only [List.setIfInBounds_toArray, List.set_cons_zero, List.set_cons_succ])
          change wpAnyH _ _ _ _ _ _ #[true, true, true, true, true, true, false] _ _
          exact Grb2_1 W2 A5 c5 B5 d5 C5 k5 A4 c4 B4 d4 C4 k4 q HR O2 Zq HQq
      · intro W A5 c5 B5 d5 C5 k5 A4 c4 B4 d4 C4 k4 HR O2
        change wpAnyH _ _ _ _ _ _ #[true, true, true, true, true, false, false] _ _
        refine wpAnyH_ready (rs := [5]) (by kernel_rfl) (by simp) (AllReadyH.cons rfl (fun K hK => ?_) AllReadyH.nil)
        · skip
          go_simp
          have hb := below_a1 W (.cells #[.int .i64 0, .int .i64 0, .int .i64 0, .bool false, .slice none 0 0, .slice none 0 0, .int .i64 0, .slice none 0 0] 32)
          have O2 : Hid (Rows3 (W.alloc (.cells #[.int .i64 0, .int .i64 0, .int .i64 0, .bool false, .slice none 0 0, .slice none 0 0, .int .i64 0, .slice none 0 0] 32)) wz5.heap.size A4 x.vs.length c4 B4 x.ev.length d4 C4 x.nx.length k4 x.vs x.ev x.nx) := Lib.hid (O2.out.below hb)
          have Zq : Hid (Blk (W.alloc (.cells #[.int .i64 0, .int .i64 0, .int .i64 0, .bool false, .slice none 0 0, .slice none 0 0, .int .i64 0, .slice none 0 0] 32)) W.heap.size #[.int .i64 0, .int .i64 0, .int .i64 0, .bool false, .slice none 0 0, .slice none 0 0, .int .i64 0, .slice none 0 0] 32) := Lib.hid (Blk.new W #[.int .i64 0, .int .i64 0, .int .i64 0, .bool false, .slice none 0 0, .slice none 0 0, .int .i64 0, .slice none 0 0] 32)
          have HQq : Hid (wz5.heap.size ≤ W.heap.size) := Lib.hid (Below.size HR.out)
          have HR := Lib.hid (g_chain HR.out hb)
          clear hb
          refine hK.out _ _ (HSF _ HR) (fun _ => ?_)
          clear hK K
          (try simp only [List.setIfInBounds_toArray, List.set_cons_zero, List.set_cons_succ])
          generalize hZ : W.alloc (.cells #[.int .i64 0, .int .i64 0, .int .i64 0, .bool false, .slice none 0 0, .slice none 0 0, .int .i64 0, .slice none 0 0] 32) = W2 at O2 Zq HR ⊢
          clear hZ
          generalize hZ : W.heap.size = q at Zq HQq ⊢
          clear hZ
          change wpAnyH _ _ _ _ _ _ #[true, true, true, true, true, true, false] _ _
          exact Grb2_1 W2 A5 c5 B5 d5 C5 k5 A4 c4 B4 d4 C4 k4 q HR O2 Zq HQq
      · intro W A5 c5 B5 d5 C5 k5 A4 c4 B4 d4 C4 k4 q HR O2 Zq HQq
        change wpAnyH _ _ _ _ _ _ #[true, true, true, true, true, true, false] _ _
        refine wpAnyH_ready (rs := [6]) (by kernel_rfl) (by simp) (AllReadyH.cons rfl (fun K hK => ?_) AllReadyH.nil)
        obtain ⟨zl, z0, z1, z2, z3, z4, z5, z6, z7⟩ := Zq.out.eight
        obtain ⟨f0, f1, f2, f3, f4, f5, f6, f7⟩ := Zq.out.eightF
        go_simp
        clear z0 z1 z2 z3 z4 z5 z6 z7 f0 f1 f2 f3 f4 f5 f6 f7
        have hgr := layR_grown W q (.int .i64 x.p) (.int .i64 x.s) (.int .i64 x.it) (.bool x.dn) (.slice A4 x.vs.length c4) (.slice B4 x.ev.length d4) (.int .i64 x.nn) (.slice C4 x.nx.length k4)
        have EBG := Lib.hid ((BG_88.out.below HR.out).grown hgr (by intro e; injection e with e; have h1 := HQq.out; have h2 := BG_88.out.lt; omega))
        have EBR := Lib.hid ((BR_89.out.below HR.out).grown hgr (by intro e; injection e with e; have h1 := HQq.out; have h2 := BR_89.out.lt; omega))
        refine hK.out _ _ ⟨EBG.out.cell (i := 0) rfl, EBG.out.cell (i := 1) rfl, EBR.out.cell (i := 0) rfl, EBR.out.cell (i := 1) rfl, EBR.out.cell (i := 2) rfl, EBR.out.cell (i := 3) rfl, EBR.out.cell (i := 4) rfl, EBR.out.cell (i := 5) rfl, EBR.out.cell (i := 6) rfl, EBR.out.cell (i := 7) rfl⟩ (fun _ => ?_)
        clear hK K
        (try simp only [List.setIfInBounds_toArray, List.set_cons_zero, List.set_cons_succ])
        refine wpAnyH_done (by kernel_rfl) ?_ _
        go_wp2_with fail
        go_meet
        exact ⟨q, A4, c4, B4, d4, C4, k4, rfl, Lib.hid (HR.out.grown hgr (Below.size HR.out) (fun j hj => by injection hj with hj; have h1 := HQq.out; omega)), Lib.hid (layR_blk Zq.out), Lib.hid (O2.out.past hgr Zq.out (by decide) (by decide)), Lib.hid ⟨HQq.out, Nat.lt_of_lt_of_le zl hgr.size⟩⟩
    case rest =>
      rename World => wt9
      obtain ⟨q9, A4, c4, B4, d4, C4, k4, rfl, hb, hx9, ho9, hq9⟩ := hcut
      have H_96 := Lib.hid (g_chain H_85.out hb.out)
      clear H_85
      have G_97 := Lib.hid (own_below G_86.out hb.out)
      clear G_86
      have R_98 := Lib.hid (R_87.out.below hb.out)
      clear R_87
      have BG_99 := Lib.hid (BG_88.out.below hb.out)
      clear BG_88
      have BR_100 := Lib.hid (BR_89.out.below hb.out)
      clear BR_89
      have Y_101 := Lib.hid (Y_90.out.below hb.out)
      clear Y_90
      have BY_102 := Lib.hid (BY_91.out.below hb.out)
      clear BY_91
      have O_103 := Lib.hid (O_92.out.below hb.out)
      clear O_92
      have BO_104 := Lib.hid (BO_94.out.below hb.out)
      clear BO_94
      have sz_105 := Lib.hid (Below.size hb.out)
      have sq1 := Lib.hid hq9.out.1
      have sq2 := Lib.hid hq9.out.2
      have T_106 := Lib.hid (ho9.out)
      have BT_107 := Lib.hid (hx9.out)
      clear hb hx9 ho9 hq9
      have x_108 := BO_104.out.cell (i := 0) rfl
      have x_109 := BO_104.out.cell (i := 1) rfl
      have x_110 := BO_104.out.cell (i := 2) rfl
      have x_111 := BO_104.out.cell (i := 3) rfl
      have x_112 := BO_104.out.cell (i := 4) rfl
      have x_113 := BO_104.out.cell (i := 5) rfl
      have x_114 := BO_104.out.cell (i := 6) rfl
      have x_115 := BO_104.out.cell (i := 7) rfl
      have lt_116 := BO_104.out.lt
      have x_117 := BT_107.out.cell (i := 0) rfl
      have x_118 := BT_107.out.cell (i := 1) rfl
      have x_119 := BT_107.out.cell (i := 2) rfl
      have x_120 := BT_107.out.cell (i := 3) rfl
      have x_121 := BT_107.out.cell (i := 4) rfl
      have x_122 := BT_107.out.cell (i := 5) rfl
      have x_123 := BT_107.out.cell (i := 6) rfl
      have x_124 := BT_107.out.cell (i := 7) rfl
      have lt_125 := BT_107.out.lt
      go_wp2_with fail
      refine (sameRun_any x.p x.s x.it x.dn A3 x.vs.length c3 B3 x.ev.length d3 x.nn C3 x.nx.length k3 A4 c4 B4 d4 C4 k4 x.vs x.ev x.nx _ (SlI.of_own O_103.out.v) (SlI.of_own O_103.out.e) (Rd.of_own O_103.out.x HX.out.2) (SlI.of_own T_106.out.v) (SlI.of_own T_106.out.e) (Rd.of_own T_106.out.x HX.out.2) (by have := HXL.out; omega) (by have := HXL.out; omega)).mono ?_
      rintro e w23 ⟨rfl, hb⟩
      clear x_108
      clear x_109
      clear x_110
      clear x_111
      clear x_112
      clear x_113
      clear x_114
      clear x_115
      clear lt_116
      clear x_117
      clear x_118
      clear x_119
      clear x_120
      clear x_121
      clear x_122
      clear x_123
      clear x_124
      clear lt_125
      have H_126 := Lib.hid (g_chain H_96.out hb)
      clear H_96
      have G_127 := Lib.hid (own_below G_97.out hb)
      clear G_97
      have R_128 := Lib.hid (R_98.out.below hb)
      clear R_98
      have BG_129 := Lib.hid (BG_99.out.below hb)
      clear BG_99
      have BR_130 := Lib.hid (BR_100.out.below hb)
      clear BR_100
      have Y_131 := Lib.hid (Y_101.out.below hb)
      clear Y_101
      have BY_132 := Lib.hid (BY_102.out.below hb)
      clear BY_102
      have O_133 := Lib.hid (O_103.out.below hb)
      clear O_103
      have BO_134 := Lib.hid (BO_104.out.below hb)
      clear BO_104
      have T_135 := Lib.hid (T_106.out.below hb)
      clear T_106
      have BT_136 := Lib.hid (BT_107.out.below hb)
      clear BT_107
      have sz_137 := Lib.hid (Below.size hb)
      clear hb
      have x_138 := BG_129.out.cell (i := 0) rfl
      have x_139 := BG_129.out.cell (i := 1) rfl
      have lt_140 := BG_129.out.lt
      have x_141 := BO_134.out.cell (i := 0) rfl
      have x_142 := BO_134.out.cell (i := 1) rfl
      have x_143 := BO_134.out.cell (i := 2) rfl
      have x_144 := BO_134.out.cell (i := 3) rfl
      have x_145 := BO_134.out.cell (i := 4) rfl
      have x_146 := BO_134.out.cell (i := 5) rfl
      have x_147 := BO_134.out.cell (i := 6) rfl
      have x_148 := BO_134.out.cell (i := 7) rfl
      have lt_149 := BO_134.out.lt
      go_wp2_with fail
      refine (CO.out _ H_126.out (SlG.of_own G_127.out rfl) _ _ _ _ _ _ _ O_133.out).mono ?_
      rintro e w24 ⟨rfl, hb⟩
      clear x_138
      clear x_139
      clear lt_140
      clear x_141
      clear x_142
      clear x_143
      clear x_144
      clear x_145
      clear x_146
      clear x_147
      clear x_148
      clear lt_149
      have H_150 := Lib.hid (g_chain H_126.out hb)
      clear H_126
      have G_151 := Lib.hid (own_below G_127.out hb)
      clear G_127
      have R_152 := Lib.hid (R_128.out.below hb)
      clear R_128
      have BG_153 := Lib.hid (BG_129.out.below hb)
      clear BG_129
      have BR_154 := Lib.hid (BR_130.out.below hb)
      clear BR_130
      have Y_155 := Lib.hid (Y_131.out.below hb)
      clear Y_131
      have BY_156 := Lib.hid (BY_132.out.below hb)
      clear BY_132
      have O_157 := Lib.hid (O_133.out.below hb)
      clear O_133
      have BO_158 := Lib.hid (BO_134.out.below hb)
      clear BO_134
      have T_159 := Lib.hid (T_135.out.below hb)
      clear T_135
      have BT_160 := Lib.hid (BT_136.out.below hb)
      clear BT_136
      have sz_161 := Lib.hid (Below.size hb)
      clear hb
      go_wp2
      go_ret
      exact ⟨rfl, H_150.out⟩
end Go.Proofs.YtlhcobkncceodaaGreatDoor
