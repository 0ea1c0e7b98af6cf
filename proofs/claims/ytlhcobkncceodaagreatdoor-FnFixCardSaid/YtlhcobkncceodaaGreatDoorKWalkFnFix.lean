/- The walk of the law FnFix: it returns true and writes nothing that was there. Condition: none (the law itself stops at 2^20 bytes). -/
import Derived.Test.YtlhcobkncceodaaGreatDoorCGJ
import Derived.Test.YtlhcobkncceodaaGreatDoorCGM
import Derived.Deep.Cut
import Derived.Deep.RegionHeld3
import Derived.Deep.RegionWith
namespace Go.Proofs.YtlhcobkncceodaaGreatDoor
open Go.RowKit
set_option linter.unusedVariables false

set_option maxRecDepth 20000 in
set_option maxHeartbeats 16000000 in
theorem walkFnFix (A : Option Addr) (n c : Nat) (xs : List Nat) (w : World) (hr : Rd w A n xs) (_hnc : n ≤ c) (_hcm : c ≤ maxLen) (hw : Wts w) :
    Calls Tryz.prog 3 #[.slice A n c] w fun e w' => e = .returned (.bool true) ∧ Below w.heap.size w w' := by
  by_cases hbig : n ≤ 1048576
  rotate_left
  · go_enter Tryz.func3, Tryz.ntmps3
    go_wp2
    go_ret
    exact ⟨rfl, Below.refl _ _⟩
  have C0 := Lib.hid (makeRun A n c xs w hr hbig)
  have HW := Lib.hid hw
  clear hr hw
  go_enter Tryz.func3, Tryz.ntmps3
  go_wp2_with fail
  refine C0.out.mono ?_
  rintro e w1 ⟨N, es, B, d, p, s, k, r, A1, c1, B1, d1, C1, k1, ⟨hN1, hk4, hgb, hjb, hl13, hre⟩, rfl, hown, hr3, hbl⟩
  have hR := all_run k _ (newR_ok hgb hjb) (newR_small p s)
  have hC := all_calm k _ (newR_ok hgb hjb) (newR_small p s) (newR_lab p s) (newR_calm hgb)
  have hit : r.it ≤ 3 := by
    have h1 := all_it_le (N : Int) es k (newR (N : Int) es p s)
    have h2 : (newR (N : Int) es p s).it = 0 := rfl
    rw [hre]
    omega
  rw [← hre] at hR hC
  have hi0 := hR.1.i
  have HR := Lib.hid hR
  have HCL := Lib.hid hC
  have HNN := Lib.hid hR.1.nn
  have HRL := Lib.hid (ops_lim hR.1)
  have HGB := Lib.hid hgb
  clear C0 hC hjb hre
  have HS0 := Lib.hid hbl.size
  have H_1 := Lib.hid (hbl)
  have G_2 := Lib.hid (hown)
  have R_3 := Lib.hid (hr3)
  clear hbl hown hr3
  have hb_4 := below_a1 w1 (.cells #[.int .i64 (N : Int), .slice B es.length d] 25)
  have sz_5 : Hid (w1.heap.size = w1.heap.size) := Lib.hid (by simp)
  have LT_6 := Lib.hid G_2.out.lt
  have H_7 := Lib.hid (g_chain H_1.out hb_4)
  clear H_1
  have G_8 := Lib.hid (own_below G_2.out hb_4)
  clear G_2
  have R_9 := Lib.hid (R_3.out.below hb_4)
  clear R_3
  have sz_10 := Lib.hid (Below.size hb_4)
  clear hb_4
  have BG_11 : Hid (Blk (w1.alloc (.cells #[.int .i64 (N : Int), .slice B es.length d] 25)) (w1.heap.size) #[.int .i64 (N : Int), .slice B es.length d] 25) := Lib.hid (by have h := Blk.new w1 #[.int .i64 (N : Int), .slice B es.length d] 25; simpa using h)
  have sz_12 : Hid (w1.heap.size + 1 ≤ (w1.alloc (.cells #[.int .i64 (N : Int), .slice B es.length d] 25)).heap.size) := Lib.hid (by simp)
  have hb_13 := below_a1 (w1.alloc (.cells #[.int .i64 (N : Int), .slice B es.length d] 25)) (.cells #[.int .i64 r.p, .int .i64 r.s, .int .i64 r.it, .bool r.dn, .slice A1 r.vs.length c1, .slice B1 r.ev.length d1, .int .i64 r.nn, .slice C1 r.nx.length k1] 32)
  have sz_14 : Hid ((w1.alloc (.cells #[.int .i64 (N : Int), .slice B es.length d] 25)).heap.size = w1.heap.size + 1) := Lib.hid (by simp)
  have LT_15 := Lib.hid G_8.out.lt
  have sz_16 := Lib.hid BG_11.out.lt
  have H_17 := Lib.hid (g_chain H_7.out hb_13)
  clear H_7
  have G_18 := Lib.hid (own_below G_8.out hb_13)
  clear G_8
  have R_19 := Lib.hid (R_9.out.below hb_13)
  clear R_9
  have BG_20 := Lib.hid (BG_11.out.below hb_13)
  clear BG_11
  have sz_21 := Lib.hid (Below.size hb_13)
  clear hb_13
  have BR_22 : Hid (Blk ((w1.alloc (.cells #[.int .i64 (N : Int), .slice B es.length d] 25)).alloc (.cells #[.int .i64 r.p, .int .i64 r.s, .int .i64 r.it, .bool r.dn, .slice A1 r.vs.length c1, .slice B1 r.ev.length d1, .int .i64 r.nn, .slice C1 r.nx.length k1] 32)) (w1.heap.size + 1) #[.int .i64 r.p, .int .i64 r.s, .int .i64 r.it, .bool r.dn, .slice A1 r.vs.length c1, .slice B1 r.ev.length d1, .int .i64 r.nn, .slice C1 r.nx.length k1] 32) := Lib.hid (by have h := Blk.new (w1.alloc (.cells #[.int .i64 (N : Int), .slice B es.length d] 25)) #[.int .i64 r.p, .int .i64 r.s, .int .i64 r.it, .bool r.dn, .slice A1 r.vs.length c1, .slice B1 r.ev.length d1, .int .i64 r.nn, .slice C1 r.nx.length k1] 32; simpa using h)
  have sz_23 : Hid (w1.heap.size + 1 + 1 ≤ ((w1.alloc (.cells #[.int .i64 (N : Int), .slice B es.length d] 25)).alloc (.cells #[.int .i64 r.p, .int .i64 r.s, .int .i64 r.it, .bool r.dn, .slice A1 r.vs.length c1, .slice B1 r.ev.length d1, .int .i64 r.nn, .slice C1 r.nx.length k1] 32)).heap.size) := Lib.hid (by simp)
  go_upto_region 4 with fail
  generalize hWW : ((w1.alloc (.cells #[.int .i64 (N : Int), .slice B es.length d] 25)).alloc (.cells #[.int .i64 r.p, .int .i64 r.s, .int .i64 r.it, .bool r.dn, .slice A1 r.vs.length c1, .slice B1 r.ev.length d1, .int .i64 r.nn, .slice C1 r.nx.length k1] 32)) = wz1 at H_17 G_18 R_19 BG_20 BR_22 sz_10 sz_12 sz_14 sz_16 sz_21 sz_23 ⊢
  clear hWW
  obtain ⟨x, hx⟩ : ∃ x, x = allR (N : Int) es r 12 := ⟨_, rfl⟩
  have hX := all_run 12 r hR.1 hR.2
  have hXC := all_calm 12 r hR.1 hR.2 HCL.out.2 HCL.out.1
  have hXI := all_it 12 r hR.1 hR.2 (by omega)
  have hXL := all_it_le (N : Int) es 12 r
  have CA := Lib.hid (fun W (h : Below w.heap.size w W) (hs : SlG W B es.length es) lo (hst : Rows3 W lo A1 r.vs.length c1 B1 r.ev.length d1 C1 r.nx.length k1 r.vs r.ev r.nx) => implAllR N B d es r 12 A1 c1 B1 d1 C1 k1 lo W (HW.out.below h) hR.1 hR.2 hs hl13 hst)
  have CS := Lib.hid (fun W (hs : SlG W B es.length es) lo (hst : Rows3 W lo A1 r.vs.length c1 B1 r.ev.length d1 C1 r.nx.length k1 r.vs r.ev r.nx) => specAllR N B d es r 12 A1 c1 B1 d1 C1 k1 lo W hR.1 hR.2 hs hl13 hst)
  unfold MadeRO at CA CS
  rw [← hx] at hX hXC hXI hXL CA CS
  have HX := Lib.hid hX
  have HXC := Lib.hid hXC
  have hxi := hX.1.i
  
  have HXL := Lib.hid (ops_lim hX.1)
  clear hX hXC hx hR
  have x_24 := BG_20.out.cell (i := 0) rfl
  have x_25 := BG_20.out.cell (i := 1) rfl
  have lt_26 := BG_20.out.lt
  have x_27 := BR_22.out.cell (i := 0) rfl
  have x_28 := BR_22.out.cell (i := 1) rfl
  have x_29 := BR_22.out.cell (i := 2) rfl
  have x_30 := BR_22.out.cell (i := 3) rfl
  have x_31 := BR_22.out.cell (i := 4) rfl
  have x_32 := BR_22.out.cell (i := 5) rfl
  have x_33 := BR_22.out.cell (i := 6) rfl
  have x_34 := BR_22.out.cell (i := 7) rfl
  have lt_35 := BR_22.out.lt
  go_wp2_with fail
  refine (CA.out _ H_17.out (SlG.of_own G_18.out rfl) _ R_19.out).mono ?_
  rintro e wm21 ⟨A2, c2, B2, d2, C2, k2, rfl, ho, hb⟩
  clear x_24
  clear x_25
  clear lt_26
  clear x_27
  clear x_28
  clear x_29
  clear x_30
  clear x_31
  clear x_32
  clear x_33
  clear x_34
  clear lt_35
  have H_36 := Lib.hid (g_chain H_17.out hb)
  clear H_17
  have G_37 := Lib.hid (own_below G_18.out hb)
  clear G_18
  have R_38 := Lib.hid (R_19.out.below hb)
  clear R_19
  have BG_39 := Lib.hid (BG_20.out.below hb)
  clear BG_20
  have BR_40 := Lib.hid (BR_22.out.below hb)
  clear BR_22
  have sz_41 := Lib.hid (Below.size hb)
  have X_42 := Lib.hid (ho)
  clear ho hb
  have hb_43 := below_a1 wm21 (.cells #[.int .i64 x.p, .int .i64 x.s, .int .i64 x.it, .bool x.dn, .slice A2 x.vs.length c2, .slice B2 x.ev.length d2, .int .i64 x.nn, .slice C2 x.nx.length k2] 32)
  have sz_44 : Hid (wm21.heap.size = wm21.heap.size) := Lib.hid (by simp)
  have LT_45 := Lib.hid G_37.out.lt
  have sz_46 := Lib.hid BG_39.out.lt
  have sz_47 := Lib.hid BR_40.out.lt
  have H_48 := Lib.hid (g_chain H_36.out hb_43)
  clear H_36
  have G_49 := Lib.hid (own_below G_37.out hb_43)
  clear G_37
  have R_50 := Lib.hid (R_38.out.below hb_43)
  clear R_38
  have BG_51 := Lib.hid (BG_39.out.below hb_43)
  clear BG_39
  have BR_52 := Lib.hid (BR_40.out.below hb_43)
  clear BR_40
  have X_53 := Lib.hid (X_42.out.below hb_43)
  clear X_42
  have sz_54 := Lib.hid (Below.size hb_43)
  clear hb_43
  have BX_55 : Hid (Blk (wm21.alloc (.cells #[.int .i64 x.p, .int .i64 x.s, .int .i64 x.it, .bool x.dn, .slice A2 x.vs.length c2, .slice B2 x.ev.length d2, .int .i64 x.nn, .slice C2 x.nx.length k2] 32)) (wm21.heap.size) #[.int .i64 x.p, .int .i64 x.s, .int .i64 x.it, .bool x.dn, .slice A2 x.vs.length c2, .slice B2 x.ev.length d2, .int .i64 x.nn, .slice C2 x.nx.length k2] 32) := Lib.hid (by have h := Blk.new wm21 #[.int .i64 x.p, .int .i64 x.s, .int .i64 x.it, .bool x.dn, .slice A2 x.vs.length c2, .slice B2 x.ev.length d2, .int .i64 x.nn, .slice C2 x.nx.length k2] 32; simpa using h)
  have sz_56 : Hid (wm21.heap.size + 1 ≤ (wm21.alloc (.cells #[.int .i64 x.p, .int .i64 x.s, .int .i64 x.it, .bool x.dn, .slice A2 x.vs.length c2, .slice B2 x.ev.length d2, .int .i64 x.nn, .slice C2 x.nx.length k2] 32)).heap.size) := Lib.hid (by simp)
  go_upto_region 5 with fail
  generalize hWW : (wm21.alloc (.cells #[.int .i64 x.p, .int .i64 x.s, .int .i64 x.it, .bool x.dn, .slice A2 x.vs.length c2, .slice B2 x.ev.length d2, .int .i64 x.nn, .slice C2 x.nx.length k2] 32)) = wz2 at H_48 G_49 R_50 BG_51 BR_52 X_53 BX_55 sz_41 sz_44 sz_46 sz_47 sz_54 sz_56 ⊢
  clear hWW
  have x_57 := BG_51.out.cell (i := 0) rfl
  have x_58 := BG_51.out.cell (i := 1) rfl
  have lt_59 := BG_51.out.lt
  have x_60 := BR_52.out.cell (i := 0) rfl
  have x_61 := BR_52.out.cell (i := 1) rfl
  have x_62 := BR_52.out.cell (i := 2) rfl
  have x_63 := BR_52.out.cell (i := 3) rfl
  have x_64 := BR_52.out.cell (i := 4) rfl
  have x_65 := BR_52.out.cell (i := 5) rfl
  have x_66 := BR_52.out.cell (i := 6) rfl
  have x_67 := BR_52.out.cell (i := 7) rfl
  have lt_68 := BR_52.out.lt
  go_wp2_with fail
  refine (CS.out _ (SlG.of_own G_49.out rfl) _ R_50.out).mono ?_
  rintro e wm22 ⟨A3, c3, B3, d3, C3, k3, rfl, ho, hb⟩
  clear x_57
  clear x_58
  clear lt_59
  clear x_60
  clear x_61
  clear x_62
  clear x_63
  clear x_64
  clear x_65
  clear x_66
  clear x_67
  clear lt_68
  have H_69 := Lib.hid (g_chain H_48.out hb)
  clear H_48
  have G_70 := Lib.hid (own_below G_49.out hb)
  clear G_49
  have R_71 := Lib.hid (R_50.out.below hb)
  clear R_50
  have BG_72 := Lib.hid (BG_51.out.below hb)
  clear BG_51
  have BR_73 := Lib.hid (BR_52.out.below hb)
  clear BR_52
  have X_74 := Lib.hid (X_53.out.below hb)
  clear X_53
  have BX_75 := Lib.hid (BX_55.out.below hb)
  clear BX_55
  have sz_76 := Lib.hid (Below.size hb)
  have Q_77 := Lib.hid (ho)
  clear ho hb
  have hb_78 := below_a1 wm22 (.cells #[.int .i64 x.p, .int .i64 x.s, .int .i64 x.it, .bool x.dn, .slice A3 x.vs.length c3, .slice B3 x.ev.length d3, .int .i64 x.nn, .slice C3 x.nx.length k3] 32)
  have sz_79 : Hid (wm22.heap.size = wm22.heap.size) := Lib.hid (by simp)
  have LT_80 := Lib.hid G_70.out.lt
  have sz_81 := Lib.hid BG_72.out.lt
  have sz_82 := Lib.hid BR_73.out.lt
  have sz_83 := Lib.hid BX_75.out.lt
  have H_84 := Lib.hid (g_chain H_69.out hb_78)
  clear H_69
  have G_85 := Lib.hid (own_below G_70.out hb_78)
  clear G_70
  have R_86 := Lib.hid (R_71.out.below hb_78)
  clear R_71
  have BG_87 := Lib.hid (BG_72.out.below hb_78)
  clear BG_72
  have BR_88 := Lib.hid (BR_73.out.below hb_78)
  clear BR_73
  have X_89 := Lib.hid (X_74.out.below hb_78)
  clear X_74
  have BX_90 := Lib.hid (BX_75.out.below hb_78)
  clear BX_75
  have Q_91 := Lib.hid (Q_77.out.below hb_78)
  clear Q_77
  have sz_92 := Lib.hid (Below.size hb_78)
  clear hb_78
  have BQ_93 : Hid (Blk (wm22.alloc (.cells #[.int .i64 x.p, .int .i64 x.s, .int .i64 x.it, .bool x.dn, .slice A3 x.vs.length c3, .slice B3 x.ev.length d3, .int .i64 x.nn, .slice C3 x.nx.length k3] 32)) (wm22.heap.size) #[.int .i64 x.p, .int .i64 x.s, .int .i64 x.it, .bool x.dn, .slice A3 x.vs.length c3, .slice B3 x.ev.length d3, .int .i64 x.nn, .slice C3 x.nx.length k3] 32) := Lib.hid (by have h := Blk.new wm22 #[.int .i64 x.p, .int .i64 x.s, .int .i64 x.it, .bool x.dn, .slice A3 x.vs.length c3, .slice B3 x.ev.length d3, .int .i64 x.nn, .slice C3 x.nx.length k3] 32; simpa using h)
  have sz_94 : Hid (wm22.heap.size + 1 ≤ (wm22.alloc (.cells #[.int .i64 x.p, .int .i64 x.s, .int .i64 x.it, .bool x.dn, .slice A3 x.vs.length c3, .slice B3 x.ev.length d3, .int .i64 x.nn, .slice C3 x.nx.length k3] 32)).heap.size) := Lib.hid (by simp)
  go_upto_region 6 with fail
  generalize hWW : (wm22.alloc (.cells #[.int .i64 x.p, .int .i64 x.s, .int .i64 x.it, .bool x.dn, .slice A3 x.vs.length c3, .slice B3 x.ev.length d3, .int .i64 x.nn, .slice C3 x.nx.length k3] 32)) = wz3 at H_84 G_85 R_86 BG_87 BR_88 X_89 BX_90 Q_91 BQ_93 sz_79 sz_81 sz_82 sz_83 sz_92 sz_94 ⊢
  clear hWW
  have x_95 := BX_90.out.cell (i := 0) rfl
  have x_96 := BX_90.out.cell (i := 1) rfl
  have x_97 := BX_90.out.cell (i := 2) rfl
  have x_98 := BX_90.out.cell (i := 3) rfl
  have x_99 := BX_90.out.cell (i := 4) rfl
  have x_100 := BX_90.out.cell (i := 5) rfl
  have x_101 := BX_90.out.cell (i := 6) rfl
  have x_102 := BX_90.out.cell (i := 7) rfl
  have lt_103 := BX_90.out.lt
  have x_104 := BQ_93.out.cell (i := 0) rfl
  have x_105 := BQ_93.out.cell (i := 1) rfl
  have x_106 := BQ_93.out.cell (i := 2) rfl
  have x_107 := BQ_93.out.cell (i := 3) rfl
  have x_108 := BQ_93.out.cell (i := 4) rfl
  have x_109 := BQ_93.out.cell (i := 5) rfl
  have x_110 := BQ_93.out.cell (i := 6) rfl
  have x_111 := BQ_93.out.cell (i := 7) rfl
  have lt_112 := BQ_93.out.lt
  go_wp2_with fail
  refine (sameRun_any x.p x.s x.it x.dn A2 x.vs.length c2 B2 x.ev.length d2 x.nn C2 x.nx.length k2 A3 c3 B3 d3 C3 k3 x.vs x.ev x.nx _ (SlI.of_own X_89.out.v) (SlI.of_own X_89.out.e) (Rd.of_own X_89.out.x HX.out.2) (SlI.of_own Q_91.out.v) (SlI.of_own Q_91.out.e) (Rd.of_own Q_91.out.x HX.out.2) (by have := HXL.out; omega) (by have := HXL.out; omega)).mono ?_
  rintro e w23 ⟨rfl, hb⟩
  clear x_95
  clear x_96
  clear x_97
  clear x_98
  clear x_99
  clear x_100
  clear x_101
  clear x_102
  clear lt_103
  clear x_104
  clear x_105
  clear x_106
  clear x_107
  clear x_108
  clear x_109
  clear x_110
  clear x_111
  clear lt_112
  have H_113 := Lib.hid (g_chain H_84.out hb)
  clear H_84
  have G_114 := Lib.hid (own_below G_85.out hb)
  clear G_85
  have R_115 := Lib.hid (R_86.out.below hb)
  clear R_86
  have BG_116 := Lib.hid (BG_87.out.below hb)
  clear BG_87
  have BR_117 := Lib.hid (BR_88.out.below hb)
  clear BR_88
  have X_118 := Lib.hid (X_89.out.below hb)
  clear X_89
  have BX_119 := Lib.hid (BX_90.out.below hb)
  clear BX_90
  have Q_120 := Lib.hid (Q_91.out.below hb)
  clear Q_91
  have BQ_121 := Lib.hid (BQ_93.out.below hb)
  clear BQ_93
  have sz_122 := Lib.hid (Below.size hb)
  clear hb
  cases hdn : x.dn with
  | false =>
    have CO := Lib.hid (fun W (h : Below w.heap.size w W) (hs : SlG W B es.length es) lo (hst : Rows3 W lo A2 x.vs.length c2 B2 x.ev.length d2 C2 x.nx.length k2 x.vs x.ev x.nx) => implOkR N B d es x A2 c2 B2 d2 C2 k2 lo W (HW.out.below h) HX.out.1 HX.out.2 hs hl13 hst)
    rw [hdn] at CO
    have hie : (x.it == r.it + 12) = true := by have := hXI hdn; simp; omega
    have hwi : IntKind.i64.wrap (r.it + 12) = r.it + 12 := IntWalk.i64_in _ (by omega)
    have x_123 := BG_116.out.cell (i := 0) rfl
    have x_124 := BG_116.out.cell (i := 1) rfl
    have lt_125 := BG_116.out.lt
    have x_126 := BR_117.out.cell (i := 0) rfl
    have x_127 := BR_117.out.cell (i := 1) rfl
    have x_128 := BR_117.out.cell (i := 2) rfl
    have x_129 := BR_117.out.cell (i := 3) rfl
    have x_130 := BR_117.out.cell (i := 4) rfl
    have x_131 := BR_117.out.cell (i := 5) rfl
    have x_132 := BR_117.out.cell (i := 6) rfl
    have x_133 := BR_117.out.cell (i := 7) rfl
    have lt_134 := BR_117.out.lt
    have x_135 := BX_119.out.cell (i := 0) rfl
    have x_136 := BX_119.out.cell (i := 1) rfl
    have x_137 := BX_119.out.cell (i := 2) rfl
    have x_138 := BX_119.out.cell (i := 3) rfl
    have x_139 := BX_119.out.cell (i := 4) rfl
    have x_140 := BX_119.out.cell (i := 5) rfl
    have x_141 := BX_119.out.cell (i := 6) rfl
    have x_142 := BX_119.out.cell (i := 7) rfl
    have lt_143 := BX_119.out.lt
    rw [hdn] at x_138
    clear hXI hXL hdn
    go_wp2_with fail
    refine (CO.out _ H_113.out (SlG.of_own G_114.out rfl) _ X_118.out).mono ?_
    rintro e w24 ⟨rfl, hb⟩
    clear x_123
    clear x_124
    clear lt_125
    clear x_126
    clear x_127
    clear x_128
    clear x_129
    clear x_130
    clear x_131
    clear x_132
    clear x_133
    clear lt_134
    clear x_135
    clear x_136
    clear x_137
    clear x_138
    clear x_139
    clear x_140
    clear x_141
    clear x_142
    clear lt_143
    have H_144 := Lib.hid (g_chain H_113.out hb)
    clear H_113
    have G_145 := Lib.hid (own_below G_114.out hb)
    clear G_114
    have R_146 := Lib.hid (R_115.out.below hb)
    clear R_115
    have BG_147 := Lib.hid (BG_116.out.below hb)
    clear BG_116
    have BR_148 := Lib.hid (BR_117.out.below hb)
    clear BR_117
    have X_149 := Lib.hid (X_118.out.below hb)
    clear X_118
    have BX_150 := Lib.hid (BX_119.out.below hb)
    clear BX_119
    have Q_151 := Lib.hid (Q_120.out.below hb)
    clear Q_120
    have BQ_152 := Lib.hid (BQ_121.out.below hb)
    clear BQ_121
    have sz_153 := Lib.hid (Below.size hb)
    clear hb
    go_wp2
    go_ret
    exact ⟨rfl, H_144.out⟩
  | true =>
    have hN150 := HX.out.1.n150
    have hfix := fix_with HX.out.1 (by omega) HXC.out.1 hdn (by omega) (newX (N : Int) true) (newX_ok hN150 true) (fun u hu => by rw [newX_bit hN150]; simp [hu])
    have hRP := (iterB_iff.1 hfix.1).1
    have HYI : Hid ((iterR (N : Int) es ⟨x.p, x.s, x.it, false, x.vs, x.ev, (N : Int), newX (N : Int) true⟩).it = x.it + 1) := Lib.hid rfl
    have CI := Lib.hid (fun W (h : Below w.heap.size w W) (hs : SlG W B es.length es) C9 k9 lo (hst : Rows3 W lo A2 x.vs.length c2 B2 x.ev.length d2 C2 x.nx.length k2 x.vs x.ev x.nx) (hx : Rd W C9 (newX (N : Int) true).length (newX (N : Int) true)) => implIterR N B d es x.p x.s x.it false x.vs x.ev (newX (N : Int) true) A2 c2 B2 d2 C9 k9 W (HW.out.below h) hRP hs hl13 (SlI.of_own hst.v) (SlI.of_own hst.e) hx true (by simp; omega))
    unfold MadeRB at CI
    simp only [if_true] at CI
    obtain ⟨-, hyd, hyv, hye⟩ := hfix
    have hyi := HYI.out
    generalize iterR (N : Int) es ⟨x.p, x.s, x.it, false, x.vs, x.ev, (N : Int), newX (N : Int) true⟩ = y at CI hyd hyv hye hyi
    clear HYI
    obtain ⟨yp, ys, yi, yd, yv, ye, yn, yx⟩ := y
    simp only at hyd hyv hye hyi CI
    subst hyd hyv hye hyi
    have CN := Lib.hid (fun W => specSetNew (N : Int) true W (WalkArith.wf_i64 (by omega)))
    unfold MadeSB at CN
    rw [show newN (N : Int) = (N : Int) by unfold newN newB; rw [if_pos (by simp; omega)]] at CN
    have hwx : IntKind.i64.wrap (x.it + 1) = x.it + 1 := IntWalk.i64_in _ (by omega)
    clear hRP hXI hXL
    have x_154 := BG_116.out.cell (i := 0) rfl
    have x_155 := BG_116.out.cell (i := 1) rfl
    have lt_156 := BG_116.out.lt
    have x_157 := BX_119.out.cell (i := 0) rfl
    have x_158 := BX_119.out.cell (i := 1) rfl
    have x_159 := BX_119.out.cell (i := 2) rfl
    have x_160 := BX_119.out.cell (i := 3) rfl
    have x_161 := BX_119.out.cell (i := 4) rfl
    have x_162 := BX_119.out.cell (i := 5) rfl
    have x_163 := BX_119.out.cell (i := 6) rfl
    have x_164 := BX_119.out.cell (i := 7) rfl
    have lt_165 := BX_119.out.lt
    rw [hdn] at x_160
    go_wp2_with fail
    refine (CN.out _).mono ?_
    rintro e wm25 ⟨C9, k9, rfl, ho, hb⟩
    clear x_154
    clear x_155
    clear lt_156
    clear x_157
    clear x_158
    clear x_159
    clear x_160
    clear x_161
    clear x_162
    clear x_163
    clear x_164
    clear lt_165
    have H_166 := Lib.hid (g_chain H_113.out hb)
    clear H_113
    have G_167 := Lib.hid (own_below G_114.out hb)
    clear G_114
    have R_168 := Lib.hid (R_115.out.below hb)
    clear R_115
    have BG_169 := Lib.hid (BG_116.out.below hb)
    clear BG_116
    have BR_170 := Lib.hid (BR_117.out.below hb)
    clear BR_117
    have X_171 := Lib.hid (X_118.out.below hb)
    clear X_118
    have BX_172 := Lib.hid (BX_119.out.below hb)
    clear BX_119
    have Q_173 := Lib.hid (Q_120.out.below hb)
    clear Q_120
    have BQ_174 := Lib.hid (BQ_121.out.below hb)
    clear BQ_121
    have sz_175 := Lib.hid (Below.size hb)
    have S_176 := Lib.hid (ho)
    clear ho hb CN
    have hb_177 := below_a1 wm25 (.cells #[.int .i64 (N : Int), .slice C9 (newX (N : Int) true).length k9] 30)
    have sz_178 : Hid (wm25.heap.size = wm25.heap.size) := Lib.hid (by simp)
    have LT_179 := Lib.hid G_167.out.lt
    have sz_180 := Lib.hid BG_169.out.lt
    have sz_181 := Lib.hid BR_170.out.lt
    have sz_182 := Lib.hid BX_172.out.lt
    have sz_183 := Lib.hid BQ_174.out.lt
    have LT_184 := Lib.hid S_176.out.lt
    have H_185 := Lib.hid (g_chain H_166.out hb_177)
    clear H_166
    have G_186 := Lib.hid (own_below G_167.out hb_177)
    clear G_167
    have R_187 := Lib.hid (R_168.out.below hb_177)
    clear R_168
    have BG_188 := Lib.hid (BG_169.out.below hb_177)
    clear BG_169
    have BR_189 := Lib.hid (BR_170.out.below hb_177)
    clear BR_170
    have X_190 := Lib.hid (X_171.out.below hb_177)
    clear X_171
    have BX_191 := Lib.hid (BX_172.out.below hb_177)
    clear BX_172
    have Q_192 := Lib.hid (Q_173.out.below hb_177)
    clear Q_173
    have BQ_193 := Lib.hid (BQ_174.out.below hb_177)
    clear BQ_174
    have S_194 := Lib.hid (own_below S_176.out hb_177)
    clear S_176
    have sz_195 := Lib.hid (Below.size hb_177)
    clear hb_177
    have BS_196 : Hid (Blk (wm25.alloc (.cells #[.int .i64 (N : Int), .slice C9 (newX (N : Int) true).length k9] 30)) (wm25.heap.size) #[.int .i64 (N : Int), .slice C9 (newX (N : Int) true).length k9] 30) := Lib.hid (by have h := Blk.new wm25 #[.int .i64 (N : Int), .slice C9 (newX (N : Int) true).length k9] 30; simpa using h)
    have sz_197 : Hid (wm25.heap.size + 1 ≤ (wm25.alloc (.cells #[.int .i64 (N : Int), .slice C9 (newX (N : Int) true).length k9] 30)).heap.size) := Lib.hid (by simp)
    go_upto_region 11 with fail
    generalize hWW : (wm25.alloc (.cells #[.int .i64 (N : Int), .slice C9 (newX (N : Int) true).length k9] 30)) = wq at H_185 G_186 R_187 BG_188 BR_189 X_190 BX_191 Q_192 BQ_193 S_194 BS_196 sz_197 ⊢
    clear hWW
    have x_198 := BS_196.out.cell (i := 0) rfl
    have x_199 := BS_196.out.cell (i := 1) rfl
    have x_200 := BX_191.out.cell (i := 0) rfl
    have x_201 := BX_191.out.cell (i := 1) rfl
    have x_202 := BX_191.out.cell (i := 2) rfl
    have x_203 := BX_191.out.cell (i := 3) rfl
    have x_204 := BX_191.out.cell (i := 4) rfl
    have x_205 := BX_191.out.cell (i := 5) rfl
    have x_206 := BX_191.out.cell (i := 6) rfl
    have x_207 := BX_191.out.cell (i := 7) rfl
    rw [hdn] at x_203
    have fz_208 := fun i => BX_191.out.frozen i
    have lt_209 := BS_196.out.lt
    have lt_210 := BX_191.out.lt
    have lt_211 := BG_188.out.lt
    go_upto_region 13 with fail
    clear x_198 x_199 x_200 x_201 x_202 x_203 x_204 x_205 x_206 x_207 fz_208 lt_209 lt_210 lt_211
    have hg_212 := (grown_cell wq (wm21.heap.size) 6 (.int .i64 (N : Int))).trans (grown_cell (wq.setCell ⟨wm21.heap.size, 6, none⟩ (.int .i64 (N : Int))) (wm21.heap.size) 7 (.slice C9 (newX (N : Int) true).length k9))
    have H_213 := Lib.hid (H_185.out.grown hg_212 H_185.out.size (fun j hj => by injection hj with hj; have := HS0.out; have := sz_5.out; have := sz_10.out; have := sz_12.out; have := sz_14.out; have := sz_16.out; have := sz_21.out; have := sz_23.out; have := sz_41.out; have := sz_44.out; have := sz_46.out; have := sz_47.out; have := sz_54.out; have := sz_56.out; have := sz_76.out; have := sz_79.out; have := sz_81.out; have := sz_82.out; have := sz_83.out; have := sz_92.out; have := sz_94.out; have := sz_122.out; have := sz_175.out; have := sz_178.out; have := sz_180.out; have := sz_181.out; have := sz_182.out; have := sz_183.out; have := sz_195.out; have := sz_197.out; omega))
    clear H_185
    have G_214 := Lib.hid (own_kept G_186.out hg_212 (own_kind G_186.out BX_191.out (by decide)))
    clear G_186
    have R_215 := Lib.hid (R_187.out.past hg_212 BX_191.out (by decide) (by decide))
    clear R_187
    have BG_216 := Lib.hid (BG_188.out.grown hg_212 (by intro e; injection e with e; have := HS0.out; have := sz_5.out; have := sz_10.out; have := sz_12.out; have := sz_14.out; have := sz_16.out; have := sz_21.out; have := sz_23.out; have := sz_41.out; have := sz_44.out; have := sz_46.out; have := sz_47.out; have := sz_54.out; have := sz_56.out; have := sz_76.out; have := sz_79.out; have := sz_81.out; have := sz_82.out; have := sz_83.out; have := sz_92.out; have := sz_94.out; have := sz_122.out; have := sz_175.out; have := sz_178.out; have := sz_180.out; have := sz_181.out; have := sz_182.out; have := sz_183.out; have := sz_195.out; have := sz_197.out; omega))
    clear BG_188
    have BR_217 := Lib.hid (BR_189.out.grown hg_212 (by intro e; injection e with e; have := HS0.out; have := sz_5.out; have := sz_10.out; have := sz_12.out; have := sz_14.out; have := sz_16.out; have := sz_21.out; have := sz_23.out; have := sz_41.out; have := sz_44.out; have := sz_46.out; have := sz_47.out; have := sz_54.out; have := sz_56.out; have := sz_76.out; have := sz_79.out; have := sz_81.out; have := sz_82.out; have := sz_83.out; have := sz_92.out; have := sz_94.out; have := sz_122.out; have := sz_175.out; have := sz_178.out; have := sz_180.out; have := sz_181.out; have := sz_182.out; have := sz_183.out; have := sz_195.out; have := sz_197.out; omega))
    clear BR_189
    have X_218 := Lib.hid (X_190.out.past hg_212 BX_191.out (by decide) (by decide))
    clear X_190
    have Q_219 := Lib.hid (Q_192.out.past hg_212 BX_191.out (by decide) (by decide))
    clear Q_192
    have BQ_220 := Lib.hid (BQ_193.out.grown hg_212 (by intro e; injection e with e; have := HS0.out; have := sz_5.out; have := sz_10.out; have := sz_12.out; have := sz_14.out; have := sz_16.out; have := sz_21.out; have := sz_23.out; have := sz_41.out; have := sz_44.out; have := sz_46.out; have := sz_47.out; have := sz_54.out; have := sz_56.out; have := sz_76.out; have := sz_79.out; have := sz_81.out; have := sz_82.out; have := sz_83.out; have := sz_92.out; have := sz_94.out; have := sz_122.out; have := sz_175.out; have := sz_178.out; have := sz_180.out; have := sz_181.out; have := sz_182.out; have := sz_183.out; have := sz_195.out; have := sz_197.out; omega))
    clear BQ_193
    have S_221 := Lib.hid (own_kept S_194.out hg_212 (own_kind S_194.out BX_191.out (by decide)))
    clear S_194
    have BS_222 := Lib.hid (BS_196.out.grown hg_212 (by intro e; injection e with e; have := HS0.out; have := sz_5.out; have := sz_10.out; have := sz_12.out; have := sz_14.out; have := sz_16.out; have := sz_21.out; have := sz_23.out; have := sz_41.out; have := sz_44.out; have := sz_46.out; have := sz_47.out; have := sz_54.out; have := sz_56.out; have := sz_76.out; have := sz_79.out; have := sz_81.out; have := sz_82.out; have := sz_83.out; have := sz_92.out; have := sz_94.out; have := sz_122.out; have := sz_175.out; have := sz_178.out; have := sz_180.out; have := sz_181.out; have := sz_182.out; have := sz_183.out; have := sz_195.out; have := sz_197.out; omega))
    clear BS_196
    have BX_223 : Hid (Blk ((wq.setCell ⟨wm21.heap.size, 6, none⟩ (.int .i64 (N : Int))).setCell ⟨wm21.heap.size, 7, none⟩ (.slice C9 (newX (N : Int) true).length k9)) (wm21.heap.size) #[.int .i64 x.p, .int .i64 x.s, .int .i64 x.it, .bool x.dn, .slice A2 x.vs.length c2, .slice B2 x.ev.length d2, .int .i64 (N : Int), .slice C9 (newX (N : Int) true).length k9] 32) := Lib.hid (Blk.set (Blk.set (BX_191.out) 6 (.int .i64 (N : Int))) 7 (.slice C9 (newX (N : Int) true).length k9))
    clear BX_191
    have sz_224 := Lib.hid (World.grownBy.size hg_212)
    clear hg_212
    have hg_225 := grown_cell ((wq.setCell ⟨wm21.heap.size, 6, none⟩ (.int .i64 (N : Int))).setCell ⟨wm21.heap.size, 7, none⟩ (.slice C9 (newX (N : Int) true).length k9)) (wm21.heap.size) 3 (.bool false)
    have H_226 := Lib.hid (H_213.out.grown hg_225 H_213.out.size (fun j hj => by injection hj with hj; have := HS0.out; have := sz_5.out; have := sz_10.out; have := sz_12.out; have := sz_14.out; have := sz_16.out; have := sz_21.out; have := sz_23.out; have := sz_41.out; have := sz_44.out; have := sz_46.out; have := sz_47.out; have := sz_54.out; have := sz_56.out; have := sz_76.out; have := sz_79.out; have := sz_81.out; have := sz_82.out; have := sz_83.out; have := sz_92.out; have := sz_94.out; have := sz_122.out; have := sz_175.out; have := sz_178.out; have := sz_180.out; have := sz_181.out; have := sz_182.out; have := sz_183.out; have := sz_195.out; have := sz_197.out; have := sz_224.out; omega))
    clear H_213
    have G_227 := Lib.hid (own_kept G_214.out hg_225 (own_kind G_214.out BX_223.out (by decide)))
    clear G_214
    have R_228 := Lib.hid (R_215.out.past hg_225 BX_223.out (by decide) (by decide))
    clear R_215
    have BG_229 := Lib.hid (BG_216.out.grown hg_225 (by intro e; injection e with e; have := HS0.out; have := sz_5.out; have := sz_10.out; have := sz_12.out; have := sz_14.out; have := sz_16.out; have := sz_21.out; have := sz_23.out; have := sz_41.out; have := sz_44.out; have := sz_46.out; have := sz_47.out; have := sz_54.out; have := sz_56.out; have := sz_76.out; have := sz_79.out; have := sz_81.out; have := sz_82.out; have := sz_83.out; have := sz_92.out; have := sz_94.out; have := sz_122.out; have := sz_175.out; have := sz_178.out; have := sz_180.out; have := sz_181.out; have := sz_182.out; have := sz_183.out; have := sz_195.out; have := sz_197.out; have := sz_224.out; omega))
    clear BG_216
    have BR_230 := Lib.hid (BR_217.out.grown hg_225 (by intro e; injection e with e; have := HS0.out; have := sz_5.out; have := sz_10.out; have := sz_12.out; have := sz_14.out; have := sz_16.out; have := sz_21.out; have := sz_23.out; have := sz_41.out; have := sz_44.out; have := sz_46.out; have := sz_47.out; have := sz_54.out; have := sz_56.out; have := sz_76.out; have := sz_79.out; have := sz_81.out; have := sz_82.out; have := sz_83.out; have := sz_92.out; have := sz_94.out; have := sz_122.out; have := sz_175.out; have := sz_178.out; have := sz_180.out; have := sz_181.out; have := sz_182.out; have := sz_183.out; have := sz_195.out; have := sz_197.out; have := sz_224.out; omega))
    clear BR_217
    have X_231 := Lib.hid (X_218.out.past hg_225 BX_223.out (by decide) (by decide))
    clear X_218
    have Q_232 := Lib.hid (Q_219.out.past hg_225 BX_223.out (by decide) (by decide))
    clear Q_219
    have BQ_233 := Lib.hid (BQ_220.out.grown hg_225 (by intro e; injection e with e; have := HS0.out; have := sz_5.out; have := sz_10.out; have := sz_12.out; have := sz_14.out; have := sz_16.out; have := sz_21.out; have := sz_23.out; have := sz_41.out; have := sz_44.out; have := sz_46.out; have := sz_47.out; have := sz_54.out; have := sz_56.out; have := sz_76.out; have := sz_79.out; have := sz_81.out; have := sz_82.out; have := sz_83.out; have := sz_92.out; have := sz_94.out; have := sz_122.out; have := sz_175.out; have := sz_178.out; have := sz_180.out; have := sz_181.out; have := sz_182.out; have := sz_183.out; have := sz_195.out; have := sz_197.out; have := sz_224.out; omega))
    clear BQ_220
    have S_234 := Lib.hid (own_kept S_221.out hg_225 (own_kind S_221.out BX_223.out (by decide)))
    clear S_221
    have BS_235 := Lib.hid (BS_222.out.grown hg_225 (by intro e; injection e with e; have := HS0.out; have := sz_5.out; have := sz_10.out; have := sz_12.out; have := sz_14.out; have := sz_16.out; have := sz_21.out; have := sz_23.out; have := sz_41.out; have := sz_44.out; have := sz_46.out; have := sz_47.out; have := sz_54.out; have := sz_56.out; have := sz_76.out; have := sz_79.out; have := sz_81.out; have := sz_82.out; have := sz_83.out; have := sz_92.out; have := sz_94.out; have := sz_122.out; have := sz_175.out; have := sz_178.out; have := sz_180.out; have := sz_181.out; have := sz_182.out; have := sz_183.out; have := sz_195.out; have := sz_197.out; have := sz_224.out; omega))
    clear BS_222
    have BX_236 : Hid (Blk (((wq.setCell ⟨wm21.heap.size, 6, none⟩ (.int .i64 (N : Int))).setCell ⟨wm21.heap.size, 7, none⟩ (.slice C9 (newX (N : Int) true).length k9)).setCell ⟨wm21.heap.size, 3, none⟩ (.bool false)) (wm21.heap.size) #[.int .i64 x.p, .int .i64 x.s, .int .i64 x.it, .bool false, .slice A2 x.vs.length c2, .slice B2 x.ev.length d2, .int .i64 (N : Int), .slice C9 (newX (N : Int) true).length k9] 32) := Lib.hid (Blk.set (BX_223.out) 3 (.bool false))
    clear BX_223
    have sz_237 := Lib.hid (World.grownBy.size hg_225)
    clear hg_225
    generalize hWW : (((wq.setCell ⟨wm21.heap.size, 6, none⟩ (.int .i64 (N : Int))).setCell ⟨wm21.heap.size, 7, none⟩ (.slice C9 (newX (N : Int) true).length k9)).setCell ⟨wm21.heap.size, 3, none⟩ (.bool false)) = wr at H_226 G_227 R_228 BG_229 BR_230 X_231 BX_236 Q_232 BQ_233 S_234 BS_235 sz_237 ⊢
    clear hWW
    have x_238 := BG_229.out.cell (i := 0) rfl
    have x_239 := BG_229.out.cell (i := 1) rfl
    have lt_240 := BG_229.out.lt
    have x_241 := BX_236.out.cell (i := 0) rfl
    have x_242 := BX_236.out.cell (i := 1) rfl
    have x_243 := BX_236.out.cell (i := 2) rfl
    have x_244 := BX_236.out.cell (i := 3) rfl
    have x_245 := BX_236.out.cell (i := 4) rfl
    have x_246 := BX_236.out.cell (i := 5) rfl
    have x_247 := BX_236.out.cell (i := 6) rfl
    have x_248 := BX_236.out.cell (i := 7) rfl
    have lt_249 := BX_236.out.lt
    go_wp2_with fail
    refine (CI.out _ H_226.out (SlG.of_own G_227.out rfl) C9 k9 _ X_231.out (Rd.of_own S_234.out (newX_small _ _))).mono ?_
    rintro e wy8 ⟨A4, c4, B4, d4, C4, k4, rfl, ho, hb⟩
    clear x_238
    clear x_239
    clear lt_240
    clear x_241
    clear x_242
    clear x_243
    clear x_244
    clear x_245
    clear x_246
    clear x_247
    clear x_248
    clear lt_249
    have H_250 := Lib.hid (g_chain H_226.out hb)
    clear H_226
    have G_251 := Lib.hid (own_below G_227.out hb)
    clear G_227
    have R_252 := Lib.hid (R_228.out.below hb)
    clear R_228
    have BG_253 := Lib.hid (BG_229.out.below hb)
    clear BG_229
    have BR_254 := Lib.hid (BR_230.out.below hb)
    clear BR_230
    have X_255 := Lib.hid (X_231.out.below hb)
    clear X_231
    have BX_256 := Lib.hid (BX_236.out.below hb)
    clear BX_236
    have Q_257 := Lib.hid (Q_232.out.below hb)
    clear Q_232
    have BQ_258 := Lib.hid (BQ_233.out.below hb)
    clear BQ_233
    have S_259 := Lib.hid (own_below S_234.out hb)
    clear S_234
    have BS_260 := Lib.hid (BS_235.out.below hb)
    clear BS_235
    have sz_261 := Lib.hid (Below.size hb)
    have Y_262 := Lib.hid (ho)
    clear ho hb CI
    have hb_263 := below_a1 wy8 (.cells #[.int .i64 yp, .int .i64 ys, .int .i64 (x.it + 1), .bool true, .slice A4 x.vs.length c4, .slice B4 x.ev.length d4, .int .i64 yn, .slice C4 yx.length k4] 32)
    have sz_264 : Hid (wy8.heap.size = wy8.heap.size) := Lib.hid (by simp)
    have LT_265 := Lib.hid G_251.out.lt
    have sz_266 := Lib.hid BG_253.out.lt
    have sz_267 := Lib.hid BR_254.out.lt
    have sz_268 := Lib.hid BX_256.out.lt
    have sz_269 := Lib.hid BQ_258.out.lt
    have LT_270 := Lib.hid S_259.out.lt
    have sz_271 := Lib.hid BS_260.out.lt
    have H_272 := Lib.hid (g_chain H_250.out hb_263)
    clear H_250
    have G_273 := Lib.hid (own_below G_251.out hb_263)
    clear G_251
    have R_274 := Lib.hid (R_252.out.below hb_263)
    clear R_252
    have BG_275 := Lib.hid (BG_253.out.below hb_263)
    clear BG_253
    have BR_276 := Lib.hid (BR_254.out.below hb_263)
    clear BR_254
    have X_277 := Lib.hid (X_255.out.below hb_263)
    clear X_255
    have BX_278 := Lib.hid (BX_256.out.below hb_263)
    clear BX_256
    have Q_279 := Lib.hid (Q_257.out.below hb_263)
    clear Q_257
    have BQ_280 := Lib.hid (BQ_258.out.below hb_263)
    clear BQ_258
    have S_281 := Lib.hid (own_below S_259.out hb_263)
    clear S_259
    have BS_282 := Lib.hid (BS_260.out.below hb_263)
    clear BS_260
    have Y_283 := Lib.hid (Y_262.out.below hb_263)
    clear Y_262
    have sz_284 := Lib.hid (Below.size hb_263)
    clear hb_263
    have BY_285 : Hid (Blk (wy8.alloc (.cells #[.int .i64 yp, .int .i64 ys, .int .i64 (x.it + 1), .bool true, .slice A4 x.vs.length c4, .slice B4 x.ev.length d4, .int .i64 yn, .slice C4 yx.length k4] 32)) (wy8.heap.size) #[.int .i64 yp, .int .i64 ys, .int .i64 (x.it + 1), .bool true, .slice A4 x.vs.length c4, .slice B4 x.ev.length d4, .int .i64 yn, .slice C4 yx.length k4] 32) := Lib.hid (by have h := Blk.new wy8 #[.int .i64 yp, .int .i64 ys, .int .i64 (x.it + 1), .bool true, .slice A4 x.vs.length c4, .slice B4 x.ev.length d4, .int .i64 yn, .slice C4 yx.length k4] 32; simpa using h)
    have sz_286 : Hid (wy8.heap.size + 1 ≤ (wy8.alloc (.cells #[.int .i64 yp, .int .i64 ys, .int .i64 (x.it + 1), .bool true, .slice A4 x.vs.length c4, .slice B4 x.ev.length d4, .int .i64 yn, .slice C4 yx.length k4] 32)).heap.size) := Lib.hid (by simp)
    go_upto_region 14 with fail
    generalize hWW : (wy8.alloc (.cells #[.int .i64 yp, .int .i64 ys, .int .i64 (x.it + 1), .bool true, .slice A4 x.vs.length c4, .slice B4 x.ev.length d4, .int .i64 yn, .slice C4 yx.length k4] 32)) = wz4 at H_272 G_273 R_274 BG_275 BR_276 X_277 BX_278 Q_279 BQ_280 S_281 BS_282 Y_283 BY_285 sz_267 sz_268 sz_269 sz_271 sz_284 sz_286 ⊢
    clear hWW
    have x_287 := BY_285.out.cell (i := 0) rfl
    have x_288 := BY_285.out.cell (i := 1) rfl
    have x_289 := BY_285.out.cell (i := 2) rfl
    have x_290 := BY_285.out.cell (i := 3) rfl
    have x_291 := BY_285.out.cell (i := 4) rfl
    have x_292 := BY_285.out.cell (i := 5) rfl
    have x_293 := BY_285.out.cell (i := 6) rfl
    have x_294 := BY_285.out.cell (i := 7) rfl
    have lt_295 := BY_285.out.lt
    have x_296 := BX_278.out.cell (i := 0) rfl
    have x_297 := BX_278.out.cell (i := 1) rfl
    have x_298 := BX_278.out.cell (i := 2) rfl
    have x_299 := BX_278.out.cell (i := 3) rfl
    have x_300 := BX_278.out.cell (i := 4) rfl
    have x_301 := BX_278.out.cell (i := 5) rfl
    have x_302 := BX_278.out.cell (i := 6) rfl
    have x_303 := BX_278.out.cell (i := 7) rfl
    have lt_304 := BX_278.out.lt
    go_wp2_with fail
    refine (sameInts_any A4 A2 x.vs.length c4 c2 x.vs _ (SlI.of_own Y_283.out.v) (SlI.of_own X_277.out.v) (by have := HXL.out; omega)).mono ?_
    rintro e w26 ⟨rfl, hb⟩
    clear x_287
    clear x_288
    clear x_289
    clear x_290
    clear x_291
    clear x_292
    clear x_293
    clear x_294
    clear lt_295
    clear x_296
    clear x_297
    clear x_298
    clear x_299
    clear x_300
    clear x_301
    clear x_302
    clear x_303
    clear lt_304
    have H_305 := Lib.hid (g_chain H_272.out hb)
    clear H_272
    have G_306 := Lib.hid (own_below G_273.out hb)
    clear G_273
    have R_307 := Lib.hid (R_274.out.below hb)
    clear R_274
    have BG_308 := Lib.hid (BG_275.out.below hb)
    clear BG_275
    have BR_309 := Lib.hid (BR_276.out.below hb)
    clear BR_276
    have X_310 := Lib.hid (X_277.out.below hb)
    clear X_277
    have BX_311 := Lib.hid (BX_278.out.below hb)
    clear BX_278
    have Q_312 := Lib.hid (Q_279.out.below hb)
    clear Q_279
    have BQ_313 := Lib.hid (BQ_280.out.below hb)
    clear BQ_280
    have S_314 := Lib.hid (own_below S_281.out hb)
    clear S_281
    have BS_315 := Lib.hid (BS_282.out.below hb)
    clear BS_282
    have Y_316 := Lib.hid (Y_283.out.below hb)
    clear Y_283
    have BY_317 := Lib.hid (BY_285.out.below hb)
    clear BY_285
    have sz_318 := Lib.hid (Below.size hb)
    clear hb
    have x_319 := BY_317.out.cell (i := 0) rfl
    have x_320 := BY_317.out.cell (i := 1) rfl
    have x_321 := BY_317.out.cell (i := 2) rfl
    have x_322 := BY_317.out.cell (i := 3) rfl
    have x_323 := BY_317.out.cell (i := 4) rfl
    have x_324 := BY_317.out.cell (i := 5) rfl
    have x_325 := BY_317.out.cell (i := 6) rfl
    have x_326 := BY_317.out.cell (i := 7) rfl
    have lt_327 := BY_317.out.lt
    have x_328 := BX_311.out.cell (i := 0) rfl
    have x_329 := BX_311.out.cell (i := 1) rfl
    have x_330 := BX_311.out.cell (i := 2) rfl
    have x_331 := BX_311.out.cell (i := 3) rfl
    have x_332 := BX_311.out.cell (i := 4) rfl
    have x_333 := BX_311.out.cell (i := 5) rfl
    have x_334 := BX_311.out.cell (i := 6) rfl
    have x_335 := BX_311.out.cell (i := 7) rfl
    have lt_336 := BX_311.out.lt
    go_wp2_with fail
    refine (sameInts_any B4 B2 x.ev.length d4 d2 x.ev _ (SlI.of_own Y_316.out.e) (SlI.of_own X_310.out.e) (by have := HXL.out; omega)).mono ?_
    rintro e w27 ⟨rfl, hb⟩
    clear x_319
    clear x_320
    clear x_321
    clear x_322
    clear x_323
    clear x_324
    clear x_325
    clear x_326
    clear lt_327
    clear x_328
    clear x_329
    clear x_330
    clear x_331
    clear x_332
    clear x_333
    clear x_334
    clear x_335
    clear lt_336
    have H_337 := Lib.hid (g_chain H_305.out hb)
    clear H_305
    have G_338 := Lib.hid (own_below G_306.out hb)
    clear G_306
    have R_339 := Lib.hid (R_307.out.below hb)
    clear R_307
    have BG_340 := Lib.hid (BG_308.out.below hb)
    clear BG_308
    have BR_341 := Lib.hid (BR_309.out.below hb)
    clear BR_309
    have X_342 := Lib.hid (X_310.out.below hb)
    clear X_310
    have BX_343 := Lib.hid (BX_311.out.below hb)
    clear BX_311
    have Q_344 := Lib.hid (Q_312.out.below hb)
    clear Q_312
    have BQ_345 := Lib.hid (BQ_313.out.below hb)
    clear BQ_313
    have S_346 := Lib.hid (own_below S_314.out hb)
    clear S_314
    have BS_347 := Lib.hid (BS_315.out.below hb)
    clear BS_315
    have Y_348 := Lib.hid (Y_316.out.below hb)
    clear Y_316
    have BY_349 := Lib.hid (BY_317.out.below hb)
    clear BY_317
    have sz_350 := Lib.hid (Below.size hb)
    clear hb
    have x_351 := BY_349.out.cell (i := 0) rfl
    have x_352 := BY_349.out.cell (i := 1) rfl
    have x_353 := BY_349.out.cell (i := 2) rfl
    have x_354 := BY_349.out.cell (i := 3) rfl
    have x_355 := BY_349.out.cell (i := 4) rfl
    have x_356 := BY_349.out.cell (i := 5) rfl
    have x_357 := BY_349.out.cell (i := 6) rfl
    have x_358 := BY_349.out.cell (i := 7) rfl
    have lt_359 := BY_349.out.lt
    have x_360 := BX_343.out.cell (i := 0) rfl
    have x_361 := BX_343.out.cell (i := 1) rfl
    have x_362 := BX_343.out.cell (i := 2) rfl
    have x_363 := BX_343.out.cell (i := 3) rfl
    have x_364 := BX_343.out.cell (i := 4) rfl
    have x_365 := BX_343.out.cell (i := 5) rfl
    have x_366 := BX_343.out.cell (i := 6) rfl
    have x_367 := BX_343.out.cell (i := 7) rfl
    have lt_368 := BX_343.out.lt
    go_wp2
    go_ret
    exact ⟨rfl, H_337.out⟩
end Go.Proofs.YtlhcobkncceodaaGreatDoor
