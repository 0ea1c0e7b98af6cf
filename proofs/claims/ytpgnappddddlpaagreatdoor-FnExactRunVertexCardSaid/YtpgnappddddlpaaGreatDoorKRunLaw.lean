/- Runs in memory as arguments of the laws: the laws' helpers that measure one, copy it, compare two, leave marks in one and find them; the opening of one that came in. Condition: at most 2^20 numbers and bytes together. -/
import Derived.Test.YtpgnappddddlpaaGreatDoorCGC
import Derived.Test.YtpgnappddddlpaaGreatDoorCGD
import Derived.Test.YtpgnappddddlpaaGreatDoorCGB
namespace Go.Proofs.YtpgnappddddlpaaGreatDoor
open Go.RowKit
set_option linter.unusedVariables false

set_option maxHeartbeats 1000000 in
theorem szRun_any (r : RD) (A : Option Addr) (c : Nat) (B : Option Addr) (d : Nat) (C : Option Addr) (k : Nat) (left : Int) (w : World) (hv : r.vs.length ≤ maxLen) (he : r.ev.length ≤ maxLen) (hx : r.nx.length ≤ maxLen) (h0 : 0 ≤ left) (h1 : left ≤ 1048576) :
    Calls Tryz.prog 5 #[.agg #[.int .i64 r.p, .int .i64 r.s, .int .i64 r.it, .bool r.dn, .slice A r.vs.length c, .slice B r.ev.length d, .int .i64 r.nn, .slice C r.nx.length k], .int .i64 left] w (GNum w (leftG left (r.vs.length + r.ev.length + r.nx.length))) := by
  have CV := Lib.hid (fun w => szZ_any A r.vs.length c left w hv h0 h1)
  have BX := Lib.hid (Blk.new w #[.int .i64 r.p, .int .i64 r.s, .int .i64 r.it, .bool r.dn, .slice A r.vs.length c, .slice B r.ev.length d, .int .i64 r.nn, .slice C r.nx.length k] 32)
  by_cases hb1 : (r.vs.length : Int) ≤ left
  · have hp1 : 0 ≤ left - (r.vs.length : Int) := by omega
    have hq1 : left - (r.vs.length : Int) ≤ 1048576 := by omega
    have e1 := leftG_pos hb1
    rw [e1] at CV
    have CE := Lib.hid (fun w => szZ_any B r.ev.length d (left - (r.vs.length : Int)) w he hp1 hq1)
    by_cases hb2 : (r.ev.length : Int) ≤ left - (r.vs.length : Int)
    · have hp2 : 0 ≤ left - (r.vs.length : Int) - (r.ev.length : Int) := by omega
      have hq2 : left - (r.vs.length : Int) - (r.ev.length : Int) ≤ 1048576 := by omega
      have e2 := leftG_pos hb2
      rw [e2] at CE
      have CX := Lib.hid (fun w => szSet_any r.nn C r.nx.length k (left - (r.vs.length : Int) - (r.ev.length : Int)) w hx hp2 hq2)
      by_cases hb3 : (r.nx.length : Int) ≤ left - (r.vs.length : Int) - (r.ev.length : Int)
      · have hp3 : 0 ≤ left - (r.vs.length : Int) - (r.ev.length : Int) - (r.nx.length : Int) := by omega
        have e3 := leftN_pos hb3
        rw [e3] at CX
        rw [leftG_pos (by omega), show left - ((r.vs.length + r.ev.length + r.nx.length : Nat) : Int) = left - (r.vs.length : Int) - (r.ev.length : Int) - (r.nx.length : Int) by omega]
        generalize left - (r.vs.length : Int) - (r.ev.length : Int) - (r.nx.length : Int) = q3 at CX hp3 ⊢
        generalize left - (r.vs.length : Int) - (r.ev.length : Int) = q2 at CX CE hp2
        generalize left - (r.vs.length : Int) = q1 at CE CV hp1
        clear e1 e2 e3 hb1 hb2 hb3 hq1 hq2
        go_enter Tryz.func5, Tryz.ntmps5
        go_wp2_with fail
        refine (CV.out _).mono ?_
        rintro e w1 ⟨rfl, rfl⟩
        have H1 := Lib.hid (below_a1 w (.cells #[.int .i64 r.p, .int .i64 r.s, .int .i64 r.it, .bool r.dn, .slice A r.vs.length c, .slice B r.ev.length d, .int .i64 r.nn, .slice C r.nx.length k] 32))
        have b1 := BX.out.cell (i := 5) rfl
        go_wp2_with fail
        refine (CE.out _).mono ?_
        rintro e w2 ⟨rfl, rfl⟩
        have H2 := Lib.hid H1.out
        have b2 := BX.out.cell (i := 6) rfl
        have b3 := BX.out.cell (i := 7) rfl
        go_wp2_with fail
        refine (CX.out _).mono ?_
        rintro e w3 ⟨rfl, hb⟩
        have H3 := Lib.hid (g_chain H2.out hb)
        clear hb
        go_wp2
        go_ret
        exact ⟨rfl, H3.out⟩
      · rw [leftN_neg (by omega)] at CX
        rw [leftG_neg (by omega)]
        generalize left - (r.vs.length : Int) - (r.ev.length : Int) = q2 at CX CE hp2
        generalize left - (r.vs.length : Int) = q1 at CE CV hp1
        clear e1 e2 hb1 hb2 hb3 hq1 hq2
        go_enter Tryz.func5, Tryz.ntmps5
        go_wp2_with fail
        refine (CV.out _).mono ?_
        rintro e w1 ⟨rfl, rfl⟩
        have H1 := Lib.hid (below_a1 w (.cells #[.int .i64 r.p, .int .i64 r.s, .int .i64 r.it, .bool r.dn, .slice A r.vs.length c, .slice B r.ev.length d, .int .i64 r.nn, .slice C r.nx.length k] 32))
        have b1 := BX.out.cell (i := 5) rfl
        go_wp2_with fail
        refine (CE.out _).mono ?_
        rintro e w2 ⟨rfl, rfl⟩
        have H2 := Lib.hid H1.out
        have b2 := BX.out.cell (i := 6) rfl
        have b3 := BX.out.cell (i := 7) rfl
        go_wp2_with fail
        refine (CX.out _).mono ?_
        rintro e w3 ⟨rfl, hb⟩
        have H3 := Lib.hid (g_chain H2.out hb)
        clear hb
        go_wp2
        go_ret
        exact ⟨rfl, H3.out⟩
    · rw [leftG_neg (by omega)] at CE ⊢
      generalize left - (r.vs.length : Int) = q1 at CE CV hp1
      clear e1 hb1 hb2 hq1
      go_enter Tryz.func5, Tryz.ntmps5
      go_wp2_with fail
      refine (CV.out _).mono ?_
      rintro e w1 ⟨rfl, rfl⟩
      have H1 := Lib.hid (below_a1 w (.cells #[.int .i64 r.p, .int .i64 r.s, .int .i64 r.it, .bool r.dn, .slice A r.vs.length c, .slice B r.ev.length d, .int .i64 r.nn, .slice C r.nx.length k] 32))
      have b1 := BX.out.cell (i := 5) rfl
      go_wp2_with fail
      refine (CE.out _).mono ?_
      rintro e w2 ⟨rfl, rfl⟩
      have H2 := Lib.hid H1.out
      have b2 := BX.out.cell (i := 6) rfl
      have b3 := BX.out.cell (i := 7) rfl
      go_wp2
      go_ret
      exact ⟨rfl, H2.out⟩
  · rw [leftG_neg (by omega)] at CV ⊢
    clear hb1
    go_enter Tryz.func5, Tryz.ntmps5
    go_wp2_with fail
    refine (CV.out _).mono ?_
    rintro e w1 ⟨rfl, rfl⟩
    have H1 := Lib.hid (below_a1 w (.cells #[.int .i64 r.p, .int .i64 r.s, .int .i64 r.it, .bool r.dn, .slice A r.vs.length c, .slice B r.ev.length d, .int .i64 r.nn, .slice C r.nx.length k] 32))
    have b1 := BX.out.cell (i := 5) rfl
    go_wp2
    go_ret
    exact ⟨rfl, H1.out⟩
theorem eqJob_any (p s : Int) (w : World) :
    Calls Tryz.prog 38 #[.agg #[.int .i64 p, .int .i64 s], .agg #[.int .i64 p, .int .i64 s]] w (GTell w true) := by
  go_enter Tryz.func38, Tryz.ntmps38
  go_wp2
  go_ret
  exact ⟨rfl, below_a2 _ _ _⟩
set_option maxRecDepth 10000 in
set_option maxHeartbeats 2000000 in
theorem toRun_any (r : RD) (A : Option Addr) (c : Nat) (B : Option Addr) (d : Nat) (C : Option Addr) (k : Nat) (w : World) (hr : RunR w r A B C) (hk : r.nx.length ≤ k) (hv : r.vs.length ≤ 2097152) (he : r.ev.length ≤ 2097152) (hx : r.nx.length ≤ 2097152) :
    Calls Tryz.prog 9 #[.agg #[.int .i64 r.p, .int .i64 r.s, .int .i64 r.it, .bool r.dn, .slice A r.vs.length c, .slice B r.ev.length d, .int .i64 r.nn, .slice C r.nx.length k]] w (MadeRun w r) := by
  have CJ := Lib.hid (fun w => toJob_any r.p r.s w)
  have CV := Lib.hid (fun W (h : Below w.heap.size w W) => copyInts_any A r.vs.length c r.vs W (hr.v.below h) hv)
  have CE := Lib.hid (fun W (h : Below w.heap.size w W) => copyInts_any B r.ev.length d r.ev W (hr.e.below h) he)
  have CX := Lib.hid (fun W (h : Below w.heap.size w W) => toSet_is r.nn C k r.nx W (hr.x.below h) hk hx)
  unfold MadeN OwI at CV CE
  unfold MadeS at CX
  clear hr
  have H_1 := Lib.hid (g_chain (g_chain (g_chain (Below.refl w.heap.size w) (below_a1 w (.cells #[.int .i64 r.p, .int .i64 r.s, .int .i64 r.it, .bool r.dn, .slice A r.vs.length c, .slice B r.ev.length d, .int .i64 r.nn, .slice C r.nx.length k] 32))) (below_a1 (w.alloc (.cells #[.int .i64 r.p, .int .i64 r.s, .int .i64 r.it, .bool r.dn, .slice A r.vs.length c, .slice B r.ev.length d, .int .i64 r.nn, .slice C r.nx.length k] 32)) (.cells #[.int .i64 0, .int .i64 0, .int .i64 0, .bool false, .slice none 0 0, .slice none 0 0, .int .i64 0, .slice none 0 0] 39))) (below_a1 ((w.alloc (.cells #[.int .i64 r.p, .int .i64 r.s, .int .i64 r.it, .bool r.dn, .slice A r.vs.length c, .slice B r.ev.length d, .int .i64 r.nn, .slice C r.nx.length k] 32)).alloc (.cells #[.int .i64 0, .int .i64 0, .int .i64 0, .bool false, .slice none 0 0, .slice none 0 0, .int .i64 0, .slice none 0 0] 39)) (.cells #[.int .i64 0, .int .i64 0, .int .i64 0, .bool false, .slice none 0 0, .slice none 0 0, .int .i64 0, .slice none 0 0] 39)))
  have BX_2 : Hid (Blk (((w.alloc (.cells #[.int .i64 r.p, .int .i64 r.s, .int .i64 r.it, .bool r.dn, .slice A r.vs.length c, .slice B r.ev.length d, .int .i64 r.nn, .slice C r.nx.length k] 32)).alloc (.cells #[.int .i64 0, .int .i64 0, .int .i64 0, .bool false, .slice none 0 0, .slice none 0 0, .int .i64 0, .slice none 0 0] 39)).alloc (.cells #[.int .i64 0, .int .i64 0, .int .i64 0, .bool false, .slice none 0 0, .slice none 0 0, .int .i64 0, .slice none 0 0] 39)) (w.heap.size) #[.int .i64 r.p, .int .i64 r.s, .int .i64 r.it, .bool r.dn, .slice A r.vs.length c, .slice B r.ev.length d, .int .i64 r.nn, .slice C r.nx.length k] 32) := Lib.hid (by have h := ((Blk.new w #[.int .i64 r.p, .int .i64 r.s, .int .i64 r.it, .bool r.dn, .slice A r.vs.length c, .slice B r.ev.length d, .int .i64 r.nn, .slice C r.nx.length k] 32).alloc (.cells #[.int .i64 0, .int .i64 0, .int .i64 0, .bool false, .slice none 0 0, .slice none 0 0, .int .i64 0, .slice none 0 0] 39)).alloc (.cells #[.int .i64 0, .int .i64 0, .int .i64 0, .bool false, .slice none 0 0, .slice none 0 0, .int .i64 0, .slice none 0 0] 39); simpa [Nat.add_assoc] using h)
  have BZ_3 : Hid (Blk (((w.alloc (.cells #[.int .i64 r.p, .int .i64 r.s, .int .i64 r.it, .bool r.dn, .slice A r.vs.length c, .slice B r.ev.length d, .int .i64 r.nn, .slice C r.nx.length k] 32)).alloc (.cells #[.int .i64 0, .int .i64 0, .int .i64 0, .bool false, .slice none 0 0, .slice none 0 0, .int .i64 0, .slice none 0 0] 39)).alloc (.cells #[.int .i64 0, .int .i64 0, .int .i64 0, .bool false, .slice none 0 0, .slice none 0 0, .int .i64 0, .slice none 0 0] 39)) (w.heap.size + 1) #[.int .i64 0, .int .i64 0, .int .i64 0, .bool false, .slice none 0 0, .slice none 0 0, .int .i64 0, .slice none 0 0] 39) := Lib.hid (by have h := (Blk.new (w.alloc (.cells #[.int .i64 r.p, .int .i64 r.s, .int .i64 r.it, .bool r.dn, .slice A r.vs.length c, .slice B r.ev.length d, .int .i64 r.nn, .slice C r.nx.length k] 32)) #[.int .i64 0, .int .i64 0, .int .i64 0, .bool false, .slice none 0 0, .slice none 0 0, .int .i64 0, .slice none 0 0] 39).alloc (.cells #[.int .i64 0, .int .i64 0, .int .i64 0, .bool false, .slice none 0 0, .slice none 0 0, .int .i64 0, .slice none 0 0] 39); simpa [Nat.add_assoc] using h)
  have BT_4 : Hid (Blk (((w.alloc (.cells #[.int .i64 r.p, .int .i64 r.s, .int .i64 r.it, .bool r.dn, .slice A r.vs.length c, .slice B r.ev.length d, .int .i64 r.nn, .slice C r.nx.length k] 32)).alloc (.cells #[.int .i64 0, .int .i64 0, .int .i64 0, .bool false, .slice none 0 0, .slice none 0 0, .int .i64 0, .slice none 0 0] 39)).alloc (.cells #[.int .i64 0, .int .i64 0, .int .i64 0, .bool false, .slice none 0 0, .slice none 0 0, .int .i64 0, .slice none 0 0] 39)) (w.heap.size + 2) #[.int .i64 0, .int .i64 0, .int .i64 0, .bool false, .slice none 0 0, .slice none 0 0, .int .i64 0, .slice none 0 0] 39) := Lib.hid (by have h := Blk.new ((w.alloc (.cells #[.int .i64 r.p, .int .i64 r.s, .int .i64 r.it, .bool r.dn, .slice A r.vs.length c, .slice B r.ev.length d, .int .i64 r.nn, .slice C r.nx.length k] 32)).alloc (.cells #[.int .i64 0, .int .i64 0, .int .i64 0, .bool false, .slice none 0 0, .slice none 0 0, .int .i64 0, .slice none 0 0] 39)) #[.int .i64 0, .int .i64 0, .int .i64 0, .bool false, .slice none 0 0, .slice none 0 0, .int .i64 0, .slice none 0 0] 39; simpa [Nat.add_assoc] using h)
  have sz0 : Hid (w.heap.size + 3 ≤ (((w.alloc (.cells #[.int .i64 r.p, .int .i64 r.s, .int .i64 r.it, .bool r.dn, .slice A r.vs.length c, .slice B r.ev.length d, .int .i64 r.nn, .slice C r.nx.length k] 32)).alloc (.cells #[.int .i64 0, .int .i64 0, .int .i64 0, .bool false, .slice none 0 0, .slice none 0 0, .int .i64 0, .slice none 0 0] 39)).alloc (.cells #[.int .i64 0, .int .i64 0, .int .i64 0, .bool false, .slice none 0 0, .slice none 0 0, .int .i64 0, .slice none 0 0] 39)).heap.size) := Lib.hid (by simp)
  go_enter Tryz.func9, Tryz.ntmps9
  have x_5 := BX_2.out.cell (i := 0) rfl
  have x_6 := BX_2.out.cell (i := 1) rfl
  go_wp2_with fail
  refine (CJ.out _).mono ?_
  rintro e w1 ⟨rfl, hb⟩
  clear x_5
  clear x_6
  have H_7 := Lib.hid (g_chain H_1.out hb)
  clear H_1
  have BX_8 := Lib.hid (BX_2.out.below hb)
  clear BX_2
  have BZ_9 := Lib.hid (BZ_3.out.below hb)
  clear BZ_3
  have BT_10 := Lib.hid (BT_4.out.below hb)
  clear BT_4
  have sz_11 := Lib.hid (Below.size hb)
  clear hb
  have x_12 := BX_8.out.cell (i := 0) rfl
  have x_13 := BX_8.out.cell (i := 1) rfl
  have x_14 := BX_8.out.cell (i := 2) rfl
  have x_15 := BX_8.out.cell (i := 3) rfl
  have x_16 := BX_8.out.cell (i := 4) rfl
  have x_17 := BX_8.out.cell (i := 5) rfl
  have x_18 := BX_8.out.cell (i := 6) rfl
  have x_19 := BX_8.out.cell (i := 7) rfl
  have fz_20 := fun i => BX_8.out.frozen i
  have lt_21 := BX_8.out.lt
  have x_22 := BT_10.out.cell (i := 0) rfl
  have x_23 := BT_10.out.cell (i := 1) rfl
  have x_24 := BT_10.out.cell (i := 2) rfl
  have x_25 := BT_10.out.cell (i := 3) rfl
  have x_26 := BT_10.out.cell (i := 4) rfl
  have x_27 := BT_10.out.cell (i := 5) rfl
  have x_28 := BT_10.out.cell (i := 6) rfl
  have x_29 := BT_10.out.cell (i := 7) rfl
  have fz_30 := fun i => BT_10.out.frozen i
  have lt_31 := BT_10.out.lt
  go_wp2_with fail
  have hg_32 := (((grown_cell w1 (w.heap.size + 2) 0 (.int .i64 r.p)).trans (grown_cell (w1.setCell ⟨w.heap.size + 2, 0, none⟩ (.int .i64 r.p)) (w.heap.size + 2) 1 (.int .i64 r.s))).trans (grown_cell ((w1.setCell ⟨w.heap.size + 2, 0, none⟩ (.int .i64 r.p)).setCell ⟨w.heap.size + 2, 1, none⟩ (.int .i64 r.s)) (w.heap.size + 2) 2 (.int .i64 r.it))).trans (grown_cell (((w1.setCell ⟨w.heap.size + 2, 0, none⟩ (.int .i64 r.p)).setCell ⟨w.heap.size + 2, 1, none⟩ (.int .i64 r.s)).setCell ⟨w.heap.size + 2, 2, none⟩ (.int .i64 r.it)) (w.heap.size + 2) 3 (.bool r.dn))
  have H_33 := Lib.hid (H_7.out.grown hg_32 H_7.out.size (fun j hj => by injection hj with hj; have := sz0.out; have := sz_11.out; omega))
  clear H_7
  have BX_34 := Lib.hid (BX_8.out.grown hg_32 (by intro e; injection e with e; have := sz0.out; have := sz_11.out; omega))
  clear BX_8
  have BZ_35 := Lib.hid (BZ_9.out.grown hg_32 (by intro e; injection e with e; have := sz0.out; have := sz_11.out; omega))
  clear BZ_9
  have BT_36 : Hid (Blk ((((w1.setCell ⟨w.heap.size + 2, 0, none⟩ (.int .i64 r.p)).setCell ⟨w.heap.size + 2, 1, none⟩ (.int .i64 r.s)).setCell ⟨w.heap.size + 2, 2, none⟩ (.int .i64 r.it)).setCell ⟨w.heap.size + 2, 3, none⟩ (.bool r.dn)) (w.heap.size + 2) #[.int .i64 r.p, .int .i64 r.s, .int .i64 r.it, .bool r.dn, .slice none 0 0, .slice none 0 0, .int .i64 0, .slice none 0 0] 39) := Lib.hid (Blk.set (Blk.set (Blk.set (Blk.set (BT_10.out) 0 (.int .i64 r.p)) 1 (.int .i64 r.s)) 2 (.int .i64 r.it)) 3 (.bool r.dn))
  clear BT_10
  have sz_37 := Lib.hid (World.grownBy.size hg_32)
  clear hg_32
  refine (CV.out _ H_33.out).mono ?_
  rintro e w2 ⟨Av, cv, rfl, ho, hb⟩
  clear x_12
  clear x_13
  clear x_14
  clear x_15
  clear x_16
  clear x_17
  clear x_18
  clear x_19
  clear fz_20
  clear lt_21
  clear x_22
  clear x_23
  clear x_24
  clear x_25
  clear x_26
  clear x_27
  clear x_28
  clear x_29
  clear fz_30
  clear lt_31
  have H_38 := Lib.hid (g_chain H_33.out hb)
  clear H_33
  have BX_39 := Lib.hid (BX_34.out.below hb)
  clear BX_34
  have BZ_40 := Lib.hid (BZ_35.out.below hb)
  clear BZ_35
  have BT_41 := Lib.hid (BT_36.out.below hb)
  clear BT_36
  have sz_42 := Lib.hid (Below.size hb)
  have OV_43 := Lib.hid (ho)
  clear ho hb
  have x_44 := BX_39.out.cell (i := 0) rfl
  have x_45 := BX_39.out.cell (i := 1) rfl
  have x_46 := BX_39.out.cell (i := 2) rfl
  have x_47 := BX_39.out.cell (i := 3) rfl
  have x_48 := BX_39.out.cell (i := 4) rfl
  have x_49 := BX_39.out.cell (i := 5) rfl
  have x_50 := BX_39.out.cell (i := 6) rfl
  have x_51 := BX_39.out.cell (i := 7) rfl
  have fz_52 := fun i => BX_39.out.frozen i
  have lt_53 := BX_39.out.lt
  have x_54 := BT_41.out.cell (i := 0) rfl
  have x_55 := BT_41.out.cell (i := 1) rfl
  have x_56 := BT_41.out.cell (i := 2) rfl
  have x_57 := BT_41.out.cell (i := 3) rfl
  have x_58 := BT_41.out.cell (i := 4) rfl
  have x_59 := BT_41.out.cell (i := 5) rfl
  have x_60 := BT_41.out.cell (i := 6) rfl
  have x_61 := BT_41.out.cell (i := 7) rfl
  have fz_62 := fun i => BT_41.out.frozen i
  have lt_63 := BT_41.out.lt
  go_wp2_with fail
  have hg_64 := grown_cell w2 (w.heap.size + 2) 4 (.slice Av r.vs.length cv)
  have H_65 := Lib.hid (H_38.out.grown hg_64 H_38.out.size (fun j hj => by injection hj with hj; have := sz0.out; have := sz_11.out; have := sz_37.out; have := sz_42.out; omega))
  clear H_38
  have BX_66 := Lib.hid (BX_39.out.grown hg_64 (by intro e; injection e with e; have := sz0.out; have := sz_11.out; have := sz_37.out; have := sz_42.out; omega))
  clear BX_39
  have BZ_67 := Lib.hid (BZ_40.out.grown hg_64 (by intro e; injection e with e; have := sz0.out; have := sz_11.out; have := sz_37.out; have := sz_42.out; omega))
  clear BZ_40
  have OV_68 := Lib.hid (own_kept OV_43.out hg_64 (own_kind OV_43.out BT_41.out (by decide)))
  clear OV_43
  have BT_69 : Hid (Blk (w2.setCell ⟨w.heap.size + 2, 4, none⟩ (.slice Av r.vs.length cv)) (w.heap.size + 2) #[.int .i64 r.p, .int .i64 r.s, .int .i64 r.it, .bool r.dn, .slice Av r.vs.length cv, .slice none 0 0, .int .i64 0, .slice none 0 0] 39) := Lib.hid (Blk.set (BT_41.out) 4 (.slice Av r.vs.length cv))
  clear BT_41
  have sz_70 := Lib.hid (World.grownBy.size hg_64)
  clear hg_64
  have LTV := Lib.hid OV_68.out.lt
  refine (CE.out _ H_65.out).mono ?_
  rintro e w3 ⟨Ae, ce, rfl, ho, hb⟩
  clear x_44
  clear x_45
  clear x_46
  clear x_47
  clear x_48
  clear x_49
  clear x_50
  clear x_51
  clear fz_52
  clear lt_53
  clear x_54
  clear x_55
  clear x_56
  clear x_57
  clear x_58
  clear x_59
  clear x_60
  clear x_61
  clear fz_62
  clear lt_63
  have H_71 := Lib.hid (g_chain H_65.out hb)
  clear H_65
  have BX_72 := Lib.hid (BX_66.out.below hb)
  clear BX_66
  have BZ_73 := Lib.hid (BZ_67.out.below hb)
  clear BZ_67
  have BT_74 := Lib.hid (BT_69.out.below hb)
  clear BT_69
  have OV_75 := Lib.hid (own_below OV_68.out hb)
  clear OV_68
  have sz_76 := Lib.hid (Below.size hb)
  have OE_77 := Lib.hid (ho)
  have AP := Lib.hid (own_time LTV.out ho (Nat.le_refl _))
  clear ho hb
  have x_78 := BX_72.out.cell (i := 0) rfl
  have x_79 := BX_72.out.cell (i := 1) rfl
  have x_80 := BX_72.out.cell (i := 2) rfl
  have x_81 := BX_72.out.cell (i := 3) rfl
  have x_82 := BX_72.out.cell (i := 4) rfl
  have x_83 := BX_72.out.cell (i := 5) rfl
  have x_84 := BX_72.out.cell (i := 6) rfl
  have x_85 := BX_72.out.cell (i := 7) rfl
  have fz_86 := fun i => BX_72.out.frozen i
  have lt_87 := BX_72.out.lt
  have x_88 := BT_74.out.cell (i := 0) rfl
  have x_89 := BT_74.out.cell (i := 1) rfl
  have x_90 := BT_74.out.cell (i := 2) rfl
  have x_91 := BT_74.out.cell (i := 3) rfl
  have x_92 := BT_74.out.cell (i := 4) rfl
  have x_93 := BT_74.out.cell (i := 5) rfl
  have x_94 := BT_74.out.cell (i := 6) rfl
  have x_95 := BT_74.out.cell (i := 7) rfl
  have fz_96 := fun i => BT_74.out.frozen i
  have lt_97 := BT_74.out.lt
  go_wp2_with fail
  have hg_98 := grown_cell w3 (w.heap.size + 2) 5 (.slice Ae r.ev.length ce)
  have H_99 := Lib.hid (H_71.out.grown hg_98 H_71.out.size (fun j hj => by injection hj with hj; have := sz0.out; have := sz_11.out; have := sz_37.out; have := sz_42.out; have := sz_70.out; have := sz_76.out; omega))
  clear H_71
  have BX_100 := Lib.hid (BX_72.out.grown hg_98 (by intro e; injection e with e; have := sz0.out; have := sz_11.out; have := sz_37.out; have := sz_42.out; have := sz_70.out; have := sz_76.out; omega))
  clear BX_72
  have BZ_101 := Lib.hid (BZ_73.out.grown hg_98 (by intro e; injection e with e; have := sz0.out; have := sz_11.out; have := sz_37.out; have := sz_42.out; have := sz_70.out; have := sz_76.out; omega))
  clear BZ_73
  have OV_102 := Lib.hid (own_kept OV_75.out hg_98 (own_kind OV_75.out BT_74.out (by decide)))
  clear OV_75
  have OE_103 := Lib.hid (own_kept OE_77.out hg_98 (own_kind OE_77.out BT_74.out (by decide)))
  clear OE_77
  have BT_104 : Hid (Blk (w3.setCell ⟨w.heap.size + 2, 5, none⟩ (.slice Ae r.ev.length ce)) (w.heap.size + 2) #[.int .i64 r.p, .int .i64 r.s, .int .i64 r.it, .bool r.dn, .slice Av r.vs.length cv, .slice Ae r.ev.length ce, .int .i64 0, .slice none 0 0] 39) := Lib.hid (Blk.set (BT_74.out) 5 (.slice Ae r.ev.length ce))
  clear BT_74
  have sz_105 := Lib.hid (World.grownBy.size hg_98)
  clear hg_98
  refine (CX.out _ H_99.out).mono ?_
  rintro e w4 ⟨Ax, cx, rfl, ho, hb⟩
  clear x_78
  clear x_79
  clear x_80
  clear x_81
  clear x_82
  clear x_83
  clear x_84
  clear x_85
  clear fz_86
  clear lt_87
  clear x_88
  clear x_89
  clear x_90
  clear x_91
  clear x_92
  clear x_93
  clear x_94
  clear x_95
  clear fz_96
  clear lt_97
  have H_106 := Lib.hid (g_chain H_99.out hb)
  clear H_99
  have BX_107 := Lib.hid (BX_100.out.below hb)
  clear BX_100
  have BZ_108 := Lib.hid (BZ_101.out.below hb)
  clear BZ_101
  have BT_109 := Lib.hid (BT_104.out.below hb)
  clear BT_104
  have OV_110 := Lib.hid (own_below OV_102.out hb)
  clear OV_102
  have OE_111 := Lib.hid (own_below OE_103.out hb)
  clear OE_103
  have sz_112 := Lib.hid (Below.size hb)
  have OX_113 := Lib.hid (ho)
  clear ho hb
  have x_114 := BX_107.out.cell (i := 0) rfl
  have x_115 := BX_107.out.cell (i := 1) rfl
  have x_116 := BX_107.out.cell (i := 2) rfl
  have x_117 := BX_107.out.cell (i := 3) rfl
  have x_118 := BX_107.out.cell (i := 4) rfl
  have x_119 := BX_107.out.cell (i := 5) rfl
  have x_120 := BX_107.out.cell (i := 6) rfl
  have x_121 := BX_107.out.cell (i := 7) rfl
  have fz_122 := fun i => BX_107.out.frozen i
  have lt_123 := BX_107.out.lt
  have x_124 := BT_109.out.cell (i := 0) rfl
  have x_125 := BT_109.out.cell (i := 1) rfl
  have x_126 := BT_109.out.cell (i := 2) rfl
  have x_127 := BT_109.out.cell (i := 3) rfl
  have x_128 := BT_109.out.cell (i := 4) rfl
  have x_129 := BT_109.out.cell (i := 5) rfl
  have x_130 := BT_109.out.cell (i := 6) rfl
  have x_131 := BT_109.out.cell (i := 7) rfl
  have fz_132 := fun i => BT_109.out.frozen i
  have lt_133 := BT_109.out.lt
  have x_134 := BZ_108.out.cell (i := 0) rfl
  have x_135 := BZ_108.out.cell (i := 1) rfl
  have x_136 := BZ_108.out.cell (i := 2) rfl
  have x_137 := BZ_108.out.cell (i := 3) rfl
  have x_138 := BZ_108.out.cell (i := 4) rfl
  have x_139 := BZ_108.out.cell (i := 5) rfl
  have x_140 := BZ_108.out.cell (i := 6) rfl
  have x_141 := BZ_108.out.cell (i := 7) rfl
  have fz_142 := fun i => BZ_108.out.frozen i
  have lt_143 := BZ_108.out.lt
  go_wp2
  have hg_144 := (grown_cell w4 (w.heap.size + 2) 6 (.int .i64 r.nn)).trans (grown_cell (w4.setCell ⟨w.heap.size + 2, 6, none⟩ (.int .i64 r.nn)) (w.heap.size + 2) 7 (.slice Ax r.nx.length cx))
  have H_145 := Lib.hid (H_106.out.grown hg_144 H_106.out.size (fun j hj => by injection hj with hj; have := sz0.out; have := sz_11.out; have := sz_37.out; have := sz_42.out; have := sz_70.out; have := sz_76.out; have := sz_105.out; have := sz_112.out; omega))
  clear H_106
  have BX_146 := Lib.hid (BX_107.out.grown hg_144 (by intro e; injection e with e; have := sz0.out; have := sz_11.out; have := sz_37.out; have := sz_42.out; have := sz_70.out; have := sz_76.out; have := sz_105.out; have := sz_112.out; omega))
  clear BX_107
  have BZ_147 := Lib.hid (BZ_108.out.grown hg_144 (by intro e; injection e with e; have := sz0.out; have := sz_11.out; have := sz_37.out; have := sz_42.out; have := sz_70.out; have := sz_76.out; have := sz_105.out; have := sz_112.out; omega))
  clear BZ_108
  have OV_148 := Lib.hid (own_kept OV_110.out hg_144 (own_kind OV_110.out BT_109.out (by decide)))
  clear OV_110
  have OE_149 := Lib.hid (own_kept OE_111.out hg_144 (own_kind OE_111.out BT_109.out (by decide)))
  clear OE_111
  have OX_150 := Lib.hid (own_kept OX_113.out hg_144 (own_kind OX_113.out BT_109.out (by decide)))
  clear OX_113
  have BT_151 : Hid (Blk ((w4.setCell ⟨w.heap.size + 2, 6, none⟩ (.int .i64 r.nn)).setCell ⟨w.heap.size + 2, 7, none⟩ (.slice Ax r.nx.length cx)) (w.heap.size + 2) #[.int .i64 r.p, .int .i64 r.s, .int .i64 r.it, .bool r.dn, .slice Av r.vs.length cv, .slice Ae r.ev.length ce, .int .i64 r.nn, .slice Ax r.nx.length cx] 39) := Lib.hid (Blk.set (Blk.set (BT_109.out) 6 (.int .i64 r.nn)) 7 (.slice Ax r.nx.length cx))
  clear BT_109
  have sz_152 := Lib.hid (World.grownBy.size hg_144)
  clear hg_144
  have hg_153 := (((((((grown_cell ((w4.setCell ⟨w.heap.size + 2, 6, none⟩ (.int .i64 r.nn)).setCell ⟨w.heap.size + 2, 7, none⟩ (.slice Ax r.nx.length cx)) (w.heap.size + 1) 0 (.int .i64 r.p)).trans (grown_cell (((w4.setCell ⟨w.heap.size + 2, 6, none⟩ (.int .i64 r.nn)).setCell ⟨w.heap.size + 2, 7, none⟩ (.slice Ax r.nx.length cx)).setCell ⟨w.heap.size + 1, 0, none⟩ (.int .i64 r.p)) (w.heap.size + 1) 1 (.int .i64 r.s))).trans (grown_cell ((((w4.setCell ⟨w.heap.size + 2, 6, none⟩ (.int .i64 r.nn)).setCell ⟨w.heap.size + 2, 7, none⟩ (.slice Ax r.nx.length cx)).setCell ⟨w.heap.size + 1, 0, none⟩ (.int .i64 r.p)).setCell ⟨w.heap.size + 1, 1, none⟩ (.int .i64 r.s)) (w.heap.size + 1) 2 (.int .i64 r.it))).trans (grown_cell (((((w4.setCell ⟨w.heap.size + 2, 6, none⟩ (.int .i64 r.nn)).setCell ⟨w.heap.size + 2, 7, none⟩ (.slice Ax r.nx.length cx)).setCell ⟨w.heap.size + 1, 0, none⟩ (.int .i64 r.p)).setCell ⟨w.heap.size + 1, 1, none⟩ (.int .i64 r.s)).setCell ⟨w.heap.size + 1, 2, none⟩ (.int .i64 r.it)) (w.heap.size + 1) 3 (.bool r.dn))).trans (grown_cell ((((((w4.setCell ⟨w.heap.size + 2, 6, none⟩ (.int .i64 r.nn)).setCell ⟨w.heap.size + 2, 7, none⟩ (.slice Ax r.nx.length cx)).setCell ⟨w.heap.size + 1, 0, none⟩ (.int .i64 r.p)).setCell ⟨w.heap.size + 1, 1, none⟩ (.int .i64 r.s)).setCell ⟨w.heap.size + 1, 2, none⟩ (.int .i64 r.it)).setCell ⟨w.heap.size + 1, 3, none⟩ (.bool r.dn)) (w.heap.size + 1) 4 (.slice Av r.vs.length cv))).trans (grown_cell (((((((w4.setCell ⟨w.heap.size + 2, 6, none⟩ (.int .i64 r.nn)).setCell ⟨w.heap.size + 2, 7, none⟩ (.slice Ax r.nx.length cx)).setCell ⟨w.heap.size + 1, 0, none⟩ (.int .i64 r.p)).setCell ⟨w.heap.size + 1, 1, none⟩ (.int .i64 r.s)).setCell ⟨w.heap.size + 1, 2, none⟩ (.int .i64 r.it)).setCell ⟨w.heap.size + 1, 3, none⟩ (.bool r.dn)).setCell ⟨w.heap.size + 1, 4, none⟩ (.slice Av r.vs.length cv)) (w.heap.size + 1) 5 (.slice Ae r.ev.length ce))).trans (grown_cell ((((((((w4.setCell ⟨w.heap.size + 2, 6, none⟩ (.int .i64 r.nn)).setCell ⟨w.heap.size + 2, 7, none⟩ (.slice Ax r.nx.length cx)).setCell ⟨w.heap.size + 1, 0, none⟩ (.int .i64 r.p)).setCell ⟨w.heap.size + 1, 1, none⟩ (.int .i64 r.s)).setCell ⟨w.heap.size + 1, 2, none⟩ (.int .i64 r.it)).setCell ⟨w.heap.size + 1, 3, none⟩ (.bool r.dn)).setCell ⟨w.heap.size + 1, 4, none⟩ (.slice Av r.vs.length cv)).setCell ⟨w.heap.size + 1, 5, none⟩ (.slice Ae r.ev.length ce)) (w.heap.size + 1) 6 (.int .i64 r.nn))).trans (grown_cell (((((((((w4.setCell ⟨w.heap.size + 2, 6, none⟩ (.int .i64 r.nn)).setCell ⟨w.heap.size + 2, 7, none⟩ (.slice Ax r.nx.length cx)).setCell ⟨w.heap.size + 1, 0, none⟩ (.int .i64 r.p)).setCell ⟨w.heap.size + 1, 1, none⟩ (.int .i64 r.s)).setCell ⟨w.heap.size + 1, 2, none⟩ (.int .i64 r.it)).setCell ⟨w.heap.size + 1, 3, none⟩ (.bool r.dn)).setCell ⟨w.heap.size + 1, 4, none⟩ (.slice Av r.vs.length cv)).setCell ⟨w.heap.size + 1, 5, none⟩ (.slice Ae r.ev.length ce)).setCell ⟨w.heap.size + 1, 6, none⟩ (.int .i64 r.nn)) (w.heap.size + 1) 7 (.slice Ax r.nx.length cx))
  have H_154 := Lib.hid (H_145.out.grown hg_153 H_145.out.size (fun j hj => by injection hj with hj; have := sz0.out; have := sz_11.out; have := sz_37.out; have := sz_42.out; have := sz_70.out; have := sz_76.out; have := sz_105.out; have := sz_112.out; have := sz_152.out; omega))
  clear H_145
  have BX_155 := Lib.hid (BX_146.out.grown hg_153 (by intro e; injection e with e; have := sz0.out; have := sz_11.out; have := sz_37.out; have := sz_42.out; have := sz_70.out; have := sz_76.out; have := sz_105.out; have := sz_112.out; have := sz_152.out; omega))
  clear BX_146
  have BT_156 := Lib.hid (BT_151.out.grown hg_153 (by intro e; injection e with e; have := sz0.out; have := sz_11.out; have := sz_37.out; have := sz_42.out; have := sz_70.out; have := sz_76.out; have := sz_105.out; have := sz_112.out; have := sz_152.out; omega))
  clear BT_151
  have OV_157 := Lib.hid (own_kept OV_148.out hg_153 (own_kind OV_148.out BZ_147.out (by decide)))
  clear OV_148
  have OE_158 := Lib.hid (own_kept OE_149.out hg_153 (own_kind OE_149.out BZ_147.out (by decide)))
  clear OE_149
  have OX_159 := Lib.hid (own_kept OX_150.out hg_153 (own_kind OX_150.out BZ_147.out (by decide)))
  clear OX_150
  have BZ_160 : Hid (Blk ((((((((((w4.setCell ⟨w.heap.size + 2, 6, none⟩ (.int .i64 r.nn)).setCell ⟨w.heap.size + 2, 7, none⟩ (.slice Ax r.nx.length cx)).setCell ⟨w.heap.size + 1, 0, none⟩ (.int .i64 r.p)).setCell ⟨w.heap.size + 1, 1, none⟩ (.int .i64 r.s)).setCell ⟨w.heap.size + 1, 2, none⟩ (.int .i64 r.it)).setCell ⟨w.heap.size + 1, 3, none⟩ (.bool r.dn)).setCell ⟨w.heap.size + 1, 4, none⟩ (.slice Av r.vs.length cv)).setCell ⟨w.heap.size + 1, 5, none⟩ (.slice Ae r.ev.length ce)).setCell ⟨w.heap.size + 1, 6, none⟩ (.int .i64 r.nn)).setCell ⟨w.heap.size + 1, 7, none⟩ (.slice Ax r.nx.length cx)) (w.heap.size + 1) #[.int .i64 r.p, .int .i64 r.s, .int .i64 r.it, .bool r.dn, .slice Av r.vs.length cv, .slice Ae r.ev.length ce, .int .i64 r.nn, .slice Ax r.nx.length cx] 39) := Lib.hid (Blk.set (Blk.set (Blk.set (Blk.set (Blk.set (Blk.set (Blk.set (Blk.set (BZ_147.out) 0 (.int .i64 r.p)) 1 (.int .i64 r.s)) 2 (.int .i64 r.it)) 3 (.bool r.dn)) 4 (.slice Av r.vs.length cv)) 5 (.slice Ae r.ev.length ce)) 6 (.int .i64 r.nn)) 7 (.slice Ax r.nx.length cx))
  clear BZ_147
  have sz_161 := Lib.hid (World.grownBy.size hg_153)
  clear hg_153
  have x_162 := BZ_160.out.cell (i := 0) rfl
  have x_163 := BZ_160.out.cell (i := 1) rfl
  have x_164 := BZ_160.out.cell (i := 2) rfl
  have x_165 := BZ_160.out.cell (i := 3) rfl
  have x_166 := BZ_160.out.cell (i := 4) rfl
  have x_167 := BZ_160.out.cell (i := 5) rfl
  have x_168 := BZ_160.out.cell (i := 6) rfl
  have x_169 := BZ_160.out.cell (i := 7) rfl
  refine bodyPost_ret (v := .agg #[.int .i64 r.p, .int .i64 r.s, .int .i64 r.it, .bool r.dn, .slice Av r.vs.length cv, .slice Ae r.ev.length ce, .int .i64 r.nn, .slice Ax r.nx.length cx]) (by simp [results, Tryz.results9, go_sem, x_134, x_135, x_136, x_137, x_138, x_139, x_140, x_141]) rfl ?_
  exact ⟨Av, cv, Ae, ce, Ax, cx, rfl, ⟨own_monoG OV_157.out (by have := sz0.out; have := sz_11.out; have := sz_37.out; have := sz_42.out; have := sz_70.out; have := sz_76.out; have := sz_105.out; have := sz_112.out; have := sz_152.out; have := sz_161.out; omega), own_monoG OE_158.out (by have := sz0.out; have := sz_11.out; have := sz_37.out; have := sz_42.out; have := sz_70.out; have := sz_76.out; have := sz_105.out; have := sz_112.out; have := sz_152.out; have := sz_161.out; omega), own_monoG OX_159.out (by have := sz0.out; have := sz_11.out; have := sz_37.out; have := sz_42.out; have := sz_70.out; have := sz_76.out; have := sz_105.out; have := sz_112.out; have := sz_152.out; have := sz_161.out; omega), AP.out⟩, H_154.out⟩
set_option maxHeartbeats 2000000 in
theorem eqRun_any (r : RD) (A : Option Addr) (c : Nat) (B : Option Addr) (d : Nat) (C : Option Addr) (k : Nat) (A' : Option Addr) (c' : Nat) (B' : Option Addr) (d' : Nat) (C' : Option Addr) (k' : Nat) (w : World) (h1 : RunR w r A B C) (h2 : RunR w r A' B' C') (hk : r.nx.length ≤ k) (hk' : r.nx.length ≤ k') (hv : r.vs.length ≤ 2097152) (he : r.ev.length ≤ 2097152) (hx : r.nx.length ≤ 2097152) :
    Calls Tryz.prog 12 #[.agg #[.int .i64 r.p, .int .i64 r.s, .int .i64 r.it, .bool r.dn, .slice A r.vs.length c, .slice B r.ev.length d, .int .i64 r.nn, .slice C r.nx.length k], .agg #[.int .i64 r.p, .int .i64 r.s, .int .i64 r.it, .bool r.dn, .slice A' r.vs.length c', .slice B' r.ev.length d', .int .i64 r.nn, .slice C' r.nx.length k']] w (GTell w true) := by
  have CJ := Lib.hid (fun w => eqJob_any r.p r.s w)
  have CV := Lib.hid (fun W (h : Below w.heap.size w W) => eqInts_any A A' r.vs.length c c' r.vs W (h1.v.below h) (h2.v.below h) hv)
  have CE := Lib.hid (fun W (h : Below w.heap.size w W) => eqInts_any B B' r.ev.length d d' r.ev W (h1.e.below h) (h2.e.below h) he)
  have CX := Lib.hid (fun W (h : Below w.heap.size w W) => eqSet_is r.nn C C' k k' r.nx W (h1.x.below h) (h2.x.below h) hk hk' hx)
  have BX := Lib.hid ((Blk.new w #[.int .i64 r.p, .int .i64 r.s, .int .i64 r.it, .bool r.dn, .slice A r.vs.length c, .slice B r.ev.length d, .int .i64 r.nn, .slice C r.nx.length k] 39).alloc (.cells #[.int .i64 r.p, .int .i64 r.s, .int .i64 r.it, .bool r.dn, .slice A' r.vs.length c', .slice B' r.ev.length d', .int .i64 r.nn, .slice C' r.nx.length k'] 39))
  have BY := Lib.hid (Blk.new (w.alloc (.cells #[.int .i64 r.p, .int .i64 r.s, .int .i64 r.it, .bool r.dn, .slice A r.vs.length c, .slice B r.ev.length d, .int .i64 r.nn, .slice C r.nx.length k] 39)) #[.int .i64 r.p, .int .i64 r.s, .int .i64 r.it, .bool r.dn, .slice A' r.vs.length c', .slice B' r.ev.length d', .int .i64 r.nn, .slice C' r.nx.length k'] 39)
  have H0 := Lib.hid (below_a2 w (.cells #[.int .i64 r.p, .int .i64 r.s, .int .i64 r.it, .bool r.dn, .slice A r.vs.length c, .slice B r.ev.length d, .int .i64 r.nn, .slice C r.nx.length k] 39) (.cells #[.int .i64 r.p, .int .i64 r.s, .int .i64 r.it, .bool r.dn, .slice A' r.vs.length c', .slice B' r.ev.length d', .int .i64 r.nn, .slice C' r.nx.length k'] 39))
  rw [World.size_alloc] at BY
  clear h1 h2
  have hd : (r.dn != r.dn) = false := by simp
  go_enter Tryz.func12, Tryz.ntmps12
  go_wp2_with fail
  refine (CJ.out _).mono ?_
  rintro e w1 ⟨rfl, hb⟩
  have H1 := Lib.hid (g_chain H0.out hb)
  replace BX := Lib.hid (BX.out.below hb)
  replace BY := Lib.hid (BY.out.below hb)
  clear hb
  have x2 := BX.out.cell (i := 2) rfl
  have y2 := BY.out.cell (i := 2) rfl
  have x3 := BX.out.cell (i := 3) rfl
  have y3 := BY.out.cell (i := 3) rfl
  have x4 := BX.out.cell (i := 4) rfl
  have y4 := BY.out.cell (i := 4) rfl
  go_wp2_with fail
  refine (CV.out _ H1.out).mono ?_
  rintro e w2 ⟨rfl, hb⟩
  have H2 := Lib.hid (g_chain H1.out hb)
  replace BX := Lib.hid (BX.out.below hb)
  replace BY := Lib.hid (BY.out.below hb)
  clear hb x2 y2 x3 y3 x4 y4
  have x5 := BX.out.cell (i := 5) rfl
  have y5 := BY.out.cell (i := 5) rfl
  go_wp2_with fail
  refine (CE.out _ H2.out).mono ?_
  rintro e w3 ⟨rfl, hb⟩
  have H3 := Lib.hid (g_chain H2.out hb)
  replace BX := Lib.hid (BX.out.below hb)
  replace BY := Lib.hid (BY.out.below hb)
  clear hb x5 y5
  have x6 := BX.out.cell (i := 6) rfl
  have y6 := BY.out.cell (i := 6) rfl
  have x7 := BX.out.cell (i := 7) rfl
  have y7 := BY.out.cell (i := 7) rfl
  go_wp2_with fail
  refine (CX.out _ H3.out).mono ?_
  rintro e w4 ⟨rfl, hb⟩
  have H4 := Lib.hid (g_chain H3.out hb)
  replace BX := Lib.hid (BX.out.below hb)
  replace BY := Lib.hid (BY.out.below hb)
  clear hb x6 y6 x7 y7
  go_wp2
  go_ret
  exact ⟨rfl, H4.out⟩
end Go.Proofs.YtpgnappddddlpaaGreatDoor
