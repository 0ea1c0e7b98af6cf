/- Copies of runs, the program's: slices.Clone at numbers, copyRun. Condition: at most 2^21 numbers or bytes. // The contract of the model's l10Told: the labels that the views tell. Conditions: at most 2^20 views, their values in their limits. // The contract of the model's l10Most. Condition: at most 2^21 labels. // The contracts of the model's l10Value and Update. Condition: at most 2^20 views, each a number of 64 bits. -/
import Derived.Test.YtpgnappddddlpaaGreatDoorCGC
import Derived.Test.YtpgnappddddlpaaGreatDoorCGG
import Derived.Test.YtpgnappddddlpaaGreatDoorCGE
import Derived.Test.YtpgnappddddlpaaGreatDoorCGD
import Derived.Test.YtpgnappddddlpaaGreatDoorCGF
import Derived.Test.YtpgnappddddlpaaGreatDoorCGA
import Derived.Test.YtpgnappddddlpaaGreatDoorKUpdI
namespace Go.Proofs.YtpgnappddddlpaaGreatDoor
open Go.RowKit
set_option linter.unusedVariables false

set_option maxRecDepth 10000 in
theorem cloneInts (A : Option Addr) (n c : Nat) (xs : List Int) (w : World) (hr : SlI w A n xs) (hn : n ≤ 2097152) :
    Calls Tryz.prog 62 #[.slice A n c] w (MadeN w n xs) := by
  obtain ⟨i0, hi, hz0, hz1, hz2⟩ := info_parts Tryz.infoInt
  rcases A with _ | a
  · obtain rfl : n = 0 := by
      rcases Nat.eq_zero_or_pos n with h | h
      · exact h
      · obtain ⟨_, _, h, _⟩ := hr.row.lies h
        cases h
    obtain rfl : xs = [] := List.eq_nil_of_length_eq_zero hr.len
    have e1 := fun w : World => Lib.run_eql_slice_nil (P := Tryz.prog) w 27 3 none 0 c 0 0 Tryz.underlying27
    go_enter Tryz.func62, Tryz.ntmps62
    go_wp2
    go_ret
    exact ⟨none, 0, rfl, World.ownsRow_nil _ _ _ _, Below.refl _ _⟩
  · have e1 := fun w : World => Lib.run_eql_slice_nil (P := Tryz.prog) w 27 3 (some a) n c 0 0 Tryz.underlying27
    have HR := Lib.hid ((hr.below (below_a1 w (.cells #[] 3))).row.reads)
    have HLB := Lib.hid (lab_built w)
    have HL := Lib.hid hr.len
    clear hr
    go_enter Tryz.func62, Tryz.ntmps62
    go_wp2_with (at_builtin; refine wpList_append_any _ rfl (.tmp 5) (.tmp 6) _ rfl w.heap.size 3 i0 _ 1 8 Tryz.underlying27 hi hz0 hz1 hz2 rfl (by omega) (.slice (some ⟨w.heap.size, 0, none⟩) 0 0) 0 [] rfl HLB.out _ (some a) n c (vi xs) rfl HR.out (vi_one xs) (by simp only [maxLen]; omega) (by omega) (by simp) ?_; intro v1 w1 hown1 hg1 hat1)
    obtain ⟨A1, c1, rfl⟩ := lab_form hown1
    go_ret
    exact ⟨A1, c1, by simp, by unfold OwI; simpa using hown1, ((Below.refl _ _).alloc (Nat.le_refl _) (.cells #[] 3)).grown hg1 (by simp) (by simp [Value.ownBlock])⟩
set_option maxRecDepth 10000 in
set_option maxHeartbeats 2000000 in
theorem implCopyRun (p s it : Int) (dn : Bool) (A : Option Addr) (n c : Nat) (B : Option Addr) (m d : Nat) (nn : Int) (C : Option Addr) (j k : Nat) (vs ev : List Int) (nx : List Nat) (w : World) (hv : SlI w A n vs) (he : SlI w B m ev) (hx : Rd w C j nx) (hn : n ≤ 2097152) (hm : m ≤ 2097152) (hj : j ≤ 2097152) :
    Calls Tryz.prog 35 #[.agg #[.int .i64 p, .int .i64 s, .int .i64 it, .bool dn, .slice A n c, .slice B m d, .int .i64 nn, .slice C j k]] w (MadeR w p s it dn n m nn j vs ev nx) := by
  have CV := Lib.hid (fun W (h : Below w.heap.size w W) => cloneInts A n c vs W (hv.below h) hn)
  have CE := Lib.hid (fun W (h : Below w.heap.size w W) => cloneInts B m d ev W (he.below h) hm)
  have CX := Lib.hid (fun W (h : Below w.heap.size w W) => implCopySet nn C j k nx W (hx.below h) hj)
  have HJ : Hid (nx.length = j) := Lib.hid hx.len
  unfold MadeN OwI at CV CE
  unfold MadeS at CX
  rw [HJ.out] at CX
  clear hv he hx
  have H_1 := Lib.hid (g_chain (g_chain (Below.refl w.heap.size w) (below_a1 w (.cells #[.int .i64 p, .int .i64 s, .int .i64 it, .bool dn, .slice A n c, .slice B m d, .int .i64 nn, .slice C j k] 39))) (below_a1 (w.alloc (.cells #[.int .i64 p, .int .i64 s, .int .i64 it, .bool dn, .slice A n c, .slice B m d, .int .i64 nn, .slice C j k] 39)) (.cells #[.int .i64 0, .int .i64 0, .int .i64 0, .bool false, .slice none 0 0, .slice none 0 0, .int .i64 0, .slice none 0 0] 39)))
  have BX_2 : Hid (Blk ((w.alloc (.cells #[.int .i64 p, .int .i64 s, .int .i64 it, .bool dn, .slice A n c, .slice B m d, .int .i64 nn, .slice C j k] 39)).alloc (.cells #[.int .i64 0, .int .i64 0, .int .i64 0, .bool false, .slice none 0 0, .slice none 0 0, .int .i64 0, .slice none 0 0] 39)) (w.heap.size) #[.int .i64 p, .int .i64 s, .int .i64 it, .bool dn, .slice A n c, .slice B m d, .int .i64 nn, .slice C j k] 39) := Lib.hid (by have h := (Blk.new w #[.int .i64 p, .int .i64 s, .int .i64 it, .bool dn, .slice A n c, .slice B m d, .int .i64 nn, .slice C j k] 39).alloc (.cells #[.int .i64 0, .int .i64 0, .int .i64 0, .bool false, .slice none 0 0, .slice none 0 0, .int .i64 0, .slice none 0 0] 39); simpa [Nat.add_assoc] using h)
  have BZ_3 : Hid (Blk ((w.alloc (.cells #[.int .i64 p, .int .i64 s, .int .i64 it, .bool dn, .slice A n c, .slice B m d, .int .i64 nn, .slice C j k] 39)).alloc (.cells #[.int .i64 0, .int .i64 0, .int .i64 0, .bool false, .slice none 0 0, .slice none 0 0, .int .i64 0, .slice none 0 0] 39)) (w.heap.size + 1) #[.int .i64 0, .int .i64 0, .int .i64 0, .bool false, .slice none 0 0, .slice none 0 0, .int .i64 0, .slice none 0 0] 39) := Lib.hid (by have h := Blk.new (w.alloc (.cells #[.int .i64 p, .int .i64 s, .int .i64 it, .bool dn, .slice A n c, .slice B m d, .int .i64 nn, .slice C j k] 39)) #[.int .i64 0, .int .i64 0, .int .i64 0, .bool false, .slice none 0 0, .slice none 0 0, .int .i64 0, .slice none 0 0] 39; simpa [Nat.add_assoc] using h)
  have sz0 : Hid (w.heap.size + 2 ≤ ((w.alloc (.cells #[.int .i64 p, .int .i64 s, .int .i64 it, .bool dn, .slice A n c, .slice B m d, .int .i64 nn, .slice C j k] 39)).alloc (.cells #[.int .i64 0, .int .i64 0, .int .i64 0, .bool false, .slice none 0 0, .slice none 0 0, .int .i64 0, .slice none 0 0] 39)).heap.size) := Lib.hid (by simp)
  go_enter Tryz.func35, Tryz.ntmps35
  have x_4 := BX_2.out.cell (i := 0) rfl
  have x_5 := BX_2.out.cell (i := 1) rfl
  have x_6 := BX_2.out.cell (i := 2) rfl
  have x_7 := BX_2.out.cell (i := 3) rfl
  have x_8 := BX_2.out.cell (i := 4) rfl
  have x_9 := BX_2.out.cell (i := 5) rfl
  have x_10 := BX_2.out.cell (i := 6) rfl
  have x_11 := BX_2.out.cell (i := 7) rfl
  have fz_12 := fun i => BX_2.out.frozen i
  have lt_13 := BX_2.out.lt
  go_wp2_with fail
  refine (CV.out _ H_1.out).mono ?_
  rintro e w1 ⟨Av, cv, rfl, ho, hb⟩
  clear x_4
  clear x_5
  clear x_6
  clear x_7
  clear x_8
  clear x_9
  clear x_10
  clear x_11
  clear fz_12
  clear lt_13
  have H_14 := Lib.hid (g_chain H_1.out hb)
  clear H_1
  have BX_15 := Lib.hid (BX_2.out.below hb)
  clear BX_2
  have BZ_16 := Lib.hid (BZ_3.out.below hb)
  clear BZ_3
  have sz_17 := Lib.hid (Below.size hb)
  have Ov_18 := Lib.hid (ho)
  clear ho hb
  have x_19 := BX_15.out.cell (i := 0) rfl
  have x_20 := BX_15.out.cell (i := 1) rfl
  have x_21 := BX_15.out.cell (i := 2) rfl
  have x_22 := BX_15.out.cell (i := 3) rfl
  have x_23 := BX_15.out.cell (i := 4) rfl
  have x_24 := BX_15.out.cell (i := 5) rfl
  have x_25 := BX_15.out.cell (i := 6) rfl
  have x_26 := BX_15.out.cell (i := 7) rfl
  have fz_27 := fun i => BX_15.out.frozen i
  have lt_28 := BX_15.out.lt
  go_wp2_with fail
  have hg_29 := grown_cell w1 (w.heap.size) 4 (.slice Av n cv)
  have H_30 := Lib.hid (H_14.out.grown hg_29 H_14.out.size (fun j hj => by injection hj with hj; have := sz0.out; have := sz_17.out; omega))
  clear H_14
  have BZ_31 := Lib.hid (BZ_16.out.grown hg_29 (by intro e; injection e with e; have := sz0.out; have := sz_17.out; omega))
  clear BZ_16
  have Ov_32 := Lib.hid (own_kept Ov_18.out hg_29 (own_kind Ov_18.out BX_15.out (by decide)))
  clear Ov_18
  have BX_33 : Hid (Blk (w1.setCell ⟨w.heap.size, 4, none⟩ (.slice Av n cv)) (w.heap.size) #[.int .i64 p, .int .i64 s, .int .i64 it, .bool dn, .slice Av n cv, .slice B m d, .int .i64 nn, .slice C j k] 39) := Lib.hid (Blk.set (BX_15.out) 4 (.slice Av n cv))
  clear BX_15
  have sz_34 := Lib.hid (World.grownBy.size hg_29)
  clear hg_29
  clear x_19 x_20 x_21 x_22 x_23 x_24 x_25 x_26 fz_27 lt_28
  have LTV := Lib.hid Ov_32.out.lt
  have x_35 := BX_33.out.cell (i := 0) rfl
  have x_36 := BX_33.out.cell (i := 1) rfl
  have x_37 := BX_33.out.cell (i := 2) rfl
  have x_38 := BX_33.out.cell (i := 3) rfl
  have x_39 := BX_33.out.cell (i := 4) rfl
  have x_40 := BX_33.out.cell (i := 5) rfl
  have x_41 := BX_33.out.cell (i := 6) rfl
  have x_42 := BX_33.out.cell (i := 7) rfl
  have fz_43 := fun i => BX_33.out.frozen i
  have lt_44 := BX_33.out.lt
  refine (CE.out _ H_30.out).mono ?_
  rintro e w2 ⟨Ae, ce, rfl, ho, hb⟩
  clear x_35
  clear x_36
  clear x_37
  clear x_38
  clear x_39
  clear x_40
  clear x_41
  clear x_42
  clear fz_43
  clear lt_44
  have H_45 := Lib.hid (g_chain H_30.out hb)
  clear H_30
  have BX_46 := Lib.hid (BX_33.out.below hb)
  clear BX_33
  have BZ_47 := Lib.hid (BZ_31.out.below hb)
  clear BZ_31
  have Ov_48 := Lib.hid (own_below Ov_32.out hb)
  clear Ov_32
  have sz_49 := Lib.hid (Below.size hb)
  have Oe_50 := Lib.hid (ho)
  have AP := Lib.hid (own_time LTV.out ho (Nat.le_refl _))
  clear ho hb
  have x_51 := BX_46.out.cell (i := 0) rfl
  have x_52 := BX_46.out.cell (i := 1) rfl
  have x_53 := BX_46.out.cell (i := 2) rfl
  have x_54 := BX_46.out.cell (i := 3) rfl
  have x_55 := BX_46.out.cell (i := 4) rfl
  have x_56 := BX_46.out.cell (i := 5) rfl
  have x_57 := BX_46.out.cell (i := 6) rfl
  have x_58 := BX_46.out.cell (i := 7) rfl
  have fz_59 := fun i => BX_46.out.frozen i
  have lt_60 := BX_46.out.lt
  go_wp2_with fail
  have hg_61 := grown_cell w2 (w.heap.size) 5 (.slice Ae m ce)
  have H_62 := Lib.hid (H_45.out.grown hg_61 H_45.out.size (fun j hj => by injection hj with hj; have := sz0.out; have := sz_17.out; have := sz_34.out; have := sz_49.out; omega))
  clear H_45
  have BZ_63 := Lib.hid (BZ_47.out.grown hg_61 (by intro e; injection e with e; have := sz0.out; have := sz_17.out; have := sz_34.out; have := sz_49.out; omega))
  clear BZ_47
  have Ov_64 := Lib.hid (own_kept Ov_48.out hg_61 (own_kind Ov_48.out BX_46.out (by decide)))
  clear Ov_48
  have Oe_65 := Lib.hid (own_kept Oe_50.out hg_61 (own_kind Oe_50.out BX_46.out (by decide)))
  clear Oe_50
  have BX_66 : Hid (Blk (w2.setCell ⟨w.heap.size, 5, none⟩ (.slice Ae m ce)) (w.heap.size) #[.int .i64 p, .int .i64 s, .int .i64 it, .bool dn, .slice Av n cv, .slice Ae m ce, .int .i64 nn, .slice C j k] 39) := Lib.hid (Blk.set (BX_46.out) 5 (.slice Ae m ce))
  clear BX_46
  have sz_67 := Lib.hid (World.grownBy.size hg_61)
  clear hg_61
  clear x_51 x_52 x_53 x_54 x_55 x_56 x_57 x_58 fz_59 lt_60
  have x_68 := BX_66.out.cell (i := 0) rfl
  have x_69 := BX_66.out.cell (i := 1) rfl
  have x_70 := BX_66.out.cell (i := 2) rfl
  have x_71 := BX_66.out.cell (i := 3) rfl
  have x_72 := BX_66.out.cell (i := 4) rfl
  have x_73 := BX_66.out.cell (i := 5) rfl
  have x_74 := BX_66.out.cell (i := 6) rfl
  have x_75 := BX_66.out.cell (i := 7) rfl
  have fz_76 := fun i => BX_66.out.frozen i
  have lt_77 := BX_66.out.lt
  refine (CX.out _ H_62.out).mono ?_
  rintro e w3 ⟨Ax, cx, rfl, ho, hb⟩
  clear x_68
  clear x_69
  clear x_70
  clear x_71
  clear x_72
  clear x_73
  clear x_74
  clear x_75
  clear fz_76
  clear lt_77
  have H_78 := Lib.hid (g_chain H_62.out hb)
  clear H_62
  have BX_79 := Lib.hid (BX_66.out.below hb)
  clear BX_66
  have BZ_80 := Lib.hid (BZ_63.out.below hb)
  clear BZ_63
  have Ov_81 := Lib.hid (own_below Ov_64.out hb)
  clear Ov_64
  have Oe_82 := Lib.hid (own_below Oe_65.out hb)
  clear Oe_65
  have sz_83 := Lib.hid (Below.size hb)
  have Ox_84 := Lib.hid (ho)
  clear ho hb
  have x_85 := BX_79.out.cell (i := 0) rfl
  have x_86 := BX_79.out.cell (i := 1) rfl
  have x_87 := BX_79.out.cell (i := 2) rfl
  have x_88 := BX_79.out.cell (i := 3) rfl
  have x_89 := BX_79.out.cell (i := 4) rfl
  have x_90 := BX_79.out.cell (i := 5) rfl
  have x_91 := BX_79.out.cell (i := 6) rfl
  have x_92 := BX_79.out.cell (i := 7) rfl
  have fz_93 := fun i => BX_79.out.frozen i
  have lt_94 := BX_79.out.lt
  have x_95 := BZ_80.out.cell (i := 0) rfl
  have x_96 := BZ_80.out.cell (i := 1) rfl
  have x_97 := BZ_80.out.cell (i := 2) rfl
  have x_98 := BZ_80.out.cell (i := 3) rfl
  have x_99 := BZ_80.out.cell (i := 4) rfl
  have x_100 := BZ_80.out.cell (i := 5) rfl
  have x_101 := BZ_80.out.cell (i := 6) rfl
  have x_102 := BZ_80.out.cell (i := 7) rfl
  have fz_103 := fun i => BZ_80.out.frozen i
  have lt_104 := BZ_80.out.lt
  go_wp2
  have hg_105 := (grown_cell w3 (w.heap.size) 6 (.int .i64 nn)).trans (grown_cell (w3.setCell ⟨w.heap.size, 6, none⟩ (.int .i64 nn)) (w.heap.size) 7 (.slice Ax j cx))
  have H_106 := Lib.hid (H_78.out.grown hg_105 H_78.out.size (fun j hj => by injection hj with hj; have := sz0.out; have := sz_17.out; have := sz_34.out; have := sz_49.out; have := sz_67.out; have := sz_83.out; omega))
  clear H_78
  have BZ_107 := Lib.hid (BZ_80.out.grown hg_105 (by intro e; injection e with e; have := sz0.out; have := sz_17.out; have := sz_34.out; have := sz_49.out; have := sz_67.out; have := sz_83.out; omega))
  clear BZ_80
  have Ov_108 := Lib.hid (own_kept Ov_81.out hg_105 (own_kind Ov_81.out BX_79.out (by decide)))
  clear Ov_81
  have Oe_109 := Lib.hid (own_kept Oe_82.out hg_105 (own_kind Oe_82.out BX_79.out (by decide)))
  clear Oe_82
  have Ox_110 := Lib.hid (own_kept Ox_84.out hg_105 (own_kind Ox_84.out BX_79.out (by decide)))
  clear Ox_84
  have BX_111 : Hid (Blk ((w3.setCell ⟨w.heap.size, 6, none⟩ (.int .i64 nn)).setCell ⟨w.heap.size, 7, none⟩ (.slice Ax j cx)) (w.heap.size) #[.int .i64 p, .int .i64 s, .int .i64 it, .bool dn, .slice Av n cv, .slice Ae m ce, .int .i64 nn, .slice Ax j cx] 39) := Lib.hid (Blk.set (Blk.set (BX_79.out) 6 (.int .i64 nn)) 7 (.slice Ax j cx))
  clear BX_79
  have sz_112 := Lib.hid (World.grownBy.size hg_105)
  clear hg_105
  have hg_113 := (((((((grown_cell ((w3.setCell ⟨w.heap.size, 6, none⟩ (.int .i64 nn)).setCell ⟨w.heap.size, 7, none⟩ (.slice Ax j cx)) (w.heap.size + 1) 0 (.int .i64 p)).trans (grown_cell (((w3.setCell ⟨w.heap.size, 6, none⟩ (.int .i64 nn)).setCell ⟨w.heap.size, 7, none⟩ (.slice Ax j cx)).setCell ⟨w.heap.size + 1, 0, none⟩ (.int .i64 p)) (w.heap.size + 1) 1 (.int .i64 s))).trans (grown_cell ((((w3.setCell ⟨w.heap.size, 6, none⟩ (.int .i64 nn)).setCell ⟨w.heap.size, 7, none⟩ (.slice Ax j cx)).setCell ⟨w.heap.size + 1, 0, none⟩ (.int .i64 p)).setCell ⟨w.heap.size + 1, 1, none⟩ (.int .i64 s)) (w.heap.size + 1) 2 (.int .i64 it))).trans (grown_cell (((((w3.setCell ⟨w.heap.size, 6, none⟩ (.int .i64 nn)).setCell ⟨w.heap.size, 7, none⟩ (.slice Ax j cx)).setCell ⟨w.heap.size + 1, 0, none⟩ (.int .i64 p)).setCell ⟨w.heap.size + 1, 1, none⟩ (.int .i64 s)).setCell ⟨w.heap.size + 1, 2, none⟩ (.int .i64 it)) (w.heap.size + 1) 3 (.bool dn))).trans (grown_cell ((((((w3.setCell ⟨w.heap.size, 6, none⟩ (.int .i64 nn)).setCell ⟨w.heap.size, 7, none⟩ (.slice Ax j cx)).setCell ⟨w.heap.size + 1, 0, none⟩ (.int .i64 p)).setCell ⟨w.heap.size + 1, 1, none⟩ (.int .i64 s)).setCell ⟨w.heap.size + 1, 2, none⟩ (.int .i64 it)).setCell ⟨w.heap.size + 1, 3, none⟩ (.bool dn)) (w.heap.size + 1) 4 (.slice Av n cv))).trans (grown_cell (((((((w3.setCell ⟨w.heap.size, 6, none⟩ (.int .i64 nn)).setCell ⟨w.heap.size, 7, none⟩ (.slice Ax j cx)).setCell ⟨w.heap.size + 1, 0, none⟩ (.int .i64 p)).setCell ⟨w.heap.size + 1, 1, none⟩ (.int .i64 s)).setCell ⟨w.heap.size + 1, 2, none⟩ (.int .i64 it)).setCell ⟨w.heap.size + 1, 3, none⟩ (.bool dn)).setCell ⟨w.heap.size + 1, 4, none⟩ (.slice Av n cv)) (w.heap.size + 1) 5 (.slice Ae m ce))).trans (grown_cell ((((((((w3.setCell ⟨w.heap.size, 6, none⟩ (.int .i64 nn)).setCell ⟨w.heap.size, 7, none⟩ (.slice Ax j cx)).setCell ⟨w.heap.size + 1, 0, none⟩ (.int .i64 p)).setCell ⟨w.heap.size + 1, 1, none⟩ (.int .i64 s)).setCell ⟨w.heap.size + 1, 2, none⟩ (.int .i64 it)).setCell ⟨w.heap.size + 1, 3, none⟩ (.bool dn)).setCell ⟨w.heap.size + 1, 4, none⟩ (.slice Av n cv)).setCell ⟨w.heap.size + 1, 5, none⟩ (.slice Ae m ce)) (w.heap.size + 1) 6 (.int .i64 nn))).trans (grown_cell (((((((((w3.setCell ⟨w.heap.size, 6, none⟩ (.int .i64 nn)).setCell ⟨w.heap.size, 7, none⟩ (.slice Ax j cx)).setCell ⟨w.heap.size + 1, 0, none⟩ (.int .i64 p)).setCell ⟨w.heap.size + 1, 1, none⟩ (.int .i64 s)).setCell ⟨w.heap.size + 1, 2, none⟩ (.int .i64 it)).setCell ⟨w.heap.size + 1, 3, none⟩ (.bool dn)).setCell ⟨w.heap.size + 1, 4, none⟩ (.slice Av n cv)).setCell ⟨w.heap.size + 1, 5, none⟩ (.slice Ae m ce)).setCell ⟨w.heap.size + 1, 6, none⟩ (.int .i64 nn)) (w.heap.size + 1) 7 (.slice Ax j cx))
  have H_114 := Lib.hid (H_106.out.grown hg_113 H_106.out.size (fun j hj => by injection hj with hj; have := sz0.out; have := sz_17.out; have := sz_34.out; have := sz_49.out; have := sz_67.out; have := sz_83.out; have := sz_112.out; omega))
  clear H_106
  have BX_115 := Lib.hid (BX_111.out.grown hg_113 (by intro e; injection e with e; have := sz0.out; have := sz_17.out; have := sz_34.out; have := sz_49.out; have := sz_67.out; have := sz_83.out; have := sz_112.out; omega))
  clear BX_111
  have Ov_116 := Lib.hid (own_kept Ov_108.out hg_113 (own_kind Ov_108.out BZ_107.out (by decide)))
  clear Ov_108
  have Oe_117 := Lib.hid (own_kept Oe_109.out hg_113 (own_kind Oe_109.out BZ_107.out (by decide)))
  clear Oe_109
  have Ox_118 := Lib.hid (own_kept Ox_110.out hg_113 (own_kind Ox_110.out BZ_107.out (by decide)))
  clear Ox_110
  have BZ_119 : Hid (Blk ((((((((((w3.setCell ⟨w.heap.size, 6, none⟩ (.int .i64 nn)).setCell ⟨w.heap.size, 7, none⟩ (.slice Ax j cx)).setCell ⟨w.heap.size + 1, 0, none⟩ (.int .i64 p)).setCell ⟨w.heap.size + 1, 1, none⟩ (.int .i64 s)).setCell ⟨w.heap.size + 1, 2, none⟩ (.int .i64 it)).setCell ⟨w.heap.size + 1, 3, none⟩ (.bool dn)).setCell ⟨w.heap.size + 1, 4, none⟩ (.slice Av n cv)).setCell ⟨w.heap.size + 1, 5, none⟩ (.slice Ae m ce)).setCell ⟨w.heap.size + 1, 6, none⟩ (.int .i64 nn)).setCell ⟨w.heap.size + 1, 7, none⟩ (.slice Ax j cx)) (w.heap.size + 1) #[.int .i64 p, .int .i64 s, .int .i64 it, .bool dn, .slice Av n cv, .slice Ae m ce, .int .i64 nn, .slice Ax j cx] 39) := Lib.hid (Blk.set (Blk.set (Blk.set (Blk.set (Blk.set (Blk.set (Blk.set (Blk.set (BZ_107.out) 0 (.int .i64 p)) 1 (.int .i64 s)) 2 (.int .i64 it)) 3 (.bool dn)) 4 (.slice Av n cv)) 5 (.slice Ae m ce)) 6 (.int .i64 nn)) 7 (.slice Ax j cx))
  clear BZ_107
  have sz_120 := Lib.hid (World.grownBy.size hg_113)
  clear hg_113
  refine bodyPost_ret (v := .agg #[.int .i64 p, .int .i64 s, .int .i64 it, .bool dn, .slice Av n cv, .slice Ae m ce, .int .i64 nn, .slice Ax j cx]) (by simp [results, Tryz.results35, go_sem, x_95, x_96, x_97, x_98, x_99, x_100, x_101, x_102]) rfl ?_
  exact ⟨Av, cv, Ae, ce, Ax, cx, rfl, ⟨own_monoG Ov_116.out (by have := sz0.out; have := sz_17.out; have := sz_34.out; have := sz_49.out; have := sz_67.out; have := sz_83.out; have := sz_112.out; have := sz_120.out; omega), own_monoG Oe_117.out (by have := sz0.out; have := sz_17.out; have := sz_34.out; have := sz_49.out; have := sz_67.out; have := sz_83.out; have := sz_112.out; have := sz_120.out; omega), own_monoG Ox_118.out (by have := sz0.out; have := sz_17.out; have := sz_34.out; have := sz_49.out; have := sz_67.out; have := sz_83.out; have := sz_112.out; have := sz_120.out; omega), AP.out⟩, H_114.out⟩
end Go.Proofs.YtpgnappddddlpaaGreatDoor
namespace Go.Proofs.YtpgnappddddlpaaGreatDoor
open Go.RowKit

set_option maxRecDepth 10000 in
set_option maxHeartbeats 4000000 in
theorem specTold (A : Option Addr) (n c : Nat) (es : List VE) (w : World) (hr : SlV w A n es) (hn : n ≤ 1048576) (hv : ∀ e ∈ es, 0 ≤ e.v ∧ e.v ≤ 1099511627776) :
    Calls Tryz.prog 88 #[.slice A n c] w (MadeZ w (told es)) := by
  obtain ⟨i0, hi, hz0, hz1, hz2⟩ := info_parts Tryz.infoInt
  have HR := Lib.hid hr
  have HL := Lib.hid hr.len
  have HV := Lib.hid hv
  clear hr hv
  go_enter Tryz.func88, Tryz.ntmps88
  go_wp2
  go_loopw [3, 9] (fun o i wr => ∃ (k : Nat) (A1 : Option Addr) (c1 : Nat), k ≤ n ∧ i = .int .i64 (k : Int) ∧ o = .slice A1 (told (es.take k)).length c1 ∧ Hid (wr.ownsRow w.heap.size 3 1 (.slice A1 (told (es.take k)).length c1) (told (es.take k)).length (vi (told (es.take k)))) ∧ Hid (Below w.heap.size w wr)) (fun _ i _ => n - (intOf i).toNat)
  case atStart => exact ⟨0, some ⟨w.heap.size, 0, none⟩, 0, Nat.zero_le _, rfl, rfl, Lib.hid (lab_built w), Lib.hid (below_a1 _ _)⟩
  case round =>
    obtain ⟨k, A1, c1, hk, rfl, rfl, hown, hbel⟩ := hrel
    have hlen := told_len (es.take k)
    rw [List.length_take] at hlen
    obtain ⟨ms, HMS⟩ : ∃ ms, Hid (told (es.take k) = ms) := ⟨_, Lib.hid rfl⟩
    rw [HMS.out] at hown hlen
    rw [HMS.out]
    by_cases hlt : k < n
    · have hml : ms.length ≤ 2097152 := by omega
      clear hlen
      obtain ⟨b, off, e, rfl, hbw, he, c0, c1', c2, c3⟩ := HR.out.at_ hlt
      have c0 := (hbel.out.cell (p := ⟨b, off + k * 4, none⟩) hbw).trans c0
      have c1' := (hbel.out.cell (p := ⟨b, off + k * 4 + 1, none⟩) hbw).trans c1'
      have c2 := (hbel.out.cell (p := ⟨b, off + k * 4 + 2, none⟩) hbw).trans c2
      have c3 := (hbel.out.cell (p := ⟨b, off + k * 4 + 3, none⟩) hbw).trans c3
      have HN := Lib.hid (told_snoc he.out)
      obtain ⟨q, r, hq, hr, hq1, hr1⟩ := lab_parts (HV.out e (List.mem_of_getElem? he.out))
      have hq2 : IntKind.i64.wrap q = q := IntWalk.i64_in _ (by omega)
      have hd : IntKind.i64.wrap (Int.tdiv e.v 1000) = q := by rw [hq]; exact hq2
      cases hi9 : e.i with
      | true =>
        cases ho9 : e.o with
        | true =>
          rw [hi9] at c0
          rw [ho9] at c1'
          have HE : Hid (told (es.take (k + 1)) = ms ++ [q] ++ [r]) := Lib.hid (by rw [HN.out]; unfold VE.labs; rw [hi9, ho9, hq, hr]; simp only [HMS.out]; simp)
          have OV := Lib.hid (own_below hown.out (below_a1 wr (.cells #[.bool true, .bool true, .int .i64 e.w, .int .i64 e.v] 94)))
          have BV := Lib.hid (g_chain hbel.out (below_a1 wr (.cells #[.bool true, .bool true, .int .i64 e.w, .int .i64 e.v] 94)))
          have XV := Lib.hid (Blk.new wr #[.bool true, .bool true, .int .i64 e.w, .int .i64 e.v] 94)
          have hlo := hbel.out.size
          clear hi9 ho9
          have Opx := Lib.hid (OV.out.alloc (.cells #[.int .i64 q] 3))
          go_wp2_with (at_builtin; refine wpList_append_any _ rfl (.tmp 15) (.tmp 19) _ rfl w.heap.size 3 i0 _ 1 8 Tryz.underlying27 hi hz0 hz1 hz2 rfl (by omega) (.slice A1 ms.length c1) ms.length (vi ms) rfl Opx.out ((wr.heap.size + 1) + 1) (some ⟨(wr.heap.size + 1), 0, none⟩) 1 1 [.int .i64 q] rfl (lab_reads _ _ _ _ (by simp)) (lab_one _) (by simp only [maxLen]; omega) (by omega) (by simp; omega) ?_)
          intro vp wp hownp hgp _
          obtain ⟨A1p, c1p, rfl⟩ := lab_form hownp
          obtain ⟨msp, HMp⟩ : ∃ l, Hid (l = ms ++ [q]) := ⟨_, Lib.hid rfl⟩
          have hlep : ms.length + 1 = msp.length := by rw [HMp.out]; simp
          have Op : Hid (wp.ownsRow w.heap.size 3 1 (.slice A1p msp.length c1p) msp.length (vi msp)) := Lib.hid (by rw [HMp.out, lab_snoc, List.length_append]; exact hownp)
          have Bp : Hid (Below w.heap.size w wp) := Lib.hid (lab_below (g_chain BV.out (below_a1 _ _)) Opx.out (by have := (BV.out).size; simp; omega) hgp)
          have hlop := Bp.out.size
          have XP := Lib.hid ((XV.out.alloc (.cells #[.int .i64 q] 3)).grown hgp (lab_ne hown.out (Nat.le_refl _)))
          have hx1 := XP.out.cell (i := 1) rfl
          have hx3 := XP.out.cell (i := 3) rfl
          clear hownp hgp OV BV
          rw [hlep]
          have Ozx := Lib.hid (Op.out.alloc (.cells #[.int .i64 r] 3))
          go_wp2_with (at_builtin; refine wpList_append_any _ rfl (.tmp 23) (.tmp 27) _ rfl w.heap.size 3 i0 _ 1 8 Tryz.underlying27 hi hz0 hz1 hz2 rfl (by omega) (.slice A1p msp.length c1p) msp.length (vi msp) rfl Ozx.out (wp.heap.size + 1) (some ⟨wp.heap.size, 0, none⟩) 1 1 [.int .i64 r] rfl (lab_reads _ _ _ _ (by simp)) (lab_one _) (by simp only [maxLen]; omega) (by omega) (by simp; omega) ?_)
          intro vz wz hownz hgz _
          obtain ⟨A1z, c1z, rfl⟩ := lab_form hownz
          obtain ⟨msz, HMz⟩ : ∃ l, Hid (l = msp ++ [r]) := ⟨_, Lib.hid rfl⟩
          have hlez : msp.length + 1 = msz.length := by rw [HMz.out]; simp
          have Oz : Hid (wz.ownsRow w.heap.size 3 1 (.slice A1z msz.length c1z) msz.length (vi msz)) := Lib.hid (by rw [HMz.out, lab_snoc, List.length_append]; exact hownz)
          have Bz : Hid (Below w.heap.size w wz) := Lib.hid (lab_below (g_chain Bp.out (below_a1 _ _)) Ozx.out (by have := (Bp.out).size; simp; omega) hgz)
          have hloz := Bz.out.size
          clear hownz hgz
          rw [hlez]
          go_wp2
          go_roundw
          case rel => exact ⟨k + 1, A1z, c1z, by omega, by go_num, by rw [HE.out, ← HMp.out, ← HMz.out], Lib.hid (by rw [HE.out, ← HMp.out, ← HMz.out]; exact Oz.out), Bz⟩
          case measure => simp [intOf]; omega
        | false =>
          rw [hi9] at c0
          rw [ho9] at c1'
          have HE : Hid (told (es.take (k + 1)) = ms ++ [q]) := Lib.hid (by rw [HN.out]; unfold VE.labs; rw [hi9, ho9, hq, hr]; simp only [HMS.out]; simp)
          have OV := Lib.hid (own_below hown.out (below_a1 wr (.cells #[.bool true, .bool false, .int .i64 e.w, .int .i64 e.v] 94)))
          have BV := Lib.hid (g_chain hbel.out (below_a1 wr (.cells #[.bool true, .bool false, .int .i64 e.w, .int .i64 e.v] 94)))
          have XV := Lib.hid (Blk.new wr #[.bool true, .bool false, .int .i64 e.w, .int .i64 e.v] 94)
          have hlo := hbel.out.size
          clear hi9 ho9
          have Opx := Lib.hid (OV.out.alloc (.cells #[.int .i64 q] 3))
          go_wp2_with (at_builtin; refine wpList_append_any _ rfl (.tmp 15) (.tmp 19) _ rfl w.heap.size 3 i0 _ 1 8 Tryz.underlying27 hi hz0 hz1 hz2 rfl (by omega) (.slice A1 ms.length c1) ms.length (vi ms) rfl Opx.out ((wr.heap.size + 1) + 1) (some ⟨(wr.heap.size + 1), 0, none⟩) 1 1 [.int .i64 q] rfl (lab_reads _ _ _ _ (by simp)) (lab_one _) (by simp only [maxLen]; omega) (by omega) (by simp; omega) ?_)
          intro vp wp hownp hgp _
          obtain ⟨A1p, c1p, rfl⟩ := lab_form hownp
          obtain ⟨msp, HMp⟩ : ∃ l, Hid (l = ms ++ [q]) := ⟨_, Lib.hid rfl⟩
          have hlep : ms.length + 1 = msp.length := by rw [HMp.out]; simp
          have Op : Hid (wp.ownsRow w.heap.size 3 1 (.slice A1p msp.length c1p) msp.length (vi msp)) := Lib.hid (by rw [HMp.out, lab_snoc, List.length_append]; exact hownp)
          have Bp : Hid (Below w.heap.size w wp) := Lib.hid (lab_below (g_chain BV.out (below_a1 _ _)) Opx.out (by have := (BV.out).size; simp; omega) hgp)
          have hlop := Bp.out.size
          have XP := Lib.hid ((XV.out.alloc (.cells #[.int .i64 q] 3)).grown hgp (lab_ne hown.out (Nat.le_refl _)))
          have hx1 := XP.out.cell (i := 1) rfl
          have hx3 := XP.out.cell (i := 3) rfl
          clear hownp hgp OV BV
          rw [hlep]
          go_wp2
          go_roundw
          case rel => exact ⟨k + 1, A1p, c1p, by omega, by go_num, by rw [HE.out, ← HMp.out], Lib.hid (by rw [HE.out, ← HMp.out]; exact Op.out), Bp⟩
          case measure => simp [intOf]; omega
      | false =>
        cases ho9 : e.o with
        | true =>
          rw [hi9] at c0
          rw [ho9] at c1'
          have HE : Hid (told (es.take (k + 1)) = ms ++ [r]) := Lib.hid (by rw [HN.out]; unfold VE.labs; rw [hi9, ho9, hq, hr]; simp only [HMS.out]; simp)
          have OV := Lib.hid (own_below hown.out (below_a1 wr (.cells #[.bool false, .bool true, .int .i64 e.w, .int .i64 e.v] 94)))
          have BV := Lib.hid (g_chain hbel.out (below_a1 wr (.cells #[.bool false, .bool true, .int .i64 e.w, .int .i64 e.v] 94)))
          have XV := Lib.hid (Blk.new wr #[.bool false, .bool true, .int .i64 e.w, .int .i64 e.v] 94)
          have hlo := hbel.out.size
          clear hi9 ho9
          have Ozx := Lib.hid (OV.out.alloc (.cells #[.int .i64 r] 3))
          go_wp2_with (at_builtin; refine wpList_append_any _ rfl (.tmp 23) (.tmp 27) _ rfl w.heap.size 3 i0 _ 1 8 Tryz.underlying27 hi hz0 hz1 hz2 rfl (by omega) (.slice A1 ms.length c1) ms.length (vi ms) rfl Ozx.out ((wr.heap.size + 1) + 1) (some ⟨(wr.heap.size + 1), 0, none⟩) 1 1 [.int .i64 r] rfl (lab_reads _ _ _ _ (by simp)) (lab_one _) (by simp only [maxLen]; omega) (by omega) (by simp; omega) ?_)
          intro vz wz hownz hgz _
          obtain ⟨A1z, c1z, rfl⟩ := lab_form hownz
          obtain ⟨msz, HMz⟩ : ∃ l, Hid (l = ms ++ [r]) := ⟨_, Lib.hid rfl⟩
          have hlez : ms.length + 1 = msz.length := by rw [HMz.out]; simp
          have Oz : Hid (wz.ownsRow w.heap.size 3 1 (.slice A1z msz.length c1z) msz.length (vi msz)) := Lib.hid (by rw [HMz.out, lab_snoc, List.length_append]; exact hownz)
          have Bz : Hid (Below w.heap.size w wz) := Lib.hid (lab_below (g_chain BV.out (below_a1 _ _)) Ozx.out (by have := (BV.out).size; simp; omega) hgz)
          have hloz := Bz.out.size
          clear hownz hgz
          rw [hlez]
          go_wp2
          go_roundw
          case rel => exact ⟨k + 1, A1z, c1z, by omega, by go_num, by rw [HE.out, ← HMz.out], Lib.hid (by rw [HE.out, ← HMz.out]; exact Oz.out), Bz⟩
          case measure => simp [intOf]; omega
        | false =>
          rw [hi9] at c0
          rw [ho9] at c1'
          have HE : Hid (told (es.take (k + 1)) = ms) := Lib.hid (by rw [HN.out]; unfold VE.labs; rw [hi9, ho9, hq, hr]; simp only [HMS.out]; simp)
          have OV := Lib.hid (own_below hown.out (below_a1 wr (.cells #[.bool false, .bool false, .int .i64 e.w, .int .i64 e.v] 94)))
          have BV := Lib.hid (g_chain hbel.out (below_a1 wr (.cells #[.bool false, .bool false, .int .i64 e.w, .int .i64 e.v] 94)))
          have XV := Lib.hid (Blk.new wr #[.bool false, .bool false, .int .i64 e.w, .int .i64 e.v] 94)
          have hlo := hbel.out.size
          clear hi9 ho9
          go_wp2
          go_roundw
          case rel => exact ⟨k + 1, A1, c1, by omega, by go_num, by rw [HE.out], Lib.hid (by rw [HE.out]; exact OV.out), BV⟩
          case measure => simp [intOf]; omega
    · obtain rfl : k = n := by omega
      have HT : Hid (ms = told es) := Lib.hid (by rw [← HMS.out, List.take_of_length_le (by rw [HL.out]; exact Nat.le_refl _)])
      go_wp2
      go_ret
      rw [HT.out] at hown
      exact ⟨A1, c1, by rw [HT.out]; first | rfl | simp, hown.out, hbel.out⟩
end Go.Proofs.YtpgnappddddlpaaGreatDoor
namespace Go.Proofs.YtpgnappddddlpaaGreatDoor
open Go.RowKit

def mostQ (T : List Int) (x : Int) (k : Nat) : Int × Nat := (T.take k).foldl (mostStep T) (x, 0)
theorem mostQ_next {T : List Int} {x a : Int} {k : Nat} (h : T[k]? = some a) : mostQ T x (k + 1) = mostStep T (mostQ T x k) a := by
  unfold mostQ
  rw [take_snoc h, List.foldl_append]
  rfl
theorem mostQ_all (T : List Int) (x : Int) : (mostQ T x T.length).1 = mostR T x := by
  unfold mostQ mostR
  rw [List.take_length]
theorem mostQ_le (T : List Int) (x : Int) (k : Nat) : (mostQ T x k).2 ≤ T.length := by
  unfold mostQ
  suffices H : ∀ (R : List Int) (q : Int × Nat), q.2 ≤ T.length → (R.foldl (mostStep T) q).2 ≤ T.length from H _ _ (by simp)
  intro R
  induction R with
  | nil => intro q h; exact h
  | cons a R ih =>
    intro q h
    rw [List.foldl_cons]
    refine ih _ ?_
    unfold mostStep
    split
    · exact List.count_le_length
    · exact h
theorem count_next {T : List Int} {a z : Int} {j : Nat} (h : T[j]? = some z) : (T.take (j + 1)).count a = (T.take j).count a + if a = z then 1 else 0 := by
  rw [take_snoc h, count_snoc]
  by_cases hz : z = a
  · rw [if_pos hz, if_pos hz.symm]
  · rw [if_neg hz, if_neg (fun e => hz e.symm)]
set_option maxRecDepth 10000 in
set_option maxHeartbeats 4000000 in
theorem specMost (A : Option Addr) (n c : Nat) (zs : List Int) (x : Int) (w : World) (hr : SlI w A n zs) (hn : n ≤ 2097152) :
    Calls Tryz.prog 87 #[.slice A n c, .int .i64 x] w (fun e w' => e = .returned (.int .i64 (mostR zs x)) ∧ w' = w) := by
  have HR := Lib.hid hr
  have HL := Lib.hid hr.len
  clear hr
  go_enter Tryz.func87, Tryz.ntmps87
  go_wp2
  go_loopw [5, 6, 15] (fun b5 m6 i wr => ∃ k : Nat, k ≤ n ∧ i = .int .i64 (k : Int) ∧ b5 = .int .i64 (mostQ zs x k).1 ∧ m6 = .int .i64 ((mostQ zs x k).2 : Int) ∧ wr = w) (fun _ _ i _ => n - (intOf i).toNat)
  case atStart => exact ⟨0, Nat.zero_le _, rfl, rfl, rfl, rfl⟩
  case round =>
    obtain ⟨k, hk, rfl, rfl, rfl, rfl⟩ := hrel
    by_cases hlt : k < n
    · obtain ⟨b, off, a, rfl, hbw, ha, hca⟩ := HR.out.at_ hlt
      have HN := Lib.hid (mostQ_next (x := x) ha)
      have HLE := Lib.hid (mostQ_le zs x k)
      obtain ⟨q1, hq1⟩ : ∃ q1, q1 = (mostQ zs x k).1 := ⟨_, rfl⟩
      obtain ⟨m, hm⟩ : ∃ m, m = (mostQ zs x k).2 := ⟨_, rfl⟩
      obtain ⟨mi, hmi⟩ : ∃ mi : Int, mi = (m : Int) := ⟨_, rfl⟩
      simp only [← hq1, ← hm, ← hmi]
      have HQ1 := Lib.hid hq1
      have HM := Lib.hid hm
      have HMI := Lib.hid hmi
      clear hq1 hm hmi ha
      go_wp2
      go_loopw [9, 21] (fun c9 i wq => ∃ j : Nat, j ≤ n ∧ i = .int .i64 (j : Int) ∧ c9 = .int .i64 ((zs.take j).count a : Int) ∧ wq = wr) (fun _ i _ => n - (intOf i).toNat)
      case atStart => exact ⟨0, Nat.zero_le _, rfl, rfl, rfl⟩
      case round =>
        obtain ⟨j, hj, rfl, rfl, rfl⟩ := hrel
        have HCL := List.count_le_length (l := zs.take j) (a := a)
        rw [List.length_take] at HCL
        obtain ⟨cnt, hcnt⟩ : ∃ cnt, cnt = (zs.take j).count a := ⟨_, rfl⟩
        rw [← hcnt] at HCL
        obtain ⟨ci, hci⟩ : ∃ ci : Int, ci = (cnt : Int) := ⟨_, rfl⟩
        simp only [← hcnt, ← hci]
        have HCN := Lib.hid hcnt
        have HCI := Lib.hid hci
        have hcb : cnt ≤ 2097152 := by omega
        clear hcnt HCL
        by_cases hlj : j < n
        · obtain ⟨b', off', z, hb', hbw', hz, hcz⟩ := HR.out.at_ hlj
          injection hb' with hb'
          injection hb' with hb1 hb2
          subst hb1
          subst hb2
          have HZ := Lib.hid (count_next (a := a) hz)
          have hwc : IntKind.i64.wrap (ci + 1) = ci + 1 := IntWalk.i64_in _ (by omega)
          clear hci hz hbw'
          by_cases haz : a = z
          · have hcz2 := hcz
            rw [← haz] at hcz2
            have HAZ := Lib.hid haz
            clear hcz haz
            go_wp2
            go_roundw
            case rel => exact ⟨j + 1, by omega, by go_num, g_val (by rw [HZ.out, if_pos HAZ.out, ← HCN.out]; have := HCI.out; omega), by first | rfl | trivial⟩
            case measure => simp [intOf]; omega
          · have hne : (a == z) = false := by simp [haz]
            have HAZ := Lib.hid haz
            go_wp2
            go_roundw
            case rel => exact ⟨j + 1, by omega, by go_num, g_val (by rw [HZ.out, if_neg HAZ.out, ← HCN.out]; have := HCI.out; omega), by first | rfl | trivial⟩
            case measure => simp [intOf]; omega
        · have HJ : Hid (j = n) := Lib.hid (by omega)
          have HCT : Hid (zs.count a = cnt) := Lib.hid (by rw [HCN.out, List.take_of_length_le (by rw [HL.out, HJ.out]; exact Nat.le_refl _)])
          have hm2 : mi = (m : Int) := HMI.out
          by_cases hg : mi < ci
          · have hg2 : decide (mi < ci) = true := by simp [hg]
            have HST : Hid (mostQ zs x (k + 1) = (a, cnt)) := Lib.hid (by rw [HN.out]; unfold mostStep; rw [if_pos (.inl (by rw [HCT.out, ← HM.out]; omega)), HCT.out])
            clear hci hm2
            go_wp2
            go_roundw
            case rel => exact ⟨k + 1, by omega, by go_num, g_val (by rw [HST.out]), g_val (by rw [HST.out]; exact HCI.out), by first | rfl | trivial⟩
            case measure => simp [intOf]; omega
          · have hg2 : decide (mi < ci) = false := by simp; omega
            by_cases he : ci = mi
            · have he2 : (ci == mi) = true := by simp [he]
              by_cases hl : a < q1
              · have HST : Hid (mostQ zs x (k + 1) = (a, cnt)) := Lib.hid (by rw [HN.out]; unfold mostStep; rw [if_pos (.inr (by rw [HCT.out, ← HM.out, ← HQ1.out]; omega)), HCT.out])
                have HE := Lib.hid he
                clear hci hm2 he hg
                go_wp2
                go_roundw
                case rel => exact ⟨k + 1, by omega, by go_num, g_val (by rw [HST.out]), g_val (by rw [HST.out]; exact HCI.out), by first | rfl | trivial⟩
                case measure => simp [intOf]; omega
              · have HST : Hid (mostQ zs x (k + 1) = mostQ zs x k) := Lib.hid (by rw [HN.out]; unfold mostStep; rw [if_neg (by rw [HCT.out, ← HM.out, ← HQ1.out]; omega)])
                have hl2 : decide (a < q1) = false := by simp; omega
                clear hci hm2 he hg
                go_wp2
                go_roundw
                case rel => exact ⟨k + 1, by omega, by go_num, g_val (by rw [HST.out]; exact HQ1.out), g_val (by rw [HST.out, ← HM.out]; exact HMI.out), by first | rfl | trivial⟩
                case measure => simp [intOf]; omega
            · have he2 : (ci == mi) = false := by simp [he]
              have HST : Hid (mostQ zs x (k + 1) = mostQ zs x k) := Lib.hid (by rw [HN.out]; unfold mostStep; rw [if_neg (by rw [HCT.out, ← HM.out, ← HQ1.out]; omega)])
              clear hci hm2
              go_wp2
              go_roundw
              case rel => exact ⟨k + 1, by omega, by go_num, g_val (by rw [HST.out]; exact HQ1.out), g_val (by rw [HST.out, ← HM.out]; exact HMI.out), by first | rfl | trivial⟩
              case measure => simp [intOf]; omega
    · obtain rfl : k = n := by omega
      go_wp2
      go_ret
      exact ⟨g_int (by rw [← HL.out, mostQ_all]), rfl⟩
end Go.Proofs.YtpgnappddddlpaaGreatDoor
namespace Go.Proofs.YtpgnappddddlpaaGreatDoor
open Go.RowKit

set_option maxRecDepth 10000 in
set_option maxHeartbeats 4000000 in
theorem specValue (p s x : Int) (A : Option Addr) (n c : Nat) (es : List VE) (w : World) (hp : 1 ≤ p ∧ p ≤ 4) (hr : SlV w A n es) (hn : n ≤ 1048576) (hv : ∀ e ∈ es, 0 ≤ e.v ∧ e.v ≤ 1099511627776) :
    Calls Tryz.prog 71 #[.agg #[.int .i64 p, .int .i64 s], .int .i64 x, .slice A n c] w (fun e w' => e = .returned (.int .i64 (newVal p x es)) ∧ Below w.heap.size w w') := by
  have HR := Lib.hid hr
  have HL := Lib.hid hr.len
  have HV := Lib.hid hv
  clear hr hv
  have CM := Lib.hid (fun a b W => specMin a b W)
  have CA := Lib.hid (fun a b W => specAddCap a b W)
  have hp4 : p = 1 ∨ p = 2 ∨ p = 3 ∨ p = 4 := by omega
  clear hp
  rcases hp4 with rfl | rfl | rfl | rfl
  · have hq : newVal 1 x es = newRank es := by unfold newVal; simp
    rw [hq]
    have C := Lib.hid (fun W (h : Below w.heap.size w W) => specRank A n c es W (HR.out.below h) (by omega))
    clear hq CM CA
    go_enter Tryz.func71, Tryz.ntmps71
    go_wp2_with fail
    refine (C.out _ (below_a1 _ _)).mono ?_
    rintro e w1 ⟨rfl, hb⟩
    have HB := Lib.hid (g_chain (below_a1 _ _) hb)
    clear hb
    go_wp2
    go_ret
    exact ⟨rfl, HB.out⟩
  · have hq : newVal 2 x es = minAll x es := by unfold newVal; simp
    rw [hq]
    clear hq
    have X0 := Lib.hid (Blk.new w #[.int .i64 2, .int .i64 s] 36)
    have B0 := Lib.hid (below_a1 w (.cells #[.int .i64 2, .int .i64 s] 36))
    go_enter Tryz.func71, Tryz.ntmps71
    go_wp2
    go_loopw [1, 23] (fun v1 i wr => ∃ k : Nat, k ≤ n ∧ i = .int .i64 (k : Int) ∧ v1 = .int .i64 (minAll x (es.take k)) ∧ Hid (Below w.heap.size w wr) ∧ Hid (Blk wr w.heap.size #[.int .i64 2, .int .i64 s] 36)) (fun _ i _ => n - (intOf i).toNat)
    case atStart => exact ⟨0, Nat.zero_le _, rfl, rfl, B0, X0⟩
    case round =>
      clear X0 B0
      obtain ⟨k, hk, rfl, rfl, hbel, hX⟩ := hrel
      obtain ⟨q, hq⟩ : ∃ q, q = minAll x (es.take k) := ⟨_, rfl⟩
      simp only [← hq]
      have HS := Lib.hid hq
      clear hq
      by_cases hlt : k < n
      · skip
        obtain ⟨b, off, e, rfl, hbw, he, c0, c1, c2, c3⟩ := HR.out.at_ hlt
        have c0 := (hbel.out.cell (p := ⟨b, off + k * 4, none⟩) hbw).trans c0
        have c1 := (hbel.out.cell (p := ⟨b, off + k * 4 + 1, none⟩) hbw).trans c1
        have c2 := (hbel.out.cell (p := ⟨b, off + k * 4 + 2, none⟩) hbw).trans c2
        have c3 := (hbel.out.cell (p := ⟨b, off + k * 4 + 3, none⟩) hbw).trans c3
        have HN := Lib.hid (minAll_snoc x he.out)
        have HX := Lib.hid (hX.out.alloc (.cells #[.bool e.i, .bool e.o, .int .i64 e.w, .int .i64 e.v] 94))
        have hj0 := HX.out.cell (i := 0) rfl
        have C := Lib.hid (fun W => CM.out q e.v W)
        have HZ : Hid (minAll x (es.take (k + 1)) = min q e.v) := Lib.hid (by rw [HN.out, ← HS.out])
        generalize min q e.v = z at C HZ
        go_wp2_with fail
        refine (C.out _).mono ?_
        rintro e1 w1 ⟨rfl, rfl⟩
        go_wp2
        go_roundw
        case rel => exact ⟨k + 1, by omega, by go_num, g_val HZ.out.symm, Lib.hid (g_chain hbel.out (below_a1 _ _)), HX⟩
        case measure => simp [intOf]; omega
      · obtain rfl : k = n := by omega
        go_wp2
        go_ret
        exact ⟨g_int (by rw [HS.out, ← HL.out, List.take_length]), hbel.out⟩
  · have hq : newVal 3 x es = minPath x es := by unfold newVal; simp
    rw [hq]
    clear hq
    have X0 := Lib.hid (Blk.new w #[.int .i64 3, .int .i64 s] 36)
    have B0 := Lib.hid (below_a1 w (.cells #[.int .i64 3, .int .i64 s] 36))
    go_enter Tryz.func71, Tryz.ntmps71
    go_wp2
    go_loopw [1, 23] (fun v1 i wr => ∃ k : Nat, k ≤ n ∧ i = .int .i64 (k : Int) ∧ v1 = .int .i64 (minPath x (es.take k)) ∧ Hid (Below w.heap.size w wr) ∧ Hid (Blk wr w.heap.size #[.int .i64 3, .int .i64 s] 36)) (fun _ i _ => n - (intOf i).toNat)
    case atStart => exact ⟨0, Nat.zero_le _, rfl, rfl, B0, X0⟩
    case round =>
      clear X0 B0
      obtain ⟨k, hk, rfl, rfl, hbel, hX⟩ := hrel
      obtain ⟨q, hq⟩ : ∃ q, q = minPath x (es.take k) := ⟨_, rfl⟩
      simp only [← hq]
      have HS := Lib.hid hq
      clear hq
      by_cases hlt : k < n
      · skip
        obtain ⟨b, off, e, rfl, hbw, he, c0, c1, c2, c3⟩ := HR.out.at_ hlt
        have c0 := (hbel.out.cell (p := ⟨b, off + k * 4, none⟩) hbw).trans c0
        have c1 := (hbel.out.cell (p := ⟨b, off + k * 4 + 1, none⟩) hbw).trans c1
        have c2 := (hbel.out.cell (p := ⟨b, off + k * 4 + 2, none⟩) hbw).trans c2
        have c3 := (hbel.out.cell (p := ⟨b, off + k * 4 + 3, none⟩) hbw).trans c3
        have HN := Lib.hid (minPath_snoc x he.out)
        have HX := Lib.hid (hX.out.alloc (.cells #[.bool e.i, .bool e.o, .int .i64 e.w, .int .i64 e.v] 94))
        have hj0 := HX.out.cell (i := 0) rfl
        cases hi : e.i with
        | true =>
          rw [hi] at c0 HX hj0
          have C1 := Lib.hid (fun W => CA.out e.v e.w W)
          have C := Lib.hid (fun W => CM.out q (addC e.v e.w) W)
          have HZ : Hid (minPath x (es.take (k + 1)) = min q (addC e.v e.w)) := Lib.hid (by rw [HN.out, ← HS.out]; unfold pathStep; rw [hi]; rfl)
          generalize addC e.v e.w = y at C1 C HZ
          generalize min q y = z at C HZ
          go_wp2_with fail
          refine (C1.out _).mono ?_
          rintro e1 w1 ⟨rfl, rfl⟩
          go_wp2_with fail
          refine (C.out _).mono ?_
          rintro e1 w1 ⟨rfl, rfl⟩
          go_wp2
          go_roundw
          case rel => exact ⟨k + 1, by omega, by go_num, g_val HZ.out.symm, Lib.hid (g_chain hbel.out (below_a1 _ _)), HX⟩
          case measure => simp [intOf]; omega
        | false =>
          rw [hi] at c0 HX hj0
          have HZ : Hid (minPath x (es.take (k + 1)) = q) := Lib.hid (by rw [HN.out, ← HS.out]; unfold pathStep; rw [hi]; rfl)
          go_wp2
          go_roundw
          case rel => exact ⟨k + 1, by omega, by go_num, g_val HZ.out.symm, Lib.hid (g_chain hbel.out (below_a1 _ _)), HX⟩
          case measure => simp [intOf]; omega
      · obtain rfl : k = n := by omega
        go_wp2
        go_ret
        exact ⟨g_int (by rw [HS.out, ← HL.out, List.take_length]), hbel.out⟩
  · have hq : newVal 4 x es = mostR (told es) x := by unfold newVal; simp
    rw [hq]
    have C := Lib.hid (fun W (h : Below w.heap.size w W) => specTold A n c es W (HR.out.below h) hn HV.out)
    have C2 := Lib.hid (fun W B d (h : SlI W B (told es).length (told es)) => specMost B (told es).length d (told es) x W h (by have := told_len es; have := HL.out; omega))
    unfold MadeZ at C
    generalize told es = T at C C2 ⊢
    clear hq CM CA
    go_enter Tryz.func71, Tryz.ntmps71
    go_wp2_with fail
    refine (C.out _ (below_a1 _ _)).mono ?_
    rintro e w1 ⟨B, d, rfl, ho, hb⟩
    have HB := Lib.hid (g_chain (below_a1 _ _) hb)
    have HT := Lib.hid (SlI.of_own ho)
    clear hb ho
    go_wp2_with fail
    refine (C2.out _ _ _ HT.out).mono ?_
    rintro e w2 ⟨rfl, rfl⟩
    go_wp2
    go_ret
    exact ⟨rfl, HB.out⟩

set_option maxRecDepth 20000 in
set_option maxHeartbeats 8000000 in
theorem specUpdate (p s v x : Int) (A : Option Addr) (n c : Nat) (es : List VE) (w : World) (hr : SlV w A n es) (hn : n ≤ 1048576) :
    Calls Tryz.prog 53 #[.agg #[.int .i64 p, .int .i64 s], .int .i64 v, .int .i64 x, .slice A n c] w (MadeU w (updV p v x es) (updE p v x es)) := by
  obtain ⟨i0, hi, hz0, hz1, hz2⟩ := info_parts Tryz.infoInt
  have HR := Lib.hid hr
  have HL := Lib.hid hr.len
  clear hr
  have CV := Lib.hid (fun W => specVertex v W)
  have CL := Lib.hid (fun W (h : Below w.heap.size w W) => specViews A n c es W (HR.out.below h) (by omega))
  unfold GTell at CL
  by_cases hp1 : p < 1
  · skip
    have hno := upd_no (p := p) (v := v) (x := x) (es := es) (by unfold updB progB; simp; omega)
    rw [hno.1, hno.2]
    clear hno
    go_enter Tryz.func53, Tryz.ntmps53
    go_wp2
    go_ret2
    exact MadeU.no (below_a1 _ _)
  by_cases hp2 : 4 < p
  · skip
    have hno := upd_no (p := p) (v := v) (x := x) (es := es) (by unfold updB progB; simp; omega)
    rw [hno.1, hno.2]
    clear hno
    go_enter Tryz.func53, Tryz.ntmps53
    go_wp2
    go_ret2
    exact MadeU.no (below_a1 _ _)
  cases hv : vtxB v with
  | false =>
    rw [hv] at CV
    have hno := upd_no (p := p) (v := v) (x := x) (es := es) (by unfold updB; rw [hv]; simp)
    rw [hno.1, hno.2]
    clear hno
    go_enter Tryz.func53, Tryz.ntmps53
    go_wp2_with fail
    refine (CV.out _).mono ?_
    rintro e w1 ⟨rfl, rfl⟩
    go_wp2
    go_ret2
    exact MadeU.no (below_a1 _ _)
  | true =>
  rw [hv] at CV
  by_cases hx0 : x < 0
  · skip
    have hno := upd_no (p := p) (v := v) (x := x) (es := es) (by unfold updB valB; simp; omega)
    rw [hno.1, hno.2]
    clear hno
    go_enter Tryz.func53, Tryz.ntmps53
    go_wp2_with fail
    refine (CV.out _).mono ?_
    rintro e w1 ⟨rfl, rfl⟩
    go_wp2
    go_ret2
    exact MadeU.no (below_a1 _ _)
  by_cases hx1 : 1099511627776 < x
  · skip
    have hno := upd_no (p := p) (v := v) (x := x) (es := es) (by unfold updB valB; simp; omega)
    rw [hno.1, hno.2]
    clear hno
    go_enter Tryz.func53, Tryz.ntmps53
    go_wp2_with fail
    refine (CV.out _).mono ?_
    rintro e w1 ⟨rfl, rfl⟩
    go_wp2
    go_ret2
    exact MadeU.no (below_a1 _ _)
  have hxb : valB x = true := by unfold valB; simp; omega
  cases hl : viewsB es with
  | false =>
    rw [hl] at CL
    have hno := upd_no (p := p) (v := v) (x := x) (es := es) (by unfold updB; rw [hl]; simp)
    rw [hno.1, hno.2]
    clear hno
    go_enter Tryz.func53, Tryz.ntmps53
    go_wp2_with fail
    refine (CV.out _).mono ?_
    rintro e w1 ⟨rfl, rfl⟩
    go_wp2_with fail
    refine (CL.out _ (below_a1 _ _)).mono ?_
    rintro e w2 ⟨rfl, hb⟩
    have B2 := Lib.hid (g_chain (below_a1 w (.cells #[.int .i64 p, .int .i64 s] 36)) hb)
    have X2 := Lib.hid ((Blk.new w #[.int .i64 p, .int .i64 s] 36).below hb)
    clear hb
    go_wp2
    go_ret2
    exact MadeU.no B2.out
  | true =>
  rw [hl] at CL
  have hyes : updB p v x es = true := by unfold updB progB; rw [hv, hl, hxb]; simp; omega
  have HU := updB_is hyes
  have hy := upd_yes hyes
  rw [hy.1, hy.2]
  have HVV : Hid (∀ e ∈ es, 0 ≤ e.v ∧ e.v ≤ 1099511627776) := Lib.hid (fun e he => by have := VE.ok_lim (HU.2.2.2.2 e he); omega)
  have HNX := Lib.hid (newVal_lim (p := p) HU.2.2.1 HU.2.2.2.2)
  have HOP : Hid (∀ e ∈ es, e.o = true → 0 < outsN es) := Lib.hid (fun e he ho => outsN_pos he ho)
  have CN := Lib.hid (fun W (h : Below w.heap.size w W) => specValue p s x A n c es W HU.1 (HR.out.below h) hn HVV.out)
  have HP := Lib.hid HU.1
  clear hy hyes HU hv hl hxb
  generalize newVal p x es = next at CN HNX ⊢
  go_enter Tryz.func53, Tryz.ntmps53
  go_wp2_with fail
  refine (CV.out _).mono ?_
  rintro e w1 ⟨rfl, rfl⟩
  go_wp2_with fail
  refine (CL.out _ (below_a1 _ _)).mono ?_
  rintro e w2 ⟨rfl, hb⟩
  have B2 := Lib.hid (g_chain (below_a1 w (.cells #[.int .i64 p, .int .i64 s] 36)) hb)
  have X2 := Lib.hid ((Blk.new w #[.int .i64 p, .int .i64 s] 36).below hb)
  clear hb
  go_wp2
  go_loopw [10, 45] (fun o i wr => ∃ k : Nat, k ≤ n ∧ i = .int .i64 (k : Int) ∧ o = .int .i64 (outsN (es.take k) : Int) ∧ Hid (Below w.heap.size w wr) ∧ Hid (Blk wr w.heap.size #[.int .i64 p, .int .i64 s] 36)) (fun _ i _ => n - (intOf i).toNat)
  case atStart => exact ⟨0, Nat.zero_le _, rfl, rfl, B2, X2⟩
  case round =>
    clear B2 X2
    obtain ⟨k, hk, rfl, rfl, hbel, hX⟩ := hrel
    have HO := outsN_le (es.take k)
    rw [List.length_take] at HO
    obtain ⟨q, hq⟩ : ∃ q, q = outsN (es.take k) := ⟨_, rfl⟩
    rw [← hq] at HO
    simp only [← hq]
    have HS := Lib.hid hq
    have hs2 : q ≤ 2097152 := by omega
    clear hq HO
    by_cases hlt : k < n
    · skip
      obtain ⟨b, off, e, rfl, hbw, he, c0, c1, c2, c3⟩ := HR.out.at_ hlt
      have c0 := (hbel.out.cell (p := ⟨b, off + k * 4, none⟩) hbw).trans c0
      have c1 := (hbel.out.cell (p := ⟨b, off + k * 4 + 1, none⟩) hbw).trans c1
      have c2 := (hbel.out.cell (p := ⟨b, off + k * 4 + 2, none⟩) hbw).trans c2
      have c3 := (hbel.out.cell (p := ⟨b, off + k * 4 + 3, none⟩) hbw).trans c3
      have HN := Lib.hid (outsN_snoc he.out)
      have HX := Lib.hid (hX.out.alloc (.cells #[.bool e.i, .bool e.o, .int .i64 e.w, .int .i64 e.v] 94))
      cases hi9 : e.o with
      | true =>
        rw [hi9] at c1 HN HX
        go_wp2
        go_roundw
        case rel => exact ⟨k + 1, by omega, by go_num, g_val (by rw [HN.out, if_pos rfl, ← HS.out]; first | rfl | omega | (simp only [IntKind.wrap_i64]; omega)), Lib.hid (g_chain hbel.out (below_a1 _ _)), HX⟩
        case measure => simp [intOf]; omega
      | false =>
        rw [hi9] at c1 HN HX
        go_wp2
        go_roundw
        case rel => exact ⟨k + 1, by omega, by go_num, by rw [HN.out, if_neg (by simp), ← HS.out], Lib.hid (g_chain hbel.out (below_a1 _ _)), HX⟩
        case measure => simp [intOf]; omega
    · obtain rfl : k = n := by omega
      have HOT : Hid (q = outsN es) := Lib.hid (by rw [HS.out, ← HL.out, List.take_length])
      have hj0 := hX.out.cell (i := 0) rfl
      have hj1 := hX.out.cell (i := 1) rfl
      go_wp2_with fail
      refine (CN.out _ hbel.out).mono ?_
      rintro e w3 ⟨rfl, hb⟩
      have B3 := Lib.hid (g_chain hbel.out hb)
      have X3 := Lib.hid (hX.out.below hb)
      have HOP2 : Hid (∀ e ∈ es, e.o = true → 0 < q) := Lib.hid (by rw [HOT.out]; exact HOP.out)
      have CE := Lib.hid (fun (e : VE) (he : e ∈ es) W => edgeS p s e next q W HP.out HNX.out (HVV.out e he) (fun ho => HOP2.out e he ho))
      unfold VE.val at CE
      clear hb hj0 hj1 hX hbel HS HOP HOP2 HNX HVV CN hs2
      go_wp2
      go_loopw [14, 61] (fun o i wr => ∃ (j : Nat) (A1 : Option Addr) (c1 : Nat), j ≤ k ∧ i = .int .i64 (j : Int) ∧ o = .slice A1 ((es.take j).map (newEdge p next q)).length c1 ∧ Hid (wr.ownsRow w3.heap.size 3 1 (.slice A1 ((es.take j).map (newEdge p next q)).length c1) ((es.take j).map (newEdge p next q)).length (vi ((es.take j).map (newEdge p next q)))) ∧ Hid (Below w3.heap.size w3 wr)) (fun _ i _ => k - (intOf i).toNat)
      case atStart => exact ⟨0, some ⟨w3.heap.size, 0, none⟩, 0, Nat.zero_le _, rfl, rfl, Lib.hid (lab_built w3), Lib.hid (below_a1 _ _)⟩
      case round =>
        obtain ⟨j, A1, c1, hj, rfl, rfl, hown, hbel⟩ := hrel
        obtain ⟨ms, HMS⟩ : ∃ ms, Hid ((es.take j).map (newEdge p next q) = ms) := ⟨_, Lib.hid rfl⟩
        have hml : ms.length ≤ 2097152 := by rw [← HMS.out, List.length_map, List.length_take]; omega
        rw [HMS.out] at hown
        rw [HMS.out]
        by_cases hlj : j < k
        · obtain ⟨b, off, e, rfl, hbw, he, d0, d1, d2, d3⟩ := HR.out.at_ hlj
          have hb3 := B3.out.size
          have hbw3 : b < w3.heap.size := by omega
          have hw3 := hbel.out.size
          have d0 := ((hbel.out.cell (p := ⟨b, off + j * 4, none⟩) hbw3).trans (B3.out.cell (p := ⟨b, off + j * 4, none⟩) hbw)).trans d0
          have d1 := ((hbel.out.cell (p := ⟨b, off + j * 4 + 1, none⟩) hbw3).trans (B3.out.cell (p := ⟨b, off + j * 4 + 1, none⟩) hbw)).trans d1
          have d2 := ((hbel.out.cell (p := ⟨b, off + j * 4 + 2, none⟩) hbw3).trans (B3.out.cell (p := ⟨b, off + j * 4 + 2, none⟩) hbw)).trans d2
          have d3 := ((hbel.out.cell (p := ⟨b, off + j * 4 + 3, none⟩) hbw3).trans (B3.out.cell (p := ⟨b, off + j * 4 + 3, none⟩) hbw)).trans d3
          have XA := Lib.hid ((X3.out.below hbel.out).alloc (.cells #[.bool e.i, .bool e.o, .int .i64 e.w, .int .i64 e.v] 94))
          have hx0 := XA.out.cell (i := 0) rfl
          have hx1 := XA.out.cell (i := 1) rfl
          have C := Lib.hid (fun W => CE.out e (List.mem_of_getElem? he.out) W)
          have HSN : Hid ((es.take (j + 1)).map (newEdge p next q) = ms ++ [newEdge p next q e]) := Lib.hid (by rw [take_snoc he.out, List.map_append, HMS.out]; rfl)
          generalize newEdge p next q e = z at C HSN
          go_wp2_with fail
          refine (C.out _).mono ?_
          rintro e1 w4 ⟨rfl, hb⟩
          have B4 := Lib.hid (g_chain (below_a1 wr (.cells #[.bool e.i, .bool e.o, .int .i64 e.w, .int .i64 e.v] 94)) hb)
          have O4 := Lib.hid (own_below hown.out B4.out)
          have BB := Lib.hid (g_chain hbel.out B4.out)
          have hs4 := BB.out.size
          have O4x := Lib.hid (O4.out.alloc (.cells #[.int .i64 z] 3))
          clear hb C hx0 hx1 XA d0 d1 d2 d3
          go_wp2_with (at_builtin; refine wpList_append_any _ rfl (.tmp 65) (.tmp 71) _ rfl w3.heap.size 3 i0 _ 1 8 Tryz.underlying27 hi hz0 hz1 hz2 rfl (by omega) (.slice A1 ms.length c1) ms.length (vi ms) rfl O4x.out (w4.heap.size + 1) (some ⟨w4.heap.size, 0, none⟩) 1 1 [.int .i64 z] rfl (lab_reads _ _ _ _ (by simp)) (lab_one _) (by simp only [maxLen]; omega) (by omega) (by simp; omega) ?_)
          intro v5 w5 hown5 hg5 _
          obtain ⟨A5, c5, rfl⟩ := lab_form hown5
          obtain ⟨ms5, HM5⟩ : ∃ l, Hid (l = ms ++ [z]) := ⟨_, Lib.hid rfl⟩
          have hle5 : ms.length + 1 = ms5.length := by rw [HM5.out]; simp
          have O5 : Hid (w5.ownsRow w3.heap.size 3 1 (.slice A5 ms5.length c5) ms5.length (vi ms5)) := Lib.hid (by rw [HM5.out, lab_snoc, List.length_append]; exact hown5)
          have B5 : Hid (Below w3.heap.size w3 w5) := Lib.hid (lab_below (g_chain BB.out (below_a1 _ _)) O4x.out (by simp; omega) hg5)
          clear hown5 hg5
          rw [hle5]
          go_wp2
          go_roundw
          case rel => exact ⟨j + 1, A5, c5, by omega, by go_num, by rw [HSN.out, ← HM5.out], Lib.hid (by rw [HSN.out, ← HM5.out]; exact O5.out), B5⟩
          case measure => simp [intOf]; omega
        · obtain rfl : j = k := by omega
          have HT : Hid (ms = es.map (newEdge p next (outsN es))) := Lib.hid (by rw [← HMS.out, List.take_of_length_le (by rw [HL.out]; exact Nat.le_refl _), HOT.out])
          have HFIN : Hid (wr.ownsRow w.heap.size 3 1 (.slice A1 ms.length c1) ms.length (vi ms)) := Lib.hid (own_monoG hown.out B3.out.size)
          have HBF := Lib.hid (g_chain B3.out hbel.out)
          clear hown hbel
          go_wp2
          go_ret2
          exact ⟨A1, c1, by rw [← HT.out]; rfl, by rw [← HT.out]; exact HFIN.out, HBF.out⟩
end Go.Proofs.YtpgnappddddlpaaGreatDoor
