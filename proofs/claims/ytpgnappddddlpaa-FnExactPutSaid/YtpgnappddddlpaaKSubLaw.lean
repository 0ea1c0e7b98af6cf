/- Lists of locations and subs as arguments of the laws: the laws' helpers that measure, copy, compare, leave marks and find them; the opening of a sub. Condition: at most 2^21 locations. -/
import Derived.Test.YtpgnappddddlpaaCGK
import Derived.Test.YtpgnappddddlpaaCGH
import Derived.Test.YtpgnappddddlpaaCGG
namespace Go.Proofs.Ytpgnappddddlpaa
open Go.RowKit
set_option linter.unusedVariables false

theorem szL_any (A : Option Addr) (n c : Nat) (left : Int) (w : World) (hn : n ≤ maxLen) (h0 : 0 ≤ left) (h1 : left ≤ 1048576) :
    Calls Try.prog 90 #[.slice A n c, .int .i64 left] w fun e w' => e = .returned (.int .i64 (leftG left n)) ∧ w = w' := by
  unfold maxLen at hn
  by_cases h : (n : Int) ≤ left
  · have HV := Lib.hid (leftG_pos h)
    have h2 : 0 ≤ left - (n : Int) := by omega
    go_enter Try.func90, Try.ntmps90
    go_wp2
    go_ret
    exact ⟨g_int HV.out.symm, rfl⟩
  · have HV := Lib.hid (leftG_neg (n := n) (left := left) (by omega))
    have h2 : left - (n : Int) < 0 := by omega
    go_enter Try.func90, Try.ntmps90
    go_wp2
    go_ret
    exact ⟨g_int HV.out.symm, rfl⟩
theorem szSub_any (p lo hi r : Int) (A : Option Addr) (n c : Nat) (left : Int) (w : World) (hn : n ≤ maxLen) (h0 : 0 ≤ left) (h1 : left ≤ 1048576) :
    Calls Try.prog 46 #[.agg #[.int .i64 p, .int .i64 lo, .int .i64 hi, .slice A n c, .int .i64 r], .int .i64 left] w (GNum w (leftG left n)) := by
  have C := Lib.hid (fun w => szL_any A n c left w hn h0 h1)
  by_cases h : (n : Int) ≤ left
  · have h2 : 0 ≤ left - (n : Int) := by omega
    have e1 := leftG_pos h
    rw [e1] at C ⊢
    generalize left - (n : Int) = q at C h2 ⊢
    clear e1 h
    go_enter Try.func46, Try.ntmps46
    go_wp2_with fail
    refine (C.out _).mono ?_
    rintro e w1 ⟨rfl, rfl⟩
    go_wp2
    go_ret
    exact ⟨rfl, below_a1 _ _⟩
  · have e1 := leftG_neg (n := n) (left := left) (by omega)
    rw [e1] at C ⊢
    clear e1 h
    go_enter Try.func46, Try.ntmps46
    go_wp2_with fail
    refine (C.out _).mono ?_
    rintro e w1 ⟨rfl, rfl⟩
    go_wp2
    go_ret
    exact ⟨rfl, below_a1 _ _⟩
set_option maxRecDepth 10000 in
set_option maxHeartbeats 1000000 in
theorem toL_any (x : LE) (w : World) :
    Calls Try.prog 133 #[.agg #[.int .i64 x.s, .int .i64 x.p, .int .i64 x.e.f, .int .i64 x.e.t, .int .i64 x.e.w, .int .i64 x.e.i, .int .i64 x.e.v]] w fun r w' => r = .returned (.agg #[.int .i64 x.s, .int .i64 x.p, .int .i64 x.e.f, .int .i64 x.e.t, .int .i64 x.e.w, .int .i64 x.e.i, .int .i64 x.e.v]) ∧ Below w.heap.size w w' := by
  have C := Lib.hid (fun W => toK_any x.e W)
  have H_1 := Lib.hid (g_chain (g_chain (g_chain (Below.refl w.heap.size w) (below_a1 w (.cells #[.int .i64 x.s, .int .i64 x.p, .int .i64 x.e.f, .int .i64 x.e.t, .int .i64 x.e.w, .int .i64 x.e.i, .int .i64 x.e.v] 166))) (below_a1 (w.alloc (.cells #[.int .i64 x.s, .int .i64 x.p, .int .i64 x.e.f, .int .i64 x.e.t, .int .i64 x.e.w, .int .i64 x.e.i, .int .i64 x.e.v] 166)) (.cells #[.int .i64 0, .int .i64 0, .int .i64 0, .int .i64 0, .int .i64 0, .int .i64 0, .int .i64 0] 42))) (below_a1 ((w.alloc (.cells #[.int .i64 x.s, .int .i64 x.p, .int .i64 x.e.f, .int .i64 x.e.t, .int .i64 x.e.w, .int .i64 x.e.i, .int .i64 x.e.v] 166)).alloc (.cells #[.int .i64 0, .int .i64 0, .int .i64 0, .int .i64 0, .int .i64 0, .int .i64 0, .int .i64 0] 42)) (.cells #[.int .i64 x.s, .int .i64 x.p, .int .i64 0, .int .i64 0, .int .i64 0, .int .i64 0, .int .i64 0] 42)))
  have BX_2 : Hid (Blk (((w.alloc (.cells #[.int .i64 x.s, .int .i64 x.p, .int .i64 x.e.f, .int .i64 x.e.t, .int .i64 x.e.w, .int .i64 x.e.i, .int .i64 x.e.v] 166)).alloc (.cells #[.int .i64 0, .int .i64 0, .int .i64 0, .int .i64 0, .int .i64 0, .int .i64 0, .int .i64 0] 42)).alloc (.cells #[.int .i64 x.s, .int .i64 x.p, .int .i64 0, .int .i64 0, .int .i64 0, .int .i64 0, .int .i64 0] 42)) (w.heap.size) #[.int .i64 x.s, .int .i64 x.p, .int .i64 x.e.f, .int .i64 x.e.t, .int .i64 x.e.w, .int .i64 x.e.i, .int .i64 x.e.v] 166) := Lib.hid (by have h := ((Blk.new w #[.int .i64 x.s, .int .i64 x.p, .int .i64 x.e.f, .int .i64 x.e.t, .int .i64 x.e.w, .int .i64 x.e.i, .int .i64 x.e.v] 166).alloc (.cells #[.int .i64 0, .int .i64 0, .int .i64 0, .int .i64 0, .int .i64 0, .int .i64 0, .int .i64 0] 42)).alloc (.cells #[.int .i64 x.s, .int .i64 x.p, .int .i64 0, .int .i64 0, .int .i64 0, .int .i64 0, .int .i64 0] 42); simpa [Nat.add_assoc] using h)
  have BZ_3 : Hid (Blk (((w.alloc (.cells #[.int .i64 x.s, .int .i64 x.p, .int .i64 x.e.f, .int .i64 x.e.t, .int .i64 x.e.w, .int .i64 x.e.i, .int .i64 x.e.v] 166)).alloc (.cells #[.int .i64 0, .int .i64 0, .int .i64 0, .int .i64 0, .int .i64 0, .int .i64 0, .int .i64 0] 42)).alloc (.cells #[.int .i64 x.s, .int .i64 x.p, .int .i64 0, .int .i64 0, .int .i64 0, .int .i64 0, .int .i64 0] 42)) (w.heap.size + 1) #[.int .i64 0, .int .i64 0, .int .i64 0, .int .i64 0, .int .i64 0, .int .i64 0, .int .i64 0] 42) := Lib.hid (by have h := (Blk.new (w.alloc (.cells #[.int .i64 x.s, .int .i64 x.p, .int .i64 x.e.f, .int .i64 x.e.t, .int .i64 x.e.w, .int .i64 x.e.i, .int .i64 x.e.v] 166)) #[.int .i64 0, .int .i64 0, .int .i64 0, .int .i64 0, .int .i64 0, .int .i64 0, .int .i64 0] 42).alloc (.cells #[.int .i64 x.s, .int .i64 x.p, .int .i64 0, .int .i64 0, .int .i64 0, .int .i64 0, .int .i64 0] 42); simpa [Nat.add_assoc] using h)
  have BT_4 : Hid (Blk (((w.alloc (.cells #[.int .i64 x.s, .int .i64 x.p, .int .i64 x.e.f, .int .i64 x.e.t, .int .i64 x.e.w, .int .i64 x.e.i, .int .i64 x.e.v] 166)).alloc (.cells #[.int .i64 0, .int .i64 0, .int .i64 0, .int .i64 0, .int .i64 0, .int .i64 0, .int .i64 0] 42)).alloc (.cells #[.int .i64 x.s, .int .i64 x.p, .int .i64 0, .int .i64 0, .int .i64 0, .int .i64 0, .int .i64 0] 42)) (w.heap.size + 2) #[.int .i64 x.s, .int .i64 x.p, .int .i64 0, .int .i64 0, .int .i64 0, .int .i64 0, .int .i64 0] 42) := Lib.hid (by have h := Blk.new ((w.alloc (.cells #[.int .i64 x.s, .int .i64 x.p, .int .i64 x.e.f, .int .i64 x.e.t, .int .i64 x.e.w, .int .i64 x.e.i, .int .i64 x.e.v] 166)).alloc (.cells #[.int .i64 0, .int .i64 0, .int .i64 0, .int .i64 0, .int .i64 0, .int .i64 0, .int .i64 0] 42)) #[.int .i64 x.s, .int .i64 x.p, .int .i64 0, .int .i64 0, .int .i64 0, .int .i64 0, .int .i64 0] 42; simpa [Nat.add_assoc] using h)
  have sz0 : Hid (w.heap.size + 3 ≤ (((w.alloc (.cells #[.int .i64 x.s, .int .i64 x.p, .int .i64 x.e.f, .int .i64 x.e.t, .int .i64 x.e.w, .int .i64 x.e.i, .int .i64 x.e.v] 166)).alloc (.cells #[.int .i64 0, .int .i64 0, .int .i64 0, .int .i64 0, .int .i64 0, .int .i64 0, .int .i64 0] 42)).alloc (.cells #[.int .i64 x.s, .int .i64 x.p, .int .i64 0, .int .i64 0, .int .i64 0, .int .i64 0, .int .i64 0] 42)).heap.size) := Lib.hid (by simp)
  go_enter Try.func133, Try.ntmps133
  have x_5 := BX_2.out.cell (i := 0) rfl
  have x_6 := BX_2.out.cell (i := 1) rfl
  have x_7 := BX_2.out.cell (i := 2) rfl
  have x_8 := BX_2.out.cell (i := 3) rfl
  have x_9 := BX_2.out.cell (i := 4) rfl
  have x_10 := BX_2.out.cell (i := 5) rfl
  have x_11 := BX_2.out.cell (i := 6) rfl
  have fz_12 := fun i => BX_2.out.frozen i
  have lt_13 := BX_2.out.lt
  have x_14 := BT_4.out.cell (i := 0) rfl
  have x_15 := BT_4.out.cell (i := 1) rfl
  have x_16 := BT_4.out.cell (i := 2) rfl
  have x_17 := BT_4.out.cell (i := 3) rfl
  have x_18 := BT_4.out.cell (i := 4) rfl
  have x_19 := BT_4.out.cell (i := 5) rfl
  have x_20 := BT_4.out.cell (i := 6) rfl
  have fz_21 := fun i => BT_4.out.frozen i
  have lt_22 := BT_4.out.lt
  go_wp2_with fail
  refine (C.out _).mono ?_
  rintro e w1 ⟨rfl, hb⟩
  clear x_5
  clear x_6
  clear x_7
  clear x_8
  clear x_9
  clear x_10
  clear x_11
  clear fz_12
  clear lt_13
  clear x_14
  clear x_15
  clear x_16
  clear x_17
  clear x_18
  clear x_19
  clear x_20
  clear fz_21
  clear lt_22
  have H_23 := Lib.hid (g_chain H_1.out hb)
  clear H_1
  have BX_24 := Lib.hid (BX_2.out.below hb)
  clear BX_2
  have BZ_25 := Lib.hid (BZ_3.out.below hb)
  clear BZ_3
  have BT_26 := Lib.hid (BT_4.out.below hb)
  clear BT_4
  have sz_27 := Lib.hid (Below.size hb)
  clear hb
  have x_28 := BT_26.out.cell (i := 0) rfl
  have x_29 := BT_26.out.cell (i := 1) rfl
  have x_30 := BT_26.out.cell (i := 2) rfl
  have x_31 := BT_26.out.cell (i := 3) rfl
  have x_32 := BT_26.out.cell (i := 4) rfl
  have x_33 := BT_26.out.cell (i := 5) rfl
  have x_34 := BT_26.out.cell (i := 6) rfl
  have fz_35 := fun i => BT_26.out.frozen i
  have lt_36 := BT_26.out.lt
  have x_37 := BZ_25.out.cell (i := 0) rfl
  have x_38 := BZ_25.out.cell (i := 1) rfl
  have x_39 := BZ_25.out.cell (i := 2) rfl
  have x_40 := BZ_25.out.cell (i := 3) rfl
  have x_41 := BZ_25.out.cell (i := 4) rfl
  have x_42 := BZ_25.out.cell (i := 5) rfl
  have x_43 := BZ_25.out.cell (i := 6) rfl
  have fz_44 := fun i => BZ_25.out.frozen i
  have lt_45 := BZ_25.out.lt
  go_wp2
  have hg_46 := ((((grown_cell w1 (w.heap.size + 2) 2 (.int .i64 x.e.f)).trans (grown_cell (w1.setCell ⟨w.heap.size + 2, 2, none⟩ (.int .i64 x.e.f)) (w.heap.size + 2) 3 (.int .i64 x.e.t))).trans (grown_cell ((w1.setCell ⟨w.heap.size + 2, 2, none⟩ (.int .i64 x.e.f)).setCell ⟨w.heap.size + 2, 3, none⟩ (.int .i64 x.e.t)) (w.heap.size + 2) 4 (.int .i64 x.e.w))).trans (grown_cell (((w1.setCell ⟨w.heap.size + 2, 2, none⟩ (.int .i64 x.e.f)).setCell ⟨w.heap.size + 2, 3, none⟩ (.int .i64 x.e.t)).setCell ⟨w.heap.size + 2, 4, none⟩ (.int .i64 x.e.w)) (w.heap.size + 2) 5 (.int .i64 x.e.i))).trans (grown_cell ((((w1.setCell ⟨w.heap.size + 2, 2, none⟩ (.int .i64 x.e.f)).setCell ⟨w.heap.size + 2, 3, none⟩ (.int .i64 x.e.t)).setCell ⟨w.heap.size + 2, 4, none⟩ (.int .i64 x.e.w)).setCell ⟨w.heap.size + 2, 5, none⟩ (.int .i64 x.e.i)) (w.heap.size + 2) 6 (.int .i64 x.e.v))
  have H_47 := Lib.hid (H_23.out.grown hg_46 H_23.out.size (fun j hj => by injection hj with hj; have := sz0.out; have := sz_27.out; omega))
  clear H_23
  have BX_48 := Lib.hid (BX_24.out.grown hg_46 (by intro e; injection e with e; have := sz0.out; have := sz_27.out; omega))
  clear BX_24
  have BZ_49 := Lib.hid (BZ_25.out.grown hg_46 (by intro e; injection e with e; have := sz0.out; have := sz_27.out; omega))
  clear BZ_25
  have BT_50 : Hid (Blk (((((w1.setCell ⟨w.heap.size + 2, 2, none⟩ (.int .i64 x.e.f)).setCell ⟨w.heap.size + 2, 3, none⟩ (.int .i64 x.e.t)).setCell ⟨w.heap.size + 2, 4, none⟩ (.int .i64 x.e.w)).setCell ⟨w.heap.size + 2, 5, none⟩ (.int .i64 x.e.i)).setCell ⟨w.heap.size + 2, 6, none⟩ (.int .i64 x.e.v)) (w.heap.size + 2) #[.int .i64 x.s, .int .i64 x.p, .int .i64 x.e.f, .int .i64 x.e.t, .int .i64 x.e.w, .int .i64 x.e.i, .int .i64 x.e.v] 42) := Lib.hid (Blk.set (Blk.set (Blk.set (Blk.set (Blk.set (BT_26.out) 2 (.int .i64 x.e.f)) 3 (.int .i64 x.e.t)) 4 (.int .i64 x.e.w)) 5 (.int .i64 x.e.i)) 6 (.int .i64 x.e.v))
  clear BT_26
  have sz_51 := Lib.hid (World.grownBy.size hg_46)
  clear hg_46
  have hg_52 := ((((((grown_cell (((((w1.setCell ⟨w.heap.size + 2, 2, none⟩ (.int .i64 x.e.f)).setCell ⟨w.heap.size + 2, 3, none⟩ (.int .i64 x.e.t)).setCell ⟨w.heap.size + 2, 4, none⟩ (.int .i64 x.e.w)).setCell ⟨w.heap.size + 2, 5, none⟩ (.int .i64 x.e.i)).setCell ⟨w.heap.size + 2, 6, none⟩ (.int .i64 x.e.v)) (w.heap.size + 1) 0 (.int .i64 x.s)).trans (grown_cell ((((((w1.setCell ⟨w.heap.size + 2, 2, none⟩ (.int .i64 x.e.f)).setCell ⟨w.heap.size + 2, 3, none⟩ (.int .i64 x.e.t)).setCell ⟨w.heap.size + 2, 4, none⟩ (.int .i64 x.e.w)).setCell ⟨w.heap.size + 2, 5, none⟩ (.int .i64 x.e.i)).setCell ⟨w.heap.size + 2, 6, none⟩ (.int .i64 x.e.v)).setCell ⟨w.heap.size + 1, 0, none⟩ (.int .i64 x.s)) (w.heap.size + 1) 1 (.int .i64 x.p))).trans (grown_cell (((((((w1.setCell ⟨w.heap.size + 2, 2, none⟩ (.int .i64 x.e.f)).setCell ⟨w.heap.size + 2, 3, none⟩ (.int .i64 x.e.t)).setCell ⟨w.heap.size + 2, 4, none⟩ (.int .i64 x.e.w)).setCell ⟨w.heap.size + 2, 5, none⟩ (.int .i64 x.e.i)).setCell ⟨w.heap.size + 2, 6, none⟩ (.int .i64 x.e.v)).setCell ⟨w.heap.size + 1, 0, none⟩ (.int .i64 x.s)).setCell ⟨w.heap.size + 1, 1, none⟩ (.int .i64 x.p)) (w.heap.size + 1) 2 (.int .i64 x.e.f))).trans (grown_cell ((((((((w1.setCell ⟨w.heap.size + 2, 2, none⟩ (.int .i64 x.e.f)).setCell ⟨w.heap.size + 2, 3, none⟩ (.int .i64 x.e.t)).setCell ⟨w.heap.size + 2, 4, none⟩ (.int .i64 x.e.w)).setCell ⟨w.heap.size + 2, 5, none⟩ (.int .i64 x.e.i)).setCell ⟨w.heap.size + 2, 6, none⟩ (.int .i64 x.e.v)).setCell ⟨w.heap.size + 1, 0, none⟩ (.int .i64 x.s)).setCell ⟨w.heap.size + 1, 1, none⟩ (.int .i64 x.p)).setCell ⟨w.heap.size + 1, 2, none⟩ (.int .i64 x.e.f)) (w.heap.size + 1) 3 (.int .i64 x.e.t))).trans (grown_cell (((((((((w1.setCell ⟨w.heap.size + 2, 2, none⟩ (.int .i64 x.e.f)).setCell ⟨w.heap.size + 2, 3, none⟩ (.int .i64 x.e.t)).setCell ⟨w.heap.size + 2, 4, none⟩ (.int .i64 x.e.w)).setCell ⟨w.heap.size + 2, 5, none⟩ (.int .i64 x.e.i)).setCell ⟨w.heap.size + 2, 6, none⟩ (.int .i64 x.e.v)).setCell ⟨w.heap.size + 1, 0, none⟩ (.int .i64 x.s)).setCell ⟨w.heap.size + 1, 1, none⟩ (.int .i64 x.p)).setCell ⟨w.heap.size + 1, 2, none⟩ (.int .i64 x.e.f)).setCell ⟨w.heap.size + 1, 3, none⟩ (.int .i64 x.e.t)) (w.heap.size + 1) 4 (.int .i64 x.e.w))).trans (grown_cell ((((((((((w1.setCell ⟨w.heap.size + 2, 2, none⟩ (.int .i64 x.e.f)).setCell ⟨w.heap.size + 2, 3, none⟩ (.int .i64 x.e.t)).setCell ⟨w.heap.size + 2, 4, none⟩ (.int .i64 x.e.w)).setCell ⟨w.heap.size + 2, 5, none⟩ (.int .i64 x.e.i)).setCell ⟨w.heap.size + 2, 6, none⟩ (.int .i64 x.e.v)).setCell ⟨w.heap.size + 1, 0, none⟩ (.int .i64 x.s)).setCell ⟨w.heap.size + 1, 1, none⟩ (.int .i64 x.p)).setCell ⟨w.heap.size + 1, 2, none⟩ (.int .i64 x.e.f)).setCell ⟨w.heap.size + 1, 3, none⟩ (.int .i64 x.e.t)).setCell ⟨w.heap.size + 1, 4, none⟩ (.int .i64 x.e.w)) (w.heap.size + 1) 5 (.int .i64 x.e.i))).trans (grown_cell (((((((((((w1.setCell ⟨w.heap.size + 2, 2, none⟩ (.int .i64 x.e.f)).setCell ⟨w.heap.size + 2, 3, none⟩ (.int .i64 x.e.t)).setCell ⟨w.heap.size + 2, 4, none⟩ (.int .i64 x.e.w)).setCell ⟨w.heap.size + 2, 5, none⟩ (.int .i64 x.e.i)).setCell ⟨w.heap.size + 2, 6, none⟩ (.int .i64 x.e.v)).setCell ⟨w.heap.size + 1, 0, none⟩ (.int .i64 x.s)).setCell ⟨w.heap.size + 1, 1, none⟩ (.int .i64 x.p)).setCell ⟨w.heap.size + 1, 2, none⟩ (.int .i64 x.e.f)).setCell ⟨w.heap.size + 1, 3, none⟩ (.int .i64 x.e.t)).setCell ⟨w.heap.size + 1, 4, none⟩ (.int .i64 x.e.w)).setCell ⟨w.heap.size + 1, 5, none⟩ (.int .i64 x.e.i)) (w.heap.size + 1) 6 (.int .i64 x.e.v))
  have H_53 := Lib.hid (H_47.out.grown hg_52 H_47.out.size (fun j hj => by injection hj with hj; have := sz0.out; have := sz_27.out; have := sz_51.out; omega))
  clear H_47
  have BX_54 := Lib.hid (BX_48.out.grown hg_52 (by intro e; injection e with e; have := sz0.out; have := sz_27.out; have := sz_51.out; omega))
  clear BX_48
  have BT_55 := Lib.hid (BT_50.out.grown hg_52 (by intro e; injection e with e; have := sz0.out; have := sz_27.out; have := sz_51.out; omega))
  clear BT_50
  have BZ_56 : Hid (Blk ((((((((((((w1.setCell ⟨w.heap.size + 2, 2, none⟩ (.int .i64 x.e.f)).setCell ⟨w.heap.size + 2, 3, none⟩ (.int .i64 x.e.t)).setCell ⟨w.heap.size + 2, 4, none⟩ (.int .i64 x.e.w)).setCell ⟨w.heap.size + 2, 5, none⟩ (.int .i64 x.e.i)).setCell ⟨w.heap.size + 2, 6, none⟩ (.int .i64 x.e.v)).setCell ⟨w.heap.size + 1, 0, none⟩ (.int .i64 x.s)).setCell ⟨w.heap.size + 1, 1, none⟩ (.int .i64 x.p)).setCell ⟨w.heap.size + 1, 2, none⟩ (.int .i64 x.e.f)).setCell ⟨w.heap.size + 1, 3, none⟩ (.int .i64 x.e.t)).setCell ⟨w.heap.size + 1, 4, none⟩ (.int .i64 x.e.w)).setCell ⟨w.heap.size + 1, 5, none⟩ (.int .i64 x.e.i)).setCell ⟨w.heap.size + 1, 6, none⟩ (.int .i64 x.e.v)) (w.heap.size + 1) #[.int .i64 x.s, .int .i64 x.p, .int .i64 x.e.f, .int .i64 x.e.t, .int .i64 x.e.w, .int .i64 x.e.i, .int .i64 x.e.v] 42) := Lib.hid (Blk.set (Blk.set (Blk.set (Blk.set (Blk.set (Blk.set (Blk.set (BZ_49.out) 0 (.int .i64 x.s)) 1 (.int .i64 x.p)) 2 (.int .i64 x.e.f)) 3 (.int .i64 x.e.t)) 4 (.int .i64 x.e.w)) 5 (.int .i64 x.e.i)) 6 (.int .i64 x.e.v))
  clear BZ_49
  have sz_57 := Lib.hid (World.grownBy.size hg_52)
  clear hg_52
  refine bodyPost_ret (v := .agg #[.int .i64 x.s, .int .i64 x.p, .int .i64 x.e.f, .int .i64 x.e.t, .int .i64 x.e.w, .int .i64 x.e.i, .int .i64 x.e.v]) (by simp [results, Try.results133, go_sem, x_37, x_38, x_39, x_40, x_41, x_42, x_43]) rfl ?_
  exact ⟨rfl, H_53.out⟩
set_option maxRecDepth 10000 in
set_option maxHeartbeats 2000000 in
theorem toLs_any (A : Option Addr) (n c : Nat) (es : List LE) (w : World) (hr : SlL w A n es) (hn : n ≤ 2097152) :
    Calls Try.prog 91 #[.slice A n c] w (MadeLs w es) := by
  obtain ⟨i0, hi, hz0, hz1, hz2⟩ := info_parts Try.infoLoc
  have HR := Lib.hid hr
  clear hr
  go_enter Try.func91, Try.ntmps91
  go_wp2_with (refine wpList_make_full _ rfl (.tmp 6) (.tmp 6) 33 rfl w.heap.size 42 i0 (.agg #[.int .i64 0, .int .i64 0, .int .i64 0, .int .i64 0, .int .i64 0, .int .i64 0, .int .i64 0]) 7 Try.underlying33 hi hz0 hz1 .i64 .i64 _ _ n rfl rfl rfl rfl (by rw [hz2]; omega) (by unfold maxLen; omega) (Nat.le_refl _) ?_; intro w1 hown hg)
  have hb1 : Below w.heap.size w w1 := (Below.refl _ _).grown hg (Nat.le_refl _) (by simp)
  have hown1 : w1.ownsRow w.heap.size 42 7 (.slice (some ⟨w.heap.size, 0, none⟩) n n) n ((es.take 0 ++ List.replicate (n - 0) zero7).flatMap LE.cells) := by
    have h := hown
    rw [g_rep LE.cells zero7 7 LE.cells_len (by omega) (Value.agg #[.int .i64 0, .int .i64 0, .int .i64 0, .int .i64 0, .int .i64 0, .int .i64 0, .int .i64 0]).cells rfl n] at h
    simpa using h
  clear hown hg
  have HO1 := Lib.hid hown1
  have HB1 := Lib.hid hb1
  clear hown1 hb1
  go_loopw [4] (fun i wr => ∃ k : Nat, k ≤ n ∧ i = .int .i64 k ∧ Hid (wr.ownsRow w.heap.size 42 7 (.slice (some ⟨w.heap.size, 0, none⟩) n n) n ((es.take k ++ List.replicate (n - k) zero7).flatMap LE.cells)) ∧ Hid (Below w.heap.size w wr)) (fun i _ => n - (intOf i).toNat)
  case atStart => exact ⟨0, Nat.zero_le _, rfl, HO1, HB1⟩
  case round =>
    clear HO1 HB1
    obtain ⟨k, hk, rfl, hown, hbel⟩ := hrel
    by_cases hlt : k < n
    · obtain ⟨b, off, e, rfl, hbw, he, c0, c1, c2, c3, c4, c5, c6⟩ := HR.out.at_ hlt
      have c0 := (hbel.out.cell (p := ⟨b, off + k * 7, none⟩) hbw).trans c0
      have c1 := (hbel.out.cell (p := ⟨b, off + k * 7 + 1, none⟩) hbw).trans c1
      have c2 := (hbel.out.cell (p := ⟨b, off + k * 7 + 2, none⟩) hbw).trans c2
      have c3 := (hbel.out.cell (p := ⟨b, off + k * 7 + 3, none⟩) hbw).trans c3
      have c4 := (hbel.out.cell (p := ⟨b, off + k * 7 + 4, none⟩) hbw).trans c4
      have c5 := (hbel.out.cell (p := ⟨b, off + k * 7 + 5, none⟩) hbw).trans c5
      have c6 := (hbel.out.cell (p := ⟨b, off + k * 7 + 6, none⟩) hbw).trans c6
      have HC := Lib.hid (toL_any e wr)
      have hmk : (es.take k).length = k := by rw [List.length_take, HR.out.len]; omega
      go_wp2_with fail
      refine HC.out.mono ?_
      rintro e1 w2 ⟨rfl, hb2⟩
      have HB2 := Lib.hid hb2
      have hown2 := own_below hown.out hb2
      rw [rep7_succ n k hlt] at hown2
      have hq := fun i (hi : i < 7) => (hown2.cellAt (k * 7 + i) (by omega)).trans (flat_get LE.cells 7 LE.cells_len _ k i zero7 (g_get _ _ _ _ hmk) hi)
      have hc0 : w2.cell? ⟨w.heap.size, k * 7, none⟩ = some (.int .i64 0) := hq 0 (by omega)
      have hf0 := hown2.frozenAt (k * 7)
      have hc1 : w2.cell? ⟨w.heap.size, k * 7 + 1, none⟩ = some (.int .i64 0) := hq 1 (by omega)
      have hf1 := hown2.frozenAt (k * 7 + 1)
      have hc2 : w2.cell? ⟨w.heap.size, k * 7 + 2, none⟩ = some (.int .i64 0) := hq 2 (by omega)
      have hf2 := hown2.frozenAt (k * 7 + 2)
      have hc3 : w2.cell? ⟨w.heap.size, k * 7 + 3, none⟩ = some (.int .i64 0) := hq 3 (by omega)
      have hf3 := hown2.frozenAt (k * 7 + 3)
      have hc4 : w2.cell? ⟨w.heap.size, k * 7 + 4, none⟩ = some (.int .i64 0) := hq 4 (by omega)
      have hf4 := hown2.frozenAt (k * 7 + 4)
      have hc5 : w2.cell? ⟨w.heap.size, k * 7 + 5, none⟩ = some (.int .i64 0) := hq 5 (by omega)
      have hf5 := hown2.frozenAt (k * 7 + 5)
      have hc6 : w2.cell? ⟨w.heap.size, k * 7 + 6, none⟩ = some (.int .i64 0) := hq 6 (by omega)
      have hf6 := hown2.frozenAt (k * 7 + 6)
      have HL := Lib.hid (l_lay (e := e) hown2 hmk)
      clear hown2 hq hb2
      go_wp2
      go_roundw
      case rel =>
        refine ⟨k + 1, by omega, by go_num, Lib.hid ?_, Lib.hid ((((((((g_chain hbel.out HB2.out).setCell (Nat.le_refl _) _).setCell (Nat.le_refl _) _).setCell (Nat.le_refl _) _).setCell (Nat.le_refl _) _).setCell (Nat.le_refl _) _).setCell (Nat.le_refl _) _).setCell (Nat.le_refl _) _)⟩
        rw [g_take es k e he.out, List.append_assoc]
        exact HL.out.1
      case measure => simp [intOf]; omega
    · obtain rfl : k = n := by omega
      go_wp2
      go_ret
      have hfin := hown.out
      rw [Nat.sub_self, List.replicate_zero, List.append_nil, List.take_of_length_le (by rw [HR.out.len]; exact Nat.le_refl _), ← HR.out.len] at hfin
      refine ⟨some ⟨w.heap.size, 0, none⟩, es.length, ?_, hfin, hbel.out⟩
      rw [HR.out.len]
      rfl
set_option maxRecDepth 10000 in
set_option maxHeartbeats 1000000 in
theorem toSub_any (p lo hi r : Int) (A : Option Addr) (n c : Nat) (es : List LE) (w : World) (hr : SlL w A n es) (hn : n ≤ 2097152) :
    Calls Try.prog 48 #[.agg #[.int .i64 p, .int .i64 lo, .int .i64 hi, .slice A n c, .int .i64 r]] w (MadeU w p lo hi r es) := by
  have CL := Lib.hid (fun W (h : Below w.heap.size w W) => toLs_any A n c es W (hr.below h) hn)
  unfold MadeLs at CL
  clear hr
  have H_1 := Lib.hid (g_chain (g_chain (g_chain (Below.refl w.heap.size w) (below_a1 w (.cells #[.int .i64 p, .int .i64 lo, .int .i64 hi, .slice A n c, .int .i64 r] 73))) (below_a1 (w.alloc (.cells #[.int .i64 p, .int .i64 lo, .int .i64 hi, .slice A n c, .int .i64 r] 73)) (.cells #[.int .i64 0, .int .i64 0, .int .i64 0, .slice none 0 0, .int .i64 0] 35))) (below_a1 ((w.alloc (.cells #[.int .i64 p, .int .i64 lo, .int .i64 hi, .slice A n c, .int .i64 r] 73)).alloc (.cells #[.int .i64 0, .int .i64 0, .int .i64 0, .slice none 0 0, .int .i64 0] 35)) (.cells #[.int .i64 p, .int .i64 lo, .int .i64 hi, .slice none 0 0, .int .i64 0] 35)))
  have BX_2 : Hid (Blk (((w.alloc (.cells #[.int .i64 p, .int .i64 lo, .int .i64 hi, .slice A n c, .int .i64 r] 73)).alloc (.cells #[.int .i64 0, .int .i64 0, .int .i64 0, .slice none 0 0, .int .i64 0] 35)).alloc (.cells #[.int .i64 p, .int .i64 lo, .int .i64 hi, .slice none 0 0, .int .i64 0] 35)) (w.heap.size) #[.int .i64 p, .int .i64 lo, .int .i64 hi, .slice A n c, .int .i64 r] 73) := Lib.hid (by have h := ((Blk.new w #[.int .i64 p, .int .i64 lo, .int .i64 hi, .slice A n c, .int .i64 r] 73).alloc (.cells #[.int .i64 0, .int .i64 0, .int .i64 0, .slice none 0 0, .int .i64 0] 35)).alloc (.cells #[.int .i64 p, .int .i64 lo, .int .i64 hi, .slice none 0 0, .int .i64 0] 35); simpa [Nat.add_assoc] using h)
  have BZ_3 : Hid (Blk (((w.alloc (.cells #[.int .i64 p, .int .i64 lo, .int .i64 hi, .slice A n c, .int .i64 r] 73)).alloc (.cells #[.int .i64 0, .int .i64 0, .int .i64 0, .slice none 0 0, .int .i64 0] 35)).alloc (.cells #[.int .i64 p, .int .i64 lo, .int .i64 hi, .slice none 0 0, .int .i64 0] 35)) (w.heap.size + 1) #[.int .i64 0, .int .i64 0, .int .i64 0, .slice none 0 0, .int .i64 0] 35) := Lib.hid (by have h := (Blk.new (w.alloc (.cells #[.int .i64 p, .int .i64 lo, .int .i64 hi, .slice A n c, .int .i64 r] 73)) #[.int .i64 0, .int .i64 0, .int .i64 0, .slice none 0 0, .int .i64 0] 35).alloc (.cells #[.int .i64 p, .int .i64 lo, .int .i64 hi, .slice none 0 0, .int .i64 0] 35); simpa [Nat.add_assoc] using h)
  have BT_4 : Hid (Blk (((w.alloc (.cells #[.int .i64 p, .int .i64 lo, .int .i64 hi, .slice A n c, .int .i64 r] 73)).alloc (.cells #[.int .i64 0, .int .i64 0, .int .i64 0, .slice none 0 0, .int .i64 0] 35)).alloc (.cells #[.int .i64 p, .int .i64 lo, .int .i64 hi, .slice none 0 0, .int .i64 0] 35)) (w.heap.size + 2) #[.int .i64 p, .int .i64 lo, .int .i64 hi, .slice none 0 0, .int .i64 0] 35) := Lib.hid (by have h := Blk.new ((w.alloc (.cells #[.int .i64 p, .int .i64 lo, .int .i64 hi, .slice A n c, .int .i64 r] 73)).alloc (.cells #[.int .i64 0, .int .i64 0, .int .i64 0, .slice none 0 0, .int .i64 0] 35)) #[.int .i64 p, .int .i64 lo, .int .i64 hi, .slice none 0 0, .int .i64 0] 35; simpa [Nat.add_assoc] using h)
  have sz0 : Hid (w.heap.size + 3 ≤ (((w.alloc (.cells #[.int .i64 p, .int .i64 lo, .int .i64 hi, .slice A n c, .int .i64 r] 73)).alloc (.cells #[.int .i64 0, .int .i64 0, .int .i64 0, .slice none 0 0, .int .i64 0] 35)).alloc (.cells #[.int .i64 p, .int .i64 lo, .int .i64 hi, .slice none 0 0, .int .i64 0] 35)).heap.size) := Lib.hid (by simp)
  go_enter Try.func48, Try.ntmps48
  have x_5 := BX_2.out.cell (i := 0) rfl
  have x_6 := BX_2.out.cell (i := 1) rfl
  have x_7 := BX_2.out.cell (i := 2) rfl
  have x_8 := BX_2.out.cell (i := 3) rfl
  have x_9 := BX_2.out.cell (i := 4) rfl
  have fz_10 := fun i => BX_2.out.frozen i
  have lt_11 := BX_2.out.lt
  have x_12 := BT_4.out.cell (i := 0) rfl
  have x_13 := BT_4.out.cell (i := 1) rfl
  have x_14 := BT_4.out.cell (i := 2) rfl
  have x_15 := BT_4.out.cell (i := 3) rfl
  have x_16 := BT_4.out.cell (i := 4) rfl
  have fz_17 := fun i => BT_4.out.frozen i
  have lt_18 := BT_4.out.lt
  go_wp2_with fail
  refine (CL.out _ H_1.out).mono ?_
  rintro e w1 ⟨Au, cu, rfl, ho, hb⟩
  clear x_5
  clear x_6
  clear x_7
  clear x_8
  clear x_9
  clear fz_10
  clear lt_11
  clear x_12
  clear x_13
  clear x_14
  clear x_15
  clear x_16
  clear fz_17
  clear lt_18
  have H_19 := Lib.hid (g_chain H_1.out hb)
  clear H_1
  have BX_20 := Lib.hid (BX_2.out.below hb)
  clear BX_2
  have BZ_21 := Lib.hid (BZ_3.out.below hb)
  clear BZ_3
  have BT_22 := Lib.hid (BT_4.out.below hb)
  clear BT_4
  have sz_23 := Lib.hid (Below.size hb)
  have OU_24 := Lib.hid (ho)
  clear hb ho
  have x_25 := BX_20.out.cell (i := 0) rfl
  have x_26 := BX_20.out.cell (i := 1) rfl
  have x_27 := BX_20.out.cell (i := 2) rfl
  have x_28 := BX_20.out.cell (i := 3) rfl
  have x_29 := BX_20.out.cell (i := 4) rfl
  have fz_30 := fun i => BX_20.out.frozen i
  have lt_31 := BX_20.out.lt
  have x_32 := BT_22.out.cell (i := 0) rfl
  have x_33 := BT_22.out.cell (i := 1) rfl
  have x_34 := BT_22.out.cell (i := 2) rfl
  have x_35 := BT_22.out.cell (i := 3) rfl
  have x_36 := BT_22.out.cell (i := 4) rfl
  have fz_37 := fun i => BT_22.out.frozen i
  have lt_38 := BT_22.out.lt
  have x_39 := BZ_21.out.cell (i := 0) rfl
  have x_40 := BZ_21.out.cell (i := 1) rfl
  have x_41 := BZ_21.out.cell (i := 2) rfl
  have x_42 := BZ_21.out.cell (i := 3) rfl
  have x_43 := BZ_21.out.cell (i := 4) rfl
  have fz_44 := fun i => BZ_21.out.frozen i
  have lt_45 := BZ_21.out.lt
  go_wp2
  have hg_46 := (grown_cell w1 (w.heap.size + 2) 3 (.slice Au es.length cu)).trans (grown_cell (w1.setCell ⟨w.heap.size + 2, 3, none⟩ (.slice Au es.length cu)) (w.heap.size + 2) 4 (.int .i64 r))
  have H_47 := Lib.hid (H_19.out.grown hg_46 H_19.out.size (fun j hj => by injection hj with hj; have := sz0.out; have := sz_23.out; omega))
  clear H_19
  have BX_48 := Lib.hid (BX_20.out.grown hg_46 (by intro e; injection e with e; have := sz0.out; have := sz_23.out; omega))
  clear BX_20
  have BZ_49 := Lib.hid (BZ_21.out.grown hg_46 (by intro e; injection e with e; have := sz0.out; have := sz_23.out; omega))
  clear BZ_21
  have OU_50 := Lib.hid (own_kept OU_24.out hg_46 (own_kind OU_24.out BT_22.out (by decide)))
  clear OU_24
  have BT_51 : Hid (Blk ((w1.setCell ⟨w.heap.size + 2, 3, none⟩ (.slice Au es.length cu)).setCell ⟨w.heap.size + 2, 4, none⟩ (.int .i64 r)) (w.heap.size + 2) #[.int .i64 p, .int .i64 lo, .int .i64 hi, .slice Au es.length cu, .int .i64 r] 35) := Lib.hid (Blk.set (Blk.set (BT_22.out) 3 (.slice Au es.length cu)) 4 (.int .i64 r))
  clear BT_22
  have sz_52 := Lib.hid (World.grownBy.size hg_46)
  clear hg_46
  have hg_53 := ((((grown_cell ((w1.setCell ⟨w.heap.size + 2, 3, none⟩ (.slice Au es.length cu)).setCell ⟨w.heap.size + 2, 4, none⟩ (.int .i64 r)) (w.heap.size + 1) 0 (.int .i64 p)).trans (grown_cell (((w1.setCell ⟨w.heap.size + 2, 3, none⟩ (.slice Au es.length cu)).setCell ⟨w.heap.size + 2, 4, none⟩ (.int .i64 r)).setCell ⟨w.heap.size + 1, 0, none⟩ (.int .i64 p)) (w.heap.size + 1) 1 (.int .i64 lo))).trans (grown_cell ((((w1.setCell ⟨w.heap.size + 2, 3, none⟩ (.slice Au es.length cu)).setCell ⟨w.heap.size + 2, 4, none⟩ (.int .i64 r)).setCell ⟨w.heap.size + 1, 0, none⟩ (.int .i64 p)).setCell ⟨w.heap.size + 1, 1, none⟩ (.int .i64 lo)) (w.heap.size + 1) 2 (.int .i64 hi))).trans (grown_cell (((((w1.setCell ⟨w.heap.size + 2, 3, none⟩ (.slice Au es.length cu)).setCell ⟨w.heap.size + 2, 4, none⟩ (.int .i64 r)).setCell ⟨w.heap.size + 1, 0, none⟩ (.int .i64 p)).setCell ⟨w.heap.size + 1, 1, none⟩ (.int .i64 lo)).setCell ⟨w.heap.size + 1, 2, none⟩ (.int .i64 hi)) (w.heap.size + 1) 3 (.slice Au es.length cu))).trans (grown_cell ((((((w1.setCell ⟨w.heap.size + 2, 3, none⟩ (.slice Au es.length cu)).setCell ⟨w.heap.size + 2, 4, none⟩ (.int .i64 r)).setCell ⟨w.heap.size + 1, 0, none⟩ (.int .i64 p)).setCell ⟨w.heap.size + 1, 1, none⟩ (.int .i64 lo)).setCell ⟨w.heap.size + 1, 2, none⟩ (.int .i64 hi)).setCell ⟨w.heap.size + 1, 3, none⟩ (.slice Au es.length cu)) (w.heap.size + 1) 4 (.int .i64 r))
  have H_54 := Lib.hid (H_47.out.grown hg_53 H_47.out.size (fun j hj => by injection hj with hj; have := sz0.out; have := sz_23.out; have := sz_52.out; omega))
  clear H_47
  have BX_55 := Lib.hid (BX_48.out.grown hg_53 (by intro e; injection e with e; have := sz0.out; have := sz_23.out; have := sz_52.out; omega))
  clear BX_48
  have BT_56 := Lib.hid (BT_51.out.grown hg_53 (by intro e; injection e with e; have := sz0.out; have := sz_23.out; have := sz_52.out; omega))
  clear BT_51
  have OU_57 := Lib.hid (own_kept OU_50.out hg_53 (own_kind OU_50.out BZ_49.out (by decide)))
  clear OU_50
  have BZ_58 : Hid (Blk (((((((w1.setCell ⟨w.heap.size + 2, 3, none⟩ (.slice Au es.length cu)).setCell ⟨w.heap.size + 2, 4, none⟩ (.int .i64 r)).setCell ⟨w.heap.size + 1, 0, none⟩ (.int .i64 p)).setCell ⟨w.heap.size + 1, 1, none⟩ (.int .i64 lo)).setCell ⟨w.heap.size + 1, 2, none⟩ (.int .i64 hi)).setCell ⟨w.heap.size + 1, 3, none⟩ (.slice Au es.length cu)).setCell ⟨w.heap.size + 1, 4, none⟩ (.int .i64 r)) (w.heap.size + 1) #[.int .i64 p, .int .i64 lo, .int .i64 hi, .slice Au es.length cu, .int .i64 r] 35) := Lib.hid (Blk.set (Blk.set (Blk.set (Blk.set (Blk.set (BZ_49.out) 0 (.int .i64 p)) 1 (.int .i64 lo)) 2 (.int .i64 hi)) 3 (.slice Au es.length cu)) 4 (.int .i64 r))
  clear BZ_49
  have sz_59 := Lib.hid (World.grownBy.size hg_53)
  clear hg_53
  refine bodyPost_ret (v := .agg #[.int .i64 p, .int .i64 lo, .int .i64 hi, .slice Au es.length cu, .int .i64 r]) (by simp [results, Try.results48, go_sem, x_39, x_40, x_41, x_42, x_43]) rfl ?_
  exact ⟨Au, cu, rfl, own_monoG OU_57.out (by have := sz0.out; have := sz_23.out; have := sz_52.out; have := sz_59.out; omega), H_54.out⟩
theorem eqL_any (x : LE) (w : World) :
    Calls Try.prog 132 #[.agg #[.int .i64 x.s, .int .i64 x.p, .int .i64 x.e.f, .int .i64 x.e.t, .int .i64 x.e.w, .int .i64 x.e.i, .int .i64 x.e.v], .agg #[.int .i64 x.s, .int .i64 x.p, .int .i64 x.e.f, .int .i64 x.e.t, .int .i64 x.e.w, .int .i64 x.e.i, .int .i64 x.e.v]] w (GTell w true) := by
  have C := Lib.hid (fun W => eqK_any x.e W)
  go_enter Try.func132, Try.ntmps132
  go_wp2_with fail
  refine (C.out _).mono ?_
  rintro e w1 ⟨rfl, hb1⟩
  go_wp2
  go_ret
  exact ⟨rfl, g_chain (below_a2 _ _ _) hb1⟩
set_option maxRecDepth 10000 in
set_option maxHeartbeats 2000000 in
theorem eqLs_any (A B : Option Addr) (n c d : Nat) (es : List LE) (w : World) (ha : SlL w A n es) (hb : SlL w B n es) (hn : n ≤ 2097152) :
    Calls Try.prog 87 #[.slice A n c, .slice B n d] w (GTell w true) := by
  have HA := Lib.hid ha
  have HB := Lib.hid hb
  have CE := Lib.hid (fun e W => eqL_any e W)
  clear ha hb
  go_enter Try.func87, Try.ntmps87
  go_wp2
  go_loopw [5] (fun i wr => ∃ k : Nat, k ≤ n ∧ i = .int .i64 k ∧ Hid (Below w.heap.size w wr)) (fun i _ => n - (intOf i).toNat)
  case atStart => exact ⟨0, Nat.zero_le _, rfl, Lib.hid (Below.refl _ _)⟩
  case round =>
    obtain ⟨k, hk, rfl, hbel⟩ := hrel
    by_cases hlt : k < n
    · obtain ⟨b, off, e, rfl, hbw, he, c0, c1, c2, c3, c4, c5, c6⟩ := HA.out.at_ hlt
      obtain ⟨b', off', e', rfl, hbw', he', c0', c1', c2', c3', c4', c5', c6'⟩ := HB.out.at_ hlt
      have hee : e' = e := by have h1 := he.out; rw [he'.out] at h1; injection h1
      subst hee
      have c0 := (hbel.out.cell (p := ⟨b, off + k * 7, none⟩) hbw).trans c0
      have c0' := (hbel.out.cell (p := ⟨b', off' + k * 7, none⟩) hbw').trans c0'
      have c1 := (hbel.out.cell (p := ⟨b, off + k * 7 + 1, none⟩) hbw).trans c1
      have c1' := (hbel.out.cell (p := ⟨b', off' + k * 7 + 1, none⟩) hbw').trans c1'
      have c2 := (hbel.out.cell (p := ⟨b, off + k * 7 + 2, none⟩) hbw).trans c2
      have c2' := (hbel.out.cell (p := ⟨b', off' + k * 7 + 2, none⟩) hbw').trans c2'
      have c3 := (hbel.out.cell (p := ⟨b, off + k * 7 + 3, none⟩) hbw).trans c3
      have c3' := (hbel.out.cell (p := ⟨b', off' + k * 7 + 3, none⟩) hbw').trans c3'
      have c4 := (hbel.out.cell (p := ⟨b, off + k * 7 + 4, none⟩) hbw).trans c4
      have c4' := (hbel.out.cell (p := ⟨b', off' + k * 7 + 4, none⟩) hbw').trans c4'
      have c5 := (hbel.out.cell (p := ⟨b, off + k * 7 + 5, none⟩) hbw).trans c5
      have c5' := (hbel.out.cell (p := ⟨b', off' + k * 7 + 5, none⟩) hbw').trans c5'
      have c6 := (hbel.out.cell (p := ⟨b, off + k * 7 + 6, none⟩) hbw).trans c6
      have c6' := (hbel.out.cell (p := ⟨b', off' + k * 7 + 6, none⟩) hbw').trans c6'
      clear he he'
      go_wp2
      go_region_with (go_at_call 132; ((with_reducible refine (CE.out e' _).mono ?_)); rintro e1 w1 ⟨rfl, hb1⟩)
      all_goals
        go_wp2
        go_roundw
        case rel => exact ⟨k + 1, by omega, by go_num, Lib.hid (by first | exact g_chain hbel.out hb1 | exact g_chain hbel.out.drew hb1 | exact (g_chain hbel.out.drew hb1).drew)⟩
        case measure => simp [intOf]; omega
    · go_wp2
      go_ret
      exact ⟨rfl, hbel.out⟩
theorem eqSub_any (p lo hi r : Int) (A B : Option Addr) (n c d : Nat) (es : List LE) (w : World) (ha : SlL w A n es) (hb : SlL w B n es) (hn : n ≤ 2097152) :
    Calls Try.prog 43 #[.agg #[.int .i64 p, .int .i64 lo, .int .i64 hi, .slice A n c, .int .i64 r], .agg #[.int .i64 p, .int .i64 lo, .int .i64 hi, .slice B n d, .int .i64 r]] w (GTell w true) := by
  have CE := Lib.hid (fun W (h : Below w.heap.size w W) => eqLs_any A B n c d es W (ha.below h) (hb.below h) hn)
  have BX := Lib.hid ((Blk.new w #[.int .i64 p, .int .i64 lo, .int .i64 hi, .slice A n c, .int .i64 r] 35).alloc (.cells #[.int .i64 p, .int .i64 lo, .int .i64 hi, .slice B n d, .int .i64 r] 35))
  have BY := Lib.hid (Blk.new (w.alloc (.cells #[.int .i64 p, .int .i64 lo, .int .i64 hi, .slice A n c, .int .i64 r] 35)) #[.int .i64 p, .int .i64 lo, .int .i64 hi, .slice B n d, .int .i64 r] 35)
  rw [World.size_alloc] at BY
  clear ha hb
  go_enter Try.func43, Try.ntmps43
  go_wp2_with fail
  refine (CE.out _ (below_a2 _ _ _)).mono ?_
  rintro e w1 ⟨rfl, hb1⟩
  have x4 := (BX.out.below hb1).cell (i := 4) rfl
  have y4 := (BY.out.below hb1).cell (i := 4) rfl
  have H1 := Lib.hid (g_chain (below_a2 _ _ _) hb1)
  clear hb1
  go_wp2
  go_ret
  exact ⟨rfl, H1.out⟩
def Marked7 (w : World) (lo kk : Nat) (A : Option Addr) (n c k : Nat) (es : List LE) (e : Ending) (w' : World) : Prop :=
  e = .returned (.int .i64 (kk : Int)) ∧ w'.ownsRow lo 42 7 (.slice A n c) n ((mark7 k es).flatMap LE.cells) ∧ w.grownBy w' (Value.slice A n c).ownBlock
set_option maxRecDepth 10000 in
set_option maxHeartbeats 4000000 in
theorem markLs_any (A : Option Addr) (n c lo k : Nat) (es : List LE) (w : World) (ho : w.ownsRow lo 42 7 (.slice A n c) n (es.flatMap LE.cells)) (hl : es.length = n) (hn : n ≤ 2097152) (hk : k ≤ 8388608) :
    Calls Try.prog 88 #[.slice A n c, .int .i64 (k : Int)] w (Marked7 w lo (k + 7 * n) A n c k es) := by
  have HL := Lib.hid hl
  rcases Nat.eq_zero_or_pos n with rfl | hpos
  · obtain rfl : es = [] := List.eq_nil_of_length_eq_zero hl
    have HO := Lib.hid ho
    clear ho hl
    go_enter Try.func88, Try.ntmps88
    go_wp2
    go_loopw [1, 5] (fun q i wr => i = .int .i64 0 ∧ q = .int .i64 (k : Int) ∧ wr = w) (fun _ _ _ => 0)
    case atStart => exact ⟨rfl, rfl, rfl⟩
    case round =>
      obtain ⟨rfl, rfl, rfl⟩ := hrel
      go_wp2
      go_ret
      exact ⟨rfl, HO.out, World.grownBy.refl _ _⟩
  · obtain ⟨g, rfl⟩ := g_own_at ho hpos
    have HO : Hid (w.ownsRow lo 42 7 (.slice (some ⟨g, 0, none⟩) n c) n ((mark7 k (es.take 0) ++ es.drop 0).flatMap LE.cells)) := Lib.hid ho
    clear ho hl
    go_enter Try.func88, Try.ntmps88
    go_wp2
    go_loopw [1, 5] (fun q i wr => ∃ j : Nat, j ≤ n ∧ i = .int .i64 j ∧ q = .int .i64 ((k + 7 * j : Nat) : Int) ∧ Hid (wr.ownsRow lo 42 7 (.slice (some ⟨g, 0, none⟩) n c) n ((mark7 k (es.take j) ++ es.drop j).flatMap LE.cells)) ∧ Hid (w.grownBy wr (some g))) (fun _ i _ => n - (intOf i).toNat)
    case atStart => exact ⟨0, Nat.zero_le _, rfl, rfl, HO, Lib.hid (World.grownBy.refl _ _)⟩
    case round =>
      clear HO
      obtain ⟨j, hj, rfl, rfl, hown, hgr⟩ := hrel
      by_cases hlt : j < n
      · obtain ⟨e, he⟩ : ∃ e, es[j]? = some e := ⟨es[j]'(by rw [HL.out]; exact hlt), List.getElem?_eq_getElem _⟩
        have hmk : (mark7 k (es.take j)).length = j := by rw [mark7_len, List.length_take, HL.out]; omega
        have hown2 := hown.out
        rw [g_drop es j e he] at hown2
        have hq := fun i (hi : i < 7) => (hown2.cellAt (j * 7 + i) (by omega)).trans (flat_get LE.cells 7 LE.cells_len _ j i e (g_get _ _ _ _ hmk) hi)
        have hc0 : wr.cell? ⟨g, j * 7, none⟩ = some (.int .i64 e.s) := hq 0 (by omega)
        have hf0 := hown2.frozenAt (j * 7)
        have hc1 : wr.cell? ⟨g, j * 7 + 1, none⟩ = some (.int .i64 e.p) := hq 1 (by omega)
        have hf1 := hown2.frozenAt (j * 7 + 1)
        have hc2 : wr.cell? ⟨g, j * 7 + 2, none⟩ = some (.int .i64 e.e.f) := hq 2 (by omega)
        have hf2 := hown2.frozenAt (j * 7 + 2)
        have hc3 : wr.cell? ⟨g, j * 7 + 3, none⟩ = some (.int .i64 e.e.t) := hq 3 (by omega)
        have hf3 := hown2.frozenAt (j * 7 + 3)
        have hc4 : wr.cell? ⟨g, j * 7 + 4, none⟩ = some (.int .i64 e.e.w) := hq 4 (by omega)
        have hf4 := hown2.frozenAt (j * 7 + 4)
        have hc5 : wr.cell? ⟨g, j * 7 + 5, none⟩ = some (.int .i64 e.e.i) := hq 5 (by omega)
        have hf5 := hown2.frozenAt (j * 7 + 5)
        have hc6 : wr.cell? ⟨g, j * 7 + 6, none⟩ = some (.int .i64 e.e.v) := hq 6 (by omega)
        have hf6 := hown2.frozenAt (j * 7 + 6)
        have HS := Lib.hid (l_lay (e := mkL (k + 7 * j)) hown2 hmk)
        have HE := Lib.hid he
        clear hown hown2 hq he hmk
        have hq0 : k + 7 * j ≤ 40000000 := by omega
        obtain ⟨q, hq⟩ : ∃ q, q = k + 7 * j := ⟨_, rfl⟩
        rw [← hq] at HS hq0
        have hb1 : (q : Int) + 1 + 1 = (q : Int) + 2 := by omega
        have hb2 : (q : Int) + 2 + 1 = (q : Int) + 3 := by omega
        have hb3 : (q : Int) + 3 + 1 = (q : Int) + 4 := by omega
        have hb4 : (q : Int) + 4 + 1 = (q : Int) + 5 := by omega
        have hb5 : (q : Int) + 5 + 1 = (q : Int) + 6 := by omega
        have HQ := Lib.hid hq
        simp only [← hq]
        clear hq
        go_wp2
        go_roundw
        case rel =>
          refine ⟨j + 1, by omega, by go_num, ?_, Lib.hid ?_, Lib.hid (hgr.out.trans ?_)⟩
          · have := HQ.out
            exact congrArg (Value.int .i64) (by first | omega | (simp only [IntKind.wrap_i64]; omega))
          · have h := HS.out.1
            rw [g_take es j e HE.out, mark7_snoc, List.length_take, HL.out, show min j n = j by omega, ← HQ.out, List.append_assoc]
            exact h
          · exact HS.out.2
        case measure => simp [intOf]; omega
      · obtain rfl : j = n := by omega
        go_wp2
        go_ret
        refine ⟨rfl, ?_, hgr.out⟩
        have h := hown.out
        rw [List.take_of_length_le (by rw [HL.out]; exact Nat.le_refl _), List.drop_eq_nil_of_le (by rw [HL.out]; exact Nat.le_refl _), List.append_nil] at h
        exact h
set_option maxRecDepth 10000 in
set_option maxHeartbeats 2000000 in
theorem heldLs_any (A : Option Addr) (n c k : Nat) (es : List LE) (w : World) (hr : SlL w A n (mark7 k es)) (hn : n ≤ 2097152) (hk : k ≤ 8388608) :
    Calls Try.prog 89 #[.slice A n c, .int .i64 (k : Int)] w (GNum w ((k + 7 * n : Nat) : Int)) := by
  have HR := Lib.hid hr
  have HL : Hid (es.length = n) := Lib.hid (by rw [← hr.len, mark7_len])
  have HG := Lib.hid (fun j (h : j < es.length) => mark7_get es k j h)
  clear hr
  go_enter Try.func89, Try.ntmps89
  go_wp2
  go_loopw [1, 5] (fun q i wr => ∃ j : Nat, j ≤ n ∧ i = .int .i64 j ∧ q = .int .i64 ((k + 7 * j : Nat) : Int) ∧ wr = w) (fun _ i _ => n - (intOf i).toNat)
  case atStart => exact ⟨0, Nat.zero_le _, rfl, rfl, rfl⟩
  case round =>
    obtain ⟨j, hj, rfl, rfl, rfl⟩ := hrel
    by_cases hlt : j < n
    · obtain ⟨b, off, e, rfl, hbw, he, c0, c1, c2, c3, c4, c5, c6⟩ := HR.out.at_ hlt
      have hee : e = mkL (k + 7 * j) := by
        have h1 := he.out
        rw [HG.out j (by rw [HL.out]; exact hlt)] at h1
        injection h1 with h1
        exact h1.symm
      subst hee
      clear he
      have hq0 : k + 7 * j ≤ 40000000 := by omega
      obtain ⟨q, hq⟩ : ∃ q, q = k + 7 * j := ⟨_, rfl⟩
      unfold mkL at c0 c1 c2 c3 c4 c5 c6
      simp only [← hq] at c0 c1 c2 c3 c4 c5 c6 hq0 ⊢
      have hb1 : (q : Int) + 1 + 1 = (q : Int) + 2 := by omega
      have hb2 : (q : Int) + 2 + 1 = (q : Int) + 3 := by omega
      have hb3 : (q : Int) + 3 + 1 = (q : Int) + 4 := by omega
      have hb4 : (q : Int) + 4 + 1 = (q : Int) + 5 := by omega
      have hb5 : (q : Int) + 5 + 1 = (q : Int) + 6 := by omega
      have HQ := Lib.hid hq
      clear hq
      go_wp2
      go_roundw
      case rel =>
        refine ⟨j + 1, by omega, by go_num, ?_, by first | rfl | trivial⟩
        have := HQ.out
        exact congrArg (Value.int .i64) (by first | omega | (simp only [IntKind.wrap_i64]; omega))
      case measure => simp [intOf]; omega
    · obtain rfl : j = n := by omega
      go_wp2
      go_ret
      exact ⟨by first | rfl | trivial, Below.refl _ _⟩
theorem markU_k (p lo' hi r : Int) (A : Option Addr) (n c lo l h k : Nat) (es : List LE) (w : World) (ho : UOwn w lo l h A n c es) (hl : es.length = n) (hn : n ≤ 1048576) (hk : k ≤ 8388608) :
    Calls Try.prog 44 #[.agg #[.int .i64 p, .int .i64 lo', .int .i64 hi, .slice A n c, .int .i64 r], .int .i64 (k : Int)] w (fun e w' => e = .returned (.int .i64 ((k + 7 * n : Nat) : Int)) ∧ UMk w' k A n ∧ Wr l h w w') := by
  have C := Lib.hid (fun W (q : Below w.heap.size w W) => markLs_any A n c lo k es W (own_below ho.e q) hl (by omega) hk)
  have HR := Lib.hid ho.r
  have HL := Lib.hid hl
  clear ho
  go_enter Try.func44, Try.ntmps44
  go_wp2_with fail
  refine (C.out _ (below_a1 _ _)).mono ?_
  rintro e w1 ⟨rfl, ho1, hg1⟩
  have O1 : Hid (OnlyB (fun g => l ≤ g ∧ g < h) w w1) := Lib.hid (((OnlyB.refl _ w).below (below_a1 w _)).grown hg1 (fun i hi => HR.out i hi))
  have HO := Lib.hid (SlL.of_own ho1 (by rw [mark7_len]; exact HL.out))
  clear ho1 hg1
  go_wp2
  go_ret
  exact ⟨rfl, ⟨es, HO.out⟩, O1.out⟩
theorem heldU_k (p lo' hi r : Int) (A : Option Addr) (n c k : Nat) (w : World) (h : UMk w k A n) (hn : n ≤ 1048576) (hk : k ≤ 1048576) :
    Calls Try.prog 45 #[.agg #[.int .i64 p, .int .i64 lo', .int .i64 hi, .slice A n c, .int .i64 r], .int .i64 (k : Int)] w (GNum w ((k + 7 * n : Nat) : Int)) := by
  obtain ⟨es, h⟩ := h
  have C := Lib.hid (fun W (q : Below w.heap.size w W) => heldLs_any A n c k es W (h.below q) (by omega) (by omega))
  have hp : (0 : Int) ≤ ((k + 7 * n : Nat) : Int) := by omega
  generalize ((k + 7 * n : Nat) : Int) = z at C hp ⊢
  clear h
  go_enter Try.func45, Try.ntmps45
  go_wp2_with fail
  refine (C.out _ (below_a1 _ _)).mono ?_
  rintro e w1 ⟨rfl, hb1⟩
  go_wp2
  go_ret
  exact ⟨rfl, g_chain (below_a1 _ _) hb1⟩
/-! ### opening -/
def locSh : Sh := .pair (.int .i64) (.pair (.int .i64) keSh)
def subSh : Sh := .pair (.int .i64) (.pair (.int .i64) (.pair (.int .i64) (.pair (.sl locSh) (.int .i64))))
theorem RdR.loc {lo hi : Nat} {w : World} {cs : List Value} {d : locSh.D} (h : RdR lo hi w locSh cs d) : ∃ x : LE, cs = x.cells ∧ True := by
  obtain ⟨c1, r1, e1, h1, ⟨hk1, hw1⟩, hb⟩ := h
  obtain ⟨c2, r2, e2, h2, ⟨hk2, hw2⟩, hb⟩ := hb
  obtain ⟨e, he, _⟩ := RdR.ke hb
  exact ⟨⟨d.1, d.2.1, e⟩, by rw [e1, hk1, e2, hk2, he]; rfl, trivial⟩
theorem RdR.locs {lo hi : Nat} {w : World} {cs : List Value} {ds : List locSh.D} (h : RdR lo hi w (.sl locSh) cs ds) (hh : hi ≤ w.heap.size) : ∃ A n c xs, cs = [.slice A n c] ∧ SlL w A n xs ∧ n ≤ c ∧ n ≤ maxLen := by
  obtain ⟨A, n, c, e1, e2, e3, e4, h⟩ := h
  rcases Nat.eq_zero_or_pos n with h0 | h0
  · subst h0
    exact ⟨A, 0, c, [], e1, SlL.nil, e3, by omega⟩
  · obtain ⟨b, off, eA, _, hb, hall⟩ := h h0
    obtain ⟨es, h1, h2, h3⟩ := g_build LE.cells 7 LE.cells_len (fun _ => True) w b off n (fun j hj => by
      have hjl : j < ds.length := by omega
      obtain ⟨cs, _, hc, hr⟩ := hall j (ds[j]'hjl) (List.getElem?_eq_getElem hjl)
      obtain ⟨e, rfl, he⟩ := RdR.loc hr
      exact ⟨e, he, hc⟩)
    exact ⟨A, n, c, es, e1, ⟨h1, ⟨by rw [flat_len _ 7 LE.cells_len, h1], fun _ => ⟨b, off, eA, by omega, h2⟩⟩⟩, e3, by omega⟩
/-- What a walk is told of a sub that came in. -/
structure SubIn (w : World) (p lo hi : Int) (A : Option Addr) (n c : Nat) (r : Int) (xs : List LE) : Prop where
  hp : (Lit.int .i64 p).wf = true
  hl : (Lit.int .i64 lo).wf = true
  hh : (Lit.int .i64 hi).wf = true
  hr : (Lit.int .i64 r).wf = true
  g : SlL w A n xs
  l : n ≤ maxLen
section
variable {H : Type} {enc : TypeId × Value → H} {w : World} {base : Nat} {spare : Nat → Bool} {held : Bool}
theorem Try.cellsLoc : Try.prog.cellsOf 166 = 7 := by kernel_rfl
theorem Try.cellsSLoc : Try.prog.cellsOf 71 = 1 := by kernel_rfl
theorem Try.cellsSub : Try.prog.cellsOf 73 = 5 := by kernel_rfl
theorem opensLoc : Opens enc Try.prog w base spare held 166 locSh :=
  opens_struct Try.underlying166 Try.cellsLoc (opensF_cons rfl Try.cellsKi (opens_int Try.underlying3) (opensF_cons rfl Try.cellsKi (opens_int Try.underlying3) (opensF_last rfl Try.cellsKe opensKe)))
theorem opensSub : Opens enc Try.prog w base spare held 73 subSh :=
  opens_struct Try.underlying73 Try.cellsSub (opensF_cons rfl Try.cellsKi (opens_int Try.underlying3) (opensF_cons rfl Try.cellsKi (opens_int Try.underlying3) (opensF_cons rfl Try.cellsKi (opens_int Try.underlying3) (opensF_cons rfl Try.cellsSLoc (opens_sl Try.underlying71 Try.cellsLoc (by decide) opensLoc) (opensF_last rfl Try.cellsKi (opens_int Try.underlying3))))))
set_option maxRecDepth 100000 in
theorem open_sub {r : Reach} {b0 : Nat} {v : Value} {d : DataW H} {pp : List MemPlace} (hv : Value.okWide Try.prog w r b0 73 v) (h : DataW.Trod enc Try.prog w base spare held 73 v d pp) :
    ∃ (p lo hi : Int) (A : Option Addr) (n c : Nat) (q : Int) (xs : List LE), v = .agg #[.int .i64 p, .int .i64 lo, .int .i64 hi, .slice A n c, .int .i64 q] ∧ SubIn w p lo hi A n c q xs := by
  obtain ⟨cs, rfl, _⟩ := Go.WideShapes.okWide_struct Try.underlying73 hv
  obtain ⟨fuel, hf⟩ := h
  obtain ⟨x, hx⟩ := opensSub _ _ _ hf
  obtain ⟨c1, r1, e1, h1, ⟨hk1, hw1⟩, hx⟩ := hx
  obtain ⟨c2, r2, e2, h2, ⟨hk2, hw2⟩, hx⟩ := hx
  obtain ⟨c3, r3, e3, h3, ⟨hk3, hw3⟩, hx⟩ := hx
  obtain ⟨c4, r4, e4, h4, hk4, hk5, hw5⟩ := hx
  obtain ⟨A, n, c, xs, ea, hg, hc, hl⟩ := RdR.locs hk4 (Nat.le_refl _)
  refine ⟨x.1, x.2.1, x.2.2.1, A, n, c, x.2.2.2.2, xs, ?_, ⟨hw1, hw2, hw3, hw5, hg, hl⟩⟩
  have h9 : (Value.agg cs).cells.toList = c1 ++ r1 := e1
  rw [e2, e3, e4, hk1, hk2, hk3, ea, hk5] at h9
  have h8 : cs.toList = [.int .i64 x.1, .int .i64 x.2.1, .int .i64 x.2.2.1, .slice A n c, .int .i64 x.2.2.2.2] := by simpa [Value.cells] using h9
  cases cs
  simp only at h8
  rw [h8]
end
end Go.Proofs.Ytpgnappddddlpaa
