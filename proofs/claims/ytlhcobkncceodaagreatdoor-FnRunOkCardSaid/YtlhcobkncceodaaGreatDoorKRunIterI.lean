/- The contract of the program's RunIter. Condition: at most 2^20 edges, 2^21 numbers or bytes. -/
import Derived.Test.YtlhcobkncceodaaGreatDoorCGD
import Derived.Test.YtlhcobkncceodaaGreatDoorCGL
import Derived.Test.YtlhcobkncceodaaGreatDoorKRunOkI
namespace Go.Proofs.YtlhcobkncceodaaGreatDoor
open Go.RowKit
set_option linter.unusedVariables false

set_option maxRecDepth 20000 in
set_option maxHeartbeats 8000000 in
theorem implRunIter (N : Int) (AG : Option Addr) (l cG : Nat) (G : List GE) (p s it : Int) (dn : Bool) (A : Option Addr) (n c : Nat) (B : Option Addr) (m d : Nat) (nn : Int) (C : Option Addr) (j k : Nat) (vs ev : List Int) (nx : List Nat) (w : World) (hw : Wts w) (hg : SlG w AG l G) (hv : SlI w A n vs) (he : SlI w B m ev) (hx : Rd w C j nx) (hl : l ≤ 1048576) (hn : n ≤ 2097152) (hm : m ≤ 2097152) (hj : j ≤ 2097152) :
    Calls Tryz.prog 15 #[.agg #[.int .i64 N, .slice AG l cG], .agg #[.int .i64 p, .int .i64 s, .int .i64 it, .bool dn, .slice A n c, .slice B m d, .int .i64 nn, .slice C j k]] w (MadeRB w (iterO N G ⟨p, s, it, dn, vs, ev, nn, nx⟩) (iterB N G ⟨p, s, it, dn, vs, ev, nn, nx⟩)) := by
  have C0 := Lib.hid (fun W (h : Below w.heap.size w W) => implRunOk N AG l cG G p s it dn A n c B m d nn C j k vs ev nx W (hw.below h) (hg.below h) (hv.below h) (he.below h) (hx.below h) hl hn hm hj)
  have CC := Lib.hid (fun W (h : Below w.heap.size w W) => implCopyRun p s it dn A n c B m d nn C j k vs ev nx W (hv.below h) (he.below h) (hx.below h) hn hm hj)
  unfold MadeR at CC
  have HGG := Lib.hid hg
  have HWW := Lib.hid hw
  have HSX := Lib.hid hx.small
  clear hw hg hv he hx
  unfold iterO
  cases hb : runB N G ⟨p, s, it, dn, vs, ev, nn, nx⟩ with
  | false =>
    rw [hb] at C0
    rw [iterB_no hb]
    simp only [Bool.false_eq_true, if_false]
    clear hb CC
    have H_1 := Lib.hid (g_chain (g_chain (g_chain (Below.refl w.heap.size w) (below_a1 w (.cells #[.int .i64 N, .slice AG l cG] 25))) (below_a1 (w.alloc (.cells #[.int .i64 N, .slice AG l cG] 25)) (.cells #[.int .i64 p, .int .i64 s, .int .i64 it, .bool dn, .slice A n c, .slice B m d, .int .i64 nn, .slice C j k] 32))) (below_a1 ((w.alloc (.cells #[.int .i64 N, .slice AG l cG] 25)).alloc (.cells #[.int .i64 p, .int .i64 s, .int .i64 it, .bool dn, .slice A n c, .slice B m d, .int .i64 nn, .slice C j k] 32)) (.cells #[.int .i64 0, .int .i64 0, .int .i64 0, .bool false, .slice none 0 0, .slice none 0 0, .int .i64 0, .slice none 0 0] 32)))
    have BG_2 : Hid (Blk (((w.alloc (.cells #[.int .i64 N, .slice AG l cG] 25)).alloc (.cells #[.int .i64 p, .int .i64 s, .int .i64 it, .bool dn, .slice A n c, .slice B m d, .int .i64 nn, .slice C j k] 32)).alloc (.cells #[.int .i64 0, .int .i64 0, .int .i64 0, .bool false, .slice none 0 0, .slice none 0 0, .int .i64 0, .slice none 0 0] 32)) (w.heap.size) #[.int .i64 N, .slice AG l cG] 25) := Lib.hid (by have h := ((Blk.new w #[.int .i64 N, .slice AG l cG] 25).alloc (.cells #[.int .i64 p, .int .i64 s, .int .i64 it, .bool dn, .slice A n c, .slice B m d, .int .i64 nn, .slice C j k] 32)).alloc (.cells #[.int .i64 0, .int .i64 0, .int .i64 0, .bool false, .slice none 0 0, .slice none 0 0, .int .i64 0, .slice none 0 0] 32); simpa [Nat.add_assoc] using h)
    have BR_3 : Hid (Blk (((w.alloc (.cells #[.int .i64 N, .slice AG l cG] 25)).alloc (.cells #[.int .i64 p, .int .i64 s, .int .i64 it, .bool dn, .slice A n c, .slice B m d, .int .i64 nn, .slice C j k] 32)).alloc (.cells #[.int .i64 0, .int .i64 0, .int .i64 0, .bool false, .slice none 0 0, .slice none 0 0, .int .i64 0, .slice none 0 0] 32)) (w.heap.size + 1) #[.int .i64 p, .int .i64 s, .int .i64 it, .bool dn, .slice A n c, .slice B m d, .int .i64 nn, .slice C j k] 32) := Lib.hid (by have h := (Blk.new (w.alloc (.cells #[.int .i64 N, .slice AG l cG] 25)) #[.int .i64 p, .int .i64 s, .int .i64 it, .bool dn, .slice A n c, .slice B m d, .int .i64 nn, .slice C j k] 32).alloc (.cells #[.int .i64 0, .int .i64 0, .int .i64 0, .bool false, .slice none 0 0, .slice none 0 0, .int .i64 0, .slice none 0 0] 32); simpa [Nat.add_assoc] using h)
    have BZ_4 : Hid (Blk (((w.alloc (.cells #[.int .i64 N, .slice AG l cG] 25)).alloc (.cells #[.int .i64 p, .int .i64 s, .int .i64 it, .bool dn, .slice A n c, .slice B m d, .int .i64 nn, .slice C j k] 32)).alloc (.cells #[.int .i64 0, .int .i64 0, .int .i64 0, .bool false, .slice none 0 0, .slice none 0 0, .int .i64 0, .slice none 0 0] 32)) (w.heap.size + 2) #[.int .i64 0, .int .i64 0, .int .i64 0, .bool false, .slice none 0 0, .slice none 0 0, .int .i64 0, .slice none 0 0] 32) := Lib.hid (by have h := Blk.new ((w.alloc (.cells #[.int .i64 N, .slice AG l cG] 25)).alloc (.cells #[.int .i64 p, .int .i64 s, .int .i64 it, .bool dn, .slice A n c, .slice B m d, .int .i64 nn, .slice C j k] 32)) #[.int .i64 0, .int .i64 0, .int .i64 0, .bool false, .slice none 0 0, .slice none 0 0, .int .i64 0, .slice none 0 0] 32; simpa [Nat.add_assoc] using h)
    have sz0 : Hid (w.heap.size + 3 ≤ (((w.alloc (.cells #[.int .i64 N, .slice AG l cG] 25)).alloc (.cells #[.int .i64 p, .int .i64 s, .int .i64 it, .bool dn, .slice A n c, .slice B m d, .int .i64 nn, .slice C j k] 32)).alloc (.cells #[.int .i64 0, .int .i64 0, .int .i64 0, .bool false, .slice none 0 0, .slice none 0 0, .int .i64 0, .slice none 0 0] 32)).heap.size) := Lib.hid (by simp)
    go_enter Tryz.func15, Tryz.ntmps15
    have x_5 := BG_2.out.cell (i := 0) rfl
    have x_6 := BG_2.out.cell (i := 1) rfl
    have x_7 := BR_3.out.cell (i := 0) rfl
    have x_8 := BR_3.out.cell (i := 1) rfl
    have x_9 := BR_3.out.cell (i := 2) rfl
    have x_10 := BR_3.out.cell (i := 3) rfl
    have x_11 := BR_3.out.cell (i := 4) rfl
    have x_12 := BR_3.out.cell (i := 5) rfl
    have x_13 := BR_3.out.cell (i := 6) rfl
    have x_14 := BR_3.out.cell (i := 7) rfl
    go_wp2_with fail
    refine (C0.out _ H_1.out).mono ?_
    rintro e w1 ⟨rfl, hb⟩
    clear x_5
    clear x_6
    clear x_7
    clear x_8
    clear x_9
    clear x_10
    clear x_11
    clear x_12
    clear x_13
    clear x_14
    have H_15 := Lib.hid (g_chain H_1.out hb)
    clear H_1
    have BG_16 := Lib.hid (BG_2.out.below hb)
    clear BG_2
    have BR_17 := Lib.hid (BR_3.out.below hb)
    clear BR_3
    have BZ_18 := Lib.hid (BZ_4.out.below hb)
    clear BZ_4
    have sz_19 := Lib.hid (Below.size hb)
    clear hb
    have x_20 := BZ_18.out.cell (i := 0) rfl
    have x_21 := BZ_18.out.cell (i := 1) rfl
    have x_22 := BZ_18.out.cell (i := 2) rfl
    have x_23 := BZ_18.out.cell (i := 3) rfl
    have x_24 := BZ_18.out.cell (i := 4) rfl
    have x_25 := BZ_18.out.cell (i := 5) rfl
    have x_26 := BZ_18.out.cell (i := 6) rfl
    have x_27 := BZ_18.out.cell (i := 7) rfl
    have fz_28 := fun i => BZ_18.out.frozen i
    have lt_29 := BZ_18.out.lt
    go_wp2
    have hg_30 := (((((((grown_cell w1 (w.heap.size + 2) 0 (.int .i64 0)).trans (grown_cell (w1.setCell ⟨w.heap.size + 2, 0, none⟩ (.int .i64 0)) (w.heap.size + 2) 1 (.int .i64 0))).trans (grown_cell ((w1.setCell ⟨w.heap.size + 2, 0, none⟩ (.int .i64 0)).setCell ⟨w.heap.size + 2, 1, none⟩ (.int .i64 0)) (w.heap.size + 2) 2 (.int .i64 0))).trans (grown_cell (((w1.setCell ⟨w.heap.size + 2, 0, none⟩ (.int .i64 0)).setCell ⟨w.heap.size + 2, 1, none⟩ (.int .i64 0)).setCell ⟨w.heap.size + 2, 2, none⟩ (.int .i64 0)) (w.heap.size + 2) 3 (.bool false))).trans (grown_cell ((((w1.setCell ⟨w.heap.size + 2, 0, none⟩ (.int .i64 0)).setCell ⟨w.heap.size + 2, 1, none⟩ (.int .i64 0)).setCell ⟨w.heap.size + 2, 2, none⟩ (.int .i64 0)).setCell ⟨w.heap.size + 2, 3, none⟩ (.bool false)) (w.heap.size + 2) 4 (.slice none 0 0))).trans (grown_cell (((((w1.setCell ⟨w.heap.size + 2, 0, none⟩ (.int .i64 0)).setCell ⟨w.heap.size + 2, 1, none⟩ (.int .i64 0)).setCell ⟨w.heap.size + 2, 2, none⟩ (.int .i64 0)).setCell ⟨w.heap.size + 2, 3, none⟩ (.bool false)).setCell ⟨w.heap.size + 2, 4, none⟩ (.slice none 0 0)) (w.heap.size + 2) 5 (.slice none 0 0))).trans (grown_cell ((((((w1.setCell ⟨w.heap.size + 2, 0, none⟩ (.int .i64 0)).setCell ⟨w.heap.size + 2, 1, none⟩ (.int .i64 0)).setCell ⟨w.heap.size + 2, 2, none⟩ (.int .i64 0)).setCell ⟨w.heap.size + 2, 3, none⟩ (.bool false)).setCell ⟨w.heap.size + 2, 4, none⟩ (.slice none 0 0)).setCell ⟨w.heap.size + 2, 5, none⟩ (.slice none 0 0)) (w.heap.size + 2) 6 (.int .i64 0))).trans (grown_cell (((((((w1.setCell ⟨w.heap.size + 2, 0, none⟩ (.int .i64 0)).setCell ⟨w.heap.size + 2, 1, none⟩ (.int .i64 0)).setCell ⟨w.heap.size + 2, 2, none⟩ (.int .i64 0)).setCell ⟨w.heap.size + 2, 3, none⟩ (.bool false)).setCell ⟨w.heap.size + 2, 4, none⟩ (.slice none 0 0)).setCell ⟨w.heap.size + 2, 5, none⟩ (.slice none 0 0)).setCell ⟨w.heap.size + 2, 6, none⟩ (.int .i64 0)) (w.heap.size + 2) 7 (.slice none 0 0))
    have H_31 := Lib.hid (H_15.out.grown hg_30 H_15.out.size (fun j hj => by injection hj with hj; have := sz0.out; have := sz_19.out; omega))
    clear H_15
    have BG_32 := Lib.hid (BG_16.out.grown hg_30 (by intro e; injection e with e; have := sz0.out; have := sz_19.out; omega))
    clear BG_16
    have BR_33 := Lib.hid (BR_17.out.grown hg_30 (by intro e; injection e with e; have := sz0.out; have := sz_19.out; omega))
    clear BR_17
    have BZ_34 : Hid (Blk ((((((((w1.setCell ⟨w.heap.size + 2, 0, none⟩ (.int .i64 0)).setCell ⟨w.heap.size + 2, 1, none⟩ (.int .i64 0)).setCell ⟨w.heap.size + 2, 2, none⟩ (.int .i64 0)).setCell ⟨w.heap.size + 2, 3, none⟩ (.bool false)).setCell ⟨w.heap.size + 2, 4, none⟩ (.slice none 0 0)).setCell ⟨w.heap.size + 2, 5, none⟩ (.slice none 0 0)).setCell ⟨w.heap.size + 2, 6, none⟩ (.int .i64 0)).setCell ⟨w.heap.size + 2, 7, none⟩ (.slice none 0 0)) (w.heap.size + 2) #[.int .i64 0, .int .i64 0, .int .i64 0, .bool false, .slice none 0 0, .slice none 0 0, .int .i64 0, .slice none 0 0] 32) := Lib.hid (Blk.set (Blk.set (Blk.set (Blk.set (Blk.set (Blk.set (Blk.set (Blk.set (BZ_18.out) 0 (.int .i64 0)) 1 (.int .i64 0)) 2 (.int .i64 0)) 3 (.bool false)) 4 (.slice none 0 0)) 5 (.slice none 0 0)) 6 (.int .i64 0)) 7 (.slice none 0 0))
    clear BZ_18
    have sz_35 := Lib.hid (World.grownBy.size hg_30)
    clear hg_30
    have x_36 := BZ_34.out.cell (i := 0) rfl
    have x_37 := BZ_34.out.cell (i := 1) rfl
    have x_38 := BZ_34.out.cell (i := 2) rfl
    have x_39 := BZ_34.out.cell (i := 3) rfl
    have x_40 := BZ_34.out.cell (i := 4) rfl
    have x_41 := BZ_34.out.cell (i := 5) rfl
    have x_42 := BZ_34.out.cell (i := 6) rfl
    have x_43 := BZ_34.out.cell (i := 7) rfl
    refine bodyPost_ret (v := .tuple #[.agg #[.int .i64 0, .int .i64 0, .int .i64 0, .bool false, .slice none 0 0, .slice none 0 0, .int .i64 0, .slice none 0 0], .bool false]) (by simp [results, Tryz.results15, go_sem, x_20, x_21, x_22, x_23, x_24, x_25, x_26, x_27]) rfl ?_
    exact MadeRB.no H_31.out
  | true =>
    rw [hb] at C0
    have hrun : ∃ q : Nat, N = (q : Int) := ⟨N.toNat, by
      unfold runB at hb
      simp only [Bool.and_eq_true] at hb
      have := graphB_iff hb.1
      omega⟩
    obtain ⟨q, rfl⟩ := hrun
    have HR := Lib.hid (runB_iff.1 hb)
    have hnn := HR.out.nn
    simp only at hnn
    subst hnn
    rw [iterB_over hb]
    simp only
    have CV := Lib.hid (fun W bb (h : Blk W bb #[.int .i64 p, .int .i64 s, .int .i64 it, .bool dn, .slice A n c, .slice B m d, .int .i64 (q : Int), .slice C j k] 32) => over_any bb p s it dn (.slice A n c) (.slice B m d) (.int .i64 (q : Int)) (.slice C j k) W h)
    unfold overB at CV
    clear hb
    cases hov : (dn || decide (it = 1000)) with
    | true =>
      rw [hov] at CV
      simp only [Bool.not_true, Bool.false_eq_true, if_false]
      clear hov CC
      have H_1 := Lib.hid (g_chain (g_chain (g_chain (Below.refl w.heap.size w) (below_a1 w (.cells #[.int .i64 (q : Int), .slice AG l cG] 25))) (below_a1 (w.alloc (.cells #[.int .i64 (q : Int), .slice AG l cG] 25)) (.cells #[.int .i64 p, .int .i64 s, .int .i64 it, .bool dn, .slice A n c, .slice B m d, .int .i64 (q : Int), .slice C j k] 32))) (below_a1 ((w.alloc (.cells #[.int .i64 (q : Int), .slice AG l cG] 25)).alloc (.cells #[.int .i64 p, .int .i64 s, .int .i64 it, .bool dn, .slice A n c, .slice B m d, .int .i64 (q : Int), .slice C j k] 32)) (.cells #[.int .i64 0, .int .i64 0, .int .i64 0, .bool false, .slice none 0 0, .slice none 0 0, .int .i64 0, .slice none 0 0] 32)))
      have BG_2 : Hid (Blk (((w.alloc (.cells #[.int .i64 (q : Int), .slice AG l cG] 25)).alloc (.cells #[.int .i64 p, .int .i64 s, .int .i64 it, .bool dn, .slice A n c, .slice B m d, .int .i64 (q : Int), .slice C j k] 32)).alloc (.cells #[.int .i64 0, .int .i64 0, .int .i64 0, .bool false, .slice none 0 0, .slice none 0 0, .int .i64 0, .slice none 0 0] 32)) (w.heap.size) #[.int .i64 (q : Int), .slice AG l cG] 25) := Lib.hid (by have h := ((Blk.new w #[.int .i64 (q : Int), .slice AG l cG] 25).alloc (.cells #[.int .i64 p, .int .i64 s, .int .i64 it, .bool dn, .slice A n c, .slice B m d, .int .i64 (q : Int), .slice C j k] 32)).alloc (.cells #[.int .i64 0, .int .i64 0, .int .i64 0, .bool false, .slice none 0 0, .slice none 0 0, .int .i64 0, .slice none 0 0] 32); simpa [Nat.add_assoc] using h)
      have BR_3 : Hid (Blk (((w.alloc (.cells #[.int .i64 (q : Int), .slice AG l cG] 25)).alloc (.cells #[.int .i64 p, .int .i64 s, .int .i64 it, .bool dn, .slice A n c, .slice B m d, .int .i64 (q : Int), .slice C j k] 32)).alloc (.cells #[.int .i64 0, .int .i64 0, .int .i64 0, .bool false, .slice none 0 0, .slice none 0 0, .int .i64 0, .slice none 0 0] 32)) (w.heap.size + 1) #[.int .i64 p, .int .i64 s, .int .i64 it, .bool dn, .slice A n c, .slice B m d, .int .i64 (q : Int), .slice C j k] 32) := Lib.hid (by have h := (Blk.new (w.alloc (.cells #[.int .i64 (q : Int), .slice AG l cG] 25)) #[.int .i64 p, .int .i64 s, .int .i64 it, .bool dn, .slice A n c, .slice B m d, .int .i64 (q : Int), .slice C j k] 32).alloc (.cells #[.int .i64 0, .int .i64 0, .int .i64 0, .bool false, .slice none 0 0, .slice none 0 0, .int .i64 0, .slice none 0 0] 32); simpa [Nat.add_assoc] using h)
      have BZ_4 : Hid (Blk (((w.alloc (.cells #[.int .i64 (q : Int), .slice AG l cG] 25)).alloc (.cells #[.int .i64 p, .int .i64 s, .int .i64 it, .bool dn, .slice A n c, .slice B m d, .int .i64 (q : Int), .slice C j k] 32)).alloc (.cells #[.int .i64 0, .int .i64 0, .int .i64 0, .bool false, .slice none 0 0, .slice none 0 0, .int .i64 0, .slice none 0 0] 32)) (w.heap.size + 2) #[.int .i64 0, .int .i64 0, .int .i64 0, .bool false, .slice none 0 0, .slice none 0 0, .int .i64 0, .slice none 0 0] 32) := Lib.hid (by have h := Blk.new ((w.alloc (.cells #[.int .i64 (q : Int), .slice AG l cG] 25)).alloc (.cells #[.int .i64 p, .int .i64 s, .int .i64 it, .bool dn, .slice A n c, .slice B m d, .int .i64 (q : Int), .slice C j k] 32)) #[.int .i64 0, .int .i64 0, .int .i64 0, .bool false, .slice none 0 0, .slice none 0 0, .int .i64 0, .slice none 0 0] 32; simpa [Nat.add_assoc] using h)
      have sz0 : Hid (w.heap.size + 3 ≤ (((w.alloc (.cells #[.int .i64 (q : Int), .slice AG l cG] 25)).alloc (.cells #[.int .i64 p, .int .i64 s, .int .i64 it, .bool dn, .slice A n c, .slice B m d, .int .i64 (q : Int), .slice C j k] 32)).alloc (.cells #[.int .i64 0, .int .i64 0, .int .i64 0, .bool false, .slice none 0 0, .slice none 0 0, .int .i64 0, .slice none 0 0] 32)).heap.size) := Lib.hid (by simp)
      go_enter Tryz.func15, Tryz.ntmps15
      have x_5 := BG_2.out.cell (i := 0) rfl
      have x_6 := BG_2.out.cell (i := 1) rfl
      have x_7 := BR_3.out.cell (i := 0) rfl
      have x_8 := BR_3.out.cell (i := 1) rfl
      have x_9 := BR_3.out.cell (i := 2) rfl
      have x_10 := BR_3.out.cell (i := 3) rfl
      have x_11 := BR_3.out.cell (i := 4) rfl
      have x_12 := BR_3.out.cell (i := 5) rfl
      have x_13 := BR_3.out.cell (i := 6) rfl
      have x_14 := BR_3.out.cell (i := 7) rfl
      go_wp2_with fail
      refine (C0.out _ H_1.out).mono ?_
      rintro e w1 ⟨rfl, hb⟩
      clear x_5
      clear x_6
      clear x_7
      clear x_8
      clear x_9
      clear x_10
      clear x_11
      clear x_12
      clear x_13
      clear x_14
      have H_15 := Lib.hid (g_chain H_1.out hb)
      clear H_1
      have BG_16 := Lib.hid (BG_2.out.below hb)
      clear BG_2
      have BR_17 := Lib.hid (BR_3.out.below hb)
      clear BR_3
      have BZ_18 := Lib.hid (BZ_4.out.below hb)
      clear BZ_4
      have sz_19 := Lib.hid (Below.size hb)
      clear hb
      have x_20 := BR_17.out.cell (i := 0) rfl
      have x_21 := BR_17.out.cell (i := 1) rfl
      have x_22 := BR_17.out.cell (i := 2) rfl
      have x_23 := BR_17.out.cell (i := 3) rfl
      have x_24 := BR_17.out.cell (i := 4) rfl
      have x_25 := BR_17.out.cell (i := 5) rfl
      have x_26 := BR_17.out.cell (i := 6) rfl
      have x_27 := BR_17.out.cell (i := 7) rfl
      have fz_28 := fun i => BR_17.out.frozen i
      have lt_29 := BR_17.out.lt
      go_wp2_with fail
      refine (CV.out _ _ BR_17.out).mono ?_
      rintro e w9 ⟨rfl, rfl⟩
      clear x_20 x_21 x_22 x_23 x_24 x_25 x_26 x_27 fz_28 lt_29
      have x_30 := BZ_18.out.cell (i := 0) rfl
      have x_31 := BZ_18.out.cell (i := 1) rfl
      have x_32 := BZ_18.out.cell (i := 2) rfl
      have x_33 := BZ_18.out.cell (i := 3) rfl
      have x_34 := BZ_18.out.cell (i := 4) rfl
      have x_35 := BZ_18.out.cell (i := 5) rfl
      have x_36 := BZ_18.out.cell (i := 6) rfl
      have x_37 := BZ_18.out.cell (i := 7) rfl
      have fz_38 := fun i => BZ_18.out.frozen i
      have lt_39 := BZ_18.out.lt
      go_wp2
      have hg_40 := (((((((grown_cell w1 (w.heap.size + 2) 0 (.int .i64 0)).trans (grown_cell (w1.setCell ⟨w.heap.size + 2, 0, none⟩ (.int .i64 0)) (w.heap.size + 2) 1 (.int .i64 0))).trans (grown_cell ((w1.setCell ⟨w.heap.size + 2, 0, none⟩ (.int .i64 0)).setCell ⟨w.heap.size + 2, 1, none⟩ (.int .i64 0)) (w.heap.size + 2) 2 (.int .i64 0))).trans (grown_cell (((w1.setCell ⟨w.heap.size + 2, 0, none⟩ (.int .i64 0)).setCell ⟨w.heap.size + 2, 1, none⟩ (.int .i64 0)).setCell ⟨w.heap.size + 2, 2, none⟩ (.int .i64 0)) (w.heap.size + 2) 3 (.bool false))).trans (grown_cell ((((w1.setCell ⟨w.heap.size + 2, 0, none⟩ (.int .i64 0)).setCell ⟨w.heap.size + 2, 1, none⟩ (.int .i64 0)).setCell ⟨w.heap.size + 2, 2, none⟩ (.int .i64 0)).setCell ⟨w.heap.size + 2, 3, none⟩ (.bool false)) (w.heap.size + 2) 4 (.slice none 0 0))).trans (grown_cell (((((w1.setCell ⟨w.heap.size + 2, 0, none⟩ (.int .i64 0)).setCell ⟨w.heap.size + 2, 1, none⟩ (.int .i64 0)).setCell ⟨w.heap.size + 2, 2, none⟩ (.int .i64 0)).setCell ⟨w.heap.size + 2, 3, none⟩ (.bool false)).setCell ⟨w.heap.size + 2, 4, none⟩ (.slice none 0 0)) (w.heap.size + 2) 5 (.slice none 0 0))).trans (grown_cell ((((((w1.setCell ⟨w.heap.size + 2, 0, none⟩ (.int .i64 0)).setCell ⟨w.heap.size + 2, 1, none⟩ (.int .i64 0)).setCell ⟨w.heap.size + 2, 2, none⟩ (.int .i64 0)).setCell ⟨w.heap.size + 2, 3, none⟩ (.bool false)).setCell ⟨w.heap.size + 2, 4, none⟩ (.slice none 0 0)).setCell ⟨w.heap.size + 2, 5, none⟩ (.slice none 0 0)) (w.heap.size + 2) 6 (.int .i64 0))).trans (grown_cell (((((((w1.setCell ⟨w.heap.size + 2, 0, none⟩ (.int .i64 0)).setCell ⟨w.heap.size + 2, 1, none⟩ (.int .i64 0)).setCell ⟨w.heap.size + 2, 2, none⟩ (.int .i64 0)).setCell ⟨w.heap.size + 2, 3, none⟩ (.bool false)).setCell ⟨w.heap.size + 2, 4, none⟩ (.slice none 0 0)).setCell ⟨w.heap.size + 2, 5, none⟩ (.slice none 0 0)).setCell ⟨w.heap.size + 2, 6, none⟩ (.int .i64 0)) (w.heap.size + 2) 7 (.slice none 0 0))
      have H_41 := Lib.hid (H_15.out.grown hg_40 H_15.out.size (fun j hj => by injection hj with hj; have := sz0.out; have := sz_19.out; omega))
      clear H_15
      have BG_42 := Lib.hid (BG_16.out.grown hg_40 (by intro e; injection e with e; have := sz0.out; have := sz_19.out; omega))
      clear BG_16
      have BR_43 := Lib.hid (BR_17.out.grown hg_40 (by intro e; injection e with e; have := sz0.out; have := sz_19.out; omega))
      clear BR_17
      have BZ_44 : Hid (Blk ((((((((w1.setCell ⟨w.heap.size + 2, 0, none⟩ (.int .i64 0)).setCell ⟨w.heap.size + 2, 1, none⟩ (.int .i64 0)).setCell ⟨w.heap.size + 2, 2, none⟩ (.int .i64 0)).setCell ⟨w.heap.size + 2, 3, none⟩ (.bool false)).setCell ⟨w.heap.size + 2, 4, none⟩ (.slice none 0 0)).setCell ⟨w.heap.size + 2, 5, none⟩ (.slice none 0 0)).setCell ⟨w.heap.size + 2, 6, none⟩ (.int .i64 0)).setCell ⟨w.heap.size + 2, 7, none⟩ (.slice none 0 0)) (w.heap.size + 2) #[.int .i64 0, .int .i64 0, .int .i64 0, .bool false, .slice none 0 0, .slice none 0 0, .int .i64 0, .slice none 0 0] 32) := Lib.hid (Blk.set (Blk.set (Blk.set (Blk.set (Blk.set (Blk.set (Blk.set (Blk.set (BZ_18.out) 0 (.int .i64 0)) 1 (.int .i64 0)) 2 (.int .i64 0)) 3 (.bool false)) 4 (.slice none 0 0)) 5 (.slice none 0 0)) 6 (.int .i64 0)) 7 (.slice none 0 0))
      clear BZ_18
      have sz_45 := Lib.hid (World.grownBy.size hg_40)
      clear hg_40
      refine bodyPost_ret (v := .tuple #[.agg #[.int .i64 0, .int .i64 0, .int .i64 0, .bool false, .slice none 0 0, .slice none 0 0, .int .i64 0, .slice none 0 0], .bool false]) (by simp [results, Tryz.results15, go_sem, x_30, x_31, x_32, x_33, x_34, x_35, x_36, x_37]) rfl ?_
      exact MadeRB.no H_41.out
    | false =>
      rw [hov] at CV
      simp only [Bool.not_false, if_true]
      have hit : it ≠ 1000 := by
        intro h
        subst h
        simp at hov
      clear hov
      have H_1 := Lib.hid (g_chain (g_chain (g_chain (Below.refl w.heap.size w) (below_a1 w (.cells #[.int .i64 (q : Int), .slice AG l cG] 25))) (below_a1 (w.alloc (.cells #[.int .i64 (q : Int), .slice AG l cG] 25)) (.cells #[.int .i64 p, .int .i64 s, .int .i64 it, .bool dn, .slice A n c, .slice B m d, .int .i64 (q : Int), .slice C j k] 32))) (below_a1 ((w.alloc (.cells #[.int .i64 (q : Int), .slice AG l cG] 25)).alloc (.cells #[.int .i64 p, .int .i64 s, .int .i64 it, .bool dn, .slice A n c, .slice B m d, .int .i64 (q : Int), .slice C j k] 32)) (.cells #[.int .i64 0, .int .i64 0, .int .i64 0, .bool false, .slice none 0 0, .slice none 0 0, .int .i64 0, .slice none 0 0] 32)))
      have BG_2 : Hid (Blk (((w.alloc (.cells #[.int .i64 (q : Int), .slice AG l cG] 25)).alloc (.cells #[.int .i64 p, .int .i64 s, .int .i64 it, .bool dn, .slice A n c, .slice B m d, .int .i64 (q : Int), .slice C j k] 32)).alloc (.cells #[.int .i64 0, .int .i64 0, .int .i64 0, .bool false, .slice none 0 0, .slice none 0 0, .int .i64 0, .slice none 0 0] 32)) (w.heap.size) #[.int .i64 (q : Int), .slice AG l cG] 25) := Lib.hid (by have h := ((Blk.new w #[.int .i64 (q : Int), .slice AG l cG] 25).alloc (.cells #[.int .i64 p, .int .i64 s, .int .i64 it, .bool dn, .slice A n c, .slice B m d, .int .i64 (q : Int), .slice C j k] 32)).alloc (.cells #[.int .i64 0, .int .i64 0, .int .i64 0, .bool false, .slice none 0 0, .slice none 0 0, .int .i64 0, .slice none 0 0] 32); simpa [Nat.add_assoc] using h)
      have BR_3 : Hid (Blk (((w.alloc (.cells #[.int .i64 (q : Int), .slice AG l cG] 25)).alloc (.cells #[.int .i64 p, .int .i64 s, .int .i64 it, .bool dn, .slice A n c, .slice B m d, .int .i64 (q : Int), .slice C j k] 32)).alloc (.cells #[.int .i64 0, .int .i64 0, .int .i64 0, .bool false, .slice none 0 0, .slice none 0 0, .int .i64 0, .slice none 0 0] 32)) (w.heap.size + 1) #[.int .i64 p, .int .i64 s, .int .i64 it, .bool dn, .slice A n c, .slice B m d, .int .i64 (q : Int), .slice C j k] 32) := Lib.hid (by have h := (Blk.new (w.alloc (.cells #[.int .i64 (q : Int), .slice AG l cG] 25)) #[.int .i64 p, .int .i64 s, .int .i64 it, .bool dn, .slice A n c, .slice B m d, .int .i64 (q : Int), .slice C j k] 32).alloc (.cells #[.int .i64 0, .int .i64 0, .int .i64 0, .bool false, .slice none 0 0, .slice none 0 0, .int .i64 0, .slice none 0 0] 32); simpa [Nat.add_assoc] using h)
      have BZ_4 : Hid (Blk (((w.alloc (.cells #[.int .i64 (q : Int), .slice AG l cG] 25)).alloc (.cells #[.int .i64 p, .int .i64 s, .int .i64 it, .bool dn, .slice A n c, .slice B m d, .int .i64 (q : Int), .slice C j k] 32)).alloc (.cells #[.int .i64 0, .int .i64 0, .int .i64 0, .bool false, .slice none 0 0, .slice none 0 0, .int .i64 0, .slice none 0 0] 32)) (w.heap.size + 2) #[.int .i64 0, .int .i64 0, .int .i64 0, .bool false, .slice none 0 0, .slice none 0 0, .int .i64 0, .slice none 0 0] 32) := Lib.hid (by have h := Blk.new ((w.alloc (.cells #[.int .i64 (q : Int), .slice AG l cG] 25)).alloc (.cells #[.int .i64 p, .int .i64 s, .int .i64 it, .bool dn, .slice A n c, .slice B m d, .int .i64 (q : Int), .slice C j k] 32)) #[.int .i64 0, .int .i64 0, .int .i64 0, .bool false, .slice none 0 0, .slice none 0 0, .int .i64 0, .slice none 0 0] 32; simpa [Nat.add_assoc] using h)
      have sz0 : Hid (w.heap.size + 3 ≤ (((w.alloc (.cells #[.int .i64 (q : Int), .slice AG l cG] 25)).alloc (.cells #[.int .i64 p, .int .i64 s, .int .i64 it, .bool dn, .slice A n c, .slice B m d, .int .i64 (q : Int), .slice C j k] 32)).alloc (.cells #[.int .i64 0, .int .i64 0, .int .i64 0, .bool false, .slice none 0 0, .slice none 0 0, .int .i64 0, .slice none 0 0] 32)).heap.size) := Lib.hid (by simp)
      go_enter Tryz.func15, Tryz.ntmps15
      have x_5 := BG_2.out.cell (i := 0) rfl
      have x_6 := BG_2.out.cell (i := 1) rfl
      have x_7 := BR_3.out.cell (i := 0) rfl
      have x_8 := BR_3.out.cell (i := 1) rfl
      have x_9 := BR_3.out.cell (i := 2) rfl
      have x_10 := BR_3.out.cell (i := 3) rfl
      have x_11 := BR_3.out.cell (i := 4) rfl
      have x_12 := BR_3.out.cell (i := 5) rfl
      have x_13 := BR_3.out.cell (i := 6) rfl
      have x_14 := BR_3.out.cell (i := 7) rfl
      go_wp2_with fail
      refine (C0.out _ H_1.out).mono ?_
      rintro e w1 ⟨rfl, hb⟩
      clear x_5
      clear x_6
      clear x_7
      clear x_8
      clear x_9
      clear x_10
      clear x_11
      clear x_12
      clear x_13
      clear x_14
      have H_15 := Lib.hid (g_chain H_1.out hb)
      clear H_1
      have BG_16 := Lib.hid (BG_2.out.below hb)
      clear BG_2
      have BR_17 := Lib.hid (BR_3.out.below hb)
      clear BR_3
      have BZ_18 := Lib.hid (BZ_4.out.below hb)
      clear BZ_4
      have sz_19 := Lib.hid (Below.size hb)
      clear hb
      have x_20 := BR_17.out.cell (i := 0) rfl
      have x_21 := BR_17.out.cell (i := 1) rfl
      have x_22 := BR_17.out.cell (i := 2) rfl
      have x_23 := BR_17.out.cell (i := 3) rfl
      have x_24 := BR_17.out.cell (i := 4) rfl
      have x_25 := BR_17.out.cell (i := 5) rfl
      have x_26 := BR_17.out.cell (i := 6) rfl
      have x_27 := BR_17.out.cell (i := 7) rfl
      have fz_28 := fun i => BR_17.out.frozen i
      have lt_29 := BR_17.out.lt
      go_wp2_with fail
      refine (CV.out _ _ BR_17.out).mono ?_
      rintro e w9 ⟨rfl, rfl⟩
      clear x_20 x_21 x_22 x_23 x_24 x_25 x_26 x_27 fz_28 lt_29
      have x_30 := BR_17.out.cell (i := 0) rfl
      have x_31 := BR_17.out.cell (i := 1) rfl
      have x_32 := BR_17.out.cell (i := 2) rfl
      have x_33 := BR_17.out.cell (i := 3) rfl
      have x_34 := BR_17.out.cell (i := 4) rfl
      have x_35 := BR_17.out.cell (i := 5) rfl
      have x_36 := BR_17.out.cell (i := 6) rfl
      have x_37 := BR_17.out.cell (i := 7) rfl
      have fz_38 := fun i => BR_17.out.frozen i
      have lt_39 := BR_17.out.lt
      go_wp2_with fail
      refine (CC.out _ H_15.out).mono ?_
      rintro e w2 ⟨A1, c1, B1, d1, C1, k1, rfl, ho, hb⟩
      clear x_30
      clear x_31
      clear x_32
      clear x_33
      clear x_34
      clear x_35
      clear x_36
      clear x_37
      clear fz_38
      clear lt_39
      have H_40 := Lib.hid (g_chain H_15.out hb)
      clear H_15
      have BG_41 := Lib.hid (BG_16.out.below hb)
      clear BG_16
      have BR_42 := Lib.hid (BR_17.out.below hb)
      clear BR_17
      have BZ_43 := Lib.hid (BZ_18.out.below hb)
      clear BZ_18
      have sz_44 := Lib.hid (Below.size hb)
      have Ov_45 := Lib.hid (ho.v)
      have Oe_46 := Lib.hid (ho.e)
      have Ox_47 := Lib.hid (ho.x)
      have AP := Lib.hid ho.ap
      clear ho hb
      have LTOv := Lib.hid Ov_45.out.lt
      have LTOe := Lib.hid Oe_46.out.lt
      have LTOx := Lib.hid Ox_47.out.lt
      have x_48 := BR_42.out.cell (i := 0) rfl
      have x_49 := BR_42.out.cell (i := 1) rfl
      have x_50 := BR_42.out.cell (i := 2) rfl
      have x_51 := BR_42.out.cell (i := 3) rfl
      have x_52 := BR_42.out.cell (i := 4) rfl
      have x_53 := BR_42.out.cell (i := 5) rfl
      have x_54 := BR_42.out.cell (i := 6) rfl
      have x_55 := BR_42.out.cell (i := 7) rfl
      have fz_56 := fun i => BR_42.out.frozen i
      have lt_57 := BR_42.out.lt
      have x_58 := BG_41.out.cell (i := 0) rfl
      have x_59 := BG_41.out.cell (i := 1) rfl
      have fz_60 := fun i => BG_41.out.frozen i
      have lt_61 := BG_41.out.lt
      go_wp2_with fail
      have hg_62 := (((((((grown_cell w2 (w.heap.size + 1) 0 (.int .i64 p)).trans (grown_cell (w2.setCell ⟨w.heap.size + 1, 0, none⟩ (.int .i64 p)) (w.heap.size + 1) 1 (.int .i64 s))).trans (grown_cell ((w2.setCell ⟨w.heap.size + 1, 0, none⟩ (.int .i64 p)).setCell ⟨w.heap.size + 1, 1, none⟩ (.int .i64 s)) (w.heap.size + 1) 2 (.int .i64 it))).trans (grown_cell (((w2.setCell ⟨w.heap.size + 1, 0, none⟩ (.int .i64 p)).setCell ⟨w.heap.size + 1, 1, none⟩ (.int .i64 s)).setCell ⟨w.heap.size + 1, 2, none⟩ (.int .i64 it)) (w.heap.size + 1) 3 (.bool dn))).trans (grown_cell ((((w2.setCell ⟨w.heap.size + 1, 0, none⟩ (.int .i64 p)).setCell ⟨w.heap.size + 1, 1, none⟩ (.int .i64 s)).setCell ⟨w.heap.size + 1, 2, none⟩ (.int .i64 it)).setCell ⟨w.heap.size + 1, 3, none⟩ (.bool dn)) (w.heap.size + 1) 4 (.slice A1 n c1))).trans (grown_cell (((((w2.setCell ⟨w.heap.size + 1, 0, none⟩ (.int .i64 p)).setCell ⟨w.heap.size + 1, 1, none⟩ (.int .i64 s)).setCell ⟨w.heap.size + 1, 2, none⟩ (.int .i64 it)).setCell ⟨w.heap.size + 1, 3, none⟩ (.bool dn)).setCell ⟨w.heap.size + 1, 4, none⟩ (.slice A1 n c1)) (w.heap.size + 1) 5 (.slice B1 m d1))).trans (grown_cell ((((((w2.setCell ⟨w.heap.size + 1, 0, none⟩ (.int .i64 p)).setCell ⟨w.heap.size + 1, 1, none⟩ (.int .i64 s)).setCell ⟨w.heap.size + 1, 2, none⟩ (.int .i64 it)).setCell ⟨w.heap.size + 1, 3, none⟩ (.bool dn)).setCell ⟨w.heap.size + 1, 4, none⟩ (.slice A1 n c1)).setCell ⟨w.heap.size + 1, 5, none⟩ (.slice B1 m d1)) (w.heap.size + 1) 6 (.int .i64 (q : Int)))).trans (grown_cell (((((((w2.setCell ⟨w.heap.size + 1, 0, none⟩ (.int .i64 p)).setCell ⟨w.heap.size + 1, 1, none⟩ (.int .i64 s)).setCell ⟨w.heap.size + 1, 2, none⟩ (.int .i64 it)).setCell ⟨w.heap.size + 1, 3, none⟩ (.bool dn)).setCell ⟨w.heap.size + 1, 4, none⟩ (.slice A1 n c1)).setCell ⟨w.heap.size + 1, 5, none⟩ (.slice B1 m d1)).setCell ⟨w.heap.size + 1, 6, none⟩ (.int .i64 (q : Int))) (w.heap.size + 1) 7 (.slice C1 j k1))
      have H_63 := Lib.hid (H_40.out.grown hg_62 H_40.out.size (fun j hj => by injection hj with hj; have := sz0.out; have := sz_19.out; have := sz_44.out; omega))
      clear H_40
      have BG_64 := Lib.hid (BG_41.out.grown hg_62 (by intro e; injection e with e; have := sz0.out; have := sz_19.out; have := sz_44.out; omega))
      clear BG_41
      have BZ_65 := Lib.hid (BZ_43.out.grown hg_62 (by intro e; injection e with e; have := sz0.out; have := sz_19.out; have := sz_44.out; omega))
      clear BZ_43
      have Ov_66 := Lib.hid (own_kept Ov_45.out hg_62 (own_kind Ov_45.out BR_42.out (by decide)))
      clear Ov_45
      have Oe_67 := Lib.hid (own_kept Oe_46.out hg_62 (own_kind Oe_46.out BR_42.out (by decide)))
      clear Oe_46
      have Ox_68 := Lib.hid (own_kept Ox_47.out hg_62 (own_kind Ox_47.out BR_42.out (by decide)))
      clear Ox_47
      have BR_69 : Hid (Blk ((((((((w2.setCell ⟨w.heap.size + 1, 0, none⟩ (.int .i64 p)).setCell ⟨w.heap.size + 1, 1, none⟩ (.int .i64 s)).setCell ⟨w.heap.size + 1, 2, none⟩ (.int .i64 it)).setCell ⟨w.heap.size + 1, 3, none⟩ (.bool dn)).setCell ⟨w.heap.size + 1, 4, none⟩ (.slice A1 n c1)).setCell ⟨w.heap.size + 1, 5, none⟩ (.slice B1 m d1)).setCell ⟨w.heap.size + 1, 6, none⟩ (.int .i64 (q : Int))).setCell ⟨w.heap.size + 1, 7, none⟩ (.slice C1 j k1)) (w.heap.size + 1) #[.int .i64 p, .int .i64 s, .int .i64 it, .bool dn, .slice A1 n c1, .slice B1 m d1, .int .i64 (q : Int), .slice C1 j k1] 32) := Lib.hid (Blk.set (Blk.set (Blk.set (Blk.set (Blk.set (Blk.set (Blk.set (Blk.set (BR_42.out) 0 (.int .i64 p)) 1 (.int .i64 s)) 2 (.int .i64 it)) 3 (.bool dn)) 4 (.slice A1 n c1)) 5 (.slice B1 m d1)) 6 (.int .i64 (q : Int))) 7 (.slice C1 j k1))
      clear BR_42
      have sz_70 := Lib.hid (World.grownBy.size hg_62)
      clear hg_62
      have hln := HR.out.vl
      have RS : Hid (RSt ((((((((w2.setCell ⟨w.heap.size + 1, 0, none⟩ (.int .i64 p)).setCell ⟨w.heap.size + 1, 1, none⟩ (.int .i64 s)).setCell ⟨w.heap.size + 1, 2, none⟩ (.int .i64 it)).setCell ⟨w.heap.size + 1, 3, none⟩ (.bool dn)).setCell ⟨w.heap.size + 1, 4, none⟩ (.slice A1 n c1)).setCell ⟨w.heap.size + 1, 5, none⟩ (.slice B1 m d1)).setCell ⟨w.heap.size + 1, 6, none⟩ (.int .i64 (q : Int))).setCell ⟨w.heap.size + 1, 7, none⟩ (.slice C1 j k1)) w.heap.size (w.heap.size + 1) p s it dn A1 n c1 B1 m d1 (q : Int) C1 j k1 vs ev nx) := Lib.hid ⟨BR_69.out, own_monoG Ov_66.out (by have := sz0.out; have := sz_19.out; have := sz_44.out; have := sz_70.out; omega), own_monoG Oe_67.out (by have := sz0.out; have := sz_19.out; have := sz_44.out; have := sz_70.out; omega), own_monoG Ox_68.out (by have := sz0.out; have := sz_19.out; have := sz_44.out; have := sz_70.out; omega), AP.out, by omega⟩
      clear hln
      refine (implIterate w _ (w.heap.size + 1) p s it dn A1 n c1 B1 m d1 C1 j k1 vs ev nx q AG l cG G HWW.out HGG.out HR.out HSX.out RS.out H_63.out).mono ?_
      rintro e w3 ⟨rfl, C2, j2, k2, hrs, hbl, hon⟩
      clear x_48 x_49 x_50 x_51 x_52 x_53 x_54 x_55 fz_56 lt_57 x_58 x_59 fz_60 lt_61
      have BZ3 := Lib.hid (hon.blk BZ_65.out (by
        rintro (h | h | h | h)
        · omega
        · have := (LTOv.out _ h).1; have := sz0.out; have := sz_19.out; have := sz_44.out; have := sz_70.out; omega
        · have := (LTOe.out _ h).1; have := sz0.out; have := sz_19.out; have := sz_44.out; have := sz_70.out; omega
        · have := (LTOx.out _ h).1; have := sz0.out; have := sz_19.out; have := sz_44.out; have := sz_70.out; omega))
      have R3 := Lib.hid hrs
      have H3 := Lib.hid hbl
      clear hrs hbl hon RS H_63 BG_64 BR_69 BZ_65 Ov_66 Oe_67 Ox_68
      have HNN : Hid ((iterR (q : Int) G ⟨p, s, it, dn, vs, ev, (q : Int), nx⟩).nn = (q : Int)) := Lib.hid rfl
      obtain ⟨r', hrr⟩ : ∃ r', Hid (r' = iterR (q : Int) G ⟨p, s, it, dn, vs, ev, (q : Int), nx⟩) := ⟨_, Lib.hid rfl⟩
      rw [← hrr.out] at R3 HNN
      have hnl := R3.out.nl
      have x0 := R3.out.bx.cell (i := 0) rfl
      have x1 := R3.out.bx.cell (i := 1) rfl
      have x2 := R3.out.bx.cell (i := 2) rfl
      have x3 := R3.out.bx.cell (i := 3) rfl
      have x4 := R3.out.bx.cell (i := 4) rfl
      have x5 := R3.out.bx.cell (i := 5) rfl
      have x6 := R3.out.bx.cell (i := 6) rfl
      have x7 := R3.out.bx.cell (i := 7) rfl
      have xl := R3.out.bx.lt
      have z0 := BZ3.out.cell (i := 0) rfl
      have z1 := BZ3.out.cell (i := 1) rfl
      have z2 := BZ3.out.cell (i := 2) rfl
      have z3 := BZ3.out.cell (i := 3) rfl
      have z4 := BZ3.out.cell (i := 4) rfl
      have z5 := BZ3.out.cell (i := 5) rfl
      have z6 := BZ3.out.cell (i := 6) rfl
      have z7 := BZ3.out.cell (i := 7) rfl
      have zl := BZ3.out.lt
      have zf := fun i => BZ3.out.frozen i
      go_wp2
      refine bodyPost_ret (v := .tuple #[.agg #[.int .i64 r'.p, .int .i64 r'.s, .int .i64 r'.it, .bool r'.dn, .slice A1 n c1, .slice B1 m d1, .int .i64 (q : Int), .slice C2 j2 k2], .bool true]) (by simp [results, Tryz.results15, go_sem, z0, z1, z2, z3, z4, z5, z6, z7]) rfl ?_
      have hg := layR_grown w3 (w.heap.size + 2) (.int .i64 r'.p) (.int .i64 r'.s) (.int .i64 r'.it) (.bool r'.dn) (.slice A1 n c1) (.slice B1 m d1) (.int .i64 (q : Int)) (.slice C2 j2 k2)
      have V4 := own_kept R3.out.v hg (own_kind R3.out.v BZ3.out (by decide))
      have E4 := own_kept R3.out.e hg (own_kind R3.out.e BZ3.out (by decide))
      have X4 := own_kept R3.out.x hg (own_kind R3.out.x BZ3.out (by decide))
      have H4 := H3.out.grown hg H3.out.size (fun i hi => by injection hi with hi; omega)
      obtain ⟨hn1, hm1, hj1⟩ := hnl
      rw [← hrr.out]
      refine ⟨A1, c1, B1, d1, C2, k2, by rw [hn1, hm1, hj1, HNN.out], ⟨?_, ?_, ?_, ?_⟩, H4⟩
      · rw [hn1]; exact V4
      · rw [hm1]; exact E4
      · rw [hj1]; exact X4
      · rw [hn1, hm1]; exact R3.out.ap
end Go.Proofs.YtlhcobkncceodaaGreatDoor
