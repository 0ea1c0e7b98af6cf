/- The contract of the model's RunIter. Condition: at most 2^20 edges, 2^21 numbers or bytes. -/
import Derived.Test.YtlhcobkncceodaaGreatDoorCGD
import Derived.Test.YtlhcobkncceodaaGreatDoorCGE
import Derived.Test.YtlhcobkncceodaaGreatDoorKVertS
import Derived.Test.YtlhcobkncceodaaGreatDoorKRunOkS
import Derived.Test.YtlhcobkncceodaaGreatDoorCGH
import Derived.Test.YtlhcobkncceodaaGreatDoorCGI
import Derived.Test.YtlhcobkncceodaaGreatDoorKSetHasS
namespace Go.Proofs.YtlhcobkncceodaaGreatDoor
open Go.RowKit
set_option linter.unusedVariables false

set_option maxRecDepth 20000 in
set_option maxHeartbeats 8000000 in
theorem specRunIter (N : Int) (AG : Option Addr) (l cG : Nat) (G : List GE) (p s it : Int) (dn : Bool) (A : Option Addr) (n c : Nat) (B : Option Addr) (m d : Nat) (nn : Int) (C : Option Addr) (j k : Nat) (vs ev : List Int) (nx : List Nat) (w : World) (hg : SlG w AG l G) (hv : SlI w A n vs) (he : SlI w B m ev) (hx : Rd w C j nx) (hl : l ≤ 1048576) (hn : n ≤ 2097152) (hm : m ≤ 2097152) (hj : j ≤ 2097152) :
    Calls Tryz.prog 41 #[.agg #[.int .i64 N, .slice AG l cG], .agg #[.int .i64 p, .int .i64 s, .int .i64 it, .bool dn, .slice A n c, .slice B m d, .int .i64 nn, .slice C j k]] w (MadeRB w (iterO N G ⟨p, s, it, dn, vs, ev, nn, nx⟩) (iterB N G ⟨p, s, it, dn, vs, ev, nn, nx⟩)) := by
  have C0 := Lib.hid (fun W (h : Below w.heap.size w W) => specRunOk N AG l cG G p s it dn A n c B m d nn C j k vs ev nx W (hg.below h) (hv.below h) (he.below h) (hx.below h) hl hn hm hj)
  have CC := Lib.hid (fun W (h : Below w.heap.size w W) => specCopyRun p s it dn A n c B m d nn C j k vs ev nx W (hv.below h) (he.below h) (hx.below h) hn hm hj)
  have CS := Lib.hid (fun W (h : Below w.heap.size w W) => specCopySet nn C j k nx W (hx.below h) hj)
  unfold MadeR at CC
  unfold MadeS at CS
  have HGG := Lib.hid hg
  have HSX := Lib.hid hx.small
  have HXL := Lib.hid hx.len
  clear hg hv he hx
  unfold iterO
  cases hb : runB N G ⟨p, s, it, dn, vs, ev, nn, nx⟩ with
  | false =>
    rw [hb] at C0
    rw [iterB_no hb]
    simp only [Bool.false_eq_true, if_false]
    clear hb CC CS
    have H_1 := Lib.hid (g_chain (g_chain (g_chain (Below.refl w.heap.size w) (below_a1 w (.cells #[.int .i64 N, .slice AG l cG] 25))) (below_a1 (w.alloc (.cells #[.int .i64 N, .slice AG l cG] 25)) (.cells #[.int .i64 p, .int .i64 s, .int .i64 it, .bool dn, .slice A n c, .slice B m d, .int .i64 nn, .slice C j k] 32))) (below_a1 ((w.alloc (.cells #[.int .i64 N, .slice AG l cG] 25)).alloc (.cells #[.int .i64 p, .int .i64 s, .int .i64 it, .bool dn, .slice A n c, .slice B m d, .int .i64 nn, .slice C j k] 32)) (.cells #[.int .i64 0, .int .i64 0, .int .i64 0, .bool false, .slice none 0 0, .slice none 0 0, .int .i64 0, .slice none 0 0] 32)))
    have BG_2 : Hid (Blk (((w.alloc (.cells #[.int .i64 N, .slice AG l cG] 25)).alloc (.cells #[.int .i64 p, .int .i64 s, .int .i64 it, .bool dn, .slice A n c, .slice B m d, .int .i64 nn, .slice C j k] 32)).alloc (.cells #[.int .i64 0, .int .i64 0, .int .i64 0, .bool false, .slice none 0 0, .slice none 0 0, .int .i64 0, .slice none 0 0] 32)) (w.heap.size) #[.int .i64 N, .slice AG l cG] 25) := Lib.hid (by have h := ((Blk.new w #[.int .i64 N, .slice AG l cG] 25).alloc (.cells #[.int .i64 p, .int .i64 s, .int .i64 it, .bool dn, .slice A n c, .slice B m d, .int .i64 nn, .slice C j k] 32)).alloc (.cells #[.int .i64 0, .int .i64 0, .int .i64 0, .bool false, .slice none 0 0, .slice none 0 0, .int .i64 0, .slice none 0 0] 32); simpa [Nat.add_assoc] using h)
    have BR_3 : Hid (Blk (((w.alloc (.cells #[.int .i64 N, .slice AG l cG] 25)).alloc (.cells #[.int .i64 p, .int .i64 s, .int .i64 it, .bool dn, .slice A n c, .slice B m d, .int .i64 nn, .slice C j k] 32)).alloc (.cells #[.int .i64 0, .int .i64 0, .int .i64 0, .bool false, .slice none 0 0, .slice none 0 0, .int .i64 0, .slice none 0 0] 32)) (w.heap.size + 1) #[.int .i64 p, .int .i64 s, .int .i64 it, .bool dn, .slice A n c, .slice B m d, .int .i64 nn, .slice C j k] 32) := Lib.hid (by have h := (Blk.new (w.alloc (.cells #[.int .i64 N, .slice AG l cG] 25)) #[.int .i64 p, .int .i64 s, .int .i64 it, .bool dn, .slice A n c, .slice B m d, .int .i64 nn, .slice C j k] 32).alloc (.cells #[.int .i64 0, .int .i64 0, .int .i64 0, .bool false, .slice none 0 0, .slice none 0 0, .int .i64 0, .slice none 0 0] 32); simpa [Nat.add_assoc] using h)
    have BZ_4 : Hid (Blk (((w.alloc (.cells #[.int .i64 N, .slice AG l cG] 25)).alloc (.cells #[.int .i64 p, .int .i64 s, .int .i64 it, .bool dn, .slice A n c, .slice B m d, .int .i64 nn, .slice C j k] 32)).alloc (.cells #[.int .i64 0, .int .i64 0, .int .i64 0, .bool false, .slice none 0 0, .slice none 0 0, .int .i64 0, .slice none 0 0] 32)) (w.heap.size + 2) #[.int .i64 0, .int .i64 0, .int .i64 0, .bool false, .slice none 0 0, .slice none 0 0, .int .i64 0, .slice none 0 0] 32) := Lib.hid (by have h := Blk.new ((w.alloc (.cells #[.int .i64 N, .slice AG l cG] 25)).alloc (.cells #[.int .i64 p, .int .i64 s, .int .i64 it, .bool dn, .slice A n c, .slice B m d, .int .i64 nn, .slice C j k] 32)) #[.int .i64 0, .int .i64 0, .int .i64 0, .bool false, .slice none 0 0, .slice none 0 0, .int .i64 0, .slice none 0 0] 32; simpa [Nat.add_assoc] using h)
    have sz0 : Hid (w.heap.size + 3 ≤ (((w.alloc (.cells #[.int .i64 N, .slice AG l cG] 25)).alloc (.cells #[.int .i64 p, .int .i64 s, .int .i64 it, .bool dn, .slice A n c, .slice B m d, .int .i64 nn, .slice C j k] 32)).alloc (.cells #[.int .i64 0, .int .i64 0, .int .i64 0, .bool false, .slice none 0 0, .slice none 0 0, .int .i64 0, .slice none 0 0] 32)).heap.size) := Lib.hid (by simp)
    go_enter Tryz.func41, Tryz.ntmps41
    have x_5 := BG_2.out.cell (i := 0) rfl
    have x_6 := BG_2.out.cell (i := 1) rfl
    have x_7 := BR_3.out.cell (i := 0) rfl
    have x_8 := BR_3.out.cell (i := 1) rfl
    have x_9 := BR_3.out.cell (i := 2) rfl
    have x_10 := BR_3.out.cell (i := 3) rfl
    have x_11 := BR_3.out.cell (i := 4) rfl
    have x_12 := BR_3.out.cell (i := 5) rfl
    have x_13 := BR_3.out.cell (i := 6) rfl
    have x_14 := BR_3.out.cell (i := 7) rfl
    go_wp2_with fail
    refine (C0.out _ H_1.out).mono ?_
    rintro e w1 ⟨rfl, hb⟩
    clear x_5
    clear x_6
    clear x_7
    clear x_8
    clear x_9
    clear x_10
    clear x_11
    clear x_12
    clear x_13
    clear x_14
    have H_15 := Lib.hid (g_chain H_1.out hb)
    clear H_1
    have BG_16 := Lib.hid (BG_2.out.below hb)
    clear BG_2
    have BR_17 := Lib.hid (BR_3.out.below hb)
    clear BR_3
    have BZ_18 := Lib.hid (BZ_4.out.below hb)
    clear BZ_4
    have sz_19 := Lib.hid (Below.size hb)
    clear hb
    have x_20 := BR_17.out.cell (i := 0) rfl
    have x_21 := BR_17.out.cell (i := 1) rfl
    have x_22 := BR_17.out.cell (i := 2) rfl
    have x_23 := BR_17.out.cell (i := 3) rfl
    have x_24 := BR_17.out.cell (i := 4) rfl
    have x_25 := BR_17.out.cell (i := 5) rfl
    have x_26 := BR_17.out.cell (i := 6) rfl
    have x_27 := BR_17.out.cell (i := 7) rfl
    have fz_28 := fun i => BR_17.out.frozen i
    have lt_29 := BR_17.out.lt
    have x_30 := BZ_18.out.cell (i := 0) rfl
    have x_31 := BZ_18.out.cell (i := 1) rfl
    have x_32 := BZ_18.out.cell (i := 2) rfl
    have x_33 := BZ_18.out.cell (i := 3) rfl
    have x_34 := BZ_18.out.cell (i := 4) rfl
    have x_35 := BZ_18.out.cell (i := 5) rfl
    have x_36 := BZ_18.out.cell (i := 6) rfl
    have x_37 := BZ_18.out.cell (i := 7) rfl
    have fz_38 := fun i => BZ_18.out.frozen i
    have lt_39 := BZ_18.out.lt
    go_wp2
    have hg_40 := (((((((grown_cell w1 (w.heap.size + 2) 0 (.int .i64 0)).trans (grown_cell (w1.setCell ⟨w.heap.size + 2, 0, none⟩ (.int .i64 0)) (w.heap.size + 2) 1 (.int .i64 0))).trans (grown_cell ((w1.setCell ⟨w.heap.size + 2, 0, none⟩ (.int .i64 0)).setCell ⟨w.heap.size + 2, 1, none⟩ (.int .i64 0)) (w.heap.size + 2) 2 (.int .i64 0))).trans (grown_cell (((w1.setCell ⟨w.heap.size + 2, 0, none⟩ (.int .i64 0)).setCell ⟨w.heap.size + 2, 1, none⟩ (.int .i64 0)).setCell ⟨w.heap.size + 2, 2, none⟩ (.int .i64 0)) (w.heap.size + 2) 3 (.bool false))).trans (grown_cell ((((w1.setCell ⟨w.heap.size + 2, 0, none⟩ (.int .i64 0)).setCell ⟨w.heap.size + 2, 1, none⟩ (.int .i64 0)).setCell ⟨w.heap.size + 2, 2, none⟩ (.int .i64 0)).setCell ⟨w.heap.size + 2, 3, none⟩ (.bool false)) (w.heap.size + 2) 4 (.slice none 0 0))).trans (grown_cell (((((w1.setCell ⟨w.heap.size + 2, 0, none⟩ (.int .i64 0)).setCell ⟨w.heap.size + 2, 1, none⟩ (.int .i64 0)).setCell ⟨w.heap.size + 2, 2, none⟩ (.int .i64 0)).setCell ⟨w.heap.size + 2, 3, none⟩ (.bool false)).setCell ⟨w.heap.size + 2, 4, none⟩ (.slice none 0 0)) (w.heap.size + 2) 5 (.slice none 0 0))).trans (grown_cell ((((((w1.setCell ⟨w.heap.size + 2, 0, none⟩ (.int .i64 0)).setCell ⟨w.heap.size + 2, 1, none⟩ (.int .i64 0)).setCell ⟨w.heap.size + 2, 2, none⟩ (.int .i64 0)).setCell ⟨w.heap.size + 2, 3, none⟩ (.bool false)).setCell ⟨w.heap.size + 2, 4, none⟩ (.slice none 0 0)).setCell ⟨w.heap.size + 2, 5, none⟩ (.slice none 0 0)) (w.heap.size + 2) 6 (.int .i64 0))).trans (grown_cell (((((((w1.setCell ⟨w.heap.size + 2, 0, none⟩ (.int .i64 0)).setCell ⟨w.heap.size + 2, 1, none⟩ (.int .i64 0)).setCell ⟨w.heap.size + 2, 2, none⟩ (.int .i64 0)).setCell ⟨w.heap.size + 2, 3, none⟩ (.bool false)).setCell ⟨w.heap.size + 2, 4, none⟩ (.slice none 0 0)).setCell ⟨w.heap.size + 2, 5, none⟩ (.slice none 0 0)).setCell ⟨w.heap.size + 2, 6, none⟩ (.int .i64 0)) (w.heap.size + 2) 7 (.slice none 0 0))
    have H_41 := Lib.hid (H_15.out.grown hg_40 H_15.out.size (fun j hj => by injection hj with hj; have := sz0.out; have := sz_19.out; omega))
    clear H_15
    have BG_42 := Lib.hid (BG_16.out.grown hg_40 (by intro e; injection e with e; have := sz0.out; have := sz_19.out; omega))
    clear BG_16
    have BR_43 := Lib.hid (BR_17.out.grown hg_40 (by intro e; injection e with e; have := sz0.out; have := sz_19.out; omega))
    clear BR_17
    have BZ_44 : Hid (Blk ((((((((w1.setCell ⟨w.heap.size + 2, 0, none⟩ (.int .i64 0)).setCell ⟨w.heap.size + 2, 1, none⟩ (.int .i64 0)).setCell ⟨w.heap.size + 2, 2, none⟩ (.int .i64 0)).setCell ⟨w.heap.size + 2, 3, none⟩ (.bool false)).setCell ⟨w.heap.size + 2, 4, none⟩ (.slice none 0 0)).setCell ⟨w.heap.size + 2, 5, none⟩ (.slice none 0 0)).setCell ⟨w.heap.size + 2, 6, none⟩ (.int .i64 0)).setCell ⟨w.heap.size + 2, 7, none⟩ (.slice none 0 0)) (w.heap.size + 2) #[.int .i64 0, .int .i64 0, .int .i64 0, .bool false, .slice none 0 0, .slice none 0 0, .int .i64 0, .slice none 0 0] 32) := Lib.hid (Blk.set (Blk.set (Blk.set (Blk.set (Blk.set (Blk.set (Blk.set (Blk.set (BZ_18.out) 0 (.int .i64 0)) 1 (.int .i64 0)) 2 (.int .i64 0)) 3 (.bool false)) 4 (.slice none 0 0)) 5 (.slice none 0 0)) 6 (.int .i64 0)) 7 (.slice none 0 0))
    clear BZ_18
    have sz_45 := Lib.hid (World.grownBy.size hg_40)
    clear hg_40
    refine bodyPost_ret (v := .tuple #[.agg #[.int .i64 0, .int .i64 0, .int .i64 0, .bool false, .slice none 0 0, .slice none 0 0, .int .i64 0, .slice none 0 0], .bool false]) (by simp [results, Tryz.results41, go_sem, x_30, x_31, x_32, x_33, x_34, x_35, x_36, x_37]) rfl ?_
    exact MadeRB.no H_41.out
  | true =>
    rw [hb] at C0
    have hrun : ∃ q : Nat, N = (q : Int) := ⟨N.toNat, by
      unfold runB at hb
      simp only [Bool.and_eq_true] at hb
      have := graphB_iff hb.1
      omega⟩
    obtain ⟨N, rfl⟩ := hrun
    have HR := Lib.hid (runB_iff.1 hb)
    have hnn := HR.out.nn
    simp only at hnn
    subst hnn
    rw [iterB_over hb]
    simp only
    clear hb
    cases hdn : dn with
    | true =>
      subst hdn
      simp only [Bool.true_or, Bool.not_true, Bool.false_eq_true, if_false]
      clear CC CS
      have H_1 := Lib.hid (g_chain (g_chain (g_chain (Below.refl w.heap.size w) (below_a1 w (.cells #[.int .i64 (N : Int), .slice AG l cG] 25))) (below_a1 (w.alloc (.cells #[.int .i64 (N : Int), .slice AG l cG] 25)) (.cells #[.int .i64 p, .int .i64 s, .int .i64 it, .bool true, .slice A n c, .slice B m d, .int .i64 (N : Int), .slice C j k] 32))) (below_a1 ((w.alloc (.cells #[.int .i64 (N : Int), .slice AG l cG] 25)).alloc (.cells #[.int .i64 p, .int .i64 s, .int .i64 it, .bool true, .slice A n c, .slice B m d, .int .i64 (N : Int), .slice C j k] 32)) (.cells #[.int .i64 0, .int .i64 0, .int .i64 0, .bool false, .slice none 0 0, .slice none 0 0, .int .i64 0, .slice none 0 0] 32)))
      have BG_2 : Hid (Blk (((w.alloc (.cells #[.int .i64 (N : Int), .slice AG l cG] 25)).alloc (.cells #[.int .i64 p, .int .i64 s, .int .i64 it, .bool true, .slice A n c, .slice B m d, .int .i64 (N : Int), .slice C j k] 32)).alloc (.cells #[.int .i64 0, .int .i64 0, .int .i64 0, .bool false, .slice none 0 0, .slice none 0 0, .int .i64 0, .slice none 0 0] 32)) (w.heap.size) #[.int .i64 (N : Int), .slice AG l cG] 25) := Lib.hid (by have h := ((Blk.new w #[.int .i64 (N : Int), .slice AG l cG] 25).alloc (.cells #[.int .i64 p, .int .i64 s, .int .i64 it, .bool true, .slice A n c, .slice B m d, .int .i64 (N : Int), .slice C j k] 32)).alloc (.cells #[.int .i64 0, .int .i64 0, .int .i64 0, .bool false, .slice none 0 0, .slice none 0 0, .int .i64 0, .slice none 0 0] 32); simpa [Nat.add_assoc] using h)
      have BR_3 : Hid (Blk (((w.alloc (.cells #[.int .i64 (N : Int), .slice AG l cG] 25)).alloc (.cells #[.int .i64 p, .int .i64 s, .int .i64 it, .bool true, .slice A n c, .slice B m d, .int .i64 (N : Int), .slice C j k] 32)).alloc (.cells #[.int .i64 0, .int .i64 0, .int .i64 0, .bool false, .slice none 0 0, .slice none 0 0, .int .i64 0, .slice none 0 0] 32)) (w.heap.size + 1) #[.int .i64 p, .int .i64 s, .int .i64 it, .bool true, .slice A n c, .slice B m d, .int .i64 (N : Int), .slice C j k] 32) := Lib.hid (by have h := (Blk.new (w.alloc (.cells #[.int .i64 (N : Int), .slice AG l cG] 25)) #[.int .i64 p, .int .i64 s, .int .i64 it, .bool true, .slice A n c, .slice B m d, .int .i64 (N : Int), .slice C j k] 32).alloc (.cells #[.int .i64 0, .int .i64 0, .int .i64 0, .bool false, .slice none 0 0, .slice none 0 0, .int .i64 0, .slice none 0 0] 32); simpa [Nat.add_assoc] using h)
      have BZ_4 : Hid (Blk (((w.alloc (.cells #[.int .i64 (N : Int), .slice AG l cG] 25)).alloc (.cells #[.int .i64 p, .int .i64 s, .int .i64 it, .bool true, .slice A n c, .slice B m d, .int .i64 (N : Int), .slice C j k] 32)).alloc (.cells #[.int .i64 0, .int .i64 0, .int .i64 0, .bool false, .slice none 0 0, .slice none 0 0, .int .i64 0, .slice none 0 0] 32)) (w.heap.size + 2) #[.int .i64 0, .int .i64 0, .int .i64 0, .bool false, .slice none 0 0, .slice none 0 0, .int .i64 0, .slice none 0 0] 32) := Lib.hid (by have h := Blk.new ((w.alloc (.cells #[.int .i64 (N : Int), .slice AG l cG] 25)).alloc (.cells #[.int .i64 p, .int .i64 s, .int .i64 it, .bool true, .slice A n c, .slice B m d, .int .i64 (N : Int), .slice C j k] 32)) #[.int .i64 0, .int .i64 0, .int .i64 0, .bool false, .slice none 0 0, .slice none 0 0, .int .i64 0, .slice none 0 0] 32; simpa [Nat.add_assoc] using h)
      have sz0 : Hid (w.heap.size + 3 ≤ (((w.alloc (.cells #[.int .i64 (N : Int), .slice AG l cG] 25)).alloc (.cells #[.int .i64 p, .int .i64 s, .int .i64 it, .bool true, .slice A n c, .slice B m d, .int .i64 (N : Int), .slice C j k] 32)).alloc (.cells #[.int .i64 0, .int .i64 0, .int .i64 0, .bool false, .slice none 0 0, .slice none 0 0, .int .i64 0, .slice none 0 0] 32)).heap.size) := Lib.hid (by simp)
      go_enter Tryz.func41, Tryz.ntmps41
      have x_5 := BG_2.out.cell (i := 0) rfl
      have x_6 := BG_2.out.cell (i := 1) rfl
      have x_7 := BR_3.out.cell (i := 0) rfl
      have x_8 := BR_3.out.cell (i := 1) rfl
      have x_9 := BR_3.out.cell (i := 2) rfl
      have x_10 := BR_3.out.cell (i := 3) rfl
      have x_11 := BR_3.out.cell (i := 4) rfl
      have x_12 := BR_3.out.cell (i := 5) rfl
      have x_13 := BR_3.out.cell (i := 6) rfl
      have x_14 := BR_3.out.cell (i := 7) rfl
      go_wp2_with fail
      refine (C0.out _ H_1.out).mono ?_
      rintro e w1 ⟨rfl, hb⟩
      clear x_5
      clear x_6
      clear x_7
      clear x_8
      clear x_9
      clear x_10
      clear x_11
      clear x_12
      clear x_13
      clear x_14
      have H_15 := Lib.hid (g_chain H_1.out hb)
      clear H_1
      have BG_16 := Lib.hid (BG_2.out.below hb)
      clear BG_2
      have BR_17 := Lib.hid (BR_3.out.below hb)
      clear BR_3
      have BZ_18 := Lib.hid (BZ_4.out.below hb)
      clear BZ_4
      have sz_19 := Lib.hid (Below.size hb)
      clear hb
      have x_20 := BR_17.out.cell (i := 0) rfl
      have x_21 := BR_17.out.cell (i := 1) rfl
      have x_22 := BR_17.out.cell (i := 2) rfl
      have x_23 := BR_17.out.cell (i := 3) rfl
      have x_24 := BR_17.out.cell (i := 4) rfl
      have x_25 := BR_17.out.cell (i := 5) rfl
      have x_26 := BR_17.out.cell (i := 6) rfl
      have x_27 := BR_17.out.cell (i := 7) rfl
      have fz_28 := fun i => BR_17.out.frozen i
      have lt_29 := BR_17.out.lt
      have x_30 := BZ_18.out.cell (i := 0) rfl
      have x_31 := BZ_18.out.cell (i := 1) rfl
      have x_32 := BZ_18.out.cell (i := 2) rfl
      have x_33 := BZ_18.out.cell (i := 3) rfl
      have x_34 := BZ_18.out.cell (i := 4) rfl
      have x_35 := BZ_18.out.cell (i := 5) rfl
      have x_36 := BZ_18.out.cell (i := 6) rfl
      have x_37 := BZ_18.out.cell (i := 7) rfl
      have fz_38 := fun i => BZ_18.out.frozen i
      have lt_39 := BZ_18.out.lt
      go_wp2
      have hg_40 := (((((((grown_cell w1 (w.heap.size + 2) 0 (.int .i64 0)).trans (grown_cell (w1.setCell ⟨w.heap.size + 2, 0, none⟩ (.int .i64 0)) (w.heap.size + 2) 1 (.int .i64 0))).trans (grown_cell ((w1.setCell ⟨w.heap.size + 2, 0, none⟩ (.int .i64 0)).setCell ⟨w.heap.size + 2, 1, none⟩ (.int .i64 0)) (w.heap.size + 2) 2 (.int .i64 0))).trans (grown_cell (((w1.setCell ⟨w.heap.size + 2, 0, none⟩ (.int .i64 0)).setCell ⟨w.heap.size + 2, 1, none⟩ (.int .i64 0)).setCell ⟨w.heap.size + 2, 2, none⟩ (.int .i64 0)) (w.heap.size + 2) 3 (.bool false))).trans (grown_cell ((((w1.setCell ⟨w.heap.size + 2, 0, none⟩ (.int .i64 0)).setCell ⟨w.heap.size + 2, 1, none⟩ (.int .i64 0)).setCell ⟨w.heap.size + 2, 2, none⟩ (.int .i64 0)).setCell ⟨w.heap.size + 2, 3, none⟩ (.bool false)) (w.heap.size + 2) 4 (.slice none 0 0))).trans (grown_cell (((((w1.setCell ⟨w.heap.size + 2, 0, none⟩ (.int .i64 0)).setCell ⟨w.heap.size + 2, 1, none⟩ (.int .i64 0)).setCell ⟨w.heap.size + 2, 2, none⟩ (.int .i64 0)).setCell ⟨w.heap.size + 2, 3, none⟩ (.bool false)).setCell ⟨w.heap.size + 2, 4, none⟩ (.slice none 0 0)) (w.heap.size + 2) 5 (.slice none 0 0))).trans (grown_cell ((((((w1.setCell ⟨w.heap.size + 2, 0, none⟩ (.int .i64 0)).setCell ⟨w.heap.size + 2, 1, none⟩ (.int .i64 0)).setCell ⟨w.heap.size + 2, 2, none⟩ (.int .i64 0)).setCell ⟨w.heap.size + 2, 3, none⟩ (.bool false)).setCell ⟨w.heap.size + 2, 4, none⟩ (.slice none 0 0)).setCell ⟨w.heap.size + 2, 5, none⟩ (.slice none 0 0)) (w.heap.size + 2) 6 (.int .i64 0))).trans (grown_cell (((((((w1.setCell ⟨w.heap.size + 2, 0, none⟩ (.int .i64 0)).setCell ⟨w.heap.size + 2, 1, none⟩ (.int .i64 0)).setCell ⟨w.heap.size + 2, 2, none⟩ (.int .i64 0)).setCell ⟨w.heap.size + 2, 3, none⟩ (.bool false)).setCell ⟨w.heap.size + 2, 4, none⟩ (.slice none 0 0)).setCell ⟨w.heap.size + 2, 5, none⟩ (.slice none 0 0)).setCell ⟨w.heap.size + 2, 6, none⟩ (.int .i64 0)) (w.heap.size + 2) 7 (.slice none 0 0))
      have H_41 := Lib.hid (H_15.out.grown hg_40 H_15.out.size (fun j hj => by injection hj with hj; have := sz0.out; have := sz_19.out; omega))
      clear H_15
      have BG_42 := Lib.hid (BG_16.out.grown hg_40 (by intro e; injection e with e; have := sz0.out; have := sz_19.out; omega))
      clear BG_16
      have BR_43 := Lib.hid (BR_17.out.grown hg_40 (by intro e; injection e with e; have := sz0.out; have := sz_19.out; omega))
      clear BR_17
      have BZ_44 : Hid (Blk ((((((((w1.setCell ⟨w.heap.size + 2, 0, none⟩ (.int .i64 0)).setCell ⟨w.heap.size + 2, 1, none⟩ (.int .i64 0)).setCell ⟨w.heap.size + 2, 2, none⟩ (.int .i64 0)).setCell ⟨w.heap.size + 2, 3, none⟩ (.bool false)).setCell ⟨w.heap.size + 2, 4, none⟩ (.slice none 0 0)).setCell ⟨w.heap.size + 2, 5, none⟩ (.slice none 0 0)).setCell ⟨w.heap.size + 2, 6, none⟩ (.int .i64 0)).setCell ⟨w.heap.size + 2, 7, none⟩ (.slice none 0 0)) (w.heap.size + 2) #[.int .i64 0, .int .i64 0, .int .i64 0, .bool false, .slice none 0 0, .slice none 0 0, .int .i64 0, .slice none 0 0] 32) := Lib.hid (Blk.set (Blk.set (Blk.set (Blk.set (Blk.set (Blk.set (Blk.set (Blk.set (BZ_18.out) 0 (.int .i64 0)) 1 (.int .i64 0)) 2 (.int .i64 0)) 3 (.bool false)) 4 (.slice none 0 0)) 5 (.slice none 0 0)) 6 (.int .i64 0)) 7 (.slice none 0 0))
      clear BZ_18
      have sz_45 := Lib.hid (World.grownBy.size hg_40)
      clear hg_40
      refine bodyPost_ret (v := .tuple #[.agg #[.int .i64 0, .int .i64 0, .int .i64 0, .bool false, .slice none 0 0, .slice none 0 0, .int .i64 0, .slice none 0 0], .bool false]) (by simp [results, Tryz.results41, go_sem, x_30, x_31, x_32, x_33, x_34, x_35, x_36, x_37]) rfl ?_
      exact MadeRB.no H_41.out
    | false =>
      subst hdn
      by_cases hit : it = 1000
      · subst hit
        rw [show (!(false || decide ((1000 : Int) = 1000))) = false by decide]
        simp only [Bool.false_eq_true, if_false]
        clear CC CS
        have H_1 := Lib.hid (g_chain (g_chain (g_chain (Below.refl w.heap.size w) (below_a1 w (.cells #[.int .i64 (N : Int), .slice AG l cG] 25))) (below_a1 (w.alloc (.cells #[.int .i64 (N : Int), .slice AG l cG] 25)) (.cells #[.int .i64 p, .int .i64 s, .int .i64 1000, .bool false, .slice A n c, .slice B m d, .int .i64 (N : Int), .slice C j k] 32))) (below_a1 ((w.alloc (.cells #[.int .i64 (N : Int), .slice AG l cG] 25)).alloc (.cells #[.int .i64 p, .int .i64 s, .int .i64 1000, .bool false, .slice A n c, .slice B m d, .int .i64 (N : Int), .slice C j k] 32)) (.cells #[.int .i64 0, .int .i64 0, .int .i64 0, .bool false, .slice none 0 0, .slice none 0 0, .int .i64 0, .slice none 0 0] 32)))
        have BG_2 : Hid (Blk (((w.alloc (.cells #[.int .i64 (N : Int), .slice AG l cG] 25)).alloc (.cells #[.int .i64 p, .int .i64 s, .int .i64 1000, .bool false, .slice A n c, .slice B m d, .int .i64 (N : Int), .slice C j k] 32)).alloc (.cells #[.int .i64 0, .int .i64 0, .int .i64 0, .bool false, .slice none 0 0, .slice none 0 0, .int .i64 0, .slice none 0 0] 32)) (w.heap.size) #[.int .i64 (N : Int), .slice AG l cG] 25) := Lib.hid (by have h := ((Blk.new w #[.int .i64 (N : Int), .slice AG l cG] 25).alloc (.cells #[.int .i64 p, .int .i64 s, .int .i64 1000, .bool false, .slice A n c, .slice B m d, .int .i64 (N : Int), .slice C j k] 32)).alloc (.cells #[.int .i64 0, .int .i64 0, .int .i64 0, .bool false, .slice none 0 0, .slice none 0 0, .int .i64 0, .slice none 0 0] 32); simpa [Nat.add_assoc] using h)
        have BR_3 : Hid (Blk (((w.alloc (.cells #[.int .i64 (N : Int), .slice AG l cG] 25)).alloc (.cells #[.int .i64 p, .int .i64 s, .int .i64 1000, .bool false, .slice A n c, .slice B m d, .int .i64 (N : Int), .slice C j k] 32)).alloc (.cells #[.int .i64 0, .int .i64 0, .int .i64 0, .bool false, .slice none 0 0, .slice none 0 0, .int .i64 0, .slice none 0 0] 32)) (w.heap.size + 1) #[.int .i64 p, .int .i64 s, .int .i64 1000, .bool false, .slice A n c, .slice B m d, .int .i64 (N : Int), .slice C j k] 32) := Lib.hid (by have h := (Blk.new (w.alloc (.cells #[.int .i64 (N : Int), .slice AG l cG] 25)) #[.int .i64 p, .int .i64 s, .int .i64 1000, .bool false, .slice A n c, .slice B m d, .int .i64 (N : Int), .slice C j k] 32).alloc (.cells #[.int .i64 0, .int .i64 0, .int .i64 0, .bool false, .slice none 0 0, .slice none 0 0, .int .i64 0, .slice none 0 0] 32); simpa [Nat.add_assoc] using h)
        have BZ_4 : Hid (Blk (((w.alloc (.cells #[.int .i64 (N : Int), .slice AG l cG] 25)).alloc (.cells #[.int .i64 p, .int .i64 s, .int .i64 1000, .bool false, .slice A n c, .slice B m d, .int .i64 (N : Int), .slice C j k] 32)).alloc (.cells #[.int .i64 0, .int .i64 0, .int .i64 0, .bool false, .slice none 0 0, .slice none 0 0, .int .i64 0, .slice none 0 0] 32)) (w.heap.size + 2) #[.int .i64 0, .int .i64 0, .int .i64 0, .bool false, .slice none 0 0, .slice none 0 0, .int .i64 0, .slice none 0 0] 32) := Lib.hid (by have h := Blk.new ((w.alloc (.cells #[.int .i64 (N : Int), .slice AG l cG] 25)).alloc (.cells #[.int .i64 p, .int .i64 s, .int .i64 1000, .bool false, .slice A n c, .slice B m d, .int .i64 (N : Int), .slice C j k] 32)) #[.int .i64 0, .int .i64 0, .int .i64 0, .bool false, .slice none 0 0, .slice none 0 0, .int .i64 0, .slice none 0 0] 32; simpa [Nat.add_assoc] using h)
        have sz0 : Hid (w.heap.size + 3 ≤ (((w.alloc (.cells #[.int .i64 (N : Int), .slice AG l cG] 25)).alloc (.cells #[.int .i64 p, .int .i64 s, .int .i64 1000, .bool false, .slice A n c, .slice B m d, .int .i64 (N : Int), .slice C j k] 32)).alloc (.cells #[.int .i64 0, .int .i64 0, .int .i64 0, .bool false, .slice none 0 0, .slice none 0 0, .int .i64 0, .slice none 0 0] 32)).heap.size) := Lib.hid (by simp)
        go_enter Tryz.func41, Tryz.ntmps41
        have x_5 := BG_2.out.cell (i := 0) rfl
        have x_6 := BG_2.out.cell (i := 1) rfl
        have x_7 := BR_3.out.cell (i := 0) rfl
        have x_8 := BR_3.out.cell (i := 1) rfl
        have x_9 := BR_3.out.cell (i := 2) rfl
        have x_10 := BR_3.out.cell (i := 3) rfl
        have x_11 := BR_3.out.cell (i := 4) rfl
        have x_12 := BR_3.out.cell (i := 5) rfl
        have x_13 := BR_3.out.cell (i := 6) rfl
        have x_14 := BR_3.out.cell (i := 7) rfl
        go_wp2_with fail
        refine (C0.out _ H_1.out).mono ?_
        rintro e w1 ⟨rfl, hb⟩
        clear x_5
        clear x_6
        clear x_7
        clear x_8
        clear x_9
        clear x_10
        clear x_11
        clear x_12
        clear x_13
        clear x_14
        have H_15 := Lib.hid (g_chain H_1.out hb)
        clear H_1
        have BG_16 := Lib.hid (BG_2.out.below hb)
        clear BG_2
        have BR_17 := Lib.hid (BR_3.out.below hb)
        clear BR_3
        have BZ_18 := Lib.hid (BZ_4.out.below hb)
        clear BZ_4
        have sz_19 := Lib.hid (Below.size hb)
        clear hb
        have x_20 := BR_17.out.cell (i := 0) rfl
        have x_21 := BR_17.out.cell (i := 1) rfl
        have x_22 := BR_17.out.cell (i := 2) rfl
        have x_23 := BR_17.out.cell (i := 3) rfl
        have x_24 := BR_17.out.cell (i := 4) rfl
        have x_25 := BR_17.out.cell (i := 5) rfl
        have x_26 := BR_17.out.cell (i := 6) rfl
        have x_27 := BR_17.out.cell (i := 7) rfl
        have fz_28 := fun i => BR_17.out.frozen i
        have lt_29 := BR_17.out.lt
        have x_30 := BZ_18.out.cell (i := 0) rfl
        have x_31 := BZ_18.out.cell (i := 1) rfl
        have x_32 := BZ_18.out.cell (i := 2) rfl
        have x_33 := BZ_18.out.cell (i := 3) rfl
        have x_34 := BZ_18.out.cell (i := 4) rfl
        have x_35 := BZ_18.out.cell (i := 5) rfl
        have x_36 := BZ_18.out.cell (i := 6) rfl
        have x_37 := BZ_18.out.cell (i := 7) rfl
        have fz_38 := fun i => BZ_18.out.frozen i
        have lt_39 := BZ_18.out.lt
        go_wp2
        have hg_40 := (((((((grown_cell w1 (w.heap.size + 2) 0 (.int .i64 0)).trans (grown_cell (w1.setCell ⟨w.heap.size + 2, 0, none⟩ (.int .i64 0)) (w.heap.size + 2) 1 (.int .i64 0))).trans (grown_cell ((w1.setCell ⟨w.heap.size + 2, 0, none⟩ (.int .i64 0)).setCell ⟨w.heap.size + 2, 1, none⟩ (.int .i64 0)) (w.heap.size + 2) 2 (.int .i64 0))).trans (grown_cell (((w1.setCell ⟨w.heap.size + 2, 0, none⟩ (.int .i64 0)).setCell ⟨w.heap.size + 2, 1, none⟩ (.int .i64 0)).setCell ⟨w.heap.size + 2, 2, none⟩ (.int .i64 0)) (w.heap.size + 2) 3 (.bool false))).trans (grown_cell ((((w1.setCell ⟨w.heap.size + 2, 0, none⟩ (.int .i64 0)).setCell ⟨w.heap.size + 2, 1, none⟩ (.int .i64 0)).setCell ⟨w.heap.size + 2, 2, none⟩ (.int .i64 0)).setCell ⟨w.heap.size + 2, 3, none⟩ (.bool false)) (w.heap.size + 2) 4 (.slice none 0 0))).trans (grown_cell (((((w1.setCell ⟨w.heap.size + 2, 0, none⟩ (.int .i64 0)).setCell ⟨w.heap.size + 2, 1, none⟩ (.int .i64 0)).setCell ⟨w.heap.size + 2, 2, none⟩ (.int .i64 0)).setCell ⟨w.heap.size + 2, 3, none⟩ (.bool false)).setCell ⟨w.heap.size + 2, 4, none⟩ (.slice none 0 0)) (w.heap.size + 2) 5 (.slice none 0 0))).trans (grown_cell ((((((w1.setCell ⟨w.heap.size + 2, 0, none⟩ (.int .i64 0)).setCell ⟨w.heap.size + 2, 1, none⟩ (.int .i64 0)).setCell ⟨w.heap.size + 2, 2, none⟩ (.int .i64 0)).setCell ⟨w.heap.size + 2, 3, none⟩ (.bool false)).setCell ⟨w.heap.size + 2, 4, none⟩ (.slice none 0 0)).setCell ⟨w.heap.size + 2, 5, none⟩ (.slice none 0 0)) (w.heap.size + 2) 6 (.int .i64 0))).trans (grown_cell (((((((w1.setCell ⟨w.heap.size + 2, 0, none⟩ (.int .i64 0)).setCell ⟨w.heap.size + 2, 1, none⟩ (.int .i64 0)).setCell ⟨w.heap.size + 2, 2, none⟩ (.int .i64 0)).setCell ⟨w.heap.size + 2, 3, none⟩ (.bool false)).setCell ⟨w.heap.size + 2, 4, none⟩ (.slice none 0 0)).setCell ⟨w.heap.size + 2, 5, none⟩ (.slice none 0 0)).setCell ⟨w.heap.size + 2, 6, none⟩ (.int .i64 0)) (w.heap.size + 2) 7 (.slice none 0 0))
        have H_41 := Lib.hid (H_15.out.grown hg_40 H_15.out.size (fun j hj => by injection hj with hj; have := sz0.out; have := sz_19.out; omega))
        clear H_15
        have BG_42 := Lib.hid (BG_16.out.grown hg_40 (by intro e; injection e with e; have := sz0.out; have := sz_19.out; omega))
        clear BG_16
        have BR_43 := Lib.hid (BR_17.out.grown hg_40 (by intro e; injection e with e; have := sz0.out; have := sz_19.out; omega))
        clear BR_17
        have BZ_44 : Hid (Blk ((((((((w1.setCell ⟨w.heap.size + 2, 0, none⟩ (.int .i64 0)).setCell ⟨w.heap.size + 2, 1, none⟩ (.int .i64 0)).setCell ⟨w.heap.size + 2, 2, none⟩ (.int .i64 0)).setCell ⟨w.heap.size + 2, 3, none⟩ (.bool false)).setCell ⟨w.heap.size + 2, 4, none⟩ (.slice none 0 0)).setCell ⟨w.heap.size + 2, 5, none⟩ (.slice none 0 0)).setCell ⟨w.heap.size + 2, 6, none⟩ (.int .i64 0)).setCell ⟨w.heap.size + 2, 7, none⟩ (.slice none 0 0)) (w.heap.size + 2) #[.int .i64 0, .int .i64 0, .int .i64 0, .bool false, .slice none 0 0, .slice none 0 0, .int .i64 0, .slice none 0 0] 32) := Lib.hid (Blk.set (Blk.set (Blk.set (Blk.set (Blk.set (Blk.set (Blk.set (Blk.set (BZ_18.out) 0 (.int .i64 0)) 1 (.int .i64 0)) 2 (.int .i64 0)) 3 (.bool false)) 4 (.slice none 0 0)) 5 (.slice none 0 0)) 6 (.int .i64 0)) 7 (.slice none 0 0))
        clear BZ_18
        have sz_45 := Lib.hid (World.grownBy.size hg_40)
        clear hg_40
        refine bodyPost_ret (v := .tuple #[.agg #[.int .i64 0, .int .i64 0, .int .i64 0, .bool false, .slice none 0 0, .slice none 0 0, .int .i64 0, .slice none 0 0], .bool false]) (by simp [results, Tryz.results41, go_sem, x_30, x_31, x_32, x_33, x_34, x_35, x_36, x_37]) rfl ?_
        exact MadeRB.no H_41.out
      · have hz : (false || decide (it = 1000)) = false := by simp [hit]
        have hitf : (it == 1000) = false := by simp [hit]
        simp only [hz, Bool.not_false, if_true]
        clear hz
        have hi0 := HR.out.i
        have hp := HR.out.prog
        simp only at hi0 hp
        have hN := HR.out.n150
        have HPG := Lib.hid (pass_good HR.out.g (start_good HR.out HSX.out))
        obtain ⟨f, hf⟩ : ∃ f : Nat → SD, f = pass p (N : Int) G (startS (N : Int) ⟨p, s, it, false, vs, ev, (N : Int), nx⟩) := ⟨_, rfl⟩
        have HF0 : Hid (f 0 = ⟨vs, ev, newX (N : Int) false, nx⟩) := Lib.hid (by rw [hf]; rfl)
        have HFS : Hid (∀ q, f (q + 1) = if bitN (f q).nw q then vstep p (N : Int) G (f q) q else f q) := Lib.hid (fun q => by rw [hf]; rfl)
        have HIR : Hid (iterR (N : Int) G ⟨p, s, it, false, vs, ev, (N : Int), nx⟩ = ⟨p, s, it + 1, decide ((memsB (N : Int) (f N).nx).length = 0), (f N).vs, (f N).ev, (N : Int), (f N).nx⟩) := Lib.hid (by rw [hf]; unfold iterR; simp only [Int.toNat_natCast])
        have HGD : Hid (∀ q, q ≤ N → Good p N G (f q)) := Lib.hid (fun q hq => by rw [hf]; exact HPG.out q hq)
        have HNN : Hid (newN (N : Int) = (N : Int)) := Lib.hid (by unfold newN newB; rw [if_pos (by simp; omega)])
        have CN := Lib.hid (fun W => specSetNew (N : Int) false W (WalkArith.wf_i64 (by omega)))
        unfold MadeSB at CN
        rw [HNN.out] at CN
        rw [HXL.out] at CS
        have HGR := Lib.hid HR.out.g
        have HCE : Hid (N * 0 + (memsB (N : Int) (f N).nx).length ≤ 150) := Lib.hid (by have := memsB_len (N : Int) (f N).nx; omega)
        clear hf HPG
        have H_1 := Lib.hid (g_chain (g_chain (g_chain (Below.refl w.heap.size w) (below_a1 w (.cells #[.int .i64 (N : Int), .slice AG l cG] 25))) (below_a1 (w.alloc (.cells #[.int .i64 (N : Int), .slice AG l cG] 25)) (.cells #[.int .i64 p, .int .i64 s, .int .i64 it, .bool false, .slice A n c, .slice B m d, .int .i64 (N : Int), .slice C j k] 32))) (below_a1 ((w.alloc (.cells #[.int .i64 (N : Int), .slice AG l cG] 25)).alloc (.cells #[.int .i64 p, .int .i64 s, .int .i64 it, .bool false, .slice A n c, .slice B m d, .int .i64 (N : Int), .slice C j k] 32)) (.cells #[.int .i64 0, .int .i64 0, .int .i64 0, .bool false, .slice none 0 0, .slice none 0 0, .int .i64 0, .slice none 0 0] 32)))
        have BG_2 : Hid (Blk (((w.alloc (.cells #[.int .i64 (N : Int), .slice AG l cG] 25)).alloc (.cells #[.int .i64 p, .int .i64 s, .int .i64 it, .bool false, .slice A n c, .slice B m d, .int .i64 (N : Int), .slice C j k] 32)).alloc (.cells #[.int .i64 0, .int .i64 0, .int .i64 0, .bool false, .slice none 0 0, .slice none 0 0, .int .i64 0, .slice none 0 0] 32)) (w.heap.size) #[.int .i64 (N : Int), .slice AG l cG] 25) := Lib.hid (by have h := ((Blk.new w #[.int .i64 (N : Int), .slice AG l cG] 25).alloc (.cells #[.int .i64 p, .int .i64 s, .int .i64 it, .bool false, .slice A n c, .slice B m d, .int .i64 (N : Int), .slice C j k] 32)).alloc (.cells #[.int .i64 0, .int .i64 0, .int .i64 0, .bool false, .slice none 0 0, .slice none 0 0, .int .i64 0, .slice none 0 0] 32); simpa [Nat.add_assoc] using h)
        have BR_3 : Hid (Blk (((w.alloc (.cells #[.int .i64 (N : Int), .slice AG l cG] 25)).alloc (.cells #[.int .i64 p, .int .i64 s, .int .i64 it, .bool false, .slice A n c, .slice B m d, .int .i64 (N : Int), .slice C j k] 32)).alloc (.cells #[.int .i64 0, .int .i64 0, .int .i64 0, .bool false, .slice none 0 0, .slice none 0 0, .int .i64 0, .slice none 0 0] 32)) (w.heap.size + 1) #[.int .i64 p, .int .i64 s, .int .i64 it, .bool false, .slice A n c, .slice B m d, .int .i64 (N : Int), .slice C j k] 32) := Lib.hid (by have h := (Blk.new (w.alloc (.cells #[.int .i64 (N : Int), .slice AG l cG] 25)) #[.int .i64 p, .int .i64 s, .int .i64 it, .bool false, .slice A n c, .slice B m d, .int .i64 (N : Int), .slice C j k] 32).alloc (.cells #[.int .i64 0, .int .i64 0, .int .i64 0, .bool false, .slice none 0 0, .slice none 0 0, .int .i64 0, .slice none 0 0] 32); simpa [Nat.add_assoc] using h)
        have BZ_4 : Hid (Blk (((w.alloc (.cells #[.int .i64 (N : Int), .slice AG l cG] 25)).alloc (.cells #[.int .i64 p, .int .i64 s, .int .i64 it, .bool false, .slice A n c, .slice B m d, .int .i64 (N : Int), .slice C j k] 32)).alloc (.cells #[.int .i64 0, .int .i64 0, .int .i64 0, .bool false, .slice none 0 0, .slice none 0 0, .int .i64 0, .slice none 0 0] 32)) (w.heap.size + 2) #[.int .i64 0, .int .i64 0, .int .i64 0, .bool false, .slice none 0 0, .slice none 0 0, .int .i64 0, .slice none 0 0] 32) := Lib.hid (by have h := Blk.new ((w.alloc (.cells #[.int .i64 (N : Int), .slice AG l cG] 25)).alloc (.cells #[.int .i64 p, .int .i64 s, .int .i64 it, .bool false, .slice A n c, .slice B m d, .int .i64 (N : Int), .slice C j k] 32)) #[.int .i64 0, .int .i64 0, .int .i64 0, .bool false, .slice none 0 0, .slice none 0 0, .int .i64 0, .slice none 0 0] 32; simpa [Nat.add_assoc] using h)
        have sz0 : Hid (w.heap.size + 3 ≤ (((w.alloc (.cells #[.int .i64 (N : Int), .slice AG l cG] 25)).alloc (.cells #[.int .i64 p, .int .i64 s, .int .i64 it, .bool false, .slice A n c, .slice B m d, .int .i64 (N : Int), .slice C j k] 32)).alloc (.cells #[.int .i64 0, .int .i64 0, .int .i64 0, .bool false, .slice none 0 0, .slice none 0 0, .int .i64 0, .slice none 0 0] 32)).heap.size) := Lib.hid (by simp)
        go_enter Tryz.func41, Tryz.ntmps41
        have x_5 := BG_2.out.cell (i := 0) rfl
        have x_6 := BG_2.out.cell (i := 1) rfl
        have x_7 := BR_3.out.cell (i := 0) rfl
        have x_8 := BR_3.out.cell (i := 1) rfl
        have x_9 := BR_3.out.cell (i := 2) rfl
        have x_10 := BR_3.out.cell (i := 3) rfl
        have x_11 := BR_3.out.cell (i := 4) rfl
        have x_12 := BR_3.out.cell (i := 5) rfl
        have x_13 := BR_3.out.cell (i := 6) rfl
        have x_14 := BR_3.out.cell (i := 7) rfl
        go_wp2_with fail
        refine (C0.out _ H_1.out).mono ?_
        rintro e w1 ⟨rfl, hb⟩
        clear x_5
        clear x_6
        clear x_7
        clear x_8
        clear x_9
        clear x_10
        clear x_11
        clear x_12
        clear x_13
        clear x_14
        have H_15 := Lib.hid (g_chain H_1.out hb)
        clear H_1
        have BG_16 := Lib.hid (BG_2.out.below hb)
        clear BG_2
        have BR_17 := Lib.hid (BR_3.out.below hb)
        clear BR_3
        have BZ_18 := Lib.hid (BZ_4.out.below hb)
        clear BZ_4
        have sz_19 := Lib.hid (Below.size hb)
        clear hb
        have x_20 := BR_17.out.cell (i := 0) rfl
        have x_21 := BR_17.out.cell (i := 1) rfl
        have x_22 := BR_17.out.cell (i := 2) rfl
        have x_23 := BR_17.out.cell (i := 3) rfl
        have x_24 := BR_17.out.cell (i := 4) rfl
        have x_25 := BR_17.out.cell (i := 5) rfl
        have x_26 := BR_17.out.cell (i := 6) rfl
        have x_27 := BR_17.out.cell (i := 7) rfl
        have fz_28 := fun i => BR_17.out.frozen i
        have lt_29 := BR_17.out.lt
        go_wp2_with fail
        refine (CC.out _ H_15.out).mono ?_
        rintro e w2 ⟨A1, c1, B1, d1, C1, k1, rfl, ho, hb⟩
        clear x_20
        clear x_21
        clear x_22
        clear x_23
        clear x_24
        clear x_25
        clear x_26
        clear x_27
        clear fz_28
        clear lt_29
        have H_30 := Lib.hid (g_chain H_15.out hb)
        clear H_15
        have BG_31 := Lib.hid (BG_16.out.below hb)
        clear BG_16
        have BR_32 := Lib.hid (BR_17.out.below hb)
        clear BR_17
        have BZ_33 := Lib.hid (BZ_18.out.below hb)
        clear BZ_18
        have sz_34 := Lib.hid (Below.size hb)
        have Ov_35 := Lib.hid (ho.v)
        have Oe_36 := Lib.hid (ho.e)
        have Ox_37 := Lib.hid (ho.x)
        have AP := Lib.hid ho.ap
        clear ho hb
        have hb_38 := below_a1 w2 (.cells #[.int .i64 p, .int .i64 s, .int .i64 it, .bool false, .slice A1 n c1, .slice B1 m d1, .int .i64 (N : Int), .slice C1 j k1] 32)
        have sz_39 : Hid (w2.heap.size = w2.heap.size) := Lib.hid (by simp)
        have sz_40 := Lib.hid BG_31.out.lt
        have sz_41 := Lib.hid BR_32.out.lt
        have sz_42 := Lib.hid BZ_33.out.lt
        have LT_43 := Lib.hid Ov_35.out.lt
        have LT_44 := Lib.hid Oe_36.out.lt
        have LT_45 := Lib.hid Ox_37.out.lt
        have H_46 := Lib.hid (g_chain H_30.out hb_38)
        clear H_30
        have BG_47 := Lib.hid (BG_31.out.below hb_38)
        clear BG_31
        have BR_48 := Lib.hid (BR_32.out.below hb_38)
        clear BR_32
        have BZ_49 := Lib.hid (BZ_33.out.below hb_38)
        clear BZ_33
        have Ov_50 := Lib.hid (own_below Ov_35.out hb_38)
        clear Ov_35
        have Oe_51 := Lib.hid (own_below Oe_36.out hb_38)
        clear Oe_36
        have Ox_52 := Lib.hid (own_below Ox_37.out hb_38)
        clear Ox_37
        have sz_53 := Lib.hid (Below.size hb_38)
        clear hb_38
        have BO_54 : Hid (Blk (w2.alloc (.cells #[.int .i64 p, .int .i64 s, .int .i64 it, .bool false, .slice A1 n c1, .slice B1 m d1, .int .i64 (N : Int), .slice C1 j k1] 32)) (w2.heap.size) #[.int .i64 p, .int .i64 s, .int .i64 it, .bool false, .slice A1 n c1, .slice B1 m d1, .int .i64 (N : Int), .slice C1 j k1] 32) := Lib.hid (by have h := Blk.new w2 #[.int .i64 p, .int .i64 s, .int .i64 it, .bool false, .slice A1 n c1, .slice B1 m d1, .int .i64 (N : Int), .slice C1 j k1] 32; simpa using h)
        have sz_55 : Hid (w2.heap.size + 1 ≤ (w2.alloc (.cells #[.int .i64 p, .int .i64 s, .int .i64 it, .bool false, .slice A1 n c1, .slice B1 m d1, .int .i64 (N : Int), .slice C1 j k1] 32)).heap.size) := Lib.hid (by simp)
        have x_56 := BR_48.out.cell (i := 0) rfl
        have x_57 := BR_48.out.cell (i := 1) rfl
        have x_58 := BR_48.out.cell (i := 2) rfl
        have x_59 := BR_48.out.cell (i := 3) rfl
        have x_60 := BR_48.out.cell (i := 4) rfl
        have x_61 := BR_48.out.cell (i := 5) rfl
        have x_62 := BR_48.out.cell (i := 6) rfl
        have x_63 := BR_48.out.cell (i := 7) rfl
        have fz_64 := fun i => BR_48.out.frozen i
        have lt_65 := BR_48.out.lt
        go_wp2_with fail
        refine (CS.out _ H_46.out).mono ?_
        rintro e w3 ⟨D1, e1, rfl, ho, hb⟩
        clear x_56
        clear x_57
        clear x_58
        clear x_59
        clear x_60
        clear x_61
        clear x_62
        clear x_63
        clear fz_64
        clear lt_65
        have H_66 := Lib.hid (g_chain H_46.out hb)
        clear H_46
        have BG_67 := Lib.hid (BG_47.out.below hb)
        clear BG_47
        have BR_68 := Lib.hid (BR_48.out.below hb)
        clear BR_48
        have BZ_69 := Lib.hid (BZ_49.out.below hb)
        clear BZ_49
        have Ov_70 := Lib.hid (own_below Ov_50.out hb)
        clear Ov_50
        have Oe_71 := Lib.hid (own_below Oe_51.out hb)
        clear Oe_51
        have Ox_72 := Lib.hid (own_below Ox_52.out hb)
        clear Ox_52
        have BO_73 := Lib.hid (BO_54.out.below hb)
        clear BO_54
        have sz_74 := Lib.hid (Below.size hb)
        have Od_75 := Lib.hid (ho)
        clear ho hb
        have hb_76 := below_a1 w3 (.cells #[.int .i64 (N : Int), .slice D1 j e1] 30)
        have sz_77 : Hid (w3.heap.size = w3.heap.size) := Lib.hid (by simp)
        have sz_78 := Lib.hid BG_67.out.lt
        have sz_79 := Lib.hid BR_68.out.lt
        have sz_80 := Lib.hid BZ_69.out.lt
        have LT_81 := Lib.hid Ov_70.out.lt
        have LT_82 := Lib.hid Oe_71.out.lt
        have LT_83 := Lib.hid Ox_72.out.lt
        have sz_84 := Lib.hid BO_73.out.lt
        have LT_85 := Lib.hid Od_75.out.lt
        have H_86 := Lib.hid (g_chain H_66.out hb_76)
        clear H_66
        have BG_87 := Lib.hid (BG_67.out.below hb_76)
        clear BG_67
        have BR_88 := Lib.hid (BR_68.out.below hb_76)
        clear BR_68
        have BZ_89 := Lib.hid (BZ_69.out.below hb_76)
        clear BZ_69
        have Ov_90 := Lib.hid (own_below Ov_70.out hb_76)
        clear Ov_70
        have Oe_91 := Lib.hid (own_below Oe_71.out hb_76)
        clear Oe_71
        have Ox_92 := Lib.hid (own_below Ox_72.out hb_76)
        clear Ox_72
        have BO_93 := Lib.hid (BO_73.out.below hb_76)
        clear BO_73
        have Od_94 := Lib.hid (own_below Od_75.out hb_76)
        clear Od_75
        have sz_95 := Lib.hid (Below.size hb_76)
        clear hb_76
        have BN_96 : Hid (Blk (w3.alloc (.cells #[.int .i64 (N : Int), .slice D1 j e1] 30)) (w3.heap.size) #[.int .i64 (N : Int), .slice D1 j e1] 30) := Lib.hid (by have h := Blk.new w3 #[.int .i64 (N : Int), .slice D1 j e1] 30; simpa using h)
        have sz_97 : Hid (w3.heap.size + 1 ≤ (w3.alloc (.cells #[.int .i64 (N : Int), .slice D1 j e1] 30)).heap.size) := Lib.hid (by simp)
        have x_98 := BG_87.out.cell (i := 0) rfl
        have x_99 := BG_87.out.cell (i := 1) rfl
        have fz_100 := fun i => BG_87.out.frozen i
        have lt_101 := BG_87.out.lt
        have HTD := Lib.hid Od_94.out.lt
        go_wp2_with fail
        refine (CN.out _).mono ?_
        rintro e w4 ⟨C9, k9, rfl, ho, hb⟩
        clear x_98
        clear x_99
        clear fz_100
        clear lt_101
        have H_102 := Lib.hid (g_chain H_86.out hb)
        clear H_86
        have BG_103 := Lib.hid (BG_87.out.below hb)
        clear BG_87
        have BR_104 := Lib.hid (BR_88.out.below hb)
        clear BR_88
        have BZ_105 := Lib.hid (BZ_89.out.below hb)
        clear BZ_89
        have Ov_106 := Lib.hid (own_below Ov_90.out hb)
        clear Ov_90
        have Oe_107 := Lib.hid (own_below Oe_91.out hb)
        clear Oe_91
        have Ox_108 := Lib.hid (own_below Ox_92.out hb)
        clear Ox_92
        have BO_109 := Lib.hid (BO_93.out.below hb)
        clear BO_93
        have Od_110 := Lib.hid (own_below Od_94.out hb)
        clear Od_94
        have BN_111 := Lib.hid (BN_96.out.below hb)
        clear BN_96
        have sz_112 := Lib.hid (Below.size hb)
        have HAP := Lib.hid (own_time HTD.out ho (Nat.le_refl _))
        have On_113 := Lib.hid (ho)
        clear ho hb HTD
        have x_114 := BO_109.out.cell (i := 0) rfl
        have x_115 := BO_109.out.cell (i := 1) rfl
        have x_116 := BO_109.out.cell (i := 2) rfl
        have x_117 := BO_109.out.cell (i := 3) rfl
        have x_118 := BO_109.out.cell (i := 4) rfl
        have x_119 := BO_109.out.cell (i := 5) rfl
        have x_120 := BO_109.out.cell (i := 6) rfl
        have x_121 := BO_109.out.cell (i := 7) rfl
        have fz_122 := fun i => BO_109.out.frozen i
        have lt_123 := BO_109.out.lt
        have hg_124 := (grown_cell w4 (w2.heap.size) 6 (.int .i64 (N : Int))).trans (grown_cell (w4.setCell ⟨w2.heap.size, 6, none⟩ (.int .i64 (N : Int))) (w2.heap.size) 7 (.slice C9 (newX (N : Int) false).length k9))
        have H_125 := Lib.hid (H_102.out.grown hg_124 H_102.out.size (fun j hj => by injection hj with hj; have := sz0.out; have := sz_19.out; have := sz_34.out; have := sz_39.out; have := sz_40.out; have := sz_41.out; have := sz_42.out; have := sz_53.out; have := sz_55.out; have := sz_74.out; have := sz_77.out; have := sz_78.out; have := sz_79.out; have := sz_80.out; have := sz_84.out; have := sz_95.out; have := sz_97.out; have := sz_112.out; omega))
        clear H_102
        have BG_126 := Lib.hid (BG_103.out.grown hg_124 (by intro e; injection e with e; have := sz0.out; have := sz_19.out; have := sz_34.out; have := sz_39.out; have := sz_40.out; have := sz_41.out; have := sz_42.out; have := sz_53.out; have := sz_55.out; have := sz_74.out; have := sz_77.out; have := sz_78.out; have := sz_79.out; have := sz_80.out; have := sz_84.out; have := sz_95.out; have := sz_97.out; have := sz_112.out; omega))
        clear BG_103
        have BR_127 := Lib.hid (BR_104.out.grown hg_124 (by intro e; injection e with e; have := sz0.out; have := sz_19.out; have := sz_34.out; have := sz_39.out; have := sz_40.out; have := sz_41.out; have := sz_42.out; have := sz_53.out; have := sz_55.out; have := sz_74.out; have := sz_77.out; have := sz_78.out; have := sz_79.out; have := sz_80.out; have := sz_84.out; have := sz_95.out; have := sz_97.out; have := sz_112.out; omega))
        clear BR_104
        have BZ_128 := Lib.hid (BZ_105.out.grown hg_124 (by intro e; injection e with e; have := sz0.out; have := sz_19.out; have := sz_34.out; have := sz_39.out; have := sz_40.out; have := sz_41.out; have := sz_42.out; have := sz_53.out; have := sz_55.out; have := sz_74.out; have := sz_77.out; have := sz_78.out; have := sz_79.out; have := sz_80.out; have := sz_84.out; have := sz_95.out; have := sz_97.out; have := sz_112.out; omega))
        clear BZ_105
        have Ov_129 := Lib.hid (own_kept Ov_106.out hg_124 (own_kind Ov_106.out BO_109.out (by decide)))
        clear Ov_106
        have Oe_130 := Lib.hid (own_kept Oe_107.out hg_124 (own_kind Oe_107.out BO_109.out (by decide)))
        clear Oe_107
        have Ox_131 := Lib.hid (own_kept Ox_108.out hg_124 (own_kind Ox_108.out BO_109.out (by decide)))
        clear Ox_108
        have Od_132 := Lib.hid (own_kept Od_110.out hg_124 (own_kind Od_110.out BO_109.out (by decide)))
        clear Od_110
        have BN_133 := Lib.hid (BN_111.out.grown hg_124 (by intro e; injection e with e; have := sz0.out; have := sz_19.out; have := sz_34.out; have := sz_39.out; have := sz_40.out; have := sz_41.out; have := sz_42.out; have := sz_53.out; have := sz_55.out; have := sz_74.out; have := sz_77.out; have := sz_78.out; have := sz_79.out; have := sz_80.out; have := sz_84.out; have := sz_95.out; have := sz_97.out; have := sz_112.out; omega))
        clear BN_111
        have On_134 := Lib.hid (own_kept On_113.out hg_124 (own_kind On_113.out BO_109.out (by decide)))
        clear On_113
        have BO_135 : Hid (Blk ((w4.setCell ⟨w2.heap.size, 6, none⟩ (.int .i64 (N : Int))).setCell ⟨w2.heap.size, 7, none⟩ (.slice C9 (newX (N : Int) false).length k9)) (w2.heap.size) #[.int .i64 p, .int .i64 s, .int .i64 it, .bool false, .slice A1 n c1, .slice B1 m d1, .int .i64 (N : Int), .slice C9 (newX (N : Int) false).length k9] 32) := Lib.hid (Blk.set (Blk.set (BO_109.out) 6 (.int .i64 (N : Int))) 7 (.slice C9 (newX (N : Int) false).length k9))
        clear BO_109
        have sz_136 := Lib.hid (World.grownBy.size hg_124)
        clear hg_124
        have SU : Hid (USt w ((w4.setCell ⟨w2.heap.size, 6, none⟩ (.int .i64 (N : Int))).setCell ⟨w2.heap.size, 7, none⟩ (.slice C9 (newX (N : Int) false).length k9)) w2.heap.size p s it false A1 n c1 B1 m d1 (N : Int) C9 (newX (N : Int) false).length k9 D1 j e1 vs ev (newX (N : Int) false) nx) := Lib.hid ⟨⟨BO_135.out, own_monoG Ov_129.out (by have := sz0.out; have := sz_19.out; have := sz_34.out; have := sz_39.out; have := sz_40.out; have := sz_41.out; have := sz_42.out; have := sz_53.out; have := sz_55.out; have := sz_74.out; have := sz_77.out; have := sz_78.out; have := sz_79.out; have := sz_80.out; have := sz_84.out; have := sz_95.out; have := sz_97.out; have := sz_112.out; have := sz_136.out; omega), own_monoG Oe_130.out (by have := sz0.out; have := sz_19.out; have := sz_34.out; have := sz_39.out; have := sz_40.out; have := sz_41.out; have := sz_42.out; have := sz_53.out; have := sz_55.out; have := sz_74.out; have := sz_77.out; have := sz_78.out; have := sz_79.out; have := sz_80.out; have := sz_84.out; have := sz_95.out; have := sz_97.out; have := sz_112.out; have := sz_136.out; omega), own_monoG On_134.out (by have := sz0.out; have := sz_19.out; have := sz_34.out; have := sz_39.out; have := sz_40.out; have := sz_41.out; have := sz_42.out; have := sz_53.out; have := sz_55.out; have := sz_74.out; have := sz_77.out; have := sz_78.out; have := sz_79.out; have := sz_80.out; have := sz_84.out; have := sz_95.out; have := sz_97.out; have := sz_112.out; have := sz_136.out; omega), AP.out, (by have := sz0.out; have := sz_19.out; have := sz_34.out; have := sz_39.out; have := sz_40.out; have := sz_41.out; have := sz_42.out; have := sz_53.out; have := sz_55.out; have := sz_74.out; have := sz_77.out; have := sz_78.out; have := sz_79.out; have := sz_80.out; have := sz_84.out; have := sz_95.out; have := sz_97.out; have := sz_112.out; have := sz_136.out; omega)⟩, own_monoG Od_132.out (by have := sz0.out; have := sz_19.out; have := sz_34.out; have := sz_39.out; have := sz_40.out; have := sz_41.out; have := sz_42.out; have := sz_53.out; have := sz_55.out; have := sz_74.out; have := sz_77.out; have := sz_78.out; have := sz_79.out; have := sz_80.out; have := sz_84.out; have := sz_95.out; have := sz_97.out; have := sz_112.out; have := sz_136.out; omega), ap_other HAP.out, H_125.out⟩
        have LB : Hid (w.heap.size + 3 ≤ w2.heap.size ∧ w2.heap.size < w3.heap.size) := Lib.hid (by have := sz0.out; have := sz_19.out; have := sz_34.out; have := sz_39.out; have := sz_40.out; have := sz_41.out; have := sz_42.out; have := sz_53.out; have := sz_55.out; have := sz_74.out; have := sz_77.out; have := sz_78.out; have := sz_79.out; have := sz_80.out; have := sz_84.out; have := sz_95.out; have := sz_97.out; have := sz_112.out; have := sz_136.out; omega)
        have BNs := Lib.hid BN_133.out
        have BGs := Lib.hid BG_126.out
        have BZs := Lib.hid BZ_128.out
        clear H_125 BG_126 BR_127 BZ_128 Ov_129 Oe_130 Ox_131 BO_135 Od_132 BN_133 On_134
        clear sz0 sz_19 sz_34 sz_39 sz_40 sz_41 sz_42 sz_53 sz_55 sz_74 sz_77 sz_78 sz_79 sz_80 sz_84 sz_95 sz_97 sz_112 sz_136
        clear HAP AP CN CC CS C0
        have g0 := BGs.out.cell (i := 0) rfl
        have gl := BGs.out.lt
        go_wp2
        go_loopw [8] (fun i wr => ∃ (q : Nat) (C2 : Option Addr) (j2 k2 : Nat) (D2 : Option Addr) (q2 e2 : Nat), q ≤ N ∧ i = .int .i64 (q : Int) ∧ Hid (USt w wr w2.heap.size p s it false A1 n c1 B1 m d1 (N : Int) C2 j2 k2 D2 q2 e2 (f q).vs (f q).ev (f q).nx (f q).nw) ∧ Hid (Blk wr w3.heap.size #[.int .i64 (N : Int), .slice D2 q2 e2] 30) ∧ Hid (Blk wr w.heap.size #[.int .i64 (N : Int), .slice AG l cG] 25) ∧ Hid (Blk wr (w.heap.size + 2) #[.int .i64 0, .int .i64 0, .int .i64 0, .bool false, .slice none 0 0, .slice none 0 0, .int .i64 0, .slice none 0 0] 32)) (fun i _ => N - (intOf i).toNat)
        case atStart => exact ⟨0, C9, _, k9, D1, j, e1, Nat.zero_le _, rfl, by rw [HF0.out]; exact SU, BNs, BGs, BZs⟩
        case round =>
          clear SU BNs BGs BZs HF0 g0 gl x_114 x_115 x_116 x_117 x_118 x_119 x_120 x_121 fz_122 lt_123
          obtain ⟨q, C2, j2, k2, D2, q2, e2, hq, rfl, hst, hbn, hbg, hbz⟩ := hrel
          have HGq := Lib.hid (HGD.out q hq)
          have hlb := LB.out
          by_cases hlt : q < N
          · have HFq := Lib.hid (HFS.out q)
            obtain ⟨T, HT⟩ : ∃ T, Hid (f q = T) := ⟨_, Lib.hid rfl⟩
            obtain ⟨cvs, cev, cnx, cnw⟩ := T
            rw [HT.out] at hst HGq HFq
            simp only at hst HFq
            have hcj : cnw.length = q2 := by have h9 := hst.out.d.1; rw [vb_length] at h9; omega
            have hsb := (setB_dim HGq.out.nw).2.2
            simp only [Int.toNat_natCast] at hsb
            have hb8 : bytesN N ≤ 2097152 := by unfold bytesN; omega
            have CM := Lib.hid (fun W (h : USt w W w2.heap.size p s it false A1 n c1 B1 m d1 (N : Int) C2 j2 k2 D2 q2 e2 cvs cev cnx cnw) => specHas (N : Int) (q : Int) D2 q2 e2 cnw W (Rd.of_own h.d HGq.out.nws) (by omega) (WalkArith.wf_i64 (by omega)))
            unfold GTell at CM
            rw [has_in HGq.out.nw hlt] at CM
            have CU := Lib.hid (fun W (h : USt w W w2.heap.size p s it false A1 n c1 B1 m d1 (N : Int) C2 j2 k2 D2 q2 e2 cvs cev cnx cnw) => specVertexRun w W p s it false A1 n c1 B1 m d1 C2 j2 k2 D2 q2 e2 cvs cev cnx cnw N AG l cG G q HGG.out HGR.out hp HGq.out hlt h.r.rows h.d h.ap h.h)
            unfold MadeVt at CU
            clear hcj hsb hb8
            have n0 := hbn.out.cell (i := 0) rfl
            have n1 := hbn.out.cell (i := 1) rfl
            have nl := hbn.out.lt
            have g0 := hbg.out.cell (i := 0) rfl
            have gl := hbg.out.lt
            cases hbit : bitN cnw q with
            | false =>
              rw [hbit] at CM
              have HFT : Hid (f (q + 1) = ⟨cvs, cev, cnx, cnw⟩) := Lib.hid (by rw [HFq.out, hbit]; rfl)
              clear hbit CU
              go_wp2_with fail
              refine (CM.out _ hst.out).mono ?_
              rintro r w5 ⟨rfl, hb⟩
              have S4 := Lib.hid (hst.out.below hb)
              have BG4 := Lib.hid (hbg.out.below hb)
              have BN4 := Lib.hid (hbn.out.below hb)
              have BZ4 := Lib.hid (hbz.out.below hb)
              clear hb hst hbg hbn hbz n0 n1 nl g0 gl
              go_wp2
              go_roundw
              case rel => exact ⟨q + 1, C2, j2, k2, D2, q2, e2, by omega, by go_num, by rw [HFT.out]; exact S4, BN4, BG4, BZ4⟩
              case measure => simp [intOf]; omega
            | true =>
              rw [hbit] at CM
              have HFT : Hid (f (q + 1) = vstep p (N : Int) G ⟨cvs, cev, cnx, cnw⟩ q) := Lib.hid (by rw [HFq.out, hbit]; rfl)
              clear hbit
              go_wp2_with fail
              refine (CM.out _ hst.out).mono ?_
              rintro r w5 ⟨rfl, hb⟩
              have S4 := Lib.hid (hst.out.below hb)
              have BG4 := Lib.hid (hbg.out.below hb)
              have BN4 := Lib.hid (hbn.out.below hb)
              have BZ4 := Lib.hid (hbz.out.below hb)
              clear hb hst hbg hbn hbz n0 n1 nl g0 gl CM
              have n0 := BN4.out.cell (i := 0) rfl
              have n1 := BN4.out.cell (i := 1) rfl
              have nl := BN4.out.lt
              have g0 := BG4.out.cell (i := 0) rfl
              have g1 := BG4.out.cell (i := 1) rfl
              have gl := BG4.out.lt
              obtain ⟨rl, r0, r1, r2, r3, r4, r5, r6, r7⟩ := S4.out.r.bx.eight
              go_wp2_with fail
              refine (CU.out _ S4.out).mono ?_
              rintro r w6 ⟨C3, j3, k3, D3, q3, e3, rfl, hr3, hd3, hap3, hbl3, hon⟩
              have BO6 := Lib.hid (hon.blk S4.out.r.bx (abBlk_not S4.out.r.rows S4.out.r.bx (by decide)))
              have BN6 := Lib.hid (hon.blk BN4.out (abBlk_not S4.out.r.rows BN4.out (by decide)))
              have BG6 := Lib.hid (hon.blk BG4.out (abBlk_not S4.out.r.rows BG4.out (by decide)))
              have BZ6 := Lib.hid (hon.blk BZ4.out (abBlk_not S4.out.r.rows BZ4.out (by decide)))
              have S6 := Lib.hid (USt.lay (p := p) (s := s) (it := it) (nn := (N : Int)) (dn := false) BO6.out (by omega) hr3 hd3 hap3 hbl3)
              have hgr := layR_grown w6 w2.heap.size (.int .i64 p) (.int .i64 s) (.int .i64 it) (.bool false) (.slice A1 n c1) (.slice B1 m d1) (.int .i64 (N : Int)) (.slice C3 j3 k3)
              have BN7 := Lib.hid (BN6.out.grown hgr (by intro e; injection e with e; omega))
              have BG7 := Lib.hid (BG6.out.grown hgr (by intro e; injection e with e; omega))
              have BZ7 := Lib.hid (BZ6.out.grown hgr (by intro e; injection e with e; omega))
              have S8 := Lib.hid (S6.out.setNow (N := (N : Int)) BN7.out (by omega) (by omega) S6.out.d S6.out.ap)
              have hgs := set2_grown (layR w6 w2.heap.size (.int .i64 p) (.int .i64 s) (.int .i64 it) (.bool false) (.slice A1 n c1) (.slice B1 m d1) (.int .i64 (N : Int)) (.slice C3 j3 k3)) w3.heap.size 0 1 (.int .i64 (N : Int)) (.slice D3 q3 e3)
              have BN8 := Lib.hid (Blk.set (Blk.set BN7.out 0 (.int .i64 (N : Int))) 1 (.slice D3 q3 e3))
              have BG8 := Lib.hid (BG7.out.grown hgs (by intro e; injection e with e; omega))
              have BZ8 := Lib.hid (BZ7.out.grown hgs (by intro e; injection e with e; omega))
              obtain ⟨ol, o0, o1, o2, o3, o4, o5, o6, o7⟩ := BO6.out.eight
              have of := fun i => BO6.out.frozen i
              clear n0 n1 nl
              have n0 := BN6.out.cell (i := 0) rfl
              have n1 := BN6.out.cell (i := 1) rfl
              have nl := BN6.out.lt
              have nf := fun i => BN6.out.frozen i
              clear hr3 hd3 hap3 hbl3 hon hgr hgs S4 BG4 BN4 BZ4 S6 BN7 BG7 BZ7 g0 g1 gl rl r0 r1 r2 r3 r4 r5 r6 r7 CU
              go_wp2
              go_roundw
              case rel => exact ⟨q + 1, C3, j3, k3, D3, q3, e3, by omega, by go_num, by rw [HFT.out]; exact S8, BN8, BG8, BZ8⟩
              case measure => simp [intOf]; omega
          · obtain rfl : q = N := by omega
            have hwi : IntKind.i64.wrap (it + 1) = it + 1 := IntWalk.i64_in _ (by omega)
            have S6 := Lib.hid (hst.out.r.setIt (it + 1))
            have H6 := Lib.hid (hst.out.h.grown (grown_cell wr w2.heap.size 2 (.int .i64 (it + 1))) hst.out.h.size (fun z hz => by injection hz with hz; omega))
            have BZ6 := Lib.hid (hbz.out.grown (grown_cell wr w2.heap.size 2 (.int .i64 (it + 1))) (by intro e; injection e with e; omega))
            have hj2 : j2 ≤ 2097152 := by
              have h1 := hst.out.r.nl.2.2
              have h2 := (setB_dim HGq.out.nx).2.2
              simp only [Int.toNat_natCast] at h2
              unfold bytesN at h2
              omega
            have CH := Lib.hid (fun W (h2 : W.ownsRow w.heap.size 5 1 (.slice C2 j2 k2) j2 (vb (f q).nx)) => specMembers (q : Int) C2 j2 k2 (f q).nx W (Rd.of_own h2 HGq.out.nxs) hj2)
            clear hj2
            unfold MadeMs at CH
            generalize memsB (q : Int) (f q).nx = rs at CH HIR HCE
            obtain ⟨zb, hzb⟩ : ∃ zb, decide (rs.length = 0) = zb := ⟨_, rfl⟩
            rw [hzb] at HIR
            have hze : ((rs.length : Int) == 0) = zb := by rw [← hzb, Bool.eq_iff_iff]; simp
            clear hzb
            have r2 := hst.out.r.bx.cell (i := 2) rfl
            have r6 := hst.out.r.bx.cell (i := 6) rfl
            have r7 := hst.out.r.bx.cell (i := 7) rfl
            have rl := hst.out.r.bx.lt
            have rf := fun i => hst.out.r.bx.frozen i
            have g0 := hbg.out.cell (i := 0) rfl
            have gl := hbg.out.lt
            clear hst hbn hbz
            go_wp2_with fail
            refine (CH.out _ S6.out.x).mono ?_
            rintro r w7 ⟨Am, cm, rfl, -, hb⟩
            have S7 := Lib.hid (S6.out.below hb)
            have H7 := Lib.hid (g_chain H6.out hb)
            have BZ7 := Lib.hid (BZ6.out.below hb)
            clear hb S6 H6 BZ6 r2 r6 r7 rl rf g0 gl hbg
            have r3 := S7.out.bx.cell (i := 3) rfl
            have rl := S7.out.bx.lt
            have rf := fun i => S7.out.bx.frozen i
            have S8 := Lib.hid (S7.out.setDn zb)
            have H8 := Lib.hid (H7.out.grown (grown_cell w7 w2.heap.size 3 (.bool zb)) H7.out.size (fun z hz => by injection hz with hz; omega))
            have BZ8 := Lib.hid (BZ7.out.grown (grown_cell w7 w2.heap.size 3 (.bool zb)) (by intro e; injection e with e; omega))
            obtain ⟨ol, o0, o1, o2, o3, o4, o5, o6, o7⟩ := S7.out.bx.eight
            obtain ⟨zl, z0, z1, z2, z3, z4, z5, z6, z7⟩ := BZ7.out.eight
            have zf := fun i => BZ7.out.frozen i
            clear S7 H7
            go_wp2
            have hnl := S8.out.nl
            have hg := layR_grown (w7.setCell ⟨w2.heap.size, 3, none⟩ (.bool zb)) (w.heap.size + 2) (.int .i64 p) (.int .i64 s) (.int .i64 (it + 1)) (.bool zb) (.slice A1 n c1) (.slice B1 m d1) (.int .i64 (q : Int)) (.slice C2 j2 k2)
            have V4 := own_kept S8.out.v hg (own_kind S8.out.v BZ8.out (by decide))
            have E4 := own_kept S8.out.e hg (own_kind S8.out.e BZ8.out (by decide))
            have X4 := own_kept S8.out.x hg (own_kind S8.out.x BZ8.out (by decide))
            have H4 := H8.out.grown hg H8.out.size (fun i hi => by injection hi with hi; omega)
            have ZL := layR_blk (x0 := .int .i64 p) (x1 := .int .i64 s) (x2 := .int .i64 (it + 1)) (x3 := .bool zb) (x4 := .slice A1 n c1) (x5 := .slice B1 m d1) (x6 := .int .i64 (q : Int)) (x7 := .slice C2 j2 k2) BZ8.out
            obtain ⟨-, y0, y1, y2, y3, y4, y5, y6, y7⟩ := ZL.eight
            unfold layR at y0 y1 y2 y3 y4 y5 y6 y7
            refine bodyPost_ret (v := .tuple #[.agg #[.int .i64 p, .int .i64 s, .int .i64 (it + 1), .bool zb, .slice A1 n c1, .slice B1 m d1, .int .i64 (q : Int), .slice C2 j2 k2], .bool true]) (by simp [results, Tryz.results41, go_sem, y0, y1, y2, y3, y4, y5, y6, y7]) rfl ?_
            obtain ⟨hn1, hm1, hj1⟩ := hnl
            rw [HIR.out]
            refine ⟨A1, c1, B1, d1, C2, k2, by rw [hn1, hm1, hj1], ⟨?_, ?_, ?_, ?_⟩, H4⟩
            · simp only; rw [hn1]; exact V4
            · simp only; rw [hm1]; exact E4
            · simp only; rw [hj1]; exact X4
            · simp only; rw [hn1, hm1]; exact S8.out.ap
end Go.Proofs.YtlhcobkncceodaaGreatDoor
