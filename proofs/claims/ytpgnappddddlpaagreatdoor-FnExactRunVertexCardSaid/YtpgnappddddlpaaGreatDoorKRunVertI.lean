/- The contract of the program's RunVertex. Condition: at most 2^20 edges, 2^21 numbers or bytes. -/
import Derived.Test.YtpgnappddddlpaaGreatDoorCGE
import Derived.Test.YtpgnappddddlpaaGreatDoorCGH
import Derived.Test.YtpgnappddddlpaaGreatDoorKRunOkI
import Derived.Test.YtpgnappddddlpaaGreatDoorCGI
import Derived.Test.YtpgnappddddlpaaGreatDoorCGG
import Derived.Deep.RegionLaw
import Derived.Deep.RegionHeld3
namespace Go.Proofs.YtpgnappddddlpaaGreatDoor
open Go.RowKit
set_option linter.unusedVariables false

set_option maxRecDepth 20000 in
set_option maxHeartbeats 8000000 in
theorem implRunVertex (N : Int) (AG : Option Addr) (l cG : Nat) (G : List GE) (p s it : Int) (dn : Bool) (A : Option Addr) (n c : Nat) (B : Option Addr) (m d : Nat) (nn : Int) (C : Option Addr) (j k : Nat) (vs ev : List Int) (nx : List Nat) (M : Int) (D : Option Addr) (q e : Nat) (nw : List Nat) (v : Int) (w : World) (hw : Wts w) (hg : SlG w AG l G) (hv : SlI w A n vs) (he : SlI w B m ev) (hx : Rd w C j nx) (hd : Rd w D q nw) (hl : l ≤ 1048576) (hn : n ≤ 2097152) (hm : m ≤ 2097152) (hj : j ≤ 2097152) (hq : q ≤ 2097152) :
  Calls Tryz.prog 11 #[.agg #[.int .i64 N, .slice AG l cG], .agg #[.int .i64 p, .int .i64 s, .int .i64 it, .bool dn, .slice A n c, .slice B m d, .int .i64 nn, .slice C j k], .agg #[.int .i64 M, .slice D q e], .int .i64 v] w (MadeRV w (vertR N G ⟨p, s, it, dn, vs, ev, nn, nx⟩ M nw v) (vertN N G ⟨p, s, it, dn, vs, ev, nn, nx⟩ M nw v) (vertX N G ⟨p, s, it, dn, vs, ev, nn, nx⟩ M nw v)) := by
 have C0 := Lib.hid (fun W (h : Below w.heap.size w W) => implRunOk N AG l cG G p s it dn A n c B m d nn C j k vs ev nx W (hw.below h) (hg.below h) (hv.below h) (he.below h) (hx.below h) hl hn hm hj)
 have C1 := Lib.hid (fun W => hasVertex_any N AG l cG v W)
 have C2 := Lib.hid (fun W (h : Below w.heap.size w W) => isSetOf_any N AG l cG M D q e nw W (hw.below h) (hd.below h) hq)
 have CC := Lib.hid (fun W (h : Below w.heap.size w W) => implCopyRun p s it dn A n c B m d nn C j k vs ev nx W (hv.below h) (he.below h) (hx.below h) hn hm hj)
 have CS := Lib.hid (fun W (h : Below w.heap.size w W) => implCopySet M D q e nw W (hd.below h) hq)
 unfold MadeR at CC
 unfold MadeS at CS
 have HGG := Lib.hid hg
 have HWW := Lib.hid hw
 have HSX := Lib.hid hx.small
 have HSN := Lib.hid hd.small
 have HQL := Lib.hid hd.len
 clear hw hg hv he hx hd
 unfold vertR vertN vertX vertB
 rw [HQL.out] at CS
 cases hb : runB N G ⟨p, s, it, dn, vs, ev, nn, nx⟩ with
 | false =>
  rw [hb] at C0
  simp only [Bool.false_and, Bool.false_eq_true, if_false]
  clear hb CC CS C1 C2
  have H_1 := Lib.hid (g_chain (g_chain (g_chain (g_chain (g_chain (Below.refl w.heap.size w) (below_a1 w (.cells #[.int .i64 N, .slice AG l cG] 44))) (below_a1 (w.alloc (.cells #[.int .i64 N, .slice AG l cG] 44)) (.cells #[.int .i64 p, .int .i64 s, .int .i64 it, .bool dn, .slice A n c, .slice B m d, .int .i64 nn, .slice C j k] 39))) (below_a1 ((w.alloc (.cells #[.int .i64 N, .slice AG l cG] 44)).alloc (.cells #[.int .i64 p, .int .i64 s, .int .i64 it, .bool dn, .slice A n c, .slice B m d, .int .i64 nn, .slice C j k] 39)) (.cells #[.int .i64 M, .slice D q e] 37))) (below_a1 (((w.alloc (.cells #[.int .i64 N, .slice AG l cG] 44)).alloc (.cells #[.int .i64 p, .int .i64 s, .int .i64 it, .bool dn, .slice A n c, .slice B m d, .int .i64 nn, .slice C j k] 39)).alloc (.cells #[.int .i64 M, .slice D q e] 37)) (.cells #[.int .i64 0, .int .i64 0, .int .i64 0, .bool false, .slice none 0 0, .slice none 0 0, .int .i64 0, .slice none 0 0] 39))) (below_a1 ((((w.alloc (.cells #[.int .i64 N, .slice AG l cG] 44)).alloc (.cells #[.int .i64 p, .int .i64 s, .int .i64 it, .bool dn, .slice A n c, .slice B m d, .int .i64 nn, .slice C j k] 39)).alloc (.cells #[.int .i64 M, .slice D q e] 37)).alloc (.cells #[.int .i64 0, .int .i64 0, .int .i64 0, .bool false, .slice none 0 0, .slice none 0 0, .int .i64 0, .slice none 0 0] 39)) (.cells #[.int .i64 0, .slice none 0 0] 37)))
  have BG_2 : Hid (Blk (((((w.alloc (.cells #[.int .i64 N, .slice AG l cG] 44)).alloc (.cells #[.int .i64 p, .int .i64 s, .int .i64 it, .bool dn, .slice A n c, .slice B m d, .int .i64 nn, .slice C j k] 39)).alloc (.cells #[.int .i64 M, .slice D q e] 37)).alloc (.cells #[.int .i64 0, .int .i64 0, .int .i64 0, .bool false, .slice none 0 0, .slice none 0 0, .int .i64 0, .slice none 0 0] 39)).alloc (.cells #[.int .i64 0, .slice none 0 0] 37)) (w.heap.size) #[.int .i64 N, .slice AG l cG] 44) := Lib.hid (by have h := ((((Blk.new w #[.int .i64 N, .slice AG l cG] 44).alloc (.cells #[.int .i64 p, .int .i64 s, .int .i64 it, .bool dn, .slice A n c, .slice B m d, .int .i64 nn, .slice C j k] 39)).alloc (.cells #[.int .i64 M, .slice D q e] 37)).alloc (.cells #[.int .i64 0, .int .i64 0, .int .i64 0, .bool false, .slice none 0 0, .slice none 0 0, .int .i64 0, .slice none 0 0] 39)).alloc (.cells #[.int .i64 0, .slice none 0 0] 37); simpa [Nat.add_assoc] using h)
  have BR_3 : Hid (Blk (((((w.alloc (.cells #[.int .i64 N, .slice AG l cG] 44)).alloc (.cells #[.int .i64 p, .int .i64 s, .int .i64 it, .bool dn, .slice A n c, .slice B m d, .int .i64 nn, .slice C j k] 39)).alloc (.cells #[.int .i64 M, .slice D q e] 37)).alloc (.cells #[.int .i64 0, .int .i64 0, .int .i64 0, .bool false, .slice none 0 0, .slice none 0 0, .int .i64 0, .slice none 0 0] 39)).alloc (.cells #[.int .i64 0, .slice none 0 0] 37)) (w.heap.size + 1) #[.int .i64 p, .int .i64 s, .int .i64 it, .bool dn, .slice A n c, .slice B m d, .int .i64 nn, .slice C j k] 39) := Lib.hid (by have h := (((Blk.new (w.alloc (.cells #[.int .i64 N, .slice AG l cG] 44)) #[.int .i64 p, .int .i64 s, .int .i64 it, .bool dn, .slice A n c, .slice B m d, .int .i64 nn, .slice C j k] 39).alloc (.cells #[.int .i64 M, .slice D q e] 37)).alloc (.cells #[.int .i64 0, .int .i64 0, .int .i64 0, .bool false, .slice none 0 0, .slice none 0 0, .int .i64 0, .slice none 0 0] 39)).alloc (.cells #[.int .i64 0, .slice none 0 0] 37); simpa [Nat.add_assoc] using h)
  have BN_4 : Hid (Blk (((((w.alloc (.cells #[.int .i64 N, .slice AG l cG] 44)).alloc (.cells #[.int .i64 p, .int .i64 s, .int .i64 it, .bool dn, .slice A n c, .slice B m d, .int .i64 nn, .slice C j k] 39)).alloc (.cells #[.int .i64 M, .slice D q e] 37)).alloc (.cells #[.int .i64 0, .int .i64 0, .int .i64 0, .bool false, .slice none 0 0, .slice none 0 0, .int .i64 0, .slice none 0 0] 39)).alloc (.cells #[.int .i64 0, .slice none 0 0] 37)) (w.heap.size + 2) #[.int .i64 M, .slice D q e] 37) := Lib.hid (by have h := ((Blk.new ((w.alloc (.cells #[.int .i64 N, .slice AG l cG] 44)).alloc (.cells #[.int .i64 p, .int .i64 s, .int .i64 it, .bool dn, .slice A n c, .slice B m d, .int .i64 nn, .slice C j k] 39)) #[.int .i64 M, .slice D q e] 37).alloc (.cells #[.int .i64 0, .int .i64 0, .int .i64 0, .bool false, .slice none 0 0, .slice none 0 0, .int .i64 0, .slice none 0 0] 39)).alloc (.cells #[.int .i64 0, .slice none 0 0] 37); simpa [Nat.add_assoc] using h)
  have BZ_5 : Hid (Blk (((((w.alloc (.cells #[.int .i64 N, .slice AG l cG] 44)).alloc (.cells #[.int .i64 p, .int .i64 s, .int .i64 it, .bool dn, .slice A n c, .slice B m d, .int .i64 nn, .slice C j k] 39)).alloc (.cells #[.int .i64 M, .slice D q e] 37)).alloc (.cells #[.int .i64 0, .int .i64 0, .int .i64 0, .bool false, .slice none 0 0, .slice none 0 0, .int .i64 0, .slice none 0 0] 39)).alloc (.cells #[.int .i64 0, .slice none 0 0] 37)) (w.heap.size + 3) #[.int .i64 0, .int .i64 0, .int .i64 0, .bool false, .slice none 0 0, .slice none 0 0, .int .i64 0, .slice none 0 0] 39) := Lib.hid (by have h := (Blk.new (((w.alloc (.cells #[.int .i64 N, .slice AG l cG] 44)).alloc (.cells #[.int .i64 p, .int .i64 s, .int .i64 it, .bool dn, .slice A n c, .slice B m d, .int .i64 nn, .slice C j k] 39)).alloc (.cells #[.int .i64 M, .slice D q e] 37)) #[.int .i64 0, .int .i64 0, .int .i64 0, .bool false, .slice none 0 0, .slice none 0 0, .int .i64 0, .slice none 0 0] 39).alloc (.cells #[.int .i64 0, .slice none 0 0] 37); simpa [Nat.add_assoc] using h)
  have BY_6 : Hid (Blk (((((w.alloc (.cells #[.int .i64 N, .slice AG l cG] 44)).alloc (.cells #[.int .i64 p, .int .i64 s, .int .i64 it, .bool dn, .slice A n c, .slice B m d, .int .i64 nn, .slice C j k] 39)).alloc (.cells #[.int .i64 M, .slice D q e] 37)).alloc (.cells #[.int .i64 0, .int .i64 0, .int .i64 0, .bool false, .slice none 0 0, .slice none 0 0, .int .i64 0, .slice none 0 0] 39)).alloc (.cells #[.int .i64 0, .slice none 0 0] 37)) (w.heap.size + 4) #[.int .i64 0, .slice none 0 0] 37) := Lib.hid (by have h := Blk.new ((((w.alloc (.cells #[.int .i64 N, .slice AG l cG] 44)).alloc (.cells #[.int .i64 p, .int .i64 s, .int .i64 it, .bool dn, .slice A n c, .slice B m d, .int .i64 nn, .slice C j k] 39)).alloc (.cells #[.int .i64 M, .slice D q e] 37)).alloc (.cells #[.int .i64 0, .int .i64 0, .int .i64 0, .bool false, .slice none 0 0, .slice none 0 0, .int .i64 0, .slice none 0 0] 39)) #[.int .i64 0, .slice none 0 0] 37; simpa [Nat.add_assoc] using h)
  have sz0 : Hid (w.heap.size + 5 ≤ (((((w.alloc (.cells #[.int .i64 N, .slice AG l cG] 44)).alloc (.cells #[.int .i64 p, .int .i64 s, .int .i64 it, .bool dn, .slice A n c, .slice B m d, .int .i64 nn, .slice C j k] 39)).alloc (.cells #[.int .i64 M, .slice D q e] 37)).alloc (.cells #[.int .i64 0, .int .i64 0, .int .i64 0, .bool false, .slice none 0 0, .slice none 0 0, .int .i64 0, .slice none 0 0] 39)).alloc (.cells #[.int .i64 0, .slice none 0 0] 37)).heap.size) := Lib.hid (by simp)
  go_enter Tryz.func11, Tryz.ntmps11
  have x_7 := BG_2.out.cell (i := 0) rfl
  have x_8 := BG_2.out.cell (i := 1) rfl
  have fz_9 := fun i => BG_2.out.frozen i
  have lt_10 := BG_2.out.lt
  have x_11 := BR_3.out.cell (i := 0) rfl
  have x_12 := BR_3.out.cell (i := 1) rfl
  have x_13 := BR_3.out.cell (i := 2) rfl
  have x_14 := BR_3.out.cell (i := 3) rfl
  have x_15 := BR_3.out.cell (i := 4) rfl
  have x_16 := BR_3.out.cell (i := 5) rfl
  have x_17 := BR_3.out.cell (i := 6) rfl
  have x_18 := BR_3.out.cell (i := 7) rfl
  have fz_19 := fun i => BR_3.out.frozen i
  have lt_20 := BR_3.out.lt
  have x_21 := BN_4.out.cell (i := 0) rfl
  have x_22 := BN_4.out.cell (i := 1) rfl
  have fz_23 := fun i => BN_4.out.frozen i
  have lt_24 := BN_4.out.lt
  go_wp2_with fail
  refine (C0.out _ H_1.out).mono ?_
  rintro e w1 ⟨rfl, hb⟩
  clear x_7
  clear x_8
  clear fz_9
  clear lt_10
  clear x_11
  clear x_12
  clear x_13
  clear x_14
  clear x_15
  clear x_16
  clear x_17
  clear x_18
  clear fz_19
  clear lt_20
  clear x_21
  clear x_22
  clear fz_23
  clear lt_24
  have H_25 := Lib.hid (g_chain H_1.out hb)
  clear H_1
  have BG_26 := Lib.hid (BG_2.out.below hb)
  clear BG_2
  have BR_27 := Lib.hid (BR_3.out.below hb)
  clear BR_3
  have BN_28 := Lib.hid (BN_4.out.below hb)
  clear BN_4
  have BZ_29 := Lib.hid (BZ_5.out.below hb)
  clear BZ_5
  have BY_30 := Lib.hid (BY_6.out.below hb)
  clear BY_6
  have sz_31 := Lib.hid (Below.size hb)
  clear hb
  have x_32 := BZ_29.out.cell (i := 0) rfl
  have x_33 := BZ_29.out.cell (i := 1) rfl
  have x_34 := BZ_29.out.cell (i := 2) rfl
  have x_35 := BZ_29.out.cell (i := 3) rfl
  have x_36 := BZ_29.out.cell (i := 4) rfl
  have x_37 := BZ_29.out.cell (i := 5) rfl
  have x_38 := BZ_29.out.cell (i := 6) rfl
  have x_39 := BZ_29.out.cell (i := 7) rfl
  have fz_40 := fun i => BZ_29.out.frozen i
  have lt_41 := BZ_29.out.lt
  have x_42 := BY_30.out.cell (i := 0) rfl
  have x_43 := BY_30.out.cell (i := 1) rfl
  have fz_44 := fun i => BY_30.out.frozen i
  have lt_45 := BY_30.out.lt
  go_wp2
  clear x_32 x_33 x_34 x_35 x_36 x_37 x_38 x_39 fz_40 lt_41 x_42 x_43 fz_44 lt_45
  have hg_46 := (((((((grown_cell w1 (w.heap.size + 3) 0 (.int .i64 0)).trans (grown_cell (w1.setCell ⟨w.heap.size + 3, 0, none⟩ (.int .i64 0)) (w.heap.size + 3) 1 (.int .i64 0))).trans (grown_cell ((w1.setCell ⟨w.heap.size + 3, 0, none⟩ (.int .i64 0)).setCell ⟨w.heap.size + 3, 1, none⟩ (.int .i64 0)) (w.heap.size + 3) 2 (.int .i64 0))).trans (grown_cell (((w1.setCell ⟨w.heap.size + 3, 0, none⟩ (.int .i64 0)).setCell ⟨w.heap.size + 3, 1, none⟩ (.int .i64 0)).setCell ⟨w.heap.size + 3, 2, none⟩ (.int .i64 0)) (w.heap.size + 3) 3 (.bool false))).trans (grown_cell ((((w1.setCell ⟨w.heap.size + 3, 0, none⟩ (.int .i64 0)).setCell ⟨w.heap.size + 3, 1, none⟩ (.int .i64 0)).setCell ⟨w.heap.size + 3, 2, none⟩ (.int .i64 0)).setCell ⟨w.heap.size + 3, 3, none⟩ (.bool false)) (w.heap.size + 3) 4 (.slice none 0 0))).trans (grown_cell (((((w1.setCell ⟨w.heap.size + 3, 0, none⟩ (.int .i64 0)).setCell ⟨w.heap.size + 3, 1, none⟩ (.int .i64 0)).setCell ⟨w.heap.size + 3, 2, none⟩ (.int .i64 0)).setCell ⟨w.heap.size + 3, 3, none⟩ (.bool false)).setCell ⟨w.heap.size + 3, 4, none⟩ (.slice none 0 0)) (w.heap.size + 3) 5 (.slice none 0 0))).trans (grown_cell ((((((w1.setCell ⟨w.heap.size + 3, 0, none⟩ (.int .i64 0)).setCell ⟨w.heap.size + 3, 1, none⟩ (.int .i64 0)).setCell ⟨w.heap.size + 3, 2, none⟩ (.int .i64 0)).setCell ⟨w.heap.size + 3, 3, none⟩ (.bool false)).setCell ⟨w.heap.size + 3, 4, none⟩ (.slice none 0 0)).setCell ⟨w.heap.size + 3, 5, none⟩ (.slice none 0 0)) (w.heap.size + 3) 6 (.int .i64 0))).trans (grown_cell (((((((w1.setCell ⟨w.heap.size + 3, 0, none⟩ (.int .i64 0)).setCell ⟨w.heap.size + 3, 1, none⟩ (.int .i64 0)).setCell ⟨w.heap.size + 3, 2, none⟩ (.int .i64 0)).setCell ⟨w.heap.size + 3, 3, none⟩ (.bool false)).setCell ⟨w.heap.size + 3, 4, none⟩ (.slice none 0 0)).setCell ⟨w.heap.size + 3, 5, none⟩ (.slice none 0 0)).setCell ⟨w.heap.size + 3, 6, none⟩ (.int .i64 0)) (w.heap.size + 3) 7 (.slice none 0 0))
  have H_47 := Lib.hid (H_25.out.grown hg_46 H_25.out.size (fun j hj => by injection hj with hj; have := sz0.out; have := sz_31.out; omega))
  clear H_25
  have BG_48 := Lib.hid (BG_26.out.grown hg_46 (by intro e; injection e with e; have := sz0.out; have := sz_31.out; omega))
  clear BG_26
  have BR_49 := Lib.hid (BR_27.out.grown hg_46 (by intro e; injection e with e; have := sz0.out; have := sz_31.out; omega))
  clear BR_27
  have BN_50 := Lib.hid (BN_28.out.grown hg_46 (by intro e; injection e with e; have := sz0.out; have := sz_31.out; omega))
  clear BN_28
  have BY_51 := Lib.hid (BY_30.out.grown hg_46 (by intro e; injection e with e; have := sz0.out; have := sz_31.out; omega))
  clear BY_30
  have BZ_52 : Hid (Blk ((((((((w1.setCell ⟨w.heap.size + 3, 0, none⟩ (.int .i64 0)).setCell ⟨w.heap.size + 3, 1, none⟩ (.int .i64 0)).setCell ⟨w.heap.size + 3, 2, none⟩ (.int .i64 0)).setCell ⟨w.heap.size + 3, 3, none⟩ (.bool false)).setCell ⟨w.heap.size + 3, 4, none⟩ (.slice none 0 0)).setCell ⟨w.heap.size + 3, 5, none⟩ (.slice none 0 0)).setCell ⟨w.heap.size + 3, 6, none⟩ (.int .i64 0)).setCell ⟨w.heap.size + 3, 7, none⟩ (.slice none 0 0)) (w.heap.size + 3) #[.int .i64 0, .int .i64 0, .int .i64 0, .bool false, .slice none 0 0, .slice none 0 0, .int .i64 0, .slice none 0 0] 39) := Lib.hid (Blk.set (Blk.set (Blk.set (Blk.set (Blk.set (Blk.set (Blk.set (Blk.set (BZ_29.out) 0 (.int .i64 0)) 1 (.int .i64 0)) 2 (.int .i64 0)) 3 (.bool false)) 4 (.slice none 0 0)) 5 (.slice none 0 0)) 6 (.int .i64 0)) 7 (.slice none 0 0))
  clear BZ_29
  have sz_53 := Lib.hid (World.grownBy.size hg_46)
  clear hg_46
  have hg_54 := (grown_cell ((((((((w1.setCell ⟨w.heap.size + 3, 0, none⟩ (.int .i64 0)).setCell ⟨w.heap.size + 3, 1, none⟩ (.int .i64 0)).setCell ⟨w.heap.size + 3, 2, none⟩ (.int .i64 0)).setCell ⟨w.heap.size + 3, 3, none⟩ (.bool false)).setCell ⟨w.heap.size + 3, 4, none⟩ (.slice none 0 0)).setCell ⟨w.heap.size + 3, 5, none⟩ (.slice none 0 0)).setCell ⟨w.heap.size + 3, 6, none⟩ (.int .i64 0)).setCell ⟨w.heap.size + 3, 7, none⟩ (.slice none 0 0)) (w.heap.size + 4) 0 (.int .i64 0)).trans (grown_cell (((((((((w1.setCell ⟨w.heap.size + 3, 0, none⟩ (.int .i64 0)).setCell ⟨w.heap.size + 3, 1, none⟩ (.int .i64 0)).setCell ⟨w.heap.size + 3, 2, none⟩ (.int .i64 0)).setCell ⟨w.heap.size + 3, 3, none⟩ (.bool false)).setCell ⟨w.heap.size + 3, 4, none⟩ (.slice none 0 0)).setCell ⟨w.heap.size + 3, 5, none⟩ (.slice none 0 0)).setCell ⟨w.heap.size + 3, 6, none⟩ (.int .i64 0)).setCell ⟨w.heap.size + 3, 7, none⟩ (.slice none 0 0)).setCell ⟨w.heap.size + 4, 0, none⟩ (.int .i64 0)) (w.heap.size + 4) 1 (.slice none 0 0))
  have H_55 := Lib.hid (H_47.out.grown hg_54 H_47.out.size (fun j hj => by injection hj with hj; have := sz0.out; have := sz_31.out; have := sz_53.out; omega))
  clear H_47
  have BG_56 := Lib.hid (BG_48.out.grown hg_54 (by intro e; injection e with e; have := sz0.out; have := sz_31.out; have := sz_53.out; omega))
  clear BG_48
  have BR_57 := Lib.hid (BR_49.out.grown hg_54 (by intro e; injection e with e; have := sz0.out; have := sz_31.out; have := sz_53.out; omega))
  clear BR_49
  have BN_58 := Lib.hid (BN_50.out.grown hg_54 (by intro e; injection e with e; have := sz0.out; have := sz_31.out; have := sz_53.out; omega))
  clear BN_50
  have BZ_59 := Lib.hid (BZ_52.out.grown hg_54 (by intro e; injection e with e; have := sz0.out; have := sz_31.out; have := sz_53.out; omega))
  clear BZ_52
  have BY_60 : Hid (Blk ((((((((((w1.setCell ⟨w.heap.size + 3, 0, none⟩ (.int .i64 0)).setCell ⟨w.heap.size + 3, 1, none⟩ (.int .i64 0)).setCell ⟨w.heap.size + 3, 2, none⟩ (.int .i64 0)).setCell ⟨w.heap.size + 3, 3, none⟩ (.bool false)).setCell ⟨w.heap.size + 3, 4, none⟩ (.slice none 0 0)).setCell ⟨w.heap.size + 3, 5, none⟩ (.slice none 0 0)).setCell ⟨w.heap.size + 3, 6, none⟩ (.int .i64 0)).setCell ⟨w.heap.size + 3, 7, none⟩ (.slice none 0 0)).setCell ⟨w.heap.size + 4, 0, none⟩ (.int .i64 0)).setCell ⟨w.heap.size + 4, 1, none⟩ (.slice none 0 0)) (w.heap.size + 4) #[.int .i64 0, .slice none 0 0] 37) := Lib.hid (Blk.set (Blk.set (BY_51.out) 0 (.int .i64 0)) 1 (.slice none 0 0))
  clear BY_51
  have sz_61 := Lib.hid (World.grownBy.size hg_54)
  clear hg_54
  obtain ⟨-, z0, z1, z2, z3, z4, z5, z6, z7⟩ := BZ_59.out.eight
  have y0 := BY_60.out.cell (i := 0) rfl
  have y1 := BY_60.out.cell (i := 1) rfl
  refine bodyPost_ret (v := .tuple #[.agg #[.int .i64 0, .int .i64 0, .int .i64 0, .bool false, .slice none 0 0, .slice none 0 0, .int .i64 0, .slice none 0 0], .agg #[.int .i64 0, .slice none 0 0]]) (by simp [results, Tryz.results11, go_sem, z0, z1, z2, z3, z4, z5, z6, z7, y0, y1]) rfl ?_
  exact MadeRV.no H_55.out
 | true =>
  rw [hb] at C0
  cases hv0 : decide (0 ≤ v ∧ v < N) with
  | false =>
   rw [hv0] at C1
   simp only [Bool.and_false, Bool.false_and, Bool.false_eq_true, if_false]
   clear hb CC CS C2
   have H_1 := Lib.hid (g_chain (g_chain (g_chain (g_chain (g_chain (Below.refl w.heap.size w) (below_a1 w (.cells #[.int .i64 N, .slice AG l cG] 44))) (below_a1 (w.alloc (.cells #[.int .i64 N, .slice AG l cG] 44)) (.cells #[.int .i64 p, .int .i64 s, .int .i64 it, .bool dn, .slice A n c, .slice B m d, .int .i64 nn, .slice C j k] 39))) (below_a1 ((w.alloc (.cells #[.int .i64 N, .slice AG l cG] 44)).alloc (.cells #[.int .i64 p, .int .i64 s, .int .i64 it, .bool dn, .slice A n c, .slice B m d, .int .i64 nn, .slice C j k] 39)) (.cells #[.int .i64 M, .slice D q e] 37))) (below_a1 (((w.alloc (.cells #[.int .i64 N, .slice AG l cG] 44)).alloc (.cells #[.int .i64 p, .int .i64 s, .int .i64 it, .bool dn, .slice A n c, .slice B m d, .int .i64 nn, .slice C j k] 39)).alloc (.cells #[.int .i64 M, .slice D q e] 37)) (.cells #[.int .i64 0, .int .i64 0, .int .i64 0, .bool false, .slice none 0 0, .slice none 0 0, .int .i64 0, .slice none 0 0] 39))) (below_a1 ((((w.alloc (.cells #[.int .i64 N, .slice AG l cG] 44)).alloc (.cells #[.int .i64 p, .int .i64 s, .int .i64 it, .bool dn, .slice A n c, .slice B m d, .int .i64 nn, .slice C j k] 39)).alloc (.cells #[.int .i64 M, .slice D q e] 37)).alloc (.cells #[.int .i64 0, .int .i64 0, .int .i64 0, .bool false, .slice none 0 0, .slice none 0 0, .int .i64 0, .slice none 0 0] 39)) (.cells #[.int .i64 0, .slice none 0 0] 37)))
   have BG_2 : Hid (Blk (((((w.alloc (.cells #[.int .i64 N, .slice AG l cG] 44)).alloc (.cells #[.int .i64 p, .int .i64 s, .int .i64 it, .bool dn, .slice A n c, .slice B m d, .int .i64 nn, .slice C j k] 39)).alloc (.cells #[.int .i64 M, .slice D q e] 37)).alloc (.cells #[.int .i64 0, .int .i64 0, .int .i64 0, .bool false, .slice none 0 0, .slice none 0 0, .int .i64 0, .slice none 0 0] 39)).alloc (.cells #[.int .i64 0, .slice none 0 0] 37)) (w.heap.size) #[.int .i64 N, .slice AG l cG] 44) := Lib.hid (by have h := ((((Blk.new w #[.int .i64 N, .slice AG l cG] 44).alloc (.cells #[.int .i64 p, .int .i64 s, .int .i64 it, .bool dn, .slice A n c, .slice B m d, .int .i64 nn, .slice C j k] 39)).alloc (.cells #[.int .i64 M, .slice D q e] 37)).alloc (.cells #[.int .i64 0, .int .i64 0, .int .i64 0, .bool false, .slice none 0 0, .slice none 0 0, .int .i64 0, .slice none 0 0] 39)).alloc (.cells #[.int .i64 0, .slice none 0 0] 37); simpa [Nat.add_assoc] using h)
   have BR_3 : Hid (Blk (((((w.alloc (.cells #[.int .i64 N, .slice AG l cG] 44)).alloc (.cells #[.int .i64 p, .int .i64 s, .int .i64 it, .bool dn, .slice A n c, .slice B m d, .int .i64 nn, .slice C j k] 39)).alloc (.cells #[.int .i64 M, .slice D q e] 37)).alloc (.cells #[.int .i64 0, .int .i64 0, .int .i64 0, .bool false, .slice none 0 0, .slice none 0 0, .int .i64 0, .slice none 0 0] 39)).alloc (.cells #[.int .i64 0, .slice none 0 0] 37)) (w.heap.size + 1) #[.int .i64 p, .int .i64 s, .int .i64 it, .bool dn, .slice A n c, .slice B m d, .int .i64 nn, .slice C j k] 39) := Lib.hid (by have h := (((Blk.new (w.alloc (.cells #[.int .i64 N, .slice AG l cG] 44)) #[.int .i64 p, .int .i64 s, .int .i64 it, .bool dn, .slice A n c, .slice B m d, .int .i64 nn, .slice C j k] 39).alloc (.cells #[.int .i64 M, .slice D q e] 37)).alloc (.cells #[.int .i64 0, .int .i64 0, .int .i64 0, .bool false, .slice none 0 0, .slice none 0 0, .int .i64 0, .slice none 0 0] 39)).alloc (.cells #[.int .i64 0, .slice none 0 0] 37); simpa [Nat.add_assoc] using h)
   have BN_4 : Hid (Blk (((((w.alloc (.cells #[.int .i64 N, .slice AG l cG] 44)).alloc (.cells #[.int .i64 p, .int .i64 s, .int .i64 it, .bool dn, .slice A n c, .slice B m d, .int .i64 nn, .slice C j k] 39)).alloc (.cells #[.int .i64 M, .slice D q e] 37)).alloc (.cells #[.int .i64 0, .int .i64 0, .int .i64 0, .bool false, .slice none 0 0, .slice none 0 0, .int .i64 0, .slice none 0 0] 39)).alloc (.cells #[.int .i64 0, .slice none 0 0] 37)) (w.heap.size + 2) #[.int .i64 M, .slice D q e] 37) := Lib.hid (by have h := ((Blk.new ((w.alloc (.cells #[.int .i64 N, .slice AG l cG] 44)).alloc (.cells #[.int .i64 p, .int .i64 s, .int .i64 it, .bool dn, .slice A n c, .slice B m d, .int .i64 nn, .slice C j k] 39)) #[.int .i64 M, .slice D q e] 37).alloc (.cells #[.int .i64 0, .int .i64 0, .int .i64 0, .bool false, .slice none 0 0, .slice none 0 0, .int .i64 0, .slice none 0 0] 39)).alloc (.cells #[.int .i64 0, .slice none 0 0] 37); simpa [Nat.add_assoc] using h)
   have BZ_5 : Hid (Blk (((((w.alloc (.cells #[.int .i64 N, .slice AG l cG] 44)).alloc (.cells #[.int .i64 p, .int .i64 s, .int .i64 it, .bool dn, .slice A n c, .slice B m d, .int .i64 nn, .slice C j k] 39)).alloc (.cells #[.int .i64 M, .slice D q e] 37)).alloc (.cells #[.int .i64 0, .int .i64 0, .int .i64 0, .bool false, .slice none 0 0, .slice none 0 0, .int .i64 0, .slice none 0 0] 39)).alloc (.cells #[.int .i64 0, .slice none 0 0] 37)) (w.heap.size + 3) #[.int .i64 0, .int .i64 0, .int .i64 0, .bool false, .slice none 0 0, .slice none 0 0, .int .i64 0, .slice none 0 0] 39) := Lib.hid (by have h := (Blk.new (((w.alloc (.cells #[.int .i64 N, .slice AG l cG] 44)).alloc (.cells #[.int .i64 p, .int .i64 s, .int .i64 it, .bool dn, .slice A n c, .slice B m d, .int .i64 nn, .slice C j k] 39)).alloc (.cells #[.int .i64 M, .slice D q e] 37)) #[.int .i64 0, .int .i64 0, .int .i64 0, .bool false, .slice none 0 0, .slice none 0 0, .int .i64 0, .slice none 0 0] 39).alloc (.cells #[.int .i64 0, .slice none 0 0] 37); simpa [Nat.add_assoc] using h)
   have BY_6 : Hid (Blk (((((w.alloc (.cells #[.int .i64 N, .slice AG l cG] 44)).alloc (.cells #[.int .i64 p, .int .i64 s, .int .i64 it, .bool dn, .slice A n c, .slice B m d, .int .i64 nn, .slice C j k] 39)).alloc (.cells #[.int .i64 M, .slice D q e] 37)).alloc (.cells #[.int .i64 0, .int .i64 0, .int .i64 0, .bool false, .slice none 0 0, .slice none 0 0, .int .i64 0, .slice none 0 0] 39)).alloc (.cells #[.int .i64 0, .slice none 0 0] 37)) (w.heap.size + 4) #[.int .i64 0, .slice none 0 0] 37) := Lib.hid (by have h := Blk.new ((((w.alloc (.cells #[.int .i64 N, .slice AG l cG] 44)).alloc (.cells #[.int .i64 p, .int .i64 s, .int .i64 it, .bool dn, .slice A n c, .slice B m d, .int .i64 nn, .slice C j k] 39)).alloc (.cells #[.int .i64 M, .slice D q e] 37)).alloc (.cells #[.int .i64 0, .int .i64 0, .int .i64 0, .bool false, .slice none 0 0, .slice none 0 0, .int .i64 0, .slice none 0 0] 39)) #[.int .i64 0, .slice none 0 0] 37; simpa [Nat.add_assoc] using h)
   have sz0 : Hid (w.heap.size + 5 ≤ (((((w.alloc (.cells #[.int .i64 N, .slice AG l cG] 44)).alloc (.cells #[.int .i64 p, .int .i64 s, .int .i64 it, .bool dn, .slice A n c, .slice B m d, .int .i64 nn, .slice C j k] 39)).alloc (.cells #[.int .i64 M, .slice D q e] 37)).alloc (.cells #[.int .i64 0, .int .i64 0, .int .i64 0, .bool false, .slice none 0 0, .slice none 0 0, .int .i64 0, .slice none 0 0] 39)).alloc (.cells #[.int .i64 0, .slice none 0 0] 37)).heap.size) := Lib.hid (by simp)
   go_enter Tryz.func11, Tryz.ntmps11
   have x_7 := BG_2.out.cell (i := 0) rfl
   have x_8 := BG_2.out.cell (i := 1) rfl
   have fz_9 := fun i => BG_2.out.frozen i
   have lt_10 := BG_2.out.lt
   have x_11 := BR_3.out.cell (i := 0) rfl
   have x_12 := BR_3.out.cell (i := 1) rfl
   have x_13 := BR_3.out.cell (i := 2) rfl
   have x_14 := BR_3.out.cell (i := 3) rfl
   have x_15 := BR_3.out.cell (i := 4) rfl
   have x_16 := BR_3.out.cell (i := 5) rfl
   have x_17 := BR_3.out.cell (i := 6) rfl
   have x_18 := BR_3.out.cell (i := 7) rfl
   have fz_19 := fun i => BR_3.out.frozen i
   have lt_20 := BR_3.out.lt
   have x_21 := BN_4.out.cell (i := 0) rfl
   have x_22 := BN_4.out.cell (i := 1) rfl
   have fz_23 := fun i => BN_4.out.frozen i
   have lt_24 := BN_4.out.lt
   go_wp2_with fail
   refine (C0.out _ H_1.out).mono ?_
   rintro e w1 ⟨rfl, hb⟩
   clear x_7
   clear x_8
   clear fz_9
   clear lt_10
   clear x_11
   clear x_12
   clear x_13
   clear x_14
   clear x_15
   clear x_16
   clear x_17
   clear x_18
   clear fz_19
   clear lt_20
   clear x_21
   clear x_22
   clear fz_23
   clear lt_24
   have H_25 := Lib.hid (g_chain H_1.out hb)
   clear H_1
   have BG_26 := Lib.hid (BG_2.out.below hb)
   clear BG_2
   have BR_27 := Lib.hid (BR_3.out.below hb)
   clear BR_3
   have BN_28 := Lib.hid (BN_4.out.below hb)
   clear BN_4
   have BZ_29 := Lib.hid (BZ_5.out.below hb)
   clear BZ_5
   have BY_30 := Lib.hid (BY_6.out.below hb)
   clear BY_6
   have sz_31 := Lib.hid (Below.size hb)
   clear hb
   have x_32 := BG_26.out.cell (i := 0) rfl
   have x_33 := BG_26.out.cell (i := 1) rfl
   have fz_34 := fun i => BG_26.out.frozen i
   have lt_35 := BG_26.out.lt
   have x_36 := BR_27.out.cell (i := 0) rfl
   have x_37 := BR_27.out.cell (i := 1) rfl
   have x_38 := BR_27.out.cell (i := 2) rfl
   have x_39 := BR_27.out.cell (i := 3) rfl
   have x_40 := BR_27.out.cell (i := 4) rfl
   have x_41 := BR_27.out.cell (i := 5) rfl
   have x_42 := BR_27.out.cell (i := 6) rfl
   have x_43 := BR_27.out.cell (i := 7) rfl
   have fz_44 := fun i => BR_27.out.frozen i
   have lt_45 := BR_27.out.lt
   have x_46 := BN_28.out.cell (i := 0) rfl
   have x_47 := BN_28.out.cell (i := 1) rfl
   have fz_48 := fun i => BN_28.out.frozen i
   have lt_49 := BN_28.out.lt
   go_wp2_with fail
   refine (C1.out _).mono ?_
   rintro e w2 ⟨rfl, hb⟩
   clear x_32
   clear x_33
   clear fz_34
   clear lt_35
   clear x_36
   clear x_37
   clear x_38
   clear x_39
   clear x_40
   clear x_41
   clear x_42
   clear x_43
   clear fz_44
   clear lt_45
   clear x_46
   clear x_47
   clear fz_48
   clear lt_49
   have H_50 := Lib.hid (g_chain H_25.out hb)
   clear H_25
   have BG_51 := Lib.hid (BG_26.out.below hb)
   clear BG_26
   have BR_52 := Lib.hid (BR_27.out.below hb)
   clear BR_27
   have BN_53 := Lib.hid (BN_28.out.below hb)
   clear BN_28
   have BZ_54 := Lib.hid (BZ_29.out.below hb)
   clear BZ_29
   have BY_55 := Lib.hid (BY_30.out.below hb)
   clear BY_30
   have sz_56 := Lib.hid (Below.size hb)
   clear hb
   have x_57 := BZ_54.out.cell (i := 0) rfl
   have x_58 := BZ_54.out.cell (i := 1) rfl
   have x_59 := BZ_54.out.cell (i := 2) rfl
   have x_60 := BZ_54.out.cell (i := 3) rfl
   have x_61 := BZ_54.out.cell (i := 4) rfl
   have x_62 := BZ_54.out.cell (i := 5) rfl
   have x_63 := BZ_54.out.cell (i := 6) rfl
   have x_64 := BZ_54.out.cell (i := 7) rfl
   have fz_65 := fun i => BZ_54.out.frozen i
   have lt_66 := BZ_54.out.lt
   have x_67 := BY_55.out.cell (i := 0) rfl
   have x_68 := BY_55.out.cell (i := 1) rfl
   have fz_69 := fun i => BY_55.out.frozen i
   have lt_70 := BY_55.out.lt
   go_wp2
   clear x_57 x_58 x_59 x_60 x_61 x_62 x_63 x_64 fz_65 lt_66 x_67 x_68 fz_69 lt_70
   have hg_71 := (((((((grown_cell w2 (w.heap.size + 3) 0 (.int .i64 0)).trans (grown_cell (w2.setCell ⟨w.heap.size + 3, 0, none⟩ (.int .i64 0)) (w.heap.size + 3) 1 (.int .i64 0))).trans (grown_cell ((w2.setCell ⟨w.heap.size + 3, 0, none⟩ (.int .i64 0)).setCell ⟨w.heap.size + 3, 1, none⟩ (.int .i64 0)) (w.heap.size + 3) 2 (.int .i64 0))).trans (grown_cell (((w2.setCell ⟨w.heap.size + 3, 0, none⟩ (.int .i64 0)).setCell ⟨w.heap.size + 3, 1, none⟩ (.int .i64 0)).setCell ⟨w.heap.size + 3, 2, none⟩ (.int .i64 0)) (w.heap.size + 3) 3 (.bool false))).trans (grown_cell ((((w2.setCell ⟨w.heap.size + 3, 0, none⟩ (.int .i64 0)).setCell ⟨w.heap.size + 3, 1, none⟩ (.int .i64 0)).setCell ⟨w.heap.size + 3, 2, none⟩ (.int .i64 0)).setCell ⟨w.heap.size + 3, 3, none⟩ (.bool false)) (w.heap.size + 3) 4 (.slice none 0 0))).trans (grown_cell (((((w2.setCell ⟨w.heap.size + 3, 0, none⟩ (.int .i64 0)).setCell ⟨w.heap.size + 3, 1, none⟩ (.int .i64 0)).setCell ⟨w.heap.size + 3, 2, none⟩ (.int .i64 0)).setCell ⟨w.heap.size + 3, 3, none⟩ (.bool false)).setCell ⟨w.heap.size + 3, 4, none⟩ (.slice none 0 0)) (w.heap.size + 3) 5 (.slice none 0 0))).trans (grown_cell ((((((w2.setCell ⟨w.heap.size + 3, 0, none⟩ (.int .i64 0)).setCell ⟨w.heap.size + 3, 1, none⟩ (.int .i64 0)).setCell ⟨w.heap.size + 3, 2, none⟩ (.int .i64 0)).setCell ⟨w.heap.size + 3, 3, none⟩ (.bool false)).setCell ⟨w.heap.size + 3, 4, none⟩ (.slice none 0 0)).setCell ⟨w.heap.size + 3, 5, none⟩ (.slice none 0 0)) (w.heap.size + 3) 6 (.int .i64 0))).trans (grown_cell (((((((w2.setCell ⟨w.heap.size + 3, 0, none⟩ (.int .i64 0)).setCell ⟨w.heap.size + 3, 1, none⟩ (.int .i64 0)).setCell ⟨w.heap.size + 3, 2, none⟩ (.int .i64 0)).setCell ⟨w.heap.size + 3, 3, none⟩ (.bool false)).setCell ⟨w.heap.size + 3, 4, none⟩ (.slice none 0 0)).setCell ⟨w.heap.size + 3, 5, none⟩ (.slice none 0 0)).setCell ⟨w.heap.size + 3, 6, none⟩ (.int .i64 0)) (w.heap.size + 3) 7 (.slice none 0 0))
   have H_72 := Lib.hid (H_50.out.grown hg_71 H_50.out.size (fun j hj => by injection hj with hj; have := sz0.out; have := sz_31.out; have := sz_56.out; omega))
   clear H_50
   have BG_73 := Lib.hid (BG_51.out.grown hg_71 (by intro e; injection e with e; have := sz0.out; have := sz_31.out; have := sz_56.out; omega))
   clear BG_51
   have BR_74 := Lib.hid (BR_52.out.grown hg_71 (by intro e; injection e with e; have := sz0.out; have := sz_31.out; have := sz_56.out; omega))
   clear BR_52
   have BN_75 := Lib.hid (BN_53.out.grown hg_71 (by intro e; injection e with e; have := sz0.out; have := sz_31.out; have := sz_56.out; omega))
   clear BN_53
   have BY_76 := Lib.hid (BY_55.out.grown hg_71 (by intro e; injection e with e; have := sz0.out; have := sz_31.out; have := sz_56.out; omega))
   clear BY_55
   have BZ_77 : Hid (Blk ((((((((w2.setCell ⟨w.heap.size + 3, 0, none⟩ (.int .i64 0)).setCell ⟨w.heap.size + 3, 1, none⟩ (.int .i64 0)).setCell ⟨w.heap.size + 3, 2, none⟩ (.int .i64 0)).setCell ⟨w.heap.size + 3, 3, none⟩ (.bool false)).setCell ⟨w.heap.size + 3, 4, none⟩ (.slice none 0 0)).setCell ⟨w.heap.size + 3, 5, none⟩ (.slice none 0 0)).setCell ⟨w.heap.size + 3, 6, none⟩ (.int .i64 0)).setCell ⟨w.heap.size + 3, 7, none⟩ (.slice none 0 0)) (w.heap.size + 3) #[.int .i64 0, .int .i64 0, .int .i64 0, .bool false, .slice none 0 0, .slice none 0 0, .int .i64 0, .slice none 0 0] 39) := Lib.hid (Blk.set (Blk.set (Blk.set (Blk.set (Blk.set (Blk.set (Blk.set (Blk.set (BZ_54.out) 0 (.int .i64 0)) 1 (.int .i64 0)) 2 (.int .i64 0)) 3 (.bool false)) 4 (.slice none 0 0)) 5 (.slice none 0 0)) 6 (.int .i64 0)) 7 (.slice none 0 0))
   clear BZ_54
   have sz_78 := Lib.hid (World.grownBy.size hg_71)
   clear hg_71
   have hg_79 := (grown_cell ((((((((w2.setCell ⟨w.heap.size + 3, 0, none⟩ (.int .i64 0)).setCell ⟨w.heap.size + 3, 1, none⟩ (.int .i64 0)).setCell ⟨w.heap.size + 3, 2, none⟩ (.int .i64 0)).setCell ⟨w.heap.size + 3, 3, none⟩ (.bool false)).setCell ⟨w.heap.size + 3, 4, none⟩ (.slice none 0 0)).setCell ⟨w.heap.size + 3, 5, none⟩ (.slice none 0 0)).setCell ⟨w.heap.size + 3, 6, none⟩ (.int .i64 0)).setCell ⟨w.heap.size + 3, 7, none⟩ (.slice none 0 0)) (w.heap.size + 4) 0 (.int .i64 0)).trans (grown_cell (((((((((w2.setCell ⟨w.heap.size + 3, 0, none⟩ (.int .i64 0)).setCell ⟨w.heap.size + 3, 1, none⟩ (.int .i64 0)).setCell ⟨w.heap.size + 3, 2, none⟩ (.int .i64 0)).setCell ⟨w.heap.size + 3, 3, none⟩ (.bool false)).setCell ⟨w.heap.size + 3, 4, none⟩ (.slice none 0 0)).setCell ⟨w.heap.size + 3, 5, none⟩ (.slice none 0 0)).setCell ⟨w.heap.size + 3, 6, none⟩ (.int .i64 0)).setCell ⟨w.heap.size + 3, 7, none⟩ (.slice none 0 0)).setCell ⟨w.heap.size + 4, 0, none⟩ (.int .i64 0)) (w.heap.size + 4) 1 (.slice none 0 0))
   have H_80 := Lib.hid (H_72.out.grown hg_79 H_72.out.size (fun j hj => by injection hj with hj; have := sz0.out; have := sz_31.out; have := sz_56.out; have := sz_78.out; omega))
   clear H_72
   have BG_81 := Lib.hid (BG_73.out.grown hg_79 (by intro e; injection e with e; have := sz0.out; have := sz_31.out; have := sz_56.out; have := sz_78.out; omega))
   clear BG_73
   have BR_82 := Lib.hid (BR_74.out.grown hg_79 (by intro e; injection e with e; have := sz0.out; have := sz_31.out; have := sz_56.out; have := sz_78.out; omega))
   clear BR_74
   have BN_83 := Lib.hid (BN_75.out.grown hg_79 (by intro e; injection e with e; have := sz0.out; have := sz_31.out; have := sz_56.out; have := sz_78.out; omega))
   clear BN_75
   have BZ_84 := Lib.hid (BZ_77.out.grown hg_79 (by intro e; injection e with e; have := sz0.out; have := sz_31.out; have := sz_56.out; have := sz_78.out; omega))
   clear BZ_77
   have BY_85 : Hid (Blk ((((((((((w2.setCell ⟨w.heap.size + 3, 0, none⟩ (.int .i64 0)).setCell ⟨w.heap.size + 3, 1, none⟩ (.int .i64 0)).setCell ⟨w.heap.size + 3, 2, none⟩ (.int .i64 0)).setCell ⟨w.heap.size + 3, 3, none⟩ (.bool false)).setCell ⟨w.heap.size + 3, 4, none⟩ (.slice none 0 0)).setCell ⟨w.heap.size + 3, 5, none⟩ (.slice none 0 0)).setCell ⟨w.heap.size + 3, 6, none⟩ (.int .i64 0)).setCell ⟨w.heap.size + 3, 7, none⟩ (.slice none 0 0)).setCell ⟨w.heap.size + 4, 0, none⟩ (.int .i64 0)).setCell ⟨w.heap.size + 4, 1, none⟩ (.slice none 0 0)) (w.heap.size + 4) #[.int .i64 0, .slice none 0 0] 37) := Lib.hid (Blk.set (Blk.set (BY_76.out) 0 (.int .i64 0)) 1 (.slice none 0 0))
   clear BY_76
   have sz_86 := Lib.hid (World.grownBy.size hg_79)
   clear hg_79
   obtain ⟨-, z0, z1, z2, z3, z4, z5, z6, z7⟩ := BZ_84.out.eight
   have y0 := BY_85.out.cell (i := 0) rfl
   have y1 := BY_85.out.cell (i := 1) rfl
   refine bodyPost_ret (v := .tuple #[.agg #[.int .i64 0, .int .i64 0, .int .i64 0, .bool false, .slice none 0 0, .slice none 0 0, .int .i64 0, .slice none 0 0], .agg #[.int .i64 0, .slice none 0 0]]) (by simp [results, Tryz.results11, go_sem, z0, z1, z2, z3, z4, z5, z6, z7, y0, y1]) rfl ?_
   exact MadeRV.no H_80.out
  | true =>
   rw [hv0] at C1
   cases hs0 : (setB M nw && decide (M = N)) with
   | false =>
    rw [hs0] at C2
    simp only [Bool.and_false, Bool.false_eq_true, if_false]
    clear hb CC CS
    have H_1 := Lib.hid (g_chain (g_chain (g_chain (g_chain (g_chain (Below.refl w.heap.size w) (below_a1 w (.cells #[.int .i64 N, .slice AG l cG] 44))) (below_a1 (w.alloc (.cells #[.int .i64 N, .slice AG l cG] 44)) (.cells #[.int .i64 p, .int .i64 s, .int .i64 it, .bool dn, .slice A n c, .slice B m d, .int .i64 nn, .slice C j k] 39))) (below_a1 ((w.alloc (.cells #[.int .i64 N, .slice AG l cG] 44)).alloc (.cells #[.int .i64 p, .int .i64 s, .int .i64 it, .bool dn, .slice A n c, .slice B m d, .int .i64 nn, .slice C j k] 39)) (.cells #[.int .i64 M, .slice D q e] 37))) (below_a1 (((w.alloc (.cells #[.int .i64 N, .slice AG l cG] 44)).alloc (.cells #[.int .i64 p, .int .i64 s, .int .i64 it, .bool dn, .slice A n c, .slice B m d, .int .i64 nn, .slice C j k] 39)).alloc (.cells #[.int .i64 M, .slice D q e] 37)) (.cells #[.int .i64 0, .int .i64 0, .int .i64 0, .bool false, .slice none 0 0, .slice none 0 0, .int .i64 0, .slice none 0 0] 39))) (below_a1 ((((w.alloc (.cells #[.int .i64 N, .slice AG l cG] 44)).alloc (.cells #[.int .i64 p, .int .i64 s, .int .i64 it, .bool dn, .slice A n c, .slice B m d, .int .i64 nn, .slice C j k] 39)).alloc (.cells #[.int .i64 M, .slice D q e] 37)).alloc (.cells #[.int .i64 0, .int .i64 0, .int .i64 0, .bool false, .slice none 0 0, .slice none 0 0, .int .i64 0, .slice none 0 0] 39)) (.cells #[.int .i64 0, .slice none 0 0] 37)))
    have BG_2 : Hid (Blk (((((w.alloc (.cells #[.int .i64 N, .slice AG l cG] 44)).alloc (.cells #[.int .i64 p, .int .i64 s, .int .i64 it, .bool dn, .slice A n c, .slice B m d, .int .i64 nn, .slice C j k] 39)).alloc (.cells #[.int .i64 M, .slice D q e] 37)).alloc (.cells #[.int .i64 0, .int .i64 0, .int .i64 0, .bool false, .slice none 0 0, .slice none 0 0, .int .i64 0, .slice none 0 0] 39)).alloc (.cells #[.int .i64 0, .slice none 0 0] 37)) (w.heap.size) #[.int .i64 N, .slice AG l cG] 44) := Lib.hid (by have h := ((((Blk.new w #[.int .i64 N, .slice AG l cG] 44).alloc (.cells #[.int .i64 p, .int .i64 s, .int .i64 it, .bool dn, .slice A n c, .slice B m d, .int .i64 nn, .slice C j k] 39)).alloc (.cells #[.int .i64 M, .slice D q e] 37)).alloc (.cells #[.int .i64 0, .int .i64 0, .int .i64 0, .bool false, .slice none 0 0, .slice none 0 0, .int .i64 0, .slice none 0 0] 39)).alloc (.cells #[.int .i64 0, .slice none 0 0] 37); simpa [Nat.add_assoc] using h)
    have BR_3 : Hid (Blk (((((w.alloc (.cells #[.int .i64 N, .slice AG l cG] 44)).alloc (.cells #[.int .i64 p, .int .i64 s, .int .i64 it, .bool dn, .slice A n c, .slice B m d, .int .i64 nn, .slice C j k] 39)).alloc (.cells #[.int .i64 M, .slice D q e] 37)).alloc (.cells #[.int .i64 0, .int .i64 0, .int .i64 0, .bool false, .slice none 0 0, .slice none 0 0, .int .i64 0, .slice none 0 0] 39)).alloc (.cells #[.int .i64 0, .slice none 0 0] 37)) (w.heap.size + 1) #[.int .i64 p, .int .i64 s, .int .i64 it, .bool dn, .slice A n c, .slice B m d, .int .i64 nn, .slice C j k] 39) := Lib.hid (by have h := (((Blk.new (w.alloc (.cells #[.int .i64 N, .slice AG l cG] 44)) #[.int .i64 p, .int .i64 s, .int .i64 it, .bool dn, .slice A n c, .slice B m d, .int .i64 nn, .slice C j k] 39).alloc (.cells #[.int .i64 M, .slice D q e] 37)).alloc (.cells #[.int .i64 0, .int .i64 0, .int .i64 0, .bool false, .slice none 0 0, .slice none 0 0, .int .i64 0, .slice none 0 0] 39)).alloc (.cells #[.int .i64 0, .slice none 0 0] 37); simpa [Nat.add_assoc] using h)
    have BN_4 : Hid (Blk (((((w.alloc (.cells #[.int .i64 N, .slice AG l cG] 44)).alloc (.cells #[.int .i64 p, .int .i64 s, .int .i64 it, .bool dn, .slice A n c, .slice B m d, .int .i64 nn, .slice C j k] 39)).alloc (.cells #[.int .i64 M, .slice D q e] 37)).alloc (.cells #[.int .i64 0, .int .i64 0, .int .i64 0, .bool false, .slice none 0 0, .slice none 0 0, .int .i64 0, .slice none 0 0] 39)).alloc (.cells #[.int .i64 0, .slice none 0 0] 37)) (w.heap.size + 2) #[.int .i64 M, .slice D q e] 37) := Lib.hid (by have h := ((Blk.new ((w.alloc (.cells #[.int .i64 N, .slice AG l cG] 44)).alloc (.cells #[.int .i64 p, .int .i64 s, .int .i64 it, .bool dn, .slice A n c, .slice B m d, .int .i64 nn, .slice C j k] 39)) #[.int .i64 M, .slice D q e] 37).alloc (.cells #[.int .i64 0, .int .i64 0, .int .i64 0, .bool false, .slice none 0 0, .slice none 0 0, .int .i64 0, .slice none 0 0] 39)).alloc (.cells #[.int .i64 0, .slice none 0 0] 37); simpa [Nat.add_assoc] using h)
    have BZ_5 : Hid (Blk (((((w.alloc (.cells #[.int .i64 N, .slice AG l cG] 44)).alloc (.cells #[.int .i64 p, .int .i64 s, .int .i64 it, .bool dn, .slice A n c, .slice B m d, .int .i64 nn, .slice C j k] 39)).alloc (.cells #[.int .i64 M, .slice D q e] 37)).alloc (.cells #[.int .i64 0, .int .i64 0, .int .i64 0, .bool false, .slice none 0 0, .slice none 0 0, .int .i64 0, .slice none 0 0] 39)).alloc (.cells #[.int .i64 0, .slice none 0 0] 37)) (w.heap.size + 3) #[.int .i64 0, .int .i64 0, .int .i64 0, .bool false, .slice none 0 0, .slice none 0 0, .int .i64 0, .slice none 0 0] 39) := Lib.hid (by have h := (Blk.new (((w.alloc (.cells #[.int .i64 N, .slice AG l cG] 44)).alloc (.cells #[.int .i64 p, .int .i64 s, .int .i64 it, .bool dn, .slice A n c, .slice B m d, .int .i64 nn, .slice C j k] 39)).alloc (.cells #[.int .i64 M, .slice D q e] 37)) #[.int .i64 0, .int .i64 0, .int .i64 0, .bool false, .slice none 0 0, .slice none 0 0, .int .i64 0, .slice none 0 0] 39).alloc (.cells #[.int .i64 0, .slice none 0 0] 37); simpa [Nat.add_assoc] using h)
    have BY_6 : Hid (Blk (((((w.alloc (.cells #[.int .i64 N, .slice AG l cG] 44)).alloc (.cells #[.int .i64 p, .int .i64 s, .int .i64 it, .bool dn, .slice A n c, .slice B m d, .int .i64 nn, .slice C j k] 39)).alloc (.cells #[.int .i64 M, .slice D q e] 37)).alloc (.cells #[.int .i64 0, .int .i64 0, .int .i64 0, .bool false, .slice none 0 0, .slice none 0 0, .int .i64 0, .slice none 0 0] 39)).alloc (.cells #[.int .i64 0, .slice none 0 0] 37)) (w.heap.size + 4) #[.int .i64 0, .slice none 0 0] 37) := Lib.hid (by have h := Blk.new ((((w.alloc (.cells #[.int .i64 N, .slice AG l cG] 44)).alloc (.cells #[.int .i64 p, .int .i64 s, .int .i64 it, .bool dn, .slice A n c, .slice B m d, .int .i64 nn, .slice C j k] 39)).alloc (.cells #[.int .i64 M, .slice D q e] 37)).alloc (.cells #[.int .i64 0, .int .i64 0, .int .i64 0, .bool false, .slice none 0 0, .slice none 0 0, .int .i64 0, .slice none 0 0] 39)) #[.int .i64 0, .slice none 0 0] 37; simpa [Nat.add_assoc] using h)
    have sz0 : Hid (w.heap.size + 5 ≤ (((((w.alloc (.cells #[.int .i64 N, .slice AG l cG] 44)).alloc (.cells #[.int .i64 p, .int .i64 s, .int .i64 it, .bool dn, .slice A n c, .slice B m d, .int .i64 nn, .slice C j k] 39)).alloc (.cells #[.int .i64 M, .slice D q e] 37)).alloc (.cells #[.int .i64 0, .int .i64 0, .int .i64 0, .bool false, .slice none 0 0, .slice none 0 0, .int .i64 0, .slice none 0 0] 39)).alloc (.cells #[.int .i64 0, .slice none 0 0] 37)).heap.size) := Lib.hid (by simp)
    go_enter Tryz.func11, Tryz.ntmps11
    have x_7 := BG_2.out.cell (i := 0) rfl
    have x_8 := BG_2.out.cell (i := 1) rfl
    have fz_9 := fun i => BG_2.out.frozen i
    have lt_10 := BG_2.out.lt
    have x_11 := BR_3.out.cell (i := 0) rfl
    have x_12 := BR_3.out.cell (i := 1) rfl
    have x_13 := BR_3.out.cell (i := 2) rfl
    have x_14 := BR_3.out.cell (i := 3) rfl
    have x_15 := BR_3.out.cell (i := 4) rfl
    have x_16 := BR_3.out.cell (i := 5) rfl
    have x_17 := BR_3.out.cell (i := 6) rfl
    have x_18 := BR_3.out.cell (i := 7) rfl
    have fz_19 := fun i => BR_3.out.frozen i
    have lt_20 := BR_3.out.lt
    have x_21 := BN_4.out.cell (i := 0) rfl
    have x_22 := BN_4.out.cell (i := 1) rfl
    have fz_23 := fun i => BN_4.out.frozen i
    have lt_24 := BN_4.out.lt
    go_wp2_with fail
    refine (C0.out _ H_1.out).mono ?_
    rintro e w1 ⟨rfl, hb⟩
    clear x_7
    clear x_8
    clear fz_9
    clear lt_10
    clear x_11
    clear x_12
    clear x_13
    clear x_14
    clear x_15
    clear x_16
    clear x_17
    clear x_18
    clear fz_19
    clear lt_20
    clear x_21
    clear x_22
    clear fz_23
    clear lt_24
    have H_25 := Lib.hid (g_chain H_1.out hb)
    clear H_1
    have BG_26 := Lib.hid (BG_2.out.below hb)
    clear BG_2
    have BR_27 := Lib.hid (BR_3.out.below hb)
    clear BR_3
    have BN_28 := Lib.hid (BN_4.out.below hb)
    clear BN_4
    have BZ_29 := Lib.hid (BZ_5.out.below hb)
    clear BZ_5
    have BY_30 := Lib.hid (BY_6.out.below hb)
    clear BY_6
    have sz_31 := Lib.hid (Below.size hb)
    clear hb
    have x_32 := BG_26.out.cell (i := 0) rfl
    have x_33 := BG_26.out.cell (i := 1) rfl
    have fz_34 := fun i => BG_26.out.frozen i
    have lt_35 := BG_26.out.lt
    have x_36 := BR_27.out.cell (i := 0) rfl
    have x_37 := BR_27.out.cell (i := 1) rfl
    have x_38 := BR_27.out.cell (i := 2) rfl
    have x_39 := BR_27.out.cell (i := 3) rfl
    have x_40 := BR_27.out.cell (i := 4) rfl
    have x_41 := BR_27.out.cell (i := 5) rfl
    have x_42 := BR_27.out.cell (i := 6) rfl
    have x_43 := BR_27.out.cell (i := 7) rfl
    have fz_44 := fun i => BR_27.out.frozen i
    have lt_45 := BR_27.out.lt
    have x_46 := BN_28.out.cell (i := 0) rfl
    have x_47 := BN_28.out.cell (i := 1) rfl
    have fz_48 := fun i => BN_28.out.frozen i
    have lt_49 := BN_28.out.lt
    go_wp2_with fail
    refine (C1.out _).mono ?_
    rintro e w2 ⟨rfl, hb⟩
    clear x_32
    clear x_33
    clear fz_34
    clear lt_35
    clear x_36
    clear x_37
    clear x_38
    clear x_39
    clear x_40
    clear x_41
    clear x_42
    clear x_43
    clear fz_44
    clear lt_45
    clear x_46
    clear x_47
    clear fz_48
    clear lt_49
    have H_50 := Lib.hid (g_chain H_25.out hb)
    clear H_25
    have BG_51 := Lib.hid (BG_26.out.below hb)
    clear BG_26
    have BR_52 := Lib.hid (BR_27.out.below hb)
    clear BR_27
    have BN_53 := Lib.hid (BN_28.out.below hb)
    clear BN_28
    have BZ_54 := Lib.hid (BZ_29.out.below hb)
    clear BZ_29
    have BY_55 := Lib.hid (BY_30.out.below hb)
    clear BY_30
    have sz_56 := Lib.hid (Below.size hb)
    clear hb
    have x_57 := BG_51.out.cell (i := 0) rfl
    have x_58 := BG_51.out.cell (i := 1) rfl
    have fz_59 := fun i => BG_51.out.frozen i
    have lt_60 := BG_51.out.lt
    have x_61 := BR_52.out.cell (i := 0) rfl
    have x_62 := BR_52.out.cell (i := 1) rfl
    have x_63 := BR_52.out.cell (i := 2) rfl
    have x_64 := BR_52.out.cell (i := 3) rfl
    have x_65 := BR_52.out.cell (i := 4) rfl
    have x_66 := BR_52.out.cell (i := 5) rfl
    have x_67 := BR_52.out.cell (i := 6) rfl
    have x_68 := BR_52.out.cell (i := 7) rfl
    have fz_69 := fun i => BR_52.out.frozen i
    have lt_70 := BR_52.out.lt
    have x_71 := BN_53.out.cell (i := 0) rfl
    have x_72 := BN_53.out.cell (i := 1) rfl
    have fz_73 := fun i => BN_53.out.frozen i
    have lt_74 := BN_53.out.lt
    go_wp2_with fail
    refine (C2.out _ H_50.out).mono ?_
    rintro e w3 ⟨rfl, hb⟩
    clear x_57
    clear x_58
    clear fz_59
    clear lt_60
    clear x_61
    clear x_62
    clear x_63
    clear x_64
    clear x_65
    clear x_66
    clear x_67
    clear x_68
    clear fz_69
    clear lt_70
    clear x_71
    clear x_72
    clear fz_73
    clear lt_74
    have H_75 := Lib.hid (g_chain H_50.out hb)
    clear H_50
    have BG_76 := Lib.hid (BG_51.out.below hb)
    clear BG_51
    have BR_77 := Lib.hid (BR_52.out.below hb)
    clear BR_52
    have BN_78 := Lib.hid (BN_53.out.below hb)
    clear BN_53
    have BZ_79 := Lib.hid (BZ_54.out.below hb)
    clear BZ_54
    have BY_80 := Lib.hid (BY_55.out.below hb)
    clear BY_55
    have sz_81 := Lib.hid (Below.size hb)
    clear hb
    have x_82 := BZ_79.out.cell (i := 0) rfl
    have x_83 := BZ_79.out.cell (i := 1) rfl
    have x_84 := BZ_79.out.cell (i := 2) rfl
    have x_85 := BZ_79.out.cell (i := 3) rfl
    have x_86 := BZ_79.out.cell (i := 4) rfl
    have x_87 := BZ_79.out.cell (i := 5) rfl
    have x_88 := BZ_79.out.cell (i := 6) rfl
    have x_89 := BZ_79.out.cell (i := 7) rfl
    have fz_90 := fun i => BZ_79.out.frozen i
    have lt_91 := BZ_79.out.lt
    have x_92 := BY_80.out.cell (i := 0) rfl
    have x_93 := BY_80.out.cell (i := 1) rfl
    have fz_94 := fun i => BY_80.out.frozen i
    have lt_95 := BY_80.out.lt
    go_wp2
    clear x_82 x_83 x_84 x_85 x_86 x_87 x_88 x_89 fz_90 lt_91 x_92 x_93 fz_94 lt_95
    have hg_96 := (((((((grown_cell w3 (w.heap.size + 3) 0 (.int .i64 0)).trans (grown_cell (w3.setCell ⟨w.heap.size + 3, 0, none⟩ (.int .i64 0)) (w.heap.size + 3) 1 (.int .i64 0))).trans (grown_cell ((w3.setCell ⟨w.heap.size + 3, 0, none⟩ (.int .i64 0)).setCell ⟨w.heap.size + 3, 1, none⟩ (.int .i64 0)) (w.heap.size + 3) 2 (.int .i64 0))).trans (grown_cell (((w3.setCell ⟨w.heap.size + 3, 0, none⟩ (.int .i64 0)).setCell ⟨w.heap.size + 3, 1, none⟩ (.int .i64 0)).setCell ⟨w.heap.size + 3, 2, none⟩ (.int .i64 0)) (w.heap.size + 3) 3 (.bool false))).trans (grown_cell ((((w3.setCell ⟨w.heap.size + 3, 0, none⟩ (.int .i64 0)).setCell ⟨w.heap.size + 3, 1, none⟩ (.int .i64 0)).setCell ⟨w.heap.size + 3, 2, none⟩ (.int .i64 0)).setCell ⟨w.heap.size + 3, 3, none⟩ (.bool false)) (w.heap.size + 3) 4 (.slice none 0 0))).trans (grown_cell (((((w3.setCell ⟨w.heap.size + 3, 0, none⟩ (.int .i64 0)).setCell ⟨w.heap.size + 3, 1, none⟩ (.int .i64 0)).setCell ⟨w.heap.size + 3, 2, none⟩ (.int .i64 0)).setCell ⟨w.heap.size + 3, 3, none⟩ (.bool false)).setCell ⟨w.heap.size + 3, 4, none⟩ (.slice none 0 0)) (w.heap.size + 3) 5 (.slice none 0 0))).trans (grown_cell ((((((w3.setCell ⟨w.heap.size + 3, 0, none⟩ (.int .i64 0)).setCell ⟨w.heap.size + 3, 1, none⟩ (.int .i64 0)).setCell ⟨w.heap.size + 3, 2, none⟩ (.int .i64 0)).setCell ⟨w.heap.size + 3, 3, none⟩ (.bool false)).setCell ⟨w.heap.size + 3, 4, none⟩ (.slice none 0 0)).setCell ⟨w.heap.size + 3, 5, none⟩ (.slice none 0 0)) (w.heap.size + 3) 6 (.int .i64 0))).trans (grown_cell (((((((w3.setCell ⟨w.heap.size + 3, 0, none⟩ (.int .i64 0)).setCell ⟨w.heap.size + 3, 1, none⟩ (.int .i64 0)).setCell ⟨w.heap.size + 3, 2, none⟩ (.int .i64 0)).setCell ⟨w.heap.size + 3, 3, none⟩ (.bool false)).setCell ⟨w.heap.size + 3, 4, none⟩ (.slice none 0 0)).setCell ⟨w.heap.size + 3, 5, none⟩ (.slice none 0 0)).setCell ⟨w.heap.size + 3, 6, none⟩ (.int .i64 0)) (w.heap.size + 3) 7 (.slice none 0 0))
    have H_97 := Lib.hid (H_75.out.grown hg_96 H_75.out.size (fun j hj => by injection hj with hj; have := sz0.out; have := sz_31.out; have := sz_56.out; have := sz_81.out; omega))
    clear H_75
    have BG_98 := Lib.hid (BG_76.out.grown hg_96 (by intro e; injection e with e; have := sz0.out; have := sz_31.out; have := sz_56.out; have := sz_81.out; omega))
    clear BG_76
    have BR_99 := Lib.hid (BR_77.out.grown hg_96 (by intro e; injection e with e; have := sz0.out; have := sz_31.out; have := sz_56.out; have := sz_81.out; omega))
    clear BR_77
    have BN_100 := Lib.hid (BN_78.out.grown hg_96 (by intro e; injection e with e; have := sz0.out; have := sz_31.out; have := sz_56.out; have := sz_81.out; omega))
    clear BN_78
    have BY_101 := Lib.hid (BY_80.out.grown hg_96 (by intro e; injection e with e; have := sz0.out; have := sz_31.out; have := sz_56.out; have := sz_81.out; omega))
    clear BY_80
    have BZ_102 : Hid (Blk ((((((((w3.setCell ⟨w.heap.size + 3, 0, none⟩ (.int .i64 0)).setCell ⟨w.heap.size + 3, 1, none⟩ (.int .i64 0)).setCell ⟨w.heap.size + 3, 2, none⟩ (.int .i64 0)).setCell ⟨w.heap.size + 3, 3, none⟩ (.bool false)).setCell ⟨w.heap.size + 3, 4, none⟩ (.slice none 0 0)).setCell ⟨w.heap.size + 3, 5, none⟩ (.slice none 0 0)).setCell ⟨w.heap.size + 3, 6, none⟩ (.int .i64 0)).setCell ⟨w.heap.size + 3, 7, none⟩ (.slice none 0 0)) (w.heap.size + 3) #[.int .i64 0, .int .i64 0, .int .i64 0, .bool false, .slice none 0 0, .slice none 0 0, .int .i64 0, .slice none 0 0] 39) := Lib.hid (Blk.set (Blk.set (Blk.set (Blk.set (Blk.set (Blk.set (Blk.set (Blk.set (BZ_79.out) 0 (.int .i64 0)) 1 (.int .i64 0)) 2 (.int .i64 0)) 3 (.bool false)) 4 (.slice none 0 0)) 5 (.slice none 0 0)) 6 (.int .i64 0)) 7 (.slice none 0 0))
    clear BZ_79
    have sz_103 := Lib.hid (World.grownBy.size hg_96)
    clear hg_96
    have hg_104 := (grown_cell ((((((((w3.setCell ⟨w.heap.size + 3, 0, none⟩ (.int .i64 0)).setCell ⟨w.heap.size + 3, 1, none⟩ (.int .i64 0)).setCell ⟨w.heap.size + 3, 2, none⟩ (.int .i64 0)).setCell ⟨w.heap.size + 3, 3, none⟩ (.bool false)).setCell ⟨w.heap.size + 3, 4, none⟩ (.slice none 0 0)).setCell ⟨w.heap.size + 3, 5, none⟩ (.slice none 0 0)).setCell ⟨w.heap.size + 3, 6, none⟩ (.int .i64 0)).setCell ⟨w.heap.size + 3, 7, none⟩ (.slice none 0 0)) (w.heap.size + 4) 0 (.int .i64 0)).trans (grown_cell (((((((((w3.setCell ⟨w.heap.size + 3, 0, none⟩ (.int .i64 0)).setCell ⟨w.heap.size + 3, 1, none⟩ (.int .i64 0)).setCell ⟨w.heap.size + 3, 2, none⟩ (.int .i64 0)).setCell ⟨w.heap.size + 3, 3, none⟩ (.bool false)).setCell ⟨w.heap.size + 3, 4, none⟩ (.slice none 0 0)).setCell ⟨w.heap.size + 3, 5, none⟩ (.slice none 0 0)).setCell ⟨w.heap.size + 3, 6, none⟩ (.int .i64 0)).setCell ⟨w.heap.size + 3, 7, none⟩ (.slice none 0 0)).setCell ⟨w.heap.size + 4, 0, none⟩ (.int .i64 0)) (w.heap.size + 4) 1 (.slice none 0 0))
    have H_105 := Lib.hid (H_97.out.grown hg_104 H_97.out.size (fun j hj => by injection hj with hj; have := sz0.out; have := sz_31.out; have := sz_56.out; have := sz_81.out; have := sz_103.out; omega))
    clear H_97
    have BG_106 := Lib.hid (BG_98.out.grown hg_104 (by intro e; injection e with e; have := sz0.out; have := sz_31.out; have := sz_56.out; have := sz_81.out; have := sz_103.out; omega))
    clear BG_98
    have BR_107 := Lib.hid (BR_99.out.grown hg_104 (by intro e; injection e with e; have := sz0.out; have := sz_31.out; have := sz_56.out; have := sz_81.out; have := sz_103.out; omega))
    clear BR_99
    have BN_108 := Lib.hid (BN_100.out.grown hg_104 (by intro e; injection e with e; have := sz0.out; have := sz_31.out; have := sz_56.out; have := sz_81.out; have := sz_103.out; omega))
    clear BN_100
    have BZ_109 := Lib.hid (BZ_102.out.grown hg_104 (by intro e; injection e with e; have := sz0.out; have := sz_31.out; have := sz_56.out; have := sz_81.out; have := sz_103.out; omega))
    clear BZ_102
    have BY_110 : Hid (Blk ((((((((((w3.setCell ⟨w.heap.size + 3, 0, none⟩ (.int .i64 0)).setCell ⟨w.heap.size + 3, 1, none⟩ (.int .i64 0)).setCell ⟨w.heap.size + 3, 2, none⟩ (.int .i64 0)).setCell ⟨w.heap.size + 3, 3, none⟩ (.bool false)).setCell ⟨w.heap.size + 3, 4, none⟩ (.slice none 0 0)).setCell ⟨w.heap.size + 3, 5, none⟩ (.slice none 0 0)).setCell ⟨w.heap.size + 3, 6, none⟩ (.int .i64 0)).setCell ⟨w.heap.size + 3, 7, none⟩ (.slice none 0 0)).setCell ⟨w.heap.size + 4, 0, none⟩ (.int .i64 0)).setCell ⟨w.heap.size + 4, 1, none⟩ (.slice none 0 0)) (w.heap.size + 4) #[.int .i64 0, .slice none 0 0] 37) := Lib.hid (Blk.set (Blk.set (BY_101.out) 0 (.int .i64 0)) 1 (.slice none 0 0))
    clear BY_101
    have sz_111 := Lib.hid (World.grownBy.size hg_104)
    clear hg_104
    obtain ⟨-, z0, z1, z2, z3, z4, z5, z6, z7⟩ := BZ_109.out.eight
    have y0 := BY_110.out.cell (i := 0) rfl
    have y1 := BY_110.out.cell (i := 1) rfl
    refine bodyPost_ret (v := .tuple #[.agg #[.int .i64 0, .int .i64 0, .int .i64 0, .bool false, .slice none 0 0, .slice none 0 0, .int .i64 0, .slice none 0 0], .agg #[.int .i64 0, .slice none 0 0]]) (by simp [results, Tryz.results11, go_sem, z0, z1, z2, z3, z4, z5, z6, z7, y0, y1]) rfl ?_
    exact MadeRV.no H_105.out
   | true =>
    rw [hs0] at C2
    simp only [Bool.and_true, if_true]
    simp only [Bool.and_eq_true, decide_eq_true_eq] at hs0 hv0
    obtain ⟨hs1, rfl⟩ := hs0
    obtain ⟨N, rfl⟩ := runB_nat hb
    have HR := Lib.hid (runB_iff.1 hb)
    have hnn := HR.out.nn
    simp only at hnn
    subst hnn
    obtain ⟨v, rfl⟩ : ∃ z : Nat, v = (z : Int) := ⟨v.toNat, by omega⟩
    have hvN : v < N := by omega
    have HGD := Lib.hid (vert_good HR.out HSX.out hs1 HSN.out)
    have hp := HR.out.prog
    simp only at hp HGD
    have HT : Hid (vertT (N : Int) G ⟨p, s, it, dn, vs, ev, (N : Int), nx⟩ nw (v : Int) = vstep p (N : Int) G ⟨vs, ev, nx, nw⟩ v) := Lib.hid (by unfold vertT; simp only [Int.toNat_natCast])
    rw [HT.out]
    clear hb hv0 hs1 HT
    have H_1 := Lib.hid (g_chain (g_chain (g_chain (g_chain (g_chain (Below.refl w.heap.size w) (below_a1 w (.cells #[.int .i64 (N : Int), .slice AG l cG] 44))) (below_a1 (w.alloc (.cells #[.int .i64 (N : Int), .slice AG l cG] 44)) (.cells #[.int .i64 p, .int .i64 s, .int .i64 it, .bool dn, .slice A n c, .slice B m d, .int .i64 (N : Int), .slice C j k] 39))) (below_a1 ((w.alloc (.cells #[.int .i64 (N : Int), .slice AG l cG] 44)).alloc (.cells #[.int .i64 p, .int .i64 s, .int .i64 it, .bool dn, .slice A n c, .slice B m d, .int .i64 (N : Int), .slice C j k] 39)) (.cells #[.int .i64 (N : Int), .slice D q e] 37))) (below_a1 (((w.alloc (.cells #[.int .i64 (N : Int), .slice AG l cG] 44)).alloc (.cells #[.int .i64 p, .int .i64 s, .int .i64 it, .bool dn, .slice A n c, .slice B m d, .int .i64 (N : Int), .slice C j k] 39)).alloc (.cells #[.int .i64 (N : Int), .slice D q e] 37)) (.cells #[.int .i64 0, .int .i64 0, .int .i64 0, .bool false, .slice none 0 0, .slice none 0 0, .int .i64 0, .slice none 0 0] 39))) (below_a1 ((((w.alloc (.cells #[.int .i64 (N : Int), .slice AG l cG] 44)).alloc (.cells #[.int .i64 p, .int .i64 s, .int .i64 it, .bool dn, .slice A n c, .slice B m d, .int .i64 (N : Int), .slice C j k] 39)).alloc (.cells #[.int .i64 (N : Int), .slice D q e] 37)).alloc (.cells #[.int .i64 0, .int .i64 0, .int .i64 0, .bool false, .slice none 0 0, .slice none 0 0, .int .i64 0, .slice none 0 0] 39)) (.cells #[.int .i64 0, .slice none 0 0] 37)))
    have BG_2 : Hid (Blk (((((w.alloc (.cells #[.int .i64 (N : Int), .slice AG l cG] 44)).alloc (.cells #[.int .i64 p, .int .i64 s, .int .i64 it, .bool dn, .slice A n c, .slice B m d, .int .i64 (N : Int), .slice C j k] 39)).alloc (.cells #[.int .i64 (N : Int), .slice D q e] 37)).alloc (.cells #[.int .i64 0, .int .i64 0, .int .i64 0, .bool false, .slice none 0 0, .slice none 0 0, .int .i64 0, .slice none 0 0] 39)).alloc (.cells #[.int .i64 0, .slice none 0 0] 37)) (w.heap.size) #[.int .i64 (N : Int), .slice AG l cG] 44) := Lib.hid (by have h := ((((Blk.new w #[.int .i64 (N : Int), .slice AG l cG] 44).alloc (.cells #[.int .i64 p, .int .i64 s, .int .i64 it, .bool dn, .slice A n c, .slice B m d, .int .i64 (N : Int), .slice C j k] 39)).alloc (.cells #[.int .i64 (N : Int), .slice D q e] 37)).alloc (.cells #[.int .i64 0, .int .i64 0, .int .i64 0, .bool false, .slice none 0 0, .slice none 0 0, .int .i64 0, .slice none 0 0] 39)).alloc (.cells #[.int .i64 0, .slice none 0 0] 37); simpa [Nat.add_assoc] using h)
    have BR_3 : Hid (Blk (((((w.alloc (.cells #[.int .i64 (N : Int), .slice AG l cG] 44)).alloc (.cells #[.int .i64 p, .int .i64 s, .int .i64 it, .bool dn, .slice A n c, .slice B m d, .int .i64 (N : Int), .slice C j k] 39)).alloc (.cells #[.int .i64 (N : Int), .slice D q e] 37)).alloc (.cells #[.int .i64 0, .int .i64 0, .int .i64 0, .bool false, .slice none 0 0, .slice none 0 0, .int .i64 0, .slice none 0 0] 39)).alloc (.cells #[.int .i64 0, .slice none 0 0] 37)) (w.heap.size + 1) #[.int .i64 p, .int .i64 s, .int .i64 it, .bool dn, .slice A n c, .slice B m d, .int .i64 (N : Int), .slice C j k] 39) := Lib.hid (by have h := (((Blk.new (w.alloc (.cells #[.int .i64 (N : Int), .slice AG l cG] 44)) #[.int .i64 p, .int .i64 s, .int .i64 it, .bool dn, .slice A n c, .slice B m d, .int .i64 (N : Int), .slice C j k] 39).alloc (.cells #[.int .i64 (N : Int), .slice D q e] 37)).alloc (.cells #[.int .i64 0, .int .i64 0, .int .i64 0, .bool false, .slice none 0 0, .slice none 0 0, .int .i64 0, .slice none 0 0] 39)).alloc (.cells #[.int .i64 0, .slice none 0 0] 37); simpa [Nat.add_assoc] using h)
    have BN_4 : Hid (Blk (((((w.alloc (.cells #[.int .i64 (N : Int), .slice AG l cG] 44)).alloc (.cells #[.int .i64 p, .int .i64 s, .int .i64 it, .bool dn, .slice A n c, .slice B m d, .int .i64 (N : Int), .slice C j k] 39)).alloc (.cells #[.int .i64 (N : Int), .slice D q e] 37)).alloc (.cells #[.int .i64 0, .int .i64 0, .int .i64 0, .bool false, .slice none 0 0, .slice none 0 0, .int .i64 0, .slice none 0 0] 39)).alloc (.cells #[.int .i64 0, .slice none 0 0] 37)) (w.heap.size + 2) #[.int .i64 (N : Int), .slice D q e] 37) := Lib.hid (by have h := ((Blk.new ((w.alloc (.cells #[.int .i64 (N : Int), .slice AG l cG] 44)).alloc (.cells #[.int .i64 p, .int .i64 s, .int .i64 it, .bool dn, .slice A n c, .slice B m d, .int .i64 (N : Int), .slice C j k] 39)) #[.int .i64 (N : Int), .slice D q e] 37).alloc (.cells #[.int .i64 0, .int .i64 0, .int .i64 0, .bool false, .slice none 0 0, .slice none 0 0, .int .i64 0, .slice none 0 0] 39)).alloc (.cells #[.int .i64 0, .slice none 0 0] 37); simpa [Nat.add_assoc] using h)
    have BZ_5 : Hid (Blk (((((w.alloc (.cells #[.int .i64 (N : Int), .slice AG l cG] 44)).alloc (.cells #[.int .i64 p, .int .i64 s, .int .i64 it, .bool dn, .slice A n c, .slice B m d, .int .i64 (N : Int), .slice C j k] 39)).alloc (.cells #[.int .i64 (N : Int), .slice D q e] 37)).alloc (.cells #[.int .i64 0, .int .i64 0, .int .i64 0, .bool false, .slice none 0 0, .slice none 0 0, .int .i64 0, .slice none 0 0] 39)).alloc (.cells #[.int .i64 0, .slice none 0 0] 37)) (w.heap.size + 3) #[.int .i64 0, .int .i64 0, .int .i64 0, .bool false, .slice none 0 0, .slice none 0 0, .int .i64 0, .slice none 0 0] 39) := Lib.hid (by have h := (Blk.new (((w.alloc (.cells #[.int .i64 (N : Int), .slice AG l cG] 44)).alloc (.cells #[.int .i64 p, .int .i64 s, .int .i64 it, .bool dn, .slice A n c, .slice B m d, .int .i64 (N : Int), .slice C j k] 39)).alloc (.cells #[.int .i64 (N : Int), .slice D q e] 37)) #[.int .i64 0, .int .i64 0, .int .i64 0, .bool false, .slice none 0 0, .slice none 0 0, .int .i64 0, .slice none 0 0] 39).alloc (.cells #[.int .i64 0, .slice none 0 0] 37); simpa [Nat.add_assoc] using h)
    have BY_6 : Hid (Blk (((((w.alloc (.cells #[.int .i64 (N : Int), .slice AG l cG] 44)).alloc (.cells #[.int .i64 p, .int .i64 s, .int .i64 it, .bool dn, .slice A n c, .slice B m d, .int .i64 (N : Int), .slice C j k] 39)).alloc (.cells #[.int .i64 (N : Int), .slice D q e] 37)).alloc (.cells #[.int .i64 0, .int .i64 0, .int .i64 0, .bool false, .slice none 0 0, .slice none 0 0, .int .i64 0, .slice none 0 0] 39)).alloc (.cells #[.int .i64 0, .slice none 0 0] 37)) (w.heap.size + 4) #[.int .i64 0, .slice none 0 0] 37) := Lib.hid (by have h := Blk.new ((((w.alloc (.cells #[.int .i64 (N : Int), .slice AG l cG] 44)).alloc (.cells #[.int .i64 p, .int .i64 s, .int .i64 it, .bool dn, .slice A n c, .slice B m d, .int .i64 (N : Int), .slice C j k] 39)).alloc (.cells #[.int .i64 (N : Int), .slice D q e] 37)).alloc (.cells #[.int .i64 0, .int .i64 0, .int .i64 0, .bool false, .slice none 0 0, .slice none 0 0, .int .i64 0, .slice none 0 0] 39)) #[.int .i64 0, .slice none 0 0] 37; simpa [Nat.add_assoc] using h)
    have sz0 : Hid (w.heap.size + 5 ≤ (((((w.alloc (.cells #[.int .i64 (N : Int), .slice AG l cG] 44)).alloc (.cells #[.int .i64 p, .int .i64 s, .int .i64 it, .bool dn, .slice A n c, .slice B m d, .int .i64 (N : Int), .slice C j k] 39)).alloc (.cells #[.int .i64 (N : Int), .slice D q e] 37)).alloc (.cells #[.int .i64 0, .int .i64 0, .int .i64 0, .bool false, .slice none 0 0, .slice none 0 0, .int .i64 0, .slice none 0 0] 39)).alloc (.cells #[.int .i64 0, .slice none 0 0] 37)).heap.size) := Lib.hid (by simp)
    go_enter Tryz.func11, Tryz.ntmps11
    have x_7 := BG_2.out.cell (i := 0) rfl
    have x_8 := BG_2.out.cell (i := 1) rfl
    have fz_9 := fun i => BG_2.out.frozen i
    have lt_10 := BG_2.out.lt
    have x_11 := BR_3.out.cell (i := 0) rfl
    have x_12 := BR_3.out.cell (i := 1) rfl
    have x_13 := BR_3.out.cell (i := 2) rfl
    have x_14 := BR_3.out.cell (i := 3) rfl
    have x_15 := BR_3.out.cell (i := 4) rfl
    have x_16 := BR_3.out.cell (i := 5) rfl
    have x_17 := BR_3.out.cell (i := 6) rfl
    have x_18 := BR_3.out.cell (i := 7) rfl
    have fz_19 := fun i => BR_3.out.frozen i
    have lt_20 := BR_3.out.lt
    have x_21 := BN_4.out.cell (i := 0) rfl
    have x_22 := BN_4.out.cell (i := 1) rfl
    have fz_23 := fun i => BN_4.out.frozen i
    have lt_24 := BN_4.out.lt
    go_wp2_with fail
    refine (C0.out _ H_1.out).mono ?_
    rintro e w1 ⟨rfl, hb⟩
    clear x_7
    clear x_8
    clear fz_9
    clear lt_10
    clear x_11
    clear x_12
    clear x_13
    clear x_14
    clear x_15
    clear x_16
    clear x_17
    clear x_18
    clear fz_19
    clear lt_20
    clear x_21
    clear x_22
    clear fz_23
    clear lt_24
    have H_25 := Lib.hid (g_chain H_1.out hb)
    clear H_1
    have BG_26 := Lib.hid (BG_2.out.below hb)
    clear BG_2
    have BR_27 := Lib.hid (BR_3.out.below hb)
    clear BR_3
    have BN_28 := Lib.hid (BN_4.out.below hb)
    clear BN_4
    have BZ_29 := Lib.hid (BZ_5.out.below hb)
    clear BZ_5
    have BY_30 := Lib.hid (BY_6.out.below hb)
    clear BY_6
    have sz_31 := Lib.hid (Below.size hb)
    clear hb
    have x_32 := BG_26.out.cell (i := 0) rfl
    have x_33 := BG_26.out.cell (i := 1) rfl
    have fz_34 := fun i => BG_26.out.frozen i
    have lt_35 := BG_26.out.lt
    have x_36 := BR_27.out.cell (i := 0) rfl
    have x_37 := BR_27.out.cell (i := 1) rfl
    have x_38 := BR_27.out.cell (i := 2) rfl
    have x_39 := BR_27.out.cell (i := 3) rfl
    have x_40 := BR_27.out.cell (i := 4) rfl
    have x_41 := BR_27.out.cell (i := 5) rfl
    have x_42 := BR_27.out.cell (i := 6) rfl
    have x_43 := BR_27.out.cell (i := 7) rfl
    have fz_44 := fun i => BR_27.out.frozen i
    have lt_45 := BR_27.out.lt
    have x_46 := BN_28.out.cell (i := 0) rfl
    have x_47 := BN_28.out.cell (i := 1) rfl
    have fz_48 := fun i => BN_28.out.frozen i
    have lt_49 := BN_28.out.lt
    go_wp2_with fail
    refine (C1.out _).mono ?_
    rintro e w2 ⟨rfl, hb⟩
    clear x_32
    clear x_33
    clear fz_34
    clear lt_35
    clear x_36
    clear x_37
    clear x_38
    clear x_39
    clear x_40
    clear x_41
    clear x_42
    clear x_43
    clear fz_44
    clear lt_45
    clear x_46
    clear x_47
    clear fz_48
    clear lt_49
    have H_50 := Lib.hid (g_chain H_25.out hb)
    clear H_25
    have BG_51 := Lib.hid (BG_26.out.below hb)
    clear BG_26
    have BR_52 := Lib.hid (BR_27.out.below hb)
    clear BR_27
    have BN_53 := Lib.hid (BN_28.out.below hb)
    clear BN_28
    have BZ_54 := Lib.hid (BZ_29.out.below hb)
    clear BZ_29
    have BY_55 := Lib.hid (BY_30.out.below hb)
    clear BY_30
    have sz_56 := Lib.hid (Below.size hb)
    clear hb
    have x_57 := BG_51.out.cell (i := 0) rfl
    have x_58 := BG_51.out.cell (i := 1) rfl
    have fz_59 := fun i => BG_51.out.frozen i
    have lt_60 := BG_51.out.lt
    have x_61 := BR_52.out.cell (i := 0) rfl
    have x_62 := BR_52.out.cell (i := 1) rfl
    have x_63 := BR_52.out.cell (i := 2) rfl
    have x_64 := BR_52.out.cell (i := 3) rfl
    have x_65 := BR_52.out.cell (i := 4) rfl
    have x_66 := BR_52.out.cell (i := 5) rfl
    have x_67 := BR_52.out.cell (i := 6) rfl
    have x_68 := BR_52.out.cell (i := 7) rfl
    have fz_69 := fun i => BR_52.out.frozen i
    have lt_70 := BR_52.out.lt
    have x_71 := BN_53.out.cell (i := 0) rfl
    have x_72 := BN_53.out.cell (i := 1) rfl
    have fz_73 := fun i => BN_53.out.frozen i
    have lt_74 := BN_53.out.lt
    go_wp2_with fail
    refine (C2.out _ H_50.out).mono ?_
    rintro e w3 ⟨rfl, hb⟩
    clear x_57
    clear x_58
    clear fz_59
    clear lt_60
    clear x_61
    clear x_62
    clear x_63
    clear x_64
    clear x_65
    clear x_66
    clear x_67
    clear x_68
    clear fz_69
    clear lt_70
    clear x_71
    clear x_72
    clear fz_73
    clear lt_74
    have H_75 := Lib.hid (g_chain H_50.out hb)
    clear H_50
    have BG_76 := Lib.hid (BG_51.out.below hb)
    clear BG_51
    have BR_77 := Lib.hid (BR_52.out.below hb)
    clear BR_52
    have BN_78 := Lib.hid (BN_53.out.below hb)
    clear BN_53
    have BZ_79 := Lib.hid (BZ_54.out.below hb)
    clear BZ_54
    have BY_80 := Lib.hid (BY_55.out.below hb)
    clear BY_55
    have sz_81 := Lib.hid (Below.size hb)
    clear hb
    go_upto_region 3 with fail
    clear C0 C1 C2
    refine wp_region_any (by kernel_rfl) ?_
    change wpAny _ _ _ _ _ _ _ (World.drew _)
    have hb : Below w3.heap.size w3 (World.drew w3) := (Below.refl _ _).drew
    have H_82 := Lib.hid (g_chain H_75.out hb)
    clear H_75
    have BG_83 := Lib.hid (BG_76.out.below hb)
    clear BG_76
    have BR_84 := Lib.hid (BR_77.out.below hb)
    clear BR_77
    have BN_85 := Lib.hid (BN_78.out.below hb)
    clear BN_78
    have BZ_86 := Lib.hid (BZ_79.out.below hb)
    clear BZ_79
    have BY_87 := Lib.hid (BY_80.out.below hb)
    clear BY_80
    have sz_88 := Lib.hid (Below.size hb)
    clear hb
    generalize hDD : World.drew w3 = wd at H_82 BG_83 BR_84 BN_85 BZ_86 BY_87 sz_88 ⊢
    clear hDD
    refine wpAny_of_held (S := fun _ => True) _ _ _ _ ?_
    refine wpAnyH_ready (rs := [0, 2]) (by kernel_rfl) (by simp) (AllReadyH.cons rfl (fun K hK => ?_) (AllReadyH.cons rfl (fun K hK => ?_) AllReadyH.nil))
    ·
     have x_89 := BR_84.out.cell (i := 0) rfl
     have x_90 := BR_84.out.cell (i := 1) rfl
     have x_91 := BR_84.out.cell (i := 2) rfl
     have x_92 := BR_84.out.cell (i := 3) rfl
     have x_93 := BR_84.out.cell (i := 4) rfl
     have x_94 := BR_84.out.cell (i := 5) rfl
     have x_95 := BR_84.out.cell (i := 6) rfl
     have x_96 := BR_84.out.cell (i := 7) rfl
     have xl := BR_84.out.lt
     go_simp
     clear xl x_89 x_90 x_91 x_92 x_93 x_94 x_95 x_96
     refine hK.out _ _ trivial (fun _ => ?_)
     clear hK K
     (try simp only [Act.put, List.setIfInBounds_toArray, List.set_cons_zero, List.set_cons_succ])
     refine wpAnyH_ready (rs := [1, 2]) (by kernel_rfl) (by simp) (AllReadyH.cons rfl (fun K hK => ?_) (AllReadyH.cons rfl (fun K hK => ?_) AllReadyH.nil))
     ·
      go_simp
      go_at_call 35
      refine (CC.out _ H_82.out).mono ?_
      rintro e w1 ⟨A1, c1, B1, d1, C1, k1, rfl, ho, hb⟩
      have H_97 := Lib.hid (g_chain H_82.out hb)
      clear H_82
      have BG_98 := Lib.hid (BG_83.out.below hb)
      clear BG_83
      have BR_99 := Lib.hid (BR_84.out.below hb)
      clear BR_84
      have BN_100 := Lib.hid (BN_85.out.below hb)
      clear BN_85
      have BZ_101 := Lib.hid (BZ_86.out.below hb)
      clear BZ_86
      have BY_102 := Lib.hid (BY_87.out.below hb)
      clear BY_87
      have sz_103 := Lib.hid (Below.size hb)
      have Ov_104 := Lib.hid (ho.v)
      have Oe_105 := Lib.hid (ho.e)
      have Ox_106 := Lib.hid (ho.x)
      have AP := Lib.hid ho.ap
      have HTX := Lib.hid ho.x.lt
      clear ho hb
      dsimp only
      refine hK.out _ _ trivial (fun _ => ?_)
      clear hK K
      (try simp only [Act.put, List.setIfInBounds_toArray, List.set_cons_zero, List.set_cons_succ])
      refine wpAnyH_ready (rs := [2]) (by kernel_rfl) (by simp) (AllReadyH.cons rfl (fun K hK => ?_) AllReadyH.nil)
      have x_107 := BN_100.out.cell (i := 0) rfl
      have x_108 := BN_100.out.cell (i := 1) rfl
      have xl := BN_100.out.lt
      go_simp
      clear xl x_107 x_108
      refine hK.out _ _ trivial (fun _ => ?_)
      clear hK K
      (try simp only [Act.put, List.setIfInBounds_toArray, List.set_cons_zero, List.set_cons_succ])
      refine wpAnyH_ready (rs := [3]) (by kernel_rfl) (by simp) (AllReadyH.cons rfl (fun K hK => ?_) AllReadyH.nil)
      go_simp
      go_at_call 36
      refine (CS.out _ H_97.out).mono ?_
      rintro e w2 ⟨D1, e1, rfl, ho, hb⟩
      have HAP := Lib.hid (own_time HTX.out ho (Nat.le_refl _))
      have H_109 := Lib.hid (g_chain H_97.out hb)
      clear H_97
      have BG_110 := Lib.hid (BG_98.out.below hb)
      clear BG_98
      have BR_111 := Lib.hid (BR_99.out.below hb)
      clear BR_99
      have BN_112 := Lib.hid (BN_100.out.below hb)
      clear BN_100
      have BZ_113 := Lib.hid (BZ_101.out.below hb)
      clear BZ_101
      have BY_114 := Lib.hid (BY_102.out.below hb)
      clear BY_102
      have Ov_115 := Lib.hid (own_below Ov_104.out hb)
      clear Ov_104
      have Oe_116 := Lib.hid (own_below Oe_105.out hb)
      clear Oe_105
      have Ox_117 := Lib.hid (own_below Ox_106.out hb)
      clear Ox_106
      have sz_118 := Lib.hid (Below.size hb)
      have Od_119 := Lib.hid (ho)
      clear ho hb
      dsimp only
      refine hK.out _ _ trivial (fun _ => ?_)
      clear hK K
      (try simp only [Act.put, List.setIfInBounds_toArray, List.set_cons_zero, List.set_cons_succ])
      refine wpAnyH_ready (rs := [4]) (by kernel_rfl) (by simp) (AllReadyH.cons rfl (fun K hK => ?_) AllReadyH.nil)
      obtain ⟨zl, z0, z1, z2, z3, z4, z5, z6, z7⟩ := BR_111.out.eight
      obtain ⟨f0, f1, f2, f3, f4, f5, f6, f7⟩ := BR_111.out.eightF
      go_simp
      clear zl z0 z1 z2 z3 z4 z5 z6 z7 f0 f1 f2 f3 f4 f5 f6 f7
      have hg_120 := (((((((grown_cell w2 (w.heap.size + 1) 0 (.int .i64 p)).trans (grown_cell (w2.setCell ⟨w.heap.size + 1, 0, none⟩ (.int .i64 p)) (w.heap.size + 1) 1 (.int .i64 s))).trans (grown_cell ((w2.setCell ⟨w.heap.size + 1, 0, none⟩ (.int .i64 p)).setCell ⟨w.heap.size + 1, 1, none⟩ (.int .i64 s)) (w.heap.size + 1) 2 (.int .i64 it))).trans (grown_cell (((w2.setCell ⟨w.heap.size + 1, 0, none⟩ (.int .i64 p)).setCell ⟨w.heap.size + 1, 1, none⟩ (.int .i64 s)).setCell ⟨w.heap.size + 1, 2, none⟩ (.int .i64 it)) (w.heap.size + 1) 3 (.bool dn))).trans (grown_cell ((((w2.setCell ⟨w.heap.size + 1, 0, none⟩ (.int .i64 p)).setCell ⟨w.heap.size + 1, 1, none⟩ (.int .i64 s)).setCell ⟨w.heap.size + 1, 2, none⟩ (.int .i64 it)).setCell ⟨w.heap.size + 1, 3, none⟩ (.bool dn)) (w.heap.size + 1) 4 (.slice A1 n c1))).trans (grown_cell (((((w2.setCell ⟨w.heap.size + 1, 0, none⟩ (.int .i64 p)).setCell ⟨w.heap.size + 1, 1, none⟩ (.int .i64 s)).setCell ⟨w.heap.size + 1, 2, none⟩ (.int .i64 it)).setCell ⟨w.heap.size + 1, 3, none⟩ (.bool dn)).setCell ⟨w.heap.size + 1, 4, none⟩ (.slice A1 n c1)) (w.heap.size + 1) 5 (.slice B1 m d1))).trans (grown_cell ((((((w2.setCell ⟨w.heap.size + 1, 0, none⟩ (.int .i64 p)).setCell ⟨w.heap.size + 1, 1, none⟩ (.int .i64 s)).setCell ⟨w.heap.size + 1, 2, none⟩ (.int .i64 it)).setCell ⟨w.heap.size + 1, 3, none⟩ (.bool dn)).setCell ⟨w.heap.size + 1, 4, none⟩ (.slice A1 n c1)).setCell ⟨w.heap.size + 1, 5, none⟩ (.slice B1 m d1)) (w.heap.size + 1) 6 (.int .i64 (N : Int)))).trans (grown_cell (((((((w2.setCell ⟨w.heap.size + 1, 0, none⟩ (.int .i64 p)).setCell ⟨w.heap.size + 1, 1, none⟩ (.int .i64 s)).setCell ⟨w.heap.size + 1, 2, none⟩ (.int .i64 it)).setCell ⟨w.heap.size + 1, 3, none⟩ (.bool dn)).setCell ⟨w.heap.size + 1, 4, none⟩ (.slice A1 n c1)).setCell ⟨w.heap.size + 1, 5, none⟩ (.slice B1 m d1)).setCell ⟨w.heap.size + 1, 6, none⟩ (.int .i64 (N : Int))) (w.heap.size + 1) 7 (.slice C1 j k1))
      have H_121 := Lib.hid (H_109.out.grown hg_120 H_109.out.size (fun j hj => by injection hj with hj; have := sz0.out; have := sz_31.out; have := sz_56.out; have := sz_81.out; have := sz_88.out; have := sz_103.out; have := sz_118.out; omega))
      clear H_109
      have BG_122 := Lib.hid (BG_110.out.grown hg_120 (by intro e; injection e with e; have := sz0.out; have := sz_31.out; have := sz_56.out; have := sz_81.out; have := sz_88.out; have := sz_103.out; have := sz_118.out; omega))
      clear BG_110
      have BN_123 := Lib.hid (BN_112.out.grown hg_120 (by intro e; injection e with e; have := sz0.out; have := sz_31.out; have := sz_56.out; have := sz_81.out; have := sz_88.out; have := sz_103.out; have := sz_118.out; omega))
      clear BN_112
      have BZ_124 := Lib.hid (BZ_113.out.grown hg_120 (by intro e; injection e with e; have := sz0.out; have := sz_31.out; have := sz_56.out; have := sz_81.out; have := sz_88.out; have := sz_103.out; have := sz_118.out; omega))
      clear BZ_113
      have BY_125 := Lib.hid (BY_114.out.grown hg_120 (by intro e; injection e with e; have := sz0.out; have := sz_31.out; have := sz_56.out; have := sz_81.out; have := sz_88.out; have := sz_103.out; have := sz_118.out; omega))
      clear BY_114
      have Ov_126 := Lib.hid (own_kept Ov_115.out hg_120 (own_kind Ov_115.out BR_111.out (by decide)))
      clear Ov_115
      have Oe_127 := Lib.hid (own_kept Oe_116.out hg_120 (own_kind Oe_116.out BR_111.out (by decide)))
      clear Oe_116
      have Ox_128 := Lib.hid (own_kept Ox_117.out hg_120 (own_kind Ox_117.out BR_111.out (by decide)))
      clear Ox_117
      have Od_129 := Lib.hid (own_kept Od_119.out hg_120 (own_kind Od_119.out BR_111.out (by decide)))
      clear Od_119
      have BR_130 : Hid (Blk ((((((((w2.setCell ⟨w.heap.size + 1, 0, none⟩ (.int .i64 p)).setCell ⟨w.heap.size + 1, 1, none⟩ (.int .i64 s)).setCell ⟨w.heap.size + 1, 2, none⟩ (.int .i64 it)).setCell ⟨w.heap.size + 1, 3, none⟩ (.bool dn)).setCell ⟨w.heap.size + 1, 4, none⟩ (.slice A1 n c1)).setCell ⟨w.heap.size + 1, 5, none⟩ (.slice B1 m d1)).setCell ⟨w.heap.size + 1, 6, none⟩ (.int .i64 (N : Int))).setCell ⟨w.heap.size + 1, 7, none⟩ (.slice C1 j k1)) (w.heap.size + 1) #[.int .i64 p, .int .i64 s, .int .i64 it, .bool dn, .slice A1 n c1, .slice B1 m d1, .int .i64 (N : Int), .slice C1 j k1] 39) := Lib.hid (Blk.set (Blk.set (Blk.set (Blk.set (Blk.set (Blk.set (Blk.set (Blk.set (BR_111.out) 0 (.int .i64 p)) 1 (.int .i64 s)) 2 (.int .i64 it)) 3 (.bool dn)) 4 (.slice A1 n c1)) 5 (.slice B1 m d1)) 6 (.int .i64 (N : Int))) 7 (.slice C1 j k1))
      clear BR_111
      have sz_131 := Lib.hid (World.grownBy.size hg_120)
      clear hg_120
      refine hK.out _ _ trivial (fun _ => ?_)
      clear hK K
      (try simp only [Act.put])
      refine wpAnyH_ready (rs := [5]) (by kernel_rfl) (by simp) (AllReadyH.cons rfl (fun K hK => ?_) AllReadyH.nil)
      have z0 := BN_123.out.cell (i := 0) rfl
      have z1 := BN_123.out.cell (i := 1) rfl
      have f0 := BN_123.out.frozen 0
      have f1 := BN_123.out.frozen 1
      have zl := BN_123.out.lt
      go_simp
      clear z0 z1 f0 f1 zl
      have hg_132 := (grown_cell ((((((((w2.setCell ⟨w.heap.size + 1, 0, none⟩ (.int .i64 p)).setCell ⟨w.heap.size + 1, 1, none⟩ (.int .i64 s)).setCell ⟨w.heap.size + 1, 2, none⟩ (.int .i64 it)).setCell ⟨w.heap.size + 1, 3, none⟩ (.bool dn)).setCell ⟨w.heap.size + 1, 4, none⟩ (.slice A1 n c1)).setCell ⟨w.heap.size + 1, 5, none⟩ (.slice B1 m d1)).setCell ⟨w.heap.size + 1, 6, none⟩ (.int .i64 (N : Int))).setCell ⟨w.heap.size + 1, 7, none⟩ (.slice C1 j k1)) (w.heap.size + 2) 0 (.int .i64 (N : Int))).trans (grown_cell (((((((((w2.setCell ⟨w.heap.size + 1, 0, none⟩ (.int .i64 p)).setCell ⟨w.heap.size + 1, 1, none⟩ (.int .i64 s)).setCell ⟨w.heap.size + 1, 2, none⟩ (.int .i64 it)).setCell ⟨w.heap.size + 1, 3, none⟩ (.bool dn)).setCell ⟨w.heap.size + 1, 4, none⟩ (.slice A1 n c1)).setCell ⟨w.heap.size + 1, 5, none⟩ (.slice B1 m d1)).setCell ⟨w.heap.size + 1, 6, none⟩ (.int .i64 (N : Int))).setCell ⟨w.heap.size + 1, 7, none⟩ (.slice C1 j k1)).setCell ⟨w.heap.size + 2, 0, none⟩ (.int .i64 (N : Int))) (w.heap.size + 2) 1 (.slice D1 q e1))
      have H_133 := Lib.hid (H_121.out.grown hg_132 H_121.out.size (fun j hj => by injection hj with hj; have := sz0.out; have := sz_31.out; have := sz_56.out; have := sz_81.out; have := sz_88.out; have := sz_103.out; have := sz_118.out; have := sz_131.out; omega))
      clear H_121
      have BG_134 := Lib.hid (BG_122.out.grown hg_132 (by intro e; injection e with e; have := sz0.out; have := sz_31.out; have := sz_56.out; have := sz_81.out; have := sz_88.out; have := sz_103.out; have := sz_118.out; have := sz_131.out; omega))
      clear BG_122
      have BR_135 := Lib.hid (BR_130.out.grown hg_132 (by intro e; injection e with e; have := sz0.out; have := sz_31.out; have := sz_56.out; have := sz_81.out; have := sz_88.out; have := sz_103.out; have := sz_118.out; have := sz_131.out; omega))
      clear BR_130
      have BZ_136 := Lib.hid (BZ_124.out.grown hg_132 (by intro e; injection e with e; have := sz0.out; have := sz_31.out; have := sz_56.out; have := sz_81.out; have := sz_88.out; have := sz_103.out; have := sz_118.out; have := sz_131.out; omega))
      clear BZ_124
      have BY_137 := Lib.hid (BY_125.out.grown hg_132 (by intro e; injection e with e; have := sz0.out; have := sz_31.out; have := sz_56.out; have := sz_81.out; have := sz_88.out; have := sz_103.out; have := sz_118.out; have := sz_131.out; omega))
      clear BY_125
      have Ov_138 := Lib.hid (own_kept Ov_126.out hg_132 (own_kind Ov_126.out BN_123.out (by decide)))
      clear Ov_126
      have Oe_139 := Lib.hid (own_kept Oe_127.out hg_132 (own_kind Oe_127.out BN_123.out (by decide)))
      clear Oe_127
      have Ox_140 := Lib.hid (own_kept Ox_128.out hg_132 (own_kind Ox_128.out BN_123.out (by decide)))
      clear Ox_128
      have Od_141 := Lib.hid (own_kept Od_129.out hg_132 (own_kind Od_129.out BN_123.out (by decide)))
      clear Od_129
      have BN_142 : Hid (Blk ((((((((((w2.setCell ⟨w.heap.size + 1, 0, none⟩ (.int .i64 p)).setCell ⟨w.heap.size + 1, 1, none⟩ (.int .i64 s)).setCell ⟨w.heap.size + 1, 2, none⟩ (.int .i64 it)).setCell ⟨w.heap.size + 1, 3, none⟩ (.bool dn)).setCell ⟨w.heap.size + 1, 4, none⟩ (.slice A1 n c1)).setCell ⟨w.heap.size + 1, 5, none⟩ (.slice B1 m d1)).setCell ⟨w.heap.size + 1, 6, none⟩ (.int .i64 (N : Int))).setCell ⟨w.heap.size + 1, 7, none⟩ (.slice C1 j k1)).setCell ⟨w.heap.size + 2, 0, none⟩ (.int .i64 (N : Int))).setCell ⟨w.heap.size + 2, 1, none⟩ (.slice D1 q e1)) (w.heap.size + 2) #[.int .i64 (N : Int), .slice D1 q e1] 37) := Lib.hid (Blk.set (Blk.set (BN_123.out) 0 (.int .i64 (N : Int))) 1 (.slice D1 q e1))
      clear BN_123
      have sz_143 := Lib.hid (World.grownBy.size hg_132)
      clear hg_132
      refine hK.out _ _ trivial (fun _ => ?_)
      clear hK K
      (try simp only [Act.put])
      refine wpAnyH_done (by kernel_rfl) ?_ _
      have SU : Hid (USt w ((((((((((w2.setCell ⟨w.heap.size + 1, 0, none⟩ (.int .i64 p)).setCell ⟨w.heap.size + 1, 1, none⟩ (.int .i64 s)).setCell ⟨w.heap.size + 1, 2, none⟩ (.int .i64 it)).setCell ⟨w.heap.size + 1, 3, none⟩ (.bool dn)).setCell ⟨w.heap.size + 1, 4, none⟩ (.slice A1 n c1)).setCell ⟨w.heap.size + 1, 5, none⟩ (.slice B1 m d1)).setCell ⟨w.heap.size + 1, 6, none⟩ (.int .i64 (N : Int))).setCell ⟨w.heap.size + 1, 7, none⟩ (.slice C1 j k1)).setCell ⟨w.heap.size + 2, 0, none⟩ (.int .i64 (N : Int))).setCell ⟨w.heap.size + 2, 1, none⟩ (.slice D1 q e1)) (w.heap.size + 1) p s it dn A1 n c1 B1 m d1 (N : Int) C1 j k1 D1 q e1 vs ev nx nw) := Lib.hid ⟨⟨BR_135.out, own_monoG Ov_138.out (by have := sz0.out; have := sz_31.out; have := sz_56.out; have := sz_81.out; have := sz_88.out; have := sz_103.out; have := sz_118.out; have := sz_131.out; have := sz_143.out; omega), own_monoG Oe_139.out (by have := sz0.out; have := sz_31.out; have := sz_56.out; have := sz_81.out; have := sz_88.out; have := sz_103.out; have := sz_118.out; have := sz_131.out; have := sz_143.out; omega), own_monoG Ox_140.out (by have := sz0.out; have := sz_31.out; have := sz_56.out; have := sz_81.out; have := sz_88.out; have := sz_103.out; have := sz_118.out; have := sz_131.out; have := sz_143.out; omega), AP.out, by omega⟩, own_monoG Od_141.out (by have := sz0.out; have := sz_31.out; have := sz_56.out; have := sz_81.out; have := sz_88.out; have := sz_103.out; have := sz_118.out; have := sz_131.out; have := sz_143.out; omega), HAP.out, H_133.out⟩
      have GG := Lib.hid BG_134.out
      have NN := Lib.hid BN_142.out
      have ZZ := Lib.hid BZ_136.out
      have YY := Lib.hid BY_137.out
      clear H_133 BG_134 BR_135 BN_142 BZ_136 BY_137 Ov_138 Oe_139 Ox_140 Od_141
      generalize hWW : ((((((((((w2.setCell ⟨w.heap.size + 1, 0, none⟩ (.int .i64 p)).setCell ⟨w.heap.size + 1, 1, none⟩ (.int .i64 s)).setCell ⟨w.heap.size + 1, 2, none⟩ (.int .i64 it)).setCell ⟨w.heap.size + 1, 3, none⟩ (.bool dn)).setCell ⟨w.heap.size + 1, 4, none⟩ (.slice A1 n c1)).setCell ⟨w.heap.size + 1, 5, none⟩ (.slice B1 m d1)).setCell ⟨w.heap.size + 1, 6, none⟩ (.int .i64 (N : Int))).setCell ⟨w.heap.size + 1, 7, none⟩ (.slice C1 j k1)).setCell ⟨w.heap.size + 2, 0, none⟩ (.int .i64 (N : Int))).setCell ⟨w.heap.size + 2, 1, none⟩ (.slice D1 q e1)) = w3 at SU GG NN ZZ YY ⊢
      clear hWW
      have CU := Lib.hid (implUpdRun w w3 (w.heap.size + 1) p s it dn A1 n c1 B1 m d1 (N : Int) C1 j k1 (N : Int) D1 q e1 vs ev nx nw N AG l cG G v HWW.out HGG.out HR.out.g hp HGD.out hvN SU.out)
      have hol := Lib.hid SU.out.olds
      have g0 := GG.out.cell (i := 0) rfl
      have g1 := GG.out.cell (i := 1) rfl
      have gl := GG.out.lt
      have n0 := NN.out.cell (i := 0) rfl
      have n1 := NN.out.cell (i := 1) rfl
      have nl := NN.out.lt
      go_wp2_with fail
      refine CU.out.mono ?_
      rintro e w4 ⟨rfl, hus, hon⟩
      clear g0 g1 gl n0 n1 nl
      have NN4 := Lib.hid (hon.blk NN.out (by
       rintro (h | h | h | h)
       ·
        exact own_kind SU.out.r.v NN.out (by decide) h
       ·
        exact own_kind SU.out.r.e NN.out (by decide) h
       ·
        exact own_kind SU.out.r.x NN.out (by decide) h
       ·
        exact own_kind SU.out.d NN.out (by decide) h))
      have ZZ4 := Lib.hid (hon.blk ZZ.out (by
       rintro (h | h | h | h)
       ·
        exact own_kind SU.out.r.v ZZ.out (by decide) h
       ·
        exact own_kind SU.out.r.e ZZ.out (by decide) h
       ·
        exact own_kind SU.out.r.x ZZ.out (by decide) h
       ·
        exact own_kind SU.out.d ZZ.out (by decide) h))
      have YY4 := Lib.hid (hon.blk YY.out (by
       rintro (h | h | h | h)
       ·
        exact own_kind SU.out.r.v YY.out (by decide) h
       ·
        exact own_kind SU.out.r.e YY.out (by decide) h
       ·
        exact own_kind SU.out.r.x YY.out (by decide) h
       ·
        exact own_kind SU.out.d YY.out (by decide) h))
      have S4 := Lib.hid hus
      clear hus hon SU GG NN ZZ YY CU hol
      go_upto_region 5 with fail
      obtain ⟨rl, r0, r1, r2, r3, r4, r5, r6, r7⟩ := S4.out.r.bx.eight
      have n0 := NN4.out.cell (i := 0) rfl
      have n1 := NN4.out.cell (i := 1) rfl
      have nl := NN4.out.lt
      obtain ⟨zl, z0, z1, z2, z3, z4, z5, z6, z7⟩ := ZZ4.out.eight
      have zf := fun i => ZZ4.out.frozen i
      have y0 := YY4.out.cell (i := 0) rfl
      have y1 := YY4.out.cell (i := 1) rfl
      have yl := YY4.out.lt
      have yf := fun i => YY4.out.frozen i
      have hgs := layR_grown w4 (w.heap.size + 3) (.int .i64 p) (.int .i64 s) (.int .i64 it) (.bool dn) (.slice A1 n c1) (.slice B1 m d1) (.int .i64 (N : Int)) (.slice C1 j k1)
      have S5 := S4.out.past hgs ZZ4.out (by omega) (by omega) (by decide) (by decide)
      have Y5 := YY4.out.grown hgs (by intro e; injection e with e; omega)
      have Z5 := layR_blk (x0 := .int .i64 p) (x1 := .int .i64 s) (x2 := .int .i64 it) (x3 := .bool dn) (x4 := .slice A1 n c1) (x5 := .slice B1 m d1) (x6 := .int .i64 (N : Int)) (x7 := .slice C1 j k1) ZZ4.out
      have hgt := set2_grown (layR w4 (w.heap.size + 3) (.int .i64 p) (.int .i64 s) (.int .i64 it) (.bool dn) (.slice A1 n c1) (.slice B1 m d1) (.int .i64 (N : Int)) (.slice C1 j k1)) (w.heap.size + 4) 0 1 (.int .i64 (N : Int)) (.slice D1 q e1)
      have S6 := Lib.hid (S5.past hgt Y5 (by omega) (by omega) (by decide) (by decide))
      have Z6 := Lib.hid (Z5.grown hgt (by intro e; injection e with e; omega))
      have Y6 := Lib.hid (Blk.set (Blk.set Y5 0 (.int .i64 (N : Int))) 1 (.slice D1 q e1))
      clear hgs hgt S5 Y5 Z5 S4 NN4 ZZ4 YY4
      go_region
      clear rl r0 r1 r2 r3 r4 r5 r6 r7 n0 n1 nl zl z0 z1 z2 z3 z4 z5 z6 z7 zf y0 y1 yl yf
      go_wp2
      obtain ⟨-, u0, u1, u2, u3, u4, u5, u6, u7⟩ := Z6.out.eight
      have x0 := Y6.out.cell (i := 0) rfl
      have x1 := Y6.out.cell (i := 1) rfl
      unfold layR at u0 u1 u2 u3 u4 u5 u6 u7 x0 x1
      generalize vstep p (N : Int) G ⟨vs, ev, nx, nw⟩ v = T at S6 ⊢
      obtain ⟨tv, te, tx, tn⟩ := T
      simp only at S6 ⊢
      have hnl := S6.out.r.nl
      have hdl : tn.length = q := by have h9 := S6.out.d.1; rw [vb_length] at h9; omega
      refine bodyPost_ret (v := .tuple #[.agg #[.int .i64 p, .int .i64 s, .int .i64 it, .bool dn, .slice A1 n c1, .slice B1 m d1, .int .i64 (N : Int), .slice C1 j k1], .agg #[.int .i64 (N : Int), .slice D1 q e1]]) (by simp [results, Tryz.results11, go_sem, u0, u1, u2, u3, u4, u5, u6, u7, x0, x1]) rfl ?_
      have hdr := fun (W : World) => ((Below.refl W.heap.size W).drew : Below W.heap.size W W.drew)
      obtain ⟨hn1, hm1, hj1⟩ := hnl
      have S7 := S6.out.below (hdr _)
      refine ⟨A1, c1, B1, d1, C1, k1, D1, e1, by simp only [hn1, hm1, hj1, hdl], ⟨?_, ?_, ?_, ?_⟩, ?_, ?_, S7.h⟩
      ·
       simp only [hn1]; exact S7.r.v
      ·
       simp only [hm1]; exact S7.r.e
      ·
       simp only [hj1]; exact S7.r.x
      ·
       simp only [hn1, hm1]; exact S7.r.ap
      ·
       simp only [hdl]; exact S7.d
      ·
       simp only [hj1, hdl]; exact S7.ap
     ·
      have x_144 := BN_85.out.cell (i := 0) rfl
      have x_145 := BN_85.out.cell (i := 1) rfl
      have xl := BN_85.out.lt
      go_simp
      clear xl x_144 x_145
      refine hK.out _ _ trivial (fun _ => ?_)
      clear hK K
      (try simp only [Act.put, List.setIfInBounds_toArray, List.set_cons_zero, List.set_cons_succ])
      refine wpAnyH_ready (rs := [1]) (by kernel_rfl) (by simp) (AllReadyH.cons rfl (fun K hK => ?_) AllReadyH.nil)
      go_simp
      go_at_call 35
      refine (CC.out _ H_82.out).mono ?_
      rintro e w1 ⟨A1, c1, B1, d1, C1, k1, rfl, ho, hb⟩
      have H_146 := Lib.hid (g_chain H_82.out hb)
      clear H_82
      have BG_147 := Lib.hid (BG_83.out.below hb)
      clear BG_83
      have BR_148 := Lib.hid (BR_84.out.below hb)
      clear BR_84
      have BN_149 := Lib.hid (BN_85.out.below hb)
      clear BN_85
      have BZ_150 := Lib.hid (BZ_86.out.below hb)
      clear BZ_86
      have BY_151 := Lib.hid (BY_87.out.below hb)
      clear BY_87
      have sz_152 := Lib.hid (Below.size hb)
      have Ov_153 := Lib.hid (ho.v)
      have Oe_154 := Lib.hid (ho.e)
      have Ox_155 := Lib.hid (ho.x)
      have AP := Lib.hid ho.ap
      have HTX := Lib.hid ho.x.lt
      clear ho hb
      dsimp only
      refine hK.out _ _ trivial (fun _ => ?_)
      clear hK K
      (try simp only [Act.put, List.setIfInBounds_toArray, List.set_cons_zero, List.set_cons_succ])
      refine wpAnyH_ready (rs := [3]) (by kernel_rfl) (by simp) (AllReadyH.cons rfl (fun K hK => ?_) AllReadyH.nil)
      go_simp
      go_at_call 36
      refine (CS.out _ H_146.out).mono ?_
      rintro e w2 ⟨D1, e1, rfl, ho, hb⟩
      have HAP := Lib.hid (own_time HTX.out ho (Nat.le_refl _))
      have H_156 := Lib.hid (g_chain H_146.out hb)
      clear H_146
      have BG_157 := Lib.hid (BG_147.out.below hb)
      clear BG_147
      have BR_158 := Lib.hid (BR_148.out.below hb)
      clear BR_148
      have BN_159 := Lib.hid (BN_149.out.below hb)
      clear BN_149
      have BZ_160 := Lib.hid (BZ_150.out.below hb)
      clear BZ_150
      have BY_161 := Lib.hid (BY_151.out.below hb)
      clear BY_151
      have Ov_162 := Lib.hid (own_below Ov_153.out hb)
      clear Ov_153
      have Oe_163 := Lib.hid (own_below Oe_154.out hb)
      clear Oe_154
      have Ox_164 := Lib.hid (own_below Ox_155.out hb)
      clear Ox_155
      have sz_165 := Lib.hid (Below.size hb)
      have Od_166 := Lib.hid (ho)
      clear ho hb
      dsimp only
      refine hK.out _ _ trivial (fun _ => ?_)
      clear hK K
      (try simp only [Act.put, List.setIfInBounds_toArray, List.set_cons_zero, List.set_cons_succ])
      refine wpAnyH_ready (rs := [4]) (by kernel_rfl) (by simp) (AllReadyH.cons rfl (fun K hK => ?_) AllReadyH.nil)
      obtain ⟨zl, z0, z1, z2, z3, z4, z5, z6, z7⟩ := BR_158.out.eight
      obtain ⟨f0, f1, f2, f3, f4, f5, f6, f7⟩ := BR_158.out.eightF
      go_simp
      clear zl z0 z1 z2 z3 z4 z5 z6 z7 f0 f1 f2 f3 f4 f5 f6 f7
      have hg_167 := (((((((grown_cell w2 (w.heap.size + 1) 0 (.int .i64 p)).trans (grown_cell (w2.setCell ⟨w.heap.size + 1, 0, none⟩ (.int .i64 p)) (w.heap.size + 1) 1 (.int .i64 s))).trans (grown_cell ((w2.setCell ⟨w.heap.size + 1, 0, none⟩ (.int .i64 p)).setCell ⟨w.heap.size + 1, 1, none⟩ (.int .i64 s)) (w.heap.size + 1) 2 (.int .i64 it))).trans (grown_cell (((w2.setCell ⟨w.heap.size + 1, 0, none⟩ (.int .i64 p)).setCell ⟨w.heap.size + 1, 1, none⟩ (.int .i64 s)).setCell ⟨w.heap.size + 1, 2, none⟩ (.int .i64 it)) (w.heap.size + 1) 3 (.bool dn))).trans (grown_cell ((((w2.setCell ⟨w.heap.size + 1, 0, none⟩ (.int .i64 p)).setCell ⟨w.heap.size + 1, 1, none⟩ (.int .i64 s)).setCell ⟨w.heap.size + 1, 2, none⟩ (.int .i64 it)).setCell ⟨w.heap.size + 1, 3, none⟩ (.bool dn)) (w.heap.size + 1) 4 (.slice A1 n c1))).trans (grown_cell (((((w2.setCell ⟨w.heap.size + 1, 0, none⟩ (.int .i64 p)).setCell ⟨w.heap.size + 1, 1, none⟩ (.int .i64 s)).setCell ⟨w.heap.size + 1, 2, none⟩ (.int .i64 it)).setCell ⟨w.heap.size + 1, 3, none⟩ (.bool dn)).setCell ⟨w.heap.size + 1, 4, none⟩ (.slice A1 n c1)) (w.heap.size + 1) 5 (.slice B1 m d1))).trans (grown_cell ((((((w2.setCell ⟨w.heap.size + 1, 0, none⟩ (.int .i64 p)).setCell ⟨w.heap.size + 1, 1, none⟩ (.int .i64 s)).setCell ⟨w.heap.size + 1, 2, none⟩ (.int .i64 it)).setCell ⟨w.heap.size + 1, 3, none⟩ (.bool dn)).setCell ⟨w.heap.size + 1, 4, none⟩ (.slice A1 n c1)).setCell ⟨w.heap.size + 1, 5, none⟩ (.slice B1 m d1)) (w.heap.size + 1) 6 (.int .i64 (N : Int)))).trans (grown_cell (((((((w2.setCell ⟨w.heap.size + 1, 0, none⟩ (.int .i64 p)).setCell ⟨w.heap.size + 1, 1, none⟩ (.int .i64 s)).setCell ⟨w.heap.size + 1, 2, none⟩ (.int .i64 it)).setCell ⟨w.heap.size + 1, 3, none⟩ (.bool dn)).setCell ⟨w.heap.size + 1, 4, none⟩ (.slice A1 n c1)).setCell ⟨w.heap.size + 1, 5, none⟩ (.slice B1 m d1)).setCell ⟨w.heap.size + 1, 6, none⟩ (.int .i64 (N : Int))) (w.heap.size + 1) 7 (.slice C1 j k1))
      have H_168 := Lib.hid (H_156.out.grown hg_167 H_156.out.size (fun j hj => by injection hj with hj; have := sz0.out; have := sz_31.out; have := sz_56.out; have := sz_81.out; have := sz_88.out; have := sz_152.out; have := sz_165.out; omega))
      clear H_156
      have BG_169 := Lib.hid (BG_157.out.grown hg_167 (by intro e; injection e with e; have := sz0.out; have := sz_31.out; have := sz_56.out; have := sz_81.out; have := sz_88.out; have := sz_152.out; have := sz_165.out; omega))
      clear BG_157
      have BN_170 := Lib.hid (BN_159.out.grown hg_167 (by intro e; injection e with e; have := sz0.out; have := sz_31.out; have := sz_56.out; have := sz_81.out; have := sz_88.out; have := sz_152.out; have := sz_165.out; omega))
      clear BN_159
      have BZ_171 := Lib.hid (BZ_160.out.grown hg_167 (by intro e; injection e with e; have := sz0.out; have := sz_31.out; have := sz_56.out; have := sz_81.out; have := sz_88.out; have := sz_152.out; have := sz_165.out; omega))
      clear BZ_160
      have BY_172 := Lib.hid (BY_161.out.grown hg_167 (by intro e; injection e with e; have := sz0.out; have := sz_31.out; have := sz_56.out; have := sz_81.out; have := sz_88.out; have := sz_152.out; have := sz_165.out; omega))
      clear BY_161
      have Ov_173 := Lib.hid (own_kept Ov_162.out hg_167 (own_kind Ov_162.out BR_158.out (by decide)))
      clear Ov_162
      have Oe_174 := Lib.hid (own_kept Oe_163.out hg_167 (own_kind Oe_163.out BR_158.out (by decide)))
      clear Oe_163
      have Ox_175 := Lib.hid (own_kept Ox_164.out hg_167 (own_kind Ox_164.out BR_158.out (by decide)))
      clear Ox_164
      have Od_176 := Lib.hid (own_kept Od_166.out hg_167 (own_kind Od_166.out BR_158.out (by decide)))
      clear Od_166
      have BR_177 : Hid (Blk ((((((((w2.setCell ⟨w.heap.size + 1, 0, none⟩ (.int .i64 p)).setCell ⟨w.heap.size + 1, 1, none⟩ (.int .i64 s)).setCell ⟨w.heap.size + 1, 2, none⟩ (.int .i64 it)).setCell ⟨w.heap.size + 1, 3, none⟩ (.bool dn)).setCell ⟨w.heap.size + 1, 4, none⟩ (.slice A1 n c1)).setCell ⟨w.heap.size + 1, 5, none⟩ (.slice B1 m d1)).setCell ⟨w.heap.size + 1, 6, none⟩ (.int .i64 (N : Int))).setCell ⟨w.heap.size + 1, 7, none⟩ (.slice C1 j k1)) (w.heap.size + 1) #[.int .i64 p, .int .i64 s, .int .i64 it, .bool dn, .slice A1 n c1, .slice B1 m d1, .int .i64 (N : Int), .slice C1 j k1] 39) := Lib.hid (Blk.set (Blk.set (Blk.set (Blk.set (Blk.set (Blk.set (Blk.set (Blk.set (BR_158.out) 0 (.int .i64 p)) 1 (.int .i64 s)) 2 (.int .i64 it)) 3 (.bool dn)) 4 (.slice A1 n c1)) 5 (.slice B1 m d1)) 6 (.int .i64 (N : Int))) 7 (.slice C1 j k1))
      clear BR_158
      have sz_178 := Lib.hid (World.grownBy.size hg_167)
      clear hg_167
      refine hK.out _ _ trivial (fun _ => ?_)
      clear hK K
      (try simp only [Act.put])
      refine wpAnyH_ready (rs := [5]) (by kernel_rfl) (by simp) (AllReadyH.cons rfl (fun K hK => ?_) AllReadyH.nil)
      have z0 := BN_170.out.cell (i := 0) rfl
      have z1 := BN_170.out.cell (i := 1) rfl
      have f0 := BN_170.out.frozen 0
      have f1 := BN_170.out.frozen 1
      have zl := BN_170.out.lt
      go_simp
      clear z0 z1 f0 f1 zl
      have hg_179 := (grown_cell ((((((((w2.setCell ⟨w.heap.size + 1, 0, none⟩ (.int .i64 p)).setCell ⟨w.heap.size + 1, 1, none⟩ (.int .i64 s)).setCell ⟨w.heap.size + 1, 2, none⟩ (.int .i64 it)).setCell ⟨w.heap.size + 1, 3, none⟩ (.bool dn)).setCell ⟨w.heap.size + 1, 4, none⟩ (.slice A1 n c1)).setCell ⟨w.heap.size + 1, 5, none⟩ (.slice B1 m d1)).setCell ⟨w.heap.size + 1, 6, none⟩ (.int .i64 (N : Int))).setCell ⟨w.heap.size + 1, 7, none⟩ (.slice C1 j k1)) (w.heap.size + 2) 0 (.int .i64 (N : Int))).trans (grown_cell (((((((((w2.setCell ⟨w.heap.size + 1, 0, none⟩ (.int .i64 p)).setCell ⟨w.heap.size + 1, 1, none⟩ (.int .i64 s)).setCell ⟨w.heap.size + 1, 2, none⟩ (.int .i64 it)).setCell ⟨w.heap.size + 1, 3, none⟩ (.bool dn)).setCell ⟨w.heap.size + 1, 4, none⟩ (.slice A1 n c1)).setCell ⟨w.heap.size + 1, 5, none⟩ (.slice B1 m d1)).setCell ⟨w.heap.size + 1, 6, none⟩ (.int .i64 (N : Int))).setCell ⟨w.heap.size + 1, 7, none⟩ (.slice C1 j k1)).setCell ⟨w.heap.size + 2, 0, none⟩ (.int .i64 (N : Int))) (w.heap.size + 2) 1 (.slice D1 q e1))
      have H_180 := Lib.hid (H_168.out.grown hg_179 H_168.out.size (fun j hj => by injection hj with hj; have := sz0.out; have := sz_31.out; have := sz_56.out; have := sz_81.out; have := sz_88.out; have := sz_152.out; have := sz_165.out; have := sz_178.out; omega))
      clear H_168
      have BG_181 := Lib.hid (BG_169.out.grown hg_179 (by intro e; injection e with e; have := sz0.out; have := sz_31.out; have := sz_56.out; have := sz_81.out; have := sz_88.out; have := sz_152.out; have := sz_165.out; have := sz_178.out; omega))
      clear BG_169
      have BR_182 := Lib.hid (BR_177.out.grown hg_179 (by intro e; injection e with e; have := sz0.out; have := sz_31.out; have := sz_56.out; have := sz_81.out; have := sz_88.out; have := sz_152.out; have := sz_165.out; have := sz_178.out; omega))
      clear BR_177
      have BZ_183 := Lib.hid (BZ_171.out.grown hg_179 (by intro e; injection e with e; have := sz0.out; have := sz_31.out; have := sz_56.out; have := sz_81.out; have := sz_88.out; have := sz_152.out; have := sz_165.out; have := sz_178.out; omega))
      clear BZ_171
      have BY_184 := Lib.hid (BY_172.out.grown hg_179 (by intro e; injection e with e; have := sz0.out; have := sz_31.out; have := sz_56.out; have := sz_81.out; have := sz_88.out; have := sz_152.out; have := sz_165.out; have := sz_178.out; omega))
      clear BY_172
      have Ov_185 := Lib.hid (own_kept Ov_173.out hg_179 (own_kind Ov_173.out BN_170.out (by decide)))
      clear Ov_173
      have Oe_186 := Lib.hid (own_kept Oe_174.out hg_179 (own_kind Oe_174.out BN_170.out (by decide)))
      clear Oe_174
      have Ox_187 := Lib.hid (own_kept Ox_175.out hg_179 (own_kind Ox_175.out BN_170.out (by decide)))
      clear Ox_175
      have Od_188 := Lib.hid (own_kept Od_176.out hg_179 (own_kind Od_176.out BN_170.out (by decide)))
      clear Od_176
      have BN_189 : Hid (Blk ((((((((((w2.setCell ⟨w.heap.size + 1, 0, none⟩ (.int .i64 p)).setCell ⟨w.heap.size + 1, 1, none⟩ (.int .i64 s)).setCell ⟨w.heap.size + 1, 2, none⟩ (.int .i64 it)).setCell ⟨w.heap.size + 1, 3, none⟩ (.bool dn)).setCell ⟨w.heap.size + 1, 4, none⟩ (.slice A1 n c1)).setCell ⟨w.heap.size + 1, 5, none⟩ (.slice B1 m d1)).setCell ⟨w.heap.size + 1, 6, none⟩ (.int .i64 (N : Int))).setCell ⟨w.heap.size + 1, 7, none⟩ (.slice C1 j k1)).setCell ⟨w.heap.size + 2, 0, none⟩ (.int .i64 (N : Int))).setCell ⟨w.heap.size + 2, 1, none⟩ (.slice D1 q e1)) (w.heap.size + 2) #[.int .i64 (N : Int), .slice D1 q e1] 37) := Lib.hid (Blk.set (Blk.set (BN_170.out) 0 (.int .i64 (N : Int))) 1 (.slice D1 q e1))
      clear BN_170
      have sz_190 := Lib.hid (World.grownBy.size hg_179)
      clear hg_179
      refine hK.out _ _ trivial (fun _ => ?_)
      clear hK K
      (try simp only [Act.put])
      refine wpAnyH_done (by kernel_rfl) ?_ _
      have SU : Hid (USt w ((((((((((w2.setCell ⟨w.heap.size + 1, 0, none⟩ (.int .i64 p)).setCell ⟨w.heap.size + 1, 1, none⟩ (.int .i64 s)).setCell ⟨w.heap.size + 1, 2, none⟩ (.int .i64 it)).setCell ⟨w.heap.size + 1, 3, none⟩ (.bool dn)).setCell ⟨w.heap.size + 1, 4, none⟩ (.slice A1 n c1)).setCell ⟨w.heap.size + 1, 5, none⟩ (.slice B1 m d1)).setCell ⟨w.heap.size + 1, 6, none⟩ (.int .i64 (N : Int))).setCell ⟨w.heap.size + 1, 7, none⟩ (.slice C1 j k1)).setCell ⟨w.heap.size + 2, 0, none⟩ (.int .i64 (N : Int))).setCell ⟨w.heap.size + 2, 1, none⟩ (.slice D1 q e1)) (w.heap.size + 1) p s it dn A1 n c1 B1 m d1 (N : Int) C1 j k1 D1 q e1 vs ev nx nw) := Lib.hid ⟨⟨BR_182.out, own_monoG Ov_185.out (by have := sz0.out; have := sz_31.out; have := sz_56.out; have := sz_81.out; have := sz_88.out; have := sz_152.out; have := sz_165.out; have := sz_178.out; have := sz_190.out; omega), own_monoG Oe_186.out (by have := sz0.out; have := sz_31.out; have := sz_56.out; have := sz_81.out; have := sz_88.out; have := sz_152.out; have := sz_165.out; have := sz_178.out; have := sz_190.out; omega), own_monoG Ox_187.out (by have := sz0.out; have := sz_31.out; have := sz_56.out; have := sz_81.out; have := sz_88.out; have := sz_152.out; have := sz_165.out; have := sz_178.out; have := sz_190.out; omega), AP.out, by omega⟩, own_monoG Od_188.out (by have := sz0.out; have := sz_31.out; have := sz_56.out; have := sz_81.out; have := sz_88.out; have := sz_152.out; have := sz_165.out; have := sz_178.out; have := sz_190.out; omega), HAP.out, H_180.out⟩
      have GG := Lib.hid BG_181.out
      have NN := Lib.hid BN_189.out
      have ZZ := Lib.hid BZ_183.out
      have YY := Lib.hid BY_184.out
      clear H_180 BG_181 BR_182 BN_189 BZ_183 BY_184 Ov_185 Oe_186 Ox_187 Od_188
      generalize hWW : ((((((((((w2.setCell ⟨w.heap.size + 1, 0, none⟩ (.int .i64 p)).setCell ⟨w.heap.size + 1, 1, none⟩ (.int .i64 s)).setCell ⟨w.heap.size + 1, 2, none⟩ (.int .i64 it)).setCell ⟨w.heap.size + 1, 3, none⟩ (.bool dn)).setCell ⟨w.heap.size + 1, 4, none⟩ (.slice A1 n c1)).setCell ⟨w.heap.size + 1, 5, none⟩ (.slice B1 m d1)).setCell ⟨w.heap.size + 1, 6, none⟩ (.int .i64 (N : Int))).setCell ⟨w.heap.size + 1, 7, none⟩ (.slice C1 j k1)).setCell ⟨w.heap.size + 2, 0, none⟩ (.int .i64 (N : Int))).setCell ⟨w.heap.size + 2, 1, none⟩ (.slice D1 q e1)) = w3 at SU GG NN ZZ YY ⊢
      clear hWW
      have CU := Lib.hid (implUpdRun w w3 (w.heap.size + 1) p s it dn A1 n c1 B1 m d1 (N : Int) C1 j k1 (N : Int) D1 q e1 vs ev nx nw N AG l cG G v HWW.out HGG.out HR.out.g hp HGD.out hvN SU.out)
      have hol := Lib.hid SU.out.olds
      have g0 := GG.out.cell (i := 0) rfl
      have g1 := GG.out.cell (i := 1) rfl
      have gl := GG.out.lt
      have n0 := NN.out.cell (i := 0) rfl
      have n1 := NN.out.cell (i := 1) rfl
      have nl := NN.out.lt
      go_wp2_with fail
      refine CU.out.mono ?_
      rintro e w4 ⟨rfl, hus, hon⟩
      clear g0 g1 gl n0 n1 nl
      have NN4 := Lib.hid (hon.blk NN.out (by
       rintro (h | h | h | h)
       ·
        exact own_kind SU.out.r.v NN.out (by decide) h
       ·
        exact own_kind SU.out.r.e NN.out (by decide) h
       ·
        exact own_kind SU.out.r.x NN.out (by decide) h
       ·
        exact own_kind SU.out.d NN.out (by decide) h))
      have ZZ4 := Lib.hid (hon.blk ZZ.out (by
       rintro (h | h | h | h)
       ·
        exact own_kind SU.out.r.v ZZ.out (by decide) h
       ·
        exact own_kind SU.out.r.e ZZ.out (by decide) h
       ·
        exact own_kind SU.out.r.x ZZ.out (by decide) h
       ·
        exact own_kind SU.out.d ZZ.out (by decide) h))
      have YY4 := Lib.hid (hon.blk YY.out (by
       rintro (h | h | h | h)
       ·
        exact own_kind SU.out.r.v YY.out (by decide) h
       ·
        exact own_kind SU.out.r.e YY.out (by decide) h
       ·
        exact own_kind SU.out.r.x YY.out (by decide) h
       ·
        exact own_kind SU.out.d YY.out (by decide) h))
      have S4 := Lib.hid hus
      clear hus hon SU GG NN ZZ YY CU hol
      go_upto_region 5 with fail
      obtain ⟨rl, r0, r1, r2, r3, r4, r5, r6, r7⟩ := S4.out.r.bx.eight
      have n0 := NN4.out.cell (i := 0) rfl
      have n1 := NN4.out.cell (i := 1) rfl
      have nl := NN4.out.lt
      obtain ⟨zl, z0, z1, z2, z3, z4, z5, z6, z7⟩ := ZZ4.out.eight
      have zf := fun i => ZZ4.out.frozen i
      have y0 := YY4.out.cell (i := 0) rfl
      have y1 := YY4.out.cell (i := 1) rfl
      have yl := YY4.out.lt
      have yf := fun i => YY4.out.frozen i
      have hgs := layR_grown w4 (w.heap.size + 3) (.int .i64 p) (.int .i64 s) (.int .i64 it) (.bool dn) (.slice A1 n c1) (.slice B1 m d1) (.int .i64 (N : Int)) (.slice C1 j k1)
      have S5 := S4.out.past hgs ZZ4.out (by omega) (by omega) (by decide) (by decide)
      have Y5 := YY4.out.grown hgs (by intro e; injection e with e; omega)
      have Z5 := layR_blk (x0 := .int .i64 p) (x1 := .int .i64 s) (x2 := .int .i64 it) (x3 := .bool dn) (x4 := .slice A1 n c1) (x5 := .slice B1 m d1) (x6 := .int .i64 (N : Int)) (x7 := .slice C1 j k1) ZZ4.out
      have hgt := set2_grown (layR w4 (w.heap.size + 3) (.int .i64 p) (.int .i64 s) (.int .i64 it) (.bool dn) (.slice A1 n c1) (.slice B1 m d1) (.int .i64 (N : Int)) (.slice C1 j k1)) (w.heap.size + 4) 0 1 (.int .i64 (N : Int)) (.slice D1 q e1)
      have S6 := Lib.hid (S5.past hgt Y5 (by omega) (by omega) (by decide) (by decide))
      have Z6 := Lib.hid (Z5.grown hgt (by intro e; injection e with e; omega))
      have Y6 := Lib.hid (Blk.set (Blk.set Y5 0 (.int .i64 (N : Int))) 1 (.slice D1 q e1))
      clear hgs hgt S5 Y5 Z5 S4 NN4 ZZ4 YY4
      go_region
      clear rl r0 r1 r2 r3 r4 r5 r6 r7 n0 n1 nl zl z0 z1 z2 z3 z4 z5 z6 z7 zf y0 y1 yl yf
      go_wp2
      obtain ⟨-, u0, u1, u2, u3, u4, u5, u6, u7⟩ := Z6.out.eight
      have x0 := Y6.out.cell (i := 0) rfl
      have x1 := Y6.out.cell (i := 1) rfl
      unfold layR at u0 u1 u2 u3 u4 u5 u6 u7 x0 x1
      generalize vstep p (N : Int) G ⟨vs, ev, nx, nw⟩ v = T at S6 ⊢
      obtain ⟨tv, te, tx, tn⟩ := T
      simp only at S6 ⊢
      have hnl := S6.out.r.nl
      have hdl : tn.length = q := by have h9 := S6.out.d.1; rw [vb_length] at h9; omega
      refine bodyPost_ret (v := .tuple #[.agg #[.int .i64 p, .int .i64 s, .int .i64 it, .bool dn, .slice A1 n c1, .slice B1 m d1, .int .i64 (N : Int), .slice C1 j k1], .agg #[.int .i64 (N : Int), .slice D1 q e1]]) (by simp [results, Tryz.results11, go_sem, u0, u1, u2, u3, u4, u5, u6, u7, x0, x1]) rfl ?_
      have hdr := fun (W : World) => ((Below.refl W.heap.size W).drew : Below W.heap.size W W.drew)
      obtain ⟨hn1, hm1, hj1⟩ := hnl
      have S7 := S6.out.below (hdr _)
      refine ⟨A1, c1, B1, d1, C1, k1, D1, e1, by simp only [hn1, hm1, hj1, hdl], ⟨?_, ?_, ?_, ?_⟩, ?_, ?_, S7.h⟩
      ·
       simp only [hn1]; exact S7.r.v
      ·
       simp only [hm1]; exact S7.r.e
      ·
       simp only [hj1]; exact S7.r.x
      ·
       simp only [hn1, hm1]; exact S7.r.ap
      ·
       simp only [hdl]; exact S7.d
      ·
       simp only [hj1, hdl]; exact S7.ap
    ·
     have x_191 := BN_85.out.cell (i := 0) rfl
     have x_192 := BN_85.out.cell (i := 1) rfl
     have xl := BN_85.out.lt
     go_simp
     clear xl x_191 x_192
     refine hK.out _ _ trivial (fun _ => ?_)
     clear hK K
     (try simp only [Act.put, List.setIfInBounds_toArray, List.set_cons_zero, List.set_cons_succ])
     refine wpAnyH_ready (rs := [0]) (by kernel_rfl) (by simp) (AllReadyH.cons rfl (fun K hK => ?_) AllReadyH.nil)
     have x_193 := BR_84.out.cell (i := 0) rfl
     have x_194 := BR_84.out.cell (i := 1) rfl
     have x_195 := BR_84.out.cell (i := 2) rfl
     have x_196 := BR_84.out.cell (i := 3) rfl
     have x_197 := BR_84.out.cell (i := 4) rfl
     have x_198 := BR_84.out.cell (i := 5) rfl
     have x_199 := BR_84.out.cell (i := 6) rfl
     have x_200 := BR_84.out.cell (i := 7) rfl
     have xl := BR_84.out.lt
     go_simp
     clear xl x_193 x_194 x_195 x_196 x_197 x_198 x_199 x_200
     refine hK.out _ _ trivial (fun _ => ?_)
     clear hK K
     (try simp only [Act.put, List.setIfInBounds_toArray, List.set_cons_zero, List.set_cons_succ])
     refine wpAnyH_ready (rs := [1]) (by kernel_rfl) (by simp) (AllReadyH.cons rfl (fun K hK => ?_) AllReadyH.nil)
     go_simp
     go_at_call 35
     refine (CC.out _ H_82.out).mono ?_
     rintro e w1 ⟨A1, c1, B1, d1, C1, k1, rfl, ho, hb⟩
     have H_201 := Lib.hid (g_chain H_82.out hb)
     clear H_82
     have BG_202 := Lib.hid (BG_83.out.below hb)
     clear BG_83
     have BR_203 := Lib.hid (BR_84.out.below hb)
     clear BR_84
     have BN_204 := Lib.hid (BN_85.out.below hb)
     clear BN_85
     have BZ_205 := Lib.hid (BZ_86.out.below hb)
     clear BZ_86
     have BY_206 := Lib.hid (BY_87.out.below hb)
     clear BY_87
     have sz_207 := Lib.hid (Below.size hb)
     have Ov_208 := Lib.hid (ho.v)
     have Oe_209 := Lib.hid (ho.e)
     have Ox_210 := Lib.hid (ho.x)
     have AP := Lib.hid ho.ap
     have HTX := Lib.hid ho.x.lt
     clear ho hb
     dsimp only
     refine hK.out _ _ trivial (fun _ => ?_)
     clear hK K
     (try simp only [Act.put, List.setIfInBounds_toArray, List.set_cons_zero, List.set_cons_succ])
     refine wpAnyH_ready (rs := [3]) (by kernel_rfl) (by simp) (AllReadyH.cons rfl (fun K hK => ?_) AllReadyH.nil)
     go_simp
     go_at_call 36
     refine (CS.out _ H_201.out).mono ?_
     rintro e w2 ⟨D1, e1, rfl, ho, hb⟩
     have HAP := Lib.hid (own_time HTX.out ho (Nat.le_refl _))
     have H_211 := Lib.hid (g_chain H_201.out hb)
     clear H_201
     have BG_212 := Lib.hid (BG_202.out.below hb)
     clear BG_202
     have BR_213 := Lib.hid (BR_203.out.below hb)
     clear BR_203
     have BN_214 := Lib.hid (BN_204.out.below hb)
     clear BN_204
     have BZ_215 := Lib.hid (BZ_205.out.below hb)
     clear BZ_205
     have BY_216 := Lib.hid (BY_206.out.below hb)
     clear BY_206
     have Ov_217 := Lib.hid (own_below Ov_208.out hb)
     clear Ov_208
     have Oe_218 := Lib.hid (own_below Oe_209.out hb)
     clear Oe_209
     have Ox_219 := Lib.hid (own_below Ox_210.out hb)
     clear Ox_210
     have sz_220 := Lib.hid (Below.size hb)
     have Od_221 := Lib.hid (ho)
     clear ho hb
     dsimp only
     refine hK.out _ _ trivial (fun _ => ?_)
     clear hK K
     (try simp only [Act.put, List.setIfInBounds_toArray, List.set_cons_zero, List.set_cons_succ])
     refine wpAnyH_ready (rs := [4]) (by kernel_rfl) (by simp) (AllReadyH.cons rfl (fun K hK => ?_) AllReadyH.nil)
     obtain ⟨zl, z0, z1, z2, z3, z4, z5, z6, z7⟩ := BR_213.out.eight
     obtain ⟨f0, f1, f2, f3, f4, f5, f6, f7⟩ := BR_213.out.eightF
     go_simp
     clear zl z0 z1 z2 z3 z4 z5 z6 z7 f0 f1 f2 f3 f4 f5 f6 f7
     have hg_222 := (((((((grown_cell w2 (w.heap.size + 1) 0 (.int .i64 p)).trans (grown_cell (w2.setCell ⟨w.heap.size + 1, 0, none⟩ (.int .i64 p)) (w.heap.size + 1) 1 (.int .i64 s))).trans (grown_cell ((w2.setCell ⟨w.heap.size + 1, 0, none⟩ (.int .i64 p)).setCell ⟨w.heap.size + 1, 1, none⟩ (.int .i64 s)) (w.heap.size + 1) 2 (.int .i64 it))).trans (grown_cell (((w2.setCell ⟨w.heap.size + 1, 0, none⟩ (.int .i64 p)).setCell ⟨w.heap.size + 1, 1, none⟩ (.int .i64 s)).setCell ⟨w.heap.size + 1, 2, none⟩ (.int .i64 it)) (w.heap.size + 1) 3 (.bool dn))).trans (grown_cell ((((w2.setCell ⟨w.heap.size + 1, 0, none⟩ (.int .i64 p)).setCell ⟨w.heap.size + 1, 1, none⟩ (.int .i64 s)).setCell ⟨w.heap.size + 1, 2, none⟩ (.int .i64 it)).setCell ⟨w.heap.size + 1, 3, none⟩ (.bool dn)) (w.heap.size + 1) 4 (.slice A1 n c1))).trans (grown_cell (((((w2.setCell ⟨w.heap.size + 1, 0, none⟩ (.int .i64 p)).setCell ⟨w.heap.size + 1, 1, none⟩ (.int .i64 s)).setCell ⟨w.heap.size + 1, 2, none⟩ (.int .i64 it)).setCell ⟨w.heap.size + 1, 3, none⟩ (.bool dn)).setCell ⟨w.heap.size + 1, 4, none⟩ (.slice A1 n c1)) (w.heap.size + 1) 5 (.slice B1 m d1))).trans (grown_cell ((((((w2.setCell ⟨w.heap.size + 1, 0, none⟩ (.int .i64 p)).setCell ⟨w.heap.size + 1, 1, none⟩ (.int .i64 s)).setCell ⟨w.heap.size + 1, 2, none⟩ (.int .i64 it)).setCell ⟨w.heap.size + 1, 3, none⟩ (.bool dn)).setCell ⟨w.heap.size + 1, 4, none⟩ (.slice A1 n c1)).setCell ⟨w.heap.size + 1, 5, none⟩ (.slice B1 m d1)) (w.heap.size + 1) 6 (.int .i64 (N : Int)))).trans (grown_cell (((((((w2.setCell ⟨w.heap.size + 1, 0, none⟩ (.int .i64 p)).setCell ⟨w.heap.size + 1, 1, none⟩ (.int .i64 s)).setCell ⟨w.heap.size + 1, 2, none⟩ (.int .i64 it)).setCell ⟨w.heap.size + 1, 3, none⟩ (.bool dn)).setCell ⟨w.heap.size + 1, 4, none⟩ (.slice A1 n c1)).setCell ⟨w.heap.size + 1, 5, none⟩ (.slice B1 m d1)).setCell ⟨w.heap.size + 1, 6, none⟩ (.int .i64 (N : Int))) (w.heap.size + 1) 7 (.slice C1 j k1))
     have H_223 := Lib.hid (H_211.out.grown hg_222 H_211.out.size (fun j hj => by injection hj with hj; have := sz0.out; have := sz_31.out; have := sz_56.out; have := sz_81.out; have := sz_88.out; have := sz_207.out; have := sz_220.out; omega))
     clear H_211
     have BG_224 := Lib.hid (BG_212.out.grown hg_222 (by intro e; injection e with e; have := sz0.out; have := sz_31.out; have := sz_56.out; have := sz_81.out; have := sz_88.out; have := sz_207.out; have := sz_220.out; omega))
     clear BG_212
     have BN_225 := Lib.hid (BN_214.out.grown hg_222 (by intro e; injection e with e; have := sz0.out; have := sz_31.out; have := sz_56.out; have := sz_81.out; have := sz_88.out; have := sz_207.out; have := sz_220.out; omega))
     clear BN_214
     have BZ_226 := Lib.hid (BZ_215.out.grown hg_222 (by intro e; injection e with e; have := sz0.out; have := sz_31.out; have := sz_56.out; have := sz_81.out; have := sz_88.out; have := sz_207.out; have := sz_220.out; omega))
     clear BZ_215
     have BY_227 := Lib.hid (BY_216.out.grown hg_222 (by intro e; injection e with e; have := sz0.out; have := sz_31.out; have := sz_56.out; have := sz_81.out; have := sz_88.out; have := sz_207.out; have := sz_220.out; omega))
     clear BY_216
     have Ov_228 := Lib.hid (own_kept Ov_217.out hg_222 (own_kind Ov_217.out BR_213.out (by decide)))
     clear Ov_217
     have Oe_229 := Lib.hid (own_kept Oe_218.out hg_222 (own_kind Oe_218.out BR_213.out (by decide)))
     clear Oe_218
     have Ox_230 := Lib.hid (own_kept Ox_219.out hg_222 (own_kind Ox_219.out BR_213.out (by decide)))
     clear Ox_219
     have Od_231 := Lib.hid (own_kept Od_221.out hg_222 (own_kind Od_221.out BR_213.out (by decide)))
     clear Od_221
     have BR_232 : Hid (Blk ((((((((w2.setCell ⟨w.heap.size + 1, 0, none⟩ (.int .i64 p)).setCell ⟨w.heap.size + 1, 1, none⟩ (.int .i64 s)).setCell ⟨w.heap.size + 1, 2, none⟩ (.int .i64 it)).setCell ⟨w.heap.size + 1, 3, none⟩ (.bool dn)).setCell ⟨w.heap.size + 1, 4, none⟩ (.slice A1 n c1)).setCell ⟨w.heap.size + 1, 5, none⟩ (.slice B1 m d1)).setCell ⟨w.heap.size + 1, 6, none⟩ (.int .i64 (N : Int))).setCell ⟨w.heap.size + 1, 7, none⟩ (.slice C1 j k1)) (w.heap.size + 1) #[.int .i64 p, .int .i64 s, .int .i64 it, .bool dn, .slice A1 n c1, .slice B1 m d1, .int .i64 (N : Int), .slice C1 j k1] 39) := Lib.hid (Blk.set (Blk.set (Blk.set (Blk.set (Blk.set (Blk.set (Blk.set (Blk.set (BR_213.out) 0 (.int .i64 p)) 1 (.int .i64 s)) 2 (.int .i64 it)) 3 (.bool dn)) 4 (.slice A1 n c1)) 5 (.slice B1 m d1)) 6 (.int .i64 (N : Int))) 7 (.slice C1 j k1))
     clear BR_213
     have sz_233 := Lib.hid (World.grownBy.size hg_222)
     clear hg_222
     refine hK.out _ _ trivial (fun _ => ?_)
     clear hK K
     (try simp only [Act.put])
     refine wpAnyH_ready (rs := [5]) (by kernel_rfl) (by simp) (AllReadyH.cons rfl (fun K hK => ?_) AllReadyH.nil)
     have z0 := BN_225.out.cell (i := 0) rfl
     have z1 := BN_225.out.cell (i := 1) rfl
     have f0 := BN_225.out.frozen 0
     have f1 := BN_225.out.frozen 1
     have zl := BN_225.out.lt
     go_simp
     clear z0 z1 f0 f1 zl
     have hg_234 := (grown_cell ((((((((w2.setCell ⟨w.heap.size + 1, 0, none⟩ (.int .i64 p)).setCell ⟨w.heap.size + 1, 1, none⟩ (.int .i64 s)).setCell ⟨w.heap.size + 1, 2, none⟩ (.int .i64 it)).setCell ⟨w.heap.size + 1, 3, none⟩ (.bool dn)).setCell ⟨w.heap.size + 1, 4, none⟩ (.slice A1 n c1)).setCell ⟨w.heap.size + 1, 5, none⟩ (.slice B1 m d1)).setCell ⟨w.heap.size + 1, 6, none⟩ (.int .i64 (N : Int))).setCell ⟨w.heap.size + 1, 7, none⟩ (.slice C1 j k1)) (w.heap.size + 2) 0 (.int .i64 (N : Int))).trans (grown_cell (((((((((w2.setCell ⟨w.heap.size + 1, 0, none⟩ (.int .i64 p)).setCell ⟨w.heap.size + 1, 1, none⟩ (.int .i64 s)).setCell ⟨w.heap.size + 1, 2, none⟩ (.int .i64 it)).setCell ⟨w.heap.size + 1, 3, none⟩ (.bool dn)).setCell ⟨w.heap.size + 1, 4, none⟩ (.slice A1 n c1)).setCell ⟨w.heap.size + 1, 5, none⟩ (.slice B1 m d1)).setCell ⟨w.heap.size + 1, 6, none⟩ (.int .i64 (N : Int))).setCell ⟨w.heap.size + 1, 7, none⟩ (.slice C1 j k1)).setCell ⟨w.heap.size + 2, 0, none⟩ (.int .i64 (N : Int))) (w.heap.size + 2) 1 (.slice D1 q e1))
     have H_235 := Lib.hid (H_223.out.grown hg_234 H_223.out.size (fun j hj => by injection hj with hj; have := sz0.out; have := sz_31.out; have := sz_56.out; have := sz_81.out; have := sz_88.out; have := sz_207.out; have := sz_220.out; have := sz_233.out; omega))
     clear H_223
     have BG_236 := Lib.hid (BG_224.out.grown hg_234 (by intro e; injection e with e; have := sz0.out; have := sz_31.out; have := sz_56.out; have := sz_81.out; have := sz_88.out; have := sz_207.out; have := sz_220.out; have := sz_233.out; omega))
     clear BG_224
     have BR_237 := Lib.hid (BR_232.out.grown hg_234 (by intro e; injection e with e; have := sz0.out; have := sz_31.out; have := sz_56.out; have := sz_81.out; have := sz_88.out; have := sz_207.out; have := sz_220.out; have := sz_233.out; omega))
     clear BR_232
     have BZ_238 := Lib.hid (BZ_226.out.grown hg_234 (by intro e; injection e with e; have := sz0.out; have := sz_31.out; have := sz_56.out; have := sz_81.out; have := sz_88.out; have := sz_207.out; have := sz_220.out; have := sz_233.out; omega))
     clear BZ_226
     have BY_239 := Lib.hid (BY_227.out.grown hg_234 (by intro e; injection e with e; have := sz0.out; have := sz_31.out; have := sz_56.out; have := sz_81.out; have := sz_88.out; have := sz_207.out; have := sz_220.out; have := sz_233.out; omega))
     clear BY_227
     have Ov_240 := Lib.hid (own_kept Ov_228.out hg_234 (own_kind Ov_228.out BN_225.out (by decide)))
     clear Ov_228
     have Oe_241 := Lib.hid (own_kept Oe_229.out hg_234 (own_kind Oe_229.out BN_225.out (by decide)))
     clear Oe_229
     have Ox_242 := Lib.hid (own_kept Ox_230.out hg_234 (own_kind Ox_230.out BN_225.out (by decide)))
     clear Ox_230
     have Od_243 := Lib.hid (own_kept Od_231.out hg_234 (own_kind Od_231.out BN_225.out (by decide)))
     clear Od_231
     have BN_244 : Hid (Blk ((((((((((w2.setCell ⟨w.heap.size + 1, 0, none⟩ (.int .i64 p)).setCell ⟨w.heap.size + 1, 1, none⟩ (.int .i64 s)).setCell ⟨w.heap.size + 1, 2, none⟩ (.int .i64 it)).setCell ⟨w.heap.size + 1, 3, none⟩ (.bool dn)).setCell ⟨w.heap.size + 1, 4, none⟩ (.slice A1 n c1)).setCell ⟨w.heap.size + 1, 5, none⟩ (.slice B1 m d1)).setCell ⟨w.heap.size + 1, 6, none⟩ (.int .i64 (N : Int))).setCell ⟨w.heap.size + 1, 7, none⟩ (.slice C1 j k1)).setCell ⟨w.heap.size + 2, 0, none⟩ (.int .i64 (N : Int))).setCell ⟨w.heap.size + 2, 1, none⟩ (.slice D1 q e1)) (w.heap.size + 2) #[.int .i64 (N : Int), .slice D1 q e1] 37) := Lib.hid (Blk.set (Blk.set (BN_225.out) 0 (.int .i64 (N : Int))) 1 (.slice D1 q e1))
     clear BN_225
     have sz_245 := Lib.hid (World.grownBy.size hg_234)
     clear hg_234
     refine hK.out _ _ trivial (fun _ => ?_)
     clear hK K
     (try simp only [Act.put])
     refine wpAnyH_done (by kernel_rfl) ?_ _
     have SU : Hid (USt w ((((((((((w2.setCell ⟨w.heap.size + 1, 0, none⟩ (.int .i64 p)).setCell ⟨w.heap.size + 1, 1, none⟩ (.int .i64 s)).setCell ⟨w.heap.size + 1, 2, none⟩ (.int .i64 it)).setCell ⟨w.heap.size + 1, 3, none⟩ (.bool dn)).setCell ⟨w.heap.size + 1, 4, none⟩ (.slice A1 n c1)).setCell ⟨w.heap.size + 1, 5, none⟩ (.slice B1 m d1)).setCell ⟨w.heap.size + 1, 6, none⟩ (.int .i64 (N : Int))).setCell ⟨w.heap.size + 1, 7, none⟩ (.slice C1 j k1)).setCell ⟨w.heap.size + 2, 0, none⟩ (.int .i64 (N : Int))).setCell ⟨w.heap.size + 2, 1, none⟩ (.slice D1 q e1)) (w.heap.size + 1) p s it dn A1 n c1 B1 m d1 (N : Int) C1 j k1 D1 q e1 vs ev nx nw) := Lib.hid ⟨⟨BR_237.out, own_monoG Ov_240.out (by have := sz0.out; have := sz_31.out; have := sz_56.out; have := sz_81.out; have := sz_88.out; have := sz_207.out; have := sz_220.out; have := sz_233.out; have := sz_245.out; omega), own_monoG Oe_241.out (by have := sz0.out; have := sz_31.out; have := sz_56.out; have := sz_81.out; have := sz_88.out; have := sz_207.out; have := sz_220.out; have := sz_233.out; have := sz_245.out; omega), own_monoG Ox_242.out (by have := sz0.out; have := sz_31.out; have := sz_56.out; have := sz_81.out; have := sz_88.out; have := sz_207.out; have := sz_220.out; have := sz_233.out; have := sz_245.out; omega), AP.out, by omega⟩, own_monoG Od_243.out (by have := sz0.out; have := sz_31.out; have := sz_56.out; have := sz_81.out; have := sz_88.out; have := sz_207.out; have := sz_220.out; have := sz_233.out; have := sz_245.out; omega), HAP.out, H_235.out⟩
     have GG := Lib.hid BG_236.out
     have NN := Lib.hid BN_244.out
     have ZZ := Lib.hid BZ_238.out
     have YY := Lib.hid BY_239.out
     clear H_235 BG_236 BR_237 BN_244 BZ_238 BY_239 Ov_240 Oe_241 Ox_242 Od_243
     generalize hWW : ((((((((((w2.setCell ⟨w.heap.size + 1, 0, none⟩ (.int .i64 p)).setCell ⟨w.heap.size + 1, 1, none⟩ (.int .i64 s)).setCell ⟨w.heap.size + 1, 2, none⟩ (.int .i64 it)).setCell ⟨w.heap.size + 1, 3, none⟩ (.bool dn)).setCell ⟨w.heap.size + 1, 4, none⟩ (.slice A1 n c1)).setCell ⟨w.heap.size + 1, 5, none⟩ (.slice B1 m d1)).setCell ⟨w.heap.size + 1, 6, none⟩ (.int .i64 (N : Int))).setCell ⟨w.heap.size + 1, 7, none⟩ (.slice C1 j k1)).setCell ⟨w.heap.size + 2, 0, none⟩ (.int .i64 (N : Int))).setCell ⟨w.heap.size + 2, 1, none⟩ (.slice D1 q e1)) = w3 at SU GG NN ZZ YY ⊢
     clear hWW
     have CU := Lib.hid (implUpdRun w w3 (w.heap.size + 1) p s it dn A1 n c1 B1 m d1 (N : Int) C1 j k1 (N : Int) D1 q e1 vs ev nx nw N AG l cG G v HWW.out HGG.out HR.out.g hp HGD.out hvN SU.out)
     have hol := Lib.hid SU.out.olds
     have g0 := GG.out.cell (i := 0) rfl
     have g1 := GG.out.cell (i := 1) rfl
     have gl := GG.out.lt
     have n0 := NN.out.cell (i := 0) rfl
     have n1 := NN.out.cell (i := 1) rfl
     have nl := NN.out.lt
     go_wp2_with fail
     refine CU.out.mono ?_
     rintro e w4 ⟨rfl, hus, hon⟩
     clear g0 g1 gl n0 n1 nl
     have NN4 := Lib.hid (hon.blk NN.out (by
      rintro (h | h | h | h)
      ·
       exact own_kind SU.out.r.v NN.out (by decide) h
      ·
       exact own_kind SU.out.r.e NN.out (by decide) h
      ·
       exact own_kind SU.out.r.x NN.out (by decide) h
      ·
       exact own_kind SU.out.d NN.out (by decide) h))
     have ZZ4 := Lib.hid (hon.blk ZZ.out (by
      rintro (h | h | h | h)
      ·
       exact own_kind SU.out.r.v ZZ.out (by decide) h
      ·
       exact own_kind SU.out.r.e ZZ.out (by decide) h
      ·
       exact own_kind SU.out.r.x ZZ.out (by decide) h
      ·
       exact own_kind SU.out.d ZZ.out (by decide) h))
     have YY4 := Lib.hid (hon.blk YY.out (by
      rintro (h | h | h | h)
      ·
       exact own_kind SU.out.r.v YY.out (by decide) h
      ·
       exact own_kind SU.out.r.e YY.out (by decide) h
      ·
       exact own_kind SU.out.r.x YY.out (by decide) h
      ·
       exact own_kind SU.out.d YY.out (by decide) h))
     have S4 := Lib.hid hus
     clear hus hon SU GG NN ZZ YY CU hol
     go_upto_region 5 with fail
     obtain ⟨rl, r0, r1, r2, r3, r4, r5, r6, r7⟩ := S4.out.r.bx.eight
     have n0 := NN4.out.cell (i := 0) rfl
     have n1 := NN4.out.cell (i := 1) rfl
     have nl := NN4.out.lt
     obtain ⟨zl, z0, z1, z2, z3, z4, z5, z6, z7⟩ := ZZ4.out.eight
     have zf := fun i => ZZ4.out.frozen i
     have y0 := YY4.out.cell (i := 0) rfl
     have y1 := YY4.out.cell (i := 1) rfl
     have yl := YY4.out.lt
     have yf := fun i => YY4.out.frozen i
     have hgs := layR_grown w4 (w.heap.size + 3) (.int .i64 p) (.int .i64 s) (.int .i64 it) (.bool dn) (.slice A1 n c1) (.slice B1 m d1) (.int .i64 (N : Int)) (.slice C1 j k1)
     have S5 := S4.out.past hgs ZZ4.out (by omega) (by omega) (by decide) (by decide)
     have Y5 := YY4.out.grown hgs (by intro e; injection e with e; omega)
     have Z5 := layR_blk (x0 := .int .i64 p) (x1 := .int .i64 s) (x2 := .int .i64 it) (x3 := .bool dn) (x4 := .slice A1 n c1) (x5 := .slice B1 m d1) (x6 := .int .i64 (N : Int)) (x7 := .slice C1 j k1) ZZ4.out
     have hgt := set2_grown (layR w4 (w.heap.size + 3) (.int .i64 p) (.int .i64 s) (.int .i64 it) (.bool dn) (.slice A1 n c1) (.slice B1 m d1) (.int .i64 (N : Int)) (.slice C1 j k1)) (w.heap.size + 4) 0 1 (.int .i64 (N : Int)) (.slice D1 q e1)
     have S6 := Lib.hid (S5.past hgt Y5 (by omega) (by omega) (by decide) (by decide))
     have Z6 := Lib.hid (Z5.grown hgt (by intro e; injection e with e; omega))
     have Y6 := Lib.hid (Blk.set (Blk.set Y5 0 (.int .i64 (N : Int))) 1 (.slice D1 q e1))
     clear hgs hgt S5 Y5 Z5 S4 NN4 ZZ4 YY4
     go_region
     clear rl r0 r1 r2 r3 r4 r5 r6 r7 n0 n1 nl zl z0 z1 z2 z3 z4 z5 z6 z7 zf y0 y1 yl yf
     go_wp2
     obtain ⟨-, u0, u1, u2, u3, u4, u5, u6, u7⟩ := Z6.out.eight
     have x0 := Y6.out.cell (i := 0) rfl
     have x1 := Y6.out.cell (i := 1) rfl
     unfold layR at u0 u1 u2 u3 u4 u5 u6 u7 x0 x1
     generalize vstep p (N : Int) G ⟨vs, ev, nx, nw⟩ v = T at S6 ⊢
     obtain ⟨tv, te, tx, tn⟩ := T
     simp only at S6 ⊢
     have hnl := S6.out.r.nl
     have hdl : tn.length = q := by have h9 := S6.out.d.1; rw [vb_length] at h9; omega
     refine bodyPost_ret (v := .tuple #[.agg #[.int .i64 p, .int .i64 s, .int .i64 it, .bool dn, .slice A1 n c1, .slice B1 m d1, .int .i64 (N : Int), .slice C1 j k1], .agg #[.int .i64 (N : Int), .slice D1 q e1]]) (by simp [results, Tryz.results11, go_sem, u0, u1, u2, u3, u4, u5, u6, u7, x0, x1]) rfl ?_
     have hdr := fun (W : World) => ((Below.refl W.heap.size W).drew : Below W.heap.size W W.drew)
     obtain ⟨hn1, hm1, hj1⟩ := hnl
     have S7 := S6.out.below (hdr _)
     refine ⟨A1, c1, B1, d1, C1, k1, D1, e1, by simp only [hn1, hm1, hj1, hdl], ⟨?_, ?_, ?_, ?_⟩, ?_, ?_, S7.h⟩
     ·
      simp only [hn1]; exact S7.r.v
     ·
      simp only [hm1]; exact S7.r.e
     ·
      simp only [hj1]; exact S7.r.x
     ·
      simp only [hn1, hm1]; exact S7.r.ap
     ·
      simp only [hdl]; exact S7.d
     ·
      simp only [hj1, hdl]; exact S7.ap
end Go.Proofs.YtpgnappddddlpaaGreatDoor
