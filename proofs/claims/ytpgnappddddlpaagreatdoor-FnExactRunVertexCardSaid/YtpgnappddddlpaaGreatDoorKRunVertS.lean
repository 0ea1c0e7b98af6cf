/- The contract of the model's RunVertex. Condition: at most 2^20 edges, 2^21 numbers or bytes. -/
import Derived.Test.YtpgnappddddlpaaGreatDoorCGE
import Derived.Test.YtpgnappddddlpaaGreatDoorKVertS
import Derived.Test.YtpgnappddddlpaaGreatDoorKRunOkS
import Derived.Test.YtpgnappddddlpaaGreatDoorCGK
import Derived.Test.YtpgnappddddlpaaGreatDoorCGJ
import Derived.Deep.RegionLaw
import Derived.Deep.RegionHeld3
namespace Go.Proofs.YtpgnappddddlpaaGreatDoor
open Go.RowKit
set_option linter.unusedVariables false

set_option maxRecDepth 20000 in
set_option maxHeartbeats 8000000 in
theorem specRunVertex (N : Int) (AG : Option Addr) (l cG : Nat) (G : List GE) (p s it : Int) (dn : Bool) (A : Option Addr) (n c : Nat) (B : Option Addr) (m d : Nat) (nn : Int) (C : Option Addr) (j k : Nat) (vs ev : List Int) (nx : List Nat) (M : Int) (D : Option Addr) (q e : Nat) (nw : List Nat) (v : Int) (w : World) (hg : SlG w AG l G) (hv : SlI w A n vs) (he : SlI w B m ev) (hx : Rd w C j nx) (hd : Rd w D q nw) (hl : l ≤ 1048576) (hn : n ≤ 2097152) (hm : m ≤ 2097152) (hj : j ≤ 2097152) (hq : q ≤ 2097152) :
  Calls Tryz.prog 7 #[.agg #[.int .i64 N, .slice AG l cG], .agg #[.int .i64 p, .int .i64 s, .int .i64 it, .bool dn, .slice A n c, .slice B m d, .int .i64 nn, .slice C j k], .agg #[.int .i64 M, .slice D q e], .int .i64 v] w (MadeRV w (vertR N G ⟨p, s, it, dn, vs, ev, nn, nx⟩ M nw v) (vertN N G ⟨p, s, it, dn, vs, ev, nn, nx⟩ M nw v) (vertX N G ⟨p, s, it, dn, vs, ev, nn, nx⟩ M nw v)) := by
 have C0 := Lib.hid (fun W (h : Below w.heap.size w W) => specRunOk N AG l cG G p s it dn A n c B m d nn C j k vs ev nx W (hg.below h) (hv.below h) (he.below h) (hx.below h) hl hn hm hj)
 have C2 := Lib.hid (fun W (h : Below w.heap.size w W) => specSetOk M D q e nw W (hd.below h) hq)
 have CC := Lib.hid (fun W (h : Below w.heap.size w W) => specCopyRun p s it dn A n c B m d nn C j k vs ev nx W (hv.below h) (he.below h) (hx.below h) hn hm hj)
 have CS := Lib.hid (fun W (h : Below w.heap.size w W) => specCopySet M D q e nw W (hd.below h) hq)
 unfold MadeR at CC
 unfold MadeS at CS
 have HGG := Lib.hid hg
 have HSX := Lib.hid hx.small
 have HSN := Lib.hid hd.small
 have HQL := Lib.hid hd.len
 clear hg hv he hx hd
 unfold vertR vertN vertX vertB
 rw [HQL.out] at CS
 cases hb : runB N G ⟨p, s, it, dn, vs, ev, nn, nx⟩ with
 | false =>
  rw [hb] at C0
  simp only [Bool.false_and, Bool.false_eq_true, if_false]
  clear hb CC CS C2
  have H_1 := Lib.hid (g_chain (g_chain (g_chain (g_chain (g_chain (Below.refl w.heap.size w) (below_a1 w (.cells #[.int .i64 N, .slice AG l cG] 44))) (below_a1 (w.alloc (.cells #[.int .i64 N, .slice AG l cG] 44)) (.cells #[.int .i64 p, .int .i64 s, .int .i64 it, .bool dn, .slice A n c, .slice B m d, .int .i64 nn, .slice C j k] 39))) (below_a1 ((w.alloc (.cells #[.int .i64 N, .slice AG l cG] 44)).alloc (.cells #[.int .i64 p, .int .i64 s, .int .i64 it, .bool dn, .slice A n c, .slice B m d, .int .i64 nn, .slice C j k] 39)) (.cells #[.int .i64 M, .slice D q e] 37))) (below_a1 (((w.alloc (.cells #[.int .i64 N, .slice AG l cG] 44)).alloc (.cells #[.int .i64 p, .int .i64 s, .int .i64 it, .bool dn, .slice A n c, .slice B m d, .int .i64 nn, .slice C j k] 39)).alloc (.cells #[.int .i64 M, .slice D q e] 37)) (.cells #[.int .i64 0, .int .i64 0, .int .i64 0, .bool false, .slice none 0 0, .slice none 0 0, .int .i64 0, .slice none 0 0] 39))) (below_a1 ((((w.alloc (.cells #[.int .i64 N, .slice AG l cG] 44)).alloc (.cells #[.int .i64 p, .int .i64 s, .int .i64 it, .bool dn, .slice A n c, .slice B m d, .int .i64 nn, .slice C j k] 39)).alloc (.cells #[.int .i64 M, .slice D q e] 37)).alloc (.cells #[.int .i64 0, .int .i64 0, .int .i64 0, .bool false, .slice none 0 0, .slice none 0 0, .int .i64 0, .slice none 0 0] 39)) (.cells #[.int .i64 0, .slice none 0 0] 37)))
  have BG_2 : Hid (Blk (((((w.alloc (.cells #[.int .i64 N, .slice AG l cG] 44)).alloc (.cells #[.int .i64 p, .int .i64 s, .int .i64 it, .bool dn, .slice A n c, .slice B m d, .int .i64 nn, .slice C j k] 39)).alloc (.cells #[.int .i64 M, .slice D q e] 37)).alloc (.cells #[.int .i64 0, .int .i64 0, .int .i64 0, .bool false, .slice none 0 0, .slice none 0 0, .int .i64 0, .slice none 0 0] 39)).alloc (.cells #[.int .i64 0, .slice none 0 0] 37)) (w.heap.size) #[.int .i64 N, .slice AG l cG] 44) := Lib.hid (by have h := ((((Blk.new w #[.int .i64 N, .slice AG l cG] 44).alloc (.cells #[.int .i64 p, .int .i64 s, .int .i64 it, .bool dn, .slice A n c, .slice B m d, .int .i64 nn, .slice C j k] 39)).alloc (.cells #[.int .i64 M, .slice D q e] 37)).alloc (.cells #[.int .i64 0, .int .i64 0, .int .i64 0, .bool false, .slice none 0 0, .slice none 0 0, .int .i64 0, .slice none 0 0] 39)).alloc (.cells #[.int .i64 0, .slice none 0 0] 37); simpa [Nat.add_assoc] using h)
  have BR_3 : Hid (Blk (((((w.alloc (.cells #[.int .i64 N, .slice AG l cG] 44)).alloc (.cells #[.int .i64 p, .int .i64 s, .int .i64 it, .bool dn, .slice A n c, .slice B m d, .int .i64 nn, .slice C j k] 39)).alloc (.cells #[.int .i64 M, .slice D q e] 37)).alloc (.cells #[.int .i64 0, .int .i64 0, .int .i64 0, .bool false, .slice none 0 0, .slice none 0 0, .int .i64 0, .slice none 0 0] 39)).alloc (.cells #[.int .i64 0, .slice none 0 0] 37)) (w.heap.size + 1) #[.int .i64 p, .int .i64 s, .int .i64 it, .bool dn, .slice A n c, .slice B m d, .int .i64 nn, .slice C j k] 39) := Lib.hid (by have h := (((Blk.new (w.alloc (.cells #[.int .i64 N, .slice AG l cG] 44)) #[.int .i64 p, .int .i64 s, .int .i64 it, .bool dn, .slice A n c, .slice B m d, .int .i64 nn, .slice C j k] 39).alloc (.cells #[.int .i64 M, .slice D q e] 37)).alloc (.cells #[.int .i64 0, .int .i64 0, .int .i64 0, .bool false, .slice none 0 0, .slice none 0 0, .int .i64 0, .slice none 0 0] 39)).alloc (.cells #[.int .i64 0, .slice none 0 0] 37); simpa [Nat.add_assoc] using h)
  have BN_4 : Hid (Blk (((((w.alloc (.cells #[.int .i64 N, .slice AG l cG] 44)).alloc (.cells #[.int .i64 p, .int .i64 s, .int .i64 it, .bool dn, .slice A n c, .slice B m d, .int .i64 nn, .slice C j k] 39)).alloc (.cells #[.int .i64 M, .slice D q e] 37)).alloc (.cells #[.int .i64 0, .int .i64 0, .int .i64 0, .bool false, .slice none 0 0, .slice none 0 0, .int .i64 0, .slice none 0 0] 39)).alloc (.cells #[.int .i64 0, .slice none 0 0] 37)) (w.heap.size + 2) #[.int .i64 M, .slice D q e] 37) := Lib.hid (by have h := ((Blk.new ((w.alloc (.cells #[.int .i64 N, .slice AG l cG] 44)).alloc (.cells #[.int .i64 p, .int .i64 s, .int .i64 it, .bool dn, .slice A n c, .slice B m d, .int .i64 nn, .slice C j k] 39)) #[.int .i64 M, .slice D q e] 37).alloc (.cells #[.int .i64 0, .int .i64 0, .int .i64 0, .bool false, .slice none 0 0, .slice none 0 0, .int .i64 0, .slice none 0 0] 39)).alloc (.cells #[.int .i64 0, .slice none 0 0] 37); simpa [Nat.add_assoc] using h)
  have BZ_5 : Hid (Blk (((((w.alloc (.cells #[.int .i64 N, .slice AG l cG] 44)).alloc (.cells #[.int .i64 p, .int .i64 s, .int .i64 it, .bool dn, .slice A n c, .slice B m d, .int .i64 nn, .slice C j k] 39)).alloc (.cells #[.int .i64 M, .slice D q e] 37)).alloc (.cells #[.int .i64 0, .int .i64 0, .int .i64 0, .bool false, .slice none 0 0, .slice none 0 0, .int .i64 0, .slice none 0 0] 39)).alloc (.cells #[.int .i64 0, .slice none 0 0] 37)) (w.heap.size + 3) #[.int .i64 0, .int .i64 0, .int .i64 0, .bool false, .slice none 0 0, .slice none 0 0, .int .i64 0, .slice none 0 0] 39) := Lib.hid (by have h := (Blk.new (((w.alloc (.cells #[.int .i64 N, .slice AG l cG] 44)).alloc (.cells #[.int .i64 p, .int .i64 s, .int .i64 it, .bool dn, .slice A n c, .slice B m d, .int .i64 nn, .slice C j k] 39)).alloc (.cells #[.int .i64 M, .slice D q e] 37)) #[.int .i64 0, .int .i64 0, .int .i64 0, .bool false, .slice none 0 0, .slice none 0 0, .int .i64 0, .slice none 0 0] 39).alloc (.cells #[.int .i64 0, .slice none 0 0] 37); simpa [Nat.add_assoc] using h)
  have BY_6 : Hid (Blk (((((w.alloc (.cells #[.int .i64 N, .slice AG l cG] 44)).alloc (.cells #[.int .i64 p, .int .i64 s, .int .i64 it, .bool dn, .slice A n c, .slice B m d, .int .i64 nn, .slice C j k] 39)).alloc (.cells #[.int .i64 M, .slice D q e] 37)).alloc (.cells #[.int .i64 0, .int .i64 0, .int .i64 0, .bool false, .slice none 0 0, .slice none 0 0, .int .i64 0, .slice none 0 0] 39)).alloc (.cells #[.int .i64 0, .slice none 0 0] 37)) (w.heap.size + 4) #[.int .i64 0, .slice none 0 0] 37) := Lib.hid (by have h := Blk.new ((((w.alloc (.cells #[.int .i64 N, .slice AG l cG] 44)).alloc (.cells #[.int .i64 p, .int .i64 s, .int .i64 it, .bool dn, .slice A n c, .slice B m d, .int .i64 nn, .slice C j k] 39)).alloc (.cells #[.int .i64 M, .slice D q e] 37)).alloc (.cells #[.int .i64 0, .int .i64 0, .int .i64 0, .bool false, .slice none 0 0, .slice none 0 0, .int .i64 0, .slice none 0 0] 39)) #[.int .i64 0, .slice none 0 0] 37; simpa [Nat.add_assoc] using h)
  have sz0 : Hid (w.heap.size + 5 ≤ (((((w.alloc (.cells #[.int .i64 N, .slice AG l cG] 44)).alloc (.cells #[.int .i64 p, .int .i64 s, .int .i64 it, .bool dn, .slice A n c, .slice B m d, .int .i64 nn, .slice C j k] 39)).alloc (.cells #[.int .i64 M, .slice D q e] 37)).alloc (.cells #[.int .i64 0, .int .i64 0, .int .i64 0, .bool false, .slice none 0 0, .slice none 0 0, .int .i64 0, .slice none 0 0] 39)).alloc (.cells #[.int .i64 0, .slice none 0 0] 37)).heap.size) := Lib.hid (by simp)
  go_enter Tryz.func7, Tryz.ntmps7
  have x_7 := BG_2.out.cell (i := 0) rfl
  have x_8 := BG_2.out.cell (i := 1) rfl
  have fz_9 := fun i => BG_2.out.frozen i
  have lt_10 := BG_2.out.lt
  have x_11 := BR_3.out.cell (i := 0) rfl
  have x_12 := BR_3.out.cell (i := 1) rfl
  have x_13 := BR_3.out.cell (i := 2) rfl
  have x_14 := BR_3.out.cell (i := 3) rfl
  have x_15 := BR_3.out.cell (i := 4) rfl
  have x_16 := BR_3.out.cell (i := 5) rfl
  have x_17 := BR_3.out.cell (i := 6) rfl
  have x_18 := BR_3.out.cell (i := 7) rfl
  have fz_19 := fun i => BR_3.out.frozen i
  have lt_20 := BR_3.out.lt
  have x_21 := BN_4.out.cell (i := 0) rfl
  have x_22 := BN_4.out.cell (i := 1) rfl
  have fz_23 := fun i => BN_4.out.frozen i
  have lt_24 := BN_4.out.lt
  go_wp2_with fail
  refine (C0.out _ H_1.out).mono ?_
  rintro e w1 ⟨rfl, hb⟩
  clear x_7
  clear x_8
  clear fz_9
  clear lt_10
  clear x_11
  clear x_12
  clear x_13
  clear x_14
  clear x_15
  clear x_16
  clear x_17
  clear x_18
  clear fz_19
  clear lt_20
  clear x_21
  clear x_22
  clear fz_23
  clear lt_24
  have H_25 := Lib.hid (g_chain H_1.out hb)
  clear H_1
  have BG_26 := Lib.hid (BG_2.out.below hb)
  clear BG_2
  have BR_27 := Lib.hid (BR_3.out.below hb)
  clear BR_3
  have BN_28 := Lib.hid (BN_4.out.below hb)
  clear BN_4
  have BZ_29 := Lib.hid (BZ_5.out.below hb)
  clear BZ_5
  have BY_30 := Lib.hid (BY_6.out.below hb)
  clear BY_6
  have sz_31 := Lib.hid (Below.size hb)
  clear hb
  have x_32 := BZ_29.out.cell (i := 0) rfl
  have x_33 := BZ_29.out.cell (i := 1) rfl
  have x_34 := BZ_29.out.cell (i := 2) rfl
  have x_35 := BZ_29.out.cell (i := 3) rfl
  have x_36 := BZ_29.out.cell (i := 4) rfl
  have x_37 := BZ_29.out.cell (i := 5) rfl
  have x_38 := BZ_29.out.cell (i := 6) rfl
  have x_39 := BZ_29.out.cell (i := 7) rfl
  have fz_40 := fun i => BZ_29.out.frozen i
  have lt_41 := BZ_29.out.lt
  have x_42 := BY_30.out.cell (i := 0) rfl
  have x_43 := BY_30.out.cell (i := 1) rfl
  have fz_44 := fun i => BY_30.out.frozen i
  have lt_45 := BY_30.out.lt
  have x_46 := BG_26.out.cell (i := 0) rfl
  have x_47 := BG_26.out.cell (i := 1) rfl
  have fz_48 := fun i => BG_26.out.frozen i
  have lt_49 := BG_26.out.lt
  have x_50 := BN_28.out.cell (i := 0) rfl
  have x_51 := BN_28.out.cell (i := 1) rfl
  have fz_52 := fun i => BN_28.out.frozen i
  have lt_53 := BN_28.out.lt
  go_wp2
  clear x_32 x_33 x_34 x_35 x_36 x_37 x_38 x_39 fz_40 lt_41 x_42 x_43 fz_44 lt_45 x_46 x_47 fz_48 lt_49 x_50 x_51 fz_52 lt_53
  have hg_54 := (((((((grown_cell w1 (w.heap.size + 3) 0 (.int .i64 0)).trans (grown_cell (w1.setCell ⟨w.heap.size + 3, 0, none⟩ (.int .i64 0)) (w.heap.size + 3) 1 (.int .i64 0))).trans (grown_cell ((w1.setCell ⟨w.heap.size + 3, 0, none⟩ (.int .i64 0)).setCell ⟨w.heap.size + 3, 1, none⟩ (.int .i64 0)) (w.heap.size + 3) 2 (.int .i64 0))).trans (grown_cell (((w1.setCell ⟨w.heap.size + 3, 0, none⟩ (.int .i64 0)).setCell ⟨w.heap.size + 3, 1, none⟩ (.int .i64 0)).setCell ⟨w.heap.size + 3, 2, none⟩ (.int .i64 0)) (w.heap.size + 3) 3 (.bool false))).trans (grown_cell ((((w1.setCell ⟨w.heap.size + 3, 0, none⟩ (.int .i64 0)).setCell ⟨w.heap.size + 3, 1, none⟩ (.int .i64 0)).setCell ⟨w.heap.size + 3, 2, none⟩ (.int .i64 0)).setCell ⟨w.heap.size + 3, 3, none⟩ (.bool false)) (w.heap.size + 3) 4 (.slice none 0 0))).trans (grown_cell (((((w1.setCell ⟨w.heap.size + 3, 0, none⟩ (.int .i64 0)).setCell ⟨w.heap.size + 3, 1, none⟩ (.int .i64 0)).setCell ⟨w.heap.size + 3, 2, none⟩ (.int .i64 0)).setCell ⟨w.heap.size + 3, 3, none⟩ (.bool false)).setCell ⟨w.heap.size + 3, 4, none⟩ (.slice none 0 0)) (w.heap.size + 3) 5 (.slice none 0 0))).trans (grown_cell ((((((w1.setCell ⟨w.heap.size + 3, 0, none⟩ (.int .i64 0)).setCell ⟨w.heap.size + 3, 1, none⟩ (.int .i64 0)).setCell ⟨w.heap.size + 3, 2, none⟩ (.int .i64 0)).setCell ⟨w.heap.size + 3, 3, none⟩ (.bool false)).setCell ⟨w.heap.size + 3, 4, none⟩ (.slice none 0 0)).setCell ⟨w.heap.size + 3, 5, none⟩ (.slice none 0 0)) (w.heap.size + 3) 6 (.int .i64 0))).trans (grown_cell (((((((w1.setCell ⟨w.heap.size + 3, 0, none⟩ (.int .i64 0)).setCell ⟨w.heap.size + 3, 1, none⟩ (.int .i64 0)).setCell ⟨w.heap.size + 3, 2, none⟩ (.int .i64 0)).setCell ⟨w.heap.size + 3, 3, none⟩ (.bool false)).setCell ⟨w.heap.size + 3, 4, none⟩ (.slice none 0 0)).setCell ⟨w.heap.size + 3, 5, none⟩ (.slice none 0 0)).setCell ⟨w.heap.size + 3, 6, none⟩ (.int .i64 0)) (w.heap.size + 3) 7 (.slice none 0 0))
  have H_55 := Lib.hid (H_25.out.grown hg_54 H_25.out.size (fun j hj => by injection hj with hj; have := sz0.out; have := sz_31.out; omega))
  clear H_25
  have BG_56 := Lib.hid (BG_26.out.grown hg_54 (by intro e; injection e with e; have := sz0.out; have := sz_31.out; omega))
  clear BG_26
  have BR_57 := Lib.hid (BR_27.out.grown hg_54 (by intro e; injection e with e; have := sz0.out; have := sz_31.out; omega))
  clear BR_27
  have BN_58 := Lib.hid (BN_28.out.grown hg_54 (by intro e; injection e with e; have := sz0.out; have := sz_31.out; omega))
  clear BN_28
  have BY_59 := Lib.hid (BY_30.out.grown hg_54 (by intro e; injection e with e; have := sz0.out; have := sz_31.out; omega))
  clear BY_30
  have BZ_60 : Hid (Blk ((((((((w1.setCell ⟨w.heap.size + 3, 0, none⟩ (.int .i64 0)).setCell ⟨w.heap.size + 3, 1, none⟩ (.int .i64 0)).setCell ⟨w.heap.size + 3, 2, none⟩ (.int .i64 0)).setCell ⟨w.heap.size + 3, 3, none⟩ (.bool false)).setCell ⟨w.heap.size + 3, 4, none⟩ (.slice none 0 0)).setCell ⟨w.heap.size + 3, 5, none⟩ (.slice none 0 0)).setCell ⟨w.heap.size + 3, 6, none⟩ (.int .i64 0)).setCell ⟨w.heap.size + 3, 7, none⟩ (.slice none 0 0)) (w.heap.size + 3) #[.int .i64 0, .int .i64 0, .int .i64 0, .bool false, .slice none 0 0, .slice none 0 0, .int .i64 0, .slice none 0 0] 39) := Lib.hid (Blk.set (Blk.set (Blk.set (Blk.set (Blk.set (Blk.set (Blk.set (Blk.set (BZ_29.out) 0 (.int .i64 0)) 1 (.int .i64 0)) 2 (.int .i64 0)) 3 (.bool false)) 4 (.slice none 0 0)) 5 (.slice none 0 0)) 6 (.int .i64 0)) 7 (.slice none 0 0))
  clear BZ_29
  have sz_61 := Lib.hid (World.grownBy.size hg_54)
  clear hg_54
  have hg_62 := (grown_cell ((((((((w1.setCell ⟨w.heap.size + 3, 0, none⟩ (.int .i64 0)).setCell ⟨w.heap.size + 3, 1, none⟩ (.int .i64 0)).setCell ⟨w.heap.size + 3, 2, none⟩ (.int .i64 0)).setCell ⟨w.heap.size + 3, 3, none⟩ (.bool false)).setCell ⟨w.heap.size + 3, 4, none⟩ (.slice none 0 0)).setCell ⟨w.heap.size + 3, 5, none⟩ (.slice none 0 0)).setCell ⟨w.heap.size + 3, 6, none⟩ (.int .i64 0)).setCell ⟨w.heap.size + 3, 7, none⟩ (.slice none 0 0)) (w.heap.size + 4) 0 (.int .i64 0)).trans (grown_cell (((((((((w1.setCell ⟨w.heap.size + 3, 0, none⟩ (.int .i64 0)).setCell ⟨w.heap.size + 3, 1, none⟩ (.int .i64 0)).setCell ⟨w.heap.size + 3, 2, none⟩ (.int .i64 0)).setCell ⟨w.heap.size + 3, 3, none⟩ (.bool false)).setCell ⟨w.heap.size + 3, 4, none⟩ (.slice none 0 0)).setCell ⟨w.heap.size + 3, 5, none⟩ (.slice none 0 0)).setCell ⟨w.heap.size + 3, 6, none⟩ (.int .i64 0)).setCell ⟨w.heap.size + 3, 7, none⟩ (.slice none 0 0)).setCell ⟨w.heap.size + 4, 0, none⟩ (.int .i64 0)) (w.heap.size + 4) 1 (.slice none 0 0))
  have H_63 := Lib.hid (H_55.out.grown hg_62 H_55.out.size (fun j hj => by injection hj with hj; have := sz0.out; have := sz_31.out; have := sz_61.out; omega))
  clear H_55
  have BG_64 := Lib.hid (BG_56.out.grown hg_62 (by intro e; injection e with e; have := sz0.out; have := sz_31.out; have := sz_61.out; omega))
  clear BG_56
  have BR_65 := Lib.hid (BR_57.out.grown hg_62 (by intro e; injection e with e; have := sz0.out; have := sz_31.out; have := sz_61.out; omega))
  clear BR_57
  have BN_66 := Lib.hid (BN_58.out.grown hg_62 (by intro e; injection e with e; have := sz0.out; have := sz_31.out; have := sz_61.out; omega))
  clear BN_58
  have BZ_67 := Lib.hid (BZ_60.out.grown hg_62 (by intro e; injection e with e; have := sz0.out; have := sz_31.out; have := sz_61.out; omega))
  clear BZ_60
  have BY_68 : Hid (Blk ((((((((((w1.setCell ⟨w.heap.size + 3, 0, none⟩ (.int .i64 0)).setCell ⟨w.heap.size + 3, 1, none⟩ (.int .i64 0)).setCell ⟨w.heap.size + 3, 2, none⟩ (.int .i64 0)).setCell ⟨w.heap.size + 3, 3, none⟩ (.bool false)).setCell ⟨w.heap.size + 3, 4, none⟩ (.slice none 0 0)).setCell ⟨w.heap.size + 3, 5, none⟩ (.slice none 0 0)).setCell ⟨w.heap.size + 3, 6, none⟩ (.int .i64 0)).setCell ⟨w.heap.size + 3, 7, none⟩ (.slice none 0 0)).setCell ⟨w.heap.size + 4, 0, none⟩ (.int .i64 0)).setCell ⟨w.heap.size + 4, 1, none⟩ (.slice none 0 0)) (w.heap.size + 4) #[.int .i64 0, .slice none 0 0] 37) := Lib.hid (Blk.set (Blk.set (BY_59.out) 0 (.int .i64 0)) 1 (.slice none 0 0))
  clear BY_59
  have sz_69 := Lib.hid (World.grownBy.size hg_62)
  clear hg_62
  obtain ⟨-, z0, z1, z2, z3, z4, z5, z6, z7⟩ := BZ_67.out.eight
  have y0 := BY_68.out.cell (i := 0) rfl
  have y1 := BY_68.out.cell (i := 1) rfl
  refine bodyPost_ret (v := .tuple #[.agg #[.int .i64 0, .int .i64 0, .int .i64 0, .bool false, .slice none 0 0, .slice none 0 0, .int .i64 0, .slice none 0 0], .agg #[.int .i64 0, .slice none 0 0]]) (by simp [results, Tryz.results7, go_sem, z0, z1, z2, z3, z4, z5, z6, z7, y0, y1]) rfl ?_
  exact MadeRV.no H_63.out
 | true =>
  rw [hb] at C0
  by_cases hv0 : v < 0
  ·
   rw [show decide (0 ≤ v ∧ v < N) = false by simp; omega]
   simp only [Bool.and_false, Bool.false_and, Bool.false_eq_true, if_false]
   clear hb CC CS C2
   have H_1 := Lib.hid (g_chain (g_chain (g_chain (g_chain (g_chain (Below.refl w.heap.size w) (below_a1 w (.cells #[.int .i64 N, .slice AG l cG] 44))) (below_a1 (w.alloc (.cells #[.int .i64 N, .slice AG l cG] 44)) (.cells #[.int .i64 p, .int .i64 s, .int .i64 it, .bool dn, .slice A n c, .slice B m d, .int .i64 nn, .slice C j k] 39))) (below_a1 ((w.alloc (.cells #[.int .i64 N, .slice AG l cG] 44)).alloc (.cells #[.int .i64 p, .int .i64 s, .int .i64 it, .bool dn, .slice A n c, .slice B m d, .int .i64 nn, .slice C j k] 39)) (.cells #[.int .i64 M, .slice D q e] 37))) (below_a1 (((w.alloc (.cells #[.int .i64 N, .slice AG l cG] 44)).alloc (.cells #[.int .i64 p, .int .i64 s, .int .i64 it, .bool dn, .slice A n c, .slice B m d, .int .i64 nn, .slice C j k] 39)).alloc (.cells #[.int .i64 M, .slice D q e] 37)) (.cells #[.int .i64 0, .int .i64 0, .int .i64 0, .bool false, .slice none 0 0, .slice none 0 0, .int .i64 0, .slice none 0 0] 39))) (below_a1 ((((w.alloc (.cells #[.int .i64 N, .slice AG l cG] 44)).alloc (.cells #[.int .i64 p, .int .i64 s, .int .i64 it, .bool dn, .slice A n c, .slice B m d, .int .i64 nn, .slice C j k] 39)).alloc (.cells #[.int .i64 M, .slice D q e] 37)).alloc (.cells #[.int .i64 0, .int .i64 0, .int .i64 0, .bool false, .slice none 0 0, .slice none 0 0, .int .i64 0, .slice none 0 0] 39)) (.cells #[.int .i64 0, .slice none 0 0] 37)))
   have BG_2 : Hid (Blk (((((w.alloc (.cells #[.int .i64 N, .slice AG l cG] 44)).alloc (.cells #[.int .i64 p, .int .i64 s, .int .i64 it, .bool dn, .slice A n c, .slice B m d, .int .i64 nn, .slice C j k] 39)).alloc (.cells #[.int .i64 M, .slice D q e] 37)).alloc (.cells #[.int .i64 0, .int .i64 0, .int .i64 0, .bool false, .slice none 0 0, .slice none 0 0, .int .i64 0, .slice none 0 0] 39)).alloc (.cells #[.int .i64 0, .slice none 0 0] 37)) (w.heap.size) #[.int .i64 N, .slice AG l cG] 44) := Lib.hid (by have h := ((((Blk.new w #[.int .i64 N, .slice AG l cG] 44).alloc (.cells #[.int .i64 p, .int .i64 s, .int .i64 it, .bool dn, .slice A n c, .slice B m d, .int .i64 nn, .slice C j k] 39)).alloc (.cells #[.int .i64 M, .slice D q e] 37)).alloc (.cells #[.int .i64 0, .int .i64 0, .int .i64 0, .bool false, .slice none 0 0, .slice none 0 0, .int .i64 0, .slice none 0 0] 39)).alloc (.cells #[.int .i64 0, .slice none 0 0] 37); simpa [Nat.add_assoc] using h)
   have BR_3 : Hid (Blk (((((w.alloc (.cells #[.int .i64 N, .slice AG l cG] 44)).alloc (.cells #[.int .i64 p, .int .i64 s, .int .i64 it, .bool dn, .slice A n c, .slice B m d, .int .i64 nn, .slice C j k] 39)).alloc (.cells #[.int .i64 M, .slice D q e] 37)).alloc (.cells #[.int .i64 0, .int .i64 0, .int .i64 0, .bool false, .slice none 0 0, .slice none 0 0, .int .i64 0, .slice none 0 0] 39)).alloc (.cells #[.int .i64 0, .slice none 0 0] 37)) (w.heap.size + 1) #[.int .i64 p, .int .i64 s, .int .i64 it, .bool dn, .slice A n c, .slice B m d, .int .i64 nn, .slice C j k] 39) := Lib.hid (by have h := (((Blk.new (w.alloc (.cells #[.int .i64 N, .slice AG l cG] 44)) #[.int .i64 p, .int .i64 s, .int .i64 it, .bool dn, .slice A n c, .slice B m d, .int .i64 nn, .slice C j k] 39).alloc (.cells #[.int .i64 M, .slice D q e] 37)).alloc (.cells #[.int .i64 0, .int .i64 0, .int .i64 0, .bool false, .slice none 0 0, .slice none 0 0, .int .i64 0, .slice none 0 0] 39)).alloc (.cells #[.int .i64 0, .slice none 0 0] 37); simpa [Nat.add_assoc] using h)
   have BN_4 : Hid (Blk (((((w.alloc (.cells #[.int .i64 N, .slice AG l cG] 44)).alloc (.cells #[.int .i64 p, .int .i64 s, .int .i64 it, .bool dn, .slice A n c, .slice B m d, .int .i64 nn, .slice C j k] 39)).alloc (.cells #[.int .i64 M, .slice D q e] 37)).alloc (.cells #[.int .i64 0, .int .i64 0, .int .i64 0, .bool false, .slice none 0 0, .slice none 0 0, .int .i64 0, .slice none 0 0] 39)).alloc (.cells #[.int .i64 0, .slice none 0 0] 37)) (w.heap.size + 2) #[.int .i64 M, .slice D q e] 37) := Lib.hid (by have h := ((Blk.new ((w.alloc (.cells #[.int .i64 N, .slice AG l cG] 44)).alloc (.cells #[.int .i64 p, .int .i64 s, .int .i64 it, .bool dn, .slice A n c, .slice B m d, .int .i64 nn, .slice C j k] 39)) #[.int .i64 M, .slice D q e] 37).alloc (.cells #[.int .i64 0, .int .i64 0, .int .i64 0, .bool false, .slice none 0 0, .slice none 0 0, .int .i64 0, .slice none 0 0] 39)).alloc (.cells #[.int .i64 0, .slice none 0 0] 37); simpa [Nat.add_assoc] using h)
   have BZ_5 : Hid (Blk (((((w.alloc (.cells #[.int .i64 N, .slice AG l cG] 44)).alloc (.cells #[.int .i64 p, .int .i64 s, .int .i64 it, .bool dn, .slice A n c, .slice B m d, .int .i64 nn, .slice C j k] 39)).alloc (.cells #[.int .i64 M, .slice D q e] 37)).alloc (.cells #[.int .i64 0, .int .i64 0, .int .i64 0, .bool false, .slice none 0 0, .slice none 0 0, .int .i64 0, .slice none 0 0] 39)).alloc (.cells #[.int .i64 0, .slice none 0 0] 37)) (w.heap.size + 3) #[.int .i64 0, .int .i64 0, .int .i64 0, .bool false, .slice none 0 0, .slice none 0 0, .int .i64 0, .slice none 0 0] 39) := Lib.hid (by have h := (Blk.new (((w.alloc (.cells #[.int .i64 N, .slice AG l cG] 44)).alloc (.cells #[.int .i64 p, .int .i64 s, .int .i64 it, .bool dn, .slice A n c, .slice B m d, .int .i64 nn, .slice C j k] 39)).alloc (.cells #[.int .i64 M, .slice D q e] 37)) #[.int .i64 0, .int .i64 0, .int .i64 0, .bool false, .slice none 0 0, .slice none 0 0, .int .i64 0, .slice none 0 0] 39).alloc (.cells #[.int .i64 0, .slice none 0 0] 37); simpa [Nat.add_assoc] using h)
   have BY_6 : Hid (Blk (((((w.alloc (.cells #[.int .i64 N, .slice AG l cG] 44)).alloc (.cells #[.int .i64 p, .int .i64 s, .int .i64 it, .bool dn, .slice A n c, .slice B m d, .int .i64 nn, .slice C j k] 39)).alloc (.cells #[.int .i64 M, .slice D q e] 37)).alloc (.cells #[.int .i64 0, .int .i64 0, .int .i64 0, .bool false, .slice none 0 0, .slice none 0 0, .int .i64 0, .slice none 0 0] 39)).alloc (.cells #[.int .i64 0, .slice none 0 0] 37)) (w.heap.size + 4) #[.int .i64 0, .slice none 0 0] 37) := Lib.hid (by have h := Blk.new ((((w.alloc (.cells #[.int .i64 N, .slice AG l cG] 44)).alloc (.cells #[.int .i64 p, .int .i64 s, .int .i64 it, .bool dn, .slice A n c, .slice B m d, .int .i64 nn, .slice C j k] 39)).alloc (.cells #[.int .i64 M, .slice D q e] 37)).alloc (.cells #[.int .i64 0, .int .i64 0, .int .i64 0, .bool false, .slice none 0 0, .slice none 0 0, .int .i64 0, .slice none 0 0] 39)) #[.int .i64 0, .slice none 0 0] 37; simpa [Nat.add_assoc] using h)
   have sz0 : Hid (w.heap.size + 5 ≤ (((((w.alloc (.cells #[.int .i64 N, .slice AG l cG] 44)).alloc (.cells #[.int .i64 p, .int .i64 s, .int .i64 it, .bool dn, .slice A n c, .slice B m d, .int .i64 nn, .slice C j k] 39)).alloc (.cells #[.int .i64 M, .slice D q e] 37)).alloc (.cells #[.int .i64 0, .int .i64 0, .int .i64 0, .bool false, .slice none 0 0, .slice none 0 0, .int .i64 0, .slice none 0 0] 39)).alloc (.cells #[.int .i64 0, .slice none 0 0] 37)).heap.size) := Lib.hid (by simp)
   go_enter Tryz.func7, Tryz.ntmps7
   have x_7 := BG_2.out.cell (i := 0) rfl
   have x_8 := BG_2.out.cell (i := 1) rfl
   have fz_9 := fun i => BG_2.out.frozen i
   have lt_10 := BG_2.out.lt
   have x_11 := BR_3.out.cell (i := 0) rfl
   have x_12 := BR_3.out.cell (i := 1) rfl
   have x_13 := BR_3.out.cell (i := 2) rfl
   have x_14 := BR_3.out.cell (i := 3) rfl
   have x_15 := BR_3.out.cell (i := 4) rfl
   have x_16 := BR_3.out.cell (i := 5) rfl
   have x_17 := BR_3.out.cell (i := 6) rfl
   have x_18 := BR_3.out.cell (i := 7) rfl
   have fz_19 := fun i => BR_3.out.frozen i
   have lt_20 := BR_3.out.lt
   have x_21 := BN_4.out.cell (i := 0) rfl
   have x_22 := BN_4.out.cell (i := 1) rfl
   have fz_23 := fun i => BN_4.out.frozen i
   have lt_24 := BN_4.out.lt
   go_wp2_with fail
   refine (C0.out _ H_1.out).mono ?_
   rintro e w1 ⟨rfl, hb⟩
   clear x_7
   clear x_8
   clear fz_9
   clear lt_10
   clear x_11
   clear x_12
   clear x_13
   clear x_14
   clear x_15
   clear x_16
   clear x_17
   clear x_18
   clear fz_19
   clear lt_20
   clear x_21
   clear x_22
   clear fz_23
   clear lt_24
   have H_25 := Lib.hid (g_chain H_1.out hb)
   clear H_1
   have BG_26 := Lib.hid (BG_2.out.below hb)
   clear BG_2
   have BR_27 := Lib.hid (BR_3.out.below hb)
   clear BR_3
   have BN_28 := Lib.hid (BN_4.out.below hb)
   clear BN_4
   have BZ_29 := Lib.hid (BZ_5.out.below hb)
   clear BZ_5
   have BY_30 := Lib.hid (BY_6.out.below hb)
   clear BY_6
   have sz_31 := Lib.hid (Below.size hb)
   clear hb
   have x_32 := BZ_29.out.cell (i := 0) rfl
   have x_33 := BZ_29.out.cell (i := 1) rfl
   have x_34 := BZ_29.out.cell (i := 2) rfl
   have x_35 := BZ_29.out.cell (i := 3) rfl
   have x_36 := BZ_29.out.cell (i := 4) rfl
   have x_37 := BZ_29.out.cell (i := 5) rfl
   have x_38 := BZ_29.out.cell (i := 6) rfl
   have x_39 := BZ_29.out.cell (i := 7) rfl
   have fz_40 := fun i => BZ_29.out.frozen i
   have lt_41 := BZ_29.out.lt
   have x_42 := BY_30.out.cell (i := 0) rfl
   have x_43 := BY_30.out.cell (i := 1) rfl
   have fz_44 := fun i => BY_30.out.frozen i
   have lt_45 := BY_30.out.lt
   have x_46 := BG_26.out.cell (i := 0) rfl
   have x_47 := BG_26.out.cell (i := 1) rfl
   have fz_48 := fun i => BG_26.out.frozen i
   have lt_49 := BG_26.out.lt
   have x_50 := BN_28.out.cell (i := 0) rfl
   have x_51 := BN_28.out.cell (i := 1) rfl
   have fz_52 := fun i => BN_28.out.frozen i
   have lt_53 := BN_28.out.lt
   go_wp2
   clear x_32 x_33 x_34 x_35 x_36 x_37 x_38 x_39 fz_40 lt_41 x_42 x_43 fz_44 lt_45 x_46 x_47 fz_48 lt_49 x_50 x_51 fz_52 lt_53
   have hg_54 := (((((((grown_cell w1 (w.heap.size + 3) 0 (.int .i64 0)).trans (grown_cell (w1.setCell ⟨w.heap.size + 3, 0, none⟩ (.int .i64 0)) (w.heap.size + 3) 1 (.int .i64 0))).trans (grown_cell ((w1.setCell ⟨w.heap.size + 3, 0, none⟩ (.int .i64 0)).setCell ⟨w.heap.size + 3, 1, none⟩ (.int .i64 0)) (w.heap.size + 3) 2 (.int .i64 0))).trans (grown_cell (((w1.setCell ⟨w.heap.size + 3, 0, none⟩ (.int .i64 0)).setCell ⟨w.heap.size + 3, 1, none⟩ (.int .i64 0)).setCell ⟨w.heap.size + 3, 2, none⟩ (.int .i64 0)) (w.heap.size + 3) 3 (.bool false))).trans (grown_cell ((((w1.setCell ⟨w.heap.size + 3, 0, none⟩ (.int .i64 0)).setCell ⟨w.heap.size + 3, 1, none⟩ (.int .i64 0)).setCell ⟨w.heap.size + 3, 2, none⟩ (.int .i64 0)).setCell ⟨w.heap.size + 3, 3, none⟩ (.bool false)) (w.heap.size + 3) 4 (.slice none 0 0))).trans (grown_cell (((((w1.setCell ⟨w.heap.size + 3, 0, none⟩ (.int .i64 0)).setCell ⟨w.heap.size + 3, 1, none⟩ (.int .i64 0)).setCell ⟨w.heap.size + 3, 2, none⟩ (.int .i64 0)).setCell ⟨w.heap.size + 3, 3, none⟩ (.bool false)).setCell ⟨w.heap.size + 3, 4, none⟩ (.slice none 0 0)) (w.heap.size + 3) 5 (.slice none 0 0))).trans (grown_cell ((((((w1.setCell ⟨w.heap.size + 3, 0, none⟩ (.int .i64 0)).setCell ⟨w.heap.size + 3, 1, none⟩ (.int .i64 0)).setCell ⟨w.heap.size + 3, 2, none⟩ (.int .i64 0)).setCell ⟨w.heap.size + 3, 3, none⟩ (.bool false)).setCell ⟨w.heap.size + 3, 4, none⟩ (.slice none 0 0)).setCell ⟨w.heap.size + 3, 5, none⟩ (.slice none 0 0)) (w.heap.size + 3) 6 (.int .i64 0))).trans (grown_cell (((((((w1.setCell ⟨w.heap.size + 3, 0, none⟩ (.int .i64 0)).setCell ⟨w.heap.size + 3, 1, none⟩ (.int .i64 0)).setCell ⟨w.heap.size + 3, 2, none⟩ (.int .i64 0)).setCell ⟨w.heap.size + 3, 3, none⟩ (.bool false)).setCell ⟨w.heap.size + 3, 4, none⟩ (.slice none 0 0)).setCell ⟨w.heap.size + 3, 5, none⟩ (.slice none 0 0)).setCell ⟨w.heap.size + 3, 6, none⟩ (.int .i64 0)) (w.heap.size + 3) 7 (.slice none 0 0))
   have H_55 := Lib.hid (H_25.out.grown hg_54 H_25.out.size (fun j hj => by injection hj with hj; have := sz0.out; have := sz_31.out; omega))
   clear H_25
   have BG_56 := Lib.hid (BG_26.out.grown hg_54 (by intro e; injection e with e; have := sz0.out; have := sz_31.out; omega))
   clear BG_26
   have BR_57 := Lib.hid (BR_27.out.grown hg_54 (by intro e; injection e with e; have := sz0.out; have := sz_31.out; omega))
   clear BR_27
   have BN_58 := Lib.hid (BN_28.out.grown hg_54 (by intro e; injection e with e; have := sz0.out; have := sz_31.out; omega))
   clear BN_28
   have BY_59 := Lib.hid (BY_30.out.grown hg_54 (by intro e; injection e with e; have := sz0.out; have := sz_31.out; omega))
   clear BY_30
   have BZ_60 : Hid (Blk ((((((((w1.setCell ⟨w.heap.size + 3, 0, none⟩ (.int .i64 0)).setCell ⟨w.heap.size + 3, 1, none⟩ (.int .i64 0)).setCell ⟨w.heap.size + 3, 2, none⟩ (.int .i64 0)).setCell ⟨w.heap.size + 3, 3, none⟩ (.bool false)).setCell ⟨w.heap.size + 3, 4, none⟩ (.slice none 0 0)).setCell ⟨w.heap.size + 3, 5, none⟩ (.slice none 0 0)).setCell ⟨w.heap.size + 3, 6, none⟩ (.int .i64 0)).setCell ⟨w.heap.size + 3, 7, none⟩ (.slice none 0 0)) (w.heap.size + 3) #[.int .i64 0, .int .i64 0, .int .i64 0, .bool false, .slice none 0 0, .slice none 0 0, .int .i64 0, .slice none 0 0] 39) := Lib.hid (Blk.set (Blk.set (Blk.set (Blk.set (Blk.set (Blk.set (Blk.set (Blk.set (BZ_29.out) 0 (.int .i64 0)) 1 (.int .i64 0)) 2 (.int .i64 0)) 3 (.bool false)) 4 (.slice none 0 0)) 5 (.slice none 0 0)) 6 (.int .i64 0)) 7 (.slice none 0 0))
   clear BZ_29
   have sz_61 := Lib.hid (World.grownBy.size hg_54)
   clear hg_54
   have hg_62 := (grown_cell ((((((((w1.setCell ⟨w.heap.size + 3, 0, none⟩ (.int .i64 0)).setCell ⟨w.heap.size + 3, 1, none⟩ (.int .i64 0)).setCell ⟨w.heap.size + 3, 2, none⟩ (.int .i64 0)).setCell ⟨w.heap.size + 3, 3, none⟩ (.bool false)).setCell ⟨w.heap.size + 3, 4, none⟩ (.slice none 0 0)).setCell ⟨w.heap.size + 3, 5, none⟩ (.slice none 0 0)).setCell ⟨w.heap.size + 3, 6, none⟩ (.int .i64 0)).setCell ⟨w.heap.size + 3, 7, none⟩ (.slice none 0 0)) (w.heap.size + 4) 0 (.int .i64 0)).trans (grown_cell (((((((((w1.setCell ⟨w.heap.size + 3, 0, none⟩ (.int .i64 0)).setCell ⟨w.heap.size + 3, 1, none⟩ (.int .i64 0)).setCell ⟨w.heap.size + 3, 2, none⟩ (.int .i64 0)).setCell ⟨w.heap.size + 3, 3, none⟩ (.bool false)).setCell ⟨w.heap.size + 3, 4, none⟩ (.slice none 0 0)).setCell ⟨w.heap.size + 3, 5, none⟩ (.slice none 0 0)).setCell ⟨w.heap.size + 3, 6, none⟩ (.int .i64 0)).setCell ⟨w.heap.size + 3, 7, none⟩ (.slice none 0 0)).setCell ⟨w.heap.size + 4, 0, none⟩ (.int .i64 0)) (w.heap.size + 4) 1 (.slice none 0 0))
   have H_63 := Lib.hid (H_55.out.grown hg_62 H_55.out.size (fun j hj => by injection hj with hj; have := sz0.out; have := sz_31.out; have := sz_61.out; omega))
   clear H_55
   have BG_64 := Lib.hid (BG_56.out.grown hg_62 (by intro e; injection e with e; have := sz0.out; have := sz_31.out; have := sz_61.out; omega))
   clear BG_56
   have BR_65 := Lib.hid (BR_57.out.grown hg_62 (by intro e; injection e with e; have := sz0.out; have := sz_31.out; have := sz_61.out; omega))
   clear BR_57
   have BN_66 := Lib.hid (BN_58.out.grown hg_62 (by intro e; injection e with e; have := sz0.out; have := sz_31.out; have := sz_61.out; omega))
   clear BN_58
   have BZ_67 := Lib.hid (BZ_60.out.grown hg_62 (by intro e; injection e with e; have := sz0.out; have := sz_31.out; have := sz_61.out; omega))
   clear BZ_60
   have BY_68 : Hid (Blk ((((((((((w1.setCell ⟨w.heap.size + 3, 0, none⟩ (.int .i64 0)).setCell ⟨w.heap.size + 3, 1, none⟩ (.int .i64 0)).setCell ⟨w.heap.size + 3, 2, none⟩ (.int .i64 0)).setCell ⟨w.heap.size + 3, 3, none⟩ (.bool false)).setCell ⟨w.heap.size + 3, 4, none⟩ (.slice none 0 0)).setCell ⟨w.heap.size + 3, 5, none⟩ (.slice none 0 0)).setCell ⟨w.heap.size + 3, 6, none⟩ (.int .i64 0)).setCell ⟨w.heap.size + 3, 7, none⟩ (.slice none 0 0)).setCell ⟨w.heap.size + 4, 0, none⟩ (.int .i64 0)).setCell ⟨w.heap.size + 4, 1, none⟩ (.slice none 0 0)) (w.heap.size + 4) #[.int .i64 0, .slice none 0 0] 37) := Lib.hid (Blk.set (Blk.set (BY_59.out) 0 (.int .i64 0)) 1 (.slice none 0 0))
   clear BY_59
   have sz_69 := Lib.hid (World.grownBy.size hg_62)
   clear hg_62
   obtain ⟨-, z0, z1, z2, z3, z4, z5, z6, z7⟩ := BZ_67.out.eight
   have y0 := BY_68.out.cell (i := 0) rfl
   have y1 := BY_68.out.cell (i := 1) rfl
   refine bodyPost_ret (v := .tuple #[.agg #[.int .i64 0, .int .i64 0, .int .i64 0, .bool false, .slice none 0 0, .slice none 0 0, .int .i64 0, .slice none 0 0], .agg #[.int .i64 0, .slice none 0 0]]) (by simp [results, Tryz.results7, go_sem, z0, z1, z2, z3, z4, z5, z6, z7, y0, y1]) rfl ?_
   exact MadeRV.no H_63.out
  by_cases hv1 : N ≤ v
  ·
   rw [show decide (0 ≤ v ∧ v < N) = false by simp; omega]
   simp only [Bool.and_false, Bool.false_and, Bool.false_eq_true, if_false]
   clear hb CC CS C2
   have H_1 := Lib.hid (g_chain (g_chain (g_chain (g_chain (g_chain (Below.refl w.heap.size w) (below_a1 w (.cells #[.int .i64 N, .slice AG l cG] 44))) (below_a1 (w.alloc (.cells #[.int .i64 N, .slice AG l cG] 44)) (.cells #[.int .i64 p, .int .i64 s, .int .i64 it, .bool dn, .slice A n c, .slice B m d, .int .i64 nn, .slice C j k] 39))) (below_a1 ((w.alloc (.cells #[.int .i64 N, .slice AG l cG] 44)).alloc (.cells #[.int .i64 p, .int .i64 s, .int .i64 it, .bool dn, .slice A n c, .slice B m d, .int .i64 nn, .slice C j k] 39)) (.cells #[.int .i64 M, .slice D q e] 37))) (below_a1 (((w.alloc (.cells #[.int .i64 N, .slice AG l cG] 44)).alloc (.cells #[.int .i64 p, .int .i64 s, .int .i64 it, .bool dn, .slice A n c, .slice B m d, .int .i64 nn, .slice C j k] 39)).alloc (.cells #[.int .i64 M, .slice D q e] 37)) (.cells #[.int .i64 0, .int .i64 0, .int .i64 0, .bool false, .slice none 0 0, .slice none 0 0, .int .i64 0, .slice none 0 0] 39))) (below_a1 ((((w.alloc (.cells #[.int .i64 N, .slice AG l cG] 44)).alloc (.cells #[.int .i64 p, .int .i64 s, .int .i64 it, .bool dn, .slice A n c, .slice B m d, .int .i64 nn, .slice C j k] 39)).alloc (.cells #[.int .i64 M, .slice D q e] 37)).alloc (.cells #[.int .i64 0, .int .i64 0, .int .i64 0, .bool false, .slice none 0 0, .slice none 0 0, .int .i64 0, .slice none 0 0] 39)) (.cells #[.int .i64 0, .slice none 0 0] 37)))
   have BG_2 : Hid (Blk (((((w.alloc (.cells #[.int .i64 N, .slice AG l cG] 44)).alloc (.cells #[.int .i64 p, .int .i64 s, .int .i64 it, .bool dn, .slice A n c, .slice B m d, .int .i64 nn, .slice C j k] 39)).alloc (.cells #[.int .i64 M, .slice D q e] 37)).alloc (.cells #[.int .i64 0, .int .i64 0, .int .i64 0, .bool false, .slice none 0 0, .slice none 0 0, .int .i64 0, .slice none 0 0] 39)).alloc (.cells #[.int .i64 0, .slice none 0 0] 37)) (w.heap.size) #[.int .i64 N, .slice AG l cG] 44) := Lib.hid (by have h := ((((Blk.new w #[.int .i64 N, .slice AG l cG] 44).alloc (.cells #[.int .i64 p, .int .i64 s, .int .i64 it, .bool dn, .slice A n c, .slice B m d, .int .i64 nn, .slice C j k] 39)).alloc (.cells #[.int .i64 M, .slice D q e] 37)).alloc (.cells #[.int .i64 0, .int .i64 0, .int .i64 0, .bool false, .slice none 0 0, .slice none 0 0, .int .i64 0, .slice none 0 0] 39)).alloc (.cells #[.int .i64 0, .slice none 0 0] 37); simpa [Nat.add_assoc] using h)
   have BR_3 : Hid (Blk (((((w.alloc (.cells #[.int .i64 N, .slice AG l cG] 44)).alloc (.cells #[.int .i64 p, .int .i64 s, .int .i64 it, .bool dn, .slice A n c, .slice B m d, .int .i64 nn, .slice C j k] 39)).alloc (.cells #[.int .i64 M, .slice D q e] 37)).alloc (.cells #[.int .i64 0, .int .i64 0, .int .i64 0, .bool false, .slice none 0 0, .slice none 0 0, .int .i64 0, .slice none 0 0] 39)).alloc (.cells #[.int .i64 0, .slice none 0 0] 37)) (w.heap.size + 1) #[.int .i64 p, .int .i64 s, .int .i64 it, .bool dn, .slice A n c, .slice B m d, .int .i64 nn, .slice C j k] 39) := Lib.hid (by have h := (((Blk.new (w.alloc (.cells #[.int .i64 N, .slice AG l cG] 44)) #[.int .i64 p, .int .i64 s, .int .i64 it, .bool dn, .slice A n c, .slice B m d, .int .i64 nn, .slice C j k] 39).alloc (.cells #[.int .i64 M, .slice D q e] 37)).alloc (.cells #[.int .i64 0, .int .i64 0, .int .i64 0, .bool false, .slice none 0 0, .slice none 0 0, .int .i64 0, .slice none 0 0] 39)).alloc (.cells #[.int .i64 0, .slice none 0 0] 37); simpa [Nat.add_assoc] using h)
   have BN_4 : Hid (Blk (((((w.alloc (.cells #[.int .i64 N, .slice AG l cG] 44)).alloc (.cells #[.int .i64 p, .int .i64 s, .int .i64 it, .bool dn, .slice A n c, .slice B m d, .int .i64 nn, .slice C j k] 39)).alloc (.cells #[.int .i64 M, .slice D q e] 37)).alloc (.cells #[.int .i64 0, .int .i64 0, .int .i64 0, .bool false, .slice none 0 0, .slice none 0 0, .int .i64 0, .slice none 0 0] 39)).alloc (.cells #[.int .i64 0, .slice none 0 0] 37)) (w.heap.size + 2) #[.int .i64 M, .slice D q e] 37) := Lib.hid (by have h := ((Blk.new ((w.alloc (.cells #[.int .i64 N, .slice AG l cG] 44)).alloc (.cells #[.int .i64 p, .int .i64 s, .int .i64 it, .bool dn, .slice A n c, .slice B m d, .int .i64 nn, .slice C j k] 39)) #[.int .i64 M, .slice D q e] 37).alloc (.cells #[.int .i64 0, .int .i64 0, .int .i64 0, .bool false, .slice none 0 0, .slice none 0 0, .int .i64 0, .slice none 0 0] 39)).alloc (.cells #[.int .i64 0, .slice none 0 0] 37); simpa [Nat.add_assoc] using h)
   have BZ_5 : Hid (Blk (((((w.alloc (.cells #[.int .i64 N, .slice AG l cG] 44)).alloc (.cells #[.int .i64 p, .int .i64 s, .int .i64 it, .bool dn, .slice A n c, .slice B m d, .int .i64 nn, .slice C j k] 39)).alloc (.cells #[.int .i64 M, .slice D q e] 37)).alloc (.cells #[.int .i64 0, .int .i64 0, .int .i64 0, .bool false, .slice none 0 0, .slice none 0 0, .int .i64 0, .slice none 0 0] 39)).alloc (.cells #[.int .i64 0, .slice none 0 0] 37)) (w.heap.size + 3) #[.int .i64 0, .int .i64 0, .int .i64 0, .bool false, .slice none 0 0, .slice none 0 0, .int .i64 0, .slice none 0 0] 39) := Lib.hid (by have h := (Blk.new (((w.alloc (.cells #[.int .i64 N, .slice AG l cG] 44)).alloc (.cells #[.int .i64 p, .int .i64 s, .int .i64 it, .bool dn, .slice A n c, .slice B m d, .int .i64 nn, .slice C j k] 39)).alloc (.cells #[.int .i64 M, .slice D q e] 37)) #[.int .i64 0, .int .i64 0, .int .i64 0, .bool false, .slice none 0 0, .slice none 0 0, .int .i64 0, .slice none 0 0] 39).alloc (.cells #[.int .i64 0, .slice none 0 0] 37); simpa [Nat.add_assoc] using h)
   have BY_6 : Hid (Blk (((((w.alloc (.cells #[.int .i64 N, .slice AG l cG] 44)).alloc (.cells #[.int .i64 p, .int .i64 s, .int .i64 it, .bool dn, .slice A n c, .slice B m d, .int .i64 nn, .slice C j k] 39)).alloc (.cells #[.int .i64 M, .slice D q e] 37)).alloc (.cells #[.int .i64 0, .int .i64 0, .int .i64 0, .bool false, .slice none 0 0, .slice none 0 0, .int .i64 0, .slice none 0 0] 39)).alloc (.cells #[.int .i64 0, .slice none 0 0] 37)) (w.heap.size + 4) #[.int .i64 0, .slice none 0 0] 37) := Lib.hid (by have h := Blk.new ((((w.alloc (.cells #[.int .i64 N, .slice AG l cG] 44)).alloc (.cells #[.int .i64 p, .int .i64 s, .int .i64 it, .bool dn, .slice A n c, .slice B m d, .int .i64 nn, .slice C j k] 39)).alloc (.cells #[.int .i64 M, .slice D q e] 37)).alloc (.cells #[.int .i64 0, .int .i64 0, .int .i64 0, .bool false, .slice none 0 0, .slice none 0 0, .int .i64 0, .slice none 0 0] 39)) #[.int .i64 0, .slice none 0 0] 37; simpa [Nat.add_assoc] using h)
   have sz0 : Hid (w.heap.size + 5 ≤ (((((w.alloc (.cells #[.int .i64 N, .slice AG l cG] 44)).alloc (.cells #[.int .i64 p, .int .i64 s, .int .i64 it, .bool dn, .slice A n c, .slice B m d, .int .i64 nn, .slice C j k] 39)).alloc (.cells #[.int .i64 M, .slice D q e] 37)).alloc (.cells #[.int .i64 0, .int .i64 0, .int .i64 0, .bool false, .slice none 0 0, .slice none 0 0, .int .i64 0, .slice none 0 0] 39)).alloc (.cells #[.int .i64 0, .slice none 0 0] 37)).heap.size) := Lib.hid (by simp)
   go_enter Tryz.func7, Tryz.ntmps7
   have x_7 := BG_2.out.cell (i := 0) rfl
   have x_8 := BG_2.out.cell (i := 1) rfl
   have fz_9 := fun i => BG_2.out.frozen i
   have lt_10 := BG_2.out.lt
   have x_11 := BR_3.out.cell (i := 0) rfl
   have x_12 := BR_3.out.cell (i := 1) rfl
   have x_13 := BR_3.out.cell (i := 2) rfl
   have x_14 := BR_3.out.cell (i := 3) rfl
   have x_15 := BR_3.out.cell (i := 4) rfl
   have x_16 := BR_3.out.cell (i := 5) rfl
   have x_17 := BR_3.out.cell (i := 6) rfl
   have x_18 := BR_3.out.cell (i := 7) rfl
   have fz_19 := fun i => BR_3.out.frozen i
   have lt_20 := BR_3.out.lt
   have x_21 := BN_4.out.cell (i := 0) rfl
   have x_22 := BN_4.out.cell (i := 1) rfl
   have fz_23 := fun i => BN_4.out.frozen i
   have lt_24 := BN_4.out.lt
   go_wp2_with fail
   refine (C0.out _ H_1.out).mono ?_
   rintro e w1 ⟨rfl, hb⟩
   clear x_7
   clear x_8
   clear fz_9
   clear lt_10
   clear x_11
   clear x_12
   clear x_13
   clear x_14
   clear x_15
   clear x_16
   clear x_17
   clear x_18
   clear fz_19
   clear lt_20
   clear x_21
   clear x_22
   clear fz_23
   clear lt_24
   have H_25 := Lib.hid (g_chain H_1.out hb)
   clear H_1
   have BG_26 := Lib.hid (BG_2.out.below hb)
   clear BG_2
   have BR_27 := Lib.hid (BR_3.out.below hb)
   clear BR_3
   have BN_28 := Lib.hid (BN_4.out.below hb)
   clear BN_4
   have BZ_29 := Lib.hid (BZ_5.out.below hb)
   clear BZ_5
   have BY_30 := Lib.hid (BY_6.out.below hb)
   clear BY_6
   have sz_31 := Lib.hid (Below.size hb)
   clear hb
   have x_32 := BZ_29.out.cell (i := 0) rfl
   have x_33 := BZ_29.out.cell (i := 1) rfl
   have x_34 := BZ_29.out.cell (i := 2) rfl
   have x_35 := BZ_29.out.cell (i := 3) rfl
   have x_36 := BZ_29.out.cell (i := 4) rfl
   have x_37 := BZ_29.out.cell (i := 5) rfl
   have x_38 := BZ_29.out.cell (i := 6) rfl
   have x_39 := BZ_29.out.cell (i := 7) rfl
   have fz_40 := fun i => BZ_29.out.frozen i
   have lt_41 := BZ_29.out.lt
   have x_42 := BY_30.out.cell (i := 0) rfl
   have x_43 := BY_30.out.cell (i := 1) rfl
   have fz_44 := fun i => BY_30.out.frozen i
   have lt_45 := BY_30.out.lt
   have x_46 := BG_26.out.cell (i := 0) rfl
   have x_47 := BG_26.out.cell (i := 1) rfl
   have fz_48 := fun i => BG_26.out.frozen i
   have lt_49 := BG_26.out.lt
   have x_50 := BN_28.out.cell (i := 0) rfl
   have x_51 := BN_28.out.cell (i := 1) rfl
   have fz_52 := fun i => BN_28.out.frozen i
   have lt_53 := BN_28.out.lt
   go_wp2
   clear x_32 x_33 x_34 x_35 x_36 x_37 x_38 x_39 fz_40 lt_41 x_42 x_43 fz_44 lt_45 x_46 x_47 fz_48 lt_49 x_50 x_51 fz_52 lt_53
   have hg_54 := (((((((grown_cell w1 (w.heap.size + 3) 0 (.int .i64 0)).trans (grown_cell (w1.setCell ⟨w.heap.size + 3, 0, none⟩ (.int .i64 0)) (w.heap.size + 3) 1 (.int .i64 0))).trans (grown_cell ((w1.setCell ⟨w.heap.size + 3, 0, none⟩ (.int .i64 0)).setCell ⟨w.heap.size + 3, 1, none⟩ (.int .i64 0)) (w.heap.size + 3) 2 (.int .i64 0))).trans (grown_cell (((w1.setCell ⟨w.heap.size + 3, 0, none⟩ (.int .i64 0)).setCell ⟨w.heap.size + 3, 1, none⟩ (.int .i64 0)).setCell ⟨w.heap.size + 3, 2, none⟩ (.int .i64 0)) (w.heap.size + 3) 3 (.bool false))).trans (grown_cell ((((w1.setCell ⟨w.heap.size + 3, 0, none⟩ (.int .i64 0)).setCell ⟨w.heap.size + 3, 1, none⟩ (.int .i64 0)).setCell ⟨w.heap.size + 3, 2, none⟩ (.int .i64 0)).setCell ⟨w.heap.size + 3, 3, none⟩ (.bool false)) (w.heap.size + 3) 4 (.slice none 0 0))).trans (grown_cell (((((w1.setCell ⟨w.heap.size + 3, 0, none⟩ (.int .i64 0)).setCell ⟨w.heap.size + 3, 1, none⟩ (.int .i64 0)).setCell ⟨w.heap.size + 3, 2, none⟩ (.int .i64 0)).setCell ⟨w.heap.size + 3, 3, none⟩ (.bool false)).setCell ⟨w.heap.size + 3, 4, none⟩ (.slice none 0 0)) (w.heap.size + 3) 5 (.slice none 0 0))).trans (grown_cell ((((((w1.setCell ⟨w.heap.size + 3, 0, none⟩ (.int .i64 0)).setCell ⟨w.heap.size + 3, 1, none⟩ (.int .i64 0)).setCell ⟨w.heap.size + 3, 2, none⟩ (.int .i64 0)).setCell ⟨w.heap.size + 3, 3, none⟩ (.bool false)).setCell ⟨w.heap.size + 3, 4, none⟩ (.slice none 0 0)).setCell ⟨w.heap.size + 3, 5, none⟩ (.slice none 0 0)) (w.heap.size + 3) 6 (.int .i64 0))).trans (grown_cell (((((((w1.setCell ⟨w.heap.size + 3, 0, none⟩ (.int .i64 0)).setCell ⟨w.heap.size + 3, 1, none⟩ (.int .i64 0)).setCell ⟨w.heap.size + 3, 2, none⟩ (.int .i64 0)).setCell ⟨w.heap.size + 3, 3, none⟩ (.bool false)).setCell ⟨w.heap.size + 3, 4, none⟩ (.slice none 0 0)).setCell ⟨w.heap.size + 3, 5, none⟩ (.slice none 0 0)).setCell ⟨w.heap.size + 3, 6, none⟩ (.int .i64 0)) (w.heap.size + 3) 7 (.slice none 0 0))
   have H_55 := Lib.hid (H_25.out.grown hg_54 H_25.out.size (fun j hj => by injection hj with hj; have := sz0.out; have := sz_31.out; omega))
   clear H_25
   have BG_56 := Lib.hid (BG_26.out.grown hg_54 (by intro e; injection e with e; have := sz0.out; have := sz_31.out; omega))
   clear BG_26
   have BR_57 := Lib.hid (BR_27.out.grown hg_54 (by intro e; injection e with e; have := sz0.out; have := sz_31.out; omega))
   clear BR_27
   have BN_58 := Lib.hid (BN_28.out.grown hg_54 (by intro e; injection e with e; have := sz0.out; have := sz_31.out; omega))
   clear BN_28
   have BY_59 := Lib.hid (BY_30.out.grown hg_54 (by intro e; injection e with e; have := sz0.out; have := sz_31.out; omega))
   clear BY_30
   have BZ_60 : Hid (Blk ((((((((w1.setCell ⟨w.heap.size + 3, 0, none⟩ (.int .i64 0)).setCell ⟨w.heap.size + 3, 1, none⟩ (.int .i64 0)).setCell ⟨w.heap.size + 3, 2, none⟩ (.int .i64 0)).setCell ⟨w.heap.size + 3, 3, none⟩ (.bool false)).setCell ⟨w.heap.size + 3, 4, none⟩ (.slice none 0 0)).setCell ⟨w.heap.size + 3, 5, none⟩ (.slice none 0 0)).setCell ⟨w.heap.size + 3, 6, none⟩ (.int .i64 0)).setCell ⟨w.heap.size + 3, 7, none⟩ (.slice none 0 0)) (w.heap.size + 3) #[.int .i64 0, .int .i64 0, .int .i64 0, .bool false, .slice none 0 0, .slice none 0 0, .int .i64 0, .slice none 0 0] 39) := Lib.hid (Blk.set (Blk.set (Blk.set (Blk.set (Blk.set (Blk.set (Blk.set (Blk.set (BZ_29.out) 0 (.int .i64 0)) 1 (.int .i64 0)) 2 (.int .i64 0)) 3 (.bool false)) 4 (.slice none 0 0)) 5 (.slice none 0 0)) 6 (.int .i64 0)) 7 (.slice none 0 0))
   clear BZ_29
   have sz_61 := Lib.hid (World.grownBy.size hg_54)
   clear hg_54
   have hg_62 := (grown_cell ((((((((w1.setCell ⟨w.heap.size + 3, 0, none⟩ (.int .i64 0)).setCell ⟨w.heap.size + 3, 1, none⟩ (.int .i64 0)).setCell ⟨w.heap.size + 3, 2, none⟩ (.int .i64 0)).setCell ⟨w.heap.size + 3, 3, none⟩ (.bool false)).setCell ⟨w.heap.size + 3, 4, none⟩ (.slice none 0 0)).setCell ⟨w.heap.size + 3, 5, none⟩ (.slice none 0 0)).setCell ⟨w.heap.size + 3, 6, none⟩ (.int .i64 0)).setCell ⟨w.heap.size + 3, 7, none⟩ (.slice none 0 0)) (w.heap.size + 4) 0 (.int .i64 0)).trans (grown_cell (((((((((w1.setCell ⟨w.heap.size + 3, 0, none⟩ (.int .i64 0)).setCell ⟨w.heap.size + 3, 1, none⟩ (.int .i64 0)).setCell ⟨w.heap.size + 3, 2, none⟩ (.int .i64 0)).setCell ⟨w.heap.size + 3, 3, none⟩ (.bool false)).setCell ⟨w.heap.size + 3, 4, none⟩ (.slice none 0 0)).setCell ⟨w.heap.size + 3, 5, none⟩ (.slice none 0 0)).setCell ⟨w.heap.size + 3, 6, none⟩ (.int .i64 0)).setCell ⟨w.heap.size + 3, 7, none⟩ (.slice none 0 0)).setCell ⟨w.heap.size + 4, 0, none⟩ (.int .i64 0)) (w.heap.size + 4) 1 (.slice none 0 0))
   have H_63 := Lib.hid (H_55.out.grown hg_62 H_55.out.size (fun j hj => by injection hj with hj; have := sz0.out; have := sz_31.out; have := sz_61.out; omega))
   clear H_55
   have BG_64 := Lib.hid (BG_56.out.grown hg_62 (by intro e; injection e with e; have := sz0.out; have := sz_31.out; have := sz_61.out; omega))
   clear BG_56
   have BR_65 := Lib.hid (BR_57.out.grown hg_62 (by intro e; injection e with e; have := sz0.out; have := sz_31.out; have := sz_61.out; omega))
   clear BR_57
   have BN_66 := Lib.hid (BN_58.out.grown hg_62 (by intro e; injection e with e; have := sz0.out; have := sz_31.out; have := sz_61.out; omega))
   clear BN_58
   have BZ_67 := Lib.hid (BZ_60.out.grown hg_62 (by intro e; injection e with e; have := sz0.out; have := sz_31.out; have := sz_61.out; omega))
   clear BZ_60
   have BY_68 : Hid (Blk ((((((((((w1.setCell ⟨w.heap.size + 3, 0, none⟩ (.int .i64 0)).setCell ⟨w.heap.size + 3, 1, none⟩ (.int .i64 0)).setCell ⟨w.heap.size + 3, 2, none⟩ (.int .i64 0)).setCell ⟨w.heap.size + 3, 3, none⟩ (.bool false)).setCell ⟨w.heap.size + 3, 4, none⟩ (.slice none 0 0)).setCell ⟨w.heap.size + 3, 5, none⟩ (.slice none 0 0)).setCell ⟨w.heap.size + 3, 6, none⟩ (.int .i64 0)).setCell ⟨w.heap.size + 3, 7, none⟩ (.slice none 0 0)).setCell ⟨w.heap.size + 4, 0, none⟩ (.int .i64 0)).setCell ⟨w.heap.size + 4, 1, none⟩ (.slice none 0 0)) (w.heap.size + 4) #[.int .i64 0, .slice none 0 0] 37) := Lib.hid (Blk.set (Blk.set (BY_59.out) 0 (.int .i64 0)) 1 (.slice none 0 0))
   clear BY_59
   have sz_69 := Lib.hid (World.grownBy.size hg_62)
   clear hg_62
   obtain ⟨-, z0, z1, z2, z3, z4, z5, z6, z7⟩ := BZ_67.out.eight
   have y0 := BY_68.out.cell (i := 0) rfl
   have y1 := BY_68.out.cell (i := 1) rfl
   refine bodyPost_ret (v := .tuple #[.agg #[.int .i64 0, .int .i64 0, .int .i64 0, .bool false, .slice none 0 0, .slice none 0 0, .int .i64 0, .slice none 0 0], .agg #[.int .i64 0, .slice none 0 0]]) (by simp [results, Tryz.results7, go_sem, z0, z1, z2, z3, z4, z5, z6, z7, y0, y1]) rfl ?_
   exact MadeRV.no H_63.out
  rw [show decide (0 ≤ v ∧ v < N) = true by simp; omega]
  cases hs0 : setB M nw with
  | false =>
   rw [hs0] at C2
   simp only [Bool.and_false, Bool.false_and, Bool.false_eq_true, if_false]
   clear hb CC CS
   have H_1 := Lib.hid (g_chain (g_chain (g_chain (g_chain (g_chain (Below.refl w.heap.size w) (below_a1 w (.cells #[.int .i64 N, .slice AG l cG] 44))) (below_a1 (w.alloc (.cells #[.int .i64 N, .slice AG l cG] 44)) (.cells #[.int .i64 p, .int .i64 s, .int .i64 it, .bool dn, .slice A n c, .slice B m d, .int .i64 nn, .slice C j k] 39))) (below_a1 ((w.alloc (.cells #[.int .i64 N, .slice AG l cG] 44)).alloc (.cells #[.int .i64 p, .int .i64 s, .int .i64 it, .bool dn, .slice A n c, .slice B m d, .int .i64 nn, .slice C j k] 39)) (.cells #[.int .i64 M, .slice D q e] 37))) (below_a1 (((w.alloc (.cells #[.int .i64 N, .slice AG l cG] 44)).alloc (.cells #[.int .i64 p, .int .i64 s, .int .i64 it, .bool dn, .slice A n c, .slice B m d, .int .i64 nn, .slice C j k] 39)).alloc (.cells #[.int .i64 M, .slice D q e] 37)) (.cells #[.int .i64 0, .int .i64 0, .int .i64 0, .bool false, .slice none 0 0, .slice none 0 0, .int .i64 0, .slice none 0 0] 39))) (below_a1 ((((w.alloc (.cells #[.int .i64 N, .slice AG l cG] 44)).alloc (.cells #[.int .i64 p, .int .i64 s, .int .i64 it, .bool dn, .slice A n c, .slice B m d, .int .i64 nn, .slice C j k] 39)).alloc (.cells #[.int .i64 M, .slice D q e] 37)).alloc (.cells #[.int .i64 0, .int .i64 0, .int .i64 0, .bool false, .slice none 0 0, .slice none 0 0, .int .i64 0, .slice none 0 0] 39)) (.cells #[.int .i64 0, .slice none 0 0] 37)))
   have BG_2 : Hid (Blk (((((w.alloc (.cells #[.int .i64 N, .slice AG l cG] 44)).alloc (.cells #[.int .i64 p, .int .i64 s, .int .i64 it, .bool dn, .slice A n c, .slice B m d, .int .i64 nn, .slice C j k] 39)).alloc (.cells #[.int .i64 M, .slice D q e] 37)).alloc (.cells #[.int .i64 0, .int .i64 0, .int .i64 0, .bool false, .slice none 0 0, .slice none 0 0, .int .i64 0, .slice none 0 0] 39)).alloc (.cells #[.int .i64 0, .slice none 0 0] 37)) (w.heap.size) #[.int .i64 N, .slice AG l cG] 44) := Lib.hid (by have h := ((((Blk.new w #[.int .i64 N, .slice AG l cG] 44).alloc (.cells #[.int .i64 p, .int .i64 s, .int .i64 it, .bool dn, .slice A n c, .slice B m d, .int .i64 nn, .slice C j k] 39)).alloc (.cells #[.int .i64 M, .slice D q e] 37)).alloc (.cells #[.int .i64 0, .int .i64 0, .int .i64 0, .bool false, .slice none 0 0, .slice none 0 0, .int .i64 0, .slice none 0 0] 39)).alloc (.cells #[.int .i64 0, .slice none 0 0] 37); simpa [Nat.add_assoc] using h)
   have BR_3 : Hid (Blk (((((w.alloc (.cells #[.int .i64 N, .slice AG l cG] 44)).alloc (.cells #[.int .i64 p, .int .i64 s, .int .i64 it, .bool dn, .slice A n c, .slice B m d, .int .i64 nn, .slice C j k] 39)).alloc (.cells #[.int .i64 M, .slice D q e] 37)).alloc (.cells #[.int .i64 0, .int .i64 0, .int .i64 0, .bool false, .slice none 0 0, .slice none 0 0, .int .i64 0, .slice none 0 0] 39)).alloc (.cells #[.int .i64 0, .slice none 0 0] 37)) (w.heap.size + 1) #[.int .i64 p, .int .i64 s, .int .i64 it, .bool dn, .slice A n c, .slice B m d, .int .i64 nn, .slice C j k] 39) := Lib.hid (by have h := (((Blk.new (w.alloc (.cells #[.int .i64 N, .slice AG l cG] 44)) #[.int .i64 p, .int .i64 s, .int .i64 it, .bool dn, .slice A n c, .slice B m d, .int .i64 nn, .slice C j k] 39).alloc (.cells #[.int .i64 M, .slice D q e] 37)).alloc (.cells #[.int .i64 0, .int .i64 0, .int .i64 0, .bool false, .slice none 0 0, .slice none 0 0, .int .i64 0, .slice none 0 0] 39)).alloc (.cells #[.int .i64 0, .slice none 0 0] 37); simpa [Nat.add_assoc] using h)
   have BN_4 : Hid (Blk (((((w.alloc (.cells #[.int .i64 N, .slice AG l cG] 44)).alloc (.cells #[.int .i64 p, .int .i64 s, .int .i64 it, .bool dn, .slice A n c, .slice B m d, .int .i64 nn, .slice C j k] 39)).alloc (.cells #[.int .i64 M, .slice D q e] 37)).alloc (.cells #[.int .i64 0, .int .i64 0, .int .i64 0, .bool false, .slice none 0 0, .slice none 0 0, .int .i64 0, .slice none 0 0] 39)).alloc (.cells #[.int .i64 0, .slice none 0 0] 37)) (w.heap.size + 2) #[.int .i64 M, .slice D q e] 37) := Lib.hid (by have h := ((Blk.new ((w.alloc (.cells #[.int .i64 N, .slice AG l cG] 44)).alloc (.cells #[.int .i64 p, .int .i64 s, .int .i64 it, .bool dn, .slice A n c, .slice B m d, .int .i64 nn, .slice C j k] 39)) #[.int .i64 M, .slice D q e] 37).alloc (.cells #[.int .i64 0, .int .i64 0, .int .i64 0, .bool false, .slice none 0 0, .slice none 0 0, .int .i64 0, .slice none 0 0] 39)).alloc (.cells #[.int .i64 0, .slice none 0 0] 37); simpa [Nat.add_assoc] using h)
   have BZ_5 : Hid (Blk (((((w.alloc (.cells #[.int .i64 N, .slice AG l cG] 44)).alloc (.cells #[.int .i64 p, .int .i64 s, .int .i64 it, .bool dn, .slice A n c, .slice B m d, .int .i64 nn, .slice C j k] 39)).alloc (.cells #[.int .i64 M, .slice D q e] 37)).alloc (.cells #[.int .i64 0, .int .i64 0, .int .i64 0, .bool false, .slice none 0 0, .slice none 0 0, .int .i64 0, .slice none 0 0] 39)).alloc (.cells #[.int .i64 0, .slice none 0 0] 37)) (w.heap.size + 3) #[.int .i64 0, .int .i64 0, .int .i64 0, .bool false, .slice none 0 0, .slice none 0 0, .int .i64 0, .slice none 0 0] 39) := Lib.hid (by have h := (Blk.new (((w.alloc (.cells #[.int .i64 N, .slice AG l cG] 44)).alloc (.cells #[.int .i64 p, .int .i64 s, .int .i64 it, .bool dn, .slice A n c, .slice B m d, .int .i64 nn, .slice C j k] 39)).alloc (.cells #[.int .i64 M, .slice D q e] 37)) #[.int .i64 0, .int .i64 0, .int .i64 0, .bool false, .slice none 0 0, .slice none 0 0, .int .i64 0, .slice none 0 0] 39).alloc (.cells #[.int .i64 0, .slice none 0 0] 37); simpa [Nat.add_assoc] using h)
   have BY_6 : Hid (Blk (((((w.alloc (.cells #[.int .i64 N, .slice AG l cG] 44)).alloc (.cells #[.int .i64 p, .int .i64 s, .int .i64 it, .bool dn, .slice A n c, .slice B m d, .int .i64 nn, .slice C j k] 39)).alloc (.cells #[.int .i64 M, .slice D q e] 37)).alloc (.cells #[.int .i64 0, .int .i64 0, .int .i64 0, .bool false, .slice none 0 0, .slice none 0 0, .int .i64 0, .slice none 0 0] 39)).alloc (.cells #[.int .i64 0, .slice none 0 0] 37)) (w.heap.size + 4) #[.int .i64 0, .slice none 0 0] 37) := Lib.hid (by have h := Blk.new ((((w.alloc (.cells #[.int .i64 N, .slice AG l cG] 44)).alloc (.cells #[.int .i64 p, .int .i64 s, .int .i64 it, .bool dn, .slice A n c, .slice B m d, .int .i64 nn, .slice C j k] 39)).alloc (.cells #[.int .i64 M, .slice D q e] 37)).alloc (.cells #[.int .i64 0, .int .i64 0, .int .i64 0, .bool false, .slice none 0 0, .slice none 0 0, .int .i64 0, .slice none 0 0] 39)) #[.int .i64 0, .slice none 0 0] 37; simpa [Nat.add_assoc] using h)
   have sz0 : Hid (w.heap.size + 5 ≤ (((((w.alloc (.cells #[.int .i64 N, .slice AG l cG] 44)).alloc (.cells #[.int .i64 p, .int .i64 s, .int .i64 it, .bool dn, .slice A n c, .slice B m d, .int .i64 nn, .slice C j k] 39)).alloc (.cells #[.int .i64 M, .slice D q e] 37)).alloc (.cells #[.int .i64 0, .int .i64 0, .int .i64 0, .bool false, .slice none 0 0, .slice none 0 0, .int .i64 0, .slice none 0 0] 39)).alloc (.cells #[.int .i64 0, .slice none 0 0] 37)).heap.size) := Lib.hid (by simp)
   go_enter Tryz.func7, Tryz.ntmps7
   have x_7 := BG_2.out.cell (i := 0) rfl
   have x_8 := BG_2.out.cell (i := 1) rfl
   have fz_9 := fun i => BG_2.out.frozen i
   have lt_10 := BG_2.out.lt
   have x_11 := BR_3.out.cell (i := 0) rfl
   have x_12 := BR_3.out.cell (i := 1) rfl
   have x_13 := BR_3.out.cell (i := 2) rfl
   have x_14 := BR_3.out.cell (i := 3) rfl
   have x_15 := BR_3.out.cell (i := 4) rfl
   have x_16 := BR_3.out.cell (i := 5) rfl
   have x_17 := BR_3.out.cell (i := 6) rfl
   have x_18 := BR_3.out.cell (i := 7) rfl
   have fz_19 := fun i => BR_3.out.frozen i
   have lt_20 := BR_3.out.lt
   have x_21 := BN_4.out.cell (i := 0) rfl
   have x_22 := BN_4.out.cell (i := 1) rfl
   have fz_23 := fun i => BN_4.out.frozen i
   have lt_24 := BN_4.out.lt
   go_wp2_with fail
   refine (C0.out _ H_1.out).mono ?_
   rintro e w1 ⟨rfl, hb⟩
   clear x_7
   clear x_8
   clear fz_9
   clear lt_10
   clear x_11
   clear x_12
   clear x_13
   clear x_14
   clear x_15
   clear x_16
   clear x_17
   clear x_18
   clear fz_19
   clear lt_20
   clear x_21
   clear x_22
   clear fz_23
   clear lt_24
   have H_25 := Lib.hid (g_chain H_1.out hb)
   clear H_1
   have BG_26 := Lib.hid (BG_2.out.below hb)
   clear BG_2
   have BR_27 := Lib.hid (BR_3.out.below hb)
   clear BR_3
   have BN_28 := Lib.hid (BN_4.out.below hb)
   clear BN_4
   have BZ_29 := Lib.hid (BZ_5.out.below hb)
   clear BZ_5
   have BY_30 := Lib.hid (BY_6.out.below hb)
   clear BY_6
   have sz_31 := Lib.hid (Below.size hb)
   clear hb
   have x_32 := BG_26.out.cell (i := 0) rfl
   have x_33 := BG_26.out.cell (i := 1) rfl
   have fz_34 := fun i => BG_26.out.frozen i
   have lt_35 := BG_26.out.lt
   have x_36 := BR_27.out.cell (i := 0) rfl
   have x_37 := BR_27.out.cell (i := 1) rfl
   have x_38 := BR_27.out.cell (i := 2) rfl
   have x_39 := BR_27.out.cell (i := 3) rfl
   have x_40 := BR_27.out.cell (i := 4) rfl
   have x_41 := BR_27.out.cell (i := 5) rfl
   have x_42 := BR_27.out.cell (i := 6) rfl
   have x_43 := BR_27.out.cell (i := 7) rfl
   have fz_44 := fun i => BR_27.out.frozen i
   have lt_45 := BR_27.out.lt
   have x_46 := BN_28.out.cell (i := 0) rfl
   have x_47 := BN_28.out.cell (i := 1) rfl
   have fz_48 := fun i => BN_28.out.frozen i
   have lt_49 := BN_28.out.lt
   go_wp2_with fail
   refine (C2.out _ H_25.out).mono ?_
   rintro e w2 ⟨rfl, hb⟩
   clear x_32
   clear x_33
   clear fz_34
   clear lt_35
   clear x_36
   clear x_37
   clear x_38
   clear x_39
   clear x_40
   clear x_41
   clear x_42
   clear x_43
   clear fz_44
   clear lt_45
   clear x_46
   clear x_47
   clear fz_48
   clear lt_49
   have H_50 := Lib.hid (g_chain H_25.out hb)
   clear H_25
   have BG_51 := Lib.hid (BG_26.out.below hb)
   clear BG_26
   have BR_52 := Lib.hid (BR_27.out.below hb)
   clear BR_27
   have BN_53 := Lib.hid (BN_28.out.below hb)
   clear BN_28
   have BZ_54 := Lib.hid (BZ_29.out.below hb)
   clear BZ_29
   have BY_55 := Lib.hid (BY_30.out.below hb)
   clear BY_30
   have sz_56 := Lib.hid (Below.size hb)
   clear hb
   have x_57 := BZ_54.out.cell (i := 0) rfl
   have x_58 := BZ_54.out.cell (i := 1) rfl
   have x_59 := BZ_54.out.cell (i := 2) rfl
   have x_60 := BZ_54.out.cell (i := 3) rfl
   have x_61 := BZ_54.out.cell (i := 4) rfl
   have x_62 := BZ_54.out.cell (i := 5) rfl
   have x_63 := BZ_54.out.cell (i := 6) rfl
   have x_64 := BZ_54.out.cell (i := 7) rfl
   have fz_65 := fun i => BZ_54.out.frozen i
   have lt_66 := BZ_54.out.lt
   have x_67 := BY_55.out.cell (i := 0) rfl
   have x_68 := BY_55.out.cell (i := 1) rfl
   have fz_69 := fun i => BY_55.out.frozen i
   have lt_70 := BY_55.out.lt
   have x_71 := BG_51.out.cell (i := 0) rfl
   have x_72 := BG_51.out.cell (i := 1) rfl
   have fz_73 := fun i => BG_51.out.frozen i
   have lt_74 := BG_51.out.lt
   have x_75 := BN_53.out.cell (i := 0) rfl
   have x_76 := BN_53.out.cell (i := 1) rfl
   have fz_77 := fun i => BN_53.out.frozen i
   have lt_78 := BN_53.out.lt
   go_wp2
   clear x_57 x_58 x_59 x_60 x_61 x_62 x_63 x_64 fz_65 lt_66 x_67 x_68 fz_69 lt_70 x_71 x_72 fz_73 lt_74 x_75 x_76 fz_77 lt_78
   have hg_79 := (((((((grown_cell w2 (w.heap.size + 3) 0 (.int .i64 0)).trans (grown_cell (w2.setCell ⟨w.heap.size + 3, 0, none⟩ (.int .i64 0)) (w.heap.size + 3) 1 (.int .i64 0))).trans (grown_cell ((w2.setCell ⟨w.heap.size + 3, 0, none⟩ (.int .i64 0)).setCell ⟨w.heap.size + 3, 1, none⟩ (.int .i64 0)) (w.heap.size + 3) 2 (.int .i64 0))).trans (grown_cell (((w2.setCell ⟨w.heap.size + 3, 0, none⟩ (.int .i64 0)).setCell ⟨w.heap.size + 3, 1, none⟩ (.int .i64 0)).setCell ⟨w.heap.size + 3, 2, none⟩ (.int .i64 0)) (w.heap.size + 3) 3 (.bool false))).trans (grown_cell ((((w2.setCell ⟨w.heap.size + 3, 0, none⟩ (.int .i64 0)).setCell ⟨w.heap.size + 3, 1, none⟩ (.int .i64 0)).setCell ⟨w.heap.size + 3, 2, none⟩ (.int .i64 0)).setCell ⟨w.heap.size + 3, 3, none⟩ (.bool false)) (w.heap.size + 3) 4 (.slice none 0 0))).trans (grown_cell (((((w2.setCell ⟨w.heap.size + 3, 0, none⟩ (.int .i64 0)).setCell ⟨w.heap.size + 3, 1, none⟩ (.int .i64 0)).setCell ⟨w.heap.size + 3, 2, none⟩ (.int .i64 0)).setCell ⟨w.heap.size + 3, 3, none⟩ (.bool false)).setCell ⟨w.heap.size + 3, 4, none⟩ (.slice none 0 0)) (w.heap.size + 3) 5 (.slice none 0 0))).trans (grown_cell ((((((w2.setCell ⟨w.heap.size + 3, 0, none⟩ (.int .i64 0)).setCell ⟨w.heap.size + 3, 1, none⟩ (.int .i64 0)).setCell ⟨w.heap.size + 3, 2, none⟩ (.int .i64 0)).setCell ⟨w.heap.size + 3, 3, none⟩ (.bool false)).setCell ⟨w.heap.size + 3, 4, none⟩ (.slice none 0 0)).setCell ⟨w.heap.size + 3, 5, none⟩ (.slice none 0 0)) (w.heap.size + 3) 6 (.int .i64 0))).trans (grown_cell (((((((w2.setCell ⟨w.heap.size + 3, 0, none⟩ (.int .i64 0)).setCell ⟨w.heap.size + 3, 1, none⟩ (.int .i64 0)).setCell ⟨w.heap.size + 3, 2, none⟩ (.int .i64 0)).setCell ⟨w.heap.size + 3, 3, none⟩ (.bool false)).setCell ⟨w.heap.size + 3, 4, none⟩ (.slice none 0 0)).setCell ⟨w.heap.size + 3, 5, none⟩ (.slice none 0 0)).setCell ⟨w.heap.size + 3, 6, none⟩ (.int .i64 0)) (w.heap.size + 3) 7 (.slice none 0 0))
   have H_80 := Lib.hid (H_50.out.grown hg_79 H_50.out.size (fun j hj => by injection hj with hj; have := sz0.out; have := sz_31.out; have := sz_56.out; omega))
   clear H_50
   have BG_81 := Lib.hid (BG_51.out.grown hg_79 (by intro e; injection e with e; have := sz0.out; have := sz_31.out; have := sz_56.out; omega))
   clear BG_51
   have BR_82 := Lib.hid (BR_52.out.grown hg_79 (by intro e; injection e with e; have := sz0.out; have := sz_31.out; have := sz_56.out; omega))
   clear BR_52
   have BN_83 := Lib.hid (BN_53.out.grown hg_79 (by intro e; injection e with e; have := sz0.out; have := sz_31.out; have := sz_56.out; omega))
   clear BN_53
   have BY_84 := Lib.hid (BY_55.out.grown hg_79 (by intro e; injection e with e; have := sz0.out; have := sz_31.out; have := sz_56.out; omega))
   clear BY_55
   have BZ_85 : Hid (Blk ((((((((w2.setCell ⟨w.heap.size + 3, 0, none⟩ (.int .i64 0)).setCell ⟨w.heap.size + 3, 1, none⟩ (.int .i64 0)).setCell ⟨w.heap.size + 3, 2, none⟩ (.int .i64 0)).setCell ⟨w.heap.size + 3, 3, none⟩ (.bool false)).setCell ⟨w.heap.size + 3, 4, none⟩ (.slice none 0 0)).setCell ⟨w.heap.size + 3, 5, none⟩ (.slice none 0 0)).setCell ⟨w.heap.size + 3, 6, none⟩ (.int .i64 0)).setCell ⟨w.heap.size + 3, 7, none⟩ (.slice none 0 0)) (w.heap.size + 3) #[.int .i64 0, .int .i64 0, .int .i64 0, .bool false, .slice none 0 0, .slice none 0 0, .int .i64 0, .slice none 0 0] 39) := Lib.hid (Blk.set (Blk.set (Blk.set (Blk.set (Blk.set (Blk.set (Blk.set (Blk.set (BZ_54.out) 0 (.int .i64 0)) 1 (.int .i64 0)) 2 (.int .i64 0)) 3 (.bool false)) 4 (.slice none 0 0)) 5 (.slice none 0 0)) 6 (.int .i64 0)) 7 (.slice none 0 0))
   clear BZ_54
   have sz_86 := Lib.hid (World.grownBy.size hg_79)
   clear hg_79
   have hg_87 := (grown_cell ((((((((w2.setCell ⟨w.heap.size + 3, 0, none⟩ (.int .i64 0)).setCell ⟨w.heap.size + 3, 1, none⟩ (.int .i64 0)).setCell ⟨w.heap.size + 3, 2, none⟩ (.int .i64 0)).setCell ⟨w.heap.size + 3, 3, none⟩ (.bool false)).setCell ⟨w.heap.size + 3, 4, none⟩ (.slice none 0 0)).setCell ⟨w.heap.size + 3, 5, none⟩ (.slice none 0 0)).setCell ⟨w.heap.size + 3, 6, none⟩ (.int .i64 0)).setCell ⟨w.heap.size + 3, 7, none⟩ (.slice none 0 0)) (w.heap.size + 4) 0 (.int .i64 0)).trans (grown_cell (((((((((w2.setCell ⟨w.heap.size + 3, 0, none⟩ (.int .i64 0)).setCell ⟨w.heap.size + 3, 1, none⟩ (.int .i64 0)).setCell ⟨w.heap.size + 3, 2, none⟩ (.int .i64 0)).setCell ⟨w.heap.size + 3, 3, none⟩ (.bool false)).setCell ⟨w.heap.size + 3, 4, none⟩ (.slice none 0 0)).setCell ⟨w.heap.size + 3, 5, none⟩ (.slice none 0 0)).setCell ⟨w.heap.size + 3, 6, none⟩ (.int .i64 0)).setCell ⟨w.heap.size + 3, 7, none⟩ (.slice none 0 0)).setCell ⟨w.heap.size + 4, 0, none⟩ (.int .i64 0)) (w.heap.size + 4) 1 (.slice none 0 0))
   have H_88 := Lib.hid (H_80.out.grown hg_87 H_80.out.size (fun j hj => by injection hj with hj; have := sz0.out; have := sz_31.out; have := sz_56.out; have := sz_86.out; omega))
   clear H_80
   have BG_89 := Lib.hid (BG_81.out.grown hg_87 (by intro e; injection e with e; have := sz0.out; have := sz_31.out; have := sz_56.out; have := sz_86.out; omega))
   clear BG_81
   have BR_90 := Lib.hid (BR_82.out.grown hg_87 (by intro e; injection e with e; have := sz0.out; have := sz_31.out; have := sz_56.out; have := sz_86.out; omega))
   clear BR_82
   have BN_91 := Lib.hid (BN_83.out.grown hg_87 (by intro e; injection e with e; have := sz0.out; have := sz_31.out; have := sz_56.out; have := sz_86.out; omega))
   clear BN_83
   have BZ_92 := Lib.hid (BZ_85.out.grown hg_87 (by intro e; injection e with e; have := sz0.out; have := sz_31.out; have := sz_56.out; have := sz_86.out; omega))
   clear BZ_85
   have BY_93 : Hid (Blk ((((((((((w2.setCell ⟨w.heap.size + 3, 0, none⟩ (.int .i64 0)).setCell ⟨w.heap.size + 3, 1, none⟩ (.int .i64 0)).setCell ⟨w.heap.size + 3, 2, none⟩ (.int .i64 0)).setCell ⟨w.heap.size + 3, 3, none⟩ (.bool false)).setCell ⟨w.heap.size + 3, 4, none⟩ (.slice none 0 0)).setCell ⟨w.heap.size + 3, 5, none⟩ (.slice none 0 0)).setCell ⟨w.heap.size + 3, 6, none⟩ (.int .i64 0)).setCell ⟨w.heap.size + 3, 7, none⟩ (.slice none 0 0)).setCell ⟨w.heap.size + 4, 0, none⟩ (.int .i64 0)).setCell ⟨w.heap.size + 4, 1, none⟩ (.slice none 0 0)) (w.heap.size + 4) #[.int .i64 0, .slice none 0 0] 37) := Lib.hid (Blk.set (Blk.set (BY_84.out) 0 (.int .i64 0)) 1 (.slice none 0 0))
   clear BY_84
   have sz_94 := Lib.hid (World.grownBy.size hg_87)
   clear hg_87
   obtain ⟨-, z0, z1, z2, z3, z4, z5, z6, z7⟩ := BZ_92.out.eight
   have y0 := BY_93.out.cell (i := 0) rfl
   have y1 := BY_93.out.cell (i := 1) rfl
   refine bodyPost_ret (v := .tuple #[.agg #[.int .i64 0, .int .i64 0, .int .i64 0, .bool false, .slice none 0 0, .slice none 0 0, .int .i64 0, .slice none 0 0], .agg #[.int .i64 0, .slice none 0 0]]) (by simp [results, Tryz.results7, go_sem, z0, z1, z2, z3, z4, z5, z6, z7, y0, y1]) rfl ?_
   exact MadeRV.no H_88.out
  | true =>
   rw [hs0] at C2
   by_cases hmn : M = N
   rotate_left
   ·
    rw [show decide (M = N) = false by simp [hmn]]
    simp only [Bool.and_false, Bool.false_eq_true, if_false]
    have hmn1 : (M != N) = true := by simp [hmn]
    clear hb CC CS
    have H_1 := Lib.hid (g_chain (g_chain (g_chain (g_chain (g_chain (Below.refl w.heap.size w) (below_a1 w (.cells #[.int .i64 N, .slice AG l cG] 44))) (below_a1 (w.alloc (.cells #[.int .i64 N, .slice AG l cG] 44)) (.cells #[.int .i64 p, .int .i64 s, .int .i64 it, .bool dn, .slice A n c, .slice B m d, .int .i64 nn, .slice C j k] 39))) (below_a1 ((w.alloc (.cells #[.int .i64 N, .slice AG l cG] 44)).alloc (.cells #[.int .i64 p, .int .i64 s, .int .i64 it, .bool dn, .slice A n c, .slice B m d, .int .i64 nn, .slice C j k] 39)) (.cells #[.int .i64 M, .slice D q e] 37))) (below_a1 (((w.alloc (.cells #[.int .i64 N, .slice AG l cG] 44)).alloc (.cells #[.int .i64 p, .int .i64 s, .int .i64 it, .bool dn, .slice A n c, .slice B m d, .int .i64 nn, .slice C j k] 39)).alloc (.cells #[.int .i64 M, .slice D q e] 37)) (.cells #[.int .i64 0, .int .i64 0, .int .i64 0, .bool false, .slice none 0 0, .slice none 0 0, .int .i64 0, .slice none 0 0] 39))) (below_a1 ((((w.alloc (.cells #[.int .i64 N, .slice AG l cG] 44)).alloc (.cells #[.int .i64 p, .int .i64 s, .int .i64 it, .bool dn, .slice A n c, .slice B m d, .int .i64 nn, .slice C j k] 39)).alloc (.cells #[.int .i64 M, .slice D q e] 37)).alloc (.cells #[.int .i64 0, .int .i64 0, .int .i64 0, .bool false, .slice none 0 0, .slice none 0 0, .int .i64 0, .slice none 0 0] 39)) (.cells #[.int .i64 0, .slice none 0 0] 37)))
    have BG_2 : Hid (Blk (((((w.alloc (.cells #[.int .i64 N, .slice AG l cG] 44)).alloc (.cells #[.int .i64 p, .int .i64 s, .int .i64 it, .bool dn, .slice A n c, .slice B m d, .int .i64 nn, .slice C j k] 39)).alloc (.cells #[.int .i64 M, .slice D q e] 37)).alloc (.cells #[.int .i64 0, .int .i64 0, .int .i64 0, .bool false, .slice none 0 0, .slice none 0 0, .int .i64 0, .slice none 0 0] 39)).alloc (.cells #[.int .i64 0, .slice none 0 0] 37)) (w.heap.size) #[.int .i64 N, .slice AG l cG] 44) := Lib.hid (by have h := ((((Blk.new w #[.int .i64 N, .slice AG l cG] 44).alloc (.cells #[.int .i64 p, .int .i64 s, .int .i64 it, .bool dn, .slice A n c, .slice B m d, .int .i64 nn, .slice C j k] 39)).alloc (.cells #[.int .i64 M, .slice D q e] 37)).alloc (.cells #[.int .i64 0, .int .i64 0, .int .i64 0, .bool false, .slice none 0 0, .slice none 0 0, .int .i64 0, .slice none 0 0] 39)).alloc (.cells #[.int .i64 0, .slice none 0 0] 37); simpa [Nat.add_assoc] using h)
    have BR_3 : Hid (Blk (((((w.alloc (.cells #[.int .i64 N, .slice AG l cG] 44)).alloc (.cells #[.int .i64 p, .int .i64 s, .int .i64 it, .bool dn, .slice A n c, .slice B m d, .int .i64 nn, .slice C j k] 39)).alloc (.cells #[.int .i64 M, .slice D q e] 37)).alloc (.cells #[.int .i64 0, .int .i64 0, .int .i64 0, .bool false, .slice none 0 0, .slice none 0 0, .int .i64 0, .slice none 0 0] 39)).alloc (.cells #[.int .i64 0, .slice none 0 0] 37)) (w.heap.size + 1) #[.int .i64 p, .int .i64 s, .int .i64 it, .bool dn, .slice A n c, .slice B m d, .int .i64 nn, .slice C j k] 39) := Lib.hid (by have h := (((Blk.new (w.alloc (.cells #[.int .i64 N, .slice AG l cG] 44)) #[.int .i64 p, .int .i64 s, .int .i64 it, .bool dn, .slice A n c, .slice B m d, .int .i64 nn, .slice C j k] 39).alloc (.cells #[.int .i64 M, .slice D q e] 37)).alloc (.cells #[.int .i64 0, .int .i64 0, .int .i64 0, .bool false, .slice none 0 0, .slice none 0 0, .int .i64 0, .slice none 0 0] 39)).alloc (.cells #[.int .i64 0, .slice none 0 0] 37); simpa [Nat.add_assoc] using h)
    have BN_4 : Hid (Blk (((((w.alloc (.cells #[.int .i64 N, .slice AG l cG] 44)).alloc (.cells #[.int .i64 p, .int .i64 s, .int .i64 it, .bool dn, .slice A n c, .slice B m d, .int .i64 nn, .slice C j k] 39)).alloc (.cells #[.int .i64 M, .slice D q e] 37)).alloc (.cells #[.int .i64 0, .int .i64 0, .int .i64 0, .bool false, .slice none 0 0, .slice none 0 0, .int .i64 0, .slice none 0 0] 39)).alloc (.cells #[.int .i64 0, .slice none 0 0] 37)) (w.heap.size + 2) #[.int .i64 M, .slice D q e] 37) := Lib.hid (by have h := ((Blk.new ((w.alloc (.cells #[.int .i64 N, .slice AG l cG] 44)).alloc (.cells #[.int .i64 p, .int .i64 s, .int .i64 it, .bool dn, .slice A n c, .slice B m d, .int .i64 nn, .slice C j k] 39)) #[.int .i64 M, .slice D q e] 37).alloc (.cells #[.int .i64 0, .int .i64 0, .int .i64 0, .bool false, .slice none 0 0, .slice none 0 0, .int .i64 0, .slice none 0 0] 39)).alloc (.cells #[.int .i64 0, .slice none 0 0] 37); simpa [Nat.add_assoc] using h)
    have BZ_5 : Hid (Blk (((((w.alloc (.cells #[.int .i64 N, .slice AG l cG] 44)).alloc (.cells #[.int .i64 p, .int .i64 s, .int .i64 it, .bool dn, .slice A n c, .slice B m d, .int .i64 nn, .slice C j k] 39)).alloc (.cells #[.int .i64 M, .slice D q e] 37)).alloc (.cells #[.int .i64 0, .int .i64 0, .int .i64 0, .bool false, .slice none 0 0, .slice none 0 0, .int .i64 0, .slice none 0 0] 39)).alloc (.cells #[.int .i64 0, .slice none 0 0] 37)) (w.heap.size + 3) #[.int .i64 0, .int .i64 0, .int .i64 0, .bool false, .slice none 0 0, .slice none 0 0, .int .i64 0, .slice none 0 0] 39) := Lib.hid (by have h := (Blk.new (((w.alloc (.cells #[.int .i64 N, .slice AG l cG] 44)).alloc (.cells #[.int .i64 p, .int .i64 s, .int .i64 it, .bool dn, .slice A n c, .slice B m d, .int .i64 nn, .slice C j k] 39)).alloc (.cells #[.int .i64 M, .slice D q e] 37)) #[.int .i64 0, .int .i64 0, .int .i64 0, .bool false, .slice none 0 0, .slice none 0 0, .int .i64 0, .slice none 0 0] 39).alloc (.cells #[.int .i64 0, .slice none 0 0] 37); simpa [Nat.add_assoc] using h)
    have BY_6 : Hid (Blk (((((w.alloc (.cells #[.int .i64 N, .slice AG l cG] 44)).alloc (.cells #[.int .i64 p, .int .i64 s, .int .i64 it, .bool dn, .slice A n c, .slice B m d, .int .i64 nn, .slice C j k] 39)).alloc (.cells #[.int .i64 M, .slice D q e] 37)).alloc (.cells #[.int .i64 0, .int .i64 0, .int .i64 0, .bool false, .slice none 0 0, .slice none 0 0, .int .i64 0, .slice none 0 0] 39)).alloc (.cells #[.int .i64 0, .slice none 0 0] 37)) (w.heap.size + 4) #[.int .i64 0, .slice none 0 0] 37) := Lib.hid (by have h := Blk.new ((((w.alloc (.cells #[.int .i64 N, .slice AG l cG] 44)).alloc (.cells #[.int .i64 p, .int .i64 s, .int .i64 it, .bool dn, .slice A n c, .slice B m d, .int .i64 nn, .slice C j k] 39)).alloc (.cells #[.int .i64 M, .slice D q e] 37)).alloc (.cells #[.int .i64 0, .int .i64 0, .int .i64 0, .bool false, .slice none 0 0, .slice none 0 0, .int .i64 0, .slice none 0 0] 39)) #[.int .i64 0, .slice none 0 0] 37; simpa [Nat.add_assoc] using h)
    have sz0 : Hid (w.heap.size + 5 ≤ (((((w.alloc (.cells #[.int .i64 N, .slice AG l cG] 44)).alloc (.cells #[.int .i64 p, .int .i64 s, .int .i64 it, .bool dn, .slice A n c, .slice B m d, .int .i64 nn, .slice C j k] 39)).alloc (.cells #[.int .i64 M, .slice D q e] 37)).alloc (.cells #[.int .i64 0, .int .i64 0, .int .i64 0, .bool false, .slice none 0 0, .slice none 0 0, .int .i64 0, .slice none 0 0] 39)).alloc (.cells #[.int .i64 0, .slice none 0 0] 37)).heap.size) := Lib.hid (by simp)
    go_enter Tryz.func7, Tryz.ntmps7
    have x_7 := BG_2.out.cell (i := 0) rfl
    have x_8 := BG_2.out.cell (i := 1) rfl
    have fz_9 := fun i => BG_2.out.frozen i
    have lt_10 := BG_2.out.lt
    have x_11 := BR_3.out.cell (i := 0) rfl
    have x_12 := BR_3.out.cell (i := 1) rfl
    have x_13 := BR_3.out.cell (i := 2) rfl
    have x_14 := BR_3.out.cell (i := 3) rfl
    have x_15 := BR_3.out.cell (i := 4) rfl
    have x_16 := BR_3.out.cell (i := 5) rfl
    have x_17 := BR_3.out.cell (i := 6) rfl
    have x_18 := BR_3.out.cell (i := 7) rfl
    have fz_19 := fun i => BR_3.out.frozen i
    have lt_20 := BR_3.out.lt
    have x_21 := BN_4.out.cell (i := 0) rfl
    have x_22 := BN_4.out.cell (i := 1) rfl
    have fz_23 := fun i => BN_4.out.frozen i
    have lt_24 := BN_4.out.lt
    go_wp2_with fail
    refine (C0.out _ H_1.out).mono ?_
    rintro e w1 ⟨rfl, hb⟩
    clear x_7
    clear x_8
    clear fz_9
    clear lt_10
    clear x_11
    clear x_12
    clear x_13
    clear x_14
    clear x_15
    clear x_16
    clear x_17
    clear x_18
    clear fz_19
    clear lt_20
    clear x_21
    clear x_22
    clear fz_23
    clear lt_24
    have H_25 := Lib.hid (g_chain H_1.out hb)
    clear H_1
    have BG_26 := Lib.hid (BG_2.out.below hb)
    clear BG_2
    have BR_27 := Lib.hid (BR_3.out.below hb)
    clear BR_3
    have BN_28 := Lib.hid (BN_4.out.below hb)
    clear BN_4
    have BZ_29 := Lib.hid (BZ_5.out.below hb)
    clear BZ_5
    have BY_30 := Lib.hid (BY_6.out.below hb)
    clear BY_6
    have sz_31 := Lib.hid (Below.size hb)
    clear hb
    have x_32 := BG_26.out.cell (i := 0) rfl
    have x_33 := BG_26.out.cell (i := 1) rfl
    have fz_34 := fun i => BG_26.out.frozen i
    have lt_35 := BG_26.out.lt
    have x_36 := BR_27.out.cell (i := 0) rfl
    have x_37 := BR_27.out.cell (i := 1) rfl
    have x_38 := BR_27.out.cell (i := 2) rfl
    have x_39 := BR_27.out.cell (i := 3) rfl
    have x_40 := BR_27.out.cell (i := 4) rfl
    have x_41 := BR_27.out.cell (i := 5) rfl
    have x_42 := BR_27.out.cell (i := 6) rfl
    have x_43 := BR_27.out.cell (i := 7) rfl
    have fz_44 := fun i => BR_27.out.frozen i
    have lt_45 := BR_27.out.lt
    have x_46 := BN_28.out.cell (i := 0) rfl
    have x_47 := BN_28.out.cell (i := 1) rfl
    have fz_48 := fun i => BN_28.out.frozen i
    have lt_49 := BN_28.out.lt
    go_wp2_with fail
    refine (C2.out _ H_25.out).mono ?_
    rintro e w2 ⟨rfl, hb⟩
    clear x_32
    clear x_33
    clear fz_34
    clear lt_35
    clear x_36
    clear x_37
    clear x_38
    clear x_39
    clear x_40
    clear x_41
    clear x_42
    clear x_43
    clear fz_44
    clear lt_45
    clear x_46
    clear x_47
    clear fz_48
    clear lt_49
    have H_50 := Lib.hid (g_chain H_25.out hb)
    clear H_25
    have BG_51 := Lib.hid (BG_26.out.below hb)
    clear BG_26
    have BR_52 := Lib.hid (BR_27.out.below hb)
    clear BR_27
    have BN_53 := Lib.hid (BN_28.out.below hb)
    clear BN_28
    have BZ_54 := Lib.hid (BZ_29.out.below hb)
    clear BZ_29
    have BY_55 := Lib.hid (BY_30.out.below hb)
    clear BY_30
    have sz_56 := Lib.hid (Below.size hb)
    clear hb
    have x_57 := BZ_54.out.cell (i := 0) rfl
    have x_58 := BZ_54.out.cell (i := 1) rfl
    have x_59 := BZ_54.out.cell (i := 2) rfl
    have x_60 := BZ_54.out.cell (i := 3) rfl
    have x_61 := BZ_54.out.cell (i := 4) rfl
    have x_62 := BZ_54.out.cell (i := 5) rfl
    have x_63 := BZ_54.out.cell (i := 6) rfl
    have x_64 := BZ_54.out.cell (i := 7) rfl
    have fz_65 := fun i => BZ_54.out.frozen i
    have lt_66 := BZ_54.out.lt
    have x_67 := BY_55.out.cell (i := 0) rfl
    have x_68 := BY_55.out.cell (i := 1) rfl
    have fz_69 := fun i => BY_55.out.frozen i
    have lt_70 := BY_55.out.lt
    have x_71 := BG_51.out.cell (i := 0) rfl
    have x_72 := BG_51.out.cell (i := 1) rfl
    have fz_73 := fun i => BG_51.out.frozen i
    have lt_74 := BG_51.out.lt
    have x_75 := BN_53.out.cell (i := 0) rfl
    have x_76 := BN_53.out.cell (i := 1) rfl
    have fz_77 := fun i => BN_53.out.frozen i
    have lt_78 := BN_53.out.lt
    go_wp2
    clear x_57 x_58 x_59 x_60 x_61 x_62 x_63 x_64 fz_65 lt_66 x_67 x_68 fz_69 lt_70 x_71 x_72 fz_73 lt_74 x_75 x_76 fz_77 lt_78
    have hg_79 := (((((((grown_cell w2 (w.heap.size + 3) 0 (.int .i64 0)).trans (grown_cell (w2.setCell ⟨w.heap.size + 3, 0, none⟩ (.int .i64 0)) (w.heap.size + 3) 1 (.int .i64 0))).trans (grown_cell ((w2.setCell ⟨w.heap.size + 3, 0, none⟩ (.int .i64 0)).setCell ⟨w.heap.size + 3, 1, none⟩ (.int .i64 0)) (w.heap.size + 3) 2 (.int .i64 0))).trans (grown_cell (((w2.setCell ⟨w.heap.size + 3, 0, none⟩ (.int .i64 0)).setCell ⟨w.heap.size + 3, 1, none⟩ (.int .i64 0)).setCell ⟨w.heap.size + 3, 2, none⟩ (.int .i64 0)) (w.heap.size + 3) 3 (.bool false))).trans (grown_cell ((((w2.setCell ⟨w.heap.size + 3, 0, none⟩ (.int .i64 0)).setCell ⟨w.heap.size + 3, 1, none⟩ (.int .i64 0)).setCell ⟨w.heap.size + 3, 2, none⟩ (.int .i64 0)).setCell ⟨w.heap.size + 3, 3, none⟩ (.bool false)) (w.heap.size + 3) 4 (.slice none 0 0))).trans (grown_cell (((((w2.setCell ⟨w.heap.size + 3, 0, none⟩ (.int .i64 0)).setCell ⟨w.heap.size + 3, 1, none⟩ (.int .i64 0)).setCell ⟨w.heap.size + 3, 2, none⟩ (.int .i64 0)).setCell ⟨w.heap.size + 3, 3, none⟩ (.bool false)).setCell ⟨w.heap.size + 3, 4, none⟩ (.slice none 0 0)) (w.heap.size + 3) 5 (.slice none 0 0))).trans (grown_cell ((((((w2.setCell ⟨w.heap.size + 3, 0, none⟩ (.int .i64 0)).setCell ⟨w.heap.size + 3, 1, none⟩ (.int .i64 0)).setCell ⟨w.heap.size + 3, 2, none⟩ (.int .i64 0)).setCell ⟨w.heap.size + 3, 3, none⟩ (.bool false)).setCell ⟨w.heap.size + 3, 4, none⟩ (.slice none 0 0)).setCell ⟨w.heap.size + 3, 5, none⟩ (.slice none 0 0)) (w.heap.size + 3) 6 (.int .i64 0))).trans (grown_cell (((((((w2.setCell ⟨w.heap.size + 3, 0, none⟩ (.int .i64 0)).setCell ⟨w.heap.size + 3, 1, none⟩ (.int .i64 0)).setCell ⟨w.heap.size + 3, 2, none⟩ (.int .i64 0)).setCell ⟨w.heap.size + 3, 3, none⟩ (.bool false)).setCell ⟨w.heap.size + 3, 4, none⟩ (.slice none 0 0)).setCell ⟨w.heap.size + 3, 5, none⟩ (.slice none 0 0)).setCell ⟨w.heap.size + 3, 6, none⟩ (.int .i64 0)) (w.heap.size + 3) 7 (.slice none 0 0))
    have H_80 := Lib.hid (H_50.out.grown hg_79 H_50.out.size (fun j hj => by injection hj with hj; have := sz0.out; have := sz_31.out; have := sz_56.out; omega))
    clear H_50
    have BG_81 := Lib.hid (BG_51.out.grown hg_79 (by intro e; injection e with e; have := sz0.out; have := sz_31.out; have := sz_56.out; omega))
    clear BG_51
    have BR_82 := Lib.hid (BR_52.out.grown hg_79 (by intro e; injection e with e; have := sz0.out; have := sz_31.out; have := sz_56.out; omega))
    clear BR_52
    have BN_83 := Lib.hid (BN_53.out.grown hg_79 (by intro e; injection e with e; have := sz0.out; have := sz_31.out; have := sz_56.out; omega))
    clear BN_53
    have BY_84 := Lib.hid (BY_55.out.grown hg_79 (by intro e; injection e with e; have := sz0.out; have := sz_31.out; have := sz_56.out; omega))
    clear BY_55
    have BZ_85 : Hid (Blk ((((((((w2.setCell ⟨w.heap.size + 3, 0, none⟩ (.int .i64 0)).setCell ⟨w.heap.size + 3, 1, none⟩ (.int .i64 0)).setCell ⟨w.heap.size + 3, 2, none⟩ (.int .i64 0)).setCell ⟨w.heap.size + 3, 3, none⟩ (.bool false)).setCell ⟨w.heap.size + 3, 4, none⟩ (.slice none 0 0)).setCell ⟨w.heap.size + 3, 5, none⟩ (.slice none 0 0)).setCell ⟨w.heap.size + 3, 6, none⟩ (.int .i64 0)).setCell ⟨w.heap.size + 3, 7, none⟩ (.slice none 0 0)) (w.heap.size + 3) #[.int .i64 0, .int .i64 0, .int .i64 0, .bool false, .slice none 0 0, .slice none 0 0, .int .i64 0, .slice none 0 0] 39) := Lib.hid (Blk.set (Blk.set (Blk.set (Blk.set (Blk.set (Blk.set (Blk.set (Blk.set (BZ_54.out) 0 (.int .i64 0)) 1 (.int .i64 0)) 2 (.int .i64 0)) 3 (.bool false)) 4 (.slice none 0 0)) 5 (.slice none 0 0)) 6 (.int .i64 0)) 7 (.slice none 0 0))
    clear BZ_54
    have sz_86 := Lib.hid (World.grownBy.size hg_79)
    clear hg_79
    have hg_87 := (grown_cell ((((((((w2.setCell ⟨w.heap.size + 3, 0, none⟩ (.int .i64 0)).setCell ⟨w.heap.size + 3, 1, none⟩ (.int .i64 0)).setCell ⟨w.heap.size + 3, 2, none⟩ (.int .i64 0)).setCell ⟨w.heap.size + 3, 3, none⟩ (.bool false)).setCell ⟨w.heap.size + 3, 4, none⟩ (.slice none 0 0)).setCell ⟨w.heap.size + 3, 5, none⟩ (.slice none 0 0)).setCell ⟨w.heap.size + 3, 6, none⟩ (.int .i64 0)).setCell ⟨w.heap.size + 3, 7, none⟩ (.slice none 0 0)) (w.heap.size + 4) 0 (.int .i64 0)).trans (grown_cell (((((((((w2.setCell ⟨w.heap.size + 3, 0, none⟩ (.int .i64 0)).setCell ⟨w.heap.size + 3, 1, none⟩ (.int .i64 0)).setCell ⟨w.heap.size + 3, 2, none⟩ (.int .i64 0)).setCell ⟨w.heap.size + 3, 3, none⟩ (.bool false)).setCell ⟨w.heap.size + 3, 4, none⟩ (.slice none 0 0)).setCell ⟨w.heap.size + 3, 5, none⟩ (.slice none 0 0)).setCell ⟨w.heap.size + 3, 6, none⟩ (.int .i64 0)).setCell ⟨w.heap.size + 3, 7, none⟩ (.slice none 0 0)).setCell ⟨w.heap.size + 4, 0, none⟩ (.int .i64 0)) (w.heap.size + 4) 1 (.slice none 0 0))
    have H_88 := Lib.hid (H_80.out.grown hg_87 H_80.out.size (fun j hj => by injection hj with hj; have := sz0.out; have := sz_31.out; have := sz_56.out; have := sz_86.out; omega))
    clear H_80
    have BG_89 := Lib.hid (BG_81.out.grown hg_87 (by intro e; injection e with e; have := sz0.out; have := sz_31.out; have := sz_56.out; have := sz_86.out; omega))
    clear BG_81
    have BR_90 := Lib.hid (BR_82.out.grown hg_87 (by intro e; injection e with e; have := sz0.out; have := sz_31.out; have := sz_56.out; have := sz_86.out; omega))
    clear BR_82
    have BN_91 := Lib.hid (BN_83.out.grown hg_87 (by intro e; injection e with e; have := sz0.out; have := sz_31.out; have := sz_56.out; have := sz_86.out; omega))
    clear BN_83
    have BZ_92 := Lib.hid (BZ_85.out.grown hg_87 (by intro e; injection e with e; have := sz0.out; have := sz_31.out; have := sz_56.out; have := sz_86.out; omega))
    clear BZ_85
    have BY_93 : Hid (Blk ((((((((((w2.setCell ⟨w.heap.size + 3, 0, none⟩ (.int .i64 0)).setCell ⟨w.heap.size + 3, 1, none⟩ (.int .i64 0)).setCell ⟨w.heap.size + 3, 2, none⟩ (.int .i64 0)).setCell ⟨w.heap.size + 3, 3, none⟩ (.bool false)).setCell ⟨w.heap.size + 3, 4, none⟩ (.slice none 0 0)).setCell ⟨w.heap.size + 3, 5, none⟩ (.slice none 0 0)).setCell ⟨w.heap.size + 3, 6, none⟩ (.int .i64 0)).setCell ⟨w.heap.size + 3, 7, none⟩ (.slice none 0 0)).setCell ⟨w.heap.size + 4, 0, none⟩ (.int .i64 0)).setCell ⟨w.heap.size + 4, 1, none⟩ (.slice none 0 0)) (w.heap.size + 4) #[.int .i64 0, .slice none 0 0] 37) := Lib.hid (Blk.set (Blk.set (BY_84.out) 0 (.int .i64 0)) 1 (.slice none 0 0))
    clear BY_84
    have sz_94 := Lib.hid (World.grownBy.size hg_87)
    clear hg_87
    obtain ⟨-, z0, z1, z2, z3, z4, z5, z6, z7⟩ := BZ_92.out.eight
    have y0 := BY_93.out.cell (i := 0) rfl
    have y1 := BY_93.out.cell (i := 1) rfl
    refine bodyPost_ret (v := .tuple #[.agg #[.int .i64 0, .int .i64 0, .int .i64 0, .bool false, .slice none 0 0, .slice none 0 0, .int .i64 0, .slice none 0 0], .agg #[.int .i64 0, .slice none 0 0]]) (by simp [results, Tryz.results7, go_sem, z0, z1, z2, z3, z4, z5, z6, z7, y0, y1]) rfl ?_
    exact MadeRV.no H_88.out
   subst hmn
   simp only [decide_true, Bool.and_true, if_true]
   obtain ⟨N, rfl⟩ := runB_nat hb
   have HR := Lib.hid (runB_iff.1 hb)
   have hnn := HR.out.nn
   simp only at hnn
   subst hnn
   obtain ⟨v, rfl⟩ : ∃ z : Nat, v = (z : Int) := ⟨v.toNat, by omega⟩
   have hvN : v < N := by omega
   have HGD := Lib.hid (vert_good HR.out HSX.out hs0 HSN.out)
   have hp := HR.out.prog
   simp only at hp HGD
   have HT : Hid (vertT (N : Int) G ⟨p, s, it, dn, vs, ev, (N : Int), nx⟩ nw (v : Int) = vstep p (N : Int) G ⟨vs, ev, nx, nw⟩ v) := Lib.hid (by unfold vertT; simp only [Int.toNat_natCast])
   rw [HT.out]
   clear hb hs0 HT
   have H_1 := Lib.hid (g_chain (g_chain (g_chain (g_chain (g_chain (Below.refl w.heap.size w) (below_a1 w (.cells #[.int .i64 (N : Int), .slice AG l cG] 44))) (below_a1 (w.alloc (.cells #[.int .i64 (N : Int), .slice AG l cG] 44)) (.cells #[.int .i64 p, .int .i64 s, .int .i64 it, .bool dn, .slice A n c, .slice B m d, .int .i64 (N : Int), .slice C j k] 39))) (below_a1 ((w.alloc (.cells #[.int .i64 (N : Int), .slice AG l cG] 44)).alloc (.cells #[.int .i64 p, .int .i64 s, .int .i64 it, .bool dn, .slice A n c, .slice B m d, .int .i64 (N : Int), .slice C j k] 39)) (.cells #[.int .i64 (N : Int), .slice D q e] 37))) (below_a1 (((w.alloc (.cells #[.int .i64 (N : Int), .slice AG l cG] 44)).alloc (.cells #[.int .i64 p, .int .i64 s, .int .i64 it, .bool dn, .slice A n c, .slice B m d, .int .i64 (N : Int), .slice C j k] 39)).alloc (.cells #[.int .i64 (N : Int), .slice D q e] 37)) (.cells #[.int .i64 0, .int .i64 0, .int .i64 0, .bool false, .slice none 0 0, .slice none 0 0, .int .i64 0, .slice none 0 0] 39))) (below_a1 ((((w.alloc (.cells #[.int .i64 (N : Int), .slice AG l cG] 44)).alloc (.cells #[.int .i64 p, .int .i64 s, .int .i64 it, .bool dn, .slice A n c, .slice B m d, .int .i64 (N : Int), .slice C j k] 39)).alloc (.cells #[.int .i64 (N : Int), .slice D q e] 37)).alloc (.cells #[.int .i64 0, .int .i64 0, .int .i64 0, .bool false, .slice none 0 0, .slice none 0 0, .int .i64 0, .slice none 0 0] 39)) (.cells #[.int .i64 0, .slice none 0 0] 37)))
   have BG_2 : Hid (Blk (((((w.alloc (.cells #[.int .i64 (N : Int), .slice AG l cG] 44)).alloc (.cells #[.int .i64 p, .int .i64 s, .int .i64 it, .bool dn, .slice A n c, .slice B m d, .int .i64 (N : Int), .slice C j k] 39)).alloc (.cells #[.int .i64 (N : Int), .slice D q e] 37)).alloc (.cells #[.int .i64 0, .int .i64 0, .int .i64 0, .bool false, .slice none 0 0, .slice none 0 0, .int .i64 0, .slice none 0 0] 39)).alloc (.cells #[.int .i64 0, .slice none 0 0] 37)) (w.heap.size) #[.int .i64 (N : Int), .slice AG l cG] 44) := Lib.hid (by have h := ((((Blk.new w #[.int .i64 (N : Int), .slice AG l cG] 44).alloc (.cells #[.int .i64 p, .int .i64 s, .int .i64 it, .bool dn, .slice A n c, .slice B m d, .int .i64 (N : Int), .slice C j k] 39)).alloc (.cells #[.int .i64 (N : Int), .slice D q e] 37)).alloc (.cells #[.int .i64 0, .int .i64 0, .int .i64 0, .bool false, .slice none 0 0, .slice none 0 0, .int .i64 0, .slice none 0 0] 39)).alloc (.cells #[.int .i64 0, .slice none 0 0] 37); simpa [Nat.add_assoc] using h)
   have BR_3 : Hid (Blk (((((w.alloc (.cells #[.int .i64 (N : Int), .slice AG l cG] 44)).alloc (.cells #[.int .i64 p, .int .i64 s, .int .i64 it, .bool dn, .slice A n c, .slice B m d, .int .i64 (N : Int), .slice C j k] 39)).alloc (.cells #[.int .i64 (N : Int), .slice D q e] 37)).alloc (.cells #[.int .i64 0, .int .i64 0, .int .i64 0, .bool false, .slice none 0 0, .slice none 0 0, .int .i64 0, .slice none 0 0] 39)).alloc (.cells #[.int .i64 0, .slice none 0 0] 37)) (w.heap.size + 1) #[.int .i64 p, .int .i64 s, .int .i64 it, .bool dn, .slice A n c, .slice B m d, .int .i64 (N : Int), .slice C j k] 39) := Lib.hid (by have h := (((Blk.new (w.alloc (.cells #[.int .i64 (N : Int), .slice AG l cG] 44)) #[.int .i64 p, .int .i64 s, .int .i64 it, .bool dn, .slice A n c, .slice B m d, .int .i64 (N : Int), .slice C j k] 39).alloc (.cells #[.int .i64 (N : Int), .slice D q e] 37)).alloc (.cells #[.int .i64 0, .int .i64 0, .int .i64 0, .bool false, .slice none 0 0, .slice none 0 0, .int .i64 0, .slice none 0 0] 39)).alloc (.cells #[.int .i64 0, .slice none 0 0] 37); simpa [Nat.add_assoc] using h)
   have BN_4 : Hid (Blk (((((w.alloc (.cells #[.int .i64 (N : Int), .slice AG l cG] 44)).alloc (.cells #[.int .i64 p, .int .i64 s, .int .i64 it, .bool dn, .slice A n c, .slice B m d, .int .i64 (N : Int), .slice C j k] 39)).alloc (.cells #[.int .i64 (N : Int), .slice D q e] 37)).alloc (.cells #[.int .i64 0, .int .i64 0, .int .i64 0, .bool false, .slice none 0 0, .slice none 0 0, .int .i64 0, .slice none 0 0] 39)).alloc (.cells #[.int .i64 0, .slice none 0 0] 37)) (w.heap.size + 2) #[.int .i64 (N : Int), .slice D q e] 37) := Lib.hid (by have h := ((Blk.new ((w.alloc (.cells #[.int .i64 (N : Int), .slice AG l cG] 44)).alloc (.cells #[.int .i64 p, .int .i64 s, .int .i64 it, .bool dn, .slice A n c, .slice B m d, .int .i64 (N : Int), .slice C j k] 39)) #[.int .i64 (N : Int), .slice D q e] 37).alloc (.cells #[.int .i64 0, .int .i64 0, .int .i64 0, .bool false, .slice none 0 0, .slice none 0 0, .int .i64 0, .slice none 0 0] 39)).alloc (.cells #[.int .i64 0, .slice none 0 0] 37); simpa [Nat.add_assoc] using h)
   have BZ_5 : Hid (Blk (((((w.alloc (.cells #[.int .i64 (N : Int), .slice AG l cG] 44)).alloc (.cells #[.int .i64 p, .int .i64 s, .int .i64 it, .bool dn, .slice A n c, .slice B m d, .int .i64 (N : Int), .slice C j k] 39)).alloc (.cells #[.int .i64 (N : Int), .slice D q e] 37)).alloc (.cells #[.int .i64 0, .int .i64 0, .int .i64 0, .bool false, .slice none 0 0, .slice none 0 0, .int .i64 0, .slice none 0 0] 39)).alloc (.cells #[.int .i64 0, .slice none 0 0] 37)) (w.heap.size + 3) #[.int .i64 0, .int .i64 0, .int .i64 0, .bool false, .slice none 0 0, .slice none 0 0, .int .i64 0, .slice none 0 0] 39) := Lib.hid (by have h := (Blk.new (((w.alloc (.cells #[.int .i64 (N : Int), .slice AG l cG] 44)).alloc (.cells #[.int .i64 p, .int .i64 s, .int .i64 it, .bool dn, .slice A n c, .slice B m d, .int .i64 (N : Int), .slice C j k] 39)).alloc (.cells #[.int .i64 (N : Int), .slice D q e] 37)) #[.int .i64 0, .int .i64 0, .int .i64 0, .bool false, .slice none 0 0, .slice none 0 0, .int .i64 0, .slice none 0 0] 39).alloc (.cells #[.int .i64 0, .slice none 0 0] 37); simpa [Nat.add_assoc] using h)
   have BY_6 : Hid (Blk (((((w.alloc (.cells #[.int .i64 (N : Int), .slice AG l cG] 44)).alloc (.cells #[.int .i64 p, .int .i64 s, .int .i64 it, .bool dn, .slice A n c, .slice B m d, .int .i64 (N : Int), .slice C j k] 39)).alloc (.cells #[.int .i64 (N : Int), .slice D q e] 37)).alloc (.cells #[.int .i64 0, .int .i64 0, .int .i64 0, .bool false, .slice none 0 0, .slice none 0 0, .int .i64 0, .slice none 0 0] 39)).alloc (.cells #[.int .i64 0, .slice none 0 0] 37)) (w.heap.size + 4) #[.int .i64 0, .slice none 0 0] 37) := Lib.hid (by have h := Blk.new ((((w.alloc (.cells #[.int .i64 (N : Int), .slice AG l cG] 44)).alloc (.cells #[.int .i64 p, .int .i64 s, .int .i64 it, .bool dn, .slice A n c, .slice B m d, .int .i64 (N : Int), .slice C j k] 39)).alloc (.cells #[.int .i64 (N : Int), .slice D q e] 37)).alloc (.cells #[.int .i64 0, .int .i64 0, .int .i64 0, .bool false, .slice none 0 0, .slice none 0 0, .int .i64 0, .slice none 0 0] 39)) #[.int .i64 0, .slice none 0 0] 37; simpa [Nat.add_assoc] using h)
   have sz0 : Hid (w.heap.size + 5 ≤ (((((w.alloc (.cells #[.int .i64 (N : Int), .slice AG l cG] 44)).alloc (.cells #[.int .i64 p, .int .i64 s, .int .i64 it, .bool dn, .slice A n c, .slice B m d, .int .i64 (N : Int), .slice C j k] 39)).alloc (.cells #[.int .i64 (N : Int), .slice D q e] 37)).alloc (.cells #[.int .i64 0, .int .i64 0, .int .i64 0, .bool false, .slice none 0 0, .slice none 0 0, .int .i64 0, .slice none 0 0] 39)).alloc (.cells #[.int .i64 0, .slice none 0 0] 37)).heap.size) := Lib.hid (by simp)
   go_enter Tryz.func7, Tryz.ntmps7
   have x_7 := BG_2.out.cell (i := 0) rfl
   have x_8 := BG_2.out.cell (i := 1) rfl
   have fz_9 := fun i => BG_2.out.frozen i
   have lt_10 := BG_2.out.lt
   have x_11 := BR_3.out.cell (i := 0) rfl
   have x_12 := BR_3.out.cell (i := 1) rfl
   have x_13 := BR_3.out.cell (i := 2) rfl
   have x_14 := BR_3.out.cell (i := 3) rfl
   have x_15 := BR_3.out.cell (i := 4) rfl
   have x_16 := BR_3.out.cell (i := 5) rfl
   have x_17 := BR_3.out.cell (i := 6) rfl
   have x_18 := BR_3.out.cell (i := 7) rfl
   have fz_19 := fun i => BR_3.out.frozen i
   have lt_20 := BR_3.out.lt
   have x_21 := BN_4.out.cell (i := 0) rfl
   have x_22 := BN_4.out.cell (i := 1) rfl
   have fz_23 := fun i => BN_4.out.frozen i
   have lt_24 := BN_4.out.lt
   go_wp2_with fail
   refine (C0.out _ H_1.out).mono ?_
   rintro e w1 ⟨rfl, hb⟩
   clear x_7
   clear x_8
   clear fz_9
   clear lt_10
   clear x_11
   clear x_12
   clear x_13
   clear x_14
   clear x_15
   clear x_16
   clear x_17
   clear x_18
   clear fz_19
   clear lt_20
   clear x_21
   clear x_22
   clear fz_23
   clear lt_24
   have H_25 := Lib.hid (g_chain H_1.out hb)
   clear H_1
   have BG_26 := Lib.hid (BG_2.out.below hb)
   clear BG_2
   have BR_27 := Lib.hid (BR_3.out.below hb)
   clear BR_3
   have BN_28 := Lib.hid (BN_4.out.below hb)
   clear BN_4
   have BZ_29 := Lib.hid (BZ_5.out.below hb)
   clear BZ_5
   have BY_30 := Lib.hid (BY_6.out.below hb)
   clear BY_6
   have sz_31 := Lib.hid (Below.size hb)
   clear hb
   have x_32 := BG_26.out.cell (i := 0) rfl
   have x_33 := BG_26.out.cell (i := 1) rfl
   have fz_34 := fun i => BG_26.out.frozen i
   have lt_35 := BG_26.out.lt
   have x_36 := BR_27.out.cell (i := 0) rfl
   have x_37 := BR_27.out.cell (i := 1) rfl
   have x_38 := BR_27.out.cell (i := 2) rfl
   have x_39 := BR_27.out.cell (i := 3) rfl
   have x_40 := BR_27.out.cell (i := 4) rfl
   have x_41 := BR_27.out.cell (i := 5) rfl
   have x_42 := BR_27.out.cell (i := 6) rfl
   have x_43 := BR_27.out.cell (i := 7) rfl
   have fz_44 := fun i => BR_27.out.frozen i
   have lt_45 := BR_27.out.lt
   have x_46 := BN_28.out.cell (i := 0) rfl
   have x_47 := BN_28.out.cell (i := 1) rfl
   have fz_48 := fun i => BN_28.out.frozen i
   have lt_49 := BN_28.out.lt
   go_wp2_with fail
   refine (C2.out _ H_25.out).mono ?_
   rintro e w2 ⟨rfl, hb⟩
   clear x_32
   clear x_33
   clear fz_34
   clear lt_35
   clear x_36
   clear x_37
   clear x_38
   clear x_39
   clear x_40
   clear x_41
   clear x_42
   clear x_43
   clear fz_44
   clear lt_45
   clear x_46
   clear x_47
   clear fz_48
   clear lt_49
   have H_50 := Lib.hid (g_chain H_25.out hb)
   clear H_25
   have BG_51 := Lib.hid (BG_26.out.below hb)
   clear BG_26
   have BR_52 := Lib.hid (BR_27.out.below hb)
   clear BR_27
   have BN_53 := Lib.hid (BN_28.out.below hb)
   clear BN_28
   have BZ_54 := Lib.hid (BZ_29.out.below hb)
   clear BZ_29
   have BY_55 := Lib.hid (BY_30.out.below hb)
   clear BY_30
   have sz_56 := Lib.hid (Below.size hb)
   clear hb
   have x_57 := BG_51.out.cell (i := 0) rfl
   have x_58 := BG_51.out.cell (i := 1) rfl
   have fz_59 := fun i => BG_51.out.frozen i
   have lt_60 := BG_51.out.lt
   have x_61 := BN_53.out.cell (i := 0) rfl
   have x_62 := BN_53.out.cell (i := 1) rfl
   have fz_63 := fun i => BN_53.out.frozen i
   have lt_64 := BN_53.out.lt
   go_upto_region 3 with fail
   clear C0 C2 x_57 x_58 fz_59 lt_60 x_61 x_62 fz_63 lt_64
   refine wp_region_any (by kernel_rfl) ?_
   change wpAny _ _ _ _ _ _ _ (World.drew _)
   have hb : Below w2.heap.size w2 (World.drew w2) := (Below.refl _ _).drew
   have H_65 := Lib.hid (g_chain H_50.out hb)
   clear H_50
   have BG_66 := Lib.hid (BG_51.out.below hb)
   clear BG_51
   have BR_67 := Lib.hid (BR_52.out.below hb)
   clear BR_52
   have BN_68 := Lib.hid (BN_53.out.below hb)
   clear BN_53
   have BZ_69 := Lib.hid (BZ_54.out.below hb)
   clear BZ_54
   have BY_70 := Lib.hid (BY_55.out.below hb)
   clear BY_55
   have sz_71 := Lib.hid (Below.size hb)
   clear hb
   generalize hDD : World.drew w2 = wd at H_65 BG_66 BR_67 BN_68 BZ_69 BY_70 sz_71 ⊢
   clear hDD
   refine wpAny_of_held (S := fun W => W.cell? ⟨w.heap.size, 0, none⟩ = some (.int .i64 (N : Int)) ∧ W.cell? ⟨w.heap.size, 1, none⟩ = some (.slice AG l cG) ∧ W.cell? ⟨w.heap.size + 1, 0, none⟩ = some (.int .i64 p) ∧ W.cell? ⟨w.heap.size + 1, 1, none⟩ = some (.int .i64 s) ∧ W.cell? ⟨w.heap.size + 1, 2, none⟩ = some (.int .i64 it) ∧ W.cell? ⟨w.heap.size + 1, 3, none⟩ = some (.bool dn) ∧ W.cell? ⟨w.heap.size + 1, 4, none⟩ = some (.slice A n c) ∧ W.cell? ⟨w.heap.size + 1, 5, none⟩ = some (.slice B m d) ∧ W.cell? ⟨w.heap.size + 1, 6, none⟩ = some (.int .i64 (N : Int)) ∧ W.cell? ⟨w.heap.size + 1, 7, none⟩ = some (.slice C j k) ∧ W.cell? ⟨w.heap.size + 2, 0, none⟩ = some (.int .i64 (N : Int)) ∧ W.cell? ⟨w.heap.size + 2, 1, none⟩ = some (.slice D q e)) _ _ _ _ ?_
   refine wpAnyH_take (i := 0) (oi := ⟨_, _, _, _, _, _⟩) (v := .agg #[.int .i64 (N : Int), .slice AG l cG]) rfl (by kernel_rfl) (by kernel_rfl) (by kernel_rfl) (fun _ _ _ h => h) (Or.inl ⟨by kernel_rfl, fun W hS => by (obtain ⟨s0, s1, s2, s3, s4, s5, s6, s7, s8, s9, s10, s11⟩ := hS); go_simp⟩) ⟨BG_66.out.cell (i := 0) rfl, BG_66.out.cell (i := 1) rfl, BR_67.out.cell (i := 0) rfl, BR_67.out.cell (i := 1) rfl, BR_67.out.cell (i := 2) rfl, BR_67.out.cell (i := 3) rfl, BR_67.out.cell (i := 4) rfl, BR_67.out.cell (i := 5) rfl, BR_67.out.cell (i := 6) rfl, BR_67.out.cell (i := 7) rfl, BN_68.out.cell (i := 0) rfl, BN_68.out.cell (i := 1) rfl⟩ ?_
   (try simp only [Act.put, List.setIfInBounds_toArray, List.set_cons_zero, List.set_cons_succ])
   refine wpAnyH_take (i := 1) (oi := ⟨_, _, _, _, _, _⟩) (v := .agg #[.int .i64 p, .int .i64 s, .int .i64 it, .bool dn, .slice A n c, .slice B m d, .int .i64 (N : Int), .slice C j k]) rfl (by kernel_rfl) (by kernel_rfl) (by kernel_rfl) (fun _ _ _ h => h) (Or.inl ⟨by kernel_rfl, fun W hS => by (obtain ⟨s0, s1, s2, s3, s4, s5, s6, s7, s8, s9, s10, s11⟩ := hS); go_simp⟩) ⟨BG_66.out.cell (i := 0) rfl, BG_66.out.cell (i := 1) rfl, BR_67.out.cell (i := 0) rfl, BR_67.out.cell (i := 1) rfl, BR_67.out.cell (i := 2) rfl, BR_67.out.cell (i := 3) rfl, BR_67.out.cell (i := 4) rfl, BR_67.out.cell (i := 5) rfl, BR_67.out.cell (i := 6) rfl, BR_67.out.cell (i := 7) rfl, BN_68.out.cell (i := 0) rfl, BN_68.out.cell (i := 1) rfl⟩ ?_
   (try simp only [Act.put, List.setIfInBounds_toArray, List.set_cons_zero, List.set_cons_succ])
   refine wpAnyH_take (i := 3) (oi := ⟨_, _, _, _, _, _⟩) (v := .agg #[.int .i64 (N : Int), .slice D q e]) rfl (by kernel_rfl) (by kernel_rfl) (by kernel_rfl) (fun _ _ _ h => h) (Or.inl ⟨by kernel_rfl, fun W hS => by (obtain ⟨s0, s1, s2, s3, s4, s5, s6, s7, s8, s9, s10, s11⟩ := hS); go_simp⟩) ⟨BG_66.out.cell (i := 0) rfl, BG_66.out.cell (i := 1) rfl, BR_67.out.cell (i := 0) rfl, BR_67.out.cell (i := 1) rfl, BR_67.out.cell (i := 2) rfl, BR_67.out.cell (i := 3) rfl, BR_67.out.cell (i := 4) rfl, BR_67.out.cell (i := 5) rfl, BR_67.out.cell (i := 6) rfl, BR_67.out.cell (i := 7) rfl, BN_68.out.cell (i := 0) rfl, BN_68.out.cell (i := 1) rfl⟩ ?_
   (try simp only [Act.put, List.setIfInBounds_toArray, List.set_cons_zero, List.set_cons_succ])
   refine wpAnyH_take (i := 5) (oi := ⟨_, _, _, _, _, _⟩) (v := .int .i64 (v : Int)) rfl (by kernel_rfl) (by kernel_rfl) (by kernel_rfl) (fun _ _ _ h => h) (Or.inl ⟨by kernel_rfl, fun W hS => by (obtain ⟨s0, s1, s2, s3, s4, s5, s6, s7, s8, s9, s10, s11⟩ := hS); go_simp⟩) ⟨BG_66.out.cell (i := 0) rfl, BG_66.out.cell (i := 1) rfl, BR_67.out.cell (i := 0) rfl, BR_67.out.cell (i := 1) rfl, BR_67.out.cell (i := 2) rfl, BR_67.out.cell (i := 3) rfl, BR_67.out.cell (i := 4) rfl, BR_67.out.cell (i := 5) rfl, BR_67.out.cell (i := 6) rfl, BR_67.out.cell (i := 7) rfl, BN_68.out.cell (i := 0) rfl, BN_68.out.cell (i := 1) rfl⟩ ?_
   (try simp only [Act.put, List.setIfInBounds_toArray, List.set_cons_zero, List.set_cons_succ])
   refine wpAnyH_ready (rs := [2]) (by kernel_rfl) (by simp) (AllReadyH.cons rfl (fun K hK => ?_) AllReadyH.nil)
   go_simp
   go_at_call 26
   refine (CC.out _ H_65.out).mono ?_
   rintro e w1 ⟨A1, c1, B1, d1, C1, k1, rfl, ho, hb⟩
   have H_72 := Lib.hid (g_chain H_65.out hb)
   clear H_65
   have BG_73 := Lib.hid (BG_66.out.below hb)
   clear BG_66
   have BR_74 := Lib.hid (BR_67.out.below hb)
   clear BR_67
   have BN_75 := Lib.hid (BN_68.out.below hb)
   clear BN_68
   have BZ_76 := Lib.hid (BZ_69.out.below hb)
   clear BZ_69
   have BY_77 := Lib.hid (BY_70.out.below hb)
   clear BY_70
   have sz_78 := Lib.hid (Below.size hb)
   have Ov_79 := Lib.hid (ho.v)
   have Oe_80 := Lib.hid (ho.e)
   have Ox_81 := Lib.hid (ho.x)
   have AP := Lib.hid ho.ap
   have HTX := Lib.hid ho.x.lt
   clear ho hb
   dsimp only
   refine hK.out _ _ ⟨BG_73.out.cell (i := 0) rfl, BG_73.out.cell (i := 1) rfl, BR_74.out.cell (i := 0) rfl, BR_74.out.cell (i := 1) rfl, BR_74.out.cell (i := 2) rfl, BR_74.out.cell (i := 3) rfl, BR_74.out.cell (i := 4) rfl, BR_74.out.cell (i := 5) rfl, BR_74.out.cell (i := 6) rfl, BR_74.out.cell (i := 7) rfl, BN_75.out.cell (i := 0) rfl, BN_75.out.cell (i := 1) rfl⟩ (fun _ => ?_)
   clear hK K
   (try simp only [Act.put, List.setIfInBounds_toArray, List.set_cons_zero, List.set_cons_succ])
   refine wpAnyH_ready (rs := [4]) (by kernel_rfl) (by simp) (AllReadyH.cons rfl (fun K hK => ?_) AllReadyH.nil)
   go_simp
   go_at_call 27
   refine (CS.out _ H_72.out).mono ?_
   rintro e w2 ⟨D1, e1, rfl, ho, hb⟩
   have HAP := Lib.hid (own_time HTX.out ho (Nat.le_refl _))
   have H_82 := Lib.hid (g_chain H_72.out hb)
   clear H_72
   have BG_83 := Lib.hid (BG_73.out.below hb)
   clear BG_73
   have BR_84 := Lib.hid (BR_74.out.below hb)
   clear BR_74
   have BN_85 := Lib.hid (BN_75.out.below hb)
   clear BN_75
   have BZ_86 := Lib.hid (BZ_76.out.below hb)
   clear BZ_76
   have BY_87 := Lib.hid (BY_77.out.below hb)
   clear BY_77
   have Ov_88 := Lib.hid (own_below Ov_79.out hb)
   clear Ov_79
   have Oe_89 := Lib.hid (own_below Oe_80.out hb)
   clear Oe_80
   have Ox_90 := Lib.hid (own_below Ox_81.out hb)
   clear Ox_81
   have sz_91 := Lib.hid (Below.size hb)
   have Od_92 := Lib.hid (ho)
   clear ho hb
   dsimp only
   refine hK.out _ _ ⟨BG_83.out.cell (i := 0) rfl, BG_83.out.cell (i := 1) rfl, BR_84.out.cell (i := 0) rfl, BR_84.out.cell (i := 1) rfl, BR_84.out.cell (i := 2) rfl, BR_84.out.cell (i := 3) rfl, BR_84.out.cell (i := 4) rfl, BR_84.out.cell (i := 5) rfl, BR_84.out.cell (i := 6) rfl, BR_84.out.cell (i := 7) rfl, BN_85.out.cell (i := 0) rfl, BN_85.out.cell (i := 1) rfl⟩ (fun _ => ?_)
   clear hK K
   (try simp only [Act.put, List.setIfInBounds_toArray, List.set_cons_zero, List.set_cons_succ])
   refine wpAnyH_ready (rs := [6]) (by kernel_rfl) (by simp) (AllReadyH.cons rfl (fun K hK => ?_) AllReadyH.nil)
   go_simp
   have hr3 : Rows3 w2 w.heap.size A1 n c1 B1 m d1 C1 j k1 vs ev nx := ⟨own_monoG Ov_88.out (by have := sz0.out; have := sz_31.out; have := sz_56.out; have := sz_71.out; have := sz_78.out; have := sz_91.out; omega), own_monoG Oe_89.out (by have := sz0.out; have := sz_31.out; have := sz_56.out; have := sz_71.out; have := sz_78.out; have := sz_91.out; omega), own_monoG Ox_90.out (by have := sz0.out; have := sz_31.out; have := sz_56.out; have := sz_71.out; have := sz_78.out; have := sz_91.out; omega), AP.out⟩
   go_at_call 25
   refine (specVertexRun w w2 p s it dn A1 n c1 B1 m d1 C1 j k1 D1 q e1 vs ev nx nw N AG l cG G v HGG.out HR.out.g hp HGD.out hvN hr3 (own_monoG Od_92.out (by have := sz0.out; have := sz_31.out; have := sz_56.out; have := sz_71.out; have := sz_78.out; have := sz_91.out; omega)) HAP.out H_82.out).mono ?_
   rintro e w6 ⟨C2, j2, k2, D2, q2, e2, rfl, hq3, hd3, hap3, hbl3, hon⟩
   have GG := Lib.hid (hon.blk BG_83.out (abBlk_not hr3 BG_83.out (by decide)))
   have RR := Lib.hid (hon.blk BR_84.out (abBlk_not hr3 BR_84.out (by decide)))
   have NN := Lib.hid (hon.blk BN_85.out (abBlk_not hr3 BN_85.out (by decide)))
   have ZZ := Lib.hid (hon.blk BZ_86.out (abBlk_not hr3 BZ_86.out (by decide)))
   have YY := Lib.hid (hon.blk BY_87.out (abBlk_not hr3 BY_87.out (by decide)))
   have R3 := Lib.hid hq3
   have D3 := Lib.hid hd3
   have AP3 := Lib.hid hap3
   have H3 := Lib.hid hbl3
   clear hr3 hq3 hd3 hap3 hbl3 hon HAP AP HTX CC CS
   clear H_82 BG_83 BR_84 BN_85 BZ_86 BY_87 Ov_88 Oe_89 Ox_90 Od_92
   dsimp only
   refine hK.out _ _ ⟨GG.out.cell (i := 0) rfl, GG.out.cell (i := 1) rfl, RR.out.cell (i := 0) rfl, RR.out.cell (i := 1) rfl, RR.out.cell (i := 2) rfl, RR.out.cell (i := 3) rfl, RR.out.cell (i := 4) rfl, RR.out.cell (i := 5) rfl, RR.out.cell (i := 6) rfl, RR.out.cell (i := 7) rfl, NN.out.cell (i := 0) rfl, NN.out.cell (i := 1) rfl⟩ (fun _ => ?_)
   clear hK K
   (try simp only [Act.put, List.setIfInBounds_toArray, List.set_cons_zero, List.set_cons_succ])
   refine wpAnyH_take (i := 7) (oi := ⟨_, _, _, _, _, _⟩) (v := .agg #[.int .i64 p, .int .i64 s, .int .i64 it, .bool dn, .slice A1 n c1, .slice B1 m d1, .int .i64 (N : Int), .slice C2 j2 k2]) rfl (by kernel_rfl) (by kernel_rfl) (by kernel_rfl) (fun _ _ _ h => h) (Or.inl ⟨by kernel_rfl, fun W hS => by (obtain ⟨s0, s1, s2, s3, s4, s5, s6, s7, s8, s9, s10, s11⟩ := hS); go_simp⟩) ⟨GG.out.cell (i := 0) rfl, GG.out.cell (i := 1) rfl, RR.out.cell (i := 0) rfl, RR.out.cell (i := 1) rfl, RR.out.cell (i := 2) rfl, RR.out.cell (i := 3) rfl, RR.out.cell (i := 4) rfl, RR.out.cell (i := 5) rfl, RR.out.cell (i := 6) rfl, RR.out.cell (i := 7) rfl, NN.out.cell (i := 0) rfl, NN.out.cell (i := 1) rfl⟩ ?_
   (try simp only [Act.put, List.setIfInBounds_toArray, List.set_cons_zero, List.set_cons_succ])
   refine wpAnyH_take (i := 8) (oi := ⟨_, _, _, _, _, _⟩) (v := .agg #[.int .i64 (N : Int), .slice D2 q2 e2]) rfl (by kernel_rfl) (by kernel_rfl) (by kernel_rfl) (fun _ _ _ h => h) (Or.inl ⟨by kernel_rfl, fun W hS => by (obtain ⟨s0, s1, s2, s3, s4, s5, s6, s7, s8, s9, s10, s11⟩ := hS); go_simp⟩) ⟨GG.out.cell (i := 0) rfl, GG.out.cell (i := 1) rfl, RR.out.cell (i := 0) rfl, RR.out.cell (i := 1) rfl, RR.out.cell (i := 2) rfl, RR.out.cell (i := 3) rfl, RR.out.cell (i := 4) rfl, RR.out.cell (i := 5) rfl, RR.out.cell (i := 6) rfl, RR.out.cell (i := 7) rfl, NN.out.cell (i := 0) rfl, NN.out.cell (i := 1) rfl⟩ ?_
   (try simp only [Act.put, List.setIfInBounds_toArray, List.set_cons_zero, List.set_cons_succ])
   refine wpAnyH_ready (rs := [9]) (by kernel_rfl) (by simp) (AllReadyH.cons rfl (fun K hK => ?_) AllReadyH.nil)
   obtain ⟨zl, z0, z1, z2, z3, z4, z5, z6, z7⟩ := ZZ.out.eight
   obtain ⟨f0, f1, f2, f3, f4, f5, f6, f7⟩ := ZZ.out.eightF
   go_simp
   clear zl z0 z1 z2 z3 z4 z5 z6 z7 f0 f1 f2 f3 f4 f5 f6 f7
   have hgs : w6.grownBy ((((((((w6.setCell ⟨w.heap.size + 3, 0, none⟩ (.int .i64 p)).setCell ⟨w.heap.size + 3, 1, none⟩ (.int .i64 s)).setCell ⟨w.heap.size + 3, 2, none⟩ (.int .i64 it)).setCell ⟨w.heap.size + 3, 3, none⟩ (.bool dn)).setCell ⟨w.heap.size + 3, 4, none⟩ (.slice A1 n c1)).setCell ⟨w.heap.size + 3, 5, none⟩ (.slice B1 m d1)).setCell ⟨w.heap.size + 3, 6, none⟩ (.int .i64 (N : Int))).setCell ⟨w.heap.size + 3, 7, none⟩ (.slice C2 j2 k2)) (some (w.heap.size + 3)) := layR_grown w6 (w.heap.size + 3) (.int .i64 p) (.int .i64 s) (.int .i64 it) (.bool dn) (.slice A1 n c1) (.slice B1 m d1) (.int .i64 (N : Int)) (.slice C2 j2 k2)
   have R4 := Lib.hid (R3.out.past2 hgs ZZ.out (by decide) (by decide))
   have D4 := Lib.hid (own_kept D3.out hgs (own_kind D3.out ZZ.out (by decide)))
   have H4 := Lib.hid (H3.out.grown hgs H3.out.size (fun i hi => by injection hi with hi; omega))
   have Z4 : Hid (Blk ((((((((w6.setCell ⟨w.heap.size + 3, 0, none⟩ (.int .i64 p)).setCell ⟨w.heap.size + 3, 1, none⟩ (.int .i64 s)).setCell ⟨w.heap.size + 3, 2, none⟩ (.int .i64 it)).setCell ⟨w.heap.size + 3, 3, none⟩ (.bool dn)).setCell ⟨w.heap.size + 3, 4, none⟩ (.slice A1 n c1)).setCell ⟨w.heap.size + 3, 5, none⟩ (.slice B1 m d1)).setCell ⟨w.heap.size + 3, 6, none⟩ (.int .i64 (N : Int))).setCell ⟨w.heap.size + 3, 7, none⟩ (.slice C2 j2 k2)) (w.heap.size + 3) #[.int .i64 p, .int .i64 s, .int .i64 it, .bool dn, .slice A1 n c1, .slice B1 m d1, .int .i64 (N : Int), .slice C2 j2 k2] 39) := Lib.hid (layR_blk ZZ.out)
   replace GG := Lib.hid (GG.out.grown hgs (by intro e; injection e with e; omega))
   replace RR := Lib.hid (RR.out.grown hgs (by intro e; injection e with e; omega))
   replace NN := Lib.hid (NN.out.grown hgs (by intro e; injection e with e; omega))
   replace YY := Lib.hid (YY.out.grown hgs (by intro e; injection e with e; omega))
   clear hgs R3 D3 H3 ZZ
   generalize hWW : ((((((((w6.setCell ⟨w.heap.size + 3, 0, none⟩ (.int .i64 p)).setCell ⟨w.heap.size + 3, 1, none⟩ (.int .i64 s)).setCell ⟨w.heap.size + 3, 2, none⟩ (.int .i64 it)).setCell ⟨w.heap.size + 3, 3, none⟩ (.bool dn)).setCell ⟨w.heap.size + 3, 4, none⟩ (.slice A1 n c1)).setCell ⟨w.heap.size + 3, 5, none⟩ (.slice B1 m d1)).setCell ⟨w.heap.size + 3, 6, none⟩ (.int .i64 (N : Int))).setCell ⟨w.heap.size + 3, 7, none⟩ (.slice C2 j2 k2)) = w7 at R4 D4 H4 Z4 GG RR NN YY ⊢
   clear hWW
   refine hK.out _ _ ⟨GG.out.cell (i := 0) rfl, GG.out.cell (i := 1) rfl, RR.out.cell (i := 0) rfl, RR.out.cell (i := 1) rfl, RR.out.cell (i := 2) rfl, RR.out.cell (i := 3) rfl, RR.out.cell (i := 4) rfl, RR.out.cell (i := 5) rfl, RR.out.cell (i := 6) rfl, RR.out.cell (i := 7) rfl, NN.out.cell (i := 0) rfl, NN.out.cell (i := 1) rfl⟩ (fun _ => ?_)
   clear hK K
   (try simp only [Act.put])
   refine wpAnyH_ready (rs := [10]) (by kernel_rfl) (by simp) (AllReadyH.cons rfl (fun K hK => ?_) AllReadyH.nil)
   have z0 := YY.out.cell (i := 0) rfl
   have z1 := YY.out.cell (i := 1) rfl
   have f0 := YY.out.frozen 0
   have f1 := YY.out.frozen 1
   have zl := YY.out.lt
   go_simp
   clear z0 z1 f0 f1 zl
   have hgs := set2_grown w7 (w.heap.size + 4) 0 1 (.int .i64 (N : Int)) (.slice D2 q2 e2)
   have R5 := Lib.hid (R4.out.past2 hgs YY.out (by decide) (by decide))
   have D5 := Lib.hid (own_kept D4.out hgs (own_kind D4.out YY.out (by decide)))
   have H5 := Lib.hid (H4.out.grown hgs H4.out.size (fun i hi => by injection hi with hi; omega))
   have Y5 := Lib.hid (Blk.set (Blk.set YY.out 0 (.int .i64 (N : Int))) 1 (.slice D2 q2 e2))
   replace GG := Lib.hid (GG.out.grown hgs (by intro e; injection e with e; omega))
   replace RR := Lib.hid (RR.out.grown hgs (by intro e; injection e with e; omega))
   replace NN := Lib.hid (NN.out.grown hgs (by intro e; injection e with e; omega))
   replace Z4 := Lib.hid (Z4.out.grown hgs (by intro e; injection e with e; omega))
   clear hgs R4 D4 H4 YY
   generalize hWW : ((w7.setCell ⟨w.heap.size + 4, 0, none⟩ (.int .i64 (N : Int))).setCell ⟨w.heap.size + 4, 1, none⟩ (.slice D2 q2 e2)) = w8 at R5 D5 H5 Y5 Z4 GG RR NN ⊢
   clear hWW
   refine hK.out _ _ ⟨GG.out.cell (i := 0) rfl, GG.out.cell (i := 1) rfl, RR.out.cell (i := 0) rfl, RR.out.cell (i := 1) rfl, RR.out.cell (i := 2) rfl, RR.out.cell (i := 3) rfl, RR.out.cell (i := 4) rfl, RR.out.cell (i := 5) rfl, RR.out.cell (i := 6) rfl, RR.out.cell (i := 7) rfl, NN.out.cell (i := 0) rfl, NN.out.cell (i := 1) rfl⟩ (fun _ => ?_)
   clear hK K
   (try simp only [Act.put])
   refine wpAnyH_done (by kernel_rfl) ?_ _
   go_wp2
   obtain ⟨-, u0, u1, u2, u3, u4, u5, u6, u7⟩ := Z4.out.eight
   have x0 := Y5.out.cell (i := 0) rfl
   have x1 := Y5.out.cell (i := 1) rfl
   generalize vstep p (N : Int) G ⟨vs, ev, nx, nw⟩ v = T at R5 D5 ⊢
   obtain ⟨tv, te, tx, tn⟩ := T
   simp only at R5 D5 ⊢
   obtain ⟨hn1, hm1, hj1⟩ := R5.out.len
   have hdl : tn.length = q2 := by have h9 := D5.out.1; rw [vb_length] at h9; omega
   refine bodyPost_ret (v := .tuple #[.agg #[.int .i64 p, .int .i64 s, .int .i64 it, .bool dn, .slice A1 n c1, .slice B1 m d1, .int .i64 (N : Int), .slice C2 j2 k2], .agg #[.int .i64 (N : Int), .slice D2 q2 e2]]) (by simp [results, Tryz.results7, go_sem, u0, u1, u2, u3, u4, u5, u6, u7, x0, x1]) rfl ?_
   refine ⟨A1, c1, B1, d1, C2, k2, D2, e2, by simp only [hn1, hm1, hj1, hdl], ⟨?_, ?_, ?_, ?_⟩, ?_, ?_, H5.out⟩
   ·
    simp only [hn1]; exact R5.out.v
   ·
    simp only [hm1]; exact R5.out.e
   ·
    simp only [hj1]; exact R5.out.x
   ·
    simp only [hn1, hm1]; exact R5.out.ap
   ·
    simp only [hdl]; exact D5.out
   ·
    simp only [hj1, hdl]; exact AP3.out
end Go.Proofs.YtpgnappddddlpaaGreatDoor
