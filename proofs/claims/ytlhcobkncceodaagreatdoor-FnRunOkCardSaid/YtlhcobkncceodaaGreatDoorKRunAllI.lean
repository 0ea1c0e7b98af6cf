/- The contract of the program's RunAll. Condition: at most 2^20 edges, 2^21 numbers or bytes. -/
import Derived.Test.YtlhcobkncceodaaGreatDoorCGD
import Derived.Test.YtlhcobkncceodaaGreatDoorCGL
import Derived.Test.YtlhcobkncceodaaGreatDoorKRunOkI
namespace Go.Proofs.YtlhcobkncceodaaGreatDoor
open Go.RowKit
set_option linter.unusedVariables false

theorem iterateR (w0 w : World) (b : Nat) (A : Option Addr) (n c : Nat) (B : Option Addr) (m d : Nat) (C : Option Addr) (j k : Nat) (r : RD) (N : Nat) (AG : Option Addr) (l cG : Nat) (G : List GE) (hw : Wts w0) (hg : SlG w0 AG l G) (hrun : RunP N G r) (hsm : SmallR r) (hst : RSt w w0.heap.size b r.p r.s r.it r.dn A n c B m d (N : Int) C j k r.vs r.ev r.nx) (hbl : Below w0.heap.size w0 w) :
    Calls Tryz.prog 46 #[.pointer (some ⟨b, 0, none⟩), .agg #[.int .i64 (N : Int), .slice AG l cG]] w (Iterated w0 w b A n c B m d C j k N (iterR (N : Int) G r)) := by
  obtain ⟨p, s, it, dn, vs, ev, nn, nx⟩ := r
  have hnn := hrun.nn
  simp only at hnn
  subst hnn
  exact implIterate w0 w b p s it dn A n c B m d C j k vs ev nx N AG l cG G hw hg hrun hsm hst hbl
set_option maxRecDepth 20000 in
set_option maxHeartbeats 8000000 in
theorem implRunAll (N : Int) (AG : Option Addr) (l cG : Nat) (G : List GE) (p s it : Int) (dn : Bool) (A : Option Addr) (n c : Nat) (B : Option Addr) (m d : Nat) (nn : Int) (C : Option Addr) (j k : Nat) (vs ev : List Int) (nx : List Nat) (most : Int) (w : World) (hw : Wts w) (hg : SlG w AG l G) (hv : SlI w A n vs) (he : SlI w B m ev) (hx : Rd w C j nx) (hl : l ≤ 1048576) (hn : n ≤ 2097152) (hm : m ≤ 2097152) (hj : j ≤ 2097152) :
    Calls Tryz.prog 10 #[.agg #[.int .i64 N, .slice AG l cG], .agg #[.int .i64 p, .int .i64 s, .int .i64 it, .bool dn, .slice A n c, .slice B m d, .int .i64 nn, .slice C j k], .int .i64 most] w (MadeRO w (allO N G ⟨p, s, it, dn, vs, ev, nn, nx⟩ most.toNat)) := by
  have C0 := Lib.hid (fun W (h : Below w.heap.size w W) => implRunOk N AG l cG G p s it dn A n c B m d nn C j k vs ev nx W (hw.below h) (hg.below h) (hv.below h) (he.below h) (hx.below h) hl hn hm hj)
  have CC := Lib.hid (fun W (h : Below w.heap.size w W) => implCopyRun p s it dn A n c B m d nn C j k vs ev nx W (hv.below h) (he.below h) (hx.below h) hn hm hj)
  unfold MadeR at CC
  have HGG := Lib.hid hg
  have HWW := Lib.hid hw
  have HSX := Lib.hid hx.small
  clear hw hg hv he hx
  unfold allO
  cases hb : runB N G ⟨p, s, it, dn, vs, ev, nn, nx⟩ with
  | false =>
    rw [hb] at C0
    simp only [Bool.false_eq_true, if_false]
    clear hb CC
    have H_1 := Lib.hid (g_chain (g_chain (g_chain (Below.refl w.heap.size w) (below_a1 w (.cells #[.int .i64 N, .slice AG l cG] 25))) (below_a1 (w.alloc (.cells #[.int .i64 N, .slice AG l cG] 25)) (.cells #[.int .i64 p, .int .i64 s, .int .i64 it, .bool dn, .slice A n c, .slice B m d, .int .i64 nn, .slice C j k] 32))) (below_a1 ((w.alloc (.cells #[.int .i64 N, .slice AG l cG] 25)).alloc (.cells #[.int .i64 p, .int .i64 s, .int .i64 it, .bool dn, .slice A n c, .slice B m d, .int .i64 nn, .slice C j k] 32)) (.cells #[.int .i64 0, .int .i64 0, .int .i64 0, .bool false, .slice none 0 0, .slice none 0 0, .int .i64 0, .slice none 0 0] 32)))
    have BG_2 : Hid (Blk (((w.alloc (.cells #[.int .i64 N, .slice AG l cG] 25)).alloc (.cells #[.int .i64 p, .int .i64 s, .int .i64 it, .bool dn, .slice A n c, .slice B m d, .int .i64 nn, .slice C j k] 32)).alloc (.cells #[.int .i64 0, .int .i64 0, .int .i64 0, .bool false, .slice none 0 0, .slice none 0 0, .int .i64 0, .slice none 0 0] 32)) (w.heap.size) #[.int .i64 N, .slice AG l cG] 25) := Lib.hid (by have h := ((Blk.new w #[.int .i64 N, .slice AG l cG] 25).alloc (.cells #[.int .i64 p, .int .i64 s, .int .i64 it, .bool dn, .slice A n c, .slice B m d, .int .i64 nn, .slice C j k] 32)).alloc (.cells #[.int .i64 0, .int .i64 0, .int .i64 0, .bool false, .slice none 0 0, .slice none 0 0, .int .i64 0, .slice none 0 0] 32); simpa [Nat.add_assoc] using h)
    have BR_3 : Hid (Blk (((w.alloc (.cells #[.int .i64 N, .slice AG l cG] 25)).alloc (.cells #[.int .i64 p, .int .i64 s, .int .i64 it, .bool dn, .slice A n c, .slice B m d, .int .i64 nn, .slice C j k] 32)).alloc (.cells #[.int .i64 0, .int .i64 0, .int .i64 0, .bool false, .slice none 0 0, .slice none 0 0, .int .i64 0, .slice none 0 0] 32)) (w.heap.size + 1) #[.int .i64 p, .int .i64 s, .int .i64 it, .bool dn, .slice A n c, .slice B m d, .int .i64 nn, .slice C j k] 32) := Lib.hid (by have h := (Blk.new (w.alloc (.cells #[.int .i64 N, .slice AG l cG] 25)) #[.int .i64 p, .int .i64 s, .int .i64 it, .bool dn, .slice A n c, .slice B m d, .int .i64 nn, .slice C j k] 32).alloc (.cells #[.int .i64 0, .int .i64 0, .int .i64 0, .bool false, .slice none 0 0, .slice none 0 0, .int .i64 0, .slice none 0 0] 32); simpa [Nat.add_assoc] using h)
    have BZ_4 : Hid (Blk (((w.alloc (.cells #[.int .i64 N, .slice AG l cG] 25)).alloc (.cells #[.int .i64 p, .int .i64 s, .int .i64 it, .bool dn, .slice A n c, .slice B m d, .int .i64 nn, .slice C j k] 32)).alloc (.cells #[.int .i64 0, .int .i64 0, .int .i64 0, .bool false, .slice none 0 0, .slice none 0 0, .int .i64 0, .slice none 0 0] 32)) (w.heap.size + 2) #[.int .i64 0, .int .i64 0, .int .i64 0, .bool false, .slice none 0 0, .slice none 0 0, .int .i64 0, .slice none 0 0] 32) := Lib.hid (by have h := Blk.new ((w.alloc (.cells #[.int .i64 N, .slice AG l cG] 25)).alloc (.cells #[.int .i64 p, .int .i64 s, .int .i64 it, .bool dn, .slice A n c, .slice B m d, .int .i64 nn, .slice C j k] 32)) #[.int .i64 0, .int .i64 0, .int .i64 0, .bool false, .slice none 0 0, .slice none 0 0, .int .i64 0, .slice none 0 0] 32; simpa [Nat.add_assoc] using h)
    have sz0 : Hid (w.heap.size + 3 ≤ (((w.alloc (.cells #[.int .i64 N, .slice AG l cG] 25)).alloc (.cells #[.int .i64 p, .int .i64 s, .int .i64 it, .bool dn, .slice A n c, .slice B m d, .int .i64 nn, .slice C j k] 32)).alloc (.cells #[.int .i64 0, .int .i64 0, .int .i64 0, .bool false, .slice none 0 0, .slice none 0 0, .int .i64 0, .slice none 0 0] 32)).heap.size) := Lib.hid (by simp)
    go_enter Tryz.func10, Tryz.ntmps10
    have x_5 := BG_2.out.cell (i := 0) rfl
    have x_6 := BG_2.out.cell (i := 1) rfl
    have x_7 := BR_3.out.cell (i := 0) rfl
    have x_8 := BR_3.out.cell (i := 1) rfl
    have x_9 := BR_3.out.cell (i := 2) rfl
    have x_10 := BR_3.out.cell (i := 3) rfl
    have x_11 := BR_3.out.cell (i := 4) rfl
    have x_12 := BR_3.out.cell (i := 5) rfl
    have x_13 := BR_3.out.cell (i := 6) rfl
    have x_14 := BR_3.out.cell (i := 7) rfl
    go_wp2_with fail
    refine (C0.out _ H_1.out).mono ?_
    rintro e w1 ⟨rfl, hb⟩
    clear x_5
    clear x_6
    clear x_7
    clear x_8
    clear x_9
    clear x_10
    clear x_11
    clear x_12
    clear x_13
    clear x_14
    have H_15 := Lib.hid (g_chain H_1.out hb)
    clear H_1
    have BG_16 := Lib.hid (BG_2.out.below hb)
    clear BG_2
    have BR_17 := Lib.hid (BR_3.out.below hb)
    clear BR_3
    have BZ_18 := Lib.hid (BZ_4.out.below hb)
    clear BZ_4
    have sz_19 := Lib.hid (Below.size hb)
    clear hb
    have x_20 := BZ_18.out.cell (i := 0) rfl
    have x_21 := BZ_18.out.cell (i := 1) rfl
    have x_22 := BZ_18.out.cell (i := 2) rfl
    have x_23 := BZ_18.out.cell (i := 3) rfl
    have x_24 := BZ_18.out.cell (i := 4) rfl
    have x_25 := BZ_18.out.cell (i := 5) rfl
    have x_26 := BZ_18.out.cell (i := 6) rfl
    have x_27 := BZ_18.out.cell (i := 7) rfl
    have fz_28 := fun i => BZ_18.out.frozen i
    have lt_29 := BZ_18.out.lt
    go_wp2
    have hg_30 := (((((((grown_cell w1 (w.heap.size + 2) 0 (.int .i64 0)).trans (grown_cell (w1.setCell ⟨w.heap.size + 2, 0, none⟩ (.int .i64 0)) (w.heap.size + 2) 1 (.int .i64 0))).trans (grown_cell ((w1.setCell ⟨w.heap.size + 2, 0, none⟩ (.int .i64 0)).setCell ⟨w.heap.size + 2, 1, none⟩ (.int .i64 0)) (w.heap.size + 2) 2 (.int .i64 0))).trans (grown_cell (((w1.setCell ⟨w.heap.size + 2, 0, none⟩ (.int .i64 0)).setCell ⟨w.heap.size + 2, 1, none⟩ (.int .i64 0)).setCell ⟨w.heap.size + 2, 2, none⟩ (.int .i64 0)) (w.heap.size + 2) 3 (.bool false))).trans (grown_cell ((((w1.setCell ⟨w.heap.size + 2, 0, none⟩ (.int .i64 0)).setCell ⟨w.heap.size + 2, 1, none⟩ (.int .i64 0)).setCell ⟨w.heap.size + 2, 2, none⟩ (.int .i64 0)).setCell ⟨w.heap.size + 2, 3, none⟩ (.bool false)) (w.heap.size + 2) 4 (.slice none 0 0))).trans (grown_cell (((((w1.setCell ⟨w.heap.size + 2, 0, none⟩ (.int .i64 0)).setCell ⟨w.heap.size + 2, 1, none⟩ (.int .i64 0)).setCell ⟨w.heap.size + 2, 2, none⟩ (.int .i64 0)).setCell ⟨w.heap.size + 2, 3, none⟩ (.bool false)).setCell ⟨w.heap.size + 2, 4, none⟩ (.slice none 0 0)) (w.heap.size + 2) 5 (.slice none 0 0))).trans (grown_cell ((((((w1.setCell ⟨w.heap.size + 2, 0, none⟩ (.int .i64 0)).setCell ⟨w.heap.size + 2, 1, none⟩ (.int .i64 0)).setCell ⟨w.heap.size + 2, 2, none⟩ (.int .i64 0)).setCell ⟨w.heap.size + 2, 3, none⟩ (.bool false)).setCell ⟨w.heap.size + 2, 4, none⟩ (.slice none 0 0)).setCell ⟨w.heap.size + 2, 5, none⟩ (.slice none 0 0)) (w.heap.size + 2) 6 (.int .i64 0))).trans (grown_cell (((((((w1.setCell ⟨w.heap.size + 2, 0, none⟩ (.int .i64 0)).setCell ⟨w.heap.size + 2, 1, none⟩ (.int .i64 0)).setCell ⟨w.heap.size + 2, 2, none⟩ (.int .i64 0)).setCell ⟨w.heap.size + 2, 3, none⟩ (.bool false)).setCell ⟨w.heap.size + 2, 4, none⟩ (.slice none 0 0)).setCell ⟨w.heap.size + 2, 5, none⟩ (.slice none 0 0)).setCell ⟨w.heap.size + 2, 6, none⟩ (.int .i64 0)) (w.heap.size + 2) 7 (.slice none 0 0))
    have H_31 := Lib.hid (H_15.out.grown hg_30 H_15.out.size (fun j hj => by injection hj with hj; have := sz0.out; have := sz_19.out; omega))
    clear H_15
    have BG_32 := Lib.hid (BG_16.out.grown hg_30 (by intro e; injection e with e; have := sz0.out; have := sz_19.out; omega))
    clear BG_16
    have BR_33 := Lib.hid (BR_17.out.grown hg_30 (by intro e; injection e with e; have := sz0.out; have := sz_19.out; omega))
    clear BR_17
    have BZ_34 : Hid (Blk ((((((((w1.setCell ⟨w.heap.size + 2, 0, none⟩ (.int .i64 0)).setCell ⟨w.heap.size + 2, 1, none⟩ (.int .i64 0)).setCell ⟨w.heap.size + 2, 2, none⟩ (.int .i64 0)).setCell ⟨w.heap.size + 2, 3, none⟩ (.bool false)).setCell ⟨w.heap.size + 2, 4, none⟩ (.slice none 0 0)).setCell ⟨w.heap.size + 2, 5, none⟩ (.slice none 0 0)).setCell ⟨w.heap.size + 2, 6, none⟩ (.int .i64 0)).setCell ⟨w.heap.size + 2, 7, none⟩ (.slice none 0 0)) (w.heap.size + 2) #[.int .i64 0, .int .i64 0, .int .i64 0, .bool false, .slice none 0 0, .slice none 0 0, .int .i64 0, .slice none 0 0] 32) := Lib.hid (Blk.set (Blk.set (Blk.set (Blk.set (Blk.set (Blk.set (Blk.set (Blk.set (BZ_18.out) 0 (.int .i64 0)) 1 (.int .i64 0)) 2 (.int .i64 0)) 3 (.bool false)) 4 (.slice none 0 0)) 5 (.slice none 0 0)) 6 (.int .i64 0)) 7 (.slice none 0 0))
    clear BZ_18
    have sz_35 := Lib.hid (World.grownBy.size hg_30)
    clear hg_30
    refine bodyPost_ret (v := .agg #[.int .i64 0, .int .i64 0, .int .i64 0, .bool false, .slice none 0 0, .slice none 0 0, .int .i64 0, .slice none 0 0]) (by simp [results, Tryz.results10, go_sem, x_20, x_21, x_22, x_23, x_24, x_25, x_26, x_27]) rfl ?_
    exact MadeRO.no H_31.out
  | true =>
    rw [hb] at C0
    simp only [if_true]
    have hrun : ∃ q : Nat, N = (q : Int) := ⟨N.toNat, by
      unfold runB at hb
      simp only [Bool.and_eq_true] at hb
      have := graphB_iff hb.1
      omega⟩
    obtain ⟨N, rfl⟩ := hrun
    have HR := Lib.hid (runB_iff.1 hb)
    have hnn := HR.out.nn
    simp only at hnn
    subst hnn
    clear hb
    have HAR := Lib.hid (fun q => all_run q _ HR.out HSX.out)
    have HSTP := Lib.hid (fun q => run_step HR.out HSX.out q)
    have HOV := Lib.hid (fun (q k : Nat) (h : q ≤ k) => run_over HR.out HSX.out h)
    have HCN := Lib.hid (fun q => run_count HR.out HSX.out q)
    have hi0 := HR.out.i
    simp only at hi0
    obtain ⟨f, hf⟩ : ∃ f : Nat → RD, f = allR (N : Int) G ⟨p, s, it, dn, vs, ev, (N : Int), nx⟩ := ⟨_, rfl⟩
    have HF0 : Hid (f 0 = ⟨p, s, it, dn, vs, ev, (N : Int), nx⟩) := Lib.hid (by rw [hf]; rfl)
    have HFM : Hid (allR (N : Int) G ⟨p, s, it, dn, vs, ev, (N : Int), nx⟩ most.toNat = f most.toNat) := Lib.hid (by rw [hf])
    rw [← hf] at HAR HSTP HOV HCN
    clear hf
    have H_1 := Lib.hid (g_chain (g_chain (g_chain (Below.refl w.heap.size w) (below_a1 w (.cells #[.int .i64 (N : Int), .slice AG l cG] 25))) (below_a1 (w.alloc (.cells #[.int .i64 (N : Int), .slice AG l cG] 25)) (.cells #[.int .i64 p, .int .i64 s, .int .i64 it, .bool dn, .slice A n c, .slice B m d, .int .i64 (N : Int), .slice C j k] 32))) (below_a1 ((w.alloc (.cells #[.int .i64 (N : Int), .slice AG l cG] 25)).alloc (.cells #[.int .i64 p, .int .i64 s, .int .i64 it, .bool dn, .slice A n c, .slice B m d, .int .i64 (N : Int), .slice C j k] 32)) (.cells #[.int .i64 0, .int .i64 0, .int .i64 0, .bool false, .slice none 0 0, .slice none 0 0, .int .i64 0, .slice none 0 0] 32)))
    have BG_2 : Hid (Blk (((w.alloc (.cells #[.int .i64 (N : Int), .slice AG l cG] 25)).alloc (.cells #[.int .i64 p, .int .i64 s, .int .i64 it, .bool dn, .slice A n c, .slice B m d, .int .i64 (N : Int), .slice C j k] 32)).alloc (.cells #[.int .i64 0, .int .i64 0, .int .i64 0, .bool false, .slice none 0 0, .slice none 0 0, .int .i64 0, .slice none 0 0] 32)) (w.heap.size) #[.int .i64 (N : Int), .slice AG l cG] 25) := Lib.hid (by have h := ((Blk.new w #[.int .i64 (N : Int), .slice AG l cG] 25).alloc (.cells #[.int .i64 p, .int .i64 s, .int .i64 it, .bool dn, .slice A n c, .slice B m d, .int .i64 (N : Int), .slice C j k] 32)).alloc (.cells #[.int .i64 0, .int .i64 0, .int .i64 0, .bool false, .slice none 0 0, .slice none 0 0, .int .i64 0, .slice none 0 0] 32); simpa [Nat.add_assoc] using h)
    have BR_3 : Hid (Blk (((w.alloc (.cells #[.int .i64 (N : Int), .slice AG l cG] 25)).alloc (.cells #[.int .i64 p, .int .i64 s, .int .i64 it, .bool dn, .slice A n c, .slice B m d, .int .i64 (N : Int), .slice C j k] 32)).alloc (.cells #[.int .i64 0, .int .i64 0, .int .i64 0, .bool false, .slice none 0 0, .slice none 0 0, .int .i64 0, .slice none 0 0] 32)) (w.heap.size + 1) #[.int .i64 p, .int .i64 s, .int .i64 it, .bool dn, .slice A n c, .slice B m d, .int .i64 (N : Int), .slice C j k] 32) := Lib.hid (by have h := (Blk.new (w.alloc (.cells #[.int .i64 (N : Int), .slice AG l cG] 25)) #[.int .i64 p, .int .i64 s, .int .i64 it, .bool dn, .slice A n c, .slice B m d, .int .i64 (N : Int), .slice C j k] 32).alloc (.cells #[.int .i64 0, .int .i64 0, .int .i64 0, .bool false, .slice none 0 0, .slice none 0 0, .int .i64 0, .slice none 0 0] 32); simpa [Nat.add_assoc] using h)
    have BZ_4 : Hid (Blk (((w.alloc (.cells #[.int .i64 (N : Int), .slice AG l cG] 25)).alloc (.cells #[.int .i64 p, .int .i64 s, .int .i64 it, .bool dn, .slice A n c, .slice B m d, .int .i64 (N : Int), .slice C j k] 32)).alloc (.cells #[.int .i64 0, .int .i64 0, .int .i64 0, .bool false, .slice none 0 0, .slice none 0 0, .int .i64 0, .slice none 0 0] 32)) (w.heap.size + 2) #[.int .i64 0, .int .i64 0, .int .i64 0, .bool false, .slice none 0 0, .slice none 0 0, .int .i64 0, .slice none 0 0] 32) := Lib.hid (by have h := Blk.new ((w.alloc (.cells #[.int .i64 (N : Int), .slice AG l cG] 25)).alloc (.cells #[.int .i64 p, .int .i64 s, .int .i64 it, .bool dn, .slice A n c, .slice B m d, .int .i64 (N : Int), .slice C j k] 32)) #[.int .i64 0, .int .i64 0, .int .i64 0, .bool false, .slice none 0 0, .slice none 0 0, .int .i64 0, .slice none 0 0] 32; simpa [Nat.add_assoc] using h)
    have sz0 : Hid (w.heap.size + 3 ≤ (((w.alloc (.cells #[.int .i64 (N : Int), .slice AG l cG] 25)).alloc (.cells #[.int .i64 p, .int .i64 s, .int .i64 it, .bool dn, .slice A n c, .slice B m d, .int .i64 (N : Int), .slice C j k] 32)).alloc (.cells #[.int .i64 0, .int .i64 0, .int .i64 0, .bool false, .slice none 0 0, .slice none 0 0, .int .i64 0, .slice none 0 0] 32)).heap.size) := Lib.hid (by simp)
    go_enter Tryz.func10, Tryz.ntmps10
    have x_5 := BG_2.out.cell (i := 0) rfl
    have x_6 := BG_2.out.cell (i := 1) rfl
    have x_7 := BR_3.out.cell (i := 0) rfl
    have x_8 := BR_3.out.cell (i := 1) rfl
    have x_9 := BR_3.out.cell (i := 2) rfl
    have x_10 := BR_3.out.cell (i := 3) rfl
    have x_11 := BR_3.out.cell (i := 4) rfl
    have x_12 := BR_3.out.cell (i := 5) rfl
    have x_13 := BR_3.out.cell (i := 6) rfl
    have x_14 := BR_3.out.cell (i := 7) rfl
    go_wp2_with fail
    refine (C0.out _ H_1.out).mono ?_
    rintro e w1 ⟨rfl, hb⟩
    clear x_5
    clear x_6
    clear x_7
    clear x_8
    clear x_9
    clear x_10
    clear x_11
    clear x_12
    clear x_13
    clear x_14
    have H_15 := Lib.hid (g_chain H_1.out hb)
    clear H_1
    have BG_16 := Lib.hid (BG_2.out.below hb)
    clear BG_2
    have BR_17 := Lib.hid (BR_3.out.below hb)
    clear BR_3
    have BZ_18 := Lib.hid (BZ_4.out.below hb)
    clear BZ_4
    have sz_19 := Lib.hid (Below.size hb)
    clear hb
    have x_20 := BR_17.out.cell (i := 0) rfl
    have x_21 := BR_17.out.cell (i := 1) rfl
    have x_22 := BR_17.out.cell (i := 2) rfl
    have x_23 := BR_17.out.cell (i := 3) rfl
    have x_24 := BR_17.out.cell (i := 4) rfl
    have x_25 := BR_17.out.cell (i := 5) rfl
    have x_26 := BR_17.out.cell (i := 6) rfl
    have x_27 := BR_17.out.cell (i := 7) rfl
    have fz_28 := fun i => BR_17.out.frozen i
    have lt_29 := BR_17.out.lt
    go_wp2_with fail
    refine (CC.out _ H_15.out).mono ?_
    rintro e w2 ⟨A1, c1, B1, d1, C1, k1, rfl, ho, hb⟩
    clear x_20
    clear x_21
    clear x_22
    clear x_23
    clear x_24
    clear x_25
    clear x_26
    clear x_27
    clear fz_28
    clear lt_29
    have H_30 := Lib.hid (g_chain H_15.out hb)
    clear H_15
    have BG_31 := Lib.hid (BG_16.out.below hb)
    clear BG_16
    have BR_32 := Lib.hid (BR_17.out.below hb)
    clear BR_17
    have BZ_33 := Lib.hid (BZ_18.out.below hb)
    clear BZ_18
    have sz_34 := Lib.hid (Below.size hb)
    have Ov_35 := Lib.hid (ho.v)
    have Oe_36 := Lib.hid (ho.e)
    have Ox_37 := Lib.hid (ho.x)
    have AP := Lib.hid ho.ap
    clear ho hb
    have x_38 := BR_32.out.cell (i := 0) rfl
    have x_39 := BR_32.out.cell (i := 1) rfl
    have x_40 := BR_32.out.cell (i := 2) rfl
    have x_41 := BR_32.out.cell (i := 3) rfl
    have x_42 := BR_32.out.cell (i := 4) rfl
    have x_43 := BR_32.out.cell (i := 5) rfl
    have x_44 := BR_32.out.cell (i := 6) rfl
    have x_45 := BR_32.out.cell (i := 7) rfl
    have fz_46 := fun i => BR_32.out.frozen i
    have lt_47 := BR_32.out.lt
    have x_48 := BG_31.out.cell (i := 0) rfl
    have x_49 := BG_31.out.cell (i := 1) rfl
    have fz_50 := fun i => BG_31.out.frozen i
    have lt_51 := BG_31.out.lt
    have hg_52 := (((((((grown_cell w2 (w.heap.size + 1) 0 (.int .i64 p)).trans (grown_cell (w2.setCell ⟨w.heap.size + 1, 0, none⟩ (.int .i64 p)) (w.heap.size + 1) 1 (.int .i64 s))).trans (grown_cell ((w2.setCell ⟨w.heap.size + 1, 0, none⟩ (.int .i64 p)).setCell ⟨w.heap.size + 1, 1, none⟩ (.int .i64 s)) (w.heap.size + 1) 2 (.int .i64 it))).trans (grown_cell (((w2.setCell ⟨w.heap.size + 1, 0, none⟩ (.int .i64 p)).setCell ⟨w.heap.size + 1, 1, none⟩ (.int .i64 s)).setCell ⟨w.heap.size + 1, 2, none⟩ (.int .i64 it)) (w.heap.size + 1) 3 (.bool dn))).trans (grown_cell ((((w2.setCell ⟨w.heap.size + 1, 0, none⟩ (.int .i64 p)).setCell ⟨w.heap.size + 1, 1, none⟩ (.int .i64 s)).setCell ⟨w.heap.size + 1, 2, none⟩ (.int .i64 it)).setCell ⟨w.heap.size + 1, 3, none⟩ (.bool dn)) (w.heap.size + 1) 4 (.slice A1 n c1))).trans (grown_cell (((((w2.setCell ⟨w.heap.size + 1, 0, none⟩ (.int .i64 p)).setCell ⟨w.heap.size + 1, 1, none⟩ (.int .i64 s)).setCell ⟨w.heap.size + 1, 2, none⟩ (.int .i64 it)).setCell ⟨w.heap.size + 1, 3, none⟩ (.bool dn)).setCell ⟨w.heap.size + 1, 4, none⟩ (.slice A1 n c1)) (w.heap.size + 1) 5 (.slice B1 m d1))).trans (grown_cell ((((((w2.setCell ⟨w.heap.size + 1, 0, none⟩ (.int .i64 p)).setCell ⟨w.heap.size + 1, 1, none⟩ (.int .i64 s)).setCell ⟨w.heap.size + 1, 2, none⟩ (.int .i64 it)).setCell ⟨w.heap.size + 1, 3, none⟩ (.bool dn)).setCell ⟨w.heap.size + 1, 4, none⟩ (.slice A1 n c1)).setCell ⟨w.heap.size + 1, 5, none⟩ (.slice B1 m d1)) (w.heap.size + 1) 6 (.int .i64 (N : Int)))).trans (grown_cell (((((((w2.setCell ⟨w.heap.size + 1, 0, none⟩ (.int .i64 p)).setCell ⟨w.heap.size + 1, 1, none⟩ (.int .i64 s)).setCell ⟨w.heap.size + 1, 2, none⟩ (.int .i64 it)).setCell ⟨w.heap.size + 1, 3, none⟩ (.bool dn)).setCell ⟨w.heap.size + 1, 4, none⟩ (.slice A1 n c1)).setCell ⟨w.heap.size + 1, 5, none⟩ (.slice B1 m d1)).setCell ⟨w.heap.size + 1, 6, none⟩ (.int .i64 (N : Int))) (w.heap.size + 1) 7 (.slice C1 j k1))
    have H_53 := Lib.hid (H_30.out.grown hg_52 H_30.out.size (fun j hj => by injection hj with hj; have := sz0.out; have := sz_19.out; have := sz_34.out; omega))
    clear H_30
    have BG_54 := Lib.hid (BG_31.out.grown hg_52 (by intro e; injection e with e; have := sz0.out; have := sz_19.out; have := sz_34.out; omega))
    clear BG_31
    have BZ_55 := Lib.hid (BZ_33.out.grown hg_52 (by intro e; injection e with e; have := sz0.out; have := sz_19.out; have := sz_34.out; omega))
    clear BZ_33
    have Ov_56 := Lib.hid (own_kept Ov_35.out hg_52 (own_kind Ov_35.out BR_32.out (by decide)))
    clear Ov_35
    have Oe_57 := Lib.hid (own_kept Oe_36.out hg_52 (own_kind Oe_36.out BR_32.out (by decide)))
    clear Oe_36
    have Ox_58 := Lib.hid (own_kept Ox_37.out hg_52 (own_kind Ox_37.out BR_32.out (by decide)))
    clear Ox_37
    have BR_59 : Hid (Blk ((((((((w2.setCell ⟨w.heap.size + 1, 0, none⟩ (.int .i64 p)).setCell ⟨w.heap.size + 1, 1, none⟩ (.int .i64 s)).setCell ⟨w.heap.size + 1, 2, none⟩ (.int .i64 it)).setCell ⟨w.heap.size + 1, 3, none⟩ (.bool dn)).setCell ⟨w.heap.size + 1, 4, none⟩ (.slice A1 n c1)).setCell ⟨w.heap.size + 1, 5, none⟩ (.slice B1 m d1)).setCell ⟨w.heap.size + 1, 6, none⟩ (.int .i64 (N : Int))).setCell ⟨w.heap.size + 1, 7, none⟩ (.slice C1 j k1)) (w.heap.size + 1) #[.int .i64 p, .int .i64 s, .int .i64 it, .bool dn, .slice A1 n c1, .slice B1 m d1, .int .i64 (N : Int), .slice C1 j k1] 32) := Lib.hid (Blk.set (Blk.set (Blk.set (Blk.set (Blk.set (Blk.set (Blk.set (Blk.set (BR_32.out) 0 (.int .i64 p)) 1 (.int .i64 s)) 2 (.int .i64 it)) 3 (.bool dn)) 4 (.slice A1 n c1)) 5 (.slice B1 m d1)) 6 (.int .i64 (N : Int))) 7 (.slice C1 j k1))
    clear BR_32
    have sz_60 := Lib.hid (World.grownBy.size hg_52)
    clear hg_52
    have RS : Hid (RSt ((((((((w2.setCell ⟨w.heap.size + 1, 0, none⟩ (.int .i64 p)).setCell ⟨w.heap.size + 1, 1, none⟩ (.int .i64 s)).setCell ⟨w.heap.size + 1, 2, none⟩ (.int .i64 it)).setCell ⟨w.heap.size + 1, 3, none⟩ (.bool dn)).setCell ⟨w.heap.size + 1, 4, none⟩ (.slice A1 n c1)).setCell ⟨w.heap.size + 1, 5, none⟩ (.slice B1 m d1)).setCell ⟨w.heap.size + 1, 6, none⟩ (.int .i64 (N : Int))).setCell ⟨w.heap.size + 1, 7, none⟩ (.slice C1 j k1)) w.heap.size (w.heap.size + 1) p s it dn A1 n c1 B1 m d1 (N : Int) C1 j k1 vs ev nx) := Lib.hid ⟨BR_59.out, own_monoG Ov_56.out (by have := sz0.out; have := sz_19.out; have := sz_34.out; have := sz_60.out; omega), own_monoG Oe_57.out (by have := sz0.out; have := sz_19.out; have := sz_34.out; have := sz_60.out; omega), own_monoG Ox_58.out (by have := sz0.out; have := sz_19.out; have := sz_34.out; have := sz_60.out; omega), AP.out, by omega⟩
    have HH := Lib.hid H_53.out
    have GG := Lib.hid BG_54.out
    have ZZ := Lib.hid BZ_55.out
    clear H_53 BG_54 BR_59 BZ_55 Ov_56 Oe_57 Ox_58
    go_wp2
    go_loopw [7] (fun i wr => ∃ q : Nat, q ≤ most.toNat ∧ i = .int .i64 (q : Int) ∧ Hid (∀ z, z < q → ((f z).dn || decide ((f z).it = 1000)) = false) ∧ Hid (∃ (C2 : Option Addr) (j2 k2 : Nat), RSt wr w.heap.size (w.heap.size + 1) (f q).p (f q).s (f q).it (f q).dn A1 n c1 B1 m d1 (N : Int) C2 j2 k2 (f q).vs (f q).ev (f q).nx) ∧ Hid (Below w.heap.size w wr) ∧ Hid (Blk wr w.heap.size #[.int .i64 (N : Int), .slice AG l cG] 25) ∧ Hid (Blk wr (w.heap.size + 2) #[.int .i64 0, .int .i64 0, .int .i64 0, .bool false, .slice none 0 0, .slice none 0 0, .int .i64 0, .slice none 0 0] 32)) (fun i _ => (most - intOf i).toNat)
    case atStart => exact ⟨0, Nat.zero_le _, rfl, Lib.hid (fun z hz => absurd hz (by omega)), by rw [HF0.out]; exact Lib.hid ⟨C1, j, k1, RS.out⟩, HH, GG, ZZ⟩
    case round =>
      clear RS HH GG ZZ HF0 x_38 x_39 x_40 x_41 x_42 x_43 x_44 x_45 fz_46 lt_47 x_48 x_49 fz_50 lt_51
      obtain ⟨q, hq, rfl, hno, hst, hbl, hbg, hbz⟩ := hrel
      have hq1 := (HAR.out q).1.i
      rw [HCN.out q hno.out] at hq1
      obtain ⟨C2, j2, k2, hs⟩ := hst.out
      have S1 := Lib.hid hs
      clear hst hs
      have CV := Lib.hid (fun W bb (h : Blk W bb #[.int .i64 (f q).p, .int .i64 (f q).s, .int .i64 (f q).it, .bool (f q).dn, .slice A1 n c1, .slice B1 m d1, .int .i64 (N : Int), .slice C2 j2 k2] 32) => over_any bb (f q).p (f q).s (f q).it (f q).dn (.slice A1 n c1) (.slice B1 m d1) (.int .i64 (N : Int)) (.slice C2 j2 k2) W h)
      unfold overB at CV
      by_cases hlt : (q : Int) < most
      · skip
        cases hov : ((f q).dn || decide ((f q).it = 1000)) with
        | true =>
          rw [hov] at CV
          have HEQ : Hid (f most.toNat = f q) := Lib.hid (HOV.out q _ (by omega) hov)
          clear hov
          have x0 := S1.out.bx.cell (i := 0) rfl
          have x1 := S1.out.bx.cell (i := 1) rfl
          have x2 := S1.out.bx.cell (i := 2) rfl
          have x3 := S1.out.bx.cell (i := 3) rfl
          have x4 := S1.out.bx.cell (i := 4) rfl
          have x5 := S1.out.bx.cell (i := 5) rfl
          have x6 := S1.out.bx.cell (i := 6) rfl
          have x7 := S1.out.bx.cell (i := 7) rfl
          have xl := S1.out.bx.lt
          have z0 := hbz.out.cell (i := 0) rfl
          have z1 := hbz.out.cell (i := 1) rfl
          have z2 := hbz.out.cell (i := 2) rfl
          have z3 := hbz.out.cell (i := 3) rfl
          have z4 := hbz.out.cell (i := 4) rfl
          have z5 := hbz.out.cell (i := 5) rfl
          have z6 := hbz.out.cell (i := 6) rfl
          have z7 := hbz.out.cell (i := 7) rfl
          have zl := hbz.out.lt
          have zf := fun i => hbz.out.frozen i
          have hnn := (HAR.out q).1.nn
          have hnl := S1.out.nl
          go_wp2_with fail
          refine (CV.out _ _ S1.out.bx).mono ?_
          rintro e w9 ⟨rfl, rfl⟩
          go_wp2
          refine bodyPost_ret (v := .agg #[.int .i64 (f q).p, .int .i64 (f q).s, .int .i64 (f q).it, .bool (f q).dn, .slice A1 n c1, .slice B1 m d1, .int .i64 (N : Int), .slice C2 j2 k2]) (by simp [results, Tryz.results10, go_sem, z0, z1, z2, z3, z4, z5, z6, z7]) rfl ?_
          have hg := layR_grown wr (w.heap.size + 2) (.int .i64 (f q).p) (.int .i64 (f q).s) (.int .i64 (f q).it) (.bool (f q).dn) (.slice A1 n c1) (.slice B1 m d1) (.int .i64 (N : Int)) (.slice C2 j2 k2)
          have V4 := own_kept S1.out.v hg (own_kind S1.out.v hbz.out (by decide))
          have E4 := own_kept S1.out.e hg (own_kind S1.out.e hbz.out (by decide))
          have X4 := own_kept S1.out.x hg (own_kind S1.out.x hbz.out (by decide))
          have H4 := hbl.out.grown hg hbl.out.size (fun i hi => by injection hi with hi; omega)
          obtain ⟨hn1, hm1, hj1⟩ := hnl
          rw [HFM.out, HEQ.out]
          refine ⟨A1, c1, B1, d1, C2, k2, by rw [hn1, hm1, hj1, hnn], ⟨?_, ?_, ?_, ?_⟩, H4⟩
          · rw [hn1]; exact V4
          · rw [hm1]; exact E4
          · rw [hj1]; exact X4
          · rw [hn1, hm1]; exact S1.out.ap
        | false =>
          rw [hov] at CV
          have HNO : Hid (∀ z, z < q + 1 → ((f z).dn || decide ((f z).it = 1000)) = false) := Lib.hid (fun z hz => by
            by_cases h : z = q
            · rw [h]; exact hov
            · exact hno.out z (by omega))
          have HNX : Hid (f (q + 1) = iterR (N : Int) G (f q)) := Lib.hid (by rw [HSTP.out q, hov]; simp)
          have CI := Lib.hid (fun W (h : RSt W w.heap.size (w.heap.size + 1) (f q).p (f q).s (f q).it (f q).dn A1 n c1 B1 m d1 (N : Int) C2 j2 k2 (f q).vs (f q).ev (f q).nx) (h2 : Below w.heap.size w W) => iterateR w W (w.heap.size + 1) A1 n c1 B1 m d1 C2 j2 k2 (f q) N AG l cG G HWW.out HGG.out (HAR.out q).1 (HAR.out q).2 h h2)
          clear hov hno
          have x0 := S1.out.bx.cell (i := 0) rfl
          have x1 := S1.out.bx.cell (i := 1) rfl
          have x2 := S1.out.bx.cell (i := 2) rfl
          have x3 := S1.out.bx.cell (i := 3) rfl
          have x4 := S1.out.bx.cell (i := 4) rfl
          have x5 := S1.out.bx.cell (i := 5) rfl
          have x6 := S1.out.bx.cell (i := 6) rfl
          have x7 := S1.out.bx.cell (i := 7) rfl
          have xl := S1.out.bx.lt
          have g0 := hbg.out.cell (i := 0) rfl
          have g1 := hbg.out.cell (i := 1) rfl
          have gl := hbg.out.lt
          go_wp2_with fail
          refine (CV.out _ _ S1.out.bx).mono ?_
          rintro e w9 ⟨rfl, rfl⟩
          go_wp2_with fail
          refine (CI.out _ S1.out hbl.out).mono ?_
          rintro e w3 ⟨rfl, C3, j3, k3, hrs, hb3, hon⟩
          have BG3 := Lib.hid (hon.blk hbg.out (by
            rintro (h | h | h | h)
            · omega
            · exact own_kind S1.out.v hbg.out (by decide) h
            · exact own_kind S1.out.e hbg.out (by decide) h
            · exact own_kind S1.out.x hbg.out (by decide) h))
          have BZ3 := Lib.hid (hon.blk hbz.out (by
            rintro (h | h | h | h)
            · omega
            · exact own_kind S1.out.v hbz.out (by decide) h
            · exact own_kind S1.out.e hbz.out (by decide) h
            · exact own_kind S1.out.x hbz.out (by decide) h))
          have H3 := Lib.hid hb3
          have R3 : Hid (∃ (C2 : Option Addr) (j2 k2 : Nat), RSt w3 w.heap.size (w.heap.size + 1) (iterR (N : Int) G (f q)).p (iterR (N : Int) G (f q)).s (iterR (N : Int) G (f q)).it (iterR (N : Int) G (f q)).dn A1 n c1 B1 m d1 (N : Int) C2 j2 k2 (iterR (N : Int) G (f q)).vs (iterR (N : Int) G (f q)).ev (iterR (N : Int) G (f q)).nx) := Lib.hid ⟨C3, j3, k3, hrs⟩
          rw [← HNX.out] at R3
          clear hrs hb3 hon hbg hbz hbl S1 CI CV x0 x1 x2 x3 x4 x5 x6 x7 xl g0 g1 gl
          go_wp2
          go_roundw
          case rel => exact ⟨q + 1, by omega, by go_num, HNO, R3, H3, BG3, BZ3⟩
          case measure => simp [intOf]; omega
      · have HEQ : Hid (f most.toNat = f q) := Lib.hid (by rw [show most.toNat = q by omega])
        clear CV
        have x0 := S1.out.bx.cell (i := 0) rfl
        have x1 := S1.out.bx.cell (i := 1) rfl
        have x2 := S1.out.bx.cell (i := 2) rfl
        have x3 := S1.out.bx.cell (i := 3) rfl
        have x4 := S1.out.bx.cell (i := 4) rfl
        have x5 := S1.out.bx.cell (i := 5) rfl
        have x6 := S1.out.bx.cell (i := 6) rfl
        have x7 := S1.out.bx.cell (i := 7) rfl
        have xl := S1.out.bx.lt
        have z0 := hbz.out.cell (i := 0) rfl
        have z1 := hbz.out.cell (i := 1) rfl
        have z2 := hbz.out.cell (i := 2) rfl
        have z3 := hbz.out.cell (i := 3) rfl
        have z4 := hbz.out.cell (i := 4) rfl
        have z5 := hbz.out.cell (i := 5) rfl
        have z6 := hbz.out.cell (i := 6) rfl
        have z7 := hbz.out.cell (i := 7) rfl
        have zl := hbz.out.lt
        have zf := fun i => hbz.out.frozen i
        have hnn := (HAR.out q).1.nn
        have hnl := S1.out.nl
        go_wp2
        refine bodyPost_ret (v := .agg #[.int .i64 (f q).p, .int .i64 (f q).s, .int .i64 (f q).it, .bool (f q).dn, .slice A1 n c1, .slice B1 m d1, .int .i64 (N : Int), .slice C2 j2 k2]) (by simp [results, Tryz.results10, go_sem, z0, z1, z2, z3, z4, z5, z6, z7]) rfl ?_
        have hg := layR_grown wr (w.heap.size + 2) (.int .i64 (f q).p) (.int .i64 (f q).s) (.int .i64 (f q).it) (.bool (f q).dn) (.slice A1 n c1) (.slice B1 m d1) (.int .i64 (N : Int)) (.slice C2 j2 k2)
        have V4 := own_kept S1.out.v hg (own_kind S1.out.v hbz.out (by decide))
        have E4 := own_kept S1.out.e hg (own_kind S1.out.e hbz.out (by decide))
        have X4 := own_kept S1.out.x hg (own_kind S1.out.x hbz.out (by decide))
        have H4 := hbl.out.grown hg hbl.out.size (fun i hi => by injection hi with hi; omega)
        obtain ⟨hn1, hm1, hj1⟩ := hnl
        rw [HFM.out, HEQ.out]
        refine ⟨A1, c1, B1, d1, C2, k2, by rw [hn1, hm1, hj1, hnn], ⟨?_, ?_, ?_, ?_⟩, H4⟩
        · rw [hn1]; exact V4
        · rw [hm1]; exact E4
        · rw [hj1]; exact X4
        · rw [hn1, hm1]; exact S1.out.ap
end Go.Proofs.YtlhcobkncceodaaGreatDoor
