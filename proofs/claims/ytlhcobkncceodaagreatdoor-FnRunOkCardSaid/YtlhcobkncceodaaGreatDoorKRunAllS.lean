/- The contract of the model's RunAll. Condition: at most 2^20 edges, 2^21 numbers or bytes. -/
import Derived.Test.YtlhcobkncceodaaGreatDoorKRunIterS
namespace Go.Proofs.YtlhcobkncceodaaGreatDoor
open Go.RowKit
set_option linter.unusedVariables false

/-- RunIter over a run that stands valid. -/
theorem specIterR (w : World) (A : Option Addr) (c : Nat) (B : Option Addr) (d : Nat) (C : Option Addr) (k : Nat) (r : RD) (N : Nat) (AG : Option Addr) (l cG : Nat) (G : List GE) (lo : Nat) (hg : SlG w AG l G) (hl : l ≤ 1048576) (hrun : RunP N G r) (hsm : SmallR r) (hst : Rows3 w lo A r.vs.length c B r.ev.length d C r.nx.length k r.vs r.ev r.nx) :
    Calls Tryz.prog 41 #[.agg #[.int .i64 (N : Int), .slice AG l cG], .agg #[.int .i64 r.p, .int .i64 r.s, .int .i64 r.it, .bool r.dn, .slice A r.vs.length c, .slice B r.ev.length d, .int .i64 (N : Int), .slice C r.nx.length k]] w (MadeRB w (if r.dn || decide (r.it = 1000) then noRun else iterR (N : Int) G r) (!(r.dn || decide (r.it = 1000)))) := by
  have h1 := hrun.vl
  have h2 := hrun.el
  have h3 := (setB_dim hrun.nx).2.2
  have h4 := hrun.n150
  have h5 := hg.len
  simp only [Int.toNat_natCast] at h3
  unfold bytesN at h3
  have hb := iterB_over (runB_iff.2 hrun)
  have hnn := hrun.nn
  have := specRunIter (N : Int) AG l cG G r.p r.s r.it r.dn A r.vs.length c B r.ev.length d (N : Int) C r.nx.length k r.vs r.ev r.nx w hg (SlI.of_own hst.v) (SlI.of_own hst.e) (Rd.of_own hst.x hsm) hl (by omega) (by omega) (by omega)
  rw [show (⟨r.p, r.s, r.it, r.dn, r.vs, r.ev, (N : Int), r.nx⟩ : RD) = r by rw [← hnn]] at this
  rw [hb] at this
  unfold iterO at this
  rw [hb] at this
  cases hz : (r.dn || decide (r.it = 1000)) with
  | true => rw [hz] at this; exact this
  | false => rw [hz] at this; exact this
set_option maxRecDepth 20000 in
set_option maxHeartbeats 8000000 in
theorem specRunAll (N : Int) (AG : Option Addr) (l cG : Nat) (G : List GE) (p s it : Int) (dn : Bool) (A : Option Addr) (n c : Nat) (B : Option Addr) (m d : Nat) (nn : Int) (C : Option Addr) (j k : Nat) (vs ev : List Int) (nx : List Nat) (most : Int) (w : World) (hg : SlG w AG l G) (hv : SlI w A n vs) (he : SlI w B m ev) (hx : Rd w C j nx) (hl : l ≤ 1048576) (hn : n ≤ 2097152) (hm : m ≤ 2097152) (hj : j ≤ 2097152) :
    Calls Tryz.prog 11 #[.agg #[.int .i64 N, .slice AG l cG], .agg #[.int .i64 p, .int .i64 s, .int .i64 it, .bool dn, .slice A n c, .slice B m d, .int .i64 nn, .slice C j k], .int .i64 most] w (MadeRO w (allO N G ⟨p, s, it, dn, vs, ev, nn, nx⟩ most.toNat)) := by
  have C0 := Lib.hid (fun W (h : Below w.heap.size w W) => specRunOk N AG l cG G p s it dn A n c B m d nn C j k vs ev nx W (hg.below h) (hv.below h) (he.below h) (hx.below h) hl hn hm hj)
  have CC := Lib.hid (fun W (h : Below w.heap.size w W) => specCopyRun p s it dn A n c B m d nn C j k vs ev nx W (hv.below h) (he.below h) (hx.below h) hn hm hj)
  unfold MadeR at CC
  have HGG := Lib.hid hg
  have HSX := Lib.hid hx.small
  have HXL := Lib.hid hx.len
  clear hg hv he hx
  unfold allO
  cases hb : runB N G ⟨p, s, it, dn, vs, ev, nn, nx⟩ with
  | false =>
    rw [hb] at C0
    simp only [Bool.false_eq_true, if_false]
    clear hb CC
    have H_1 := Lib.hid (g_chain (g_chain (g_chain (Below.refl w.heap.size w) (below_a1 w (.cells #[.int .i64 N, .slice AG l cG] 25))) (below_a1 (w.alloc (.cells #[.int .i64 N, .slice AG l cG] 25)) (.cells #[.int .i64 p, .int .i64 s, .int .i64 it, .bool dn, .slice A n c, .slice B m d, .int .i64 nn, .slice C j k] 32))) (below_a1 ((w.alloc (.cells #[.int .i64 N, .slice AG l cG] 25)).alloc (.cells #[.int .i64 p, .int .i64 s, .int .i64 it, .bool dn, .slice A n c, .slice B m d, .int .i64 nn, .slice C j k] 32)) (.cells #[.int .i64 0, .int .i64 0, .int .i64 0, .bool false, .slice none 0 0, .slice none 0 0, .int .i64 0, .slice none 0 0] 32)))
    have BG_2 : Hid (Blk (((w.alloc (.cells #[.int .i64 N, .slice AG l cG] 25)).alloc (.cells #[.int .i64 p, .int .i64 s, .int .i64 it, .bool dn, .slice A n c, .slice B m d, .int .i64 nn, .slice C j k] 32)).alloc (.cells #[.int .i64 0, .int .i64 0, .int .i64 0, .bool false, .slice none 0 0, .slice none 0 0, .int .i64 0, .slice none 0 0] 32)) (w.heap.size) #[.int .i64 N, .slice AG l cG] 25) := Lib.hid (by have h := ((Blk.new w #[.int .i64 N, .slice AG l cG] 25).alloc (.cells #[.int .i64 p, .int .i64 s, .int .i64 it, .bool dn, .slice A n c, .slice B m d, .int .i64 nn, .slice C j k] 32)).alloc (.cells #[.int .i64 0, .int .i64 0, .int .i64 0, .bool false, .slice none 0 0, .slice none 0 0, .int .i64 0, .slice none 0 0] 32); simpa [Nat.add_assoc] using h)
    have BR_3 : Hid (Blk (((w.alloc (.cells #[.int .i64 N, .slice AG l cG] 25)).alloc (.cells #[.int .i64 p, .int .i64 s, .int .i64 it, .bool dn, .slice A n c, .slice B m d, .int .i64 nn, .slice C j k] 32)).alloc (.cells #[.int .i64 0, .int .i64 0, .int .i64 0, .bool false, .slice none 0 0, .slice none 0 0, .int .i64 0, .slice none 0 0] 32)) (w.heap.size + 1) #[.int .i64 p, .int .i64 s, .int .i64 it, .bool dn, .slice A n c, .slice B m d, .int .i64 nn, .slice C j k] 32) := Lib.hid (by have h := (Blk.new (w.alloc (.cells #[.int .i64 N, .slice AG l cG] 25)) #[.int .i64 p, .int .i64 s, .int .i64 it, .bool dn, .slice A n c, .slice B m d, .int .i64 nn, .slice C j k] 32).alloc (.cells #[.int .i64 0, .int .i64 0, .int .i64 0, .bool false, .slice none 0 0, .slice none 0 0, .int .i64 0, .slice none 0 0] 32); simpa [Nat.add_assoc] using h)
    have BZ_4 : Hid (Blk (((w.alloc (.cells #[.int .i64 N, .slice AG l cG] 25)).alloc (.cells #[.int .i64 p, .int .i64 s, .int .i64 it, .bool dn, .slice A n c, .slice B m d, .int .i64 nn, .slice C j k] 32)).alloc (.cells #[.int .i64 0, .int .i64 0, .int .i64 0, .bool false, .slice none 0 0, .slice none 0 0, .int .i64 0, .slice none 0 0] 32)) (w.heap.size + 2) #[.int .i64 0, .int .i64 0, .int .i64 0, .bool false, .slice none 0 0, .slice none 0 0, .int .i64 0, .slice none 0 0] 32) := Lib.hid (by have h := Blk.new ((w.alloc (.cells #[.int .i64 N, .slice AG l cG] 25)).alloc (.cells #[.int .i64 p, .int .i64 s, .int .i64 it, .bool dn, .slice A n c, .slice B m d, .int .i64 nn, .slice C j k] 32)) #[.int .i64 0, .int .i64 0, .int .i64 0, .bool false, .slice none 0 0, .slice none 0 0, .int .i64 0, .slice none 0 0] 32; simpa [Nat.add_assoc] using h)
    have sz0 : Hid (w.heap.size + 3 ≤ (((w.alloc (.cells #[.int .i64 N, .slice AG l cG] 25)).alloc (.cells #[.int .i64 p, .int .i64 s, .int .i64 it, .bool dn, .slice A n c, .slice B m d, .int .i64 nn, .slice C j k] 32)).alloc (.cells #[.int .i64 0, .int .i64 0, .int .i64 0, .bool false, .slice none 0 0, .slice none 0 0, .int .i64 0, .slice none 0 0] 32)).heap.size) := Lib.hid (by simp)
    go_enter Tryz.func11, Tryz.ntmps11
    have x_5 := BG_2.out.cell (i := 0) rfl
    have x_6 := BG_2.out.cell (i := 1) rfl
    have x_7 := BR_3.out.cell (i := 0) rfl
    have x_8 := BR_3.out.cell (i := 1) rfl
    have x_9 := BR_3.out.cell (i := 2) rfl
    have x_10 := BR_3.out.cell (i := 3) rfl
    have x_11 := BR_3.out.cell (i := 4) rfl
    have x_12 := BR_3.out.cell (i := 5) rfl
    have x_13 := BR_3.out.cell (i := 6) rfl
    have x_14 := BR_3.out.cell (i := 7) rfl
    go_wp2_with fail
    refine (C0.out _ H_1.out).mono ?_
    rintro e w1 ⟨rfl, hb⟩
    clear x_5
    clear x_6
    clear x_7
    clear x_8
    clear x_9
    clear x_10
    clear x_11
    clear x_12
    clear x_13
    clear x_14
    have H_15 := Lib.hid (g_chain H_1.out hb)
    clear H_1
    have BG_16 := Lib.hid (BG_2.out.below hb)
    clear BG_2
    have BR_17 := Lib.hid (BR_3.out.below hb)
    clear BR_3
    have BZ_18 := Lib.hid (BZ_4.out.below hb)
    clear BZ_4
    have sz_19 := Lib.hid (Below.size hb)
    clear hb
    have x_20 := BZ_18.out.cell (i := 0) rfl
    have x_21 := BZ_18.out.cell (i := 1) rfl
    have x_22 := BZ_18.out.cell (i := 2) rfl
    have x_23 := BZ_18.out.cell (i := 3) rfl
    have x_24 := BZ_18.out.cell (i := 4) rfl
    have x_25 := BZ_18.out.cell (i := 5) rfl
    have x_26 := BZ_18.out.cell (i := 6) rfl
    have x_27 := BZ_18.out.cell (i := 7) rfl
    have fz_28 := fun i => BZ_18.out.frozen i
    have lt_29 := BZ_18.out.lt
    go_wp2
    have hg_30 := (((((((grown_cell w1 (w.heap.size + 2) 0 (.int .i64 0)).trans (grown_cell (w1.setCell ⟨w.heap.size + 2, 0, none⟩ (.int .i64 0)) (w.heap.size + 2) 1 (.int .i64 0))).trans (grown_cell ((w1.setCell ⟨w.heap.size + 2, 0, none⟩ (.int .i64 0)).setCell ⟨w.heap.size + 2, 1, none⟩ (.int .i64 0)) (w.heap.size + 2) 2 (.int .i64 0))).trans (grown_cell (((w1.setCell ⟨w.heap.size + 2, 0, none⟩ (.int .i64 0)).setCell ⟨w.heap.size + 2, 1, none⟩ (.int .i64 0)).setCell ⟨w.heap.size + 2, 2, none⟩ (.int .i64 0)) (w.heap.size + 2) 3 (.bool false))).trans (grown_cell ((((w1.setCell ⟨w.heap.size + 2, 0, none⟩ (.int .i64 0)).setCell ⟨w.heap.size + 2, 1, none⟩ (.int .i64 0)).setCell ⟨w.heap.size + 2, 2, none⟩ (.int .i64 0)).setCell ⟨w.heap.size + 2, 3, none⟩ (.bool false)) (w.heap.size + 2) 4 (.slice none 0 0))).trans (grown_cell (((((w1.setCell ⟨w.heap.size + 2, 0, none⟩ (.int .i64 0)).setCell ⟨w.heap.size + 2, 1, none⟩ (.int .i64 0)).setCell ⟨w.heap.size + 2, 2, none⟩ (.int .i64 0)).setCell ⟨w.heap.size + 2, 3, none⟩ (.bool false)).setCell ⟨w.heap.size + 2, 4, none⟩ (.slice none 0 0)) (w.heap.size + 2) 5 (.slice none 0 0))).trans (grown_cell ((((((w1.setCell ⟨w.heap.size + 2, 0, none⟩ (.int .i64 0)).setCell ⟨w.heap.size + 2, 1, none⟩ (.int .i64 0)).setCell ⟨w.heap.size + 2, 2, none⟩ (.int .i64 0)).setCell ⟨w.heap.size + 2, 3, none⟩ (.bool false)).setCell ⟨w.heap.size + 2, 4, none⟩ (.slice none 0 0)).setCell ⟨w.heap.size + 2, 5, none⟩ (.slice none 0 0)) (w.heap.size + 2) 6 (.int .i64 0))).trans (grown_cell (((((((w1.setCell ⟨w.heap.size + 2, 0, none⟩ (.int .i64 0)).setCell ⟨w.heap.size + 2, 1, none⟩ (.int .i64 0)).setCell ⟨w.heap.size + 2, 2, none⟩ (.int .i64 0)).setCell ⟨w.heap.size + 2, 3, none⟩ (.bool false)).setCell ⟨w.heap.size + 2, 4, none⟩ (.slice none 0 0)).setCell ⟨w.heap.size + 2, 5, none⟩ (.slice none 0 0)).setCell ⟨w.heap.size + 2, 6, none⟩ (.int .i64 0)) (w.heap.size + 2) 7 (.slice none 0 0))
    have H_31 := Lib.hid (H_15.out.grown hg_30 H_15.out.size (fun j hj => by injection hj with hj; have := sz0.out; have := sz_19.out; omega))
    clear H_15
    have BG_32 := Lib.hid (BG_16.out.grown hg_30 (by intro e; injection e with e; have := sz0.out; have := sz_19.out; omega))
    clear BG_16
    have BR_33 := Lib.hid (BR_17.out.grown hg_30 (by intro e; injection e with e; have := sz0.out; have := sz_19.out; omega))
    clear BR_17
    have BZ_34 : Hid (Blk ((((((((w1.setCell ⟨w.heap.size + 2, 0, none⟩ (.int .i64 0)).setCell ⟨w.heap.size + 2, 1, none⟩ (.int .i64 0)).setCell ⟨w.heap.size + 2, 2, none⟩ (.int .i64 0)).setCell ⟨w.heap.size + 2, 3, none⟩ (.bool false)).setCell ⟨w.heap.size + 2, 4, none⟩ (.slice none 0 0)).setCell ⟨w.heap.size + 2, 5, none⟩ (.slice none 0 0)).setCell ⟨w.heap.size + 2, 6, none⟩ (.int .i64 0)).setCell ⟨w.heap.size + 2, 7, none⟩ (.slice none 0 0)) (w.heap.size + 2) #[.int .i64 0, .int .i64 0, .int .i64 0, .bool false, .slice none 0 0, .slice none 0 0, .int .i64 0, .slice none 0 0] 32) := Lib.hid (Blk.set (Blk.set (Blk.set (Blk.set (Blk.set (Blk.set (Blk.set (Blk.set (BZ_18.out) 0 (.int .i64 0)) 1 (.int .i64 0)) 2 (.int .i64 0)) 3 (.bool false)) 4 (.slice none 0 0)) 5 (.slice none 0 0)) 6 (.int .i64 0)) 7 (.slice none 0 0))
    clear BZ_18
    have sz_35 := Lib.hid (World.grownBy.size hg_30)
    clear hg_30
    refine bodyPost_ret (v := .agg #[.int .i64 0, .int .i64 0, .int .i64 0, .bool false, .slice none 0 0, .slice none 0 0, .int .i64 0, .slice none 0 0]) (by simp [results, Tryz.results11, go_sem, x_20, x_21, x_22, x_23, x_24, x_25, x_26, x_27]) rfl ?_
    exact MadeRO.no H_31.out
  | true =>
    rw [hb] at C0
    simp only [if_true]
    have hrun : ∃ q : Nat, N = (q : Int) := ⟨N.toNat, by
      unfold runB at hb
      simp only [Bool.and_eq_true] at hb
      have := graphB_iff hb.1
      omega⟩
    obtain ⟨N, rfl⟩ := hrun
    have HR := Lib.hid (runB_iff.1 hb)
    have hnn := HR.out.nn
    simp only at hnn
    subst hnn
    clear hb
    have HAR := Lib.hid (fun q => all_run q _ HR.out HSX.out)
    have HSTP := Lib.hid (fun q => run_step HR.out HSX.out q)
    have HOV := Lib.hid (fun (q k : Nat) (h : q ≤ k) => run_over HR.out HSX.out h)
    have HCN := Lib.hid (fun q => run_count HR.out HSX.out q)
    have hi0 := HR.out.i
    simp only at hi0
    have hvl := HR.out.vl
    have hel := HR.out.el
    simp only at hvl hel
    obtain ⟨f, hf⟩ : ∃ f : Nat → RD, f = allR (N : Int) G ⟨p, s, it, dn, vs, ev, (N : Int), nx⟩ := ⟨_, rfl⟩
    have HF0 : Hid (f 0 = ⟨p, s, it, dn, vs, ev, (N : Int), nx⟩) := Lib.hid (by rw [hf]; rfl)
    have HFM : Hid (allR (N : Int) G ⟨p, s, it, dn, vs, ev, (N : Int), nx⟩ most.toNat = f most.toNat) := Lib.hid (by rw [hf])
    rw [← hf] at HAR HSTP HOV HCN
    clear hf hvl hel
    have H_1 := Lib.hid (g_chain (g_chain (g_chain (Below.refl w.heap.size w) (below_a1 w (.cells #[.int .i64 (N : Int), .slice AG l cG] 25))) (below_a1 (w.alloc (.cells #[.int .i64 (N : Int), .slice AG l cG] 25)) (.cells #[.int .i64 p, .int .i64 s, .int .i64 it, .bool dn, .slice A n c, .slice B m d, .int .i64 (N : Int), .slice C j k] 32))) (below_a1 ((w.alloc (.cells #[.int .i64 (N : Int), .slice AG l cG] 25)).alloc (.cells #[.int .i64 p, .int .i64 s, .int .i64 it, .bool dn, .slice A n c, .slice B m d, .int .i64 (N : Int), .slice C j k] 32)) (.cells #[.int .i64 0, .int .i64 0, .int .i64 0, .bool false, .slice none 0 0, .slice none 0 0, .int .i64 0, .slice none 0 0] 32)))
    have BG_2 : Hid (Blk (((w.alloc (.cells #[.int .i64 (N : Int), .slice AG l cG] 25)).alloc (.cells #[.int .i64 p, .int .i64 s, .int .i64 it, .bool dn, .slice A n c, .slice B m d, .int .i64 (N : Int), .slice C j k] 32)).alloc (.cells #[.int .i64 0, .int .i64 0, .int .i64 0, .bool false, .slice none 0 0, .slice none 0 0, .int .i64 0, .slice none 0 0] 32)) (w.heap.size) #[.int .i64 (N : Int), .slice AG l cG] 25) := Lib.hid (by have h := ((Blk.new w #[.int .i64 (N : Int), .slice AG l cG] 25).alloc (.cells #[.int .i64 p, .int .i64 s, .int .i64 it, .bool dn, .slice A n c, .slice B m d, .int .i64 (N : Int), .slice C j k] 32)).alloc (.cells #[.int .i64 0, .int .i64 0, .int .i64 0, .bool false, .slice none 0 0, .slice none 0 0, .int .i64 0, .slice none 0 0] 32); simpa [Nat.add_assoc] using h)
    have BR_3 : Hid (Blk (((w.alloc (.cells #[.int .i64 (N : Int), .slice AG l cG] 25)).alloc (.cells #[.int .i64 p, .int .i64 s, .int .i64 it, .bool dn, .slice A n c, .slice B m d, .int .i64 (N : Int), .slice C j k] 32)).alloc (.cells #[.int .i64 0, .int .i64 0, .int .i64 0, .bool false, .slice none 0 0, .slice none 0 0, .int .i64 0, .slice none 0 0] 32)) (w.heap.size + 1) #[.int .i64 p, .int .i64 s, .int .i64 it, .bool dn, .slice A n c, .slice B m d, .int .i64 (N : Int), .slice C j k] 32) := Lib.hid (by have h := (Blk.new (w.alloc (.cells #[.int .i64 (N : Int), .slice AG l cG] 25)) #[.int .i64 p, .int .i64 s, .int .i64 it, .bool dn, .slice A n c, .slice B m d, .int .i64 (N : Int), .slice C j k] 32).alloc (.cells #[.int .i64 0, .int .i64 0, .int .i64 0, .bool false, .slice none 0 0, .slice none 0 0, .int .i64 0, .slice none 0 0] 32); simpa [Nat.add_assoc] using h)
    have BZ_4 : Hid (Blk (((w.alloc (.cells #[.int .i64 (N : Int), .slice AG l cG] 25)).alloc (.cells #[.int .i64 p, .int .i64 s, .int .i64 it, .bool dn, .slice A n c, .slice B m d, .int .i64 (N : Int), .slice C j k] 32)).alloc (.cells #[.int .i64 0, .int .i64 0, .int .i64 0, .bool false, .slice none 0 0, .slice none 0 0, .int .i64 0, .slice none 0 0] 32)) (w.heap.size + 2) #[.int .i64 0, .int .i64 0, .int .i64 0, .bool false, .slice none 0 0, .slice none 0 0, .int .i64 0, .slice none 0 0] 32) := Lib.hid (by have h := Blk.new ((w.alloc (.cells #[.int .i64 (N : Int), .slice AG l cG] 25)).alloc (.cells #[.int .i64 p, .int .i64 s, .int .i64 it, .bool dn, .slice A n c, .slice B m d, .int .i64 (N : Int), .slice C j k] 32)) #[.int .i64 0, .int .i64 0, .int .i64 0, .bool false, .slice none 0 0, .slice none 0 0, .int .i64 0, .slice none 0 0] 32; simpa [Nat.add_assoc] using h)
    have sz0 : Hid (w.heap.size + 3 ≤ (((w.alloc (.cells #[.int .i64 (N : Int), .slice AG l cG] 25)).alloc (.cells #[.int .i64 p, .int .i64 s, .int .i64 it, .bool dn, .slice A n c, .slice B m d, .int .i64 (N : Int), .slice C j k] 32)).alloc (.cells #[.int .i64 0, .int .i64 0, .int .i64 0, .bool false, .slice none 0 0, .slice none 0 0, .int .i64 0, .slice none 0 0] 32)).heap.size) := Lib.hid (by simp)
    go_enter Tryz.func11, Tryz.ntmps11
    have x_5 := BG_2.out.cell (i := 0) rfl
    have x_6 := BG_2.out.cell (i := 1) rfl
    have x_7 := BR_3.out.cell (i := 0) rfl
    have x_8 := BR_3.out.cell (i := 1) rfl
    have x_9 := BR_3.out.cell (i := 2) rfl
    have x_10 := BR_3.out.cell (i := 3) rfl
    have x_11 := BR_3.out.cell (i := 4) rfl
    have x_12 := BR_3.out.cell (i := 5) rfl
    have x_13 := BR_3.out.cell (i := 6) rfl
    have x_14 := BR_3.out.cell (i := 7) rfl
    go_wp2_with fail
    refine (C0.out _ H_1.out).mono ?_
    rintro e w1 ⟨rfl, hb⟩
    clear x_5
    clear x_6
    clear x_7
    clear x_8
    clear x_9
    clear x_10
    clear x_11
    clear x_12
    clear x_13
    clear x_14
    have H_15 := Lib.hid (g_chain H_1.out hb)
    clear H_1
    have BG_16 := Lib.hid (BG_2.out.below hb)
    clear BG_2
    have BR_17 := Lib.hid (BR_3.out.below hb)
    clear BR_3
    have BZ_18 := Lib.hid (BZ_4.out.below hb)
    clear BZ_4
    have sz_19 := Lib.hid (Below.size hb)
    clear hb
    have x_20 := BR_17.out.cell (i := 0) rfl
    have x_21 := BR_17.out.cell (i := 1) rfl
    have x_22 := BR_17.out.cell (i := 2) rfl
    have x_23 := BR_17.out.cell (i := 3) rfl
    have x_24 := BR_17.out.cell (i := 4) rfl
    have x_25 := BR_17.out.cell (i := 5) rfl
    have x_26 := BR_17.out.cell (i := 6) rfl
    have x_27 := BR_17.out.cell (i := 7) rfl
    have fz_28 := fun i => BR_17.out.frozen i
    have lt_29 := BR_17.out.lt
    go_wp2_with fail
    refine (CC.out _ H_15.out).mono ?_
    rintro e w2 ⟨A1, c1, B1, d1, C1, k1, rfl, ho, hb⟩
    clear x_20
    clear x_21
    clear x_22
    clear x_23
    clear x_24
    clear x_25
    clear x_26
    clear x_27
    clear fz_28
    clear lt_29
    have H_30 := Lib.hid (g_chain H_15.out hb)
    clear H_15
    have BG_31 := Lib.hid (BG_16.out.below hb)
    clear BG_16
    have BR_32 := Lib.hid (BR_17.out.below hb)
    clear BR_17
    have BZ_33 := Lib.hid (BZ_18.out.below hb)
    clear BZ_18
    have sz_34 := Lib.hid (Below.size hb)
    have HZ : Hid (w.heap.size + 3 ≤ w2.heap.size) := Lib.hid (by have := hb.size; have := sz0.out; have := sz0.out; have := sz_19.out; have := sz_34.out; omega)
    have RS := Lib.hid (RSt.made (p := p) (s := s) (it := it) (dn := dn) (nn := (N : Int)) (ho.mono (by have := sz0.out; have := sz0.out; have := sz_19.out; have := sz_34.out; omega)) (by have := HZ.out; omega) : RSt _ w.heap.size _ p s it dn A1 n c1 B1 m d1 (N : Int) C1 j k1 vs ev nx)
    clear ho hb
    have hb_35 := below_a1 w2 (.cells #[.int .i64 p, .int .i64 s, .int .i64 it, .bool dn, .slice A1 n c1, .slice B1 m d1, .int .i64 (N : Int), .slice C1 j k1] 32)
    have sz_36 : Hid (w2.heap.size = w2.heap.size) := Lib.hid (by simp)
    have sz_37 := Lib.hid BG_31.out.lt
    have sz_38 := Lib.hid BR_32.out.lt
    have sz_39 := Lib.hid BZ_33.out.lt
    have H_40 := Lib.hid (g_chain H_30.out hb_35)
    clear H_30
    have BG_41 := Lib.hid (BG_31.out.below hb_35)
    clear BG_31
    have BR_42 := Lib.hid (BR_32.out.below hb_35)
    clear BR_32
    have BZ_43 := Lib.hid (BZ_33.out.below hb_35)
    clear BZ_33
    have sz_44 := Lib.hid (Below.size hb_35)
    clear hb_35
    have BO_45 : Hid (Blk (w2.alloc (.cells #[.int .i64 p, .int .i64 s, .int .i64 it, .bool dn, .slice A1 n c1, .slice B1 m d1, .int .i64 (N : Int), .slice C1 j k1] 32)) (w2.heap.size) #[.int .i64 p, .int .i64 s, .int .i64 it, .bool dn, .slice A1 n c1, .slice B1 m d1, .int .i64 (N : Int), .slice C1 j k1] 32) := Lib.hid (by have h := Blk.new w2 #[.int .i64 p, .int .i64 s, .int .i64 it, .bool dn, .slice A1 n c1, .slice B1 m d1, .int .i64 (N : Int), .slice C1 j k1] 32; simpa using h)
    have sz_46 : Hid (w2.heap.size + 1 ≤ (w2.alloc (.cells #[.int .i64 p, .int .i64 s, .int .i64 it, .bool dn, .slice A1 n c1, .slice B1 m d1, .int .i64 (N : Int), .slice C1 j k1] 32)).heap.size) := Lib.hid (by simp)
    have HH := Lib.hid H_40.out
    have GG := Lib.hid BG_41.out
    have ZZ := Lib.hid BZ_43.out
    clear H_40 BG_41 BR_42 BZ_43 BO_45
    clear sz0 sz_19 sz_34 sz_36 sz_37 sz_38 sz_39 sz_44 sz_46 CC C0
    go_wp2
    go_loopw [8] (fun i wr => ∃ q : Nat, q ≤ most.toNat ∧ i = .int .i64 (q : Int) ∧ Hid (∀ z, z < q → ((f z).dn || decide ((f z).it = 1000)) = false) ∧ Hid (∃ (A2 : Option Addr) (n2 c2 : Nat) (B2 : Option Addr) (m2 d2 : Nat) (C2 : Option Addr) (j2 k2 : Nat), RSt wr w.heap.size w2.heap.size (f q).p (f q).s (f q).it (f q).dn A2 n2 c2 B2 m2 d2 (N : Int) C2 j2 k2 (f q).vs (f q).ev (f q).nx) ∧ Hid (Below w.heap.size w wr) ∧ Hid (Blk wr w.heap.size #[.int .i64 (N : Int), .slice AG l cG] 25) ∧ Hid (Blk wr (w.heap.size + 2) #[.int .i64 0, .int .i64 0, .int .i64 0, .bool false, .slice none 0 0, .slice none 0 0, .int .i64 0, .slice none 0 0] 32)) (fun i _ => (most - intOf i).toNat)
    case atStart => exact ⟨0, Nat.zero_le _, rfl, Lib.hid (fun z hz => absurd hz (by omega)), by rw [HF0.out]; exact Lib.hid ⟨_, _, _, _, _, _, _, _, _, RS.out⟩, HH, GG, ZZ⟩
    case round =>
      clear RS HH GG ZZ HF0
      obtain ⟨q, hq, rfl, hno, hst, hbl, hbg, hbz⟩ := hrel
      have hq1 := (HAR.out q).1.i
      rw [HCN.out q hno.out] at hq1
      obtain ⟨A2, n2, c2, B2, m2, d2, C2, j2, k2, hs⟩ := hst.out
      have hnl := hs.nl
      obtain ⟨rfl, rfl, rfl⟩ := hnl
      have S1 := Lib.hid hs
      clear hst hs
      have hhz := HZ.out
      have CI := Lib.hid (fun W (h : RSt W w.heap.size w2.heap.size (f q).p (f q).s (f q).it (f q).dn A2 (f q).vs.length c2 B2 (f q).ev.length d2 (N : Int) C2 (f q).nx.length k2 (f q).vs (f q).ev (f q).nx) (h2 : Below w.heap.size w W) => specIterR W A2 c2 B2 d2 C2 k2 (f q) N AG l cG G w.heap.size (HGG.out.below h2) hl (HAR.out q).1 (HAR.out q).2 h.rows)
      unfold MadeRB at CI
      by_cases hlt : (q : Int) < most
      · skip
        cases hov : ((f q).dn || decide ((f q).it = 1000)) with
        | true =>
          rw [hov] at CI
          simp only [if_true, Bool.not_true] at CI
          generalize noRun = nr at CI
          have HEQ : Hid (f most.toNat = f q) := Lib.hid (HOV.out q _ (by omega) hov)
          clear hov
          obtain ⟨xl, x0, x1, x2, x3, x4, x5, x6, x7⟩ := S1.out.bx.eight
          have xf := fun i => S1.out.bx.frozen i
          have g0 := hbg.out.cell (i := 0) rfl
          have g1 := hbg.out.cell (i := 1) rfl
          have gl := hbg.out.lt
          go_wp2_with fail
          refine (CI.out _ S1.out hbl.out).mono ?_
          rintro e w3 ⟨A3, c3, B3, d3, C3, k3, rfl, hr3, hb⟩
          have SX := Lib.hid (S1.out.below hb)
          have ZX := Lib.hid (hbz.out.below hb)
          have HX := Lib.hid (g_chain hbl.out hb)
          clear hr3 hb S1 hbz hbl hbg CI x0 x1 x2 x3 x4 x5 x6 x7 xl xf g0 g1 gl
          obtain ⟨xl, x0, x1, x2, x3, x4, x5, x6, x7⟩ := SX.out.bx.eight
          have xf := fun i => SX.out.bx.frozen i
          obtain ⟨zl, z0, z1, z2, z3, z4, z5, z6, z7⟩ := ZX.out.eight
          have zf := fun i => ZX.out.frozen i
          have hzl := ZX.out.lt
          have hsl := SX.out.bx.lt
          have hn1 : w.heap.size + 2 ≠ w3.heap.size := by omega
          have hn2 : w2.heap.size ≠ w3.heap.size := by omega
          go_wp2
          have hnn := (HAR.out q).1.nn
          have hg := layR_grown w3 (w.heap.size + 2) (.int .i64 (f q).p) (.int .i64 (f q).s) (.int .i64 (f q).it) (.bool (f q).dn) (.slice A2 (f q).vs.length c2) (.slice B2 (f q).ev.length d2) (.int .i64 (N : Int)) (.slice C2 (f q).nx.length k2)
          have V4 := own_kept SX.out.v hg (own_kind SX.out.v ZX.out (by decide))
          have E4 := own_kept SX.out.e hg (own_kind SX.out.e ZX.out (by decide))
          have X4 := own_kept SX.out.x hg (own_kind SX.out.x ZX.out (by decide))
          have H4 := HX.out.grown hg HX.out.size (fun i hi => by injection hi with hi; omega)
          have ZL := layR_blk (x0 := .int .i64 (f q).p) (x1 := .int .i64 (f q).s) (x2 := .int .i64 (f q).it) (x3 := .bool (f q).dn) (x4 := .slice A2 (f q).vs.length c2) (x5 := .slice B2 (f q).ev.length d2) (x6 := .int .i64 (N : Int)) (x7 := .slice C2 (f q).nx.length k2) ZX.out
          obtain ⟨-, y0, y1, y2, y3, y4, y5, y6, y7⟩ := (ZL.alloc (.cells #[.int .i64 nr.p, .int .i64 nr.s, .int .i64 nr.it, .bool nr.dn, .slice A3 nr.vs.length c3, .slice B3 nr.ev.length d3, .int .i64 nr.nn, .slice C3 nr.nx.length k3] 32)).eight
          unfold layR at y0 y1 y2 y3 y4 y5 y6 y7
          refine bodyPost_ret (v := .agg #[.int .i64 (f q).p, .int .i64 (f q).s, .int .i64 (f q).it, .bool (f q).dn, .slice A2 (f q).vs.length c2, .slice B2 (f q).ev.length d2, .int .i64 (N : Int), .slice C2 (f q).nx.length k2]) (by simp [results, Tryz.results11, go_sem, y0, y1, y2, y3, y4, y5, y6, y7]) rfl ?_
          rw [HFM.out, HEQ.out]
          have hb9 := below_a1 (layR w3 (w.heap.size + 2) (.int .i64 (f q).p) (.int .i64 (f q).s) (.int .i64 (f q).it) (.bool (f q).dn) (.slice A2 (f q).vs.length c2) (.slice B2 (f q).ev.length d2) (.int .i64 (N : Int)) (.slice C2 (f q).nx.length k2)) (.cells #[.int .i64 nr.p, .int .i64 nr.s, .int .i64 nr.it, .bool nr.dn, .slice A3 nr.vs.length c3, .slice B3 nr.ev.length d3, .int .i64 nr.nn, .slice C3 nr.nx.length k3] 32)
          exact ⟨A2, c2, B2, d2, C2, k2, by rw [hnn], ⟨own_below V4 hb9, own_below E4 hb9, own_below X4 hb9, SX.out.ap⟩, g_chain H4 hb9⟩
        | false =>
          rw [hov] at CI
          simp only [Bool.false_eq_true, if_false, Bool.not_false] at CI
          have HNX : Hid (f (q + 1) = iterR (N : Int) G (f q)) := Lib.hid (by rw [HSTP.out q, hov]; simp)
          have HNN : Hid ((iterR (N : Int) G (f q)).nn = (N : Int)) := Lib.hid rfl
          obtain ⟨nr, hnr⟩ : ∃ nr, Hid (nr = iterR (N : Int) G (f q)) := ⟨_, Lib.hid rfl⟩
          rw [← hnr.out] at CI HNX HNN
          have HNO : Hid (∀ z, z < q + 1 → ((f z).dn || decide ((f z).it = 1000)) = false) := Lib.hid (fun z hz => by
            by_cases h : z = q
            · rw [h]; exact hov
            · exact hno.out z (by omega))
          clear hov hnr hno
          obtain ⟨xl, x0, x1, x2, x3, x4, x5, x6, x7⟩ := S1.out.bx.eight
          have xf := fun i => S1.out.bx.frozen i
          have g0 := hbg.out.cell (i := 0) rfl
          have g1 := hbg.out.cell (i := 1) rfl
          have gl := hbg.out.lt
          go_wp2_with fail
          refine (CI.out _ S1.out hbl.out).mono ?_
          rintro e w3 ⟨A3, c3, B3, d3, C3, k3, rfl, hr3, hb⟩
          have SX := Lib.hid (S1.out.below hb)
          have ZX := Lib.hid (hbz.out.below hb)
          have GX := Lib.hid (hbg.out.below hb)
          have HX := Lib.hid (g_chain hbl.out hb)
          have R3 := Lib.hid (hr3.mono hbl.out.size)
          clear hr3 hb S1 hbz hbl hbg CI x0 x1 x2 x3 x4 x5 x6 x7 xl xf g0 g1 gl
          go_upto_region 10 with fail
          have hb9 := below_a1 w3 (.cells #[.int .i64 nr.p, .int .i64 nr.s, .int .i64 nr.it, .bool nr.dn, .slice A3 nr.vs.length c3, .slice B3 nr.ev.length d3, .int .i64 nr.nn, .slice C3 nr.nx.length k3] 32)
          have SA := Lib.hid (SX.out.below hb9)
          have ZA := Lib.hid (ZX.out.below hb9)
          have GA := Lib.hid (GX.out.below hb9)
          have HA := Lib.hid (g_chain HX.out hb9)
          have RA := Lib.hid (R3.out.below hb9)
          have NB := Lib.hid (Blk.new w3 #[.int .i64 nr.p, .int .i64 nr.s, .int .i64 nr.it, .bool nr.dn, .slice A3 nr.vs.length c3, .slice B3 nr.ev.length d3, .int .i64 nr.nn, .slice C3 nr.nx.length k3] 32)
          clear hb9 SX ZX GX HX R3
          generalize hWW : w3.alloc (.cells #[.int .i64 nr.p, .int .i64 nr.s, .int .i64 nr.it, .bool nr.dn, .slice A3 nr.vs.length c3, .slice B3 nr.ev.length d3, .int .i64 nr.nn, .slice C3 nr.nx.length k3] 32) = W9 at SA ZA GA HA RA NB ⊢
          clear hWW
          obtain ⟨xl, x0, x1, x2, x3, x4, x5, x6, x7⟩ := SA.out.bx.eight
          have xf := fun i => SA.out.bx.frozen i
          obtain ⟨yl, y0, y1, y2, y3, y4, y5, y6, y7⟩ := NB.out.eight
          have yf := fun i => NB.out.frozen i
          have S9 := Lib.hid (RSt.lay (p := nr.p) (s := nr.s) (it := nr.it) (dn := nr.dn) (nn := nr.nn) SA.out.bx (by omega) RA.out)
          have hg := layR_grown W9 w2.heap.size (.int .i64 nr.p) (.int .i64 nr.s) (.int .i64 nr.it) (.bool nr.dn) (.slice A3 nr.vs.length c3) (.slice B3 nr.ev.length d3) (.int .i64 nr.nn) (.slice C3 nr.nx.length k3)
          have Z9 := Lib.hid (ZA.out.grown hg (by intro e; injection e with e; omega))
          have G9 := Lib.hid (GA.out.grown hg (by intro e; injection e with e; omega))
          have H9 := Lib.hid (HA.out.grown hg HA.out.size (fun i hi => by injection hi with hi; omega))
          clear hg SA ZA GA HA RA NB
          go_wp2
          go_roundw
          case rel => exact ⟨q + 1, by omega, by go_num, HNO, by rw [HNX.out]; exact Lib.hid ⟨A3, _, c3, B3, _, d3, C3, _, k3, by rw [← HNN.out]; exact S9.out⟩, H9, G9, Z9⟩
          case measure => simp [intOf]; omega
      · have HEQ : Hid (f most.toNat = f q) := Lib.hid (by rw [show most.toNat = q by omega])
        clear CI
        have SX := Lib.hid S1.out
        have ZX := Lib.hid hbz.out
        have HX := Lib.hid hbl.out
        obtain ⟨xl, x0, x1, x2, x3, x4, x5, x6, x7⟩ := SX.out.bx.eight
        have xf := fun i => SX.out.bx.frozen i
        obtain ⟨zl, z0, z1, z2, z3, z4, z5, z6, z7⟩ := ZX.out.eight
        have zf := fun i => ZX.out.frozen i
        go_wp2
        have hnn := (HAR.out q).1.nn
        have hg := layR_grown wr (w.heap.size + 2) (.int .i64 (f q).p) (.int .i64 (f q).s) (.int .i64 (f q).it) (.bool (f q).dn) (.slice A2 (f q).vs.length c2) (.slice B2 (f q).ev.length d2) (.int .i64 (N : Int)) (.slice C2 (f q).nx.length k2)
        have V4 := own_kept SX.out.v hg (own_kind SX.out.v ZX.out (by decide))
        have E4 := own_kept SX.out.e hg (own_kind SX.out.e ZX.out (by decide))
        have X4 := own_kept SX.out.x hg (own_kind SX.out.x ZX.out (by decide))
        have H4 := HX.out.grown hg HX.out.size (fun i hi => by injection hi with hi; omega)
        have ZL := layR_blk (x0 := .int .i64 (f q).p) (x1 := .int .i64 (f q).s) (x2 := .int .i64 (f q).it) (x3 := .bool (f q).dn) (x4 := .slice A2 (f q).vs.length c2) (x5 := .slice B2 (f q).ev.length d2) (x6 := .int .i64 (N : Int)) (x7 := .slice C2 (f q).nx.length k2) ZX.out
        obtain ⟨-, y0, y1, y2, y3, y4, y5, y6, y7⟩ := ZL.eight
        unfold layR at y0 y1 y2 y3 y4 y5 y6 y7
        refine bodyPost_ret (v := .agg #[.int .i64 (f q).p, .int .i64 (f q).s, .int .i64 (f q).it, .bool (f q).dn, .slice A2 (f q).vs.length c2, .slice B2 (f q).ev.length d2, .int .i64 (N : Int), .slice C2 (f q).nx.length k2]) (by simp [results, Tryz.results11, go_sem, y0, y1, y2, y3, y4, y5, y6, y7]) rfl ?_
        rw [HFM.out, HEQ.out]
        exact ⟨A2, c2, B2, d2, C2, k2, by rw [hnn], ⟨V4, E4, X4, SX.out.ap⟩, H4⟩
end Go.Proofs.YtlhcobkncceodaaGreatDoor
