/- The contract of the model's RunNew. Condition: at most 2^20 edges. -/
import Derived.Test.YtlhcobkncceodaaGreatDoorCGI
import Derived.Test.YtlhcobkncceodaaGreatDoorCGE
import Derived.Test.YtlhcobkncceodaaGreatDoorCGD
import Derived.Test.YtlhcobkncceodaaGreatDoorCGC
import Derived.RegionTactic
import Derived.Deep.RegionWith
import Derived.BigRegion
import Derived.Deep.Cut
import Derived.Deep.RegionLaw
import Derived.Deep.RegionHeld3
namespace Go.Proofs.YtlhcobkncceodaaGreatDoor
open Go.RowKit
set_option linter.unusedVariables false

set_option maxRecDepth 20000 in
set_option maxHeartbeats 16000000 in
theorem specRunNew (N : Int) (AG : Option Addr) (l cG : Nat) (G : List GE) (p s : Int) (w : World) (hg : SlG w AG l G) (hl : l ≤ 1048576) :
    Calls Tryz.prog 80 #[.agg #[.int .i64 N, .slice AG l cG], .agg #[.int .i64 p, .int .i64 s]] w (MadeRB w (newO N G p s) (newB' N G p s)) := by
  obtain ⟨i0, hi, hz0, hz1, hz2⟩ := info_parts Tryz.infoInt
  have hgl := hg.len
  subst hgl
  have CG := Lib.hid (fun W (h : Below w.heap.size w W) => specGraphOk N AG G.length cG G W (hg.below h) hl)
  have CD := Lib.hid (fun W (h : Below w.heap.size w W) => specOut N AG G.length cG G W (hg.below h) hl)
  have CJ := Lib.hid (fun W => specJobOk N p s W)
  have CV := Lib.hid (fun v W => specFirstVal p s v W)
  have CE := Lib.hid (fun f t d W => specFirstEdge p s f t d W)
  unfold MadeI at CD
  unfold GTell at CG
  have HGG := Lib.hid hg
  unfold newO newB'
  clear hg
  cases hb0 : graphB N G with
  | false =>
    rw [hb0] at CG
    simp only [Bool.false_and, Bool.false_eq_true, if_false]
    clear hb0 CD CJ CV CE
    have H_1 := Lib.hid (g_chain (g_chain (g_chain (Below.refl w.heap.size w) (below_a1 w (.cells #[.int .i64 N, .slice AG G.length cG] 25))) (below_a1 (w.alloc (.cells #[.int .i64 N, .slice AG G.length cG] 25)) (.cells #[.int .i64 p, .int .i64 s] 27))) (below_a1 ((w.alloc (.cells #[.int .i64 N, .slice AG G.length cG] 25)).alloc (.cells #[.int .i64 p, .int .i64 s] 27)) (.cells #[.int .i64 0, .int .i64 0, .int .i64 0, .bool false, .slice none 0 0, .slice none 0 0, .int .i64 0, .slice none 0 0] 32)))
    have BG_2 : Hid (Blk (((w.alloc (.cells #[.int .i64 N, .slice AG G.length cG] 25)).alloc (.cells #[.int .i64 p, .int .i64 s] 27)).alloc (.cells #[.int .i64 0, .int .i64 0, .int .i64 0, .bool false, .slice none 0 0, .slice none 0 0, .int .i64 0, .slice none 0 0] 32)) (w.heap.size) #[.int .i64 N, .slice AG G.length cG] 25) := Lib.hid (by have h := ((Blk.new w #[.int .i64 N, .slice AG G.length cG] 25).alloc (.cells #[.int .i64 p, .int .i64 s] 27)).alloc (.cells #[.int .i64 0, .int .i64 0, .int .i64 0, .bool false, .slice none 0 0, .slice none 0 0, .int .i64 0, .slice none 0 0] 32); simpa [Nat.add_assoc] using h)
    have BJ_3 : Hid (Blk (((w.alloc (.cells #[.int .i64 N, .slice AG G.length cG] 25)).alloc (.cells #[.int .i64 p, .int .i64 s] 27)).alloc (.cells #[.int .i64 0, .int .i64 0, .int .i64 0, .bool false, .slice none 0 0, .slice none 0 0, .int .i64 0, .slice none 0 0] 32)) (w.heap.size + 1) #[.int .i64 p, .int .i64 s] 27) := Lib.hid (by have h := (Blk.new (w.alloc (.cells #[.int .i64 N, .slice AG G.length cG] 25)) #[.int .i64 p, .int .i64 s] 27).alloc (.cells #[.int .i64 0, .int .i64 0, .int .i64 0, .bool false, .slice none 0 0, .slice none 0 0, .int .i64 0, .slice none 0 0] 32); simpa [Nat.add_assoc] using h)
    have BZ_4 : Hid (Blk (((w.alloc (.cells #[.int .i64 N, .slice AG G.length cG] 25)).alloc (.cells #[.int .i64 p, .int .i64 s] 27)).alloc (.cells #[.int .i64 0, .int .i64 0, .int .i64 0, .bool false, .slice none 0 0, .slice none 0 0, .int .i64 0, .slice none 0 0] 32)) (w.heap.size + 2) #[.int .i64 0, .int .i64 0, .int .i64 0, .bool false, .slice none 0 0, .slice none 0 0, .int .i64 0, .slice none 0 0] 32) := Lib.hid (by have h := Blk.new ((w.alloc (.cells #[.int .i64 N, .slice AG G.length cG] 25)).alloc (.cells #[.int .i64 p, .int .i64 s] 27)) #[.int .i64 0, .int .i64 0, .int .i64 0, .bool false, .slice none 0 0, .slice none 0 0, .int .i64 0, .slice none 0 0] 32; simpa [Nat.add_assoc] using h)
    have sz0 : Hid (w.heap.size + 3 ≤ (((w.alloc (.cells #[.int .i64 N, .slice AG G.length cG] 25)).alloc (.cells #[.int .i64 p, .int .i64 s] 27)).alloc (.cells #[.int .i64 0, .int .i64 0, .int .i64 0, .bool false, .slice none 0 0, .slice none 0 0, .int .i64 0, .slice none 0 0] 32)).heap.size) := Lib.hid (by simp)
    go_enter Tryz.func80, Tryz.ntmps80
    have x_5 := BG_2.out.cell (i := 0) rfl
    have x_6 := BG_2.out.cell (i := 1) rfl
    have x_7 := BJ_3.out.cell (i := 0) rfl
    have x_8 := BJ_3.out.cell (i := 1) rfl
    go_wp2_with fail
    refine (CG.out _ H_1.out).mono ?_
    rintro e w1 ⟨rfl, hb⟩
    clear x_5
    clear x_6
    clear x_7
    clear x_8
    have H_9 := Lib.hid (g_chain H_1.out hb)
    clear H_1
    have BG_10 := Lib.hid (BG_2.out.below hb)
    clear BG_2
    have BJ_11 := Lib.hid (BJ_3.out.below hb)
    clear BJ_3
    have BZ_12 := Lib.hid (BZ_4.out.below hb)
    clear BZ_4
    have sz_13 := Lib.hid (Below.size hb)
    clear hb
    have x_14 := BZ_12.out.cell (i := 0) rfl
    have x_15 := BZ_12.out.cell (i := 1) rfl
    have x_16 := BZ_12.out.cell (i := 2) rfl
    have x_17 := BZ_12.out.cell (i := 3) rfl
    have x_18 := BZ_12.out.cell (i := 4) rfl
    have x_19 := BZ_12.out.cell (i := 5) rfl
    have x_20 := BZ_12.out.cell (i := 6) rfl
    have x_21 := BZ_12.out.cell (i := 7) rfl
    have fz_22 := fun i => BZ_12.out.frozen i
    have lt_23 := BZ_12.out.lt
    go_wp2
    have hg_24 := (((((((grown_cell w1 (w.heap.size + 2) 0 (.int .i64 0)).trans (grown_cell (w1.setCell ⟨w.heap.size + 2, 0, none⟩ (.int .i64 0)) (w.heap.size + 2) 1 (.int .i64 0))).trans (grown_cell ((w1.setCell ⟨w.heap.size + 2, 0, none⟩ (.int .i64 0)).setCell ⟨w.heap.size + 2, 1, none⟩ (.int .i64 0)) (w.heap.size + 2) 2 (.int .i64 0))).trans (grown_cell (((w1.setCell ⟨w.heap.size + 2, 0, none⟩ (.int .i64 0)).setCell ⟨w.heap.size + 2, 1, none⟩ (.int .i64 0)).setCell ⟨w.heap.size + 2, 2, none⟩ (.int .i64 0)) (w.heap.size + 2) 3 (.bool false))).trans (grown_cell ((((w1.setCell ⟨w.heap.size + 2, 0, none⟩ (.int .i64 0)).setCell ⟨w.heap.size + 2, 1, none⟩ (.int .i64 0)).setCell ⟨w.heap.size + 2, 2, none⟩ (.int .i64 0)).setCell ⟨w.heap.size + 2, 3, none⟩ (.bool false)) (w.heap.size + 2) 4 (.slice none 0 0))).trans (grown_cell (((((w1.setCell ⟨w.heap.size + 2, 0, none⟩ (.int .i64 0)).setCell ⟨w.heap.size + 2, 1, none⟩ (.int .i64 0)).setCell ⟨w.heap.size + 2, 2, none⟩ (.int .i64 0)).setCell ⟨w.heap.size + 2, 3, none⟩ (.bool false)).setCell ⟨w.heap.size + 2, 4, none⟩ (.slice none 0 0)) (w.heap.size + 2) 5 (.slice none 0 0))).trans (grown_cell ((((((w1.setCell ⟨w.heap.size + 2, 0, none⟩ (.int .i64 0)).setCell ⟨w.heap.size + 2, 1, none⟩ (.int .i64 0)).setCell ⟨w.heap.size + 2, 2, none⟩ (.int .i64 0)).setCell ⟨w.heap.size + 2, 3, none⟩ (.bool false)).setCell ⟨w.heap.size + 2, 4, none⟩ (.slice none 0 0)).setCell ⟨w.heap.size + 2, 5, none⟩ (.slice none 0 0)) (w.heap.size + 2) 6 (.int .i64 0))).trans (grown_cell (((((((w1.setCell ⟨w.heap.size + 2, 0, none⟩ (.int .i64 0)).setCell ⟨w.heap.size + 2, 1, none⟩ (.int .i64 0)).setCell ⟨w.heap.size + 2, 2, none⟩ (.int .i64 0)).setCell ⟨w.heap.size + 2, 3, none⟩ (.bool false)).setCell ⟨w.heap.size + 2, 4, none⟩ (.slice none 0 0)).setCell ⟨w.heap.size + 2, 5, none⟩ (.slice none 0 0)).setCell ⟨w.heap.size + 2, 6, none⟩ (.int .i64 0)) (w.heap.size + 2) 7 (.slice none 0 0))
    have H_25 := Lib.hid (H_9.out.grown hg_24 H_9.out.size (fun j hj => by injection hj with hj; have := sz0.out; have := sz_13.out; omega))
    clear H_9
    have BG_26 := Lib.hid (BG_10.out.grown hg_24 (by intro e; injection e with e; have := sz0.out; have := sz_13.out; omega))
    clear BG_10
    have BJ_27 := Lib.hid (BJ_11.out.grown hg_24 (by intro e; injection e with e; have := sz0.out; have := sz_13.out; omega))
    clear BJ_11
    have BZ_28 : Hid (Blk ((((((((w1.setCell ⟨w.heap.size + 2, 0, none⟩ (.int .i64 0)).setCell ⟨w.heap.size + 2, 1, none⟩ (.int .i64 0)).setCell ⟨w.heap.size + 2, 2, none⟩ (.int .i64 0)).setCell ⟨w.heap.size + 2, 3, none⟩ (.bool false)).setCell ⟨w.heap.size + 2, 4, none⟩ (.slice none 0 0)).setCell ⟨w.heap.size + 2, 5, none⟩ (.slice none 0 0)).setCell ⟨w.heap.size + 2, 6, none⟩ (.int .i64 0)).setCell ⟨w.heap.size + 2, 7, none⟩ (.slice none 0 0)) (w.heap.size + 2) #[.int .i64 0, .int .i64 0, .int .i64 0, .bool false, .slice none 0 0, .slice none 0 0, .int .i64 0, .slice none 0 0] 32) := Lib.hid (Blk.set (Blk.set (Blk.set (Blk.set (Blk.set (Blk.set (Blk.set (Blk.set (BZ_12.out) 0 (.int .i64 0)) 1 (.int .i64 0)) 2 (.int .i64 0)) 3 (.bool false)) 4 (.slice none 0 0)) 5 (.slice none 0 0)) 6 (.int .i64 0)) 7 (.slice none 0 0))
    clear BZ_12
    have sz_29 := Lib.hid (World.grownBy.size hg_24)
    clear hg_24
    refine bodyPost_ret (v := .tuple #[.agg #[.int .i64 0, .int .i64 0, .int .i64 0, .bool false, .slice none 0 0, .slice none 0 0, .int .i64 0, .slice none 0 0], .bool false]) (by simp [results, Tryz.results80, go_sem, x_14, x_15, x_16, x_17, x_18, x_19, x_20, x_21]) rfl ?_
    exact MadeRB.no H_25.out
  | true =>
    rw [hb0] at CG
    cases hj0 : jobB N p s with
    | false =>
      rw [hj0] at CJ
      simp only [Bool.true_and, Bool.false_eq_true, if_false]
      clear hb0 hj0 CD CV CE
      have H_1 := Lib.hid (g_chain (g_chain (g_chain (Below.refl w.heap.size w) (below_a1 w (.cells #[.int .i64 N, .slice AG G.length cG] 25))) (below_a1 (w.alloc (.cells #[.int .i64 N, .slice AG G.length cG] 25)) (.cells #[.int .i64 p, .int .i64 s] 27))) (below_a1 ((w.alloc (.cells #[.int .i64 N, .slice AG G.length cG] 25)).alloc (.cells #[.int .i64 p, .int .i64 s] 27)) (.cells #[.int .i64 0, .int .i64 0, .int .i64 0, .bool false, .slice none 0 0, .slice none 0 0, .int .i64 0, .slice none 0 0] 32)))
      have BG_2 : Hid (Blk (((w.alloc (.cells #[.int .i64 N, .slice AG G.length cG] 25)).alloc (.cells #[.int .i64 p, .int .i64 s] 27)).alloc (.cells #[.int .i64 0, .int .i64 0, .int .i64 0, .bool false, .slice none 0 0, .slice none 0 0, .int .i64 0, .slice none 0 0] 32)) (w.heap.size) #[.int .i64 N, .slice AG G.length cG] 25) := Lib.hid (by have h := ((Blk.new w #[.int .i64 N, .slice AG G.length cG] 25).alloc (.cells #[.int .i64 p, .int .i64 s] 27)).alloc (.cells #[.int .i64 0, .int .i64 0, .int .i64 0, .bool false, .slice none 0 0, .slice none 0 0, .int .i64 0, .slice none 0 0] 32); simpa [Nat.add_assoc] using h)
      have BJ_3 : Hid (Blk (((w.alloc (.cells #[.int .i64 N, .slice AG G.length cG] 25)).alloc (.cells #[.int .i64 p, .int .i64 s] 27)).alloc (.cells #[.int .i64 0, .int .i64 0, .int .i64 0, .bool false, .slice none 0 0, .slice none 0 0, .int .i64 0, .slice none 0 0] 32)) (w.heap.size + 1) #[.int .i64 p, .int .i64 s] 27) := Lib.hid (by have h := (Blk.new (w.alloc (.cells #[.int .i64 N, .slice AG G.length cG] 25)) #[.int .i64 p, .int .i64 s] 27).alloc (.cells #[.int .i64 0, .int .i64 0, .int .i64 0, .bool false, .slice none 0 0, .slice none 0 0, .int .i64 0, .slice none 0 0] 32); simpa [Nat.add_assoc] using h)
      have BZ_4 : Hid (Blk (((w.alloc (.cells #[.int .i64 N, .slice AG G.length cG] 25)).alloc (.cells #[.int .i64 p, .int .i64 s] 27)).alloc (.cells #[.int .i64 0, .int .i64 0, .int .i64 0, .bool false, .slice none 0 0, .slice none 0 0, .int .i64 0, .slice none 0 0] 32)) (w.heap.size + 2) #[.int .i64 0, .int .i64 0, .int .i64 0, .bool false, .slice none 0 0, .slice none 0 0, .int .i64 0, .slice none 0 0] 32) := Lib.hid (by have h := Blk.new ((w.alloc (.cells #[.int .i64 N, .slice AG G.length cG] 25)).alloc (.cells #[.int .i64 p, .int .i64 s] 27)) #[.int .i64 0, .int .i64 0, .int .i64 0, .bool false, .slice none 0 0, .slice none 0 0, .int .i64 0, .slice none 0 0] 32; simpa [Nat.add_assoc] using h)
      have sz0 : Hid (w.heap.size + 3 ≤ (((w.alloc (.cells #[.int .i64 N, .slice AG G.length cG] 25)).alloc (.cells #[.int .i64 p, .int .i64 s] 27)).alloc (.cells #[.int .i64 0, .int .i64 0, .int .i64 0, .bool false, .slice none 0 0, .slice none 0 0, .int .i64 0, .slice none 0 0] 32)).heap.size) := Lib.hid (by simp)
      go_enter Tryz.func80, Tryz.ntmps80
      have x_5 := BG_2.out.cell (i := 0) rfl
      have x_6 := BG_2.out.cell (i := 1) rfl
      have x_7 := BJ_3.out.cell (i := 0) rfl
      have x_8 := BJ_3.out.cell (i := 1) rfl
      go_wp2_with fail
      refine (CG.out _ H_1.out).mono ?_
      rintro e w1 ⟨rfl, hb⟩
      clear x_5
      clear x_6
      clear x_7
      clear x_8
      have H_9 := Lib.hid (g_chain H_1.out hb)
      clear H_1
      have BG_10 := Lib.hid (BG_2.out.below hb)
      clear BG_2
      have BJ_11 := Lib.hid (BJ_3.out.below hb)
      clear BJ_3
      have BZ_12 := Lib.hid (BZ_4.out.below hb)
      clear BZ_4
      have sz_13 := Lib.hid (Below.size hb)
      clear hb
      have x_14 := BG_10.out.cell (i := 0) rfl
      have x_15 := BG_10.out.cell (i := 1) rfl
      have x_16 := BJ_11.out.cell (i := 0) rfl
      have x_17 := BJ_11.out.cell (i := 1) rfl
      go_wp2_with fail
      refine (CJ.out _).mono ?_
      rintro e w2 ⟨rfl, hb⟩
      clear x_14
      clear x_15
      clear x_16
      clear x_17
      have H_18 := Lib.hid (g_chain H_9.out hb)
      clear H_9
      have BG_19 := Lib.hid (BG_10.out.below hb)
      clear BG_10
      have BJ_20 := Lib.hid (BJ_11.out.below hb)
      clear BJ_11
      have BZ_21 := Lib.hid (BZ_12.out.below hb)
      clear BZ_12
      have sz_22 := Lib.hid (Below.size hb)
      clear hb
      have x_23 := BZ_21.out.cell (i := 0) rfl
      have x_24 := BZ_21.out.cell (i := 1) rfl
      have x_25 := BZ_21.out.cell (i := 2) rfl
      have x_26 := BZ_21.out.cell (i := 3) rfl
      have x_27 := BZ_21.out.cell (i := 4) rfl
      have x_28 := BZ_21.out.cell (i := 5) rfl
      have x_29 := BZ_21.out.cell (i := 6) rfl
      have x_30 := BZ_21.out.cell (i := 7) rfl
      have fz_31 := fun i => BZ_21.out.frozen i
      have lt_32 := BZ_21.out.lt
      go_wp2
      have hg_33 := (((((((grown_cell w2 (w.heap.size + 2) 0 (.int .i64 0)).trans (grown_cell (w2.setCell ⟨w.heap.size + 2, 0, none⟩ (.int .i64 0)) (w.heap.size + 2) 1 (.int .i64 0))).trans (grown_cell ((w2.setCell ⟨w.heap.size + 2, 0, none⟩ (.int .i64 0)).setCell ⟨w.heap.size + 2, 1, none⟩ (.int .i64 0)) (w.heap.size + 2) 2 (.int .i64 0))).trans (grown_cell (((w2.setCell ⟨w.heap.size + 2, 0, none⟩ (.int .i64 0)).setCell ⟨w.heap.size + 2, 1, none⟩ (.int .i64 0)).setCell ⟨w.heap.size + 2, 2, none⟩ (.int .i64 0)) (w.heap.size + 2) 3 (.bool false))).trans (grown_cell ((((w2.setCell ⟨w.heap.size + 2, 0, none⟩ (.int .i64 0)).setCell ⟨w.heap.size + 2, 1, none⟩ (.int .i64 0)).setCell ⟨w.heap.size + 2, 2, none⟩ (.int .i64 0)).setCell ⟨w.heap.size + 2, 3, none⟩ (.bool false)) (w.heap.size + 2) 4 (.slice none 0 0))).trans (grown_cell (((((w2.setCell ⟨w.heap.size + 2, 0, none⟩ (.int .i64 0)).setCell ⟨w.heap.size + 2, 1, none⟩ (.int .i64 0)).setCell ⟨w.heap.size + 2, 2, none⟩ (.int .i64 0)).setCell ⟨w.heap.size + 2, 3, none⟩ (.bool false)).setCell ⟨w.heap.size + 2, 4, none⟩ (.slice none 0 0)) (w.heap.size + 2) 5 (.slice none 0 0))).trans (grown_cell ((((((w2.setCell ⟨w.heap.size + 2, 0, none⟩ (.int .i64 0)).setCell ⟨w.heap.size + 2, 1, none⟩ (.int .i64 0)).setCell ⟨w.heap.size + 2, 2, none⟩ (.int .i64 0)).setCell ⟨w.heap.size + 2, 3, none⟩ (.bool false)).setCell ⟨w.heap.size + 2, 4, none⟩ (.slice none 0 0)).setCell ⟨w.heap.size + 2, 5, none⟩ (.slice none 0 0)) (w.heap.size + 2) 6 (.int .i64 0))).trans (grown_cell (((((((w2.setCell ⟨w.heap.size + 2, 0, none⟩ (.int .i64 0)).setCell ⟨w.heap.size + 2, 1, none⟩ (.int .i64 0)).setCell ⟨w.heap.size + 2, 2, none⟩ (.int .i64 0)).setCell ⟨w.heap.size + 2, 3, none⟩ (.bool false)).setCell ⟨w.heap.size + 2, 4, none⟩ (.slice none 0 0)).setCell ⟨w.heap.size + 2, 5, none⟩ (.slice none 0 0)).setCell ⟨w.heap.size + 2, 6, none⟩ (.int .i64 0)) (w.heap.size + 2) 7 (.slice none 0 0))
      have H_34 := Lib.hid (H_18.out.grown hg_33 H_18.out.size (fun j hj => by injection hj with hj; have := sz0.out; have := sz_13.out; have := sz_22.out; omega))
      clear H_18
      have BG_35 := Lib.hid (BG_19.out.grown hg_33 (by intro e; injection e with e; have := sz0.out; have := sz_13.out; have := sz_22.out; omega))
      clear BG_19
      have BJ_36 := Lib.hid (BJ_20.out.grown hg_33 (by intro e; injection e with e; have := sz0.out; have := sz_13.out; have := sz_22.out; omega))
      clear BJ_20
      have BZ_37 : Hid (Blk ((((((((w2.setCell ⟨w.heap.size + 2, 0, none⟩ (.int .i64 0)).setCell ⟨w.heap.size + 2, 1, none⟩ (.int .i64 0)).setCell ⟨w.heap.size + 2, 2, none⟩ (.int .i64 0)).setCell ⟨w.heap.size + 2, 3, none⟩ (.bool false)).setCell ⟨w.heap.size + 2, 4, none⟩ (.slice none 0 0)).setCell ⟨w.heap.size + 2, 5, none⟩ (.slice none 0 0)).setCell ⟨w.heap.size + 2, 6, none⟩ (.int .i64 0)).setCell ⟨w.heap.size + 2, 7, none⟩ (.slice none 0 0)) (w.heap.size + 2) #[.int .i64 0, .int .i64 0, .int .i64 0, .bool false, .slice none 0 0, .slice none 0 0, .int .i64 0, .slice none 0 0] 32) := Lib.hid (Blk.set (Blk.set (Blk.set (Blk.set (Blk.set (Blk.set (Blk.set (Blk.set (BZ_21.out) 0 (.int .i64 0)) 1 (.int .i64 0)) 2 (.int .i64 0)) 3 (.bool false)) 4 (.slice none 0 0)) 5 (.slice none 0 0)) 6 (.int .i64 0)) 7 (.slice none 0 0))
      clear BZ_21
      have sz_38 := Lib.hid (World.grownBy.size hg_33)
      clear hg_33
      refine bodyPost_ret (v := .tuple #[.agg #[.int .i64 0, .int .i64 0, .int .i64 0, .bool false, .slice none 0 0, .slice none 0 0, .int .i64 0, .slice none 0 0], .bool false]) (by simp [results, Tryz.results80, go_sem, x_23, x_24, x_25, x_26, x_27, x_28, x_29, x_30]) rfl ?_
      exact MadeRB.no H_34.out
    | true =>
      rw [hj0] at CJ
      simp only [Bool.true_and, if_true]
      have hG := graphB_iff hb0
      have HGB := Lib.hid hG
      obtain ⟨N, rfl⟩ : ∃ q : Nat, N = (q : Int) := ⟨N.toNat, by omega⟩
      have hN : N ≤ 150 := by omega
      have hl4 : G.length ≤ 400 := by omega
      rw [show degsOf GE.f (N : Int) G = degs GE.f N G by unfold degsOf; rw [hb0]; rfl] at CD
      have HNN : Hid (newN (N : Int) = (N : Int)) := Lib.hid (by unfold newN newB; rw [if_pos (by simp; omega)])
      have CN := Lib.hid (fun W => specSetNew (N : Int) true W (WalkArith.wf_i64 (by omega)))
      unfold MadeSB at CN
      rw [HNN.out] at CN
      rw [new_is]
      have HV := Lib.hid (valsK_step p s)
      have HVL := Lib.hid (valsK_len p s)
      have HEL := Lib.hid (fun k (h : k ≤ G.length) => edgesK_len p N G h)
      have HES := Lib.hid (fun (k f : Nat) (e : GE) (x : Int) (h1 : G[k]? = some e) (h2 : e.f = (f : Int)) (h3 : (degs GE.f N G)[f]? = some x) => edgesK_step p N G h1 h2 h3)
      have HV0 : Hid (valsK p s 0 = []) := Lib.hid rfl
      have HE0 : Hid (edgesK p N G 0 = []) := Lib.hid rfl
      have HDL := Lib.hid (degs_len GE.f N G)
      have HDA := Lib.hid (fun (f : Nat) (h : f < N) => degs_at (key := GE.f) (es := G) h)
      generalize hvk : valsK p s = vk at HV HVL HV0 ⊢
      generalize hek : edgesK p N G = ek at HEL HES HE0 ⊢
      obtain ⟨z, hz⟩ : ∃ z, ((N : Int) == 0) = z := ⟨_, rfl⟩
      have HZ : Hid (decide ((N : Int) = 0) = z) := Lib.hid (by rw [← hz]; simp [BEq.beq])
      rw [HZ.out]
      clear hb0 hj0 hvk hek HZ hG
      have H_1 := Lib.hid (g_chain (g_chain (g_chain (Below.refl w.heap.size w) (below_a1 w (.cells #[.int .i64 (N : Int), .slice AG G.length cG] 25))) (below_a1 (w.alloc (.cells #[.int .i64 (N : Int), .slice AG G.length cG] 25)) (.cells #[.int .i64 p, .int .i64 s] 27))) (below_a1 ((w.alloc (.cells #[.int .i64 (N : Int), .slice AG G.length cG] 25)).alloc (.cells #[.int .i64 p, .int .i64 s] 27)) (.cells #[.int .i64 0, .int .i64 0, .int .i64 0, .bool false, .slice none 0 0, .slice none 0 0, .int .i64 0, .slice none 0 0] 32)))
      have BG_2 : Hid (Blk (((w.alloc (.cells #[.int .i64 (N : Int), .slice AG G.length cG] 25)).alloc (.cells #[.int .i64 p, .int .i64 s] 27)).alloc (.cells #[.int .i64 0, .int .i64 0, .int .i64 0, .bool false, .slice none 0 0, .slice none 0 0, .int .i64 0, .slice none 0 0] 32)) (w.heap.size) #[.int .i64 (N : Int), .slice AG G.length cG] 25) := Lib.hid (by have h := ((Blk.new w #[.int .i64 (N : Int), .slice AG G.length cG] 25).alloc (.cells #[.int .i64 p, .int .i64 s] 27)).alloc (.cells #[.int .i64 0, .int .i64 0, .int .i64 0, .bool false, .slice none 0 0, .slice none 0 0, .int .i64 0, .slice none 0 0] 32); simpa [Nat.add_assoc] using h)
      have BJ_3 : Hid (Blk (((w.alloc (.cells #[.int .i64 (N : Int), .slice AG G.length cG] 25)).alloc (.cells #[.int .i64 p, .int .i64 s] 27)).alloc (.cells #[.int .i64 0, .int .i64 0, .int .i64 0, .bool false, .slice none 0 0, .slice none 0 0, .int .i64 0, .slice none 0 0] 32)) (w.heap.size + 1) #[.int .i64 p, .int .i64 s] 27) := Lib.hid (by have h := (Blk.new (w.alloc (.cells #[.int .i64 (N : Int), .slice AG G.length cG] 25)) #[.int .i64 p, .int .i64 s] 27).alloc (.cells #[.int .i64 0, .int .i64 0, .int .i64 0, .bool false, .slice none 0 0, .slice none 0 0, .int .i64 0, .slice none 0 0] 32); simpa [Nat.add_assoc] using h)
      have BZ_4 : Hid (Blk (((w.alloc (.cells #[.int .i64 (N : Int), .slice AG G.length cG] 25)).alloc (.cells #[.int .i64 p, .int .i64 s] 27)).alloc (.cells #[.int .i64 0, .int .i64 0, .int .i64 0, .bool false, .slice none 0 0, .slice none 0 0, .int .i64 0, .slice none 0 0] 32)) (w.heap.size + 2) #[.int .i64 0, .int .i64 0, .int .i64 0, .bool false, .slice none 0 0, .slice none 0 0, .int .i64 0, .slice none 0 0] 32) := Lib.hid (by have h := Blk.new ((w.alloc (.cells #[.int .i64 (N : Int), .slice AG G.length cG] 25)).alloc (.cells #[.int .i64 p, .int .i64 s] 27)) #[.int .i64 0, .int .i64 0, .int .i64 0, .bool false, .slice none 0 0, .slice none 0 0, .int .i64 0, .slice none 0 0] 32; simpa [Nat.add_assoc] using h)
      have sz0 : Hid (w.heap.size + 3 ≤ (((w.alloc (.cells #[.int .i64 (N : Int), .slice AG G.length cG] 25)).alloc (.cells #[.int .i64 p, .int .i64 s] 27)).alloc (.cells #[.int .i64 0, .int .i64 0, .int .i64 0, .bool false, .slice none 0 0, .slice none 0 0, .int .i64 0, .slice none 0 0] 32)).heap.size) := Lib.hid (by simp)
      go_enter Tryz.func80, Tryz.ntmps80
      have x_5 := BG_2.out.cell (i := 0) rfl
      have x_6 := BG_2.out.cell (i := 1) rfl
      have x_7 := BJ_3.out.cell (i := 0) rfl
      have x_8 := BJ_3.out.cell (i := 1) rfl
      go_wp2_with fail
      refine (CG.out _ H_1.out).mono ?_
      rintro e w1 ⟨rfl, hb⟩
      clear x_5
      clear x_6
      clear x_7
      clear x_8
      have H_9 := Lib.hid (g_chain H_1.out hb)
      clear H_1
      have BG_10 := Lib.hid (BG_2.out.below hb)
      clear BG_2
      have BJ_11 := Lib.hid (BJ_3.out.below hb)
      clear BJ_3
      have BZ_12 := Lib.hid (BZ_4.out.below hb)
      clear BZ_4
      have sz_13 := Lib.hid (Below.size hb)
      clear hb
      have x_14 := BG_10.out.cell (i := 0) rfl
      have x_15 := BG_10.out.cell (i := 1) rfl
      have x_16 := BJ_11.out.cell (i := 0) rfl
      have x_17 := BJ_11.out.cell (i := 1) rfl
      go_wp2_with fail
      refine (CJ.out _).mono ?_
      rintro e w2 ⟨rfl, hb⟩
      clear x_14
      clear x_15
      clear x_16
      clear x_17
      have H_18 := Lib.hid (g_chain H_9.out hb)
      clear H_9
      have BG_19 := Lib.hid (BG_10.out.below hb)
      clear BG_10
      have BJ_20 := Lib.hid (BJ_11.out.below hb)
      clear BJ_11
      have BZ_21 := Lib.hid (BZ_12.out.below hb)
      clear BZ_12
      have sz_22 := Lib.hid (Below.size hb)
      clear hb CG CJ
      have x_23 := BG_19.out.cell (i := 0) rfl
      have x_24 := BG_19.out.cell (i := 1) rfl
      go_wp2_with fail
      refine (CN.out _).mono ?_
      rintro e w3 ⟨C9, k9, rfl, ho, hb⟩
      clear x_23
      clear x_24
      have H_25 := Lib.hid (g_chain H_18.out hb)
      clear H_18
      have BG_26 := Lib.hid (BG_19.out.below hb)
      clear BG_19
      have BJ_27 := Lib.hid (BJ_20.out.below hb)
      clear BJ_20
      have BZ_28 := Lib.hid (BZ_21.out.below hb)
      clear BZ_21
      have sz_29 := Lib.hid (Below.size hb)
      have Ox_30 := Lib.hid (ho)
      clear ho hb
      have hb_31 := below_a1 w3 (.cells #[.int .i64 (N : Int), .slice C9 (newX (N : Int) true).length k9] 30)
      have sz_32 : Hid (w3.heap.size = w3.heap.size) := Lib.hid (by simp)
      have sz_33 := Lib.hid BG_26.out.lt
      have sz_34 := Lib.hid BJ_27.out.lt
      have sz_35 := Lib.hid BZ_28.out.lt
      have LT_36 := Lib.hid Ox_30.out.lt
      have H_37 := Lib.hid (g_chain H_25.out hb_31)
      clear H_25
      have BG_38 := Lib.hid (BG_26.out.below hb_31)
      clear BG_26
      have BJ_39 := Lib.hid (BJ_27.out.below hb_31)
      clear BJ_27
      have BZ_40 := Lib.hid (BZ_28.out.below hb_31)
      clear BZ_28
      have Ox_41 := Lib.hid (own_below Ox_30.out hb_31)
      clear Ox_30
      have sz_42 := Lib.hid (Below.size hb_31)
      clear hb_31
      have BS_43 : Hid (Blk (w3.alloc (.cells #[.int .i64 (N : Int), .slice C9 (newX (N : Int) true).length k9] 30)) (w3.heap.size) #[.int .i64 (N : Int), .slice C9 (newX (N : Int) true).length k9] 30) := Lib.hid (by have h := Blk.new w3 #[.int .i64 (N : Int), .slice C9 (newX (N : Int) true).length k9] 30; simpa using h)
      have sz_44 : Hid (w3.heap.size + 1 ≤ (w3.alloc (.cells #[.int .i64 (N : Int), .slice C9 (newX (N : Int) true).length k9] 30)).heap.size) := Lib.hid (by simp)
      have x_45 := BG_38.out.cell (i := 0) rfl
      have x_46 := BG_38.out.cell (i := 1) rfl
      have fz_47 := fun i => BG_38.out.frozen i
      have lt_48 := BG_38.out.lt
      have x_49 := BJ_39.out.cell (i := 0) rfl
      have x_50 := BJ_39.out.cell (i := 1) rfl
      have fz_51 := fun i => BJ_39.out.frozen i
      have lt_52 := BJ_39.out.lt
      have x_53 := BS_43.out.cell (i := 0) rfl
      have x_54 := BS_43.out.cell (i := 1) rfl
      have fz_55 := fun i => BS_43.out.frozen i
      have lt_56 := BS_43.out.lt
      have hb_57 := below_a1 (w3.alloc (.cells #[.int .i64 (N : Int), .slice C9 (newX (N : Int) true).length k9] 30)) (.cells #[.int .i64 p, .int .i64 s, .int .i64 0, .bool z, .slice none 0 0, .slice none 0 0, .int .i64 (N : Int), .slice C9 (newX (N : Int) true).length k9] 32)
      have sz_58 : Hid ((w3.alloc (.cells #[.int .i64 (N : Int), .slice C9 (newX (N : Int) true).length k9] 30)).heap.size = w3.heap.size + 1) := Lib.hid (by simp)
      have sz_59 := Lib.hid BG_38.out.lt
      have sz_60 := Lib.hid BJ_39.out.lt
      have sz_61 := Lib.hid BZ_40.out.lt
      have LT_62 := Lib.hid Ox_41.out.lt
      have sz_63 := Lib.hid BS_43.out.lt
      have H_64 := Lib.hid (g_chain H_37.out hb_57)
      clear H_37
      have BG_65 := Lib.hid (BG_38.out.below hb_57)
      clear BG_38
      have BJ_66 := Lib.hid (BJ_39.out.below hb_57)
      clear BJ_39
      have BZ_67 := Lib.hid (BZ_40.out.below hb_57)
      clear BZ_40
      have Ox_68 := Lib.hid (own_below Ox_41.out hb_57)
      clear Ox_41
      have BS_69 := Lib.hid (BS_43.out.below hb_57)
      clear BS_43
      have sz_70 := Lib.hid (Below.size hb_57)
      clear hb_57
      have BR_71 : Hid (Blk ((w3.alloc (.cells #[.int .i64 (N : Int), .slice C9 (newX (N : Int) true).length k9] 30)).alloc (.cells #[.int .i64 p, .int .i64 s, .int .i64 0, .bool z, .slice none 0 0, .slice none 0 0, .int .i64 (N : Int), .slice C9 (newX (N : Int) true).length k9] 32)) (w3.heap.size + 1) #[.int .i64 p, .int .i64 s, .int .i64 0, .bool z, .slice none 0 0, .slice none 0 0, .int .i64 (N : Int), .slice C9 (newX (N : Int) true).length k9] 32) := Lib.hid (by have h := Blk.new (w3.alloc (.cells #[.int .i64 (N : Int), .slice C9 (newX (N : Int) true).length k9] 30)) #[.int .i64 p, .int .i64 s, .int .i64 0, .bool z, .slice none 0 0, .slice none 0 0, .int .i64 (N : Int), .slice C9 (newX (N : Int) true).length k9] 32; simpa using h)
      have sz_72 : Hid (w3.heap.size + 1 + 1 ≤ ((w3.alloc (.cells #[.int .i64 (N : Int), .slice C9 (newX (N : Int) true).length k9] 30)).alloc (.cells #[.int .i64 p, .int .i64 s, .int .i64 0, .bool z, .slice none 0 0, .slice none 0 0, .int .i64 (N : Int), .slice C9 (newX (N : Int) true).length k9] 32)).heap.size) := Lib.hid (by simp)
      have SZB : Hid (w.heap.size + 3 ≤ w3.heap.size + 1) := Lib.hid (by have := sz0.out; have := sz_13.out; have := sz_22.out; have := sz_29.out; have := sz_32.out; have := sz_33.out; have := sz_34.out; have := sz_35.out; have := sz_42.out; have := sz_44.out; have := sz_58.out; have := sz_59.out; have := sz_60.out; have := sz_61.out; have := sz_63.out; have := sz_70.out; have := sz_72.out; omega)
      go_wp2
      have Ox_73 := Lib.hid (own_monoG Ox_68.out (lo' := w.heap.size) (by have := sz0.out; have := sz_13.out; have := sz_22.out; have := sz_29.out; have := sz_32.out; have := sz_33.out; have := sz_34.out; have := sz_35.out; have := sz_42.out; have := sz_44.out; have := sz_58.out; have := sz_59.out; have := sz_60.out; have := sz_61.out; have := sz_63.out; have := sz_70.out; have := sz_72.out; omega))
      clear Ox_68
      go_loopw [9] (fun i wr => ∃ (k : Nat) (A1 : Option Addr) (c1 : Nat), k ≤ N ∧ i = .int .i64 (k : Int) ∧ Hid (Below w.heap.size w wr) ∧ Hid (Blk wr w.heap.size #[.int .i64 (N : Int), .slice AG G.length cG] 25) ∧ Hid (Blk wr (w.heap.size + 1) #[.int .i64 p, .int .i64 s] 27) ∧ Hid (Blk wr (w.heap.size + 2) #[.int .i64 0, .int .i64 0, .int .i64 0, .bool false, .slice none 0 0, .slice none 0 0, .int .i64 0, .slice none 0 0] 32) ∧ Hid (wr.ownsRow w.heap.size 5 1 (.slice C9 (newX (N : Int) true).length k9) (newX (N : Int) true).length (vb (newX (N : Int) true))) ∧ Hid (Blk wr (w3.heap.size + 1) #[.int .i64 p, .int .i64 s, .int .i64 0, .bool z, .slice A1 k c1, .slice none 0 0, .int .i64 (N : Int), .slice C9 (newX (N : Int) true).length k9] 32) ∧ Hid (wr.ownsRow w.heap.size 3 1 (.slice A1 k c1) k (vi (vk k)))) (fun i _ => N - (intOf i).toNat)
      case atStart => exact ⟨0, none, 0, Nat.zero_le _, rfl, H_64, BG_65, BJ_66, BZ_67, Ox_73, BR_71, by rw [HV0.out]; exact Lib.hid (World.ownsRow_nil _ _ _ _)⟩
      case round =>
        clear x_45 x_46 fz_47 lt_48 x_49 x_50 fz_51 lt_52 x_53 x_54 fz_55 lt_56 H_64 BG_65 BJ_66 BZ_67 Ox_73 BS_69 BR_71
        clear sz0 sz_13 sz_22 sz_29 sz_32 sz_33 sz_34 sz_35 sz_42 sz_44 sz_58 sz_59 sz_60 sz_61 sz_63 sz_70 sz_72
        obtain ⟨k, A1, c1, hk, rfl, hH, hBG, hBJ, hBZ, hOx, hBR, hOv⟩ := hrel
        have hhz := SZB.out
        have HWS := Lib.hid hH.out.size
        by_cases hlt : k < N
        · skip
          have x_74 := hBG.out.cell (i := 0) rfl
          have x_75 := hBG.out.cell (i := 1) rfl
          go_upto_region 8 with fail
          clear x_74 x_75
          refine wp_region_any (by kernel_rfl) ?_
          change wpAny _ _ _ _ _ _ _ (World.drew _)
          have hb : Below wr.heap.size wr (World.drew wr) := (Below.refl _ _).drew
          have H_76 := Lib.hid (g_chain hH.out hb)
          clear hH
          have BG_77 := Lib.hid (hBG.out.below hb)
          clear hBG
          have BJ_78 := Lib.hid (hBJ.out.below hb)
          clear hBJ
          have BZ_79 := Lib.hid (hBZ.out.below hb)
          clear hBZ
          have Ox_80 := Lib.hid (own_below hOx.out hb)
          clear hOx
          have BR_81 := Lib.hid (hBR.out.below hb)
          clear hBR
          have Ov_82 := Lib.hid (own_below hOv.out hb)
          clear hOv
          have sz_83 := Lib.hid (Below.size hb)
          clear hb
          generalize hDD : World.drew wr = wd at H_76 BG_77 BJ_78 BZ_79 Ox_80 BR_81 Ov_82 sz_83 ⊢
          clear hDD
          refine wpAny_of_held (S := fun W => W.cell? ⟨w.heap.size + 1, 0, none⟩ = some (.int .i64 p) ∧ W.cell? ⟨w.heap.size + 1, 1, none⟩ = some (.int .i64 s)) _ _ _ _ ?_
          refine wpAnyH_take (i := 0) (oi := ⟨_, _, _, _, _, _⟩) (v := .pointer (some ⟨w3.heap.size + 1, 4, none⟩)) rfl (by kernel_rfl) (by kernel_rfl) (by kernel_rfl) (fun _ _ _ h => h) (Or.inl ⟨by kernel_rfl, fun W hS => by (obtain ⟨s0, s1⟩ := hS); go_simp⟩) ⟨BJ_78.out.cell (i := 0) rfl, BJ_78.out.cell (i := 1) rfl⟩ ?_
          (try simp only [Act.put, List.setIfInBounds_toArray, List.set_cons_zero, List.set_cons_succ])
          refine wpAnyH_take (i := 2) (oi := ⟨_, _, _, _, _, _⟩) (v := .agg #[.int .i64 p, .int .i64 s]) rfl (by kernel_rfl) (by kernel_rfl) (by kernel_rfl) (fun _ _ _ h => h) (Or.inl ⟨by kernel_rfl, fun W hS => by (obtain ⟨s0, s1⟩ := hS); go_simp⟩) ⟨BJ_78.out.cell (i := 0) rfl, BJ_78.out.cell (i := 1) rfl⟩ ?_
          (try simp only [Act.put, List.setIfInBounds_toArray, List.set_cons_zero, List.set_cons_succ])
          refine wpAnyH_take (i := 3) (oi := ⟨_, _, _, _, _, _⟩) (v := .int .i64 (k : Int)) rfl (by kernel_rfl) (by kernel_rfl) (by kernel_rfl) (fun _ _ _ h => h) (Or.inl ⟨by kernel_rfl, fun W hS => by (obtain ⟨s0, s1⟩ := hS); go_simp⟩) ⟨BJ_78.out.cell (i := 0) rfl, BJ_78.out.cell (i := 1) rfl⟩ ?_
          (try simp only [Act.put, List.setIfInBounds_toArray, List.set_cons_zero, List.set_cons_succ])
          refine wpAnyH_ready (rs := [1, 4]) (by kernel_rfl) (by simp) (AllReadyH.cons rfl (fun K hK => ?_) (AllReadyH.cons rfl (fun K hK => ?_) AllReadyH.nil))
          · skip
            have xr := BR_81.out.cell (i := 4) rfl
            have xl := BR_81.out.lt
            go_simp
            clear xr xl
            refine hK.out _ _ ⟨BJ_78.out.cell (i := 0) rfl, BJ_78.out.cell (i := 1) rfl⟩ (fun _ => ?_)
            clear hK K
            (try simp only [Act.put, List.setIfInBounds_toArray, List.set_cons_zero, List.set_cons_succ])
            refine wpAnyH_ready (rs := [4]) (by kernel_rfl) (by simp) (AllReadyH.cons rfl (fun K hK => ?_) AllReadyH.nil)
            go_simp
            go_at_call 105
            refine (CV.out (k : Int) _).mono ?_
            rintro e wc ⟨rfl, hb⟩
            have H_84 := Lib.hid (g_chain H_76.out hb)
            clear H_76
            have BG_85 := Lib.hid (BG_77.out.below hb)
            clear BG_77
            have BJ_86 := Lib.hid (BJ_78.out.below hb)
            clear BJ_78
            have BZ_87 := Lib.hid (BZ_79.out.below hb)
            clear BZ_79
            have Ox_88 := Lib.hid (own_below Ox_80.out hb)
            clear Ox_80
            have BR_89 := Lib.hid (BR_81.out.below hb)
            clear BR_81
            have Ov_90 := Lib.hid (own_below Ov_82.out hb)
            clear Ov_82
            have sz_91 := Lib.hid (Below.size hb)
            clear hb
            dsimp only
            refine hK.out _ _ ⟨BJ_86.out.cell (i := 0) rfl, BJ_86.out.cell (i := 1) rfl⟩ (fun _ => ?_)
            clear hK K
            (try simp only [Act.put, List.setIfInBounds_toArray, List.set_cons_zero, List.set_cons_succ])
            refine wpAnyH_ready (rs := [5]) (by kernel_rfl) (by simp) (AllReadyH.cons rfl (fun K hK => ?_) AllReadyH.nil)
            go_simp
            have hb := below_a1 wc (.cells #[.int .i64 (firstV p s (k : Int))] 3)
            have H_92 := Lib.hid (g_chain H_84.out hb)
            clear H_84
            have BG_93 := Lib.hid (BG_85.out.below hb)
            clear BG_85
            have BJ_94 := Lib.hid (BJ_86.out.below hb)
            clear BJ_86
            have BZ_95 := Lib.hid (BZ_87.out.below hb)
            clear BZ_87
            have Ox_96 := Lib.hid (own_below Ox_88.out hb)
            clear Ox_88
            have BR_97 := Lib.hid (BR_89.out.below hb)
            clear BR_89
            have Ov_98 := Lib.hid (own_below Ov_90.out hb)
            clear Ov_90
            have sz_99 := Lib.hid (Below.size hb)
            clear hb
            refine hK.out _ _ ⟨BJ_94.out.cell (i := 0) rfl, BJ_94.out.cell (i := 1) rfl⟩ (fun _ => ?_)
            clear hK K
            (try simp only [Act.put, List.setIfInBounds_toArray, List.set_cons_zero, List.set_cons_succ])
            refine wpAnyH_ready (rs := [6]) (by kernel_rfl) (by simp) (AllReadyH.cons rfl (fun K hK => ?_) AllReadyH.nil)
            refine step_append_any _ (by rfl) (.tmp 43) (.tmp 47) _ (by rfl) (w.heap.size) 3 i0 _ 1 8 Tryz.underlying28 hi hz0 hz1 hz2 rfl (by omega) (.slice A1 k c1) k (vi (vk k)) (by rfl) Ov_98.out (wc.heap.size + 1) (some ⟨wc.heap.size, 0, none⟩) 1 1 [.int .i64 (firstV p s (k : Int))] (by rfl) (lab_reads _ _ _ _ rfl) (lab_one _) (by simp only [maxLen]; omega) (by omega) (by have := SZB.out; have := HWS.out; have := sz_83.out; have := sz_91.out; have := sz_99.out; omega) ?_
            intro v3 wa3 hown3 hg3 hat3
            obtain ⟨P3, c3, rfl, -⟩ := own_formG hown3
            have HO3 := Lib.hid hown3
            clear hown3 hat3
            have H_100 := Lib.hid (H_92.out.grown hg3 H_92.out.size (fun j hj => by have := (Ov_98.out.lt j hj).1; have := SZB.out; have := HWS.out; have := sz_83.out; have := sz_91.out; have := sz_99.out; omega))
            clear H_92
            have BG_101 := Lib.hid (BG_93.out.grown hg3 (own_kind Ov_98.out BG_93.out (by decide)))
            clear BG_93
            have BJ_102 := Lib.hid (BJ_94.out.grown hg3 (own_kind Ov_98.out BJ_94.out (by decide)))
            clear BJ_94
            have BZ_103 := Lib.hid (BZ_95.out.grown hg3 (own_kind Ov_98.out BZ_95.out (by decide)))
            clear BZ_95
            have Ox_104 := Lib.hid (Ox_96.out.kept hg3 ((own_types Ox_96.out Ov_98.out (by decide)).imp id fun h e => h e.symm))
            clear Ox_96
            have BR_105 := Lib.hid (BR_97.out.grown hg3 (own_kind Ov_98.out BR_97.out (by decide)))
            clear BR_97
            clear Ov_98
            have sz_106 := Lib.hid (World.grownBy.size hg3)
            clear hg3
            refine hK.out _ _ ⟨BJ_102.out.cell (i := 0) rfl, BJ_102.out.cell (i := 1) rfl⟩ (fun _ => ?_)
            clear hK K
            (try simp only [Act.put, List.setIfInBounds_toArray])
            refine wpAnyH_take (i := 7) (oi := ⟨_, _, _, _, _, _⟩) (v := .pointer (some ⟨w3.heap.size + 1, 4, none⟩)) rfl (by kernel_rfl) (by kernel_rfl) (by kernel_rfl) (fun _ _ _ h => h) (Or.inl ⟨by kernel_rfl, fun W hS => by go_simp⟩) ⟨BJ_102.out.cell (i := 0) rfl, BJ_102.out.cell (i := 1) rfl⟩ ?_
            (try simp only [Act.put])
            refine wpAnyH_ready (rs := [8]) (by kernel_rfl) (by simp) (AllReadyH.cons rfl (fun K hK => ?_) AllReadyH.nil)
            have xz := BR_105.out.cell (i := 4) rfl
            have xf := BR_105.out.frozen 4
            have xl := BR_105.out.lt
            go_simp
            clear xz xf xl
            have hg_107 := grown_cell wa3 (w3.heap.size + 1) 4 (.slice P3 (k + 1) c3)
            have H_108 := Lib.hid (H_100.out.grown hg_107 H_100.out.size (fun j hj => by injection hj with hj; have := SZB.out; have := HWS.out; have := sz_83.out; have := sz_91.out; have := sz_99.out; have := sz_106.out; omega))
            clear H_100
            have BG_109 := Lib.hid (BG_101.out.grown hg_107 (by intro e; injection e with e; have := SZB.out; have := HWS.out; have := sz_83.out; have := sz_91.out; have := sz_99.out; have := sz_106.out; omega))
            clear BG_101
            have BJ_110 := Lib.hid (BJ_102.out.grown hg_107 (by intro e; injection e with e; have := SZB.out; have := HWS.out; have := sz_83.out; have := sz_91.out; have := sz_99.out; have := sz_106.out; omega))
            clear BJ_102
            have BZ_111 := Lib.hid (BZ_103.out.grown hg_107 (by intro e; injection e with e; have := SZB.out; have := HWS.out; have := sz_83.out; have := sz_91.out; have := sz_99.out; have := sz_106.out; omega))
            clear BZ_103
            have Ox_112 := Lib.hid (own_kept Ox_104.out hg_107 (own_kind Ox_104.out BR_105.out (by decide)))
            clear Ox_104
            have Ov_113 := Lib.hid (own_kept HO3.out hg_107 (own_kind HO3.out BR_105.out (by decide)))
            clear HO3
            have BR_114 : Hid (Blk (wa3.setCell ⟨w3.heap.size + 1, 4, none⟩ (.slice P3 (k + 1) c3)) (w3.heap.size + 1) #[.int .i64 p, .int .i64 s, .int .i64 0, .bool z, .slice P3 (k + 1) c3, .slice none 0 0, .int .i64 (N : Int), .slice C9 (newX (N : Int) true).length k9] 32) := Lib.hid (Blk.set (BR_105.out) 4 (.slice P3 (k + 1) c3))
            clear BR_105
            have sz_115 := Lib.hid (World.grownBy.size hg_107)
            clear hg_107
            refine hK.out _ _ ⟨BJ_110.out.cell (i := 0) rfl, BJ_110.out.cell (i := 1) rfl⟩ (fun _ => ?_)
            clear hK K
            (try simp only [Act.put])
            refine wpAnyH_done (by kernel_rfl) ?_ _
            go_wp2
            go_roundw
            case rel => exact ⟨k + 1, P3, c3, by omega, by go_num, H_108, BG_109, BJ_110, BZ_111, Ox_112, BR_114, by rw [HV.out]; rw [vi_append]; exact Ov_113⟩
            case measure => simp [intOf]; omega
          · skip
            go_simp
            go_at_call 105
            refine (CV.out (k : Int) _).mono ?_
            rintro e wc ⟨rfl, hb⟩
            have H_116 := Lib.hid (g_chain H_76.out hb)
            clear H_76
            have BG_117 := Lib.hid (BG_77.out.below hb)
            clear BG_77
            have BJ_118 := Lib.hid (BJ_78.out.below hb)
            clear BJ_78
            have BZ_119 := Lib.hid (BZ_79.out.below hb)
            clear BZ_79
            have Ox_120 := Lib.hid (own_below Ox_80.out hb)
            clear Ox_80
            have BR_121 := Lib.hid (BR_81.out.below hb)
            clear BR_81
            have Ov_122 := Lib.hid (own_below Ov_82.out hb)
            clear Ov_82
            have sz_123 := Lib.hid (Below.size hb)
            clear hb
            dsimp only
            refine hK.out _ _ ⟨BJ_118.out.cell (i := 0) rfl, BJ_118.out.cell (i := 1) rfl⟩ (fun _ => ?_)
            clear hK K
            (try simp only [Act.put, List.setIfInBounds_toArray, List.set_cons_zero, List.set_cons_succ])
            refine wpAnyH_ready (rs := [1, 5]) (by kernel_rfl) (by simp) (AllReadyH.cons rfl (fun K hK => ?_) (AllReadyH.cons rfl (fun K hK => ?_) AllReadyH.nil))
            · skip
              have xr := BR_121.out.cell (i := 4) rfl
              have xl := BR_121.out.lt
              go_simp
              clear xr xl
              refine hK.out _ _ ⟨BJ_118.out.cell (i := 0) rfl, BJ_118.out.cell (i := 1) rfl⟩ (fun _ => ?_)
              clear hK K
              (try simp only [Act.put, List.setIfInBounds_toArray, List.set_cons_zero, List.set_cons_succ])
              refine wpAnyH_ready (rs := [5]) (by kernel_rfl) (by simp) (AllReadyH.cons rfl (fun K hK => ?_) AllReadyH.nil)
              go_simp
              have hb := below_a1 wc (.cells #[.int .i64 (firstV p s (k : Int))] 3)
              have H_124 := Lib.hid (g_chain H_116.out hb)
              clear H_116
              have BG_125 := Lib.hid (BG_117.out.below hb)
              clear BG_117
              have BJ_126 := Lib.hid (BJ_118.out.below hb)
              clear BJ_118
              have BZ_127 := Lib.hid (BZ_119.out.below hb)
              clear BZ_119
              have Ox_128 := Lib.hid (own_below Ox_120.out hb)
              clear Ox_120
              have BR_129 := Lib.hid (BR_121.out.below hb)
              clear BR_121
              have Ov_130 := Lib.hid (own_below Ov_122.out hb)
              clear Ov_122
              have sz_131 := Lib.hid (Below.size hb)
              clear hb
              refine hK.out _ _ ⟨BJ_126.out.cell (i := 0) rfl, BJ_126.out.cell (i := 1) rfl⟩ (fun _ => ?_)
              clear hK K
              (try simp only [Act.put, List.setIfInBounds_toArray, List.set_cons_zero, List.set_cons_succ])
              refine wpAnyH_ready (rs := [6]) (by kernel_rfl) (by simp) (AllReadyH.cons rfl (fun K hK => ?_) AllReadyH.nil)
              refine step_append_any _ (by rfl) (.tmp 43) (.tmp 47) _ (by rfl) (w.heap.size) 3 i0 _ 1 8 Tryz.underlying28 hi hz0 hz1 hz2 rfl (by omega) (.slice A1 k c1) k (vi (vk k)) (by rfl) Ov_130.out (wc.heap.size + 1) (some ⟨wc.heap.size, 0, none⟩) 1 1 [.int .i64 (firstV p s (k : Int))] (by rfl) (lab_reads _ _ _ _ rfl) (lab_one _) (by simp only [maxLen]; omega) (by omega) (by have := SZB.out; have := HWS.out; have := sz_83.out; have := sz_123.out; have := sz_131.out; omega) ?_
              intro v3 wa3 hown3 hg3 hat3
              obtain ⟨P3, c3, rfl, -⟩ := own_formG hown3
              have HO3 := Lib.hid hown3
              clear hown3 hat3
              have H_132 := Lib.hid (H_124.out.grown hg3 H_124.out.size (fun j hj => by have := (Ov_130.out.lt j hj).1; have := SZB.out; have := HWS.out; have := sz_83.out; have := sz_123.out; have := sz_131.out; omega))
              clear H_124
              have BG_133 := Lib.hid (BG_125.out.grown hg3 (own_kind Ov_130.out BG_125.out (by decide)))
              clear BG_125
              have BJ_134 := Lib.hid (BJ_126.out.grown hg3 (own_kind Ov_130.out BJ_126.out (by decide)))
              clear BJ_126
              have BZ_135 := Lib.hid (BZ_127.out.grown hg3 (own_kind Ov_130.out BZ_127.out (by decide)))
              clear BZ_127
              have Ox_136 := Lib.hid (Ox_128.out.kept hg3 ((own_types Ox_128.out Ov_130.out (by decide)).imp id fun h e => h e.symm))
              clear Ox_128
              have BR_137 := Lib.hid (BR_129.out.grown hg3 (own_kind Ov_130.out BR_129.out (by decide)))
              clear BR_129
              clear Ov_130
              have sz_138 := Lib.hid (World.grownBy.size hg3)
              clear hg3
              refine hK.out _ _ ⟨BJ_134.out.cell (i := 0) rfl, BJ_134.out.cell (i := 1) rfl⟩ (fun _ => ?_)
              clear hK K
              (try simp only [Act.put, List.setIfInBounds_toArray])
              refine wpAnyH_take (i := 7) (oi := ⟨_, _, _, _, _, _⟩) (v := .pointer (some ⟨w3.heap.size + 1, 4, none⟩)) rfl (by kernel_rfl) (by kernel_rfl) (by kernel_rfl) (fun _ _ _ h => h) (Or.inl ⟨by kernel_rfl, fun W hS => by go_simp⟩) ⟨BJ_134.out.cell (i := 0) rfl, BJ_134.out.cell (i := 1) rfl⟩ ?_
              (try simp only [Act.put])
              refine wpAnyH_ready (rs := [8]) (by kernel_rfl) (by simp) (AllReadyH.cons rfl (fun K hK => ?_) AllReadyH.nil)
              have xz := BR_137.out.cell (i := 4) rfl
              have xf := BR_137.out.frozen 4
              have xl := BR_137.out.lt
              go_simp
              clear xz xf xl
              have hg_139 := grown_cell wa3 (w3.heap.size + 1) 4 (.slice P3 (k + 1) c3)
              have H_140 := Lib.hid (H_132.out.grown hg_139 H_132.out.size (fun j hj => by injection hj with hj; have := SZB.out; have := HWS.out; have := sz_83.out; have := sz_123.out; have := sz_131.out; have := sz_138.out; omega))
              clear H_132
              have BG_141 := Lib.hid (BG_133.out.grown hg_139 (by intro e; injection e with e; have := SZB.out; have := HWS.out; have := sz_83.out; have := sz_123.out; have := sz_131.out; have := sz_138.out; omega))
              clear BG_133
              have BJ_142 := Lib.hid (BJ_134.out.grown hg_139 (by intro e; injection e with e; have := SZB.out; have := HWS.out; have := sz_83.out; have := sz_123.out; have := sz_131.out; have := sz_138.out; omega))
              clear BJ_134
              have BZ_143 := Lib.hid (BZ_135.out.grown hg_139 (by intro e; injection e with e; have := SZB.out; have := HWS.out; have := sz_83.out; have := sz_123.out; have := sz_131.out; have := sz_138.out; omega))
              clear BZ_135
              have Ox_144 := Lib.hid (own_kept Ox_136.out hg_139 (own_kind Ox_136.out BR_137.out (by decide)))
              clear Ox_136
              have Ov_145 := Lib.hid (own_kept HO3.out hg_139 (own_kind HO3.out BR_137.out (by decide)))
              clear HO3
              have BR_146 : Hid (Blk (wa3.setCell ⟨w3.heap.size + 1, 4, none⟩ (.slice P3 (k + 1) c3)) (w3.heap.size + 1) #[.int .i64 p, .int .i64 s, .int .i64 0, .bool z, .slice P3 (k + 1) c3, .slice none 0 0, .int .i64 (N : Int), .slice C9 (newX (N : Int) true).length k9] 32) := Lib.hid (Blk.set (BR_137.out) 4 (.slice P3 (k + 1) c3))
              clear BR_137
              have sz_147 := Lib.hid (World.grownBy.size hg_139)
              clear hg_139
              refine hK.out _ _ ⟨BJ_142.out.cell (i := 0) rfl, BJ_142.out.cell (i := 1) rfl⟩ (fun _ => ?_)
              clear hK K
              (try simp only [Act.put])
              refine wpAnyH_done (by kernel_rfl) ?_ _
              go_wp2
              go_roundw
              case rel => exact ⟨k + 1, P3, c3, by omega, by go_num, H_140, BG_141, BJ_142, BZ_143, Ox_144, BR_146, by rw [HV.out]; rw [vi_append]; exact Ov_145⟩
              case measure => simp [intOf]; omega
            · skip
              go_simp
              have hb := below_a1 wc (.cells #[.int .i64 (firstV p s (k : Int))] 3)
              have H_148 := Lib.hid (g_chain H_116.out hb)
              clear H_116
              have BG_149 := Lib.hid (BG_117.out.below hb)
              clear BG_117
              have BJ_150 := Lib.hid (BJ_118.out.below hb)
              clear BJ_118
              have BZ_151 := Lib.hid (BZ_119.out.below hb)
              clear BZ_119
              have Ox_152 := Lib.hid (own_below Ox_120.out hb)
              clear Ox_120
              have BR_153 := Lib.hid (BR_121.out.below hb)
              clear BR_121
              have Ov_154 := Lib.hid (own_below Ov_122.out hb)
              clear Ov_122
              have sz_155 := Lib.hid (Below.size hb)
              clear hb
              refine hK.out _ _ ⟨BJ_150.out.cell (i := 0) rfl, BJ_150.out.cell (i := 1) rfl⟩ (fun _ => ?_)
              clear hK K
              (try simp only [Act.put, List.setIfInBounds_toArray, List.set_cons_zero, List.set_cons_succ])
              refine wpAnyH_ready (rs := [1]) (by kernel_rfl) (by simp) (AllReadyH.cons rfl (fun K hK => ?_) AllReadyH.nil)
              have xr := BR_153.out.cell (i := 4) rfl
              have xl := BR_153.out.lt
              go_simp
              clear xr xl
              refine hK.out _ _ ⟨BJ_150.out.cell (i := 0) rfl, BJ_150.out.cell (i := 1) rfl⟩ (fun _ => ?_)
              clear hK K
              (try simp only [Act.put, List.setIfInBounds_toArray, List.set_cons_zero, List.set_cons_succ])
              refine wpAnyH_ready (rs := [6]) (by kernel_rfl) (by simp) (AllReadyH.cons rfl (fun K hK => ?_) AllReadyH.nil)
              refine step_append_any _ (by rfl) (.tmp 43) (.tmp 47) _ (by rfl) (w.heap.size) 3 i0 _ 1 8 Tryz.underlying28 hi hz0 hz1 hz2 rfl (by omega) (.slice A1 k c1) k (vi (vk k)) (by rfl) Ov_154.out (wc.heap.size + 1) (some ⟨wc.heap.size, 0, none⟩) 1 1 [.int .i64 (firstV p s (k : Int))] (by rfl) (lab_reads _ _ _ _ rfl) (lab_one _) (by simp only [maxLen]; omega) (by omega) (by have := SZB.out; have := HWS.out; have := sz_83.out; have := sz_123.out; have := sz_155.out; omega) ?_
              intro v3 wa3 hown3 hg3 hat3
              obtain ⟨P3, c3, rfl, -⟩ := own_formG hown3
              have HO3 := Lib.hid hown3
              clear hown3 hat3
              have H_156 := Lib.hid (H_148.out.grown hg3 H_148.out.size (fun j hj => by have := (Ov_154.out.lt j hj).1; have := SZB.out; have := HWS.out; have := sz_83.out; have := sz_123.out; have := sz_155.out; omega))
              clear H_148
              have BG_157 := Lib.hid (BG_149.out.grown hg3 (own_kind Ov_154.out BG_149.out (by decide)))
              clear BG_149
              have BJ_158 := Lib.hid (BJ_150.out.grown hg3 (own_kind Ov_154.out BJ_150.out (by decide)))
              clear BJ_150
              have BZ_159 := Lib.hid (BZ_151.out.grown hg3 (own_kind Ov_154.out BZ_151.out (by decide)))
              clear BZ_151
              have Ox_160 := Lib.hid (Ox_152.out.kept hg3 ((own_types Ox_152.out Ov_154.out (by decide)).imp id fun h e => h e.symm))
              clear Ox_152
              have BR_161 := Lib.hid (BR_153.out.grown hg3 (own_kind Ov_154.out BR_153.out (by decide)))
              clear BR_153
              clear Ov_154
              have sz_162 := Lib.hid (World.grownBy.size hg3)
              clear hg3
              refine hK.out _ _ ⟨BJ_158.out.cell (i := 0) rfl, BJ_158.out.cell (i := 1) rfl⟩ (fun _ => ?_)
              clear hK K
              (try simp only [Act.put, List.setIfInBounds_toArray])
              refine wpAnyH_take (i := 7) (oi := ⟨_, _, _, _, _, _⟩) (v := .pointer (some ⟨w3.heap.size + 1, 4, none⟩)) rfl (by kernel_rfl) (by kernel_rfl) (by kernel_rfl) (fun _ _ _ h => h) (Or.inl ⟨by kernel_rfl, fun W hS => by go_simp⟩) ⟨BJ_158.out.cell (i := 0) rfl, BJ_158.out.cell (i := 1) rfl⟩ ?_
              (try simp only [Act.put])
              refine wpAnyH_ready (rs := [8]) (by kernel_rfl) (by simp) (AllReadyH.cons rfl (fun K hK => ?_) AllReadyH.nil)
              have xz := BR_161.out.cell (i := 4) rfl
              have xf := BR_161.out.frozen 4
              have xl := BR_161.out.lt
              go_simp
              clear xz xf xl
              have hg_163 := grown_cell wa3 (w3.heap.size + 1) 4 (.slice P3 (k + 1) c3)
              have H_164 := Lib.hid (H_156.out.grown hg_163 H_156.out.size (fun j hj => by injection hj with hj; have := SZB.out; have := HWS.out; have := sz_83.out; have := sz_123.out; have := sz_155.out; have := sz_162.out; omega))
              clear H_156
              have BG_165 := Lib.hid (BG_157.out.grown hg_163 (by intro e; injection e with e; have := SZB.out; have := HWS.out; have := sz_83.out; have := sz_123.out; have := sz_155.out; have := sz_162.out; omega))
              clear BG_157
              have BJ_166 := Lib.hid (BJ_158.out.grown hg_163 (by intro e; injection e with e; have := SZB.out; have := HWS.out; have := sz_83.out; have := sz_123.out; have := sz_155.out; have := sz_162.out; omega))
              clear BJ_158
              have BZ_167 := Lib.hid (BZ_159.out.grown hg_163 (by intro e; injection e with e; have := SZB.out; have := HWS.out; have := sz_83.out; have := sz_123.out; have := sz_155.out; have := sz_162.out; omega))
              clear BZ_159
              have Ox_168 := Lib.hid (own_kept Ox_160.out hg_163 (own_kind Ox_160.out BR_161.out (by decide)))
              clear Ox_160
              have Ov_169 := Lib.hid (own_kept HO3.out hg_163 (own_kind HO3.out BR_161.out (by decide)))
              clear HO3
              have BR_170 : Hid (Blk (wa3.setCell ⟨w3.heap.size + 1, 4, none⟩ (.slice P3 (k + 1) c3)) (w3.heap.size + 1) #[.int .i64 p, .int .i64 s, .int .i64 0, .bool z, .slice P3 (k + 1) c3, .slice none 0 0, .int .i64 (N : Int), .slice C9 (newX (N : Int) true).length k9] 32) := Lib.hid (Blk.set (BR_161.out) 4 (.slice P3 (k + 1) c3))
              clear BR_161
              have sz_171 := Lib.hid (World.grownBy.size hg_163)
              clear hg_163
              refine hK.out _ _ ⟨BJ_166.out.cell (i := 0) rfl, BJ_166.out.cell (i := 1) rfl⟩ (fun _ => ?_)
              clear hK K
              (try simp only [Act.put])
              refine wpAnyH_done (by kernel_rfl) ?_ _
              go_wp2
              go_roundw
              case rel => exact ⟨k + 1, P3, c3, by omega, by go_num, H_164, BG_165, BJ_166, BZ_167, Ox_168, BR_170, by rw [HV.out]; rw [vi_append]; exact Ov_169⟩
              case measure => simp [intOf]; omega
        · obtain rfl : N = k := by omega
          have x_172 := hBG.out.cell (i := 0) rfl
          have x_173 := hBG.out.cell (i := 1) rfl
          go_wp2_with fail
          refine (CD.out _ hH.out).mono ?_
          rintro e w4 ⟨AD, nD, cD, rfl, hod, hb⟩
          clear x_172
          clear x_173
          have H_174 := Lib.hid (g_chain hH.out hb)
          clear hH
          have BG_175 := Lib.hid (hBG.out.below hb)
          clear hBG
          have BJ_176 := Lib.hid (hBJ.out.below hb)
          clear hBJ
          have BZ_177 := Lib.hid (hBZ.out.below hb)
          clear hBZ
          have Ox_178 := Lib.hid (own_below hOx.out hb)
          clear hOx
          have BR_179 := Lib.hid (hBR.out.below hb)
          clear hBR
          have Ov_180 := Lib.hid (own_below hOv.out hb)
          clear hOv
          have sz_181 := Lib.hid (Below.size hb)
          have hdl := hod.1
          rw [vi_len, HDL.out] at hdl
          obtain rfl : N = nD := by omega
          clear hdl
          have Od_182 := Lib.hid (hod)
          have DLT := Lib.hid (fun g hg => (hod.lt g hg).2)
          have VLT := Lib.hid (fun g hg => (Ov_180.out.lt g hg).2)
          have SZ3 : Hid (w.heap.size ≤ w4.heap.size) := Lib.hid H_174.out.size
          clear hod hb CD
          have x_183 := BG_175.out.cell (i := 0) rfl
          have x_184 := BG_175.out.cell (i := 1) rfl
          have gl := BG_175.out.lt
          go_wp2
          have ODM := Lib.hid (own_monoG Od_182.out (lo' := w.heap.size) (by have := SZ3.out; have := SZB.out; have := HWS.out; have := sz_181.out; omega))
          clear Od_182
          go_loopw [55] (fun i wr => ∃ (k : Nat) (B1 : Option Addr) (d1 : Nat), k ≤ G.length ∧ i = .int .i64 (k : Int) ∧ Hid (Below w.heap.size w wr) ∧ Hid (Blk wr w.heap.size #[.int .i64 (N : Int), .slice AG G.length cG] 25) ∧ Hid (Blk wr (w.heap.size + 1) #[.int .i64 p, .int .i64 s] 27) ∧ Hid (Blk wr (w.heap.size + 2) #[.int .i64 0, .int .i64 0, .int .i64 0, .bool false, .slice none 0 0, .slice none 0 0, .int .i64 0, .slice none 0 0] 32) ∧ Hid (wr.ownsRow w.heap.size 5 1 (.slice C9 (newX (N : Int) true).length k9) (newX (N : Int) true).length (vb (newX (N : Int) true))) ∧ Hid (Blk wr (w3.heap.size + 1) #[.int .i64 p, .int .i64 s, .int .i64 0, .bool z, .slice A1 N c1, .slice B1 k d1, .int .i64 (N : Int), .slice C9 (newX (N : Int) true).length k9] 32) ∧ Hid (wr.ownsRow w.heap.size 3 1 (.slice A1 N c1) N (vi (vk N))) ∧ Hid (wr.ownsRow w.heap.size 3 1 (.slice AD N cD) N (vi (degs GE.f N G))) ∧ Hid (wr.ownsRow w4.heap.size 3 1 (.slice B1 k d1) k (vi (ek k))) ∧ Hid (w4.heap.size ≤ wr.heap.size)) (fun i _ => G.length - (intOf i).toNat)
          case atStart => exact ⟨0, none, 0, Nat.zero_le _, rfl, H_174, BG_175, BJ_176, BZ_177, Ox_178, BR_179, Ov_180, ODM, by rw [HE0.out]; exact Lib.hid (World.ownsRow_nil _ _ _ _), Lib.hid (Nat.le_refl _)⟩
          case round =>
            clear x_183 x_184 gl H_174 BG_175 BJ_176 BZ_177 Ox_178 BR_179 Ov_180 ODM
            clear HWS sz_181
            obtain ⟨k, B1, d1, hk, rfl, hH, hBG, hBJ, hBZ, hOx, hBR, hOv, hOd, hOe, hS3⟩ := hrel
            have hhz := SZB.out
            have HWS := Lib.hid hH.out.size
            have hs3 := SZ3.out
            have hs4 := hS3.out
            by_cases hlt : k < G.length
            · skip
              obtain ⟨gb, go, eg, rfl, hgbw, heg, z0, z1, z2⟩ := HGG.out.at_ hlt
              have hed := edgeB_iff (HGB.out.2.2.2 eg (List.mem_of_getElem? heg.out))
              obtain ⟨f, hf⟩ : ∃ f : Nat, eg.f = (f : Int) := ⟨eg.f.toNat, by omega⟩
              have hfN : f < N := by omega
              have hfM : f < N * 1 := by omega
              obtain ⟨x, hx, -, -⟩ := HDA.out f hfN
              have HEN := Lib.hid (HES.out k f eg x heg.out hf hx)
              have HDX : Hid ((vi (degs GE.f N G))[f]? = some (.int .i64 x)) := Lib.hid (by rw [vi_get, hx]; rfl)
              have y0 := (hH.out.cell (p := ⟨gb, go + k * 3, none⟩) hgbw).trans z0
              have y1 := (hH.out.cell (p := ⟨gb, go + k * 3 + 1, none⟩) hgbw).trans z1
              have y2 := (hH.out.cell (p := ⟨gb, go + k * 3 + 2, none⟩) hgbw).trans z2
              rw [hf] at y0
              have hbw : gb < wr.heap.size := Nat.lt_of_lt_of_le hgbw hH.out.size
              obtain ⟨gD, rfl⟩ := g_own_at hOd.out (by omega)
              obtain ⟨et, hlet⟩ : ∃ et, eg.t = et := ⟨_, rfl⟩
              obtain ⟨ew, hlew⟩ : ∃ ew, eg.w = ew := ⟨_, rfl⟩
              rw [hlet] at y1 HEN
              rw [hlew] at y2
              clear z0 z1 z2 hed hx hlet hlew heg hf
              have hb_186 := below_a1 wr (.cells #[.int .i64 (f : Int), .int .i64 et, .int .i64 ew] 113)
              have sz_187 : Hid (wr.heap.size = wr.heap.size) := Lib.hid (by simp)
              have sz_188 := Lib.hid hBG.out.lt
              have sz_189 := Lib.hid hBJ.out.lt
              have sz_190 := Lib.hid hBZ.out.lt
              have LT_191 := Lib.hid hOx.out.lt
              have sz_192 := Lib.hid hBR.out.lt
              have LT_193 := Lib.hid hOv.out.lt
              have LT_194 := Lib.hid hOd.out.lt
              have LT_195 := Lib.hid hOe.out.lt
              have H_196 := Lib.hid (g_chain hH.out hb_186)
              clear hH
              have BG_197 := Lib.hid (hBG.out.below hb_186)
              clear hBG
              have BJ_198 := Lib.hid (hBJ.out.below hb_186)
              clear hBJ
              have BZ_199 := Lib.hid (hBZ.out.below hb_186)
              clear hBZ
              have Ox_200 := Lib.hid (own_below hOx.out hb_186)
              clear hOx
              have BR_201 := Lib.hid (hBR.out.below hb_186)
              clear hBR
              have Ov_202 := Lib.hid (own_below hOv.out hb_186)
              clear hOv
              have Od_203 := Lib.hid (own_below hOd.out hb_186)
              clear hOd
              have Oe_204 := Lib.hid (own_below hOe.out hb_186)
              clear hOe
              have sz_205 := Lib.hid (Below.size hb_186)
              clear hb_186
              have BE_206 : Hid (Blk (wr.alloc (.cells #[.int .i64 (f : Int), .int .i64 et, .int .i64 ew] 113)) (wr.heap.size) #[.int .i64 (f : Int), .int .i64 et, .int .i64 ew] 113) := Lib.hid (by have h := Blk.new wr #[.int .i64 (f : Int), .int .i64 et, .int .i64 ew] 113; simpa using h)
              have sz_207 : Hid (wr.heap.size + 1 ≤ (wr.alloc (.cells #[.int .i64 (f : Int), .int .i64 et, .int .i64 ew] 113)).heap.size) := Lib.hid (by simp)
              go_upto_region 13 with fail
              clear y0 y1 y2
              refine wp_region_any (by kernel_rfl) ?_
              change wpAny _ _ _ _ _ _ _ (World.drew _)
              have hb : Below (wr.alloc (.cells #[.int .i64 (f : Int), .int .i64 et, .int .i64 ew] 113)).heap.size (wr.alloc (.cells #[.int .i64 (f : Int), .int .i64 et, .int .i64 ew] 113)) (World.drew (wr.alloc (.cells #[.int .i64 (f : Int), .int .i64 et, .int .i64 ew] 113))) := (Below.refl _ _).drew
              have H_208 := Lib.hid (g_chain H_196.out hb)
              clear H_196
              have BG_209 := Lib.hid (BG_197.out.below hb)
              clear BG_197
              have BJ_210 := Lib.hid (BJ_198.out.below hb)
              clear BJ_198
              have BZ_211 := Lib.hid (BZ_199.out.below hb)
              clear BZ_199
              have Ox_212 := Lib.hid (own_below Ox_200.out hb)
              clear Ox_200
              have BR_213 := Lib.hid (BR_201.out.below hb)
              clear BR_201
              have Ov_214 := Lib.hid (own_below Ov_202.out hb)
              clear Ov_202
              have Od_215 := Lib.hid (own_below Od_203.out hb)
              clear Od_203
              have Oe_216 := Lib.hid (own_below Oe_204.out hb)
              clear Oe_204
              have BE_217 := Lib.hid (BE_206.out.below hb)
              clear BE_206
              have sz_218 := Lib.hid (Below.size hb)
              clear hb
              generalize hDD : World.drew (wr.alloc (.cells #[.int .i64 (f : Int), .int .i64 et, .int .i64 ew] 113)) = wd at H_208 BG_209 BJ_210 BZ_211 Ox_212 BR_213 Ov_214 Od_215 Oe_216 BE_217 sz_218 ⊢
              clear hDD
              refine wpAny_of_held (S := fun W => W.cell? ⟨w.heap.size + 1, 0, none⟩ = some (.int .i64 p) ∧ W.cell? ⟨w.heap.size + 1, 1, none⟩ = some (.int .i64 s) ∧ W.cell? ⟨wr.heap.size, 0, none⟩ = some (.int .i64 (f : Int)) ∧ W.cell? ⟨wr.heap.size, 1, none⟩ = some (.int .i64 et) ∧ W.cell? ⟨wr.heap.size, 2, none⟩ = some (.int .i64 ew) ∧ W.cell? ⟨gD, f, none⟩ = some (.int .i64 x)) _ _ _ _ ?_
              refine wpAnyH_take (i := 0) (oi := ⟨_, _, _, _, _, _⟩) (v := .pointer (some ⟨w3.heap.size + 1, 5, none⟩)) rfl (by kernel_rfl) (by kernel_rfl) (by kernel_rfl) (fun _ _ _ h => h) (Or.inl ⟨by kernel_rfl, fun W hS => by (obtain ⟨s0, s1, s2, s3, s4, s5⟩ := hS); go_simp⟩) ⟨BJ_210.out.cell (i := 0) rfl, BJ_210.out.cell (i := 1) rfl, BE_217.out.cell (i := 0) rfl, BE_217.out.cell (i := 1) rfl, BE_217.out.cell (i := 2) rfl, (Od_215.out.cellAt f hfM).trans HDX.out⟩ ?_
              (try simp only [Act.put, List.setIfInBounds_toArray, List.set_cons_zero, List.set_cons_succ])
              refine wpAnyH_take (i := 2) (oi := ⟨_, _, _, _, _, _⟩) (v := .agg #[.int .i64 p, .int .i64 s]) rfl (by kernel_rfl) (by kernel_rfl) (by kernel_rfl) (fun _ _ _ h => h) (Or.inl ⟨by kernel_rfl, fun W hS => by (obtain ⟨s0, s1, s2, s3, s4, s5⟩ := hS); go_simp⟩) ⟨BJ_210.out.cell (i := 0) rfl, BJ_210.out.cell (i := 1) rfl, BE_217.out.cell (i := 0) rfl, BE_217.out.cell (i := 1) rfl, BE_217.out.cell (i := 2) rfl, (Od_215.out.cellAt f hfM).trans HDX.out⟩ ?_
              (try simp only [Act.put, List.setIfInBounds_toArray, List.set_cons_zero, List.set_cons_succ])
              refine wpAnyH_take (i := 3) (oi := ⟨_, _, _, _, _, _⟩) (v := .pointer (some ⟨wr.heap.size, 0, none⟩)) rfl (by kernel_rfl) (by kernel_rfl) (by kernel_rfl) (fun _ _ _ h => h) (Or.inl ⟨by kernel_rfl, fun W hS => by (obtain ⟨s0, s1, s2, s3, s4, s5⟩ := hS); go_simp⟩) ⟨BJ_210.out.cell (i := 0) rfl, BJ_210.out.cell (i := 1) rfl, BE_217.out.cell (i := 0) rfl, BE_217.out.cell (i := 1) rfl, BE_217.out.cell (i := 2) rfl, (Od_215.out.cellAt f hfM).trans HDX.out⟩ ?_
              (try simp only [Act.put, List.setIfInBounds_toArray, List.set_cons_zero, List.set_cons_succ])
              refine wpAnyH_take (i := 4) (oi := ⟨_, _, _, _, _, _⟩) (v := .int .i64 (f : Int)) rfl (by kernel_rfl) (by kernel_rfl) (by kernel_rfl) (fun _ _ _ h => h) (Or.inl ⟨by kernel_rfl, fun W hS => by (obtain ⟨s0, s1, s2, s3, s4, s5⟩ := hS); go_simp⟩) ⟨BJ_210.out.cell (i := 0) rfl, BJ_210.out.cell (i := 1) rfl, BE_217.out.cell (i := 0) rfl, BE_217.out.cell (i := 1) rfl, BE_217.out.cell (i := 2) rfl, (Od_215.out.cellAt f hfM).trans HDX.out⟩ ?_
              (try simp only [Act.put, List.setIfInBounds_toArray, List.set_cons_zero, List.set_cons_succ])
              refine wpAnyH_take (i := 5) (oi := ⟨_, _, _, _, _, _⟩) (v := .pointer (some ⟨wr.heap.size, 1, none⟩)) rfl (by kernel_rfl) (by kernel_rfl) (by kernel_rfl) (fun _ _ _ h => h) (Or.inl ⟨by kernel_rfl, fun W hS => by (obtain ⟨s0, s1, s2, s3, s4, s5⟩ := hS); go_simp⟩) ⟨BJ_210.out.cell (i := 0) rfl, BJ_210.out.cell (i := 1) rfl, BE_217.out.cell (i := 0) rfl, BE_217.out.cell (i := 1) rfl, BE_217.out.cell (i := 2) rfl, (Od_215.out.cellAt f hfM).trans HDX.out⟩ ?_
              (try simp only [Act.put, List.setIfInBounds_toArray, List.set_cons_zero, List.set_cons_succ])
              refine wpAnyH_take (i := 6) (oi := ⟨_, _, _, _, _, _⟩) (v := .int .i64 et) rfl (by kernel_rfl) (by kernel_rfl) (by kernel_rfl) (fun _ _ _ h => h) (Or.inl ⟨by kernel_rfl, fun W hS => by (obtain ⟨s0, s1, s2, s3, s4, s5⟩ := hS); go_simp⟩) ⟨BJ_210.out.cell (i := 0) rfl, BJ_210.out.cell (i := 1) rfl, BE_217.out.cell (i := 0) rfl, BE_217.out.cell (i := 1) rfl, BE_217.out.cell (i := 2) rfl, (Od_215.out.cellAt f hfM).trans HDX.out⟩ ?_
              (try simp only [Act.put, List.setIfInBounds_toArray, List.set_cons_zero, List.set_cons_succ])
              refine wpAnyH_take (i := 7) (oi := ⟨_, _, _, _, _, _⟩) (v := .slice (some ⟨gD, 0, none⟩) N cD) rfl (by kernel_rfl) (by kernel_rfl) (by kernel_rfl) (fun _ _ _ h => h) (Or.inl ⟨by kernel_rfl, fun W hS => by (obtain ⟨s0, s1, s2, s3, s4, s5⟩ := hS); go_simp⟩) ⟨BJ_210.out.cell (i := 0) rfl, BJ_210.out.cell (i := 1) rfl, BE_217.out.cell (i := 0) rfl, BE_217.out.cell (i := 1) rfl, BE_217.out.cell (i := 2) rfl, (Od_215.out.cellAt f hfM).trans HDX.out⟩ ?_
              (try simp only [Act.put, List.setIfInBounds_toArray, List.set_cons_zero, List.set_cons_succ])
              refine wpAnyH_take (i := 8) (oi := ⟨_, _, _, _, _, _⟩) (v := .pointer (some ⟨wr.heap.size, 0, none⟩)) rfl (by kernel_rfl) (by kernel_rfl) (by kernel_rfl) (fun _ _ _ h => h) (Or.inl ⟨by kernel_rfl, fun W hS => by (obtain ⟨s0, s1, s2, s3, s4, s5⟩ := hS); go_simp⟩) ⟨BJ_210.out.cell (i := 0) rfl, BJ_210.out.cell (i := 1) rfl, BE_217.out.cell (i := 0) rfl, BE_217.out.cell (i := 1) rfl, BE_217.out.cell (i := 2) rfl, (Od_215.out.cellAt f hfM).trans HDX.out⟩ ?_
              (try simp only [Act.put, List.setIfInBounds_toArray, List.set_cons_zero, List.set_cons_succ])
              refine wpAnyH_take (i := 9) (oi := ⟨_, _, _, _, _, _⟩) (v := .int .i64 (f : Int)) rfl (by kernel_rfl) (by kernel_rfl) (by kernel_rfl) (fun _ _ _ h => h) (Or.inl ⟨by kernel_rfl, fun W hS => by (obtain ⟨s0, s1, s2, s3, s4, s5⟩ := hS); go_simp⟩) ⟨BJ_210.out.cell (i := 0) rfl, BJ_210.out.cell (i := 1) rfl, BE_217.out.cell (i := 0) rfl, BE_217.out.cell (i := 1) rfl, BE_217.out.cell (i := 2) rfl, (Od_215.out.cellAt f hfM).trans HDX.out⟩ ?_
              (try simp only [Act.put, List.setIfInBounds_toArray, List.set_cons_zero, List.set_cons_succ])
              refine wpAnyH_take (i := 10) (oi := ⟨_, _, _, _, _, _⟩) (v := .pointer (some ⟨gD, f, none⟩)) rfl (by kernel_rfl) (by kernel_rfl) (by kernel_rfl) (fun _ _ _ h => h) (Or.inl ⟨by kernel_rfl, fun W hS => by (obtain ⟨s0, s1, s2, s3, s4, s5⟩ := hS); go_simp⟩) ⟨BJ_210.out.cell (i := 0) rfl, BJ_210.out.cell (i := 1) rfl, BE_217.out.cell (i := 0) rfl, BE_217.out.cell (i := 1) rfl, BE_217.out.cell (i := 2) rfl, (Od_215.out.cellAt f hfM).trans HDX.out⟩ ?_
              (try simp only [Act.put, List.setIfInBounds_toArray, List.set_cons_zero, List.set_cons_succ])
              refine wpAnyH_take (i := 11) (oi := ⟨_, _, _, _, _, _⟩) (v := .int .i64 x) rfl (by kernel_rfl) (by kernel_rfl) (by kernel_rfl) (fun _ _ _ h => h) (Or.inl ⟨by kernel_rfl, fun W hS => by (obtain ⟨s0, s1, s2, s3, s4, s5⟩ := hS); go_simp⟩) ⟨BJ_210.out.cell (i := 0) rfl, BJ_210.out.cell (i := 1) rfl, BE_217.out.cell (i := 0) rfl, BE_217.out.cell (i := 1) rfl, BE_217.out.cell (i := 2) rfl, (Od_215.out.cellAt f hfM).trans HDX.out⟩ ?_
              (try simp only [Act.put, List.setIfInBounds_toArray, List.set_cons_zero, List.set_cons_succ])
              refine wpAnyH_ready (rs := [1, 12]) (by kernel_rfl) (by simp) (AllReadyH.cons rfl (fun K hK => ?_) (AllReadyH.cons rfl (fun K hK => ?_) AllReadyH.nil))
              · skip
                have xr := BR_213.out.cell (i := 5) rfl
                have xl := BR_213.out.lt
                go_simp
                clear xr xl
                refine hK.out _ _ ⟨BJ_210.out.cell (i := 0) rfl, BJ_210.out.cell (i := 1) rfl, BE_217.out.cell (i := 0) rfl, BE_217.out.cell (i := 1) rfl, BE_217.out.cell (i := 2) rfl, (Od_215.out.cellAt f hfM).trans HDX.out⟩ (fun _ => ?_)
                clear hK K
                (try simp only [Act.put, List.setIfInBounds_toArray, List.set_cons_zero, List.set_cons_succ])
                refine wpAnyH_ready (rs := [12]) (by kernel_rfl) (by simp) (AllReadyH.cons rfl (fun K hK => ?_) AllReadyH.nil)
                go_simp
                go_at_call 107
                refine (CE.out (f : Int) et x _).mono ?_
                rintro e wc ⟨rfl, hb⟩
                have H_219 := Lib.hid (g_chain H_208.out hb)
                clear H_208
                have BG_220 := Lib.hid (BG_209.out.below hb)
                clear BG_209
                have BJ_221 := Lib.hid (BJ_210.out.below hb)
                clear BJ_210
                have BZ_222 := Lib.hid (BZ_211.out.below hb)
                clear BZ_211
                have Ox_223 := Lib.hid (own_below Ox_212.out hb)
                clear Ox_212
                have BR_224 := Lib.hid (BR_213.out.below hb)
                clear BR_213
                have Ov_225 := Lib.hid (own_below Ov_214.out hb)
                clear Ov_214
                have Od_226 := Lib.hid (own_below Od_215.out hb)
                clear Od_215
                have Oe_227 := Lib.hid (own_below Oe_216.out hb)
                clear Oe_216
                have BE_228 := Lib.hid (BE_217.out.below hb)
                clear BE_217
                have sz_229 := Lib.hid (Below.size hb)
                clear hb
                dsimp only
                refine hK.out _ _ ⟨BJ_221.out.cell (i := 0) rfl, BJ_221.out.cell (i := 1) rfl, BE_228.out.cell (i := 0) rfl, BE_228.out.cell (i := 1) rfl, BE_228.out.cell (i := 2) rfl, (Od_226.out.cellAt f hfM).trans HDX.out⟩ (fun _ => ?_)
                clear hK K
                (try simp only [Act.put, List.setIfInBounds_toArray, List.set_cons_zero, List.set_cons_succ])
                refine wpAnyH_ready (rs := [13]) (by kernel_rfl) (by simp) (AllReadyH.cons rfl (fun K hK => ?_) AllReadyH.nil)
                go_simp
                have hb := below_a1 wc (.cells #[.int .i64 (firstE p (f : Int) et x)] 3)
                have H_230 := Lib.hid (g_chain H_219.out hb)
                clear H_219
                have BG_231 := Lib.hid (BG_220.out.below hb)
                clear BG_220
                have BJ_232 := Lib.hid (BJ_221.out.below hb)
                clear BJ_221
                have BZ_233 := Lib.hid (BZ_222.out.below hb)
                clear BZ_222
                have Ox_234 := Lib.hid (own_below Ox_223.out hb)
                clear Ox_223
                have BR_235 := Lib.hid (BR_224.out.below hb)
                clear BR_224
                have Ov_236 := Lib.hid (own_below Ov_225.out hb)
                clear Ov_225
                have Od_237 := Lib.hid (own_below Od_226.out hb)
                clear Od_226
                have Oe_238 := Lib.hid (own_below Oe_227.out hb)
                clear Oe_227
                have BE_239 := Lib.hid (BE_228.out.below hb)
                clear BE_228
                have sz_240 := Lib.hid (Below.size hb)
                clear hb
                refine hK.out _ _ ⟨BJ_232.out.cell (i := 0) rfl, BJ_232.out.cell (i := 1) rfl, BE_239.out.cell (i := 0) rfl, BE_239.out.cell (i := 1) rfl, BE_239.out.cell (i := 2) rfl, (Od_237.out.cellAt f hfM).trans HDX.out⟩ (fun _ => ?_)
                clear hK K
                (try simp only [Act.put, List.setIfInBounds_toArray, List.set_cons_zero, List.set_cons_succ])
                refine wpAnyH_ready (rs := [14]) (by kernel_rfl) (by simp) (AllReadyH.cons rfl (fun K hK => ?_) AllReadyH.nil)
                refine step_append_any _ (by rfl) (.tmp 60) (.tmp 72) _ (by rfl) (w4.heap.size) 3 i0 _ 1 8 Tryz.underlying28 hi hz0 hz1 hz2 rfl (by omega) (.slice B1 k d1) k (vi (ek k)) (by rfl) Oe_238.out (wc.heap.size + 1) (some ⟨wc.heap.size, 0, none⟩) 1 1 [.int .i64 (firstE p (f : Int) et x)] (by rfl) (lab_reads _ _ _ _ rfl) (lab_one _) (by simp only [maxLen]; omega) (by omega) (by have := SZB.out; have := HWS.out; have := SZ3.out; have := hS3.out; have := sz_187.out; have := sz_188.out; have := sz_189.out; have := sz_190.out; have := sz_192.out; have := sz_205.out; have := sz_207.out; have := sz_218.out; have := sz_229.out; have := sz_240.out; omega) ?_
                intro v3 wa3 hown3 hg3 hat3
                obtain ⟨P3, c3, rfl, -⟩ := own_formG hown3
                have HO3 := Lib.hid hown3
                clear hown3 hat3
                have H_241 := Lib.hid (H_230.out.grown hg3 H_230.out.size (fun j hj => by have := (Oe_238.out.lt j hj).1; have := SZB.out; have := HWS.out; have := SZ3.out; have := hS3.out; have := sz_187.out; have := sz_188.out; have := sz_189.out; have := sz_190.out; have := sz_192.out; have := sz_205.out; have := sz_207.out; have := sz_218.out; have := sz_229.out; have := sz_240.out; omega))
                clear H_230
                have BG_242 := Lib.hid (BG_231.out.grown hg3 (own_kind Oe_238.out BG_231.out (by decide)))
                clear BG_231
                have BJ_243 := Lib.hid (BJ_232.out.grown hg3 (own_kind Oe_238.out BJ_232.out (by decide)))
                clear BJ_232
                have BZ_244 := Lib.hid (BZ_233.out.grown hg3 (own_kind Oe_238.out BZ_233.out (by decide)))
                clear BZ_233
                have Ox_245 := Lib.hid (Ox_234.out.kept hg3 ((own_types Ox_234.out Oe_238.out (by decide)).imp id fun h e => h e.symm))
                clear Ox_234
                have BR_246 := Lib.hid (BR_235.out.grown hg3 (own_kind Oe_238.out BR_235.out (by decide)))
                clear BR_235
                have Ov_247 := Lib.hid (Ov_236.out.kept hg3 (rows_far VLT.out (fun g hg => (Oe_238.out.lt g hg).1)))
                clear Ov_236
                have Od_248 := Lib.hid (Od_237.out.kept hg3 (rows_far DLT.out (fun g hg => (Oe_238.out.lt g hg).1)))
                clear Od_237
                have BE_249 := Lib.hid (BE_239.out.grown hg3 (own_kind Oe_238.out BE_239.out (by decide)))
                clear BE_239
                clear Oe_238
                have sz_250 := Lib.hid (World.grownBy.size hg3)
                clear hg3
                refine hK.out _ _ ⟨BJ_243.out.cell (i := 0) rfl, BJ_243.out.cell (i := 1) rfl, BE_249.out.cell (i := 0) rfl, BE_249.out.cell (i := 1) rfl, BE_249.out.cell (i := 2) rfl, (Od_248.out.cellAt f hfM).trans HDX.out⟩ (fun _ => ?_)
                clear hK K
                (try simp only [Act.put, List.setIfInBounds_toArray])
                refine wpAnyH_take (i := 15) (oi := ⟨_, _, _, _, _, _⟩) (v := .pointer (some ⟨w3.heap.size + 1, 5, none⟩)) rfl (by kernel_rfl) (by kernel_rfl) (by kernel_rfl) (fun _ _ _ h => h) (Or.inl ⟨by kernel_rfl, fun W hS => by go_simp⟩) ⟨BJ_243.out.cell (i := 0) rfl, BJ_243.out.cell (i := 1) rfl, BE_249.out.cell (i := 0) rfl, BE_249.out.cell (i := 1) rfl, BE_249.out.cell (i := 2) rfl, (Od_248.out.cellAt f hfM).trans HDX.out⟩ ?_
                (try simp only [Act.put])
                refine wpAnyH_ready (rs := [16]) (by kernel_rfl) (by simp) (AllReadyH.cons rfl (fun K hK => ?_) AllReadyH.nil)
                have xz := BR_246.out.cell (i := 5) rfl
                have xf := BR_246.out.frozen 5
                have xl := BR_246.out.lt
                go_simp
                clear xz xf xl
                have hg_251 := grown_cell wa3 (w3.heap.size + 1) 5 (.slice P3 (k + 1) c3)
                have H_252 := Lib.hid (H_241.out.grown hg_251 H_241.out.size (fun j hj => by injection hj with hj; have := SZB.out; have := HWS.out; have := SZ3.out; have := hS3.out; have := sz_187.out; have := sz_188.out; have := sz_189.out; have := sz_190.out; have := sz_192.out; have := sz_205.out; have := sz_207.out; have := sz_218.out; have := sz_229.out; have := sz_240.out; have := sz_250.out; omega))
                clear H_241
                have BG_253 := Lib.hid (BG_242.out.grown hg_251 (by intro e; injection e with e; have := SZB.out; have := HWS.out; have := SZ3.out; have := hS3.out; have := sz_187.out; have := sz_188.out; have := sz_189.out; have := sz_190.out; have := sz_192.out; have := sz_205.out; have := sz_207.out; have := sz_218.out; have := sz_229.out; have := sz_240.out; have := sz_250.out; omega))
                clear BG_242
                have BJ_254 := Lib.hid (BJ_243.out.grown hg_251 (by intro e; injection e with e; have := SZB.out; have := HWS.out; have := SZ3.out; have := hS3.out; have := sz_187.out; have := sz_188.out; have := sz_189.out; have := sz_190.out; have := sz_192.out; have := sz_205.out; have := sz_207.out; have := sz_218.out; have := sz_229.out; have := sz_240.out; have := sz_250.out; omega))
                clear BJ_243
                have BZ_255 := Lib.hid (BZ_244.out.grown hg_251 (by intro e; injection e with e; have := SZB.out; have := HWS.out; have := SZ3.out; have := hS3.out; have := sz_187.out; have := sz_188.out; have := sz_189.out; have := sz_190.out; have := sz_192.out; have := sz_205.out; have := sz_207.out; have := sz_218.out; have := sz_229.out; have := sz_240.out; have := sz_250.out; omega))
                clear BZ_244
                have Ox_256 := Lib.hid (own_kept Ox_245.out hg_251 (own_kind Ox_245.out BR_246.out (by decide)))
                clear Ox_245
                have Ov_257 := Lib.hid (own_kept Ov_247.out hg_251 (own_kind Ov_247.out BR_246.out (by decide)))
                clear Ov_247
                have Od_258 := Lib.hid (own_kept Od_248.out hg_251 (own_kind Od_248.out BR_246.out (by decide)))
                clear Od_248
                have Oe_259 := Lib.hid (own_kept HO3.out hg_251 (own_kind HO3.out BR_246.out (by decide)))
                clear HO3
                have BE_260 := Lib.hid (BE_249.out.grown hg_251 (by intro e; injection e with e; have := SZB.out; have := HWS.out; have := SZ3.out; have := hS3.out; have := sz_187.out; have := sz_188.out; have := sz_189.out; have := sz_190.out; have := sz_192.out; have := sz_205.out; have := sz_207.out; have := sz_218.out; have := sz_229.out; have := sz_240.out; have := sz_250.out; omega))
                clear BE_249
                have BR_261 : Hid (Blk (wa3.setCell ⟨w3.heap.size + 1, 5, none⟩ (.slice P3 (k + 1) c3)) (w3.heap.size + 1) #[.int .i64 p, .int .i64 s, .int .i64 0, .bool z, .slice A1 N c1, .slice P3 (k + 1) c3, .int .i64 (N : Int), .slice C9 (newX (N : Int) true).length k9] 32) := Lib.hid (Blk.set (BR_246.out) 5 (.slice P3 (k + 1) c3))
                clear BR_246
                have sz_262 := Lib.hid (World.grownBy.size hg_251)
                clear hg_251
                refine hK.out _ _ ⟨BJ_254.out.cell (i := 0) rfl, BJ_254.out.cell (i := 1) rfl, BE_260.out.cell (i := 0) rfl, BE_260.out.cell (i := 1) rfl, BE_260.out.cell (i := 2) rfl, (Od_258.out.cellAt f hfM).trans HDX.out⟩ (fun _ => ?_)
                clear hK K
                (try simp only [Act.put])
                refine wpAnyH_done (by kernel_rfl) ?_ _
                go_wp2
                go_roundw
                case rel => exact ⟨k + 1, P3, c3, by omega, by go_num, H_252, BG_253, BJ_254, BZ_255, Ox_256, BR_261, Ov_257, Od_258, by rw [HEN.out]; rw [vi_append]; exact Oe_259, Lib.hid (by have := SZB.out; have := HWS.out; have := SZ3.out; have := hS3.out; have := sz_187.out; have := sz_188.out; have := sz_189.out; have := sz_190.out; have := sz_192.out; have := sz_205.out; have := sz_207.out; have := sz_218.out; have := sz_229.out; have := sz_240.out; have := sz_250.out; have := sz_262.out; omega)⟩
                case measure => simp [intOf]; omega
              · skip
                go_simp
                go_at_call 107
                refine (CE.out (f : Int) et x _).mono ?_
                rintro e wc ⟨rfl, hb⟩
                have H_263 := Lib.hid (g_chain H_208.out hb)
                clear H_208
                have BG_264 := Lib.hid (BG_209.out.below hb)
                clear BG_209
                have BJ_265 := Lib.hid (BJ_210.out.below hb)
                clear BJ_210
                have BZ_266 := Lib.hid (BZ_211.out.below hb)
                clear BZ_211
                have Ox_267 := Lib.hid (own_below Ox_212.out hb)
                clear Ox_212
                have BR_268 := Lib.hid (BR_213.out.below hb)
                clear BR_213
                have Ov_269 := Lib.hid (own_below Ov_214.out hb)
                clear Ov_214
                have Od_270 := Lib.hid (own_below Od_215.out hb)
                clear Od_215
                have Oe_271 := Lib.hid (own_below Oe_216.out hb)
                clear Oe_216
                have BE_272 := Lib.hid (BE_217.out.below hb)
                clear BE_217
                have sz_273 := Lib.hid (Below.size hb)
                clear hb
                dsimp only
                refine hK.out _ _ ⟨BJ_265.out.cell (i := 0) rfl, BJ_265.out.cell (i := 1) rfl, BE_272.out.cell (i := 0) rfl, BE_272.out.cell (i := 1) rfl, BE_272.out.cell (i := 2) rfl, (Od_270.out.cellAt f hfM).trans HDX.out⟩ (fun _ => ?_)
                clear hK K
                (try simp only [Act.put, List.setIfInBounds_toArray, List.set_cons_zero, List.set_cons_succ])
                refine wpAnyH_ready (rs := [1, 13]) (by kernel_rfl) (by simp) (AllReadyH.cons rfl (fun K hK => ?_) (AllReadyH.cons rfl (fun K hK => ?_) AllReadyH.nil))
                · skip
                  have xr := BR_268.out.cell (i := 5) rfl
                  have xl := BR_268.out.lt
                  go_simp
                  clear xr xl
                  refine hK.out _ _ ⟨BJ_265.out.cell (i := 0) rfl, BJ_265.out.cell (i := 1) rfl, BE_272.out.cell (i := 0) rfl, BE_272.out.cell (i := 1) rfl, BE_272.out.cell (i := 2) rfl, (Od_270.out.cellAt f hfM).trans HDX.out⟩ (fun _ => ?_)
                  clear hK K
                  (try simp only [Act.put, List.setIfInBounds_toArray, List.set_cons_zero, List.set_cons_succ])
                  refine wpAnyH_ready (rs := [13]) (by kernel_rfl) (by simp) (AllReadyH.cons rfl (fun K hK => ?_) AllReadyH.nil)
                  go_simp
                  have hb := below_a1 wc (.cells #[.int .i64 (firstE p (f : Int) et x)] 3)
                  have H_274 := Lib.hid (g_chain H_263.out hb)
                  clear H_263
                  have BG_275 := Lib.hid (BG_264.out.below hb)
                  clear BG_264
                  have BJ_276 := Lib.hid (BJ_265.out.below hb)
                  clear BJ_265
                  have BZ_277 := Lib.hid (BZ_266.out.below hb)
                  clear BZ_266
                  have Ox_278 := Lib.hid (own_below Ox_267.out hb)
                  clear Ox_267
                  have BR_279 := Lib.hid (BR_268.out.below hb)
                  clear BR_268
                  have Ov_280 := Lib.hid (own_below Ov_269.out hb)
                  clear Ov_269
                  have Od_281 := Lib.hid (own_below Od_270.out hb)
                  clear Od_270
                  have Oe_282 := Lib.hid (own_below Oe_271.out hb)
                  clear Oe_271
                  have BE_283 := Lib.hid (BE_272.out.below hb)
                  clear BE_272
                  have sz_284 := Lib.hid (Below.size hb)
                  clear hb
                  refine hK.out _ _ ⟨BJ_276.out.cell (i := 0) rfl, BJ_276.out.cell (i := 1) rfl, BE_283.out.cell (i := 0) rfl, BE_283.out.cell (i := 1) rfl, BE_283.out.cell (i := 2) rfl, (Od_281.out.cellAt f hfM).trans HDX.out⟩ (fun _ => ?_)
                  clear hK K
                  (try simp only [Act.put, List.setIfInBounds_toArray, List.set_cons_zero, List.set_cons_succ])
                  refine wpAnyH_ready (rs := [14]) (by kernel_rfl) (by simp) (AllReadyH.cons rfl (fun K hK => ?_) AllReadyH.nil)
                  refine step_append_any _ (by rfl) (.tmp 60) (.tmp 72) _ (by rfl) (w4.heap.size) 3 i0 _ 1 8 Tryz.underlying28 hi hz0 hz1 hz2 rfl (by omega) (.slice B1 k d1) k (vi (ek k)) (by rfl) Oe_282.out (wc.heap.size + 1) (some ⟨wc.heap.size, 0, none⟩) 1 1 [.int .i64 (firstE p (f : Int) et x)] (by rfl) (lab_reads _ _ _ _ rfl) (lab_one _) (by simp only [maxLen]; omega) (by omega) (by have := SZB.out; have := HWS.out; have := SZ3.out; have := hS3.out; have := sz_187.out; have := sz_188.out; have := sz_189.out; have := sz_190.out; have := sz_192.out; have := sz_205.out; have := sz_207.out; have := sz_218.out; have := sz_273.out; have := sz_284.out; omega) ?_
                  intro v3 wa3 hown3 hg3 hat3
                  obtain ⟨P3, c3, rfl, -⟩ := own_formG hown3
                  have HO3 := Lib.hid hown3
                  clear hown3 hat3
                  have H_285 := Lib.hid (H_274.out.grown hg3 H_274.out.size (fun j hj => by have := (Oe_282.out.lt j hj).1; have := SZB.out; have := HWS.out; have := SZ3.out; have := hS3.out; have := sz_187.out; have := sz_188.out; have := sz_189.out; have := sz_190.out; have := sz_192.out; have := sz_205.out; have := sz_207.out; have := sz_218.out; have := sz_273.out; have := sz_284.out; omega))
                  clear H_274
                  have BG_286 := Lib.hid (BG_275.out.grown hg3 (own_kind Oe_282.out BG_275.out (by decide)))
                  clear BG_275
                  have BJ_287 := Lib.hid (BJ_276.out.grown hg3 (own_kind Oe_282.out BJ_276.out (by decide)))
                  clear BJ_276
                  have BZ_288 := Lib.hid (BZ_277.out.grown hg3 (own_kind Oe_282.out BZ_277.out (by decide)))
                  clear BZ_277
                  have Ox_289 := Lib.hid (Ox_278.out.kept hg3 ((own_types Ox_278.out Oe_282.out (by decide)).imp id fun h e => h e.symm))
                  clear Ox_278
                  have BR_290 := Lib.hid (BR_279.out.grown hg3 (own_kind Oe_282.out BR_279.out (by decide)))
                  clear BR_279
                  have Ov_291 := Lib.hid (Ov_280.out.kept hg3 (rows_far VLT.out (fun g hg => (Oe_282.out.lt g hg).1)))
                  clear Ov_280
                  have Od_292 := Lib.hid (Od_281.out.kept hg3 (rows_far DLT.out (fun g hg => (Oe_282.out.lt g hg).1)))
                  clear Od_281
                  have BE_293 := Lib.hid (BE_283.out.grown hg3 (own_kind Oe_282.out BE_283.out (by decide)))
                  clear BE_283
                  clear Oe_282
                  have sz_294 := Lib.hid (World.grownBy.size hg3)
                  clear hg3
                  refine hK.out _ _ ⟨BJ_287.out.cell (i := 0) rfl, BJ_287.out.cell (i := 1) rfl, BE_293.out.cell (i := 0) rfl, BE_293.out.cell (i := 1) rfl, BE_293.out.cell (i := 2) rfl, (Od_292.out.cellAt f hfM).trans HDX.out⟩ (fun _ => ?_)
                  clear hK K
                  (try simp only [Act.put, List.setIfInBounds_toArray])
                  refine wpAnyH_take (i := 15) (oi := ⟨_, _, _, _, _, _⟩) (v := .pointer (some ⟨w3.heap.size + 1, 5, none⟩)) rfl (by kernel_rfl) (by kernel_rfl) (by kernel_rfl) (fun _ _ _ h => h) (Or.inl ⟨by kernel_rfl, fun W hS => by go_simp⟩) ⟨BJ_287.out.cell (i := 0) rfl, BJ_287.out.cell (i := 1) rfl, BE_293.out.cell (i := 0) rfl, BE_293.out.cell (i := 1) rfl, BE_293.out.cell (i := 2) rfl, (Od_292.out.cellAt f hfM).trans HDX.out⟩ ?_
                  (try simp only [Act.put])
                  refine wpAnyH_ready (rs := [16]) (by kernel_rfl) (by simp) (AllReadyH.cons rfl (fun K hK => ?_) AllReadyH.nil)
                  have xz := BR_290.out.cell (i := 5) rfl
                  have xf := BR_290.out.frozen 5
                  have xl := BR_290.out.lt
                  go_simp
                  clear xz xf xl
                  have hg_295 := grown_cell wa3 (w3.heap.size + 1) 5 (.slice P3 (k + 1) c3)
                  have H_296 := Lib.hid (H_285.out.grown hg_295 H_285.out.size (fun j hj => by injection hj with hj; have := SZB.out; have := HWS.out; have := SZ3.out; have := hS3.out; have := sz_187.out; have := sz_188.out; have := sz_189.out; have := sz_190.out; have := sz_192.out; have := sz_205.out; have := sz_207.out; have := sz_218.out; have := sz_273.out; have := sz_284.out; have := sz_294.out; omega))
                  clear H_285
                  have BG_297 := Lib.hid (BG_286.out.grown hg_295 (by intro e; injection e with e; have := SZB.out; have := HWS.out; have := SZ3.out; have := hS3.out; have := sz_187.out; have := sz_188.out; have := sz_189.out; have := sz_190.out; have := sz_192.out; have := sz_205.out; have := sz_207.out; have := sz_218.out; have := sz_273.out; have := sz_284.out; have := sz_294.out; omega))
                  clear BG_286
                  have BJ_298 := Lib.hid (BJ_287.out.grown hg_295 (by intro e; injection e with e; have := SZB.out; have := HWS.out; have := SZ3.out; have := hS3.out; have := sz_187.out; have := sz_188.out; have := sz_189.out; have := sz_190.out; have := sz_192.out; have := sz_205.out; have := sz_207.out; have := sz_218.out; have := sz_273.out; have := sz_284.out; have := sz_294.out; omega))
                  clear BJ_287
                  have BZ_299 := Lib.hid (BZ_288.out.grown hg_295 (by intro e; injection e with e; have := SZB.out; have := HWS.out; have := SZ3.out; have := hS3.out; have := sz_187.out; have := sz_188.out; have := sz_189.out; have := sz_190.out; have := sz_192.out; have := sz_205.out; have := sz_207.out; have := sz_218.out; have := sz_273.out; have := sz_284.out; have := sz_294.out; omega))
                  clear BZ_288
                  have Ox_300 := Lib.hid (own_kept Ox_289.out hg_295 (own_kind Ox_289.out BR_290.out (by decide)))
                  clear Ox_289
                  have Ov_301 := Lib.hid (own_kept Ov_291.out hg_295 (own_kind Ov_291.out BR_290.out (by decide)))
                  clear Ov_291
                  have Od_302 := Lib.hid (own_kept Od_292.out hg_295 (own_kind Od_292.out BR_290.out (by decide)))
                  clear Od_292
                  have Oe_303 := Lib.hid (own_kept HO3.out hg_295 (own_kind HO3.out BR_290.out (by decide)))
                  clear HO3
                  have BE_304 := Lib.hid (BE_293.out.grown hg_295 (by intro e; injection e with e; have := SZB.out; have := HWS.out; have := SZ3.out; have := hS3.out; have := sz_187.out; have := sz_188.out; have := sz_189.out; have := sz_190.out; have := sz_192.out; have := sz_205.out; have := sz_207.out; have := sz_218.out; have := sz_273.out; have := sz_284.out; have := sz_294.out; omega))
                  clear BE_293
                  have BR_305 : Hid (Blk (wa3.setCell ⟨w3.heap.size + 1, 5, none⟩ (.slice P3 (k + 1) c3)) (w3.heap.size + 1) #[.int .i64 p, .int .i64 s, .int .i64 0, .bool z, .slice A1 N c1, .slice P3 (k + 1) c3, .int .i64 (N : Int), .slice C9 (newX (N : Int) true).length k9] 32) := Lib.hid (Blk.set (BR_290.out) 5 (.slice P3 (k + 1) c3))
                  clear BR_290
                  have sz_306 := Lib.hid (World.grownBy.size hg_295)
                  clear hg_295
                  refine hK.out _ _ ⟨BJ_298.out.cell (i := 0) rfl, BJ_298.out.cell (i := 1) rfl, BE_304.out.cell (i := 0) rfl, BE_304.out.cell (i := 1) rfl, BE_304.out.cell (i := 2) rfl, (Od_302.out.cellAt f hfM).trans HDX.out⟩ (fun _ => ?_)
                  clear hK K
                  (try simp only [Act.put])
                  refine wpAnyH_done (by kernel_rfl) ?_ _
                  go_wp2
                  go_roundw
                  case rel => exact ⟨k + 1, P3, c3, by omega, by go_num, H_296, BG_297, BJ_298, BZ_299, Ox_300, BR_305, Ov_301, Od_302, by rw [HEN.out]; rw [vi_append]; exact Oe_303, Lib.hid (by have := SZB.out; have := HWS.out; have := SZ3.out; have := hS3.out; have := sz_187.out; have := sz_188.out; have := sz_189.out; have := sz_190.out; have := sz_192.out; have := sz_205.out; have := sz_207.out; have := sz_218.out; have := sz_273.out; have := sz_284.out; have := sz_294.out; have := sz_306.out; omega)⟩
                  case measure => simp [intOf]; omega
                · skip
                  go_simp
                  have hb := below_a1 wc (.cells #[.int .i64 (firstE p (f : Int) et x)] 3)
                  have H_307 := Lib.hid (g_chain H_263.out hb)
                  clear H_263
                  have BG_308 := Lib.hid (BG_264.out.below hb)
                  clear BG_264
                  have BJ_309 := Lib.hid (BJ_265.out.below hb)
                  clear BJ_265
                  have BZ_310 := Lib.hid (BZ_266.out.below hb)
                  clear BZ_266
                  have Ox_311 := Lib.hid (own_below Ox_267.out hb)
                  clear Ox_267
                  have BR_312 := Lib.hid (BR_268.out.below hb)
                  clear BR_268
                  have Ov_313 := Lib.hid (own_below Ov_269.out hb)
                  clear Ov_269
                  have Od_314 := Lib.hid (own_below Od_270.out hb)
                  clear Od_270
                  have Oe_315 := Lib.hid (own_below Oe_271.out hb)
                  clear Oe_271
                  have BE_316 := Lib.hid (BE_272.out.below hb)
                  clear BE_272
                  have sz_317 := Lib.hid (Below.size hb)
                  clear hb
                  refine hK.out _ _ ⟨BJ_309.out.cell (i := 0) rfl, BJ_309.out.cell (i := 1) rfl, BE_316.out.cell (i := 0) rfl, BE_316.out.cell (i := 1) rfl, BE_316.out.cell (i := 2) rfl, (Od_314.out.cellAt f hfM).trans HDX.out⟩ (fun _ => ?_)
                  clear hK K
                  (try simp only [Act.put, List.setIfInBounds_toArray, List.set_cons_zero, List.set_cons_succ])
                  refine wpAnyH_ready (rs := [1]) (by kernel_rfl) (by simp) (AllReadyH.cons rfl (fun K hK => ?_) AllReadyH.nil)
                  have xr := BR_312.out.cell (i := 5) rfl
                  have xl := BR_312.out.lt
                  go_simp
                  clear xr xl
                  refine hK.out _ _ ⟨BJ_309.out.cell (i := 0) rfl, BJ_309.out.cell (i := 1) rfl, BE_316.out.cell (i := 0) rfl, BE_316.out.cell (i := 1) rfl, BE_316.out.cell (i := 2) rfl, (Od_314.out.cellAt f hfM).trans HDX.out⟩ (fun _ => ?_)
                  clear hK K
                  (try simp only [Act.put, List.setIfInBounds_toArray, List.set_cons_zero, List.set_cons_succ])
                  refine wpAnyH_ready (rs := [14]) (by kernel_rfl) (by simp) (AllReadyH.cons rfl (fun K hK => ?_) AllReadyH.nil)
                  refine step_append_any _ (by rfl) (.tmp 60) (.tmp 72) _ (by rfl) (w4.heap.size) 3 i0 _ 1 8 Tryz.underlying28 hi hz0 hz1 hz2 rfl (by omega) (.slice B1 k d1) k (vi (ek k)) (by rfl) Oe_315.out (wc.heap.size + 1) (some ⟨wc.heap.size, 0, none⟩) 1 1 [.int .i64 (firstE p (f : Int) et x)] (by rfl) (lab_reads _ _ _ _ rfl) (lab_one _) (by simp only [maxLen]; omega) (by omega) (by have := SZB.out; have := HWS.out; have := SZ3.out; have := hS3.out; have := sz_187.out; have := sz_188.out; have := sz_189.out; have := sz_190.out; have := sz_192.out; have := sz_205.out; have := sz_207.out; have := sz_218.out; have := sz_273.out; have := sz_317.out; omega) ?_
                  intro v3 wa3 hown3 hg3 hat3
                  obtain ⟨P3, c3, rfl, -⟩ := own_formG hown3
                  have HO3 := Lib.hid hown3
                  clear hown3 hat3
                  have H_318 := Lib.hid (H_307.out.grown hg3 H_307.out.size (fun j hj => by have := (Oe_315.out.lt j hj).1; have := SZB.out; have := HWS.out; have := SZ3.out; have := hS3.out; have := sz_187.out; have := sz_188.out; have := sz_189.out; have := sz_190.out; have := sz_192.out; have := sz_205.out; have := sz_207.out; have := sz_218.out; have := sz_273.out; have := sz_317.out; omega))
                  clear H_307
                  have BG_319 := Lib.hid (BG_308.out.grown hg3 (own_kind Oe_315.out BG_308.out (by decide)))
                  clear BG_308
                  have BJ_320 := Lib.hid (BJ_309.out.grown hg3 (own_kind Oe_315.out BJ_309.out (by decide)))
                  clear BJ_309
                  have BZ_321 := Lib.hid (BZ_310.out.grown hg3 (own_kind Oe_315.out BZ_310.out (by decide)))
                  clear BZ_310
                  have Ox_322 := Lib.hid (Ox_311.out.kept hg3 ((own_types Ox_311.out Oe_315.out (by decide)).imp id fun h e => h e.symm))
                  clear Ox_311
                  have BR_323 := Lib.hid (BR_312.out.grown hg3 (own_kind Oe_315.out BR_312.out (by decide)))
                  clear BR_312
                  have Ov_324 := Lib.hid (Ov_313.out.kept hg3 (rows_far VLT.out (fun g hg => (Oe_315.out.lt g hg).1)))
                  clear Ov_313
                  have Od_325 := Lib.hid (Od_314.out.kept hg3 (rows_far DLT.out (fun g hg => (Oe_315.out.lt g hg).1)))
                  clear Od_314
                  have BE_326 := Lib.hid (BE_316.out.grown hg3 (own_kind Oe_315.out BE_316.out (by decide)))
                  clear BE_316
                  clear Oe_315
                  have sz_327 := Lib.hid (World.grownBy.size hg3)
                  clear hg3
                  refine hK.out _ _ ⟨BJ_320.out.cell (i := 0) rfl, BJ_320.out.cell (i := 1) rfl, BE_326.out.cell (i := 0) rfl, BE_326.out.cell (i := 1) rfl, BE_326.out.cell (i := 2) rfl, (Od_325.out.cellAt f hfM).trans HDX.out⟩ (fun _ => ?_)
                  clear hK K
                  (try simp only [Act.put, List.setIfInBounds_toArray])
                  refine wpAnyH_take (i := 15) (oi := ⟨_, _, _, _, _, _⟩) (v := .pointer (some ⟨w3.heap.size + 1, 5, none⟩)) rfl (by kernel_rfl) (by kernel_rfl) (by kernel_rfl) (fun _ _ _ h => h) (Or.inl ⟨by kernel_rfl, fun W hS => by go_simp⟩) ⟨BJ_320.out.cell (i := 0) rfl, BJ_320.out.cell (i := 1) rfl, BE_326.out.cell (i := 0) rfl, BE_326.out.cell (i := 1) rfl, BE_326.out.cell (i := 2) rfl, (Od_325.out.cellAt f hfM).trans HDX.out⟩ ?_
                  (try simp only [Act.put])
                  refine wpAnyH_ready (rs := [16]) (by kernel_rfl) (by simp) (AllReadyH.cons rfl (fun K hK => ?_) AllReadyH.nil)
                  have xz := BR_323.out.cell (i := 5) rfl
                  have xf := BR_323.out.frozen 5
                  have xl := BR_323.out.lt
                  go_simp
                  clear xz xf xl
                  have hg_328 := grown_cell wa3 (w3.heap.size + 1) 5 (.slice P3 (k + 1) c3)
                  have H_329 := Lib.hid (H_318.out.grown hg_328 H_318.out.size (fun j hj => by injection hj with hj; have := SZB.out; have := HWS.out; have := SZ3.out; have := hS3.out; have := sz_187.out; have := sz_188.out; have := sz_189.out; have := sz_190.out; have := sz_192.out; have := sz_205.out; have := sz_207.out; have := sz_218.out; have := sz_273.out; have := sz_317.out; have := sz_327.out; omega))
                  clear H_318
                  have BG_330 := Lib.hid (BG_319.out.grown hg_328 (by intro e; injection e with e; have := SZB.out; have := HWS.out; have := SZ3.out; have := hS3.out; have := sz_187.out; have := sz_188.out; have := sz_189.out; have := sz_190.out; have := sz_192.out; have := sz_205.out; have := sz_207.out; have := sz_218.out; have := sz_273.out; have := sz_317.out; have := sz_327.out; omega))
                  clear BG_319
                  have BJ_331 := Lib.hid (BJ_320.out.grown hg_328 (by intro e; injection e with e; have := SZB.out; have := HWS.out; have := SZ3.out; have := hS3.out; have := sz_187.out; have := sz_188.out; have := sz_189.out; have := sz_190.out; have := sz_192.out; have := sz_205.out; have := sz_207.out; have := sz_218.out; have := sz_273.out; have := sz_317.out; have := sz_327.out; omega))
                  clear BJ_320
                  have BZ_332 := Lib.hid (BZ_321.out.grown hg_328 (by intro e; injection e with e; have := SZB.out; have := HWS.out; have := SZ3.out; have := hS3.out; have := sz_187.out; have := sz_188.out; have := sz_189.out; have := sz_190.out; have := sz_192.out; have := sz_205.out; have := sz_207.out; have := sz_218.out; have := sz_273.out; have := sz_317.out; have := sz_327.out; omega))
                  clear BZ_321
                  have Ox_333 := Lib.hid (own_kept Ox_322.out hg_328 (own_kind Ox_322.out BR_323.out (by decide)))
                  clear Ox_322
                  have Ov_334 := Lib.hid (own_kept Ov_324.out hg_328 (own_kind Ov_324.out BR_323.out (by decide)))
                  clear Ov_324
                  have Od_335 := Lib.hid (own_kept Od_325.out hg_328 (own_kind Od_325.out BR_323.out (by decide)))
                  clear Od_325
                  have Oe_336 := Lib.hid (own_kept HO3.out hg_328 (own_kind HO3.out BR_323.out (by decide)))
                  clear HO3
                  have BE_337 := Lib.hid (BE_326.out.grown hg_328 (by intro e; injection e with e; have := SZB.out; have := HWS.out; have := SZ3.out; have := hS3.out; have := sz_187.out; have := sz_188.out; have := sz_189.out; have := sz_190.out; have := sz_192.out; have := sz_205.out; have := sz_207.out; have := sz_218.out; have := sz_273.out; have := sz_317.out; have := sz_327.out; omega))
                  clear BE_326
                  have BR_338 : Hid (Blk (wa3.setCell ⟨w3.heap.size + 1, 5, none⟩ (.slice P3 (k + 1) c3)) (w3.heap.size + 1) #[.int .i64 p, .int .i64 s, .int .i64 0, .bool z, .slice A1 N c1, .slice P3 (k + 1) c3, .int .i64 (N : Int), .slice C9 (newX (N : Int) true).length k9] 32) := Lib.hid (Blk.set (BR_323.out) 5 (.slice P3 (k + 1) c3))
                  clear BR_323
                  have sz_339 := Lib.hid (World.grownBy.size hg_328)
                  clear hg_328
                  refine hK.out _ _ ⟨BJ_331.out.cell (i := 0) rfl, BJ_331.out.cell (i := 1) rfl, BE_337.out.cell (i := 0) rfl, BE_337.out.cell (i := 1) rfl, BE_337.out.cell (i := 2) rfl, (Od_335.out.cellAt f hfM).trans HDX.out⟩ (fun _ => ?_)
                  clear hK K
                  (try simp only [Act.put])
                  refine wpAnyH_done (by kernel_rfl) ?_ _
                  go_wp2
                  go_roundw
                  case rel => exact ⟨k + 1, P3, c3, by omega, by go_num, H_329, BG_330, BJ_331, BZ_332, Ox_333, BR_338, Ov_334, Od_335, by rw [HEN.out]; rw [vi_append]; exact Oe_336, Lib.hid (by have := SZB.out; have := HWS.out; have := SZ3.out; have := hS3.out; have := sz_187.out; have := sz_188.out; have := sz_189.out; have := sz_190.out; have := sz_192.out; have := sz_205.out; have := sz_207.out; have := sz_218.out; have := sz_273.out; have := sz_317.out; have := sz_327.out; have := sz_339.out; omega)⟩
                  case measure => simp [intOf]; omega
            · obtain rfl : k = G.length := by omega
              have x_340 := hBR.out.cell (i := 0) rfl
              have x_341 := hBR.out.cell (i := 1) rfl
              have x_342 := hBR.out.cell (i := 2) rfl
              have x_343 := hBR.out.cell (i := 3) rfl
              have x_344 := hBR.out.cell (i := 4) rfl
              have x_345 := hBR.out.cell (i := 5) rfl
              have x_346 := hBR.out.cell (i := 6) rfl
              have x_347 := hBR.out.cell (i := 7) rfl
              have fz_348 := fun i => hBR.out.frozen i
              have lt_349 := hBR.out.lt
              have x_350 := hBZ.out.cell (i := 0) rfl
              have x_351 := hBZ.out.cell (i := 1) rfl
              have x_352 := hBZ.out.cell (i := 2) rfl
              have x_353 := hBZ.out.cell (i := 3) rfl
              have x_354 := hBZ.out.cell (i := 4) rfl
              have x_355 := hBZ.out.cell (i := 5) rfl
              have x_356 := hBZ.out.cell (i := 6) rfl
              have x_357 := hBZ.out.cell (i := 7) rfl
              have fz_358 := fun i => hBZ.out.frozen i
              have lt_359 := hBZ.out.lt
              go_wp2
              clear x_340 x_341 x_342 x_343 x_344 x_345 x_346 x_347 fz_348 lt_349 x_350 x_351 x_352 x_353 x_354 x_355 x_356 x_357 fz_358 lt_359
              have VAP := rows_ap (v1 := .slice A1 N c1) (v2 := .slice B1 G.length d1) VLT.out (fun g hg => (hOe.out.lt g hg).1)
              have hg_360 := (((((((grown_cell wr (w.heap.size + 2) 0 (.int .i64 p)).trans (grown_cell (wr.setCell ⟨w.heap.size + 2, 0, none⟩ (.int .i64 p)) (w.heap.size + 2) 1 (.int .i64 s))).trans (grown_cell ((wr.setCell ⟨w.heap.size + 2, 0, none⟩ (.int .i64 p)).setCell ⟨w.heap.size + 2, 1, none⟩ (.int .i64 s)) (w.heap.size + 2) 2 (.int .i64 0))).trans (grown_cell (((wr.setCell ⟨w.heap.size + 2, 0, none⟩ (.int .i64 p)).setCell ⟨w.heap.size + 2, 1, none⟩ (.int .i64 s)).setCell ⟨w.heap.size + 2, 2, none⟩ (.int .i64 0)) (w.heap.size + 2) 3 (.bool z))).trans (grown_cell ((((wr.setCell ⟨w.heap.size + 2, 0, none⟩ (.int .i64 p)).setCell ⟨w.heap.size + 2, 1, none⟩ (.int .i64 s)).setCell ⟨w.heap.size + 2, 2, none⟩ (.int .i64 0)).setCell ⟨w.heap.size + 2, 3, none⟩ (.bool z)) (w.heap.size + 2) 4 (.slice A1 N c1))).trans (grown_cell (((((wr.setCell ⟨w.heap.size + 2, 0, none⟩ (.int .i64 p)).setCell ⟨w.heap.size + 2, 1, none⟩ (.int .i64 s)).setCell ⟨w.heap.size + 2, 2, none⟩ (.int .i64 0)).setCell ⟨w.heap.size + 2, 3, none⟩ (.bool z)).setCell ⟨w.heap.size + 2, 4, none⟩ (.slice A1 N c1)) (w.heap.size + 2) 5 (.slice B1 G.length d1))).trans (grown_cell ((((((wr.setCell ⟨w.heap.size + 2, 0, none⟩ (.int .i64 p)).setCell ⟨w.heap.size + 2, 1, none⟩ (.int .i64 s)).setCell ⟨w.heap.size + 2, 2, none⟩ (.int .i64 0)).setCell ⟨w.heap.size + 2, 3, none⟩ (.bool z)).setCell ⟨w.heap.size + 2, 4, none⟩ (.slice A1 N c1)).setCell ⟨w.heap.size + 2, 5, none⟩ (.slice B1 G.length d1)) (w.heap.size + 2) 6 (.int .i64 (N : Int)))).trans (grown_cell (((((((wr.setCell ⟨w.heap.size + 2, 0, none⟩ (.int .i64 p)).setCell ⟨w.heap.size + 2, 1, none⟩ (.int .i64 s)).setCell ⟨w.heap.size + 2, 2, none⟩ (.int .i64 0)).setCell ⟨w.heap.size + 2, 3, none⟩ (.bool z)).setCell ⟨w.heap.size + 2, 4, none⟩ (.slice A1 N c1)).setCell ⟨w.heap.size + 2, 5, none⟩ (.slice B1 G.length d1)).setCell ⟨w.heap.size + 2, 6, none⟩ (.int .i64 (N : Int))) (w.heap.size + 2) 7 (.slice C9 (newX (N : Int) true).length k9))
              have H_361 := Lib.hid (hH.out.grown hg_360 hH.out.size (fun j hj => by injection hj with hj; have := SZB.out; have := HWS.out; have := SZ3.out; have := hS3.out; omega))
              clear hH
              have BG_362 := Lib.hid (hBG.out.grown hg_360 (by intro e; injection e with e; have := SZB.out; have := HWS.out; have := SZ3.out; have := hS3.out; omega))
              clear hBG
              have BJ_363 := Lib.hid (hBJ.out.grown hg_360 (by intro e; injection e with e; have := SZB.out; have := HWS.out; have := SZ3.out; have := hS3.out; omega))
              clear hBJ
              have Ox_364 := Lib.hid (own_kept hOx.out hg_360 (own_kind hOx.out hBZ.out (by decide)))
              clear hOx
              have BR_365 := Lib.hid (hBR.out.grown hg_360 (by intro e; injection e with e; have := SZB.out; have := HWS.out; have := SZ3.out; have := hS3.out; omega))
              clear hBR
              have Ov_366 := Lib.hid (own_kept hOv.out hg_360 (own_kind hOv.out hBZ.out (by decide)))
              clear hOv
              have Od_367 := Lib.hid (own_kept hOd.out hg_360 (own_kind hOd.out hBZ.out (by decide)))
              clear hOd
              have Oe_368 := Lib.hid (own_kept hOe.out hg_360 (own_kind hOe.out hBZ.out (by decide)))
              clear hOe
              have BZ_369 : Hid (Blk ((((((((wr.setCell ⟨w.heap.size + 2, 0, none⟩ (.int .i64 p)).setCell ⟨w.heap.size + 2, 1, none⟩ (.int .i64 s)).setCell ⟨w.heap.size + 2, 2, none⟩ (.int .i64 0)).setCell ⟨w.heap.size + 2, 3, none⟩ (.bool z)).setCell ⟨w.heap.size + 2, 4, none⟩ (.slice A1 N c1)).setCell ⟨w.heap.size + 2, 5, none⟩ (.slice B1 G.length d1)).setCell ⟨w.heap.size + 2, 6, none⟩ (.int .i64 (N : Int))).setCell ⟨w.heap.size + 2, 7, none⟩ (.slice C9 (newX (N : Int) true).length k9)) (w.heap.size + 2) #[.int .i64 p, .int .i64 s, .int .i64 0, .bool z, .slice A1 N c1, .slice B1 G.length d1, .int .i64 (N : Int), .slice C9 (newX (N : Int) true).length k9] 32) := Lib.hid (Blk.set (Blk.set (Blk.set (Blk.set (Blk.set (Blk.set (Blk.set (Blk.set (hBZ.out) 0 (.int .i64 p)) 1 (.int .i64 s)) 2 (.int .i64 0)) 3 (.bool z)) 4 (.slice A1 N c1)) 5 (.slice B1 G.length d1)) 6 (.int .i64 (N : Int))) 7 (.slice C9 (newX (N : Int) true).length k9))
              clear hBZ
              have sz_370 := Lib.hid (World.grownBy.size hg_360)
              clear hg_360
              obtain ⟨-, y0, y1, y2, y3, y4, y5, y6, y7⟩ := BZ_369.out.eight
              refine bodyPost_ret (v := .tuple #[.agg #[.int .i64 p, .int .i64 s, .int .i64 0, .bool z, .slice A1 N c1, .slice B1 G.length d1, .int .i64 (N : Int), .slice C9 (newX (N : Int) true).length k9], .bool true]) (by simp [results, Tryz.results80, go_sem, y0, y1, y2, y3, y4, y5, y6, y7]) rfl ?_
              have hv := HVL.out N
              have he := HEL.out G.length (Nat.le_refl _)
              refine ⟨A1, c1, B1, d1, C9, k9, by simp only [hv, he], ⟨?_, ?_, ?_, ?_⟩, H_361.out⟩
              · simp only [hv]; exact Ov_366.out
              · simp only [he]; exact own_monoG Oe_368.out (by have := SZB.out; have := HWS.out; have := SZ3.out; have := hS3.out; have := sz_370.out; omega)
              · exact own_monoG Ox_364.out (by have := SZB.out; have := HWS.out; have := SZ3.out; have := hS3.out; have := sz_370.out; omega)
              · simp only [hv, he]; exact VAP
end Go.Proofs.YtlhcobkncceodaaGreatDoor
