/- The contract of the program's RunNew. Condition: at most 2^20 edges. -/
import Derived.Test.YtlhcobkncceodaaDoorCGD
import Derived.Test.YtlhcobkncceodaaDoorCGB
import Derived.Test.YtlhcobkncceodaaDoorKProgJ
import Derived.Test.YtlhcobkncceodaaDoorCGE
import Derived.RegionTactic
import Derived.Deep.RegionWith
import Derived.BigRegion
import Derived.Deep.Cut
import Derived.Deep.RegionLaw
import Derived.Deep.RegionHeld3
namespace Go.Proofs.YtlhcobkncceodaaDoor
open Go.RowKit
set_option linter.unusedVariables false

set_option maxRecDepth 20000 in
set_option maxHeartbeats 16000000 in
theorem implRunNew (N : Int) (AG : Option Addr) (l cG : Nat) (G : List GE) (p s : Int) (w : World) (hw : Wts w) (hg : SlG w AG l G) (hl : l ≤ 1048576) :
    Calls Tryd.prog 15 #[.agg #[.int .i64 N, .slice AG l cG], .agg #[.int .i64 p, .int .i64 s]] w (MadeRB w (newO N G p s) (newB' N G p s)) := by
  obtain ⟨i0, hi, hz0, hz1, hz2⟩ := info_parts Tryd.infoInt
  have hgl := hg.len
  subst hgl
  have CG := Lib.hid (fun W (h : Below w.heap.size w W) => implGraphOk N AG G.length cG G W (hg.below h) hl)
  have CD := Lib.hid (fun W (h : Below w.heap.size w W) => implOut N AG G.length cG G W (hg.below h) hl)
  have CJ := Lib.hid (fun W => implJobOk N p s W)
  have CV := Lib.hid (fun v W => implFirstVal p s v W)
  have CE := Lib.hid (fun f t d W => implFirstEdge p s f t d W)
  unfold MadeI at CD
  unfold GTell at CG
  have HGG := Lib.hid hg
  unfold newO newB'
  have HWW := Lib.hid hw
  clear hw
  clear hg
  cases hb0 : graphB N G with
  | false =>
    rw [hb0] at CG
    simp only [Bool.false_and, Bool.false_eq_true, if_false]
    clear hb0 CD CJ CV CE
    have H_1 := Lib.hid (g_chain (g_chain (g_chain (Below.refl w.heap.size w) (below_a1 w (.cells #[.int .i64 N, .slice AG G.length cG] 38))) (below_a1 (w.alloc (.cells #[.int .i64 N, .slice AG G.length cG] 38)) (.cells #[.int .i64 p, .int .i64 s] 40))) (below_a1 ((w.alloc (.cells #[.int .i64 N, .slice AG G.length cG] 38)).alloc (.cells #[.int .i64 p, .int .i64 s] 40)) (.cells #[.int .i64 0, .int .i64 0, .int .i64 0, .bool false, .slice none 0 0, .slice none 0 0, .int .i64 0, .slice none 0 0] 43)))
    have BG_2 : Hid (Blk (((w.alloc (.cells #[.int .i64 N, .slice AG G.length cG] 38)).alloc (.cells #[.int .i64 p, .int .i64 s] 40)).alloc (.cells #[.int .i64 0, .int .i64 0, .int .i64 0, .bool false, .slice none 0 0, .slice none 0 0, .int .i64 0, .slice none 0 0] 43)) (w.heap.size) #[.int .i64 N, .slice AG G.length cG] 38) := Lib.hid (by have h := ((Blk.new w #[.int .i64 N, .slice AG G.length cG] 38).alloc (.cells #[.int .i64 p, .int .i64 s] 40)).alloc (.cells #[.int .i64 0, .int .i64 0, .int .i64 0, .bool false, .slice none 0 0, .slice none 0 0, .int .i64 0, .slice none 0 0] 43); simpa [Nat.add_assoc] using h)
    have BJ_3 : Hid (Blk (((w.alloc (.cells #[.int .i64 N, .slice AG G.length cG] 38)).alloc (.cells #[.int .i64 p, .int .i64 s] 40)).alloc (.cells #[.int .i64 0, .int .i64 0, .int .i64 0, .bool false, .slice none 0 0, .slice none 0 0, .int .i64 0, .slice none 0 0] 43)) (w.heap.size + 1) #[.int .i64 p, .int .i64 s] 40) := Lib.hid (by have h := (Blk.new (w.alloc (.cells #[.int .i64 N, .slice AG G.length cG] 38)) #[.int .i64 p, .int .i64 s] 40).alloc (.cells #[.int .i64 0, .int .i64 0, .int .i64 0, .bool false, .slice none 0 0, .slice none 0 0, .int .i64 0, .slice none 0 0] 43); simpa [Nat.add_assoc] using h)
    have BZ_4 : Hid (Blk (((w.alloc (.cells #[.int .i64 N, .slice AG G.length cG] 38)).alloc (.cells #[.int .i64 p, .int .i64 s] 40)).alloc (.cells #[.int .i64 0, .int .i64 0, .int .i64 0, .bool false, .slice none 0 0, .slice none 0 0, .int .i64 0, .slice none 0 0] 43)) (w.heap.size + 2) #[.int .i64 0, .int .i64 0, .int .i64 0, .bool false, .slice none 0 0, .slice none 0 0, .int .i64 0, .slice none 0 0] 43) := Lib.hid (by have h := Blk.new ((w.alloc (.cells #[.int .i64 N, .slice AG G.length cG] 38)).alloc (.cells #[.int .i64 p, .int .i64 s] 40)) #[.int .i64 0, .int .i64 0, .int .i64 0, .bool false, .slice none 0 0, .slice none 0 0, .int .i64 0, .slice none 0 0] 43; simpa [Nat.add_assoc] using h)
    have sz0 : Hid (w.heap.size + 3 ≤ (((w.alloc (.cells #[.int .i64 N, .slice AG G.length cG] 38)).alloc (.cells #[.int .i64 p, .int .i64 s] 40)).alloc (.cells #[.int .i64 0, .int .i64 0, .int .i64 0, .bool false, .slice none 0 0, .slice none 0 0, .int .i64 0, .slice none 0 0] 43)).heap.size) := Lib.hid (by simp)
    go_enter Tryd.func15, Tryd.ntmps15
    have x_5 := BG_2.out.cell (i := 0) rfl
    have x_6 := BG_2.out.cell (i := 1) rfl
    have x_7 := BJ_3.out.cell (i := 0) rfl
    have x_8 := BJ_3.out.cell (i := 1) rfl
    go_wp2_with fail
    refine (CG.out _ H_1.out).mono ?_
    rintro e w1 ⟨rfl, hb⟩
    clear x_5
    clear x_6
    clear x_7
    clear x_8
    have H_9 := Lib.hid (g_chain H_1.out hb)
    clear H_1
    have BG_10 := Lib.hid (BG_2.out.below hb)
    clear BG_2
    have BJ_11 := Lib.hid (BJ_3.out.below hb)
    clear BJ_3
    have BZ_12 := Lib.hid (BZ_4.out.below hb)
    clear BZ_4
    have sz_13 := Lib.hid (Below.size hb)
    clear hb
    have x_14 := BZ_12.out.cell (i := 0) rfl
    have x_15 := BZ_12.out.cell (i := 1) rfl
    have x_16 := BZ_12.out.cell (i := 2) rfl
    have x_17 := BZ_12.out.cell (i := 3) rfl
    have x_18 := BZ_12.out.cell (i := 4) rfl
    have x_19 := BZ_12.out.cell (i := 5) rfl
    have x_20 := BZ_12.out.cell (i := 6) rfl
    have x_21 := BZ_12.out.cell (i := 7) rfl
    have fz_22 := fun i => BZ_12.out.frozen i
    have lt_23 := BZ_12.out.lt
    go_wp2
    have hg_24 := (((((((grown_cell w1 (w.heap.size + 2) 0 (.int .i64 0)).trans (grown_cell (w1.setCell ⟨w.heap.size + 2, 0, none⟩ (.int .i64 0)) (w.heap.size + 2) 1 (.int .i64 0))).trans (grown_cell ((w1.setCell ⟨w.heap.size + 2, 0, none⟩ (.int .i64 0)).setCell ⟨w.heap.size + 2, 1, none⟩ (.int .i64 0)) (w.heap.size + 2) 2 (.int .i64 0))).trans (grown_cell (((w1.setCell ⟨w.heap.size + 2, 0, none⟩ (.int .i64 0)).setCell ⟨w.heap.size + 2, 1, none⟩ (.int .i64 0)).setCell ⟨w.heap.size + 2, 2, none⟩ (.int .i64 0)) (w.heap.size + 2) 3 (.bool false))).trans (grown_cell ((((w1.setCell ⟨w.heap.size + 2, 0, none⟩ (.int .i64 0)).setCell ⟨w.heap.size + 2, 1, none⟩ (.int .i64 0)).setCell ⟨w.heap.size + 2, 2, none⟩ (.int .i64 0)).setCell ⟨w.heap.size + 2, 3, none⟩ (.bool false)) (w.heap.size + 2) 4 (.slice none 0 0))).trans (grown_cell (((((w1.setCell ⟨w.heap.size + 2, 0, none⟩ (.int .i64 0)).setCell ⟨w.heap.size + 2, 1, none⟩ (.int .i64 0)).setCell ⟨w.heap.size + 2, 2, none⟩ (.int .i64 0)).setCell ⟨w.heap.size + 2, 3, none⟩ (.bool false)).setCell ⟨w.heap.size + 2, 4, none⟩ (.slice none 0 0)) (w.heap.size + 2) 5 (.slice none 0 0))).trans (grown_cell ((((((w1.setCell ⟨w.heap.size + 2, 0, none⟩ (.int .i64 0)).setCell ⟨w.heap.size + 2, 1, none⟩ (.int .i64 0)).setCell ⟨w.heap.size + 2, 2, none⟩ (.int .i64 0)).setCell ⟨w.heap.size + 2, 3, none⟩ (.bool false)).setCell ⟨w.heap.size + 2, 4, none⟩ (.slice none 0 0)).setCell ⟨w.heap.size + 2, 5, none⟩ (.slice none 0 0)) (w.heap.size + 2) 6 (.int .i64 0))).trans (grown_cell (((((((w1.setCell ⟨w.heap.size + 2, 0, none⟩ (.int .i64 0)).setCell ⟨w.heap.size + 2, 1, none⟩ (.int .i64 0)).setCell ⟨w.heap.size + 2, 2, none⟩ (.int .i64 0)).setCell ⟨w.heap.size + 2, 3, none⟩ (.bool false)).setCell ⟨w.heap.size + 2, 4, none⟩ (.slice none 0 0)).setCell ⟨w.heap.size + 2, 5, none⟩ (.slice none 0 0)).setCell ⟨w.heap.size + 2, 6, none⟩ (.int .i64 0)) (w.heap.size + 2) 7 (.slice none 0 0))
    have H_25 := Lib.hid (H_9.out.grown hg_24 H_9.out.size (fun j hj => by injection hj with hj; have := sz0.out; have := sz_13.out; omega))
    clear H_9
    have BG_26 := Lib.hid (BG_10.out.grown hg_24 (by intro e; injection e with e; have := sz0.out; have := sz_13.out; omega))
    clear BG_10
    have BJ_27 := Lib.hid (BJ_11.out.grown hg_24 (by intro e; injection e with e; have := sz0.out; have := sz_13.out; omega))
    clear BJ_11
    have BZ_28 : Hid (Blk ((((((((w1.setCell ⟨w.heap.size + 2, 0, none⟩ (.int .i64 0)).setCell ⟨w.heap.size + 2, 1, none⟩ (.int .i64 0)).setCell ⟨w.heap.size + 2, 2, none⟩ (.int .i64 0)).setCell ⟨w.heap.size + 2, 3, none⟩ (.bool false)).setCell ⟨w.heap.size + 2, 4, none⟩ (.slice none 0 0)).setCell ⟨w.heap.size + 2, 5, none⟩ (.slice none 0 0)).setCell ⟨w.heap.size + 2, 6, none⟩ (.int .i64 0)).setCell ⟨w.heap.size + 2, 7, none⟩ (.slice none 0 0)) (w.heap.size + 2) #[.int .i64 0, .int .i64 0, .int .i64 0, .bool false, .slice none 0 0, .slice none 0 0, .int .i64 0, .slice none 0 0] 43) := Lib.hid (Blk.set (Blk.set (Blk.set (Blk.set (Blk.set (Blk.set (Blk.set (Blk.set (BZ_12.out) 0 (.int .i64 0)) 1 (.int .i64 0)) 2 (.int .i64 0)) 3 (.bool false)) 4 (.slice none 0 0)) 5 (.slice none 0 0)) 6 (.int .i64 0)) 7 (.slice none 0 0))
    clear BZ_12
    have sz_29 := Lib.hid (World.grownBy.size hg_24)
    clear hg_24
    refine bodyPost_ret (v := .tuple #[.agg #[.int .i64 0, .int .i64 0, .int .i64 0, .bool false, .slice none 0 0, .slice none 0 0, .int .i64 0, .slice none 0 0], .bool false]) (by simp [results, Tryd.results15, go_sem, x_14, x_15, x_16, x_17, x_18, x_19, x_20, x_21]) rfl ?_
    exact MadeRB.no H_25.out
  | true =>
    rw [hb0] at CG
    cases hj0 : jobB N p s with
    | false =>
      rw [hj0] at CJ
      simp only [Bool.true_and, Bool.false_eq_true, if_false]
      clear hb0 hj0 CD CV CE
      have H_1 := Lib.hid (g_chain (g_chain (g_chain (Below.refl w.heap.size w) (below_a1 w (.cells #[.int .i64 N, .slice AG G.length cG] 38))) (below_a1 (w.alloc (.cells #[.int .i64 N, .slice AG G.length cG] 38)) (.cells #[.int .i64 p, .int .i64 s] 40))) (below_a1 ((w.alloc (.cells #[.int .i64 N, .slice AG G.length cG] 38)).alloc (.cells #[.int .i64 p, .int .i64 s] 40)) (.cells #[.int .i64 0, .int .i64 0, .int .i64 0, .bool false, .slice none 0 0, .slice none 0 0, .int .i64 0, .slice none 0 0] 43)))
      have BG_2 : Hid (Blk (((w.alloc (.cells #[.int .i64 N, .slice AG G.length cG] 38)).alloc (.cells #[.int .i64 p, .int .i64 s] 40)).alloc (.cells #[.int .i64 0, .int .i64 0, .int .i64 0, .bool false, .slice none 0 0, .slice none 0 0, .int .i64 0, .slice none 0 0] 43)) (w.heap.size) #[.int .i64 N, .slice AG G.length cG] 38) := Lib.hid (by have h := ((Blk.new w #[.int .i64 N, .slice AG G.length cG] 38).alloc (.cells #[.int .i64 p, .int .i64 s] 40)).alloc (.cells #[.int .i64 0, .int .i64 0, .int .i64 0, .bool false, .slice none 0 0, .slice none 0 0, .int .i64 0, .slice none 0 0] 43); simpa [Nat.add_assoc] using h)
      have BJ_3 : Hid (Blk (((w.alloc (.cells #[.int .i64 N, .slice AG G.length cG] 38)).alloc (.cells #[.int .i64 p, .int .i64 s] 40)).alloc (.cells #[.int .i64 0, .int .i64 0, .int .i64 0, .bool false, .slice none 0 0, .slice none 0 0, .int .i64 0, .slice none 0 0] 43)) (w.heap.size + 1) #[.int .i64 p, .int .i64 s] 40) := Lib.hid (by have h := (Blk.new (w.alloc (.cells #[.int .i64 N, .slice AG G.length cG] 38)) #[.int .i64 p, .int .i64 s] 40).alloc (.cells #[.int .i64 0, .int .i64 0, .int .i64 0, .bool false, .slice none 0 0, .slice none 0 0, .int .i64 0, .slice none 0 0] 43); simpa [Nat.add_assoc] using h)
      have BZ_4 : Hid (Blk (((w.alloc (.cells #[.int .i64 N, .slice AG G.length cG] 38)).alloc (.cells #[.int .i64 p, .int .i64 s] 40)).alloc (.cells #[.int .i64 0, .int .i64 0, .int .i64 0, .bool false, .slice none 0 0, .slice none 0 0, .int .i64 0, .slice none 0 0] 43)) (w.heap.size + 2) #[.int .i64 0, .int .i64 0, .int .i64 0, .bool false, .slice none 0 0, .slice none 0 0, .int .i64 0, .slice none 0 0] 43) := Lib.hid (by have h := Blk.new ((w.alloc (.cells #[.int .i64 N, .slice AG G.length cG] 38)).alloc (.cells #[.int .i64 p, .int .i64 s] 40)) #[.int .i64 0, .int .i64 0, .int .i64 0, .bool false, .slice none 0 0, .slice none 0 0, .int .i64 0, .slice none 0 0] 43; simpa [Nat.add_assoc] using h)
      have sz0 : Hid (w.heap.size + 3 ≤ (((w.alloc (.cells #[.int .i64 N, .slice AG G.length cG] 38)).alloc (.cells #[.int .i64 p, .int .i64 s] 40)).alloc (.cells #[.int .i64 0, .int .i64 0, .int .i64 0, .bool false, .slice none 0 0, .slice none 0 0, .int .i64 0, .slice none 0 0] 43)).heap.size) := Lib.hid (by simp)
      go_enter Tryd.func15, Tryd.ntmps15
      have x_5 := BG_2.out.cell (i := 0) rfl
      have x_6 := BG_2.out.cell (i := 1) rfl
      have x_7 := BJ_3.out.cell (i := 0) rfl
      have x_8 := BJ_3.out.cell (i := 1) rfl
      go_wp2_with fail
      refine (CG.out _ H_1.out).mono ?_
      rintro e w1 ⟨rfl, hb⟩
      clear x_5
      clear x_6
      clear x_7
      clear x_8
      have H_9 := Lib.hid (g_chain H_1.out hb)
      clear H_1
      have BG_10 := Lib.hid (BG_2.out.below hb)
      clear BG_2
      have BJ_11 := Lib.hid (BJ_3.out.below hb)
      clear BJ_3
      have BZ_12 := Lib.hid (BZ_4.out.below hb)
      clear BZ_4
      have sz_13 := Lib.hid (Below.size hb)
      clear hb
      have x_14 := BG_10.out.cell (i := 0) rfl
      have x_15 := BG_10.out.cell (i := 1) rfl
      have x_16 := BJ_11.out.cell (i := 0) rfl
      have x_17 := BJ_11.out.cell (i := 1) rfl
      go_wp2_with fail
      refine (CJ.out _).mono ?_
      rintro e w2 ⟨rfl, hb⟩
      clear x_14
      clear x_15
      clear x_16
      clear x_17
      have H_18 := Lib.hid (g_chain H_9.out hb)
      clear H_9
      have BG_19 := Lib.hid (BG_10.out.below hb)
      clear BG_10
      have BJ_20 := Lib.hid (BJ_11.out.below hb)
      clear BJ_11
      have BZ_21 := Lib.hid (BZ_12.out.below hb)
      clear BZ_12
      have sz_22 := Lib.hid (Below.size hb)
      clear hb
      have x_23 := BZ_21.out.cell (i := 0) rfl
      have x_24 := BZ_21.out.cell (i := 1) rfl
      have x_25 := BZ_21.out.cell (i := 2) rfl
      have x_26 := BZ_21.out.cell (i := 3) rfl
      have x_27 := BZ_21.out.cell (i := 4) rfl
      have x_28 := BZ_21.out.cell (i := 5) rfl
      have x_29 := BZ_21.out.cell (i := 6) rfl
      have x_30 := BZ_21.out.cell (i := 7) rfl
      have fz_31 := fun i => BZ_21.out.frozen i
      have lt_32 := BZ_21.out.lt
      go_wp2
      have hg_33 := (((((((grown_cell w2 (w.heap.size + 2) 0 (.int .i64 0)).trans (grown_cell (w2.setCell ⟨w.heap.size + 2, 0, none⟩ (.int .i64 0)) (w.heap.size + 2) 1 (.int .i64 0))).trans (grown_cell ((w2.setCell ⟨w.heap.size + 2, 0, none⟩ (.int .i64 0)).setCell ⟨w.heap.size + 2, 1, none⟩ (.int .i64 0)) (w.heap.size + 2) 2 (.int .i64 0))).trans (grown_cell (((w2.setCell ⟨w.heap.size + 2, 0, none⟩ (.int .i64 0)).setCell ⟨w.heap.size + 2, 1, none⟩ (.int .i64 0)).setCell ⟨w.heap.size + 2, 2, none⟩ (.int .i64 0)) (w.heap.size + 2) 3 (.bool false))).trans (grown_cell ((((w2.setCell ⟨w.heap.size + 2, 0, none⟩ (.int .i64 0)).setCell ⟨w.heap.size + 2, 1, none⟩ (.int .i64 0)).setCell ⟨w.heap.size + 2, 2, none⟩ (.int .i64 0)).setCell ⟨w.heap.size + 2, 3, none⟩ (.bool false)) (w.heap.size + 2) 4 (.slice none 0 0))).trans (grown_cell (((((w2.setCell ⟨w.heap.size + 2, 0, none⟩ (.int .i64 0)).setCell ⟨w.heap.size + 2, 1, none⟩ (.int .i64 0)).setCell ⟨w.heap.size + 2, 2, none⟩ (.int .i64 0)).setCell ⟨w.heap.size + 2, 3, none⟩ (.bool false)).setCell ⟨w.heap.size + 2, 4, none⟩ (.slice none 0 0)) (w.heap.size + 2) 5 (.slice none 0 0))).trans (grown_cell ((((((w2.setCell ⟨w.heap.size + 2, 0, none⟩ (.int .i64 0)).setCell ⟨w.heap.size + 2, 1, none⟩ (.int .i64 0)).setCell ⟨w.heap.size + 2, 2, none⟩ (.int .i64 0)).setCell ⟨w.heap.size + 2, 3, none⟩ (.bool false)).setCell ⟨w.heap.size + 2, 4, none⟩ (.slice none 0 0)).setCell ⟨w.heap.size + 2, 5, none⟩ (.slice none 0 0)) (w.heap.size + 2) 6 (.int .i64 0))).trans (grown_cell (((((((w2.setCell ⟨w.heap.size + 2, 0, none⟩ (.int .i64 0)).setCell ⟨w.heap.size + 2, 1, none⟩ (.int .i64 0)).setCell ⟨w.heap.size + 2, 2, none⟩ (.int .i64 0)).setCell ⟨w.heap.size + 2, 3, none⟩ (.bool false)).setCell ⟨w.heap.size + 2, 4, none⟩ (.slice none 0 0)).setCell ⟨w.heap.size + 2, 5, none⟩ (.slice none 0 0)).setCell ⟨w.heap.size + 2, 6, none⟩ (.int .i64 0)) (w.heap.size + 2) 7 (.slice none 0 0))
      have H_34 := Lib.hid (H_18.out.grown hg_33 H_18.out.size (fun j hj => by injection hj with hj; have := sz0.out; have := sz_13.out; have := sz_22.out; omega))
      clear H_18
      have BG_35 := Lib.hid (BG_19.out.grown hg_33 (by intro e; injection e with e; have := sz0.out; have := sz_13.out; have := sz_22.out; omega))
      clear BG_19
      have BJ_36 := Lib.hid (BJ_20.out.grown hg_33 (by intro e; injection e with e; have := sz0.out; have := sz_13.out; have := sz_22.out; omega))
      clear BJ_20
      have BZ_37 : Hid (Blk ((((((((w2.setCell ⟨w.heap.size + 2, 0, none⟩ (.int .i64 0)).setCell ⟨w.heap.size + 2, 1, none⟩ (.int .i64 0)).setCell ⟨w.heap.size + 2, 2, none⟩ (.int .i64 0)).setCell ⟨w.heap.size + 2, 3, none⟩ (.bool false)).setCell ⟨w.heap.size + 2, 4, none⟩ (.slice none 0 0)).setCell ⟨w.heap.size + 2, 5, none⟩ (.slice none 0 0)).setCell ⟨w.heap.size + 2, 6, none⟩ (.int .i64 0)).setCell ⟨w.heap.size + 2, 7, none⟩ (.slice none 0 0)) (w.heap.size + 2) #[.int .i64 0, .int .i64 0, .int .i64 0, .bool false, .slice none 0 0, .slice none 0 0, .int .i64 0, .slice none 0 0] 43) := Lib.hid (Blk.set (Blk.set (Blk.set (Blk.set (Blk.set (Blk.set (Blk.set (Blk.set (BZ_21.out) 0 (.int .i64 0)) 1 (.int .i64 0)) 2 (.int .i64 0)) 3 (.bool false)) 4 (.slice none 0 0)) 5 (.slice none 0 0)) 6 (.int .i64 0)) 7 (.slice none 0 0))
      clear BZ_21
      have sz_38 := Lib.hid (World.grownBy.size hg_33)
      clear hg_33
      refine bodyPost_ret (v := .tuple #[.agg #[.int .i64 0, .int .i64 0, .int .i64 0, .bool false, .slice none 0 0, .slice none 0 0, .int .i64 0, .slice none 0 0], .bool false]) (by simp [results, Tryd.results15, go_sem, x_23, x_24, x_25, x_26, x_27, x_28, x_29, x_30]) rfl ?_
      exact MadeRB.no H_34.out
    | true =>
      rw [hj0] at CJ
      simp only [Bool.true_and, if_true]
      have hG := graphB_iff hb0
      have HGB := Lib.hid hG
      obtain ⟨N, rfl⟩ : ∃ q : Nat, N = (q : Int) := ⟨N.toNat, by omega⟩
      have hN : N ≤ 150 := by omega
      have hl4 : G.length ≤ 400 := by omega
      rw [show degsOf GE.f (N : Int) G = degs GE.f N G by unfold degsOf; rw [hb0]; rfl] at CD
      have HNN : Hid (newN (N : Int) = (N : Int)) := Lib.hid (by unfold newN newB; rw [if_pos (by simp; omega)])
      have CN := Lib.hid (fun W (h : Below w.heap.size w W) => implSetNew (N : Int) true W (HWW.out.below h) (WalkArith.wf_i64 (by omega)))
      unfold MadeSB at CN
      rw [HNN.out] at CN
      rw [new_is]
      have HV := Lib.hid (valsK_step p s)
      have HVL := Lib.hid (valsK_len p s)
      have HEL := Lib.hid (fun k (h : k ≤ G.length) => edgesK_len p N G h)
      have HES := Lib.hid (fun (k f : Nat) (e : GE) (x : Int) (h1 : G[k]? = some e) (h2 : e.f = (f : Int)) (h3 : (degs GE.f N G)[f]? = some x) => edgesK_step p N G h1 h2 h3)
      have HV0 : Hid (valsK p s 0 = []) := Lib.hid rfl
      have HE0 : Hid (edgesK p N G 0 = []) := Lib.hid rfl
      have HDL := Lib.hid (degs_len GE.f N G)
      have HDA := Lib.hid (fun (f : Nat) (h : f < N) => degs_at (key := GE.f) (es := G) h)
      generalize hvk : valsK p s = vk at HV HVL HV0 ⊢
      generalize hek : edgesK p N G = ek at HEL HES HE0 ⊢
      obtain ⟨z, hz⟩ : ∃ z, ((N : Int) == 0) = z := ⟨_, rfl⟩
      have HZ : Hid (decide ((N : Int) = 0) = z) := Lib.hid (by rw [← hz]; simp [BEq.beq])
      rw [HZ.out]
      clear hb0 hj0 hvk hek HZ hG
      have H_1 := Lib.hid (g_chain (g_chain (g_chain (Below.refl w.heap.size w) (below_a1 w (.cells #[.int .i64 (N : Int), .slice AG G.length cG] 38))) (below_a1 (w.alloc (.cells #[.int .i64 (N : Int), .slice AG G.length cG] 38)) (.cells #[.int .i64 p, .int .i64 s] 40))) (below_a1 ((w.alloc (.cells #[.int .i64 (N : Int), .slice AG G.length cG] 38)).alloc (.cells #[.int .i64 p, .int .i64 s] 40)) (.cells #[.int .i64 0, .int .i64 0, .int .i64 0, .bool false, .slice none 0 0, .slice none 0 0, .int .i64 0, .slice none 0 0] 43)))
      have BG_2 : Hid (Blk (((w.alloc (.cells #[.int .i64 (N : Int), .slice AG G.length cG] 38)).alloc (.cells #[.int .i64 p, .int .i64 s] 40)).alloc (.cells #[.int .i64 0, .int .i64 0, .int .i64 0, .bool false, .slice none 0 0, .slice none 0 0, .int .i64 0, .slice none 0 0] 43)) (w.heap.size) #[.int .i64 (N : Int), .slice AG G.length cG] 38) := Lib.hid (by have h := ((Blk.new w #[.int .i64 (N : Int), .slice AG G.length cG] 38).alloc (.cells #[.int .i64 p, .int .i64 s] 40)).alloc (.cells #[.int .i64 0, .int .i64 0, .int .i64 0, .bool false, .slice none 0 0, .slice none 0 0, .int .i64 0, .slice none 0 0] 43); simpa [Nat.add_assoc] using h)
      have BJ_3 : Hid (Blk (((w.alloc (.cells #[.int .i64 (N : Int), .slice AG G.length cG] 38)).alloc (.cells #[.int .i64 p, .int .i64 s] 40)).alloc (.cells #[.int .i64 0, .int .i64 0, .int .i64 0, .bool false, .slice none 0 0, .slice none 0 0, .int .i64 0, .slice none 0 0] 43)) (w.heap.size + 1) #[.int .i64 p, .int .i64 s] 40) := Lib.hid (by have h := (Blk.new (w.alloc (.cells #[.int .i64 (N : Int), .slice AG G.length cG] 38)) #[.int .i64 p, .int .i64 s] 40).alloc (.cells #[.int .i64 0, .int .i64 0, .int .i64 0, .bool false, .slice none 0 0, .slice none 0 0, .int .i64 0, .slice none 0 0] 43); simpa [Nat.add_assoc] using h)
      have BZ_4 : Hid (Blk (((w.alloc (.cells #[.int .i64 (N : Int), .slice AG G.length cG] 38)).alloc (.cells #[.int .i64 p, .int .i64 s] 40)).alloc (.cells #[.int .i64 0, .int .i64 0, .int .i64 0, .bool false, .slice none 0 0, .slice none 0 0, .int .i64 0, .slice none 0 0] 43)) (w.heap.size + 2) #[.int .i64 0, .int .i64 0, .int .i64 0, .bool false, .slice none 0 0, .slice none 0 0, .int .i64 0, .slice none 0 0] 43) := Lib.hid (by have h := Blk.new ((w.alloc (.cells #[.int .i64 (N : Int), .slice AG G.length cG] 38)).alloc (.cells #[.int .i64 p, .int .i64 s] 40)) #[.int .i64 0, .int .i64 0, .int .i64 0, .bool false, .slice none 0 0, .slice none 0 0, .int .i64 0, .slice none 0 0] 43; simpa [Nat.add_assoc] using h)
      have sz0 : Hid (w.heap.size + 3 ≤ (((w.alloc (.cells #[.int .i64 (N : Int), .slice AG G.length cG] 38)).alloc (.cells #[.int .i64 p, .int .i64 s] 40)).alloc (.cells #[.int .i64 0, .int .i64 0, .int .i64 0, .bool false, .slice none 0 0, .slice none 0 0, .int .i64 0, .slice none 0 0] 43)).heap.size) := Lib.hid (by simp)
      go_enter Tryd.func15, Tryd.ntmps15
      have x_5 := BG_2.out.cell (i := 0) rfl
      have x_6 := BG_2.out.cell (i := 1) rfl
      have x_7 := BJ_3.out.cell (i := 0) rfl
      have x_8 := BJ_3.out.cell (i := 1) rfl
      go_wp2_with fail
      refine (CG.out _ H_1.out).mono ?_
      rintro e w1 ⟨rfl, hb⟩
      clear x_5
      clear x_6
      clear x_7
      clear x_8
      have H_9 := Lib.hid (g_chain H_1.out hb)
      clear H_1
      have BG_10 := Lib.hid (BG_2.out.below hb)
      clear BG_2
      have BJ_11 := Lib.hid (BJ_3.out.below hb)
      clear BJ_3
      have BZ_12 := Lib.hid (BZ_4.out.below hb)
      clear BZ_4
      have sz_13 := Lib.hid (Below.size hb)
      clear hb
      have x_14 := BG_10.out.cell (i := 0) rfl
      have x_15 := BG_10.out.cell (i := 1) rfl
      have x_16 := BJ_11.out.cell (i := 0) rfl
      have x_17 := BJ_11.out.cell (i := 1) rfl
      go_wp2_with fail
      refine (CJ.out _).mono ?_
      rintro e w2 ⟨rfl, hb⟩
      clear x_14
      clear x_15
      clear x_16
      clear x_17
      have H_18 := Lib.hid (g_chain H_9.out hb)
      clear H_9
      have BG_19 := Lib.hid (BG_10.out.below hb)
      clear BG_10
      have BJ_20 := Lib.hid (BJ_11.out.below hb)
      clear BJ_11
      have BZ_21 := Lib.hid (BZ_12.out.below hb)
      clear BZ_12
      have sz_22 := Lib.hid (Below.size hb)
      clear hb CG CJ
      have x_23 := BG_19.out.cell (i := 0) rfl
      have x_24 := BG_19.out.cell (i := 1) rfl
      have fz_25 := fun i => BG_19.out.frozen i
      have lt_26 := BG_19.out.lt
      have x_27 := BJ_20.out.cell (i := 0) rfl
      have x_28 := BJ_20.out.cell (i := 1) rfl
      have fz_29 := fun i => BJ_20.out.frozen i
      have lt_30 := BJ_20.out.lt
      have hb_31 := below_a1 w2 (.cells #[.int .i64 p, .int .i64 s, .int .i64 0, .bool z, .slice none 0 0, .slice none 0 0, .int .i64 0, .slice none 0 0] 43)
      have sz_32 : Hid (w2.heap.size = w2.heap.size) := Lib.hid (by simp)
      have sz_33 := Lib.hid BG_19.out.lt
      have sz_34 := Lib.hid BJ_20.out.lt
      have sz_35 := Lib.hid BZ_21.out.lt
      have H_36 := Lib.hid (g_chain H_18.out hb_31)
      clear H_18
      have BG_37 := Lib.hid (BG_19.out.below hb_31)
      clear BG_19
      have BJ_38 := Lib.hid (BJ_20.out.below hb_31)
      clear BJ_20
      have BZ_39 := Lib.hid (BZ_21.out.below hb_31)
      clear BZ_21
      have sz_40 := Lib.hid (Below.size hb_31)
      clear hb_31
      have BR_41 : Hid (Blk (w2.alloc (.cells #[.int .i64 p, .int .i64 s, .int .i64 0, .bool z, .slice none 0 0, .slice none 0 0, .int .i64 0, .slice none 0 0] 43)) (w2.heap.size) #[.int .i64 p, .int .i64 s, .int .i64 0, .bool z, .slice none 0 0, .slice none 0 0, .int .i64 0, .slice none 0 0] 43) := Lib.hid (by have h := Blk.new w2 #[.int .i64 p, .int .i64 s, .int .i64 0, .bool z, .slice none 0 0, .slice none 0 0, .int .i64 0, .slice none 0 0] 43; simpa using h)
      have sz_42 : Hid (w2.heap.size + 1 ≤ (w2.alloc (.cells #[.int .i64 p, .int .i64 s, .int .i64 0, .bool z, .slice none 0 0, .slice none 0 0, .int .i64 0, .slice none 0 0] 43)).heap.size) := Lib.hid (by simp)
      have SZB : Hid (w.heap.size + 3 ≤ w2.heap.size) := Lib.hid (by have := sz0.out; have := sz_13.out; have := sz_22.out; have := sz_32.out; have := sz_33.out; have := sz_34.out; have := sz_35.out; have := sz_40.out; have := sz_42.out; omega)
      go_wp2
      go_loopw [29] (fun i wr => ∃ (k : Nat) (A1 : Option Addr) (c1 : Nat), k ≤ N ∧ i = .int .i64 (k : Int) ∧ Hid (Below w.heap.size w wr) ∧ Hid (Blk wr w.heap.size #[.int .i64 (N : Int), .slice AG G.length cG] 38) ∧ Hid (Blk wr (w.heap.size + 1) #[.int .i64 p, .int .i64 s] 40) ∧ Hid (Blk wr (w.heap.size + 2) #[.int .i64 0, .int .i64 0, .int .i64 0, .bool false, .slice none 0 0, .slice none 0 0, .int .i64 0, .slice none 0 0] 43) ∧ Hid (Blk wr (w2.heap.size) #[.int .i64 p, .int .i64 s, .int .i64 0, .bool z, .slice A1 k c1, .slice none 0 0, .int .i64 0, .slice none 0 0] 43) ∧ Hid (wr.ownsRow w.heap.size 3 1 (.slice A1 k c1) k (vi (vk k)))) (fun i _ => N - (intOf i).toNat)
      case atStart => exact ⟨0, none, 0, Nat.zero_le _, rfl, H_36, BG_37, BJ_38, BZ_39, BR_41, by rw [HV0.out]; exact Lib.hid (World.ownsRow_nil _ _ _ _)⟩
      case round =>
        clear x_23 x_24 fz_25 lt_26 x_27 x_28 fz_29 lt_30 H_36 BG_37 BJ_38 BZ_39 BR_41
        clear sz0 sz_13 sz_22 sz_32 sz_33 sz_34 sz_35 sz_40 sz_42
        obtain ⟨k, A1, c1, hk, rfl, hH, hBG, hBJ, hBZ, hBR, hOv⟩ := hrel
        have hhz := SZB.out
        have HWS := Lib.hid hH.out.size
        by_cases hlt : k < N
        · skip
          have x_43 := hBG.out.cell (i := 0) rfl
          have x_44 := hBG.out.cell (i := 1) rfl
          go_upto_region 7 with fail
          clear x_43 x_44
          refine wp_region_any (by kernel_rfl) ?_
          change wpAny _ _ _ _ _ _ _ (World.drew _)
          have hb : Below wr.heap.size wr (World.drew wr) := (Below.refl _ _).drew
          have H_45 := Lib.hid (g_chain hH.out hb)
          clear hH
          have BG_46 := Lib.hid (hBG.out.below hb)
          clear hBG
          have BJ_47 := Lib.hid (hBJ.out.below hb)
          clear hBJ
          have BZ_48 := Lib.hid (hBZ.out.below hb)
          clear hBZ
          have BR_49 := Lib.hid (hBR.out.below hb)
          clear hBR
          have Ov_50 := Lib.hid (own_below hOv.out hb)
          clear hOv
          have sz_51 := Lib.hid (Below.size hb)
          clear hb
          generalize hDD : World.drew wr = wd at H_45 BG_46 BJ_47 BZ_48 BR_49 Ov_50 sz_51 ⊢
          clear hDD
          refine wpAny_of_held (S := fun W => W.cell? ⟨w.heap.size + 1, 0, none⟩ = some (.int .i64 p) ∧ W.cell? ⟨w.heap.size + 1, 1, none⟩ = some (.int .i64 s)) _ _ _ _ ?_
          refine wpAnyH_take (i := 0) (oi := ⟨_, _, _, _, _, _⟩) (v := .pointer (some ⟨w2.heap.size, 4, none⟩)) rfl (by kernel_rfl) (by kernel_rfl) (by kernel_rfl) (fun _ _ _ h => h) (Or.inl ⟨by kernel_rfl, fun W hS => by (obtain ⟨s0, s1⟩ := hS); go_simp⟩) ⟨BJ_47.out.cell (i := 0) rfl, BJ_47.out.cell (i := 1) rfl⟩ ?_
          (try simp only [Act.put, List.setIfInBounds_toArray, List.set_cons_zero, List.set_cons_succ])
          refine wpAnyH_take (i := 2) (oi := ⟨_, _, _, _, _, _⟩) (v := .agg #[.int .i64 p, .int .i64 s]) rfl (by kernel_rfl) (by kernel_rfl) (by kernel_rfl) (fun _ _ _ h => h) (Or.inl ⟨by kernel_rfl, fun W hS => by (obtain ⟨s0, s1⟩ := hS); go_simp⟩) ⟨BJ_47.out.cell (i := 0) rfl, BJ_47.out.cell (i := 1) rfl⟩ ?_
          (try simp only [Act.put, List.setIfInBounds_toArray, List.set_cons_zero, List.set_cons_succ])
          refine wpAnyH_take (i := 3) (oi := ⟨_, _, _, _, _, _⟩) (v := .int .i64 (k : Int)) rfl (by kernel_rfl) (by kernel_rfl) (by kernel_rfl) (fun _ _ _ h => h) (Or.inl ⟨by kernel_rfl, fun W hS => by (obtain ⟨s0, s1⟩ := hS); go_simp⟩) ⟨BJ_47.out.cell (i := 0) rfl, BJ_47.out.cell (i := 1) rfl⟩ ?_
          (try simp only [Act.put, List.setIfInBounds_toArray, List.set_cons_zero, List.set_cons_succ])
          refine wpAnyH_ready (rs := [1, 4]) (by kernel_rfl) (by simp) (AllReadyH.cons rfl (fun K hK => ?_) (AllReadyH.cons rfl (fun K hK => ?_) AllReadyH.nil))
          · skip
            have xr := BR_49.out.cell (i := 4) rfl
            have xl := BR_49.out.lt
            go_simp
            clear xr xl
            refine hK.out _ _ ⟨BJ_47.out.cell (i := 0) rfl, BJ_47.out.cell (i := 1) rfl⟩ (fun _ => ?_)
            clear hK K
            (try simp only [Act.put, List.setIfInBounds_toArray, List.set_cons_zero, List.set_cons_succ])
            refine wpAnyH_ready (rs := [4]) (by kernel_rfl) (by simp) (AllReadyH.cons rfl (fun K hK => ?_) AllReadyH.nil)
            go_simp
            go_at_call 43
            refine (CV.out (k : Int) _).mono ?_
            rintro e wc ⟨rfl, hb⟩
            have H_52 := Lib.hid (g_chain H_45.out hb)
            clear H_45
            have BG_53 := Lib.hid (BG_46.out.below hb)
            clear BG_46
            have BJ_54 := Lib.hid (BJ_47.out.below hb)
            clear BJ_47
            have BZ_55 := Lib.hid (BZ_48.out.below hb)
            clear BZ_48
            have BR_56 := Lib.hid (BR_49.out.below hb)
            clear BR_49
            have Ov_57 := Lib.hid (own_below Ov_50.out hb)
            clear Ov_50
            have sz_58 := Lib.hid (Below.size hb)
            clear hb
            dsimp only
            refine hK.out _ _ ⟨BJ_54.out.cell (i := 0) rfl, BJ_54.out.cell (i := 1) rfl⟩ (fun _ => ?_)
            clear hK K
            (try simp only [Act.put, List.setIfInBounds_toArray, List.set_cons_zero, List.set_cons_succ])
            refine wpAnyH_ready (rs := [5]) (by kernel_rfl) (by simp) (AllReadyH.cons rfl (fun K hK => ?_) AllReadyH.nil)
            go_simp
            have hb := below_a1 wc (.cells #[.int .i64 (firstV p s (k : Int))] 3)
            have H_59 := Lib.hid (g_chain H_52.out hb)
            clear H_52
            have BG_60 := Lib.hid (BG_53.out.below hb)
            clear BG_53
            have BJ_61 := Lib.hid (BJ_54.out.below hb)
            clear BJ_54
            have BZ_62 := Lib.hid (BZ_55.out.below hb)
            clear BZ_55
            have BR_63 := Lib.hid (BR_56.out.below hb)
            clear BR_56
            have Ov_64 := Lib.hid (own_below Ov_57.out hb)
            clear Ov_57
            have sz_65 := Lib.hid (Below.size hb)
            clear hb
            refine hK.out _ _ ⟨BJ_61.out.cell (i := 0) rfl, BJ_61.out.cell (i := 1) rfl⟩ (fun _ => ?_)
            clear hK K
            (try simp only [Act.put, List.setIfInBounds_toArray, List.set_cons_zero, List.set_cons_succ])
            refine wpAnyH_ready (rs := [6]) (by kernel_rfl) (by simp) (AllReadyH.cons rfl (fun K hK => ?_) AllReadyH.nil)
            refine step_append_any _ (by rfl) (.tmp 33) (.tmp 37) _ (by rfl) (w.heap.size) 3 i0 _ 1 8 Tryd.underlying27 hi hz0 hz1 hz2 rfl (by omega) (.slice A1 k c1) k (vi (vk k)) (by rfl) Ov_64.out (wc.heap.size + 1) (some ⟨wc.heap.size, 0, none⟩) 1 1 [.int .i64 (firstV p s (k : Int))] (by rfl) (lab_reads _ _ _ _ rfl) (lab_one _) (by simp only [maxLen]; omega) (by omega) (by have := SZB.out; have := HWS.out; have := sz_51.out; have := sz_58.out; have := sz_65.out; omega) ?_
            intro v3 wa3 hown3 hg3 hat3
            obtain ⟨P3, c3, rfl, -⟩ := own_formG hown3
            have HO3 := Lib.hid hown3
            clear hown3 hat3
            have H_66 := Lib.hid (H_59.out.grown hg3 H_59.out.size (fun j hj => by have := (Ov_64.out.lt j hj).1; have := SZB.out; have := HWS.out; have := sz_51.out; have := sz_58.out; have := sz_65.out; omega))
            clear H_59
            have BG_67 := Lib.hid (BG_60.out.grown hg3 (own_kind Ov_64.out BG_60.out (by decide)))
            clear BG_60
            have BJ_68 := Lib.hid (BJ_61.out.grown hg3 (own_kind Ov_64.out BJ_61.out (by decide)))
            clear BJ_61
            have BZ_69 := Lib.hid (BZ_62.out.grown hg3 (own_kind Ov_64.out BZ_62.out (by decide)))
            clear BZ_62
            have BR_70 := Lib.hid (BR_63.out.grown hg3 (own_kind Ov_64.out BR_63.out (by decide)))
            clear BR_63
            clear Ov_64
            have sz_71 := Lib.hid (World.grownBy.size hg3)
            clear hg3
            refine hK.out _ _ ⟨BJ_68.out.cell (i := 0) rfl, BJ_68.out.cell (i := 1) rfl⟩ (fun _ => ?_)
            clear hK K
            (try simp only [Act.put, List.setIfInBounds_toArray])
            refine wpAnyH_take (i := 7) (oi := ⟨_, _, _, _, _, _⟩) (v := .pointer (some ⟨w2.heap.size, 4, none⟩)) rfl (by kernel_rfl) (by kernel_rfl) (by kernel_rfl) (fun _ _ _ h => h) (Or.inl ⟨by kernel_rfl, fun W hS => by go_simp⟩) ⟨BJ_68.out.cell (i := 0) rfl, BJ_68.out.cell (i := 1) rfl⟩ ?_
            (try simp only [Act.put])
            refine wpAnyH_ready (rs := [8]) (by kernel_rfl) (by simp) (AllReadyH.cons rfl (fun K hK => ?_) AllReadyH.nil)
            have xz := BR_70.out.cell (i := 4) rfl
            have xf := BR_70.out.frozen 4
            have xl := BR_70.out.lt
            go_simp
            clear xz xf xl
            have hg_72 := grown_cell wa3 (w2.heap.size) 4 (.slice P3 (k + 1) c3)
            have H_73 := Lib.hid (H_66.out.grown hg_72 H_66.out.size (fun j hj => by injection hj with hj; have := SZB.out; have := HWS.out; have := sz_51.out; have := sz_58.out; have := sz_65.out; have := sz_71.out; omega))
            clear H_66
            have BG_74 := Lib.hid (BG_67.out.grown hg_72 (by intro e; injection e with e; have := SZB.out; have := HWS.out; have := sz_51.out; have := sz_58.out; have := sz_65.out; have := sz_71.out; omega))
            clear BG_67
            have BJ_75 := Lib.hid (BJ_68.out.grown hg_72 (by intro e; injection e with e; have := SZB.out; have := HWS.out; have := sz_51.out; have := sz_58.out; have := sz_65.out; have := sz_71.out; omega))
            clear BJ_68
            have BZ_76 := Lib.hid (BZ_69.out.grown hg_72 (by intro e; injection e with e; have := SZB.out; have := HWS.out; have := sz_51.out; have := sz_58.out; have := sz_65.out; have := sz_71.out; omega))
            clear BZ_69
            have Ov_77 := Lib.hid (own_kept HO3.out hg_72 (own_kind HO3.out BR_70.out (by decide)))
            clear HO3
            have BR_78 : Hid (Blk (wa3.setCell ⟨w2.heap.size, 4, none⟩ (.slice P3 (k + 1) c3)) (w2.heap.size) #[.int .i64 p, .int .i64 s, .int .i64 0, .bool z, .slice P3 (k + 1) c3, .slice none 0 0, .int .i64 0, .slice none 0 0] 43) := Lib.hid (Blk.set (BR_70.out) 4 (.slice P3 (k + 1) c3))
            clear BR_70
            have sz_79 := Lib.hid (World.grownBy.size hg_72)
            clear hg_72
            refine hK.out _ _ ⟨BJ_75.out.cell (i := 0) rfl, BJ_75.out.cell (i := 1) rfl⟩ (fun _ => ?_)
            clear hK K
            (try simp only [Act.put])
            refine wpAnyH_done (by kernel_rfl) ?_ _
            go_wp2
            go_roundw
            case rel => exact ⟨k + 1, P3, c3, by omega, by go_num, H_73, BG_74, BJ_75, BZ_76, BR_78, by rw [HV.out]; rw [vi_append]; exact Ov_77⟩
            case measure => simp [intOf]; omega
          · skip
            go_simp
            go_at_call 43
            refine (CV.out (k : Int) _).mono ?_
            rintro e wc ⟨rfl, hb⟩
            have H_80 := Lib.hid (g_chain H_45.out hb)
            clear H_45
            have BG_81 := Lib.hid (BG_46.out.below hb)
            clear BG_46
            have BJ_82 := Lib.hid (BJ_47.out.below hb)
            clear BJ_47
            have BZ_83 := Lib.hid (BZ_48.out.below hb)
            clear BZ_48
            have BR_84 := Lib.hid (BR_49.out.below hb)
            clear BR_49
            have Ov_85 := Lib.hid (own_below Ov_50.out hb)
            clear Ov_50
            have sz_86 := Lib.hid (Below.size hb)
            clear hb
            dsimp only
            refine hK.out _ _ ⟨BJ_82.out.cell (i := 0) rfl, BJ_82.out.cell (i := 1) rfl⟩ (fun _ => ?_)
            clear hK K
            (try simp only [Act.put, List.setIfInBounds_toArray, List.set_cons_zero, List.set_cons_succ])
            refine wpAnyH_ready (rs := [1, 5]) (by kernel_rfl) (by simp) (AllReadyH.cons rfl (fun K hK => ?_) (AllReadyH.cons rfl (fun K hK => ?_) AllReadyH.nil))
            · skip
              have xr := BR_84.out.cell (i := 4) rfl
              have xl := BR_84.out.lt
              go_simp
              clear xr xl
              refine hK.out _ _ ⟨BJ_82.out.cell (i := 0) rfl, BJ_82.out.cell (i := 1) rfl⟩ (fun _ => ?_)
              clear hK K
              (try simp only [Act.put, List.setIfInBounds_toArray, List.set_cons_zero, List.set_cons_succ])
              refine wpAnyH_ready (rs := [5]) (by kernel_rfl) (by simp) (AllReadyH.cons rfl (fun K hK => ?_) AllReadyH.nil)
              go_simp
              have hb := below_a1 wc (.cells #[.int .i64 (firstV p s (k : Int))] 3)
              have H_87 := Lib.hid (g_chain H_80.out hb)
              clear H_80
              have BG_88 := Lib.hid (BG_81.out.below hb)
              clear BG_81
              have BJ_89 := Lib.hid (BJ_82.out.below hb)
              clear BJ_82
              have BZ_90 := Lib.hid (BZ_83.out.below hb)
              clear BZ_83
              have BR_91 := Lib.hid (BR_84.out.below hb)
              clear BR_84
              have Ov_92 := Lib.hid (own_below Ov_85.out hb)
              clear Ov_85
              have sz_93 := Lib.hid (Below.size hb)
              clear hb
              refine hK.out _ _ ⟨BJ_89.out.cell (i := 0) rfl, BJ_89.out.cell (i := 1) rfl⟩ (fun _ => ?_)
              clear hK K
              (try simp only [Act.put, List.setIfInBounds_toArray, List.set_cons_zero, List.set_cons_succ])
              refine wpAnyH_ready (rs := [6]) (by kernel_rfl) (by simp) (AllReadyH.cons rfl (fun K hK => ?_) AllReadyH.nil)
              refine step_append_any _ (by rfl) (.tmp 33) (.tmp 37) _ (by rfl) (w.heap.size) 3 i0 _ 1 8 Tryd.underlying27 hi hz0 hz1 hz2 rfl (by omega) (.slice A1 k c1) k (vi (vk k)) (by rfl) Ov_92.out (wc.heap.size + 1) (some ⟨wc.heap.size, 0, none⟩) 1 1 [.int .i64 (firstV p s (k : Int))] (by rfl) (lab_reads _ _ _ _ rfl) (lab_one _) (by simp only [maxLen]; omega) (by omega) (by have := SZB.out; have := HWS.out; have := sz_51.out; have := sz_86.out; have := sz_93.out; omega) ?_
              intro v3 wa3 hown3 hg3 hat3
              obtain ⟨P3, c3, rfl, -⟩ := own_formG hown3
              have HO3 := Lib.hid hown3
              clear hown3 hat3
              have H_94 := Lib.hid (H_87.out.grown hg3 H_87.out.size (fun j hj => by have := (Ov_92.out.lt j hj).1; have := SZB.out; have := HWS.out; have := sz_51.out; have := sz_86.out; have := sz_93.out; omega))
              clear H_87
              have BG_95 := Lib.hid (BG_88.out.grown hg3 (own_kind Ov_92.out BG_88.out (by decide)))
              clear BG_88
              have BJ_96 := Lib.hid (BJ_89.out.grown hg3 (own_kind Ov_92.out BJ_89.out (by decide)))
              clear BJ_89
              have BZ_97 := Lib.hid (BZ_90.out.grown hg3 (own_kind Ov_92.out BZ_90.out (by decide)))
              clear BZ_90
              have BR_98 := Lib.hid (BR_91.out.grown hg3 (own_kind Ov_92.out BR_91.out (by decide)))
              clear BR_91
              clear Ov_92
              have sz_99 := Lib.hid (World.grownBy.size hg3)
              clear hg3
              refine hK.out _ _ ⟨BJ_96.out.cell (i := 0) rfl, BJ_96.out.cell (i := 1) rfl⟩ (fun _ => ?_)
              clear hK K
              (try simp only [Act.put, List.setIfInBounds_toArray])
              refine wpAnyH_take (i := 7) (oi := ⟨_, _, _, _, _, _⟩) (v := .pointer (some ⟨w2.heap.size, 4, none⟩)) rfl (by kernel_rfl) (by kernel_rfl) (by kernel_rfl) (fun _ _ _ h => h) (Or.inl ⟨by kernel_rfl, fun W hS => by go_simp⟩) ⟨BJ_96.out.cell (i := 0) rfl, BJ_96.out.cell (i := 1) rfl⟩ ?_
              (try simp only [Act.put])
              refine wpAnyH_ready (rs := [8]) (by kernel_rfl) (by simp) (AllReadyH.cons rfl (fun K hK => ?_) AllReadyH.nil)
              have xz := BR_98.out.cell (i := 4) rfl
              have xf := BR_98.out.frozen 4
              have xl := BR_98.out.lt
              go_simp
              clear xz xf xl
              have hg_100 := grown_cell wa3 (w2.heap.size) 4 (.slice P3 (k + 1) c3)
              have H_101 := Lib.hid (H_94.out.grown hg_100 H_94.out.size (fun j hj => by injection hj with hj; have := SZB.out; have := HWS.out; have := sz_51.out; have := sz_86.out; have := sz_93.out; have := sz_99.out; omega))
              clear H_94
              have BG_102 := Lib.hid (BG_95.out.grown hg_100 (by intro e; injection e with e; have := SZB.out; have := HWS.out; have := sz_51.out; have := sz_86.out; have := sz_93.out; have := sz_99.out; omega))
              clear BG_95
              have BJ_103 := Lib.hid (BJ_96.out.grown hg_100 (by intro e; injection e with e; have := SZB.out; have := HWS.out; have := sz_51.out; have := sz_86.out; have := sz_93.out; have := sz_99.out; omega))
              clear BJ_96
              have BZ_104 := Lib.hid (BZ_97.out.grown hg_100 (by intro e; injection e with e; have := SZB.out; have := HWS.out; have := sz_51.out; have := sz_86.out; have := sz_93.out; have := sz_99.out; omega))
              clear BZ_97
              have Ov_105 := Lib.hid (own_kept HO3.out hg_100 (own_kind HO3.out BR_98.out (by decide)))
              clear HO3
              have BR_106 : Hid (Blk (wa3.setCell ⟨w2.heap.size, 4, none⟩ (.slice P3 (k + 1) c3)) (w2.heap.size) #[.int .i64 p, .int .i64 s, .int .i64 0, .bool z, .slice P3 (k + 1) c3, .slice none 0 0, .int .i64 0, .slice none 0 0] 43) := Lib.hid (Blk.set (BR_98.out) 4 (.slice P3 (k + 1) c3))
              clear BR_98
              have sz_107 := Lib.hid (World.grownBy.size hg_100)
              clear hg_100
              refine hK.out _ _ ⟨BJ_103.out.cell (i := 0) rfl, BJ_103.out.cell (i := 1) rfl⟩ (fun _ => ?_)
              clear hK K
              (try simp only [Act.put])
              refine wpAnyH_done (by kernel_rfl) ?_ _
              go_wp2
              go_roundw
              case rel => exact ⟨k + 1, P3, c3, by omega, by go_num, H_101, BG_102, BJ_103, BZ_104, BR_106, by rw [HV.out]; rw [vi_append]; exact Ov_105⟩
              case measure => simp [intOf]; omega
            · skip
              go_simp
              have hb := below_a1 wc (.cells #[.int .i64 (firstV p s (k : Int))] 3)
              have H_108 := Lib.hid (g_chain H_80.out hb)
              clear H_80
              have BG_109 := Lib.hid (BG_81.out.below hb)
              clear BG_81
              have BJ_110 := Lib.hid (BJ_82.out.below hb)
              clear BJ_82
              have BZ_111 := Lib.hid (BZ_83.out.below hb)
              clear BZ_83
              have BR_112 := Lib.hid (BR_84.out.below hb)
              clear BR_84
              have Ov_113 := Lib.hid (own_below Ov_85.out hb)
              clear Ov_85
              have sz_114 := Lib.hid (Below.size hb)
              clear hb
              refine hK.out _ _ ⟨BJ_110.out.cell (i := 0) rfl, BJ_110.out.cell (i := 1) rfl⟩ (fun _ => ?_)
              clear hK K
              (try simp only [Act.put, List.setIfInBounds_toArray, List.set_cons_zero, List.set_cons_succ])
              refine wpAnyH_ready (rs := [1]) (by kernel_rfl) (by simp) (AllReadyH.cons rfl (fun K hK => ?_) AllReadyH.nil)
              have xr := BR_112.out.cell (i := 4) rfl
              have xl := BR_112.out.lt
              go_simp
              clear xr xl
              refine hK.out _ _ ⟨BJ_110.out.cell (i := 0) rfl, BJ_110.out.cell (i := 1) rfl⟩ (fun _ => ?_)
              clear hK K
              (try simp only [Act.put, List.setIfInBounds_toArray, List.set_cons_zero, List.set_cons_succ])
              refine wpAnyH_ready (rs := [6]) (by kernel_rfl) (by simp) (AllReadyH.cons rfl (fun K hK => ?_) AllReadyH.nil)
              refine step_append_any _ (by rfl) (.tmp 33) (.tmp 37) _ (by rfl) (w.heap.size) 3 i0 _ 1 8 Tryd.underlying27 hi hz0 hz1 hz2 rfl (by omega) (.slice A1 k c1) k (vi (vk k)) (by rfl) Ov_113.out (wc.heap.size + 1) (some ⟨wc.heap.size, 0, none⟩) 1 1 [.int .i64 (firstV p s (k : Int))] (by rfl) (lab_reads _ _ _ _ rfl) (lab_one _) (by simp only [maxLen]; omega) (by omega) (by have := SZB.out; have := HWS.out; have := sz_51.out; have := sz_86.out; have := sz_114.out; omega) ?_
              intro v3 wa3 hown3 hg3 hat3
              obtain ⟨P3, c3, rfl, -⟩ := own_formG hown3
              have HO3 := Lib.hid hown3
              clear hown3 hat3
              have H_115 := Lib.hid (H_108.out.grown hg3 H_108.out.size (fun j hj => by have := (Ov_113.out.lt j hj).1; have := SZB.out; have := HWS.out; have := sz_51.out; have := sz_86.out; have := sz_114.out; omega))
              clear H_108
              have BG_116 := Lib.hid (BG_109.out.grown hg3 (own_kind Ov_113.out BG_109.out (by decide)))
              clear BG_109
              have BJ_117 := Lib.hid (BJ_110.out.grown hg3 (own_kind Ov_113.out BJ_110.out (by decide)))
              clear BJ_110
              have BZ_118 := Lib.hid (BZ_111.out.grown hg3 (own_kind Ov_113.out BZ_111.out (by decide)))
              clear BZ_111
              have BR_119 := Lib.hid (BR_112.out.grown hg3 (own_kind Ov_113.out BR_112.out (by decide)))
              clear BR_112
              clear Ov_113
              have sz_120 := Lib.hid (World.grownBy.size hg3)
              clear hg3
              refine hK.out _ _ ⟨BJ_117.out.cell (i := 0) rfl, BJ_117.out.cell (i := 1) rfl⟩ (fun _ => ?_)
              clear hK K
              (try simp only [Act.put, List.setIfInBounds_toArray])
              refine wpAnyH_take (i := 7) (oi := ⟨_, _, _, _, _, _⟩) (v := .pointer (some ⟨w2.heap.size, 4, none⟩)) rfl (by kernel_rfl) (by kernel_rfl) (by kernel_rfl) (fun _ _ _ h => h) (Or.inl ⟨by kernel_rfl, fun W hS => by go_simp⟩) ⟨BJ_117.out.cell (i := 0) rfl, BJ_117.out.cell (i := 1) rfl⟩ ?_
              (try simp only [Act.put])
              refine wpAnyH_ready (rs := [8]) (by kernel_rfl) (by simp) (AllReadyH.cons rfl (fun K hK => ?_) AllReadyH.nil)
              have xz := BR_119.out.cell (i := 4) rfl
              have xf := BR_119.out.frozen 4
              have xl := BR_119.out.lt
              go_simp
              clear xz xf xl
              have hg_121 := grown_cell wa3 (w2.heap.size) 4 (.slice P3 (k + 1) c3)
              have H_122 := Lib.hid (H_115.out.grown hg_121 H_115.out.size (fun j hj => by injection hj with hj; have := SZB.out; have := HWS.out; have := sz_51.out; have := sz_86.out; have := sz_114.out; have := sz_120.out; omega))
              clear H_115
              have BG_123 := Lib.hid (BG_116.out.grown hg_121 (by intro e; injection e with e; have := SZB.out; have := HWS.out; have := sz_51.out; have := sz_86.out; have := sz_114.out; have := sz_120.out; omega))
              clear BG_116
              have BJ_124 := Lib.hid (BJ_117.out.grown hg_121 (by intro e; injection e with e; have := SZB.out; have := HWS.out; have := sz_51.out; have := sz_86.out; have := sz_114.out; have := sz_120.out; omega))
              clear BJ_117
              have BZ_125 := Lib.hid (BZ_118.out.grown hg_121 (by intro e; injection e with e; have := SZB.out; have := HWS.out; have := sz_51.out; have := sz_86.out; have := sz_114.out; have := sz_120.out; omega))
              clear BZ_118
              have Ov_126 := Lib.hid (own_kept HO3.out hg_121 (own_kind HO3.out BR_119.out (by decide)))
              clear HO3
              have BR_127 : Hid (Blk (wa3.setCell ⟨w2.heap.size, 4, none⟩ (.slice P3 (k + 1) c3)) (w2.heap.size) #[.int .i64 p, .int .i64 s, .int .i64 0, .bool z, .slice P3 (k + 1) c3, .slice none 0 0, .int .i64 0, .slice none 0 0] 43) := Lib.hid (Blk.set (BR_119.out) 4 (.slice P3 (k + 1) c3))
              clear BR_119
              have sz_128 := Lib.hid (World.grownBy.size hg_121)
              clear hg_121
              refine hK.out _ _ ⟨BJ_124.out.cell (i := 0) rfl, BJ_124.out.cell (i := 1) rfl⟩ (fun _ => ?_)
              clear hK K
              (try simp only [Act.put])
              refine wpAnyH_done (by kernel_rfl) ?_ _
              go_wp2
              go_roundw
              case rel => exact ⟨k + 1, P3, c3, by omega, by go_num, H_122, BG_123, BJ_124, BZ_125, BR_127, by rw [HV.out]; rw [vi_append]; exact Ov_126⟩
              case measure => simp [intOf]; omega
        · obtain rfl : N = k := by omega
          have x_129 := hBG.out.cell (i := 0) rfl
          have x_130 := hBG.out.cell (i := 1) rfl
          go_wp2_with fail
          refine (CD.out _ hH.out).mono ?_
          rintro e w3 ⟨AD, nD, cD, rfl, hod, hb⟩
          clear x_129
          clear x_130
          have H_131 := Lib.hid (g_chain hH.out hb)
          clear hH
          have BG_132 := Lib.hid (hBG.out.below hb)
          clear hBG
          have BJ_133 := Lib.hid (hBJ.out.below hb)
          clear hBJ
          have BZ_134 := Lib.hid (hBZ.out.below hb)
          clear hBZ
          have BR_135 := Lib.hid (hBR.out.below hb)
          clear hBR
          have Ov_136 := Lib.hid (own_below hOv.out hb)
          clear hOv
          have sz_137 := Lib.hid (Below.size hb)
          have hdl := hod.1
          rw [vi_len, HDL.out] at hdl
          obtain rfl : N = nD := by omega
          clear hdl
          have Od_138 := Lib.hid (hod)
          have DLT := Lib.hid (fun g hg => (hod.lt g hg).2)
          have VLT := Lib.hid (fun g hg => (Ov_136.out.lt g hg).2)
          have SZ3 : Hid (w.heap.size ≤ w3.heap.size) := Lib.hid H_131.out.size
          clear hod hb CD
          have x_139 := BG_132.out.cell (i := 0) rfl
          have x_140 := BG_132.out.cell (i := 1) rfl
          have gl := BG_132.out.lt
          go_wp2
          have ODM := Lib.hid (own_monoG Od_138.out (lo' := w.heap.size) (by have := SZ3.out; have := SZB.out; have := HWS.out; have := sz_137.out; omega))
          clear Od_138
          go_loopw [46] (fun i wr => ∃ (k : Nat) (B1 : Option Addr) (d1 : Nat), k ≤ G.length ∧ i = .int .i64 (k : Int) ∧ Hid (Below w.heap.size w wr) ∧ Hid (Blk wr w.heap.size #[.int .i64 (N : Int), .slice AG G.length cG] 38) ∧ Hid (Blk wr (w.heap.size + 1) #[.int .i64 p, .int .i64 s] 40) ∧ Hid (Blk wr (w.heap.size + 2) #[.int .i64 0, .int .i64 0, .int .i64 0, .bool false, .slice none 0 0, .slice none 0 0, .int .i64 0, .slice none 0 0] 43) ∧ Hid (Blk wr (w2.heap.size) #[.int .i64 p, .int .i64 s, .int .i64 0, .bool z, .slice A1 N c1, .slice B1 k d1, .int .i64 0, .slice none 0 0] 43) ∧ Hid (wr.ownsRow w.heap.size 3 1 (.slice A1 N c1) N (vi (vk N))) ∧ Hid (wr.ownsRow w.heap.size 3 1 (.slice AD N cD) N (vi (degs GE.f N G))) ∧ Hid (wr.ownsRow w3.heap.size 3 1 (.slice B1 k d1) k (vi (ek k))) ∧ Hid (w3.heap.size ≤ wr.heap.size)) (fun i _ => G.length - (intOf i).toNat)
          case atStart => exact ⟨0, none, 0, Nat.zero_le _, rfl, H_131, BG_132, BJ_133, BZ_134, BR_135, Ov_136, ODM, by rw [HE0.out]; exact Lib.hid (World.ownsRow_nil _ _ _ _), Lib.hid (Nat.le_refl _)⟩
          case round =>
            clear x_139 x_140 gl H_131 BG_132 BJ_133 BZ_134 BR_135 Ov_136 ODM
            clear HWS sz_137
            obtain ⟨k, B1, d1, hk, rfl, hH, hBG, hBJ, hBZ, hBR, hOv, hOd, hOe, hS3⟩ := hrel
            have hhz := SZB.out
            have HWS := Lib.hid hH.out.size
            have hs3 := SZ3.out
            have hs4 := hS3.out
            by_cases hlt : k < G.length
            · skip
              obtain ⟨gb, go, eg, rfl, hgbw, heg, z0, z1, z2⟩ := HGG.out.at_ hlt
              have hed := edgeB_iff (HGB.out.2.2.2 eg (List.mem_of_getElem? heg.out))
              obtain ⟨f, hf⟩ : ∃ f : Nat, eg.f = (f : Int) := ⟨eg.f.toNat, by omega⟩
              have hfN : f < N := by omega
              have hfM : f < N * 1 := by omega
              obtain ⟨x, hx, -, -⟩ := HDA.out f hfN
              have HEN := Lib.hid (HES.out k f eg x heg.out hf hx)
              have HDX : Hid ((vi (degs GE.f N G))[f]? = some (.int .i64 x)) := Lib.hid (by rw [vi_get, hx]; rfl)
              have y0 := (hH.out.cell (p := ⟨gb, go + k * 3, none⟩) hgbw).trans z0
              have y1 := (hH.out.cell (p := ⟨gb, go + k * 3 + 1, none⟩) hgbw).trans z1
              have y2 := (hH.out.cell (p := ⟨gb, go + k * 3 + 2, none⟩) hgbw).trans z2
              rw [hf] at y0
              have hbw : gb < wr.heap.size := Nat.lt_of_lt_of_le hgbw hH.out.size
              obtain ⟨gD, rfl⟩ := g_own_at hOd.out (by omega)
              obtain ⟨et, hlet⟩ : ∃ et, eg.t = et := ⟨_, rfl⟩
              obtain ⟨ew, hlew⟩ : ∃ ew, eg.w = ew := ⟨_, rfl⟩
              rw [hlet] at y1 HEN
              rw [hlew] at y2
              clear z0 z1 z2 hed hx hlet hlew heg hf
              have hb_142 := below_a1 wr (.cells #[.int .i64 (f : Int), .int .i64 et, .int .i64 ew] 76)
              have sz_143 : Hid (wr.heap.size = wr.heap.size) := Lib.hid (by simp)
              have sz_144 := Lib.hid hBG.out.lt
              have sz_145 := Lib.hid hBJ.out.lt
              have sz_146 := Lib.hid hBZ.out.lt
              have sz_147 := Lib.hid hBR.out.lt
              have LT_148 := Lib.hid hOv.out.lt
              have LT_149 := Lib.hid hOd.out.lt
              have LT_150 := Lib.hid hOe.out.lt
              have H_151 := Lib.hid (g_chain hH.out hb_142)
              clear hH
              have BG_152 := Lib.hid (hBG.out.below hb_142)
              clear hBG
              have BJ_153 := Lib.hid (hBJ.out.below hb_142)
              clear hBJ
              have BZ_154 := Lib.hid (hBZ.out.below hb_142)
              clear hBZ
              have BR_155 := Lib.hid (hBR.out.below hb_142)
              clear hBR
              have Ov_156 := Lib.hid (own_below hOv.out hb_142)
              clear hOv
              have Od_157 := Lib.hid (own_below hOd.out hb_142)
              clear hOd
              have Oe_158 := Lib.hid (own_below hOe.out hb_142)
              clear hOe
              have sz_159 := Lib.hid (Below.size hb_142)
              clear hb_142
              have BE_160 : Hid (Blk (wr.alloc (.cells #[.int .i64 (f : Int), .int .i64 et, .int .i64 ew] 76)) (wr.heap.size) #[.int .i64 (f : Int), .int .i64 et, .int .i64 ew] 76) := Lib.hid (by have h := Blk.new wr #[.int .i64 (f : Int), .int .i64 et, .int .i64 ew] 76; simpa using h)
              have sz_161 : Hid (wr.heap.size + 1 ≤ (wr.alloc (.cells #[.int .i64 (f : Int), .int .i64 et, .int .i64 ew] 76)).heap.size) := Lib.hid (by simp)
              go_upto_region 13 with fail
              clear y0 y1 y2
              refine wp_region_any (by kernel_rfl) ?_
              change wpAny _ _ _ _ _ _ _ (World.drew _)
              have hb : Below (wr.alloc (.cells #[.int .i64 (f : Int), .int .i64 et, .int .i64 ew] 76)).heap.size (wr.alloc (.cells #[.int .i64 (f : Int), .int .i64 et, .int .i64 ew] 76)) (World.drew (wr.alloc (.cells #[.int .i64 (f : Int), .int .i64 et, .int .i64 ew] 76))) := (Below.refl _ _).drew
              have H_162 := Lib.hid (g_chain H_151.out hb)
              clear H_151
              have BG_163 := Lib.hid (BG_152.out.below hb)
              clear BG_152
              have BJ_164 := Lib.hid (BJ_153.out.below hb)
              clear BJ_153
              have BZ_165 := Lib.hid (BZ_154.out.below hb)
              clear BZ_154
              have BR_166 := Lib.hid (BR_155.out.below hb)
              clear BR_155
              have Ov_167 := Lib.hid (own_below Ov_156.out hb)
              clear Ov_156
              have Od_168 := Lib.hid (own_below Od_157.out hb)
              clear Od_157
              have Oe_169 := Lib.hid (own_below Oe_158.out hb)
              clear Oe_158
              have BE_170 := Lib.hid (BE_160.out.below hb)
              clear BE_160
              have sz_171 := Lib.hid (Below.size hb)
              clear hb
              generalize hDD : World.drew (wr.alloc (.cells #[.int .i64 (f : Int), .int .i64 et, .int .i64 ew] 76)) = wd at H_162 BG_163 BJ_164 BZ_165 BR_166 Ov_167 Od_168 Oe_169 BE_170 sz_171 ⊢
              clear hDD
              refine wpAny_of_held (S := fun W => W.cell? ⟨w.heap.size + 1, 0, none⟩ = some (.int .i64 p) ∧ W.cell? ⟨w.heap.size + 1, 1, none⟩ = some (.int .i64 s) ∧ W.cell? ⟨wr.heap.size, 0, none⟩ = some (.int .i64 (f : Int)) ∧ W.cell? ⟨wr.heap.size, 1, none⟩ = some (.int .i64 et) ∧ W.cell? ⟨wr.heap.size, 2, none⟩ = some (.int .i64 ew) ∧ W.cell? ⟨gD, f, none⟩ = some (.int .i64 x)) _ _ _ _ ?_
              refine wpAnyH_take (i := 0) (oi := ⟨_, _, _, _, _, _⟩) (v := .pointer (some ⟨w2.heap.size, 5, none⟩)) rfl (by kernel_rfl) (by kernel_rfl) (by kernel_rfl) (fun _ _ _ h => h) (Or.inl ⟨by kernel_rfl, fun W hS => by (obtain ⟨s0, s1, s2, s3, s4, s5⟩ := hS); go_simp⟩) ⟨BJ_164.out.cell (i := 0) rfl, BJ_164.out.cell (i := 1) rfl, BE_170.out.cell (i := 0) rfl, BE_170.out.cell (i := 1) rfl, BE_170.out.cell (i := 2) rfl, (Od_168.out.cellAt f hfM).trans HDX.out⟩ ?_
              (try simp only [Act.put, List.setIfInBounds_toArray, List.set_cons_zero, List.set_cons_succ])
              refine wpAnyH_take (i := 2) (oi := ⟨_, _, _, _, _, _⟩) (v := .agg #[.int .i64 p, .int .i64 s]) rfl (by kernel_rfl) (by kernel_rfl) (by kernel_rfl) (fun _ _ _ h => h) (Or.inl ⟨by kernel_rfl, fun W hS => by (obtain ⟨s0, s1, s2, s3, s4, s5⟩ := hS); go_simp⟩) ⟨BJ_164.out.cell (i := 0) rfl, BJ_164.out.cell (i := 1) rfl, BE_170.out.cell (i := 0) rfl, BE_170.out.cell (i := 1) rfl, BE_170.out.cell (i := 2) rfl, (Od_168.out.cellAt f hfM).trans HDX.out⟩ ?_
              (try simp only [Act.put, List.setIfInBounds_toArray, List.set_cons_zero, List.set_cons_succ])
              refine wpAnyH_take (i := 3) (oi := ⟨_, _, _, _, _, _⟩) (v := .pointer (some ⟨wr.heap.size, 0, none⟩)) rfl (by kernel_rfl) (by kernel_rfl) (by kernel_rfl) (fun _ _ _ h => h) (Or.inl ⟨by kernel_rfl, fun W hS => by (obtain ⟨s0, s1, s2, s3, s4, s5⟩ := hS); go_simp⟩) ⟨BJ_164.out.cell (i := 0) rfl, BJ_164.out.cell (i := 1) rfl, BE_170.out.cell (i := 0) rfl, BE_170.out.cell (i := 1) rfl, BE_170.out.cell (i := 2) rfl, (Od_168.out.cellAt f hfM).trans HDX.out⟩ ?_
              (try simp only [Act.put, List.setIfInBounds_toArray, List.set_cons_zero, List.set_cons_succ])
              refine wpAnyH_take (i := 4) (oi := ⟨_, _, _, _, _, _⟩) (v := .int .i64 (f : Int)) rfl (by kernel_rfl) (by kernel_rfl) (by kernel_rfl) (fun _ _ _ h => h) (Or.inl ⟨by kernel_rfl, fun W hS => by (obtain ⟨s0, s1, s2, s3, s4, s5⟩ := hS); go_simp⟩) ⟨BJ_164.out.cell (i := 0) rfl, BJ_164.out.cell (i := 1) rfl, BE_170.out.cell (i := 0) rfl, BE_170.out.cell (i := 1) rfl, BE_170.out.cell (i := 2) rfl, (Od_168.out.cellAt f hfM).trans HDX.out⟩ ?_
              (try simp only [Act.put, List.setIfInBounds_toArray, List.set_cons_zero, List.set_cons_succ])
              refine wpAnyH_take (i := 5) (oi := ⟨_, _, _, _, _, _⟩) (v := .pointer (some ⟨wr.heap.size, 1, none⟩)) rfl (by kernel_rfl) (by kernel_rfl) (by kernel_rfl) (fun _ _ _ h => h) (Or.inl ⟨by kernel_rfl, fun W hS => by (obtain ⟨s0, s1, s2, s3, s4, s5⟩ := hS); go_simp⟩) ⟨BJ_164.out.cell (i := 0) rfl, BJ_164.out.cell (i := 1) rfl, BE_170.out.cell (i := 0) rfl, BE_170.out.cell (i := 1) rfl, BE_170.out.cell (i := 2) rfl, (Od_168.out.cellAt f hfM).trans HDX.out⟩ ?_
              (try simp only [Act.put, List.setIfInBounds_toArray, List.set_cons_zero, List.set_cons_succ])
              refine wpAnyH_take (i := 6) (oi := ⟨_, _, _, _, _, _⟩) (v := .int .i64 et) rfl (by kernel_rfl) (by kernel_rfl) (by kernel_rfl) (fun _ _ _ h => h) (Or.inl ⟨by kernel_rfl, fun W hS => by (obtain ⟨s0, s1, s2, s3, s4, s5⟩ := hS); go_simp⟩) ⟨BJ_164.out.cell (i := 0) rfl, BJ_164.out.cell (i := 1) rfl, BE_170.out.cell (i := 0) rfl, BE_170.out.cell (i := 1) rfl, BE_170.out.cell (i := 2) rfl, (Od_168.out.cellAt f hfM).trans HDX.out⟩ ?_
              (try simp only [Act.put, List.setIfInBounds_toArray, List.set_cons_zero, List.set_cons_succ])
              refine wpAnyH_take (i := 7) (oi := ⟨_, _, _, _, _, _⟩) (v := .slice (some ⟨gD, 0, none⟩) N cD) rfl (by kernel_rfl) (by kernel_rfl) (by kernel_rfl) (fun _ _ _ h => h) (Or.inl ⟨by kernel_rfl, fun W hS => by (obtain ⟨s0, s1, s2, s3, s4, s5⟩ := hS); go_simp⟩) ⟨BJ_164.out.cell (i := 0) rfl, BJ_164.out.cell (i := 1) rfl, BE_170.out.cell (i := 0) rfl, BE_170.out.cell (i := 1) rfl, BE_170.out.cell (i := 2) rfl, (Od_168.out.cellAt f hfM).trans HDX.out⟩ ?_
              (try simp only [Act.put, List.setIfInBounds_toArray, List.set_cons_zero, List.set_cons_succ])
              refine wpAnyH_take (i := 8) (oi := ⟨_, _, _, _, _, _⟩) (v := .pointer (some ⟨wr.heap.size, 0, none⟩)) rfl (by kernel_rfl) (by kernel_rfl) (by kernel_rfl) (fun _ _ _ h => h) (Or.inl ⟨by kernel_rfl, fun W hS => by (obtain ⟨s0, s1, s2, s3, s4, s5⟩ := hS); go_simp⟩) ⟨BJ_164.out.cell (i := 0) rfl, BJ_164.out.cell (i := 1) rfl, BE_170.out.cell (i := 0) rfl, BE_170.out.cell (i := 1) rfl, BE_170.out.cell (i := 2) rfl, (Od_168.out.cellAt f hfM).trans HDX.out⟩ ?_
              (try simp only [Act.put, List.setIfInBounds_toArray, List.set_cons_zero, List.set_cons_succ])
              refine wpAnyH_take (i := 9) (oi := ⟨_, _, _, _, _, _⟩) (v := .int .i64 (f : Int)) rfl (by kernel_rfl) (by kernel_rfl) (by kernel_rfl) (fun _ _ _ h => h) (Or.inl ⟨by kernel_rfl, fun W hS => by (obtain ⟨s0, s1, s2, s3, s4, s5⟩ := hS); go_simp⟩) ⟨BJ_164.out.cell (i := 0) rfl, BJ_164.out.cell (i := 1) rfl, BE_170.out.cell (i := 0) rfl, BE_170.out.cell (i := 1) rfl, BE_170.out.cell (i := 2) rfl, (Od_168.out.cellAt f hfM).trans HDX.out⟩ ?_
              (try simp only [Act.put, List.setIfInBounds_toArray, List.set_cons_zero, List.set_cons_succ])
              refine wpAnyH_take (i := 10) (oi := ⟨_, _, _, _, _, _⟩) (v := .pointer (some ⟨gD, f, none⟩)) rfl (by kernel_rfl) (by kernel_rfl) (by kernel_rfl) (fun _ _ _ h => h) (Or.inl ⟨by kernel_rfl, fun W hS => by (obtain ⟨s0, s1, s2, s3, s4, s5⟩ := hS); go_simp⟩) ⟨BJ_164.out.cell (i := 0) rfl, BJ_164.out.cell (i := 1) rfl, BE_170.out.cell (i := 0) rfl, BE_170.out.cell (i := 1) rfl, BE_170.out.cell (i := 2) rfl, (Od_168.out.cellAt f hfM).trans HDX.out⟩ ?_
              (try simp only [Act.put, List.setIfInBounds_toArray, List.set_cons_zero, List.set_cons_succ])
              refine wpAnyH_take (i := 11) (oi := ⟨_, _, _, _, _, _⟩) (v := .int .i64 x) rfl (by kernel_rfl) (by kernel_rfl) (by kernel_rfl) (fun _ _ _ h => h) (Or.inl ⟨by kernel_rfl, fun W hS => by (obtain ⟨s0, s1, s2, s3, s4, s5⟩ := hS); go_simp⟩) ⟨BJ_164.out.cell (i := 0) rfl, BJ_164.out.cell (i := 1) rfl, BE_170.out.cell (i := 0) rfl, BE_170.out.cell (i := 1) rfl, BE_170.out.cell (i := 2) rfl, (Od_168.out.cellAt f hfM).trans HDX.out⟩ ?_
              (try simp only [Act.put, List.setIfInBounds_toArray, List.set_cons_zero, List.set_cons_succ])
              refine wpAnyH_ready (rs := [1, 12]) (by kernel_rfl) (by simp) (AllReadyH.cons rfl (fun K hK => ?_) (AllReadyH.cons rfl (fun K hK => ?_) AllReadyH.nil))
              · skip
                have xr := BR_166.out.cell (i := 5) rfl
                have xl := BR_166.out.lt
                go_simp
                clear xr xl
                refine hK.out _ _ ⟨BJ_164.out.cell (i := 0) rfl, BJ_164.out.cell (i := 1) rfl, BE_170.out.cell (i := 0) rfl, BE_170.out.cell (i := 1) rfl, BE_170.out.cell (i := 2) rfl, (Od_168.out.cellAt f hfM).trans HDX.out⟩ (fun _ => ?_)
                clear hK K
                (try simp only [Act.put, List.setIfInBounds_toArray, List.set_cons_zero, List.set_cons_succ])
                refine wpAnyH_ready (rs := [12]) (by kernel_rfl) (by simp) (AllReadyH.cons rfl (fun K hK => ?_) AllReadyH.nil)
                go_simp
                go_at_call 45
                refine (CE.out (f : Int) et x _).mono ?_
                rintro e wc ⟨rfl, hb⟩
                have H_172 := Lib.hid (g_chain H_162.out hb)
                clear H_162
                have BG_173 := Lib.hid (BG_163.out.below hb)
                clear BG_163
                have BJ_174 := Lib.hid (BJ_164.out.below hb)
                clear BJ_164
                have BZ_175 := Lib.hid (BZ_165.out.below hb)
                clear BZ_165
                have BR_176 := Lib.hid (BR_166.out.below hb)
                clear BR_166
                have Ov_177 := Lib.hid (own_below Ov_167.out hb)
                clear Ov_167
                have Od_178 := Lib.hid (own_below Od_168.out hb)
                clear Od_168
                have Oe_179 := Lib.hid (own_below Oe_169.out hb)
                clear Oe_169
                have BE_180 := Lib.hid (BE_170.out.below hb)
                clear BE_170
                have sz_181 := Lib.hid (Below.size hb)
                clear hb
                dsimp only
                refine hK.out _ _ ⟨BJ_174.out.cell (i := 0) rfl, BJ_174.out.cell (i := 1) rfl, BE_180.out.cell (i := 0) rfl, BE_180.out.cell (i := 1) rfl, BE_180.out.cell (i := 2) rfl, (Od_178.out.cellAt f hfM).trans HDX.out⟩ (fun _ => ?_)
                clear hK K
                (try simp only [Act.put, List.setIfInBounds_toArray, List.set_cons_zero, List.set_cons_succ])
                refine wpAnyH_ready (rs := [13]) (by kernel_rfl) (by simp) (AllReadyH.cons rfl (fun K hK => ?_) AllReadyH.nil)
                go_simp
                have hb := below_a1 wc (.cells #[.int .i64 (firstE p (f : Int) et x)] 3)
                have H_182 := Lib.hid (g_chain H_172.out hb)
                clear H_172
                have BG_183 := Lib.hid (BG_173.out.below hb)
                clear BG_173
                have BJ_184 := Lib.hid (BJ_174.out.below hb)
                clear BJ_174
                have BZ_185 := Lib.hid (BZ_175.out.below hb)
                clear BZ_175
                have BR_186 := Lib.hid (BR_176.out.below hb)
                clear BR_176
                have Ov_187 := Lib.hid (own_below Ov_177.out hb)
                clear Ov_177
                have Od_188 := Lib.hid (own_below Od_178.out hb)
                clear Od_178
                have Oe_189 := Lib.hid (own_below Oe_179.out hb)
                clear Oe_179
                have BE_190 := Lib.hid (BE_180.out.below hb)
                clear BE_180
                have sz_191 := Lib.hid (Below.size hb)
                clear hb
                refine hK.out _ _ ⟨BJ_184.out.cell (i := 0) rfl, BJ_184.out.cell (i := 1) rfl, BE_190.out.cell (i := 0) rfl, BE_190.out.cell (i := 1) rfl, BE_190.out.cell (i := 2) rfl, (Od_188.out.cellAt f hfM).trans HDX.out⟩ (fun _ => ?_)
                clear hK K
                (try simp only [Act.put, List.setIfInBounds_toArray, List.set_cons_zero, List.set_cons_succ])
                refine wpAnyH_ready (rs := [14]) (by kernel_rfl) (by simp) (AllReadyH.cons rfl (fun K hK => ?_) AllReadyH.nil)
                refine step_append_any _ (by rfl) (.tmp 51) (.tmp 63) _ (by rfl) (w3.heap.size) 3 i0 _ 1 8 Tryd.underlying27 hi hz0 hz1 hz2 rfl (by omega) (.slice B1 k d1) k (vi (ek k)) (by rfl) Oe_189.out (wc.heap.size + 1) (some ⟨wc.heap.size, 0, none⟩) 1 1 [.int .i64 (firstE p (f : Int) et x)] (by rfl) (lab_reads _ _ _ _ rfl) (lab_one _) (by simp only [maxLen]; omega) (by omega) (by have := SZB.out; have := HWS.out; have := SZ3.out; have := hS3.out; have := sz_143.out; have := sz_144.out; have := sz_145.out; have := sz_146.out; have := sz_147.out; have := sz_159.out; have := sz_161.out; have := sz_171.out; have := sz_181.out; have := sz_191.out; omega) ?_
                intro v3 wa3 hown3 hg3 hat3
                obtain ⟨P3, c3, rfl, -⟩ := own_formG hown3
                have HO3 := Lib.hid hown3
                clear hown3 hat3
                have H_192 := Lib.hid (H_182.out.grown hg3 H_182.out.size (fun j hj => by have := (Oe_189.out.lt j hj).1; have := SZB.out; have := HWS.out; have := SZ3.out; have := hS3.out; have := sz_143.out; have := sz_144.out; have := sz_145.out; have := sz_146.out; have := sz_147.out; have := sz_159.out; have := sz_161.out; have := sz_171.out; have := sz_181.out; have := sz_191.out; omega))
                clear H_182
                have BG_193 := Lib.hid (BG_183.out.grown hg3 (own_kind Oe_189.out BG_183.out (by decide)))
                clear BG_183
                have BJ_194 := Lib.hid (BJ_184.out.grown hg3 (own_kind Oe_189.out BJ_184.out (by decide)))
                clear BJ_184
                have BZ_195 := Lib.hid (BZ_185.out.grown hg3 (own_kind Oe_189.out BZ_185.out (by decide)))
                clear BZ_185
                have BR_196 := Lib.hid (BR_186.out.grown hg3 (own_kind Oe_189.out BR_186.out (by decide)))
                clear BR_186
                have Ov_197 := Lib.hid (Ov_187.out.kept hg3 (rows_far VLT.out (fun g hg => (Oe_189.out.lt g hg).1)))
                clear Ov_187
                have Od_198 := Lib.hid (Od_188.out.kept hg3 (rows_far DLT.out (fun g hg => (Oe_189.out.lt g hg).1)))
                clear Od_188
                have BE_199 := Lib.hid (BE_190.out.grown hg3 (own_kind Oe_189.out BE_190.out (by decide)))
                clear BE_190
                clear Oe_189
                have sz_200 := Lib.hid (World.grownBy.size hg3)
                clear hg3
                refine hK.out _ _ ⟨BJ_194.out.cell (i := 0) rfl, BJ_194.out.cell (i := 1) rfl, BE_199.out.cell (i := 0) rfl, BE_199.out.cell (i := 1) rfl, BE_199.out.cell (i := 2) rfl, (Od_198.out.cellAt f hfM).trans HDX.out⟩ (fun _ => ?_)
                clear hK K
                (try simp only [Act.put, List.setIfInBounds_toArray])
                refine wpAnyH_take (i := 15) (oi := ⟨_, _, _, _, _, _⟩) (v := .pointer (some ⟨w2.heap.size, 5, none⟩)) rfl (by kernel_rfl) (by kernel_rfl) (by kernel_rfl) (fun _ _ _ h => h) (Or.inl ⟨by kernel_rfl, fun W hS => by go_simp⟩) ⟨BJ_194.out.cell (i := 0) rfl, BJ_194.out.cell (i := 1) rfl, BE_199.out.cell (i := 0) rfl, BE_199.out.cell (i := 1) rfl, BE_199.out.cell (i := 2) rfl, (Od_198.out.cellAt f hfM).trans HDX.out⟩ ?_
                (try simp only [Act.put])
                refine wpAnyH_ready (rs := [16]) (by kernel_rfl) (by simp) (AllReadyH.cons rfl (fun K hK => ?_) AllReadyH.nil)
                have xz := BR_196.out.cell (i := 5) rfl
                have xf := BR_196.out.frozen 5
                have xl := BR_196.out.lt
                go_simp
                clear xz xf xl
                have hg_201 := grown_cell wa3 (w2.heap.size) 5 (.slice P3 (k + 1) c3)
                have H_202 := Lib.hid (H_192.out.grown hg_201 H_192.out.size (fun j hj => by injection hj with hj; have := SZB.out; have := HWS.out; have := SZ3.out; have := hS3.out; have := sz_143.out; have := sz_144.out; have := sz_145.out; have := sz_146.out; have := sz_147.out; have := sz_159.out; have := sz_161.out; have := sz_171.out; have := sz_181.out; have := sz_191.out; have := sz_200.out; omega))
                clear H_192
                have BG_203 := Lib.hid (BG_193.out.grown hg_201 (by intro e; injection e with e; have := SZB.out; have := HWS.out; have := SZ3.out; have := hS3.out; have := sz_143.out; have := sz_144.out; have := sz_145.out; have := sz_146.out; have := sz_147.out; have := sz_159.out; have := sz_161.out; have := sz_171.out; have := sz_181.out; have := sz_191.out; have := sz_200.out; omega))
                clear BG_193
                have BJ_204 := Lib.hid (BJ_194.out.grown hg_201 (by intro e; injection e with e; have := SZB.out; have := HWS.out; have := SZ3.out; have := hS3.out; have := sz_143.out; have := sz_144.out; have := sz_145.out; have := sz_146.out; have := sz_147.out; have := sz_159.out; have := sz_161.out; have := sz_171.out; have := sz_181.out; have := sz_191.out; have := sz_200.out; omega))
                clear BJ_194
                have BZ_205 := Lib.hid (BZ_195.out.grown hg_201 (by intro e; injection e with e; have := SZB.out; have := HWS.out; have := SZ3.out; have := hS3.out; have := sz_143.out; have := sz_144.out; have := sz_145.out; have := sz_146.out; have := sz_147.out; have := sz_159.out; have := sz_161.out; have := sz_171.out; have := sz_181.out; have := sz_191.out; have := sz_200.out; omega))
                clear BZ_195
                have Ov_206 := Lib.hid (own_kept Ov_197.out hg_201 (own_kind Ov_197.out BR_196.out (by decide)))
                clear Ov_197
                have Od_207 := Lib.hid (own_kept Od_198.out hg_201 (own_kind Od_198.out BR_196.out (by decide)))
                clear Od_198
                have Oe_208 := Lib.hid (own_kept HO3.out hg_201 (own_kind HO3.out BR_196.out (by decide)))
                clear HO3
                have BE_209 := Lib.hid (BE_199.out.grown hg_201 (by intro e; injection e with e; have := SZB.out; have := HWS.out; have := SZ3.out; have := hS3.out; have := sz_143.out; have := sz_144.out; have := sz_145.out; have := sz_146.out; have := sz_147.out; have := sz_159.out; have := sz_161.out; have := sz_171.out; have := sz_181.out; have := sz_191.out; have := sz_200.out; omega))
                clear BE_199
                have BR_210 : Hid (Blk (wa3.setCell ⟨w2.heap.size, 5, none⟩ (.slice P3 (k + 1) c3)) (w2.heap.size) #[.int .i64 p, .int .i64 s, .int .i64 0, .bool z, .slice A1 N c1, .slice P3 (k + 1) c3, .int .i64 0, .slice none 0 0] 43) := Lib.hid (Blk.set (BR_196.out) 5 (.slice P3 (k + 1) c3))
                clear BR_196
                have sz_211 := Lib.hid (World.grownBy.size hg_201)
                clear hg_201
                refine hK.out _ _ ⟨BJ_204.out.cell (i := 0) rfl, BJ_204.out.cell (i := 1) rfl, BE_209.out.cell (i := 0) rfl, BE_209.out.cell (i := 1) rfl, BE_209.out.cell (i := 2) rfl, (Od_207.out.cellAt f hfM).trans HDX.out⟩ (fun _ => ?_)
                clear hK K
                (try simp only [Act.put])
                refine wpAnyH_done (by kernel_rfl) ?_ _
                go_wp2
                go_roundw
                case rel => exact ⟨k + 1, P3, c3, by omega, by go_num, H_202, BG_203, BJ_204, BZ_205, BR_210, Ov_206, Od_207, by rw [HEN.out]; rw [vi_append]; exact Oe_208, Lib.hid (by have := SZB.out; have := HWS.out; have := SZ3.out; have := hS3.out; have := sz_143.out; have := sz_144.out; have := sz_145.out; have := sz_146.out; have := sz_147.out; have := sz_159.out; have := sz_161.out; have := sz_171.out; have := sz_181.out; have := sz_191.out; have := sz_200.out; have := sz_211.out; omega)⟩
                case measure => simp [intOf]; omega
              · skip
                go_simp
                go_at_call 45
                refine (CE.out (f : Int) et x _).mono ?_
                rintro e wc ⟨rfl, hb⟩
                have H_212 := Lib.hid (g_chain H_162.out hb)
                clear H_162
                have BG_213 := Lib.hid (BG_163.out.below hb)
                clear BG_163
                have BJ_214 := Lib.hid (BJ_164.out.below hb)
                clear BJ_164
                have BZ_215 := Lib.hid (BZ_165.out.below hb)
                clear BZ_165
                have BR_216 := Lib.hid (BR_166.out.below hb)
                clear BR_166
                have Ov_217 := Lib.hid (own_below Ov_167.out hb)
                clear Ov_167
                have Od_218 := Lib.hid (own_below Od_168.out hb)
                clear Od_168
                have Oe_219 := Lib.hid (own_below Oe_169.out hb)
                clear Oe_169
                have BE_220 := Lib.hid (BE_170.out.below hb)
                clear BE_170
                have sz_221 := Lib.hid (Below.size hb)
                clear hb
                dsimp only
                refine hK.out _ _ ⟨BJ_214.out.cell (i := 0) rfl, BJ_214.out.cell (i := 1) rfl, BE_220.out.cell (i := 0) rfl, BE_220.out.cell (i := 1) rfl, BE_220.out.cell (i := 2) rfl, (Od_218.out.cellAt f hfM).trans HDX.out⟩ (fun _ => ?_)
                clear hK K
                (try simp only [Act.put, List.setIfInBounds_toArray, List.set_cons_zero, List.set_cons_succ])
                refine wpAnyH_ready (rs := [1, 13]) (by kernel_rfl) (by simp) (AllReadyH.cons rfl (fun K hK => ?_) (AllReadyH.cons rfl (fun K hK => ?_) AllReadyH.nil))
                · skip
                  have xr := BR_216.out.cell (i := 5) rfl
                  have xl := BR_216.out.lt
                  go_simp
                  clear xr xl
                  refine hK.out _ _ ⟨BJ_214.out.cell (i := 0) rfl, BJ_214.out.cell (i := 1) rfl, BE_220.out.cell (i := 0) rfl, BE_220.out.cell (i := 1) rfl, BE_220.out.cell (i := 2) rfl, (Od_218.out.cellAt f hfM).trans HDX.out⟩ (fun _ => ?_)
                  clear hK K
                  (try simp only [Act.put, List.setIfInBounds_toArray, List.set_cons_zero, List.set_cons_succ])
                  refine wpAnyH_ready (rs := [13]) (by kernel_rfl) (by simp) (AllReadyH.cons rfl (fun K hK => ?_) AllReadyH.nil)
                  go_simp
                  have hb := below_a1 wc (.cells #[.int .i64 (firstE p (f : Int) et x)] 3)
                  have H_222 := Lib.hid (g_chain H_212.out hb)
                  clear H_212
                  have BG_223 := Lib.hid (BG_213.out.below hb)
                  clear BG_213
                  have BJ_224 := Lib.hid (BJ_214.out.below hb)
                  clear BJ_214
                  have BZ_225 := Lib.hid (BZ_215.out.below hb)
                  clear BZ_215
                  have BR_226 := Lib.hid (BR_216.out.below hb)
                  clear BR_216
                  have Ov_227 := Lib.hid (own_below Ov_217.out hb)
                  clear Ov_217
                  have Od_228 := Lib.hid (own_below Od_218.out hb)
                  clear Od_218
                  have Oe_229 := Lib.hid (own_below Oe_219.out hb)
                  clear Oe_219
                  have BE_230 := Lib.hid (BE_220.out.below hb)
                  clear BE_220
                  have sz_231 := Lib.hid (Below.size hb)
                  clear hb
                  refine hK.out _ _ ⟨BJ_224.out.cell (i := 0) rfl, BJ_224.out.cell (i := 1) rfl, BE_230.out.cell (i := 0) rfl, BE_230.out.cell (i := 1) rfl, BE_230.out.cell (i := 2) rfl, (Od_228.out.cellAt f hfM).trans HDX.out⟩ (fun _ => ?_)
                  clear hK K
                  (try simp only [Act.put, List.setIfInBounds_toArray, List.set_cons_zero, List.set_cons_succ])
                  refine wpAnyH_ready (rs := [14]) (by kernel_rfl) (by simp) (AllReadyH.cons rfl (fun K hK => ?_) AllReadyH.nil)
                  refine step_append_any _ (by rfl) (.tmp 51) (.tmp 63) _ (by rfl) (w3.heap.size) 3 i0 _ 1 8 Tryd.underlying27 hi hz0 hz1 hz2 rfl (by omega) (.slice B1 k d1) k (vi (ek k)) (by rfl) Oe_229.out (wc.heap.size + 1) (some ⟨wc.heap.size, 0, none⟩) 1 1 [.int .i64 (firstE p (f : Int) et x)] (by rfl) (lab_reads _ _ _ _ rfl) (lab_one _) (by simp only [maxLen]; omega) (by omega) (by have := SZB.out; have := HWS.out; have := SZ3.out; have := hS3.out; have := sz_143.out; have := sz_144.out; have := sz_145.out; have := sz_146.out; have := sz_147.out; have := sz_159.out; have := sz_161.out; have := sz_171.out; have := sz_221.out; have := sz_231.out; omega) ?_
                  intro v3 wa3 hown3 hg3 hat3
                  obtain ⟨P3, c3, rfl, -⟩ := own_formG hown3
                  have HO3 := Lib.hid hown3
                  clear hown3 hat3
                  have H_232 := Lib.hid (H_222.out.grown hg3 H_222.out.size (fun j hj => by have := (Oe_229.out.lt j hj).1; have := SZB.out; have := HWS.out; have := SZ3.out; have := hS3.out; have := sz_143.out; have := sz_144.out; have := sz_145.out; have := sz_146.out; have := sz_147.out; have := sz_159.out; have := sz_161.out; have := sz_171.out; have := sz_221.out; have := sz_231.out; omega))
                  clear H_222
                  have BG_233 := Lib.hid (BG_223.out.grown hg3 (own_kind Oe_229.out BG_223.out (by decide)))
                  clear BG_223
                  have BJ_234 := Lib.hid (BJ_224.out.grown hg3 (own_kind Oe_229.out BJ_224.out (by decide)))
                  clear BJ_224
                  have BZ_235 := Lib.hid (BZ_225.out.grown hg3 (own_kind Oe_229.out BZ_225.out (by decide)))
                  clear BZ_225
                  have BR_236 := Lib.hid (BR_226.out.grown hg3 (own_kind Oe_229.out BR_226.out (by decide)))
                  clear BR_226
                  have Ov_237 := Lib.hid (Ov_227.out.kept hg3 (rows_far VLT.out (fun g hg => (Oe_229.out.lt g hg).1)))
                  clear Ov_227
                  have Od_238 := Lib.hid (Od_228.out.kept hg3 (rows_far DLT.out (fun g hg => (Oe_229.out.lt g hg).1)))
                  clear Od_228
                  have BE_239 := Lib.hid (BE_230.out.grown hg3 (own_kind Oe_229.out BE_230.out (by decide)))
                  clear BE_230
                  clear Oe_229
                  have sz_240 := Lib.hid (World.grownBy.size hg3)
                  clear hg3
                  refine hK.out _ _ ⟨BJ_234.out.cell (i := 0) rfl, BJ_234.out.cell (i := 1) rfl, BE_239.out.cell (i := 0) rfl, BE_239.out.cell (i := 1) rfl, BE_239.out.cell (i := 2) rfl, (Od_238.out.cellAt f hfM).trans HDX.out⟩ (fun _ => ?_)
                  clear hK K
                  (try simp only [Act.put, List.setIfInBounds_toArray])
                  refine wpAnyH_take (i := 15) (oi := ⟨_, _, _, _, _, _⟩) (v := .pointer (some ⟨w2.heap.size, 5, none⟩)) rfl (by kernel_rfl) (by kernel_rfl) (by kernel_rfl) (fun _ _ _ h => h) (Or.inl ⟨by kernel_rfl, fun W hS => by go_simp⟩) ⟨BJ_234.out.cell (i := 0) rfl, BJ_234.out.cell (i := 1) rfl, BE_239.out.cell (i := 0) rfl, BE_239.out.cell (i := 1) rfl, BE_239.out.cell (i := 2) rfl, (Od_238.out.cellAt f hfM).trans HDX.out⟩ ?_
                  (try simp only [Act.put])
                  refine wpAnyH_ready (rs := [16]) (by kernel_rfl) (by simp) (AllReadyH.cons rfl (fun K hK => ?_) AllReadyH.nil)
                  have xz := BR_236.out.cell (i := 5) rfl
                  have xf := BR_236.out.frozen 5
                  have xl := BR_236.out.lt
                  go_simp
                  clear xz xf xl
                  have hg_241 := grown_cell wa3 (w2.heap.size) 5 (.slice P3 (k + 1) c3)
                  have H_242 := Lib.hid (H_232.out.grown hg_241 H_232.out.size (fun j hj => by injection hj with hj; have := SZB.out; have := HWS.out; have := SZ3.out; have := hS3.out; have := sz_143.out; have := sz_144.out; have := sz_145.out; have := sz_146.out; have := sz_147.out; have := sz_159.out; have := sz_161.out; have := sz_171.out; have := sz_221.out; have := sz_231.out; have := sz_240.out; omega))
                  clear H_232
                  have BG_243 := Lib.hid (BG_233.out.grown hg_241 (by intro e; injection e with e; have := SZB.out; have := HWS.out; have := SZ3.out; have := hS3.out; have := sz_143.out; have := sz_144.out; have := sz_145.out; have := sz_146.out; have := sz_147.out; have := sz_159.out; have := sz_161.out; have := sz_171.out; have := sz_221.out; have := sz_231.out; have := sz_240.out; omega))
                  clear BG_233
                  have BJ_244 := Lib.hid (BJ_234.out.grown hg_241 (by intro e; injection e with e; have := SZB.out; have := HWS.out; have := SZ3.out; have := hS3.out; have := sz_143.out; have := sz_144.out; have := sz_145.out; have := sz_146.out; have := sz_147.out; have := sz_159.out; have := sz_161.out; have := sz_171.out; have := sz_221.out; have := sz_231.out; have := sz_240.out; omega))
                  clear BJ_234
                  have BZ_245 := Lib.hid (BZ_235.out.grown hg_241 (by intro e; injection e with e; have := SZB.out; have := HWS.out; have := SZ3.out; have := hS3.out; have := sz_143.out; have := sz_144.out; have := sz_145.out; have := sz_146.out; have := sz_147.out; have := sz_159.out; have := sz_161.out; have := sz_171.out; have := sz_221.out; have := sz_231.out; have := sz_240.out; omega))
                  clear BZ_235
                  have Ov_246 := Lib.hid (own_kept Ov_237.out hg_241 (own_kind Ov_237.out BR_236.out (by decide)))
                  clear Ov_237
                  have Od_247 := Lib.hid (own_kept Od_238.out hg_241 (own_kind Od_238.out BR_236.out (by decide)))
                  clear Od_238
                  have Oe_248 := Lib.hid (own_kept HO3.out hg_241 (own_kind HO3.out BR_236.out (by decide)))
                  clear HO3
                  have BE_249 := Lib.hid (BE_239.out.grown hg_241 (by intro e; injection e with e; have := SZB.out; have := HWS.out; have := SZ3.out; have := hS3.out; have := sz_143.out; have := sz_144.out; have := sz_145.out; have := sz_146.out; have := sz_147.out; have := sz_159.out; have := sz_161.out; have := sz_171.out; have := sz_221.out; have := sz_231.out; have := sz_240.out; omega))
                  clear BE_239
                  have BR_250 : Hid (Blk (wa3.setCell ⟨w2.heap.size, 5, none⟩ (.slice P3 (k + 1) c3)) (w2.heap.size) #[.int .i64 p, .int .i64 s, .int .i64 0, .bool z, .slice A1 N c1, .slice P3 (k + 1) c3, .int .i64 0, .slice none 0 0] 43) := Lib.hid (Blk.set (BR_236.out) 5 (.slice P3 (k + 1) c3))
                  clear BR_236
                  have sz_251 := Lib.hid (World.grownBy.size hg_241)
                  clear hg_241
                  refine hK.out _ _ ⟨BJ_244.out.cell (i := 0) rfl, BJ_244.out.cell (i := 1) rfl, BE_249.out.cell (i := 0) rfl, BE_249.out.cell (i := 1) rfl, BE_249.out.cell (i := 2) rfl, (Od_247.out.cellAt f hfM).trans HDX.out⟩ (fun _ => ?_)
                  clear hK K
                  (try simp only [Act.put])
                  refine wpAnyH_done (by kernel_rfl) ?_ _
                  go_wp2
                  go_roundw
                  case rel => exact ⟨k + 1, P3, c3, by omega, by go_num, H_242, BG_243, BJ_244, BZ_245, BR_250, Ov_246, Od_247, by rw [HEN.out]; rw [vi_append]; exact Oe_248, Lib.hid (by have := SZB.out; have := HWS.out; have := SZ3.out; have := hS3.out; have := sz_143.out; have := sz_144.out; have := sz_145.out; have := sz_146.out; have := sz_147.out; have := sz_159.out; have := sz_161.out; have := sz_171.out; have := sz_221.out; have := sz_231.out; have := sz_240.out; have := sz_251.out; omega)⟩
                  case measure => simp [intOf]; omega
                · skip
                  go_simp
                  have hb := below_a1 wc (.cells #[.int .i64 (firstE p (f : Int) et x)] 3)
                  have H_252 := Lib.hid (g_chain H_212.out hb)
                  clear H_212
                  have BG_253 := Lib.hid (BG_213.out.below hb)
                  clear BG_213
                  have BJ_254 := Lib.hid (BJ_214.out.below hb)
                  clear BJ_214
                  have BZ_255 := Lib.hid (BZ_215.out.below hb)
                  clear BZ_215
                  have BR_256 := Lib.hid (BR_216.out.below hb)
                  clear BR_216
                  have Ov_257 := Lib.hid (own_below Ov_217.out hb)
                  clear Ov_217
                  have Od_258 := Lib.hid (own_below Od_218.out hb)
                  clear Od_218
                  have Oe_259 := Lib.hid (own_below Oe_219.out hb)
                  clear Oe_219
                  have BE_260 := Lib.hid (BE_220.out.below hb)
                  clear BE_220
                  have sz_261 := Lib.hid (Below.size hb)
                  clear hb
                  refine hK.out _ _ ⟨BJ_254.out.cell (i := 0) rfl, BJ_254.out.cell (i := 1) rfl, BE_260.out.cell (i := 0) rfl, BE_260.out.cell (i := 1) rfl, BE_260.out.cell (i := 2) rfl, (Od_258.out.cellAt f hfM).trans HDX.out⟩ (fun _ => ?_)
                  clear hK K
                  (try simp only [Act.put, List.setIfInBounds_toArray, List.set_cons_zero, List.set_cons_succ])
                  refine wpAnyH_ready (rs := [1]) (by kernel_rfl) (by simp) (AllReadyH.cons rfl (fun K hK => ?_) AllReadyH.nil)
                  have xr := BR_256.out.cell (i := 5) rfl
                  have xl := BR_256.out.lt
                  go_simp
                  clear xr xl
                  refine hK.out _ _ ⟨BJ_254.out.cell (i := 0) rfl, BJ_254.out.cell (i := 1) rfl, BE_260.out.cell (i := 0) rfl, BE_260.out.cell (i := 1) rfl, BE_260.out.cell (i := 2) rfl, (Od_258.out.cellAt f hfM).trans HDX.out⟩ (fun _ => ?_)
                  clear hK K
                  (try simp only [Act.put, List.setIfInBounds_toArray, List.set_cons_zero, List.set_cons_succ])
                  refine wpAnyH_ready (rs := [14]) (by kernel_rfl) (by simp) (AllReadyH.cons rfl (fun K hK => ?_) AllReadyH.nil)
                  refine step_append_any _ (by rfl) (.tmp 51) (.tmp 63) _ (by rfl) (w3.heap.size) 3 i0 _ 1 8 Tryd.underlying27 hi hz0 hz1 hz2 rfl (by omega) (.slice B1 k d1) k (vi (ek k)) (by rfl) Oe_259.out (wc.heap.size + 1) (some ⟨wc.heap.size, 0, none⟩) 1 1 [.int .i64 (firstE p (f : Int) et x)] (by rfl) (lab_reads _ _ _ _ rfl) (lab_one _) (by simp only [maxLen]; omega) (by omega) (by have := SZB.out; have := HWS.out; have := SZ3.out; have := hS3.out; have := sz_143.out; have := sz_144.out; have := sz_145.out; have := sz_146.out; have := sz_147.out; have := sz_159.out; have := sz_161.out; have := sz_171.out; have := sz_221.out; have := sz_261.out; omega) ?_
                  intro v3 wa3 hown3 hg3 hat3
                  obtain ⟨P3, c3, rfl, -⟩ := own_formG hown3
                  have HO3 := Lib.hid hown3
                  clear hown3 hat3
                  have H_262 := Lib.hid (H_252.out.grown hg3 H_252.out.size (fun j hj => by have := (Oe_259.out.lt j hj).1; have := SZB.out; have := HWS.out; have := SZ3.out; have := hS3.out; have := sz_143.out; have := sz_144.out; have := sz_145.out; have := sz_146.out; have := sz_147.out; have := sz_159.out; have := sz_161.out; have := sz_171.out; have := sz_221.out; have := sz_261.out; omega))
                  clear H_252
                  have BG_263 := Lib.hid (BG_253.out.grown hg3 (own_kind Oe_259.out BG_253.out (by decide)))
                  clear BG_253
                  have BJ_264 := Lib.hid (BJ_254.out.grown hg3 (own_kind Oe_259.out BJ_254.out (by decide)))
                  clear BJ_254
                  have BZ_265 := Lib.hid (BZ_255.out.grown hg3 (own_kind Oe_259.out BZ_255.out (by decide)))
                  clear BZ_255
                  have BR_266 := Lib.hid (BR_256.out.grown hg3 (own_kind Oe_259.out BR_256.out (by decide)))
                  clear BR_256
                  have Ov_267 := Lib.hid (Ov_257.out.kept hg3 (rows_far VLT.out (fun g hg => (Oe_259.out.lt g hg).1)))
                  clear Ov_257
                  have Od_268 := Lib.hid (Od_258.out.kept hg3 (rows_far DLT.out (fun g hg => (Oe_259.out.lt g hg).1)))
                  clear Od_258
                  have BE_269 := Lib.hid (BE_260.out.grown hg3 (own_kind Oe_259.out BE_260.out (by decide)))
                  clear BE_260
                  clear Oe_259
                  have sz_270 := Lib.hid (World.grownBy.size hg3)
                  clear hg3
                  refine hK.out _ _ ⟨BJ_264.out.cell (i := 0) rfl, BJ_264.out.cell (i := 1) rfl, BE_269.out.cell (i := 0) rfl, BE_269.out.cell (i := 1) rfl, BE_269.out.cell (i := 2) rfl, (Od_268.out.cellAt f hfM).trans HDX.out⟩ (fun _ => ?_)
                  clear hK K
                  (try simp only [Act.put, List.setIfInBounds_toArray])
                  refine wpAnyH_take (i := 15) (oi := ⟨_, _, _, _, _, _⟩) (v := .pointer (some ⟨w2.heap.size, 5, none⟩)) rfl (by kernel_rfl) (by kernel_rfl) (by kernel_rfl) (fun _ _ _ h => h) (Or.inl ⟨by kernel_rfl, fun W hS => by go_simp⟩) ⟨BJ_264.out.cell (i := 0) rfl, BJ_264.out.cell (i := 1) rfl, BE_269.out.cell (i := 0) rfl, BE_269.out.cell (i := 1) rfl, BE_269.out.cell (i := 2) rfl, (Od_268.out.cellAt f hfM).trans HDX.out⟩ ?_
                  (try simp only [Act.put])
                  refine wpAnyH_ready (rs := [16]) (by kernel_rfl) (by simp) (AllReadyH.cons rfl (fun K hK => ?_) AllReadyH.nil)
                  have xz := BR_266.out.cell (i := 5) rfl
                  have xf := BR_266.out.frozen 5
                  have xl := BR_266.out.lt
                  go_simp
                  clear xz xf xl
                  have hg_271 := grown_cell wa3 (w2.heap.size) 5 (.slice P3 (k + 1) c3)
                  have H_272 := Lib.hid (H_262.out.grown hg_271 H_262.out.size (fun j hj => by injection hj with hj; have := SZB.out; have := HWS.out; have := SZ3.out; have := hS3.out; have := sz_143.out; have := sz_144.out; have := sz_145.out; have := sz_146.out; have := sz_147.out; have := sz_159.out; have := sz_161.out; have := sz_171.out; have := sz_221.out; have := sz_261.out; have := sz_270.out; omega))
                  clear H_262
                  have BG_273 := Lib.hid (BG_263.out.grown hg_271 (by intro e; injection e with e; have := SZB.out; have := HWS.out; have := SZ3.out; have := hS3.out; have := sz_143.out; have := sz_144.out; have := sz_145.out; have := sz_146.out; have := sz_147.out; have := sz_159.out; have := sz_161.out; have := sz_171.out; have := sz_221.out; have := sz_261.out; have := sz_270.out; omega))
                  clear BG_263
                  have BJ_274 := Lib.hid (BJ_264.out.grown hg_271 (by intro e; injection e with e; have := SZB.out; have := HWS.out; have := SZ3.out; have := hS3.out; have := sz_143.out; have := sz_144.out; have := sz_145.out; have := sz_146.out; have := sz_147.out; have := sz_159.out; have := sz_161.out; have := sz_171.out; have := sz_221.out; have := sz_261.out; have := sz_270.out; omega))
                  clear BJ_264
                  have BZ_275 := Lib.hid (BZ_265.out.grown hg_271 (by intro e; injection e with e; have := SZB.out; have := HWS.out; have := SZ3.out; have := hS3.out; have := sz_143.out; have := sz_144.out; have := sz_145.out; have := sz_146.out; have := sz_147.out; have := sz_159.out; have := sz_161.out; have := sz_171.out; have := sz_221.out; have := sz_261.out; have := sz_270.out; omega))
                  clear BZ_265
                  have Ov_276 := Lib.hid (own_kept Ov_267.out hg_271 (own_kind Ov_267.out BR_266.out (by decide)))
                  clear Ov_267
                  have Od_277 := Lib.hid (own_kept Od_268.out hg_271 (own_kind Od_268.out BR_266.out (by decide)))
                  clear Od_268
                  have Oe_278 := Lib.hid (own_kept HO3.out hg_271 (own_kind HO3.out BR_266.out (by decide)))
                  clear HO3
                  have BE_279 := Lib.hid (BE_269.out.grown hg_271 (by intro e; injection e with e; have := SZB.out; have := HWS.out; have := SZ3.out; have := hS3.out; have := sz_143.out; have := sz_144.out; have := sz_145.out; have := sz_146.out; have := sz_147.out; have := sz_159.out; have := sz_161.out; have := sz_171.out; have := sz_221.out; have := sz_261.out; have := sz_270.out; omega))
                  clear BE_269
                  have BR_280 : Hid (Blk (wa3.setCell ⟨w2.heap.size, 5, none⟩ (.slice P3 (k + 1) c3)) (w2.heap.size) #[.int .i64 p, .int .i64 s, .int .i64 0, .bool z, .slice A1 N c1, .slice P3 (k + 1) c3, .int .i64 0, .slice none 0 0] 43) := Lib.hid (Blk.set (BR_266.out) 5 (.slice P3 (k + 1) c3))
                  clear BR_266
                  have sz_281 := Lib.hid (World.grownBy.size hg_271)
                  clear hg_271
                  refine hK.out _ _ ⟨BJ_274.out.cell (i := 0) rfl, BJ_274.out.cell (i := 1) rfl, BE_279.out.cell (i := 0) rfl, BE_279.out.cell (i := 1) rfl, BE_279.out.cell (i := 2) rfl, (Od_277.out.cellAt f hfM).trans HDX.out⟩ (fun _ => ?_)
                  clear hK K
                  (try simp only [Act.put])
                  refine wpAnyH_done (by kernel_rfl) ?_ _
                  go_wp2
                  go_roundw
                  case rel => exact ⟨k + 1, P3, c3, by omega, by go_num, H_272, BG_273, BJ_274, BZ_275, BR_280, Ov_276, Od_277, by rw [HEN.out]; rw [vi_append]; exact Oe_278, Lib.hid (by have := SZB.out; have := HWS.out; have := SZ3.out; have := hS3.out; have := sz_143.out; have := sz_144.out; have := sz_145.out; have := sz_146.out; have := sz_147.out; have := sz_159.out; have := sz_161.out; have := sz_171.out; have := sz_221.out; have := sz_261.out; have := sz_270.out; have := sz_281.out; omega)⟩
                  case measure => simp [intOf]; omega
            · obtain rfl : k = G.length := by omega
              have x_282 := hBG.out.cell (i := 0) rfl
              have x_283 := hBG.out.cell (i := 1) rfl
              go_wp2_with fail
              refine (CN.out _ hH.out).mono ?_
              rintro e w4 ⟨C9, k9, rfl, ho, hb⟩
              clear x_282
              clear x_283
              have H_284 := Lib.hid (g_chain hH.out hb)
              clear hH
              have BG_285 := Lib.hid (hBG.out.below hb)
              clear hBG
              have BJ_286 := Lib.hid (hBJ.out.below hb)
              clear hBJ
              have BZ_287 := Lib.hid (hBZ.out.below hb)
              clear hBZ
              have BR_288 := Lib.hid (hBR.out.below hb)
              clear hBR
              have Ov_289 := Lib.hid (own_below hOv.out hb)
              clear hOv
              have Od_290 := Lib.hid (own_below hOd.out hb)
              clear hOd
              have Oe_291 := Lib.hid (own_below hOe.out hb)
              clear hOe
              have sz_292 := Lib.hid (Below.size hb)
              have Ox_293 := Lib.hid (ho)
              clear ho hb
              have x_294 := BR_288.out.cell (i := 0) rfl
              have x_295 := BR_288.out.cell (i := 1) rfl
              have x_296 := BR_288.out.cell (i := 2) rfl
              have x_297 := BR_288.out.cell (i := 3) rfl
              have x_298 := BR_288.out.cell (i := 4) rfl
              have x_299 := BR_288.out.cell (i := 5) rfl
              have x_300 := BR_288.out.cell (i := 6) rfl
              have x_301 := BR_288.out.cell (i := 7) rfl
              have fz_302 := fun i => BR_288.out.frozen i
              have lt_303 := BR_288.out.lt
              have x_304 := BZ_287.out.cell (i := 0) rfl
              have x_305 := BZ_287.out.cell (i := 1) rfl
              have x_306 := BZ_287.out.cell (i := 2) rfl
              have x_307 := BZ_287.out.cell (i := 3) rfl
              have x_308 := BZ_287.out.cell (i := 4) rfl
              have x_309 := BZ_287.out.cell (i := 5) rfl
              have x_310 := BZ_287.out.cell (i := 6) rfl
              have x_311 := BZ_287.out.cell (i := 7) rfl
              have fz_312 := fun i => BZ_287.out.frozen i
              have lt_313 := BZ_287.out.lt
              go_wp2
              clear x_294 x_295 x_296 x_297 x_298 x_299 x_300 x_301 fz_302 lt_303 x_304 x_305 x_306 x_307 x_308 x_309 x_310 x_311 fz_312 lt_313
              have hg_314 := (grown_cell w4 (w2.heap.size) 6 (.int .i64 (N : Int))).trans (grown_cell (w4.setCell ⟨w2.heap.size, 6, none⟩ (.int .i64 (N : Int))) (w2.heap.size) 7 (.slice C9 (newX (N : Int) true).length k9))
              have H_315 := Lib.hid (H_284.out.grown hg_314 H_284.out.size (fun j hj => by injection hj with hj; have := SZB.out; have := HWS.out; have := SZ3.out; have := hS3.out; have := sz_292.out; omega))
              clear H_284
              have BG_316 := Lib.hid (BG_285.out.grown hg_314 (by intro e; injection e with e; have := SZB.out; have := HWS.out; have := SZ3.out; have := hS3.out; have := sz_292.out; omega))
              clear BG_285
              have BJ_317 := Lib.hid (BJ_286.out.grown hg_314 (by intro e; injection e with e; have := SZB.out; have := HWS.out; have := SZ3.out; have := hS3.out; have := sz_292.out; omega))
              clear BJ_286
              have BZ_318 := Lib.hid (BZ_287.out.grown hg_314 (by intro e; injection e with e; have := SZB.out; have := HWS.out; have := SZ3.out; have := hS3.out; have := sz_292.out; omega))
              clear BZ_287
              have Ov_319 := Lib.hid (own_kept Ov_289.out hg_314 (own_kind Ov_289.out BR_288.out (by decide)))
              clear Ov_289
              have Od_320 := Lib.hid (own_kept Od_290.out hg_314 (own_kind Od_290.out BR_288.out (by decide)))
              clear Od_290
              have Oe_321 := Lib.hid (own_kept Oe_291.out hg_314 (own_kind Oe_291.out BR_288.out (by decide)))
              clear Oe_291
              have Ox_322 := Lib.hid (own_kept Ox_293.out hg_314 (own_kind Ox_293.out BR_288.out (by decide)))
              clear Ox_293
              have BR_323 : Hid (Blk ((w4.setCell ⟨w2.heap.size, 6, none⟩ (.int .i64 (N : Int))).setCell ⟨w2.heap.size, 7, none⟩ (.slice C9 (newX (N : Int) true).length k9)) (w2.heap.size) #[.int .i64 p, .int .i64 s, .int .i64 0, .bool z, .slice A1 N c1, .slice B1 G.length d1, .int .i64 (N : Int), .slice C9 (newX (N : Int) true).length k9] 43) := Lib.hid (Blk.set (Blk.set (BR_288.out) 6 (.int .i64 (N : Int))) 7 (.slice C9 (newX (N : Int) true).length k9))
              clear BR_288
              have sz_324 := Lib.hid (World.grownBy.size hg_314)
              clear hg_314
              have VAP := rows_ap (v1 := .slice A1 N c1) (v2 := .slice B1 G.length d1) VLT.out (fun g hg => (Oe_321.out.lt g hg).1)
              have hg_325 := (((((((grown_cell ((w4.setCell ⟨w2.heap.size, 6, none⟩ (.int .i64 (N : Int))).setCell ⟨w2.heap.size, 7, none⟩ (.slice C9 (newX (N : Int) true).length k9)) (w.heap.size + 2) 0 (.int .i64 p)).trans (grown_cell (((w4.setCell ⟨w2.heap.size, 6, none⟩ (.int .i64 (N : Int))).setCell ⟨w2.heap.size, 7, none⟩ (.slice C9 (newX (N : Int) true).length k9)).setCell ⟨w.heap.size + 2, 0, none⟩ (.int .i64 p)) (w.heap.size + 2) 1 (.int .i64 s))).trans (grown_cell ((((w4.setCell ⟨w2.heap.size, 6, none⟩ (.int .i64 (N : Int))).setCell ⟨w2.heap.size, 7, none⟩ (.slice C9 (newX (N : Int) true).length k9)).setCell ⟨w.heap.size + 2, 0, none⟩ (.int .i64 p)).setCell ⟨w.heap.size + 2, 1, none⟩ (.int .i64 s)) (w.heap.size + 2) 2 (.int .i64 0))).trans (grown_cell (((((w4.setCell ⟨w2.heap.size, 6, none⟩ (.int .i64 (N : Int))).setCell ⟨w2.heap.size, 7, none⟩ (.slice C9 (newX (N : Int) true).length k9)).setCell ⟨w.heap.size + 2, 0, none⟩ (.int .i64 p)).setCell ⟨w.heap.size + 2, 1, none⟩ (.int .i64 s)).setCell ⟨w.heap.size + 2, 2, none⟩ (.int .i64 0)) (w.heap.size + 2) 3 (.bool z))).trans (grown_cell ((((((w4.setCell ⟨w2.heap.size, 6, none⟩ (.int .i64 (N : Int))).setCell ⟨w2.heap.size, 7, none⟩ (.slice C9 (newX (N : Int) true).length k9)).setCell ⟨w.heap.size + 2, 0, none⟩ (.int .i64 p)).setCell ⟨w.heap.size + 2, 1, none⟩ (.int .i64 s)).setCell ⟨w.heap.size + 2, 2, none⟩ (.int .i64 0)).setCell ⟨w.heap.size + 2, 3, none⟩ (.bool z)) (w.heap.size + 2) 4 (.slice A1 N c1))).trans (grown_cell (((((((w4.setCell ⟨w2.heap.size, 6, none⟩ (.int .i64 (N : Int))).setCell ⟨w2.heap.size, 7, none⟩ (.slice C9 (newX (N : Int) true).length k9)).setCell ⟨w.heap.size + 2, 0, none⟩ (.int .i64 p)).setCell ⟨w.heap.size + 2, 1, none⟩ (.int .i64 s)).setCell ⟨w.heap.size + 2, 2, none⟩ (.int .i64 0)).setCell ⟨w.heap.size + 2, 3, none⟩ (.bool z)).setCell ⟨w.heap.size + 2, 4, none⟩ (.slice A1 N c1)) (w.heap.size + 2) 5 (.slice B1 G.length d1))).trans (grown_cell ((((((((w4.setCell ⟨w2.heap.size, 6, none⟩ (.int .i64 (N : Int))).setCell ⟨w2.heap.size, 7, none⟩ (.slice C9 (newX (N : Int) true).length k9)).setCell ⟨w.heap.size + 2, 0, none⟩ (.int .i64 p)).setCell ⟨w.heap.size + 2, 1, none⟩ (.int .i64 s)).setCell ⟨w.heap.size + 2, 2, none⟩ (.int .i64 0)).setCell ⟨w.heap.size + 2, 3, none⟩ (.bool z)).setCell ⟨w.heap.size + 2, 4, none⟩ (.slice A1 N c1)).setCell ⟨w.heap.size + 2, 5, none⟩ (.slice B1 G.length d1)) (w.heap.size + 2) 6 (.int .i64 (N : Int)))).trans (grown_cell (((((((((w4.setCell ⟨w2.heap.size, 6, none⟩ (.int .i64 (N : Int))).setCell ⟨w2.heap.size, 7, none⟩ (.slice C9 (newX (N : Int) true).length k9)).setCell ⟨w.heap.size + 2, 0, none⟩ (.int .i64 p)).setCell ⟨w.heap.size + 2, 1, none⟩ (.int .i64 s)).setCell ⟨w.heap.size + 2, 2, none⟩ (.int .i64 0)).setCell ⟨w.heap.size + 2, 3, none⟩ (.bool z)).setCell ⟨w.heap.size + 2, 4, none⟩ (.slice A1 N c1)).setCell ⟨w.heap.size + 2, 5, none⟩ (.slice B1 G.length d1)).setCell ⟨w.heap.size + 2, 6, none⟩ (.int .i64 (N : Int))) (w.heap.size + 2) 7 (.slice C9 (newX (N : Int) true).length k9))
              have H_326 := Lib.hid (H_315.out.grown hg_325 H_315.out.size (fun j hj => by injection hj with hj; have := SZB.out; have := HWS.out; have := SZ3.out; have := hS3.out; have := sz_292.out; have := sz_324.out; omega))
              clear H_315
              have BG_327 := Lib.hid (BG_316.out.grown hg_325 (by intro e; injection e with e; have := SZB.out; have := HWS.out; have := SZ3.out; have := hS3.out; have := sz_292.out; have := sz_324.out; omega))
              clear BG_316
              have BJ_328 := Lib.hid (BJ_317.out.grown hg_325 (by intro e; injection e with e; have := SZB.out; have := HWS.out; have := SZ3.out; have := hS3.out; have := sz_292.out; have := sz_324.out; omega))
              clear BJ_317
              have BR_329 := Lib.hid (BR_323.out.grown hg_325 (by intro e; injection e with e; have := SZB.out; have := HWS.out; have := SZ3.out; have := hS3.out; have := sz_292.out; have := sz_324.out; omega))
              clear BR_323
              have Ov_330 := Lib.hid (own_kept Ov_319.out hg_325 (own_kind Ov_319.out BZ_318.out (by decide)))
              clear Ov_319
              have Od_331 := Lib.hid (own_kept Od_320.out hg_325 (own_kind Od_320.out BZ_318.out (by decide)))
              clear Od_320
              have Oe_332 := Lib.hid (own_kept Oe_321.out hg_325 (own_kind Oe_321.out BZ_318.out (by decide)))
              clear Oe_321
              have Ox_333 := Lib.hid (own_kept Ox_322.out hg_325 (own_kind Ox_322.out BZ_318.out (by decide)))
              clear Ox_322
              have BZ_334 : Hid (Blk ((((((((((w4.setCell ⟨w2.heap.size, 6, none⟩ (.int .i64 (N : Int))).setCell ⟨w2.heap.size, 7, none⟩ (.slice C9 (newX (N : Int) true).length k9)).setCell ⟨w.heap.size + 2, 0, none⟩ (.int .i64 p)).setCell ⟨w.heap.size + 2, 1, none⟩ (.int .i64 s)).setCell ⟨w.heap.size + 2, 2, none⟩ (.int .i64 0)).setCell ⟨w.heap.size + 2, 3, none⟩ (.bool z)).setCell ⟨w.heap.size + 2, 4, none⟩ (.slice A1 N c1)).setCell ⟨w.heap.size + 2, 5, none⟩ (.slice B1 G.length d1)).setCell ⟨w.heap.size + 2, 6, none⟩ (.int .i64 (N : Int))).setCell ⟨w.heap.size + 2, 7, none⟩ (.slice C9 (newX (N : Int) true).length k9)) (w.heap.size + 2) #[.int .i64 p, .int .i64 s, .int .i64 0, .bool z, .slice A1 N c1, .slice B1 G.length d1, .int .i64 (N : Int), .slice C9 (newX (N : Int) true).length k9] 43) := Lib.hid (Blk.set (Blk.set (Blk.set (Blk.set (Blk.set (Blk.set (Blk.set (Blk.set (BZ_318.out) 0 (.int .i64 p)) 1 (.int .i64 s)) 2 (.int .i64 0)) 3 (.bool z)) 4 (.slice A1 N c1)) 5 (.slice B1 G.length d1)) 6 (.int .i64 (N : Int))) 7 (.slice C9 (newX (N : Int) true).length k9))
              clear BZ_318
              have sz_335 := Lib.hid (World.grownBy.size hg_325)
              clear hg_325
              obtain ⟨-, y0, y1, y2, y3, y4, y5, y6, y7⟩ := BZ_334.out.eight
              refine bodyPost_ret (v := .tuple #[.agg #[.int .i64 p, .int .i64 s, .int .i64 0, .bool z, .slice A1 N c1, .slice B1 G.length d1, .int .i64 (N : Int), .slice C9 (newX (N : Int) true).length k9], .bool true]) (by simp [results, Tryd.results15, go_sem, y0, y1, y2, y3, y4, y5, y6, y7]) rfl ?_
              have hv := HVL.out N
              have he := HEL.out G.length (Nat.le_refl _)
              refine ⟨A1, c1, B1, d1, C9, k9, by simp only [hv, he], ⟨?_, ?_, ?_, ?_⟩, H_326.out⟩
              · simp only [hv]; exact Ov_330.out
              · simp only [he]; exact own_monoG Oe_332.out (by have := SZB.out; have := HWS.out; have := SZ3.out; have := hS3.out; have := sz_292.out; have := sz_324.out; have := sz_335.out; omega)
              · exact own_monoG Ox_333.out (by have := SZB.out; have := HWS.out; have := SZ3.out; have := hS3.out; have := sz_292.out; have := sz_324.out; have := sz_335.out; omega)
              · simp only [hv, he]; exact VAP
end Go.Proofs.YtlhcobkncceodaaDoor
