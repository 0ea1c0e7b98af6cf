/- The contracts of the draws of a number below a great bound, of a number of any kind, of a record and of a list of records; of a law's small number. They say that what is drawn lies in its range, and that nothing but the cursor is written. -/
import Derived.Test.YtdmdikbcgpbbdaaDrawCut
import Derived.Test.YtdmdikbcgpbbdaaBlk
import Derived.Test.YtdmdikbcgpbbdaaAppend
import Derived.Test.YtdmdikbcgpbbdaaDrawKeep
namespace Go.Proofs.Ytdmdikbcgpbbdaa
open Go.RowKit

set_option maxRecDepth 10000 in
set_option maxHeartbeats 1000000 in
theorem drawBelowB (g : Nat) (A : Option Addr) (n c m : Nat) (xs : List Nat) (w : World) (hcur : Cur w g A n c xs) (h0 : 256 < m) (hm : m ≤ 65536) :
    Calls Try.prog 49 #[.pointer (some ⟨g, 0, none⟩), .int .i64 (m : Int)] w (BelowRes w g A n c xs m) := by
  have CB := Lib.hid (fun W (h : Cur W g A n c xs) => drawByte g A n c xs W h)
  have H0 := Lib.hid hcur
  clear hcur
  go_enter Try.func49, Try.ntmps49
  go_wp2_with fail
  refine (CB.out _ H0.out).mono ?_
  rintro e w1 ⟨x1, hx1, rfl, hcu1, hg1⟩
  have H1 := Lib.hid hcu1
  have G1 := Lib.hid hg1
  clear hcu1 hg1
  go_wp2_with fail
  refine (CB.out _ H1.out).mono ?_
  rintro e w2 ⟨x2, hx2, rfl, hcu2, hg2⟩
  have H2 := Lib.hid hcu2
  have G2 := Lib.hid (grownBy_trans G1.out hg2)
  clear hcu2 hg2
  go_wp2_with fail
  refine (CB.out _ H2.out).mono ?_
  rintro e w3 ⟨x3, hx3, rfl, hcu3, hg3⟩
  have H3 := Lib.hid hcu3
  have G3 := Lib.hid (grownBy_trans G2.out hg3)
  clear hcu3 hg3
  go_wp2_with fail
  refine (CB.out _ H3.out).mono ?_
  rintro e w4 ⟨x4, hx4, rfl, hcu4, hg4⟩
  have H4 := Lib.hid hcu4
  have G4 := Lib.hid (grownBy_trans G3.out hg4)
  clear hcu4 hg4
  go_wp2
  go_ret
  exact ⟨(x1 * 16777216 + x2 * 65536 + x3 * 256 + x4) % m, Nat.mod_lt _ (by omega), by rw [Int.natCast_emod]; rfl, H4.out, G4.out⟩

def AnyRes (w : World) (g : Nat) (A : Option Addr) (n c : Nat) (xs : List Nat) (e : Ending) (w' : World) : Prop :=
  ∃ z : Int, e = .returned (.int .i64 z) ∧ Cur w' g A n c xs ∧ w.grownBy w' (some g)
def rawNums : List Int := [127, 128, 16383, 16384, 140737488355327, 140737488355328, -140737488355328, -140737488355329]
theorem raws_row (w : World) (t : TypeId) : SlI (w.alloc (.cells #[.int .i64 127, .int .i64 128, .int .i64 16383, .int .i64 16384, .int .i64 140737488355327, .int .i64 140737488355328, .int .i64 (-140737488355328), .int .i64 (-140737488355329)] t)) (some ⟨w.heap.size, 0, none⟩) 8 rawNums := by
  refine ⟨rfl, ⟨rfl, fun _ => ⟨w.heap.size, 0, rfl, by simp, fun j u hu => ?_⟩⟩⟩
  rw [Nat.zero_add]
  match j, hu with
  | 0, hu => simp [vi, rawNums] at hu; subst hu; simp
  | 1, hu => simp [vi, rawNums] at hu; subst hu; simp
  | 2, hu => simp [vi, rawNums] at hu; subst hu; simp
  | 3, hu => simp [vi, rawNums] at hu; subst hu; simp
  | 4, hu => simp [vi, rawNums] at hu; subst hu; simp
  | 5, hu => simp [vi, rawNums] at hu; subst hu; simp
  | 6, hu => simp [vi, rawNums] at hu; subst hu; simp
  | 7, hu => simp [vi, rawNums] at hu; subst hu; simp

set_option maxRecDepth 10000 in
set_option maxHeartbeats 4000000 in
theorem drawRaw (g : Nat) (A : Option Addr) (n c : Nat) (xs : List Nat) (w : World) (hcur : Cur w g A n c xs) (hg : g < w.heap.size) :
    Calls Try.prog 102 #[.pointer (some ⟨g, 0, none⟩)] w (AnyRes w g A n c xs) := by
  have CB := Lib.hid (fun m W (hc : Cur W g A n c xs) (h0 : 0 < m) (hm : m ≤ 256) => drawBelow g A n c m xs W hc h0 hm)
  have CW : Hid (∀ W, Cur W g A n c xs → Calls Try.prog 49 #[.pointer (some ⟨g, 0, none⟩), .int .i64 65536] W (BelowRes W g A n c xs 65536)) := Lib.hid (fun W h => drawBelowB g A n c 65536 xs W h (by omega) (by omega))
  have H0 := Lib.hid hcur
  have hgs := hg
  clear hcur
  go_enter Try.func102, Try.ntmps102
  go_wp2_with fail
  refine (CB.out 12 _ H0.out (by omega) (by omega)).mono ?_
  rintro e w1 ⟨k, hk, rfl, hcu1, hg1⟩
  have H1 := Lib.hid hcu1
  have G1 := Lib.hid hg1
  clear hcu1 hg1
  obtain ⟨z, hz⟩ : ∃ z : Int, z = (k : Int) := ⟨_, rfl⟩
  rw [← hz]
  by_cases h5 : z < 5
  · go_wp2_with fail
    refine (CB.out 12 _ H1.out (by omega) (by omega)).mono ?_
    rintro e w2 ⟨x, hx, rfl, hcu2, hg2⟩
    have H2 := Lib.hid hcu2
    have G2 := Lib.hid (grownBy_trans G1.out hg2)
    clear hcu2 hg2
    go_wp2
    go_ret
    exact ⟨_, rfl, H2.out, G2.out⟩
  have hc : z = 5 ∨ z = 6 ∨ z = 7 ∨ z = 8 ∨ z = 9 ∨ z = 10 ∨ z = 11 := by omega
  clear hz h5 hk
  rcases hc with rfl | rfl | rfl | rfl | rfl | rfl | rfl
  · go_wp2_with fail
    refine (CB.out 256 _ H1.out (by omega) (by omega)).mono ?_
    rintro e w2 ⟨x, hx, rfl, hcu2, hg2⟩
    have H2 := Lib.hid hcu2
    have G2 := Lib.hid (grownBy_trans G1.out hg2)
    clear hcu2 hg2
    go_wp2
    go_ret
    exact ⟨_, rfl, H2.out, G2.out⟩
  · go_wp2_with fail
    refine (CB.out 2 _ H1.out (by omega) (by omega)).mono ?_
    rintro e w2 ⟨x, hx, rfl, hcu2, hg2⟩
    have H2 := Lib.hid hcu2
    have G2 := Lib.hid (grownBy_trans G1.out hg2)
    clear hcu2 hg2
    go_wp2_with fail
    refine (CB.out 3 _ H2.out (by omega) (by omega)).mono ?_
    rintro e w3 ⟨y, hy, rfl, hcu3, hg3⟩
    have H3 := Lib.hid hcu3
    have G3 := Lib.hid (grownBy_trans G2.out hg3)
    clear hcu3 hg3
    go_wp2
    go_ret
    exact ⟨_, rfl, H3.out, G3.out⟩
  · go_wp2_with fail
    refine (CB.out 3 _ H1.out (by omega) (by omega)).mono ?_
    rintro e w2 ⟨x, hx, rfl, hcu2, hg2⟩
    have H2 := Lib.hid hcu2
    have G2 := Lib.hid (grownBy_trans G1.out hg2)
    clear hcu2 hg2
    go_wp2
    go_ret
    exact ⟨_, rfl, H2.out, G2.out⟩
  · go_wp2_with fail
    refine (CB.out 2 _ H1.out (by omega) (by omega)).mono ?_
    rintro e w2 ⟨x, hx, rfl, hcu2, hg2⟩
    have H2 := Lib.hid hcu2
    have G2 := Lib.hid (grownBy_trans G1.out hg2)
    clear hcu2 hg2
    go_wp2
    go_ret
    exact ⟨_, rfl, H2.out, G2.out⟩
  · go_wp2_with fail
    refine (CB.out 2 _ H1.out (by omega) (by omega)).mono ?_
    rintro e w2 ⟨x, hx, rfl, hcu2, hg2⟩
    have H2 := Lib.hid hcu2
    have G2 := Lib.hid (grownBy_trans G1.out hg2)
    clear hcu2 hg2
    go_wp2
    go_ret
    exact ⟨_, rfl, H2.out, G2.out⟩
  · go_wp2_with fail
    refine (CB.out 8 _ (H1.out.grow (below_a1 w1 _)) (by omega) (by omega)).mono ?_
    rintro e w2 ⟨x, hx, rfl, hcu2, hg2⟩
    have H2 := Lib.hid hcu2
    have hs1 := G1.out.size
    have hr := (raws_row w1 3).other hg2 (fun b off sp e he => by injection e with e; injection e with e; injection he with he; omega)
    obtain ⟨b, off, v, hA, hb, hv, hc⟩ := hr.at_ hx
    injection hA with hA
    injection hA with hA1 hA2
    subst hA1
    subst hA2
    have G2 := Lib.hid (grownBy_trans (grownBy_trans G1.out (grownBy_of_below (below_a1 w1 _) (some g))) hg2)
    rw [Nat.zero_add] at hc
    clear hcu2 hg2 hr hv hb
    go_wp2
    go_ret
    exact ⟨_, rfl, H2.out, G2.out⟩
  · go_wp2_with fail
    refine (CW.out _ H1.out).mono ?_
    rintro e w2 ⟨x, hx, rfl, hcu2, hg2⟩
    have H2 := Lib.hid hcu2
    have G2 := Lib.hid (grownBy_trans G1.out hg2)
    clear hcu2 hg2
    go_wp2_with fail
    refine (CW.out _ H2.out).mono ?_
    rintro e w3 ⟨y, hy, rfl, hcu3, hg3⟩
    have H3 := Lib.hid hcu3
    have G3 := Lib.hid (grownBy_trans G2.out hg3)
    clear hcu3 hg3
    go_wp2
    go_ret
    exact ⟨_, rfl, H3.out, G3.out⟩

theorem blk_drawn {w w' : World} {b g : Nat} {cs : Array Value} {t : TypeId} (h : Blk w b cs t) (hg : w.grownBy w' (some g)) (hb : g < b) : Blk w' b cs t := h.grown hg (fun e => by injection e; omega)
theorem Cur.put {W : World} {g b B : Nat} {A : Option Addr} {n c : Nat} {xs : List Nat} (h : Cur W g A n c xs) (hg : g < B) (hb : B ≤ b) (hA : 0 < n → ∀ b off sp, A = some ⟨b, off, sp⟩ → b < B) (i : Nat) (u : Value) : Cur (W.setCell ⟨b, i, none⟩ u) g A n c xs :=
  h.far (grown_setAt (World.grownBy.refl _ _) i u) (fun k e => by cases e; exact hb) hg hA
theorem grown_put {a W : World} {g b : Nat} (h : a.grownBy W (some g)) (hb : a.heap.size ≤ b) (i : Nat) (u : Value) : a.grownBy (W.setCell ⟨b, i, none⟩ u) (some g) :=
  grownBy_far h (grown_setAt (World.grownBy.refl _ _) i u) (fun k e => by cases e; exact hb)
def RecRes (w : World) (g : Nat) (A : Option Addr) (n c : Nat) (xs : List Nat) (e : Ending) (w' : World) : Prop :=
  ∃ r : GE, e = .returned r.v ∧ Cur w' g A n c xs ∧ w.grownBy w' (some g)

set_option maxRecDepth 10000 in
set_option maxHeartbeats 4000000 in
theorem drawRec (g : Nat) (A : Option Addr) (n c : Nat) (xs : List Nat) (w : World) (hcur : Cur w g A n c xs) (hg : g < w.heap.size) (hA : 0 < n → ∀ b off sp, A = some ⟨b, off, sp⟩ → b < w.heap.size) :
    Calls Try.prog 78 #[.pointer (some ⟨g, 0, none⟩)] w (RecRes w g A n c xs) := by
  have CB := Lib.hid (fun m W (hc : Cur W g A n c xs) (h0 : 0 < m) (hm : m ≤ 256) => drawBelow g A n c m xs W hc h0 hm)
  have CR := Lib.hid (fun W (hc : Cur W g A n c xs) (h : g < W.heap.size) => drawRaw g A n c xs W hc h)
  have hb0 := below_a1 w (.cells #[.int .i64 0, .int .i64 0, .int .i64 0] 30)
  have H0 := Lib.hid (hcur.grow hb0)
  have R0 := Lib.hid (Blk.new w #[.int .i64 0, .int .i64 0, .int .i64 0] 30)
  have G0 := Lib.hid (grownBy_of_below hb0 (some g))
  have hgs := hg
  have HA := Lib.hid hA
  clear hcur hb0 hA
  go_enter Try.func78, Try.ntmps78
  go_wp2_with fail
  refine (CB.out 3 _ H0.out (by omega) (by omega)).mono ?_
  rintro e w1 ⟨x, hx, rfl, hcu1, hg1⟩
  have H1 := Lib.hid hcu1
  have R1 := Lib.hid (blk_drawn R0.out hg1 hgs)
  have G1 := Lib.hid (grownBy_trans G0.out hg1)
  clear hcu1 hg1
  go_wp2_with fail
  refine (CB.out 4 _ H1.out (by omega) (by omega)).mono ?_
  rintro e w2 ⟨y, hy, rfl, hcu2, hg2⟩
  have H2 := Lib.hid hcu2
  have R2 := Lib.hid (blk_drawn R1.out hg2 hgs)
  have G2 := Lib.hid (grownBy_trans G1.out hg2)
  clear hcu2 hg2
  go_wp2_with fail
  refine (CB.out 5 _ H2.out (by omega) (by omega)).mono ?_
  rintro e w3 ⟨z, hz, rfl, hcu3, hg3⟩
  have H3 := Lib.hid hcu3
  have R3 := Lib.hid (blk_drawn R2.out hg3 hgs)
  have G3 := Lib.hid (grownBy_trans G2.out hg3)
  clear hcu3 hg3
  have R4 := Lib.hid (R3.out.alloc (.cells #[.int .i64 (x : Int), .int .i64 (y : Int), .int .i64 (z : Int)] 30))
  have B4 := Lib.hid (Blk.new w3 #[.int .i64 (x : Int), .int .i64 (y : Int), .int .i64 (z : Int)] 30)
  have H4 := Lib.hid (H3.out.grow (below_a1 w3 (.cells #[.int .i64 (x : Int), .int .i64 (y : Int), .int .i64 (z : Int)] 30)))
  have G4 := Lib.hid (grownBy_trans G3.out (grownBy_of_below (below_a1 w3 (.cells #[.int .i64 (x : Int), .int .i64 (y : Int), .int .i64 (z : Int)] 30)) (some g)))
  have hw3 : w.heap.size < w3.heap.size := by have := R3.out.lt; omega
  clear R0 R1 R2 R3 G0 G1 G2 G3 H0 H1 H2 H3
  go_wp2_with fail
  refine (CB.out 20 _ H4.out (by omega) (by omega)).mono ?_
  rintro e w4 ⟨k, hk, rfl, hcu4, hg4⟩
  have H5 := Lib.hid hcu4
  have R5 := Lib.hid (blk_drawn R4.out hg4 hgs)
  have B5 := Lib.hid (blk_drawn B4.out hg4 (by omega))
  have G5 := Lib.hid (grownBy_trans G4.out hg4)
  clear hcu4 hg4 R4 B4 H4 G4
  by_cases hk0 : k = 0
  · subst hk0
    have hz : (((0 : Nat) : Int) == 0) = true := rfl
    go_wp2_with fail
    refine (CR.out _ H5.out (by have := R5.out.lt; omega)).mono ?_
    rintro e w5 ⟨v, rfl, hcu5, hg5⟩
    have H6 := Lib.hid hcu5
    have R6 := Lib.hid (blk_drawn R5.out hg5 hgs)
    have B6 := Lib.hid (blk_drawn B5.out hg5 (by omega))
    have G6 := Lib.hid (grownBy_trans G5.out hg5)
    clear hcu5 hg5 R5 B5 H5 G5
    have f6 := B6.out.frozen 1
    have B7 := B6.out.set 1 (.int .i64 v)
    have R7 := R6.out.other (p := ⟨w3.heap.size, 1, none⟩) (by show w.heap.size ≠ w3.heap.size; omega) (.int .i64 v)
    have f0 := R7.frozen 0
    have f1 := R7.frozen 1
    have f2 := R7.frozen 2
    have r0 := R7.cell (i := 0) rfl
    have r1 := R7.cell (i := 1) rfl
    have r2 := R7.cell (i := 2) rfl
    have b0 := B7.cell (i := 0) rfl
    have b1 := B7.cell (i := 1) rfl
    have b2 := B7.cell (i := 2) rfl
    have c6 := B6.out.cell (i := 1) rfl
    have hR := ((R7.set 0 (.int .i64 (x : Int))).set 1 (.int .i64 v)).set 2 (.int .i64 (z : Int))
    have q0 := hR.cell (i := 0) rfl
    have q1 := hR.cell (i := 1) rfl
    have q2 := hR.cell (i := 2) rfl
    go_wp2
    refine bodyPost_ret (v := .agg #[.int .i64 (x : Int), .int .i64 v, .int .i64 (z : Int)]) (by simp [results, Try.results78, go_sem, q0, q1, q2]) rfl ?_
    exact ⟨⟨x, v, z⟩, rfl, (((H6.out.put hgs (Nat.le_of_lt hw3) HA.out 1 _).put hgs (Nat.le_refl _) HA.out 0 _).put hgs (Nat.le_refl _) HA.out 1 _).put hgs (Nat.le_refl _) HA.out 2 _, grown_put (grown_put (grown_put (grown_put G6.out (Nat.le_of_lt hw3) 1 _) (Nat.le_refl _) 0 _) (Nat.le_refl _) 1 _) (Nat.le_refl _) 2 _⟩
  · have hz : ((k : Int) == 0) = false := by simp; omega
    have f0 := R5.out.frozen 0
    have f1 := R5.out.frozen 1
    have f2 := R5.out.frozen 2
    have r0 := R5.out.cell (i := 0) rfl
    have r1 := R5.out.cell (i := 1) rfl
    have r2 := R5.out.cell (i := 2) rfl
    have b0 := B5.out.cell (i := 0) rfl
    have b1 := B5.out.cell (i := 1) rfl
    have b2 := B5.out.cell (i := 2) rfl
    have hR := ((R5.out.set 0 (.int .i64 (x : Int))).set 1 (.int .i64 (y : Int))).set 2 (.int .i64 (z : Int))
    have q0 := hR.cell (i := 0) rfl
    have q1 := hR.cell (i := 1) rfl
    have q2 := hR.cell (i := 2) rfl
    go_wp2
    refine bodyPost_ret (v := .agg #[.int .i64 (x : Int), .int .i64 (y : Int), .int .i64 (z : Int)]) (by simp [results, Try.results78, go_sem, q0, q1, q2]) rfl ?_
    exact ⟨⟨x, y, z⟩, rfl, ((H5.out.put hgs (Nat.le_refl _) HA.out 0 _).put hgs (Nat.le_refl _) HA.out 1 _).put hgs (Nat.le_refl _) HA.out 2 _, grown_put (grown_put (grown_put G5.out (Nat.le_refl _) 0 _) (Nat.le_refl _) 1 _) (Nat.le_refl _) 2 _⟩

def RecsRes (w : World) (g : Nat) (A : Option Addr) (n c : Nat) (xs : List Nat) (m : Nat) (e : Ending) (w' : World) : Prop :=
  ∃ (es : List GE) (B : Option Addr) (d : Nat), es.length ≤ m ∧ e = .returned (.slice B es.length d) ∧ w'.ownsRow w.heap.size 30 3 (.slice B es.length d) es.length (es.flatMap GE.cells) ∧ Cur w' g A n c xs ∧ w.grownBy w' (some g)

set_option maxRecDepth 10000 in
set_option maxHeartbeats 2000000 in
theorem drawRecs (g : Nat) (A : Option Addr) (n c m : Nat) (xs : List Nat) (w : World) (hcur : Cur w g A n c xs) (hg : g < w.heap.size) (hm : m ≤ 255) (hA : 0 < n → ∀ b off sp, A = some ⟨b, off, sp⟩ → b < w.heap.size) :
    Calls Try.prog 48 #[.pointer (some ⟨g, 0, none⟩), .int .i64 (m : Int)] w (RecsRes w g A n c xs m) := by
  obtain ⟨i0, hi, hz0, hz1, hz2⟩ := info_parts Try.infoRec
  have hb0 := below_a1 w (.cells #[] 30)
  have C := Lib.hid (drawBelow g A n c (m + 1) xs _ (hcur.grow hb0) (by omega) (by omega))
  have G0 := Lib.hid (grownBy_of_below hb0 (some g))
  have O0 := Lib.hid (rec_built w)
  have HA := Lib.hid hA
  have hgs := hg
  have CR := Lib.hid (fun W (hc : Cur W g A n c xs) (h : w.heap.size ≤ W.heap.size) => drawRec g A n c xs W hc (by omega) (fun h0 b off sp e => by have := hA h0 b off sp e; omega))
  clear hcur hA hb0
  rw [Int.natCast_add] at C
  go_enter Try.func48, Try.ntmps48
  go_wp2_with fail
  refine C.out.mono ?_
  rintro e w1 ⟨k, hk, rfl, hcu1, hg1⟩
  have H1 := Lib.hid hcu1
  have O1 := Lib.hid (own_keep O0.out hg1 hgs)
  have G1 := Lib.hid (grownBy_trans G0.out hg1)
  clear hcu1 hg1 C O0 G0
  go_wp2
  go_loopw [5, 6] (fun v t wr => ∃ (j : Nat) (es : List GE) (B : Option Addr) (d : Nat), t = .int .i64 (j : Int) ∧ es.length + j = k ∧ v = .slice B es.length d ∧ Hid (wr.ownsRow w.heap.size 30 3 (.slice B es.length d) es.length (es.flatMap GE.cells)) ∧ Hid (Cur wr g A n c xs) ∧ Hid (w.grownBy wr (some g))) (fun _ t _ => (intOf t).toNat)
  case atStart => exact ⟨k, [], _, _, rfl, by simp, rfl, O1, H1, G1⟩
  case round =>
    clear O1 H1 G1
    obtain ⟨j, es, B, d, rfl, hj, rfl, HO, HC, HG⟩ := hrel
    by_cases hj0 : 0 < j
    · have hsz := HG.out.size
      have HJ := Lib.hid hj
      have hes : es.length ≤ 256 := by omega
      have hjb : j ≤ 256 := by omega
      clear hj
      go_wp2_with fail
      refine (CR.out _ HC.out hsz).mono ?_
      rintro e w2 ⟨r, rfl, hcu2, hg2⟩
      have hs2 := hg2.size
      have O2 := Lib.hid (own_keep HO.out hg2 hgs)
      have C2 := Lib.hid hcu2
      have G2 := Lib.hid (grownBy_trans HG.out hg2)
      have hrow : ∀ q, (Value.slice B es.length d).ownBlock = some q → w.heap.size ≤ q := fun q hq => (O2.out.lt q hq).1
      have HR := Lib.hid hrow
      clear hcu2 hg2 HO HC HG hrow
      unfold GE.v
      go_wp2_with (at_builtin; refine wpList_append_any _ rfl (.tmp 16) (.tmp 19) _ rfl w.heap.size 30 i0 _ 3 24 Try.underlying23 hi hz0 hz1 hz2 rfl (by omega) (.slice B es.length d) es.length (es.flatMap GE.cells) rfl (own_below O2.out (below_a1 _ _)) (w2.heap.size + 1) (some ⟨w2.heap.size, 0, none⟩) 1 1 (GE.cells r) rfl (rec_reads _ _ _ _ rfl) (GE.cells_one r) (by simp only [maxLen]; omega) (by omega) (by simp; omega) ?_; intro v3 w3 hown3 hg3 hat3)
      obtain ⟨P3, cc3, rfl⟩ := rec_form hown3
      have O3 : Hid (w3.ownsRow w.heap.size 30 3 (.slice P3 (es ++ [r]).length cc3) (es ++ [r]).length ((es ++ [r]).flatMap GE.cells)) := Lib.hid (by
        rw [List.length_append, List.flatMap_append]
        simpa using hown3)
      have C3 := Lib.hid ((C2.out.grow (below_a1 w2 (.cells #[.int .i64 r.f, .int .i64 r.t, .int .i64 r.w] 30))).far hg3 HR.out hgs HA.out)
      have G3 := Lib.hid (grownBy_far (grownBy_trans G2.out (grownBy_of_below (below_a1 w2 (.cells #[.int .i64 r.f, .int .i64 r.t, .int .i64 r.w] 30)) (some g))) hg3 HR.out)
      clear hown3 hg3 hat3 C2 G2 O2 HR
      obtain ⟨jj, HJJ⟩ : ∃ jj, Hid (j = jj + 1) := ⟨j - 1, Lib.hid (by omega)⟩
      go_wp2
      go_roundw
      case rel => exact ⟨jj, es ++ [r], P3, cc3, by have := HJJ.out; subst this; go_num, by have := HJJ.out; have := HJ.out; simp; omega, by simp, O3, C3, G3⟩
      case measure => (have := HJJ.out; simp [intOf]; omega)
    · obtain rfl : j = 0 := by omega
      go_wp2
      go_ret
      exact ⟨es, B, d, by omega, rfl, HO.out, HC.out, HG.out⟩

/-- What a law is told of the records that are drawn for it. -/
def RMade (w : World) (e : Ending) (w' : World) : Prop :=
  ∃ (es : List GE) (B : Option Addr) (d : Nat), es.length ≤ 16 ∧ e = .returned (.slice B es.length d) ∧ SlG w' B es.length es ∧ es.length ≤ d ∧ Below w.heap.size w w'

set_option maxRecDepth 10000 in
theorem makeRecs (A : Option Addr) (n c : Nat) (xs : List Nat) (w : World) (hr : Rd w A n xs) (hn : n ≤ 1048576) :
    Calls Try.prog 11 #[.slice A n c] w (RMade w) := by
  have C1 := Lib.hid (drawNew A n c xs w hr hn)
  have HR := Lib.hid hr
  clear hr
  go_enter Try.func11, Try.ntmps11
  go_wp2_with fail
  refine C1.out.mono ?_
  rintro e w1 ⟨rfl, hsz, hcur, hb1⟩
  have hA : 0 < n → ∀ b off sp, A = some ⟨b, off, sp⟩ → b < w1.heap.size := fun hn0 b off sp e => by
    obtain ⟨b', off', e', hb, _⟩ := HR.out.lies hn0
    rw [e'] at e
    injection e with e
    injection e with e1 e2 e3
    omega
  have C2 : Hid (Calls Try.prog 48 #[.pointer (some ⟨w.heap.size, 0, none⟩), .int .i64 16] w1 (RecsRes w1 w.heap.size A n c xs 16)) := Lib.hid (drawRecs w.heap.size A n c 16 xs w1 hcur hsz (by omega) hA)
  have HB := Lib.hid hb1
  clear C1 hcur hA hb1
  go_wp2_with fail
  refine C2.out.mono ?_
  rintro e w2 ⟨es, B, d, hl, rfl, ho, hcu, hg⟩
  have HS := Lib.hid (SlG.of_own ho rfl)
  have HD : Hid (es.length ≤ d) := Lib.hid (by
    rcases ho.2 with ⟨h, h0⟩ | ⟨g, cap, cur, h, _, _, h1, _⟩
    · injection h with _ e1 _
      omega
    · injection h with _ _ e3
      omega)
  have HB2 := Lib.hid (HB.out.grown hg HB.out.size (fun k hk => by injection hk; omega))
  clear ho hcu hg C2
  go_wp2
  go_ret
  exact ⟨es, B, d, hl, rfl, HS.out, HD.out, HB2.out⟩

set_option maxRecDepth 10000 in
theorem makeNumR (A : Option Addr) (n c m : Nat) (xs : List Nat) (w : World) (hr : Rd w A n xs) (hn : n ≤ 1048576) (h0 : 0 < m) (hm : m ≤ 256) :
    Calls Try.prog 13 #[.slice A n c, .int .i64 (m : Int)] w fun e w' => ∃ x : Nat, x < m ∧ e = .returned (.int .i64 (x : Int)) ∧ Below w.heap.size w w' := by
  have C1 := Lib.hid (drawNew A n c xs w hr hn)
  clear hr
  go_enter Try.func13, Try.ntmps13
  go_wp2_with fail
  refine C1.out.mono ?_
  rintro e w1 ⟨rfl, hsz, hcur, hb1⟩
  obtain ⟨i, h, hi, hh, hc⟩ := hcur.cells
  have c2 : w1.cell? ⟨w.heap.size, 2, none⟩ = some (.int .i64 h) := block_cell hc 2
  have f2 := block_free hc 2
  have hw := wrap64_range (h + 777)
  have HC := Lib.hid (hcur.setH (wrap64 (h + 777)) hw.1 hw.2)
  have HB := Lib.hid (hb1.setCell (p := ⟨w.heap.size, 2, none⟩) (Nat.le_refl _) (.int .i64 (wrap64 (h + 777))))
  clear hcur hc hb1 hw
  go_wp2_with fail
  refine (drawBelow w.heap.size A n c m xs _ HC.out h0 hm).mono ?_
  rintro e w2 ⟨x, hx, rfl, hcu2, hgr⟩
  go_wp2
  go_ret
  exact ⟨x, hx, rfl, HB.out.grown hgr HB.out.size (fun k hk => by injection hk; omega)⟩
end Go.Proofs.Ytdmdikbcgpbbdaa
