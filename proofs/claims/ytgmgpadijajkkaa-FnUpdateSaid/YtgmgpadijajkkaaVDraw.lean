/- The contracts of the draws of a job and of a view: what is drawn lies in its limits, and nothing but the cursor is written. -/
import Derived.Test.YtgmgpadijajkkaaEdgeV
import Derived.Test.YtgmgpadijajkkaaVB
import Derived.Test.YtgmgpadijajkkaaDraw
import Derived.Test.YtgmgpadijajkkaaDrawKeep
import Derived.Test.YtgmgpadijajkkaaDrawPut
namespace Go.Proofs.Ytgmgpadijajkkaa
open Go.RowKit

def JobRes (w : World) (g : Nat) (A : Option Addr) (n c : Nat) (xs : List Nat) (e : Ending) (w' : World) : Prop :=
  ∃ p s : Int, (1 ≤ p ∧ p ≤ 4) ∧ e = .returned (.agg #[.int .i64 p, .int .i64 s]) ∧ Cur w' g A n c xs ∧ w.grownBy w' (some g)
def ViewRes (w : World) (g : Nat) (A : Option Addr) (n c : Nat) (xs : List Nat) (e : Ending) (w' : World) : Prop :=
  ∃ r : VE, r.ok = true ∧ e = .returned r.val ∧ Cur w' g A n c xs ∧ w.grownBy w' (some g)
theorem rank_part (k : Nat) (hk : k < 4) : ∃ z : Int, IntKind.i64.wrap ((k : Int) * 1048576) = (k : Int) * 1048576 ∧ Int.tdiv ((k : Int) * 1048576) 3 = z ∧ IntKind.i64.wrap z = z ∧ (0 ≤ z ∧ z ≤ 1099511627776) := by
  have h : 0 ≤ Int.tdiv ((k : Int) * 1048576) 3 ∧ Int.tdiv ((k : Int) * 1048576) 3 ≤ 1048576 := by rw [Int.tdiv_eq_ediv_of_nonneg (by omega)]; omega
  exact ⟨_, IntWalk.i64_in _ (by omega), rfl, IntWalk.i64_in _ (by omega), by omega⟩
theorem lab_part (k m : Nat) (hk : k < 4) (hm : m < 4) : ∃ z : Int, IntKind.i64.wrap ((k : Int) * 1000) = (k : Int) * 1000 ∧ IntKind.i64.wrap ((k : Int) * 1000 + (m : Int)) = z ∧ (k : Int) * 1000 + (m : Int) = z ∧ (0 ≤ z ∧ z ≤ 1099511627776) :=
  ⟨_, IntWalk.i64_in _ (by omega), IntWalk.i64_in _ (by omega), rfl, by omega⟩
theorem far_part (k : Nat) (hk : k < 3) : ∃ z : Int, IntKind.i64.wrap (1099511627776 - (k : Int)) = z ∧ 1099511627776 - (k : Int) = z ∧ (0 ≤ z ∧ z ≤ 1099511627776) :=
  ⟨_, IntWalk.i64_in _ (by omega), rfl, by omega⟩
theorem view_good {i o : Bool} {ww v : Int} (h1 : (i || o) = true) (h2 : 0 ≤ ww ∧ ww ≤ 1000) (h3 : 0 ≤ v ∧ v ≤ 1099511627776) : VE.ok ⟨i, o, ww, v⟩ = true := by
  unfold VE.ok valB
  simp only [h1, h2, h3, and_self, decide_true]
  rfl

set_option maxRecDepth 10000 in
set_option maxHeartbeats 4000000 in
theorem drawJob (g : Nat) (A : Option Addr) (n c : Nat) (xs : List Nat) (w : World) (hcur : Cur w g A n c xs) (hg : g < w.heap.size) (hA : 0 < n → ∀ b off sp, A = some ⟨b, off, sp⟩ → b < w.heap.size) :
    Calls Try.prog 29 #[.pointer (some ⟨g, 0, none⟩), .int .i64 9] w (JobRes w g A n c xs) := by
  have CB := Lib.hid (fun m W (hc : Cur W g A n c xs) (h0 : 0 < m) (hm : m ≤ 256) => drawBelow g A n c m xs W hc h0 hm)
  have hb0 := below_a1 w (.cells #[.int .i64 0, .int .i64 0] 24)
  have H0 := Lib.hid (hcur.grow hb0)
  have R0 := Lib.hid (Blk.new w #[.int .i64 0, .int .i64 0] 24)
  have G0 := Lib.hid (grownBy_of_below hb0 (some g))
  have hgs := hg
  have HA := Lib.hid hA
  clear hcur hb0 hA
  go_enter Try.func29, Try.ntmps29
  go_wp2_with fail
  refine (CB.out 4 _ H0.out (by omega) (by omega)).mono ?_
  rintro e w1 ⟨k1, hk1, rfl, hcu, hgr⟩
  have H1 := Lib.hid hcu
  have R1 := Lib.hid (blk_drawn R0.out hgr hgs)
  have G1 := Lib.hid (grownBy_trans G0.out hgr)
  have hs1 := hgr.size
  have hr1 := R1.out.lt
  clear hcu hgr H0 R0 G0
  obtain ⟨p, hp⟩ : ∃ p : Int, (1 : Int) + (k1 : Int) = p := ⟨_, rfl⟩
  have hpw : IntKind.i64.wrap ((1 : Int) + (k1 : Int)) = p := by rw [← hp]; exact IntWalk.i64_in _ (by omega)
  have HP : Hid (1 ≤ p ∧ p ≤ 4) := Lib.hid (by omega)
  have H2 := Lib.hid (H1.out.grow (below_a1 w1 (.cells #[.int .i64 p, .int .i64 0] 24)))
  have R2 := Lib.hid (R1.out.alloc (.cells #[.int .i64 p, .int .i64 0] 24))
  have G2 := Lib.hid (grownBy_trans G1.out (grownBy_of_below (below_a1 w1 (.cells #[.int .i64 p, .int .i64 0] 24)) (some g)))
  have B2 := Lib.hid (Blk.new w1 #[.int .i64 p, .int .i64 0] 24)
  have hlt : w.heap.size < w1.heap.size := R1.out.lt
  skip
  by_cases h3 : p = 3
  · subst h3
    go_wp2_with fail
    refine (CB.out 9 _ H2.out (by omega) (by omega)).mono ?_
    rintro e w3 ⟨k2, hk2, rfl, hcu, hgr⟩
    have H3 := Lib.hid hcu
    have R3 := Lib.hid (blk_drawn R2.out hgr hgs)
    have G3 := Lib.hid (grownBy_trans G2.out hgr)
    have B3 := Lib.hid (blk_drawn B2.out hgr (by omega))
    clear hcu hgr H2 R2 G2 B2
    have by0 := B3.out.cell (i := 0) rfl
    have fy0 := B3.out.frozen 0
    have by1 := B3.out.cell (i := 1) rfl
    have fy1 := B3.out.frozen 1
    have H4 := Lib.hid (H3.out.put hgs (Nat.le_of_lt hlt) HA.out 1 (.int .i64 (k2 : Int)))
    have R4 := Lib.hid (R3.out.other (p := ⟨w1.heap.size, 1, none⟩) (by show w.heap.size ≠ w1.heap.size; omega) (.int .i64 (k2 : Int)))
    have G4 := Lib.hid (grown_put G3.out (Nat.le_of_lt hlt) 1 (.int .i64 (k2 : Int)))
    have B4 := Lib.hid (B3.out.set 1 (.int .i64 (k2 : Int)))
    clear H3 R3 G3 B3
    have bz0 := B4.out.cell (i := 0) rfl
    have fz0 := B4.out.frozen 0
    have bz1 := B4.out.cell (i := 1) rfl
    have fz1 := B4.out.frozen 1
    have r0 := R4.out.cell (i := 0) rfl
    have e0 := R4.out.frozen 0
    have r1 := R4.out.cell (i := 1) rfl
    have e1 := R4.out.frozen 1
    have hR := ((R4.out.set 0 (.int .i64 3)).set 1 (.int .i64 (k2 : Int)))
    have q0 := hR.cell (i := 0) rfl
    have q1 := hR.cell (i := 1) rfl
    go_wp2
    refine bodyPost_ret (v := .agg #[.int .i64 3, .int .i64 (k2 : Int)]) (by simp [results, Try.results29, go_sem, q0, q1]) rfl ?_
    exact ⟨3, (k2 : Int), by omega, rfl, ((H4.out.put hgs (Nat.le_refl _) HA.out 0 _).put hgs (Nat.le_refl _) HA.out 1 _), (grown_put (grown_put G4.out (Nat.le_refl _) 0 _) (Nat.le_refl _) 1 _)⟩
  · have hne : (p == 3) = false := by simp [h3]
    have r0 := R1.out.cell (i := 0) rfl
    have e0 := R1.out.frozen 0
    have r1 := R1.out.cell (i := 1) rfl
    have e1 := R1.out.frozen 1
    have hnw : w.heap.size ≠ w1.heap.size := by omega
    have hR := ((R1.out.set 0 (.int .i64 p)).set 1 (.int .i64 0)).alloc (.cells #[.int .i64 p, .int .i64 0] 24)
    have q0 := hR.cell (i := 0) rfl
    have q1 := hR.cell (i := 1) rfl
    go_wp2
    refine bodyPost_ret (v := .agg #[.int .i64 p, .int .i64 0]) (by simp [results, Try.results29, go_sem, q0, q1]) rfl ?_
    exact ⟨p, 0, HP.out, rfl, ((H1.out.put hgs (Nat.le_refl _) HA.out 0 _).put hgs (Nat.le_refl _) HA.out 1 _).grow (below_a1 _ _), grownBy_trans (grown_put (grown_put G1.out (Nat.le_refl _) 0 _) (Nat.le_refl _) 1 _) (grownBy_of_below (below_a1 _ _) (some g))⟩
set_option maxRecDepth 10000 in
set_option maxHeartbeats 16000000 in
theorem drawView (p : Int) (g : Nat) (A : Option Addr) (n c : Nat) (xs : List Nat) (w : World) (hcur : Cur w g A n c xs) (hg : g < w.heap.size) (hA : 0 < n → ∀ b off sp, A = some ⟨b, off, sp⟩ → b < w.heap.size) :
    Calls Try.prog 31 #[.pointer (some ⟨g, 0, none⟩), .int .i64 p] w (ViewRes w g A n c xs) := by
  have CB := Lib.hid (fun m W (hc : Cur W g A n c xs) (h0 : 0 < m) (hm : m ≤ 256) => drawBelow g A n c m xs W hc h0 hm)
  have hb0 := below_a1 w (.cells #[.bool false, .bool false, .int .i64 0, .int .i64 0] 32)
  have H0 := Lib.hid (hcur.grow hb0)
  have R0 := Lib.hid (Blk.new w #[.bool false, .bool false, .int .i64 0, .int .i64 0] 32)
  have G0 := Lib.hid (grownBy_of_below hb0 (some g))
  have hgs := hg
  have HA := Lib.hid hA
  clear hcur hb0 hA
  go_enter Try.func31, Try.ntmps31
  go_wp2_with fail
  refine (CB.out 2 _ H0.out (by omega) (by omega)).mono ?_
  rintro e w5 ⟨k1, hk1, rfl, hcu, hgr⟩
  have H5 := Lib.hid hcu
  have R5 := Lib.hid (blk_drawn R0.out hgr hgs)
  have G5 := Lib.hid (grownBy_trans G0.out hgr)
  have hs5 := hgr.size
  have hr5 := R5.out.lt
  clear hcu hgr H0 R0 G0
  go_wp2_with fail
  refine (CB.out 2 _ H5.out (by omega) (by omega)).mono ?_
  rintro e w6 ⟨k2, hk2, rfl, hcu, hgr⟩
  have H6 := Lib.hid hcu
  have R6 := Lib.hid (blk_drawn R5.out hgr hgs)
  have G6 := Lib.hid (grownBy_trans G5.out hgr)
  have hs6 := hgr.size
  have hr6 := R6.out.lt
  clear hcu hgr H5 R5 G5
  go_wp2_with fail
  refine (CB.out 9 _ H6.out (by omega) (by omega)).mono ?_
  rintro e w7 ⟨k3, hk3, rfl, hcu, hgr⟩
  have H7 := Lib.hid hcu
  have R7 := Lib.hid (blk_drawn R6.out hgr hgs)
  have G7 := Lib.hid (grownBy_trans G6.out hgr)
  have hs7 := hgr.size
  have hr7 := R7.out.lt
  clear hcu hgr H6 R6 G6
  go_wp2_with fail
  refine (CB.out 9 _ H7.out (by omega) (by omega)).mono ?_
  rintro e w8 ⟨k4, hk4, rfl, hcu, hgr⟩
  have H8 := Lib.hid hcu
  have R8 := Lib.hid (blk_drawn R7.out hgr hgs)
  have G8 := Lib.hid (grownBy_trans G7.out hgr)
  have hs8 := hgr.size
  have hr8 := R8.out.lt
  clear hcu hgr H7 R7 G7
  obtain ⟨bi, hbi⟩ : ∃ b : Bool, ((k1 : Int) == 0) = b := ⟨_, rfl⟩
  have hbi2 : (k1 == 0) = bi := by rw [← hbi, Bool.eq_iff_iff]; simp
  obtain ⟨bo, hbo⟩ : ∃ b : Bool, ((k2 : Int) == 0) = b := ⟨_, rfl⟩
  have hbo2 : (k2 == 0) = bo := by rw [← hbo, Bool.eq_iff_iff]; simp
  have hk3b : 0 ≤ (k3 : Int) ∧ (k3 : Int) ≤ 1000 := by omega
  have hk4b : 0 ≤ (k4 : Int) ∧ (k4 : Int) ≤ 1099511627776 := by omega
  have HK3 := Lib.hid hk3b
  have HK4 := Lib.hid hk4b
  clear hk1 hk2 hk3 hk4 hk3b hk4b
  by_cases hctt : bi = true ∧ bo = true
  · obtain ⟨rfl, rfl⟩ := hctt
    have H9 := Lib.hid (H8.out.grow (below_a1 w8 (.cells #[.bool true, .bool true, .int .i64 (k3 : Int), .int .i64 (k4 : Int)] 32)))
    have R9 := Lib.hid (R8.out.alloc (.cells #[.bool true, .bool true, .int .i64 (k3 : Int), .int .i64 (k4 : Int)] 32))
    have G9 := Lib.hid (grownBy_trans G8.out (grownBy_of_below (below_a1 w8 (.cells #[.bool true, .bool true, .int .i64 (k3 : Int), .int .i64 (k4 : Int)] 32)) (some g)))
    have B9 := Lib.hid (Blk.new w8 #[.bool true, .bool true, .int .i64 (k3 : Int), .int .i64 (k4 : Int)] 32)
    have hlt : w.heap.size < w8.heap.size := R8.out.lt
    clear H8 R8 G8
    by_cases hp1 : p = 1
    · subst hp1
      go_wp2_with fail
      refine (CB.out 4 _ H9.out (by omega) (by omega)).mono ?_
      rintro e w10 ⟨k5, hk5, rfl, hcu, hgr⟩
      have H10 := Lib.hid hcu
      have R10 := Lib.hid (blk_drawn R9.out hgr hgs)
      have G10 := Lib.hid (grownBy_trans G9.out hgr)
      have B10 := Lib.hid (blk_drawn B9.out hgr (by omega))
      clear hcu hgr H9 R9 G9 B9
      obtain ⟨zr, hr1, hr2, hr3, hr4⟩ := rank_part k5 hk5
      have HZ := Lib.hid hr4
      clear hr4
      have bv0 := B10.out.cell (i := 0) rfl
      have fv0 := B10.out.frozen 0
      have bv1 := B10.out.cell (i := 1) rfl
      have fv1 := B10.out.frozen 1
      have bv2 := B10.out.cell (i := 2) rfl
      have fv2 := B10.out.frozen 2
      have bv3 := B10.out.cell (i := 3) rfl
      have fv3 := B10.out.frozen 3
      have H11 := Lib.hid (H10.out.put hgs (Nat.le_of_lt hlt) HA.out 3 (.int .i64 zr))
      have R11 := Lib.hid (R10.out.other (p := ⟨w8.heap.size, 3, none⟩) (by show w.heap.size ≠ w8.heap.size; omega) (.int .i64 zr))
      have G11 := Lib.hid (grown_put G10.out (Nat.le_of_lt hlt) 3 (.int .i64 zr))
      have B11 := Lib.hid (B10.out.set 3 (.int .i64 zr))
      clear H10 R10 G10 B10
      go_wp2_with fail
      refine (CB.out 9 _ H11.out (by omega) (by omega)).mono ?_
      rintro e w12 ⟨k9, hk9, rfl, hcu, hgr⟩
      have H12 := Lib.hid hcu
      have R12 := Lib.hid (blk_drawn R11.out hgr hgs)
      have G12 := Lib.hid (grownBy_trans G11.out hgr)
      have B12 := Lib.hid (blk_drawn B11.out hgr (by omega))
      clear hcu hgr H11 R11 G11 B11
      by_cases h9 : k9 = 0
      · have h9a : ((k9 : Int) == 0) = true := by simp [h9]
        have h9b : (k9 == 0) = true := by simp [h9]
        clear h9
        go_wp2_with fail
        refine (CB.out 3 _ H12.out (by omega) (by omega)).mono ?_
        rintro e w13 ⟨k8, hk8, rfl, hcu, hgr⟩
        have H13 := Lib.hid hcu
        have R13 := Lib.hid (blk_drawn R12.out hgr hgs)
        have G13 := Lib.hid (grownBy_trans G12.out hgr)
        have B13 := Lib.hid (blk_drawn B12.out hgr (by omega))
        clear hcu hgr H12 R12 G12 B12
        obtain ⟨zf, hf1, hf2, hf3⟩ := far_part k8 hk8
        have HF := Lib.hid hf3
        clear hf3
        have bu0 := B13.out.cell (i := 0) rfl
        have fu0 := B13.out.frozen 0
        have bu1 := B13.out.cell (i := 1) rfl
        have fu1 := B13.out.frozen 1
        have bu2 := B13.out.cell (i := 2) rfl
        have fu2 := B13.out.frozen 2
        have bu3 := B13.out.cell (i := 3) rfl
        have fu3 := B13.out.frozen 3
        have H14 := Lib.hid (H13.out.put hgs (Nat.le_of_lt hlt) HA.out 3 (.int .i64 zf))
        have R14 := Lib.hid (R13.out.other (p := ⟨w8.heap.size, 3, none⟩) (by show w.heap.size ≠ w8.heap.size; omega) (.int .i64 zf))
        have G14 := Lib.hid (grown_put G13.out (Nat.le_of_lt hlt) 3 (.int .i64 zf))
        have B14 := Lib.hid (B13.out.set 3 (.int .i64 zf))
        clear H13 R13 G13 B13
        have bz0 := B14.out.cell (i := 0) rfl
        have fz0 := B14.out.frozen 0
        have bz1 := B14.out.cell (i := 1) rfl
        have fz1 := B14.out.frozen 1
        have bz2 := B14.out.cell (i := 2) rfl
        have fz2 := B14.out.frozen 2
        have bz3 := B14.out.cell (i := 3) rfl
        have fz3 := B14.out.frozen 3
        have r0 := R14.out.cell (i := 0) rfl
        have e0 := R14.out.frozen 0
        have r1 := R14.out.cell (i := 1) rfl
        have e1 := R14.out.frozen 1
        have r2 := R14.out.cell (i := 2) rfl
        have e2 := R14.out.frozen 2
        have r3 := R14.out.cell (i := 3) rfl
        have e3 := R14.out.frozen 3
        have hR := ((((R14.out.set 0 (.bool true)).set 1 (.bool true)).set 2 (.int .i64 (k3 : Int))).set 3 (.int .i64 zf))
        have q0 := hR.cell (i := 0) rfl
        have q1 := hR.cell (i := 1) rfl
        have q2 := hR.cell (i := 2) rfl
        have q3 := hR.cell (i := 3) rfl
        go_wp2
        refine bodyPost_ret (v := .agg #[.bool true, .bool true, .int .i64 (k3 : Int), .int .i64 zf]) (by simp [results, Try.results31, go_sem, q0, q1, q2, q3]) rfl ?_
        exact ⟨⟨true, true, (k3 : Int), zf⟩, view_good rfl HK3.out HF.out, rfl, ((((H14.out.put hgs (Nat.le_refl _) HA.out 0 _).put hgs (Nat.le_refl _) HA.out 1 _).put hgs (Nat.le_refl _) HA.out 2 _).put hgs (Nat.le_refl _) HA.out 3 _), (grown_put (grown_put (grown_put (grown_put G14.out (Nat.le_refl _) 0 _) (Nat.le_refl _) 1 _) (Nat.le_refl _) 2 _) (Nat.le_refl _) 3 _)⟩
      · have h9a : ((k9 : Int) == 0) = false := by simp; omega
        have h9b : (k9 == 0) = false := by simp; omega
        have bz0 := B12.out.cell (i := 0) rfl
        have fz0 := B12.out.frozen 0
        have bz1 := B12.out.cell (i := 1) rfl
        have fz1 := B12.out.frozen 1
        have bz2 := B12.out.cell (i := 2) rfl
        have fz2 := B12.out.frozen 2
        have bz3 := B12.out.cell (i := 3) rfl
        have fz3 := B12.out.frozen 3
        have r0 := R12.out.cell (i := 0) rfl
        have e0 := R12.out.frozen 0
        have r1 := R12.out.cell (i := 1) rfl
        have e1 := R12.out.frozen 1
        have r2 := R12.out.cell (i := 2) rfl
        have e2 := R12.out.frozen 2
        have r3 := R12.out.cell (i := 3) rfl
        have e3 := R12.out.frozen 3
        have hR := ((((R12.out.set 0 (.bool true)).set 1 (.bool true)).set 2 (.int .i64 (k3 : Int))).set 3 (.int .i64 zr))
        have q0 := hR.cell (i := 0) rfl
        have q1 := hR.cell (i := 1) rfl
        have q2 := hR.cell (i := 2) rfl
        have q3 := hR.cell (i := 3) rfl
        go_wp2
        refine bodyPost_ret (v := .agg #[.bool true, .bool true, .int .i64 (k3 : Int), .int .i64 zr]) (by simp [results, Try.results31, go_sem, q0, q1, q2, q3]) rfl ?_
        exact ⟨⟨true, true, (k3 : Int), zr⟩, view_good rfl HK3.out HZ.out, rfl, ((((H12.out.put hgs (Nat.le_refl _) HA.out 0 _).put hgs (Nat.le_refl _) HA.out 1 _).put hgs (Nat.le_refl _) HA.out 2 _).put hgs (Nat.le_refl _) HA.out 3 _), (grown_put (grown_put (grown_put (grown_put G12.out (Nat.le_refl _) 0 _) (Nat.le_refl _) 1 _) (Nat.le_refl _) 2 _) (Nat.le_refl _) 3 _)⟩
    by_cases hp4 : p = 4
    · subst hp4
      go_wp2_with fail
      refine (CB.out 4 _ H9.out (by omega) (by omega)).mono ?_
      rintro e w15 ⟨k5, hk5, rfl, hcu, hgr⟩
      have H15 := Lib.hid hcu
      have R15 := Lib.hid (blk_drawn R9.out hgr hgs)
      have G15 := Lib.hid (grownBy_trans G9.out hgr)
      have B15 := Lib.hid (blk_drawn B9.out hgr (by omega))
      clear hcu hgr H9 R9 G9 B9
      go_wp2_with fail
      refine (CB.out 4 _ H15.out (by omega) (by omega)).mono ?_
      rintro e w16 ⟨k6, hk6, rfl, hcu, hgr⟩
      have H16 := Lib.hid hcu
      have R16 := Lib.hid (blk_drawn R15.out hgr hgs)
      have G16 := Lib.hid (grownBy_trans G15.out hgr)
      have B16 := Lib.hid (blk_drawn B15.out hgr (by omega))
      clear hcu hgr H15 R15 G15 B15
      obtain ⟨zl, hl1, hl2, hl3, hl4⟩ := lab_part k5 k6 hk5 hk6
      have HZ := Lib.hid hl4
      clear hl4
      have bv0 := B16.out.cell (i := 0) rfl
      have fv0 := B16.out.frozen 0
      have bv1 := B16.out.cell (i := 1) rfl
      have fv1 := B16.out.frozen 1
      have bv2 := B16.out.cell (i := 2) rfl
      have fv2 := B16.out.frozen 2
      have bv3 := B16.out.cell (i := 3) rfl
      have fv3 := B16.out.frozen 3
      have H17 := Lib.hid (H16.out.put hgs (Nat.le_of_lt hlt) HA.out 3 (.int .i64 zl))
      have R17 := Lib.hid (R16.out.other (p := ⟨w8.heap.size, 3, none⟩) (by show w.heap.size ≠ w8.heap.size; omega) (.int .i64 zl))
      have G17 := Lib.hid (grown_put G16.out (Nat.le_of_lt hlt) 3 (.int .i64 zl))
      have B17 := Lib.hid (B16.out.set 3 (.int .i64 zl))
      clear H16 R16 G16 B16
      go_wp2_with fail
      refine (CB.out 9 _ H17.out (by omega) (by omega)).mono ?_
      rintro e w18 ⟨k9, hk9, rfl, hcu, hgr⟩
      have H18 := Lib.hid hcu
      have R18 := Lib.hid (blk_drawn R17.out hgr hgs)
      have G18 := Lib.hid (grownBy_trans G17.out hgr)
      have B18 := Lib.hid (blk_drawn B17.out hgr (by omega))
      clear hcu hgr H17 R17 G17 B17
      by_cases h9 : k9 = 0
      · have h9a : ((k9 : Int) == 0) = true := by simp [h9]
        have h9b : (k9 == 0) = true := by simp [h9]
        clear h9
        go_wp2_with fail
        refine (CB.out 3 _ H18.out (by omega) (by omega)).mono ?_
        rintro e w19 ⟨k8, hk8, rfl, hcu, hgr⟩
        have H19 := Lib.hid hcu
        have R19 := Lib.hid (blk_drawn R18.out hgr hgs)
        have G19 := Lib.hid (grownBy_trans G18.out hgr)
        have B19 := Lib.hid (blk_drawn B18.out hgr (by omega))
        clear hcu hgr H18 R18 G18 B18
        obtain ⟨zf, hf1, hf2, hf3⟩ := far_part k8 hk8
        have HF := Lib.hid hf3
        clear hf3
        have bu0 := B19.out.cell (i := 0) rfl
        have fu0 := B19.out.frozen 0
        have bu1 := B19.out.cell (i := 1) rfl
        have fu1 := B19.out.frozen 1
        have bu2 := B19.out.cell (i := 2) rfl
        have fu2 := B19.out.frozen 2
        have bu3 := B19.out.cell (i := 3) rfl
        have fu3 := B19.out.frozen 3
        have H20 := Lib.hid (H19.out.put hgs (Nat.le_of_lt hlt) HA.out 3 (.int .i64 zf))
        have R20 := Lib.hid (R19.out.other (p := ⟨w8.heap.size, 3, none⟩) (by show w.heap.size ≠ w8.heap.size; omega) (.int .i64 zf))
        have G20 := Lib.hid (grown_put G19.out (Nat.le_of_lt hlt) 3 (.int .i64 zf))
        have B20 := Lib.hid (B19.out.set 3 (.int .i64 zf))
        clear H19 R19 G19 B19
        have bz0 := B20.out.cell (i := 0) rfl
        have fz0 := B20.out.frozen 0
        have bz1 := B20.out.cell (i := 1) rfl
        have fz1 := B20.out.frozen 1
        have bz2 := B20.out.cell (i := 2) rfl
        have fz2 := B20.out.frozen 2
        have bz3 := B20.out.cell (i := 3) rfl
        have fz3 := B20.out.frozen 3
        have r0 := R20.out.cell (i := 0) rfl
        have e0 := R20.out.frozen 0
        have r1 := R20.out.cell (i := 1) rfl
        have e1 := R20.out.frozen 1
        have r2 := R20.out.cell (i := 2) rfl
        have e2 := R20.out.frozen 2
        have r3 := R20.out.cell (i := 3) rfl
        have e3 := R20.out.frozen 3
        have hR := ((((R20.out.set 0 (.bool true)).set 1 (.bool true)).set 2 (.int .i64 (k3 : Int))).set 3 (.int .i64 zf))
        have q0 := hR.cell (i := 0) rfl
        have q1 := hR.cell (i := 1) rfl
        have q2 := hR.cell (i := 2) rfl
        have q3 := hR.cell (i := 3) rfl
        go_wp2
        refine bodyPost_ret (v := .agg #[.bool true, .bool true, .int .i64 (k3 : Int), .int .i64 zf]) (by simp [results, Try.results31, go_sem, q0, q1, q2, q3]) rfl ?_
        exact ⟨⟨true, true, (k3 : Int), zf⟩, view_good rfl HK3.out HF.out, rfl, ((((H20.out.put hgs (Nat.le_refl _) HA.out 0 _).put hgs (Nat.le_refl _) HA.out 1 _).put hgs (Nat.le_refl _) HA.out 2 _).put hgs (Nat.le_refl _) HA.out 3 _), (grown_put (grown_put (grown_put (grown_put G20.out (Nat.le_refl _) 0 _) (Nat.le_refl _) 1 _) (Nat.le_refl _) 2 _) (Nat.le_refl _) 3 _)⟩
      · have h9a : ((k9 : Int) == 0) = false := by simp; omega
        have h9b : (k9 == 0) = false := by simp; omega
        have bz0 := B18.out.cell (i := 0) rfl
        have fz0 := B18.out.frozen 0
        have bz1 := B18.out.cell (i := 1) rfl
        have fz1 := B18.out.frozen 1
        have bz2 := B18.out.cell (i := 2) rfl
        have fz2 := B18.out.frozen 2
        have bz3 := B18.out.cell (i := 3) rfl
        have fz3 := B18.out.frozen 3
        have r0 := R18.out.cell (i := 0) rfl
        have e0 := R18.out.frozen 0
        have r1 := R18.out.cell (i := 1) rfl
        have e1 := R18.out.frozen 1
        have r2 := R18.out.cell (i := 2) rfl
        have e2 := R18.out.frozen 2
        have r3 := R18.out.cell (i := 3) rfl
        have e3 := R18.out.frozen 3
        have hR := ((((R18.out.set 0 (.bool true)).set 1 (.bool true)).set 2 (.int .i64 (k3 : Int))).set 3 (.int .i64 zl))
        have q0 := hR.cell (i := 0) rfl
        have q1 := hR.cell (i := 1) rfl
        have q2 := hR.cell (i := 2) rfl
        have q3 := hR.cell (i := 3) rfl
        go_wp2
        refine bodyPost_ret (v := .agg #[.bool true, .bool true, .int .i64 (k3 : Int), .int .i64 zl]) (by simp [results, Try.results31, go_sem, q0, q1, q2, q3]) rfl ?_
        exact ⟨⟨true, true, (k3 : Int), zl⟩, view_good rfl HK3.out HZ.out, rfl, ((((H18.out.put hgs (Nat.le_refl _) HA.out 0 _).put hgs (Nat.le_refl _) HA.out 1 _).put hgs (Nat.le_refl _) HA.out 2 _).put hgs (Nat.le_refl _) HA.out 3 _), (grown_put (grown_put (grown_put (grown_put G18.out (Nat.le_refl _) 0 _) (Nat.le_refl _) 1 _) (Nat.le_refl _) 2 _) (Nat.le_refl _) 3 _)⟩
    have hn1 : (p == 1) = false := by simp [hp1]
    have hn4 : (p == 4) = false := by simp [hp4]
    go_wp2_with fail
    refine (CB.out 9 _ H9.out (by omega) (by omega)).mono ?_
    rintro e w21 ⟨k9, hk9, rfl, hcu, hgr⟩
    have H21 := Lib.hid hcu
    have R21 := Lib.hid (blk_drawn R9.out hgr hgs)
    have G21 := Lib.hid (grownBy_trans G9.out hgr)
    have B21 := Lib.hid (blk_drawn B9.out hgr (by omega))
    clear hcu hgr H9 R9 G9 B9
    by_cases h9 : k9 = 0
    · have h9a : ((k9 : Int) == 0) = true := by simp [h9]
      have h9b : (k9 == 0) = true := by simp [h9]
      clear h9
      go_wp2_with fail
      refine (CB.out 3 _ H21.out (by omega) (by omega)).mono ?_
      rintro e w22 ⟨k8, hk8, rfl, hcu, hgr⟩
      have H22 := Lib.hid hcu
      have R22 := Lib.hid (blk_drawn R21.out hgr hgs)
      have G22 := Lib.hid (grownBy_trans G21.out hgr)
      have B22 := Lib.hid (blk_drawn B21.out hgr (by omega))
      clear hcu hgr H21 R21 G21 B21
      obtain ⟨zf, hf1, hf2, hf3⟩ := far_part k8 hk8
      have HF := Lib.hid hf3
      clear hf3
      have bu0 := B22.out.cell (i := 0) rfl
      have fu0 := B22.out.frozen 0
      have bu1 := B22.out.cell (i := 1) rfl
      have fu1 := B22.out.frozen 1
      have bu2 := B22.out.cell (i := 2) rfl
      have fu2 := B22.out.frozen 2
      have bu3 := B22.out.cell (i := 3) rfl
      have fu3 := B22.out.frozen 3
      have H23 := Lib.hid (H22.out.put hgs (Nat.le_of_lt hlt) HA.out 3 (.int .i64 zf))
      have R23 := Lib.hid (R22.out.other (p := ⟨w8.heap.size, 3, none⟩) (by show w.heap.size ≠ w8.heap.size; omega) (.int .i64 zf))
      have G23 := Lib.hid (grown_put G22.out (Nat.le_of_lt hlt) 3 (.int .i64 zf))
      have B23 := Lib.hid (B22.out.set 3 (.int .i64 zf))
      clear H22 R22 G22 B22
      have bz0 := B23.out.cell (i := 0) rfl
      have fz0 := B23.out.frozen 0
      have bz1 := B23.out.cell (i := 1) rfl
      have fz1 := B23.out.frozen 1
      have bz2 := B23.out.cell (i := 2) rfl
      have fz2 := B23.out.frozen 2
      have bz3 := B23.out.cell (i := 3) rfl
      have fz3 := B23.out.frozen 3
      have r0 := R23.out.cell (i := 0) rfl
      have e0 := R23.out.frozen 0
      have r1 := R23.out.cell (i := 1) rfl
      have e1 := R23.out.frozen 1
      have r2 := R23.out.cell (i := 2) rfl
      have e2 := R23.out.frozen 2
      have r3 := R23.out.cell (i := 3) rfl
      have e3 := R23.out.frozen 3
      have hR := ((((R23.out.set 0 (.bool true)).set 1 (.bool true)).set 2 (.int .i64 (k3 : Int))).set 3 (.int .i64 zf))
      have q0 := hR.cell (i := 0) rfl
      have q1 := hR.cell (i := 1) rfl
      have q2 := hR.cell (i := 2) rfl
      have q3 := hR.cell (i := 3) rfl
      go_wp2
      refine bodyPost_ret (v := .agg #[.bool true, .bool true, .int .i64 (k3 : Int), .int .i64 zf]) (by simp [results, Try.results31, go_sem, q0, q1, q2, q3]) rfl ?_
      exact ⟨⟨true, true, (k3 : Int), zf⟩, view_good rfl HK3.out HF.out, rfl, ((((H23.out.put hgs (Nat.le_refl _) HA.out 0 _).put hgs (Nat.le_refl _) HA.out 1 _).put hgs (Nat.le_refl _) HA.out 2 _).put hgs (Nat.le_refl _) HA.out 3 _), (grown_put (grown_put (grown_put (grown_put G23.out (Nat.le_refl _) 0 _) (Nat.le_refl _) 1 _) (Nat.le_refl _) 2 _) (Nat.le_refl _) 3 _)⟩
    · have h9a : ((k9 : Int) == 0) = false := by simp; omega
      have h9b : (k9 == 0) = false := by simp; omega
      have bz0 := B21.out.cell (i := 0) rfl
      have fz0 := B21.out.frozen 0
      have bz1 := B21.out.cell (i := 1) rfl
      have fz1 := B21.out.frozen 1
      have bz2 := B21.out.cell (i := 2) rfl
      have fz2 := B21.out.frozen 2
      have bz3 := B21.out.cell (i := 3) rfl
      have fz3 := B21.out.frozen 3
      have r0 := R21.out.cell (i := 0) rfl
      have e0 := R21.out.frozen 0
      have r1 := R21.out.cell (i := 1) rfl
      have e1 := R21.out.frozen 1
      have r2 := R21.out.cell (i := 2) rfl
      have e2 := R21.out.frozen 2
      have r3 := R21.out.cell (i := 3) rfl
      have e3 := R21.out.frozen 3
      have hR := ((((R21.out.set 0 (.bool true)).set 1 (.bool true)).set 2 (.int .i64 (k3 : Int))).set 3 (.int .i64 (k4 : Int)))
      have q0 := hR.cell (i := 0) rfl
      have q1 := hR.cell (i := 1) rfl
      have q2 := hR.cell (i := 2) rfl
      have q3 := hR.cell (i := 3) rfl
      go_wp2
      refine bodyPost_ret (v := .agg #[.bool true, .bool true, .int .i64 (k3 : Int), .int .i64 (k4 : Int)]) (by simp [results, Try.results31, go_sem, q0, q1, q2, q3]) rfl ?_
      exact ⟨⟨true, true, (k3 : Int), (k4 : Int)⟩, view_good rfl HK3.out HK4.out, rfl, ((((H21.out.put hgs (Nat.le_refl _) HA.out 0 _).put hgs (Nat.le_refl _) HA.out 1 _).put hgs (Nat.le_refl _) HA.out 2 _).put hgs (Nat.le_refl _) HA.out 3 _), (grown_put (grown_put (grown_put (grown_put G21.out (Nat.le_refl _) 0 _) (Nat.le_refl _) 1 _) (Nat.le_refl _) 2 _) (Nat.le_refl _) 3 _)⟩
  by_cases hctf : bi = true ∧ bo = false
  · obtain ⟨rfl, rfl⟩ := hctf
    have H24 := Lib.hid (H8.out.grow (below_a1 w8 (.cells #[.bool true, .bool false, .int .i64 (k3 : Int), .int .i64 (k4 : Int)] 32)))
    have R24 := Lib.hid (R8.out.alloc (.cells #[.bool true, .bool false, .int .i64 (k3 : Int), .int .i64 (k4 : Int)] 32))
    have G24 := Lib.hid (grownBy_trans G8.out (grownBy_of_below (below_a1 w8 (.cells #[.bool true, .bool false, .int .i64 (k3 : Int), .int .i64 (k4 : Int)] 32)) (some g)))
    have B24 := Lib.hid (Blk.new w8 #[.bool true, .bool false, .int .i64 (k3 : Int), .int .i64 (k4 : Int)] 32)
    have hlt : w.heap.size < w8.heap.size := R8.out.lt
    clear H8 R8 G8
    by_cases hp1 : p = 1
    · subst hp1
      go_wp2_with fail
      refine (CB.out 4 _ H24.out (by omega) (by omega)).mono ?_
      rintro e w25 ⟨k5, hk5, rfl, hcu, hgr⟩
      have H25 := Lib.hid hcu
      have R25 := Lib.hid (blk_drawn R24.out hgr hgs)
      have G25 := Lib.hid (grownBy_trans G24.out hgr)
      have B25 := Lib.hid (blk_drawn B24.out hgr (by omega))
      clear hcu hgr H24 R24 G24 B24
      obtain ⟨zr, hr1, hr2, hr3, hr4⟩ := rank_part k5 hk5
      have HZ := Lib.hid hr4
      clear hr4
      have bv0 := B25.out.cell (i := 0) rfl
      have fv0 := B25.out.frozen 0
      have bv1 := B25.out.cell (i := 1) rfl
      have fv1 := B25.out.frozen 1
      have bv2 := B25.out.cell (i := 2) rfl
      have fv2 := B25.out.frozen 2
      have bv3 := B25.out.cell (i := 3) rfl
      have fv3 := B25.out.frozen 3
      have H26 := Lib.hid (H25.out.put hgs (Nat.le_of_lt hlt) HA.out 3 (.int .i64 zr))
      have R26 := Lib.hid (R25.out.other (p := ⟨w8.heap.size, 3, none⟩) (by show w.heap.size ≠ w8.heap.size; omega) (.int .i64 zr))
      have G26 := Lib.hid (grown_put G25.out (Nat.le_of_lt hlt) 3 (.int .i64 zr))
      have B26 := Lib.hid (B25.out.set 3 (.int .i64 zr))
      clear H25 R25 G25 B25
      go_wp2_with fail
      refine (CB.out 9 _ H26.out (by omega) (by omega)).mono ?_
      rintro e w27 ⟨k9, hk9, rfl, hcu, hgr⟩
      have H27 := Lib.hid hcu
      have R27 := Lib.hid (blk_drawn R26.out hgr hgs)
      have G27 := Lib.hid (grownBy_trans G26.out hgr)
      have B27 := Lib.hid (blk_drawn B26.out hgr (by omega))
      clear hcu hgr H26 R26 G26 B26
      by_cases h9 : k9 = 0
      · have h9a : ((k9 : Int) == 0) = true := by simp [h9]
        have h9b : (k9 == 0) = true := by simp [h9]
        clear h9
        go_wp2_with fail
        refine (CB.out 3 _ H27.out (by omega) (by omega)).mono ?_
        rintro e w28 ⟨k8, hk8, rfl, hcu, hgr⟩
        have H28 := Lib.hid hcu
        have R28 := Lib.hid (blk_drawn R27.out hgr hgs)
        have G28 := Lib.hid (grownBy_trans G27.out hgr)
        have B28 := Lib.hid (blk_drawn B27.out hgr (by omega))
        clear hcu hgr H27 R27 G27 B27
        obtain ⟨zf, hf1, hf2, hf3⟩ := far_part k8 hk8
        have HF := Lib.hid hf3
        clear hf3
        have bu0 := B28.out.cell (i := 0) rfl
        have fu0 := B28.out.frozen 0
        have bu1 := B28.out.cell (i := 1) rfl
        have fu1 := B28.out.frozen 1
        have bu2 := B28.out.cell (i := 2) rfl
        have fu2 := B28.out.frozen 2
        have bu3 := B28.out.cell (i := 3) rfl
        have fu3 := B28.out.frozen 3
        have H29 := Lib.hid (H28.out.put hgs (Nat.le_of_lt hlt) HA.out 3 (.int .i64 zf))
        have R29 := Lib.hid (R28.out.other (p := ⟨w8.heap.size, 3, none⟩) (by show w.heap.size ≠ w8.heap.size; omega) (.int .i64 zf))
        have G29 := Lib.hid (grown_put G28.out (Nat.le_of_lt hlt) 3 (.int .i64 zf))
        have B29 := Lib.hid (B28.out.set 3 (.int .i64 zf))
        clear H28 R28 G28 B28
        have bz0 := B29.out.cell (i := 0) rfl
        have fz0 := B29.out.frozen 0
        have bz1 := B29.out.cell (i := 1) rfl
        have fz1 := B29.out.frozen 1
        have bz2 := B29.out.cell (i := 2) rfl
        have fz2 := B29.out.frozen 2
        have bz3 := B29.out.cell (i := 3) rfl
        have fz3 := B29.out.frozen 3
        have r0 := R29.out.cell (i := 0) rfl
        have e0 := R29.out.frozen 0
        have r1 := R29.out.cell (i := 1) rfl
        have e1 := R29.out.frozen 1
        have r2 := R29.out.cell (i := 2) rfl
        have e2 := R29.out.frozen 2
        have r3 := R29.out.cell (i := 3) rfl
        have e3 := R29.out.frozen 3
        have hR := ((((R29.out.set 0 (.bool true)).set 1 (.bool false)).set 2 (.int .i64 (k3 : Int))).set 3 (.int .i64 zf))
        have q0 := hR.cell (i := 0) rfl
        have q1 := hR.cell (i := 1) rfl
        have q2 := hR.cell (i := 2) rfl
        have q3 := hR.cell (i := 3) rfl
        go_wp2
        refine bodyPost_ret (v := .agg #[.bool true, .bool false, .int .i64 (k3 : Int), .int .i64 zf]) (by simp [results, Try.results31, go_sem, q0, q1, q2, q3]) rfl ?_
        exact ⟨⟨true, false, (k3 : Int), zf⟩, view_good rfl HK3.out HF.out, rfl, ((((H29.out.put hgs (Nat.le_refl _) HA.out 0 _).put hgs (Nat.le_refl _) HA.out 1 _).put hgs (Nat.le_refl _) HA.out 2 _).put hgs (Nat.le_refl _) HA.out 3 _), (grown_put (grown_put (grown_put (grown_put G29.out (Nat.le_refl _) 0 _) (Nat.le_refl _) 1 _) (Nat.le_refl _) 2 _) (Nat.le_refl _) 3 _)⟩
      · have h9a : ((k9 : Int) == 0) = false := by simp; omega
        have h9b : (k9 == 0) = false := by simp; omega
        have bz0 := B27.out.cell (i := 0) rfl
        have fz0 := B27.out.frozen 0
        have bz1 := B27.out.cell (i := 1) rfl
        have fz1 := B27.out.frozen 1
        have bz2 := B27.out.cell (i := 2) rfl
        have fz2 := B27.out.frozen 2
        have bz3 := B27.out.cell (i := 3) rfl
        have fz3 := B27.out.frozen 3
        have r0 := R27.out.cell (i := 0) rfl
        have e0 := R27.out.frozen 0
        have r1 := R27.out.cell (i := 1) rfl
        have e1 := R27.out.frozen 1
        have r2 := R27.out.cell (i := 2) rfl
        have e2 := R27.out.frozen 2
        have r3 := R27.out.cell (i := 3) rfl
        have e3 := R27.out.frozen 3
        have hR := ((((R27.out.set 0 (.bool true)).set 1 (.bool false)).set 2 (.int .i64 (k3 : Int))).set 3 (.int .i64 zr))
        have q0 := hR.cell (i := 0) rfl
        have q1 := hR.cell (i := 1) rfl
        have q2 := hR.cell (i := 2) rfl
        have q3 := hR.cell (i := 3) rfl
        go_wp2
        refine bodyPost_ret (v := .agg #[.bool true, .bool false, .int .i64 (k3 : Int), .int .i64 zr]) (by simp [results, Try.results31, go_sem, q0, q1, q2, q3]) rfl ?_
        exact ⟨⟨true, false, (k3 : Int), zr⟩, view_good rfl HK3.out HZ.out, rfl, ((((H27.out.put hgs (Nat.le_refl _) HA.out 0 _).put hgs (Nat.le_refl _) HA.out 1 _).put hgs (Nat.le_refl _) HA.out 2 _).put hgs (Nat.le_refl _) HA.out 3 _), (grown_put (grown_put (grown_put (grown_put G27.out (Nat.le_refl _) 0 _) (Nat.le_refl _) 1 _) (Nat.le_refl _) 2 _) (Nat.le_refl _) 3 _)⟩
    by_cases hp4 : p = 4
    · subst hp4
      go_wp2_with fail
      refine (CB.out 4 _ H24.out (by omega) (by omega)).mono ?_
      rintro e w30 ⟨k5, hk5, rfl, hcu, hgr⟩
      have H30 := Lib.hid hcu
      have R30 := Lib.hid (blk_drawn R24.out hgr hgs)
      have G30 := Lib.hid (grownBy_trans G24.out hgr)
      have B30 := Lib.hid (blk_drawn B24.out hgr (by omega))
      clear hcu hgr H24 R24 G24 B24
      go_wp2_with fail
      refine (CB.out 4 _ H30.out (by omega) (by omega)).mono ?_
      rintro e w31 ⟨k6, hk6, rfl, hcu, hgr⟩
      have H31 := Lib.hid hcu
      have R31 := Lib.hid (blk_drawn R30.out hgr hgs)
      have G31 := Lib.hid (grownBy_trans G30.out hgr)
      have B31 := Lib.hid (blk_drawn B30.out hgr (by omega))
      clear hcu hgr H30 R30 G30 B30
      obtain ⟨zl, hl1, hl2, hl3, hl4⟩ := lab_part k5 k6 hk5 hk6
      have HZ := Lib.hid hl4
      clear hl4
      have bv0 := B31.out.cell (i := 0) rfl
      have fv0 := B31.out.frozen 0
      have bv1 := B31.out.cell (i := 1) rfl
      have fv1 := B31.out.frozen 1
      have bv2 := B31.out.cell (i := 2) rfl
      have fv2 := B31.out.frozen 2
      have bv3 := B31.out.cell (i := 3) rfl
      have fv3 := B31.out.frozen 3
      have H32 := Lib.hid (H31.out.put hgs (Nat.le_of_lt hlt) HA.out 3 (.int .i64 zl))
      have R32 := Lib.hid (R31.out.other (p := ⟨w8.heap.size, 3, none⟩) (by show w.heap.size ≠ w8.heap.size; omega) (.int .i64 zl))
      have G32 := Lib.hid (grown_put G31.out (Nat.le_of_lt hlt) 3 (.int .i64 zl))
      have B32 := Lib.hid (B31.out.set 3 (.int .i64 zl))
      clear H31 R31 G31 B31
      go_wp2_with fail
      refine (CB.out 9 _ H32.out (by omega) (by omega)).mono ?_
      rintro e w33 ⟨k9, hk9, rfl, hcu, hgr⟩
      have H33 := Lib.hid hcu
      have R33 := Lib.hid (blk_drawn R32.out hgr hgs)
      have G33 := Lib.hid (grownBy_trans G32.out hgr)
      have B33 := Lib.hid (blk_drawn B32.out hgr (by omega))
      clear hcu hgr H32 R32 G32 B32
      by_cases h9 : k9 = 0
      · have h9a : ((k9 : Int) == 0) = true := by simp [h9]
        have h9b : (k9 == 0) = true := by simp [h9]
        clear h9
        go_wp2_with fail
        refine (CB.out 3 _ H33.out (by omega) (by omega)).mono ?_
        rintro e w34 ⟨k8, hk8, rfl, hcu, hgr⟩
        have H34 := Lib.hid hcu
        have R34 := Lib.hid (blk_drawn R33.out hgr hgs)
        have G34 := Lib.hid (grownBy_trans G33.out hgr)
        have B34 := Lib.hid (blk_drawn B33.out hgr (by omega))
        clear hcu hgr H33 R33 G33 B33
        obtain ⟨zf, hf1, hf2, hf3⟩ := far_part k8 hk8
        have HF := Lib.hid hf3
        clear hf3
        have bu0 := B34.out.cell (i := 0) rfl
        have fu0 := B34.out.frozen 0
        have bu1 := B34.out.cell (i := 1) rfl
        have fu1 := B34.out.frozen 1
        have bu2 := B34.out.cell (i := 2) rfl
        have fu2 := B34.out.frozen 2
        have bu3 := B34.out.cell (i := 3) rfl
        have fu3 := B34.out.frozen 3
        have H35 := Lib.hid (H34.out.put hgs (Nat.le_of_lt hlt) HA.out 3 (.int .i64 zf))
        have R35 := Lib.hid (R34.out.other (p := ⟨w8.heap.size, 3, none⟩) (by show w.heap.size ≠ w8.heap.size; omega) (.int .i64 zf))
        have G35 := Lib.hid (grown_put G34.out (Nat.le_of_lt hlt) 3 (.int .i64 zf))
        have B35 := Lib.hid (B34.out.set 3 (.int .i64 zf))
        clear H34 R34 G34 B34
        have bz0 := B35.out.cell (i := 0) rfl
        have fz0 := B35.out.frozen 0
        have bz1 := B35.out.cell (i := 1) rfl
        have fz1 := B35.out.frozen 1
        have bz2 := B35.out.cell (i := 2) rfl
        have fz2 := B35.out.frozen 2
        have bz3 := B35.out.cell (i := 3) rfl
        have fz3 := B35.out.frozen 3
        have r0 := R35.out.cell (i := 0) rfl
        have e0 := R35.out.frozen 0
        have r1 := R35.out.cell (i := 1) rfl
        have e1 := R35.out.frozen 1
        have r2 := R35.out.cell (i := 2) rfl
        have e2 := R35.out.frozen 2
        have r3 := R35.out.cell (i := 3) rfl
        have e3 := R35.out.frozen 3
        have hR := ((((R35.out.set 0 (.bool true)).set 1 (.bool false)).set 2 (.int .i64 (k3 : Int))).set 3 (.int .i64 zf))
        have q0 := hR.cell (i := 0) rfl
        have q1 := hR.cell (i := 1) rfl
        have q2 := hR.cell (i := 2) rfl
        have q3 := hR.cell (i := 3) rfl
        go_wp2
        refine bodyPost_ret (v := .agg #[.bool true, .bool false, .int .i64 (k3 : Int), .int .i64 zf]) (by simp [results, Try.results31, go_sem, q0, q1, q2, q3]) rfl ?_
        exact ⟨⟨true, false, (k3 : Int), zf⟩, view_good rfl HK3.out HF.out, rfl, ((((H35.out.put hgs (Nat.le_refl _) HA.out 0 _).put hgs (Nat.le_refl _) HA.out 1 _).put hgs (Nat.le_refl _) HA.out 2 _).put hgs (Nat.le_refl _) HA.out 3 _), (grown_put (grown_put (grown_put (grown_put G35.out (Nat.le_refl _) 0 _) (Nat.le_refl _) 1 _) (Nat.le_refl _) 2 _) (Nat.le_refl _) 3 _)⟩
      · have h9a : ((k9 : Int) == 0) = false := by simp; omega
        have h9b : (k9 == 0) = false := by simp; omega
        have bz0 := B33.out.cell (i := 0) rfl
        have fz0 := B33.out.frozen 0
        have bz1 := B33.out.cell (i := 1) rfl
        have fz1 := B33.out.frozen 1
        have bz2 := B33.out.cell (i := 2) rfl
        have fz2 := B33.out.frozen 2
        have bz3 := B33.out.cell (i := 3) rfl
        have fz3 := B33.out.frozen 3
        have r0 := R33.out.cell (i := 0) rfl
        have e0 := R33.out.frozen 0
        have r1 := R33.out.cell (i := 1) rfl
        have e1 := R33.out.frozen 1
        have r2 := R33.out.cell (i := 2) rfl
        have e2 := R33.out.frozen 2
        have r3 := R33.out.cell (i := 3) rfl
        have e3 := R33.out.frozen 3
        have hR := ((((R33.out.set 0 (.bool true)).set 1 (.bool false)).set 2 (.int .i64 (k3 : Int))).set 3 (.int .i64 zl))
        have q0 := hR.cell (i := 0) rfl
        have q1 := hR.cell (i := 1) rfl
        have q2 := hR.cell (i := 2) rfl
        have q3 := hR.cell (i := 3) rfl
        go_wp2
        refine bodyPost_ret (v := .agg #[.bool true, .bool false, .int .i64 (k3 : Int), .int .i64 zl]) (by simp [results, Try.results31, go_sem, q0, q1, q2, q3]) rfl ?_
        exact ⟨⟨true, false, (k3 : Int), zl⟩, view_good rfl HK3.out HZ.out, rfl, ((((H33.out.put hgs (Nat.le_refl _) HA.out 0 _).put hgs (Nat.le_refl _) HA.out 1 _).put hgs (Nat.le_refl _) HA.out 2 _).put hgs (Nat.le_refl _) HA.out 3 _), (grown_put (grown_put (grown_put (grown_put G33.out (Nat.le_refl _) 0 _) (Nat.le_refl _) 1 _) (Nat.le_refl _) 2 _) (Nat.le_refl _) 3 _)⟩
    have hn1 : (p == 1) = false := by simp [hp1]
    have hn4 : (p == 4) = false := by simp [hp4]
    go_wp2_with fail
    refine (CB.out 9 _ H24.out (by omega) (by omega)).mono ?_
    rintro e w36 ⟨k9, hk9, rfl, hcu, hgr⟩
    have H36 := Lib.hid hcu
    have R36 := Lib.hid (blk_drawn R24.out hgr hgs)
    have G36 := Lib.hid (grownBy_trans G24.out hgr)
    have B36 := Lib.hid (blk_drawn B24.out hgr (by omega))
    clear hcu hgr H24 R24 G24 B24
    by_cases h9 : k9 = 0
    · have h9a : ((k9 : Int) == 0) = true := by simp [h9]
      have h9b : (k9 == 0) = true := by simp [h9]
      clear h9
      go_wp2_with fail
      refine (CB.out 3 _ H36.out (by omega) (by omega)).mono ?_
      rintro e w37 ⟨k8, hk8, rfl, hcu, hgr⟩
      have H37 := Lib.hid hcu
      have R37 := Lib.hid (blk_drawn R36.out hgr hgs)
      have G37 := Lib.hid (grownBy_trans G36.out hgr)
      have B37 := Lib.hid (blk_drawn B36.out hgr (by omega))
      clear hcu hgr H36 R36 G36 B36
      obtain ⟨zf, hf1, hf2, hf3⟩ := far_part k8 hk8
      have HF := Lib.hid hf3
      clear hf3
      have bu0 := B37.out.cell (i := 0) rfl
      have fu0 := B37.out.frozen 0
      have bu1 := B37.out.cell (i := 1) rfl
      have fu1 := B37.out.frozen 1
      have bu2 := B37.out.cell (i := 2) rfl
      have fu2 := B37.out.frozen 2
      have bu3 := B37.out.cell (i := 3) rfl
      have fu3 := B37.out.frozen 3
      have H38 := Lib.hid (H37.out.put hgs (Nat.le_of_lt hlt) HA.out 3 (.int .i64 zf))
      have R38 := Lib.hid (R37.out.other (p := ⟨w8.heap.size, 3, none⟩) (by show w.heap.size ≠ w8.heap.size; omega) (.int .i64 zf))
      have G38 := Lib.hid (grown_put G37.out (Nat.le_of_lt hlt) 3 (.int .i64 zf))
      have B38 := Lib.hid (B37.out.set 3 (.int .i64 zf))
      clear H37 R37 G37 B37
      have bz0 := B38.out.cell (i := 0) rfl
      have fz0 := B38.out.frozen 0
      have bz1 := B38.out.cell (i := 1) rfl
      have fz1 := B38.out.frozen 1
      have bz2 := B38.out.cell (i := 2) rfl
      have fz2 := B38.out.frozen 2
      have bz3 := B38.out.cell (i := 3) rfl
      have fz3 := B38.out.frozen 3
      have r0 := R38.out.cell (i := 0) rfl
      have e0 := R38.out.frozen 0
      have r1 := R38.out.cell (i := 1) rfl
      have e1 := R38.out.frozen 1
      have r2 := R38.out.cell (i := 2) rfl
      have e2 := R38.out.frozen 2
      have r3 := R38.out.cell (i := 3) rfl
      have e3 := R38.out.frozen 3
      have hR := ((((R38.out.set 0 (.bool true)).set 1 (.bool false)).set 2 (.int .i64 (k3 : Int))).set 3 (.int .i64 zf))
      have q0 := hR.cell (i := 0) rfl
      have q1 := hR.cell (i := 1) rfl
      have q2 := hR.cell (i := 2) rfl
      have q3 := hR.cell (i := 3) rfl
      go_wp2
      refine bodyPost_ret (v := .agg #[.bool true, .bool false, .int .i64 (k3 : Int), .int .i64 zf]) (by simp [results, Try.results31, go_sem, q0, q1, q2, q3]) rfl ?_
      exact ⟨⟨true, false, (k3 : Int), zf⟩, view_good rfl HK3.out HF.out, rfl, ((((H38.out.put hgs (Nat.le_refl _) HA.out 0 _).put hgs (Nat.le_refl _) HA.out 1 _).put hgs (Nat.le_refl _) HA.out 2 _).put hgs (Nat.le_refl _) HA.out 3 _), (grown_put (grown_put (grown_put (grown_put G38.out (Nat.le_refl _) 0 _) (Nat.le_refl _) 1 _) (Nat.le_refl _) 2 _) (Nat.le_refl _) 3 _)⟩
    · have h9a : ((k9 : Int) == 0) = false := by simp; omega
      have h9b : (k9 == 0) = false := by simp; omega
      have bz0 := B36.out.cell (i := 0) rfl
      have fz0 := B36.out.frozen 0
      have bz1 := B36.out.cell (i := 1) rfl
      have fz1 := B36.out.frozen 1
      have bz2 := B36.out.cell (i := 2) rfl
      have fz2 := B36.out.frozen 2
      have bz3 := B36.out.cell (i := 3) rfl
      have fz3 := B36.out.frozen 3
      have r0 := R36.out.cell (i := 0) rfl
      have e0 := R36.out.frozen 0
      have r1 := R36.out.cell (i := 1) rfl
      have e1 := R36.out.frozen 1
      have r2 := R36.out.cell (i := 2) rfl
      have e2 := R36.out.frozen 2
      have r3 := R36.out.cell (i := 3) rfl
      have e3 := R36.out.frozen 3
      have hR := ((((R36.out.set 0 (.bool true)).set 1 (.bool false)).set 2 (.int .i64 (k3 : Int))).set 3 (.int .i64 (k4 : Int)))
      have q0 := hR.cell (i := 0) rfl
      have q1 := hR.cell (i := 1) rfl
      have q2 := hR.cell (i := 2) rfl
      have q3 := hR.cell (i := 3) rfl
      go_wp2
      refine bodyPost_ret (v := .agg #[.bool true, .bool false, .int .i64 (k3 : Int), .int .i64 (k4 : Int)]) (by simp [results, Try.results31, go_sem, q0, q1, q2, q3]) rfl ?_
      exact ⟨⟨true, false, (k3 : Int), (k4 : Int)⟩, view_good rfl HK3.out HK4.out, rfl, ((((H36.out.put hgs (Nat.le_refl _) HA.out 0 _).put hgs (Nat.le_refl _) HA.out 1 _).put hgs (Nat.le_refl _) HA.out 2 _).put hgs (Nat.le_refl _) HA.out 3 _), (grown_put (grown_put (grown_put (grown_put G36.out (Nat.le_refl _) 0 _) (Nat.le_refl _) 1 _) (Nat.le_refl _) 2 _) (Nat.le_refl _) 3 _)⟩
  by_cases hcft : bi = false ∧ bo = true
  · obtain ⟨rfl, rfl⟩ := hcft
    have H39 := Lib.hid (H8.out.grow (below_a1 w8 (.cells #[.bool false, .bool true, .int .i64 (k3 : Int), .int .i64 (k4 : Int)] 32)))
    have R39 := Lib.hid (R8.out.alloc (.cells #[.bool false, .bool true, .int .i64 (k3 : Int), .int .i64 (k4 : Int)] 32))
    have G39 := Lib.hid (grownBy_trans G8.out (grownBy_of_below (below_a1 w8 (.cells #[.bool false, .bool true, .int .i64 (k3 : Int), .int .i64 (k4 : Int)] 32)) (some g)))
    have B39 := Lib.hid (Blk.new w8 #[.bool false, .bool true, .int .i64 (k3 : Int), .int .i64 (k4 : Int)] 32)
    have hlt : w.heap.size < w8.heap.size := R8.out.lt
    clear H8 R8 G8
    by_cases hp1 : p = 1
    · subst hp1
      go_wp2_with fail
      refine (CB.out 4 _ H39.out (by omega) (by omega)).mono ?_
      rintro e w40 ⟨k5, hk5, rfl, hcu, hgr⟩
      have H40 := Lib.hid hcu
      have R40 := Lib.hid (blk_drawn R39.out hgr hgs)
      have G40 := Lib.hid (grownBy_trans G39.out hgr)
      have B40 := Lib.hid (blk_drawn B39.out hgr (by omega))
      clear hcu hgr H39 R39 G39 B39
      obtain ⟨zr, hr1, hr2, hr3, hr4⟩ := rank_part k5 hk5
      have HZ := Lib.hid hr4
      clear hr4
      have bv0 := B40.out.cell (i := 0) rfl
      have fv0 := B40.out.frozen 0
      have bv1 := B40.out.cell (i := 1) rfl
      have fv1 := B40.out.frozen 1
      have bv2 := B40.out.cell (i := 2) rfl
      have fv2 := B40.out.frozen 2
      have bv3 := B40.out.cell (i := 3) rfl
      have fv3 := B40.out.frozen 3
      have H41 := Lib.hid (H40.out.put hgs (Nat.le_of_lt hlt) HA.out 3 (.int .i64 zr))
      have R41 := Lib.hid (R40.out.other (p := ⟨w8.heap.size, 3, none⟩) (by show w.heap.size ≠ w8.heap.size; omega) (.int .i64 zr))
      have G41 := Lib.hid (grown_put G40.out (Nat.le_of_lt hlt) 3 (.int .i64 zr))
      have B41 := Lib.hid (B40.out.set 3 (.int .i64 zr))
      clear H40 R40 G40 B40
      go_wp2_with fail
      refine (CB.out 9 _ H41.out (by omega) (by omega)).mono ?_
      rintro e w42 ⟨k9, hk9, rfl, hcu, hgr⟩
      have H42 := Lib.hid hcu
      have R42 := Lib.hid (blk_drawn R41.out hgr hgs)
      have G42 := Lib.hid (grownBy_trans G41.out hgr)
      have B42 := Lib.hid (blk_drawn B41.out hgr (by omega))
      clear hcu hgr H41 R41 G41 B41
      by_cases h9 : k9 = 0
      · have h9a : ((k9 : Int) == 0) = true := by simp [h9]
        have h9b : (k9 == 0) = true := by simp [h9]
        clear h9
        go_wp2_with fail
        refine (CB.out 3 _ H42.out (by omega) (by omega)).mono ?_
        rintro e w43 ⟨k8, hk8, rfl, hcu, hgr⟩
        have H43 := Lib.hid hcu
        have R43 := Lib.hid (blk_drawn R42.out hgr hgs)
        have G43 := Lib.hid (grownBy_trans G42.out hgr)
        have B43 := Lib.hid (blk_drawn B42.out hgr (by omega))
        clear hcu hgr H42 R42 G42 B42
        obtain ⟨zf, hf1, hf2, hf3⟩ := far_part k8 hk8
        have HF := Lib.hid hf3
        clear hf3
        have bu0 := B43.out.cell (i := 0) rfl
        have fu0 := B43.out.frozen 0
        have bu1 := B43.out.cell (i := 1) rfl
        have fu1 := B43.out.frozen 1
        have bu2 := B43.out.cell (i := 2) rfl
        have fu2 := B43.out.frozen 2
        have bu3 := B43.out.cell (i := 3) rfl
        have fu3 := B43.out.frozen 3
        have H44 := Lib.hid (H43.out.put hgs (Nat.le_of_lt hlt) HA.out 3 (.int .i64 zf))
        have R44 := Lib.hid (R43.out.other (p := ⟨w8.heap.size, 3, none⟩) (by show w.heap.size ≠ w8.heap.size; omega) (.int .i64 zf))
        have G44 := Lib.hid (grown_put G43.out (Nat.le_of_lt hlt) 3 (.int .i64 zf))
        have B44 := Lib.hid (B43.out.set 3 (.int .i64 zf))
        clear H43 R43 G43 B43
        have bz0 := B44.out.cell (i := 0) rfl
        have fz0 := B44.out.frozen 0
        have bz1 := B44.out.cell (i := 1) rfl
        have fz1 := B44.out.frozen 1
        have bz2 := B44.out.cell (i := 2) rfl
        have fz2 := B44.out.frozen 2
        have bz3 := B44.out.cell (i := 3) rfl
        have fz3 := B44.out.frozen 3
        have r0 := R44.out.cell (i := 0) rfl
        have e0 := R44.out.frozen 0
        have r1 := R44.out.cell (i := 1) rfl
        have e1 := R44.out.frozen 1
        have r2 := R44.out.cell (i := 2) rfl
        have e2 := R44.out.frozen 2
        have r3 := R44.out.cell (i := 3) rfl
        have e3 := R44.out.frozen 3
        have hR := ((((R44.out.set 0 (.bool false)).set 1 (.bool true)).set 2 (.int .i64 (k3 : Int))).set 3 (.int .i64 zf))
        have q0 := hR.cell (i := 0) rfl
        have q1 := hR.cell (i := 1) rfl
        have q2 := hR.cell (i := 2) rfl
        have q3 := hR.cell (i := 3) rfl
        go_wp2
        refine bodyPost_ret (v := .agg #[.bool false, .bool true, .int .i64 (k3 : Int), .int .i64 zf]) (by simp [results, Try.results31, go_sem, q0, q1, q2, q3]) rfl ?_
        exact ⟨⟨false, true, (k3 : Int), zf⟩, view_good rfl HK3.out HF.out, rfl, ((((H44.out.put hgs (Nat.le_refl _) HA.out 0 _).put hgs (Nat.le_refl _) HA.out 1 _).put hgs (Nat.le_refl _) HA.out 2 _).put hgs (Nat.le_refl _) HA.out 3 _), (grown_put (grown_put (grown_put (grown_put G44.out (Nat.le_refl _) 0 _) (Nat.le_refl _) 1 _) (Nat.le_refl _) 2 _) (Nat.le_refl _) 3 _)⟩
      · have h9a : ((k9 : Int) == 0) = false := by simp; omega
        have h9b : (k9 == 0) = false := by simp; omega
        have bz0 := B42.out.cell (i := 0) rfl
        have fz0 := B42.out.frozen 0
        have bz1 := B42.out.cell (i := 1) rfl
        have fz1 := B42.out.frozen 1
        have bz2 := B42.out.cell (i := 2) rfl
        have fz2 := B42.out.frozen 2
        have bz3 := B42.out.cell (i := 3) rfl
        have fz3 := B42.out.frozen 3
        have r0 := R42.out.cell (i := 0) rfl
        have e0 := R42.out.frozen 0
        have r1 := R42.out.cell (i := 1) rfl
        have e1 := R42.out.frozen 1
        have r2 := R42.out.cell (i := 2) rfl
        have e2 := R42.out.frozen 2
        have r3 := R42.out.cell (i := 3) rfl
        have e3 := R42.out.frozen 3
        have hR := ((((R42.out.set 0 (.bool false)).set 1 (.bool true)).set 2 (.int .i64 (k3 : Int))).set 3 (.int .i64 zr))
        have q0 := hR.cell (i := 0) rfl
        have q1 := hR.cell (i := 1) rfl
        have q2 := hR.cell (i := 2) rfl
        have q3 := hR.cell (i := 3) rfl
        go_wp2
        refine bodyPost_ret (v := .agg #[.bool false, .bool true, .int .i64 (k3 : Int), .int .i64 zr]) (by simp [results, Try.results31, go_sem, q0, q1, q2, q3]) rfl ?_
        exact ⟨⟨false, true, (k3 : Int), zr⟩, view_good rfl HK3.out HZ.out, rfl, ((((H42.out.put hgs (Nat.le_refl _) HA.out 0 _).put hgs (Nat.le_refl _) HA.out 1 _).put hgs (Nat.le_refl _) HA.out 2 _).put hgs (Nat.le_refl _) HA.out 3 _), (grown_put (grown_put (grown_put (grown_put G42.out (Nat.le_refl _) 0 _) (Nat.le_refl _) 1 _) (Nat.le_refl _) 2 _) (Nat.le_refl _) 3 _)⟩
    by_cases hp4 : p = 4
    · subst hp4
      go_wp2_with fail
      refine (CB.out 4 _ H39.out (by omega) (by omega)).mono ?_
      rintro e w45 ⟨k5, hk5, rfl, hcu, hgr⟩
      have H45 := Lib.hid hcu
      have R45 := Lib.hid (blk_drawn R39.out hgr hgs)
      have G45 := Lib.hid (grownBy_trans G39.out hgr)
      have B45 := Lib.hid (blk_drawn B39.out hgr (by omega))
      clear hcu hgr H39 R39 G39 B39
      go_wp2_with fail
      refine (CB.out 4 _ H45.out (by omega) (by omega)).mono ?_
      rintro e w46 ⟨k6, hk6, rfl, hcu, hgr⟩
      have H46 := Lib.hid hcu
      have R46 := Lib.hid (blk_drawn R45.out hgr hgs)
      have G46 := Lib.hid (grownBy_trans G45.out hgr)
      have B46 := Lib.hid (blk_drawn B45.out hgr (by omega))
      clear hcu hgr H45 R45 G45 B45
      obtain ⟨zl, hl1, hl2, hl3, hl4⟩ := lab_part k5 k6 hk5 hk6
      have HZ := Lib.hid hl4
      clear hl4
      have bv0 := B46.out.cell (i := 0) rfl
      have fv0 := B46.out.frozen 0
      have bv1 := B46.out.cell (i := 1) rfl
      have fv1 := B46.out.frozen 1
      have bv2 := B46.out.cell (i := 2) rfl
      have fv2 := B46.out.frozen 2
      have bv3 := B46.out.cell (i := 3) rfl
      have fv3 := B46.out.frozen 3
      have H47 := Lib.hid (H46.out.put hgs (Nat.le_of_lt hlt) HA.out 3 (.int .i64 zl))
      have R47 := Lib.hid (R46.out.other (p := ⟨w8.heap.size, 3, none⟩) (by show w.heap.size ≠ w8.heap.size; omega) (.int .i64 zl))
      have G47 := Lib.hid (grown_put G46.out (Nat.le_of_lt hlt) 3 (.int .i64 zl))
      have B47 := Lib.hid (B46.out.set 3 (.int .i64 zl))
      clear H46 R46 G46 B46
      go_wp2_with fail
      refine (CB.out 9 _ H47.out (by omega) (by omega)).mono ?_
      rintro e w48 ⟨k9, hk9, rfl, hcu, hgr⟩
      have H48 := Lib.hid hcu
      have R48 := Lib.hid (blk_drawn R47.out hgr hgs)
      have G48 := Lib.hid (grownBy_trans G47.out hgr)
      have B48 := Lib.hid (blk_drawn B47.out hgr (by omega))
      clear hcu hgr H47 R47 G47 B47
      by_cases h9 : k9 = 0
      · have h9a : ((k9 : Int) == 0) = true := by simp [h9]
        have h9b : (k9 == 0) = true := by simp [h9]
        clear h9
        go_wp2_with fail
        refine (CB.out 3 _ H48.out (by omega) (by omega)).mono ?_
        rintro e w49 ⟨k8, hk8, rfl, hcu, hgr⟩
        have H49 := Lib.hid hcu
        have R49 := Lib.hid (blk_drawn R48.out hgr hgs)
        have G49 := Lib.hid (grownBy_trans G48.out hgr)
        have B49 := Lib.hid (blk_drawn B48.out hgr (by omega))
        clear hcu hgr H48 R48 G48 B48
        obtain ⟨zf, hf1, hf2, hf3⟩ := far_part k8 hk8
        have HF := Lib.hid hf3
        clear hf3
        have bu0 := B49.out.cell (i := 0) rfl
        have fu0 := B49.out.frozen 0
        have bu1 := B49.out.cell (i := 1) rfl
        have fu1 := B49.out.frozen 1
        have bu2 := B49.out.cell (i := 2) rfl
        have fu2 := B49.out.frozen 2
        have bu3 := B49.out.cell (i := 3) rfl
        have fu3 := B49.out.frozen 3
        have H50 := Lib.hid (H49.out.put hgs (Nat.le_of_lt hlt) HA.out 3 (.int .i64 zf))
        have R50 := Lib.hid (R49.out.other (p := ⟨w8.heap.size, 3, none⟩) (by show w.heap.size ≠ w8.heap.size; omega) (.int .i64 zf))
        have G50 := Lib.hid (grown_put G49.out (Nat.le_of_lt hlt) 3 (.int .i64 zf))
        have B50 := Lib.hid (B49.out.set 3 (.int .i64 zf))
        clear H49 R49 G49 B49
        have bz0 := B50.out.cell (i := 0) rfl
        have fz0 := B50.out.frozen 0
        have bz1 := B50.out.cell (i := 1) rfl
        have fz1 := B50.out.frozen 1
        have bz2 := B50.out.cell (i := 2) rfl
        have fz2 := B50.out.frozen 2
        have bz3 := B50.out.cell (i := 3) rfl
        have fz3 := B50.out.frozen 3
        have r0 := R50.out.cell (i := 0) rfl
        have e0 := R50.out.frozen 0
        have r1 := R50.out.cell (i := 1) rfl
        have e1 := R50.out.frozen 1
        have r2 := R50.out.cell (i := 2) rfl
        have e2 := R50.out.frozen 2
        have r3 := R50.out.cell (i := 3) rfl
        have e3 := R50.out.frozen 3
        have hR := ((((R50.out.set 0 (.bool false)).set 1 (.bool true)).set 2 (.int .i64 (k3 : Int))).set 3 (.int .i64 zf))
        have q0 := hR.cell (i := 0) rfl
        have q1 := hR.cell (i := 1) rfl
        have q2 := hR.cell (i := 2) rfl
        have q3 := hR.cell (i := 3) rfl
        go_wp2
        refine bodyPost_ret (v := .agg #[.bool false, .bool true, .int .i64 (k3 : Int), .int .i64 zf]) (by simp [results, Try.results31, go_sem, q0, q1, q2, q3]) rfl ?_
        exact ⟨⟨false, true, (k3 : Int), zf⟩, view_good rfl HK3.out HF.out, rfl, ((((H50.out.put hgs (Nat.le_refl _) HA.out 0 _).put hgs (Nat.le_refl _) HA.out 1 _).put hgs (Nat.le_refl _) HA.out 2 _).put hgs (Nat.le_refl _) HA.out 3 _), (grown_put (grown_put (grown_put (grown_put G50.out (Nat.le_refl _) 0 _) (Nat.le_refl _) 1 _) (Nat.le_refl _) 2 _) (Nat.le_refl _) 3 _)⟩
      · have h9a : ((k9 : Int) == 0) = false := by simp; omega
        have h9b : (k9 == 0) = false := by simp; omega
        have bz0 := B48.out.cell (i := 0) rfl
        have fz0 := B48.out.frozen 0
        have bz1 := B48.out.cell (i := 1) rfl
        have fz1 := B48.out.frozen 1
        have bz2 := B48.out.cell (i := 2) rfl
        have fz2 := B48.out.frozen 2
        have bz3 := B48.out.cell (i := 3) rfl
        have fz3 := B48.out.frozen 3
        have r0 := R48.out.cell (i := 0) rfl
        have e0 := R48.out.frozen 0
        have r1 := R48.out.cell (i := 1) rfl
        have e1 := R48.out.frozen 1
        have r2 := R48.out.cell (i := 2) rfl
        have e2 := R48.out.frozen 2
        have r3 := R48.out.cell (i := 3) rfl
        have e3 := R48.out.frozen 3
        have hR := ((((R48.out.set 0 (.bool false)).set 1 (.bool true)).set 2 (.int .i64 (k3 : Int))).set 3 (.int .i64 zl))
        have q0 := hR.cell (i := 0) rfl
        have q1 := hR.cell (i := 1) rfl
        have q2 := hR.cell (i := 2) rfl
        have q3 := hR.cell (i := 3) rfl
        go_wp2
        refine bodyPost_ret (v := .agg #[.bool false, .bool true, .int .i64 (k3 : Int), .int .i64 zl]) (by simp [results, Try.results31, go_sem, q0, q1, q2, q3]) rfl ?_
        exact ⟨⟨false, true, (k3 : Int), zl⟩, view_good rfl HK3.out HZ.out, rfl, ((((H48.out.put hgs (Nat.le_refl _) HA.out 0 _).put hgs (Nat.le_refl _) HA.out 1 _).put hgs (Nat.le_refl _) HA.out 2 _).put hgs (Nat.le_refl _) HA.out 3 _), (grown_put (grown_put (grown_put (grown_put G48.out (Nat.le_refl _) 0 _) (Nat.le_refl _) 1 _) (Nat.le_refl _) 2 _) (Nat.le_refl _) 3 _)⟩
    have hn1 : (p == 1) = false := by simp [hp1]
    have hn4 : (p == 4) = false := by simp [hp4]
    go_wp2_with fail
    refine (CB.out 9 _ H39.out (by omega) (by omega)).mono ?_
    rintro e w51 ⟨k9, hk9, rfl, hcu, hgr⟩
    have H51 := Lib.hid hcu
    have R51 := Lib.hid (blk_drawn R39.out hgr hgs)
    have G51 := Lib.hid (grownBy_trans G39.out hgr)
    have B51 := Lib.hid (blk_drawn B39.out hgr (by omega))
    clear hcu hgr H39 R39 G39 B39
    by_cases h9 : k9 = 0
    · have h9a : ((k9 : Int) == 0) = true := by simp [h9]
      have h9b : (k9 == 0) = true := by simp [h9]
      clear h9
      go_wp2_with fail
      refine (CB.out 3 _ H51.out (by omega) (by omega)).mono ?_
      rintro e w52 ⟨k8, hk8, rfl, hcu, hgr⟩
      have H52 := Lib.hid hcu
      have R52 := Lib.hid (blk_drawn R51.out hgr hgs)
      have G52 := Lib.hid (grownBy_trans G51.out hgr)
      have B52 := Lib.hid (blk_drawn B51.out hgr (by omega))
      clear hcu hgr H51 R51 G51 B51
      obtain ⟨zf, hf1, hf2, hf3⟩ := far_part k8 hk8
      have HF := Lib.hid hf3
      clear hf3
      have bu0 := B52.out.cell (i := 0) rfl
      have fu0 := B52.out.frozen 0
      have bu1 := B52.out.cell (i := 1) rfl
      have fu1 := B52.out.frozen 1
      have bu2 := B52.out.cell (i := 2) rfl
      have fu2 := B52.out.frozen 2
      have bu3 := B52.out.cell (i := 3) rfl
      have fu3 := B52.out.frozen 3
      have H53 := Lib.hid (H52.out.put hgs (Nat.le_of_lt hlt) HA.out 3 (.int .i64 zf))
      have R53 := Lib.hid (R52.out.other (p := ⟨w8.heap.size, 3, none⟩) (by show w.heap.size ≠ w8.heap.size; omega) (.int .i64 zf))
      have G53 := Lib.hid (grown_put G52.out (Nat.le_of_lt hlt) 3 (.int .i64 zf))
      have B53 := Lib.hid (B52.out.set 3 (.int .i64 zf))
      clear H52 R52 G52 B52
      have bz0 := B53.out.cell (i := 0) rfl
      have fz0 := B53.out.frozen 0
      have bz1 := B53.out.cell (i := 1) rfl
      have fz1 := B53.out.frozen 1
      have bz2 := B53.out.cell (i := 2) rfl
      have fz2 := B53.out.frozen 2
      have bz3 := B53.out.cell (i := 3) rfl
      have fz3 := B53.out.frozen 3
      have r0 := R53.out.cell (i := 0) rfl
      have e0 := R53.out.frozen 0
      have r1 := R53.out.cell (i := 1) rfl
      have e1 := R53.out.frozen 1
      have r2 := R53.out.cell (i := 2) rfl
      have e2 := R53.out.frozen 2
      have r3 := R53.out.cell (i := 3) rfl
      have e3 := R53.out.frozen 3
      have hR := ((((R53.out.set 0 (.bool false)).set 1 (.bool true)).set 2 (.int .i64 (k3 : Int))).set 3 (.int .i64 zf))
      have q0 := hR.cell (i := 0) rfl
      have q1 := hR.cell (i := 1) rfl
      have q2 := hR.cell (i := 2) rfl
      have q3 := hR.cell (i := 3) rfl
      go_wp2
      refine bodyPost_ret (v := .agg #[.bool false, .bool true, .int .i64 (k3 : Int), .int .i64 zf]) (by simp [results, Try.results31, go_sem, q0, q1, q2, q3]) rfl ?_
      exact ⟨⟨false, true, (k3 : Int), zf⟩, view_good rfl HK3.out HF.out, rfl, ((((H53.out.put hgs (Nat.le_refl _) HA.out 0 _).put hgs (Nat.le_refl _) HA.out 1 _).put hgs (Nat.le_refl _) HA.out 2 _).put hgs (Nat.le_refl _) HA.out 3 _), (grown_put (grown_put (grown_put (grown_put G53.out (Nat.le_refl _) 0 _) (Nat.le_refl _) 1 _) (Nat.le_refl _) 2 _) (Nat.le_refl _) 3 _)⟩
    · have h9a : ((k9 : Int) == 0) = false := by simp; omega
      have h9b : (k9 == 0) = false := by simp; omega
      have bz0 := B51.out.cell (i := 0) rfl
      have fz0 := B51.out.frozen 0
      have bz1 := B51.out.cell (i := 1) rfl
      have fz1 := B51.out.frozen 1
      have bz2 := B51.out.cell (i := 2) rfl
      have fz2 := B51.out.frozen 2
      have bz3 := B51.out.cell (i := 3) rfl
      have fz3 := B51.out.frozen 3
      have r0 := R51.out.cell (i := 0) rfl
      have e0 := R51.out.frozen 0
      have r1 := R51.out.cell (i := 1) rfl
      have e1 := R51.out.frozen 1
      have r2 := R51.out.cell (i := 2) rfl
      have e2 := R51.out.frozen 2
      have r3 := R51.out.cell (i := 3) rfl
      have e3 := R51.out.frozen 3
      have hR := ((((R51.out.set 0 (.bool false)).set 1 (.bool true)).set 2 (.int .i64 (k3 : Int))).set 3 (.int .i64 (k4 : Int)))
      have q0 := hR.cell (i := 0) rfl
      have q1 := hR.cell (i := 1) rfl
      have q2 := hR.cell (i := 2) rfl
      have q3 := hR.cell (i := 3) rfl
      go_wp2
      refine bodyPost_ret (v := .agg #[.bool false, .bool true, .int .i64 (k3 : Int), .int .i64 (k4 : Int)]) (by simp [results, Try.results31, go_sem, q0, q1, q2, q3]) rfl ?_
      exact ⟨⟨false, true, (k3 : Int), (k4 : Int)⟩, view_good rfl HK3.out HK4.out, rfl, ((((H51.out.put hgs (Nat.le_refl _) HA.out 0 _).put hgs (Nat.le_refl _) HA.out 1 _).put hgs (Nat.le_refl _) HA.out 2 _).put hgs (Nat.le_refl _) HA.out 3 _), (grown_put (grown_put (grown_put (grown_put G51.out (Nat.le_refl _) 0 _) (Nat.le_refl _) 1 _) (Nat.le_refl _) 2 _) (Nat.le_refl _) 3 _)⟩
  by_cases hcff : bi = false ∧ bo = false
  · obtain ⟨rfl, rfl⟩ := hcff
    have H54 := Lib.hid (H8.out.grow (below_a1 w8 (.cells #[.bool false, .bool true, .int .i64 (k3 : Int), .int .i64 (k4 : Int)] 32)))
    have R54 := Lib.hid (R8.out.alloc (.cells #[.bool false, .bool true, .int .i64 (k3 : Int), .int .i64 (k4 : Int)] 32))
    have G54 := Lib.hid (grownBy_trans G8.out (grownBy_of_below (below_a1 w8 (.cells #[.bool false, .bool true, .int .i64 (k3 : Int), .int .i64 (k4 : Int)] 32)) (some g)))
    have B54 := Lib.hid (Blk.new w8 #[.bool false, .bool true, .int .i64 (k3 : Int), .int .i64 (k4 : Int)] 32)
    have hlt : w.heap.size < w8.heap.size := R8.out.lt
    clear H8 R8 G8
    by_cases hp1 : p = 1
    · subst hp1
      go_wp2_with fail
      refine (CB.out 4 _ H54.out (by omega) (by omega)).mono ?_
      rintro e w55 ⟨k5, hk5, rfl, hcu, hgr⟩
      have H55 := Lib.hid hcu
      have R55 := Lib.hid (blk_drawn R54.out hgr hgs)
      have G55 := Lib.hid (grownBy_trans G54.out hgr)
      have B55 := Lib.hid (blk_drawn B54.out hgr (by omega))
      clear hcu hgr H54 R54 G54 B54
      obtain ⟨zr, hr1, hr2, hr3, hr4⟩ := rank_part k5 hk5
      have HZ := Lib.hid hr4
      clear hr4
      have bv0 := B55.out.cell (i := 0) rfl
      have fv0 := B55.out.frozen 0
      have bv1 := B55.out.cell (i := 1) rfl
      have fv1 := B55.out.frozen 1
      have bv2 := B55.out.cell (i := 2) rfl
      have fv2 := B55.out.frozen 2
      have bv3 := B55.out.cell (i := 3) rfl
      have fv3 := B55.out.frozen 3
      have H56 := Lib.hid (H55.out.put hgs (Nat.le_of_lt hlt) HA.out 3 (.int .i64 zr))
      have R56 := Lib.hid (R55.out.other (p := ⟨w8.heap.size, 3, none⟩) (by show w.heap.size ≠ w8.heap.size; omega) (.int .i64 zr))
      have G56 := Lib.hid (grown_put G55.out (Nat.le_of_lt hlt) 3 (.int .i64 zr))
      have B56 := Lib.hid (B55.out.set 3 (.int .i64 zr))
      clear H55 R55 G55 B55
      go_wp2_with fail
      refine (CB.out 9 _ H56.out (by omega) (by omega)).mono ?_
      rintro e w57 ⟨k9, hk9, rfl, hcu, hgr⟩
      have H57 := Lib.hid hcu
      have R57 := Lib.hid (blk_drawn R56.out hgr hgs)
      have G57 := Lib.hid (grownBy_trans G56.out hgr)
      have B57 := Lib.hid (blk_drawn B56.out hgr (by omega))
      clear hcu hgr H56 R56 G56 B56
      by_cases h9 : k9 = 0
      · have h9a : ((k9 : Int) == 0) = true := by simp [h9]
        have h9b : (k9 == 0) = true := by simp [h9]
        clear h9
        go_wp2_with fail
        refine (CB.out 3 _ H57.out (by omega) (by omega)).mono ?_
        rintro e w58 ⟨k8, hk8, rfl, hcu, hgr⟩
        have H58 := Lib.hid hcu
        have R58 := Lib.hid (blk_drawn R57.out hgr hgs)
        have G58 := Lib.hid (grownBy_trans G57.out hgr)
        have B58 := Lib.hid (blk_drawn B57.out hgr (by omega))
        clear hcu hgr H57 R57 G57 B57
        obtain ⟨zf, hf1, hf2, hf3⟩ := far_part k8 hk8
        have HF := Lib.hid hf3
        clear hf3
        have bu0 := B58.out.cell (i := 0) rfl
        have fu0 := B58.out.frozen 0
        have bu1 := B58.out.cell (i := 1) rfl
        have fu1 := B58.out.frozen 1
        have bu2 := B58.out.cell (i := 2) rfl
        have fu2 := B58.out.frozen 2
        have bu3 := B58.out.cell (i := 3) rfl
        have fu3 := B58.out.frozen 3
        have H59 := Lib.hid (H58.out.put hgs (Nat.le_of_lt hlt) HA.out 3 (.int .i64 zf))
        have R59 := Lib.hid (R58.out.other (p := ⟨w8.heap.size, 3, none⟩) (by show w.heap.size ≠ w8.heap.size; omega) (.int .i64 zf))
        have G59 := Lib.hid (grown_put G58.out (Nat.le_of_lt hlt) 3 (.int .i64 zf))
        have B59 := Lib.hid (B58.out.set 3 (.int .i64 zf))
        clear H58 R58 G58 B58
        have bz0 := B59.out.cell (i := 0) rfl
        have fz0 := B59.out.frozen 0
        have bz1 := B59.out.cell (i := 1) rfl
        have fz1 := B59.out.frozen 1
        have bz2 := B59.out.cell (i := 2) rfl
        have fz2 := B59.out.frozen 2
        have bz3 := B59.out.cell (i := 3) rfl
        have fz3 := B59.out.frozen 3
        have r0 := R59.out.cell (i := 0) rfl
        have e0 := R59.out.frozen 0
        have r1 := R59.out.cell (i := 1) rfl
        have e1 := R59.out.frozen 1
        have r2 := R59.out.cell (i := 2) rfl
        have e2 := R59.out.frozen 2
        have r3 := R59.out.cell (i := 3) rfl
        have e3 := R59.out.frozen 3
        have hR := ((((R59.out.set 0 (.bool false)).set 1 (.bool true)).set 2 (.int .i64 (k3 : Int))).set 3 (.int .i64 zf))
        have q0 := hR.cell (i := 0) rfl
        have q1 := hR.cell (i := 1) rfl
        have q2 := hR.cell (i := 2) rfl
        have q3 := hR.cell (i := 3) rfl
        go_wp2
        refine bodyPost_ret (v := .agg #[.bool false, .bool true, .int .i64 (k3 : Int), .int .i64 zf]) (by simp [results, Try.results31, go_sem, q0, q1, q2, q3]) rfl ?_
        exact ⟨⟨false, true, (k3 : Int), zf⟩, view_good rfl HK3.out HF.out, rfl, ((((H59.out.put hgs (Nat.le_refl _) HA.out 0 _).put hgs (Nat.le_refl _) HA.out 1 _).put hgs (Nat.le_refl _) HA.out 2 _).put hgs (Nat.le_refl _) HA.out 3 _), (grown_put (grown_put (grown_put (grown_put G59.out (Nat.le_refl _) 0 _) (Nat.le_refl _) 1 _) (Nat.le_refl _) 2 _) (Nat.le_refl _) 3 _)⟩
      · have h9a : ((k9 : Int) == 0) = false := by simp; omega
        have h9b : (k9 == 0) = false := by simp; omega
        have bz0 := B57.out.cell (i := 0) rfl
        have fz0 := B57.out.frozen 0
        have bz1 := B57.out.cell (i := 1) rfl
        have fz1 := B57.out.frozen 1
        have bz2 := B57.out.cell (i := 2) rfl
        have fz2 := B57.out.frozen 2
        have bz3 := B57.out.cell (i := 3) rfl
        have fz3 := B57.out.frozen 3
        have r0 := R57.out.cell (i := 0) rfl
        have e0 := R57.out.frozen 0
        have r1 := R57.out.cell (i := 1) rfl
        have e1 := R57.out.frozen 1
        have r2 := R57.out.cell (i := 2) rfl
        have e2 := R57.out.frozen 2
        have r3 := R57.out.cell (i := 3) rfl
        have e3 := R57.out.frozen 3
        have hR := ((((R57.out.set 0 (.bool false)).set 1 (.bool true)).set 2 (.int .i64 (k3 : Int))).set 3 (.int .i64 zr))
        have q0 := hR.cell (i := 0) rfl
        have q1 := hR.cell (i := 1) rfl
        have q2 := hR.cell (i := 2) rfl
        have q3 := hR.cell (i := 3) rfl
        go_wp2
        refine bodyPost_ret (v := .agg #[.bool false, .bool true, .int .i64 (k3 : Int), .int .i64 zr]) (by simp [results, Try.results31, go_sem, q0, q1, q2, q3]) rfl ?_
        exact ⟨⟨false, true, (k3 : Int), zr⟩, view_good rfl HK3.out HZ.out, rfl, ((((H57.out.put hgs (Nat.le_refl _) HA.out 0 _).put hgs (Nat.le_refl _) HA.out 1 _).put hgs (Nat.le_refl _) HA.out 2 _).put hgs (Nat.le_refl _) HA.out 3 _), (grown_put (grown_put (grown_put (grown_put G57.out (Nat.le_refl _) 0 _) (Nat.le_refl _) 1 _) (Nat.le_refl _) 2 _) (Nat.le_refl _) 3 _)⟩
    by_cases hp4 : p = 4
    · subst hp4
      go_wp2_with fail
      refine (CB.out 4 _ H54.out (by omega) (by omega)).mono ?_
      rintro e w60 ⟨k5, hk5, rfl, hcu, hgr⟩
      have H60 := Lib.hid hcu
      have R60 := Lib.hid (blk_drawn R54.out hgr hgs)
      have G60 := Lib.hid (grownBy_trans G54.out hgr)
      have B60 := Lib.hid (blk_drawn B54.out hgr (by omega))
      clear hcu hgr H54 R54 G54 B54
      go_wp2_with fail
      refine (CB.out 4 _ H60.out (by omega) (by omega)).mono ?_
      rintro e w61 ⟨k6, hk6, rfl, hcu, hgr⟩
      have H61 := Lib.hid hcu
      have R61 := Lib.hid (blk_drawn R60.out hgr hgs)
      have G61 := Lib.hid (grownBy_trans G60.out hgr)
      have B61 := Lib.hid (blk_drawn B60.out hgr (by omega))
      clear hcu hgr H60 R60 G60 B60
      obtain ⟨zl, hl1, hl2, hl3, hl4⟩ := lab_part k5 k6 hk5 hk6
      have HZ := Lib.hid hl4
      clear hl4
      have bv0 := B61.out.cell (i := 0) rfl
      have fv0 := B61.out.frozen 0
      have bv1 := B61.out.cell (i := 1) rfl
      have fv1 := B61.out.frozen 1
      have bv2 := B61.out.cell (i := 2) rfl
      have fv2 := B61.out.frozen 2
      have bv3 := B61.out.cell (i := 3) rfl
      have fv3 := B61.out.frozen 3
      have H62 := Lib.hid (H61.out.put hgs (Nat.le_of_lt hlt) HA.out 3 (.int .i64 zl))
      have R62 := Lib.hid (R61.out.other (p := ⟨w8.heap.size, 3, none⟩) (by show w.heap.size ≠ w8.heap.size; omega) (.int .i64 zl))
      have G62 := Lib.hid (grown_put G61.out (Nat.le_of_lt hlt) 3 (.int .i64 zl))
      have B62 := Lib.hid (B61.out.set 3 (.int .i64 zl))
      clear H61 R61 G61 B61
      go_wp2_with fail
      refine (CB.out 9 _ H62.out (by omega) (by omega)).mono ?_
      rintro e w63 ⟨k9, hk9, rfl, hcu, hgr⟩
      have H63 := Lib.hid hcu
      have R63 := Lib.hid (blk_drawn R62.out hgr hgs)
      have G63 := Lib.hid (grownBy_trans G62.out hgr)
      have B63 := Lib.hid (blk_drawn B62.out hgr (by omega))
      clear hcu hgr H62 R62 G62 B62
      by_cases h9 : k9 = 0
      · have h9a : ((k9 : Int) == 0) = true := by simp [h9]
        have h9b : (k9 == 0) = true := by simp [h9]
        clear h9
        go_wp2_with fail
        refine (CB.out 3 _ H63.out (by omega) (by omega)).mono ?_
        rintro e w64 ⟨k8, hk8, rfl, hcu, hgr⟩
        have H64 := Lib.hid hcu
        have R64 := Lib.hid (blk_drawn R63.out hgr hgs)
        have G64 := Lib.hid (grownBy_trans G63.out hgr)
        have B64 := Lib.hid (blk_drawn B63.out hgr (by omega))
        clear hcu hgr H63 R63 G63 B63
        obtain ⟨zf, hf1, hf2, hf3⟩ := far_part k8 hk8
        have HF := Lib.hid hf3
        clear hf3
        have bu0 := B64.out.cell (i := 0) rfl
        have fu0 := B64.out.frozen 0
        have bu1 := B64.out.cell (i := 1) rfl
        have fu1 := B64.out.frozen 1
        have bu2 := B64.out.cell (i := 2) rfl
        have fu2 := B64.out.frozen 2
        have bu3 := B64.out.cell (i := 3) rfl
        have fu3 := B64.out.frozen 3
        have H65 := Lib.hid (H64.out.put hgs (Nat.le_of_lt hlt) HA.out 3 (.int .i64 zf))
        have R65 := Lib.hid (R64.out.other (p := ⟨w8.heap.size, 3, none⟩) (by show w.heap.size ≠ w8.heap.size; omega) (.int .i64 zf))
        have G65 := Lib.hid (grown_put G64.out (Nat.le_of_lt hlt) 3 (.int .i64 zf))
        have B65 := Lib.hid (B64.out.set 3 (.int .i64 zf))
        clear H64 R64 G64 B64
        have bz0 := B65.out.cell (i := 0) rfl
        have fz0 := B65.out.frozen 0
        have bz1 := B65.out.cell (i := 1) rfl
        have fz1 := B65.out.frozen 1
        have bz2 := B65.out.cell (i := 2) rfl
        have fz2 := B65.out.frozen 2
        have bz3 := B65.out.cell (i := 3) rfl
        have fz3 := B65.out.frozen 3
        have r0 := R65.out.cell (i := 0) rfl
        have e0 := R65.out.frozen 0
        have r1 := R65.out.cell (i := 1) rfl
        have e1 := R65.out.frozen 1
        have r2 := R65.out.cell (i := 2) rfl
        have e2 := R65.out.frozen 2
        have r3 := R65.out.cell (i := 3) rfl
        have e3 := R65.out.frozen 3
        have hR := ((((R65.out.set 0 (.bool false)).set 1 (.bool true)).set 2 (.int .i64 (k3 : Int))).set 3 (.int .i64 zf))
        have q0 := hR.cell (i := 0) rfl
        have q1 := hR.cell (i := 1) rfl
        have q2 := hR.cell (i := 2) rfl
        have q3 := hR.cell (i := 3) rfl
        go_wp2
        refine bodyPost_ret (v := .agg #[.bool false, .bool true, .int .i64 (k3 : Int), .int .i64 zf]) (by simp [results, Try.results31, go_sem, q0, q1, q2, q3]) rfl ?_
        exact ⟨⟨false, true, (k3 : Int), zf⟩, view_good rfl HK3.out HF.out, rfl, ((((H65.out.put hgs (Nat.le_refl _) HA.out 0 _).put hgs (Nat.le_refl _) HA.out 1 _).put hgs (Nat.le_refl _) HA.out 2 _).put hgs (Nat.le_refl _) HA.out 3 _), (grown_put (grown_put (grown_put (grown_put G65.out (Nat.le_refl _) 0 _) (Nat.le_refl _) 1 _) (Nat.le_refl _) 2 _) (Nat.le_refl _) 3 _)⟩
      · have h9a : ((k9 : Int) == 0) = false := by simp; omega
        have h9b : (k9 == 0) = false := by simp; omega
        have bz0 := B63.out.cell (i := 0) rfl
        have fz0 := B63.out.frozen 0
        have bz1 := B63.out.cell (i := 1) rfl
        have fz1 := B63.out.frozen 1
        have bz2 := B63.out.cell (i := 2) rfl
        have fz2 := B63.out.frozen 2
        have bz3 := B63.out.cell (i := 3) rfl
        have fz3 := B63.out.frozen 3
        have r0 := R63.out.cell (i := 0) rfl
        have e0 := R63.out.frozen 0
        have r1 := R63.out.cell (i := 1) rfl
        have e1 := R63.out.frozen 1
        have r2 := R63.out.cell (i := 2) rfl
        have e2 := R63.out.frozen 2
        have r3 := R63.out.cell (i := 3) rfl
        have e3 := R63.out.frozen 3
        have hR := ((((R63.out.set 0 (.bool false)).set 1 (.bool true)).set 2 (.int .i64 (k3 : Int))).set 3 (.int .i64 zl))
        have q0 := hR.cell (i := 0) rfl
        have q1 := hR.cell (i := 1) rfl
        have q2 := hR.cell (i := 2) rfl
        have q3 := hR.cell (i := 3) rfl
        go_wp2
        refine bodyPost_ret (v := .agg #[.bool false, .bool true, .int .i64 (k3 : Int), .int .i64 zl]) (by simp [results, Try.results31, go_sem, q0, q1, q2, q3]) rfl ?_
        exact ⟨⟨false, true, (k3 : Int), zl⟩, view_good rfl HK3.out HZ.out, rfl, ((((H63.out.put hgs (Nat.le_refl _) HA.out 0 _).put hgs (Nat.le_refl _) HA.out 1 _).put hgs (Nat.le_refl _) HA.out 2 _).put hgs (Nat.le_refl _) HA.out 3 _), (grown_put (grown_put (grown_put (grown_put G63.out (Nat.le_refl _) 0 _) (Nat.le_refl _) 1 _) (Nat.le_refl _) 2 _) (Nat.le_refl _) 3 _)⟩
    have hn1 : (p == 1) = false := by simp [hp1]
    have hn4 : (p == 4) = false := by simp [hp4]
    go_wp2_with fail
    refine (CB.out 9 _ H54.out (by omega) (by omega)).mono ?_
    rintro e w66 ⟨k9, hk9, rfl, hcu, hgr⟩
    have H66 := Lib.hid hcu
    have R66 := Lib.hid (blk_drawn R54.out hgr hgs)
    have G66 := Lib.hid (grownBy_trans G54.out hgr)
    have B66 := Lib.hid (blk_drawn B54.out hgr (by omega))
    clear hcu hgr H54 R54 G54 B54
    by_cases h9 : k9 = 0
    · have h9a : ((k9 : Int) == 0) = true := by simp [h9]
      have h9b : (k9 == 0) = true := by simp [h9]
      clear h9
      go_wp2_with fail
      refine (CB.out 3 _ H66.out (by omega) (by omega)).mono ?_
      rintro e w67 ⟨k8, hk8, rfl, hcu, hgr⟩
      have H67 := Lib.hid hcu
      have R67 := Lib.hid (blk_drawn R66.out hgr hgs)
      have G67 := Lib.hid (grownBy_trans G66.out hgr)
      have B67 := Lib.hid (blk_drawn B66.out hgr (by omega))
      clear hcu hgr H66 R66 G66 B66
      obtain ⟨zf, hf1, hf2, hf3⟩ := far_part k8 hk8
      have HF := Lib.hid hf3
      clear hf3
      have bu0 := B67.out.cell (i := 0) rfl
      have fu0 := B67.out.frozen 0
      have bu1 := B67.out.cell (i := 1) rfl
      have fu1 := B67.out.frozen 1
      have bu2 := B67.out.cell (i := 2) rfl
      have fu2 := B67.out.frozen 2
      have bu3 := B67.out.cell (i := 3) rfl
      have fu3 := B67.out.frozen 3
      have H68 := Lib.hid (H67.out.put hgs (Nat.le_of_lt hlt) HA.out 3 (.int .i64 zf))
      have R68 := Lib.hid (R67.out.other (p := ⟨w8.heap.size, 3, none⟩) (by show w.heap.size ≠ w8.heap.size; omega) (.int .i64 zf))
      have G68 := Lib.hid (grown_put G67.out (Nat.le_of_lt hlt) 3 (.int .i64 zf))
      have B68 := Lib.hid (B67.out.set 3 (.int .i64 zf))
      clear H67 R67 G67 B67
      have bz0 := B68.out.cell (i := 0) rfl
      have fz0 := B68.out.frozen 0
      have bz1 := B68.out.cell (i := 1) rfl
      have fz1 := B68.out.frozen 1
      have bz2 := B68.out.cell (i := 2) rfl
      have fz2 := B68.out.frozen 2
      have bz3 := B68.out.cell (i := 3) rfl
      have fz3 := B68.out.frozen 3
      have r0 := R68.out.cell (i := 0) rfl
      have e0 := R68.out.frozen 0
      have r1 := R68.out.cell (i := 1) rfl
      have e1 := R68.out.frozen 1
      have r2 := R68.out.cell (i := 2) rfl
      have e2 := R68.out.frozen 2
      have r3 := R68.out.cell (i := 3) rfl
      have e3 := R68.out.frozen 3
      have hR := ((((R68.out.set 0 (.bool false)).set 1 (.bool true)).set 2 (.int .i64 (k3 : Int))).set 3 (.int .i64 zf))
      have q0 := hR.cell (i := 0) rfl
      have q1 := hR.cell (i := 1) rfl
      have q2 := hR.cell (i := 2) rfl
      have q3 := hR.cell (i := 3) rfl
      go_wp2
      refine bodyPost_ret (v := .agg #[.bool false, .bool true, .int .i64 (k3 : Int), .int .i64 zf]) (by simp [results, Try.results31, go_sem, q0, q1, q2, q3]) rfl ?_
      exact ⟨⟨false, true, (k3 : Int), zf⟩, view_good rfl HK3.out HF.out, rfl, ((((H68.out.put hgs (Nat.le_refl _) HA.out 0 _).put hgs (Nat.le_refl _) HA.out 1 _).put hgs (Nat.le_refl _) HA.out 2 _).put hgs (Nat.le_refl _) HA.out 3 _), (grown_put (grown_put (grown_put (grown_put G68.out (Nat.le_refl _) 0 _) (Nat.le_refl _) 1 _) (Nat.le_refl _) 2 _) (Nat.le_refl _) 3 _)⟩
    · have h9a : ((k9 : Int) == 0) = false := by simp; omega
      have h9b : (k9 == 0) = false := by simp; omega
      have bz0 := B66.out.cell (i := 0) rfl
      have fz0 := B66.out.frozen 0
      have bz1 := B66.out.cell (i := 1) rfl
      have fz1 := B66.out.frozen 1
      have bz2 := B66.out.cell (i := 2) rfl
      have fz2 := B66.out.frozen 2
      have bz3 := B66.out.cell (i := 3) rfl
      have fz3 := B66.out.frozen 3
      have r0 := R66.out.cell (i := 0) rfl
      have e0 := R66.out.frozen 0
      have r1 := R66.out.cell (i := 1) rfl
      have e1 := R66.out.frozen 1
      have r2 := R66.out.cell (i := 2) rfl
      have e2 := R66.out.frozen 2
      have r3 := R66.out.cell (i := 3) rfl
      have e3 := R66.out.frozen 3
      have hR := ((((R66.out.set 0 (.bool false)).set 1 (.bool true)).set 2 (.int .i64 (k3 : Int))).set 3 (.int .i64 (k4 : Int)))
      have q0 := hR.cell (i := 0) rfl
      have q1 := hR.cell (i := 1) rfl
      have q2 := hR.cell (i := 2) rfl
      have q3 := hR.cell (i := 3) rfl
      go_wp2
      refine bodyPost_ret (v := .agg #[.bool false, .bool true, .int .i64 (k3 : Int), .int .i64 (k4 : Int)]) (by simp [results, Try.results31, go_sem, q0, q1, q2, q3]) rfl ?_
      exact ⟨⟨false, true, (k3 : Int), (k4 : Int)⟩, view_good rfl HK3.out HK4.out, rfl, ((((H66.out.put hgs (Nat.le_refl _) HA.out 0 _).put hgs (Nat.le_refl _) HA.out 1 _).put hgs (Nat.le_refl _) HA.out 2 _).put hgs (Nat.le_refl _) HA.out 3 _), (grown_put (grown_put (grown_put (grown_put G66.out (Nat.le_refl _) 0 _) (Nat.le_refl _) 1 _) (Nat.le_refl _) 2 _) (Nat.le_refl _) 3 _)⟩
  cases bi <;> cases bo <;> simp_all
end Go.Proofs.Ytgmgpadijajkkaa
