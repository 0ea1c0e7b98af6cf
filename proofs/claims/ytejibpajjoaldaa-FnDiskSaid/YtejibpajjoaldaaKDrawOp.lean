/- The contract of the draw of an operation on a disk: its name is one of six, it appends at most eight bytes of new memory. -/
import Derived.Test.YtejibpajjoaldaaKDrawNm
import Derived.Test.YtejibpajjoaldaaKDrawKeep
import Derived.Test.YtejibpajjoaldaaKDrawPut
import Derived.Test.YtejibpajjoaldaaC2
namespace Go.Proofs.Ytejibpajjoaldaa
open Go.RowKit

def OpDraw (w : World) (g : Nat) (A : Option Addr) (n c : Nat) (xs : List Nat) (e : Ending) (w' : World) : Prop :=
  ∃ o : OpE, e = .returned o.v ∧ (o.nm ∈ drawnNames ∧ (o.to = ByteArray.empty ∨ o.to ∈ drawnNames)) ∧ o.d.n ≤ 8 ∧ w'.ownsRow w.heap.size 5 1 o.d.v o.d.n (vb o.d.xs) ∧ (∀ x ∈ o.d.xs, x < 256) ∧ Cur w' g A n c xs ∧ w.grownBy w' (some g)

set_option maxRecDepth 10000 in
set_option maxHeartbeats 4000000 in
theorem drawOp (g : Nat) (A : Option Addr) (n c : Nat) (xs : List Nat) (w : World) (hcur : Cur w g A n c xs) (hg : g < w.heap.size) (hA : 0 < n → ∀ b off sp, A = some ⟨b, off, sp⟩ → b < w.heap.size) :
    Calls Try.prog 41 #[.pointer (some ⟨g, 0, none⟩)] w (OpDraw w g A n c xs) := by
  obtain ⟨i0, hi, hz0, hz1, hz2⟩ := info_parts Try.infoByte
  have CB := Lib.hid (fun m W (hc : Cur W g A n c xs) (h0 : 0 < m) (hm : m ≤ 256) => drawBelow g A n c m xs W hc h0 hm)
  have CN := Lib.hid (fun W (hc : Cur W g A n c xs) (h : w.heap.size ≤ W.heap.size) => drawName g A n c xs W hc (by omega))
  have CY : Hid (∀ W, Cur W g A n c xs → w.heap.size ≤ W.heap.size → Calls Try.prog 74 #[.pointer (some ⟨g, 0, none⟩), .int .i64 7] W (BytesRes W g A n c xs 7)) := Lib.hid (fun W hc h => drawBytes g A n c 7 xs W hc (by omega) (by omega) (fun h0 b off sp e => by have := hA h0 b off sp e; omega))
  have hb0 := below_a1 w (.cells #[.int .i64 0, .string ByteArray.empty, .string ByteArray.empty, .slice none 0 0] 30)
  have H0 := Lib.hid (hcur.grow hb0)
  have R0 := Lib.hid (Blk.new w #[.int .i64 0, .string ByteArray.empty, .string ByteArray.empty, .slice none 0 0] 30)
  have G0 := Lib.hid (grownBy_of_below hb0 (some g))
  have hgs := hg
  have HA := Lib.hid hA
  clear hcur hb0 hA
  go_enter Try.func41, Try.ntmps41
  go_wp2_with fail
  refine (CB.out 4 _ H0.out (by omega) (by omega)).mono ?_
  rintro e w1 ⟨k, hk, rfl, hcu1, hg1⟩
  have H1 := Lib.hid hcu1
  have R1 := Lib.hid (blk_drawn R0.out hg1 hgs)
  have G1 := Lib.hid (grownBy_trans G0.out hg1)
  have hs1 := G1.out.size
  clear hcu1 hg1 R0 G0 H0
  go_wp2_with fail
  refine (CN.out _ H1.out hs1).mono ?_
  rintro e w2 ⟨nm, hnm, rfl, hcu2, hg2⟩
  have hs2 := hg2.size
  have R2 := Lib.hid ((blk_drawn R1.out hg2 hgs).alloc (.cells #[.int .i64 (1 + (k : Int)), .string nm, .string ByteArray.empty, .slice none 0 0] 30))
  have B2 := Lib.hid (Blk.new w2 #[.int .i64 (1 + (k : Int)), .string nm, .string ByteArray.empty, .slice none 0 0] 30)
  have H2 := Lib.hid (hcu2.grow (below_a1 w2 (.cells #[.int .i64 (1 + (k : Int)), .string nm, .string ByteArray.empty, .slice none 0 0] 30)))
  have G2 := Lib.hid (grownBy_trans (grownBy_trans G1.out hg2) (grownBy_of_below (below_a1 w2 (.cells #[.int .i64 (1 + (k : Int)), .string nm, .string ByteArray.empty, .slice none 0 0] 30)) (some g)))
  have hp : w.heap.size < w2.heap.size := by have := R1.out.lt; omega
  have HNM := Lib.hid hnm
  clear hcu2 hg2 hs1 hs2 R1 G1 H1 hnm
  go_wp2_with fail
  refine (CB.out 3 _ H2.out (by omega) (by omega)).mono ?_
  rintro e w3 ⟨q, hq, rfl, hcu3, hg3⟩
  have H3 := Lib.hid hcu3
  have R3 := Lib.hid (blk_drawn R2.out hg3 hgs)
  have B3 := Lib.hid (blk_drawn B2.out hg3 (by omega))
  have G3 := Lib.hid (grownBy_trans G2.out hg3)
  have hs3 := B3.out.lt
  clear hcu3 hg3 R2 B2 H2 G2
  by_cases hq0 : q = 0
  case' pos =>
    subst hq0
    have hz : (((0 : Nat) : Int) == 0) = true := rfl
    have f3 := B3.out.frozen 0
    have c3 := B3.out.cell (i := 0) rfl
    have BW := Lib.hid (B3.out.set 0 (.int .i64 2))
    have RW := Lib.hid (R3.out.other (p := ⟨w2.heap.size, 0, none⟩) (by show w.heap.size ≠ w2.heap.size; omega) (.int .i64 2))
    have HW := Lib.hid (H3.out.put hgs (Nat.le_of_lt hp) HA.out 0 (.int .i64 2))
    have GW := Lib.hid (grown_put G3.out (Nat.le_of_lt hp) 0 (.int .i64 2))
    have bk := BW.out.cell (i := 0) rfl
    go_wp2_with fail
  case' neg =>
    have hz : ((q : Int) == 0) = false := by simp; omega
    generalize hzk : 1 + (k : Int) = z at *
    have hzr : 1 ≤ z ∧ z ≤ 4 := by omega
    by_cases h2 : z = 2
    case' pos =>
      subst h2
      have BW := Lib.hid B3.out
      have RW := Lib.hid R3.out
      have HW := Lib.hid H3.out
      have GW := Lib.hid G3.out
      have bk := BW.out.cell (i := 0) rfl
      clear hzk
      go_wp2_with fail
    case neg =>
      by_cases h3 : z = 3
      · subst h3
        have bk := B3.out.cell (i := 0) rfl
        clear hzk
        go_wp2_with fail
        refine (CN.out _ H3.out (by omega)).mono ?_
        rintro e w5 ⟨tn, htn, rfl, hcu5, hg5⟩
        have R5 := blk_drawn R3.out hg5 hgs
        have B5 := blk_drawn B3.out hg5 (by omega)
        have H5 := Lib.hid hcu5
        have G5 := Lib.hid (grownBy_trans G3.out hg5)
        have fp := B5.frozen 2
        have bp := B5.cell (i := 2) rfl
        have B6 := B5.set 2 (.string tn)
        have R6 := R5.other (p := ⟨w2.heap.size, 2, none⟩) (by show w.heap.size ≠ w2.heap.size; omega) (.string tn)
        clear hcu5 hg5 B5 R5
        have f0 := R6.frozen 0
        have f1 := R6.frozen 1
        have f2 := R6.frozen 2
        have f3 := R6.frozen 3
        have r0 := R6.cell (i := 0) rfl
        have r1 := R6.cell (i := 1) rfl
        have r2 := R6.cell (i := 2) rfl
        have r3 := R6.cell (i := 3) rfl
        have b0 := B6.cell (i := 0) rfl
        have b1 := B6.cell (i := 1) rfl
        have b2 := B6.cell (i := 2) rfl
        have b3 := B6.cell (i := 3) rfl
        have hR := (((R6.set 0 (.int .i64 3)).set 1 (.string nm)).set 2 (.string tn)).set 3 (.slice none 0 0)
        have q0 := hR.cell (i := 0) rfl
        have q1 := hR.cell (i := 1) rfl
        have q2 := hR.cell (i := 2) rfl
        have q3 := hR.cell (i := 3) rfl
        clear B6 R6 hR
        go_wp2
        refine bodyPost_ret (v := .agg #[.int .i64 3, .string nm, .string tn, .slice none 0 0]) (by simp [results, Try.results41, go_sem, q0, q1, q2, q3]) rfl ?_
        have HX := H5.out.put hgs (Nat.le_of_lt hp) HA.out 2 (.string tn)
        have GX := grown_put G5.out (Nat.le_of_lt hp) 2 (.string tn)
        exact ⟨⟨3, nm, tn, ⟨none, 0, 0, []⟩⟩, rfl, ⟨HNM.out, .inr htn⟩, Nat.zero_le _, World.ownsRow_nil _ _ _ _, by simp, (((HX.put hgs (Nat.le_refl _) HA.out 0 _).put hgs (Nat.le_refl _) HA.out 1 _).put hgs (Nat.le_refl _) HA.out 2 _).put hgs (Nat.le_refl _) HA.out 3 _, grown_put (grown_put (grown_put (grown_put GX (Nat.le_refl _) 0 _) (Nat.le_refl _) 1 _) (Nat.le_refl _) 2 _) (Nat.le_refl _) 3 _⟩
      · have bk := B3.out.cell (i := 0) rfl
        have e2 : (z == 2) = false := by simp; omega
        have e3 : (z == 3) = false := by simp; omega
        have f0 := R3.out.frozen 0
        have f1 := R3.out.frozen 1
        have f2 := R3.out.frozen 2
        have f3 := R3.out.frozen 3
        have r0 := R3.out.cell (i := 0) rfl
        have r1 := R3.out.cell (i := 1) rfl
        have r2 := R3.out.cell (i := 2) rfl
        have r3 := R3.out.cell (i := 3) rfl
        have b0 := B3.out.cell (i := 0) rfl
        have b1 := B3.out.cell (i := 1) rfl
        have b2 := B3.out.cell (i := 2) rfl
        have b3 := B3.out.cell (i := 3) rfl
        have hR := (((R3.out.set 0 (.int .i64 z)).set 1 (.string nm)).set 2 (.string ByteArray.empty)).set 3 (.slice none 0 0)
        have q0 := hR.cell (i := 0) rfl
        have q1 := hR.cell (i := 1) rfl
        have q2 := hR.cell (i := 2) rfl
        have q3 := hR.cell (i := 3) rfl
        clear hR hzk
        go_wp2
        refine bodyPost_ret (v := .agg #[.int .i64 z, .string nm, .string ByteArray.empty, .slice none 0 0]) (by simp [results, Try.results41, go_sem, q0, q1, q2, q3]) rfl ?_
        exact ⟨⟨z, nm, ByteArray.empty, ⟨none, 0, 0, []⟩⟩, rfl, ⟨HNM.out, .inl rfl⟩, Nat.zero_le _, World.ownsRow_nil _ _ _ _, by simp, (((H3.out.put hgs (Nat.le_refl _) HA.out 0 _).put hgs (Nat.le_refl _) HA.out 1 _).put hgs (Nat.le_refl _) HA.out 2 _).put hgs (Nat.le_refl _) HA.out 3 _, grown_put (grown_put (grown_put (grown_put G3.out (Nat.le_refl _) 0 _) (Nat.le_refl _) 1 _) (Nat.le_refl _) 2 _) (Nat.le_refl _) 3 _⟩
  all_goals
    have hsW := GW.out.size
    have hlW := BW.out.lt
    refine (CY.out _ HW.out hsW).mono ?_
    rintro e w5 ⟨ys, Bq, dq, hyl, hys, rfl, hown, hcu5, hg5⟩
    have H5 := Lib.hid hcu5
    have R5 := Lib.hid (blk_drawn RW.out hg5 hgs)
    have B5 := Lib.hid (blk_drawn BW.out hg5 (by omega))
    have G5 := Lib.hid (grownBy_trans GW.out hg5)
    have hs5 := hg5.size
    have HYS := Lib.hid hys
    have HOWN := Lib.hid (own_base (base' := w2.heap.size + 1) hown hlW)
    clear hcu5 hg5 HW RW BW GW bk hys
    go_wp2_with (at_builtin; refine wpList_append_any _ rfl (.tmp 18) (.tmp 19) _ rfl (w2.heap.size + 1) 5 i0 _ 1 1 Try.underlying22 hi hz0 hz1 hz2 rfl (by omega) _ ys.length (vb ys) rfl (HOWN.out.alloc _) (w5.heap.size + 1) (some ⟨w5.heap.size, 0, none⟩) 1 1 [.int .u8 _] rfl (one_reads _ _) (one_cell _) (by simp only [maxLen]; omega) (by omega) (by simp; omega) ?_; intro v3 w6 hown6 hg6 hat6; obtain ⟨P3, c3, rfl⟩ := own_form hown6; have HROW := Lib.hid (fun j (hj : (Value.slice Bq ys.length dq).ownBlock = some j) => (HOWN.out.lt j hj).1); have B6 := (B5.out.alloc (.cells #[.int .u8 120] 5)).grown hg6 (fun e => by have := HROW.out _ e; omega); have R6 := (R5.out.alloc (.cells #[.int .u8 120] 5)).grown hg6 (fun e => by have := HROW.out _ e; omega); have fp := B6.frozen 3; have bp := B6.cell (i := 3) rfl; have B7 := B6.set 3 (.slice P3 (ys.length + 1) c3); have R7 := R6.other (p := ⟨w2.heap.size, 3, none⟩) (by show w.heap.size ≠ w2.heap.size; omega) (.slice P3 (ys.length + 1) c3); have f0 := R7.frozen 0; have f1 := R7.frozen 1; have f2 := R7.frozen 2; have f3 := R7.frozen 3; have r0 := R7.cell (i := 0) rfl; have r1 := R7.cell (i := 1) rfl; have r2 := R7.cell (i := 2) rfl; have r3 := R7.cell (i := 3) rfl; have b0 := B7.cell (i := 0) rfl; have b1 := B7.cell (i := 1) rfl; have b2 := B7.cell (i := 2) rfl; have b3 := B7.cell (i := 3) rfl; have hR := (((R7.set 0 (.int .i64 2)).set 1 (.string nm)).set 2 (.string ByteArray.empty)).set 3 (.slice P3 (ys.length + 1) c3); have q0 := hR.cell (i := 0) rfl; have q1 := hR.cell (i := 1) rfl; have q2 := hR.cell (i := 2) rfl; have q3 := hR.cell (i := 3) rfl; clear B6 R6 B7 R7 hR)
    refine bodyPost_ret (v := .agg #[.int .i64 2, .string nm, .string ByteArray.empty, .slice P3 (ys.length + 1) c3]) (by simp [results, Try.results41, go_sem, q0, q1, q2, q3]) rfl ?_
    have HC6 := ((H5.out.grow (below_a1 w5 (.cells #[.int .u8 120] 5))).far (B := w.heap.size) hg6 (fun j hj => by have := HROW.out j hj; omega) hgs HA.out).put hgs (Nat.le_of_lt hp) HA.out 3 (.slice P3 (ys.length + 1) c3)
    have GX6 := grown_put (grownBy_far (grownBy_trans G5.out (grownBy_of_below (below_a1 w5 (.cells #[.int .u8 120] 5)) (some g))) hg6 (fun j hj => by have := HROW.out j hj; omega)) (Nat.le_of_lt hp) 3 (.slice P3 (ys.length + 1) c3)
    have HO := own_put (own_put (own_put (own_put (own_put hown6 (b := w2.heap.size) (by omega) 3 (.slice P3 (ys.length + 1) c3)) (b := w.heap.size) (by omega) 0 (.int .i64 2)) (b := w.heap.size) (by omega) 1 (.string nm)) (b := w.heap.size) (by omega) 2 (.string ByteArray.empty)) (b := w.heap.size) (by omega) 3 (.slice P3 (ys.length + 1) c3)
    exact ⟨⟨2, nm, ByteArray.empty, ⟨P3, ys.length + 1, c3, ys ++ [120]⟩⟩, rfl, ⟨HNM.out, .inl rfl⟩, (by show ys.length + 1 ≤ 8; omega), own_base (by rw [show vb (ys ++ [120]) = vb ys ++ [.int .u8 120] by simp [vb]]; exact HO) (by omega), (fun x hx => by
      rcases List.mem_append.1 hx with hx | hx
      · exact HYS.out x hx
      · simp at hx; omega), (((HC6.put hgs (Nat.le_refl _) HA.out 0 _).put hgs (Nat.le_refl _) HA.out 1 _).put hgs (Nat.le_refl _) HA.out 2 _).put hgs (Nat.le_refl _) HA.out 3 _, grown_put (grown_put (grown_put (grown_put GX6 (Nat.le_refl _) 0 _) (Nat.le_refl _) 1 _) (Nat.le_refl _) 2 _) (Nat.le_refl _) 3 _⟩
end Go.Proofs.Ytejibpajjoaldaa
