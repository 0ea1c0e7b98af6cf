/- The contract of the model's function that makes a set. -/
import Derived.Test.YtlhcobkncceodaaGreatDoorCGL
namespace Go.Proofs.YtlhcobkncceodaaGreatDoor
open Go.RowKit
set_option linter.unusedVariables false

theorem new_zerosS (n : Nat) : (madeCells (Value.int IntKind.u8 0).cells (n * 1)).toList = vb (fillV n 0) := by
  rw [show (Value.int IntKind.u8 0).cells = #[.int .u8 0] from rfl, toList_madeCells_one, Nat.mul_one]
  simp [vb, fillV]
theorem below_noneS {w w' : World} (h : w.grownBy w' none) : Below w.heap.size w w' := ⟨h.os, h.tape, h.output, h.size, fun k hk => h.block k hk (by simp)⟩
set_option maxRecDepth 10000 in
set_option maxHeartbeats 8000000 in
theorem specSetNew (N : Int) (all : Bool) (w : World) (hN : (Lit.int .i64 N).wf = true) :
    Calls Tryz.prog 14 #[.int .i64 N, .bool all] w (MadeSB w (newN N) (newX N all) (newB N)) := by
  obtain ⟨i0, hi, hz0, hz1, hz2⟩ := info_parts Tryz.infoByte
  obtain ⟨hv1, hv2⟩ := bounds_i64 hN
  have HB0 := Lib.hid (SBx.new w 0 none 0 0)
  unfold newN newX
  by_cases hb : 0 ≤ N ∧ N ≤ 150
  · have he : newB N = true := by unfold newB; simp; omega
    rw [he, if_pos rfl, if_pos rfl]
    obtain ⟨N, rfl⟩ : ∃ k : Nat, N = (k : Int) := ⟨N.toNat, by omega⟩
    have hN150 : N ≤ 150 := by omega
    have d1 : decide ((N : Int) < 0) = false := by simp
    have d2 : decide ((150 : Int) < (N : Int)) = false := by simp; omega
    have hb1 : ((N : Int) + 7).tdiv 8 = ((bytesN N : Nat) : Int) := by rw [Int.tdiv_eq_ediv_of_nonneg (by omega)]; unfold bytesN; omega
    have HFI : Hid (∀ k, k ≤ N → setB (N : Int) (fillV (bytesN N) k) = true) := Lib.hid (fun k hk => setB_fill hN150 hk)
    rw [Int.toNat_natCast]
    have HBN : Hid (∀ v, v < N → v / 8 < bytesN N) := Lib.hid (fun v hv => lt_bytes hv)
    have hbn : bytesN N ≤ 20 := by unfold bytesN; omega
    generalize bytesN N = q at hb1 HBN hbn HFI ⊢
    clear he hb
    cases all with
    | false =>
      rw [if_neg (by simp)]
      go_enter Tryz.func14, Tryz.ntmps14
      go_wp2_with (first
        | (refine wpList_make_full _ rfl (.tmp 18) (.tmp 18) 22 rfl (w.heap.size + 1) 5 i0 (.int .u8 0) 1 Tryz.underlying22 hi hz0 hz1 .i64 .i64 _ _ q rfl rfl rfl rfl (by rw [hz2]; omega) (by unfold maxLen; omega) (by simp) ?_; intro w1 hown hg; have BL1 := Lib.hid (below_noneS hg); have HBW := Lib.hid (s_chain (below_a1 _ _) BL1.out); have X0 := Lib.hid (HB0.out.below BL1.out); rw [new_zerosS] at hown; simp only [World.size_alloc] at hown; have HO := Lib.hid (own_below hown (below_a1 w1 (.cells #[.int .i64 (N : Int), .slice (some ⟨w.heap.size + 1, 0, none⟩) q q] 30))); have Y0 := Lib.hid (X0.out.below (below_a1 w1 (.cells #[.int .i64 (N : Int), .slice (some ⟨w.heap.size + 1, 0, none⟩) q q] 30))); have YN := Lib.hid (SBx.new w1 (N : Int) (some ⟨w.heap.size + 1, 0, none⟩) q q); have HBX := Lib.hid (s_chain HBW.out (below_a1 w1 (.cells #[.int .i64 (N : Int), .slice (some ⟨w.heap.size + 1, 0, none⟩) q q] 30))); have hs1 : w.heap.size + 1 < w1.heap.size := (hown.lt _ rfl).2; obtain ⟨l0, c00, c01, f00, f01⟩ := Y0.out.parts; obtain ⟨l1, c10, c11, f10, f11⟩ := YN.out.parts; clear hown hg))
      refine wp_loop_rounds 1 ?_
      rw [rounds_succ]
      go_wp2
      all_goals
        refine bodyPost_ret (v := .tuple #[.agg #[.int .i64 (N : Int), .slice (some ⟨w.heap.size + 1, 0, none⟩) q q], .bool true]) (by simp [results, Tryz.results14, go_sem, c00, c01]) rfl ?_
        have hfl := fill_len q 0
        refine ⟨some ⟨w.heap.size + 1, 0, none⟩, q, by rw [hfl], ?_, below_set2 HBX.out (Nat.le_refl _) _ _⟩
        rw [hfl]
        exact own_monoG (own_set2 HO.out (by omega) _ _) (by omega)
    | true =>
      rw [if_pos rfl]
      go_enter Tryz.func14, Tryz.ntmps14
      go_wp2_with (first
        | (refine wpList_make_full _ rfl (.tmp 18) (.tmp 18) 22 rfl (w.heap.size + 1) 5 i0 (.int .u8 0) 1 Tryz.underlying22 hi hz0 hz1 .i64 .i64 _ _ q rfl rfl rfl rfl (by rw [hz2]; omega) (by unfold maxLen; omega) (by simp) ?_; intro w1 hown hg; have BL1 := Lib.hid (below_noneS hg); have HBW := Lib.hid (s_chain (below_a1 _ _) BL1.out); have X0 := Lib.hid (HB0.out.below BL1.out); rw [new_zerosS] at hown; simp only [World.size_alloc] at hown; have HO := Lib.hid (own_below hown (below_a1 w1 (.cells #[.int .i64 (N : Int), .slice (some ⟨w.heap.size + 1, 0, none⟩) q q] 30))); have Y0 := Lib.hid (X0.out.below (below_a1 w1 (.cells #[.int .i64 (N : Int), .slice (some ⟨w.heap.size + 1, 0, none⟩) q q] 30))); have YN := Lib.hid (SBx.new w1 (N : Int) (some ⟨w.heap.size + 1, 0, none⟩) q q); have HBX := Lib.hid (s_chain HBW.out (below_a1 w1 (.cells #[.int .i64 (N : Int), .slice (some ⟨w.heap.size + 1, 0, none⟩) q q] 30))); have hs1 : w.heap.size + 1 < w1.heap.size := (hown.lt _ rfl).2; obtain ⟨l0, c00, c01, f00, f01⟩ := Y0.out.parts; obtain ⟨l1, c10, c11, f10, f11⟩ := YN.out.parts; clear hown hg))
      have hq9 : Hid (Below w.heap.size w (w1.alloc (.cells #[.int .i64 (N : Int), .slice (some ⟨w.heap.size + 1, 0, none⟩) q q] 30))) := HBX
      clear l0 c00 c01 f00 f01 l1 c10 c11 f10 f11
      go_loopw [7] (fun i wr => ∃ (k : Nat) (A1 : Option Addr) (c1 : Nat), k ≤ N ∧ i = .int .i64 (k : Int) ∧ Hid (wr.ownsRow (w.heap.size + 1) 5 1 (.slice A1 q c1) q (vb (fillV q k))) ∧ Hid (SBx wr w.heap.size 0 none 0 0) ∧ Hid (SBx wr w1.heap.size (N : Int) A1 q c1) ∧ Hid (Below w.heap.size w wr)) (fun i _ => N - (intOf i).toNat)
      case atStart => exact ⟨0, some ⟨w.heap.size + 1, 0, none⟩, q, Nat.zero_le _, rfl, HO, Y0, YN, HBX⟩
      case round =>
        clear HO Y0 YN HBX hq9
        obtain ⟨k, A1, c1, hk, rfl, hown, hb0, hb1, hbel⟩ := hrel
        obtain ⟨l0, c00, c01, f00, f01⟩ := hb0.out.parts
        obtain ⟨l1, c10, c11, f10, f11⟩ := hb1.out.parts
        by_cases hlt : k < N
        · have CW := Lib.hid (specWith (N : Int) (k : Int) A1 q c1 (fillV q k) wr (Rd.of_own hown.out (fill_small q k)) (by omega) (WalkArith.wf_i64 (by omega)))
          have E1 : withN (N : Int) (fillV q k) = (N : Int) := by unfold withN; rw [HFI.out k (by omega), if_pos rfl]
          have E2 : withX (N : Int) (fillV q k) (k : Int) = fillV q (k + 1) := by unfold withX; rw [HFI.out k (by omega), if_pos rfl, if_pos ⟨by omega, by omega⟩, Int.toNat_natCast, fill_step]
          rw [E1, E2] at CW
          unfold MadeS at CW
          rw [fill_len] at CW
          clear E1 E2
          go_wp2_with fail
          refine CW.out.mono ?_
          rintro e w2 ⟨A2, c2, rfl, ho2, hb2⟩
          have hs2 := hb2.size
          have Z0 := Lib.hid (hb0.out.below hb2)
          have Z1 := Lib.hid (hb1.out.below hb2)
          have ZB := Lib.hid (s_chain hbel.out hb2)
          have HO2 := Lib.hid ho2
          clear ho2 hb2 l0 c00 c01 f00 f01 l1 c10 c11 f10 f11
          have hl9 := hb1.out.parts.1
          obtain ⟨l1, c10, c11, f10, f11⟩ := Z1.out.parts
          go_wp2
          go_roundw
          case rel => exact ⟨k + 1, A2, c2, by omega, by go_num, Lib.hid (own_monoG (own_set2 HO2.out (by omega) _ _) (by omega)), Lib.hid (Blk.other (Blk.other Z0.out (p := ⟨w1.heap.size, 0, none⟩) (by show w.heap.size ≠ w1.heap.size; omega) _) (p := ⟨w1.heap.size, 1, none⟩) (by show w.heap.size ≠ w1.heap.size; omega) _), Lib.hid (Z1.out.set _ _ _ _), Lib.hid (below_set2 ZB.out (by omega) _ _)⟩
          case measure => simp [intOf]; omega
        · obtain rfl : k = N := by omega
          have hfl := Lib.hid (fill_len q k)
          go_wp2
          refine bodyPost_ret (v := .tuple #[.agg #[.int .i64 (k : Int), .slice A1 q c1], .bool true]) (by simp [results, Tryz.results14, go_sem, c00, c01]) rfl ?_
          refine ⟨A1, c1, by rw [hfl.out], ?_, below_set2 hbel.out (Nat.le_refl _) _ _⟩
          rw [hfl.out]
          exact own_monoG (own_set2 hown.out (by omega) _ _) (by omega)
  · have he : newB N = false := by unfold newB; simp; omega
    rw [he, if_neg (by simp), if_neg (by simp)]
    obtain ⟨l0, c00, c01, f00, f01⟩ := HB0.out.parts
    have hg : N < 0 ∨ (0 ≤ N ∧ 150 < N) := by omega
    clear hb he
    rcases hg with hg | ⟨hg1, hg2⟩
    · have d1 : decide (N < 0) = true := by simp; omega
      go_enter Tryz.func14, Tryz.ntmps14
      go_wp2
      refine bodyPost_ret (v := .tuple #[.agg #[.int .i64 0, .slice none 0 0], .bool false]) (by simp [results, Tryz.results14, go_sem]) rfl ?_
      exact ⟨none, 0, rfl, own_nil _ _, below_a1 _ _⟩
    · have d1 : decide (N < 0) = false := by simp; omega
      have d2 : decide (150 < N) = true := by simp; omega
      go_enter Tryz.func14, Tryz.ntmps14
      go_wp2
      refine bodyPost_ret (v := .tuple #[.agg #[.int .i64 0, .slice none 0 0], .bool false]) (by simp [results, Tryz.results14, go_sem]) rfl ?_
      exact ⟨none, 0, rfl, own_nil _ _, below_a1 _ _⟩
end Go.Proofs.YtlhcobkncceodaaGreatDoor
