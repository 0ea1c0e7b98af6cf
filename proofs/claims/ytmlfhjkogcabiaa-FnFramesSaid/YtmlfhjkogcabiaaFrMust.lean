/- The contract of the program's function that reads a frame or gives up. Condition: at most 2^20 bytes. -/
import Derived.Test.YtmlfhjkogcabiaaFrHead
import Derived.Test.YtmlfhjkogcabiaaClone
import Derived.Deep.RegionHeld3
namespace Go.Proofs.Ytmlfhjkogcabiaa
open Go.RowKit

theorem byteElem : Try.prog.underlying 22 = some (.slice (Try.prog.elem 22)) := by simp [Program.elem, Try.underlying22]
theorem byteElem' : Try.prog.elem 22 = 5 := by simp [Program.elem, Try.underlying22]
/-- 'b[k:]' and 'b[l:l+m]' of bytes: the value, and what it reads. -/
theorem slice_from {A : Option Addr} {n c k : Nat} {xs : List Nat} {w : World} (hr : Rd w A n xs) (hk : k ≤ n) (hc : n ≤ c) :
    ∃ A', (∀ W, (Instr.slice 22 (.slice A n c) (some (.int .i64 (k : Int))) none none).run Try.prog W = .ok (.slice A' (n - k) (c - k)) W) ∧ Rd w A' (n - k) (xs.drop k) := by
  refine ⟨if c = k then A else A.map (·.add (k * 1)), fun W => ?_, ?_⟩
  · rw [run_slice_l W _ _ _ _ byteElem .i64 (k : Int) (by omega) (by omega), byteElem', byteSize, Int.toNat_natCast]
    rfl
  · by_cases hz : n - k = 0
    · rw [hz, List.drop_eq_nil_of_le (by rw [hr.len]; omega)]
      exact ⟨rfl, by simp, fun h => absurd h (by omega)⟩
    · obtain ⟨b, off, rfl, _, _⟩ := hr.lies (by omega)
      rw [if_neg (by omega), Nat.mul_one]
      have h := hr.cut (p := k) (m := n - k) (by omega)
      rw [List.take_of_length_le (by rw [List.length_drop, hr.len]; exact Nat.le_refl _)] at h
      have e : (some (⟨b, off, none⟩ : Addr)).map (·.add k) = some ⟨b, off + k, none⟩ := by simp [add_plain]
      rw [e]
      exact h
theorem slice_mid {A : Option Addr} {n c l m : Nat} {xs : List Nat} {w : World} (hi : Int) (hr : Rd w A n xs) (he : hi = (l : Int) + m) (hk : l + m ≤ n) (hc : n ≤ c) :
    ∃ A', (∀ W, (Instr.slice 22 (.slice A n c) (some (.int .i64 (l : Int))) (some (.int .i64 hi)) none).run Try.prog W = .ok (.slice A' m (c - l)) W) ∧ Rd w A' m ((xs.drop l).take m) := by
  refine ⟨if c = l then A else A.map (·.add (l * 1)), fun W => ?_, ?_⟩
  · rw [run_slice_lh W _ _ _ _ byteElem .i64 .i64 (l : Int) hi (by omega) (by omega) (by omega), byteElem', byteSize, Int.toNat_natCast]
    have e : hi.toNat = l + m := by omega
    rw [e]
    show Result.ok (sliced A l (l + m) c 1) W = _
    unfold sliced
    rw [Nat.add_sub_cancel_left]
  · by_cases hz : m = 0
    · subst hz
      rw [List.take_zero]
      exact ⟨rfl, by simp, fun h => absurd h (by omega)⟩
    · obtain ⟨b, off, rfl, _, _⟩ := hr.lies (by omega)
      rw [if_neg (by omega), Nat.mul_one]
      have h := hr.cut (p := l) (m := m) (by omega)
      have e : (some (⟨b, off, none⟩ : Addr)).map (·.add l) = some ⟨b, off + l, none⟩ := by simp [add_plain]
      rw [e]
      exact h

/-- What reading a frame leaves, or how it gives up. -/
def MustP (w : World) (r : (Int × List Nat) × Int × Int) (e : Ending) (w' : World) : Prop :=
  (r.2.2 = 0 ∧ ∃ A c, e = .returned (.tuple #[.agg #[.int .i64 r.1.1, .slice A r.1.2.length c], .int .i64 r.2.1]) ∧ w'.ownsRow w.heap.size 5 1 (.slice A r.1.2.length c) r.1.2.length (vb r.1.2) ∧ Below w.heap.size w w') ∨
  (r.2.2 ≠ 0 ∧ e = .panicked [gaveE r.2.2] ∧ Below w.heap.size w w')
theorem frR_1 {xs : List Nat} {a : Int} (h : a < 0 ∨ (xs.length : Int) < a) : frR xs a = ((0, []), 0, 1) := by unfold frR; rw [if_pos h]
section
variable {xs : List Nat} {k : Nat} (hk : k ≤ xs.length)
include hk
theorem frR_2 (h : (xs.drop k).length < 14) : frR xs k = ((0, []), 0, 2) := by
  unfold frR
  rw [if_neg (by omega), Int.toNat_natCast, if_pos h]
theorem frR_3 (h : ¬ (xs.drop k).length < 14) (h3 : headB (xs.drop k) = false) : frR xs k = ((0, []), 0, 3) := by
  unfold frR
  rw [if_neg (by omega), Int.toNat_natCast, if_neg h, if_pos h3]
theorem frR_4 (h : ¬ (xs.drop k).length < 14) (h3 : headB (xs.drop k) = true) (h4 : (xs.drop k).length < 20 + sizeR (xs.drop k)) : frR xs k = ((0, []), 0, 4) := by
  unfold frR
  rw [if_neg (by omega), Int.toNat_natCast, if_neg h, if_neg (by rw [h3]; simp), if_pos h4]
theorem frR_5 (h : ¬ (xs.drop k).length < 14) (h3 : headB (xs.drop k) = true) (h4 : ¬ (xs.drop k).length < 20 + sizeR (xs.drop k)) (h5 : fixNat (xs.drop k) 14 6 ≠ crcV (dataR (xs.drop k))) : frR xs k = ((0, []), 0, 5) := by
  unfold frR
  rw [if_neg (by omega), Int.toNat_natCast, if_neg h, if_neg (by rw [h3]; simp), if_neg h4, if_pos h5]
theorem frR_0 (h : ¬ (xs.drop k).length < 14) (h3 : headB (xs.drop k) = true) (h4 : ¬ (xs.drop k).length < 20 + sizeR (xs.drop k)) (h5 : fixNat (xs.drop k) 14 6 = crcV (dataR (xs.drop k))) : frR xs k = (((((xs.drop k).getD 1 0 : Nat) : Int), dataR (xs.drop k)), (k : Int) + 20 + sizeR (xs.drop k), 0) := by
  unfold frR
  rw [if_neg (by omega), Int.toNat_natCast, if_neg h, if_neg (by rw [h3]; simp), if_neg h4, if_neg (by simp [h5])]
end

set_option maxRecDepth 10000 in
set_option maxHeartbeats 1500000 in
theorem implMust (A : Option Addr) (n c : Nat) (xs : List Nat) (a : Int) (w : World) (hr : Rd w A n xs) (hn : n ≤ 1048576) (hc : n ≤ c) :
    Calls Try.prog 77 #[.slice A n c, .int .i64 a] w (MustP w (frR xs a)) := by
  have hl := hr.len
  have CY := Lib.hid (fun c W => demand_yes c W)
  have CN := Lib.hid (fun c W => demand_no c W)
  have BA := Lib.hid (below_a1 w (.cells #[.int .i64 0, .slice none 0 0] 45))
  by_cases ha : a < 0 ∨ (n : Int) < a
  · have HF := Lib.hid (frR_1 (xs := xs) (a := a) (by omega))
    rw [HF.out]
    clear hr hl
    rcases ha with ha | ha
    · go_enter Try.func77, Try.ntmps77
      go_wp2_with fail
      refine (CN.out _ _).mono ?_
      rintro e w1 ⟨rfl, rfl⟩
      go_wp2
      exact ⟨rfl, .inr ⟨by decide, rfl, BA.out⟩⟩
    · have ha0 : 0 ≤ a := by omega
      have da : decide (a ≤ (n : Int)) = false := by simp; omega
      go_enter Try.func77, Try.ntmps77
      go_wp2_with fail
      refine (CN.out _ _).mono ?_
      rintro e w1 ⟨rfl, rfl⟩
      go_wp2
      exact ⟨rfl, .inr ⟨by decide, rfl, BA.out⟩⟩
  · obtain ⟨k, rfl⟩ : ∃ k : Nat, a = (k : Int) := ⟨a.toNat, by omega⟩
    have hk : k ≤ n := by omega
    have dk : decide ((k : Int) ≤ (n : Int)) = true := by simp; omega
    have dk' : decide (k ≤ n) = true := by simp; omega
    have dk0 : decide ((0 : Int) ≤ (k : Int)) = true := by simp
    clear ha
    have hkl : k ≤ xs.length := by omega
    obtain ⟨A1, hs1, hrd1⟩ := slice_from hr hk hc
    obtain ⟨rs, hrs⟩ : ∃ rs, rs = xs.drop k := ⟨_, rfl⟩
    obtain ⟨rn, hrn⟩ : ∃ rn, rn = n - k := ⟨_, rfl⟩
    have hrc : rn ≤ c - k := by omega
    have hrnn : rn ≤ n := by omega
    rw [← hrs, ← hrn] at hrd1
    rw [← hrn] at hs1
    have hrl : rs.length = rn := hrd1.len
    have F2 := Lib.hid (frR_2 hkl)
    have F3 := Lib.hid (frR_3 hkl)
    have F4 := Lib.hid (frR_4 hkl)
    have F5 := Lib.hid (frR_5 hkl)
    have F0 := Lib.hid (frR_0 hkl)
    rw [← hrs] at F2 F3 F4 F5 F0
    rw [hrl] at F2 F3 F4 F5 F0
    generalize frR xs k = R at F2 F3 F4 F5 F0 ⊢
    have HRN := Lib.hid hrn
    clear hrs hr hl hkl hrl hrn
    by_cases h14 : rn < 14
    · have HF := F2.out h14
      rw [HF]
      have d14 : decide ((14 : Int) ≤ (rn : Int)) = false := by simp; omega
      have d14' : decide (14 ≤ rn) = false := by simp; omega
      clear F2 F3 F4 F5 F0 HF hrd1
      go_enter Try.func77, Try.ntmps77
      go_wp2_with fail
      refine (CY.out _ _).mono ?_
      rintro e w1 ⟨rfl, rfl⟩
      go_wp2_with fail
      refine (CN.out _ _).mono ?_
      rintro e w1 ⟨rfl, rfl⟩
      go_wp2
      exact ⟨rfl, .inr ⟨by decide, rfl, BA.out⟩⟩
    · have d14 : decide ((14 : Int) ≤ (rn : Int)) = true := by simp; omega
      have d14' : decide (14 ≤ rn) = true := by simp; omega
      have CH := Lib.hid (fun W (h : Below w.heap.size w W) => implHead A1 rn (c - k) rs W (hrd1.below h) (by omega) (by omega) (by omega))
      cases hh : headB rs with
      | false =>
        have HF := F3.out h14 hh
        rw [HF]
        rw [hh] at CH
        clear F2 F3 F4 F5 F0 HF hrd1
        go_enter Try.func77, Try.ntmps77
        go_wp2_with fail
        refine (CY.out _ _).mono ?_
        rintro e w1 ⟨rfl, rfl⟩
        go_wp2_with fail
        refine (CY.out _ _).mono ?_
        rintro e w1 ⟨rfl, rfl⟩
        go_wp2_with fail
        refine (CH.out _ BA.out).mono ?_
        rintro e w2 ⟨rfl, hb2⟩
        have HB2 := Lib.hid (fr_chain BA.out hb2)
        clear hb2
        go_wp2_with fail
        refine (CN.out _ _).mono ?_
        rintro e w1 ⟨rfl, rfl⟩
        go_wp2
        exact ⟨rfl, .inr ⟨by decide, rfl, HB2.out⟩⟩
      | true =>
        rw [hh] at CH
        obtain ⟨hq0, hq1, hq3, hs6, hq5⟩ := headB_iff hh
        have CF2 : Hid (∀ W, Below w.heap.size w W → Calls Try.prog 89 #[.slice A1 rn (c - k), .int .i64 2] W fun e w' => e = .returned (.int .i64 (sizeR rs : Nat)) ∧ W = w') := Lib.hid (fun W (h : Below w.heap.size w W) => fixAt_any A1 rn (c - k) 2 rs W (hrd1.below h) (by omega) (by omega))
        have HF0 := F0.out h14 hh
        have HF4 := F4.out h14 hh
        have HF5 := F5.out h14 hh
        have HLEN := Lib.hid (data_len (rs := rs))
        obtain ⟨s, hs⟩ : ∃ s, s = sizeR rs := ⟨_, rfl⟩
        rw [← hs] at CF2 hs6 HF0 HF4 HF5 HLEN
        have HSS := Lib.hid hs
        have HRL := Lib.hid hrd1.len
        by_cases h20 : rn < 20 + s
        · have HF := HF4 h20
          rw [HF]
          have d20 : decide (20 + (s : Int) ≤ (rn : Int)) = false := by simp; omega
          have d20' : decide (20 + s ≤ rn) = false := by simp; omega
          clear F2 F3 F4 F5 F0 HF HF0 HF4 HF5 hq0 hq1 hq3 hq5 hs hh hrd1
          go_enter Try.func77, Try.ntmps77
          go_wp2_with fail
          refine (CY.out _ _).mono ?_
          rintro e w1 ⟨rfl, rfl⟩
          go_wp2_with fail
          refine (CY.out _ _).mono ?_
          rintro e w1 ⟨rfl, rfl⟩
          go_wp2_with fail
          refine (CH.out _ BA.out).mono ?_
          rintro e w2 ⟨rfl, hb2⟩
          have HB2 := Lib.hid (fr_chain BA.out hb2)
          clear hb2
          go_wp2_with fail
          refine (CY.out _ _).mono ?_
          rintro e w1 ⟨rfl, rfl⟩
          go_wp2_with fail
          refine (CF2.out _ HB2.out).mono ?_
          rintro e w3 ⟨rfl, rfl⟩
          go_wp2_with fail
          refine (CN.out _ _).mono ?_
          rintro e w1 ⟨rfl, rfl⟩
          go_wp2
          exact ⟨rfl, .inr ⟨by decide, rfl, HB2.out⟩⟩
        · have d20 : decide (20 + (s : Int) ≤ (rn : Int)) = true := by simp; omega
          have d20' : decide (20 + s ≤ rn) = true := by simp; omega
          have hdl : (dataR rs).length = s := HLEN.out (by rw [HRL.out]; omega)
          obtain ⟨A2, hs2, hrd2⟩ := slice_mid (l := 20) (m := s) (20 + (s : Int)) hrd1 (by omega) (by omega) hrc
          have hs2' : ∀ W, (Instr.slice 22 (.slice A1 rn (c - k)) (some (.int .i64 20)) (some (.int .i64 (20 + (s : Int)))) none).run Try.prog W = .ok (.slice A2 s (c - k - 20)) W := hs2
          have hrd3 : Rd w A2 s (dataR rs) := by unfold dataR; rw [← hs]; exact hrd2
          have CF14 : Hid (∀ W, Below w.heap.size w W → Calls Try.prog 89 #[.slice A1 rn (c - k), .int .i64 14] W fun e w' => e = .returned (.int .i64 (fixNat rs 14 6 : Nat)) ∧ W = w') := Lib.hid (fun W (h : Below w.heap.size w W) => fixAt_any A1 rn (c - k) 14 rs W (hrd1.below h) (by omega) (by omega))
          have CC : Hid (∀ W, Below w.heap.size w W → Calls Try.prog 51 #[.slice A2 s (c - k - 20)] W fun e w' => e = .returned (.int .i64 (crcV (dataR rs) : Nat)) ∧ Below W.heap.size W w') := Lib.hid (fun W h => implCrc A2 s (c - k - 20) (dataR rs) W (hrd3.below h) (by omega))
          have CL := Lib.hid (fun W (h : Below w.heap.size w W) => clone_any A2 s (c - k - 20) (dataR rs) W (hrd3.below h) (by omega))
          obtain ⟨b, off, x1, e1, hbw, hx1, hg1, c1⟩ := hrd1.at_ (k := 1) (by omega)
          subst e1
          have hgd : rs.getD 1 0 = x1 := by rw [List.getD_eq_getElem?_getD, hg1.out]; rfl
          rw [hgd] at HF0
          generalize crcV (dataR rs) = cv at CC HF0 HF5
          generalize fixNat rs 14 6 = f14 at CF14 HF0 HF5
          have H2 := Lib.hid hs2
          by_cases h5 : f14 = cv
          · have d5 : ((f14 : Int) == (cv : Int)) = true := by simp [h5]
            have HF := Lib.hid (HF0 h20 h5)
            rw [HF.out]
            have hwx : IntKind.i64.wrap (x1 : Int) = (x1 : Int) := by rw [IntKind.wrap_i64]; omega
            have hws : IntKind.i64.wrap ((k : Int) + (20 + (s : Int))) = (k : Int) + (20 + (s : Int)) := by rw [IntKind.wrap_i64]; omega
            have HDL := Lib.hid hdl
            have hi1 : 1 < rn := by omega
            have hi2 : (1 : Int) < (rn : Int) := by omega
            clear F2 F3 F4 F5 F0 HF0 HF4 HF5 hq0 hq1 hq3 hq5 hs hh hrd1 hrd2 hrd3 hgd hg1 hs2 h5 hdl
            go_enter Try.func77, Try.ntmps77
            go_wp2_with fail
            refine (CY.out _ _).mono ?_
            rintro e w1 ⟨rfl, rfl⟩
            go_wp2_with fail
            refine (CY.out _ _).mono ?_
            rintro e w1 ⟨rfl, rfl⟩
            go_wp2_with fail
            refine (CH.out _ BA.out).mono ?_
            rintro e w2 ⟨rfl, hb2⟩
            have HB2 := Lib.hid (fr_chain BA.out hb2)
            have HBX := Lib.hid hb2
            clear hb2
            go_wp2_with fail
            refine (CY.out _ _).mono ?_
            rintro e w1 ⟨rfl, rfl⟩
            go_wp2_with fail
            refine (CF2.out _ HB2.out).mono ?_
            rintro e w3 ⟨rfl, rfl⟩
            go_wp2_with fail
            refine (CY.out _ _).mono ?_
            rintro e w1 ⟨rfl, rfl⟩
            go_wp2_with fail
            refine (CF14.out _ HB2.out).mono ?_
            rintro e w3 ⟨rfl, rfl⟩
            go_wp2_with fail
            refine (CC.out _ HB2.out).mono ?_
            rintro e w4 ⟨rfl, hb4⟩
            have HB4 := Lib.hid (fr_chain HB2.out hb4)
            have HBY := Lib.hid (fr_chain HBX.out hb4)
            clear hb4
            go_wp2_with fail
            refine (CY.out _ _).mono ?_
            rintro e w1 ⟨rfl, rfl⟩
            have cx := (HB4.out.cell (p := ⟨b, off + 1, none⟩) hbw).trans c1
            have hbw4 : b < w4.heap.size := Nat.lt_of_lt_of_le hbw HB4.out.size
            have hlt4 : w.heap.size < w4.heap.size := by have := HBY.out.size; simp at this; omega
            go_wp2
            go_region_held3 (fun W => W.cell? ⟨b, off + 1, none⟩ = some (.int .u8 (x1 : Int)))
              (first
                | (exact yx)
                | (exact yz)
                | (exact cx)
                | go_keep)
              (first
                | (go_at_call 38; ((with_reducible refine (CL.out _ (by first | exact HB4.out | exact HB4.out.drew | exact below_drewN HB4.out _)).mono ?_)); rintro e1 w5 ⟨A5, c5, rfl, ho5, hb5⟩; have HB5 : Hid (Below w4.heap.size w4 w5) := Lib.hid (by first | exact hb5 | exact ⟨hb5.os, hb5.tape, hb5.output, hb5.size, hb5.block⟩); have yx := (HB5.out.cell (p := ⟨b, off + 1, none⟩) hbw4).trans cx; have HBZ := Lib.hid (fr_chain HBY.out HB5.out); have yz : ((w5.setCell ⟨w.heap.size, 0, none⟩ (.int .i64 (x1 : Int))).setCell ⟨w.heap.size, 1, none⟩ (.slice A5 s c5)).cell? ⟨b, off + 1, none⟩ = some (.int .u8 (x1 : Int)) := (World.cell?_of_block ((Below.heap_setCell _ _ _ _ (by show b ≠ w.heap.size; omega)).trans (Below.heap_setCell _ _ _ _ (by show b ≠ w.heap.size; omega)))).trans yx; have hf0 : w5.frozen? ⟨w.heap.size, 0, none⟩ = false := ((HBZ.out.frozen (p := ⟨w.heap.size, 0, none⟩) (by simp)).trans (by simp)); have hf1 : w5.frozen? ⟨w.heap.size, 1, none⟩ = false := ((HBZ.out.frozen (p := ⟨w.heap.size, 1, none⟩) (by simp)).trans (by simp)); have hc0 : w5.cell? ⟨w.heap.size, 0, none⟩ = some (.int .i64 0) := ((HBZ.out.cell (p := ⟨w.heap.size, 0, none⟩) (by simp)).trans (by simp)); have hc1 : w5.cell? ⟨w.heap.size, 1, none⟩ = some (.slice none 0 0) := ((HBZ.out.cell (p := ⟨w.heap.size, 1, none⟩) (by simp)).trans (by simp)); have HO5 : Hid (w5.ownsRow w4.heap.size 5 1 (.slice A5 s c5) s (vb (dataR rs))) := Lib.hid ho5))
            all_goals
              go_wp2
              refine bodyPost_ret (v := .tuple #[.agg #[.int .i64 (x1 : Int), .slice A5 s c5], .int .i64 ((k : Int) + (20 + (s : Int)))]) (by simp [results, Try.results77, go_sem, hc0, hc1]) rfl ?_
              refine .inl ⟨rfl, A5, c5, ?_, ?_, ?_⟩
              · rw [HDL.out]
                exact congrArg (fun q => Ending.returned (.tuple #[.agg #[.int .i64 (x1 : Int), .slice A5 s c5], .int .i64 q])) (show (k : Int) + (20 + (s : Int)) = (k : Int) + 20 + (s : Int) by omega)
              · rw [HDL.out]
                exact base_row (low_row (low_row HO5.out (by show w.heap.size < w4.heap.size; exact hlt4) _) (by show w.heap.size < w4.heap.size; exact hlt4) _) (by omega)
              · exact ((fr_chain HB4.out HB5.out).setCell (Nat.le_refl _) _).setCell (Nat.le_refl _) _
          · have d5 : ((f14 : Int) == (cv : Int)) = false := by simp; omega
            have HF := HF5 h20 h5
            rw [HF]
            clear F2 F3 F4 F5 F0 HF HF0 HF4 HF5 hq0 hq1 hq3 hq5 hs hh hrd1 hrd2 hrd3 hgd hg1 hs2 h5 hdl
            go_enter Try.func77, Try.ntmps77
            go_wp2_with fail
            refine (CY.out _ _).mono ?_
            rintro e w1 ⟨rfl, rfl⟩
            go_wp2_with fail
            refine (CY.out _ _).mono ?_
            rintro e w1 ⟨rfl, rfl⟩
            go_wp2_with fail
            refine (CH.out _ BA.out).mono ?_
            rintro e w2 ⟨rfl, hb2⟩
            have HB2 := Lib.hid (fr_chain BA.out hb2)
            have HBX := Lib.hid hb2
            clear hb2
            go_wp2_with fail
            refine (CY.out _ _).mono ?_
            rintro e w1 ⟨rfl, rfl⟩
            go_wp2_with fail
            refine (CF2.out _ HB2.out).mono ?_
            rintro e w3 ⟨rfl, rfl⟩
            go_wp2_with fail
            refine (CY.out _ _).mono ?_
            rintro e w1 ⟨rfl, rfl⟩
            go_wp2_with fail
            refine (CF14.out _ HB2.out).mono ?_
            rintro e w3 ⟨rfl, rfl⟩
            go_wp2_with fail
            refine (CC.out _ HB2.out).mono ?_
            rintro e w4 ⟨rfl, hb4⟩
            have HB4 := Lib.hid (fr_chain HB2.out hb4)
            have HBY := Lib.hid (fr_chain HBX.out hb4)
            clear hb4
            go_wp2_with fail
            refine (CN.out _ _).mono ?_
            rintro e w1 ⟨rfl, rfl⟩
            go_wp2
            exact ⟨rfl, .inr ⟨by decide, rfl, HB4.out⟩⟩
end Go.Proofs.Ytmlfhjkogcabiaa
