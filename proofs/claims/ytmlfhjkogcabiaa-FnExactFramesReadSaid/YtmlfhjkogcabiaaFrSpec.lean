/- The contract of the model's function that reads a frame. Condition: at most 2^20 bytes. -/
import Derived.Test.YtmlfhjkogcabiaaFrCatch
import Derived.Test.YtmlfhjkogcabiaaGetFixSpec
import Derived.Deep.QuietTactic
import Derived.BigQuiet
namespace Go.Proofs.Ytmlfhjkogcabiaa
open Go.RowKit

/-- A frame of the call's own, the place behind it, the code; one that reads. -/
def FrSO (w : World) (r : (Int × List Nat) × Int × Int) (e : Ending) (w' : World) : Prop :=
  ∃ A c, e = .returned (.tuple #[.agg #[.int .i64 r.1.1, .slice A r.1.2.length c], .int .i64 r.2.1, .int .i64 r.2.2]) ∧ w'.ownsRow w.heap.size 5 1 (.slice A r.1.2.length c) r.1.2.length (vb r.1.2) ∧ Below w.heap.size w w'
def FrS (w : World) (r : (Int × List Nat) × Int × Int) (e : Ending) (w' : World) : Prop :=
  ∃ A c, e = .returned (.tuple #[.agg #[.int .i64 r.1.1, .slice A r.1.2.length c], .int .i64 r.2.1, .int .i64 r.2.2]) ∧ Rd w' A r.1.2.length r.1.2 ∧ r.1.2.length ≤ c ∧ Below w.heap.size w w'
theorem fixVal_at {xs : List Nat} {n k j : Nat} {a : Int} (ha : a = ((k + j : Nat) : Int)) (hk : k + j + 6 ≤ n) : fixVal xs a n = .tuple #[.int .i64 (fixNat (xs.drop k) j 6 : Nat), .bool true] := by
  subst ha
  have h1 : fixOk ((k + j : Nat) : Int) n = true := by unfold fixOk; simp; omega
  unfold fixVal
  rw [h1, Int.toNat_natCast, fixNat_drop]
  simp
theorem below_q (w : World) (b : Nat) (hb : w.heap.size ≤ b) {W : World} (h : Below w.heap.size w W) (u0 u1 : Value) : Below w.heap.size w ((W.setCell ⟨b, 0, none⟩ u0).setCell ⟨b, 1, none⟩ u1) := (h.setCell hb _).setCell hb _
theorem headB_no {rs : List Nat} {x0 x1 : Nat} (h : headB rs = false) (g0 : rs.getD 0 0 = x0) (g1 : rs.getD 1 0 = x1) : x0 ≠ 71 ∨ (x0 = 71 ∧ x1 < 1) ∨ (x0 = 71 ∧ 1 ≤ x1 ∧ 3 < x1) ∨ (x0 = 71 ∧ 1 ≤ x1 ∧ x1 ≤ 3 ∧ 60000 < sizeR rs) ∨ (x0 = 71 ∧ 1 ≤ x1 ∧ x1 ≤ 3 ∧ sizeR rs ≤ 60000 ∧ fixNat rs 8 6 ≠ crcV (rs.take 8)) := by
  have h := of_decide_eq_false h
  rw [g0, g1] at h
  unfold sizeR
  omega

set_option maxRecDepth 10000 in
set_option maxHeartbeats 2000000 in
theorem specFrameReadO (A : Option Addr) (n c : Nat) (xs : List Nat) (a : Int) (w : World) (hr : Rd w A n xs) (hn : n ≤ 1048576) (hc : n ≤ c) :
    Calls Try.prog 53 #[.slice A n c, .int .i64 a] w (FrSO w (frR xs a)) := by
  obtain ⟨j0, hj, hy0, hy1, hy2⟩ := info_parts Try.infoByte
  have hl := hr.len
  have BA := below_a1 w (.cells #[.int .i64 0, .slice none 0 0] 45)
  by_cases ha : a < 0 ∨ (n : Int) < a
  · have HF := Lib.hid (frR_1 (xs := xs) (a := a) (by omega))
    rw [HF.out]
    clear hr hl HF
    rcases ha with ha | ha
    · go_enter Try.func53, Try.ntmps53
      go_wp2
      refine bodyPost_ret (v := .tuple #[.agg #[.int .i64 0, .slice none 0 0], .int .i64 0, .int .i64 1]) (by simp [results, Try.results53, go_sem]) rfl ?_
      exact ⟨none, 0, rfl, World.ownsRow_nil _ _ _ _, by first | exact BA | exact below_q w _ (Nat.le_refl _) BA _ _⟩
    · have da : decide ((n : Int) < a) = true := by simp; omega
      have ha0 : 0 ≤ a := by omega
      go_enter Try.func53, Try.ntmps53
      go_wp2
      refine bodyPost_ret (v := .tuple #[.agg #[.int .i64 0, .slice none 0 0], .int .i64 0, .int .i64 1]) (by simp [results, Try.results53, go_sem]) rfl ?_
      exact ⟨none, 0, rfl, World.ownsRow_nil _ _ _ _, by first | exact BA | exact below_q w _ (Nat.le_refl _) BA _ _⟩
  · obtain ⟨k, rfl⟩ : ∃ k : Nat, a = (k : Int) := ⟨a.toNat, by omega⟩
    have hk : k ≤ n := by omega
    clear ha
    have hkl : k ≤ xs.length := by omega
    have hkn : ¬ (n : Int) < (k : Int) := by omega
    obtain ⟨rs, hrs⟩ : ∃ rs, rs = xs.drop k := ⟨_, rfl⟩
    have hrl : rs.length = n - k := by rw [hrs, List.length_drop, hl]
    have F2 := Lib.hid (frR_2 hkl)
    have F3 := Lib.hid (frR_3 hkl)
    have F4 := Lib.hid (frR_4 hkl)
    have F5 := Lib.hid (frR_5 hkl)
    have F0 := Lib.hid (frR_0 hkl)
    rw [← hrs] at F2 F3 F4 F5 F0
    rw [hrl] at F2 F3 F4 F5 F0
    generalize frR xs k = R at F2 F3 F4 F5 F0 ⊢
    by_cases h14 : n - k < 14
    · have HF := F2.out h14
      rw [HF]
      have d14 : (n : Int) - (k : Int) < 14 := by omega
      clear F2 F3 F4 F5 F0 HF hr hrs hl hrl hkl
      go_enter Try.func53, Try.ntmps53
      go_wp2
      refine bodyPost_ret (v := .tuple #[.agg #[.int .i64 0, .slice none 0 0], .int .i64 0, .int .i64 2]) (by simp [results, Try.results53, go_sem]) rfl ?_
      exact ⟨none, 0, rfl, World.ownsRow_nil _ _ _ _, by first | exact BA | exact below_q w _ (Nat.le_refl _) BA _ _⟩
    · have d14 : ¬ (n : Int) - (k : Int) < 14 := by omega
      have HSM : Hid (∀ x ∈ rs, x < 256) := Lib.hid (fun x hx => hr.small x (by rw [hrs] at hx; exact List.mem_of_mem_drop hx))
      have CG2 : Hid (∀ W, Below w.heap.size w W → Calls Try.prog 78 #[.slice A n c, .int .i64 ((k : Int) + 2)] W fun e w' => e = .returned (.tuple #[.int .i64 (fixNat rs 2 6 : Nat), .bool true]) ∧ W = w') := Lib.hid (fun W h => by
        have h9 := specGetFix A n c ((k : Int) + 2) xs W (hr.below h) (by omega) (by omega) (by omega)
        rw [fixVal_at (k := k) (j := 2) (by omega) (by omega), ← hrs] at h9
        exact h9)
      have CG8 : Hid (∀ W, Below w.heap.size w W → Calls Try.prog 78 #[.slice A n c, .int .i64 ((k : Int) + 8)] W fun e w' => e = .returned (.tuple #[.int .i64 (fixNat rs 8 6 : Nat), .bool true]) ∧ W = w') := Lib.hid (fun W h => by
        have h9 := specGetFix A n c ((k : Int) + 8) xs W (hr.below h) (by omega) (by omega) (by omega)
        rw [fixVal_at (k := k) (j := 8) (by omega) (by omega), ← hrs] at h9
        exact h9)
      obtain ⟨b, off, x0, rfl, hbw, hx0, g0, c0⟩ := hr.at_ (k := k) (by omega)
      obtain ⟨b', off', x1, e1, _, hx1, g1, c1⟩ := hr.at_ (k := k + 1) (by omega)
      injection e1 with e1
      injection e1 with e1 e2
      subst e1 e2
      have q0 : rs.getD 0 0 = x0 := by rw [List.getD_eq_getElem?_getD, hrs, List.getElem?_drop, Nat.add_zero, g0.out]; rfl
      have q1 : rs.getD 1 0 = x1 := by rw [List.getD_eq_getElem?_getD, hrs, List.getElem?_drop, g1.out]; rfl
      obtain ⟨A8, hs8, hrd8⟩ := slice_mid (l := k) (m := 8) ((k : Int) + 8) hr (by omega) (by omega) hc
      rw [← hrs] at hrd8
      have CC : Hid (∀ W, Below w.heap.size w W → Calls Try.prog 79 #[.slice A8 8 (c - k)] W fun e w' => e = .returned (.int .i64 (crcV (rs.take 8) : Nat)) ∧ W = w') := Lib.hid (fun W h => specCrc A8 8 (c - k) (rs.take 8) W (hrd8.below h) (by omega))
      have i0 : (k : Int) < (n : Int) := by omega
      have i1 : (k : Int) + 1 < (n : Int) := by omega
      have HHN := Lib.hid (fun h => headB_no (rs := rs) h q0 q1)
      cases hh : headB rs with
      | false =>
        have HF := F3.out h14 hh
        rw [HF]
        have hp := HHN.out hh
        unfold sizeR at hp
        generalize fixNat rs 2 6 = f2 at CG2 hp
        generalize fixNat rs 8 6 = f8 at CG8 hp
        generalize crcV (rs.take 8) = cv at CC hp
        clear F2 F3 F4 F5 F0 HF hr hrs hl hrl hkl q0 q1 g0 g1 hrd8 HHN hh HSM
        rcases hp with p0 | ⟨p0, p1⟩ | ⟨p0, p1, p2⟩ | ⟨p0, p1, p2, p3⟩ | ⟨p0, p1, p2, p3, p4⟩
        · have d0 : ((x0 : Int) == 71) = false := by simp; omega
          go_enter Try.func53, Try.ntmps53
          go_wp2_with fail
          refine (CG2.out _ BA).mono ?_
          rintro e w3 ⟨rfl, rfl⟩
          go_wp2_with fail
          refine (CG8.out _ BA).mono ?_
          rintro e w3 ⟨rfl, rfl⟩
          go_wp2
          refine bodyPost_ret (v := .tuple #[.agg #[.int .i64 0, .slice none 0 0], .int .i64 0, .int .i64 3]) (by simp [results, Try.results53, go_sem]) rfl ?_
          exact ⟨none, 0, rfl, World.ownsRow_nil _ _ _ _, by first | exact below_a2 _ _ _ | exact below_q w _ (Nat.le_refl _) (below_a2 _ _ _) _ _⟩
        · have d0 : ((x0 : Int) == 71) = true := by simp [p0]
          have r1 : (x1 : Int) < 1 := by omega
          go_enter Try.func53, Try.ntmps53
          go_wp2_with fail
          refine (CG2.out _ BA).mono ?_
          rintro e w3 ⟨rfl, rfl⟩
          go_wp2_with fail
          refine (CG8.out _ BA).mono ?_
          rintro e w3 ⟨rfl, rfl⟩
          go_wp2
          refine bodyPost_ret (v := .tuple #[.agg #[.int .i64 0, .slice none 0 0], .int .i64 0, .int .i64 3]) (by simp [results, Try.results53, go_sem]) rfl ?_
          exact ⟨none, 0, rfl, World.ownsRow_nil _ _ _ _, by first | exact below_a2 _ _ _ | exact below_q w _ (Nat.le_refl _) (below_a2 _ _ _) _ _⟩
        · have d0 : ((x0 : Int) == 71) = true := by simp [p0]
          have r1 : ¬ (x1 : Int) < 1 := by omega
          have r2 : (3 : Int) < (x1 : Int) := by omega
          go_enter Try.func53, Try.ntmps53
          go_wp2_with fail
          refine (CG2.out _ BA).mono ?_
          rintro e w3 ⟨rfl, rfl⟩
          go_wp2_with fail
          refine (CG8.out _ BA).mono ?_
          rintro e w3 ⟨rfl, rfl⟩
          go_wp2
          refine bodyPost_ret (v := .tuple #[.agg #[.int .i64 0, .slice none 0 0], .int .i64 0, .int .i64 3]) (by simp [results, Try.results53, go_sem]) rfl ?_
          exact ⟨none, 0, rfl, World.ownsRow_nil _ _ _ _, by first | exact below_a2 _ _ _ | exact below_q w _ (Nat.le_refl _) (below_a2 _ _ _) _ _⟩
        · have d0 : ((x0 : Int) == 71) = true := by simp [p0]
          have r1 : ¬ (x1 : Int) < 1 := by omega
          have r2 : ¬ (3 : Int) < (x1 : Int) := by omega
          have r3 : (60000 : Int) < (f2 : Int) := by omega
          go_enter Try.func53, Try.ntmps53
          go_wp2_with fail
          refine (CG2.out _ BA).mono ?_
          rintro e w3 ⟨rfl, rfl⟩
          go_wp2_with fail
          refine (CG8.out _ BA).mono ?_
          rintro e w3 ⟨rfl, rfl⟩
          go_wp2
          refine bodyPost_ret (v := .tuple #[.agg #[.int .i64 0, .slice none 0 0], .int .i64 0, .int .i64 3]) (by simp [results, Try.results53, go_sem]) rfl ?_
          exact ⟨none, 0, rfl, World.ownsRow_nil _ _ _ _, by first | exact below_a2 _ _ _ | exact below_q w _ (Nat.le_refl _) (below_a2 _ _ _) _ _⟩
        · have d0 : ((x0 : Int) == 71) = true := by simp [p0]
          have r1 : ¬ (x1 : Int) < 1 := by omega
          have r2 : ¬ (3 : Int) < (x1 : Int) := by omega
          have r3 : ¬ (60000 : Int) < (f2 : Int) := by omega
          have d4 : ((f8 : Int) != (cv : Int)) = true := by simp; omega
          have d4' : (f8 != cv) = true := by simp; omega
          go_enter Try.func53, Try.ntmps53
          go_wp2_with fail
          refine (CG2.out _ BA).mono ?_
          rintro e w3 ⟨rfl, rfl⟩
          go_wp2_with fail
          refine (CG8.out _ BA).mono ?_
          rintro e w3 ⟨rfl, rfl⟩
          go_wp2_with fail
          refine (CC.out _ (below_a2 _ _ _)).mono ?_
          rintro e w4 ⟨rfl, rfl⟩
          go_wp2
          refine bodyPost_ret (v := .tuple #[.agg #[.int .i64 0, .slice none 0 0], .int .i64 0, .int .i64 3]) (by simp [results, Try.results53, go_sem]) rfl ?_
          exact ⟨none, 0, rfl, World.ownsRow_nil _ _ _ _, by first | exact below_a2 _ _ _ | exact below_q w _ (Nat.le_refl _) (below_a2 _ _ _) _ _⟩
      | true =>
        obtain ⟨p0, p1, p2, p3, p4⟩ := headB_iff hh
        rw [q0] at p0
        rw [q1] at p1 p2
        have HF0 := F0.out h14 hh
        have HF4 := F4.out h14 hh
        have HF5 := F5.out h14 hh
        rw [q1] at HF0
        have HIFF := Lib.hid (fun h => frB_iff HSM.out hh h)
        rw [q1] at HIFF
        have HDL := Lib.hid (data_len (rs := rs))
        have CG2' := Lib.hid CG2.out
        rw [show fixNat rs 2 6 = sizeR rs from rfl] at CG2'
        obtain ⟨s, hs⟩ : ∃ s, s = sizeR rs := ⟨_, rfl⟩
        rw [← hs] at CG2' p3 HF0 HF4 HF5 HIFF HDL
        have HSS := Lib.hid hs
        obtain ⟨data, hdata⟩ : ∃ data, data = dataR rs := ⟨_, rfl⟩
        rw [← hdata] at HF0 HF5 HIFF HDL
        have HDS : Hid (∀ x ∈ data, x < 256) := Lib.hid (by rw [hdata]; exact data_small HSM.out)
        have d0 : ((x0 : Int) == 71) = true := by simp [p0]
        have r1 : ¬ (x1 : Int) < 1 := by omega
        have r2 : ¬ (3 : Int) < (x1 : Int) := by omega
        have r3 : ¬ (60000 : Int) < (s : Int) := by omega
        have d4 : ((fixNat rs 8 6 : Nat) : Int) = ((crcV (rs.take 8) : Nat) : Int) := by rw [p4]
        generalize fixNat rs 8 6 = f8 at CG8 p4 d4
        generalize crcV (rs.take 8) = cv at CC p4 d4
        have d5 : ((f8 : Int) != (cv : Int)) = false := by simp [p4]
        have d5' : (f8 != cv) = false := by simp [p4]
        have d6 : ((f8 : Int) == (cv : Int)) = true := by simp [p4]
        have d6' : (f8 == cv) = true := by simp [p4]
        clear p4
        have HR := Lib.hid hr
        have HRL := Lib.hid hrl
        by_cases h20 : n - k < 20 + s
        · have HF := HF4 h20
          rw [HF]
          have d20 : (n : Int) - (k : Int) - 20 < (s : Int) := by omega
          clear F2 F3 F4 F5 F0 HF HF0 HF4 HF5 hr hrs hl hrl hkl q0 q1 g0 g1 hrd8 HHN hh p1 p2 d4 HIFF hs hdata CG2
          go_enter Try.func53, Try.ntmps53
          go_wp2_with fail
          refine (CG2'.out _ BA).mono ?_
          rintro e w3 ⟨rfl, rfl⟩
          go_wp2_with fail
          refine (CG8.out _ BA).mono ?_
          rintro e w3 ⟨rfl, rfl⟩
          go_wp2_with fail
          refine (CC.out _ (below_a2 _ _ _)).mono ?_
          rintro e w4 ⟨rfl, rfl⟩
          go_wp2
          refine bodyPost_ret (v := .tuple #[.agg #[.int .i64 0, .slice none 0 0], .int .i64 0, .int .i64 4]) (by simp [results, Try.results53, go_sem]) rfl ?_
          exact ⟨none, 0, rfl, World.ownsRow_nil _ _ _ _, by first | exact below_a2 _ _ _ | exact below_q w _ (Nat.le_refl _) (below_a2 _ _ _) _ _⟩
        · have d20 : ¬ (n : Int) - (k : Int) - 20 < (s : Int) := by omega
          have hdl : data.length = s := HDL.out (by omega)
          obtain ⟨A20, hs20, hrd20⟩ := slice_mid (l := k + 20) (m := s) ((k : Int) + 20 + (s : Int)) hr (by omega) (by omega) hc
          have hs20' : ∀ W, (Instr.slice 22 (.slice (some ⟨b, off, none⟩) n c) (some (.int .i64 ((k : Int) + 20))) (some (.int .i64 ((k : Int) + 20 + (s : Int)))) none).run Try.prog W = .ok (.slice A20 s (c - (k + 20))) W := fun W => by
            have h := hs20 W
            rw [show ((k + 20 : Nat) : Int) = (k : Int) + 20 by omega] at h
            exact h
          have hrdD : Rd w A20 s data := by
            rw [hdata]
            unfold dataR
            rw [← hs, hrs, List.drop_drop]
            exact hrd20
          obtain ⟨AA, hsA, hrdA⟩ := slice_mid (l := k) (m := 20 + s) ((k : Int) + 20 + (s : Int)) hr (by omega) (by omega) hc
          rw [← hrs] at hrdA
          have HRD := Lib.hid hrdD
          have HRA := Lib.hid hrdA
          have HI := HIFF.out (by omega)
          have HRSS : Hid (∀ x ∈ rs.take (20 + s), x < 256) := Lib.hid (fun x hx => HSM.out x (List.mem_of_mem_take hx))
          clear F2 F3 F4 F5 F0 hr hrs hl hrl hkl q0 q1 g0 g1 hrd8 HHN hh d4 HIFF hs hdata CG2 hs20 hrd20 hrdD hrdA HF4
          go_enter Try.func53, Try.ntmps53
          go_wp2_with fail
          refine (CG2'.out _ BA).mono ?_
          rintro e w3 ⟨rfl, rfl⟩
          go_wp2_with fail
          refine (CG8.out _ BA).mono ?_
          rintro e w3 ⟨rfl, rfl⟩
          go_wp2_with fail
          refine (CC.out _ (below_a2 _ _ _)).mono ?_
          rintro e w4 ⟨rfl, rfl⟩
          obtain ⟨W2, hW2⟩ : ∃ W2, W2 = ((w.alloc (.cells #[.int .i64 0, .slice none 0 0] 45)).alloc (.cells #[.int .i64 (x1 : Int), .slice none 0 0] 45)) := ⟨_, rfl⟩
          have BW : Hid (Below w.heap.size w W2) := Lib.hid (by rw [hW2]; exact below_a2 _ _ _)
          have hz2 : Hid (W2.heap.size = w.heap.size + 1 + 1) := Lib.hid (by rw [hW2]; simp)
          have X0 : Hid (Box2 W2 w.heap.size (.int .i64 0) (.slice none 0 0)) := Lib.hid (by rw [hW2]; exact ⟨by simp; omega, by simp, by simp⟩)
          have X1 : Hid (Box2 W2 (w.heap.size + 1) (.int .i64 (x1 : Int)) (.slice none 0 0)) := Lib.hid (by rw [hW2]; exact ⟨by simp, by simp, by simp⟩)
          have Z0 : Hid (∀ j, W2.frozen? ⟨w.heap.size, j, none⟩ = false) := Lib.hid (fun j => by rw [hW2]; simp)
          have Z1 : Hid (∀ j, W2.frozen? ⟨w.heap.size + 1, j, none⟩ = false) := Lib.hid (fun j => by rw [hW2]; simp)
          rw [← hW2]
          clear hW2
          go_wp2_with (at_builtin; go_loud (refine wpList_append_any _ rfl (.tmp 88) (.tmp 96) _ rfl W2.heap.size 5 j0 _ 1 1 Try.underlying22 hj hy0 hy1 hy2 rfl (by omega) (.slice (some ⟨W2.heap.size, 0, none⟩) 0 0) 0 [] rfl (built_none W2) W2.heap.size A20 s (c - (k + 20)) (vb data) rfl ((HRD.out.below BW.out).reads.alloc (Nat.le_refl _) (.cells #[] 5)) (vb_oneCell _) (by simp only [maxLen]; omega) (by omega) (by simp) ?_; intro v1 w6 hown1 hg1 hat1; simp only [Nat.zero_add, List.nil_append] at hown1; obtain ⟨A2, c2, hv1⟩ := own_form hown1; subst hv1; have B6 := Lib.hid ((below_a1 W2 (.cells #[] 5)).grown hg1 (by simp) (fun j hj => by simp [Value.ownBlock] at hj; omega)); have HO6 := Lib.hid hown1; obtain ⟨l1, y0, y1⟩ := X1.out.below B6.out; have fz1 : w6.frozen? ⟨w.heap.size + 1, 1, none⟩ = false := (B6.out.frozen (p := ⟨w.heap.size + 1, 1, none⟩) (by have := hz2.out; show w.heap.size + 1 < W2.heap.size; omega)).trans (Z1.out 1); clear hown1 hg1 hat1))
          have hz2' := hz2.out
          have CB := Lib.hid (fun W (h : (⟨A2, s, c2, data⟩ : Dat).Ok W) => specFrBytes (x1 : Int) ⟨A2, s, c2, data⟩ W h (by show s ≤ 1048576; omega))
          have L7 := Lib.hid (low_row HO6.out (p := ⟨w.heap.size + 1, 1, none⟩) (by show w.heap.size + 1 < W2.heap.size; omega) (.slice A2 s c2))
          have D7 := Lib.hid (made_ok (xs := data) (A := A2) (c := c2) (lo := W2.heap.size) (W := w6.setCell ⟨w.heap.size + 1, 1, none⟩ (.slice A2 s c2)) (by rw [hdl]; exact L7.out) HDS.out)
          rw [hdl] at D7
          have B7 := Lib.hid ((fr_chain BW.out B6.out).setCell (p := ⟨w.heap.size + 1, 1, none⟩) (by show w.heap.size ≤ w.heap.size + 1; omega) (.slice A2 s c2))
          have Y0 := Lib.hid ((X0.out.below B6.out).far (p := ⟨w.heap.size + 1, 1, none⟩) (by show w.heap.size ≠ w.heap.size + 1; omega) (.slice A2 s c2))
          have Y1 := Lib.hid ((X1.out.below B6.out).set1 (.slice A2 s c2))
          have Z7 : Hid (∀ j, (w6.setCell ⟨w.heap.size + 1, 1, none⟩ (.slice A2 s c2)).frozen? ⟨w.heap.size, j, none⟩ = false) := Lib.hid (fun j => by
            rw [World.frozen?_setCell]
            exact (B6.out.frozen (p := ⟨w.heap.size, j, none⟩) (by show w.heap.size < W2.heap.size; omega)).trans (Z0.out j))
          clear l1 y0 y1 fz1 hz2'
          generalize w6.setCell ⟨w.heap.size + 1, 1, none⟩ (.slice A2 s c2) = w7 at L7 D7 B7 Y0 Y1 Z7 ⊢
          have hw7 : w.heap.size + 1 < w7.heap.size := Y1.out.lt
          have HW7 := Lib.hid hw7
          clear hw7
          obtain ⟨X, hX⟩ : ∃ X, X = frB (x1 : Int) data := ⟨_, rfl⟩
          have HXS : Hid (∀ x ∈ X, x < 256) := Lib.hid (by rw [hX]; exact frB_small _ _ HDS.out)
          have CB7 := Lib.hid (CB.out w7 D7.out)
          rw [← hX] at CB7 HI
          clear hX CB
          go_wp2_with fail
          refine CB7.out.mono ?_
          rintro e w8 ⟨A9, c9, rfl, ho9, hb9⟩
          have L8 := Lib.hid (own_below L7.out hb9)
          have B8 := Lib.hid (fr_chain B7.out hb9)
          have Q0 := Lib.hid (Y0.out.below hb9)
          have Q1 := Lib.hid (Y1.out.below hb9)
          have Z8 : Hid (∀ j, w8.frozen? ⟨w.heap.size, j, none⟩ = false) := Lib.hid (fun j => (hb9.frozen (p := ⟨w.heap.size, j, none⟩) (by have := HW7.out; show w.heap.size < w7.heap.size; omega)).trans (Z7.out j))
          have e1 : ∀ j, (convert 22 9 (.slice A9 X.length c9)).run Try.prog (w8.drewN j) = .ok (.string (strB X)) (w8.drewN j) := fun j => conv_rd c9 ((Rd.of_own ho9 HXS.out).drewN j)
          have e2 : ∀ j, (convert 22 9 (.slice AA (20 + s) (c - k))).run Try.prog (w8.drewN j) = .ok (.string (strB (rs.take (20 + s)))) (w8.drewN j) := fun j => conv_rd (c - k) ((HRA.out.below B8.out).drewN j)
          have hbeq := strB_beq X (rs.take (20 + s)) HXS.out HRSS.out
          clear ho9 hb9 L7 B7 Y0 Y1 Z7 D7 CB7
          generalize rs.take (20 + s) = Y at e2 hbeq HI
          obtain ⟨l0, x00, x01⟩ := Q0.out
          obtain ⟨l1, x10, x11⟩ := Q1.out
          have z0 := Z8.out 0
          have z1 := Z8.out 1
          by_cases h5 : fixNat rs 14 6 = crcV data
          · have hXY := HI.2 h5
            rw [decide_eq_true hXY] at hbeq
            have HF := Lib.hid (HF0 h20 h5)
            clear HF0 HF5 hXY HI h5
            generalize strB X = S1 at e1 hbeq
            generalize strB Y = S2 at e2 hbeq
            go_wp2
            go_quiet (fail)
            rename Nat => kq
            go_wp2
            refine bodyPost_ret (v := .tuple #[.agg #[.int .i64 (x1 : Int), .slice A2 s c2], .int .i64 ((k : Int) + 20 + (s : Int)), .int .i64 0]) (by simp [results, Try.results53, go_sem, x00, x01]) rfl ?_
            rw [HF.out]
            have h9 := low_row (low_row (own_drewN L8.out kq) (p := ⟨w.heap.size, 0, none⟩) (by have := hz2.out; show w.heap.size < W2.heap.size; omega) (.int .i64 (x1 : Int))) (p := ⟨w.heap.size, 1, none⟩) (by have := hz2.out; show w.heap.size < W2.heap.size; omega) (.slice A2 s c2)
            refine ⟨A2, c2, by simp only [hdl], ?_, below_q w _ (Nat.le_refl _) (below_drewN B8.out kq) _ _⟩
            show World.ownsRow _ w.heap.size 5 1 (.slice A2 data.length c2) data.length (vb data)
            rw [hdl]
            exact base_row h9 (by have := hz2.out; omega)
          · have hXY : ¬ X = Y := fun hh => h5 (HI.1 hh)
            rw [decide_eq_false hXY] at hbeq
            have HF := Lib.hid (HF5 h20 h5)
            clear HF0 HF5 hXY HI h5
            generalize strB X = S1 at e1 hbeq
            generalize strB Y = S2 at e2 hbeq
            go_wp2
            go_quiet (fail)
            rename Nat => kq
            go_wp2
            refine bodyPost_ret (v := .tuple #[.agg #[.int .i64 0, .slice none 0 0], .int .i64 0, .int .i64 5]) (by simp [results, Try.results53, go_sem, x00, x01]) rfl ?_
            rw [HF.out]
            exact ⟨none, 0, rfl, World.ownsRow_nil _ _ _ _, below_q w _ (Nat.le_refl _) (below_drewN B8.out kq) _ _⟩
theorem specFrameRead (A : Option Addr) (n c : Nat) (xs : List Nat) (a : Int) (w : World) (hr : Rd w A n xs) (hn : n ≤ 1048576) (hc : n ≤ c) :
    Calls Try.prog 53 #[.slice A n c, .int .i64 a] w (FrS w (frR xs a)) :=
  (specFrameReadO A n c xs a w hr hn hc).mono fun _ _ ⟨A2, c2, he, ho, hb⟩ => ⟨A2, c2, he, Rd.of_own ho (frR_small xs a hr.small).1, own_cap ho, hb⟩
end Go.Proofs.Ytmlfhjkogcabiaa
