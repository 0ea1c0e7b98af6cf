/- The contract of the program's function that asks whether the first two parts of a frame are right. Condition: at most 2^20 bytes. -/
import Derived.Test.YtmlfhjkogcabiaaFrGive
import Derived.Test.YtmlfhjkogcabiaaConv
import Derived.Deep.RegionWith
import Derived.Deep.QuietTactic
import Derived.BigQuiet
namespace Go.Proofs.Ytmlfhjkogcabiaa
open Go.RowKit

set_option maxRecDepth 10000 in
set_option maxHeartbeats 2000000 in
theorem implHead (A : Option Addr) (n c : Nat) (rs : List Nat) (w : World) (hr : Rd w A n rs) (hn : n ≤ 1048576) (hc : n ≤ c) (h14 : 14 ≤ n) :
    Calls Try.prog 88 #[.slice A n c] w (FTell w (headB rs)) := by
  obtain ⟨b, off, x0, rfl, hbw, hx0, h0, c0⟩ := hr.at_ (k := 0) (by omega)
  obtain ⟨b', off', x1, e1, _, hx1, h1, c1⟩ := hr.at_ (k := 1) (by omega)
  injection e1 with e1
  injection e1 with e1 e2
  subst e1 e2
  rw [Nat.add_zero] at c0
  have g0 : rs.getD 0 0 = x0 := by rw [List.getD_eq_getElem?_getD, h0.out]; rfl
  have g1 : rs.getD 1 0 = x1 := by rw [List.getD_eq_getElem?_getD, h1.out]; rfl
  have C2 : Hid (∀ W, Below w.heap.size w W → Calls Try.prog 89 #[.slice (some ⟨b, off, none⟩) n c, .int .i64 2] W fun e w' => e = .returned (.int .i64 (fixNat rs 2 6 : Nat)) ∧ W = w') := Lib.hid (fun W (h : Below w.heap.size w W) => fixAt_any (some ⟨b, off, none⟩) n c 2 rs W (hr.below h) (by omega) (by omega))
  have C8 : Hid (∀ W, Below w.heap.size w W → Calls Try.prog 89 #[.slice (some ⟨b, off, none⟩) n c, .int .i64 8] W fun e w' => e = .returned (.int .i64 (fixNat rs 8 6 : Nat)) ∧ W = w') := Lib.hid (fun W (h : Below w.heap.size w W) => fixAt_any (some ⟨b, off, none⟩) n c 8 rs W (hr.below h) (by omega) (by omega))
  have hcut : Rd w (some ⟨b, off, none⟩) 8 (rs.take 8) := by
    have h := hr.cut (p := 0) (m := 8) (by omega)
    exact h
  have CC := Lib.hid (fun W (h : Below w.heap.size w W) => implCrc (some ⟨b, off, none⟩) 8 c (rs.take 8) W (hcut.below h) (by omega))
  have CK := Lib.hid (fun W => kindOk_any (x1 : Int) W)
  have HV : Hid (headB rs = decide (x0 = 71 ∧ 1 ≤ x1 ∧ x1 ≤ 3 ∧ fixNat rs 2 6 ≤ 60000 ∧ fixNat rs 8 6 = crcV (rs.take 8))) := Lib.hid (by unfold headB; rw [g0, g1])
  have hcrc : Hid (crcV (rs.take 8) = crcAll (rs.take 8) ^^^ 4294967295) := Lib.hid rfl
  have hc8 : 8 ≤ c := by omega
  have hcN : ¬ (c : Int) < 8 := by omega
  have hi0 : 0 < n := by omega
  have hi1 : 1 < n := by omega
  have hwx : IntKind.i64.wrap (x1 : Int) = (x1 : Int) := by rw [IntKind.wrap_i64]; omega
  have hz2 : (2 : Int) = ((2 : Nat) : Int) := rfl
  have hz8 : (8 : Int) = ((8 : Nat) : Int) := rfl
  generalize crcV (rs.take 8) = cv at HV hcrc
  rw [← hcrc.out] at CC
  generalize fixNat rs 2 6 = f2 at HV C2
  generalize fixNat rs 8 6 = f8 at HV C8
  clear hr hcut g0 g1 hz2 hz8 hcrc h0 h1
  by_cases k0 : x0 = 71
  · have d0 : ((x0 : Int) == 71) = true := by simp [k0]
    by_cases k1 : 1 ≤ x1 ∧ x1 ≤ 3
    · have d1 : decide (1 ≤ (x1 : Int) ∧ (x1 : Int) ≤ 3) = true := by simp; omega
      rw [d1] at CK
      by_cases k2 : f2 ≤ 60000
      · have d2 : decide ((f2 : Int) ≤ 60000) = true := by simp; omega
        have d2' : decide (f2 ≤ 60000) = true := by simp; omega
        by_cases k3 : f8 = cv
        · have d3 : ((f8 : Int) == (cv : Int)) = true := by simp [k3]
          have HV' : Hid (headB rs = true) := Lib.hid (by rw [HV.out]; simp [k0, k1, k2, k3])
          go_enter Try.func88, Try.ntmps88
          go_wp2
          go_region_with (first
            | (go_at_call 73; ((with_reducible refine (CK.out _).mono ?_)); rintro e wk ⟨rfl, rfl⟩)
            | (go_at_call 89; ((with_reducible refine (C2.out _ (by first | exact Below.refl _ _ | exact (Below.refl _ _).drew | exact below_drewN (Below.refl _ _) _)).mono ?_)); rintro e w2 ⟨rfl, rfl⟩)
            | (go_at_call 89; ((with_reducible refine (C8.out _ (by first | exact Below.refl _ _ | exact (Below.refl _ _).drew | exact below_drewN (Below.refl _ _) _)).mono ?_)); rintro e w8 ⟨rfl, rfl⟩)
            | (go_at_call 51; ((with_reducible refine (CC.out _ (by first | exact Below.refl _ _ | exact (Below.refl _ _).drew | exact below_drewN (Below.refl _ _) _)).mono ?_)); rintro e w9 ⟨rfl, hb9⟩; have HB9 : Hid (Below w.heap.size w w9) := Lib.hid (by first | exact hb9 | exact ⟨hb9.os, hb9.tape, hb9.output, hb9.size, hb9.block⟩); have y0 := (HB9.out.cell (p := ⟨b, off, none⟩) hbw).trans c0; have y1 := (HB9.out.cell (p := ⟨b, off + 1, none⟩) hbw).trans c1))
          all_goals
            go_wp2
            go_ret
            rw [HV'.out]
            exact ⟨fr_bool (by first | rfl | (simp <;> omega)), by first | exact Below.refl _ _ | exact (Below.refl _ _).drew | exact below_drewN (Below.refl _ _) _ | exact HB9.out | exact HB9.out.drew⟩
        · have d3 : ((f8 : Int) == (cv : Int)) = false := by simp; omega
          have HV' : Hid (headB rs = false) := Lib.hid (by rw [HV.out]; simp [k3])
          go_enter Try.func88, Try.ntmps88
          go_wp2
          go_region_with (first
            | (go_at_call 73; ((with_reducible refine (CK.out _).mono ?_)); rintro e wk ⟨rfl, rfl⟩)
            | (go_at_call 89; ((with_reducible refine (C2.out _ (by first | exact Below.refl _ _ | exact (Below.refl _ _).drew | exact below_drewN (Below.refl _ _) _)).mono ?_)); rintro e w2 ⟨rfl, rfl⟩)
            | (go_at_call 89; ((with_reducible refine (C8.out _ (by first | exact Below.refl _ _ | exact (Below.refl _ _).drew | exact below_drewN (Below.refl _ _) _)).mono ?_)); rintro e w8 ⟨rfl, rfl⟩)
            | (go_at_call 51; ((with_reducible refine (CC.out _ (by first | exact Below.refl _ _ | exact (Below.refl _ _).drew | exact below_drewN (Below.refl _ _) _)).mono ?_)); rintro e w9 ⟨rfl, hb9⟩; have HB9 : Hid (Below w.heap.size w w9) := Lib.hid (by first | exact hb9 | exact ⟨hb9.os, hb9.tape, hb9.output, hb9.size, hb9.block⟩); have y0 := (HB9.out.cell (p := ⟨b, off, none⟩) hbw).trans c0; have y1 := (HB9.out.cell (p := ⟨b, off + 1, none⟩) hbw).trans c1))
          all_goals
            go_wp2
            go_ret
            rw [HV'.out]
            exact ⟨fr_bool (by first | rfl | (simp <;> omega)), by first | exact Below.refl _ _ | exact (Below.refl _ _).drew | exact below_drewN (Below.refl _ _) _ | exact HB9.out | exact HB9.out.drew⟩
      · have d2 : decide ((f2 : Int) ≤ 60000) = false := by simp; omega
        have d2' : decide (f2 ≤ 60000) = false := by simp; omega
        have HV' : Hid (headB rs = false) := Lib.hid (by rw [HV.out]; simp; omega)
        go_enter Try.func88, Try.ntmps88
        go_wp2
        go_quiet (first
          | (go_at_call 73; exact Calls.quiet_of_same ((CK.out _).mono fun _ _ h => ⟨h.1, h.2.symm⟩))
          | (go_at_call 89; exact Calls.quiet_of_same ((C2.out _ (by first | exact Below.refl _ _ | exact (Below.refl _ _).drew | exact below_drewN (Below.refl _ _) _)).mono fun _ _ h => ⟨h.1, h.2.symm⟩)))
        rename Nat => kq
        go_wp2
        go_ret
        rw [HV'.out]
        exact ⟨fr_bool (by first | rfl | (simp <;> omega)), by first | exact Below.refl _ _ | exact (Below.refl _ _).drew | exact below_drewN (Below.refl _ _) _⟩
    · have HV' : Hid (headB rs = false) := Lib.hid (by rw [HV.out]; simp; omega)
      have d1 : decide (1 ≤ (x1 : Int) ∧ (x1 : Int) ≤ 3) = false := by simp; omega
      rw [d1] at CK
      go_enter Try.func88, Try.ntmps88
      go_wp2
      go_quiet (first
        | (go_at_call 73; exact Calls.quiet_of_same ((CK.out _).mono fun _ _ h => ⟨h.1, h.2.symm⟩))
        | (go_at_call 89; exact Calls.quiet_of_same ((C2.out _ (by first | exact Below.refl _ _ | exact (Below.refl _ _).drew | exact below_drewN (Below.refl _ _) _)).mono fun _ _ h => ⟨h.1, h.2.symm⟩)))
      rename Nat => kq
      go_wp2
      go_ret
      rw [HV'.out]
      exact ⟨fr_bool (by first | rfl | (simp <;> omega)), by first | exact Below.refl _ _ | exact (Below.refl _ _).drew | exact below_drewN (Below.refl _ _) _⟩
  · have d0 : ((x0 : Int) == 71) = false := by simp; omega
    have HV' : Hid (headB rs = false) := Lib.hid (by rw [HV.out]; simp [k0])
    go_enter Try.func88, Try.ntmps88
    go_wp2
    go_quiet (first
      | (go_at_call 73; exact Calls.quiet_of_same ((CK.out _).mono fun _ _ h => ⟨h.1, h.2.symm⟩))
      | (go_at_call 89; exact Calls.quiet_of_same ((C2.out _ (by first | exact Below.refl _ _ | exact (Below.refl _ _).drew | exact below_drewN (Below.refl _ _) _)).mono fun _ _ h => ⟨h.1, h.2.symm⟩)))
    rename Nat => kq
    go_wp2
    go_ret
    rw [HV'.out]
    exact ⟨fr_bool (by first | rfl | (simp <;> omega)), by first | exact Below.refl _ _ | exact (Below.refl _ _).drew | exact below_drewN (Below.refl _ _) _⟩
end Go.Proofs.Ytmlfhjkogcabiaa
