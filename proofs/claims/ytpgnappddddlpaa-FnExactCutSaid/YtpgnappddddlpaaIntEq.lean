/- Parted from YtpgnappddddlpaaGrEq: the contracts of the functions that only their own laws reach. -/
import Derived.Test.YtpgnappddddlpaaGrEq
namespace Go.Proofs.Ytpgnappddddlpaa
open Go.RowKit

set_option maxRecDepth 10000 in
set_option maxHeartbeats 1000000 in
theorem eqInts_any (A B : Option Addr) (n c d : Nat) (xs : List Int) (w : World) (ha : SlI w A n xs) (hb : SlI w B n xs) (hn : n ≤ 2097152) :
    Calls Try.prog 37 #[.slice A n c, .slice B n d] w (GTell w true) := by
  have HA := Lib.hid ha
  have HB := Lib.hid hb
  clear ha hb
  go_enter Try.func37, Try.ntmps37
  go_wp2
  go_loopw [5] (fun i wr => ∃ k : Nat, k ≤ n ∧ i = .int .i64 k ∧ Hid (Below w.heap.size w wr)) (fun i _ => n - (intOf i).toNat)
  case atStart => exact ⟨0, Nat.zero_le _, rfl, Lib.hid (Below.refl _ _)⟩
  case round =>
    obtain ⟨k, hk, rfl, hbel⟩ := hrel
    by_cases hlt : k < n
    · obtain ⟨b, off, e, rfl, hbw, he, c0⟩ := HA.out.at_ hlt
      obtain ⟨b', off', e', rfl, hbw', he', c0'⟩ := HB.out.at_ hlt
      have hee : e' = e := by have h1 := he.out; rw [he'.out] at h1; injection h1
      subst hee
      have c0 := (hbel.out.cell (p := ⟨b, off + k, none⟩) hbw).trans c0
      have c0' := (hbel.out.cell (p := ⟨b', off' + k, none⟩) hbw').trans c0'
      clear he he'
      go_wp2
      go_region
      go_wp2
      go_roundw
      case rel => exact ⟨k + 1, by omega, by go_num, Lib.hid (by first | exact hbel.out | exact hbel.out.drew | exact hbel.out.drew.drew)⟩
      case measure => simp [intOf]; omega
    · go_wp2
      go_ret
      exact ⟨rfl, hbel.out⟩

set_option maxRecDepth 10000 in
set_option maxHeartbeats 1000000 in
theorem markInts_any (A : Option Addr) (n c lo k : Nat) (xs : List Int) (w : World) (ho : w.ownsRow lo 3 1 (.slice A n c) n (vi xs)) (hn : n ≤ 2097152) (hk : k ≤ 8388608) :
    Calls Try.prog 38 #[.slice A n c, .int .i64 (k : Int)] w (MarkedI w lo k A n c) := by
  have hl : xs.length = n := by have := ho.1; rw [vi_len] at this; omega
  have HL := Lib.hid hl
  rcases Nat.eq_zero_or_pos n with rfl | hpos
  · obtain rfl : xs = [] := List.eq_nil_of_length_eq_zero hl
    have HO := Lib.hid ho
    clear ho hl
    go_enter Try.func38, Try.ntmps38
    go_wp2
    go_loopw [1, 5] (fun q i wr => i = .int .i64 0 ∧ q = .int .i64 (k : Int) ∧ wr = w) (fun _ _ _ => 0)
    case atStart => exact ⟨rfl, rfl, rfl⟩
    case round =>
      obtain ⟨rfl, rfl, rfl⟩ := hrel
      go_wp2
      go_ret
      exact ⟨rfl, HO.out, World.grownBy.refl _ _⟩
  · obtain ⟨g, rfl⟩ := g_own_at ho hpos
    have HO : Hid (w.ownsRow lo 3 1 (.slice (some ⟨g, 0, none⟩) n c) n (vi (markI k xs 0))) := Lib.hid (by rw [markI_zero]; exact ho)
    clear ho hl
    go_enter Try.func38, Try.ntmps38
    go_wp2
    go_loopw [1, 5] (fun q i wr => ∃ j : Nat, j ≤ n ∧ i = .int .i64 j ∧ q = .int .i64 ((k + j : Nat) : Int) ∧ Hid (wr.ownsRow lo 3 1 (.slice (some ⟨g, 0, none⟩) n c) n (vi (markI k xs j))) ∧ Hid (w.grownBy wr (some g))) (fun _ i _ => n - (intOf i).toNat)
    case atStart => exact ⟨0, Nat.zero_le _, rfl, rfl, HO, Lib.hid (World.grownBy.refl _ _)⟩
    case round =>
      clear HO
      obtain ⟨j, hj, rfl, rfl, hown, hgr⟩ := hrel
      by_cases hlt : j < n
      · have hc := hown.out.cellAt j (by omega)
        have hx : (vi (markI k xs j))[j]? = some (.int .i64 (xs[j]'(by rw [HL.out]; exact hlt))) := by
          rw [vi_get]
          unfold markI
          rw [List.getElem?_append_right (by rw [ints_len]; exact Nat.le_refl _), ints_len, Nat.sub_self, List.getElem?_drop, Nat.add_zero, List.getElem?_eq_getElem]
          rfl
        have hc0 := hc.trans hx
        have hf0 := hown.out.frozenAt j
        have HS := Lib.hid (hown.out.stored j (.int .i64 ((k + j : Nat) : Int)))
        rw [markI_step k xs j (by rw [HL.out]; exact hlt)] at HS
        clear hc hx hown
        go_wp2
        go_roundw
        case rel => exact ⟨j + 1, by omega, by go_num, by go_num, Lib.hid HS.out.1, Lib.hid (hgr.out.trans HS.out.2)⟩
        case measure => simp [intOf]; omega
      · obtain rfl : j = n := by omega
        go_wp2
        go_ret
        refine ⟨rfl, ?_, hgr.out⟩
        have h := hown.out
        rw [show markI k xs j = ints k j by rw [← HL.out, markI_full]] at h
        exact h

set_option maxRecDepth 10000 in
set_option maxHeartbeats 1000000 in
theorem heldInts_any (A : Option Addr) (n c k : Nat) (w : World) (hr : SlI w A n (ints k n)) (hn : n ≤ 2097152) (hk : k ≤ 8388608) :
    Calls Try.prog 39 #[.slice A n c, .int .i64 (k : Int)] w fun e w' => e = .returned (.int .i64 ((k + n : Nat) : Int)) ∧ w = w' := by
  have HR := Lib.hid hr
  clear hr
  go_enter Try.func39, Try.ntmps39
  go_wp2
  go_loopw [1, 5] (fun q i wr => ∃ j : Nat, j ≤ n ∧ i = .int .i64 j ∧ q = .int .i64 ((k + j : Nat) : Int) ∧ wr = w) (fun _ i _ => n - (intOf i).toNat)
  case atStart => exact ⟨0, Nat.zero_le _, rfl, by rfl, by first | rfl | trivial⟩
  case round =>
    obtain ⟨j, hj, rfl, rfl, rfl⟩ := hrel
    by_cases hlt : j < n
    · obtain ⟨b, off, e, rfl, hbw, he, c0⟩ := HR.out.at_ hlt
      obtain rfl : e = ((k + j : Nat) : Int) := by have h1 := he.out; rw [ints_get k n j hlt] at h1; injection h1 with h1; exact h1.symm
      go_wp2
      go_roundw
      case rel => exact ⟨j + 1, by omega, by go_num, by go_num, by first | rfl | trivial⟩
      case measure => simp [intOf]; omega
    · obtain rfl : j = n := by omega
      go_wp2
      go_ret
      exact ⟨rfl, rfl⟩

end Go.Proofs.Ytpgnappddddlpaa
