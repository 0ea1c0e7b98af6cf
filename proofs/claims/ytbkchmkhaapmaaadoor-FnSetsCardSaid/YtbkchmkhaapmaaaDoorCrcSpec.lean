/- The contract of the model's checksum. Condition: at most 2^21 bytes. -/
import Derived.Test.YtbkchmkhaapmaaaDoorCrcMath
namespace Go.Proofs.YtbkchmkhaapmaaaDoor
open Go.RowKit

theorem crcBit_odd (s : Nat) (h : s < 4294967296) (ho : s % 2 = 1) : bits .xor .i64 ((s : Int) / 2) 3988292384 = ((crcBit s : Nat) : Int) := by
  have e1 : (s : Int) / 2 = ((s / 2 : Nat) : Int) := by omega
  have e2 : (3988292384 : Int) = ((3988292384 : Nat) : Int) := rfl
  rw [e1, e2, xor64 _ _ (by omega) (by omega), crcBit, if_pos ho]

set_option maxRecDepth 10000 in
set_option maxHeartbeats 1000000 in
theorem specCrc (A : Option Addr) (n c : Nat) (xs : List Nat) (w : World) (hr : Rd w A n xs) (hn : n ≤ 2097152) :
    Calls Tryd.prog 59 #[.slice A n c] w fun e w' => e = .returned (.int .i64 ((crcAll xs ^^^ 4294967295 : Nat) : Int)) ∧ w = w' := by
  have HL := Lib.hid hr.len
  go_enter Tryd.func59, Tryd.ntmps59
  go_wp2
  go_loop [3, 4, 5, 6] (fun r i _ _ => ∃ k : Nat, k ≤ n ∧ i = .int .i64 (k : Int) ∧ r = .int .i64 (crcAll (xs.take k) : Nat)) (fun _ i _ _ => n - (intOf i).toNat)
  case atStart => exact ⟨0, by omega, rfl, rfl⟩
  case round =>
    obtain ⟨k, hk, rfl, rfl⟩ := hrel
    have hlt0 := crcAll_lt xs hr.small k
    by_cases hlt : k < n
    · obtain ⟨b, off, x, rfl, hbw, hx, hxs, hc⟩ := hr.at_ hlt
      have hsn := Lib.hid (crcAll_snoc xs k x hxs.out)
      obtain ⟨r, hr0⟩ : ∃ r, r = crcAll (xs.take k) := ⟨_, rfl⟩
      rw [← hr0] at hlt0 hsn ⊢
      have hx1 := xor64 r x (by omega) (by omega)
      have hs1 : r ^^^ x < 4294967296 := xor_lt32 hlt0 (by omega)
      have hb8 : Hid (crcByte r x = crcBits 8 (r ^^^ x)) := rfl
      generalize r ^^^ x = s0 at hx1 hs1 hb8
      clear hr0
      go_wp2
      go_loop [3, 5, 6] (fun t i _ => ∃ j : Nat, j ≤ 8 ∧ i = .int .i64 (j : Int) ∧ t = .int .i64 (crcBits j s0 : Nat)) (fun _ i _ => 8 - (intOf i).toNat)
      case atStart => exact ⟨0, by omega, rfl, rfl⟩
      case round =>
        obtain ⟨j, hj, rfl, rfl⟩ := hrel
        have hs2 := crcBits_lt j s0 hs1
        have hst : Hid (crcBits (j + 1) s0 = crcBit (crcBits j s0)) := rfl
        obtain ⟨s, hs⟩ : ∃ s, s = crcBits j s0 := ⟨_, rfl⟩
        have HS := Lib.hid hs
        rw [← hs] at hs2 hst ⊢
        clear hs
        by_cases hlt2 : j < 8
        · by_cases ho : s % 2 = 1
          · have ho2 : ((s : Int) % 2 == 1) = true := by rw [beq_iff_eq]; omega
            have hb := crcBit_odd s hs2 ho
            clear ho
            go_wp2
            go_round
            case rel => exact ⟨j + 1, by omega, by go_num, by rw [hst.out]⟩
            case measure => simp [intOf]; omega
          · have ho2 : ((s : Int) % 2 == 1) = false := beq_eq_false_iff_ne.mpr (by omega)
            have hb := Lib.hid (crcBit_even s ho)
            clear ho
            go_wp2
            go_round
            case rel => exact ⟨j + 1, by omega, by go_num, by rw [hst.out, ← hb.out]⟩
            case measure => simp [intOf]; omega
        · obtain rfl : j = 8 := by omega
          go_wp2
          go_round
          case rel => exact ⟨k + 1, by omega, by go_num, by rw [hsn.out, hb8.out, HS.out]⟩
          case measure => simp [intOf]; omega
    · obtain rfl : k = n := by omega
      rw [List.take_of_length_le (by rw [HL.out]; omega)] at hlt0 ⊢
      have hx1 : bits .xor .i64 ((crcAll xs : Nat) : Int) 4294967295 = ((crcAll xs ^^^ 4294967295 : Nat) : Int) := xor64 (crcAll xs) 4294967295 (by omega) (by omega)
      obtain ⟨s0, hs0⟩ : ∃ s0, s0 = crcAll xs ^^^ 4294967295 := ⟨_, rfl⟩
      rw [← hs0] at hx1
      have HS0 := Lib.hid hs0
      clear hs0
      go_wp2
      go_ret
      exact ⟨by rw [← HS0.out]; rfl, rfl⟩
end Go.Proofs.YtbkchmkhaapmaaaDoor
