/- The contracts of the two readers of six bytes. -/
import Derived.Test.YtmjpckgagikdoaaCopy
import Derived.Test.YtmjpckgagikdoaaBits
namespace Go.Proofs.Ytmjpckgagikdoaa
open Go.RowKit

/-- The number of the first k bytes from 'at' on, the highest first. -/
def fixNat (xs : List Nat) (a k : Nat) : Nat := ((xs.drop a).take k).foldl (fun n x => n * 256 + x) 0

theorem fixNat_zero (xs : List Nat) (a : Nat) : fixNat xs a 0 = 0 := by simp [fixNat]
theorem fixNat_succ (xs : List Nat) (a k x : Nat) (h : xs[a + k]? = some x) : fixNat xs a (k + 1) = fixNat xs a k * 256 + x := by
  unfold fixNat
  have h2 : (xs.drop a)[k]? = some x := by rw [List.getElem?_drop]; exact h
  obtain ⟨hl, he⟩ := List.getElem?_eq_some_iff.1 h2
  rw [List.take_succ_eq_append_getElem hl, List.foldl_append, he]
  rfl
theorem fixNat_lt (xs : List Nat) (hs : ∀ x ∈ xs, x < 256) (a k : Nat) (hk : a + k ≤ xs.length) : fixNat xs a k < 256 ^ k := by
  induction k with
  | zero => simp [fixNat_zero]
  | succ k ih =>
    have hl : a + k < xs.length := by omega
    rw [fixNat_succ xs a k _ (List.getElem?_eq_getElem hl), Nat.pow_succ]
    have := ih (by omega)
    have := hs _ (List.getElem_mem hl)
    omega

def fixOk (a : Int) (n : Nat) : Bool := decide (0 ≤ a ∧ a + 6 ≤ n)
def fixVal (xs : List Nat) (a : Int) (n : Nat) : Value := .tuple #[.int .i64 (if fixOk a n then (fixNat xs a.toNat 6 : Nat) else 0), .bool (fixOk a n)]

set_option maxHeartbeats 400000 in
theorem specGetFix (A : Option Addr) (n c : Nat) (a : Int) (xs : List Nat) (w : World) (hr : Rd w A n xs) (hn : n ≤ 2097152) (h1 : -9223372036854775808 ≤ a) (h2 : a ≤ 9223372036854775807) :
    Calls Try.prog 24 #[.slice A n c, .int .i64 a] w fun e w' => e = .returned (fixVal xs a n) ∧ w = w' := by
  by_cases hok : 0 ≤ a ∧ a + 6 ≤ n
  · have hv : fixVal xs a n = .tuple #[.int .i64 (fixNat xs a.toNat 6 : Nat), .bool true] := by simp [fixVal, fixOk, hok]
    obtain ⟨ha0, ha6⟩ := hok
    obtain ⟨p, rfl⟩ : ∃ p : Nat, a = p := ⟨a.toNat, by omega⟩
    have HV := Lib.hid hv
    clear hv
    go_enter Try.func24, Try.ntmps24
    go_wp2
    go_loop [6, 7] (fun t i => ∃ k : Nat, k ≤ 6 ∧ i = .int .i64 ((p + k : Nat) : Int) ∧ t = .int .i64 (fixNat xs p k : Nat)) (fun _ i => p + 6 - (intOf i).toNat)
    case atStart => exact ⟨0, by omega, rfl, by rw [fixNat_zero]; rfl⟩
    case round =>
      obtain ⟨k, hk, rfl, rfl⟩ := hrel
      by_cases hlt : k < 6
      · obtain ⟨b, off, x, rfl, hbw, hx, hxs, hc⟩ := hr.at_ (k := p + k) (by omega)
        have hb : fixNat xs p k < 1099511627776 := Nat.lt_of_lt_of_le (fixNat_lt xs hr.small p k (by rw [hr.len]; omega)) (Nat.pow_le_pow_right (n := 256) (j := 5) (by omega) (by omega))
        have hs := Lib.hid (fixNat_succ xs p k x hxs.out)
        go_wp2
        go_round
        case rel => exact ⟨k + 1, by omega, by go_num, by rw [hs.out]; go_num⟩
        case measure => simp [intOf]; omega
      · obtain rfl : k = 6 := by omega
        go_wp2
        go_ret2
        rw [HV.out]
        exact ⟨rfl, rfl⟩
  · have hv : fixVal xs a n = .tuple #[.int .i64 0, .bool false] := by simp [fixVal, fixOk, hok]
    rw [hv]
    clear hv
    by_cases ha : a < 0
    · go_enter Try.func24, Try.ntmps24
      go_wp2
      go_ret2
      exact ⟨rfl, rfl⟩
    · go_enter Try.func24, Try.ntmps24
      go_wp2
      go_ret2
      exact ⟨rfl, rfl⟩

set_option maxHeartbeats 400000 in
theorem implGetFix (A : Option Addr) (n c : Nat) (a : Int) (xs : List Nat) (w : World) (hr : Rd w A n xs) (hn : n ≤ 2097152) (h1 : -9223372036854775808 ≤ a) (h2 : a ≤ 9223372036854775807) :
    Calls Try.prog 25 #[.slice A n c, .int .i64 a] w fun e w' => e = .returned (fixVal xs a n) ∧ w = w' := by
  by_cases hok : 0 ≤ a ∧ a + 6 ≤ n
  · have hv : fixVal xs a n = .tuple #[.int .i64 (fixNat xs a.toNat 6 : Nat), .bool true] := by simp [fixVal, fixOk, hok]
    obtain ⟨ha0, ha6⟩ := hok
    obtain ⟨p, rfl⟩ : ∃ p : Nat, a = p := ⟨a.toNat, by omega⟩
    have HV := Lib.hid hv
    clear hv
    go_enter Try.func25, Try.ntmps25
    go_wp2
    go_loop [6, 17] (fun t i => ∃ k : Nat, k ≤ 6 ∧ i = .int .i64 (k : Int) ∧ t = .int .i64 (fixNat xs p k : Nat)) (fun _ i => 6 - (intOf i).toNat)
    case atStart => exact ⟨0, by omega, rfl, by rw [fixNat_zero]; rfl⟩
    case round =>
      obtain ⟨k, hk, rfl, rfl⟩ := hrel
      by_cases hlt : k < 6
      · obtain ⟨b, off, x, rfl, hbw, hx, hxs, hc⟩ := hr.at_ (k := p + k) (by omega)
        have hb : fixNat xs p k < 1099511627776 := Nat.lt_of_lt_of_le (fixNat_lt xs hr.small p k (by rw [hr.len]; omega)) (Nat.pow_le_pow_right (n := 256) (j := 5) (by omega) (by omega))
        have hs := Lib.hid (fixNat_succ xs p k x hxs.out)
        go_wp2
        go_round
        case rel => exact ⟨k + 1, by omega, by go_num, by rw [hs.out, or256 _ _ hb hx]; go_num⟩
        case measure => simp [intOf]; omega
      · obtain rfl : k = 6 := by omega
        go_wp2
        go_ret2
        rw [HV.out]
        exact ⟨rfl, rfl⟩
  · have hv : fixVal xs a n = .tuple #[.int .i64 0, .bool false] := by simp [fixVal, fixOk, hok]
    rw [hv]
    clear hv
    by_cases ha : a < 0
    · go_enter Try.func25, Try.ntmps25
      go_wp2
      go_ret2
      exact ⟨rfl, rfl⟩
    · go_enter Try.func25, Try.ntmps25
      go_wp2
      go_ret2
      exact ⟨rfl, rfl⟩
end Go.Proofs.Ytmjpckgagikdoaa
