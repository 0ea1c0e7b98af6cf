/- The checksum changes with any one byte (no program; no condition). -/
import Derived.Test.YtmlfhjkogcabiaaFrMath
namespace Go.Proofs.Ytmlfhjkogcabiaa
open Go.RowKit

theorem high_bit (a : Nat) (h : a < 2147483648) : 2147483648 ≤ a ^^^ 3988292384 := by
  rcases Nat.lt_or_ge (a ^^^ 3988292384) 2147483648 with h1 | h1
  · exfalso
    have h2 : (a ^^^ 3988292384).testBit 31 = false := Nat.testBit_lt_two_pow (by simpa using h1)
    have h3 : a.testBit 31 = false := Nat.testBit_lt_two_pow (by simpa using h)
    rw [Nat.testBit_xor, h3] at h2
    have h4 : (3988292384 : Nat).testBit 31 = true := by decide
    rw [h4] at h2
    simp at h2
  · exact h1
theorem xor_cancel {a b c : Nat} (h : a ^^^ c = b ^^^ c) : a = b := by
  have := congrArg (· ^^^ c) h
  simpa [Nat.xor_assoc] using this
theorem crcBit_inj {a b : Nat} (ha : a < 4294967296) (hb : b < 4294967296) (h : crcBit a = crcBit b) : a = b := by
  unfold crcBit at h
  have ha2 := high_bit (a / 2) (by omega)
  have hb2 := high_bit (b / 2) (by omega)
  by_cases h1 : a % 2 = 1 <;> by_cases h2 : b % 2 = 1
  · rw [if_pos h1, if_pos h2] at h
    have := xor_cancel h
    omega
  · rw [if_pos h1, if_neg h2] at h
    omega
  · rw [if_neg h1, if_pos h2] at h
    omega
  · rw [if_neg h1, if_neg h2] at h
    omega
theorem crcBits_inj : ∀ (k : Nat) {a b : Nat}, a < 4294967296 → b < 4294967296 → crcBits k a = crcBits k b → a = b
  | 0, _, _, _, _, h => h
  | k + 1, a, b, ha, hb, h => crcBits_inj k ha hb (crcBit_inj (crcBits_lt k a ha) (crcBits_lt k b hb) h)
theorem crcByte_lt {r x : Nat} (hr : r < 4294967296) (hx : x < 256) : crcByte r x < 4294967296 := crcBits_lt _ _ (xor_lt32 hr (by omega))
theorem crcByte_injL {r s x : Nat} (hr : r < 4294967296) (hs : s < 4294967296) (hx : x < 256) (h : crcByte r x = crcByte s x) : r = s :=
  xor_cancel (crcBits_inj 8 (xor_lt32 hr (by omega)) (xor_lt32 hs (by omega)) h)
theorem crcByte_injR {r x y : Nat} (hr : r < 4294967296) (hx : x < 256) (hy : y < 256) (h : crcByte r x = crcByte r y) : x = y := by
  have := crcBits_inj 8 (xor_lt32 hr (by omega)) (xor_lt32 hr (by omega)) h
  rw [Nat.xor_comm r x, Nat.xor_comm r y] at this
  exact xor_cancel this
theorem fold_inj : ∀ (l : List Nat) {r s : Nat}, (∀ x ∈ l, x < 256) → r < 4294967296 → s < 4294967296 → l.foldl crcByte r = l.foldl crcByte s → r = s
  | [], _, _, _, _, _, h => h
  | x :: l, r, s, hl, hr, hs, h => by
    have hx := hl x (by simp)
    rw [List.foldl_cons, List.foldl_cons] at h
    have := fold_inj l (fun y hy => hl y (by simp [hy])) (crcByte_lt hr hx) (crcByte_lt hs hx) h
    exact crcByte_injL hr hs hx this
theorem fold_set : ∀ (l : List Nat) (j : Nat) {r x y : Nat}, (∀ x ∈ l, x < 256) → r < 4294967296 → l[j]? = some x → y < 256 → (l.set j y).foldl crcByte r = l.foldl crcByte r → y = x
  | [], _, _, _, _, _, _, h, _, _ => by simp at h
  | a :: l, 0, r, x, y, hl, hr, h, hy, he => by
    simp at h
    subst h
    rw [List.set_cons_zero, List.foldl_cons, List.foldl_cons] at he
    have ha := hl a (by simp)
    have := fold_inj l (fun z hz => hl z (by simp [hz])) (crcByte_lt hr hy) (crcByte_lt hr ha) he
    exact crcByte_injR hr hy ha this
  | a :: l, j + 1, r, x, y, hl, hr, h, hy, he => by
    rw [List.getElem?_cons_succ] at h
    rw [List.set_cons_succ, List.foldl_cons, List.foldl_cons] at he
    exact fold_set l j (fun z hz => hl z (by simp [hz])) (crcByte_lt hr (hl a (by simp))) h hy he
/-- One byte is turned: the checksum is another. -/
theorem crcV_one {l : List Nat} {j x y : Nat} (hl : ∀ x ∈ l, x < 256) (h : l[j]? = some x) (hy : y < 256) (he : crcV (l.set j y) = crcV l) : y = x := by
  unfold crcV at he
  exact fold_set l j hl (by omega) h hy (xor_cancel he)

/-! ### one byte of a frame is turned -/
theorem set_take_hi {α : Type} (l : List α) (j k : Nat) (y : α) (h : k ≤ j) : (l.set j y).take k = l.take k := by
  rw [List.take_set, List.set_eq_of_length_le]
  rw [List.length_take]
  omega
theorem set_drop_lo {α : Type} (l : List α) (j k : Nat) (y : α) (h : j < k) : (l.set j y).drop k = l.drop k := by rw [List.drop_set, if_pos h]
theorem set_drop_hi {α : Type} (l : List α) (j k : Nat) (y : α) (h : k ≤ j) : (l.set j y).drop k = (l.drop k).set (j - k) y := by rw [List.drop_set, if_neg (by omega)]
theorem fixNat_lo (l : List Nat) (j k y : Nat) (h : j < k) : fixNat (l.set j y) k 6 = fixNat l k 6 := by
  unfold fixNat
  rw [set_drop_lo _ _ _ _ h]
theorem fixNat_hi (l : List Nat) (j k y : Nat) (h : k + 6 ≤ j) : fixNat (l.set j y) k 6 = fixNat l k 6 := by
  unfold fixNat
  rw [set_drop_hi _ _ _ _ (by omega), set_take_hi _ _ _ _ (by omega)]
theorem fixNat_in {l : List Nat} {j k x y : Nat} (hl : ∀ x ∈ l, x < 256) (hx : l[j]? = some x) (hy : y < 256) (h1 : k ≤ j) (h2 : j < k + 6) (h3 : k + 6 ≤ l.length) (he : fixNat (l.set j y) k 6 = fixNat l k 6) : y = x := by
  have hs : ∀ z ∈ l.set j y, z < 256 := fun z hz => by
    rcases List.mem_or_eq_of_mem_set hz with h | rfl
    · exact hl z h
    · exact hy
  have e1 := cut_fix hs k (by rw [List.length_set]; exact h3)
  have e2 := cut_fix hl k h3
  rw [he, ← e2, set_drop_hi _ _ _ _ h1, List.take_set] at e1
  have := congrArg (fun m : List Nat => m[j - k]?) e1
  rw [List.getElem?_set_self (by rw [List.length_take, List.length_drop]; omega), List.getElem?_take, if_pos (by omega), List.getElem?_drop, show k + (j - k) = j by omega, hx] at this
  injection this
/-- The frame at the head of rs is whole and right. -/
structure FrHd (rs : List Nat) : Prop where
  s : ∀ x ∈ rs, x < 256
  l : 20 + sizeR rs ≤ rs.length
  h : fixNat rs 8 6 = crcV (rs.take 8)
  d : fixNat rs 14 6 = crcV (dataR rs)
theorem FrHd.one {rs : List Nat} {j x y : Nat} (h : FrHd rs) (hj : j < 20 + sizeR rs) (hx : rs[j]? = some x) (hy : y < 256) (k : FrHd (rs.set j y)) : y = x := by
  have hl := h.l
  rcases Nat.lt_or_ge j 8 with h1 | h1
  · have e := k.h
    rw [fixNat_lo _ _ _ _ h1, h.h, List.take_set] at e
    exact crcV_one (fun z hz => h.s z (List.mem_of_mem_take hz)) (by rw [List.getElem?_take, if_pos h1]; exact hx) hy e.symm
  · rcases Nat.lt_or_ge j 14 with h2 | h2
    · have e := k.h
      rw [set_take_hi _ _ _ _ h1, ← h.h] at e
      exact fixNat_in h.s hx hy h1 (by omega) (by omega) e
    · have hsz : sizeR (rs.set j y) = sizeR rs := fixNat_hi rs j 2 y (by omega)
      rcases Nat.lt_or_ge j 20 with h3 | h3
      · have e := k.d
        have hd : dataR (rs.set j y) = dataR rs := by unfold dataR; rw [hsz, set_drop_lo _ _ _ _ h3]
        rw [hd, ← h.d] at e
        exact fixNat_in h.s hx hy h2 (by omega) (by omega) e
      · have e := k.d
        have hd : dataR (rs.set j y) = (dataR rs).set (j - 20) y := by unfold dataR; rw [hsz, set_drop_hi _ _ _ _ h3, List.take_set]
        rw [hd, fixNat_hi _ _ _ _ (by omega), h.d] at e
        exact crcV_one (data_small h.s) (by unfold dataR; rw [List.getElem?_take, if_pos (by omega), List.getElem?_drop, show 20 + (j - 20) = j by omega]; exact hx) hy e.symm
end Go.Proofs.Ytmlfhjkogcabiaa
