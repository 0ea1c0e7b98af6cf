/- The checksum changes with any one byte (no program; no condition). Parted from YtbkchmkhaapmaaaDoorCrcOne. -/
import Derived.Test.YtbkchmkhaapmaaaDoorFrBytes
namespace Go.Proofs.YtbkchmkhaapmaaaDoor
open Go.RowKit

theorem high_bit (a : Nat) (h : a < 2147483648) : 2147483648 ≤ a ^^^ 3988292384 := by
  rcases Nat.lt_or_ge (a ^^^ 3988292384) 2147483648 with h1 | h1
  · exfalso
    have h2 : (a ^^^ 3988292384).testBit 31 = false := Nat.testBit_lt_two_pow (by simpa using h1)
    have h3 : a.testBit 31 = false := Nat.testBit_lt_two_pow (by simpa using h)
    rw [Nat.testBit_xor, h3] at h2
    have h4 : (3988292384 : Nat).testBit 31 = true := by decide
    rw [h4] at h2
    simp at h2
  · exact h1
theorem xor_cancel {a b c : Nat} (h : a ^^^ c = b ^^^ c) : a = b := by
  have := congrArg (· ^^^ c) h
  simpa [Nat.xor_assoc] using this
theorem crcBit_inj {a b : Nat} (ha : a < 4294967296) (hb : b < 4294967296) (h : crcBit a = crcBit b) : a = b := by
  unfold crcBit at h
  have ha2 := high_bit (a / 2) (by omega)
  have hb2 := high_bit (b / 2) (by omega)
  by_cases h1 : a % 2 = 1 <;> by_cases h2 : b % 2 = 1
  · rw [if_pos h1, if_pos h2] at h
    have := xor_cancel h
    omega
  · rw [if_pos h1, if_neg h2] at h
    omega
  · rw [if_neg h1, if_pos h2] at h
    omega
  · rw [if_neg h1, if_neg h2] at h
    omega
theorem crcBits_inj : ∀ (k : Nat) {a b : Nat}, a < 4294967296 → b < 4294967296 → crcBits k a = crcBits k b → a = b
  | 0, _, _, _, _, h => h
  | k + 1, a, b, ha, hb, h => crcBits_inj k ha hb (crcBit_inj (crcBits_lt k a ha) (crcBits_lt k b hb) h)
theorem crcByte_lt {r x : Nat} (hr : r < 4294967296) (hx : x < 256) : crcByte r x < 4294967296 := crcBits_lt _ _ (xor_lt32 hr (by omega))
theorem crcByte_injL {r s x : Nat} (hr : r < 4294967296) (hs : s < 4294967296) (hx : x < 256) (h : crcByte r x = crcByte s x) : r = s :=
  xor_cancel (crcBits_inj 8 (xor_lt32 hr (by omega)) (xor_lt32 hs (by omega)) h)
theorem crcByte_injR {r x y : Nat} (hr : r < 4294967296) (hx : x < 256) (hy : y < 256) (h : crcByte r x = crcByte r y) : x = y := by
  have := crcBits_inj 8 (xor_lt32 hr (by omega)) (xor_lt32 hr (by omega)) h
  rw [Nat.xor_comm r x, Nat.xor_comm r y] at this
  exact xor_cancel this
theorem fold_inj : ∀ (l : List Nat) {r s : Nat}, (∀ x ∈ l, x < 256) → r < 4294967296 → s < 4294967296 → l.foldl crcByte r = l.foldl crcByte s → r = s
  | [], _, _, _, _, _, h => h
  | x :: l, r, s, hl, hr, hs, h => by
    have hx := hl x (by simp)
    rw [List.foldl_cons, List.foldl_cons] at h
    have := fold_inj l (fun y hy => hl y (by simp [hy])) (crcByte_lt hr hx) (crcByte_lt hs hx) h
    exact crcByte_injL hr hs hx this
theorem fold_set : ∀ (l : List Nat) (j : Nat) {r x y : Nat}, (∀ x ∈ l, x < 256) → r < 4294967296 → l[j]? = some x → y < 256 → (l.set j y).foldl crcByte r = l.foldl crcByte r → y = x
  | [], _, _, _, _, _, _, h, _, _ => by simp at h
  | a :: l, 0, r, x, y, hl, hr, h, hy, he => by
    simp at h
    subst h
    rw [List.set_cons_zero, List.foldl_cons, List.foldl_cons] at he
    have ha := hl a (by simp)
    have := fold_inj l (fun z hz => hl z (by simp [hz])) (crcByte_lt hr hy) (crcByte_lt hr ha) he
    exact crcByte_injR hr hy ha this
  | a :: l, j + 1, r, x, y, hl, hr, h, hy, he => by
    rw [List.getElem?_cons_succ] at h
    rw [List.set_cons_succ, List.foldl_cons, List.foldl_cons] at he
    exact fold_set l j (fun z hz => hl z (by simp [hz])) (crcByte_lt hr (hl a (by simp))) h hy he
/-- One byte is turned: the checksum is another. -/
theorem crcV_one {l : List Nat} {j x y : Nat} (hl : ∀ x ∈ l, x < 256) (h : l[j]? = some x) (hy : y < 256) (he : crcV (l.set j y) = crcV l) : y = x := by
  unfold crcV at he
  exact fold_set l j hl (by omega) h hy (xor_cancel he)
end Go.Proofs.YtbkchmkhaapmaaaDoor
