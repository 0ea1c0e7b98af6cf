/- Plain mathematics of decimal numerals: the value of digits, and that Atoi reads a numeral back. -/
import Derived.Lib.ItoaNum
import Derived.Lib.AtoiAllCases
namespace Go.Proofs.YtggfjnmplokccaaDoor

def val10 (l : List UInt8) : Nat := l.foldl (fun n c => n * 10 + (c.toNat - 48)) 0
theorem dec_toNat (d : Nat) (h : d < 10) : (UInt8.ofNat (48 + d)).toNat = 48 + d := by
  rw [UInt8.toNat_ofNat']
  exact Nat.mod_eq_of_lt (by omega)
theorem val10_snoc (l : List UInt8) (c : UInt8) : val10 (l ++ [c]) = val10 l * 10 + (c.toNat - 48) := by simp [val10]
theorem val10_dec (n : Nat) : val10 (Lib.decDigits n) = n := by
  induction n using Nat.strongRecOn with
  | ind n ih =>
    rw [Lib.decDigits]
    split
    · rename_i h
      have := dec_toNat n h
      simp only [val10, List.foldl_cons, List.foldl_nil]
      omega
    · rename_i h
      rw [val10_snoc, ih _ (by omega), dec_toNat _ (by omega)]
      omega
theorem dec_digit (n : Nat) : ∀ c ∈ Lib.decDigits n, 48 ≤ c.toNat ∧ c.toNat ≤ 57 := by
  induction n using Nat.strongRecOn with
  | ind n ih =>
    rw [Lib.decDigits]
    split
    · rename_i h
      intro c hc
      simp only [List.mem_singleton] at hc
      subst hc
      rw [dec_toNat n h]
      omega
    · rename_i h
      intro c hc
      rcases List.mem_append.1 hc with hc | hc
      · exact ih _ (by omega) c hc
      · simp only [List.mem_singleton] at hc
        subst hc
        rw [dec_toNat _ (by omega)]
        omega
theorem dec_ne_nil (n : Nat) : Lib.decDigits n ≠ [] := by
  rw [Lib.decDigits]
  split <;> simp
theorem dec_len15 (n : Nat) (h : n ≤ 281474976710655) : (Lib.decDigits n).length ≤ 15 := by
  have H : ∀ (k u : Nat), u < 10 ^ (k + 1) → (Lib.decDigits u).length ≤ k + 1 := by
    intro k
    induction k with
    | zero => intro u h; rw [Lib.decDigits, dif_pos (by simpa using h)]; simp
    | succ k ih =>
      intro u h
      rw [Lib.decDigits]
      split
      · simp
      · have := ih (u / 10) (by rw [Nat.pow_succ] at h; omega)
        simp
        omega
  exact H 14 n (by omega)
theorem parse_snoc (l : List UInt8) (acc u : Nat) (c : UInt8) (h : Lib.parseUint10 acc l = .ok u) (hc : 48 ≤ c.toNat ∧ c.toNat ≤ 57) (hu : u < 1844674407370955161) : Lib.parseUint10 acc (l ++ [c]) = .ok (u * 10 + (c.toNat - 48)) := by
  induction l generalizing acc with
  | nil =>
    simp only [Lib.parseUint10] at h
    injection h with h
    subst h
    simp only [List.nil_append, Lib.parseUint10]
    rw [if_pos hc, if_neg (by omega), if_neg (by omega)]
  | cons x r ih =>
    simp only [Lib.parseUint10, List.cons_append] at h ⊢
    split at h
    · rename_i h1
      rw [if_pos h1]
      split at h
      · cases h
      · rename_i h2
        rw [if_neg h2]
        split at h
        · cases h
        · rename_i h3
          rw [if_neg h3]
          exact ih _ h
    · cases h
theorem parse_dec (n : Nat) (h : n ≤ 281474976710655) : Lib.parseUint10 0 (Lib.decDigits n) = .ok n := by
  induction n using Nat.strongRecOn with
  | ind n ih =>
    rw [Lib.decDigits]
    split
    · rename_i h1
      have := dec_toNat n h1
      simp only [Lib.parseUint10, this]
      rw [if_pos (by omega), if_neg (by omega), if_neg (by omega)]
      congr 1
      omega
    · rename_i h1
      have := dec_toNat (n % 10) (by omega)
      rw [parse_snoc _ _ _ _ (ih (n / 10) (by omega) (by omega)) (by rw [this]; omega) (by omega), this]
      congr 1
      omega
theorem atoi_dec (n : Nat) (h : n ≤ 281474976710655) : Lib.atoiAll (Lib.decDigits n) = .ok (n : Int) := by
  have hp := parse_dec n h
  have hd := dec_digit n
  have hn := dec_ne_nil n
  generalize Lib.decDigits n = l at hp hd hn
  cases l with
  | nil => exact absurd rfl hn
  | cons c r =>
    have hc := hd c (by simp)
    have e : Lib.parseMag (c :: r) = .ok n := by unfold Lib.parseMag; rw [if_neg (by simp)]; exact hp
    rw [Lib.atoiAll_plain c r (by omega) (by omega), e]
    unfold Lib.signless
    simp only
    rw [if_neg (by omega)]
/-- Whether a text is the numeral of a number. -/
def tn (l : List UInt8) : Bool := decide (val10 l ≤ 281474976710655 ∧ Lib.decDigits (val10 l) = l)
theorem tn_dec (n : Nat) (h : n ≤ 281474976710655) : tn (Lib.decDigits n) = true := by
  unfold tn
  rw [val10_dec]
  simp [h]
theorem tn_iff (l : List UInt8) (h : tn l = true) : val10 l ≤ 281474976710655 ∧ Lib.decDigits (val10 l) = l := by simpa [tn] using h
theorem tn_no (l : List UInt8) (h : tn l = false) (n : Nat) (hn : n ≤ 281474976710655) : Lib.decDigits n ≠ l := by
  intro e
  rw [← e, tn_dec n hn] at h
  cases h
end Go.Proofs.YtggfjnmplokccaaDoor
