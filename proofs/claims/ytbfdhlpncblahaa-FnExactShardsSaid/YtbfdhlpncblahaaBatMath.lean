/- Plain mathematics of cutting a list of records into batches (no condition). -/
import Derived.Test.YtbfdhlpncblahaaTreeMath
namespace Go.Proofs.Ytbfdhlpncblahaa

theorem chunks_fuel (k : Nat) (hk : 0 < k) : ∀ (n m : Nat) (l : List GE), l.length ≤ n → l.length ≤ m → chunks k n l = chunks k m l
  | 0, 0, _, _, _ => rfl
  | 0, m + 1, l, h, _ => by
    obtain rfl : l = [] := List.eq_nil_of_length_eq_zero (by omega)
    simp [chunks]
  | n + 1, 0, l, _, h => by
    obtain rfl : l = [] := List.eq_nil_of_length_eq_zero (by omega)
    simp [chunks]
  | n + 1, m + 1, l, h1, h2 => by
    rw [chunks, chunks]
    split
    · rfl
    · rename_i hl
      have : 0 < l.length := List.length_pos_iff.2 hl
      rw [chunks_fuel k hk n m (l.drop k) (by rw [List.length_drop]; omega) (by rw [List.length_drop]; omega)]
theorem batchesR_nil (k : Nat) : batchesR k [] = [] := by simp [batchesR, chunks]
theorem batchesR_step {k : Nat} (hk : 0 < k) {l : List GE} (h : 0 < l.length) : batchesR k l = sortR (l.take k) :: batchesR k (l.drop k) := by
  obtain ⟨n, hn⟩ : ∃ n, l.length = n + 1 := ⟨l.length - 1, by omega⟩
  unfold batchesR
  rw [hn, chunks, if_neg (by intro e; rw [e] at h; simp at h), List.map_cons, chunks_fuel k hk n (l.drop k).length (l.drop k) (by rw [List.length_drop]; omega) (Nat.le_refl _)]
def batchesZ (b : Int) (l : List GE) : List (List GE) := if b < 1 then [] else batchesR b.toNat l
theorem batchesZ_no {b : Int} {l : List GE} (h : b < 1) : batchesZ b l = [] := if_pos h
theorem batchesZ_yes {b : Int} {l : List GE} (h : 1 ≤ b) : batchesZ b l = batchesR b.toNat l := if_neg (by omega)
theorem batches_more {b p q : Nat} (hb : 0 < b) {l : List GE} (hp : p < l.length) (hq : q = b ∨ (l.length - p ≤ b ∧ q = l.length - p)) : batchesR b (l.drop p) = sortR ((l.drop p).take q) :: batchesR b (l.drop (p + q)) := by
  rw [batchesR_step hb (by rw [List.length_drop]; omega), List.drop_drop]
  rcases hq with rfl | ⟨h1, rfl⟩
  · rfl
  · rw [List.take_of_length_le (by rw [List.length_drop]; omega), List.take_of_length_le (by rw [List.length_drop]; omega), List.drop_eq_nil_of_le (i := p + b) (by omega), List.drop_eq_nil_of_le (i := p + (l.length - p)) (by omega)]
theorem total_batches {b : Nat} (hb : 0 < b) (l : List GE) : totalR (batchesR b l) = l.length := by
  rw [total_flat]
  have := flat_sort (chunks b l.length l)
  rw [chunks_flat b hb _ l (Nat.le_refl _)] at this
  exact this.length_eq
theorem count_batches {b : Nat} (hb : 0 < b) : ∀ (n : Nat) (l : List GE), l.length ≤ n → (batchesR b l).length ≤ n
  | 0, l, h => by
    obtain rfl : l = [] := List.eq_nil_of_length_eq_zero (by omega)
    simp [batchesR_nil]
  | n + 1, l, h => by
    rcases Nat.eq_zero_or_pos l.length with h0 | h0
    · obtain rfl : l = [] := List.eq_nil_of_length_eq_zero h0
      simp [batchesR_nil]
    · rw [batchesR_step hb h0, List.length_cons]
      have := count_batches hb n (l.drop b) (by rw [List.length_drop]; omega)
      omega
theorem countZ (b : Int) (l : List GE) : (batchesZ b l).length ≤ l.length ∧ totalR (batchesZ b l) ≤ l.length := by
  by_cases h : b < 1
  · rw [batchesZ_no h]; simp [totalR]
  · rw [batchesZ_yes (by omega)]
    exact ⟨count_batches (by omega) _ l (Nat.le_refl _), by rw [total_batches (by omega)]; exact Nat.le_refl _⟩
end Go.Proofs.Ytbfdhlpncblahaa
