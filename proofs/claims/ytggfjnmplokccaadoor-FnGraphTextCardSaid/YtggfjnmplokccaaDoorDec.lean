/- How many digits a number has. -/
import Derived.Lib.ItoaNum
namespace Go.Proofs.YtggfjnmplokccaaDoor
open Go

theorem decDigits_len : ∀ (k u : Nat), u < 10 ^ (k + 1) → (Lib.decDigits u).length ≤ k + 1
  | 0, u, h => by rw [Lib.decDigits, dif_pos (by simpa using h)]; simp
  | k + 1, u, h => by
    rw [Lib.decDigits]
    split
    · simp
    · have := decDigits_len k (u / 10) (by rw [Nat.pow_succ] at h; omega)
      simp
      omega
theorem decDigits_le (u : Nat) (h : u ≤ 281474976710655) : (Lib.decDigits u).length ≤ 16 := decDigits_len 15 u (by omega)
end Go.Proofs.YtggfjnmplokccaaDoor
