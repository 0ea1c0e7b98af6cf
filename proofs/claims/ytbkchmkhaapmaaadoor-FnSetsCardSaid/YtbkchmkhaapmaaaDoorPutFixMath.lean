/- The six bytes of a number, the highest first. -/
import Derived.Test.YtbkchmkhaapmaaaDoorPutMath
namespace Go.Proofs.YtbkchmkhaapmaaaDoor
open Go.RowKit

/-- The byte at place j, the highest first. -/
def fixByte (m j : Nat) : Nat := m / 256 ^ (5 - j) % 256

def fixBytes (m j : Nat) : List Nat := (List.range j).map (fixByte m)

theorem fixBytes_succ (m j : Nat) : fixBytes m (j + 1) = fixBytes m j ++ [fixByte m j] := by simp [fixBytes, List.range_succ]

theorem fixBytes_length (m j : Nat) : (fixBytes m j).length = j := by simp [fixBytes]

theorem fixByte_shift (m j : Nat) : (m : Int) / 2 ^ (8 * (5 - j)) % 256 = ((fixByte m j : Nat) : Int) := by
  unfold fixByte
  rw [Int.natCast_emod, Int.natCast_ediv, Int.natCast_pow, show ((256 : Nat) : Int) = 2 ^ 8 from rfl, ← Int.pow_mul, show (2 : Int) ^ 8 = 256 from rfl]

theorem div_256 (m i : Nat) : m / 256 ^ i / 256 = m / 256 ^ (i + 1) := by rw [Nat.div_div_eq_div_mul, ← Nat.pow_succ]

def putFix (xs : List Nat) (n : Int) : List Nat := if numOk n then xs ++ fixBytes n.toNat 6 else []

theorem putFix_small (xs : List Nat) (a : Int) (h : ∀ x ∈ xs, x < 256) : ∀ x ∈ putFix xs a, x < 256 := by
  intro x hx
  unfold putFix at hx
  split at hx
  · rcases List.mem_append.1 hx with hx | hx
    · exact h x hx
    · simp only [fixBytes, List.mem_map] at hx
      obtain ⟨j, _, rfl⟩ := hx
      unfold fixByte
      omega
  · simp at hx

theorem putFix_length (xs : List Nat) (a : Int) : (putFix xs a).length ≤ xs.length + 7 := by
  unfold putFix
  split
  · simp [fixBytes_length]
  · simp
end Go.Proofs.YtbkchmkhaapmaaaDoor
