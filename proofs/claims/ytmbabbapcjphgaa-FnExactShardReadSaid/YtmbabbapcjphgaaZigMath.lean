/- The number that bears the sign in its lowest bit. -/
import Derived.Test.YtmbabbapcjphgaaPutMath
namespace Go.Proofs.Ytmbabbapcjphgaa
open Go.RowKit

def zigOk (n : Int) : Bool := decide (-140737488355328 ≤ n ∧ n ≤ 140737488355327)

/-- The number that bears the sign in its lowest bit. -/
def zig (n : Int) : Int := if n < 0 then -2 * n - 1 else 2 * n

def putZig (xs : List Nat) (n : Int) : List Nat := if zigOk n then putVar xs (zig n) else []

theorem zig_num (n : Int) (h : zigOk n = true) : numOk (zig n) = true := by
  simp only [zigOk, decide_eq_true_eq] at h
  simp only [numOk, decide_eq_true_eq]
  unfold zig
  by_cases hn : n < 0
  · rw [if_pos hn]; omega
  · rw [if_neg hn]; omega

theorem putZig_small (xs : List Nat) (a : Int) (h : ∀ x ∈ xs, x < 256) : ∀ x ∈ putZig xs a, x < 256 := by
  unfold putZig
  split
  · exact putVar_small xs _ h
  · simp

theorem putZig_length (xs : List Nat) (a : Int) : (putZig xs a).length ≤ xs.length + 7 := by
  unfold putZig
  split
  · exact putVar_length xs _
  · simp
end Go.Proofs.Ytmbabbapcjphgaa
