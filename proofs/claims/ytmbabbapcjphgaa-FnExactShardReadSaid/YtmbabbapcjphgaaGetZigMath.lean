/- What a reader of a signed number returns. -/
import Derived.Test.YtmbabbapcjphgaaGetVarMath
namespace Go.Proofs.Ytmbabbapcjphgaa
open Go.RowKit

def unzig (n : Int) : Int := if n % 2 = 1 then -(n / 2) - 1 else n / 2

def gzVal (xs : List Nat) (a : Int) (n : Nat) : Value := .tuple #[.int .i64 (if gv xs a n then unzig (gvN xs a n) else 0), .int .i64 (gvE xs a n), .bool (gv xs a n)]

theorem gz_yes (xs : List Nat) (a : Int) (n : Nat) (h : gv xs a n = true) : gzVal xs a n = .tuple #[.int .i64 (unzig (gvN xs a n)), .int .i64 (gvE xs a n), .bool true] := by simp [gzVal, h]

theorem gz_no (xs : List Nat) (a : Int) (n : Nat) (h : gv xs a n = false) : gzVal xs a n = .tuple #[.int .i64 0, .int .i64 0, .bool false] := by simp [gzVal, gvE, h]

theorem gvVal_yes (xs : List Nat) (a : Int) (n : Nat) (h : gv xs a n = true) : gvVal xs a n = .tuple #[.int .i64 (gvN xs a n), .int .i64 (gvE xs a n), .bool true] := by simp [gvVal, h]

theorem gvN_bounds (xs : List Nat) (a : Int) (n : Nat) : 0 ≤ gvN xs a n ∧ gvN xs a n ≤ 281474976710655 := by
  unfold gvN
  split
  · rename_i h
    have h2 : gvOk (xs.drop a.toNat) = true := by
      unfold gv at h
      rw [Bool.and_eq_true] at h
      exact h.2
    unfold gvOk at h2
    rw [Bool.and_eq_true, decide_eq_true_eq] at h2
    have := h2.1.2.2
    omega
  · omega
end Go.Proofs.Ytmbabbapcjphgaa
