/- What a reader of a number of variable length returns. -/
import Derived.Test.YtmbabbapcjphgaaVarMath
namespace Go.Proofs.Ytmbabbapcjphgaa
open Go.RowKit

def gvVal (xs : List Nat) (a : Int) (n : Nat) : Value := .tuple #[.int .i64 (gvN xs a n), .int .i64 (gvE xs a n), .bool (gv xs a n)]

theorem gvVal_no (xs : List Nat) (a : Int) (n : Nat) (h : gv xs a n = false) : gvVal xs a n = .tuple #[.int .i64 0, .int .i64 0, .bool false] := by simp [gvVal, gvN, gvE, h]
end Go.Proofs.Ytmbabbapcjphgaa
