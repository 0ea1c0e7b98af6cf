/- The number of six bytes, the highest first. -/
import Derived.Test.YtmbabbapcjphgaaBase
import Derived.Test.YtmbabbapcjphgaaBits
namespace Go.Proofs.Ytmbabbapcjphgaa
open Go.RowKit

/-- The number of the first k bytes from 'at' on, the highest first. -/
def fixNat (xs : List Nat) (a k : Nat) : Nat := ((xs.drop a).take k).foldl (fun n x => n * 256 + x) 0

theorem fixNat_zero (xs : List Nat) (a : Nat) : fixNat xs a 0 = 0 := by simp [fixNat]

theorem fixNat_succ (xs : List Nat) (a k x : Nat) (h : xs[a + k]? = some x) : fixNat xs a (k + 1) = fixNat xs a k * 256 + x := by
  unfold fixNat
  have h2 : (xs.drop a)[k]? = some x := by rw [List.getElem?_drop]; exact h
  obtain ⟨hl, he⟩ := List.getElem?_eq_some_iff.1 h2
  rw [List.take_succ_eq_append_getElem hl, List.foldl_append, he]
  rfl

theorem fixNat_lt (xs : List Nat) (hs : ∀ x ∈ xs, x < 256) (a k : Nat) (hk : a + k ≤ xs.length) : fixNat xs a k < 256 ^ k := by
  induction k with
  | zero => simp [fixNat_zero]
  | succ k ih =>
    have hl : a + k < xs.length := by omega
    rw [fixNat_succ xs a k _ (List.getElem?_eq_getElem hl), Nat.pow_succ]
    have := ih (by omega)
    have := hs _ (List.getElem_mem hl)
    omega

def fixOk (a : Int) (n : Nat) : Bool := decide (0 ≤ a ∧ a + 6 ≤ n)

def fixVal (xs : List Nat) (a : Int) (n : Nat) : Value := .tuple #[.int .i64 (if fixOk a n then (fixNat xs a.toNat 6 : Nat) else 0), .bool (fixOk a n)]
end Go.Proofs.Ytmbabbapcjphgaa
