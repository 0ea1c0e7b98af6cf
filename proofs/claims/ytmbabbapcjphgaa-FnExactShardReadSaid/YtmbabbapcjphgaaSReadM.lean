/- A shard as it is read, as data (plain lemmas; no condition). -/
import Derived.Test.YtmbabbapcjphgaaPackMath
namespace Go.Proofs.Ytmbabbapcjphgaa
open Go.RowKit

def shrG (xs : List Nat) (a : Int) (n : Nat) : Bool := (rdHead xs a n).ok xs n
def shrLo (xs : List Nat) (a : Int) (n : Nat) : Int := if shrG xs a n then (rdHead xs a n).lo else 0
def shrHi (xs : List Nat) (a : Int) (n : Nat) : Int := if shrG xs a n then (rdHead xs a n).hi else 0
def shrE (xs : List Nat) (a : Int) (n : Nat) : List KE := if shrG xs a n then (rdHead xs a n).es xs n else []
def shrP (xs : List Nat) (a : Int) (n : Nat) : Int := if shrG xs a n then (rdHead xs a n).z xs n else 0
theorem shr_no {xs : List Nat} {a : Int} {n : Nat} (h : shrG xs a n = false) : shrLo xs a n = 0 ∧ shrHi xs a n = 0 ∧ shrE xs a n = [] ∧ shrP xs a n = 0 := by simp [shrLo, shrHi, shrE, shrP, h]
theorem shr_yes {xs : List Nat} {a : Int} {n : Nat} (h : shrG xs a n = true) : shrLo xs a n = (rdHead xs a n).lo ∧ shrHi xs a n = (rdHead xs a n).hi ∧ shrE xs a n = (rdHead xs a n).es xs n ∧ shrP xs a n = (rdHead xs a n).z xs n := by simp [shrLo, shrHi, shrE, shrP, h]
theorem shrG_iff {xs : List Nat} {a : Int} {n : Nat} (h : shrG xs a n = true) : (rdHead xs a n).m ≤ 400 ∧ 0 ≤ (rdHead xs a n).z xs n ∧ shardB (rdHead xs a n).lo (rdHead xs a n).hi ((rdHead xs a n).es xs n) = true := by
  unfold shrG RH.ok at h
  rw [Bool.and_eq_true, decide_eq_true_eq] at h
  exact ⟨h.1.1, h.1.2, h.2⟩
theorem shrG_of {xs : List Nat} {a : Int} {n : Nat} (h1 : (rdHead xs a n).m ≤ 400) (h2 : 0 ≤ (rdHead xs a n).z xs n) : shrG xs a n = shardB (rdHead xs a n).lo (rdHead xs a n).hi ((rdHead xs a n).es xs n) := by
  unfold shrG RH.ok
  rw [decide_eq_true ⟨h1, h2⟩, Bool.true_and]
theorem shrG_big {xs : List Nat} {a : Int} {n : Nat} (h : 400 < (rdHead xs a n).m) : shrG xs a n = false := by
  unfold shrG RH.ok
  rw [decide_eq_false (by omega), Bool.false_and]
theorem shrG_neg {xs : List Nat} {a : Int} {n : Nat} (h : (rdHead xs a n).z xs n < 0) : shrG xs a n = false := by
  unfold shrG RH.ok
  rw [decide_eq_false (by omega), Bool.false_and]
theorem shrE_len (xs : List Nat) (a : Int) (n : Nat) : (shrE xs a n).length ≤ 400 := by
  unfold shrE
  split
  · rename_i h
    have h1 := shrG_iff h
    have h2 := (shardB_iff h1.2.2).2.2.2.1
    exact h2
  · simp
end Go.Proofs.Ytmbabbapcjphgaa
