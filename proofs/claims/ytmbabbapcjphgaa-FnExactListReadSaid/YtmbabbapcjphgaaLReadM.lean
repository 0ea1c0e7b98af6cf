/- The decoding of a list of numbers as data (plain lemmas; no condition). -/
import Derived.Test.YtmbabbapcjphgaaPackMath
namespace Go.Proofs.Ytmbabbapcjphgaa
open Go.RowKit

/-- Whether a list begins here: its count, and six bytes for each. -/
def listG (xs : List Nat) (a : Int) (n : Nat) : Bool := gv xs a n && decide (gvN xs a n ≤ 400 ∧ gvE xs a n + 6 * gvN xs a n ≤ n)
def listV (xs : List Nat) (p : Int) (k : Nat) : List Int := (List.range k).map (fun i => ((fixNat xs (p.toNat + 6 * i) 6 : Nat) : Int))
def listR (xs : List Nat) (a : Int) (n : Nat) : List Int := if listG xs a n then listV xs (gvE xs a n) (gvN xs a n).toNat else []
def listP (xs : List Nat) (a : Int) (n : Nat) : Int := if listG xs a n then gvE xs a n + 6 * gvN xs a n else 0
theorem listV_len (xs : List Nat) (p : Int) (k : Nat) : (listV xs p k).length = k := by simp [listV]
theorem listV_succ (xs : List Nat) (p : Int) (k : Nat) : listV xs p (k + 1) = listV xs p k ++ [((fixNat xs (p.toNat + 6 * k) 6 : Nat) : Int)] := by simp [listV, List.range_succ]
theorem listR_len (xs : List Nat) (a : Int) (n : Nat) : (listR xs a n).length ≤ 400 := by
  unfold listR
  split
  · rename_i h
    unfold listG at h
    rw [Bool.and_eq_true, decide_eq_true_eq] at h
    rw [listV_len]
    omega
  · simp
theorem listG_yes {xs : List Nat} {a : Int} {n : Nat} (h : gv xs a n = true) (h1 : gvN xs a n ≤ 400) (h2 : gvE xs a n + 6 * gvN xs a n ≤ n) : listG xs a n = true := by
  unfold listG
  rw [h, decide_eq_true ⟨h1, h2⟩]
  rfl
theorem listG_no {xs : List Nat} {a : Int} {n : Nat} (h : gv xs a n = false ∨ 400 < gvN xs a n ∨ n < gvE xs a n + 6 * gvN xs a n) : listG xs a n = false := by
  unfold listG
  rw [Bool.and_eq_false_iff]
  rcases h with h | h | h
  · exact .inl h
  · exact .inr (decide_eq_false (by omega))
  · exact .inr (decide_eq_false (by omega))
theorem listG_out {xs : List Nat} {a : Int} {n : Nat} (h : listG xs a n = false) : listR xs a n = [] ∧ listP xs a n = 0 := by simp [listR, listP, h]
theorem listG_in {xs : List Nat} {a : Int} {n : Nat} (h : listG xs a n = true) : listR xs a n = listV xs (gvE xs a n) (gvN xs a n).toNat ∧ listP xs a n = gvE xs a n + 6 * gvN xs a n := by simp [listR, listP, h]
end Go.Proofs.Ytmbabbapcjphgaa
