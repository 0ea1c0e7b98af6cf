/- The contracts of slices.Sort at []int (the library's own, laid here) on a row of a call's own, and of the program's mostFrequent. Condition: at most 2^21 numbers. -/
import Derived.Test.YtgmgpadijajkkaaLab
import Derived.Test.YtgmgpadijajkkaaProgMath
import Derived.Test.YtgmgpadijajkkaaShelfInts
import Derived.Sort.OwnSortedInts
namespace Go.Proofs.Ytgmgpadijajkkaa
open Go.RowKit Go.Sort Go.Shelf

theorem sort_perm (zs : List Int) : zs.Perm (zs.mergeSort fun x y => decide (x ≤ y)) := (List.mergeSort_perm zs _).symm
theorem sort_le (zs : List Int) : (zs.mergeSort fun x y => decide (x ≤ y)).Pairwise (· ≤ ·) := by
  have h := List.pairwise_mergeSort (le := fun x y : Int => decide (x ≤ y)) (by intro a b c h1 h2; simp at h1 h2 ⊢; omega) (by intro a b; simp; omega) zs
  exact h.imp (fun h => by simpa using h)
def SortedZ (w : World) (lo g n c : Nat) (zs : List Int) (e : Ending) (w' : World) : Prop :=
  ∃ ys : List Int, e = .returned (.tuple #[]) ∧ zs.Perm ys ∧ ys.Pairwise (· ≤ ·) ∧ w'.ownsRow lo 3 1 (.slice (some ⟨g, 0, none⟩) n c) n (vi ys) ∧ w.grownBy w' (some g)
theorem sortInts_any (lo g n c : Nat) (zs : List Int) (w : World) (ho : w.ownsRow lo 3 1 (.slice (some ⟨g, 0, none⟩) n c) n (vi zs)) (hl : zs.length = n) (hn : n ≤ 2097152) :
    Calls Try.prog 68 #[.slice (some ⟨g, 0, none⟩) n c] w (SortedZ w lo g n c zs) := by
  subst hl
  rcases ho.2 with ⟨h, _⟩ | ⟨g', cap, cur, hv, hbase, hb, h1, h2, h3, h4⟩
  · cases h
  · injection hv with e1 _ e3
    injection e1 with e1
    injection e1 with e1
    subst e1 e3
    have hg : g < w.heap.size := (Array.getElem?_eq_some_iff.1 hb).1
    rw [Nat.mul_one] at h4
    have hH := holds_of_blockI hb h4
    refine (Any.slices_Sort_int Try.sortZ g 0 c zs w hH hg (by omega)).mono ?_
    rintro e w' ⟨rfl, m, os, rfl⟩
    refine ⟨zs.mergeSort fun x y => decide (x ≤ y), rfl, sort_perm zs, sort_le zs, ?_, grownBy_sortedI _⟩
    exact ownsRow_sortedI (List.length_mergeSort zs) hbase hb h1 h2 h3
theorem sortNone_any (p : Option Addr) (c : Nat) (w : World) :
    Calls Try.prog 68 #[.slice p 0 c] w (fun e w' => e = .returned (.tuple #[]) ∧ w' = w) := Any.slices_Sort_int_none Try.sortZ p c w
end Go.Proofs.Ytgmgpadijajkkaa
