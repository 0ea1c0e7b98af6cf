/- How often a record stands in a list (plain mathematics; no condition). -/
import Derived.Test.YtdmdikbcgpbbdaaBatMath
namespace Go.Proofs.Ytdmdikbcgpbbdaa

noncomputable def cntR (x : GE) (l : List GE) : Nat := (l.filter fun y => @decide (x = y) (Classical.propDecidable _)).length
theorem cntR_perm {x : GE} {l m : List GE} (h : l.Perm m) : cntR x l = cntR x m := (h.filter _).length_eq
theorem cntR_le (x : GE) (l : List GE) : cntR x l ≤ l.length := List.length_filter_le _ _
theorem cntR_yes {x : GE} {l : List GE} {j : Nat} (h : l[j]? = some x) : cntR x (l.take (j + 1)) = cntR x (l.take j) + 1 := by
  unfold cntR
  rw [List.take_add_one, h, List.filter_append, List.length_append]
  simp
theorem cntR_no {x y : GE} {l : List GE} {j : Nat} (h : l[j]? = some y) (hn : x ≠ y) : cntR x (l.take (j + 1)) = cntR x (l.take j) := by
  unfold cntR
  rw [List.take_add_one, h, List.filter_append, List.length_append]
  simp [hn]
theorem cntR_zero (x : GE) (l : List GE) : cntR x (l.take 0) = 0 := by simp [cntR]
theorem GE.ne_of {x y : GE} (h : x ≠ y) : (x.f == y.f) = false ∨ (x.t == y.t) = false ∨ (x.w == y.w) = false := by
  obtain ⟨a, b, c⟩ := x
  obtain ⟨a', b', c'⟩ := y
  by_cases h1 : a = a'
  · by_cases h2 : b = b'
    · by_cases h3 : c = c'
      · subst h1
        subst h2
        subst h3
        exact absurd rfl h
      · exact .inr (.inr (by simpa using h3))
    · exact .inr (.inl (by simpa using h2))
  · exact .inl (by simpa using h1)
theorem merge_batches {b : Int} (hb : 1 ≤ b) (es : List GE) : mergeAll (batchesZ b es) = sortR es := by
  rw [batchesZ_yes hb]
  unfold mergeAll
  exact sortAll_is (by omega) (by rw [total_batches (by omega)]; exact Nat.le_refl _)
end Go.Proofs.Ytdmdikbcgpbbdaa
