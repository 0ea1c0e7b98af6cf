/- Plain mathematics of sorting records of three numbers: an order in full, insertion, what is sorted, cutting into batches (no condition). -/
import Derived.Test.YtmbabbapcjphgaaEdge
namespace Go.Proofs.Ytmbabbapcjphgaa

/-- Field after field. -/
def lessR (x y : GE) : Bool := if x.f ≠ y.f then decide (x.f < y.f) else if x.t ≠ y.t then decide (x.t < y.t) else decide (x.w < y.w)
theorem lessR_iff (x y : GE) : lessR x y = true ↔ x.f < y.f ∨ (x.f = y.f ∧ (x.t < y.t ∨ (x.t = y.t ∧ x.w < y.w))) := by
  unfold lessR
  by_cases h1 : x.f = y.f
  · rw [if_neg (by simp [h1])]
    by_cases h2 : x.t = y.t
    · rw [if_neg (by simp [h2]), decide_eq_true_iff]; omega
    · rw [if_pos h2, decide_eq_true_iff]; omega
  · rw [if_pos h1, decide_eq_true_iff]; omega
theorem lessR_no (x y : GE) : lessR x y = false ↔ ¬ (x.f < y.f ∨ (x.f = y.f ∧ (x.t < y.t ∨ (x.t = y.t ∧ x.w < y.w)))) := by
  rw [← lessR_iff]; simp
def leR (x y : GE) : Prop := lessR y x = false
theorem leR_refl (x : GE) : leR x x := by unfold leR; rw [lessR_no]; omega
theorem leR_trans {x y z : GE} (h1 : leR x y) (h2 : leR y z) : leR x z := by
  unfold leR at *
  rw [lessR_no] at *
  omega
theorem leR_total (x y : GE) : leR x y ∨ leR y x := by
  unfold leR
  rw [lessR_no, lessR_no]
  omega
theorem leR_antisymm {x y : GE} (h1 : leR x y) (h2 : leR y x) : x = y := by
  unfold leR at *
  rw [lessR_no] at *
  obtain ⟨a, b, c⟩ := x
  obtain ⟨a', b', c'⟩ := y
  simp only at *
  have : a = a' ∧ b = b' ∧ c = c' := by omega
  obtain ⟨rfl, rfl, rfl⟩ := this
  rfl
theorem leR_of_less {x y : GE} (h : lessR x y = true) : leR x y := by
  unfold leR
  rw [lessR_no]
  rw [lessR_iff] at h
  omega
def SortedR (l : List GE) : Prop := l.Pairwise leR
/-- One record put in behind all that are not greater. -/
def insR (x : GE) : List GE → List GE
  | [] => [x]
  | y :: r => if lessR x y then x :: y :: r else y :: insR x r
def sortR (l : List GE) : List GE := l.foldl (fun out x => insR x out) []
theorem insR_perm (x : GE) : ∀ l, (insR x l).Perm (x :: l)
  | [] => List.Perm.refl _
  | y :: r => by
    unfold insR
    split
    · exact List.Perm.refl _
    · exact ((insR_perm x r).cons y).trans (List.Perm.swap x y r)
theorem insR_sorted (x : GE) : ∀ l, SortedR l → SortedR (insR x l)
  | [], _ => by simp [insR, SortedR]
  | y :: r, h => by
    unfold SortedR at h
    rw [List.pairwise_cons] at h
    unfold insR
    split
    · rename_i hl
      unfold SortedR
      rw [List.pairwise_cons]
      refine ⟨fun z hz => ?_, List.pairwise_cons.2 h⟩
      rcases List.mem_cons.1 hz with rfl | hz
      · exact leR_of_less hl
      · exact leR_trans (leR_of_less hl) (h.1 z hz)
    · rename_i hl
      unfold SortedR
      rw [List.pairwise_cons]
      refine ⟨fun z hz => ?_, insR_sorted x r h.2⟩
      rcases List.mem_cons.1 ((insR_perm x r).mem_iff.1 hz) with rfl | hz
      · unfold leR; simpa using hl
      · exact h.1 z hz
theorem fold_perm : ∀ (l out : List GE), (l.foldl (fun out x => insR x out) out).Perm (out ++ l)
  | [], out => by simp
  | x :: r, out => by
    rw [List.foldl_cons]
    refine (fold_perm r _).trans ?_
    refine ((insR_perm x out).append_right r).trans ?_
    rw [List.cons_append]
    exact (List.perm_middle).symm
theorem fold_sorted : ∀ (l out : List GE), SortedR out → SortedR (l.foldl (fun out x => insR x out) out)
  | [], _, h => h
  | x :: r, out, h => by rw [List.foldl_cons]; exact fold_sorted r _ (insR_sorted x out h)
theorem sortR_perm (l : List GE) : (sortR l).Perm l := by simpa [sortR] using fold_perm l []
theorem sortR_sorted (l : List GE) : SortedR (sortR l) := fold_sorted l [] (by simp [SortedR])
/-- Two sorted lists of the same records are the same. -/
theorem sorted_unique : ∀ (l m : List GE), SortedR l → SortedR m → l.Perm m → l = m
  | [], m, _, _, h => by simpa using h.symm
  | x :: r, [], _, _, h => by simp at h
  | x :: r, y :: s, hl, hm, h => by
    unfold SortedR at hl hm
    rw [List.pairwise_cons] at hl hm
    have hxy : x = y := by
      have hx : x ∈ y :: s := h.mem_iff.1 (by simp)
      have hy : y ∈ x :: r := h.mem_iff.2 (by simp)
      rcases List.mem_cons.1 hx with e | hx
      · exact e
      · rcases List.mem_cons.1 hy with e | hy
        · exact e.symm
        · exact leR_antisymm (hl.1 y hy) (hm.1 x hx)
    subst hxy
    rw [sorted_unique r s hl.2 hm.2 ((List.perm_cons x).1 h)]
theorem sorted_is {l m : List GE} (h : SortedR m) (hp : m.Perm l) : m = sortR l := sorted_unique _ _ h (sortR_sorted l) (hp.trans (sortR_perm l).symm)
/-- Neighbours alone are asked. -/
def sortedB : List GE → Bool
  | [] => true
  | [_] => true
  | x :: y :: r => !lessR y x && sortedB (y :: r)
theorem sortedB_iff : ∀ l, sortedB l = true ↔ SortedR l
  | [] => by simp [sortedB, SortedR]
  | [x] => by simp [sortedB, SortedR]
  | x :: y :: r => by
    have ih := sortedB_iff (y :: r)
    unfold sortedB
    rw [Bool.and_eq_true, ih]
    unfold SortedR
    rw [List.pairwise_cons (a := x)]
    constructor
    · rintro ⟨h1, h2⟩
      refine ⟨fun z hz => ?_, h2⟩
      have hxy : leR x y := by unfold leR; simpa using h1
      rcases List.mem_cons.1 hz with rfl | hz
      · exact hxy
      · exact leR_trans hxy ((List.pairwise_cons.1 h2).1 z hz)
    · rintro ⟨h1, h2⟩
      have := h1 y (by simp)
      unfold leR at this
      exact ⟨by rw [this]; rfl, h2⟩
theorem sortedB_at {l : List GE} (h : ∀ i x y, l[i]? = some x → l[i + 1]? = some y → lessR y x = false) : sortedB l = true := by
  induction l with
  | nil => rfl
  | cons x r ih =>
    cases r with
    | nil => rfl
    | cons y s =>
      unfold sortedB
      rw [h 0 x y rfl rfl, ih (fun i a b h1 h2 => h (i + 1) a b (by simpa using h1) (by simpa using h2))]
      rfl
theorem sortedB_no {l : List GE} {i : Nat} {x y : GE} (h1 : l[i]? = some x) (h2 : l[i + 1]? = some y) (h : lessR y x = true) : sortedB l = false := by
  cases hh : sortedB l with
  | false => rfl
  | true =>
    have hs := (sortedB_iff l).1 hh
    unfold SortedR at hs
    obtain ⟨g1, rfl⟩ := List.getElem?_eq_some_iff.1 h1
    obtain ⟨g2, rfl⟩ := List.getElem?_eq_some_iff.1 h2
    have := List.pairwise_iff_getElem.1 hs i (i + 1) g1 g2 (by omega)
    unfold leR at this
    rw [h] at this
    cases this
/-- Insertion at a place: behind all that are not greater. -/
theorem insR_at (x : GE) : ∀ (l : List GE) (k : Nat), (∀ y ∈ l.take k, lessR x y = false) → k ≤ l.length → (∀ y, l[k]? = some y → lessR x y = true) → insR x l = l.take k ++ x :: l.drop k
  | [], k, _, hk, _ => by simp at hk; subst hk; rfl
  | y :: r, 0, _, _, h => by
    have := h y rfl
    simp [insR, this]
  | y :: r, k + 1, h1, hk, h2 => by
    have hy := h1 y (by simp)
    unfold insR
    rw [if_neg (by rw [hy]; simp), insR_at x r k (fun z hz => h1 z (by simp [hz])) (by simpa using hk) (fun z hz => h2 z (by simpa using hz))]
    rfl
/-- Cut into batches of k. -/
def chunks (k : Nat) : Nat → List GE → List (List GE)
  | 0, _ => []
  | fuel + 1, l => if l = [] then [] else l.take k :: chunks k fuel (l.drop k)
end Go.Proofs.Ytmbabbapcjphgaa
