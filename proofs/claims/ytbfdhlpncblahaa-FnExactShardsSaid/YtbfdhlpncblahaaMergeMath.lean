/- Plain mathematics of merging lists of records: the first of the least heads is taken, again and again (no condition). -/
import Derived.Test.YtbfdhlpncblahaaSortMath
namespace Go.Proofs.Ytbfdhlpncblahaa

/-- The first of the least heads, with its place; 'b': the best so far. -/
def bestFrom : Nat → Option (Nat × GE) → List (List GE) → Option (Nat × GE)
  | _, b, [] => b
  | i, b, [] :: r => bestFrom (i + 1) b r
  | i, none, (x :: _) :: r => bestFrom (i + 1) (some (i, x)) r
  | i, some (j, y), (x :: _) :: r => bestFrom (i + 1) (if lessR x y then some (i, x) else some (j, y)) r
def bestR (rs : List (List GE)) : Option (Nat × GE) := bestFrom 0 none rs
def mergeR : Nat → List (List GE) → List GE
  | 0, _ => []
  | n + 1, rs => match bestR rs with
    | none => []
    | some (i, x) => x :: mergeR n (rs.modify i List.tail)
def totalR (rs : List (List GE)) : Nat := (rs.map List.length).sum
theorem bestFrom_none : ∀ (rs : List (List GE)) (i : Nat) (b : Option (Nat × GE)), bestFrom i b rs = none → b = none ∧ ∀ l ∈ rs, l = []
  | [], _, b, h => by simp only [bestFrom] at h; exact ⟨h, by simp⟩
  | [] :: r, i, b, h => by
    rw [bestFrom] at h
    obtain ⟨h1, h2⟩ := bestFrom_none r _ _ h
    exact ⟨h1, fun l hl => (List.mem_cons.1 hl).elim id (h2 l)⟩
  | (x :: t) :: r, i, none, h => by
    rw [bestFrom] at h
    cases (bestFrom_none r _ _ h).1
  | (x :: t) :: r, i, some (j, y), h => by
    rw [bestFrom] at h
    have := (bestFrom_none r _ _ h).1
    split at this <;> cases this
theorem bestFrom_some : ∀ (rs : List (List GE)) (i : Nat) (b : Option (Nat × GE)) (j : Nat) (x : GE), bestFrom i b rs = some (j, x) →
    (b = some (j, x) ∨ ∃ k t, j = i + k ∧ rs[k]? = some (x :: t)) ∧ (∀ j' y, b = some (j', y) → leR x y) ∧ ∀ l ∈ rs, ∀ y t, l = y :: t → leR x y
  | [], _, b, j, x, h => by
    simp only [bestFrom] at h
    exact ⟨.inl h, fun j' y e => by rw [h] at e; injection e with e; injection e with _ e; subst e; exact leR_refl _, by simp⟩
  | [] :: r, i, b, j, x, h => by
    rw [bestFrom] at h
    obtain ⟨h1, h2, h3⟩ := bestFrom_some r _ _ _ _ h
    refine ⟨h1.elim .inl (fun ⟨k, t, e, g⟩ => .inr ⟨k + 1, t, by omega, by simpa using g⟩), h2, fun l hl y t e => ?_⟩
    rcases List.mem_cons.1 hl with rfl | hl
    · cases e
    · exact h3 l hl y t e
  | (z :: t) :: r, i, none, j, x, h => by
    rw [bestFrom] at h
    obtain ⟨h1, h2, h3⟩ := bestFrom_some r _ _ _ _ h
    have hz : leR x z := h2 i z rfl
    refine ⟨.inr ?_, fun _ _ e => (by cases e), fun l hl y s e => ?_⟩
    · rcases h1 with e | ⟨k, s, e, g⟩
      · injection e with e
        injection e with e1 e2
        exact ⟨0, t, by omega, by rw [← e2]; rfl⟩
      · exact ⟨k + 1, s, by omega, by simpa using g⟩
    · rcases List.mem_cons.1 hl with rfl | hl
      · injection e with e1 _
        rw [← e1]; exact hz
      · exact h3 l hl y s e
  | (z :: t) :: r, i, some (q, y), j, x, h => by
    rw [bestFrom] at h
    obtain ⟨h1, h2, h3⟩ := bestFrom_some r _ _ _ _ h
    by_cases hl : lessR z y = true
    · rw [if_pos hl] at h1 h2
      have hz : leR x z := h2 i z rfl
      have hzy := leR_of_less hl
      refine ⟨.inr ?_, fun j' y' e => ?_, fun l hl' y' s e => ?_⟩
      · rcases h1 with e | ⟨k, s, e, g⟩
        · injection e with e
          injection e with e1 e2
          exact ⟨0, t, by omega, by rw [← e2]; rfl⟩
        · exact ⟨k + 1, s, by omega, by simpa using g⟩
      · injection e with e
        injection e with _ e
        rw [← e]; exact leR_trans hz hzy
      · rcases List.mem_cons.1 hl' with rfl | hl'
        · injection e with e1 _
          rw [← e1]; exact hz
        · exact h3 l hl' y' s e
    · rw [if_neg hl] at h1 h2
      have hy : leR x y := h2 q y rfl
      have hyz : leR y z := by unfold leR; simpa using hl
      refine ⟨h1.elim .inl (fun ⟨k, s, e, g⟩ => .inr ⟨k + 1, s, by omega, by simpa using g⟩), fun j' y' e => ?_, fun l hl' y' s e => ?_⟩
      · injection e with e
        injection e with _ e
        rw [← e]; exact hy
      · rcases List.mem_cons.1 hl' with rfl | hl'
        · injection e with e1 _
          rw [← e1]; exact leR_trans hy hyz
        · exact h3 l hl' y' s e
theorem bestR_some {rs : List (List GE)} {i : Nat} {x : GE} (h : bestR rs = some (i, x)) : ∃ t, rs[i]? = some (x :: t) ∧ ∀ l ∈ rs, ∀ y s, l = y :: s → leR x y := by
  obtain ⟨h1, _, h3⟩ := bestFrom_some rs 0 none i x h
  rcases h1 with e | ⟨k, t, e, g⟩
  · cases e
  · rw [Nat.zero_add] at e
    subst e
    exact ⟨t, g, h3⟩
theorem flat_modify : ∀ (rs : List (List GE)) (i : Nat) (x : GE) (t : List GE), rs[i]? = some (x :: t) → rs.flatten.Perm (x :: (rs.modify i List.tail).flatten)
  | [], _, _, _, h => by simp at h
  | l :: r, 0, x, t, h => by
    simp at h
    subst h
    simp
  | l :: r, i + 1, x, t, h => by
    have ih := flat_modify r i x t (by simpa using h)
    simp only [List.flatten_cons, List.modify_succ_cons]
    exact (ih.append_left l).trans List.perm_middle
theorem total_flat (rs : List (List GE)) : totalR rs = rs.flatten.length := by
  unfold totalR
  rw [List.length_flatten]
theorem merge_perm : ∀ (n : Nat) (rs : List (List GE)), totalR rs ≤ n → (mergeR n rs).Perm rs.flatten
  | 0, rs, h => by
    have : rs.flatten = [] := List.eq_nil_of_length_eq_zero (by rw [← total_flat]; omega)
    rw [this]
    exact List.Perm.refl _
  | n + 1, rs, h => by
    rw [mergeR]
    cases hb : bestR rs with
    | none =>
      have h2 := (bestFrom_none rs 0 none hb).2
      have : rs.flatten = [] := List.flatten_eq_nil_iff.2 h2
      rw [this]
    | some p =>
      obtain ⟨i, x⟩ := p
      obtain ⟨t, ht, _⟩ := bestR_some hb
      have hp := flat_modify rs i x t ht
      refine ((merge_perm n _ ?_).cons x).trans hp.symm
      have := hp.length_eq
      rw [List.length_cons] at this
      rw [total_flat] at h ⊢
      omega
theorem merge_sorted : ∀ (n : Nat) (rs : List (List GE)), totalR rs ≤ n → (∀ l ∈ rs, SortedR l) → SortedR (mergeR n rs)
  | 0, _, _, _ => by simp [mergeR, SortedR]
  | n + 1, rs, h, hs => by
    rw [mergeR]
    cases hb : bestR rs with
    | none => simp [SortedR]
    | some p =>
      obtain ⟨i, x⟩ := p
      obtain ⟨t, ht, hmin⟩ := bestR_some hb
      have hp := flat_modify rs i x t ht
      have hlen := hp.length_eq
      rw [List.length_cons] at hlen
      have htot : totalR (rs.modify i List.tail) ≤ n := by rw [total_flat] at h ⊢; omega
      have hs2 : ∀ l ∈ rs.modify i List.tail, SortedR l := by
        intro l hl
        obtain ⟨k, hk⟩ := List.mem_iff_getElem?.1 hl
        rw [List.getElem?_modify] at hk
        cases hq : rs[k]? with
        | none => rw [hq] at hk; simp at hk
        | some m =>
          rw [hq] at hk
          have hm := hs m (List.mem_of_getElem? hq)
          simp only [Option.map_eq_map, Option.map_some, Option.some.injEq] at hk
          split at hk
          · rw [← hk]; unfold SortedR at hm ⊢; exact hm.tail
          · rw [← hk]; exact hm
      show SortedR (x :: mergeR n (rs.modify i List.tail))
      unfold SortedR
      rw [List.pairwise_cons]
      refine ⟨fun z hz => ?_, merge_sorted n _ htot hs2⟩
      have hz2 : z ∈ rs.flatten := hp.mem_iff.2 (List.mem_cons_of_mem _ ((merge_perm n _ htot).mem_iff.1 hz))
      obtain ⟨l, hl, hzl⟩ := List.mem_flatten.1 hz2
      cases l with
      | nil => simp at hzl
      | cons y s =>
        have h1 := hmin _ hl y s rfl
        rcases List.mem_cons.1 hzl with rfl | hzl
        · exact h1
        · have h2 := hs _ hl
          unfold SortedR at h2
          exact leR_trans h1 ((List.pairwise_cons.1 h2).1 z hzl)
/-- Merging lists that are sorted is sorting. -/
theorem merge_is {n : Nat} {rs : List (List GE)} {l : List GE} (h : totalR rs ≤ n) (hs : ∀ m ∈ rs, SortedR m) (hp : rs.flatten.Perm l) : mergeR n rs = sortR l :=
  sorted_is (merge_sorted n rs h hs) ((merge_perm n rs h).trans hp)
/-! ### batches -/
theorem chunks_flat (k : Nat) (hk : 0 < k) : ∀ (n : Nat) (l : List GE), l.length ≤ n → (chunks k n l).flatten = l
  | 0, l, h => by
    obtain rfl : l = [] := List.eq_nil_of_length_eq_zero (by omega)
    rfl
  | n + 1, l, h => by
    rw [chunks]
    split
    · rename_i e
      rw [e]; rfl
    · rename_i e
      have hl : 0 < l.length := List.length_pos_iff.2 e
      rw [List.flatten_cons, chunks_flat k hk n _ (by rw [List.length_drop]; omega), List.take_append_drop]
def batchesR (k : Nat) (l : List GE) : List (List GE) := (chunks k l.length l).map sortR
theorem flat_sort : ∀ (bs : List (List GE)), (bs.map sortR).flatten.Perm bs.flatten
  | [] => List.Perm.refl _
  | b :: r => by
    rw [List.map_cons, List.flatten_cons, List.flatten_cons]
    exact (sortR_perm b).append (flat_sort r)
/-- Sorting in batches and merging is sorting at once. -/
theorem sortAll_is {k n : Nat} (hk : 0 < k) {l : List GE} (hn : l.length ≤ n) : mergeR n (batchesR k l) = sortR l := by
  have hp : (batchesR k l).flatten.Perm l := by
    have := flat_sort (chunks k l.length l)
    rw [chunks_flat k hk _ l (Nat.le_refl _)] at this
    exact this
  refine merge_is (by rw [total_flat, hp.length_eq]; exact hn) (fun m hm => ?_) hp
  obtain ⟨b, _, rfl⟩ := List.mem_map.1 hm
  exact sortR_sorted b
end Go.Proofs.Ytbfdhlpncblahaa
