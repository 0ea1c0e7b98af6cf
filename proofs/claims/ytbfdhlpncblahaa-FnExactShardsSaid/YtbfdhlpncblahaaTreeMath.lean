/- Plain mathematics of a tree of pairs over lists of records: what is drawn from it is what is taken from the lists one by one, the first of the least heads (no condition). -/
import Derived.Test.YtbfdhlpncblahaaMergeMath
namespace Go.Proofs.Ytbfdhlpncblahaa

inductive Tr where
  | leaf (es : List GE)
  | pair (l : Tr) (hl : Option GE) (r : Tr) (hr : Option GE)
/-- Is the right side's first record given out? -/
def goR : Option GE → Option GE → Bool
  | none, _ => true
  | some _, none => false
  | some x, some y => lessR y x
def Tr.next : Tr → Option GE × Tr
  | .leaf [] => (none, .leaf [])
  | .leaf (e :: r) => (some e, .leaf r)
  | .pair l hl r hr => if goR hl hr then (hr, .pair l hl r.next.2 r.next.1) else (hl, .pair l.next.2 l.next.1 r hr)
/-- A first record has been drawn out of what stood for the lists rs. -/
def Drawn (R : List (List GE) → Prop) (h : Option GE) (rs : List (List GE)) : Prop :=
  match bestR rs with
  | none => h = none ∧ R rs
  | some (i, x) => h = some x ∧ R (rs.modify i List.tail)
def Rep : Tr → List (List GE) → Prop
  | .leaf es, rs => rs = [es]
  | .pair l hl r hr, rs => ∃ a b, rs = a ++ b ∧ Drawn (Rep l) hl a ∧ Drawn (Rep r) hr b
theorem bestFrom_append : ∀ (u v : List (List GE)) (i : Nat) (b : Option (Nat × GE)), bestFrom i b (u ++ v) = bestFrom (i + u.length) (bestFrom i b u) v
  | [], v, i, b => by simp [bestFrom]
  | [] :: r, v, i, b => by
    rw [List.cons_append, bestFrom, bestFrom_append r v, bestFrom, List.length_cons]
    congr 1; omega
  | (x :: t) :: r, v, i, none => by
    rw [List.cons_append, bestFrom, bestFrom_append r v, bestFrom, List.length_cons]
    congr 1; omega
  | (x :: t) :: r, v, i, some (j, y) => by
    rw [List.cons_append, bestFrom, bestFrom_append r v, bestFrom, List.length_cons]
    congr 1; omega
def shiftB (d : Nat) (p : Nat × GE) : Nat × GE := (d + p.1, p.2)
theorem bestFrom_shift (d : Nat) : ∀ (v : List (List GE)) (i : Nat) (b : Option (Nat × GE)), bestFrom (d + i) (b.map (shiftB d)) v = (bestFrom i b v).map (shiftB d)
  | [], i, b => by simp [bestFrom]
  | [] :: r, i, b => by rw [bestFrom, bestFrom, ← bestFrom_shift d r (i + 1) b, Nat.add_assoc]
  | (x :: t) :: r, i, none => by
    have := bestFrom_shift d r (i + 1) (some (i, x))
    rw [bestFrom, ← this]
    rfl
  | (x :: t) :: r, i, some (j, y) => by
    have := bestFrom_shift d r (i + 1) (if lessR x y then some (i, x) else some (j, y))
    rw [bestFrom, ← this, Option.map_some, shiftB, bestFrom]
    congr 1
    split <;> rfl
theorem bestFrom_from : ∀ (v : List (List GE)) (k i : Nat) (x : GE), bestFrom k (some (i, x)) v = match bestFrom k none v with
    | none => some (i, x)
    | some (j, y) => if lessR y x then some (j, y) else some (i, x)
  | [], k, i, x => by simp [bestFrom]
  | [] :: r, k, i, x => by rw [bestFrom, bestFrom_from r]; rfl
  | (z :: t) :: r, k, i, x => by
    rw [bestFrom, bestFrom, bestFrom_from r (k + 1) k z]
    by_cases h1 : lessR z x = true
    · rw [if_pos h1, bestFrom_from r (k + 1) k z]
      cases bestFrom (k + 1) none r with
      | none => simp [h1]
      | some p =>
        obtain ⟨j, y⟩ := p
        simp only
        by_cases h2 : lessR y z = true
        · have h3 : lessR y x = true := by rw [lessR_iff] at *; omega
          rw [if_pos h2]; simp [h3]
        · rw [if_neg h2]; simp [h1]
    · rw [if_neg h1, bestFrom_from r (k + 1) i x]
      cases bestFrom (k + 1) none r with
      | none => simp [h1]
      | some p =>
        obtain ⟨j, y⟩ := p
        simp only
        by_cases h2 : lessR y z = true
        · rw [if_pos h2]
        · have h3 : ¬ lessR y x = true := by
            have a1 : lessR z x = false := by simpa using h1
            have a2 : lessR y z = false := by simpa using h2
            rw [lessR_no] at a1 a2
            rw [lessR_iff]
            omega
          rw [if_neg h2]; simp [h1, h3]
theorem bestR_append (a b : List (List GE)) : bestR (a ++ b) = match bestR a, bestR b with
    | none, q => q.map (shiftB a.length)
    | some p, none => some p
    | some (i, x), some (j, y) => if lessR y x then some (a.length + j, y) else some (i, x) := by
  unfold bestR
  rw [bestFrom_append, Nat.zero_add]
  have hs := bestFrom_shift a.length b 0 none
  rw [Nat.add_zero, Option.map_none] at hs
  cases ha : bestFrom 0 none a with
  | none => rw [hs]
  | some p =>
    obtain ⟨i, x⟩ := p
    rw [bestFrom_from, hs]
    cases hb : bestFrom 0 none b with
    | none => rfl
    | some q =>
      obtain ⟨j, y⟩ := q
      rfl
theorem modify_left {α : Type} (f : α → α) : ∀ (a b : List α) (i : Nat), i < a.length → (a ++ b).modify i f = a.modify i f ++ b
  | [], _, _, h => by simp at h
  | x :: r, b, 0, _ => by simp
  | x :: r, b, i + 1, h => by
    rw [List.cons_append, List.modify_succ_cons, modify_left f r b i (by simpa using h), List.modify_succ_cons, List.cons_append]
theorem modify_right {α : Type} (f : α → α) : ∀ (a b : List α) (j : Nat), (a ++ b).modify (a.length + j) f = a ++ b.modify j f
  | [], b, j => by simp
  | x :: r, b, j => by
    rw [List.cons_append, List.length_cons, show r.length + 1 + j = (r.length + j) + 1 by omega, List.modify_succ_cons, modify_right f r b j, List.cons_append]
theorem bestR_lt {rs : List (List GE)} {i : Nat} {x : GE} (h : bestR rs = some (i, x)) : i < rs.length := by
  obtain ⟨t, ht, _⟩ := bestR_some h
  exact (List.getElem?_eq_some_iff.1 ht).1
theorem drawn_of_none {R : List (List GE) → Prop} {h : Option GE} {rs : List (List GE)} (hb : bestR rs = none) (h1 : h = none) (h2 : R rs) : Drawn R h rs := by
  unfold Drawn
  rw [hb]
  exact ⟨h1, h2⟩
theorem drawn_of_some {R : List (List GE) → Prop} {h : Option GE} {rs : List (List GE)} {i : Nat} {x : GE} (hb : bestR rs = some (i, x)) (h1 : h = some x) (h2 : R (rs.modify i List.tail)) : Drawn R h rs := by
  unfold Drawn
  rw [hb]
  exact ⟨h1, h2⟩
theorem next_drawn : ∀ (t : Tr) (rs : List (List GE)), Rep t rs → Drawn (Rep t.next.2) t.next.1 rs
  | .leaf [], rs, h => by
    simp only [Rep] at h
    subst h
    exact ⟨rfl, rfl⟩
  | .leaf (e :: r), rs, h => by
    simp only [Rep] at h
    subst h
    exact ⟨rfl, rfl⟩
  | .pair l hl r hr, rs, h => by
    obtain ⟨a, b, rfl, ha, hb⟩ := h
    have ha0 := ha
    have hb0 := hb
    have hap := bestR_append a b
    unfold Drawn at ha hb
    cases ea : bestR a with
    | none =>
      rw [ea] at ha hap
      obtain ⟨rfl, ha⟩ := ha
      have hn : (Tr.pair l none r hr).next = (hr, .pair l none r.next.2 r.next.1) := by rw [Tr.next, if_pos (by rfl)]
      rw [hn]
      cases eb : bestR b with
      | none =>
        rw [eb] at hb hap
        exact drawn_of_none hap hb.1 ⟨a, b, rfl, ha0, next_drawn r b hb.2⟩
      | some q =>
        obtain ⟨j, y⟩ := q
        rw [eb] at hb hap
        exact drawn_of_some (i := a.length + j) (x := y) hap hb.1 ⟨a, b.modify j List.tail, modify_right _ _ _ _, ha0, next_drawn r _ hb.2⟩
    | some p =>
      obtain ⟨i, x⟩ := p
      rw [ea] at ha hap
      obtain ⟨rfl, ha⟩ := ha
      have hi := bestR_lt ea
      cases eb : bestR b with
      | none =>
        rw [eb] at hb hap
        obtain ⟨rfl, hb⟩ := hb
        have hn : (Tr.pair l (some x) r none).next = (some x, .pair l.next.2 l.next.1 r none) := by rw [Tr.next, if_neg (by simp [goR])]
        rw [hn]
        exact drawn_of_some hap rfl ⟨a.modify i List.tail, b, modify_left _ _ _ _ hi, next_drawn l _ ha, hb0⟩
      | some q =>
        obtain ⟨j, y⟩ := q
        rw [eb] at hb hap
        obtain ⟨rfl, hb⟩ := hb
        cases hlt : lessR y x with
        | true =>
          have hn : (Tr.pair l (some x) r (some y)).next = (some y, .pair l (some x) r.next.2 r.next.1) := by rw [Tr.next, if_pos (by simp [goR, hlt])]
          rw [hn]
          simp only [hlt, if_true] at hap
          exact drawn_of_some (i := a.length + j) hap rfl ⟨a, b.modify j List.tail, modify_right _ _ _ _, ha0, next_drawn r _ hb⟩
        | false =>
          have hn : (Tr.pair l (some x) r (some y)).next = (some x, .pair l.next.2 l.next.1 r (some y)) := by rw [Tr.next, if_neg (by simp [goR, hlt])]
          rw [hn]
          simp only [hlt, Bool.false_eq_true, if_false] at hap
          exact drawn_of_some hap rfl ⟨a.modify i List.tail, b, modify_left _ _ _ _ hi, next_drawn l _ ha, hb0⟩
/-- Two trees under a new pair. -/
theorem pair_rep {l r : Tr} {a b : List (List GE)} (hl : Rep l a) (hr : Rep r b) : Rep (.pair l.next.2 l.next.1 r.next.2 r.next.1) (a ++ b) :=
  ⟨a, b, rfl, next_drawn l a hl, next_drawn r b hr⟩

/-! ### merging to the end -/
def mergeAll (rs : List (List GE)) : List GE := mergeR (totalR rs) rs
theorem total_step {rs : List (List GE)} {i : Nat} {x : GE} (h : bestR rs = some (i, x)) : totalR rs = totalR (rs.modify i List.tail) + 1 := by
  obtain ⟨t, ht, _⟩ := bestR_some h
  have hp := (flat_modify rs i x t ht).length_eq
  rw [total_flat, total_flat, hp, List.length_cons]
theorem merge_none {rs : List (List GE)} (h : bestR rs = none) : mergeAll rs = [] := by
  unfold mergeAll
  cases hn : totalR rs with
  | zero => rfl
  | succ n => rw [mergeR, h]
theorem merge_step {rs : List (List GE)} {i : Nat} {x : GE} (h : bestR rs = some (i, x)) : mergeAll rs = x :: mergeAll (rs.modify i List.tail) := by
  unfold mergeAll
  rw [total_step h, mergeR, h]
theorem mergeAll_len (rs : List (List GE)) : (mergeAll rs).length = totalR rs := by
  rw [total_flat]
  exact (merge_perm _ rs (Nat.le_refl _)).length_eq
theorem mergeAll_sort {k : Nat} (hk : 0 < k) (l : List GE) : mergeAll (batchesR k l) = sortR l := by
  have h := sortAll_is (k := k) (n := totalR (batchesR k l)) hk (l := l) (by
    rw [total_flat]
    have := flat_sort (chunks k l.length l)
    rw [chunks_flat k hk _ l (Nat.le_refl _)] at this
    exact Nat.le_of_eq this.length_eq.symm)
  exact h
end Go.Proofs.Ytbfdhlpncblahaa
