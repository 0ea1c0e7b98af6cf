/- Plain mathematics of merging by positions: what is left of each batch, the batch whose first record goes next (no condition). -/
import Derived.Test.YtbfdhlpncblahaaTreeMath
import Derived.Test.YtbfdhlpncblahaaBat
namespace Go.Proofs.Ytbfdhlpncblahaa

/-- What is left of each batch, behind these positions. -/
def rest (bs : List BE) (ats : List Nat) : List (List GE) := List.zipWith (fun e a => e.es.drop a) bs ats
def bestI : Option (Nat × GE) → Int
  | none => -1
  | some p => p.1
theorem rest_len {bs : List BE} {ats : List Nat} (h : ats.length = bs.length) : (rest bs ats).length = bs.length := by simp [rest, h]
theorem rest_at {bs : List BE} {ats : List Nat} {i : Nat} {e : BE} {a : Nat} (he : bs[i]? = some e) (ha : ats[i]? = some a) : (rest bs ats)[i]? = some (e.es.drop a) := by
  simp [rest, List.getElem?_zipWith, he, ha]
theorem rest_set : ∀ (bs : List BE) (ats : List Nat) (i a : Nat), ats[i]? = some a → rest bs (ats.set i (a + 1)) = (rest bs ats).modify i List.tail
  | [], ats, i, a, _ => by simp [rest]
  | _ :: _, [], i, a, h => by simp at h
  | e :: bs, x :: ats, 0, a, h => by
    simp at h
    subst h
    simp [rest]
  | e :: bs, x :: ats, i + 1, a, h => by
    have := rest_set bs ats i a (by simpa using h)
    unfold rest at this ⊢
    simp only [List.set_cons_succ, List.zipWith_cons_cons, List.modify_succ_cons, this]
theorem rest_zero : ∀ (bs : List BE), rest bs (List.replicate bs.length 0) = bs.map BE.es
  | [] => rfl
  | e :: bs => by
    have := rest_zero bs
    unfold rest at this ⊢
    simp [List.replicate_succ, this]
/-- The best of the first i, with one more batch. -/
def bestMore (i : Nat) (b : Option (Nat × GE)) (x : List GE) : Option (Nat × GE) := bestFrom i b [x]
theorem best_take {rs : List (List GE)} {i : Nat} {x : List GE} (h : rs[i]? = some x) : bestFrom 0 none (rs.take (i + 1)) = bestMore i (bestFrom 0 none (rs.take i)) x := by
  have hi : i < rs.length := (List.getElem?_eq_some_iff.1 h).1
  have h1 : rs.take (i + 1) = rs.take i ++ [x] := by
    rw [List.take_add_one, h]; rfl
  rw [h1, bestFrom_append, List.length_take, Nat.min_eq_left (by omega), Nat.zero_add]
  rfl
theorem bestMore_nil (i : Nat) (b : Option (Nat × GE)) : bestMore i b [] = b := by cases b <;> rfl
theorem bestMore_new (i : Nat) (x : GE) (t : List GE) : bestMore i none (x :: t) = some (i, x) := rfl
theorem bestMore_less {i j : Nat} {x y : GE} {t : List GE} (h : lessR x y = true) : bestMore i (some (j, y)) (x :: t) = some (i, x) := by simp [bestMore, bestFrom, h]
theorem bestMore_not {i j : Nat} {x y : GE} {t : List GE} (h : lessR x y = false) : bestMore i (some (j, y)) (x :: t) = some (j, y) := by simp [bestMore, bestFrom, h]
/-- The best of the first i lies among them. -/
theorem best_in {rs : List (List GE)} {i j : Nat} {y : GE} (h : bestFrom 0 none (rs.take i) = some (j, y)) : j < i ∧ ∃ t, rs[j]? = some (y :: t) := by
  have h1 : bestR (rs.take i) = some (j, y) := h
  have h2 := bestR_lt h1
  obtain ⟨t, ht, _⟩ := bestR_some h1
  rw [List.length_take] at h2
  rw [List.getElem?_take] at ht
  split at ht
  · exact ⟨by omega, t, ht⟩
  · cases ht
/-- A list that starts with y behind a position: there it stands. -/
theorem drop_cons {es : List GE} {a : Nat} {y : GE} {t : List GE} (h : es.drop a = y :: t) : es[a]? = some y := by
  have : (es.drop a)[0]? = some y := by rw [h]; rfl
  simpa using this
theorem drop_at {es : List GE} {a : Nat} {y : GE} (h : es[a]? = some y) : es.drop a = y :: es.drop (a + 1) := by
  obtain ⟨hl, rfl⟩ := List.getElem?_eq_some_iff.1 h
  exact List.drop_eq_getElem_cons hl
end Go.Proofs.Ytbfdhlpncblahaa
