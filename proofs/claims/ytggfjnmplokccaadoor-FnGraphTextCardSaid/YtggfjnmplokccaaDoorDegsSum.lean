/- Plain mathematics: the degrees of a valid graph add up to its edges. -/
import Derived.Test.YtggfjnmplokccaaDoorDegsB
namespace Go.Proofs.YtggfjnmplokccaaDoor

theorem sum_put : ∀ (l : List Int) (i : Nat) (v : Int) (hi : i < l.length), (l.set i v).sum = l.sum - l[i] + v
  | [], i, v, hi => by simp at hi
  | x :: r, 0, v, _ => by simp; omega
  | x :: r, i + 1, v, hi => by
    simp only [List.set_cons_succ, List.sum_cons, List.getElem_cons_succ]
    rw [sum_put r i v (by simpa using hi)]
    omega
theorem bump_sum (l : List Int) (i : Nat) (hi : i < l.length) : (bump l i).sum = l.sum + 1 := by
  unfold bump
  rw [sum_put l i _ hi, List.getD_eq_getElem?_getD, List.getElem?_eq_getElem hi]
  simp
  omega
theorem fold_sum (key : GE → Int) : ∀ (es : List GE) (l : List Int), (∀ e ∈ es, (key e).toNat < l.length) → (es.foldl (fun l e => bump l (key e).toNat) l).sum = l.sum + es.length
  | [], l, _ => by simp
  | e :: r, l, h => by
    rw [List.foldl_cons, fold_sum key r _ (fun x hx => by rw [bump_len]; exact h x (by simp [hx])), bump_sum l _ (h e (by simp)), List.length_cons]
    omega
theorem degs_sum (key : GE → Int) (hk : key = GE.f ∨ key = GE.t) {N : Int} {es : List GE} (h : graphB N es = true) : (degsOf key N es).sum = es.length := by
  unfold degsOf degs
  rw [if_pos h, fold_sum]
  · simp
  · intro e he
    have := edgeB_iff ((graphB_iff h).2.2.2 e he)
    rw [List.length_replicate]
    rcases hk with rfl | rfl <;> omega
theorem sum_take {l : List Int} {k : Nat} {x : Int} (h : l[k]? = some x) : (l.take (k + 1)).sum = (l.take k).sum + x := by
  obtain ⟨hk, rfl⟩ := List.getElem?_eq_some_iff.1 h
  rw [List.take_succ_eq_append_getElem hk, List.sum_append]
  simp
theorem sum_nonneg : ∀ (l : List Int), (∀ x ∈ l, 0 ≤ x) → 0 ≤ l.sum
  | [], _ => by simp
  | x :: r, h => by
    rw [List.sum_cons]
    have := sum_nonneg r (fun y hy => h y (by simp [hy]))
    have := h x (by simp)
    omega
theorem sum_take_le (l : List Int) (k : Nat) (h : ∀ x ∈ l, 0 ≤ x) : 0 ≤ (l.take k).sum ∧ (l.take k).sum ≤ l.sum := by
  have h1 := sum_nonneg (l.take k) (fun x hx => h x (List.mem_of_mem_take hx))
  have h2 := sum_nonneg (l.drop k) (fun x hx => h x (List.mem_of_mem_drop hx))
  have h3 : l.sum = (l.take k).sum + (l.drop k).sum := by rw [← List.sum_append, List.take_append_drop]
  omega
end Go.Proofs.YtggfjnmplokccaaDoor
