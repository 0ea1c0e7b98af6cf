/- Ends of intervals, as data: ascending lists, the pairs of neighbours, counts, the greedy division (no program; no condition). -/
import Derived.Test.YtpgnappddddlpaaDegs
namespace Go.Proofs.Ytpgnappddddlpaa
open Go.RowKit

/-- From l on the list ascends. -/
def ascB (l : Int) : List Int → Bool
  | [] => true
  | e :: r => decide (l < e) && ascB e r
def lastE (l : Int) : List Int → Int
  | [] => l
  | e :: r => lastE e r
def pairsE (l : Int) : List Int → List (Int × Int)
  | [] => []
  | e :: r => (l, e) :: pairsE e r
def endsB (n : Int) (es : List Int) : Bool := ascB 0 es && decide (0 ≤ n ∧ n ≤ 150 ∧ lastE 0 es = n)
theorem ascB_append : ∀ (xs ys : List Int) (l : Int), ascB l (xs ++ ys) = (ascB l xs && ascB (lastE l xs) ys)
  | [], _, _ => by simp [ascB, lastE]
  | x :: r, ys, l => by simp [ascB, lastE, ascB_append r ys x, Bool.and_assoc]
theorem lastE_snoc : ∀ (xs : List Int) (l e : Int), lastE l (xs ++ [e]) = e
  | [], _, _ => rfl
  | x :: r, _, e => by simp [lastE, lastE_snoc r x e]
theorem pairsE_len : ∀ (xs : List Int) (l : Int), (pairsE l xs).length = xs.length
  | [], _ => rfl
  | x :: r, _ => by simp [pairsE, pairsE_len r x]
theorem pairsE_snoc : ∀ (xs : List Int) (l e : Int), pairsE l (xs ++ [e]) = pairsE l xs ++ [(lastE l xs, e)]
  | [], _, _ => rfl
  | x :: r, _, e => by simp [pairsE, lastE, pairsE_snoc r x e]
theorem pairsE_take : ∀ (xs : List Int) (l : Int) (k : Nat), (pairsE l xs).take k = pairsE l (xs.take k)
  | [], _, k => by simp [pairsE]
  | x :: r, _, 0 => rfl
  | x :: r, _, k + 1 => by simp [pairsE, pairsE_take r x k]
theorem pairsE_get : ∀ (xs : List Int) (l : Int) (k : Nat) (e : Int), xs[k]? = some e → (pairsE l xs)[k]? = some (lastE l (xs.take k), e)
  | [], _, _, _, h => by simp at h
  | x :: r, l, 0, e, h => by simp at h; simp [pairsE, lastE, h]
  | x :: r, l, k + 1, e, h => by
    simp only [List.getElem?_cons_succ] at h
    simp only [pairsE, List.getElem?_cons_succ, List.take_succ_cons, lastE]
    exact pairsE_get r x k e h
theorem asc_step {l e : Int} {xs : List Int} {k : Nat} (h : xs[k]? = some e) (ha : ascB l (xs.take k) = true) : ascB l (xs.take (k + 1)) = decide (lastE l (xs.take k) < e) := by
  rw [g_take xs k e h, ascB_append, ha]
  simp [ascB]
theorem last_step {l e : Int} {xs : List Int} {k : Nat} (h : xs[k]? = some e) : lastE l (xs.take (k + 1)) = e := by rw [g_take xs k e h, lastE_snoc]
theorem asc_no {l : Int} {xs : List Int} {k : Nat} (h : ascB l (xs.take k) = false) : ascB l xs = false := by
  rw [← List.take_append_drop k xs, ascB_append, h]
  rfl
theorem ends_no {n l : Int} {xs : List Int} {k : Nat} {e : Int} (hl : l = 0) (h : xs[k]? = some e) (ha : ascB l (xs.take k) = true) (hn : e ≤ lastE l (xs.take k)) : endsB n xs = false := by
  subst hl
  unfold endsB
  rw [asc_no (k := k + 1) (by rw [asc_step h ha]; simp; omega)]
  rfl
theorem ends_yes {n : Int} {xs : List Int} (ha : ascB 0 xs = true) : endsB n xs = decide (0 ≤ n ∧ n ≤ 150 ∧ lastE 0 xs = n) := by
  unfold endsB
  rw [ha]
  rfl
theorem endsB_iff {n : Int} {xs : List Int} (h : endsB n xs = true) : ascB 0 xs = true ∧ 0 ≤ n ∧ n ≤ 150 ∧ lastE 0 xs = n := by
  unfold endsB at h
  simp only [Bool.and_eq_true, decide_eq_true_eq] at h
  exact h
theorem asc_last_ge : ∀ (xs : List Int) (l : Int), ascB l xs = true → l ≤ lastE l xs
  | [], _, _ => Int.le_refl _
  | x :: r, l, h => by
    simp only [ascB, Bool.and_eq_true, decide_eq_true_eq] at h
    have := asc_last_ge r x h.2
    simp only [lastE]
    omega
/-- An ascending list, cut at place k. -/
theorem asc_at {l e : Int} {xs : List Int} {k : Nat} (h : xs[k]? = some e) (ha : ascB l xs = true) : l ≤ lastE l (xs.take k) ∧ lastE l (xs.take k) < e ∧ e ≤ lastE l xs := by
  have h1 := ha
  rw [← List.take_append_drop k xs, ascB_append] at h1
  simp only [Bool.and_eq_true] at h1
  obtain ⟨h1, h2⟩ := h1
  have h3 : lastE l xs = lastE (lastE l (xs.take k)) (xs.drop k) := by
    have : ∀ (a b : List Int) (l : Int), lastE l (a ++ b) = lastE (lastE l a) b := by
      intro a
      induction a with
      | nil => intro b l; rfl
      | cons x r ih => intro b l; simp [lastE, ih]
    conv => lhs; rw [← List.take_append_drop k xs]
    exact this _ _ _
  rw [h3]
  rw [g_drop xs k e h] at h2 ⊢
  simp only [ascB, Bool.and_eq_true, decide_eq_true_eq] at h2
  have h4 := asc_last_ge _ _ h2.2
  simp only [lastE]
  exact ⟨asc_last_ge _ _ h1, h2.1, h4⟩

/-- How many ends are at most v. -/
def cntE (v : Int) (xs : List Int) : Int := ((xs.filter fun e => decide (e ≤ v)).length : Nat)
theorem cnt_nil (v : Int) : cntE v [] = 0 := rfl
theorem cnt_step {v e : Int} {xs : List Int} {k : Nat} (h : xs[k]? = some e) : cntE v (xs.take (k + 1)) = cntE v (xs.take k) + (if e ≤ v then 1 else 0) := by
  rw [g_take xs k e h]
  unfold cntE
  rw [List.filter_append, List.length_append]
  by_cases hv : e ≤ v <;> simp [hv]
theorem cnt_bound (v : Int) (xs : List Int) : 0 ≤ cntE v xs ∧ cntE v xs ≤ xs.length := by
  have := List.length_filter_le (fun e => decide (e ≤ v)) xs
  unfold cntE
  omega
def ivE (xs : List Int) (v : Int) : Int := if v < 0 ∨ xs = [] ∨ lastE 0 xs ≤ v then -1 else cntE v xs
theorem lastE_get : ∀ (xs : List Int) (l : Int) (k : Nat), xs.length = k + 1 → xs[k]? = some (lastE l xs)
  | [x], _, 0, _ => rfl
  | x :: y :: r, _, 0, h => by simp at h
  | [], _, _, h => by simp at h
  | x :: r, _, k + 1, h => by
    rw [List.getElem?_cons_succ]
    exact lastE_get r x k (by simpa using h)

/-! ### a pair of ends -/
def spanR (xs : List Int) (p : Int) : Int × Int := if p < 0 ∨ (xs.length : Int) ≤ p then (0, 0) else (lastE 0 (xs.take p.toNat), xs.getD p.toNat 0)
theorem span_no {xs : List Int} {p : Int} (h : p < 0 ∨ (xs.length : Int) ≤ p) : spanR xs p = (0, 0) := if_pos h
theorem span_yes {xs : List Int} {k : Nat} {e : Int} (h : xs[k]? = some e) : spanR xs (k : Int) = (lastE 0 (xs.take k), e) := by
  have hk := (List.getElem?_eq_some_iff.1 h).1
  unfold spanR
  rw [if_neg (by omega), Int.toNat_natCast, List.getD_eq_getElem?_getD, h]
  rfl
theorem lastE_take_succ {xs : List Int} {k : Nat} {e l : Int} (h : xs[k]? = some e) : lastE l (xs.take (k + 1)) = e := last_step h
end Go.Proofs.Ytpgnappddddlpaa
