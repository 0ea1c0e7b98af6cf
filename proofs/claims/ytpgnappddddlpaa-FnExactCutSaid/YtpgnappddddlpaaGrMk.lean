/- Marks in lists of records of three numbers and of numbers, as data (no condition). -/
import Derived.Test.YtpgnappddddlpaaGrN
namespace Go.Proofs.Ytpgnappddddlpaa
open Go.RowKit

/-! ### marks -/
/-- The edges from k on bear the marks. -/
def markG (k : Nat) : List GE → List GE
  | [] => []
  | _ :: r => ⟨k, k + 1, k + 2⟩ :: markG (k + 3) r
def ints (k n : Nat) : List Int := (List.range n).map fun i => ((k + i : Nat) : Int)
theorem ints_len (k n : Nat) : (ints k n).length = n := by simp [ints]
theorem ints_get (k n i : Nat) (h : i < n) : (ints k n)[i]? = some ((k + i : Nat) : Int) := by simp [ints, h]
/-- The first i of a list bear marks. -/
def markI (k : Nat) (xs : List Int) (i : Nat) : List Int := ints k i ++ xs.drop i
theorem markI_zero (k : Nat) (xs : List Int) : markI k xs 0 = xs := by simp [markI, ints]
theorem markI_full (k : Nat) (xs : List Int) : markI k xs xs.length = ints k xs.length := by simp [markI]
theorem markI_step (k : Nat) (xs : List Int) (i : Nat) (h : i < xs.length) : (vi (markI k xs i)).set i (.int .i64 ((k + i : Nat) : Int)) = vi (markI k xs (i + 1)) := by
  have hd : xs.drop i = xs[i] :: xs.drop (i + 1) := List.drop_eq_getElem_cons h
  unfold markI
  rw [hd, vi_append, vi_append]
  rw [List.set_append_right _ _ (by rw [vi_len, ints_len]; exact Nat.le_refl _), vi_len, ints_len, Nat.sub_self]
  have : ints k (i + 1) = ints k i ++ [((k + i : Nat) : Int)] := by simp [ints, List.range_succ]
  rw [this, vi_append, List.append_assoc]
  rfl
theorem markI_len (k : Nat) (xs : List Int) (i : Nat) (h : i ≤ xs.length) : (markI k xs i).length = xs.length := by
  simp [markI, ints_len]; omega
def MarkedI (w : World) (lo k : Nat) (A : Option Addr) (n c : Nat) (e : Ending) (w' : World) : Prop :=
  e = .returned (.int .i64 ((k + n : Nat) : Int)) ∧ w'.ownsRow lo 3 1 (.slice A n c) n (vi (ints k n)) ∧ w.grownBy w' (Value.slice A n c).ownBlock

/-! ### marks in edges -/
theorem markG_len : ∀ (es : List GE) (k : Nat), (markG k es).length = es.length
  | [], _ => rfl
  | _ :: r, k => by rw [markG, List.length_cons, markG_len r, List.length_cons]
theorem markG_snoc : ∀ (es : List GE) (k : Nat) (e : GE), markG k (es ++ [e]) = markG k es ++ [⟨(k + 3 * es.length : Nat), (k + 3 * es.length : Nat) + 1, (k + 3 * es.length : Nat) + 2⟩]
  | [], k, _ => by simp [markG]
  | _ :: r, k, e => by
    rw [List.cons_append, markG, markG_snoc r (k + 3) e, markG, List.cons_append, List.length_cons, show k + 3 + 3 * r.length = k + 3 * (r.length + 1) by omega]
theorem markG_get : ∀ (es : List GE) (k j : Nat), j < es.length → (markG k es)[j]? = some ⟨((k + 3 * j : Nat) : Int), ((k + 3 * j : Nat) : Int) + 1, ((k + 3 * j : Nat) : Int) + 2⟩
  | [], _, j, h => by simp at h
  | _ :: r, k, 0, _ => by simp [markG]
  | _ :: r, k, j + 1, h => by
    rw [markG, List.getElem?_cons_succ, markG_get r (k + 3) j (by simpa using h), show k + 3 + 3 * j = k + 3 * (j + 1) by omega]

end Go.Proofs.Ytpgnappddddlpaa
