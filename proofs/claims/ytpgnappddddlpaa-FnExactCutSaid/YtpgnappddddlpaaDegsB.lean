/- Degrees as data, and a row of numbers that is counted in (no condition). -/
import Derived.Test.YtpgnappddddlpaaGraph
import Derived.Test.YtpgnappddddlpaaGrEq
namespace Go.Proofs.Ytpgnappddddlpaa
open Go.RowKit

/-- One more at place i. -/
def bump (l : List Int) (i : Nat) : List Int := l.set i (l.getD i 0 + 1)
def degs (key : GE → Int) (n : Nat) (es : List GE) : List Int := es.foldl (fun l e => bump l (key e).toNat) (List.replicate n 0)
def degsOf (key : GE → Int) (N : Int) (es : List GE) : List Int := if graphB N es then degs key N.toNat es else []
theorem bump_len (l : List Int) (i : Nat) : (bump l i).length = l.length := by simp [bump]
theorem degs_snoc (key : GE → Int) (n : Nat) (es : List GE) (e : GE) : degs key n (es ++ [e]) = bump (degs key n es) (key e).toNat := by simp [degs]
theorem fold_len (key : GE → Int) : ∀ (es : List GE) (l : List Int), (es.foldl (fun l e => bump l (key e).toNat) l).length = l.length
  | [], _ => rfl
  | e :: r, l => by rw [List.foldl_cons, fold_len key r, bump_len]
theorem degs_len (key : GE → Int) (n : Nat) (es : List GE) : (degs key n es).length = n := by
  unfold degs
  rw [fold_len]
  simp
theorem bump_bound {l : List Int} {i : Nat} {q : Int} (h : ∀ x ∈ l, 0 ≤ x ∧ x ≤ q) (hq : 0 ≤ q) : ∀ x ∈ bump l i, 0 ≤ x ∧ x ≤ q + 1 := by
  intro x hx
  unfold bump at hx
  rcases List.mem_or_eq_of_mem_set hx with hx | rfl
  · have := h x hx; omega
  · rw [List.getD_eq_getElem?_getD]
    cases hh : l[i]? with
    | none => simp; omega
    | some y => have := h y (List.mem_of_getElem? hh); simp; omega
theorem fold_bound (key : GE → Int) : ∀ (es : List GE) (l : List Int) (q : Int), 0 ≤ q → (∀ x ∈ l, 0 ≤ x ∧ x ≤ q) → ∀ x ∈ es.foldl (fun l e => bump l (key e).toNat) l, 0 ≤ x ∧ x ≤ q + es.length
  | [], l, q, _, h => by simpa using h
  | e :: r, l, q, hq, h => by
    intro x hx
    rw [List.foldl_cons] at hx
    have := fold_bound key r _ (q + 1) (by omega) (bump_bound h hq) x hx
    rw [List.length_cons]
    omega
theorem degs_bound (key : GE → Int) (n : Nat) (es : List GE) : ∀ x ∈ degs key n es, 0 ≤ x ∧ x ≤ es.length := by
  intro x hx
  have := fold_bound key es (List.replicate n 0) 0 (by omega) (fun y hy => by rw [List.eq_of_mem_replicate hy]; omega) x hx
  omega
theorem vi_bump (l : List Int) (i : Nat) (v : Int) : (vi l).set i (.int .i64 v) = vi (l.set i v) := by simp [vi, List.map_set]

def OwI (w : World) (lo : Nat) (A : Option Addr) (n c : Nat) (xs : List Int) : Prop := w.ownsRow lo 3 1 (.slice A n c) n (vi xs)
def MadeI (w : World) (xs : List Int) (e : Ending) (w' : World) : Prop :=
  ∃ A n c, e = .returned (.slice A n c) ∧ OwI w' w.heap.size A n c xs ∧ Below w.heap.size w w'
theorem flat_one : ∀ xs : List Int, xs.flatMap (fun x : Int => [Value.int .i64 x]) = vi xs
  | [] => rfl
  | x :: r => by rw [List.flatMap_cons, flat_one r]; rfl
theorem made_zero (M : Nat) (key : GE → Int) (es : List GE) : (madeCells (Value.int .i64 0).cells (M * 1)).toList = vi (degs key M (es.take 0)) := by
  rw [g_rep (fun x : Int => [Value.int .i64 x]) 0 1 (fun _ => rfl) (by omega) (Value.int .i64 0).cells rfl M, flat_one]
  rfl
theorem degs_at {key : GE → Int} {M : Nat} {es : List GE} {f : Nat} (hf : f < M) : ∃ x : Int, (degs key M es)[f]? = some x ∧ 0 ≤ x ∧ x ≤ es.length := by
  have hl : f < (degs key M es).length := by rw [degs_len]; exact hf
  exact ⟨(degs key M es)[f], List.getElem?_eq_getElem hl, degs_bound key M es _ (List.getElem_mem hl)⟩
theorem degs_step {key : GE → Int} {M k : Nat} {es : List GE} {e : GE} {f : Nat} {x : Int} (he : es[k]? = some e) (hk : key e = (f : Int)) (hx : (degs key M (es.take k))[f]? = some x) : vi (degs key M (es.take (k + 1))) = (vi (degs key M (es.take k))).set f (.int .i64 (x + 1)) := by
  rw [g_take es k e he, degs_snoc, hk, Int.toNat_natCast, vi_bump]
  unfold bump
  rw [List.getD_eq_getElem?_getD, hx]
  rfl

end Go.Proofs.Ytpgnappddddlpaa
