/- Words for slices of shard edges in memory (plain lemmas over the model; no condition): 'SlK': a slice that reads as a list of records of five numbers; such a list laid record by record; marks in it. -/
import Derived.Test.YtbkchmkhaapmaaaDoorGrN
namespace Go.Proofs.YtbkchmkhaapmaaaDoor
open Go.RowKit

structure KE where
  f : Int
  t : Int
  w : Int
  i : Int
  v : Int
def KE.cells (e : KE) : List Value := [.int .i64 e.f, .int .i64 e.t, .int .i64 e.w, .int .i64 e.i, .int .i64 e.v]
theorem KE.cells_len (e : KE) : e.cells.length = 5 := rfl
theorem KE.cells_one (e : KE) : ∀ u ∈ e.cells, u.oneCell' = true := by
  intro u hu
  simp [KE.cells] at hu
  rcases hu with rfl | rfl | rfl | rfl | rfl <;> rfl
theorem ke_one (es : List KE) : ∀ u ∈ es.flatMap KE.cells, u.oneCell' = true := fun u hu => by
  obtain ⟨e, _, he⟩ := List.mem_flatMap.1 hu
  exact e.cells_one u he

/-- A slice of shard edges in memory. -/
structure SlK (w : World) (A : Option Addr) (n : Nat) (es : List KE) : Prop where
  len : es.length = n
  row : Row w 5 A n (es.flatMap KE.cells)
section
variable {w w' : World} {n c lo e : Nat} {A : Option Addr} {es : List KE}
theorem SlK.keep (h : SlK w A n es) (hs : w.heap.size ≤ w'.heap.size) (hk : ∀ i, i < w.heap.size → w'.heap[i]? = w.heap[i]?) : SlK w' A n es := ⟨h.len, h.row.keep hs hk⟩
theorem SlK.below (h : SlK w A n es) (hb : Below w.heap.size w w') : SlK w' A n es := h.keep hb.size hb.block
theorem SlK.drewN (h : SlK w A n es) (m : Nat) : SlK (w.drewN m) A n es := ⟨h.len, h.row.drewN m⟩
theorem SlK.nil : SlK w A 0 [] := ⟨rfl, Row.nil⟩
/-- The edge at place j, its five cells. -/
theorem SlK.at_ {j : Nat} (h : SlK w A n es) (hj : j < n) : ∃ (b off : Nat) (e : KE), A = some ⟨b, off, none⟩ ∧ b < w.heap.size ∧ Hid (es[j]? = some e) ∧
    w.cell? ⟨b, off + j * 5, none⟩ = some (.int .i64 e.f) ∧ w.cell? ⟨b, off + j * 5 + 1, none⟩ = some (.int .i64 e.t) ∧ w.cell? ⟨b, off + j * 5 + 2, none⟩ = some (.int .i64 e.w) ∧
    w.cell? ⟨b, off + j * 5 + 3, none⟩ = some (.int .i64 e.i) ∧ w.cell? ⟨b, off + j * 5 + 4, none⟩ = some (.int .i64 e.v) := by
  obtain ⟨b, off, rfl, hb, hc⟩ := h.row.lies (by omega)
  have hl : j < es.length := by have := h.len; omega
  have he : es[j]? = some es[j] := List.getElem?_eq_getElem hl
  refine ⟨b, off, es[j], rfl, hb, he, ?_, ?_, ?_, ?_, ?_⟩
  · exact hc (j * 5) _ (flat_get KE.cells 5 KE.cells_len es j 0 _ he (by omega))
  · exact hc (j * 5 + 1) _ (flat_get KE.cells 5 KE.cells_len es j 1 _ he (by omega))
  · exact hc (j * 5 + 2) _ (flat_get KE.cells 5 KE.cells_len es j 2 _ he (by omega))
  · exact hc (j * 5 + 3) _ (flat_get KE.cells 5 KE.cells_len es j 3 _ he (by omega))
  · exact hc (j * 5 + 4) _ (flat_get KE.cells 5 KE.cells_len es j 4 _ he (by omega))
theorem SlK.of_own (h : w.ownsRow lo e 5 (.slice A n c) n (es.flatMap KE.cells)) (hl : es.length = n) : SlK w A n es := ⟨hl, Row.of_own h⟩
end
/-- Five cells of one edge stored. -/
def lay5 (w : World) (g q : Nat) (e : KE) : World := ((((w.setCell ⟨g, q, none⟩ (.int .i64 e.f)).setCell ⟨g, q + 1, none⟩ (.int .i64 e.t)).setCell ⟨g, q + 2, none⟩ (.int .i64 e.w)).setCell ⟨g, q + 3, none⟩ (.int .i64 e.i)).setCell ⟨g, q + 4, none⟩ (.int .i64 e.v)
theorem k_lay {w : World} {lo ty g c n k : Nat} {made rest : List KE} {x e : KE} (h : w.ownsRow lo ty 5 (.slice (some ⟨g, 0, none⟩) n c) n ((made ++ x :: rest).flatMap KE.cells)) (hm : made.length = k) :
    (lay5 w g (k * 5) e).ownsRow lo ty 5 (.slice (some ⟨g, 0, none⟩) n c) n ((made ++ e :: rest).flatMap KE.cells) ∧ w.grownBy (lay5 w g (k * 5) e) (some g) := by
  have h1 := h.stored (k * 5) (.int .i64 e.f)
  have h2 := h1.1.stored (k * 5 + 1) (.int .i64 e.t)
  have h3 := h2.1.stored (k * 5 + 2) (.int .i64 e.w)
  have h4 := h3.1.stored (k * 5 + 3) (.int .i64 e.i)
  have h5 := h4.1.stored (k * 5 + 4) (.int .i64 e.v)
  have e1 := flat_set KE.cells 5 KE.cells_len (made ++ x :: rest) k 0 x ⟨e.f, x.t, x.w, x.i, x.v⟩ (.int .i64 e.f) (g_get _ _ _ _ hm) (by omega) rfl
  rw [Nat.add_zero, g_set _ _ _ _ _ hm] at e1
  have e2 := flat_set KE.cells 5 KE.cells_len (made ++ ⟨e.f, x.t, x.w, x.i, x.v⟩ :: rest) k 1 ⟨e.f, x.t, x.w, x.i, x.v⟩ ⟨e.f, e.t, x.w, x.i, x.v⟩ (.int .i64 e.t) (g_get _ _ _ _ hm) (by omega) rfl
  rw [g_set _ _ _ _ _ hm] at e2
  have e3 := flat_set KE.cells 5 KE.cells_len (made ++ ⟨e.f, e.t, x.w, x.i, x.v⟩ :: rest) k 2 ⟨e.f, e.t, x.w, x.i, x.v⟩ ⟨e.f, e.t, e.w, x.i, x.v⟩ (.int .i64 e.w) (g_get _ _ _ _ hm) (by omega) rfl
  rw [g_set _ _ _ _ _ hm] at e3
  have e4 := flat_set KE.cells 5 KE.cells_len (made ++ ⟨e.f, e.t, e.w, x.i, x.v⟩ :: rest) k 3 ⟨e.f, e.t, e.w, x.i, x.v⟩ ⟨e.f, e.t, e.w, e.i, x.v⟩ (.int .i64 e.i) (g_get _ _ _ _ hm) (by omega) rfl
  rw [g_set _ _ _ _ _ hm] at e4
  have e5 := flat_set KE.cells 5 KE.cells_len (made ++ ⟨e.f, e.t, e.w, e.i, x.v⟩ :: rest) k 4 ⟨e.f, e.t, e.w, e.i, x.v⟩ e (.int .i64 e.v) (g_get _ _ _ _ hm) (by omega) rfl
  rw [g_set _ _ _ _ _ hm] at e5
  rw [e1, e2, e3, e4, e5] at h5
  exact ⟨h5.1, (((h1.2.trans h2.2).trans h3.2).trans h4.2).trans h5.2⟩
def zero5 : KE := ⟨0, 0, 0, 0, 0⟩
theorem rep5_succ (n k : Nat) (h : k < n) : List.replicate (n - k) zero5 = zero5 :: List.replicate (n - (k + 1)) zero5 := by
  rw [show n - k = (n - (k + 1)) + 1 by omega, List.replicate_succ]

/-! ### marks -/
def mark5 (k : Nat) : List KE → List KE
  | [] => []
  | _ :: r => ⟨k, k + 1, k + 2, k + 3, k + 4⟩ :: mark5 (k + 5) r
theorem mark5_len : ∀ (es : List KE) (k : Nat), (mark5 k es).length = es.length
  | [], _ => rfl
  | _ :: r, k => by rw [mark5, List.length_cons, mark5_len r, List.length_cons]
theorem mark5_snoc : ∀ (es : List KE) (k : Nat) (e : KE), mark5 k (es ++ [e]) = mark5 k es ++ [⟨(k + 5 * es.length : Nat), (k + 5 * es.length : Nat) + 1, (k + 5 * es.length : Nat) + 2, (k + 5 * es.length : Nat) + 3, (k + 5 * es.length : Nat) + 4⟩]
  | [], k, _ => by simp [mark5]
  | _ :: r, k, e => by
    rw [List.cons_append, mark5, mark5_snoc r (k + 5) e, mark5, List.cons_append, List.length_cons, show k + 5 + 5 * r.length = k + 5 * (r.length + 1) by omega]
theorem mark5_get : ∀ (es : List KE) (k j : Nat), j < es.length → (mark5 k es)[j]? = some ⟨((k + 5 * j : Nat) : Int), ((k + 5 * j : Nat) : Int) + 1, ((k + 5 * j : Nat) : Int) + 2, ((k + 5 * j : Nat) : Int) + 3, ((k + 5 * j : Nat) : Int) + 4⟩
  | [], _, j, h => by simp at h
  | _ :: r, k, 0, _ => by simp [mark5]
  | _ :: r, k, j + 1, h => by
    rw [mark5, List.getElem?_cons_succ, mark5_get r (k + 5) j (by simpa using h), show k + 5 + 5 * j = k + 5 * (j + 1) by omega]
end Go.Proofs.YtbkchmkhaapmaaaDoor
