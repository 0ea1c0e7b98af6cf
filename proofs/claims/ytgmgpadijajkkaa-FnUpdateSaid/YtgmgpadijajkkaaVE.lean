/- Words for slices of views in memory (plain lemmas over the model; no condition): 'SlV': a slice that reads as a list of records of two truth values and two numbers; such a list laid record by record. -/
import Derived.Test.YtgmgpadijajkkaaGrN
import Derived.Test.YtgmgpadijajkkaaProgMath
namespace Go.Proofs.Ytgmgpadijajkkaa
open Go.RowKit

def VE.cells (e : VE) : List Value := [.bool e.i, .bool e.o, .int .i64 e.w, .int .i64 e.v]
theorem VE.cells_len (e : VE) : e.cells.length = 4 := rfl
theorem VE.cells_one (e : VE) : ∀ u ∈ e.cells, u.oneCell' = true := by
  intro u hu
  simp [VE.cells] at hu
  rcases hu with rfl | rfl | rfl | rfl <;> rfl
theorem ve_one (es : List VE) : ∀ u ∈ es.flatMap VE.cells, u.oneCell' = true := fun u hu => by
  obtain ⟨e, _, he⟩ := List.mem_flatMap.1 hu
  exact e.cells_one u he

/-- A slice of shard edges in memory. -/
structure SlV (w : World) (A : Option Addr) (n : Nat) (es : List VE) : Prop where
  len : es.length = n
  row : Row w 4 A n (es.flatMap VE.cells)
section
variable {w w' : World} {n c lo e : Nat} {A : Option Addr} {es : List VE}
theorem SlV.keep (h : SlV w A n es) (hs : w.heap.size ≤ w'.heap.size) (hk : ∀ i, i < w.heap.size → w'.heap[i]? = w.heap[i]?) : SlV w' A n es := ⟨h.len, h.row.keep hs hk⟩
theorem SlV.below (h : SlV w A n es) (hb : Below w.heap.size w w') : SlV w' A n es := h.keep hb.size hb.block
theorem SlV.drewN (h : SlV w A n es) (m : Nat) : SlV (w.drewN m) A n es := ⟨h.len, h.row.drewN m⟩
theorem SlV.nil : SlV w A 0 [] := ⟨rfl, Row.nil⟩
/-- The view at place j, its four cells. -/
theorem SlV.at_ {j : Nat} (h : SlV w A n es) (hj : j < n) : ∃ (b off : Nat) (e : VE), A = some ⟨b, off, none⟩ ∧ b < w.heap.size ∧ Hid (es[j]? = some e) ∧
    w.cell? ⟨b, off + j * 4, none⟩ = some (.bool e.i) ∧ w.cell? ⟨b, off + j * 4 + 1, none⟩ = some (.bool e.o) ∧ w.cell? ⟨b, off + j * 4 + 2, none⟩ = some (.int .i64 e.w) ∧ w.cell? ⟨b, off + j * 4 + 3, none⟩ = some (.int .i64 e.v) := by
  obtain ⟨b, off, rfl, hb, hc⟩ := h.row.lies (by omega)
  have hl : j < es.length := by have := h.len; omega
  have he : es[j]? = some es[j] := List.getElem?_eq_getElem hl
  refine ⟨b, off, es[j], rfl, hb, he, ?_, ?_, ?_, ?_⟩
  · exact hc (j * 4) _ (flat_get VE.cells 4 VE.cells_len es j 0 _ he (by omega))
  · exact hc (j * 4 + 1) _ (flat_get VE.cells 4 VE.cells_len es j 1 _ he (by omega))
  · exact hc (j * 4 + 2) _ (flat_get VE.cells 4 VE.cells_len es j 2 _ he (by omega))
  · exact hc (j * 4 + 3) _ (flat_get VE.cells 4 VE.cells_len es j 3 _ he (by omega))
theorem SlV.of_own (h : w.ownsRow lo e 4 (.slice A n c) n (es.flatMap VE.cells)) (hl : es.length = n) : SlV w A n es := ⟨hl, Row.of_own h⟩
end
/-- Four cells of one view stored. -/
def lay4 (w : World) (g q : Nat) (e : VE) : World := (((w.setCell ⟨g, q, none⟩ (.bool e.i)).setCell ⟨g, q + 1, none⟩ (.bool e.o)).setCell ⟨g, q + 2, none⟩ (.int .i64 e.w)).setCell ⟨g, q + 3, none⟩ (.int .i64 e.v)
theorem v_lay {w : World} {lo ty g c n k : Nat} {made rest : List VE} {x e : VE} (h : w.ownsRow lo ty 4 (.slice (some ⟨g, 0, none⟩) n c) n ((made ++ x :: rest).flatMap VE.cells)) (hm : made.length = k) :
    (lay4 w g (k * 4) e).ownsRow lo ty 4 (.slice (some ⟨g, 0, none⟩) n c) n ((made ++ e :: rest).flatMap VE.cells) ∧ w.grownBy (lay4 w g (k * 4) e) (some g) := by
  have h1 := h.stored (k * 4) (.bool e.i)
  have h2 := h1.1.stored (k * 4 + 1) (.bool e.o)
  have h3 := h2.1.stored (k * 4 + 2) (.int .i64 e.w)
  have h4 := h3.1.stored (k * 4 + 3) (.int .i64 e.v)
  have e1 := flat_set VE.cells 4 VE.cells_len (made ++ x :: rest) k 0 x ⟨e.i, x.o, x.w, x.v⟩ (.bool e.i) (g_get _ _ _ _ hm) (by omega) rfl
  rw [Nat.add_zero, g_set _ _ _ _ _ hm] at e1
  have e2 := flat_set VE.cells 4 VE.cells_len (made ++ ⟨e.i, x.o, x.w, x.v⟩ :: rest) k 1 ⟨e.i, x.o, x.w, x.v⟩ ⟨e.i, e.o, x.w, x.v⟩ (.bool e.o) (g_get _ _ _ _ hm) (by omega) rfl
  rw [g_set _ _ _ _ _ hm] at e2
  have e3 := flat_set VE.cells 4 VE.cells_len (made ++ ⟨e.i, e.o, x.w, x.v⟩ :: rest) k 2 ⟨e.i, e.o, x.w, x.v⟩ ⟨e.i, e.o, e.w, x.v⟩ (.int .i64 e.w) (g_get _ _ _ _ hm) (by omega) rfl
  rw [g_set _ _ _ _ _ hm] at e3
  have e4 := flat_set VE.cells 4 VE.cells_len (made ++ ⟨e.i, e.o, e.w, x.v⟩ :: rest) k 3 ⟨e.i, e.o, e.w, x.v⟩ e (.int .i64 e.v) (g_get _ _ _ _ hm) (by omega) rfl
  rw [g_set _ _ _ _ _ hm] at e4
  rw [e1, e2, e3, e4] at h4
  exact ⟨h4.1, ((h1.2.trans h2.2).trans h3.2).trans h4.2⟩
def zero4 : VE := ⟨false, false, 0, 0⟩
theorem rep4_succ (n k : Nat) (h : k < n) : List.replicate (n - k) zero4 = zero4 :: List.replicate (n - (k + 1)) zero4 := by
  rw [show n - k = (n - (k + 1)) + 1 by omega, List.replicate_succ]

end Go.Proofs.Ytgmgpadijajkkaa
