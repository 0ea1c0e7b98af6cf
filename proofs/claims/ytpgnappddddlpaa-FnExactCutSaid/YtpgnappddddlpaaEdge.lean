/- Words for slices of edges and of numbers in memory (plain lemmas over the model; no condition): 'SlG': a slice that reads as a list of edges; 'SlI': one that reads as a list of numbers; what is laid record by record. -/
import Derived.Test.YtpgnappddddlpaaEnt
import Derived.Test.YtpgnappddddlpaaBase
namespace Go.Proofs.Ytpgnappddddlpaa
open Go.RowKit

structure GE where
  f : Int
  t : Int
  w : Int
def GE.cells (e : GE) : List Value := [.int .i64 e.f, .int .i64 e.t, .int .i64 e.w]
def GE.v (e : GE) : Value := .agg #[.int .i64 e.f, .int .i64 e.t, .int .i64 e.w]
theorem GE.cells_len (e : GE) : e.cells.length = 3 := rfl
theorem GE.cells_one (e : GE) : ∀ u ∈ e.cells, u.oneCell' = true := by
  intro u hu
  simp [GE.cells] at hu
  rcases hu with rfl | rfl | rfl <;> rfl
theorem edges_one (es : List GE) : ∀ u ∈ es.flatMap GE.cells, u.oneCell' = true := fun u hu => by
  obtain ⟨e, _, he⟩ := List.mem_flatMap.1 hu
  exact e.cells_one u he

/-- A slice of edges in memory. -/
structure SlG (w : World) (A : Option Addr) (n : Nat) (es : List GE) : Prop where
  len : es.length = n
  row : Row w 3 A n (es.flatMap GE.cells)
/-- A slice of numbers in memory. -/
def vi (xs : List Int) : List Value := xs.map (.int .i64)
theorem vi_len (xs : List Int) : (vi xs).length = xs.length := by simp [vi]
theorem vi_get (xs : List Int) (j : Nat) : (vi xs)[j]? = (xs[j]?).map (.int .i64) := by simp [vi]
theorem vi_append (xs ys : List Int) : vi (xs ++ ys) = vi xs ++ vi ys := by simp [vi]
theorem vi_one (xs : List Int) : ∀ u ∈ vi xs, u.oneCell' = true := by
  intro u hu
  simp only [vi, List.mem_map] at hu
  obtain ⟨n, _, rfl⟩ := hu
  rfl
structure SlI (w : World) (A : Option Addr) (n : Nat) (xs : List Int) : Prop where
  len : xs.length = n
  row : Row w 1 A n (vi xs)
section
variable {w w' : World} {n c lo e : Nat} {A : Option Addr} {es : List GE} {xs : List Int}
theorem SlG.keep (h : SlG w A n es) (hs : w.heap.size ≤ w'.heap.size) (hk : ∀ i, i < w.heap.size → w'.heap[i]? = w.heap[i]?) : SlG w' A n es := ⟨h.len, h.row.keep hs hk⟩
theorem SlG.below (h : SlG w A n es) (hb : Below w.heap.size w w') : SlG w' A n es := h.keep hb.size hb.block
theorem SlG.drewN (h : SlG w A n es) (m : Nat) : SlG (w.drewN m) A n es := ⟨h.len, h.row.drewN m⟩
theorem SlG.nil : SlG w A 0 [] := ⟨rfl, Row.nil⟩
theorem SlI.keep (h : SlI w A n xs) (hs : w.heap.size ≤ w'.heap.size) (hk : ∀ i, i < w.heap.size → w'.heap[i]? = w.heap[i]?) : SlI w' A n xs := ⟨h.len, h.row.keep hs hk⟩
theorem SlI.below (h : SlI w A n xs) (hb : Below w.heap.size w w') : SlI w' A n xs := h.keep hb.size hb.block
theorem SlI.drewN (h : SlI w A n xs) (m : Nat) : SlI (w.drewN m) A n xs := ⟨h.len, h.row.drewN m⟩
theorem SlI.nil : SlI w A 0 [] := ⟨rfl, Row.nil⟩
/-- The edge at place j, its three cells. -/
theorem SlG.at_ {j : Nat} (h : SlG w A n es) (hj : j < n) : ∃ (b off : Nat) (e : GE), A = some ⟨b, off, none⟩ ∧ b < w.heap.size ∧ Hid (es[j]? = some e) ∧
    w.cell? ⟨b, off + j * 3, none⟩ = some (.int .i64 e.f) ∧ w.cell? ⟨b, off + j * 3 + 1, none⟩ = some (.int .i64 e.t) ∧ w.cell? ⟨b, off + j * 3 + 2, none⟩ = some (.int .i64 e.w) := by
  obtain ⟨b, off, rfl, hb, hc⟩ := h.row.lies (by omega)
  have hl : j < es.length := by have := h.len; omega
  have he : es[j]? = some es[j] := List.getElem?_eq_getElem hl
  refine ⟨b, off, es[j], rfl, hb, he, ?_, ?_, ?_⟩
  · exact hc (j * 3) _ (flat_get GE.cells 3 GE.cells_len es j 0 _ he (by omega))
  · exact hc (j * 3 + 1) _ (flat_get GE.cells 3 GE.cells_len es j 1 _ he (by omega))
  · exact hc (j * 3 + 2) _ (flat_get GE.cells 3 GE.cells_len es j 2 _ he (by omega))
theorem SlI.at_ {j : Nat} (h : SlI w A n xs) (hj : j < n) : ∃ (b off : Nat) (x : Int), A = some ⟨b, off, none⟩ ∧ b < w.heap.size ∧ Hid (xs[j]? = some x) ∧ w.cell? ⟨b, off + j, none⟩ = some (.int .i64 x) := by
  obtain ⟨b, off, rfl, hb, hc⟩ := h.row.lies (by omega)
  have hl : j < xs.length := by have := h.len; omega
  have he : xs[j]? = some xs[j] := List.getElem?_eq_getElem hl
  exact ⟨b, off, xs[j], rfl, hb, he, hc j _ (by rw [vi_get, he]; rfl)⟩
theorem SlG.of_own (h : w.ownsRow lo e 3 (.slice A n c) n (es.flatMap GE.cells)) (hl : es.length = n) : SlG w A n es := ⟨hl, Row.of_own h⟩
theorem SlI.of_own (h : w.ownsRow lo e 1 (.slice A n c) n (vi xs)) : SlI w A n xs := ⟨by have := h.1; rw [vi_len] at this; omega, Row.of_own h⟩
end
theorem g_chain {w W W' : World} (h : Below w.heap.size w W) (k : Below W.heap.size W W') : Below w.heap.size w W' := h.trans (k.mono h.size)

/-! ### a row that is laid record by record -/
theorem g_rep {α : Type} (f : α → List Value) (z : α) (k : Nat) (hf : ∀ a, (f a).length = k) (hk : 0 < k) (cs : Array Value) (h : cs.toList = f z) (n : Nat) : (madeCells cs (n * k)).toList = (List.replicate n z).flatMap f := by
  have hs : cs.size = k := by rw [← Array.length_toList, h, hf]
  apply List.ext_getElem?
  intro i
  by_cases hi : i < n * k
  · have hj : i / k < n := Nat.div_lt_of_lt_mul (by rw [Nat.mul_comm]; exact hi)
    have hr : i % k < k := Nat.mod_lt _ hk
    have e := flat_get f k hf (List.replicate n z) (i / k) (i % k) z (by simp [hj]) hr
    rw [show i / k * k + i % k = i by rw [Nat.mul_comm]; exact Nat.div_add_mod i k] at e
    rw [e]
    simp only [madeCells, Array.toList_map, Array.toList_range, List.getElem?_map, List.getElem?_range hi, Option.map_some, hs]
    rw [← h, Array.getElem?_toList, getElem!_pos cs (i % k) (by omega), Array.getElem?_eq_getElem (by omega)]
  · rw [List.getElem?_eq_none (by simp [madeCells]; omega), List.getElem?_eq_none (by rw [flat_len f k hf]; simp; omega)]
theorem g_take {α : Type} (es : List α) (k : Nat) (e : α) (h : es[k]? = some e) : es.take (k + 1) = es.take k ++ [e] := by
  obtain ⟨hk, rfl⟩ := List.getElem?_eq_some_iff.1 h
  exact List.take_succ_eq_append_getElem hk
theorem g_drop {α : Type} (es : List α) (k : Nat) (e : α) (h : es[k]? = some e) : es.drop k = e :: es.drop (k + 1) := by
  obtain ⟨hk, rfl⟩ := List.getElem?_eq_some_iff.1 h
  exact List.drop_eq_getElem_cons hk
theorem g_set {α : Type} (made rest : List α) (x y : α) (k : Nat) (hm : made.length = k) : (made ++ x :: rest).set k y = made ++ y :: rest := by
  rw [List.set_append_right _ _ (by omega), hm, Nat.sub_self]
  rfl
theorem g_get {α : Type} (made rest : List α) (x : α) (k : Nat) (hm : made.length = k) : (made ++ x :: rest)[k]? = some x := by
  simp [hm]
theorem g_own_at {w : World} {lo t size n c : Nat} {A : Option Addr} {cs : List Value} (h : w.ownsRow lo t size (.slice A n c) n cs) (hn : 0 < n) : ∃ g, A = some ⟨g, 0, none⟩ := by
  obtain ⟨g, cap, hv, _⟩ := h.form hn
  injection hv with hv
  exact ⟨g, hv⟩
/-- Three cells of one edge stored. -/
theorem g_lay {w : World} {lo ty g c n k : Nat} {made rest : List GE} {x e : GE} (h : w.ownsRow lo ty 3 (.slice (some ⟨g, 0, none⟩) n c) n ((made ++ x :: rest).flatMap GE.cells)) (hm : made.length = k) :
    (((w.setCell ⟨g, k * 3, none⟩ (.int .i64 e.f)).setCell ⟨g, k * 3 + 1, none⟩ (.int .i64 e.t)).setCell ⟨g, k * 3 + 2, none⟩ (.int .i64 e.w)).ownsRow lo ty 3 (.slice (some ⟨g, 0, none⟩) n c) n ((made ++ e :: rest).flatMap GE.cells) ∧
      w.grownBy (((w.setCell ⟨g, k * 3, none⟩ (.int .i64 e.f)).setCell ⟨g, k * 3 + 1, none⟩ (.int .i64 e.t)).setCell ⟨g, k * 3 + 2, none⟩ (.int .i64 e.w)) (some g) := by
  have h1 := h.stored (k * 3) (.int .i64 e.f)
  have h2 := h1.1.stored (k * 3 + 1) (.int .i64 e.t)
  have h3 := h2.1.stored (k * 3 + 2) (.int .i64 e.w)
  have e1 := flat_set GE.cells 3 GE.cells_len (made ++ x :: rest) k 0 x ⟨e.f, x.t, x.w⟩ (.int .i64 e.f) (g_get _ _ _ _ hm) (by omega) rfl
  rw [Nat.add_zero, g_set _ _ _ _ _ hm] at e1
  have e2 := flat_set GE.cells 3 GE.cells_len (made ++ ⟨e.f, x.t, x.w⟩ :: rest) k 1 ⟨e.f, x.t, x.w⟩ ⟨e.f, e.t, x.w⟩ (.int .i64 e.t) (g_get _ _ _ _ hm) (by omega) rfl
  rw [g_set _ _ _ _ _ hm] at e2
  have e3 := flat_set GE.cells 3 GE.cells_len (made ++ ⟨e.f, e.t, x.w⟩ :: rest) k 2 ⟨e.f, e.t, x.w⟩ e (.int .i64 e.w) (g_get _ _ _ _ hm) (by omega) rfl
  rw [g_set _ _ _ _ _ hm] at e3
  rw [e1, e2, e3] at h3
  exact ⟨h3.1, (h1.2.trans h2.2).trans h3.2⟩
end Go.Proofs.Ytpgnappddddlpaa
