/- Rows of frames in memory: that read, that are the call's own; one more is appended (plain lemmas over the model; no condition). -/
import Derived.Test.YtmlfhjkogcabiaaEntOwn
namespace Go.Proofs.Ytmlfhjkogcabiaa
open Go.RowKit

/-- A frame. -/
structure FrE where
  k : Int
  d : Dat
def FrE.cells (e : FrE) : List Value := [.int .i64 e.k, .slice e.d.A e.d.n e.d.c]
def FrE.fr (e : FrE) : Int × List Nat := (e.k, e.d.xs)
theorem FrE.cells_len (e : FrE) : e.cells.length = 2 := rfl
theorem FrE.cells_one (e : FrE) : ∀ u ∈ e.cells, u.oneCell' = true := by
  intro u hu
  simp only [FrE.cells, List.mem_cons, List.not_mem_nil, or_false] at hu
  rcases hu with rfl | rfl <;> rfl
theorem fr_split {e e' : FrE} (h : e.fr = e'.fr) : e.k = e'.k ∧ e.d.xs = e'.d.xs := by
  unfold FrE.fr at h
  injection h with h1 h2
  exact ⟨h1, h2⟩
theorem fr_map_at {α β : Type} {f : α → β} {xs ys : List α} (h : xs.map f = ys.map f) {k : Nat} {x y : α} (hx : xs[k]? = some x) (hy : ys[k]? = some y) : f x = f y := by
  have := congrArg (fun l => l[k]?) h
  simp only [List.getElem?_map, hx, hy, Option.map_some, Option.some.injEq] at this
  exact this
/-- A slice of frames in memory. -/
structure SlR (w : World) (A : Option Addr) (n : Nat) (es : List FrE) : Prop where
  len : es.length = n
  row : Row w 2 A n (es.flatMap FrE.cells)
  each : ∀ e ∈ es, e.d.Ok w
/-- Frames of the call's own. -/
structure OwnR (w : World) (lo : Nat) (A : Option Addr) (n c : Nat) (es : List FrE) : Prop where
  row : w.ownsRow lo 45 2 (.slice A n c) n (es.flatMap FrE.cells)
  len : es.length = n
  dat : OwnB w lo (es.map FrE.d)
section
variable {w w' : World} {n c lo : Nat} {A : Option Addr} {es : List FrE}
theorem SlR.keep (h : SlR w A n es) (hs : w.heap.size ≤ w'.heap.size) (hk : ∀ i, i < w.heap.size → w'.heap[i]? = w.heap[i]?) : SlR w' A n es :=
  ⟨h.len, h.row.keep hs hk, fun e he => (h.each e he).keep hs hk⟩
theorem SlR.below (h : SlR w A n es) (hb : Below w.heap.size w w') : SlR w' A n es := h.keep hb.size hb.block
theorem SlR.at_ {j : Nat} (h : SlR w A n es) (hj : j < n) : ∃ (b off : Nat) (e : FrE), A = some ⟨b, off, none⟩ ∧ b < w.heap.size ∧ Hid (es[j]? = some e) ∧ Hid (e.d.Ok w) ∧
    w.cell? ⟨b, off + j * 2, none⟩ = some (.int .i64 e.k) ∧ w.cell? ⟨b, off + j * 2 + 1, none⟩ = some (.slice e.d.A e.d.n e.d.c) := by
  obtain ⟨b, off, rfl, hb, hc⟩ := h.row.lies (by omega)
  have hl : j < es.length := by have := h.len; omega
  have he : es[j]? = some es[j] := List.getElem?_eq_getElem hl
  refine ⟨b, off, es[j], rfl, hb, he, h.each _ (List.getElem_mem hl), ?_, ?_⟩
  · exact hc (j * 2) _ (flat_get FrE.cells 2 FrE.cells_len es j 0 _ he (by omega))
  · exact hc (j * 2 + 1) _ (flat_get FrE.cells 2 FrE.cells_len es j 1 _ he (by omega))
theorem OwnR.sl (h : OwnR w lo A n c es) : SlR w A n es := ⟨h.len, Row.of_own h.row, fun e he => h.dat.ok _ (List.mem_map.2 ⟨e, he, rfl⟩)⟩
theorem OwnR.below (h : OwnR w lo A n c es) (hb : Below w.heap.size w w') : OwnR w' lo A n c es := ⟨own_below h.row hb, h.len, h.dat.below hb⟩
theorem OwnR.keep (h : OwnR w lo A n c es) (hk : ∀ k, lo ≤ k → k < w.heap.size → w'.heap[k]? = w.heap[k]?) : OwnR w' lo A n c es := ⟨own_keep h.row hk, h.len, h.dat.keep hk⟩
theorem OwnR.mono {lo' : Nat} (h : OwnR w lo A n c es) (hl : lo' ≤ lo) : OwnR w lo' A n c es := ⟨own_mono h.row hl, h.len, h.dat.mono hl⟩
end
theorem fr_form {w : World} {base e size n : Nat} {v : Value} {xs : List Value} (h : w.ownsRow base e size v n xs) : ∃ A c, v = .slice A n c := by
  rcases h.2 with ⟨rfl, rfl⟩ | ⟨g, cap, _, rfl, _⟩
  · exact ⟨_, _, rfl⟩
  · exact ⟨_, _, rfl⟩
theorem fr_two (w : World) (u v : Value) (t : TypeId) (g : Nat) (hg : g = w.heap.size) : Reads (w.alloc (.cells #[u, v] t)) (g + 1) 2 (some ⟨g, 0, none⟩) 1 [u, v] := by
  subst hg
  refine ⟨rfl, fun _ => ⟨_, rfl, by simp, fun j x hj => ?_⟩⟩
  match j, hj with
  | 0, hj => simp at hj; subst hj; simp [Addr.add]
  | 1, hj => simp at hj; subst hj; simp [Addr.add]
theorem fr_built (w : World) : (w.alloc (.cells #[] 45)).ownsRow w.heap.size 45 2 (.slice (some ⟨w.heap.size, 0, none⟩) 0 0) 0 [] :=
  World.ownsRow_lit w #[] 0 (Nat.le_refl _) (by unfold maxLen; omega) rfl
theorem fr_grow {w w' : World} {lo lo' e size n : Nat} {l : List Dat} {v : Value} {xs : List Value} (h : OwnB w lo l) (hv : w.ownsRow lo' e size v n xs) (hne : e ≠ 5) (hg : w.grownBy w' v.ownBlock) : OwnB w' lo l := by
  rcases hv.2 with ⟨rfl, _⟩ | ⟨g, cap, cur, rfl, _, hcell, _⟩
  · exact h.kept hg (fun d _ => by cases d.v.ownBlock <;> simp [Value.ownBlock])
  · exact h.kept hg (h.far hcell hne)
theorem Try.infoFrame : (Try.prog.info? 45).map (fun i => (i.zero, i.size, i.bytes)) = some (some (.agg #[.int .i64 0, .slice none 0 0]), 2, 32) := by kernel_rfl
end Go.Proofs.Ytmlfhjkogcabiaa
