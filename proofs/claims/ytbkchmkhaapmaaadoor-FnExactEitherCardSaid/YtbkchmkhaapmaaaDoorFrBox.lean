/- A block that holds a frame. -/
import Derived.Test.YtbkchmkhaapmaaaDoorFr
namespace Go.Proofs.YtbkchmkhaapmaaaDoor
open Go.RowKit

/-- A block that holds two cells. -/
structure Box2 (w : World) (b : Nat) (v0 v1 : Value) : Prop where
  lt : b < w.heap.size
  c0 : w.cell? ⟨b, 0, none⟩ = some v0
  c1 : w.cell? ⟨b, 1, none⟩ = some v1
section
variable {w w' : World} {b : Nat} {v0 v1 : Value}
theorem Box2.keep (h : Box2 w b v0 v1) (hs : w.heap.size ≤ w'.heap.size) (hk : w'.heap[b]? = w.heap[b]?) : Box2 w' b v0 v1 :=
  ⟨Nat.lt_of_lt_of_le h.lt hs, (World.cell?_of_block (a := ⟨b, 0, none⟩) hk).trans h.c0, (World.cell?_of_block (a := ⟨b, 1, none⟩) hk).trans h.c1⟩
theorem Box2.below (h : Box2 w b v0 v1) (hb : Below w.heap.size w w') : Box2 w' b v0 v1 := h.keep hb.size (hb.block b h.lt)
theorem Box2.new (w : World) (v0 v1 : Value) (t : TypeId) : Box2 (w.alloc (.cells #[v0, v1] t)) w.heap.size v0 v1 := ⟨by simp, by simp, by simp⟩
end
theorem made_ok {W : World} {lo c : Nat} {A : Option Addr} {xs : List Nat} (h : W.ownsRow lo 5 1 (.slice A xs.length c) xs.length (vb xs)) (hs : ∀ x ∈ xs, x < 256) : (⟨A, xs.length, c, xs⟩ : Dat).Ok W := ⟨Rd.of_own h hs, own_cap h⟩
end Go.Proofs.YtbkchmkhaapmaaaDoor
