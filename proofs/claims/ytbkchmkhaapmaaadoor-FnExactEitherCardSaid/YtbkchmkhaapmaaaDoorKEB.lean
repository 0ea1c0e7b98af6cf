/- Shard edges and shards: what new ones are (no condition). -/
import Derived.Test.YtbkchmkhaapmaaaDoorKE
namespace Go.Proofs.YtbkchmkhaapmaaaDoor
open Go.RowKit

/-- A block that holds a shard. -/
structure HBox (w : World) (b : Nat) (lo hi : Int) (A : Option Addr) (n c : Nat) : Prop where
  lt : b < w.heap.size
  c0 : w.cell? ⟨b, 0, none⟩ = some (.int .i64 lo)
  c1 : w.cell? ⟨b, 1, none⟩ = some (.int .i64 hi)
  c2 : w.cell? ⟨b, 2, none⟩ = some (.slice A n c)
section
variable {w w' : World} {b n c : Nat} {lo hi : Int} {A : Option Addr}
theorem HBox.keep (h : HBox w b lo hi A n c) (hs : w.heap.size ≤ w'.heap.size) (hk : w'.heap[b]? = w.heap[b]?) : HBox w' b lo hi A n c :=
  ⟨Nat.lt_of_lt_of_le h.lt hs, (World.cell?_of_block (a := ⟨b, 0, none⟩) hk).trans h.c0, (World.cell?_of_block (a := ⟨b, 1, none⟩) hk).trans h.c1, (World.cell?_of_block (a := ⟨b, 2, none⟩) hk).trans h.c2⟩
theorem HBox.below (h : HBox w b lo hi A n c) (hb : Below w.heap.size w w') : HBox w' b lo hi A n c := h.keep hb.size (hb.block b h.lt)
theorem HBox.new (w : World) (lo hi : Int) (A : Option Addr) (n c : Nat) (t : TypeId) : HBox (w.alloc (.cells #[.int .i64 lo, .int .i64 hi, .slice A n c] t)) w.heap.size lo hi A n c := ⟨by simp, by simp, by simp, by simp⟩
theorem HBox.alloc (h : HBox w b lo hi A n c) (o : Obj) : HBox (w.alloc o) b lo hi A n c := h.below (below_a1 w o)
theorem HBox.drew (h : HBox w b lo hi A n c) : HBox w.drew b lo hi A n c := ⟨h.lt, h.c0, h.c1, h.c2⟩
end
end Go.Proofs.YtbkchmkhaapmaaaDoor
