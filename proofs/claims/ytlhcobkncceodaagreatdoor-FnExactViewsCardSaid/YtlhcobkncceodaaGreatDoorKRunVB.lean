/- The views that a vertex of a run has, and where they stand, in memory: two lists of the call's own (plain lemmas over the model; no condition). -/
import Derived.Test.YtlhcobkncceodaaGreatDoorKRunSt
import Derived.Test.YtlhcobkncceodaaGreatDoorCE
import Derived.Test.YtlhcobkncceodaaGreatDoorKLab
import Derived.Test.YtlhcobkncceodaaGreatDoorKDBoxB
namespace Go.Proofs.YtlhcobkncceodaaGreatDoor
open Go.RowKit
set_option linter.unusedVariables false

def zI (l : List Nat) : List Int := l.map fun i : Nat => (i : Int)
theorem zI_len (l : List Nat) : (zI l).length = l.length := by unfold zI; rw [List.length_map]
theorem zI_snoc (l : List Nat) (k : Nat) : vi (zI (l ++ [k])) = vi (zI l) ++ [.int .i64 (k : Int)] := by unfold zI vi; simp
theorem zI_get {l : List Nat} {i k : Nat} (h : l[i]? = some k) : (zI l)[i]? = some (k : Int) := by unfold zI; rw [List.getElem?_map, h]; rfl
theorem vw_reads (w : World) (e : VE) (t : TypeId) (g : Nat) (hg : g = w.heap.size) : Reads (w.alloc (.cells #[.bool e.i, .bool e.o, .int .i64 e.w, .int .i64 e.v] t)) (g + 1) 4 (some ⟨g, 0, none⟩) 1 (VE.cells e) := by
  subst hg
  refine ⟨rfl, fun _ => ⟨_, rfl, by simp, fun j v hj => ?_⟩⟩
  match j, hj with
  | 0, hj => simp [VE.cells] at hj; subst hj; simp [Addr.add]
  | 1, hj => simp [VE.cells] at hj; subst hj; simp [Addr.add]
  | 2, hj => simp [VE.cells] at hj; subst hj; simp [Addr.add]
  | 3, hj => simp [VE.cells] at hj; subst hj; simp [Addr.add]
/-- New views, and new places. -/
def MadeVI (w : World) (es : List VE) (is : List Nat) (e : Ending) (w' : World) : Prop :=
  ∃ A c A' c', e = .returned (.tuple #[.slice A is.length c, .slice A' is.length c']) ∧ w'.ownsRow w.heap.size 93 4 (.slice A is.length c) is.length (es.flatMap VE.cells) ∧ w'.ownsRow w.heap.size 3 1 (.slice A' is.length c') is.length (vi (zI is)) ∧ Below w.heap.size w w'
/-- While they are gathered. -/
structure VSt (w wr : World) (A1 : Option Addr) (c1 : Nat) (A2 : Option Addr) (c2 : Nat) (es : List VE) (is : List Nat) : Prop where
  v : wr.ownsRow w.heap.size 93 4 (.slice A1 is.length c1) is.length (es.flatMap VE.cells)
  i : wr.ownsRow w.heap.size 3 1 (.slice A2 is.length c2) is.length (vi (zI is))
  h : Below w.heap.size w wr
section
variable {w wr w5 : World} {A1 A2 : Option Addr} {c1 c2 : Nat} {es : List VE} {is : List Nat}
theorem VSt.below (h : VSt w wr A1 c1 A2 c2 es is) (hb : Below wr.heap.size wr w5) : VSt w w5 A1 c1 A2 c2 es is := ⟨own_below h.v hb, own_below h.i hb, g_chain h.h hb⟩
theorem VSt.alloc (h : VSt w wr A1 c1 A2 c2 es is) (o : Obj) : VSt w (wr.alloc o) A1 c1 A2 c2 es is := h.below (below_a1 wr o)
theorem VSt.drewN (h : VSt w wr A1 c1 A2 c2 es is) (q : Nat) : VSt w (wr.drewN q) A1 c1 A2 c2 es is := ⟨own_drewN h.v q, own_drewN h.i q, below_drewN h.h q⟩
theorem VSt.drew (h : VSt w wr A1 c1 A2 c2 es is) : VSt w wr.drew A1 c1 A2 c2 es is := ⟨h.v, h.i, h.h.drew⟩
/-- A view is appended. -/
theorem VSt.gotV (h : VSt w wr A1 c1 A2 c2 es is) {o : Obj} {e : VE} {P : Option Addr} {cp : Nat} (hg : (wr.alloc o).grownBy w5 (Value.slice A1 is.length c1).ownBlock) (ho : w5.ownsRow w.heap.size 93 4 (.slice P (is.length + 1) cp) (is.length + 1) (es.flatMap VE.cells ++ e.cells)) :
    w5.ownsRow w.heap.size 93 4 (.slice P (is.length + 1) cp) (is.length + 1) ((es ++ [e]).flatMap VE.cells) ∧ w5.ownsRow w.heap.size 3 1 (.slice A2 is.length c2) is.length (vi (zI is)) ∧ Below w.heap.size w w5 := by
  have ha := h.alloc o
  refine ⟨by rw [flat_snoc]; exact ho, ha.i.kept hg ((own_types ha.i ha.v (by decide)).imp id fun h e => h e.symm), ha.h.grown hg ha.h.size (fun k hk => (ha.v.lt k hk).1)⟩
/-- And its place. -/
theorem VSt.gotI {lv : Nat} {fs : List VE} (hv : wr.ownsRow w.heap.size 93 4 (.slice A1 lv c1) lv (fs.flatMap VE.cells)) (hi : wr.ownsRow w.heap.size 3 1 (.slice A2 is.length c2) is.length (vi (zI is))) (hb : Below w.heap.size w wr) (hl : lv = is.length + 1) {o : Obj} {k : Nat} {P : Option Addr} {cp : Nat} (hg : (wr.alloc o).grownBy w5 (Value.slice A2 is.length c2).ownBlock) (ho : w5.ownsRow w.heap.size 3 1 (.slice P (is.length + 1) cp) (is.length + 1) (vi (zI is) ++ [.int .i64 (k : Int)])) :
    VSt w w5 A1 c1 P cp fs (is ++ [k]) := by
  have hv1 := own_below hv (below_a1 wr o)
  have hi1 := own_below hi (below_a1 wr o)
  have hb1 := g_chain hb (below_a1 wr o)
  subst hl
  refine ⟨?_, ?_, hb1.grown hg hb1.size (fun q hq => (hi1.lt q hq).1)⟩
  · rw [List.length_append]; exact hv1.kept hg ((own_types hv1 hi1 (by decide)).imp id fun h e => h e.symm)
  · rw [List.length_append, zI_snoc]; exact ho
end
theorem idx_yes {G : List GE} {v : Int} {k : Nat} {e : GE} (he : G[k]? = some e) (h : e.f = v ∨ e.t = v) : idxT G v (k + 1) = idxT G v k ++ [k] := by
  rw [idx_step, if_pos]
  unfold incB edgeAt
  rw [List.getD_eq_getElem?_getD, he]
  simpa using h
theorem idx_no {G : List GE} {v : Int} {k : Nat} {e : GE} (he : G[k]? = some e) (h1 : e.f ≠ v) (h2 : e.t ≠ v) : idxT G v (k + 1) = idxT G v k := by
  rw [idx_step, if_neg]
  unfold incB edgeAt
  rw [List.getD_eq_getElem?_getD, he]
  simp [h1, h2]
theorem viewAt_is {G : List GE} {E : List Int} {v : Int} {k : Nat} {e : GE} {x : Int} (he : G[k]? = some e) (hx : E[k]? = some x) : viewAt G E v k = ⟨decide (e.t = v), decide (e.f = v), e.w, x⟩ := by
  unfold viewAt viewE edgeAt
  rw [List.getD_eq_getElem?_getD, he, List.getD_eq_getElem?_getD, hx]
  rfl
end Go.Proofs.YtlhcobkncceodaaGreatDoor
