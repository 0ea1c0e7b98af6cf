/- What stands while a vertex of a run is updated: the run in its block, its rows, the bits of the present set; all of it the call's own (plain lemmas over the model; no condition). // What stands while a run is iterated in place, and what an iteration writes (plain lemmas over the model; no condition). // What stands while the model updates a vertex of a run: the run's block and the present set's block of its own, whose bits are made anew (plain lemmas over the model; no condition). // What stands while the model iterates a run: a run in a block, the present set in a block, whose rows are made anew by each vertex (plain lemmas over the model; no condition). // The contract of the program's method views: the views of a vertex, and where they stand. Condition: at most 2^20 edges, as many values. // The contracts of the program's AddCap, isVertex, isValue and of the model's like ones. No condition. // Storing a function value or none into a cell (plain lemmas over the model; no condition). -/
import Derived.Test.YtlhcobkncceodaaGreatDoorCGE
import Derived.Test.YtlhcobkncceodaaGreatDoorCGD
import Derived.Test.YtlhcobkncceodaaGreatDoorCGB
import Derived.RegionTactic
import Derived.Deep.RegionWith
import Derived.BigRegion
import Derived.Deep.Cut
import Derived.Deep.RegionLaw
import Derived.Deep.RegionHeld3
import Derived.StillTailTactics
import Derived.Test.YtlhcobkncceodaaGreatDoorCGA
namespace Go.Proofs.YtlhcobkncceodaaGreatDoor
open Go.RowKit
set_option linter.unusedVariables false

/-- The blocks that an update writes. -/
def updBlk (A : Option Addr) (n c : Nat) (B : Option Addr) (m d : Nat) (C : Option Addr) (j k : Nat) (D : Option Addr) (q e : Nat) (g : Nat) : Prop := (Value.slice A n c).ownBlock = some g ∨ (Value.slice B m d).ownBlock = some g ∨ (Value.slice C j k).ownBlock = some g ∨ (Value.slice D q e).ownBlock = some g
structure USt (w0 w : World) (b : Nat) (p s it : Int) (dn : Bool) (A : Option Addr) (n c : Nat) (B : Option Addr) (m d : Nat) (nn : Int) (C : Option Addr) (j k : Nat) (D : Option Addr) (q e : Nat) (vs ev : List Int) (nx nw : List Nat) : Prop where
  r : RSt w w0.heap.size b p s it dn A n c B m d nn C j k vs ev nx
  d : w.ownsRow w0.heap.size 5 1 (.slice D q e) q (vb nw)
  ap : (Value.slice C j k).ownBlock = none ∨ (Value.slice D q e).ownBlock ≠ (Value.slice C j k).ownBlock
  h : Below w0.heap.size w0 w
theorem ap_flip {a b : Option Nat} (h : a = none ∨ b ≠ a) : b = none ∨ b ≠ a := by
  rcases h with h | h
  · cases b with
    | none => exact .inl rfl
    | some x => exact .inr (by rw [h]; simp)
  · exact .inr h
theorem ap_turn {a b : Option Nat} (h : a = none ∨ b ≠ a) : a = none ∨ a ≠ b := h.imp id fun h e => h e.symm
section
variable {w0 w w' : World} {b n c m d j k q e : Nat} {p s it nn : Int} {dn : Bool} {A B C D : Option Addr} {vs ev : List Int} {nx nw : List Nat}
theorem USt.below (h : USt w0 w b p s it dn A n c B m d nn C j k D q e vs ev nx nw) (hb : Below w.heap.size w w') : USt w0 w' b p s it dn A n c B m d nn C j k D q e vs ev nx nw :=
  ⟨h.r.below hb, own_below h.d hb, h.ap, g_chain h.h hb⟩
theorem USt.drewN (h : USt w0 w b p s it dn A n c B m d nn C j k D q e vs ev nx nw) (z : Nat) : USt w0 (w.drewN z) b p s it dn A n c B m d nn C j k D q e vs ev nx nw :=
  h.below (below_drewN (Below.refl _ _) z)
/-- The present set is marked. -/
theorem USt.gotD (h : USt w0 w b p s it dn A n c B m d nn C j k D q e vs ev nx nw) {zs : List Nat} (ho : w'.ownsRow w0.heap.size 5 1 (.slice D q e) q (vb zs)) (hg : w.grownBy w' (Value.slice D q e).ownBlock) : USt w0 w' b p s it dn A n c B m d nn C j k D q e vs ev nx zs :=
  ⟨⟨h.r.bx.grown hg (own_kind h.d h.r.bx (by decide)), h.r.v.kept hg (ap_turn (own_types h.r.v h.d (by decide))), h.r.e.kept hg (ap_turn (own_types h.r.e h.d (by decide))), h.r.x.kept hg (ap_turn h.ap), h.r.ap, h.r.lb⟩, ho, h.ap, h.h.grown hg h.h.size (fun i hi => (h.d.lt i hi).1)⟩
/-- The next set is marked. -/
theorem USt.gotX (h : USt w0 w b p s it dn A n c B m d nn C j k D q e vs ev nx nw) {zs : List Nat} (ho : w'.ownsRow w0.heap.size 5 1 (.slice C j k) j (vb zs)) (hg : w.grownBy w' (Value.slice C j k).ownBlock) : USt w0 w' b p s it dn A n c B m d nn C j k D q e vs ev zs nw :=
  ⟨⟨h.r.bx.grown hg (own_kind h.r.x h.r.bx (by decide)), h.r.v.kept hg (ap_turn (own_types h.r.v h.r.x (by decide))), h.r.e.kept hg (ap_turn (own_types h.r.e h.r.x (by decide))), ho, h.r.ap, h.r.lb⟩, h.d.kept hg (ap_flip h.ap), h.ap, h.h.grown hg h.h.size (fun i hi => (h.r.x.lt i hi).1)⟩
end
section
variable {w0 w w' : World} {b n c m d j k q e g : Nat} {p s it nn : Int} {dn : Bool} {A B C D : Option Addr} {vs ev : List Int} {nx nw : List Nat}
theorem vi_set (l : List Int) (i : Nat) (x : Int) : (vi l).set i (.int .i64 x) = vi (l.set i x) := by simp [vi, List.map_set]
/-- A value is stored. -/
theorem USt.gotV (h : USt w0 w b p s it dn (some ⟨g, 0, none⟩) n c B m d nn C j k D q e vs ev nx nw) (i : Nat) (x : Int) : USt w0 (w.setCell ⟨g, i, none⟩ (.int .i64 x)) b p s it dn (some ⟨g, 0, none⟩) n c B m d nn C j k D q e (vs.set i x) ev nx nw := by
  have hs := h.r.v.stored i (.int .i64 x)
  rw [vi_set] at hs
  have hg : w.grownBy (w.setCell ⟨g, i, none⟩ (.int .i64 x)) (Value.slice (some ⟨g, 0, none⟩) n c).ownBlock := hs.2
  exact ⟨⟨h.r.bx.grown hg (own_kind h.r.v h.r.bx (by decide)), hs.1, h.r.e.kept hg (ap_flip h.r.ap), h.r.x.kept hg (ap_turn (own_types h.r.x h.r.v (by decide))), h.r.ap, h.r.lb⟩, h.d.kept hg (ap_turn (own_types h.d h.r.v (by decide))), h.ap, h.h.grown hg h.h.size (fun z hz => (h.r.v.lt z hz).1)⟩
/-- The value of an edge is stored. -/
theorem USt.gotE (h : USt w0 w b p s it dn A n c (some ⟨g, 0, none⟩) m d nn C j k D q e vs ev nx nw) (i : Nat) (x : Int) : USt w0 (w.setCell ⟨g, i, none⟩ (.int .i64 x)) b p s it dn A n c (some ⟨g, 0, none⟩) m d nn C j k D q e vs (ev.set i x) nx nw := by
  have hs := h.r.e.stored i (.int .i64 x)
  rw [vi_set] at hs
  have hg : w.grownBy (w.setCell ⟨g, i, none⟩ (.int .i64 x)) (Value.slice (some ⟨g, 0, none⟩) m d).ownBlock := hs.2
  exact ⟨⟨h.r.bx.grown hg (own_kind h.r.e h.r.bx (by decide)), h.r.v.kept hg (ap_turn h.r.ap), hs.1, h.r.x.kept hg (ap_turn (own_types h.r.x h.r.e (by decide))), h.r.ap, h.r.lb⟩, h.d.kept hg (ap_turn (own_types h.d h.r.e (by decide))), h.ap, h.h.grown hg h.h.size (fun z hz => (h.r.e.lt z hz).1)⟩
end
section
variable {w0 w w' : World} {b n c m d j k q e g : Nat} {p s it nn : Int} {dn : Bool} {A B C D : Option Addr} {vs ev : List Int} {nx nw : List Nat}
theorem USt.olds (h : USt w0 w b p s it dn A n c B m d nn C j k D q e vs ev nx nw) : (∀ g, (Value.slice A n c).ownBlock = some g → g < w.heap.size) ∧ (∀ g, (Value.slice B m d).ownBlock = some g → g < w.heap.size) ∧ (∀ g, (Value.slice C j k).ownBlock = some g → g < w.heap.size) ∧ ∀ g, (Value.slice D q e).ownBlock = some g → g < w.heap.size :=
  ⟨fun g hg => (h.r.v.lt g hg).2, fun g hg => (h.r.e.lt g hg).2, fun g hg => (h.r.x.lt g hg).2, fun g hg => (h.d.lt g hg).2⟩
end
/-- What else the update of a vertex holds: its boxes, the views, their places, the new values of the edges; all of it at L and above. -/
structure UAux (L : Nat) (w : World) (b1 b2 : Nat) (g1 g2 : Array Value) (t1 t2 : TypeId) (A1 : Option Addr) (c1 : Nat) (A2 : Option Addr) (c2 : Nat) (A3 : Option Addr) (c3 : Nat) (es : List VE) (is : List Nat) (ys : List Int) : Prop where
  bg : Blk w b1 g1 t1
  bn : Blk w b2 g2 t2
  l1 : L ≤ b1
  l2 : L ≤ b2
  ov : w.ownsRow L 93 4 (.slice A1 is.length c1) is.length (es.flatMap VE.cells)
  oi : w.ownsRow L 3 1 (.slice A2 is.length c2) is.length (vi (zI is))
  oy : w.ownsRow L 3 1 (.slice A3 is.length c3) is.length (vi ys)
section
variable {L : Nat} {w w' : World} {b1 b2 : Nat} {g1 g2 : Array Value} {t1 t2 : TypeId} {A1 A2 A3 : Option Addr} {c1 c2 c3 : Nat} {es : List VE} {is : List Nat} {ys : List Int}
theorem UAux.below (h : UAux L w b1 b2 g1 g2 t1 t2 A1 c1 A2 c2 A3 c3 es is ys) (hb : Below w.heap.size w w') : UAux L w' b1 b2 g1 g2 t1 t2 A1 c1 A2 c2 A3 c3 es is ys :=
  ⟨h.bg.below hb, h.bn.below hb, h.l1, h.l2, own_below h.ov hb, own_below h.oi hb, own_below h.oy hb⟩
theorem UAux.drewN (h : UAux L w b1 b2 g1 g2 t1 t2 A1 c1 A2 c2 A3 c3 es is ys) (z : Nat) : UAux L (w.drewN z) b1 b2 g1 g2 t1 t2 A1 c1 A2 c2 A3 c3 es is ys := h.below (below_drewN (Below.refl _ _) z)
theorem own_late {w w' : World} {L e s n g : Nat} {v : Value} {xs : List Value} (h : w.ownsRow L e s v n xs) {row : Option Nat} (hg : w.grownBy w' row) (hr : ∀ g, row = some g → g < L) : w'.ownsRow L e s v n xs :=
  h.kept hg (by
    cases hv : v.ownBlock with
    | none => exact .inl rfl
    | some x => exact .inr (fun e => by have := (h.lt x hv).1; have := hr x e.symm; omega))
theorem UAux.grown (h : UAux L w b1 b2 g1 g2 t1 t2 A1 c1 A2 c2 A3 c3 es is ys) {row : Option Nat} (hg : w.grownBy w' row) (hr : ∀ g, row = some g → g < L) : UAux L w' b1 b2 g1 g2 t1 t2 A1 c1 A2 c2 A3 c3 es is ys :=
  ⟨h.bg.grown hg (fun e => by have := hr _ e; have := h.l1; omega), h.bn.grown hg (fun e => by have := hr _ e; have := h.l2; omega), h.l1, h.l2, own_late (g := 0) h.ov hg hr, own_late (g := 0) h.oi hg hr, own_late (g := 0) h.oy hg hr⟩
end
/-! ### one edge after the other, as data -/
/-- The state when the first k of the edges have been looked at. -/
def atK (N : Int) (G : List GE) (v : Nat) (f : Nat → Int) (S : SD) (l k : Nat) : SD := ((idxT G v l).take k).foldl (estep N G v f) S
theorem atK_step {N : Int} {G : List GE} {v : Nat} {f : Nat → Int} {S : SD} {l k i : Nat} (h : (idxT G v l)[k]? = some i) : atK N G v f S l (k + 1) = estep N G v f (atK N G v f S l k) i := by
  unfold atK
  rw [g_take _ _ _ h, List.foldl_append]
  rfl
theorem atK_full {N : Int} {G : List GE} {v : Nat} {f : Nat → Int} {S : SD} {l : Nat} : atK N G v f S l (idxT G v l).length = (idxT G v l).foldl (estep N G v f) S := by
  unfold atK
  rw [List.take_length]
theorem atK_ok {p : Int} {N : Nat} {G : List GE} (hG : graphB (N : Int) G = true) (v : Nat) (f : Nat → Int) (S : SD) (hs : S.ev.length = G.length) (h1 : setB (N : Int) S.nx = true) (h2 : setB (N : Int) S.nw = true) (k : Nat) : Stepped p N G v f ((idxT G v G.length).take k) S (atK (N : Int) G v f S G.length k) :=
  fold_step hG v f _ S (List.Pairwise.sublist (List.take_sublist _ _) (idx_nodup G v G.length)) (fun i hi => by
    have := (idx_mem.1 (List.mem_of_mem_take hi)).1
    omega) h1 h2
theorem not_before {l : List Nat} (h : l.Nodup) {k i : Nat} (hk : l[k]? = some i) : i ∉ l.take k := by
  intro hm
  obtain ⟨hk2, rfl⟩ := List.getElem?_eq_some_iff.1 hk
  rw [List.mem_take_iff_getElem] at hm
  obtain ⟨a, ha, he⟩ := hm
  have := (List.getElem_inj h).1 he
  omega
end Go.Proofs.YtlhcobkncceodaaGreatDoor
namespace Go.Proofs.YtlhcobkncceodaaGreatDoor
open Go.RowKit
set_option linter.unusedVariables false

theorem ap_other {a b : Option Nat} (h : a = none ∨ b ≠ a) : b = none ∨ a ≠ b := by
  rcases h with h | h
  · cases b with
    | none => exact .inl rfl
    | some x => exact .inr (by rw [h]; simp)
  · exact .inr (fun e => h e.symm)
theorem OnlyB.blk {S : Nat → Prop} {w w' : World} {b : Nat} {cs : Array Value} {t : TypeId} (h : OnlyB S w w') (hb : Blk w b cs t) (hn : ¬ S b) : Blk w' b cs t := hb.keep (h.block b hb.lt hn)
theorem OnlyB.also {S T : Nat → Prop} {a b c : World} (h : OnlyB S a b) (k : OnlyB T b c) (hT : ∀ i, T i → S i ∨ a.heap.size ≤ i) : OnlyB S a c :=
  ⟨k.os.trans h.os, k.tape.trans h.tape, k.output.trans h.output, Nat.le_trans h.size k.size, fun i hi hn => (k.block i (Nat.lt_of_lt_of_le hi h.size) (fun ht => by rcases hT i ht with h1 | h1; exact hn h1; omega)).trans (h.block i hi hn)⟩
/-- The blocks that an iteration writes, of those that were there. -/
def iterBlk (b : Nat) (A : Option Addr) (n c : Nat) (B : Option Addr) (m d : Nat) (C : Option Addr) (j k : Nat) (g : Nat) : Prop := g = b ∨ (Value.slice A n c).ownBlock = some g ∨ (Value.slice B m d).ownBlock = some g ∨ (Value.slice C j k).ownBlock = some g
section
variable {w0 w w' : World} {lo b n c m d j k : Nat} {p s it nn : Int} {dn : Bool} {A B C : Option Addr} {vs ev : List Int} {nx : List Nat}
/-- The count and the mark of the end are stored. -/
theorem RSt.setIt (h : RSt w lo b p s it dn A n c B m d nn C j k vs ev nx) (x : Int) : RSt (w.setCell ⟨b, 2, none⟩ (.int .i64 x)) lo b p s x dn A n c B m d nn C j k vs ev nx := by
  have hg := grown_cell w b 2 (.int .i64 x)
  exact ⟨Blk.set h.bx 2 (.int .i64 x), own_kept h.v hg (own_kind h.v h.bx (by decide)), own_kept h.e hg (own_kind h.e h.bx (by decide)), own_kept h.x hg (own_kind h.x h.bx (by decide)), h.ap, h.lb⟩
theorem RSt.setDn (h : RSt w lo b p s it dn A n c B m d nn C j k vs ev nx) (x : Bool) : RSt (w.setCell ⟨b, 3, none⟩ (.bool x)) lo b p s it x A n c B m d nn C j k vs ev nx := by
  have hg := grown_cell w b 3 (.bool x)
  exact ⟨Blk.set h.bx 3 (.bool x), own_kept h.v hg (own_kind h.v h.bx (by decide)), own_kept h.e hg (own_kind h.e h.bx (by decide)), own_kept h.x hg (own_kind h.x h.bx (by decide)), h.ap, h.lb⟩
/-- A new next set; the old one is the present one. -/
theorem RSt.newNext (h : RSt w lo b p s it dn A n c B m d nn C j k vs ev nx) (hl : lo = w0.heap.size) (hb : Below w0.heap.size w0 w) {C' : Option Addr} {j' k' : Nat} {zs : List Nat} (ho : w.ownsRow w0.heap.size 5 1 (.slice C' j' k') j' (vb zs)) (ap : (Value.slice C' j' k').ownBlock = none ∨ (Value.slice C j k).ownBlock ≠ (Value.slice C' j' k').ownBlock) (M : Int) :
    USt w0 ((w.setCell ⟨b, 6, none⟩ (.int .i64 M)).setCell ⟨b, 7, none⟩ (.slice C' j' k')) b p s it dn A n c B m d M C' j' k' C j k vs ev zs nx := by
  subst hl
  have hg := (grown_cell w b 6 (.int .i64 M)).trans (grown_cell (w.setCell ⟨b, 6, none⟩ (.int .i64 M)) b 7 (.slice C' j' k'))
  exact ⟨⟨Blk.set (Blk.set h.bx 6 (.int .i64 M)) 7 (.slice C' j' k'), own_kept h.v hg (own_kind h.v h.bx (by decide)), own_kept h.e hg (own_kind h.e h.bx (by decide)), own_kept ho hg (own_kind ho h.bx (by decide)), h.ap, h.lb⟩, own_kept h.x hg (own_kind h.x h.bx (by decide)), ap, hb.grown hg hb.size (fun i hi => by injection hi with hi; have := h.lb; omega)⟩
end
end Go.Proofs.YtlhcobkncceodaaGreatDoor
namespace Go.Proofs.YtlhcobkncceodaaGreatDoor
open Go.RowKit
set_option linter.unusedVariables false

/-- What else it holds. -/
structure MAux (L : Nat) (w : World) (g1 z1 z2 : Array Value) (t1 : TypeId) (N : Int) (D : Option Addr) (q e : Nat) (A1 : Option Addr) (c1 : Nat) (A2 : Option Addr) (c2 : Nat) (A3 : Option Addr) (c3 : Nat) (es : List VE) (is : List Nat) (ys : List Int) : Prop where
  u : UAux L w L (L + 3) g1 z1 t1 32 A1 c1 A2 c2 A3 c3 es is ys
  z : Blk w (L + 4) z2 30
  n : Blk w (L + 2) #[.int .i64 N, .slice D q e] 30
section
variable {L b1 b2 : Nat} {w w' : World} {g1 g2 z1 z2 : Array Value} {t1 t2 : TypeId} {N : Int} {D D' : Option Addr} {q e q' e' : Nat} {A1 A2 A3 : Option Addr} {c1 c2 c3 : Nat} {es : List VE} {is : List Nat} {ys : List Int}
theorem MAux.below (h : MAux L w g1 z1 z2 t1 N D q e A1 c1 A2 c2 A3 c3 es is ys) (hb : Below w.heap.size w w') : MAux L w' g1 z1 z2 t1 N D q e A1 c1 A2 c2 A3 c3 es is ys := ⟨h.u.below hb, h.z.below hb, h.n.below hb⟩
theorem MAux.drewN (h : MAux L w g1 z1 z2 t1 N D q e A1 c1 A2 c2 A3 c3 es is ys) (k : Nat) : MAux L (w.drewN k) g1 z1 z2 t1 N D q e A1 c1 A2 c2 A3 c3 es is ys := h.below (below_drewN (Below.refl _ _) k)
theorem MAux.grown (h : MAux L w g1 z1 z2 t1 N D q e A1 c1 A2 c2 A3 c3 es is ys) {row : Option Nat} (hg : w.grownBy w' row) (hr : ∀ g, row = some g → g < L) : MAux L w' g1 z1 z2 t1 N D q e A1 c1 A2 c2 A3 c3 es is ys :=
  ⟨h.u.grown hg hr, h.z.grown hg (fun e => by have := hr _ e; omega), h.n.grown hg (fun e => by have := hr _ e; omega)⟩
/-- Another block of its own is written, one of another type than the rows'. -/
theorem UAux.apart (h : UAux L w b1 b2 g1 g2 t1 t2 A1 c1 A2 c2 A3 c3 es is ys) {g : Nat} {cs : Array Value} {t : TypeId} (hg : w.grownBy w' (some g)) (hb : Blk w g cs t) (h1 : b1 ≠ g) (h2 : b2 ≠ g) (hv : 93 ≠ t) (hi : 3 ≠ t) : UAux L w' b1 b2 g1 g2 t1 t2 A1 c1 A2 c2 A3 c3 es is ys :=
  ⟨h.bg.grown hg (fun e => h1 (by injection e with e; exact e.symm)), h.bn.grown hg (fun e => h2 (by injection e with e; exact e.symm)), h.l1, h.l2, own_kept h.ov hg (own_kind h.ov hb hv), own_kept h.oi hg (own_kind h.oi hb hi), own_kept h.oy hg (own_kind h.oy hb hi)⟩
theorem set2_grown (w : World) (b i k : Nat) (u v : Value) : w.grownBy ((w.setCell ⟨b, i, none⟩ u).setCell ⟨b, k, none⟩ v) (some b) := (grown_cell w b i u).trans (grown_cell _ b k v)
theorem MAux.setNow (h : MAux L w g1 z1 z2 t1 N D q e A1 c1 A2 c2 A3 c3 es is ys) : MAux L ((w.setCell ⟨L + 2, 0, none⟩ (.int .i64 N)).setCell ⟨L + 2, 1, none⟩ (.slice D' q' e')) g1 z1 z2 t1 N D' q' e' A1 c1 A2 c2 A3 c3 es is ys := by
  have hg := set2_grown w (L + 2) 0 1 (.int .i64 N) (.slice D' q' e')
  exact ⟨h.u.apart hg h.n (by omega) (by omega) (by decide) (by decide), h.z.grown hg (by intro e; injection e with e; omega), Blk.set (Blk.set h.n 0 (.int .i64 N)) 1 (.slice D' q' e')⟩
theorem MAux.setNext (h : MAux L w g1 z1 z2 t1 N D q e A1 c1 A2 c2 A3 c3 es is ys) {cs : Array Value} (hb : Blk w (L + 1) cs 32) (u v : Value) : MAux L ((w.setCell ⟨L + 1, 6, none⟩ u).setCell ⟨L + 1, 7, none⟩ v) g1 z1 z2 t1 N D q e A1 c1 A2 c2 A3 c3 es is ys := by
  have hg := set2_grown w (L + 1) 6 7 u v
  exact ⟨h.u.apart hg hb (by omega) (by omega) (by decide) (by decide), h.z.grown hg (by intro e; injection e with e; omega), h.n.grown hg (by intro e; injection e with e; omega)⟩
end
section
variable {w0 w w' : World} {b n c m d j k q e j' k' q' e' : Nat} {p s it nn : Int} {dn : Bool} {A B C D C' D' : Option Addr} {vs ev : List Int} {nx nw zs : List Nat}
/-- A block of another type is written. -/
theorem USt.past (h : USt w0 w b p s it dn A n c B m d nn C j k D q e vs ev nx nw) {g : Nat} {cs : Array Value} {t : TypeId} (hg : w.grownBy w' (some g)) (hb : Blk w g cs t) (hlg : w0.heap.size ≤ g) (hne : g ≠ b) (hi : 3 ≠ t) (hu : 5 ≠ t) : USt w0 w' b p s it dn A n c B m d nn C j k D q e vs ev nx nw :=
  ⟨h.r.other hg hne (own_kind h.r.v hb hi) (own_kind h.r.e hb hi) (own_kind h.r.x hb hu), own_kept h.d hg (own_kind h.d hb hu), h.ap, h.h.grown hg h.h.size (fun i hi => by injection hi with hi; omega)⟩
theorem USt.setNow (h : USt w0 w b p s it dn A n c B m d nn C j k D q e vs ev nx nw) {g : Nat} {cs : Array Value} {N : Int} (hb : Blk w g cs 30) (hlg : w0.heap.size ≤ g) (hne : g ≠ b) (hd : w.ownsRow w0.heap.size 5 1 (.slice D' q' e') q' (vb zs)) (ap : (Value.slice C j k).ownBlock = none ∨ (Value.slice D' q' e').ownBlock ≠ (Value.slice C j k).ownBlock) :
    USt w0 ((w.setCell ⟨g, 0, none⟩ (.int .i64 N)).setCell ⟨g, 1, none⟩ (.slice D' q' e')) b p s it dn A n c B m d nn C j k D' q' e' vs ev nx zs := by
  have hg := (grown_cell w g 0 (.int .i64 N)).trans (grown_cell (w.setCell ⟨g, 0, none⟩ (.int .i64 N)) g 1 (.slice D' q' e'))
  exact ⟨h.r.other hg hne (own_kind h.r.v hb (by decide)) (own_kind h.r.e hb (by decide)) (own_kind h.r.x hb (by decide)), own_kept hd hg (own_kind hd hb (by decide)), ap, h.h.grown hg h.h.size (fun i hi => by injection hi with hi; omega)⟩
theorem USt.setNext (h : USt w0 w b p s it dn A n c B m d nn C j k D q e vs ev nx nw) (hd : w.ownsRow w0.heap.size 5 1 (.slice C' j' k') j' (vb zs)) (ap : (Value.slice C' j' k').ownBlock = none ∨ (Value.slice D q e).ownBlock ≠ (Value.slice C' j' k').ownBlock) :
    USt w0 ((w.setCell ⟨b, 6, none⟩ (.int .i64 nn)).setCell ⟨b, 7, none⟩ (.slice C' j' k')) b p s it dn A n c B m d nn C' j' k' D q e vs ev zs nw := by
  have hg := (grown_cell w b 6 (.int .i64 nn)).trans (grown_cell (w.setCell ⟨b, 6, none⟩ (.int .i64 nn)) b 7 (.slice C' j' k'))
  exact ⟨⟨Blk.set (Blk.set h.r.bx 6 (.int .i64 nn)) 7 (.slice C' j' k'), own_kept h.r.v hg (own_kind h.r.v h.r.bx (by decide)), own_kept h.r.e hg (own_kind h.r.e h.r.bx (by decide)), own_kept hd hg (own_kind hd h.r.bx (by decide)), h.r.ap, h.r.lb⟩, own_kept h.d hg (own_kind h.d h.r.bx (by decide)), ap, h.h.grown hg h.h.size (fun i hi => by injection hi with hi; have := h.r.lb; omega)⟩
end
/-- The blocks that it writes, of those that were there. -/
def abBlk (A : Option Addr) (n c : Nat) (B : Option Addr) (m d : Nat) (g : Nat) : Prop := (Value.slice A n c).ownBlock = some g ∨ (Value.slice B m d).ownBlock = some g
/-- What the model's update of a vertex answers. -/
def MadeVt (w0 w : World) (p s it : Int) (dn : Bool) (A : Option Addr) (n c : Nat) (B : Option Addr) (m d : Nat) (nn N : Int) (T : SD) (r : Ending) (w' : World) : Prop :=
  ∃ C j k D q e, r = .returned (.tuple #[.agg #[.int .i64 p, .int .i64 s, .int .i64 it, .bool dn, .slice A n c, .slice B m d, .int .i64 nn, .slice C j k], .agg #[.int .i64 N, .slice D q e]]) ∧ Rows3 w' w0.heap.size A n c B m d C j k T.vs T.ev T.nx ∧ w'.ownsRow w0.heap.size 5 1 (.slice D q e) q (vb T.nw) ∧ ((Value.slice C j k).ownBlock = none ∨ (Value.slice D q e).ownBlock ≠ (Value.slice C j k).ownBlock) ∧ Below w0.heap.size w0 w' ∧ OnlyB (abBlk A n c B m d) w w'
end Go.Proofs.YtlhcobkncceodaaGreatDoor
namespace Go.Proofs.YtlhcobkncceodaaGreatDoor
open Go.RowKit
set_option linter.unusedVariables false

section
variable {w0 w : World} {lo b n c m d j k q e : Nat} {p s it nn : Int} {dn : Bool} {A B C D : Option Addr} {vs ev : List Int} {nx nw : List Nat} {y0 y1 y2 y3 y4 y5 y6 y7 : Value}
/-- A run is stored whole. -/
theorem RSt.lay (hb : Blk w b #[y0, y1, y2, y3, y4, y5, y6, y7] 32) (hl : lo ≤ b) (hr : Rows3 w lo A n c B m d C j k vs ev nx) :
    RSt (layR w b (.int .i64 p) (.int .i64 s) (.int .i64 it) (.bool dn) (.slice A n c) (.slice B m d) (.int .i64 nn) (.slice C j k)) lo b p s it dn A n c B m d nn C j k vs ev nx := by
  have hg := layR_grown w b (.int .i64 p) (.int .i64 s) (.int .i64 it) (.bool dn) (.slice A n c) (.slice B m d) (.int .i64 nn) (.slice C j k)
  exact ⟨layR_blk hb, own_kept hr.v hg (own_kind hr.v hb (by decide)), own_kept hr.e hg (own_kind hr.e hb (by decide)), own_kept hr.x hg (own_kind hr.x hb (by decide)), hr.ap, hl⟩
theorem USt.lay (hb : Blk w b #[y0, y1, y2, y3, y4, y5, y6, y7] 32) (hl : w0.heap.size ≤ b) (hr : Rows3 w w0.heap.size A n c B m d C j k vs ev nx) (hd : w.ownsRow w0.heap.size 5 1 (.slice D q e) q (vb nw)) (ap : (Value.slice C j k).ownBlock = none ∨ (Value.slice D q e).ownBlock ≠ (Value.slice C j k).ownBlock) (h : Below w0.heap.size w0 w) :
    USt w0 (layR w b (.int .i64 p) (.int .i64 s) (.int .i64 it) (.bool dn) (.slice A n c) (.slice B m d) (.int .i64 nn) (.slice C j k)) b p s it dn A n c B m d nn C j k D q e vs ev nx nw := by
  have hg := layR_grown w b (.int .i64 p) (.int .i64 s) (.int .i64 it) (.bool dn) (.slice A n c) (.slice B m d) (.int .i64 nn) (.slice C j k)
  exact ⟨RSt.lay hb hl hr, own_kept hd hg (own_kind hd hb (by decide)), ap, h.grown hg h.size (fun i hi => by injection hi with hi; omega)⟩
/-- A run that has just been made stands in a block made behind it. -/
theorem RSt.made (hr : Rows3 w lo A n c B m d C j k vs ev nx) (hl : lo ≤ w.heap.size) :
    RSt (w.alloc (.cells #[.int .i64 p, .int .i64 s, .int .i64 it, .bool dn, .slice A n c, .slice B m d, .int .i64 nn, .slice C j k] 32)) lo w.heap.size p s it dn A n c B m d nn C j k vs ev nx :=
  let hb := below_a1 w (.cells #[.int .i64 p, .int .i64 s, .int .i64 it, .bool dn, .slice A n c, .slice B m d, .int .i64 nn, .slice C j k] 32)
  ⟨Blk.new w _ _, own_below hr.v hb, own_below hr.e hb, own_below hr.x hb, hr.ap, hl⟩
/-- Neither block of an update is one that holds no row. -/
theorem abBlk_not {g : Nat} {cs : Array Value} {t : TypeId} (hr : Rows3 w lo A n c B m d C j k vs ev nx) (hb : Blk w g cs t) (hi : 3 ≠ t) : ¬ abBlk A n c B m d g := by
  rintro (h | h)
  · exact own_kind hr.v hb hi h
  · exact own_kind hr.e hb hi h
end
end Go.Proofs.YtlhcobkncceodaaGreatDoor
namespace Go.Proofs.YtlhcobkncceodaaGreatDoor
open Go.RowKit
set_option linter.unusedVariables false

set_option maxRecDepth 20000 in
set_option maxHeartbeats 8000000 in
theorem implViewsOf (b : Nat) (N : Int) (AG : Option Addr) (l cG : Nat) (G : List GE) (v p s it : Int) (dn : Bool) (A : Option Addr) (n c : Nat) (B : Option Addr) (m d : Nat) (nn : Int) (C : Option Addr) (j k0 : Nat) (ev : List Int) (w : World) (hb : Blk w b #[.int .i64 p, .int .i64 s, .int .i64 it, .bool dn, .slice A n c, .slice B m d, .int .i64 nn, .slice C j k0] 32) (hg : SlG w AG l G) (he : SlI w B m ev) (hm : l ≤ m) (hl : l ≤ 1048576) :
    Calls Tryz.prog 62 #[.pointer (some ⟨b, 0, none⟩), .agg #[.int .i64 N, .slice AG l cG], .int .i64 v] w (MadeVI w (viewsT G ev v l) (idxT G v l)) := by
  obtain ⟨i0, hi, hz0, hz1, hz2⟩ := info_parts Tryz.infoInt
  obtain ⟨j0, hj, jz0, jz1, jz2⟩ := info_parts Tryz.infoView
  have HG := Lib.hid hg
  have HE := Lib.hid he
  have HF : Hid (∀ k, viewsT G ev v k = (idxT G v k).map (viewAt G ev v)) := Lib.hid (fun _ => rfl)
  have HB := Lib.hid (hb.alloc (.cells #[.int .i64 N, .slice AG l cG] 25))
  have HST : Hid (VSt w (w.alloc (.cells #[.int .i64 N, .slice AG l cG] 25)) none 0 none 0 [] []) := Lib.hid ⟨World.ownsRow_nil _ _ _ _, World.ownsRow_nil _ _ _ _, below_a1 _ _⟩
  clear hb hg he
  have HL0 : Hid (idxT G v 0 = []) := Lib.hid rfl
  go_enter Tryz.func62, Tryz.ntmps62
  go_wp2
  go_loopw [8, 9, 17] (fun o1 o2 i wr => ∃ (k : Nat) (A1 : Option Addr) (c1 : Nat) (A2 : Option Addr) (c2 : Nat), k ≤ l ∧ i = .int .i64 (k : Int) ∧ o1 = .slice A1 (idxT G v k).length c1 ∧ o2 = .slice A2 (idxT G v k).length c2 ∧ Hid (Blk wr (b) #[.int .i64 p, .int .i64 s, .int .i64 it, .bool dn, .slice A n c, .slice B m d, .int .i64 nn, .slice C j k0] 32) ∧ Hid (VSt w wr A1 c1 A2 c2 (viewsT G ev v k) (idxT G v k))) (fun _ _ i _ => l - (intOf i).toNat)
  case atStart => exact ⟨0, none, 0, none, 0, Nat.zero_le _, rfl, rfl, rfl, HB, HST⟩
  case round =>
    clear HB HST HL0
    obtain ⟨k, A1, c1, A2, c2, hk, rfl, rfl, rfl, hbx, hst⟩ := hrel
    have hlen := idx_len G v k
    rw [HF.out] at hst
    obtain ⟨ms, HMS⟩ : ∃ ms, Hid (idxT G v k = ms) := ⟨_, Lib.hid rfl⟩
    rw [HMS.out] at hst hlen ⊢
    by_cases hlt : k < l
    · have hml : ms.length ≤ 1048576 := by omega
      clear hlen
      obtain ⟨gb, goff, e, rfl, hgbw, he, c0, c1', c2'⟩ := HG.out.at_ hlt
      obtain ⟨eb, eoff, x, rfl, hebw, hx, d0⟩ := HE.out.at_ (Nat.lt_of_lt_of_le hlt hm)
      have c0 := (hst.out.h.cell (p := ⟨gb, goff + k * 3, none⟩) hgbw).trans c0
      have c1' := (hst.out.h.cell (p := ⟨gb, goff + k * 3 + 1, none⟩) hgbw).trans c1'
      have c2' := (hst.out.h.cell (p := ⟨gb, goff + k * 3 + 2, none⟩) hgbw).trans c2'
      have HD := Lib.hid d0
      have HW := Lib.hid hst.out.h.size
      have HBA := Lib.hid (below_a1 wr (.cells #[.int .i64 e.f, .int .i64 e.t, .int .i64 e.w] 113))
      have EB := Lib.hid (Blk.new wr #[.int .i64 e.f, .int .i64 e.t, .int .i64 e.w] 113)
      have HLE := Lib.hid (Blk.lt EB.out)
      have RB := Lib.hid (hbx.out.below HBA.out)
      have ST := Lib.hid (hst.out.below HBA.out)
      have D1 := Lib.hid (((hst.out.h.cell (p := ⟨eb, eoff + k, none⟩) hebw).trans HD.out))
      have D2 := Lib.hid ((HBA.out.cell (p := ⟨eb, eoff + k, none⟩) (by show eb < _; have := HW.out; omega)).trans D1.out)
      have hkm : k < m := by omega
      clear d0 HD D1
      have e0 := EB.out.cell (i := 0) rfl
      have e1 := EB.out.cell (i := 1) rfl
      have e2 := EB.out.cell (i := 2) rfl
      have f0 := EB.out.frozen 0
      have f1 := EB.out.frozen 1
      have f2 := EB.out.frozen 2
      by_cases hf : e.f = v
      · have hf1 : (e.f == v) = true := by simp [hf]
        have HFF := Lib.hid hf
        clear hf
        by_cases ht : e.t = v
        · have ht1 : (e.t == v) = true := by simp [ht]
          have HTT := Lib.hid ht
          clear ht
          have HIX := Lib.hid (idx_yes he.out (.inl HFF.out))
          have HVX : Hid (viewAt G ev v k = ⟨true, true, e.w, x⟩) := Lib.hid (by rw [viewAt_is he.out hx.out]; simp [HTT.out, HFF.out])
          go_wp2
          go_quiet (fail)
          go_upto_region 8 with fail
          replace RB := Lib.hid (RB.out.drewN nq)
          replace EB := Lib.hid (EB.out.drewN nq)
          replace ST := Lib.hid (ST.out.drewN nq)
          replace D2 : Hid ((World.drewN (wr.alloc (.cells #[.int .i64 e.f, .int .i64 e.t, .int .i64 e.w] 113)) nq).cell? ⟨eb, eoff + k, none⟩ = some (.int .i64 x)) := Lib.hid D2.out
          clear c0 c1' c2' e0 e1 e2 f0 f1 f2 hst hbx HBA
          have hw4 : w.heap.size ≤ (World.drewN (wr.alloc (.cells #[.int .i64 e.f, .int .i64 e.t, .int .i64 e.w] 113)) nq).heap.size := by have := HW.out; simp; omega
          have HLP : Hid (wr.heap.size < (World.drewN (wr.alloc (.cells #[.int .i64 e.f, .int .i64 e.t, .int .i64 e.w] 113)) nq).heap.size) := Lib.hid (by simp)
          generalize hWW : (World.drewN (wr.alloc (.cells #[.int .i64 e.f, .int .i64 e.t, .int .i64 e.w] 113)) nq) = W4 at RB ST D2 EB HLP hw4 ⊢
          clear hWW HLE
          have r5 := RB.out.cell (i := 5) rfl
          have rl := RB.out.lt
          have x0 := D2.out
          have e0 := EB.out.cell (i := 0) rfl
          have e1 := EB.out.cell (i := 1) rfl
          have e2 := EB.out.cell (i := 2) rfl
          have hel := HLP.out
          have OV0 := Lib.hid ST.out.v
          go_region_law (refine step_append_any _ (by rfl) (.tmp 34) (.tmp 47) _ (by rfl) w.heap.size 93 j0 _ 4 24 Tryz.underlying53 hj jz0 jz1 jz2 rfl (by omega) (.slice A1 ms.length c1) ms.length ((ms.map (viewAt G ev v)).flatMap VE.cells) (by rfl) (by first | exact ST.out.v.alloc _ | exact ST.out.drew.v.alloc _ | exact (ST.out.alloc _).drew.v) (W4.heap.size + 1) (some ⟨W4.heap.size, 0, none⟩) 1 1 (VE.cells ⟨true, true, e.w, x⟩) (by rfl) (by first | exact vw_reads _ ⟨true, true, e.w, x⟩ _ _ rfl) (VE.cells_one _) (by simp only [maxLen]; omega) (by omega) (by simp; omega) ?_; intro v3 w3 hown3 hg3 hat3; obtain ⟨P3, c3, rfl, -⟩ := own_formG hown3)
          all_goals
            have hgq : (W4.alloc (.cells #[.bool true, .bool true, .int .i64 e.w, .int .i64 x] 93)).grownBy w3 (Value.slice A1 ms.length c1).ownBlock := ⟨hg3.os, hg3.tape, hg3.output, hg3.size, hg3.block⟩
            have HGV := Lib.hid (VSt.gotV (e := ⟨true, true, e.w, x⟩) ST.out hgq (by simpa using hown3))
            have HS3 := Lib.hid hg3.size
            have RB3 := Lib.hid ((RB.out.alloc (.cells #[.bool true, .bool true, .int .i64 e.w, .int .i64 x] 93)).grown hgq (own_kind ST.out.v RB.out (by decide)))
            clear hown3 hg3 hgq hat3 ST RB EB r5 rl x0 e0 e1 e2 OV0
            obtain ⟨hgv, hgi, hgb⟩ := HGV.out
            have HV3 := Lib.hid hgv
            have HI3 := Lib.hid hgi
            have HB3 := Lib.hid hgb
            have hw3 := HB3.out.size
            clear hgv hgi hgb HGV
            go_wp2_with (at_builtin; refine wpList_append_any _ rfl (.tmp 49) (.tmp 51) _ rfl w.heap.size 3 i0 _ 1 8 Tryz.underlying28 hi hz0 hz1 hz2 rfl (by omega) (.slice A2 ms.length c2) ms.length (vi (zI ms)) rfl (HI3.out.alloc (.cells #[.int .i64 (k : Int)] 3)) (w3.heap.size + 1) (some ⟨w3.heap.size, 0, none⟩) 1 1 [.int .i64 (k : Int)] rfl (lab_reads _ _ _ _ (by simp)) (lab_one _) (by simp only [maxLen]; omega) (by omega) (by simp; omega) ?_)
            intro v5 w5 hown5 hg5 hat5
            obtain ⟨P5, c5, rfl, -⟩ := own_formG hown5
            have HN : Hid (VSt w w5 P3 c3 P5 c5 (ms.map (viewAt G ev v) ++ [⟨true, true, e.w, x⟩]) (ms ++ [k])) := Lib.hid (VSt.gotI HV3.out HI3.out HB3.out rfl hg5 (by simpa using hown5))
            have RB5 := Lib.hid ((RB3.out.alloc (.cells #[.int .i64 (k : Int)] 3)).grown hg5 (own_kind HI3.out RB3.out (by decide)))
            clear hown5 hg5 hat5 HV3 HI3 HB3 RB3
            have hln : (ms ++ [k]).length = ms.length + 1 := by simp
            have HFN : Hid (viewsT G ev v (k + 1) = ms.map (viewAt G ev v) ++ [⟨true, true, e.w, x⟩]) := Lib.hid (by rw [HF.out, HIX.out, HMS.out, List.map_append, List.map_cons, HVX.out]; rfl)
            have HIN : Hid (idxT G v (k + 1) = ms ++ [k]) := Lib.hid (by rw [HIX.out, HMS.out])
            go_wp2
            go_roundw
            case rel => exact ⟨k + 1, P3, c3, P5, c5, by omega, by go_num, by rw [HIN.out, hln], by rw [HIN.out, hln], RB5, by rw [HIN.out, HFN.out]; exact HN⟩
            case measure => simp [intOf]; omega
        · have ht1 : (e.t == v) = false := by simp [ht]
          have HTT := Lib.hid ht
          clear ht
          have HIX := Lib.hid (idx_yes he.out (.inl HFF.out))
          have HVX : Hid (viewAt G ev v k = ⟨false, true, e.w, x⟩) := Lib.hid (by rw [viewAt_is he.out hx.out]; simp [HTT.out, HFF.out])
          go_wp2
          go_quiet (fail)
          go_upto_region 8 with fail
          replace RB := Lib.hid (RB.out.drewN nq)
          replace EB := Lib.hid (EB.out.drewN nq)
          replace ST := Lib.hid (ST.out.drewN nq)
          replace D2 : Hid ((World.drewN (wr.alloc (.cells #[.int .i64 e.f, .int .i64 e.t, .int .i64 e.w] 113)) nq).cell? ⟨eb, eoff + k, none⟩ = some (.int .i64 x)) := Lib.hid D2.out
          clear c0 c1' c2' e0 e1 e2 f0 f1 f2 hst hbx HBA
          have hw4 : w.heap.size ≤ (World.drewN (wr.alloc (.cells #[.int .i64 e.f, .int .i64 e.t, .int .i64 e.w] 113)) nq).heap.size := by have := HW.out; simp; omega
          have HLP : Hid (wr.heap.size < (World.drewN (wr.alloc (.cells #[.int .i64 e.f, .int .i64 e.t, .int .i64 e.w] 113)) nq).heap.size) := Lib.hid (by simp)
          generalize hWW : (World.drewN (wr.alloc (.cells #[.int .i64 e.f, .int .i64 e.t, .int .i64 e.w] 113)) nq) = W4 at RB ST D2 EB HLP hw4 ⊢
          clear hWW HLE
          have r5 := RB.out.cell (i := 5) rfl
          have rl := RB.out.lt
          have x0 := D2.out
          have e0 := EB.out.cell (i := 0) rfl
          have e1 := EB.out.cell (i := 1) rfl
          have e2 := EB.out.cell (i := 2) rfl
          have hel := HLP.out
          have OV0 := Lib.hid ST.out.v
          go_region_law (refine step_append_any _ (by rfl) (.tmp 34) (.tmp 47) _ (by rfl) w.heap.size 93 j0 _ 4 24 Tryz.underlying53 hj jz0 jz1 jz2 rfl (by omega) (.slice A1 ms.length c1) ms.length ((ms.map (viewAt G ev v)).flatMap VE.cells) (by rfl) (by first | exact ST.out.v.alloc _ | exact ST.out.drew.v.alloc _ | exact (ST.out.alloc _).drew.v) (W4.heap.size + 1) (some ⟨W4.heap.size, 0, none⟩) 1 1 (VE.cells ⟨false, true, e.w, x⟩) (by rfl) (by first | exact vw_reads _ ⟨false, true, e.w, x⟩ _ _ rfl) (VE.cells_one _) (by simp only [maxLen]; omega) (by omega) (by simp; omega) ?_; intro v3 w3 hown3 hg3 hat3; obtain ⟨P3, c3, rfl, -⟩ := own_formG hown3)
          all_goals
            have hgq : (W4.alloc (.cells #[.bool false, .bool true, .int .i64 e.w, .int .i64 x] 93)).grownBy w3 (Value.slice A1 ms.length c1).ownBlock := ⟨hg3.os, hg3.tape, hg3.output, hg3.size, hg3.block⟩
            have HGV := Lib.hid (VSt.gotV (e := ⟨false, true, e.w, x⟩) ST.out hgq (by simpa using hown3))
            have HS3 := Lib.hid hg3.size
            have RB3 := Lib.hid ((RB.out.alloc (.cells #[.bool false, .bool true, .int .i64 e.w, .int .i64 x] 93)).grown hgq (own_kind ST.out.v RB.out (by decide)))
            clear hown3 hg3 hgq hat3 ST RB EB r5 rl x0 e0 e1 e2 OV0
            obtain ⟨hgv, hgi, hgb⟩ := HGV.out
            have HV3 := Lib.hid hgv
            have HI3 := Lib.hid hgi
            have HB3 := Lib.hid hgb
            have hw3 := HB3.out.size
            clear hgv hgi hgb HGV
            go_wp2_with (at_builtin; refine wpList_append_any _ rfl (.tmp 49) (.tmp 51) _ rfl w.heap.size 3 i0 _ 1 8 Tryz.underlying28 hi hz0 hz1 hz2 rfl (by omega) (.slice A2 ms.length c2) ms.length (vi (zI ms)) rfl (HI3.out.alloc (.cells #[.int .i64 (k : Int)] 3)) (w3.heap.size + 1) (some ⟨w3.heap.size, 0, none⟩) 1 1 [.int .i64 (k : Int)] rfl (lab_reads _ _ _ _ (by simp)) (lab_one _) (by simp only [maxLen]; omega) (by omega) (by simp; omega) ?_)
            intro v5 w5 hown5 hg5 hat5
            obtain ⟨P5, c5, rfl, -⟩ := own_formG hown5
            have HN : Hid (VSt w w5 P3 c3 P5 c5 (ms.map (viewAt G ev v) ++ [⟨false, true, e.w, x⟩]) (ms ++ [k])) := Lib.hid (VSt.gotI HV3.out HI3.out HB3.out rfl hg5 (by simpa using hown5))
            have RB5 := Lib.hid ((RB3.out.alloc (.cells #[.int .i64 (k : Int)] 3)).grown hg5 (own_kind HI3.out RB3.out (by decide)))
            clear hown5 hg5 hat5 HV3 HI3 HB3 RB3
            have hln : (ms ++ [k]).length = ms.length + 1 := by simp
            have HFN : Hid (viewsT G ev v (k + 1) = ms.map (viewAt G ev v) ++ [⟨false, true, e.w, x⟩]) := Lib.hid (by rw [HF.out, HIX.out, HMS.out, List.map_append, List.map_cons, HVX.out]; rfl)
            have HIN : Hid (idxT G v (k + 1) = ms ++ [k]) := Lib.hid (by rw [HIX.out, HMS.out])
            go_wp2
            go_roundw
            case rel => exact ⟨k + 1, P3, c3, P5, c5, by omega, by go_num, by rw [HIN.out, hln], by rw [HIN.out, hln], RB5, by rw [HIN.out, HFN.out]; exact HN⟩
            case measure => simp [intOf]; omega
      · have hf1 : (e.f == v) = false := by simp [hf]
        have HFF := Lib.hid hf
        clear hf
        by_cases ht : e.t = v
        · have ht1 : (e.t == v) = true := by simp [ht]
          have HTT := Lib.hid ht
          clear ht
          have HIX := Lib.hid (idx_yes he.out (.inr HTT.out))
          have HVX : Hid (viewAt G ev v k = ⟨true, false, e.w, x⟩) := Lib.hid (by rw [viewAt_is he.out hx.out]; simp [HTT.out, HFF.out])
          go_wp2
          go_quiet (fail)
          go_upto_region 8 with fail
          replace RB := Lib.hid (RB.out.drewN nq)
          replace EB := Lib.hid (EB.out.drewN nq)
          replace ST := Lib.hid (ST.out.drewN nq)
          replace D2 : Hid ((World.drewN (wr.alloc (.cells #[.int .i64 e.f, .int .i64 e.t, .int .i64 e.w] 113)) nq).cell? ⟨eb, eoff + k, none⟩ = some (.int .i64 x)) := Lib.hid D2.out
          clear c0 c1' c2' e0 e1 e2 f0 f1 f2 hst hbx HBA
          have hw4 : w.heap.size ≤ (World.drewN (wr.alloc (.cells #[.int .i64 e.f, .int .i64 e.t, .int .i64 e.w] 113)) nq).heap.size := by have := HW.out; simp; omega
          have HLP : Hid (wr.heap.size < (World.drewN (wr.alloc (.cells #[.int .i64 e.f, .int .i64 e.t, .int .i64 e.w] 113)) nq).heap.size) := Lib.hid (by simp)
          generalize hWW : (World.drewN (wr.alloc (.cells #[.int .i64 e.f, .int .i64 e.t, .int .i64 e.w] 113)) nq) = W4 at RB ST D2 EB HLP hw4 ⊢
          clear hWW HLE
          have r5 := RB.out.cell (i := 5) rfl
          have rl := RB.out.lt
          have x0 := D2.out
          have e0 := EB.out.cell (i := 0) rfl
          have e1 := EB.out.cell (i := 1) rfl
          have e2 := EB.out.cell (i := 2) rfl
          have hel := HLP.out
          have OV0 := Lib.hid ST.out.v
          go_region_law (refine step_append_any _ (by rfl) (.tmp 34) (.tmp 47) _ (by rfl) w.heap.size 93 j0 _ 4 24 Tryz.underlying53 hj jz0 jz1 jz2 rfl (by omega) (.slice A1 ms.length c1) ms.length ((ms.map (viewAt G ev v)).flatMap VE.cells) (by rfl) (by first | exact ST.out.v.alloc _ | exact ST.out.drew.v.alloc _ | exact (ST.out.alloc _).drew.v) (W4.heap.size + 1) (some ⟨W4.heap.size, 0, none⟩) 1 1 (VE.cells ⟨true, false, e.w, x⟩) (by rfl) (by first | exact vw_reads _ ⟨true, false, e.w, x⟩ _ _ rfl) (VE.cells_one _) (by simp only [maxLen]; omega) (by omega) (by simp; omega) ?_; intro v3 w3 hown3 hg3 hat3; obtain ⟨P3, c3, rfl, -⟩ := own_formG hown3)
          all_goals
            have hgq : (W4.alloc (.cells #[.bool true, .bool false, .int .i64 e.w, .int .i64 x] 93)).grownBy w3 (Value.slice A1 ms.length c1).ownBlock := ⟨hg3.os, hg3.tape, hg3.output, hg3.size, hg3.block⟩
            have HGV := Lib.hid (VSt.gotV (e := ⟨true, false, e.w, x⟩) ST.out hgq (by simpa using hown3))
            have HS3 := Lib.hid hg3.size
            have RB3 := Lib.hid ((RB.out.alloc (.cells #[.bool true, .bool false, .int .i64 e.w, .int .i64 x] 93)).grown hgq (own_kind ST.out.v RB.out (by decide)))
            clear hown3 hg3 hgq hat3 ST RB EB r5 rl x0 e0 e1 e2 OV0
            obtain ⟨hgv, hgi, hgb⟩ := HGV.out
            have HV3 := Lib.hid hgv
            have HI3 := Lib.hid hgi
            have HB3 := Lib.hid hgb
            have hw3 := HB3.out.size
            clear hgv hgi hgb HGV
            go_wp2_with (at_builtin; refine wpList_append_any _ rfl (.tmp 49) (.tmp 51) _ rfl w.heap.size 3 i0 _ 1 8 Tryz.underlying28 hi hz0 hz1 hz2 rfl (by omega) (.slice A2 ms.length c2) ms.length (vi (zI ms)) rfl (HI3.out.alloc (.cells #[.int .i64 (k : Int)] 3)) (w3.heap.size + 1) (some ⟨w3.heap.size, 0, none⟩) 1 1 [.int .i64 (k : Int)] rfl (lab_reads _ _ _ _ (by simp)) (lab_one _) (by simp only [maxLen]; omega) (by omega) (by simp; omega) ?_)
            intro v5 w5 hown5 hg5 hat5
            obtain ⟨P5, c5, rfl, -⟩ := own_formG hown5
            have HN : Hid (VSt w w5 P3 c3 P5 c5 (ms.map (viewAt G ev v) ++ [⟨true, false, e.w, x⟩]) (ms ++ [k])) := Lib.hid (VSt.gotI HV3.out HI3.out HB3.out rfl hg5 (by simpa using hown5))
            have RB5 := Lib.hid ((RB3.out.alloc (.cells #[.int .i64 (k : Int)] 3)).grown hg5 (own_kind HI3.out RB3.out (by decide)))
            clear hown5 hg5 hat5 HV3 HI3 HB3 RB3
            have hln : (ms ++ [k]).length = ms.length + 1 := by simp
            have HFN : Hid (viewsT G ev v (k + 1) = ms.map (viewAt G ev v) ++ [⟨true, false, e.w, x⟩]) := Lib.hid (by rw [HF.out, HIX.out, HMS.out, List.map_append, List.map_cons, HVX.out]; rfl)
            have HIN : Hid (idxT G v (k + 1) = ms ++ [k]) := Lib.hid (by rw [HIX.out, HMS.out])
            go_wp2
            go_roundw
            case rel => exact ⟨k + 1, P3, c3, P5, c5, by omega, by go_num, by rw [HIN.out, hln], by rw [HIN.out, hln], RB5, by rw [HIN.out, HFN.out]; exact HN⟩
            case measure => simp [intOf]; omega
        · have ht1 : (e.t == v) = false := by simp [ht]
          have HTT := Lib.hid ht
          clear ht
          have HIX := Lib.hid (idx_no he.out HFF.out HTT.out)
          have RB5 := Lib.hid RB.out
          have ST5 := Lib.hid ST.out
          clear hst hbx
          have HFN : Hid (viewsT G ev v (k + 1) = ms.map (viewAt G ev v)) := Lib.hid (by rw [HF.out, HIX.out, HMS.out])
          have HIN : Hid (idxT G v (k + 1) = ms) := Lib.hid (by rw [HIX.out, HMS.out])
          go_wp2
          go_quiet (fail)
          go_wp2
          go_roundw
          case rel => exact ⟨k + 1, A1, c1, A2, c2, by omega, by go_num, by rw [HIN.out], by rw [HIN.out], by first | exact RB5 | exact Lib.hid (RB5.out.drewN _), by rw [HIN.out, HFN.out]; first | exact ST5 | exact Lib.hid (ST5.out.drewN _)⟩
          case measure => simp [intOf]; omega
    · obtain rfl : k = l := by omega
      have HS := Lib.hid hst.out
      clear hst
      go_wp2
      go_ret2
      rw [HF.out, HMS.out]
      exact ⟨A1, c1, A2, c2, rfl, HS.out.v, HS.out.i, HS.out.h⟩
end Go.Proofs.YtlhcobkncceodaaGreatDoor
namespace Go.Proofs.YtlhcobkncceodaaGreatDoor
open Go.RowKit

theorem implAddCap (a b : Int) (w : World) :
    Calls Tryz.prog 136 #[.int .i64 a, .int .i64 b] w (fun e w' => e = .returned (.int .i64 (addC a b)) ∧ w' = w) := by
  have hA : addC a b = min (min (max a 0) 1099511627776 + min (max b 0) 1099511627776) 1099511627776 := rfl
  have H := Lib.hid hA
  obtain ⟨x, hx⟩ : ∃ x, x = min (max a 0) 1099511627776 := ⟨_, rfl⟩
  obtain ⟨y, hy⟩ : ∃ y, y = min (max b 0) 1099511627776 := ⟨_, rfl⟩
  have h0 : 0 ≤ x ∧ x ≤ 1099511627776 := by omega
  have h1 : 0 ≤ y ∧ y ≤ 1099511627776 := by omega
  have HX := Lib.hid hx
  have HY := Lib.hid hy
  have hx' := hx.symm
  have hy' := hy.symm
  have hw : IntKind.i64.wrap (x + y) = x + y := IntWalk.i64_in _ (by omega)
  clear hA hx hy
  go_enter Tryz.func136, Tryz.ntmps136
  go_wp2
  all_goals
    go_ret
    exact ⟨g_int (by have h1 := H.out; have h2 := HX.out; have h3 := HY.out; omega), rfl⟩
theorem implIsVertex (v : Int) (w : World) :
    Calls Tryz.prog 133 #[.int .i64 v] w (fun e w' => e = .returned (.bool (vtxB v)) ∧ w' = w) := by
  by_cases h : 0 ≤ v
  · have e1 : vtxB v = decide (v < 150) := by unfold vtxB; simp [h]
    rw [e1]
    go_enter Tryz.func133, Tryz.ntmps133
    go_wp2
    go_ret
    exact ⟨rfl, rfl⟩
  · have e1 : vtxB v = false := by unfold vtxB; simp [h]
    rw [e1]
    go_enter Tryz.func133, Tryz.ntmps133
    go_wp2
    go_ret
    exact ⟨rfl, rfl⟩
theorem implIsValue (v : Int) (w : World) :
    Calls Tryz.prog 93 #[.int .i64 v] w (fun e w' => e = .returned (.bool (valB v)) ∧ w' = w) := by
  by_cases h : 0 ≤ v
  · have e1 : valB v = decide (v ≤ 1099511627776) := by unfold valB; simp [h]
    rw [e1]
    go_enter Tryz.func93, Tryz.ntmps93
    go_wp2
    go_ret
    exact ⟨rfl, rfl⟩
  · have e1 : valB v = false := by unfold valB; simp [h]
    rw [e1]
    go_enter Tryz.func93, Tryz.ntmps93
    go_wp2
    go_ret
    exact ⟨rfl, rfl⟩
theorem specVertex (v : Int) (w : World) :
    Calls Tryz.prog 129 #[.int .i64 v] w (fun e w' => e = .returned (.bool (vtxB v)) ∧ w' = w) := by
  by_cases h : 0 ≤ v
  · have e1 : vtxB v = decide (v < 150) := by unfold vtxB; simp [h]
    rw [e1]
    go_enter Tryz.func129, Tryz.ntmps129
    go_wp2
    go_ret
    exact ⟨rfl, rfl⟩
  · have e1 : vtxB v = false := by unfold vtxB; simp [h]
    rw [e1]
    go_enter Tryz.func129, Tryz.ntmps129
    go_wp2
    go_ret
    exact ⟨rfl, rfl⟩
theorem specClampF (v : Int) (w : World) :
    Calls Tryz.prog 146 #[.int .i64 v, .int .i64 1099511627776] w (fun e w' => e = .returned (.int .i64 (capF v)) ∧ w' = w) := by
  have hA : capF v = min (max v 0) 1099511627776 := rfl
  have H := Lib.hid hA
  clear hA
  by_cases h : v < 0
  · go_enter Tryz.func146, Tryz.ntmps146
    go_wp2
    go_ret
    exact ⟨g_int (by have h1 := H.out; omega), rfl⟩
  · by_cases h2 : 1099511627776 < v
    · go_enter Tryz.func146, Tryz.ntmps146
      go_wp2
      go_ret
      exact ⟨g_int (by have h1 := H.out; omega), rfl⟩
    · go_enter Tryz.func146, Tryz.ntmps146
      go_wp2
      go_ret
      exact ⟨g_int (by have h1 := H.out; omega), rfl⟩
theorem specCap (v : Int) (w : World) :
    Calls Tryz.prog 143 #[.int .i64 v] w (fun e w' => e = .returned (.int .i64 (capF v)) ∧ w' = w) := by
  have C := Lib.hid (specClampF v w)
  go_enter Tryz.func143, Tryz.ntmps143
  go_wp2_with fail
  refine C.out.mono ?_
  rintro e w1 ⟨rfl, rfl⟩
  go_wp2
  go_ret
  exact ⟨rfl, rfl⟩
theorem specAddCap (a b : Int) (w : World) :
    Calls Tryz.prog 142 #[.int .i64 a, .int .i64 b] w (fun e w' => e = .returned (.int .i64 (addC a b)) ∧ w' = w) := by
  have C := Lib.hid (fun v w => specCap v w)
  have h0 := capF_lim a
  have h1 := capF_lim b
  rw [← addC_cap a b]
  generalize hx : capF a = x at h0
  generalize hy : capF b = y at h1
  have HX := Lib.hid hx
  have HY := Lib.hid hy
  clear hx hy
  have hw : IntKind.i64.wrap (x + y) = x + y := IntWalk.i64_in _ (by omega)
  go_enter Tryz.func142, Tryz.ntmps142
  go_wp2_with fail
  refine (C.out a _).mono ?_
  rw [HX.out]
  rintro e w1 ⟨rfl, rfl⟩
  go_wp2_with fail
  refine (C.out b _).mono ?_
  rw [HY.out]
  rintro e w1 ⟨rfl, rfl⟩
  go_wp2_with fail
  refine (C.out (x + y) _).mono ?_
  rintro e w1 ⟨rfl, rfl⟩
  go_wp2
  go_ret
  exact ⟨rfl, rfl⟩
end Go.Proofs.YtlhcobkncceodaaGreatDoor
namespace Go.Proofs.YtlhcobkncceodaaGreatDoor
open Go.RowKit
@[go_sem] theorem st_nofunc (P : Program) (w : World) (a : Addr) (m : Mode) : (store a .nilFunc m).run P w = stored P w a .nilFunc m := run_store P w a _ m rfl
@[go_sem] theorem st_func (P : Program) (w : World) (a : Addr) (m : Mode) (fn : Fn) (first captured : Array Value) : (store a (.func fn first captured) m).run P w = stored P w a (.func fn first captured) m := run_store P w a _ m rfl
end Go.Proofs.YtlhcobkncceodaaGreatDoor
