/- Sets in memory: a block that holds one, what a call that makes one leaves (plain lemmas over the model; no condition). -/
import Derived.Test.YtlhcobkncceodaaGreatDoorSetMath
import Derived.Test.YtlhcobkncceodaaGreatDoorCB
import Derived.Test.YtlhcobkncceodaaGreatDoorKBlkB
import Derived.Test.YtlhcobkncceodaaGreatDoorCK
namespace Go.Proofs.YtlhcobkncceodaaGreatDoor
open Go.RowKit
set_option linter.unusedVariables false

/-- The table of the weights. -/
structure Wts (w : World) : Prop where
  lt : 0 < w.heap.size
  at_ : ∀ i : Nat, i < 8 → w.cell? ⟨0, i, none⟩ = some (.int .u8 ((2 ^ i : Nat) : Int))
theorem Wts.below {w w' : World} (h : Wts w) (hb : Below w.heap.size w w') : Wts w' :=
  ⟨Nat.lt_of_lt_of_le h.lt hb.size, fun i hi => (hb.cell (p := ⟨0, i, none⟩) h.lt).trans (h.at_ i hi)⟩
theorem Wts.other {w w' : World} {row : Option Nat} (h : Wts w) (hg : w.grownBy w' row) (hr : row ≠ some 0) : Wts w' :=
  ⟨Nat.lt_of_lt_of_le h.lt hg.size, fun i hi => (World.cell?_of_block (a := ⟨0, i, none⟩) (hg.block _ h.lt (fun e => hr e.symm))).trans (h.at_ i hi)⟩
theorem s_chain {w W W' : World} (h : Below w.heap.size w W) (k : Below W.heap.size W W') : Below w.heap.size w W' := h.trans (k.mono h.size)
/-- A new set. -/
def MadeS (w : World) (N : Int) (xs : List Nat) (e : Ending) (w' : World) : Prop :=
  ∃ A c, e = .returned (.agg #[.int .i64 N, .slice A xs.length c]) ∧ w'.ownsRow w.heap.size 5 1 (.slice A xs.length c) xs.length (vb xs) ∧ Below w.heap.size w w'
def MadeSB (w : World) (N : Int) (xs : List Nat) (b : Bool) (e : Ending) (w' : World) : Prop :=
  ∃ A c, e = .returned (.tuple #[.agg #[.int .i64 N, .slice A xs.length c], .bool b]) ∧ w'.ownsRow w.heap.size 5 1 (.slice A xs.length c) xs.length (vb xs) ∧ Below w.heap.size w w'
theorem own_nil (w : World) (lo : Nat) : w.ownsRow lo 5 1 (.slice none 0 0) 0 (vb []) := ⟨rfl, .inl ⟨rfl, rfl⟩⟩
theorem Box2.far {w w' : World} {b : Nat} {v0 v1 : Value} (h : Box2 w b v0 v1) {row : Option Nat} (hg : w.grownBy w' row) {l2 h2 : Nat} (hb : ∀ k, row = some k → l2 ≤ k ∧ k < h2) (hd : b < l2 ∨ h2 ≤ b) : Box2 w' b v0 v1 :=
  h.keep hg.size (hg.block _ h.lt (fun e => by have := hb b e.symm; omega))
/-- A block that is a set, and may be written. -/
def SBx (w : World) (b : Nat) (N : Int) (A : Option Addr) (n c : Nat) : Prop := Blk w b #[.int .i64 N, .slice A n c] 30
section
variable {w w' : World} {b n c : Nat} {N : Int} {A : Option Addr}
theorem SBx.new (w : World) (N : Int) (A : Option Addr) (n c : Nat) : SBx (w.alloc (.cells #[.int .i64 N, .slice A n c] 30)) w.heap.size N A n c := Blk.new _ _ _
theorem SBx.new1 (w : World) (o : Obj) (N : Int) (A : Option Addr) (n c : Nat) : SBx ((w.alloc o).alloc (.cells #[.int .i64 N, .slice A n c] 30)) (w.heap.size + 1) N A n c := by
  have h := SBx.new (w.alloc o) N A n c
  rw [World.size_alloc] at h
  exact h
theorem SBx.new2 (w : World) (o o' : Obj) (N : Int) (A : Option Addr) (n c : Nat) : SBx (((w.alloc o).alloc o').alloc (.cells #[.int .i64 N, .slice A n c] 30)) (w.heap.size + 2) N A n c := by
  have h := SBx.new1 (w.alloc o) o' N A n c
  rw [World.size_alloc] at h
  exact h
theorem SBx.keep (h : SBx w b N A n c) (hk : w'.heap[b]? = w.heap[b]?) : SBx w' b N A n c := Blk.keep h hk
theorem SBx.below (h : SBx w b N A n c) (hb : Below w.heap.size w w') : SBx w' b N A n c := Blk.below h hb
theorem SBx.parts (h : SBx w b N A n c) : b < w.heap.size ∧ w.cell? ⟨b, 0, none⟩ = some (.int .i64 N) ∧ w.cell? ⟨b, 1, none⟩ = some (.slice A n c) ∧ w.frozen? ⟨b, 0, none⟩ = false ∧ w.frozen? ⟨b, 1, none⟩ = false :=
  ⟨Blk.lt h, Blk.cell h (i := 0) rfl, Blk.cell h (i := 1) rfl, Blk.frozen h 0, Blk.frozen h 1⟩
theorem SBx.set (h : SBx w b N A n c) (N' : Int) (A' : Option Addr) (n' c' : Nat) : SBx ((w.setCell ⟨b, 0, none⟩ (.int .i64 N')).setCell ⟨b, 1, none⟩ (.slice A' n' c')) b N' A' n' c' := Blk.set (Blk.set h 0 (.int .i64 N')) 1 (.slice A' n' c')
theorem SBx.grown {row : Option Nat} (h : SBx w b N A n c) (hg : w.grownBy w' row) (hr : row ≠ some b) : SBx w' b N A n c := Blk.grown h hg hr
end
theorem below_set2 {B b : Nat} {a w : World} (h : Below B a w) (hb : B ≤ b) (u v : Value) : Below B a ((w.setCell ⟨b, 0, none⟩ u).setCell ⟨b, 1, none⟩ v) := (h.setCell hb u).setCell hb v
theorem own_set2 {w : World} {lo e size n b : Nat} {v : Value} {xs : List Value} (h : w.ownsRow lo e size v n xs) (hb : b < lo) (u u' : Value) : ((w.setCell ⟨b, 0, none⟩ u).setCell ⟨b, 1, none⟩ u').ownsRow lo e size v n xs := own_lowG (own_lowG h hb u) hb u'
end Go.Proofs.YtlhcobkncceodaaGreatDoor
