/- The contracts of the laws' helpers that leave marks in one shard and find them; those on bytes and numbers, said of memory alone. Condition: at most 2^21 edges, bytes or numbers. -/
import Derived.Test.YtlhcobkncceodaaGreatDoorCC
import Derived.Test.YtlhcobkncceodaaGreatDoorCB
import Derived.Test.YtlhcobkncceodaaGreatDoorKIntEq
namespace Go.Proofs.YtlhcobkncceodaaGreatDoor
open Go.RowKit

theorem eqY_any (A B : Option Addr) (n c d : Nat) (xs : List Nat) (w : World) (ha : Rd w A n xs) (hb : Rd w B n xs) (hn : n ≤ 2097152) :
    Calls Tryz.prog 74 #[.slice A n c, .slice B n d] w (GTell w true) := by
  refine (same_any A B n c d xs w ha hb hn).mono ?_
  rintro e w' ⟨rfl, m, rfl⟩
  exact ⟨rfl, below_drewN (Below.refl _ _) m⟩
theorem heldY_any (A : Option Addr) (n c : Nat) (w : World) (hr : Rd w A n (marks n)) (hn : n ≤ 2097152) :
    Calls Tryz.prog 76 #[.slice A n c, .int .i64 1] w (GNum w (n + 1 : Int)) := by
  refine (held_any A n c w hr hn).mono ?_
  rintro e w' ⟨rfl, rfl⟩
  exact ⟨rfl, Below.refl _ _⟩
theorem heldN_any (A : Option Addr) (n c k : Nat) (w : World) (hr : SlI w A n (ints k n)) (hn : n ≤ 2097152) (hk : k ≤ 8388608) :
    Calls Tryz.prog 32 #[.slice A n c, .int .i64 (k : Int)] w (GNum w ((k + n : Nat) : Int)) := by
  refine (heldInts_any A n c k w hr hn hk).mono ?_
  rintro e w' ⟨rfl, rfl⟩
  exact ⟨rfl, Below.refl _ _⟩
/-- A row of the call's own stays where another is written. -/
theorem own_far {w w' : World} {base e size n c : Nat} {A : Option Addr} {xs : List Value} {row : Option Nat} (h : w.ownsRow base e size (.slice A n c) n xs) (hg : w.grownBy w' row) {l1 h1 l2 h2 : Nat} (ha : ∀ k, (Value.slice A n c).ownBlock = some k → l1 ≤ k ∧ k < h1) (hb : ∀ k, row = some k → l2 ≤ k ∧ k < h2) (hd : h1 ≤ l2 ∨ h2 ≤ l1) : w'.ownsRow base e size (.slice A n c) n xs :=
  h.kept hg (by
    cases hv : (Value.slice A n c).ownBlock with
    | none => exact .inl rfl
    | some k => exact .inr (fun e => by have := ha k hv; have := hb k e.symm; omega))
theorem HBox.far {w w' : World} {b n c : Nat} {lo hi : Int} {A : Option Addr} (h : HBox w b lo hi A n c) {row : Option Nat} (hg : w.grownBy w' row) {l2 h2 : Nat} (hb : ∀ k, row = some k → l2 ≤ k ∧ k < h2) (hd : b < l2 ∨ h2 ≤ b) : HBox w' b lo hi A n c :=
  h.keep hg.size (hg.block _ h.lt (fun e => by have := hb b e.symm; omega))
end Go.Proofs.YtlhcobkncceodaaGreatDoor
