/- Words for the laws' walks on frames: what survives a call that leaves marks in one block. -/
import Derived.Test.YtmlfhjkogcabiaaFrBox
import Derived.Test.YtmlfhjkogcabiaaMarkB
namespace Go.Proofs.Ytmlfhjkogcabiaa
open Go.RowKit

theorem kept_grown {anc W W' : World} {row : Option Nat} {lo : Nat} (h : Below anc.heap.size anc W) (hg : W.grownBy W' row) (hr : ∀ k, row = some k → lo ≤ k) (hl : anc.heap.size ≤ lo) : Below anc.heap.size anc W' :=
  h.grown hg h.size (fun k hk => Nat.le_trans hl (hr k hk))
theorem box2_grown {W W' : World} {b lo : Nat} {v0 v1 : Value} {row : Option Nat} (h : Box2 W b v0 v1) (hg : W.grownBy W' row) (hr : ∀ k, row = some k → lo ≤ k) (hl : b < lo) : Box2 W' b v0 v1 :=
  h.keep hg.size (hg.block b h.lt (fun e => by have := hr b e.symm; omega))
theorem row_grown {W W' : World} {lo e n c : Nat} {A : Option Addr} {xs : List Value} {row : Option Nat} {hi : Nat} (h : W.ownsRow lo e 1 (.slice A n c) n xs) (hg : W.grownBy W' row) (hr : ∀ k, row = some k → k < hi) (hl : hi ≤ lo) : W'.ownsRow lo e 1 (.slice A n c) n xs := by
  refine h.kept hg ?_
  cases hb : (Value.slice A n c).ownBlock with
  | none => exact .inl rfl
  | some k => exact .inr (fun e => by have := hr k e.symm; have := (h.lt k hb).1; omega)
theorem tells_same {A B : Option Addr} {n c d : Nat} {xs : List Nat} {w : World} (ha : Rd w A n xs) (hb : Rd w B n xs) (hn : n ≤ 2097152) :
    Calls Try.prog 24 #[.slice A n c, .slice B n d] w (FTell w true) :=
  (same_any A B n c d xs w ha hb hn).mono fun _ _ ⟨he, m, hw⟩ => ⟨he, by rw [hw]; exact below_drewN (Below.refl _ _) m⟩

end Go.Proofs.Ytmlfhjkogcabiaa
