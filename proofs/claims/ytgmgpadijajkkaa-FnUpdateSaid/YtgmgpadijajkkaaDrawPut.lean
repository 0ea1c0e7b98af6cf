/- A cursor and blocks of the call's own beside writings (plain lemmas over the model; no condition). -/
import Derived.Test.YtgmgpadijajkkaaDraw
import Derived.Test.YtgmgpadijajkkaaBlkB
namespace Go.Proofs.Ytgmgpadijajkkaa
open Go.RowKit

theorem blk_drawn {w w' : World} {b g : Nat} {cs : Array Value} {t : TypeId} (h : Blk w b cs t) (hg : w.grownBy w' (some g)) (hb : g < b) : Blk w' b cs t := h.grown hg (fun e => by injection e; omega)
theorem Cur.put {W : World} {g b B : Nat} {A : Option Addr} {n c : Nat} {xs : List Nat} (h : Cur W g A n c xs) (hg : g < B) (hb : B ≤ b) (hA : 0 < n → ∀ b off sp, A = some ⟨b, off, sp⟩ → b < B) (i : Nat) (u : Value) : Cur (W.setCell ⟨b, i, none⟩ u) g A n c xs :=
  h.far (grown_setAt (World.grownBy.refl _ _) i u) (fun k e => by cases e; exact hb) hg hA
theorem grown_put {a W : World} {g b : Nat} (h : a.grownBy W (some g)) (hb : a.heap.size ≤ b) (i : Nat) (u : Value) : a.grownBy (W.setCell ⟨b, i, none⟩ u) (some g) :=
  grownBy_far h (grown_setAt (World.grownBy.refl _ _) i u) (fun k e => by cases e; exact hb)
theorem own_put {w : World} {lo e size n b : Nat} {v : Value} {xs : List Value} (h : w.ownsRow lo e size v n xs) (hb : b < lo) (i : Nat) (u : Value) : (w.setCell ⟨b, i, none⟩ u).ownsRow lo e size v n xs :=
  h.kept (grown_setAt (World.grownBy.refl _ _) i u) (.inr (fun e => by have := (h.lt b e).1; omega))
end Go.Proofs.Ytgmgpadijajkkaa
