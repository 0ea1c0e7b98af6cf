/- Parted from YtgmgpadijajkkaaDrawG: a row of the call's own stays while an older block is written (a plain lemma over the model; no condition). -/
import Derived.Test.YtgmgpadijajkkaaDraw
namespace Go.Proofs.Ytgmgpadijajkkaa
open Go.RowKit

theorem own_keepG {w w' : World} {lo e size n g : Nat} {v : Value} {xs : List Value} (h : w.ownsRow lo e size v n xs) (hg : w.grownBy w' (some g)) (hgb : g < lo) : w'.ownsRow lo e size v n xs :=
  h.kept hg (.inr (fun e => by have := (h.lt g e).1; omega))
end Go.Proofs.Ytgmgpadijajkkaa
