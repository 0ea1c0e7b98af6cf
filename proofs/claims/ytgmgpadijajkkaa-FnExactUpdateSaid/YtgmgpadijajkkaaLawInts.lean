/- Words for the walks of laws whose function answers numbers: rows of numbers of a call's own, from call to call. -/
import Derived.Test.YtgmgpadijajkkaaDegsB
import Derived.Test.YtgmgpadijajkkaaIntEq
import Derived.Test.YtgmgpadijajkkaaGrOpen
namespace Go.Proofs.Ytgmgpadijajkkaa
open Go.RowKit

section
variable {w w' : World} {lo n c : Nat} {A : Option Addr} {xs : List Int}
theorem OwI.cnt (h : OwI w lo A n c xs) : n = xs.length := by have := h.1; rw [vi_len] at this; omega
theorem OwI.below (h : OwI w lo A n c xs) (hb : Below w.heap.size w w') : OwI w' lo A n c xs := own_below h hb
theorem OwI.rd (h : OwI w lo A n c xs) : SlI w A n xs := SlI.of_own h
end
theorem degsOf_len (key : GE → Int) (N : Int) (es : List GE) : (degsOf key N es).length ≤ 150 := by
  unfold degsOf
  split
  · rename_i h
    have := graphB_iff h
    rw [degs_len]
    omega
  · simp
end Go.Proofs.Ytgmgpadijajkkaa
