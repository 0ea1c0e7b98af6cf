/- The opening of an argument that is a graph. -/
import Derived.Test.YtgmgpadijajkkaaGrOpenB
namespace Go.Proofs.Ytgmgpadijajkkaa
open Go.RowKit

section
variable {H : Type} {enc : TypeId × Value → H} {w : World} {base : Nat} {spare : Nat → Bool} {held : Bool}
theorem Try.cellsGi : Try.prog.cellsOf 3 = 1 := by kernel_rfl
end
end Go.Proofs.Ytgmgpadijajkkaa
