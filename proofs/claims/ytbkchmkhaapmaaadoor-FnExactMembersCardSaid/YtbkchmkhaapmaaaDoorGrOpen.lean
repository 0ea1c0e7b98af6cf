/- The opening of an argument that is a graph. -/
import Derived.Test.YtbkchmkhaapmaaaDoorGrOpenB
namespace Go.Proofs.YtbkchmkhaapmaaaDoor
open Go.RowKit

section
variable {H : Type} {enc : TypeId × Value → H} {w : World} {base : Nat} {spare : Nat → Bool} {held : Bool}
theorem Tryd.cellsGi : Tryd.prog.cellsOf 3 = 1 := by kernel_rfl
end
end Go.Proofs.YtbkchmkhaapmaaaDoor
