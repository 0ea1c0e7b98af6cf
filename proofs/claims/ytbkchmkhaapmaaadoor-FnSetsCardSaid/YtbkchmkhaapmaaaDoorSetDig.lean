/- The checksum of a set, as data (no condition). -/
import Derived.Test.YtbkchmkhaapmaaaDoorSetMath
import Derived.Test.YtbkchmkhaapmaaaDoorFrBytes
namespace Go.Proofs.YtbkchmkhaapmaaaDoor
open Go.RowKit
set_option linter.unusedVariables false

/-- What Digest answers. -/
def digB (N : Int) (xs : List Nat) : Int := if setB N xs then ((crcV (putVar [] N ++ xs) : Nat) : Int) else -1
end Go.Proofs.YtbkchmkhaapmaaaDoor
