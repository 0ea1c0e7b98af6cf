/- Edges, graphs and numbers: the contracts of the laws' helpers that compare and that leave marks. Condition: at most 2^21 of each. -/
import Derived.Test.YtbkchmkhaapmaaaDoorGrB
import Derived.Test.YtbkchmkhaapmaaaDoorGrMk
namespace Go.Proofs.YtbkchmkhaapmaaaDoor
open Go.RowKit

end Go.Proofs.YtbkchmkhaapmaaaDoor
