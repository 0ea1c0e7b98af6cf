/- Words that all texts on graphs share (no condition). -/
import Derived.Test.YtbkchmkhaapmaaaDoorGrN
namespace Go.Proofs.YtbkchmkhaapmaaaDoor
open Go.RowKit

end Go.Proofs.YtbkchmkhaapmaaaDoor
