/- The contract of the model's writer of six bytes. Condition: at most 2^20 bytes. -/
import Derived.Test.YtbkchmkhaapmaaaDoorPutFixMath
import Derived.Test.YtbkchmkhaapmaaaDoorNumSpec
namespace Go.Proofs.YtbkchmkhaapmaaaDoor
open Go.RowKit

end Go.Proofs.YtbkchmkhaapmaaaDoor
