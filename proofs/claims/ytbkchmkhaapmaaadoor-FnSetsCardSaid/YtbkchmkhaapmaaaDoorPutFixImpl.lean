/- The contract of the program's writer of six bytes. Condition: at most 2^20 bytes. -/
import Derived.Test.YtbkchmkhaapmaaaDoorPutFixMath
import Derived.Test.YtbkchmkhaapmaaaDoorClone
import Derived.Test.YtbkchmkhaapmaaaDoorNumImpl
namespace Go.Proofs.YtbkchmkhaapmaaaDoor
open Go.RowKit

end Go.Proofs.YtbkchmkhaapmaaaDoor
