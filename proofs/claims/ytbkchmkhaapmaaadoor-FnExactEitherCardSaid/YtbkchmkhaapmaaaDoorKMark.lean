/- Shard edges: the contracts of the laws' helpers that leave marks and that look for them. Condition: at most 2^21 edges. -/
import Derived.Test.YtbkchmkhaapmaaaDoorKEB
namespace Go.Proofs.YtbkchmkhaapmaaaDoor
open Go.RowKit

end Go.Proofs.YtbkchmkhaapmaaaDoor
