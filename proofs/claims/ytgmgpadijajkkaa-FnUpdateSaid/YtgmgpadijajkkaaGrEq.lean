/- Edges, graphs and numbers: the contracts of the laws' helpers that compare and that leave marks. Condition: at most 2^21 of each. -/
import Derived.Test.YtgmgpadijajkkaaGrB
import Derived.Test.YtgmgpadijajkkaaGrMk
namespace Go.Proofs.Ytgmgpadijajkkaa
open Go.RowKit

end Go.Proofs.Ytgmgpadijajkkaa
