/- Words that all texts on graphs share (no condition). -/
import Derived.Test.YtgmgpadijajkkaaGrN
namespace Go.Proofs.Ytgmgpadijajkkaa
open Go.RowKit

end Go.Proofs.Ytgmgpadijajkkaa
