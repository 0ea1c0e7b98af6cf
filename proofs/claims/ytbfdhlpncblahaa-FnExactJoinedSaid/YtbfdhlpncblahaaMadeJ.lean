/- What joining returns (no condition). -/
import Derived.Test.YtbfdhlpncblahaaGrB
namespace Go.Proofs.Ytbfdhlpncblahaa
open Go.RowKit

/-- A graph and whether there is one. -/
def MadeJ (w : World) (N : Int) (es : List GE) (ok : Bool) (e : Ending) (w' : World) : Prop :=
  ∃ A c, e = .returned (.tuple #[.agg #[.int .i64 N, .slice A es.length c], .bool ok]) ∧ w'.ownsRow w.heap.size 91 3 (.slice A es.length c) es.length (es.flatMap GE.cells) ∧ Below w.heap.size w w'

end Go.Proofs.Ytbfdhlpncblahaa
