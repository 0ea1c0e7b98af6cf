/- Views: what new ones are (no condition). -/
import Derived.Test.YtgmgpadijajkkaaVE
namespace Go.Proofs.Ytgmgpadijajkkaa
open Go.RowKit

theorem Try.infoView : (Try.prog.info? 32).map (fun i => (i.zero, i.size, i.bytes)) = some (some (.agg #[.bool false, .bool false, .int .i64 0, .int .i64 0]), 4, 24) := by kernel_rfl

/-- New views. -/
def MadeVs (w : World) (es : List VE) (e : Ending) (w' : World) : Prop :=
  ∃ A c, e = .returned (.slice A es.length c) ∧ w'.ownsRow w.heap.size 32 4 (.slice A es.length c) es.length (es.flatMap VE.cells) ∧ Below w.heap.size w w'
end Go.Proofs.Ytgmgpadijajkkaa
