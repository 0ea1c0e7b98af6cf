/- Words that all texts on graphs share (no condition). -/
import Derived.Test.YtpgnappddddlpaaGrN
namespace Go.Proofs.Ytpgnappddddlpaa
open Go.RowKit

theorem Try.infoEdge : (Try.prog.info? 145).map (fun i => (i.zero, i.size, i.bytes)) = some (some (.agg #[.int .i64 0, .int .i64 0, .int .i64 0]), 3, 24) := by kernel_rfl

/-- New edges. -/
def MadeG (w : World) (es : List GE) (e : Ending) (w' : World) : Prop :=
  ∃ A c, e = .returned (.slice A es.length c) ∧ w'.ownsRow w.heap.size 145 3 (.slice A es.length c) es.length (es.flatMap GE.cells) ∧ Below w.heap.size w w'
/-- A new graph. -/
def MadeGr (w : World) (N : Int) (es : List GE) (e : Ending) (w' : World) : Prop :=
  ∃ A c, e = .returned (.agg #[.int .i64 N, .slice A es.length c]) ∧ w'.ownsRow w.heap.size 145 3 (.slice A es.length c) es.length (es.flatMap GE.cells) ∧ Below w.heap.size w w'
end Go.Proofs.Ytpgnappddddlpaa
