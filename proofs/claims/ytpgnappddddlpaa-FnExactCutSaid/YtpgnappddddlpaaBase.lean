/- What a call that makes a new slice of bytes leaves; the row of the table of types for bytes. -/
import Derived.Test.YtpgnappddddlpaaRows
import Derived.Test.YtpgnappddddlpaaWords
import Derived.Deep.QuietTactic
import Derived.BigQuiet
namespace Go.Proofs.Ytpgnappddddlpaa
open Go.RowKit

theorem Try.infoByte : (Try.prog.info? 5).map (fun i => (i.zero, i.size, i.bytes)) = some (some (.int .u8 0), 1, 1) := by kernel_rfl

/-- What a call that makes a new slice of bytes leaves. -/
def Made (w : World) (n : Nat) (xs : List Nat) (e : Ending) (w' : World) : Prop :=
  ∃ A c, e = .returned (.slice A n c) ∧ w'.ownsRow w.heap.size 5 1 (.slice A n c) n (vb xs) ∧ Below w.heap.size w w'
end Go.Proofs.Ytpgnappddddlpaa
