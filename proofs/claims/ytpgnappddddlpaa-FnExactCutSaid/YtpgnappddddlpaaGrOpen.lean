/- The opening of an argument that is a graph. -/
import Derived.Test.YtpgnappddddlpaaGrOpenB
namespace Go.Proofs.Ytpgnappddddlpaa
open Go.RowKit

section
variable {H : Type} {enc : TypeId × Value → H} {w : World} {base : Nat} {spare : Nat → Bool} {held : Bool}
theorem Try.cellsGi : Try.prog.cellsOf 3 = 1 := by kernel_rfl
theorem Try.cellsEd : Try.prog.cellsOf 153 = 3 := by kernel_rfl
theorem Try.cellsSEd : Try.prog.cellsOf 51 = 1 := by kernel_rfl
theorem Try.cellsGr : Try.prog.cellsOf 53 = 2 := by kernel_rfl
theorem opensEdge : Opens enc Try.prog w base spare held 153 edgeSh :=
  opens_struct Try.underlying153 Try.cellsEd (opensF_cons rfl Try.cellsGi (opens_int Try.underlying3) (opensF_cons rfl Try.cellsGi (opens_int Try.underlying3) (opensF_last rfl Try.cellsGi (opens_int Try.underlying3))))
theorem opensGraph : Opens enc Try.prog w base spare held 53 grSh :=
  opens_struct Try.underlying53 Try.cellsGr (opensF_cons rfl Try.cellsGi (opens_int Try.underlying3) (opensF_last rfl Try.cellsSEd (opens_sl Try.underlying51 Try.cellsEd (by decide) opensEdge)))

set_option maxRecDepth 100000 in
theorem open_graph {r : Reach} {b0 : Nat} {v : Value} {d : DataW H} {p : List MemPlace} (hv : Value.okWide Try.prog w r b0 53 v) (h : DataW.Trod enc Try.prog w base spare held 53 v d p) :
    ∃ N A n c es, v = .agg #[.int .i64 N, .slice A n c] ∧ GrIn w N A n es := by
  obtain ⟨cs, rfl, _⟩ := Go.WideShapes.okWide_struct Try.underlying53 hv
  obtain ⟨fuel, hf⟩ := h
  obtain ⟨x, hx⟩ := opensGraph _ _ _ hf
  obtain ⟨N, A, n, c, es, he, hi⟩ := hx.graph (Nat.le_refl _)
  refine ⟨N, A, n, c, es, ?_, hi⟩
  have : cs.toList = [.int .i64 N, .slice A n c] := by simpa [Value.cells] using he
  cases cs
  simp only at this
  rw [this]
end
end Go.Proofs.Ytpgnappddddlpaa
