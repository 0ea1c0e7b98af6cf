/- The opening of an argument that is a record, or a list of records. -/
import Derived.Test.YtdmdikbcgpbbdaaGrOpenB
namespace Go.Proofs.Ytdmdikbcgpbbdaa
open Go.RowKit

/-- What a walk is told of a list of records that came in. -/
structure RecsIn (w : World) (A : Option Addr) (n c : Nat) (es : List GE) : Prop where
  g : SlG w A n es
  l : n ≤ maxLen
  c : n ≤ c
  e : ∀ e ∈ es, EdgeIn e
section
variable {H : Type} {enc : TypeId × Value → H} {w : World} {base : Nat} {spare : Nat → Bool} {held : Bool}
theorem Try.cellsRi : Try.prog.cellsOf 3 = 1 := by kernel_rfl
theorem Try.cellsRc : Try.prog.cellsOf 50 = 3 := by kernel_rfl
theorem opensRec : Opens enc Try.prog w base spare held 50 edgeSh :=
  opens_struct Try.underlying50 Try.cellsRc (opensF_cons rfl Try.cellsRi (opens_int Try.underlying3) (opensF_cons rfl Try.cellsRi (opens_int Try.underlying3) (opensF_last rfl Try.cellsRi (opens_int Try.underlying3))))
set_option maxRecDepth 100000 in
theorem open_rec {r : Reach} {b0 : Nat} {v : Value} {d : DataW H} {p : List MemPlace} (hv : Value.okWide Try.prog w r b0 50 v) (h : DataW.Trod enc Try.prog w base spare held 50 v d p) :
    ∃ e : GE, v = .agg #[.int .i64 e.f, .int .i64 e.t, .int .i64 e.w] ∧ EdgeIn e := by
  obtain ⟨cs, rfl, _⟩ := Go.WideShapes.okWide_struct Try.underlying50 hv
  obtain ⟨fuel, hf⟩ := h
  obtain ⟨x, hx⟩ := opensRec _ _ _ hf
  obtain ⟨e, he, hi⟩ := RdR.edge hx
  refine ⟨e, ?_, hi⟩
  have : cs.toList = [.int .i64 e.f, .int .i64 e.t, .int .i64 e.w] := by simpa [Value.cells, GE.cells] using he
  cases cs
  simp only at this
  rw [this]
end
section
variable {H : Type} {enc : TypeId × Value → H} {w : World} {base : Nat} {spare : Nat → Bool} {held : Bool}
theorem Try.cellsSRc : Try.prog.cellsOf 54 = 1 := by kernel_rfl
theorem opensRecs : Opens enc Try.prog w base spare held 54 (.sl edgeSh) := opens_sl Try.underlying54 Try.cellsRc (by decide) opensRec
set_option maxRecDepth 100000 in
theorem open_recs {r : Reach} {b0 : Nat} {v : Value} {d : DataW H} {p : List MemPlace} (hv : Value.okWide Try.prog w r b0 54 v) (h : DataW.Trod enc Try.prog w base spare held 54 v d p) :
    ∃ A n c es, v = .slice A n c ∧ RecsIn w A n c es := by
  obtain ⟨a, len, cap, rfl⟩ := Go.WideShapes.okWide_slice Try.underlying54 hv
  obtain ⟨fuel, hf⟩ := h
  obtain ⟨x, hx⟩ := opensRecs _ _ _ hf
  obtain ⟨A, n, c, es, he, h1, h2, h3, h4⟩ := RdR.edges hx (Nat.le_refl _)
  have h9 : [Value.slice a len cap] = [.slice A n c] := by simpa [Value.cells] using he
  injection h9 with h9
  exact ⟨A, n, c, es, h9, h1, h3, h2, h4⟩
end
end Go.Proofs.Ytdmdikbcgpbbdaa
