/- The opening of an argument that is a slice of bytes. -/
import Derived.Test.YtmlfhjkogcabiaaFr
namespace Go.Proofs.Ytmlfhjkogcabiaa
open Go.RowKit

section
variable {H : Type} {enc : TypeId × Value → H} {w : World} {base : Nat} {spare : Nat → Bool} {held : Bool}
set_option maxRecDepth 100000 in
theorem open_y {r : Reach} {b0 : Nat} {v : Value} {d : DataW H} {p : List MemPlace} (hv : Value.okWide Try.prog w r b0 22 v) (h : DataW.Trod enc Try.prog w base spare held 22 v d p) :
    ∃ e : Dat, v = .slice e.A e.n e.c ∧ e.Ok w ∧ e.n ≤ maxLen := by
  obtain ⟨a, len, cap, rfl⟩ := Go.WideShapes.okWide_slice Try.underlying22 hv
  obtain ⟨fuel, hf⟩ := h
  obtain ⟨x, hx⟩ := opensY _ _ _ hf
  obtain ⟨e, he, ho, hl⟩ := RdR.daty hx (Nat.le_refl _)
  refine ⟨e, ?_, ho, hl⟩
  have h9 : [Value.slice a len cap] = [.slice e.A e.n e.c] := by simpa [Value.cells] using he
  injection h9
end
end Go.Proofs.Ytmlfhjkogcabiaa
