/- Doing an operation that is applicable: the contract of the program's function. -/
import Derived.Test.YtfcomnpoehpgiaaApply2
namespace Go.Proofs.Ytfcomnpoehpgiaa
open Go.RowKit Go.Maps

theorem find_of_has {es : List Ent} {s : ByteArray} (h : hasF s (es.map Ent.file) = true) : ∃ e, findK Ent.nm s es = some e := by
  rw [hasF_ents, hasK_find] at h
  exact Option.isSome_iff_exists.1 h
theorem implApply (lo mb : Nat) (es : List Ent) (o : OpE) (w : World) (hm : MapIs w lo mb es) (hl : es.length ≤ 1048576) (hs : o.nm.size ≤ 1048576) (hs2 : o.to.size ≤ 1048576) (hd : o.d.Ok w) (hdn : o.d.n ≤ 16777216) (hen : ∀ e ∈ es, e.d.n ≤ 16777216) (h1 : 1 ≤ o.kind) (h4 : o.kind ≤ 4) (hfit : fitsF (es.map Ent.file) o.op = true) :
    Calls Try.prog 70 #[.map (some mb), o.v] w (Applied w lo mb (makeF (es.map Ent.file) o.op)) := by
  obtain ⟨kind, nm, to, d⟩ := o
  simp only [OpE.op, OpE.v] at *
  have hk : kind = 1 ∨ kind = 2 ∨ kind = 3 ∨ kind = 4 := by omega
  rcases hk with rfl | rfl | rfl | rfl
  · exact implApply_1 lo mb es nm to d w hm hl hs
  · obtain ⟨e, hf⟩ := find_of_has (s := nm) (by simpa [fitsF] using hfit)
    obtain ⟨he, rfl⟩ := findK_mem hf
    exact implApply_2 lo mb es e to d w hm hl hs hd hdn (hen e he) hf
  · have h3 : hasF nm (es.map Ent.file) = true ∧ to ≠ nm := by simpa [fitsF] using hfit
    obtain ⟨e, hf⟩ := find_of_has h3.1
    exact implApply_3 lo mb es nm to d e w hm hl hs hs2 hf h3.2
  · exact implApply_4 lo mb es nm to d w hm hs
end Go.Proofs.Ytfcomnpoehpgiaa
