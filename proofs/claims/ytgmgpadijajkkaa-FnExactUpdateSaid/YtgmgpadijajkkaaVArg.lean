/- The opening of an argument that is a job, or a list of views (no condition). -/
import Derived.Test.YtgmgpadijajkkaaVE
import Derived.Test.YtgmgpadijajkkaaGrOpenB
namespace Go.Proofs.Ytgmgpadijajkkaa
open Go.RowKit

def jobSh : Sh := .pair (.int .i64) (.int .i64)
def viewSh : Sh := .pair .bool (.pair .bool (.pair (.int .i64) (.int .i64)))
def ViewIn (e : VE) : Prop := (Lit.int .i64 e.w).wf = true ∧ (Lit.int .i64 e.v).wf = true
theorem RdR.view {lo hi : Nat} {w : World} {cs : List Value} {d : viewSh.D} (h : RdR lo hi w viewSh cs d) : ∃ e : VE, cs = e.cells ∧ ViewIn e := by
  obtain ⟨c1, r1, e1, h1, hk1, hb⟩ := h
  obtain ⟨c2, r2, e2, h2, hk2, hb⟩ := hb
  obtain ⟨c3, r3, e3, h3, ⟨hk3, hw3⟩, hk4, hw4⟩ := hb
  have hk1' : c1 = [.bool d.1] := hk1
  have hk2' : c2 = [.bool d.2.1] := hk2
  exact ⟨⟨d.1, d.2.1, d.2.2.1, d.2.2.2⟩, by rw [e1, hk1', e2, hk2', e3, hk3, hk4]; rfl, hw3, hw4⟩
theorem RdR.views {lo hi : Nat} {w : World} {cs : List Value} {ds : List viewSh.D} (h : RdR lo hi w (.sl viewSh) cs ds) (hh : hi ≤ w.heap.size) : ∃ A n c es, cs = [.slice A n c] ∧ SlV w A n es ∧ n ≤ c ∧ n ≤ maxLen ∧ ∀ e ∈ es, ViewIn e := by
  obtain ⟨A, n, c, e1, e2, e3, e4, h⟩ := h
  rcases Nat.eq_zero_or_pos n with h0 | h0
  · subst h0
    exact ⟨A, 0, c, [], e1, SlV.nil, e3, by omega, by simp⟩
  · obtain ⟨b, off, eA, _, hb, hall⟩ := h h0
    obtain ⟨es, h1, h2, h3⟩ := g_build VE.cells 4 VE.cells_len ViewIn w b off n (fun j hj => by
      have hjl : j < ds.length := by omega
      obtain ⟨cs, _, hc, hr⟩ := hall j (ds[j]'hjl) (List.getElem?_eq_getElem hjl)
      obtain ⟨e, rfl, he⟩ := RdR.view hr
      exact ⟨e, he, hc⟩)
    exact ⟨A, n, c, es, e1, ⟨h1, ⟨by rw [flat_len _ 4 VE.cells_len, h1], fun _ => ⟨b, off, eA, by omega, h2⟩⟩⟩, e3, by omega, h3⟩
/-- What a walk is told of a list of views that came in. -/
structure ViewsIn (w : World) (A : Option Addr) (n c : Nat) (es : List VE) : Prop where
  g : SlV w A n es
  c : n ≤ c
  l : n ≤ maxLen
  e : ∀ e ∈ es, ViewIn e
section
variable {H : Type} {enc : TypeId × Value → H} {w : World} {base : Nat} {spare : Nat → Bool} {held : Bool}
theorem Try.cellsVi : Try.prog.cellsOf 3 = 1 := by kernel_rfl
theorem Try.cellsVb : Try.prog.cellsOf 4 = 1 := by kernel_rfl
theorem Try.cellsJob : Try.prog.cellsOf 34 = 2 := by kernel_rfl
theorem opensJob : Opens enc Try.prog w base spare held 34 jobSh :=
  opens_struct Try.underlying34 Try.cellsJob (opensF_cons rfl Try.cellsVi (opens_int Try.underlying3) (opensF_last rfl Try.cellsVi (opens_int Try.underlying3)))
set_option maxRecDepth 100000 in
theorem open_job {r : Reach} {b0 : Nat} {v : Value} {d : DataW H} {p : List MemPlace} (hv : Value.okWide Try.prog w r b0 34 v) (h : DataW.Trod enc Try.prog w base spare held 34 v d p) :
    ∃ a s : Int, v = .agg #[.int .i64 a, .int .i64 s] ∧ ((Lit.int .i64 a).wf = true ∧ (Lit.int .i64 s).wf = true) := by
  obtain ⟨cs, rfl, _⟩ := Go.WideShapes.okWide_struct Try.underlying34 hv
  obtain ⟨fuel, hf⟩ := h
  obtain ⟨x, hx⟩ := opensJob _ _ _ hf
  obtain ⟨c1, c2, e, h1, ⟨hk, hwf⟩, hk2, hwf2⟩ := hx
  refine ⟨x.1, x.2, ?_, hwf, hwf2⟩
  have : cs.toList = [.int .i64 x.1, .int .i64 x.2] := by
    have e9 : (Value.agg cs).cells.toList = c1 ++ c2 := e
    rw [hk, hk2] at e9
    simpa [Value.cells] using e9
  cases cs
  simp only at this
  rw [this]
end
section
variable {H : Type} {enc : TypeId × Value → H} {w : World} {base : Nat} {spare : Nat → Bool} {held : Bool}
theorem Try.cellsView : Try.prog.cellsOf 71 = 4 := by kernel_rfl
theorem opensView : Opens enc Try.prog w base spare held 71 viewSh :=
  opens_struct Try.underlying71 Try.cellsView (opensF_cons rfl Try.cellsVb (opens_bool Try.underlying4) (opensF_cons rfl Try.cellsVb (opens_bool Try.underlying4) (opensF_cons rfl Try.cellsVi (opens_int Try.underlying3) (opensF_last rfl Try.cellsVi (opens_int Try.underlying3)))))
theorem opensViews : Opens enc Try.prog w base spare held 44 (.sl viewSh) := opens_sl Try.underlying44 Try.cellsView (by decide) opensView
set_option maxRecDepth 100000 in
theorem open_views {r : Reach} {b0 : Nat} {v : Value} {d : DataW H} {p : List MemPlace} (hv : Value.okWide Try.prog w r b0 44 v) (h : DataW.Trod enc Try.prog w base spare held 44 v d p) :
    ∃ A n c es, v = .slice A n c ∧ ViewsIn w A n c es := by
  obtain ⟨a, len, cap, rfl⟩ := Go.WideShapes.okWide_slice Try.underlying44 hv
  obtain ⟨fuel, hf⟩ := h
  obtain ⟨x, hx⟩ := opensViews _ _ _ hf
  obtain ⟨A, n, c, es, he, h1, h2, h3, h4⟩ := RdR.views hx (Nat.le_refl _)
  have h9 : [Value.slice a len cap] = [.slice A n c] := by simpa [Value.cells] using he
  injection h9 with h9
  exact ⟨A, n, c, es, h9, h1, h2, h3, h4⟩
end
end Go.Proofs.Ytgmgpadijajkkaa
