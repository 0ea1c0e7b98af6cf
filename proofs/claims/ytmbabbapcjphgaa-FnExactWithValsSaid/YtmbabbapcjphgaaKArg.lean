/- The opening of an argument that is a shard (no condition). -/
import Derived.Test.YtmbabbapcjphgaaKE
import Derived.Test.YtmbabbapcjphgaaGrOpenB
namespace Go.Proofs.Ytmbabbapcjphgaa
open Go.RowKit

def keSh : Sh := .pair (.int .i64) (.pair (.int .i64) (.pair (.int .i64) (.pair (.int .i64) (.int .i64))))
def shardSh : Sh := .pair (.int .i64) (.pair (.int .i64) (.sl keSh))
def KeIn (e : KE) : Prop := (Lit.int .i64 e.f).wf = true ∧ (Lit.int .i64 e.t).wf = true ∧ (Lit.int .i64 e.w).wf = true ∧ (Lit.int .i64 e.i).wf = true ∧ (Lit.int .i64 e.v).wf = true
theorem RdR.ke {lo hi : Nat} {w : World} {cs : List Value} {d : keSh.D} (h : RdR lo hi w keSh cs d) : ∃ e : KE, cs = e.cells ∧ KeIn e := by
  obtain ⟨c1, r1, e1, h1, ⟨hk1, hw1⟩, hb⟩ := h
  obtain ⟨c2, r2, e2, h2, ⟨hk2, hw2⟩, hb⟩ := hb
  obtain ⟨c3, r3, e3, h3, ⟨hk3, hw3⟩, hb⟩ := hb
  obtain ⟨c4, r4, e4, h4, ⟨hk4, hw4⟩, hk5, hw5⟩ := hb
  exact ⟨⟨d.1, d.2.1, d.2.2.1, d.2.2.2.1, d.2.2.2.2⟩, by rw [e1, hk1, e2, hk2, e3, hk3, e4, hk4, hk5]; rfl, hw1, hw2, hw3, hw4, hw5⟩
theorem RdR.kes {lo hi : Nat} {w : World} {cs : List Value} {ds : List keSh.D} (h : RdR lo hi w (.sl keSh) cs ds) (hh : hi ≤ w.heap.size) : ∃ A n c es, cs = [.slice A n c] ∧ SlK w A n es ∧ n ≤ c ∧ n ≤ maxLen ∧ ∀ e ∈ es, KeIn e := by
  obtain ⟨A, n, c, e1, e2, e3, e4, h⟩ := h
  rcases Nat.eq_zero_or_pos n with h0 | h0
  · subst h0
    exact ⟨A, 0, c, [], e1, SlK.nil, e3, by omega, by simp⟩
  · obtain ⟨b, off, eA, _, hb, hall⟩ := h h0
    obtain ⟨es, h1, h2, h3⟩ := g_build KE.cells 5 KE.cells_len KeIn w b off n (fun j hj => by
      have hjl : j < ds.length := by omega
      obtain ⟨cs, _, hc, hr⟩ := hall j (ds[j]'hjl) (List.getElem?_eq_getElem hjl)
      obtain ⟨e, rfl, he⟩ := RdR.ke hr
      exact ⟨e, he, hc⟩)
    exact ⟨A, n, c, es, e1, ⟨h1, ⟨by rw [flat_len _ 5 KE.cells_len, h1], fun _ => ⟨b, off, eA, by omega, h2⟩⟩⟩, e3, by omega, h3⟩
/-- What a walk is told of a shard that came in. -/
structure ShIn (w : World) (lo hi : Int) (A : Option Addr) (n c : Nat) (es : List KE) : Prop where
  lo : (Lit.int .i64 lo).wf = true
  hi : (Lit.int .i64 hi).wf = true
  g : SlK w A n es
  c : n ≤ c
  l : n ≤ maxLen
  e : ∀ e ∈ es, KeIn e
theorem RdR.shard {a b : Nat} {w : World} {cs : List Value} {d : shardSh.D} (h : RdR a b w shardSh cs d) (hh : b ≤ w.heap.size) : ∃ lo hi A n c es, cs = [.int .i64 lo, .int .i64 hi, .slice A n c] ∧ ShIn w lo hi A n c es := by
  obtain ⟨c1, r1, e1, h1, ⟨hk1, hw1⟩, hb⟩ := h
  obtain ⟨c2, r2, e2, h2, ⟨hk2, hw2⟩, hb⟩ := hb
  obtain ⟨A, n, c, es, ea, hg, hc, hl, he⟩ := RdR.kes hb hh
  exact ⟨d.1, d.2.1, A, n, c, es, by rw [e1, hk1, e2, hk2, ea]; rfl, ⟨hw1, hw2, hg, hc, hl, he⟩⟩

section
variable {H : Type} {enc : TypeId × Value → H} {w : World} {base : Nat} {spare : Nat → Bool} {held : Bool}
theorem Try.cellsKi : Try.prog.cellsOf 3 = 1 := by kernel_rfl
theorem Try.cellsKe : Try.prog.cellsOf 121 = 5 := by kernel_rfl
theorem Try.cellsSKe : Try.prog.cellsOf 28 = 1 := by kernel_rfl
theorem Try.cellsShard : Try.prog.cellsOf 30 = 3 := by kernel_rfl
theorem opensKe : Opens enc Try.prog w base spare held 121 keSh :=
  opens_struct Try.underlying121 Try.cellsKe (opensF_cons rfl Try.cellsKi (opens_int Try.underlying3) (opensF_cons rfl Try.cellsKi (opens_int Try.underlying3) (opensF_cons rfl Try.cellsKi (opens_int Try.underlying3) (opensF_cons rfl Try.cellsKi (opens_int Try.underlying3) (opensF_last rfl Try.cellsKi (opens_int Try.underlying3))))))
theorem opensShard : Opens enc Try.prog w base spare held 30 shardSh :=
  opens_struct Try.underlying30 Try.cellsShard (opensF_cons rfl Try.cellsKi (opens_int Try.underlying3) (opensF_cons rfl Try.cellsKi (opens_int Try.underlying3) (opensF_last rfl Try.cellsSKe (opens_sl Try.underlying28 Try.cellsKe (by decide) opensKe))))

set_option maxRecDepth 100000 in
theorem open_shard {r : Reach} {b0 : Nat} {v : Value} {d : DataW H} {p : List MemPlace} (hv : Value.okWide Try.prog w r b0 30 v) (h : DataW.Trod enc Try.prog w base spare held 30 v d p) :
    ∃ lo hi A n c es, v = .agg #[.int .i64 lo, .int .i64 hi, .slice A n c] ∧ ShIn w lo hi A n c es := by
  obtain ⟨cs, rfl, _⟩ := Go.WideShapes.okWide_struct Try.underlying30 hv
  obtain ⟨fuel, hf⟩ := h
  obtain ⟨x, hx⟩ := opensShard _ _ _ hf
  obtain ⟨lo, hi, A, n, c, es, he, hi'⟩ := RdR.shard hx (Nat.le_refl _)
  refine ⟨lo, hi, A, n, c, es, ?_, hi'⟩
  have : cs.toList = [.int .i64 lo, .int .i64 hi, .slice A n c] := by simpa [Value.cells] using he
  cases cs
  simp only at this
  rw [this]
end
end Go.Proofs.Ytmbabbapcjphgaa
