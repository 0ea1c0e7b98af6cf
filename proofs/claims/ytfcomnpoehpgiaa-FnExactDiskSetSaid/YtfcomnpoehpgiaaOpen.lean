/- Arguments that are operations and disks, opened: what the form reads of them is told in the words for files and operations. -/
import Derived.Test.YtfcomnpoehpgiaaDeep
import Derived.Test.YtfcomnpoehpgiaaEntOwn
namespace Go.Proofs.Ytfcomnpoehpgiaa
open Go.RowKit

def byteSh : Sh := .sl (.int .u8)
def fileSh : Sh := .pair .str byteSh
def opSh : Sh := .pair (.int .i64) (.pair .str (.pair .str byteSh))
def diskSh : Sh := .pair (.int .i64) (.pair (.int .i64) (.pair (.sl fileSh) (.sl opSh)))

/-- A slice of bytes that reads as a datum. -/
theorem RdR.dat {lo hi : Nat} {w : World} {cs : List Value} {ds : List Int} (h : RdR lo hi w byteSh cs ds) (hh : hi ≤ w.heap.size) : ∃ d : Dat, cs = [.slice d.A d.n d.c] ∧ d.Ok w ∧ d.n ≤ maxLen := by
  obtain ⟨A, n, c, e1, e2, e3, e4, h⟩ := h
  have hlen : List.length (α := Int) ds = n := e2
  have hw : ∀ d ∈ ds, 0 ≤ d ∧ d ≤ 255 := by
    intro d hd
    obtain ⟨j, hj, he⟩ := List.getElem_of_mem hd
    obtain ⟨b, off, _, _, _, hall⟩ := h (by omega)
    obtain ⟨es, _, _, hr⟩ := hall j d (by rw [← he]; exact List.getElem?_eq_getElem hj)
    exact bounds_u8 hr.2
  refine ⟨⟨A, n, c, ds.map Int.toNat⟩, e1, ⟨⟨?_, ?_, fun h0 => ?_⟩, e3⟩, by show n ≤ maxLen; omega⟩
  · rw [List.length_map]; exact e2
  · intro x hx
    obtain ⟨d, hd, rfl⟩ := List.mem_map.1 hx
    have := hw d hd
    omega
  · obtain ⟨b, off, eA, _, hb, hall⟩ := h h0
    refine ⟨b, off, eA, by omega, fun j x hx => ?_⟩
    rw [List.getElem?_map] at hx
    obtain ⟨d, hd, rfl⟩ := Option.map_eq_some_iff.1 hx
    obtain ⟨es, hl, hc, hr⟩ := hall j d hd
    obtain ⟨he, hwf⟩ := hr
    subst he
    have := hc 0 _ rfl
    have hbd := bounds_u8 hwf
    rw [Int.toNat_of_nonneg hbd.1]
    have e4 : (Sh.int IntKind.u8).size = 1 := rfl
    rw [e4, Nat.mul_one, Nat.add_zero] at this
    exact this

/-- Records one behind the other. -/
theorem build {α : Type} (f : α → List Value) (k : Nat) (hf : ∀ a, (f a).length = k) (Q : α → Prop) (w : World) (b off : Nat) : ∀ (n : Nat), (∀ j, j < n → ∃ a, Q a ∧ ∀ (i : Nat) (v : Value), (f a)[i]? = some v → w.cell? ⟨b, off + j * k + i, none⟩ = some v) →
    ∃ es : List α, es.length = n ∧ (∀ (j : Nat) (v : Value), (es.flatMap f)[j]? = some v → w.cell? ⟨b, off + j, none⟩ = some v) ∧ ∀ a ∈ es, Q a
  | 0, _ => ⟨[], rfl, fun j v hv => by simp at hv, by simp⟩
  | m + 1, h => by
    obtain ⟨es, h1, h2, h3⟩ := build f k hf Q w b off m (fun j hj => h j (by omega))
    obtain ⟨a, ha, hc⟩ := h m (by omega)
    refine ⟨es ++ [a], by simp [h1], fun j v hv => ?_, fun x hx => ?_⟩
    · have hl : (es.flatMap f).length = m * k := by rw [flat_len f k hf, h1]
      rw [flat_snoc] at hv
      rcases Nat.lt_or_ge j (m * k) with hj | hj
      · rw [List.getElem?_append_left (by omega)] at hv
        exact h2 j v hv
      · rw [List.getElem?_append_right (by omega), hl] at hv
        have := hc (j - m * k) v hv
        rw [show off + m * k + (j - m * k) = off + j by omega] at this
        exact this
    · rcases List.mem_append.1 hx with hx | hx
      · exact h3 x hx
      · simp at hx
        subst hx
        exact ha

def EntIn (w : World) (e : Ent) : Prop := e.d.Ok w ∧ e.nm.size ≤ maxLen ∧ e.d.n ≤ maxLen
def OpIn (w : World) (e : OpE) : Prop := e.d.Ok w ∧ e.nm.size ≤ maxLen ∧ e.to.size ≤ maxLen ∧ e.d.n ≤ maxLen ∧ (Lit.int .i64 e.kind).wf = true

theorem RdR.ent {lo hi : Nat} {w : World} {cs : List Value} {d : fileSh.D} (h : RdR lo hi w fileSh cs d) (hh : hi ≤ w.heap.size) : ∃ e : Ent, cs = e.cells ∧ EntIn w e := by
  obtain ⟨c1, c2, e, h1, ⟨ha, hs⟩, hb⟩ := h
  obtain ⟨x, hx, ho, hm⟩ := hb.dat hh
  exact ⟨⟨d.1, x⟩, by rw [e, ha, hx]; rfl, ho, hs, hm⟩
theorem RdR.ope {lo hi : Nat} {w : World} {cs : List Value} {d : opSh.D} (h : RdR lo hi w opSh cs d) (hh : hi ≤ w.heap.size) : ∃ e : OpE, cs = e.cells ∧ OpIn w e := by
  obtain ⟨c1, c2, e, h1, ⟨hk, hwf⟩, hb⟩ := h
  obtain ⟨c3, c4, e', h2, ⟨ha, hs⟩, hb⟩ := hb
  obtain ⟨c5, c6, e'', h3, ⟨ha', hs'⟩, hb⟩ := hb
  obtain ⟨x, hx, ho, hm⟩ := hb.dat hh
  exact ⟨⟨d.1, d.2.1, d.2.2.1, x⟩, by rw [e, hk, e', ha, e'', ha', hx]; rfl, ho, hs, hs', hm, hwf⟩
theorem RdR.files {lo hi : Nat} {w : World} {cs : List Value} {ds : List fileSh.D} (h : RdR lo hi w (.sl fileSh) cs ds) (hh : hi ≤ w.heap.size) : ∃ A n c es, cs = [.slice A n c] ∧ SlF w A n es ∧ n ≤ c ∧ n ≤ maxLen ∧ ∀ e ∈ es, EntIn w e := by
  obtain ⟨A, n, c, e1, e2, e3, e4, h⟩ := h
  have hlen : List.length (α := fileSh.D) ds = n := e2
  rcases Nat.eq_zero_or_pos n with h0 | h0
  · exact ⟨A, n, c, [], e1, ⟨h0.symm, ⟨by simp [h0], fun h => absurd h (by omega)⟩, by simp⟩, e3, by omega, by simp⟩
  · obtain ⟨b, off, eA, _, hb, hall⟩ := h h0
    obtain ⟨es, h1, h2, h3⟩ := build Ent.cells 2 Ent.cells_len (EntIn w) w b off n (fun j hj => by
      have hjl : j < ds.length := by omega
      obtain ⟨cs, _, hc, hr⟩ := hall j (ds[j]'hjl) (List.getElem?_eq_getElem hjl)
      obtain ⟨e, rfl, he⟩ := RdR.ent hr hh
      exact ⟨e, he, hc⟩)
    exact ⟨A, n, c, es, e1, ⟨h1, ⟨by rw [flat_len _ 2 Ent.cells_len, h1], fun _ => ⟨b, off, eA, by omega, h2⟩⟩, fun e he => (h3 e he).1⟩, e3, by omega, h3⟩
theorem RdR.ops {lo hi : Nat} {w : World} {cs : List Value} {ds : List opSh.D} (h : RdR lo hi w (.sl opSh) cs ds) (hh : hi ≤ w.heap.size) : ∃ A n c es, cs = [.slice A n c] ∧ SlO w A n es ∧ n ≤ c ∧ n ≤ maxLen ∧ ∀ e ∈ es, OpIn w e := by
  obtain ⟨A, n, c, e1, e2, e3, e4, h⟩ := h
  have hlen : List.length (α := opSh.D) ds = n := e2
  rcases Nat.eq_zero_or_pos n with h0 | h0
  · exact ⟨A, n, c, [], e1, ⟨h0.symm, ⟨by simp [h0], fun h => absurd h (by omega)⟩, by simp⟩, e3, by omega, by simp⟩
  · obtain ⟨b, off, eA, _, hb, hall⟩ := h h0
    obtain ⟨es, h1, h2, h3⟩ := build OpE.cells 4 OpE.cells_len (OpIn w) w b off n (fun j hj => by
      have hjl : j < ds.length := by omega
      obtain ⟨cs, _, hc, hr⟩ := hall j (ds[j]'hjl) (List.getElem?_eq_getElem hjl)
      obtain ⟨e, rfl, he⟩ := RdR.ope hr hh
      exact ⟨e, he, hc⟩)
    exact ⟨A, n, c, es, e1, ⟨h1, ⟨by rw [flat_len _ 4 OpE.cells_len, h1], fun _ => ⟨b, off, eA, by omega, h2⟩⟩, fun e he => (h3 e he).1⟩, e3, by omega, h3⟩

/-- What a walk is told of a disk that came in. -/
structure DiskIn (w : World) (room fuse : Int) (A : Option Addr) (n : Nat) (B : Option Addr) (m : Nat) (es : List Ent) (os : List OpE) : Prop where
  room : (Lit.int .i64 room).wf = true
  fuse : (Lit.int .i64 fuse).wf = true
  f : SlF w A n es
  o : SlO w B m os
  fl : n ≤ maxLen
  ol : m ≤ maxLen
  fe : ∀ e ∈ es, EntIn w e
  oe : ∀ e ∈ os, OpIn w e
theorem RdR.disk {lo hi : Nat} {w : World} {cs : List Value} {d : diskSh.D} (h : RdR lo hi w diskSh cs d) (hh : hi ≤ w.heap.size) : ∃ room fuse A n c B m k es os, cs = [.int .i64 room, .int .i64 fuse, .slice A n c, .slice B m k] ∧ DiskIn w room fuse A n B m es os := by
  obtain ⟨c1, c2, e, h1, ⟨hk, hwf⟩, hb⟩ := h
  obtain ⟨c3, c4, e', h2, ⟨hk', hwf'⟩, hb⟩ := hb
  obtain ⟨c5, c6, e'', h3, hf, ho⟩ := hb
  obtain ⟨A, n, c, es, ea, hf, _, hn, he⟩ := hf.files hh
  obtain ⟨B, m, k, os, eb, ho, _, hm, hoo⟩ := ho.ops hh
  exact ⟨d.1, d.2.1, A, n, c, B, m, k, es, os, by rw [e, hk, e', hk', e'', ea, eb]; rfl, ⟨hwf, hwf', hf, ho, hn, hm, he, hoo⟩⟩

section
variable {H : Type} {enc : TypeId × Value → H} {w : World} {base : Nat} {spare : Nat → Bool} {held : Bool}
theorem Try.cellsB : Try.prog.cellsOf 5 = 1 := by kernel_rfl
theorem Try.cellsSB : Try.prog.cellsOf 22 = 1 := by kernel_rfl
theorem Try.cellsI : Try.prog.cellsOf 3 = 1 := by kernel_rfl
theorem Try.cellsS : Try.prog.cellsOf 9 = 1 := by kernel_rfl
theorem Try.cellsOp : Try.prog.cellsOf 43 = 4 := by kernel_rfl
theorem Try.cellsFile : Try.prog.cellsOf 118 = 2 := by kernel_rfl
theorem Try.cellsSFile : Try.prog.cellsOf 49 = 1 := by kernel_rfl
theorem Try.cellsSOp : Try.prog.cellsOf 50 = 1 := by kernel_rfl
theorem Try.cellsDisk : Try.prog.cellsOf 52 = 4 := by kernel_rfl
theorem opensB : Opens enc Try.prog w base spare held 22 byteSh := opens_sl Try.underlying22 Try.cellsB (by decide) (opens_int Try.underlying5)
theorem opensOp : Opens enc Try.prog w base spare held 43 opSh :=
  opens_struct Try.underlying43 Try.cellsOp (opensF_cons rfl Try.cellsI (opens_int Try.underlying3) (opensF_cons rfl Try.cellsS (opens_str Try.underlying9) (opensF_cons rfl Try.cellsS (opens_str Try.underlying9) (opensF_last rfl Try.cellsSB opensB))))
theorem opensFile : Opens enc Try.prog w base spare held 118 fileSh :=
  opens_struct Try.underlying118 Try.cellsFile (opensF_cons rfl Try.cellsS (opens_str Try.underlying9) (opensF_last rfl Try.cellsSB opensB))
theorem opensDisk : Opens enc Try.prog w base spare held 52 diskSh :=
  opens_struct Try.underlying52 Try.cellsDisk (opensF_cons rfl Try.cellsI (opens_int Try.underlying3) (opensF_cons rfl Try.cellsI (opens_int Try.underlying3) (opensF_cons rfl Try.cellsSFile (opens_sl Try.underlying49 Try.cellsFile (by decide) opensFile) (opensF_last rfl Try.cellsSOp (opens_sl Try.underlying50 Try.cellsOp (by decide) opensOp)))))

set_option maxRecDepth 100000 in
/-- An operation that came in; a disk that came in. -/
theorem open_op {r : Reach} {b0 : Nat} {v : Value} {d : DataW H} {p : List MemPlace} (hv : Value.okWide Try.prog w r b0 43 v) (h : DataW.Trod enc Try.prog w base spare held 43 v d p) :
    ∃ e : OpE, v = .agg #[.int .i64 e.kind, .string e.nm, .string e.to, .slice e.d.A e.d.n e.d.c] ∧ OpIn w e := by
  obtain ⟨cs, rfl, _⟩ := Go.WideShapes.okWide_struct Try.underlying43 hv
  obtain ⟨fuel, hf⟩ := h
  obtain ⟨x, hx⟩ := opensOp _ _ _ hf
  obtain ⟨e, he, hi⟩ := hx.ope (Nat.le_refl _)
  refine ⟨e, ?_, hi⟩
  have : cs.toList = e.cells := by simpa [Value.cells] using he
  cases cs
  simp only at this
  rw [this]
  rfl
set_option maxRecDepth 100000 in
theorem open_disk {r : Reach} {b0 : Nat} {v : Value} {d : DataW H} {p : List MemPlace} (hv : Value.okWide Try.prog w r b0 52 v) (h : DataW.Trod enc Try.prog w base spare held 52 v d p) :
    ∃ room fuse A n c B m k es os, v = .agg #[.int .i64 room, .int .i64 fuse, .slice A n c, .slice B m k] ∧ DiskIn w room fuse A n B m es os := by
  obtain ⟨cs, rfl, _⟩ := Go.WideShapes.okWide_struct Try.underlying52 hv
  obtain ⟨fuel, hf⟩ := h
  obtain ⟨x, hx⟩ := opensDisk _ _ _ hf
  obtain ⟨room, fuse, A, n, c, B, m, k, es, os, he, hi⟩ := hx.disk (Nat.le_refl _)
  refine ⟨room, fuse, A, n, c, B, m, k, es, os, ?_, hi⟩
  have : cs.toList = [.int .i64 room, .int .i64 fuse, .slice A n c, .slice B m k] := by simpa [Value.cells] using he
  cases cs
  simp only at this
  rw [this]
end
end Go.Proofs.Ytfcomnpoehpgiaa
