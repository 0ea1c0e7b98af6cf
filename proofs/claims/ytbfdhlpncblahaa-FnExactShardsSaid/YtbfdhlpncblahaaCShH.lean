/- Words for data with depth (plain lemmas over the model; no condition): 'RdR lo hi w s cs d': the cells cs read in w as the datum d of the shape s, and every row that is looked into lies in a block from lo on and below hi; such a reading is kept where these blocks are. // What the opening of an argument that is a graph, or a list of records of three numbers, is told by (no condition). // The contracts of the program's functions that count the edges at the vertices (one loop that takes a function value). // Parted from YtbfdhlpncblahaaGrEq: the contracts of the functions that only their own laws reach. // The opening of an argument that is a graph. // Words for the walks of laws whose function answers numbers: rows of numbers of a call's own, from call to call. // Edges, graphs and numbers: the contracts of the laws' helpers that measure and copy. Condition: at most 2^21 of each. // Slices of numbers as arguments of the laws: the helper that copies one into new memory; the opening of one that came in. Condition: at most 2^21 numbers. // The opening of an argument that is a shard (no condition). // The contracts of the laws' helpers that measure and copy lists of shards; the opening of an argument that is a list of shards. Condition: at most 2^21 of each. -/
import Derived.WalkKit
import Derived.Below
import Derived.Laws.Rows
import Derived.Laws.OwnMore
import Derived.Deep.Draws
import Derived.Lib.Hide
import Derived.ChangeArms
import Derived.DataReads
import Derived.Test.YtbfdhlpncblahaaEdge
import Derived.Test.YtbfdhlpncblahaaDegsB
import Derived.Test.YtbfdhlpncblahaaGrEq
import Derived.Test.YtbfdhlpncblahaaGrB
import Derived.Test.YtbfdhlpncblahaaKE
import Derived.Test.YtbfdhlpncblahaaCShB
namespace Go.Proofs.Ytbfdhlpncblahaa
open Go.RowKit

/-- Shapes of plain data; a struct is a chain of pairs. -/
inductive Sh where
  | int (k : IntKind)
  | bool
  | str
  | sl (e : Sh)
  | pair (a b : Sh)

def Sh.size : Sh → Nat
  | .int _ => 1
  | .bool => 1
  | .str => 1
  | .sl _ => 1
  | .pair a b => a.size + b.size
def Sh.D : Sh → Type
  | .int _ => Int
  | .bool => Bool
  | .str => ByteArray
  | .sl e => List e.D
  | .pair a b => a.D × b.D

/-- The cells from an address on. -/
def CellsAt (w : World) (b off : Nat) (cs : List Value) : Prop := ∀ (i : Nat) (v : Value), cs[i]? = some v → w.cell? ⟨b, off + i, none⟩ = some v
theorem CellsAt.same {w w' : World} {b off : Nat} {cs : List Value} (h : CellsAt w b off cs) (hb : w'.heap[b]? = w.heap[b]?) : CellsAt w' b off cs :=
  fun i v hv => (World.cell?_of_block (a := ⟨b, off + i, none⟩) hb).trans (h i v hv)

def RdR (lo hi : Nat) (w : World) : (s : Sh) → List Value → s.D → Prop
  | .int k, cs, n => cs = [.int k n] ∧ (Lit.int k n).wf = true
  | .bool, cs, b => cs = [.bool b]
  | .str, cs, x => cs = [.string x] ∧ ByteArray.size x ≤ maxLen
  | .sl e, cs, ds => ∃ A n c, cs = [.slice A n c] ∧ List.length ds = n ∧ n ≤ c ∧ c ≤ maxLen ∧ (0 < n → ∃ b off, A = some ⟨b, off, none⟩ ∧ lo ≤ b ∧ b < hi ∧
      ∀ (j : Nat) (d : e.D), (show List e.D from ds)[j]? = some d → ∃ es, es.length = e.size ∧ CellsAt w b (off + j * e.size) es ∧ RdR lo hi w e es d)
  | .pair a b, cs, d => ∃ c1 c2, cs = c1 ++ c2 ∧ c1.length = a.size ∧ RdR lo hi w a c1 d.1 ∧ RdR lo hi w b c2 d.2

theorem RdR.len {lo hi : Nat} {w : World} : ∀ {s : Sh} {cs : List Value} {d : s.D}, RdR lo hi w s cs d → cs.length = s.size
  | .int _, _, _, h => by rw [h.1]; rfl
  | .bool, _, _, h => by rw [show _ = _ from h]; rfl
  | .str, _, _, h => by rw [h.1]; rfl
  | .sl _, _, _, h => by obtain ⟨_, _, _, e, _⟩ := h; rw [e]; rfl
  | .pair _ _, _, _, h => by
    obtain ⟨c1, c2, e, h1, _, h2⟩ := h
    rw [e, List.length_append, h1, RdR.len h2]
    rfl

/-- Where the blocks from lo on and below hi are as they were, the reading is too; and the bounds may be widened. -/
theorem RdR.keep {lo hi lo' hi' : Nat} {w w' : World} (hl : lo' ≤ lo) (hh : hi ≤ hi') (hs : ∀ k, lo ≤ k → k < hi → w'.heap[k]? = w.heap[k]?) :
    ∀ {s : Sh} {cs : List Value} {d : s.D}, RdR lo hi w s cs d → RdR lo' hi' w' s cs d
  | .int _, _, _, h => h
  | .bool, _, _, h => h
  | .str, _, _, h => h
  | .sl e, _, _, h => by
    obtain ⟨A, n, c, e1, e2, e3, e4, h⟩ := h
    refine ⟨A, n, c, e1, e2, e3, e4, fun hn => ?_⟩
    obtain ⟨b, off, eA, hb1, hb2, h⟩ := h hn
    refine ⟨b, off, eA, by omega, by omega, fun j d hd => ?_⟩
    obtain ⟨es, hl2, hc, hr⟩ := h j d hd
    exact ⟨es, hl2, hc.same (hs b hb1 hb2), RdR.keep hl hh hs hr⟩
  | .pair _ _, _, _, h => by
    obtain ⟨c1, c2, e, h1, ha, hb⟩ := h
    exact ⟨c1, c2, e, h1, RdR.keep hl hh hs ha, RdR.keep hl hh hs hb⟩

theorem RdR.below {lo hi B : Nat} {w w' : World} {s : Sh} {cs : List Value} {d : s.D} (h : RdR lo hi w s cs d) (hb : Below B w w') (hB : hi ≤ B) : RdR lo hi w' s cs d :=
  h.keep (Nat.le_refl _) (Nat.le_refl _) (fun k _ hk => hb.block k (by omega))
theorem RdR.drewN {lo hi : Nat} {w : World} {s : Sh} {cs : List Value} {d : s.D} (h : RdR lo hi w s cs d) (k : Nat) : RdR lo hi (w.drewN k) s cs d :=
  RdR.keep (w := w) (w' := w.drewN k) (Nat.le_refl _) (Nat.le_refl _) (fun _ _ _ => rfl) h
theorem RdR.widen {lo hi lo' hi' : Nat} {w : World} {s : Sh} {cs : List Value} {d : s.D} (h : RdR lo hi w s cs d) (hl : lo' ≤ lo) (hh : hi ≤ hi') : RdR lo' hi' w s cs d :=
  h.keep hl hh (fun _ _ _ => rfl)

/-- The element at place j of a slice that reads so. -/
theorem RdR.at_ {lo hi : Nat} {w : World} {e : Sh} {A : Option Addr} {n c j : Nat} {ds : List e.D} (h : RdR lo hi w (.sl e) [.slice A n c] ds) (hj : j < n) :
    ∃ (b off : Nat) (es : List Value) (d : e.D), A = some ⟨b, off, none⟩ ∧ lo ≤ b ∧ b < hi ∧ Hid (ds[j]? = some d) ∧ es.length = e.size ∧ CellsAt w b (off + j * e.size) es ∧ RdR lo hi w e es d := by
  obtain ⟨A', n', c', e1, e2, _, _, h⟩ := h
  simp only [List.cons.injEq, Value.slice.injEq, and_true] at e1
  obtain ⟨rfl, rfl, rfl⟩ := e1
  obtain ⟨b, off, eA, hb1, hb2, h⟩ := h (by omega)
  have hl : j < List.length ds := by omega
  obtain ⟨es, h1, h2, h3⟩ := h j ds[j] (List.getElem?_eq_getElem hl)
  exact ⟨b, off, es, ds[j], eA, hb1, hb2, List.getElem?_eq_getElem hl, h1, h2, h3⟩
theorem add_plain (b off j : Nat) : ((⟨b, off, none⟩ : Addr).add j) = ⟨b, off + j, none⟩ := by unfold Addr.add; split <;> simp_all
theorem add_spot {w : World} {a : Addr} {v : Value} (h : w.cell? (a.add 0) = some v) : a.spot = none := by
  have h1 := World.cell?_spot h
  simpa [Addr.add] using h1

section
variable {H : Type} {enc : TypeId × Value → H} {P : Program} {w : World} {base : Nat} {spare : Nat → Bool} {held : Bool}

/-- Whatever reads at the type t (as the form reads arguments) reads as a datum of the shape s. -/
def Opens (enc : TypeId × Value → H) (P : Program) (w : World) (base : Nat) (spare : Nat → Bool) (held : Bool) (t : TypeId) (s : Sh) : Prop :=
  ∀ (fuel : Nat) (cs : List Value) (x : DataW H × List MemPlace), DataW.trod enc P w base spare held fuel t cs = some x → ∃ d : s.D, RdR 0 w.heap.size w s cs d
theorem opens_int {t : TypeId} {k : IntKind} (ht : P.underlying t = some (.int k)) : Opens enc P w base spare held t (.int k) := fun _ _ _ h => by
  obtain ⟨n, e, _, hw⟩ := DataW.trod_int ht h
  exact ⟨n, e, hw⟩
theorem opens_bool {t : TypeId} (ht : P.underlying t = some .bool) : Opens enc P w base spare held t .bool := fun _ _ _ h => by
  obtain ⟨b, e, _⟩ := DataW.trod_bool ht h
  exact ⟨b, e⟩
theorem opens_str {t : TypeId} (ht : P.underlying t = some .string) : Opens enc P w base spare held t .str := fun _ _ _ h => by
  obtain ⟨x, e, _, hw⟩ := DataW.trod_string ht h
  exact ⟨x, e, hw⟩
theorem opens_sl {t e : TypeId} {s : Sh} (ht : P.underlying t = some (.slice e)) (hc : P.cellsOf e = s.size) (hs : 0 < s.size) (ho : Opens enc P w base spare held e s) : Opens enc P w base spare held t (.sl s) := fun _ _ _ h => by
  rcases DataW.trod_slice ht h with ⟨rfl, _⟩ | ⟨a, len, cap, elems, rest, n, _, rfl, _, _, hl, hmx, hlen, hel, hsp1, hsp2⟩
  · exact ⟨([] : List s.D), none, 0, 0, rfl, rfl, Nat.le_refl _, Nat.zero_le _, fun h0 => absurd h0 (by omega)⟩
  · have each : ∀ i, i < len → ∃ (es : List Value) (d : s.D), es.length = s.size ∧ (∀ j, j < s.size → w.cell? (a.add (i * s.size + j)) = es[j]?) ∧ RdR 0 w.heap.size w s es d := by
      intro i hi
      have h1 := hel i hi
      rw [List.getElem?_eq_getElem (by omega), Option.bind_eq_some_iff] at h1
      obtain ⟨es, hes, htr⟩ := h1
      obtain ⟨_, h2, h3⟩ := World.cells?_some hes
      obtain ⟨d, hd⟩ := ho _ _ _ htr
      refine ⟨es, d, by rw [h2, hc], fun j hj => ?_, hd⟩
      have := h3 j (by rw [hc]; exact hj)
      rw [hc] at this
      rw [← this]
      congr 1
      unfold Addr.add
      by_cases h01 : i * s.size = 0 <;> by_cases h02 : j = 0 <;> simp [h01, h02, Nat.add_assoc]
    have hall : ∃ ds : List s.D, ds.length = len ∧ ∀ (i : Nat) (d : s.D), ds[i]? = some d → ∃ es : List Value, es.length = s.size ∧ (∀ j, j < s.size → w.cell? (a.add (i * s.size + j)) = es[j]?) ∧ RdR 0 w.heap.size w s es d := by
      clear hel h hl hlen hsp1 hsp2
      induction len with
      | zero => exact ⟨[], rfl, fun i d h => by simp at h⟩
      | succ m ih =>
        obtain ⟨ds, hd1, hd2⟩ := ih (fun i hi => each i (by omega))
        obtain ⟨es, d, h1, h2, h3⟩ := each m (by omega)
        refine ⟨ds ++ [d], by simp [hd1], fun i d' hi => ?_⟩
        rcases Nat.lt_trichotomy i m with hlt | heq | hgt
        · rw [List.getElem?_append_left (by omega)] at hi
          exact hd2 i d' hi
        · subst heq
          rw [List.getElem?_append_right (by omega), hd1, Nat.sub_self] at hi
          simp at hi
          subst hi
          exact ⟨es, h1, h2, h3⟩
        · rw [List.getElem?_eq_none (by simp; omega)] at hi
          cases hi
    obtain ⟨ds, hd1, hd2⟩ := hall
    refine ⟨ds, some a, len, cap, rfl, hd1, hl, hmx, fun h0 => ?_⟩
    obtain ⟨es0, d0, h1, h2, _⟩ := each 0 h0
    have hc0 : w.cell? (a.add 0) = some es0[0] := by
      have := h2 0 hs
      rw [Nat.zero_mul, Nat.add_zero] at this
      rw [this, List.getElem?_eq_getElem (by omega)]
    have hsp := add_spot hc0
    obtain ⟨b, off, sp⟩ := a
    simp only at hsp
    subst hsp
    have hlt : b < w.heap.size := by
      rw [add_plain] at hc0
      exact World.block_lt_of_cell? w _ hc0
    refine ⟨b, off, rfl, Nat.zero_le _, hlt, fun j d hj => ?_⟩
    obtain ⟨es, h3, h4, h5⟩ := hd2 j d hj
    refine ⟨es, h3, fun i v hv => ?_, h5⟩
    have hi : i < s.size := by have := (List.getElem?_eq_some_iff.1 hv).1; omega
    have := h4 i hi
    rw [add_plain, ← Nat.add_assoc] at this
    rw [this, hv]

/-- The fields of a struct from one on. -/
def OpensF (enc : TypeId × Value → H) (P : Program) (w : World) (base : Nat) (spare : Nat → Bool) (held : Bool) (fs : List Field) (off : Nat) (s : Sh) : Prop :=
  ∀ cs : List Value, (∀ f ∈ fs, ∃ (n : Nat) (y : DataW H × List MemPlace), DataW.trod enc P w base spare held n f.type ((cs.drop f.offset).take (P.cellsOf f.type)) = some y) → cs.length = off + s.size → ∃ d : s.D, RdR 0 w.heap.size w s (cs.drop off) d
theorem opensF_last {f : Field} {off : Nat} {s : Sh} (h1 : f.offset = off) (hc : P.cellsOf f.type = s.size) (ho : Opens enc P w base spare held f.type s) : OpensF enc P w base spare held [f] off s := fun cs hf hl => by
  obtain ⟨n, y, h⟩ := hf f (by simp)
  obtain ⟨d, hd⟩ := ho _ _ _ h
  rw [h1, hc, List.take_of_length_le (by rw [List.length_drop]; omega)] at hd
  exact ⟨d, hd⟩
theorem opensF_cons {f : Field} {fs : List Field} {off : Nat} {a b : Sh} (h1 : f.offset = off) (hc : P.cellsOf f.type = a.size) (ho : Opens enc P w base spare held f.type a) (hr : OpensF enc P w base spare held fs (off + a.size) b) :
    OpensF enc P w base spare held (f :: fs) off (.pair a b) := fun cs hf hl => by
  obtain ⟨n, y, h⟩ := hf f (by simp)
  obtain ⟨d, hd⟩ := ho _ _ _ h
  rw [h1, hc] at hd
  have hsz : (Sh.pair a b).size = a.size + b.size := rfl
  obtain ⟨d2, hd2⟩ := hr cs (fun g hg => hf g (by simp [hg])) (by rw [hl, hsz]; omega)
  refine ⟨(d, d2), _, _, ?_, hd.len, hd, hd2⟩
  rw [← List.drop_drop]
  exact (List.take_append_drop _ _).symm
theorem opens_struct {t : TypeId} {fs : Array Field} {s : Sh} (ht : P.underlying t = some (.struct fs)) (hc : P.cellsOf t = s.size) (hf : OpensF enc P w base spare held fs.toList 0 s) : Opens enc P w base spare held t s := fun _ cs _ h => by
  obtain ⟨xs, n, _, _, hl, hlen, hall⟩ := DataW.trod_struct ht h
  obtain ⟨d, hd⟩ := hf cs (fun f hfm => by
    obtain ⟨i, hi, he⟩ := List.getElem_of_mem hfm
    have hi2 : i < fs.size := by simpa using hi
    have h1 := hall i f (by rw [← he]; simp [hi2])
    rw [List.getElem?_eq_getElem (by omega)] at h1
    exact ⟨n, _, h1⟩) (by rw [hl, hc]; omega)
  exact ⟨d, by simpa using hd⟩
end
end Go.Proofs.Ytbfdhlpncblahaa
namespace Go.Proofs.Ytbfdhlpncblahaa
open Go.RowKit

def edgeSh : Sh := .pair (.int .i64) (.pair (.int .i64) (.int .i64))
def grSh : Sh := .pair (.int .i64) (.sl edgeSh)
theorem g_build {α : Type} (f : α → List Value) (k : Nat) (hf : ∀ a, (f a).length = k) (Q : α → Prop) (w : World) (b off : Nat) : ∀ (n : Nat), (∀ j, j < n → ∃ a, Q a ∧ ∀ (i : Nat) (v : Value), (f a)[i]? = some v → w.cell? ⟨b, off + j * k + i, none⟩ = some v) →
    ∃ es : List α, es.length = n ∧ (∀ (j : Nat) (v : Value), (es.flatMap f)[j]? = some v → w.cell? ⟨b, off + j, none⟩ = some v) ∧ ∀ a ∈ es, Q a
  | 0, _ => ⟨[], rfl, fun j v hv => by simp at hv, by simp⟩
  | m + 1, h => by
    obtain ⟨es, h1, h2, h3⟩ := g_build f k hf Q w b off m (fun j hj => h j (by omega))
    obtain ⟨a, ha, hc⟩ := h m (by omega)
    refine ⟨es ++ [a], by simp [h1], fun j v hv => ?_, fun x hx => ?_⟩
    · have hl : (es.flatMap f).length = m * k := by rw [flat_len f k hf, h1]
      rw [flat_snoc] at hv
      rcases Nat.lt_or_ge j (m * k) with hj | hj
      · rw [List.getElem?_append_left (by omega)] at hv
        exact h2 j v hv
      · rw [List.getElem?_append_right (by omega), hl] at hv
        have := hc (j - m * k) v hv
        rw [show off + m * k + (j - m * k) = off + j by omega] at this
        exact this
    · rcases List.mem_append.1 hx with hx | hx
      · exact h3 x hx
      · simp at hx
        subst hx
        exact ha

def EdgeIn (e : GE) : Prop := (Lit.int .i64 e.f).wf = true ∧ (Lit.int .i64 e.t).wf = true ∧ (Lit.int .i64 e.w).wf = true
theorem RdR.edge {lo hi : Nat} {w : World} {cs : List Value} {d : edgeSh.D} (h : RdR lo hi w edgeSh cs d) : ∃ e : GE, cs = e.cells ∧ EdgeIn e := by
  obtain ⟨c1, c2, e, h1, ⟨hk, hwf⟩, hb⟩ := h
  obtain ⟨c3, c4, e', h2, ⟨hk', hwf'⟩, hc, hwf''⟩ := hb
  exact ⟨⟨d.1, d.2.1, d.2.2⟩, by rw [e, hk, e', hk', hc]; rfl, hwf, hwf', hwf''⟩
/-- What a walk is told of a graph that came in. -/
structure GrIn (w : World) (N : Int) (A : Option Addr) (n : Nat) (es : List GE) : Prop where
  N : (Lit.int .i64 N).wf = true
  g : SlG w A n es
  l : n ≤ maxLen
  e : ∀ e ∈ es, EdgeIn e
theorem RdR.edges {lo hi : Nat} {w : World} {cs : List Value} {ds : List edgeSh.D} (h : RdR lo hi w (.sl edgeSh) cs ds) (hh : hi ≤ w.heap.size) : ∃ A n c es, cs = [.slice A n c] ∧ SlG w A n es ∧ n ≤ c ∧ n ≤ maxLen ∧ ∀ e ∈ es, EdgeIn e := by
  obtain ⟨A, n, c, e1, e2, e3, e4, h⟩ := h
  rcases Nat.eq_zero_or_pos n with h0 | h0
  · subst h0
    exact ⟨A, 0, c, [], e1, SlG.nil, e3, by omega, by simp⟩
  · obtain ⟨b, off, eA, _, hb, hall⟩ := h h0
    obtain ⟨es, h1, h2, h3⟩ := g_build GE.cells 3 GE.cells_len EdgeIn w b off n (fun j hj => by
      have hjl : j < ds.length := by omega
      obtain ⟨cs, _, hc, hr⟩ := hall j (ds[j]'hjl) (List.getElem?_eq_getElem hjl)
      obtain ⟨e, rfl, he⟩ := RdR.edge hr
      exact ⟨e, he, hc⟩)
    exact ⟨A, n, c, es, e1, ⟨h1, ⟨by rw [flat_len _ 3 GE.cells_len, h1], fun _ => ⟨b, off, eA, by omega, h2⟩⟩⟩, e3, by omega, h3⟩
theorem RdR.graph {lo hi : Nat} {w : World} {cs : List Value} {d : grSh.D} (h : RdR lo hi w grSh cs d) (hh : hi ≤ w.heap.size) : ∃ N A n c es, cs = [.int .i64 N, .slice A n c] ∧ GrIn w N A n es := by
  obtain ⟨c1, c2, e, h1, ⟨hk, hwf⟩, hb⟩ := h
  obtain ⟨A, n, c, es, ea, hg, _, hl, he⟩ := RdR.edges hb hh
  exact ⟨d.1, A, n, c, es, by rw [e, hk, ea]; rfl, ⟨hwf, hg, hl, he⟩⟩

end Go.Proofs.Ytbfdhlpncblahaa
namespace Go.Proofs.Ytbfdhlpncblahaa
open Go.RowKit

theorem endTo (e : GE) (w : World) : Calls Try.prog 105 #[.agg #[.int .i64 e.f, .int .i64 e.t, .int .i64 e.w]] w (GNum w e.t) := by
  go_enter Try.func105, Try.ntmps105
  go_wp2
  go_ret
  exact ⟨rfl, below_a1 _ _⟩

set_option maxRecDepth 10000 in
set_option maxHeartbeats 4000000 in
theorem degsIn (N : Int) (A : Option Addr) (n c : Nat) (es : List GE) (w : World) (hr : SlG w A n es) (hn : n ≤ 1048576) :
    Calls Try.prog 104 #[.agg #[.int .i64 N, .slice A n c], .func (.func 105) #[] #[]] w (MadeI w (degsOf GE.t N es)) := by
  obtain ⟨i0, hi, hz0, hz1, hz2⟩ := info_parts Try.infoInt
  have HEL := Lib.hid hr.len
  have HR := Lib.hid hr
  have CG := Lib.hid (fun W (h : Below w.heap.size w W) => implGraphOk N A n c es W (hr.below h) hn)
  have CE := Lib.hid (fun e W => endTo e W)
  clear hr
  go_enter Try.func104, Try.ntmps104
  go_wp2_with fail
  refine (CG.out _ (below_a1 _ _)).mono ?_
  rintro e w1 ⟨rfl, hb1⟩
  have X1 := Lib.hid ((NBox.new w N A n c 42).below hb1)
  have HB1 := Lib.hid (g_chain (below_a1 w (.cells #[.int .i64 N, .slice A n c] 42)) hb1)
  clear hb1
  obtain ⟨l0, x0, x1⟩ := X1.out
  cases hv : graphB N es with
  | false =>
    have HD : Hid (degsOf GE.t N es = []) := Lib.hid (by unfold degsOf; rw [hv]; rfl)
    go_wp2
    go_ret
    rw [HD.out]
    exact ⟨none, 0, 0, rfl, World.ownsRow_nil _ _ _ _, HB1.out⟩
  | true =>
    have HD : Hid (degsOf GE.t N es = degs GE.t N.toNat es) := Lib.hid (by unfold degsOf; rw [hv]; rfl)
    obtain ⟨h1, h2, h3, h4⟩ := graphB_iff hv
    have H4 := Lib.hid h4
    rw [HEL.out] at h3
    clear hv h4
    obtain ⟨M, rfl⟩ : ∃ M : Nat, N = (M : Int) := ⟨N.toNat, by omega⟩
    rw [Int.toNat_natCast] at HD
    go_wp2_with (refine wpList_make_full _ rfl (.tmp 12) (.tmp 12) 36 rfl w1.heap.size 3 i0 (.int .i64 0) 1 Try.underlying36 hi hz0 hz1 .i64 .i64 _ _ M rfl rfl rfl rfl (by rw [hz2]; omega) (by unfold maxLen; omega) (Nat.le_refl _) ?_; intro w2 hown hg; have hb2 : Below w1.heap.size w1 w2 := (Below.refl _ _).grown hg (Nat.le_refl _) (by simp); have X2 := Lib.hid (X1.out.below hb2); have HB2 := Lib.hid (g_chain HB1.out hb2); rw [made_zero M GE.t es] at hown; have HO2 := Lib.hid hown; clear hown hg hb2 l0 x0 x1; obtain ⟨l0, x0, x1⟩ := X2.out)
    have hg1 : w.heap.size < w1.heap.size := X1.out.lt
    go_loopw [17] (fun i wr => ∃ k : Nat, k ≤ n ∧ i = .int .i64 k ∧ Hid (NBox wr w.heap.size M A n c) ∧ Hid (Below w.heap.size w wr) ∧ Hid (wr.ownsRow w1.heap.size 3 1 (.slice (some ⟨w1.heap.size, 0, none⟩) M M) M (vi (degs GE.t M (es.take k))))) (fun i _ => n - (intOf i).toNat)
    case atStart => exact ⟨0, Nat.zero_le _, rfl, X2, HB2, HO2⟩
    case round =>
      clear X2 HB2 HO2 l0 x0 x1
      obtain ⟨k, hk, rfl, hx, hbel, hown⟩ := hrel
      by_cases hlt : k < n
      · obtain ⟨b, off, e, rfl, hbw, he, c0, c1, c2⟩ := HR.out.at_ hlt
        have c0 := (hbel.out.cell (p := ⟨b, off + k * 3, none⟩) hbw).trans c0
        have c1 := (hbel.out.cell (p := ⟨b, off + k * 3 + 1, none⟩) hbw).trans c1
        have c2 := (hbel.out.cell (p := ⟨b, off + k * 3 + 2, none⟩) hbw).trans c2
        have hh := edgeB_iff (H4.out e (List.mem_of_getElem? he.out))
        obtain ⟨f, hf⟩ : ∃ f : Nat, e.t = (f : Int) := ⟨Int.toNat e.t, by omega⟩
        have hfM : f < M := by omega
        obtain ⟨x, hx1, hx2, hx3⟩ := degs_at (key := GE.t) (es := es.take k) hfM
        have hx4 : x ≤ 400 := by have := List.length_take_le k es; rw [HEL.out] at *; omega
        have HST := Lib.hid (degs_step (key := GE.t) (M := M) he.out (f := f) hf hx1)
        have HX1 := Lib.hid hx1
        have HA1 := Lib.hid (below_a1 wr (.cells #[.int .i64 e.f, .int .i64 e.t, .int .i64 e.w] 91))
        have HF := Lib.hid hf
        obtain ⟨l0, x0, x1⟩ := hx.out
        clear hx1 hx3 hf hh
        go_wp2_with (go_at_call 105; refine (CE.out e _).mono ?_; rintro e1 w3 ⟨rfl, hb3⟩; rw [HF.out]; have HB3 := Lib.hid (g_chain HA1.out hb3); have HOW := Lib.hid (own_below hown.out HB3.out); have hc0 : w3.cell? ⟨w1.heap.size, f, none⟩ = some (.int .i64 x) := (HOW.out.cellAt f (by omega)).trans (by rw [vi_get, HX1.out]; first | done | rfl); have hf0 := HOW.out.frozenAt f; have HS := Lib.hid (HOW.out.stored f (.int .i64 (x + 1))); rw [← HST.out] at HS; clear l0 x0 x1 c0 c1 c2)
        go_roundw
        case rel =>
          refine ⟨k + 1, by omega, by go_num, Lib.hid ?_, Lib.hid ?_, Lib.hid ?_⟩
          · exact (hx.out.below HB3.out).keep (by simp) (Below.heap_setCell w3 ⟨w1.heap.size, f, none⟩ (.int .i64 (x + 1)) w.heap.size (by show w.heap.size ≠ w1.heap.size; omega))
          · exact (g_chain hbel.out HB3.out).setCell (p := ⟨w1.heap.size, f, none⟩) (by show w.heap.size ≤ w1.heap.size; omega) _
          · exact HS.out.1
        case measure => simp [intOf]; omega
      · obtain rfl : k = n := by omega
        obtain ⟨l0, x0, x1⟩ := hx.out
        go_wp2
        go_ret
        rw [HD.out]
        have h := hown.out
        rw [List.take_of_length_le (by rw [HEL.out]; exact Nat.le_refl _)] at h
        exact ⟨_, _, _, rfl, own_monoG h (by omega), hbel.out⟩
theorem implIn (N : Int) (A : Option Addr) (n c : Nat) (es : List GE) (w : World) (hr : SlG w A n es) (hn : n ≤ 1048576) :
    Calls Try.prog 85 #[.agg #[.int .i64 N, .slice A n c]] w (MadeI w (degsOf GE.t N es)) := by
  have C := Lib.hid (fun W (h : Below w.heap.size w W) => degsIn N A n c es W (hr.below h) hn)
  clear hr
  go_enter Try.func85, Try.ntmps85
  go_wp2_with fail
  refine (C.out _ (below_a1 _ _)).mono ?_
  rintro e w1 ⟨A1, n1, c1, rfl, ho1, hb1⟩
  have HO := Lib.hid ho1
  have HB := Lib.hid hb1
  clear ho1 hb1
  go_wp2
  go_ret
  exact ⟨A1, n1, c1, rfl, own_monoG HO.out (by simp), g_chain (below_a1 _ _) HB.out⟩
end Go.Proofs.Ytbfdhlpncblahaa
namespace Go.Proofs.Ytbfdhlpncblahaa
open Go.RowKit

set_option maxRecDepth 10000 in
set_option maxHeartbeats 1000000 in
theorem eqInts_any (A B : Option Addr) (n c d : Nat) (xs : List Int) (w : World) (ha : SlI w A n xs) (hb : SlI w B n xs) (hn : n ≤ 2097152) :
    Calls Try.prog 23 #[.slice A n c, .slice B n d] w (GTell w true) := by
  have HA := Lib.hid ha
  have HB := Lib.hid hb
  clear ha hb
  go_enter Try.func23, Try.ntmps23
  go_wp2
  go_loopw [5] (fun i wr => ∃ k : Nat, k ≤ n ∧ i = .int .i64 k ∧ Hid (Below w.heap.size w wr)) (fun i _ => n - (intOf i).toNat)
  case atStart => exact ⟨0, Nat.zero_le _, rfl, Lib.hid (Below.refl _ _)⟩
  case round =>
    obtain ⟨k, hk, rfl, hbel⟩ := hrel
    by_cases hlt : k < n
    · obtain ⟨b, off, e, rfl, hbw, he, c0⟩ := HA.out.at_ hlt
      obtain ⟨b', off', e', rfl, hbw', he', c0'⟩ := HB.out.at_ hlt
      have hee : e' = e := by have h1 := he.out; rw [he'.out] at h1; injection h1
      subst hee
      have c0 := (hbel.out.cell (p := ⟨b, off + k, none⟩) hbw).trans c0
      have c0' := (hbel.out.cell (p := ⟨b', off' + k, none⟩) hbw').trans c0'
      clear he he'
      go_wp2
      go_region
      go_wp2
      go_roundw
      case rel => exact ⟨k + 1, by omega, by go_num, Lib.hid (by first | exact hbel.out | exact hbel.out.drew | exact hbel.out.drew.drew)⟩
      case measure => simp [intOf]; omega
    · go_wp2
      go_ret
      exact ⟨rfl, hbel.out⟩

set_option maxRecDepth 10000 in
set_option maxHeartbeats 1000000 in
theorem markInts_any (A : Option Addr) (n c lo k : Nat) (xs : List Int) (w : World) (ho : w.ownsRow lo 3 1 (.slice A n c) n (vi xs)) (hn : n ≤ 2097152) (hk : k ≤ 8388608) :
    Calls Try.prog 25 #[.slice A n c, .int .i64 (k : Int)] w (MarkedI w lo k A n c) := by
  have hl : xs.length = n := by have := ho.1; rw [vi_len] at this; omega
  have HL := Lib.hid hl
  rcases Nat.eq_zero_or_pos n with rfl | hpos
  · obtain rfl : xs = [] := List.eq_nil_of_length_eq_zero hl
    have HO := Lib.hid ho
    clear ho hl
    go_enter Try.func25, Try.ntmps25
    go_wp2
    go_loopw [1, 5] (fun q i wr => i = .int .i64 0 ∧ q = .int .i64 (k : Int) ∧ wr = w) (fun _ _ _ => 0)
    case atStart => exact ⟨rfl, rfl, rfl⟩
    case round =>
      obtain ⟨rfl, rfl, rfl⟩ := hrel
      go_wp2
      go_ret
      exact ⟨rfl, HO.out, World.grownBy.refl _ _⟩
  · obtain ⟨g, rfl⟩ := g_own_at ho hpos
    have HO : Hid (w.ownsRow lo 3 1 (.slice (some ⟨g, 0, none⟩) n c) n (vi (markI k xs 0))) := Lib.hid (by rw [markI_zero]; exact ho)
    clear ho hl
    go_enter Try.func25, Try.ntmps25
    go_wp2
    go_loopw [1, 5] (fun q i wr => ∃ j : Nat, j ≤ n ∧ i = .int .i64 j ∧ q = .int .i64 ((k + j : Nat) : Int) ∧ Hid (wr.ownsRow lo 3 1 (.slice (some ⟨g, 0, none⟩) n c) n (vi (markI k xs j))) ∧ Hid (w.grownBy wr (some g))) (fun _ i _ => n - (intOf i).toNat)
    case atStart => exact ⟨0, Nat.zero_le _, rfl, rfl, HO, Lib.hid (World.grownBy.refl _ _)⟩
    case round =>
      clear HO
      obtain ⟨j, hj, rfl, rfl, hown, hgr⟩ := hrel
      by_cases hlt : j < n
      · have hc := hown.out.cellAt j (by omega)
        have hx : (vi (markI k xs j))[j]? = some (.int .i64 (xs[j]'(by rw [HL.out]; exact hlt))) := by
          rw [vi_get]
          unfold markI
          rw [List.getElem?_append_right (by rw [ints_len]; exact Nat.le_refl _), ints_len, Nat.sub_self, List.getElem?_drop, Nat.add_zero, List.getElem?_eq_getElem]
          rfl
        have hc0 := hc.trans hx
        have hf0 := hown.out.frozenAt j
        have HS := Lib.hid (hown.out.stored j (.int .i64 ((k + j : Nat) : Int)))
        rw [markI_step k xs j (by rw [HL.out]; exact hlt)] at HS
        clear hc hx hown
        go_wp2
        go_roundw
        case rel => exact ⟨j + 1, by omega, by go_num, by go_num, Lib.hid HS.out.1, Lib.hid (hgr.out.trans HS.out.2)⟩
        case measure => simp [intOf]; omega
      · obtain rfl : j = n := by omega
        go_wp2
        go_ret
        refine ⟨rfl, ?_, hgr.out⟩
        have h := hown.out
        rw [show markI k xs j = ints k j by rw [← HL.out, markI_full]] at h
        exact h

set_option maxRecDepth 10000 in
set_option maxHeartbeats 1000000 in
theorem heldInts_any (A : Option Addr) (n c k : Nat) (w : World) (hr : SlI w A n (ints k n)) (hn : n ≤ 2097152) (hk : k ≤ 8388608) :
    Calls Try.prog 49 #[.slice A n c, .int .i64 (k : Int)] w fun e w' => e = .returned (.int .i64 ((k + n : Nat) : Int)) ∧ w = w' := by
  have HR := Lib.hid hr
  clear hr
  go_enter Try.func49, Try.ntmps49
  go_wp2
  go_loopw [1, 5] (fun q i wr => ∃ j : Nat, j ≤ n ∧ i = .int .i64 j ∧ q = .int .i64 ((k + j : Nat) : Int) ∧ wr = w) (fun _ i _ => n - (intOf i).toNat)
  case atStart => exact ⟨0, Nat.zero_le _, rfl, by rfl, by first | rfl | trivial⟩
  case round =>
    obtain ⟨j, hj, rfl, rfl, rfl⟩ := hrel
    by_cases hlt : j < n
    · obtain ⟨b, off, e, rfl, hbw, he, c0⟩ := HR.out.at_ hlt
      obtain rfl : e = ((k + j : Nat) : Int) := by have h1 := he.out; rw [ints_get k n j hlt] at h1; injection h1 with h1; exact h1.symm
      go_wp2
      go_roundw
      case rel => exact ⟨j + 1, by omega, by go_num, by go_num, by first | rfl | trivial⟩
      case measure => simp [intOf]; omega
    · obtain rfl : j = n := by omega
      go_wp2
      go_ret
      exact ⟨rfl, rfl⟩

end Go.Proofs.Ytbfdhlpncblahaa
namespace Go.Proofs.Ytbfdhlpncblahaa
open Go.RowKit

section
variable {H : Type} {enc : TypeId × Value → H} {w : World} {base : Nat} {spare : Nat → Bool} {held : Bool}
theorem Try.cellsGi : Try.prog.cellsOf 3 = 1 := by kernel_rfl
theorem Try.cellsEd : Try.prog.cellsOf 125 = 3 := by kernel_rfl
theorem Try.cellsSEd : Try.prog.cellsOf 33 = 1 := by kernel_rfl
theorem Try.cellsGr : Try.prog.cellsOf 35 = 2 := by kernel_rfl
theorem opensEdge : Opens enc Try.prog w base spare held 125 edgeSh :=
  opens_struct Try.underlying125 Try.cellsEd (opensF_cons rfl Try.cellsGi (opens_int Try.underlying3) (opensF_cons rfl Try.cellsGi (opens_int Try.underlying3) (opensF_last rfl Try.cellsGi (opens_int Try.underlying3))))
theorem opensGraph : Opens enc Try.prog w base spare held 35 grSh :=
  opens_struct Try.underlying35 Try.cellsGr (opensF_cons rfl Try.cellsGi (opens_int Try.underlying3) (opensF_last rfl Try.cellsSEd (opens_sl Try.underlying33 Try.cellsEd (by decide) opensEdge)))

set_option maxRecDepth 100000 in
theorem open_graph {r : Reach} {b0 : Nat} {v : Value} {d : DataW H} {p : List MemPlace} (hv : Value.okWide Try.prog w r b0 35 v) (h : DataW.Trod enc Try.prog w base spare held 35 v d p) :
    ∃ N A n c es, v = .agg #[.int .i64 N, .slice A n c] ∧ GrIn w N A n es := by
  obtain ⟨cs, rfl, _⟩ := Go.WideShapes.okWide_struct Try.underlying35 hv
  obtain ⟨fuel, hf⟩ := h
  obtain ⟨x, hx⟩ := opensGraph _ _ _ hf
  obtain ⟨N, A, n, c, es, he, hi⟩ := hx.graph (Nat.le_refl _)
  refine ⟨N, A, n, c, es, ?_, hi⟩
  have : cs.toList = [.int .i64 N, .slice A n c] := by simpa [Value.cells] using he
  cases cs
  simp only at this
  rw [this]
end
end Go.Proofs.Ytbfdhlpncblahaa
namespace Go.Proofs.Ytbfdhlpncblahaa
open Go.RowKit

section
variable {w w' : World} {lo n c : Nat} {A : Option Addr} {xs : List Int}
theorem OwI.cnt (h : OwI w lo A n c xs) : n = xs.length := by have := h.1; rw [vi_len] at this; omega
theorem OwI.below (h : OwI w lo A n c xs) (hb : Below w.heap.size w w') : OwI w' lo A n c xs := own_below h hb
theorem OwI.rd (h : OwI w lo A n c xs) : SlI w A n xs := SlI.of_own h
end
theorem degsOf_len (key : GE → Int) (N : Int) (es : List GE) : (degsOf key N es).length ≤ 150 := by
  unfold degsOf
  split
  · rename_i h
    have := graphB_iff h
    rw [degs_len]
    omega
  · simp
/-- The law's own graph: its box and its edges. -/
structure XBox (w : World) (lo b : Nat) (N : Int) (A : Option Addr) (n c : Nat) (es : List GE) : Prop where
  box : NBox w b N A n c
  own : w.ownsRow lo 91 3 (.slice A n c) n (es.flatMap GE.cells)
theorem XBox.below {w w' : World} {lo b n c : Nat} {N : Int} {A : Option Addr} {es : List GE} (h : XBox w lo b N A n c es) (hb : Below w.heap.size w w') : XBox w' lo b N A n c es := ⟨h.box.below hb, own_below h.own hb⟩
end Go.Proofs.Ytbfdhlpncblahaa
namespace Go.Proofs.Ytbfdhlpncblahaa
open Go.RowKit

theorem szEdges_any (A : Option Addr) (n c : Nat) (left : Int) (w : World) (hn : n ≤ maxLen) (h0 : 0 ≤ left) (h1 : left ≤ 1048576) :
    Calls Try.prog 59 #[.slice A n c, .int .i64 left] w fun e w' => e = .returned (.int .i64 (leftG left n)) ∧ w = w' := by
  unfold maxLen at hn
  by_cases h : (n : Int) ≤ left
  · have HV := Lib.hid (leftG_pos h)
    have h2 : 0 ≤ left - (n : Int) := by omega
    go_enter Try.func59, Try.ntmps59
    go_wp2
    go_ret
    exact ⟨g_int HV.out.symm, rfl⟩
  · have HV := Lib.hid (leftG_neg (n := n) (left := left) (by omega))
    have h2 : left - (n : Int) < 0 := by omega
    go_enter Try.func59, Try.ntmps59
    go_wp2
    go_ret
    exact ⟨g_int HV.out.symm, rfl⟩
theorem szGraph_any (N : Int) (A : Option Addr) (n c : Nat) (left : Int) (w : World) (hn : n ≤ maxLen) (h0 : 0 ≤ left) (h1 : left ≤ 1048576) :
    Calls Try.prog 16 #[.agg #[.int .i64 N, .slice A n c], .int .i64 left] w (GNum w (leftG left n)) := by
  have C := Lib.hid (fun w => szEdges_any A n c left w hn h0 h1)
  by_cases h : (n : Int) ≤ left
  · have h2 : 0 ≤ left - (n : Int) := by omega
    have e1 := leftG_pos h
    rw [e1] at C ⊢
    generalize left - (n : Int) = q at C h2 ⊢
    clear e1 h
    go_enter Try.func16, Try.ntmps16
    go_wp2_with fail
    refine (C.out _).mono ?_
    rintro e w1 ⟨rfl, rfl⟩
    go_wp2
    go_ret
    exact ⟨rfl, below_a1 _ _⟩
  · have e1 := leftG_neg (n := n) (left := left) (by omega)
    rw [e1] at C ⊢
    clear e1 h
    go_enter Try.func16, Try.ntmps16
    go_wp2_with fail
    refine (C.out _).mono ?_
    rintro e w1 ⟨rfl, rfl⟩
    go_wp2
    go_ret
    exact ⟨rfl, below_a1 _ _⟩

theorem toEdge_any (e : GE) (w : World) :
    Calls Try.prog 91 #[.agg #[.int .i64 e.f, .int .i64 e.t, .int .i64 e.w]] w fun r w' => r = .returned (.agg #[.int .i64 e.f, .int .i64 e.t, .int .i64 e.w]) ∧ Below w.heap.size w w' := by
  go_enter Try.func91, Try.ntmps91
  go_wp2
  refine bodyPost_ret (v := .agg #[.int .i64 e.f, .int .i64 e.t, .int .i64 e.w]) (by simp [results, Try.results91, go_sem]) rfl ⟨rfl, ?_⟩
  repeat (first | exact below_a3 _ _ _ _ | refine Below.setCell ?_ (by simp <;> omega) _)

set_option maxRecDepth 10000 in
set_option maxHeartbeats 1000000 in
theorem toEdges_any (A : Option Addr) (n c : Nat) (es : List GE) (w : World) (hr : SlG w A n es) (hn : n ≤ 2097152) :
    Calls Try.prog 63 #[.slice A n c] w (MadeG w es) := by
  obtain ⟨i0, hi, hz0, hz1, hz2⟩ := info_parts Try.infoEdge
  have HR := Lib.hid hr
  clear hr
  go_enter Try.func63, Try.ntmps63
  go_wp2_with (refine wpList_make_full _ rfl (.tmp 6) (.tmp 6) 40 rfl w.heap.size 91 i0 (.agg #[.int .i64 0, .int .i64 0, .int .i64 0]) 3 Try.underlying40 hi hz0 hz1 .i64 .i64 _ _ n rfl rfl rfl rfl (by rw [hz2]; omega) (by unfold maxLen; omega) (Nat.le_refl _) ?_; intro w1 hown hg)
  have hb1 : Below w.heap.size w w1 := (Below.refl _ _).grown hg (Nat.le_refl _) (by simp)
  have hown1 : w1.ownsRow w.heap.size 91 3 (.slice (some ⟨w.heap.size, 0, none⟩) n n) n ((es.take 0 ++ List.replicate (n - 0) zeroG).flatMap GE.cells) := by
    have h := hown
    rw [g_rep GE.cells zeroG 3 GE.cells_len (by omega) (Value.agg #[.int .i64 0, .int .i64 0, .int .i64 0]).cells rfl n] at h
    simpa using h
  clear hown hg
  have HO1 := Lib.hid hown1
  have HB1 := Lib.hid hb1
  clear hown1 hb1
  go_loopw [4] (fun i wr => ∃ k : Nat, k ≤ n ∧ i = .int .i64 k ∧ Hid (wr.ownsRow w.heap.size 91 3 (.slice (some ⟨w.heap.size, 0, none⟩) n n) n ((es.take k ++ List.replicate (n - k) zeroG).flatMap GE.cells)) ∧ Hid (Below w.heap.size w wr)) (fun i _ => n - (intOf i).toNat)
  case atStart => exact ⟨0, Nat.zero_le _, rfl, HO1, HB1⟩
  case round =>
    clear HO1 HB1
    obtain ⟨k, hk, rfl, hown, hbel⟩ := hrel
    by_cases hlt : k < n
    · obtain ⟨b, off, e, rfl, hbw, he, c0, c1, c2⟩ := HR.out.at_ hlt
      have c0 := (hbel.out.cell (p := ⟨b, off + k * 3, none⟩) hbw).trans c0
      have c1 := (hbel.out.cell (p := ⟨b, off + k * 3 + 1, none⟩) hbw).trans c1
      have c2 := (hbel.out.cell (p := ⟨b, off + k * 3 + 2, none⟩) hbw).trans c2
      have HC := Lib.hid (toEdge_any e wr)
      have hmk : (es.take k).length = k := by rw [List.length_take, HR.out.len]; omega
      go_wp2_with fail
      refine HC.out.mono ?_
      rintro e1 w2 ⟨rfl, hb2⟩
      have HB2 := Lib.hid hb2
      have hown2 := own_below hown.out hb2
      rw [rep_succ n k hlt] at hown2
      have hq := fun i (hi : i < 3) => (hown2.cellAt (k * 3 + i) (by omega)).trans (flat_get GE.cells 3 GE.cells_len _ k i zeroG (g_get _ _ _ _ hmk) hi)
      have hc0 : w2.cell? ⟨w.heap.size, k * 3, none⟩ = some (.int .i64 0) := hq 0 (by omega)
      have hc1 : w2.cell? ⟨w.heap.size, k * 3 + 1, none⟩ = some (.int .i64 0) := hq 1 (by omega)
      have hc2 : w2.cell? ⟨w.heap.size, k * 3 + 2, none⟩ = some (.int .i64 0) := hq 2 (by omega)
      have hf0 := hown2.frozenAt (k * 3)
      have hf1 := hown2.frozenAt (k * 3 + 1)
      have hf2 := hown2.frozenAt (k * 3 + 2)
      have HL := Lib.hid (g_lay (e := e) hown2 hmk)
      clear hown2 hq hb2
      go_wp2
      go_roundw
      case rel =>
        refine ⟨k + 1, by omega, by go_num, Lib.hid ?_, Lib.hid (((((g_chain hbel.out HB2.out).setCell (Nat.le_refl _) _).setCell (Nat.le_refl _) _).setCell (Nat.le_refl _) _))⟩
        rw [g_take es k e he.out, List.append_assoc]
        exact HL.out.1
      case measure => simp [intOf]; omega
    · obtain rfl : k = n := by omega
      go_wp2
      go_ret
      have hfin := hown.out
      rw [Nat.sub_self, List.replicate_zero, List.append_nil, List.take_of_length_le (by rw [HR.out.len]; exact Nat.le_refl _), ← HR.out.len] at hfin
      refine ⟨some ⟨w.heap.size, 0, none⟩, es.length, ?_, hfin, hbel.out⟩
      rw [HR.out.len]
      rfl
set_option maxHeartbeats 400000 in
theorem toGraph_any (N : Int) (A : Option Addr) (n c : Nat) (es : List GE) (w : World) (hr : SlG w A n es) (hn : n ≤ 2097152) :
    Calls Try.prog 18 #[.agg #[.int .i64 N, .slice A n c]] w (MadeGr w N es) := by
  have C := Lib.hid (fun w' (hb : Below w.heap.size w w') => toEdges_any A n c es w' (hr.below hb) hn)
  clear hr
  go_enter Try.func18, Try.ntmps18
  go_wp2_with fail
  refine (C.out _ ?_).mono ?_
  · repeat (first | exact below_a3 _ _ _ _ | refine Below.setCell ?_ (by simp <;> omega) _)
  · rintro e w1 ⟨A1, c1, rfl, ho1, hb1⟩
    obtain ⟨hc, hf⟩ := bcell hb1
    have hz : w.heap.size + 1 + 1 < w1.heap.size := by have := hb1.size; simp at this; omega
    have HB := Lib.hid hb1
    clear hb1
    go_wp2
    refine bodyPost_ret (v := .agg #[.int .i64 N, .slice A1 es.length c1]) (by simp [results, Try.results18, go_sem, hc]) rfl ⟨A1, c1, rfl, ?_, ?_⟩
    · have ho2 := ho1
      rw [World.size_alloc, World.size_alloc, World.size_alloc] at ho2
      refine own_monoG (lo := w.heap.size + 1 + 1 + 1) ?_ (by omega)
      repeat (first | exact ho2 | refine own_lowG ?_ (by simp <;> omega) _)
    · repeat (first | exact g_chain (by repeat (first | exact below_a3 _ _ _ _ | refine Below.setCell ?_ (by simp <;> omega) _)) HB.out | refine Below.setCell ?_ (by simp <;> omega) _)
end Go.Proofs.Ytbfdhlpncblahaa
namespace Go.Proofs.Ytbfdhlpncblahaa
open Go.RowKit

/-- The first k cells are those of xs, the rest nought. -/
def halfI (xs : List Int) (k : Nat) : List Int := xs.take k ++ List.replicate (xs.length - k) 0
theorem halfI_zero (xs : List Int) : halfI xs 0 = List.replicate xs.length 0 := by simp [halfI]
theorem halfI_full (xs : List Int) : halfI xs xs.length = xs := by simp [halfI]
theorem halfI_step (xs : List Int) (k : Nat) (x : Int) (h : xs[k]? = some x) : (vi (halfI xs k)).set k (.int .i64 x) = vi (halfI xs (k + 1)) := by
  have hk : k < xs.length := (List.getElem?_eq_some_iff.1 h).1
  have hx : xs[k] = x := (List.getElem?_eq_some_iff.1 h).2
  have : (halfI xs k).set k x = halfI xs (k + 1) := by
    unfold halfI
    rw [List.set_append_right _ _ (by simp; omega), List.take_succ_eq_append_getElem hk, List.append_assoc]
    congr 1
    rw [List.length_take, Nat.min_eq_left (by omega), Nat.sub_self, show xs.length - k = (xs.length - (k + 1)) + 1 by omega, List.replicate_succ]
    simp [hx]
  rw [← this]
  simp [vi, List.map_set]

def MadeN (w : World) (n : Nat) (xs : List Int) (e : Ending) (w' : World) : Prop :=
  ∃ A c, e = .returned (.slice A n c) ∧ OwI w' w.heap.size A n c xs ∧ Below w.heap.size w w'

set_option maxHeartbeats 400000 in
theorem copyInts_any (A : Option Addr) (n c : Nat) (xs : List Int) (w : World) (hr : SlI w A n xs) (hn : n ≤ 2097152) :
    Calls Try.prog 19 #[.slice A n c] w (MadeN w n xs) := by
  obtain ⟨i0, hi, hz0, hz1, hz2⟩ := info_parts Try.infoInt
  have hl := Lib.hid hr.len
  have HR := Lib.hid hr
  clear hr
  go_enter Try.func19, Try.ntmps19
  go_wp2_with (refine wpList_make_full _ rfl (.tmp 6) (.tmp 6) 36 rfl w.heap.size 3 i0 (.int .i64 0) 1 Try.underlying36 hi hz0 hz1 .i64 .i64 _ _ n rfl rfl rfl rfl (by rw [hz2]; omega) (by unfold maxLen; omega) (Nat.le_refl _) ?_; intro w1 hown hg)
  have hb1 : Below w.heap.size w w1 := (Below.refl _ _).grown hg (Nat.le_refl _) (by simp)
  have hown1 : w1.ownsRow w.heap.size 3 1 (.slice (some ⟨w.heap.size, 0, none⟩) n n) n (vi (halfI xs 0)) := by
    have h := hown
    rw [g_rep (fun x : Int => [Value.int .i64 x]) 0 1 (fun _ => rfl) (by omega) (Value.int .i64 0).cells rfl n, flat_one] at h
    rw [halfI_zero, hl.out]
    exact h
  clear hown hg
  go_loopw [4] (fun i wr => ∃ k : Nat, k ≤ n ∧ i = .int .i64 k ∧ wr.ownsRow w.heap.size 3 1 (.slice (some ⟨w.heap.size, 0, none⟩) n n) n (vi (halfI xs k)) ∧ Below w.heap.size w wr) (fun i _ => n - (intOf i).toNat)
  case atStart => exact ⟨0, Nat.zero_le _, rfl, hown1, hb1⟩
  case round =>
    obtain ⟨k, hk, rfl, hown, hbel⟩ := hrel
    by_cases hlt : k < n
    · obtain ⟨b, off, x, rfl, hbw, hxs, hc⟩ := HR.out.at_ hlt
      have hcell : wr.cell? ⟨b, off + k, none⟩ = some (.int .i64 x) := (hbel.cell (by exact hbw)).trans hc
      have hl2 : k < (vi (halfI xs k)).length := by rw [hown.1]; omega
      have hcell2 : wr.cell? ⟨w.heap.size, k, none⟩ = some (vi (halfI xs k))[k] := by rw [hown.cellAt k (by omega), List.getElem?_eq_getElem hl2]
      have hfr := hown.frozenAt k
      have hst := hown.stored k (.int .i64 x)
      rw [halfI_step xs k x hxs.out] at hst
      have hb2 := hbel.setCell (p := ⟨w.heap.size, k, none⟩) (Nat.le_refl _) (.int .i64 x)
      have hst1 := Lib.hid hst.1
      generalize (vi (halfI xs k))[k] = old at hcell2
      clear hst hown hl2 hc
      go_wp2
      go_roundw
      case rel => exact ⟨k + 1, by omega, by go_num, hst1.out, hb2⟩
      case measure => simp [intOf]; omega
    · obtain rfl : k = n := by omega
      go_wp2
      go_ret
      have e := hl.out
      subst e
      rw [halfI_full] at hown
      exact ⟨_, _, rfl, hown, hbel⟩

/-! ### one that came in -/
def NumIn (x : Int) : Prop := (Lit.int .i64 x).wf = true
/-- What a walk is told of a slice of numbers that came in. -/
structure IntsIn (w : World) (A : Option Addr) (n c : Nat) (xs : List Int) : Prop where
  g : SlI w A n xs
  l : n ≤ maxLen
  c : n ≤ c
  e : ∀ x ∈ xs, NumIn x
theorem flat_vi (xs : List Int) : xs.flatMap (fun x : Int => [Value.int .i64 x]) = vi xs := flat_one xs
theorem RdR.nums {lo hi : Nat} {w : World} {cs : List Value} {ds : List Int} (h : RdR lo hi w (.sl (.int .i64)) cs ds) (hh : hi ≤ w.heap.size) : ∃ A n c xs, cs = [.slice A n c] ∧ IntsIn w A n c xs := by
  obtain ⟨A, n, c, e1, e2, e3, e4, h⟩ := h
  rcases Nat.eq_zero_or_pos n with h0 | h0
  · subst h0
    exact ⟨A, 0, c, [], e1, ⟨SlI.nil, by omega, e3, by simp⟩⟩
  · obtain ⟨b, off, eA, _, hb, hall⟩ := h h0
    obtain ⟨xs, h1, h2, h3⟩ := g_build (fun x : Int => [Value.int .i64 x]) 1 (fun _ => rfl) NumIn w b off n (fun j hj => by
      have e5 : List.length (α := Int) ds = n := e2
      have hjl : j < List.length (α := Int) ds := by omega
      obtain ⟨cs, _, hc, hr⟩ := hall j (ds[j]'hjl) (List.getElem?_eq_getElem hjl)
      obtain ⟨rfl, hwf⟩ := hr
      exact ⟨_, hwf, hc⟩)
    rw [flat_vi] at h2
    exact ⟨A, n, c, xs, e1, ⟨⟨h1, ⟨by rw [vi_len, h1, Nat.mul_one], fun _ => ⟨b, off, eA, by omega, h2⟩⟩⟩, by omega, e3, h3⟩⟩

section
variable {H : Type} {enc : TypeId × Value → H} {w : World} {base : Nat} {spare : Nat → Bool} {held : Bool}
theorem Try.cellsSI : Try.prog.cellsOf 36 = 1 := by kernel_rfl
theorem opensNums : Opens enc Try.prog w base spare held 36 (.sl (.int .i64)) := opens_sl Try.underlying36 Try.cellsGi (by decide) (opens_int Try.underlying3)
set_option maxRecDepth 100000 in
theorem open_ints {r : Reach} {b0 : Nat} {v : Value} {d : DataW H} {p : List MemPlace} (hv : Value.okWide Try.prog w r b0 36 v) (h : DataW.Trod enc Try.prog w base spare held 36 v d p) :
    ∃ A n c xs, v = .slice A n c ∧ IntsIn w A n c xs := by
  obtain ⟨a, len, cap, rfl⟩ := Go.WideShapes.okWide_slice Try.underlying36 hv
  obtain ⟨fuel, hf⟩ := h
  obtain ⟨x, hx⟩ := opensNums _ _ _ hf
  obtain ⟨A, n, c, xs, he, hi⟩ := RdR.nums hx (Nat.le_refl _)
  have h9 : [Value.slice a len cap] = [.slice A n c] := by simpa [Value.cells] using he
  injection h9 with h9
  exact ⟨A, n, c, xs, h9, hi⟩
end
end Go.Proofs.Ytbfdhlpncblahaa
namespace Go.Proofs.Ytbfdhlpncblahaa
open Go.RowKit

def keSh : Sh := .pair (.int .i64) (.pair (.int .i64) (.pair (.int .i64) (.pair (.int .i64) (.int .i64))))
def shardSh : Sh := .pair (.int .i64) (.pair (.int .i64) (.sl keSh))
def KeIn (e : KE) : Prop := (Lit.int .i64 e.f).wf = true ∧ (Lit.int .i64 e.t).wf = true ∧ (Lit.int .i64 e.w).wf = true ∧ (Lit.int .i64 e.i).wf = true ∧ (Lit.int .i64 e.v).wf = true
theorem RdR.ke {lo hi : Nat} {w : World} {cs : List Value} {d : keSh.D} (h : RdR lo hi w keSh cs d) : ∃ e : KE, cs = e.cells ∧ KeIn e := by
  obtain ⟨c1, r1, e1, h1, ⟨hk1, hw1⟩, hb⟩ := h
  obtain ⟨c2, r2, e2, h2, ⟨hk2, hw2⟩, hb⟩ := hb
  obtain ⟨c3, r3, e3, h3, ⟨hk3, hw3⟩, hb⟩ := hb
  obtain ⟨c4, r4, e4, h4, ⟨hk4, hw4⟩, hk5, hw5⟩ := hb
  exact ⟨⟨d.1, d.2.1, d.2.2.1, d.2.2.2.1, d.2.2.2.2⟩, by rw [e1, hk1, e2, hk2, e3, hk3, e4, hk4, hk5]; rfl, hw1, hw2, hw3, hw4, hw5⟩
theorem RdR.kes {lo hi : Nat} {w : World} {cs : List Value} {ds : List keSh.D} (h : RdR lo hi w (.sl keSh) cs ds) (hh : hi ≤ w.heap.size) : ∃ A n c es, cs = [.slice A n c] ∧ SlK w A n es ∧ n ≤ c ∧ n ≤ maxLen ∧ ∀ e ∈ es, KeIn e := by
  obtain ⟨A, n, c, e1, e2, e3, e4, h⟩ := h
  rcases Nat.eq_zero_or_pos n with h0 | h0
  · subst h0
    exact ⟨A, 0, c, [], e1, SlK.nil, e3, by omega, by simp⟩
  · obtain ⟨b, off, eA, _, hb, hall⟩ := h h0
    obtain ⟨es, h1, h2, h3⟩ := g_build KE.cells 5 KE.cells_len KeIn w b off n (fun j hj => by
      have hjl : j < ds.length := by omega
      obtain ⟨cs, _, hc, hr⟩ := hall j (ds[j]'hjl) (List.getElem?_eq_getElem hjl)
      obtain ⟨e, rfl, he⟩ := RdR.ke hr
      exact ⟨e, he, hc⟩)
    exact ⟨A, n, c, es, e1, ⟨h1, ⟨by rw [flat_len _ 5 KE.cells_len, h1], fun _ => ⟨b, off, eA, by omega, h2⟩⟩⟩, e3, by omega, h3⟩
/-- What a walk is told of a shard that came in. -/
structure ShIn (w : World) (lo hi : Int) (A : Option Addr) (n c : Nat) (es : List KE) : Prop where
  lo : (Lit.int .i64 lo).wf = true
  hi : (Lit.int .i64 hi).wf = true
  g : SlK w A n es
  c : n ≤ c
  l : n ≤ maxLen
  e : ∀ e ∈ es, KeIn e
theorem RdR.shard {a b : Nat} {w : World} {cs : List Value} {d : shardSh.D} (h : RdR a b w shardSh cs d) (hh : b ≤ w.heap.size) : ∃ lo hi A n c es, cs = [.int .i64 lo, .int .i64 hi, .slice A n c] ∧ ShIn w lo hi A n c es := by
  obtain ⟨c1, r1, e1, h1, ⟨hk1, hw1⟩, hb⟩ := h
  obtain ⟨c2, r2, e2, h2, ⟨hk2, hw2⟩, hb⟩ := hb
  obtain ⟨A, n, c, es, ea, hg, hc, hl, he⟩ := RdR.kes hb hh
  exact ⟨d.1, d.2.1, A, n, c, es, by rw [e1, hk1, e2, hk2, ea]; rfl, ⟨hw1, hw2, hg, hc, hl, he⟩⟩

section
variable {H : Type} {enc : TypeId × Value → H} {w : World} {base : Nat} {spare : Nat → Bool} {held : Bool}
theorem Try.cellsKi : Try.prog.cellsOf 3 = 1 := by kernel_rfl
theorem Try.cellsKe : Try.prog.cellsOf 121 = 5 := by kernel_rfl
theorem Try.cellsSKe : Try.prog.cellsOf 22 = 1 := by kernel_rfl
theorem Try.cellsShard : Try.prog.cellsOf 24 = 3 := by kernel_rfl
theorem opensKe : Opens enc Try.prog w base spare held 121 keSh :=
  opens_struct Try.underlying121 Try.cellsKe (opensF_cons rfl Try.cellsKi (opens_int Try.underlying3) (opensF_cons rfl Try.cellsKi (opens_int Try.underlying3) (opensF_cons rfl Try.cellsKi (opens_int Try.underlying3) (opensF_cons rfl Try.cellsKi (opens_int Try.underlying3) (opensF_last rfl Try.cellsKi (opens_int Try.underlying3))))))
theorem opensShard : Opens enc Try.prog w base spare held 24 shardSh :=
  opens_struct Try.underlying24 Try.cellsShard (opensF_cons rfl Try.cellsKi (opens_int Try.underlying3) (opensF_cons rfl Try.cellsKi (opens_int Try.underlying3) (opensF_last rfl Try.cellsSKe (opens_sl Try.underlying22 Try.cellsKe (by decide) opensKe))))

set_option maxRecDepth 100000 in
theorem open_shard {r : Reach} {b0 : Nat} {v : Value} {d : DataW H} {p : List MemPlace} (hv : Value.okWide Try.prog w r b0 24 v) (h : DataW.Trod enc Try.prog w base spare held 24 v d p) :
    ∃ lo hi A n c es, v = .agg #[.int .i64 lo, .int .i64 hi, .slice A n c] ∧ ShIn w lo hi A n c es := by
  obtain ⟨cs, rfl, _⟩ := Go.WideShapes.okWide_struct Try.underlying24 hv
  obtain ⟨fuel, hf⟩ := h
  obtain ⟨x, hx⟩ := opensShard _ _ _ hf
  obtain ⟨lo, hi, A, n, c, es, he, hi'⟩ := RdR.shard hx (Nat.le_refl _)
  refine ⟨lo, hi, A, n, c, es, ?_, hi'⟩
  have : cs.toList = [.int .i64 lo, .int .i64 hi, .slice A n c] := by simpa [Value.cells] using he
  cases cs
  simp only at this
  rw [this]
end
end Go.Proofs.Ytbfdhlpncblahaa
namespace Go.Proofs.Ytbfdhlpncblahaa
open Go.RowKit

set_option maxRecDepth 10000 in
set_option maxHeartbeats 1000000 in
theorem szHs_any (A : Option Addr) (n c : Nat) (bs : List HE) (left : Int) (w : World) (hr : SlH w A n bs) (hn : n ≤ maxLen) (hs : ∀ e ∈ bs, e.n ≤ maxLen) (h0 : 0 ≤ left) (h1 : left ≤ 1048576) :
    Calls Try.prog 28 #[.slice A n c, .int .i64 left] w (GNum w (leftG left (n + sumH bs))) := by
  unfold maxLen at hn
  have HR := Lib.hid hr
  have HL := Lib.hid hr.len
  have HS := Lib.hid hs
  clear hr hs
  by_cases h : (n : Int) ≤ left
  · have h2 : 0 ≤ left - (n : Int) := by omega
    obtain ⟨z, hz⟩ : ∃ z, left - (n : Int) = z := ⟨_, rfl⟩
    have HZ := Lib.hid hz
    have h3 : z ≤ 1048576 := by omega
    rw [hz] at h2
    go_enter Try.func28, Try.ntmps28
    go_wp2
    clear hz
    go_loopw [1, 5] (fun t i wr => ∃ (j : Nat) (q : Int) (pre post : List HE), j ≤ n ∧ i = .int .i64 j ∧ t = .int .i64 q ∧ 0 ≤ q ∧ q ≤ 1048576 ∧ Hid (q = z - (sumH pre : Nat)) ∧ Hid (bs = pre ++ post) ∧ Hid (pre.length = j) ∧ Hid (Below w.heap.size w wr)) (fun _ i _ => n - (intOf i).toNat)
    case atStart => exact ⟨0, z, [], bs, Nat.zero_le _, rfl, rfl, h2, h3, Lib.hid (by simp [sumH]), Lib.hid rfl, Lib.hid rfl, Lib.hid (Below.refl _ _)⟩
    case round =>
      obtain ⟨j, q, pre, post, hj, rfl, rfl, hq0, hq1, hq, hes, hpl, hbel⟩ := hrel
      by_cases hlt : j < n
      · obtain ⟨e, post, rfl⟩ : ∃ e r, post = e :: r := by
          cases post with
          | nil => exfalso; have := congrArg List.length hes.out; have := HL.out; have := hpl.out; simp at *; omega
          | cons e r => exact ⟨e, r, rfl⟩
        obtain ⟨b, off, e0, rfl, hbw, he, hok, c0, c1, c2⟩ := HR.out.at_ hlt
        have he0 : e0 = e := by
          have h1 := he.out
          rw [hes.out, List.getElem?_append_right (by rw [hpl.out]; exact Nat.le_refl _), hpl.out, Nat.sub_self] at h1
          simpa using h1.symm
        subst he0
        have c0 := (hbel.out.cell (p := ⟨b, off + j * 3, none⟩) hbw).trans c0
        have c1 := (hbel.out.cell (p := ⟨b, off + j * 3 + 1, none⟩) hbw).trans c1
        have c2 := (hbel.out.cell (p := ⟨b, off + j * 3 + 2, none⟩) hbw).trans c2
        have C := Lib.hid (szShard_any e0.lo e0.hi e0.A e0.n e0.c q wr (HS.out e0 (by rw [hes.out]; simp)) hq0 hq1)
        have HSUM := Lib.hid (show sumH bs = sumH pre + e0.n + sumH post by rw [hes.out, sumH_append, sumH_cons]; omega)
        clear he hok
        by_cases hle : (e0.n : Int) ≤ q
        · rw [leftG_pos hle] at C
          have hp : 0 ≤ q - (e0.n : Int) := by omega
          obtain ⟨y, hy⟩ : ∃ y, q - (e0.n : Int) = y := ⟨_, rfl⟩
          have HY := Lib.hid hy
          have hy1 : y ≤ 1048576 := by omega
          rw [hy] at C hp
          clear hy hle
          go_wp2_with fail
          refine C.out.mono ?_
          rintro e1 w2 ⟨rfl, hb2⟩
          have HB := Lib.hid (g_chain hbel.out hb2)
          clear hb2
          go_wp2
          go_roundw
          case rel => exact ⟨j + 1, y, pre ++ [e0], post, by omega, by go_num, rfl, hp, hy1, Lib.hid (by rw [← HY.out, sumH_append, sumH_cons, hq.out]; simp [sumH]; omega), Lib.hid (by rw [hes.out]; simp), Lib.hid (by simp [hpl.out]), HB⟩
          case measure => simp [intOf]; omega
        · rw [leftG_neg (by omega)] at C
          have HV := Lib.hid (leftG_neg (left := left) (n := n + sumH bs) (by have := HSUM.out; have := hq.out; have := HZ.out; omega))
          clear hle
          go_wp2_with fail
          refine C.out.mono ?_
          rintro e1 w2 ⟨rfl, hb2⟩
          have HB := Lib.hid (g_chain hbel.out hb2)
          clear hb2
          go_wp2
          go_ret
          exact ⟨g_int HV.out.symm, HB.out⟩
      · have hpe : post = [] := by
          have h1 := congrArg List.length hes.out
          have h2 := HL.out
          have h3 := hpl.out
          rw [List.length_append] at h1
          exact List.eq_nil_of_length_eq_zero (by omega)
        subst hpe
        have hE := hes.out
        rw [List.append_nil] at hE
        have HV := Lib.hid (leftG_pos (left := left) (n := n + sumH bs) (by rw [hE]; have := hq.out; have := HZ.out; omega))
        have HQ := Lib.hid (show q = left - ((n + sumH bs : Nat) : Int) by rw [hE]; have := hq.out; have := HZ.out; omega)
        clear hE
        go_wp2
        go_ret
        exact ⟨g_int (by rw [HV.out]; exact HQ.out), hbel.out⟩
  · have HV := Lib.hid (leftG_neg (left := left) (n := n + sumH bs) (by omega))
    have h2 : left - (n : Int) < 0 := by omega
    go_enter Try.func28, Try.ntmps28
    go_wp2
    go_ret
    exact ⟨g_int HV.out.symm, Below.refl _ _⟩

def zeroH : HE := ⟨0, 0, none, 0, 0, []⟩
theorem repH_succ (n k : Nat) (h : k < n) : List.replicate (n - k) zeroH = zeroH :: List.replicate (n - (k + 1)) zeroH := by
  rw [show n - k = (n - (k + 1)) + 1 by omega, List.replicate_succ]
theorem he_lay3 {w : World} {lo ty g c n k : Nat} {made rest : List HE} {x e : HE} (h : w.ownsRow lo ty 3 (.slice (some ⟨g, 0, none⟩) n c) n ((made ++ x :: rest).flatMap HE.cells)) (hm : made.length = k) :
    (((w.setCell ⟨g, k * 3, none⟩ (.int .i64 e.lo)).setCell ⟨g, k * 3 + 1, none⟩ (.int .i64 e.hi)).setCell ⟨g, k * 3 + 2, none⟩ (.slice e.A e.n e.c)).ownsRow lo ty 3 (.slice (some ⟨g, 0, none⟩) n c) n ((made ++ e :: rest).flatMap HE.cells) ∧
      w.grownBy (((w.setCell ⟨g, k * 3, none⟩ (.int .i64 e.lo)).setCell ⟨g, k * 3 + 1, none⟩ (.int .i64 e.hi)).setCell ⟨g, k * 3 + 2, none⟩ (.slice e.A e.n e.c)) (some g) := by
  have h1 := h.stored (k * 3) (.int .i64 e.lo)
  have h2 := h1.1.stored (k * 3 + 1) (.int .i64 e.hi)
  have h3 := h2.1.stored (k * 3 + 2) (.slice e.A e.n e.c)
  have e1 := flat_set HE.cells 3 HE.cells_len (made ++ x :: rest) k 0 x ⟨e.lo, x.hi, x.A, x.n, x.c, x.es⟩ (.int .i64 e.lo) (g_get _ _ _ _ hm) (by omega) rfl
  rw [Nat.add_zero, g_set _ _ _ _ _ hm] at e1
  have e2 := flat_set HE.cells 3 HE.cells_len (made ++ ⟨e.lo, x.hi, x.A, x.n, x.c, x.es⟩ :: rest) k 1 ⟨e.lo, x.hi, x.A, x.n, x.c, x.es⟩ ⟨e.lo, e.hi, x.A, x.n, x.c, x.es⟩ (.int .i64 e.hi) (g_get _ _ _ _ hm) (by omega) rfl
  rw [g_set _ _ _ _ _ hm] at e2
  have e3 := flat_set HE.cells 3 HE.cells_len (made ++ ⟨e.lo, e.hi, x.A, x.n, x.c, x.es⟩ :: rest) k 2 ⟨e.lo, e.hi, x.A, x.n, x.c, x.es⟩ e (.slice e.A e.n e.c) (g_get _ _ _ _ hm) (by omega) rfl
  rw [g_set _ _ _ _ _ hm] at e3
  rw [e1, e2, e3] at h3
  exact ⟨h3.1, (h1.2.trans h2.2).trans h3.2⟩

set_option maxRecDepth 10000 in
set_option maxHeartbeats 2000000 in
theorem toHs_any (A : Option Addr) (n c : Nat) (bs : List HE) (w : World) (hr : SlH w A n bs) (hn : n ≤ 2097152) (hs : ∀ e ∈ bs, e.n ≤ 2097152) :
    Calls Try.prog 30 #[.slice A n c] w (MadeHs w (bs.map HE.sd)) := by
  obtain ⟨i0, hi, hz0, hz1, hz2⟩ := info_parts Try.infoShard
  have HR := Lib.hid hr
  have HL := Lib.hid hr.len
  have HS := Lib.hid hs
  clear hr hs
  go_enter Try.func30, Try.ntmps30
  go_wp2_with (refine wpList_make_full _ rfl (.tmp 6) (.tmp 6) 38 rfl w.heap.size 29 i0 (.agg #[.int .i64 0, .int .i64 0, .slice none 0 0]) 3 Try.underlying38 hi hz0 hz1 .i64 .i64 _ _ n rfl rfl rfl rfl (by rw [hz2]; omega) (by unfold maxLen; omega) (Nat.le_refl _) ?_; intro w1 hown hg)
  have hb1 : Below w.heap.size w w1 := (Below.refl _ _).grown hg (Nat.le_refl _) (by simp)
  have hown1 : w1.ownsRow w.heap.size 29 3 (.slice (some ⟨w.heap.size, 0, none⟩) n n) n (([] ++ List.replicate (n - 0) zeroH).flatMap HE.cells) := by
    have h := hown
    rw [g_rep HE.cells zeroH 3 HE.cells_len (by omega) (Value.agg #[.int .i64 0, .int .i64 0, .slice none 0 0]).cells rfl n] at h
    simpa using h
  clear hown hg
  have HO1 := Lib.hid hown1
  have HB1 := Lib.hid hb1
  clear hown1 hb1
  go_loopw [4] (fun i wr => ∃ (k : Nat) (made : List HE), k ≤ n ∧ i = .int .i64 k ∧ Hid (made.length = k) ∧ Hid (made.map HE.sd = (bs.take k).map HE.sd) ∧ Hid (wr.ownsRow w.heap.size 29 3 (.slice (some ⟨w.heap.size, 0, none⟩) n n) n ((made ++ List.replicate (n - k) zeroH).flatMap HE.cells)) ∧ Hid (OwnHL wr w.heap.size made) ∧ Hid (Below w.heap.size w wr)) (fun i _ => n - (intOf i).toNat)
  case atStart => exact ⟨0, [], Nat.zero_le _, rfl, Lib.hid rfl, Lib.hid (by simp), HO1, Lib.hid OwnHL.nil, HB1⟩
  case round =>
    clear HO1 HB1
    obtain ⟨k, made, hk, rfl, hml, hmap, hown, hdat, hbel⟩ := hrel
    by_cases hlt : k < n
    · obtain ⟨b, off, e, rfl, hbw, he, hok, c0, c1, c2⟩ := HR.out.at_ hlt
      have c0 := (hbel.out.cell (p := ⟨b, off + k * 3, none⟩) hbw).trans c0
      have c1 := (hbel.out.cell (p := ⟨b, off + k * 3 + 1, none⟩) hbw).trans c1
      have c2 := (hbel.out.cell (p := ⟨b, off + k * 3 + 2, none⟩) hbw).trans c2
      have C := Lib.hid (toShard_any e.lo e.hi e.A e.n e.c e.es wr (hok.out.rd.below hbel.out) (HS.out e (List.mem_of_getElem? he.out)))
      have HTK := Lib.hid (g_take bs k e he.out)
      have HEL := Lib.hid hok.out.rd.len
      clear he hok
      go_wp2_with fail
      refine C.out.mono ?_
      rintro e1 w2 ⟨A2, cc2, rfl, ho2, hb2⟩
      rw [HEL.out] at ho2 ⊢
      have HB2 := Lib.hid (g_chain hbel.out hb2)
      have hown2 := own_below hown.out hb2
      rw [repH_succ n k hlt] at hown2
      have hlay := he_lay3 (e := ⟨e.lo, e.hi, A2, e.n, cc2, e.es⟩) hown2 hml.out
      have HL2 := Lib.hid hlay
      have hq := fun i (hi : i < 3) => (hown2.cellAt (k * 3 + i) (by omega)).trans (flat_get HE.cells 3 HE.cells_len _ k i zeroH (g_get made (List.replicate (n - (k + 1)) zeroH) zeroH k hml.out) hi)
      have hc0 : w2.cell? ⟨w.heap.size, k * 3, none⟩ = some (.int .i64 0) := hq 0 (by omega)
      have hc1 : w2.cell? ⟨w.heap.size, k * 3 + 1, none⟩ = some (.int .i64 0) := hq 1 (by omega)
      have hc2 : w2.cell? ⟨w.heap.size, k * 3 + 2, none⟩ = some (.slice none 0 0) := hq 2 (by omega)
      have hf0 := hown2.frozenAt (k * 3)
      have hf1 := hown2.frozenAt (k * 3 + 1)
      have hf2 := hown2.frozenAt (k * 3 + 2)
      obtain ⟨cur, hg0⟩ := bat_block hown2
      have hone : OwnHL w2 wr.heap.size [⟨e.lo, e.hi, A2, e.n, cc2, e.es⟩] := OwnHL.one (d := ⟨e.lo, e.hi, A2, e.n, cc2, e.es⟩) ho2 HEL.out
      have hall := (hdat.out.below hb2).append (hone.mono hbel.out.size) (apartH_of_time hdat.out (Nat.le_refl _) hone (Nat.le_refl _))
      have HALL := Lib.hid (hall.kept hlay.2 (hall.far hg0 (by decide)))
      clear hown2 hlay hone hall ho2 hb2 hg0 hq
      go_wp2
      go_roundw
      case rel =>
        refine ⟨k + 1, made ++ [⟨e.lo, e.hi, A2, e.n, cc2, e.es⟩], by omega, by go_num, Lib.hid (by simp [hml.out]), Lib.hid (by rw [HTK.out, List.map_append, List.map_append, hmap.out]; rfl), Lib.hid ?_, HALL, Lib.hid (((HB2.out.setCell (Nat.le_refl _) _).setCell (Nat.le_refl _) _).setCell (Nat.le_refl _) _)⟩
        rw [List.append_assoc]
        exact HL2.out.1
      case measure => simp [intOf]; omega
    · obtain rfl : k = n := by omega
      go_wp2
      go_ret
      have hfin := hown.out
      rw [Nat.sub_self, List.replicate_zero, List.append_nil] at hfin
      exact ⟨_, _, _, made, rfl, ⟨hfin, hml.out, hdat.out⟩, by rw [hmap.out, List.take_of_length_le (by rw [HL.out]; exact Nat.le_refl _)], hbel.out⟩

/-! ### one that came in -/
/-- What a walk is told of a list of shards that came in. -/
structure HsIn (w : World) (A : Option Addr) (n c : Nat) (bs : List HE) : Prop where
  g : SlH w A n bs
  l : n ≤ maxLen
  e : ∀ e ∈ bs, e.n ≤ maxLen
  w : ∀ e ∈ bs, (Lit.int .i64 e.lo).wf = true ∧ (Lit.int .i64 e.hi).wf = true ∧ ∀ x ∈ e.es, KeIn x
section
variable {H : Type} {enc : TypeId × Value → H} {w : World} {base : Nat} {spare : Nat → Bool} {held : Bool}
theorem RdR.he {a b : Nat} {w : World} {cs : List Value} {d : shardSh.D} (h : RdR a b w shardSh cs d) (hh : b ≤ w.heap.size) : ∃ e : HE, cs = e.cells ∧ (e.Ok w ∧ e.n ≤ maxLen ∧ (Lit.int .i64 e.lo).wf = true ∧ (Lit.int .i64 e.hi).wf = true ∧ ∀ x ∈ e.es, KeIn x) := by
  obtain ⟨lo, hi, A, n, c, es, he, h1⟩ := RdR.shard h hh
  exact ⟨⟨lo, hi, A, n, c, es⟩, he, ⟨h1.g, h1.c⟩, h1.l, h1.lo, h1.hi, h1.e⟩
theorem opensHs : Opens enc Try.prog w base spare held 52 (.sl shardSh) := opens_sl Try.underlying52 Try.cellsShard (by decide) opensShard
theorem RdR.hes {lo hi : Nat} {w : World} {cs : List Value} {ds : List shardSh.D} (h : RdR lo hi w (.sl shardSh) cs ds) (hh : hi ≤ w.heap.size) : ∃ A n c bs, cs = [.slice A n c] ∧ HsIn w A n c bs := by
  obtain ⟨A, n, c, e1, e2, e3, e4, h⟩ := h
  rcases Nat.eq_zero_or_pos n with h0 | h0
  · subst h0
    exact ⟨A, 0, c, [], e1, ⟨rfl, ⟨rfl, fun h => by omega⟩, by simp⟩, by omega, by simp, by simp⟩
  · obtain ⟨b, off, eA, _, hb, hall⟩ := h h0
    obtain ⟨bs, h1, h2, h3⟩ := g_build HE.cells 3 HE.cells_len (fun e => e.Ok w ∧ e.n ≤ maxLen ∧ (Lit.int .i64 e.lo).wf = true ∧ (Lit.int .i64 e.hi).wf = true ∧ ∀ x ∈ e.es, KeIn x) w b off n (fun j hj => by
      have hjl : j < ds.length := by omega
      obtain ⟨cs, _, hc, hr⟩ := hall j (ds[j]'hjl) (List.getElem?_eq_getElem hjl)
      obtain ⟨e, rfl, he⟩ := RdR.he hr hh
      exact ⟨e, he, hc⟩)
    exact ⟨A, n, c, bs, e1, ⟨h1, ⟨by rw [flat_len _ 3 HE.cells_len, h1], fun _ => ⟨b, off, eA, by omega, h2⟩⟩, fun e he => (h3 e he).1⟩, by omega, fun e he => (h3 e he).2.1, fun e he => (h3 e he).2.2⟩
set_option maxRecDepth 100000 in
theorem open_hs {r : Reach} {b0 : Nat} {v : Value} {d : DataW H} {p : List MemPlace} (hv : Value.okWide Try.prog w r b0 52 v) (h : DataW.Trod enc Try.prog w base spare held 52 v d p) :
    ∃ A n c bs, v = .slice A n c ∧ HsIn w A n c bs := by
  obtain ⟨a, len, cap, rfl⟩ := Go.WideShapes.okWide_slice Try.underlying52 hv
  obtain ⟨fuel, hf⟩ := h
  obtain ⟨x, hx⟩ := opensHs _ _ _ hf
  obtain ⟨A, n, c, bs, he, hi⟩ := RdR.hes hx (Nat.le_refl _)
  have h9 : [Value.slice a len cap] = [.slice A n c] := by simpa [Value.cells] using he
  injection h9 with h9
  exact ⟨A, n, c, bs, h9, hi⟩
end
end Go.Proofs.Ytbfdhlpncblahaa
