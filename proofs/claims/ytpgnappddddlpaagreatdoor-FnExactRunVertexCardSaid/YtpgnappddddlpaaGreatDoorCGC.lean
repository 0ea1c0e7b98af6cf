/- Frames: the contracts of the laws' helpers on them (measures, copies, comparisons), of the functions that ask whether a frame is valid, the opening of an argument that is a frame. // A block that holds a frame. // Sets in memory: a block that holds one, what a call that makes one leaves (plain lemmas over the model; no condition). // Blocks that hold a run in memory, and may be written; rows of the call's own beside them (plain lemmas over the model; no condition). // Slices of bytes, of files and of operations of the call's own: no two slices of bytes lie in one block; what is owned is kept where its blocks are, and reads. // The contracts of the laws' helpers that write marks into bytes of the call's own and look for them; words for what is written only in some blocks. Condition: at most 2^21 bytes. // Words for slices of shard edges in memory (plain lemmas over the model; no condition): 'SlK': a slice that reads as a list of records of five numbers; such a list laid record by record; marks in it. // Shard edges and shards: what new ones are (no condition). // Shard edges: the contracts of the laws' helpers that leave marks and that look for them. Condition: at most 2^21 edges. // The contracts of the law's two helpers that write marks into a slice of bytes and look for them: 'markByteS' writes 1, 2, 3 .. (modulo 256) into a row of the call's own, and nothing else; 'heldByteS' finds them. Condition: at most 2^21 bytes. // Marks in lists of records of three numbers and of numbers, as data (no condition). // Edges, graphs and numbers: the contracts of the laws' helpers that compare and that leave marks. Condition: at most 2^21 of each. // Parted from YtpgnappddddlpaaGreatDoorGrEq: the contracts of the functions that only their own laws reach. // The contracts of the laws' helpers that leave marks in one shard and find them; those on bytes and numbers, said of memory alone. Condition: at most 2^21 edges, bytes or numbers. -/
import Derived.Test.YtpgnappddddlpaaGreatDoorCGA
import Derived.Test.YtpgnappddddlpaaGreatDoorCGB
import Derived.Deep.QuietTactic
import Derived.BigQuiet
namespace Go.Proofs.YtpgnappddddlpaaGreatDoor
open Go.RowKit

/-- A number, a truth value, and the old memory as it was. -/
def FNum (w : World) (b : Int) (e : Ending) (w' : World) : Prop := e = .returned (.int .i64 b) ∧ Below w.heap.size w w'
def FTell (w : World) (b : Bool) (e : Ending) (w' : World) : Prop := e = .returned (.bool b) ∧ Below w.heap.size w w'
def leftN (left : Int) (n : Nat) : Int := if (n : Int) ≤ left then left - n else -1
theorem leftN_pos {left : Int} {n : Nat} (h : (n : Int) ≤ left) : leftN left n = left - n := if_pos h
theorem leftN_neg {left : Int} {n : Nat} (h : left < (n : Int)) : leftN left n = -1 := if_neg (by omega)
theorem fr_int {k : IntKind} {a b : Int} (h : a = b) : Ending.returned (.int k a) = .returned (.int k b) := by rw [h]
/-- A new frame. -/
def MadeFr (w : World) (kind : Int) (xs : List Nat) (e : Ending) (w' : World) : Prop :=
  ∃ A c, e = .returned (.agg #[.int .i64 kind, .slice A xs.length c]) ∧ w'.ownsRow w.heap.size 5 1 (.slice A xs.length c) xs.length (vb xs) ∧ Below w.heap.size w w'
theorem keep_row {w w' : World} {lo e size n : Nat} {v : Value} {xs : List Value} (h : w.ownsRow lo e size v n xs) (hk : ∀ k, lo ≤ k → k < w.heap.size → w'.heap[k]? = w.heap[k]?) : w'.ownsRow lo e size v n xs := by
  obtain ⟨h1, h2⟩ := h
  refine ⟨h1, ?_⟩
  rcases h2 with h2 | ⟨g, cap, cur, e, hb, hg, r⟩
  · exact .inl h2
  · exact .inr ⟨g, cap, cur, e, hb, (hk g hb (lt_of_block hg)).trans hg, r⟩
theorem low_row {w : World} {lo e size n : Nat} {v : Value} {xs : List Value} (h : w.ownsRow lo e size v n xs) {p : Addr} (hp : p.block < lo) (u : Value) : (w.setCell p u).ownsRow lo e size v n xs :=
  keep_row h (fun k hk _ => Below.heap_setCell w p u k (by omega))
theorem base_row {w : World} {lo lo' e size n : Nat} {v : Value} {xs : List Value} (h : w.ownsRow lo e size v n xs) (hl : lo' ≤ lo) : w.ownsRow lo' e size v n xs := by
  obtain ⟨h1, h2⟩ := h
  refine ⟨h1, ?_⟩
  rcases h2 with h2 | ⟨g, cap, cur, e, hb, r⟩
  · exact .inl h2
  · exact .inr ⟨g, cap, cur, e, by omega, r⟩

/-! ### valid frames -/
/-! ### an argument that is a frame -/
def ySh : Sh := .sl (.int .u8)
def frSh : Sh := .pair (.int .i64) ySh
theorem RdR.daty {lo hi : Nat} {w : World} {cs : List Value} {ds : List Int} (h : RdR lo hi w ySh cs ds) (hh : hi ≤ w.heap.size) : ∃ d : Dat, cs = [.slice d.A d.n d.c] ∧ d.Ok w ∧ d.n ≤ maxLen := by
  obtain ⟨A, n, c, e1, e2, e3, e4, h⟩ := h
  have hlen : List.length (α := Int) ds = n := e2
  have hw : ∀ d ∈ ds, 0 ≤ d ∧ d ≤ 255 := by
    intro d hd
    obtain ⟨j, hj, he⟩ := List.getElem_of_mem hd
    obtain ⟨b, off, _, _, _, hall⟩ := h (by omega)
    obtain ⟨es, _, _, hr⟩ := hall j d (by rw [← he]; exact List.getElem?_eq_getElem hj)
    exact bounds_u8 hr.2
  refine ⟨⟨A, n, c, ds.map Int.toNat⟩, e1, ⟨⟨?_, ?_, fun h0 => ?_⟩, e3⟩, by show n ≤ maxLen; omega⟩
  · rw [List.length_map]; exact e2
  · intro x hx
    obtain ⟨d, hd, rfl⟩ := List.mem_map.1 hx
    have := hw d hd
    omega
  · obtain ⟨b, off, eA, _, hb, hall⟩ := h h0
    refine ⟨b, off, eA, by omega, fun j x hx => ?_⟩
    rw [List.getElem?_map] at hx
    obtain ⟨d, hd, rfl⟩ := Option.map_eq_some_iff.1 hx
    obtain ⟨es, hl, hc, hr⟩ := hall j d hd
    obtain ⟨he, hwf⟩ := hr
    subst he
    have := hc 0 _ rfl
    have hbd := bounds_u8 hwf
    rw [Int.toNat_of_nonneg hbd.1]
    have e4 : (Sh.int IntKind.u8).size = 1 := rfl
    rw [e4, Nat.mul_one, Nat.add_zero] at this
    exact this
section
variable {H : Type} {enc : TypeId × Value → H} {w : World} {base : Nat} {spare : Nat → Bool} {held : Bool}
theorem Tryz.cellsY : Tryz.prog.cellsOf 5 = 1 := by kernel_rfl
theorem Tryz.cellsSY : Tryz.prog.cellsOf 28 = 1 := by kernel_rfl
theorem Tryz.cellsIn : Tryz.prog.cellsOf 3 = 1 := by kernel_rfl
theorem opensY : Opens enc Tryz.prog w base spare held 28 ySh := opens_sl Tryz.underlying28 Tryz.cellsY (by decide) (opens_int Tryz.underlying5)
end
/-- A frame that came in. -/
structure FrIn (w : World) (kind : Int) (d : Dat) : Prop where
  kind : (Lit.int .i64 kind).wf = true
  ok : d.Ok w
  le : d.n ≤ maxLen
end Go.Proofs.YtpgnappddddlpaaGreatDoor
namespace Go.Proofs.YtpgnappddddlpaaGreatDoor
open Go.RowKit

/-- A block that holds two cells. -/
structure Box2 (w : World) (b : Nat) (v0 v1 : Value) : Prop where
  lt : b < w.heap.size
  c0 : w.cell? ⟨b, 0, none⟩ = some v0
  c1 : w.cell? ⟨b, 1, none⟩ = some v1
section
variable {w w' : World} {b : Nat} {v0 v1 : Value}
theorem Box2.keep (h : Box2 w b v0 v1) (hs : w.heap.size ≤ w'.heap.size) (hk : w'.heap[b]? = w.heap[b]?) : Box2 w' b v0 v1 :=
  ⟨Nat.lt_of_lt_of_le h.lt hs, (World.cell?_of_block (a := ⟨b, 0, none⟩) hk).trans h.c0, (World.cell?_of_block (a := ⟨b, 1, none⟩) hk).trans h.c1⟩
theorem Box2.below (h : Box2 w b v0 v1) (hb : Below w.heap.size w w') : Box2 w' b v0 v1 := h.keep hb.size (hb.block b h.lt)
theorem Box2.new (w : World) (v0 v1 : Value) (t : TypeId) : Box2 (w.alloc (.cells #[v0, v1] t)) w.heap.size v0 v1 := ⟨by simp, by simp, by simp⟩
end
end Go.Proofs.YtpgnappddddlpaaGreatDoor
namespace Go.Proofs.YtpgnappddddlpaaGreatDoor
open Go.RowKit
set_option linter.unusedVariables false

/-- The table of the weights. -/
structure Wts (w : World) : Prop where
  lt : 0 < w.heap.size
  at_ : ∀ i : Nat, i < 8 → w.cell? ⟨0, i, none⟩ = some (.int .u8 ((2 ^ i : Nat) : Int))
theorem Wts.below {w w' : World} (h : Wts w) (hb : Below w.heap.size w w') : Wts w' :=
  ⟨Nat.lt_of_lt_of_le h.lt hb.size, fun i hi => (hb.cell (p := ⟨0, i, none⟩) h.lt).trans (h.at_ i hi)⟩
theorem Wts.other {w w' : World} {row : Option Nat} (h : Wts w) (hg : w.grownBy w' row) (hr : row ≠ some 0) : Wts w' :=
  ⟨Nat.lt_of_lt_of_le h.lt hg.size, fun i hi => (World.cell?_of_block (a := ⟨0, i, none⟩) (hg.block _ h.lt (fun e => hr e.symm))).trans (h.at_ i hi)⟩
theorem s_chain {w W W' : World} (h : Below w.heap.size w W) (k : Below W.heap.size W W') : Below w.heap.size w W' := h.trans (k.mono h.size)
/-- A new set. -/
def MadeS (w : World) (N : Int) (xs : List Nat) (e : Ending) (w' : World) : Prop :=
  ∃ A c, e = .returned (.agg #[.int .i64 N, .slice A xs.length c]) ∧ w'.ownsRow w.heap.size 5 1 (.slice A xs.length c) xs.length (vb xs) ∧ Below w.heap.size w w'
theorem own_nil (w : World) (lo : Nat) : w.ownsRow lo 5 1 (.slice none 0 0) 0 (vb []) := ⟨rfl, .inl ⟨rfl, rfl⟩⟩
/-- A block that is a set, and may be written. -/
def SBx (w : World) (b : Nat) (N : Int) (A : Option Addr) (n c : Nat) : Prop := Blk w b #[.int .i64 N, .slice A n c] 37
section
variable {w w' : World} {b n c : Nat} {N : Int} {A : Option Addr}
theorem SBx.new (w : World) (N : Int) (A : Option Addr) (n c : Nat) : SBx (w.alloc (.cells #[.int .i64 N, .slice A n c] 37)) w.heap.size N A n c := Blk.new _ _ _
theorem SBx.new1 (w : World) (o : Obj) (N : Int) (A : Option Addr) (n c : Nat) : SBx ((w.alloc o).alloc (.cells #[.int .i64 N, .slice A n c] 37)) (w.heap.size + 1) N A n c := by
  have h := SBx.new (w.alloc o) N A n c
  rw [World.size_alloc] at h
  exact h
theorem SBx.keep (h : SBx w b N A n c) (hk : w'.heap[b]? = w.heap[b]?) : SBx w' b N A n c := Blk.keep h hk
theorem SBx.below (h : SBx w b N A n c) (hb : Below w.heap.size w w') : SBx w' b N A n c := Blk.below h hb
theorem SBx.parts (h : SBx w b N A n c) : b < w.heap.size ∧ w.cell? ⟨b, 0, none⟩ = some (.int .i64 N) ∧ w.cell? ⟨b, 1, none⟩ = some (.slice A n c) ∧ w.frozen? ⟨b, 0, none⟩ = false ∧ w.frozen? ⟨b, 1, none⟩ = false :=
  ⟨Blk.lt h, Blk.cell h (i := 0) rfl, Blk.cell h (i := 1) rfl, Blk.frozen h 0, Blk.frozen h 1⟩
theorem SBx.set (h : SBx w b N A n c) (N' : Int) (A' : Option Addr) (n' c' : Nat) : SBx ((w.setCell ⟨b, 0, none⟩ (.int .i64 N')).setCell ⟨b, 1, none⟩ (.slice A' n' c')) b N' A' n' c' := Blk.set (Blk.set h 0 (.int .i64 N')) 1 (.slice A' n' c')
theorem SBx.grown {row : Option Nat} (h : SBx w b N A n c) (hg : w.grownBy w' row) (hr : row ≠ some b) : SBx w' b N A n c := Blk.grown h hg hr
end
theorem below_set2 {B b : Nat} {a w : World} (h : Below B a w) (hb : B ≤ b) (u v : Value) : Below B a ((w.setCell ⟨b, 0, none⟩ u).setCell ⟨b, 1, none⟩ v) := (h.setCell hb u).setCell hb v
theorem own_set2 {w : World} {lo e size n b : Nat} {v : Value} {xs : List Value} (h : w.ownsRow lo e size v n xs) (hb : b < lo) (u u' : Value) : ((w.setCell ⟨b, 0, none⟩ u).setCell ⟨b, 1, none⟩ u').ownsRow lo e size v n xs := own_lowG (own_lowG h hb u) hb u'
end Go.Proofs.YtpgnappddddlpaaGreatDoor
namespace Go.Proofs.YtpgnappddddlpaaGreatDoor
open Go.RowKit
set_option linter.unusedVariables false

/-- Eight cells of one run stored. -/
def layR (w : World) (b : Nat) (x0 x1 x2 x3 x4 x5 x6 x7 : Value) : World :=
  (((((((w.setCell ⟨b, 0, none⟩ x0).setCell ⟨b, 1, none⟩ x1).setCell ⟨b, 2, none⟩ x2).setCell ⟨b, 3, none⟩ x3).setCell ⟨b, 4, none⟩ x4).setCell ⟨b, 5, none⟩ x5).setCell ⟨b, 6, none⟩ x6).setCell ⟨b, 7, none⟩ x7
section
variable {w w' : World} {b : Nat} {x0 x1 x2 x3 x4 x5 x6 x7 y0 y1 y2 y3 y4 y5 y6 y7 : Value} {t : TypeId}
theorem layR_grown (w : World) (b : Nat) (x0 x1 x2 x3 x4 x5 x6 x7 : Value) : w.grownBy (layR w b x0 x1 x2 x3 x4 x5 x6 x7) (some b) :=
  (((((((grown_cell w b 0 x0).trans (grown_cell _ b 1 x1)).trans (grown_cell _ b 2 x2)).trans (grown_cell _ b 3 x3)).trans (grown_cell _ b 4 x4)).trans (grown_cell _ b 5 x5)).trans (grown_cell _ b 6 x6)).trans (grown_cell _ b 7 x7)
theorem layR_blk (h : Blk w b #[y0, y1, y2, y3, y4, y5, y6, y7] t) : Blk (layR w b x0 x1 x2 x3 x4 x5 x6 x7) b #[x0, x1, x2, x3, x4, x5, x6, x7] t := by
  have h1 : Blk (w.setCell ⟨b, 0, none⟩ x0) b #[x0, y1, y2, y3, y4, y5, y6, y7] t := Blk.set h 0 x0
  have h2 : Blk ((w.setCell ⟨b, 0, none⟩ x0).setCell ⟨b, 1, none⟩ x1) b #[x0, x1, y2, y3, y4, y5, y6, y7] t := Blk.set h1 1 x1
  have h3 : Blk (((w.setCell ⟨b, 0, none⟩ x0).setCell ⟨b, 1, none⟩ x1).setCell ⟨b, 2, none⟩ x2) b #[x0, x1, x2, y3, y4, y5, y6, y7] t := Blk.set h2 2 x2
  have h4 : Blk ((((w.setCell ⟨b, 0, none⟩ x0).setCell ⟨b, 1, none⟩ x1).setCell ⟨b, 2, none⟩ x2).setCell ⟨b, 3, none⟩ x3) b #[x0, x1, x2, x3, y4, y5, y6, y7] t := Blk.set h3 3 x3
  have h5 : Blk (((((w.setCell ⟨b, 0, none⟩ x0).setCell ⟨b, 1, none⟩ x1).setCell ⟨b, 2, none⟩ x2).setCell ⟨b, 3, none⟩ x3).setCell ⟨b, 4, none⟩ x4) b #[x0, x1, x2, x3, x4, y5, y6, y7] t := Blk.set h4 4 x4
  have h6 : Blk ((((((w.setCell ⟨b, 0, none⟩ x0).setCell ⟨b, 1, none⟩ x1).setCell ⟨b, 2, none⟩ x2).setCell ⟨b, 3, none⟩ x3).setCell ⟨b, 4, none⟩ x4).setCell ⟨b, 5, none⟩ x5) b #[x0, x1, x2, x3, x4, x5, y6, y7] t := Blk.set h5 5 x5
  have h7 : Blk (((((((w.setCell ⟨b, 0, none⟩ x0).setCell ⟨b, 1, none⟩ x1).setCell ⟨b, 2, none⟩ x2).setCell ⟨b, 3, none⟩ x3).setCell ⟨b, 4, none⟩ x4).setCell ⟨b, 5, none⟩ x5).setCell ⟨b, 6, none⟩ x6) b #[x0, x1, x2, x3, x4, x5, x6, y7] t := Blk.set h6 6 x6
  have h8 : Blk ((((((((w.setCell ⟨b, 0, none⟩ x0).setCell ⟨b, 1, none⟩ x1).setCell ⟨b, 2, none⟩ x2).setCell ⟨b, 3, none⟩ x3).setCell ⟨b, 4, none⟩ x4).setCell ⟨b, 5, none⟩ x5).setCell ⟨b, 6, none⟩ x6).setCell ⟨b, 7, none⟩ x7) b #[x0, x1, x2, x3, x4, x5, x6, x7] t := Blk.set h7 7 x7
  exact h8
/-- What a block of eight cells reads. -/
theorem Blk.eight (h : Blk w b #[y0, y1, y2, y3, y4, y5, y6, y7] t) : b < w.heap.size ∧ w.cell? ⟨b, 0, none⟩ = some y0 ∧ w.cell? ⟨b, 1, none⟩ = some y1 ∧ w.cell? ⟨b, 2, none⟩ = some y2 ∧ w.cell? ⟨b, 3, none⟩ = some y3 ∧ w.cell? ⟨b, 4, none⟩ = some y4 ∧ w.cell? ⟨b, 5, none⟩ = some y5 ∧ w.cell? ⟨b, 6, none⟩ = some y6 ∧ w.cell? ⟨b, 7, none⟩ = some y7 :=
  ⟨h.lt, h.cell rfl, h.cell rfl, h.cell rfl, h.cell rfl, h.cell rfl, h.cell rfl, h.cell rfl, h.cell rfl⟩
theorem Blk.eightF (h : Blk w b #[y0, y1, y2, y3, y4, y5, y6, y7] t) : w.frozen? ⟨b, 0, none⟩ = false ∧ w.frozen? ⟨b, 1, none⟩ = false ∧ w.frozen? ⟨b, 2, none⟩ = false ∧ w.frozen? ⟨b, 3, none⟩ = false ∧ w.frozen? ⟨b, 4, none⟩ = false ∧ w.frozen? ⟨b, 5, none⟩ = false ∧ w.frozen? ⟨b, 6, none⟩ = false ∧ w.frozen? ⟨b, 7, none⟩ = false :=
  ⟨h.frozen 0, h.frozen 1, h.frozen 2, h.frozen 3, h.frozen 4, h.frozen 5, h.frozen 6, h.frozen 7⟩
end
/-- The three rows of a run of the call's own. -/
structure Rows3 (w : World) (lo : Nat) (A : Option Addr) (n c : Nat) (B : Option Addr) (m d : Nat) (C : Option Addr) (j k : Nat) (vs ev : List Int) (nx : List Nat) : Prop where
  v : w.ownsRow lo 3 1 (.slice A n c) n (vi vs)
  e : w.ownsRow lo 3 1 (.slice B m d) m (vi ev)
  x : w.ownsRow lo 5 1 (.slice C j k) j (vb nx)
  ap : (Value.slice A n c).ownBlock = none ∨ (Value.slice B m d).ownBlock ≠ (Value.slice A n c).ownBlock
theorem Rows3.below {w w' : World} {lo n c m d j k : Nat} {A B C : Option Addr} {vs ev : List Int} {nx : List Nat} (h : Rows3 w lo A n c B m d C j k vs ev nx) (hb : Below w.heap.size w w') : Rows3 w' lo A n c B m d C j k vs ev nx := ⟨own_below h.v hb, own_below h.e hb, own_below h.x hb, h.ap⟩
theorem Rows3.mono {w : World} {lo lo' n c m d j k : Nat} {A B C : Option Addr} {vs ev : List Int} {nx : List Nat} (h : Rows3 w lo A n c B m d C j k vs ev nx) (hl : lo' ≤ lo) : Rows3 w lo' A n c B m d C j k vs ev nx := ⟨own_monoG h.v hl, own_monoG h.e hl, own_monoG h.x hl, h.ap⟩
theorem Rows3.len {w : World} {lo n c m d j k : Nat} {A B C : Option Addr} {vs ev : List Int} {nx : List Nat} (h : Rows3 w lo A n c B m d C j k vs ev nx) : vs.length = n ∧ ev.length = m ∧ nx.length = j := by
  have h1 := h.v.1; have h2 := h.e.1; have h3 := h.x.1
  rw [vi_len] at h1 h2
  rw [vb_length] at h3
  omega
/-- A new run. -/
def MadeR (w : World) (p s it : Int) (dn : Bool) (n m : Nat) (nn : Int) (j : Nat) (vs ev : List Int) (nx : List Nat) (e : Ending) (w' : World) : Prop :=
  ∃ A c B d C k, e = .returned (.agg #[.int .i64 p, .int .i64 s, .int .i64 it, .bool dn, .slice A n c, .slice B m d, .int .i64 nn, .slice C j k]) ∧ Rows3 w' w.heap.size A n c B m d C j k vs ev nx ∧ Below w.heap.size w w'
/-- A run that stands in a block of its own, with rows of its own; all of it at lo and above. -/
structure RSt (w : World) (lo b : Nat) (p s it : Int) (dn : Bool) (A : Option Addr) (n c : Nat) (B : Option Addr) (m d : Nat) (nn : Int) (C : Option Addr) (j k : Nat) (vs ev : List Int) (nx : List Nat) : Prop where
  bx : Blk w b #[.int .i64 p, .int .i64 s, .int .i64 it, .bool dn, .slice A n c, .slice B m d, .int .i64 nn, .slice C j k] 39
  v : w.ownsRow lo 3 1 (.slice A n c) n (vi vs)
  e : w.ownsRow lo 3 1 (.slice B m d) m (vi ev)
  x : w.ownsRow lo 5 1 (.slice C j k) j (vb nx)
  ap : (Value.slice A n c).ownBlock = none ∨ (Value.slice B m d).ownBlock ≠ (Value.slice A n c).ownBlock
  lb : lo ≤ b
section
variable {w w' : World} {lo b n c m d j k : Nat} {p s it nn : Int} {dn : Bool} {A B C : Option Addr} {vs ev : List Int} {nx : List Nat}
theorem RSt.below (h : RSt w lo b p s it dn A n c B m d nn C j k vs ev nx) (hb : Below w.heap.size w w') : RSt w' lo b p s it dn A n c B m d nn C j k vs ev nx :=
  ⟨h.bx.below hb, own_below h.v hb, own_below h.e hb, own_below h.x hb, h.ap, h.lb⟩
theorem RSt.mono (h : RSt w lo b p s it dn A n c B m d nn C j k vs ev nx) {lo' : Nat} (hl : lo' ≤ lo) : RSt w lo' b p s it dn A n c B m d nn C j k vs ev nx :=
  ⟨h.bx, own_monoG h.v hl, own_monoG h.e hl, own_monoG h.x hl, h.ap, Nat.le_trans hl h.lb⟩
theorem RSt.rows (h : RSt w lo b p s it dn A n c B m d nn C j k vs ev nx) : Rows3 w lo A n c B m d C j k vs ev nx := ⟨h.v, h.e, h.x, h.ap⟩
theorem RSt.nl (h : RSt w lo b p s it dn A n c B m d nn C j k vs ev nx) : vs.length = n ∧ ev.length = m ∧ nx.length = j := by
  have h1 := h.v.1; have h2 := h.e.1; have h3 := h.x.1
  rw [vi_len] at h1 h2
  rw [vb_length] at h3
  omega
/-- Another block of the call's own is written. -/
theorem RSt.other (h : RSt w lo b p s it dn A n c B m d nn C j k vs ev nx) {g : Nat} (hg : w.grownBy w' (some g)) (h0 : g ≠ b) (h1 : (Value.slice A n c).ownBlock ≠ some g) (h2 : (Value.slice B m d).ownBlock ≠ some g) (h3 : (Value.slice C j k).ownBlock ≠ some g) : RSt w' lo b p s it dn A n c B m d nn C j k vs ev nx :=
  ⟨h.bx.grown hg (fun e => h0 (by injection e)), own_kept h.v hg h1, own_kept h.e hg h2, own_kept h.x hg h3, h.ap, h.lb⟩
theorem RSt.parts (h : RSt w lo b p s it dn A n c B m d nn C j k vs ev nx) : (b < w.heap.size ∧ w.cell? ⟨b, 0, none⟩ = some (.int .i64 p) ∧ w.cell? ⟨b, 1, none⟩ = some (.int .i64 s) ∧ w.cell? ⟨b, 2, none⟩ = some (.int .i64 it) ∧ w.cell? ⟨b, 3, none⟩ = some (.bool dn) ∧ w.cell? ⟨b, 4, none⟩ = some (.slice A n c) ∧ w.cell? ⟨b, 5, none⟩ = some (.slice B m d) ∧ w.cell? ⟨b, 6, none⟩ = some (.int .i64 nn) ∧ w.cell? ⟨b, 7, none⟩ = some (.slice C j k)) ∧ (∀ i, w.frozen? ⟨b, i, none⟩ = false) :=
  ⟨h.bx.eight, fun i => h.bx.frozen i⟩
end
end Go.Proofs.YtpgnappddddlpaaGreatDoor
namespace Go.Proofs.YtpgnappddddlpaaGreatDoor
open Go.RowKit

def Apart (a b : Dat) : Prop := a.v.ownBlock = none ∨ a.v.ownBlock ≠ b.v.ownBlock

/-- Slices of bytes of the call's own. -/
structure OwnB (w : World) (lo : Nat) (l : List Dat) : Prop where
  own : ∀ d ∈ l, w.ownsRow lo 5 1 d.v d.n (vb d.xs)
  small : ∀ d ∈ l, ∀ x ∈ d.xs, x < 256
  apart : l.Pairwise Apart

section
variable {w w' : World} {lo : Nat} {l m : List Dat}
theorem OwnB.nil : OwnB w lo [] := ⟨by simp, by simp, List.Pairwise.nil⟩
theorem OwnB.kept {row : Option Nat} (h : OwnB w lo l) (hg : w.grownBy w' row) (hne : ∀ d ∈ l, d.v.ownBlock = none ∨ d.v.ownBlock ≠ row) : OwnB w' lo l :=
  ⟨fun d hd => (h.own d hd).kept hg (hne d hd), h.small, h.apart⟩
theorem OwnB.below (h : OwnB w lo l) (hb : Below w.heap.size w w') : OwnB w' lo l :=
  h.kept (grownBy_of_below hb none) (fun d _ => by cases d.v.ownBlock <;> simp)
theorem OwnB.drewN (h : OwnB w lo l) (k : Nat) : OwnB (w.drewN k) lo l := ⟨h.own, h.small, h.apart⟩
theorem OwnB.lt (h : OwnB w lo l) {d : Dat} (hd : d ∈ l) : ∀ k, d.v.ownBlock = some k → lo ≤ k ∧ k < w.heap.size := (h.own d hd).lt
/-- Where the blocks from lo on are as they were. -/
theorem OwnB.keep (h : OwnB w lo l) (hk : ∀ k, lo ≤ k → k < w.heap.size → w'.heap[k]? = w.heap[k]?) : OwnB w' lo l := by
  refine ⟨fun d hd => ?_, h.small, h.apart⟩
  obtain ⟨h1, h2⟩ := h.own d hd
  refine ⟨h1, ?_⟩
  rcases h2 with h2 | ⟨g, cap, cur, e, hb, hg, r⟩
  · exact .inl h2
  · exact .inr ⟨g, cap, cur, e, hb, (hk g hb (lt_of_block hg)).trans hg, r⟩
theorem OwnB.ok (h : OwnB w lo l) : ∀ d ∈ l, d.Ok w := fun d hd => by
  have ho := h.own d hd
  exact ⟨Rd.of_own ho (h.small d hd), own_cap ho⟩
theorem OwnB.append (h : OwnB w lo l) (k : OwnB w lo m) (hx : ∀ a ∈ l, ∀ b ∈ m, Apart a b) : OwnB w lo (l ++ m) :=
  ⟨fun d hd => by rcases List.mem_append.1 hd with hd | hd; exact h.own d hd; exact k.own d hd,
   fun d hd => by rcases List.mem_append.1 hd with hd | hd; exact h.small d hd; exact k.small d hd,
   List.pairwise_append.2 ⟨h.apart, k.apart, hx⟩⟩
theorem OwnB.one {d : Dat} (h : w.ownsRow lo 5 1 d.v d.n (vb d.xs)) (hs : ∀ x ∈ d.xs, x < 256) : OwnB w lo [d] :=
  ⟨fun e he => by simp at he; subst he; exact h, fun e he => by simp at he; subst he; exact hs, by simp⟩
theorem OwnB.mono {lo' : Nat} (h : OwnB w lo l) (hl : lo' ≤ lo) : OwnB w lo' l :=
  ⟨fun d hd => by
    obtain ⟨h1, h2⟩ := h.own d hd
    refine ⟨h1, ?_⟩
    rcases h2 with h2 | ⟨g, cap, cur, e, hb, r⟩
    · exact .inl h2
    · exact .inr ⟨g, cap, cur, e, by omega, r⟩, h.small, h.apart⟩
theorem OwnB.left (h : OwnB w lo (l ++ m)) : OwnB w lo l := ⟨fun d hd => h.own d (List.mem_append_left _ hd), fun d hd => h.small d (List.mem_append_left _ hd), (List.pairwise_append.1 h.apart).1⟩
theorem OwnB.right (h : OwnB w lo (l ++ m)) : OwnB w lo m := ⟨fun d hd => h.own d (List.mem_append_right _ hd), fun d hd => h.small d (List.mem_append_right _ hd), (List.pairwise_append.1 h.apart).2.1⟩
end

section
variable {w w' : World} {lo c : Nat} {A : Option Addr} {es : List Ent} {os : List OpE}
end

section
variable {w w' : World} {lo c d : Nat} {A B : Option Addr} {es : List Ent} {os : List OpE}
end

end Go.Proofs.YtpgnappddddlpaaGreatDoor
namespace Go.Proofs.YtpgnappddddlpaaGreatDoor
open Go.RowKit

/-- The marks from k on. -/
def marksK (k n : Nat) : List Nat := (List.range n).map fun i => (k + i) % 256
theorem marksK_length (k n : Nat) : (marksK k n).length = n := by simp [marksK]
theorem marksK_small (k n : Nat) : ∀ x ∈ marksK k n, x < 256 := by
  intro x hx
  simp only [marksK, List.mem_map] at hx
  obtain ⟨i, _, rfl⟩ := hx
  omega
theorem marksK_get (k n i : Nat) (h : i < n) : (marksK k n)[i]? = some ((k + i) % 256) := by simp [marksK, h]
def markedK (k : Nat) (xs : List Nat) (i : Nat) : List Nat := marksK k i ++ xs.drop i
theorem markedK_zero (k : Nat) (xs : List Nat) : markedK k xs 0 = xs := by simp [markedK, marksK]
theorem markedK_full (k : Nat) (xs : List Nat) : markedK k xs xs.length = marksK k xs.length := by simp [markedK]
theorem markedK_step (k : Nat) (xs : List Nat) (i : Nat) (h : i < xs.length) : (vb (markedK k xs i)).set i (.int .u8 (((k + i) % 256 : Nat) : Int)) = vb (markedK k xs (i + 1)) := by
  have : (markedK k xs i).set i ((k + i) % 256) = markedK k xs (i + 1) := by
    unfold markedK
    rw [List.set_append_right _ _ (by simp [marksK_length]), marksK_length, Nat.sub_self, List.drop_eq_getElem_cons h, List.set_cons_zero]
    rw [marksK, marksK, List.range_succ, List.map_append, List.append_assoc]
    rfl
  rw [← this]
  simp [vb, List.map_set]

def MarkedK (w : World) (base k : Nat) (A : Option Addr) (n c : Nat) (e : Ending) (w' : World) : Prop :=
  e = .returned (.int .i64 ((k + n : Nat) : Int)) ∧ w'.ownsRow base 5 1 (.slice A n c) n (vb (marksK k n)) ∧ w.grownBy w' (Value.slice A n c).ownBlock

set_option maxHeartbeats 400000 in
theorem markB_any (A : Option Addr) (n c base k : Nat) (xs : List Nat) (w : World) (ho : w.ownsRow base 5 1 (.slice A n c) n (vb xs)) (hn : n ≤ 2097152) (hk : k ≤ 8388608) :
    Calls Tryz.prog 44 #[.slice A n c, .int .i64 (k : Int)] w (MarkedK w base k A n c) := by
  have hl : xs.length = n := by have := ho.1; rw [vb_length] at this; omega
  rcases Nat.eq_zero_or_pos n with h0 | h0
  · subst h0
    obtain rfl : xs = [] := List.eq_nil_of_length_eq_zero hl
    have HO := Lib.hid ho
    clear ho hl
    go_enter Tryz.func44, Tryz.ntmps44
    go_wp2
    refine wp_loop_rounds 1 ?_
    rw [rounds_succ]
    go_wp2
    go_ret
    exact ⟨rfl, HO.out, World.grownBy.refl _ _⟩
  · obtain ⟨g, cap, hv, hbase, hlt⟩ := ho.form h0
    obtain ⟨rfl, -, rfl⟩ : A = some ⟨g, 0, none⟩ ∧ n = n ∧ c = cap := by injection hv with e1 e2 e3; exact ⟨e1, e2, e3⟩
    clear hv
    have HL := Lib.hid hl
    have ho0 : w.ownsRow base 5 1 (.slice (some ⟨g, 0, none⟩) n c) n (vb (markedK k xs 0)) := by rw [markedK_zero]; exact ho
    clear hl ho
    go_enter Tryz.func44, Tryz.ntmps44
    go_wp2
    go_loopw [1, 5] (fun t i wr => ∃ j : Nat, j ≤ n ∧ i = .int .i64 j ∧ t = .int .i64 ((k + j : Nat) : Int) ∧ wr.ownsRow base 5 1 (.slice (some ⟨g, 0, none⟩) n c) n (vb (markedK k xs j)) ∧ w.grownBy wr (some g)) (fun _ i _ => n - (intOf i).toNat)
    case atStart => exact ⟨0, Nat.zero_le _, rfl, rfl, ho0, World.grownBy.refl _ _⟩
    case round =>
      obtain ⟨j, hj, rfl, rfl, hown, hgr⟩ := hrel
      by_cases hlt2 : j < n
      · have hl2 : j < (vb (markedK k xs j)).length := by rw [hown.1]; omega
        have hcell2 : wr.cell? ⟨g, j, none⟩ = some (vb (markedK k xs j))[j] := by rw [hown.cellAt j (by omega), List.getElem?_eq_getElem hl2]
        have hfr := hown.frozenAt j
        have hst := hown.stored j (.int .u8 (((k + j) % 256 : Nat) : Int))
        rw [markedK_step k xs j (by rw [HL.out]; exact hlt2)] at hst
        have hst1 := Lib.hid hst.1
        have hg2 := grownBy_trans hgr hst.2
        generalize (vb (markedK k xs j))[j] = old at hcell2
        clear hst hown hl2
        go_wp2
        go_roundw
        case rel => exact ⟨j + 1, by omega, by go_num, by go_num, hst1.out, hg2⟩
        case measure => simp [intOf]; omega
      · obtain rfl : j = n := by omega
        go_wp2
        go_ret
        have e := HL.out
        subst e
        rw [markedK_full] at hown
        exact ⟨rfl, hown, hgr⟩

set_option maxHeartbeats 400000 in
theorem heldB_any (A : Option Addr) (n c k : Nat) (w : World) (hr : Rd w A n (marksK k n)) (hn : n ≤ 2097152) (hk : k ≤ 8388608) :
    Calls Tryz.prog 46 #[.slice A n c, .int .i64 (k : Int)] w fun e w' => e = .returned (.int .i64 ((k + n : Nat) : Int)) ∧ w = w' := by
  go_enter Tryz.func46, Tryz.ntmps46
  go_wp2
  go_loop [1, 5] (fun t i => ∃ j : Nat, j ≤ n ∧ i = .int .i64 j ∧ t = .int .i64 ((k + j : Nat) : Int)) (fun _ i => n - (intOf i).toNat)
  case atStart => exact ⟨0, Nat.zero_le _, rfl, rfl⟩
  case round =>
    obtain ⟨j, hj, rfl, rfl⟩ := hrel
    by_cases hlt : j < n
    · obtain ⟨b, off, x, rfl, hbw, hx, hxs, hc⟩ := hr.at_ hlt
      obtain rfl : (k + j) % 256 = x := by have := (marksK_get k n j hlt).symm.trans hxs.out; injection this
      go_wp2
      go_round
      case rel => exact ⟨j + 1, by omega, by go_num, by go_num⟩
      case measure => simp [intOf]; omega
    · obtain rfl : j = n := by omega
      go_wp2
      go_ret
      exact ⟨rfl, rfl⟩

/-- Nothing old is written but in the blocks S. -/
structure Only (S : Nat → Prop) (w w' : World) : Prop where
  os : w'.os = w.os
  tape : w'.tape = w.tape
  output : w'.output = w.output
  size : w.heap.size ≤ w'.heap.size
  block : ∀ b, b < w.heap.size → ¬ S b → w'.heap[b]? = w.heap[b]?
theorem Only.refl (S : Nat → Prop) (w : World) : Only S w w := ⟨rfl, rfl, rfl, Nat.le_refl _, fun _ _ _ => rfl⟩
theorem Only.trans {S : Nat → Prop} {a b c : World} (h : Only S a b) (k : Only S b c) : Only S a c :=
  ⟨k.os.trans h.os, k.tape.trans h.tape, k.output.trans h.output, Nat.le_trans h.size k.size, fun i hi hn => (k.block i (Nat.lt_of_lt_of_le hi h.size) hn).trans (h.block i hi hn)⟩
theorem Only.grown {S : Nat → Prop} {a b c : World} {row : Option Nat} (h : Only S a b) (k : b.grownBy c row) (hr : ∀ i, row = some i → S i) : Only S a c :=
  h.trans ⟨k.os, k.tape, k.output, k.size, fun i hi hn => k.block i hi (fun e => hn (hr i e.symm))⟩
theorem Only.below {S : Nat → Prop} {a b c : World} (h : Only S a b) (k : Below b.heap.size b c) : Only S a c :=
  h.trans ⟨k.os, k.tape, k.output, k.size, fun i hi _ => k.block i hi⟩
theorem Only.mono {S T : Nat → Prop} {a b : World} (h : Only S a b) (hs : ∀ i, S i → T i) : Only T a b :=
  ⟨h.os, h.tape, h.output, h.size, fun i hi hn => h.block i hi (fun hh => hn (hs i hh))⟩
theorem Only.drewN {S : Nat → Prop} {a b : World} (h : Only S a b) (n : Nat) : Only S a (b.drewN n) := ⟨h.os, h.tape, h.output, h.size, h.block⟩

end Go.Proofs.YtpgnappddddlpaaGreatDoor
namespace Go.Proofs.YtpgnappddddlpaaGreatDoor
open Go.RowKit

structure KE where
  f : Int
  t : Int
  w : Int
  i : Int
  v : Int
def KE.cells (e : KE) : List Value := [.int .i64 e.f, .int .i64 e.t, .int .i64 e.w, .int .i64 e.i, .int .i64 e.v]
theorem KE.cells_len (e : KE) : e.cells.length = 5 := rfl
theorem KE.cells_one (e : KE) : ∀ u ∈ e.cells, u.oneCell' = true := by
  intro u hu
  simp [KE.cells] at hu
  rcases hu with rfl | rfl | rfl | rfl | rfl <;> rfl
/-- A slice of shard edges in memory. -/
structure SlK (w : World) (A : Option Addr) (n : Nat) (es : List KE) : Prop where
  len : es.length = n
  row : Row w 5 A n (es.flatMap KE.cells)
section
variable {w w' : World} {n c lo e : Nat} {A : Option Addr} {es : List KE}
theorem SlK.keep (h : SlK w A n es) (hs : w.heap.size ≤ w'.heap.size) (hk : ∀ i, i < w.heap.size → w'.heap[i]? = w.heap[i]?) : SlK w' A n es := ⟨h.len, h.row.keep hs hk⟩
theorem SlK.below (h : SlK w A n es) (hb : Below w.heap.size w w') : SlK w' A n es := h.keep hb.size hb.block
theorem SlK.drewN (h : SlK w A n es) (m : Nat) : SlK (w.drewN m) A n es := ⟨h.len, h.row.drewN m⟩
theorem SlK.nil : SlK w A 0 [] := ⟨rfl, Row.nil⟩
/-- The edge at place j, its five cells. -/
theorem SlK.at_ {j : Nat} (h : SlK w A n es) (hj : j < n) : ∃ (b off : Nat) (e : KE), A = some ⟨b, off, none⟩ ∧ b < w.heap.size ∧ Hid (es[j]? = some e) ∧
    w.cell? ⟨b, off + j * 5, none⟩ = some (.int .i64 e.f) ∧ w.cell? ⟨b, off + j * 5 + 1, none⟩ = some (.int .i64 e.t) ∧ w.cell? ⟨b, off + j * 5 + 2, none⟩ = some (.int .i64 e.w) ∧
    w.cell? ⟨b, off + j * 5 + 3, none⟩ = some (.int .i64 e.i) ∧ w.cell? ⟨b, off + j * 5 + 4, none⟩ = some (.int .i64 e.v) := by
  obtain ⟨b, off, rfl, hb, hc⟩ := h.row.lies (by omega)
  have hl : j < es.length := by have := h.len; omega
  have he : es[j]? = some es[j] := List.getElem?_eq_getElem hl
  refine ⟨b, off, es[j], rfl, hb, he, ?_, ?_, ?_, ?_, ?_⟩
  · exact hc (j * 5) _ (flat_get KE.cells 5 KE.cells_len es j 0 _ he (by omega))
  · exact hc (j * 5 + 1) _ (flat_get KE.cells 5 KE.cells_len es j 1 _ he (by omega))
  · exact hc (j * 5 + 2) _ (flat_get KE.cells 5 KE.cells_len es j 2 _ he (by omega))
  · exact hc (j * 5 + 3) _ (flat_get KE.cells 5 KE.cells_len es j 3 _ he (by omega))
  · exact hc (j * 5 + 4) _ (flat_get KE.cells 5 KE.cells_len es j 4 _ he (by omega))
theorem SlK.of_own (h : w.ownsRow lo e 5 (.slice A n c) n (es.flatMap KE.cells)) (hl : es.length = n) : SlK w A n es := ⟨hl, Row.of_own h⟩
end
/-! ### marks -/
end Go.Proofs.YtpgnappddddlpaaGreatDoor
namespace Go.Proofs.YtpgnappddddlpaaGreatDoor
open Go.RowKit

/-- A block that holds a shard. -/
structure HBox (w : World) (b : Nat) (lo hi : Int) (A : Option Addr) (n c : Nat) : Prop where
  lt : b < w.heap.size
  c0 : w.cell? ⟨b, 0, none⟩ = some (.int .i64 lo)
  c1 : w.cell? ⟨b, 1, none⟩ = some (.int .i64 hi)
  c2 : w.cell? ⟨b, 2, none⟩ = some (.slice A n c)
section
variable {w w' : World} {b n c : Nat} {lo hi : Int} {A : Option Addr}
theorem HBox.keep (h : HBox w b lo hi A n c) (hs : w.heap.size ≤ w'.heap.size) (hk : w'.heap[b]? = w.heap[b]?) : HBox w' b lo hi A n c :=
  ⟨Nat.lt_of_lt_of_le h.lt hs, (World.cell?_of_block (a := ⟨b, 0, none⟩) hk).trans h.c0, (World.cell?_of_block (a := ⟨b, 1, none⟩) hk).trans h.c1, (World.cell?_of_block (a := ⟨b, 2, none⟩) hk).trans h.c2⟩
theorem HBox.below (h : HBox w b lo hi A n c) (hb : Below w.heap.size w w') : HBox w' b lo hi A n c := h.keep hb.size (hb.block b h.lt)
theorem HBox.new (w : World) (lo hi : Int) (A : Option Addr) (n c : Nat) (t : TypeId) : HBox (w.alloc (.cells #[.int .i64 lo, .int .i64 hi, .slice A n c] t)) w.heap.size lo hi A n c := ⟨by simp, by simp, by simp, by simp⟩
theorem HBox.alloc (h : HBox w b lo hi A n c) (o : Obj) : HBox (w.alloc o) b lo hi A n c := h.below (below_a1 w o)
theorem HBox.drew (h : HBox w b lo hi A n c) : HBox w.drew b lo hi A n c := ⟨h.lt, h.c0, h.c1, h.c2⟩
end
end Go.Proofs.YtpgnappddddlpaaGreatDoor
namespace Go.Proofs.YtpgnappddddlpaaGreatDoor
open Go.RowKit

end Go.Proofs.YtpgnappddddlpaaGreatDoor
namespace Go.Proofs.YtpgnappddddlpaaGreatDoor
open Go.RowKit

/-- The marks. -/
def marks (n : Nat) : List Nat := (List.range n).map fun i => (i + 1) % 256
end Go.Proofs.YtpgnappddddlpaaGreatDoor
namespace Go.Proofs.YtpgnappddddlpaaGreatDoor
open Go.RowKit

/-! ### marks -/
/-- The edges from k on bear the marks. -/
def markG (k : Nat) : List GE → List GE
  | [] => []
  | _ :: r => ⟨k, k + 1, k + 2⟩ :: markG (k + 3) r
def ints (k n : Nat) : List Int := (List.range n).map fun i => ((k + i : Nat) : Int)
theorem ints_len (k n : Nat) : (ints k n).length = n := by simp [ints]
theorem ints_get (k n i : Nat) (h : i < n) : (ints k n)[i]? = some ((k + i : Nat) : Int) := by simp [ints, h]
/-- The first i of a list bear marks. -/
def markI (k : Nat) (xs : List Int) (i : Nat) : List Int := ints k i ++ xs.drop i
theorem markI_zero (k : Nat) (xs : List Int) : markI k xs 0 = xs := by simp [markI, ints]
theorem markI_full (k : Nat) (xs : List Int) : markI k xs xs.length = ints k xs.length := by simp [markI]
theorem markI_step (k : Nat) (xs : List Int) (i : Nat) (h : i < xs.length) : (vi (markI k xs i)).set i (.int .i64 ((k + i : Nat) : Int)) = vi (markI k xs (i + 1)) := by
  have hd : xs.drop i = xs[i] :: xs.drop (i + 1) := List.drop_eq_getElem_cons h
  unfold markI
  rw [hd, vi_append, vi_append]
  rw [List.set_append_right _ _ (by rw [vi_len, ints_len]; exact Nat.le_refl _), vi_len, ints_len, Nat.sub_self]
  have : ints k (i + 1) = ints k i ++ [((k + i : Nat) : Int)] := by simp [ints, List.range_succ]
  rw [this, vi_append, List.append_assoc]
  rfl
def MarkedI (w : World) (lo k : Nat) (A : Option Addr) (n c : Nat) (e : Ending) (w' : World) : Prop :=
  e = .returned (.int .i64 ((k + n : Nat) : Int)) ∧ w'.ownsRow lo 3 1 (.slice A n c) n (vi (ints k n)) ∧ w.grownBy w' (Value.slice A n c).ownBlock

/-! ### marks in edges -/
theorem markG_len : ∀ (es : List GE) (k : Nat), (markG k es).length = es.length
  | [], _ => rfl
  | _ :: r, k => by rw [markG, List.length_cons, markG_len r, List.length_cons]
theorem markG_snoc : ∀ (es : List GE) (k : Nat) (e : GE), markG k (es ++ [e]) = markG k es ++ [⟨(k + 3 * es.length : Nat), (k + 3 * es.length : Nat) + 1, (k + 3 * es.length : Nat) + 2⟩]
  | [], k, _ => by simp [markG]
  | _ :: r, k, e => by
    rw [List.cons_append, markG, markG_snoc r (k + 3) e, markG, List.cons_append, List.length_cons, show k + 3 + 3 * r.length = k + 3 * (r.length + 1) by omega]
end Go.Proofs.YtpgnappddddlpaaGreatDoor
namespace Go.Proofs.YtpgnappddddlpaaGreatDoor
open Go.RowKit

theorem eqEdge_any (e : GE) (w : World) :
    Calls Tryz.prog 67 #[.agg #[.int .i64 e.f, .int .i64 e.t, .int .i64 e.w], .agg #[.int .i64 e.f, .int .i64 e.t, .int .i64 e.w]] w (GTell w true) := by
  go_enter Tryz.func67, Tryz.ntmps67
  go_wp2
  go_ret
  exact ⟨rfl, below_a2 _ _ _⟩

set_option maxRecDepth 10000 in
set_option maxHeartbeats 1000000 in
theorem eqEdges_any (A B : Option Addr) (n c d : Nat) (es : List GE) (w : World) (ha : SlG w A n es) (hb : SlG w B n es) (hn : n ≤ 2097152) :
    Calls Tryz.prog 41 #[.slice A n c, .slice B n d] w (GTell w true) := by
  have HA := Lib.hid ha
  have HB := Lib.hid hb
  have CE := Lib.hid (fun e W => eqEdge_any e W)
  clear ha hb
  go_enter Tryz.func41, Tryz.ntmps41
  go_wp2
  go_loopw [5] (fun i wr => ∃ k : Nat, k ≤ n ∧ i = .int .i64 k ∧ Hid (Below w.heap.size w wr)) (fun i _ => n - (intOf i).toNat)
  case atStart => exact ⟨0, Nat.zero_le _, rfl, Lib.hid (Below.refl _ _)⟩
  case round =>
    obtain ⟨k, hk, rfl, hbel⟩ := hrel
    by_cases hlt : k < n
    · obtain ⟨b, off, e, rfl, hbw, he, c0, c1, c2⟩ := HA.out.at_ hlt
      obtain ⟨b', off', e', rfl, hbw', he', c0', c1', c2'⟩ := HB.out.at_ hlt
      have hee : e' = e := by have h1 := he.out; rw [he'.out] at h1; injection h1
      subst hee
      have c0 := (hbel.out.cell (p := ⟨b, off + k * 3, none⟩) hbw).trans c0
      have c1 := (hbel.out.cell (p := ⟨b, off + k * 3 + 1, none⟩) hbw).trans c1
      have c2 := (hbel.out.cell (p := ⟨b, off + k * 3 + 2, none⟩) hbw).trans c2
      have c0' := (hbel.out.cell (p := ⟨b', off' + k * 3, none⟩) hbw').trans c0'
      have c1' := (hbel.out.cell (p := ⟨b', off' + k * 3 + 1, none⟩) hbw').trans c1'
      have c2' := (hbel.out.cell (p := ⟨b', off' + k * 3 + 2, none⟩) hbw').trans c2'
      clear he he'
      go_wp2
      go_region_with (go_at_call 67; ((with_reducible refine (CE.out e' _).mono ?_)); rintro e1 w1 ⟨rfl, hb1⟩)
      all_goals
        go_wp2
        go_roundw
        case rel => exact ⟨k + 1, by omega, by go_num, Lib.hid (by first | exact g_chain hbel.out hb1 | exact g_chain hbel.out.drew hb1 | exact (g_chain hbel.out.drew hb1).drew)⟩
        case measure => simp [intOf]; omega
    · go_wp2
      go_ret
      exact ⟨rfl, hbel.out⟩
theorem eqGraph_any (N : Int) (A B : Option Addr) (n c d : Nat) (es : List GE) (w : World) (ha : SlG w A n es) (hb : SlG w B n es) (hn : n ≤ 2097152) :
    Calls Tryz.prog 14 #[.agg #[.int .i64 N, .slice A n c], .agg #[.int .i64 N, .slice B n d]] w (GTell w true) := by
  have CE := Lib.hid (fun W (h : Below w.heap.size w W) => eqEdges_any A B n c d es W (ha.below h) (hb.below h) hn)
  clear ha hb
  go_enter Tryz.func14, Tryz.ntmps14
  go_wp2_with fail
  refine (CE.out _ (below_a2 _ _ _)).mono ?_
  rintro e w1 ⟨rfl, hb1⟩
  go_wp2
  go_ret
  exact ⟨rfl, g_chain (below_a2 _ _ _) hb1⟩

def MarkedG (w : World) (lo k : Nat) (A : Option Addr) (n c : Nat) (es : List GE) (e : Ending) (w' : World) : Prop :=
  e = .returned (.int .i64 ((k + 3 * n : Nat) : Int)) ∧ w'.ownsRow lo 86 3 (.slice A n c) n ((markG k es).flatMap GE.cells) ∧ w.grownBy w' (Value.slice A n c).ownBlock

set_option maxRecDepth 10000 in
set_option maxHeartbeats 1000000 in
theorem markEdges_any (A : Option Addr) (n c lo k : Nat) (es : List GE) (w : World) (ho : w.ownsRow lo 86 3 (.slice A n c) n (es.flatMap GE.cells)) (hl : es.length = n) (hn : n ≤ 2097152) (hk : k ≤ 8388608) :
    Calls Tryz.prog 42 #[.slice A n c, .int .i64 (k : Int)] w (MarkedG w lo k A n c es) := by
  have HL := Lib.hid hl
  rcases Nat.eq_zero_or_pos n with rfl | hpos
  · obtain rfl : es = [] := List.eq_nil_of_length_eq_zero hl
    have HO := Lib.hid ho
    clear ho hl
    go_enter Tryz.func42, Tryz.ntmps42
    go_wp2
    go_loopw [1, 5] (fun q i wr => i = .int .i64 0 ∧ q = .int .i64 (k : Int) ∧ wr = w) (fun _ _ _ => 0)
    case atStart => exact ⟨rfl, rfl, rfl⟩
    case round =>
      obtain ⟨rfl, rfl, rfl⟩ := hrel
      go_wp2
      go_ret
      exact ⟨rfl, HO.out, World.grownBy.refl _ _⟩
  · obtain ⟨g, rfl⟩ := g_own_at ho hpos
    have HO : Hid (w.ownsRow lo 86 3 (.slice (some ⟨g, 0, none⟩) n c) n ((markG k (es.take 0) ++ es.drop 0).flatMap GE.cells)) := Lib.hid ho
    clear ho hl
    go_enter Tryz.func42, Tryz.ntmps42
    go_wp2
    go_loopw [1, 5] (fun q i wr => ∃ j : Nat, j ≤ n ∧ i = .int .i64 j ∧ q = .int .i64 ((k + 3 * j : Nat) : Int) ∧ Hid (wr.ownsRow lo 86 3 (.slice (some ⟨g, 0, none⟩) n c) n ((markG k (es.take j) ++ es.drop j).flatMap GE.cells)) ∧ Hid (w.grownBy wr (some g))) (fun _ i _ => n - (intOf i).toNat)
    case atStart => exact ⟨0, Nat.zero_le _, rfl, rfl, HO, Lib.hid (World.grownBy.refl _ _)⟩
    case round =>
      clear HO
      obtain ⟨j, hj, rfl, rfl, hown, hgr⟩ := hrel
      by_cases hlt : j < n
      · obtain ⟨e, he⟩ : ∃ e, es[j]? = some e := ⟨es[j]'(by rw [HL.out]; exact hlt), List.getElem?_eq_getElem _⟩
        have hmk : (markG k (es.take j)).length = j := by rw [markG_len, List.length_take, HL.out]; omega
        have hown2 := hown.out
        rw [g_drop es j e he] at hown2
        have hq := fun i (hi : i < 3) => (hown2.cellAt (j * 3 + i) (by omega)).trans (flat_get GE.cells 3 GE.cells_len _ j i e (g_get _ _ _ _ hmk) hi)
        have hc0 : wr.cell? ⟨g, j * 3, none⟩ = some (.int .i64 e.f) := hq 0 (by omega)
        have hc1 : wr.cell? ⟨g, j * 3 + 1, none⟩ = some (.int .i64 e.t) := hq 1 (by omega)
        have hc2 : wr.cell? ⟨g, j * 3 + 2, none⟩ = some (.int .i64 e.w) := hq 2 (by omega)
        have hf0 := hown2.frozenAt (j * 3)
        have hf1 := hown2.frozenAt (j * 3 + 1)
        have hf2 := hown2.frozenAt (j * 3 + 2)
        have HS := Lib.hid (g_lay (e := ⟨((k + 3 * j : Nat) : Int), ((k + 3 * j : Nat) : Int) + 1, ((k + 3 * j : Nat) : Int) + 2⟩) hown2 hmk)
        have hb1 : ((k + 3 * j : Nat) : Int) + 1 + 1 = ((k + 3 * j : Nat) : Int) + 2 := by omega
        have HE := Lib.hid he
        clear hown hown2 hq he hmk
        have hq0 : k + 3 * j ≤ 20000000 := by omega
        obtain ⟨q, hq⟩ : ∃ q, q = k + 3 * j := ⟨_, rfl⟩
        rw [← hq] at HS hb1 hq0
        have HQ := Lib.hid hq
        simp only [← hq]
        clear hq
        go_wp2
        go_roundw
        case rel =>
          refine ⟨j + 1, by omega, by go_num, ?_, Lib.hid ?_, Lib.hid (hgr.out.trans ?_)⟩
          · have := HQ.out
            exact congrArg (Value.int .i64) (by first | omega | (simp only [IntKind.wrap_i64]; omega))
          · have h := HS.out.1
            rw [g_take es j e HE.out, markG_snoc, List.length_take, HL.out, show min j n = j by omega, ← HQ.out, List.append_assoc]
            exact h
          · exact HS.out.2
        case measure => simp [intOf]; omega
      · obtain rfl : j = n := by omega
        go_wp2
        go_ret
        refine ⟨rfl, ?_, hgr.out⟩
        have h := hown.out
        rw [List.take_of_length_le (by rw [HL.out]; exact Nat.le_refl _), List.drop_eq_nil_of_le (by rw [HL.out]; exact Nat.le_refl _), List.append_nil] at h
        exact h
theorem markGraph_any (N : Int) (A : Option Addr) (n c lo k : Nat) (es : List GE) (w : World) (ho : w.ownsRow lo 86 3 (.slice A n c) n (es.flatMap GE.cells)) (hl : es.length = n) (hn : n ≤ 2097152) (hk : k ≤ 8388608) :
    Calls Tryz.prog 15 #[.agg #[.int .i64 N, .slice A n c], .int .i64 (k : Int)] w fun e w' => e = .returned (.int .i64 ((k + 3 * n : Nat) : Int)) ∧ w.grownBy w' (Value.slice A n c).ownBlock := by
  have C := Lib.hid (fun W (h : Below w.heap.size w W) => markEdges_any A n c lo k es W (own_below ho h) hl hn hk)
  clear ho
  go_enter Tryz.func15, Tryz.ntmps15
  go_wp2_with fail
  refine (C.out _ (below_a1 _ _)).mono ?_
  rintro e w1 ⟨rfl, ho1, hg1⟩
  have HG := Lib.hid (grownBy_trans (grownBy_of_below (below_a1 w (.cells #[.int .i64 N, .slice A n c] 44)) _) hg1)
  clear ho1 hg1
  go_wp2
  go_ret
  exact ⟨rfl, HG.out⟩
end Go.Proofs.YtpgnappddddlpaaGreatDoor
namespace Go.Proofs.YtpgnappddddlpaaGreatDoor
open Go.RowKit

set_option maxRecDepth 10000 in
set_option maxHeartbeats 1000000 in
theorem eqInts_any (A B : Option Addr) (n c d : Nat) (xs : List Int) (w : World) (ha : SlI w A n xs) (hb : SlI w B n xs) (hn : n ≤ 2097152) :
    Calls Tryz.prog 39 #[.slice A n c, .slice B n d] w (GTell w true) := by
  have HA := Lib.hid ha
  have HB := Lib.hid hb
  clear ha hb
  go_enter Tryz.func39, Tryz.ntmps39
  go_wp2
  go_loopw [5] (fun i wr => ∃ k : Nat, k ≤ n ∧ i = .int .i64 k ∧ Hid (Below w.heap.size w wr)) (fun i _ => n - (intOf i).toNat)
  case atStart => exact ⟨0, Nat.zero_le _, rfl, Lib.hid (Below.refl _ _)⟩
  case round =>
    obtain ⟨k, hk, rfl, hbel⟩ := hrel
    by_cases hlt : k < n
    · obtain ⟨b, off, e, rfl, hbw, he, c0⟩ := HA.out.at_ hlt
      obtain ⟨b', off', e', rfl, hbw', he', c0'⟩ := HB.out.at_ hlt
      have hee : e' = e := by have h1 := he.out; rw [he'.out] at h1; injection h1
      subst hee
      have c0 := (hbel.out.cell (p := ⟨b, off + k, none⟩) hbw).trans c0
      have c0' := (hbel.out.cell (p := ⟨b', off' + k, none⟩) hbw').trans c0'
      clear he he'
      go_wp2
      go_region
      go_wp2
      go_roundw
      case rel => exact ⟨k + 1, by omega, by go_num, Lib.hid (by first | exact hbel.out | exact hbel.out.drew | exact hbel.out.drew.drew)⟩
      case measure => simp [intOf]; omega
    · go_wp2
      go_ret
      exact ⟨rfl, hbel.out⟩

set_option maxRecDepth 10000 in
set_option maxHeartbeats 1000000 in
theorem markInts_any (A : Option Addr) (n c lo k : Nat) (xs : List Int) (w : World) (ho : w.ownsRow lo 3 1 (.slice A n c) n (vi xs)) (hn : n ≤ 2097152) (hk : k ≤ 8388608) :
    Calls Tryz.prog 43 #[.slice A n c, .int .i64 (k : Int)] w (MarkedI w lo k A n c) := by
  have hl : xs.length = n := by have := ho.1; rw [vi_len] at this; omega
  have HL := Lib.hid hl
  rcases Nat.eq_zero_or_pos n with rfl | hpos
  · obtain rfl : xs = [] := List.eq_nil_of_length_eq_zero hl
    have HO := Lib.hid ho
    clear ho hl
    go_enter Tryz.func43, Tryz.ntmps43
    go_wp2
    go_loopw [1, 5] (fun q i wr => i = .int .i64 0 ∧ q = .int .i64 (k : Int) ∧ wr = w) (fun _ _ _ => 0)
    case atStart => exact ⟨rfl, rfl, rfl⟩
    case round =>
      obtain ⟨rfl, rfl, rfl⟩ := hrel
      go_wp2
      go_ret
      exact ⟨rfl, HO.out, World.grownBy.refl _ _⟩
  · obtain ⟨g, rfl⟩ := g_own_at ho hpos
    have HO : Hid (w.ownsRow lo 3 1 (.slice (some ⟨g, 0, none⟩) n c) n (vi (markI k xs 0))) := Lib.hid (by rw [markI_zero]; exact ho)
    clear ho hl
    go_enter Tryz.func43, Tryz.ntmps43
    go_wp2
    go_loopw [1, 5] (fun q i wr => ∃ j : Nat, j ≤ n ∧ i = .int .i64 j ∧ q = .int .i64 ((k + j : Nat) : Int) ∧ Hid (wr.ownsRow lo 3 1 (.slice (some ⟨g, 0, none⟩) n c) n (vi (markI k xs j))) ∧ Hid (w.grownBy wr (some g))) (fun _ i _ => n - (intOf i).toNat)
    case atStart => exact ⟨0, Nat.zero_le _, rfl, rfl, HO, Lib.hid (World.grownBy.refl _ _)⟩
    case round =>
      clear HO
      obtain ⟨j, hj, rfl, rfl, hown, hgr⟩ := hrel
      by_cases hlt : j < n
      · have hc := hown.out.cellAt j (by omega)
        have hx : (vi (markI k xs j))[j]? = some (.int .i64 (xs[j]'(by rw [HL.out]; exact hlt))) := by
          rw [vi_get]
          unfold markI
          rw [List.getElem?_append_right (by rw [ints_len]; exact Nat.le_refl _), ints_len, Nat.sub_self, List.getElem?_drop, Nat.add_zero, List.getElem?_eq_getElem]
          rfl
        have hc0 := hc.trans hx
        have hf0 := hown.out.frozenAt j
        have HS := Lib.hid (hown.out.stored j (.int .i64 ((k + j : Nat) : Int)))
        rw [markI_step k xs j (by rw [HL.out]; exact hlt)] at HS
        clear hc hx hown
        go_wp2
        go_roundw
        case rel => exact ⟨j + 1, by omega, by go_num, by go_num, Lib.hid HS.out.1, Lib.hid (hgr.out.trans HS.out.2)⟩
        case measure => simp [intOf]; omega
      · obtain rfl : j = n := by omega
        go_wp2
        go_ret
        refine ⟨rfl, ?_, hgr.out⟩
        have h := hown.out
        rw [show markI k xs j = ints k j by rw [← HL.out, markI_full]] at h
        exact h

set_option maxRecDepth 10000 in
set_option maxHeartbeats 1000000 in
theorem heldInts_any (A : Option Addr) (n c k : Nat) (w : World) (hr : SlI w A n (ints k n)) (hn : n ≤ 2097152) (hk : k ≤ 8388608) :
    Calls Tryz.prog 45 #[.slice A n c, .int .i64 (k : Int)] w fun e w' => e = .returned (.int .i64 ((k + n : Nat) : Int)) ∧ w = w' := by
  have HR := Lib.hid hr
  clear hr
  go_enter Tryz.func45, Tryz.ntmps45
  go_wp2
  go_loopw [1, 5] (fun q i wr => ∃ j : Nat, j ≤ n ∧ i = .int .i64 j ∧ q = .int .i64 ((k + j : Nat) : Int) ∧ wr = w) (fun _ i _ => n - (intOf i).toNat)
  case atStart => exact ⟨0, Nat.zero_le _, rfl, by rfl, by first | rfl | trivial⟩
  case round =>
    obtain ⟨j, hj, rfl, rfl, rfl⟩ := hrel
    by_cases hlt : j < n
    · obtain ⟨b, off, e, rfl, hbw, he, c0⟩ := HR.out.at_ hlt
      obtain rfl : e = ((k + j : Nat) : Int) := by have h1 := he.out; rw [ints_get k n j hlt] at h1; injection h1 with h1; exact h1.symm
      go_wp2
      go_roundw
      case rel => exact ⟨j + 1, by omega, by go_num, by go_num, by first | rfl | trivial⟩
      case measure => simp [intOf]; omega
    · obtain rfl : j = n := by omega
      go_wp2
      go_ret
      exact ⟨rfl, rfl⟩

end Go.Proofs.YtpgnappddddlpaaGreatDoor
namespace Go.Proofs.YtpgnappddddlpaaGreatDoor
open Go.RowKit

end Go.Proofs.YtpgnappddddlpaaGreatDoor
