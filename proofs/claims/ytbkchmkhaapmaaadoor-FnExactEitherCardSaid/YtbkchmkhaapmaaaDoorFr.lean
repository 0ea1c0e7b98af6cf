/- Frames: the contracts of the laws' helpers on them (measures, copies, comparisons), of the functions that ask whether a frame is valid, the opening of an argument that is a frame. -/
import Derived.Test.YtbkchmkhaapmaaaDoorEnt
import Derived.Test.YtbkchmkhaapmaaaDoorCopy
import Derived.Test.YtbkchmkhaapmaaaDoorDeep
import Derived.Deep.QuietTactic
import Derived.BigQuiet
namespace Go.Proofs.YtbkchmkhaapmaaaDoor
open Go.RowKit

/-- A number, a truth value, and the old memory as it was. -/
def FNum (w : World) (b : Int) (e : Ending) (w' : World) : Prop := e = .returned (.int .i64 b) ∧ Below w.heap.size w w'
def FTell (w : World) (b : Bool) (e : Ending) (w' : World) : Prop := e = .returned (.bool b) ∧ Below w.heap.size w w'
def leftN (left : Int) (n : Nat) : Int := if (n : Int) ≤ left then left - n else -1
theorem leftN_pos {left : Int} {n : Nat} (h : (n : Int) ≤ left) : leftN left n = left - n := if_pos h
theorem leftN_neg {left : Int} {n : Nat} (h : left < (n : Int)) : leftN left n = -1 := if_neg (by omega)
theorem fr_int {k : IntKind} {a b : Int} (h : a = b) : Ending.returned (.int k a) = .returned (.int k b) := by rw [h]
theorem fr_bool {a b : Bool} (h : a = b) : Ending.returned (.bool a) = .returned (.bool b) := by rw [h]
theorem fr_chain {w W W' : World} (h : Below w.heap.size w W) (k : Below W.heap.size W W') : Below w.heap.size w W' := h.trans (k.mono h.size)

/-- A new frame. -/
def MadeFr (w : World) (kind : Int) (xs : List Nat) (e : Ending) (w' : World) : Prop :=
  ∃ A c, e = .returned (.agg #[.int .i64 kind, .slice A xs.length c]) ∧ w'.ownsRow w.heap.size 5 1 (.slice A xs.length c) xs.length (vb xs) ∧ Below w.heap.size w w'
theorem keep_row {w w' : World} {lo e size n : Nat} {v : Value} {xs : List Value} (h : w.ownsRow lo e size v n xs) (hk : ∀ k, lo ≤ k → k < w.heap.size → w'.heap[k]? = w.heap[k]?) : w'.ownsRow lo e size v n xs := by
  obtain ⟨h1, h2⟩ := h
  refine ⟨h1, ?_⟩
  rcases h2 with h2 | ⟨g, cap, cur, e, hb, hg, r⟩
  · exact .inl h2
  · exact .inr ⟨g, cap, cur, e, hb, (hk g hb (lt_of_block hg)).trans hg, r⟩
theorem low_row {w : World} {lo e size n : Nat} {v : Value} {xs : List Value} (h : w.ownsRow lo e size v n xs) {p : Addr} (hp : p.block < lo) (u : Value) : (w.setCell p u).ownsRow lo e size v n xs :=
  keep_row h (fun k hk _ => Below.heap_setCell w p u k (by omega))
theorem base_row {w : World} {lo lo' e size n : Nat} {v : Value} {xs : List Value} (h : w.ownsRow lo e size v n xs) (hl : lo' ≤ lo) : w.ownsRow lo' e size v n xs := by
  obtain ⟨h1, h2⟩ := h
  refine ⟨h1, ?_⟩
  rcases h2 with h2 | ⟨g, cap, cur, e, hb, r⟩
  · exact .inl h2
  · exact .inr ⟨g, cap, cur, e, by omega, r⟩

/-! ### valid frames -/
def frOk (kind : Int) (n : Nat) : Bool := decide (1 ≤ kind ∧ kind ≤ 3) && decide (n ≤ 60000)
/-! ### an argument that is a frame -/
def ySh : Sh := .sl (.int .u8)
def frSh : Sh := .pair (.int .i64) ySh
theorem RdR.daty {lo hi : Nat} {w : World} {cs : List Value} {ds : List Int} (h : RdR lo hi w ySh cs ds) (hh : hi ≤ w.heap.size) : ∃ d : Dat, cs = [.slice d.A d.n d.c] ∧ d.Ok w ∧ d.n ≤ maxLen := by
  obtain ⟨A, n, c, e1, e2, e3, e4, h⟩ := h
  have hlen : List.length (α := Int) ds = n := e2
  have hw : ∀ d ∈ ds, 0 ≤ d ∧ d ≤ 255 := by
    intro d hd
    obtain ⟨j, hj, he⟩ := List.getElem_of_mem hd
    obtain ⟨b, off, _, _, _, hall⟩ := h (by omega)
    obtain ⟨es, _, _, hr⟩ := hall j d (by rw [← he]; exact List.getElem?_eq_getElem hj)
    exact bounds_u8 hr.2
  refine ⟨⟨A, n, c, ds.map Int.toNat⟩, e1, ⟨⟨?_, ?_, fun h0 => ?_⟩, e3⟩, by show n ≤ maxLen; omega⟩
  · rw [List.length_map]; exact e2
  · intro x hx
    obtain ⟨d, hd, rfl⟩ := List.mem_map.1 hx
    have := hw d hd
    omega
  · obtain ⟨b, off, eA, _, hb, hall⟩ := h h0
    refine ⟨b, off, eA, by omega, fun j x hx => ?_⟩
    rw [List.getElem?_map] at hx
    obtain ⟨d, hd, rfl⟩ := Option.map_eq_some_iff.1 hx
    obtain ⟨es, hl, hc, hr⟩ := hall j d hd
    obtain ⟨he, hwf⟩ := hr
    subst he
    have := hc 0 _ rfl
    have hbd := bounds_u8 hwf
    rw [Int.toNat_of_nonneg hbd.1]
    have e4 : (Sh.int IntKind.u8).size = 1 := rfl
    rw [e4, Nat.mul_one, Nat.add_zero] at this
    exact this
section
variable {H : Type} {enc : TypeId × Value → H} {w : World} {base : Nat} {spare : Nat → Bool} {held : Bool}
theorem Tryd.cellsY : Tryd.prog.cellsOf 5 = 1 := by kernel_rfl
theorem Tryd.cellsSY : Tryd.prog.cellsOf 22 = 1 := by kernel_rfl
theorem Tryd.cellsIn : Tryd.prog.cellsOf 3 = 1 := by kernel_rfl
theorem opensY : Opens enc Tryd.prog w base spare held 22 ySh := opens_sl Tryd.underlying22 Tryd.cellsY (by decide) (opens_int Tryd.underlying5)
end
/-- A frame that came in. -/
structure FrIn (w : World) (kind : Int) (d : Dat) : Prop where
  kind : (Lit.int .i64 kind).wf = true
  ok : d.Ok w
  le : d.n ≤ maxLen
end Go.Proofs.YtbkchmkhaapmaaaDoor
