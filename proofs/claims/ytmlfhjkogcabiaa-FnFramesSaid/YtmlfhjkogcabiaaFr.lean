/- Frames: the contracts of the laws' helpers on them (measures, copies, comparisons), of the functions that ask whether a frame is valid, the opening of an argument that is a frame. -/
import Derived.Test.YtmlfhjkogcabiaaEnt
import Derived.Test.YtmlfhjkogcabiaaCopy
import Derived.Test.YtmlfhjkogcabiaaDeep
import Derived.Deep.QuietTactic
import Derived.BigQuiet
namespace Go.Proofs.Ytmlfhjkogcabiaa
open Go.RowKit

/-- A number, a truth value, and the old memory as it was. -/
def FNum (w : World) (b : Int) (e : Ending) (w' : World) : Prop := e = .returned (.int .i64 b) ∧ Below w.heap.size w w'
def FTell (w : World) (b : Bool) (e : Ending) (w' : World) : Prop := e = .returned (.bool b) ∧ Below w.heap.size w w'
def leftN (left : Int) (n : Nat) : Int := if (n : Int) ≤ left then left - n else -1
theorem leftN_pos {left : Int} {n : Nat} (h : (n : Int) ≤ left) : leftN left n = left - n := if_pos h
theorem leftN_neg {left : Int} {n : Nat} (h : left < (n : Int)) : leftN left n = -1 := if_neg (by omega)
theorem fr_int {k : IntKind} {a b : Int} (h : a = b) : Ending.returned (.int k a) = .returned (.int k b) := by rw [h]
theorem fr_bool {a b : Bool} (h : a = b) : Ending.returned (.bool a) = .returned (.bool b) := by rw [h]
theorem fr_chain {w W W' : World} (h : Below w.heap.size w W) (k : Below W.heap.size W W') : Below w.heap.size w W' := h.trans (k.mono h.size)

/-- A new frame. -/
def MadeFr (w : World) (kind : Int) (xs : List Nat) (e : Ending) (w' : World) : Prop :=
  ∃ A c, e = .returned (.agg #[.int .i64 kind, .slice A xs.length c]) ∧ w'.ownsRow w.heap.size 5 1 (.slice A xs.length c) xs.length (vb xs) ∧ Below w.heap.size w w'
theorem keep_row {w w' : World} {lo e size n : Nat} {v : Value} {xs : List Value} (h : w.ownsRow lo e size v n xs) (hk : ∀ k, lo ≤ k → k < w.heap.size → w'.heap[k]? = w.heap[k]?) : w'.ownsRow lo e size v n xs := by
  obtain ⟨h1, h2⟩ := h
  refine ⟨h1, ?_⟩
  rcases h2 with h2 | ⟨g, cap, cur, e, hb, hg, r⟩
  · exact .inl h2
  · exact .inr ⟨g, cap, cur, e, hb, (hk g hb (lt_of_block hg)).trans hg, r⟩
theorem low_row {w : World} {lo e size n : Nat} {v : Value} {xs : List Value} (h : w.ownsRow lo e size v n xs) {p : Addr} (hp : p.block < lo) (u : Value) : (w.setCell p u).ownsRow lo e size v n xs :=
  keep_row h (fun k hk _ => Below.heap_setCell w p u k (by omega))
theorem base_row {w : World} {lo lo' e size n : Nat} {v : Value} {xs : List Value} (h : w.ownsRow lo e size v n xs) (hl : lo' ≤ lo) : w.ownsRow lo' e size v n xs := by
  obtain ⟨h1, h2⟩ := h
  refine ⟨h1, ?_⟩
  rcases h2 with h2 | ⟨g, cap, cur, e, hb, r⟩
  · exact .inl h2
  · exact .inr ⟨g, cap, cur, e, by omega, r⟩

set_option maxHeartbeats 400000 in
theorem eqFr_any (kind : Int) (a b : Dat) (w : World) (ha : a.Ok w) (hb : b.Ok w) (hx : a.xs = b.xs) (hn : a.n ≤ 2097152) :
    Calls Try.prog 54 #[.agg #[.int .i64 kind, .slice a.A a.n a.c], .agg #[.int .i64 kind, .slice b.A b.n b.c]] w (FTell w true) := by
  have hnn : a.n = b.n := by rw [← ha.rd.len, ← hb.rd.len, hx]
  have C := Lib.hid (fun w' (h : Below w.heap.size w w') => same_any a.A b.A a.n a.c b.c a.xs w' (ha.rd.below h) (by rw [hnn, hx]; exact hb.rd.below h) hn)
  obtain ⟨A1, n1, c1, xs1⟩ := a
  obtain ⟨A2, n2, c2, xs2⟩ := b
  simp only at hnn hx
  subst hnn hx
  clear ha hb
  go_enter Try.func54, Try.ntmps54
  go_wp2_with fail
  refine (C.out _ (below_a2 _ _ _)).mono ?_
  rintro e w1 ⟨rfl, k, rfl⟩
  go_wp2
  go_ret
  exact ⟨rfl, below_drewN (below_a2 _ _ _) k⟩

/-! ### valid frames -/
def frOk (kind : Int) (n : Nat) : Bool := decide (1 ≤ kind ∧ kind ≤ 3) && decide (n ≤ 60000)
theorem kindOk_any (kind : Int) (w : World) : Calls Try.prog 73 #[.int .i64 kind] w fun e w' => e = .returned (.bool (decide (1 ≤ kind ∧ kind ≤ 3))) ∧ w = w' := by
  by_cases h : kind = 1 ∨ kind = 2 ∨ kind = 3
  · have hd : decide (1 ≤ kind ∧ kind ≤ 3) = true := by simp; omega
    rw [hd]
    rcases h with rfl | rfl | rfl
    all_goals
      go_enter Try.func73, Try.ntmps73
      go_wp2
      go_ret
      exact ⟨rfl, rfl⟩
  · have hd : decide (1 ≤ kind ∧ kind ≤ 3) = false := by simp; omega
    have e1 : (kind == 1) = false := by simp; omega
    have e2 : (kind == 2) = false := by simp; omega
    have e3 : (kind == 3) = false := by simp; omega
    rw [hd]
    clear hd h
    go_enter Try.func73, Try.ntmps73
    go_wp2
    go_ret
    exact ⟨rfl, rfl⟩
theorem implFrOk (kind : Int) (A : Option Addr) (n c : Nat) (w : World) (hn : n ≤ 1048576) :
    Calls Try.prog 49 #[.agg #[.int .i64 kind, .slice A n c]] w (FTell w (frOk kind n)) := by
  have C := Lib.hid (fun W => kindOk_any kind W)
  unfold frOk
  by_cases h : 1 ≤ kind ∧ kind ≤ 3
  · have hd : decide (1 ≤ kind ∧ kind ≤ 3) = true := by simp; omega
    rw [hd] at C ⊢
    clear hd h
    by_cases hl : n ≤ 60000
    · have hd : decide (n ≤ 60000) = true := by simp; omega
      have hd2 : decide ((n : Int) ≤ 60000) = true := by simp; omega
      rw [hd]
      go_enter Try.func49, Try.ntmps49
      go_wp2_with fail
      refine (C.out _).mono ?_
      rintro e w1 ⟨rfl, rfl⟩
      go_wp2
      go_ret
      exact ⟨rfl, below_a1 _ _⟩
    · have hd : decide (n ≤ 60000) = false := by simp; omega
      have hd2 : decide ((n : Int) ≤ 60000) = false := by simp; omega
      rw [hd]
      go_enter Try.func49, Try.ntmps49
      go_wp2_with fail
      refine (C.out _).mono ?_
      rintro e w1 ⟨rfl, rfl⟩
      go_wp2
      go_ret
      exact ⟨rfl, below_a1 _ _⟩
  · have hd : decide (1 ≤ kind ∧ kind ≤ 3) = false := by simp; omega
    rw [hd] at C ⊢
    clear hd h
    go_enter Try.func49, Try.ntmps49
    go_wp2_with fail
    refine (C.out _).mono ?_
    rintro e w1 ⟨rfl, rfl⟩
    go_wp2
    go_ret
    exact ⟨rfl, below_a1 _ _⟩
theorem specFrOk (kind : Int) (A : Option Addr) (n c : Nat) (w : World) (hn : n ≤ 1048576) :
    Calls Try.prog 90 #[.agg #[.int .i64 kind, .slice A n c]] w (FTell w (frOk kind n)) := by
  unfold frOk
  by_cases h : 1 ≤ kind
  · by_cases h3 : kind ≤ 3
    · have hd : decide (1 ≤ kind ∧ kind ≤ 3) = true := by simp; omega
      by_cases hl : n ≤ 60000
      · have hl1 : decide (n ≤ 60000) = true := by simp; omega
        have hl2 : decide ((n : Int) ≤ 60000) = true := by simp; omega
        rw [hd, hl1]
        clear hd
        go_enter Try.func90, Try.ntmps90
        go_wp2
        go_ret
        exact ⟨rfl, below_a1 _ _⟩
      · have hl1 : decide (n ≤ 60000) = false := by simp; omega
        have hl2 : decide ((n : Int) ≤ 60000) = false := by simp; omega
        rw [hd, hl1]
        clear hd
        go_enter Try.func90, Try.ntmps90
        go_wp2
        go_ret
        exact ⟨rfl, below_a1 _ _⟩
    · have hd : decide (1 ≤ kind ∧ kind ≤ 3) = false := by simp; omega
      have h3' : 3 < kind := by omega
      rw [hd]
      clear hd h3
      go_enter Try.func90, Try.ntmps90
      go_wp2
      go_ret
      exact ⟨rfl, below_a1 _ _⟩
  · have hd : decide (1 ≤ kind ∧ kind ≤ 3) = false := by simp; omega
    have h' : kind < 1 := by omega
    rw [hd]
    clear hd h
    go_enter Try.func90, Try.ntmps90
    go_wp2
    go_ret
    exact ⟨rfl, below_a1 _ _⟩

/-! ### an argument that is a frame -/
def ySh : Sh := .sl (.int .u8)
def frSh : Sh := .pair (.int .i64) ySh
theorem RdR.daty {lo hi : Nat} {w : World} {cs : List Value} {ds : List Int} (h : RdR lo hi w ySh cs ds) (hh : hi ≤ w.heap.size) : ∃ d : Dat, cs = [.slice d.A d.n d.c] ∧ d.Ok w ∧ d.n ≤ maxLen := by
  obtain ⟨A, n, c, e1, e2, e3, e4, h⟩ := h
  have hlen : List.length (α := Int) ds = n := e2
  have hw : ∀ d ∈ ds, 0 ≤ d ∧ d ≤ 255 := by
    intro d hd
    obtain ⟨j, hj, he⟩ := List.getElem_of_mem hd
    obtain ⟨b, off, _, _, _, hall⟩ := h (by omega)
    obtain ⟨es, _, _, hr⟩ := hall j d (by rw [← he]; exact List.getElem?_eq_getElem hj)
    exact bounds_u8 hr.2
  refine ⟨⟨A, n, c, ds.map Int.toNat⟩, e1, ⟨⟨?_, ?_, fun h0 => ?_⟩, e3⟩, by show n ≤ maxLen; omega⟩
  · rw [List.length_map]; exact e2
  · intro x hx
    obtain ⟨d, hd, rfl⟩ := List.mem_map.1 hx
    have := hw d hd
    omega
  · obtain ⟨b, off, eA, _, hb, hall⟩ := h h0
    refine ⟨b, off, eA, by omega, fun j x hx => ?_⟩
    rw [List.getElem?_map] at hx
    obtain ⟨d, hd, rfl⟩ := Option.map_eq_some_iff.1 hx
    obtain ⟨es, hl, hc, hr⟩ := hall j d hd
    obtain ⟨he, hwf⟩ := hr
    subst he
    have := hc 0 _ rfl
    have hbd := bounds_u8 hwf
    rw [Int.toNat_of_nonneg hbd.1]
    have e4 : (Sh.int IntKind.u8).size = 1 := rfl
    rw [e4, Nat.mul_one, Nat.add_zero] at this
    exact this
section
variable {H : Type} {enc : TypeId × Value → H} {w : World} {base : Nat} {spare : Nat → Bool} {held : Bool}
theorem Try.cellsY : Try.prog.cellsOf 5 = 1 := by kernel_rfl
theorem Try.cellsSY : Try.prog.cellsOf 22 = 1 := by kernel_rfl
theorem Try.cellsIn : Try.prog.cellsOf 3 = 1 := by kernel_rfl
theorem opensY : Opens enc Try.prog w base spare held 22 ySh := opens_sl Try.underlying22 Try.cellsY (by decide) (opens_int Try.underlying5)
end
/-- A frame that came in. -/
structure FrIn (w : World) (kind : Int) (d : Dat) : Prop where
  kind : (Lit.int .i64 kind).wf = true
  ok : d.Ok w
  le : d.n ≤ maxLen
end Go.Proofs.Ytmlfhjkogcabiaa
