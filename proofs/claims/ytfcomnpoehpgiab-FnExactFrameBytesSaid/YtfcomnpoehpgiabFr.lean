/- Frames: the contracts of the laws' helpers on them (measures, copies, comparisons), of the functions that ask whether a frame is valid, the opening of an argument that is a frame. -/
import Derived.Test.YtfcomnpoehpgiabEnt
import Derived.Test.YtfcomnpoehpgiabCopy
import Derived.Test.YtfcomnpoehpgiabDeep
import Derived.Deep.QuietTactic
import Derived.BigQuiet
namespace Go.Proofs.Ytfcomnpoehpgiab
open Go.RowKit

/-- A number, a truth value, and the old memory as it was. -/
def FNum (w : World) (b : Int) (e : Ending) (w' : World) : Prop := e = .returned (.int .i64 b) ∧ Below w.heap.size w w'
def FTell (w : World) (b : Bool) (e : Ending) (w' : World) : Prop := e = .returned (.bool b) ∧ Below w.heap.size w w'
def leftN (left : Int) (n : Nat) : Int := if (n : Int) ≤ left then left - n else -1
theorem leftN_pos {left : Int} {n : Nat} (h : (n : Int) ≤ left) : leftN left n = left - n := if_pos h
theorem leftN_neg {left : Int} {n : Nat} (h : left < (n : Int)) : leftN left n = -1 := if_neg (by omega)
theorem fr_int {k : IntKind} {a b : Int} (h : a = b) : Ending.returned (.int k a) = .returned (.int k b) := by rw [h]
theorem fr_bool {a b : Bool} (h : a = b) : Ending.returned (.bool a) = .returned (.bool b) := by rw [h]
theorem fr_chain {w W W' : World} (h : Below w.heap.size w W) (k : Below W.heap.size W W') : Below w.heap.size w W' := h.trans (k.mono h.size)

theorem szY_any (A : Option Addr) (n c : Nat) (left : Int) (w : World) (hn : n ≤ maxLen) (h0 : 0 ≤ left) (h1 : left ≤ 1048576) :
    Calls Try.prog 38 #[.slice A n c, .int .i64 left] w fun e w' => e = .returned (.int .i64 (leftN left n)) ∧ w = w' := by
  unfold maxLen at hn
  by_cases h : (n : Int) ≤ left
  · have HV := Lib.hid (leftN_pos h)
    have h2 : 0 ≤ left - (n : Int) := by omega
    go_enter Try.func38, Try.ntmps38
    go_wp2
    go_ret
    exact ⟨fr_int HV.out.symm, rfl⟩
  · have HV := Lib.hid (leftN_neg (n := n) (left := left) (by omega))
    have h2 : left - (n : Int) < 0 := by omega
    go_enter Try.func38, Try.ntmps38
    go_wp2
    go_ret
    exact ⟨fr_int HV.out.symm, rfl⟩
theorem szFr_any (kind : Int) (A : Option Addr) (n c : Nat) (left : Int) (w : World) (hn : n ≤ maxLen) (h0 : 0 ≤ left) (h1 : left ≤ 1048576) :
    Calls Try.prog 13 #[.agg #[.int .i64 kind, .slice A n c], .int .i64 left] w (FNum w (leftN left n)) := by
  have C := Lib.hid (fun w => szY_any A n c left w hn h0 h1)
  have HL : Hid (leftN left n = if (n : Int) ≤ left then left - n else -1) := Lib.hid rfl
  by_cases h : (n : Int) ≤ left
  · have h2 : 0 ≤ left - (n : Int) := by omega
    have e1 := leftN_pos h
    rw [e1] at C ⊢
    generalize left - (n : Int) = q at C h2 ⊢
    clear e1 h HL
    go_enter Try.func13, Try.ntmps13
    go_wp2_with fail
    refine (C.out _).mono ?_
    rintro e w1 ⟨rfl, rfl⟩
    go_wp2
    go_ret
    exact ⟨rfl, below_a1 _ _⟩
  · have e1 := leftN_neg (n := n) (left := left) (by omega)
    rw [e1] at C ⊢
    clear e1 h HL
    go_enter Try.func13, Try.ntmps13
    go_wp2_with fail
    refine (C.out _).mono ?_
    rintro e w1 ⟨rfl, rfl⟩
    go_wp2
    go_ret
    exact ⟨rfl, below_a1 _ _⟩

/-- A new frame. -/
def MadeFr (w : World) (kind : Int) (xs : List Nat) (e : Ending) (w' : World) : Prop :=
  ∃ A c, e = .returned (.agg #[.int .i64 kind, .slice A xs.length c]) ∧ w'.ownsRow w.heap.size 5 1 (.slice A xs.length c) xs.length (vb xs) ∧ Below w.heap.size w w'
theorem keep_row {w w' : World} {lo e size n : Nat} {v : Value} {xs : List Value} (h : w.ownsRow lo e size v n xs) (hk : ∀ k, lo ≤ k → k < w.heap.size → w'.heap[k]? = w.heap[k]?) : w'.ownsRow lo e size v n xs := by
  obtain ⟨h1, h2⟩ := h
  refine ⟨h1, ?_⟩
  rcases h2 with h2 | ⟨g, cap, cur, e, hb, hg, r⟩
  · exact .inl h2
  · exact .inr ⟨g, cap, cur, e, hb, (hk g hb (lt_of_block hg)).trans hg, r⟩
theorem low_row {w : World} {lo e size n : Nat} {v : Value} {xs : List Value} (h : w.ownsRow lo e size v n xs) {p : Addr} (hp : p.block < lo) (u : Value) : (w.setCell p u).ownsRow lo e size v n xs :=
  keep_row h (fun k hk _ => Below.heap_setCell w p u k (by omega))
theorem base_row {w : World} {lo lo' e size n : Nat} {v : Value} {xs : List Value} (h : w.ownsRow lo e size v n xs) (hl : lo' ≤ lo) : w.ownsRow lo' e size v n xs := by
  obtain ⟨h1, h2⟩ := h
  refine ⟨h1, ?_⟩
  rcases h2 with h2 | ⟨g, cap, cur, e, hb, r⟩
  · exact .inl h2
  · exact .inr ⟨g, cap, cur, e, by omega, r⟩

set_option maxHeartbeats 400000 in
theorem toFr_any (kind : Int) (d : Dat) (w : World) (hr : d.Ok w) (hn : d.n ≤ 2097152) :
    Calls Try.prog 15 #[.agg #[.int .i64 kind, .slice d.A d.n d.c]] w (MadeFr w kind d.xs) := by
  have C := Lib.hid (fun w' (hb : Below w.heap.size w w') => copy_any d.A d.n d.c d.xs w' (hr.rd.below hb) hn)
  have HL := Lib.hid hr.rd.len
  clear hr
  go_enter Try.func15, Try.ntmps15
  go_wp2_with fail
  refine (C.out _ ?_).mono ?_
  · exact below_a3 _ _ _ _
  · rintro e w1 ⟨A1, c1, rfl, ho1, hb1⟩
    obtain ⟨hc, hf⟩ := bcell hb1
    have hz : w.heap.size + 1 + 1 < w1.heap.size := by have := hb1.size; simp at this; omega
    have HB := Lib.hid hb1
    clear hb1
    go_wp2
    refine bodyPost_ret (v := .agg #[.int .i64 kind, .slice A1 d.n c1]) (by simp [results, Try.results15, go_sem, hc]) rfl ⟨A1, c1, by rw [HL.out], ?_, ?_⟩
    · rw [HL.out]
      exact base_row (low_row (low_row (low_row ho1 (by simp) _) (by simp) _) (by simp) _) (by simp; omega)
    · exact ((((below_a3 _ _ _ _).trans (HB.out.mono (by simp; omega))).setCell (by simp; omega) _).setCell (by simp) _).setCell (by simp) _

set_option maxHeartbeats 400000 in
theorem eqFr_any (kind : Int) (a b : Dat) (w : World) (ha : a.Ok w) (hb : b.Ok w) (hx : a.xs = b.xs) (hn : a.n ≤ 2097152) :
    Calls Try.prog 17 #[.agg #[.int .i64 kind, .slice a.A a.n a.c], .agg #[.int .i64 kind, .slice b.A b.n b.c]] w (FTell w true) := by
  have hnn : a.n = b.n := by rw [← ha.rd.len, ← hb.rd.len, hx]
  have C := Lib.hid (fun w' (h : Below w.heap.size w w') => same_any a.A b.A a.n a.c b.c a.xs w' (ha.rd.below h) (by rw [hnn, hx]; exact hb.rd.below h) hn)
  obtain ⟨A1, n1, c1, xs1⟩ := a
  obtain ⟨A2, n2, c2, xs2⟩ := b
  simp only at hnn hx
  subst hnn hx
  clear ha hb
  go_enter Try.func17, Try.ntmps17
  go_wp2_with fail
  refine (C.out _ (below_a2 _ _ _)).mono ?_
  rintro e w1 ⟨rfl, k, rfl⟩
  go_wp2
  go_ret
  exact ⟨rfl, below_drewN (below_a2 _ _ _) k⟩

/-! ### valid frames -/
def frOk (kind : Int) (n : Nat) : Bool := decide (1 ≤ kind ∧ kind ≤ 3) && decide (n ≤ 60000)
theorem kindOk_any (kind : Int) (w : World) : Calls Try.prog 39 #[.int .i64 kind] w fun e w' => e = .returned (.bool (decide (1 ≤ kind ∧ kind ≤ 3))) ∧ w = w' := by
  by_cases h : kind = 1 ∨ kind = 2 ∨ kind = 3
  · have hd : decide (1 ≤ kind ∧ kind ≤ 3) = true := by simp; omega
    rw [hd]
    rcases h with rfl | rfl | rfl
    all_goals
      go_enter Try.func39, Try.ntmps39
      go_wp2
      go_ret
      exact ⟨rfl, rfl⟩
  · have hd : decide (1 ≤ kind ∧ kind ≤ 3) = false := by simp; omega
    have e1 : (kind == 1) = false := by simp; omega
    have e2 : (kind == 2) = false := by simp; omega
    have e3 : (kind == 3) = false := by simp; omega
    rw [hd]
    clear hd h
    go_enter Try.func39, Try.ntmps39
    go_wp2
    go_ret
    exact ⟨rfl, rfl⟩
theorem implFrOk (kind : Int) (A : Option Addr) (n c : Nat) (w : World) (hn : n ≤ 1048576) :
    Calls Try.prog 16 #[.agg #[.int .i64 kind, .slice A n c]] w (FTell w (frOk kind n)) := by
  have C := Lib.hid (fun W => kindOk_any kind W)
  unfold frOk
  by_cases h : 1 ≤ kind ∧ kind ≤ 3
  · have hd : decide (1 ≤ kind ∧ kind ≤ 3) = true := by simp; omega
    rw [hd] at C ⊢
    clear hd h
    by_cases hl : n ≤ 60000
    · have hd : decide (n ≤ 60000) = true := by simp; omega
      have hd2 : decide ((n : Int) ≤ 60000) = true := by simp; omega
      rw [hd]
      go_enter Try.func16, Try.ntmps16
      go_wp2_with fail
      refine (C.out _).mono ?_
      rintro e w1 ⟨rfl, rfl⟩
      go_wp2
      go_ret
      exact ⟨rfl, below_a1 _ _⟩
    · have hd : decide (n ≤ 60000) = false := by simp; omega
      have hd2 : decide ((n : Int) ≤ 60000) = false := by simp; omega
      rw [hd]
      go_enter Try.func16, Try.ntmps16
      go_wp2_with fail
      refine (C.out _).mono ?_
      rintro e w1 ⟨rfl, rfl⟩
      go_wp2
      go_ret
      exact ⟨rfl, below_a1 _ _⟩
  · have hd : decide (1 ≤ kind ∧ kind ≤ 3) = false := by simp; omega
    rw [hd] at C ⊢
    clear hd h
    go_enter Try.func16, Try.ntmps16
    go_wp2_with fail
    refine (C.out _).mono ?_
    rintro e w1 ⟨rfl, rfl⟩
    go_wp2
    go_ret
    exact ⟨rfl, below_a1 _ _⟩
theorem specFrOk (kind : Int) (A : Option Addr) (n c : Nat) (w : World) (hn : n ≤ 1048576) :
    Calls Try.prog 14 #[.agg #[.int .i64 kind, .slice A n c]] w (FTell w (frOk kind n)) := by
  unfold frOk
  by_cases h : 1 ≤ kind
  · by_cases h3 : kind ≤ 3
    · have hd : decide (1 ≤ kind ∧ kind ≤ 3) = true := by simp; omega
      by_cases hl : n ≤ 60000
      · have hl1 : decide (n ≤ 60000) = true := by simp; omega
        have hl2 : decide ((n : Int) ≤ 60000) = true := by simp; omega
        rw [hd, hl1]
        clear hd
        go_enter Try.func14, Try.ntmps14
        go_wp2
        go_ret
        exact ⟨rfl, below_a1 _ _⟩
      · have hl1 : decide (n ≤ 60000) = false := by simp; omega
        have hl2 : decide ((n : Int) ≤ 60000) = false := by simp; omega
        rw [hd, hl1]
        clear hd
        go_enter Try.func14, Try.ntmps14
        go_wp2
        go_ret
        exact ⟨rfl, below_a1 _ _⟩
    · have hd : decide (1 ≤ kind ∧ kind ≤ 3) = false := by simp; omega
      have h3' : 3 < kind := by omega
      rw [hd]
      clear hd h3
      go_enter Try.func14, Try.ntmps14
      go_wp2
      go_ret
      exact ⟨rfl, below_a1 _ _⟩
  · have hd : decide (1 ≤ kind ∧ kind ≤ 3) = false := by simp; omega
    have h' : kind < 1 := by omega
    rw [hd]
    clear hd h
    go_enter Try.func14, Try.ntmps14
    go_wp2
    go_ret
    exact ⟨rfl, below_a1 _ _⟩

/-! ### an argument that is a frame -/
def ySh : Sh := .sl (.int .u8)
def frSh : Sh := .pair (.int .i64) ySh
theorem RdR.daty {lo hi : Nat} {w : World} {cs : List Value} {ds : List Int} (h : RdR lo hi w ySh cs ds) (hh : hi ≤ w.heap.size) : ∃ d : Dat, cs = [.slice d.A d.n d.c] ∧ d.Ok w ∧ d.n ≤ maxLen := by
  obtain ⟨A, n, c, e1, e2, e3, e4, h⟩ := h
  have hlen : List.length (α := Int) ds = n := e2
  have hw : ∀ d ∈ ds, 0 ≤ d ∧ d ≤ 255 := by
    intro d hd
    obtain ⟨j, hj, he⟩ := List.getElem_of_mem hd
    obtain ⟨b, off, _, _, _, hall⟩ := h (by omega)
    obtain ⟨es, _, _, hr⟩ := hall j d (by rw [← he]; exact List.getElem?_eq_getElem hj)
    exact bounds_u8 hr.2
  refine ⟨⟨A, n, c, ds.map Int.toNat⟩, e1, ⟨⟨?_, ?_, fun h0 => ?_⟩, e3⟩, by show n ≤ maxLen; omega⟩
  · rw [List.length_map]; exact e2
  · intro x hx
    obtain ⟨d, hd, rfl⟩ := List.mem_map.1 hx
    have := hw d hd
    omega
  · obtain ⟨b, off, eA, _, hb, hall⟩ := h h0
    refine ⟨b, off, eA, by omega, fun j x hx => ?_⟩
    rw [List.getElem?_map] at hx
    obtain ⟨d, hd, rfl⟩ := Option.map_eq_some_iff.1 hx
    obtain ⟨es, hl, hc, hr⟩ := hall j d hd
    obtain ⟨he, hwf⟩ := hr
    subst he
    have := hc 0 _ rfl
    have hbd := bounds_u8 hwf
    rw [Int.toNat_of_nonneg hbd.1]
    have e4 : (Sh.int IntKind.u8).size = 1 := rfl
    rw [e4, Nat.mul_one, Nat.add_zero] at this
    exact this
section
variable {H : Type} {enc : TypeId × Value → H} {w : World} {base : Nat} {spare : Nat → Bool} {held : Bool}
theorem Try.cellsY : Try.prog.cellsOf 5 = 1 := by kernel_rfl
theorem Try.cellsSY : Try.prog.cellsOf 22 = 1 := by kernel_rfl
theorem Try.cellsIn : Try.prog.cellsOf 3 = 1 := by kernel_rfl
theorem Try.cellsFr : Try.prog.cellsOf 33 = 2 := by kernel_rfl
theorem opensY : Opens enc Try.prog w base spare held 22 ySh := opens_sl Try.underlying22 Try.cellsY (by decide) (opens_int Try.underlying5)
theorem opensFr : Opens enc Try.prog w base spare held 33 frSh :=
  opens_struct Try.underlying33 Try.cellsFr (opensF_cons rfl Try.cellsIn (opens_int Try.underlying3) (opensF_last rfl Try.cellsSY opensY))

/-- A frame that came in. -/
structure FrIn (w : World) (kind : Int) (d : Dat) : Prop where
  kind : (Lit.int .i64 kind).wf = true
  ok : d.Ok w
  le : d.n ≤ maxLen
set_option maxRecDepth 100000 in
theorem open_fr {r : Reach} {b0 : Nat} {v : Value} {d : DataW H} {p : List MemPlace} (hv : Value.okWide Try.prog w r b0 33 v) (h : DataW.Trod enc Try.prog w base spare held 33 v d p) :
    ∃ (kind : Int) (e : Dat), v = .agg #[.int .i64 kind, .slice e.A e.n e.c] ∧ FrIn w kind e := by
  obtain ⟨cs, rfl, _⟩ := Go.WideShapes.okWide_struct Try.underlying33 hv
  obtain ⟨fuel, hf⟩ := h
  obtain ⟨x, hx⟩ := opensFr _ _ _ hf
  obtain ⟨c1, c2, hcs, _, ⟨hk, hwf⟩, hd⟩ := hx
  obtain ⟨e, he, ho, hl⟩ := hd.daty (Nat.le_refl _)
  refine ⟨x.1, e, ?_, ⟨hwf, ho, hl⟩⟩
  have : cs.toList = [.int .i64 x.1, .slice e.A e.n e.c] := by
    have h9 : cs.toList = c1 ++ c2 := by simpa [Value.cells] using hcs
    rw [h9, hk, he]
    rfl
  cases cs
  simp only at this
  rw [this]
end
end Go.Proofs.Ytfcomnpoehpgiab
