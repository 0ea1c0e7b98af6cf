/- Sets as arguments of the laws: the laws' helpers that measure one, copy it, compare two, leave marks in one and find them; the opening of one that came in. Condition: at most 2^21 bytes. -/
import Derived.Test.YtlhcobkncceodaaGreatDoorKSetB
import Derived.Test.YtlhcobkncceodaaGreatDoorCB
import Derived.Test.YtlhcobkncceodaaGreatDoorKMarkB
import Derived.Test.YtlhcobkncceodaaGreatDoorKKHold
namespace Go.Proofs.YtlhcobkncceodaaGreatDoor
open Go.RowKit
set_option linter.unusedVariables false

set_option maxHeartbeats 400000 in
theorem eqSet_any (kind : Int) (a b : Dat) (w : World) (ha : a.Ok w) (hb : b.Ok w) (hx : a.xs = b.xs) (hn : a.n ≤ 2097152) :
    Calls Tryz.prog 37 #[.agg #[.int .i64 kind, .slice a.A a.n a.c], .agg #[.int .i64 kind, .slice b.A b.n b.c]] w (FTell w true) := by
  have hnn : a.n = b.n := by rw [← ha.rd.len, ← hb.rd.len, hx]
  have C := Lib.hid (fun w' (h : Below w.heap.size w w') => same_any a.A b.A a.n a.c b.c a.xs w' (ha.rd.below h) (by rw [hnn, hx]; exact hb.rd.below h) hn)
  obtain ⟨A1, n1, c1, xs1⟩ := a
  obtain ⟨A2, n2, c2, xs2⟩ := b
  simp only at hnn hx
  subst hnn hx
  clear ha hb
  go_enter Tryz.func37, Tryz.ntmps37
  go_wp2_with fail
  refine (C.out _ (below_a2 _ _ _)).mono ?_
  rintro e w1 ⟨rfl, k, rfl⟩
  go_wp2
  go_ret
  exact ⟨rfl, below_drewN (below_a2 _ _ _) k⟩


set_option maxHeartbeats 400000 in
theorem toSet_any (kind : Int) (d : Dat) (w : World) (hr : d.Ok w) (hn : d.n ≤ 2097152) :
    Calls Tryz.prog 35 #[.agg #[.int .i64 kind, .slice d.A d.n d.c]] w (MadeFr w kind d.xs) := by
  have C := Lib.hid (fun w' (hb : Below w.heap.size w w') => copy_any d.A d.n d.c d.xs w' (hr.rd.below hb) hn)
  have HL := Lib.hid hr.rd.len
  clear hr
  go_enter Tryz.func35, Tryz.ntmps35
  go_wp2_with fail
  refine (C.out _ ?_).mono ?_
  · exact below_a3 _ _ _ _
  · rintro e w1 ⟨A1, c1, rfl, ho1, hb1⟩
    obtain ⟨hc, hf⟩ := bcell hb1
    have hz : w.heap.size + 1 + 1 < w1.heap.size := by have := hb1.size; simp at this; omega
    have HB := Lib.hid hb1
    clear hb1
    go_wp2
    refine bodyPost_ret (v := .agg #[.int .i64 kind, .slice A1 d.n c1]) (by simp [results, Tryz.results35, go_sem, hc]) rfl ⟨A1, c1, by rw [HL.out], ?_, ?_⟩
    · rw [HL.out]
      exact base_row (low_row (low_row (low_row ho1 (by simp) _) (by simp) _) (by simp) _) (by simp; omega)
    · exact ((((below_a3 _ _ _ _).trans (HB.out.mono (by simp; omega))).setCell (by simp; omega) _).setCell (by simp) _).setCell (by simp) _
theorem szYS_any (A : Option Addr) (n c : Nat) (left : Int) (w : World) (hn : n ≤ maxLen) (h0 : 0 ≤ left) (h1 : left ≤ 1048576) :
    Calls Tryz.prog 67 #[.slice A n c, .int .i64 left] w fun e w' => e = .returned (.int .i64 (leftN left n)) ∧ w = w' := by
  unfold maxLen at hn
  by_cases h : (n : Int) ≤ left
  · have HV := Lib.hid (leftN_pos h)
    have h2 : 0 ≤ left - (n : Int) := by omega
    go_enter Tryz.func67, Tryz.ntmps67
    go_wp2
    go_ret
    exact ⟨fr_int HV.out.symm, rfl⟩
  · have HV := Lib.hid (leftN_neg (n := n) (left := left) (by omega))
    have h2 : left - (n : Int) < 0 := by omega
    go_enter Tryz.func67, Tryz.ntmps67
    go_wp2
    go_ret
    exact ⟨fr_int HV.out.symm, rfl⟩


theorem szSet_any (kind : Int) (A : Option Addr) (n c : Nat) (left : Int) (w : World) (hn : n ≤ maxLen) (h0 : 0 ≤ left) (h1 : left ≤ 1048576) :
    Calls Tryz.prog 33 #[.agg #[.int .i64 kind, .slice A n c], .int .i64 left] w (FNum w (leftN left n)) := by
  have C := Lib.hid (fun w => szYS_any A n c left w hn h0 h1)
  have HL : Hid (leftN left n = if (n : Int) ≤ left then left - n else -1) := Lib.hid rfl
  by_cases h : (n : Int) ≤ left
  · have h2 : 0 ≤ left - (n : Int) := by omega
    have e1 := leftN_pos h
    rw [e1] at C ⊢
    generalize left - (n : Int) = q at C h2 ⊢
    clear e1 h HL
    go_enter Tryz.func33, Tryz.ntmps33
    go_wp2_with fail
    refine (C.out _).mono ?_
    rintro e w1 ⟨rfl, rfl⟩
    go_wp2
    go_ret
    exact ⟨rfl, below_a1 _ _⟩
  · have e1 := leftN_neg (n := n) (left := left) (by omega)
    rw [e1] at C ⊢
    clear e1 h HL
    go_enter Tryz.func33, Tryz.ntmps33
    go_wp2_with fail
    refine (C.out _).mono ?_
    rintro e w1 ⟨rfl, rfl⟩
    go_wp2
    go_ret
    exact ⟨rfl, below_a1 _ _⟩

section
variable {H : Type} {enc : TypeId × Value → H} {w : World} {base : Nat} {spare : Nat → Bool} {held : Bool}
theorem Tryz.cellsSet : Tryz.prog.cellsOf 48 = 2 := by kernel_rfl
theorem opensSet : Opens enc Tryz.prog w base spare held 48 frSh :=
  opens_struct Tryz.underlying48 Tryz.cellsSet (opensF_cons rfl Tryz.cellsIn (opens_int Tryz.underlying3) (opensF_last rfl Tryz.cellsSY opensY))
set_option maxRecDepth 100000 in
theorem open_set {r : Reach} {b0 : Nat} {v : Value} {d : DataW H} {p : List MemPlace} (hv : Value.okWide Tryz.prog w r b0 48 v) (h : DataW.Trod enc Tryz.prog w base spare held 48 v d p) :
    ∃ (kind : Int) (e : Dat), v = .agg #[.int .i64 kind, .slice e.A e.n e.c] ∧ FrIn w kind e := by
  obtain ⟨cs, rfl, _⟩ := Go.WideShapes.okWide_struct Tryz.underlying48 hv
  obtain ⟨fuel, hf⟩ := h
  obtain ⟨x, hx⟩ := opensSet _ _ _ hf
  obtain ⟨c1, c2, hcs, _, ⟨hk, hwf⟩, hd⟩ := hx
  obtain ⟨e, he, ho, hl⟩ := hd.daty (Nat.le_refl _)
  refine ⟨x.1, e, ?_, ⟨hwf, ho, hl⟩⟩
  have : cs.toList = [.int .i64 x.1, .slice e.A e.n e.c] := by
    have h9 : cs.toList = c1 ++ c2 := by simpa [Value.cells] using hcs
    rw [h9, hk, he]
    rfl
  cases cs
  simp only at this
  rw [this]
end


theorem markSet_any (kind : Int) (A : Option Addr) (n c lo k : Nat) (xs : List Nat) (w : World) (ho : w.ownsRow lo 5 1 (.slice A n c) n (vb xs)) (hn : n ≤ 2097152) (hk : k ≤ 8388608) :
    Calls Tryz.prog 38 #[.agg #[.int .i64 kind, .slice A n c], .int .i64 (k : Int)] w (MarkedK w lo k A n c) := by
  have C := Lib.hid (markB_any A n c lo k xs (w.alloc (.cells #[.int .i64 kind, .slice A n c] 30)) (ho.alloc _) hn hk)
  clear ho
  go_enter Tryz.func38, Tryz.ntmps38
  go_wp2_with fail
  refine C.out.mono ?_
  rintro e w1 ⟨rfl, ho1, hg⟩
  have HO := Lib.hid ho1
  have HG := Lib.hid hg
  clear ho1 hg
  go_wp2
  go_ret
  exact ⟨rfl, HO.out, grownBy_trans (grownBy_of_below (below_a1 w _) _) HG.out⟩
theorem heldSet_any (kind : Int) (A : Option Addr) (n c k : Nat) (w : World) (hr : Rd w A n (marksK k n)) (hn : n ≤ 2097152) (hk : k ≤ 8388608) :
    Calls Tryz.prog 40 #[.agg #[.int .i64 kind, .slice A n c], .int .i64 (k : Int)] w (FNum w ((k + n : Nat) : Int)) := by
  have C := Lib.hid (fun W (h : Below w.heap.size w W) => heldB_any A n c k W (hr.below h) hn hk)
  have hp : (0 : Int) ≤ ((k + n : Nat) : Int) := by omega
  generalize k + n = q at C hp ⊢
  clear hr
  go_enter Tryz.func40, Tryz.ntmps40
  go_wp2_with fail
  refine (C.out _ (below_a1 _ _)).mono ?_
  rintro e w1 ⟨rfl, rfl⟩
  go_wp2
  go_ret
  exact ⟨rfl, below_a1 _ _⟩
/-! ### as the laws' walks take them -/
/-- What a walk is told of a set that came in. -/
structure SetIn (w : World) (N : Int) (A : Option Addr) (c : Nat) (xs : List Nat) : Prop where
  wf : (Lit.int .i64 N).wf = true
  g : Rd w A xs.length xs
  cap : xs.length ≤ c
  l : xs.length ≤ maxLen
set_option maxRecDepth 100000 in
theorem open_set2 {H : Type} {enc : TypeId × Value → H} {w : World} {base : Nat} {spare : Nat → Bool} {held : Bool} {r : Reach} {b0 : Nat} {v : Value} {d : DataW H} {p : List MemPlace} (hv : Value.okWide Tryz.prog w r b0 48 v) (h : DataW.Trod enc Tryz.prog w base spare held 48 v d p) :
    ∃ (N : Int) (A : Option Addr) (c : Nat) (xs : List Nat), v = .agg #[.int .i64 N, .slice A xs.length c] ∧ SetIn w N A c xs := by
  obtain ⟨N, e, rfl, hk, hok, hl⟩ := open_set hv h
  obtain ⟨A, n, c, xs⟩ := e
  have h1 := hok.rd
  have h2 : xs.length = n := h1.len
  subst h2
  exact ⟨N, A, c, xs, rfl, hk, h1, hok.cap, hl⟩
theorem toSet_is (N : Int) (A : Option Addr) (c : Nat) (xs : List Nat) (w : World) (hr : Rd w A xs.length xs) (hc : xs.length ≤ c) (hn : xs.length ≤ 2097152) :
    Calls Tryz.prog 35 #[.agg #[.int .i64 N, .slice A xs.length c]] w (MadeS w N xs) :=
  toSet_any N ⟨A, xs.length, c, xs⟩ w ⟨hr, hc⟩ hn
theorem eqSet_is (N : Int) (A A' : Option Addr) (c c' : Nat) (xs : List Nat) (w : World) (h1 : Rd w A xs.length xs) (h2 : Rd w A' xs.length xs) (hc : xs.length ≤ c) (hc' : xs.length ≤ c') (hn : xs.length ≤ 2097152) :
    Calls Tryz.prog 37 #[.agg #[.int .i64 N, .slice A xs.length c], .agg #[.int .i64 N, .slice A' xs.length c']] w (GTell w true) :=
  eqSet_any N ⟨A, xs.length, c, xs⟩ ⟨A', xs.length, c', xs⟩ w ⟨h1, hc⟩ ⟨h2, hc'⟩ rfl hn
/-- What marking leaves. -/
def MarkedZ (w : World) (base k : Nat) (z : Int) (A : Option Addr) (n c : Nat) (e : Ending) (w' : World) : Prop :=
  e = .returned (.int .i64 z) ∧ w'.ownsRow base 5 1 (.slice A n c) n (vb (marksK k n)) ∧ w.grownBy w' (Value.slice A n c).ownBlock
theorem markSet_is (N : Int) (A : Option Addr) (c lo k : Nat) (xs : List Nat) (w : World) (ho : w.ownsRow lo 5 1 (.slice A xs.length c) xs.length (vb xs)) (hn : xs.length ≤ 2097152) (hk : k ≤ 8388608) :
    Calls Tryz.prog 38 #[.agg #[.int .i64 N, .slice A xs.length c], .int .i64 (k : Int)] w (MarkedZ w lo k ((k + xs.length : Nat) : Int) A xs.length c) :=
  markSet_any N A xs.length c lo k xs w ho hn hk
theorem heldSet_is (N : Int) (A : Option Addr) (n c : Nat) (w : World) (hr : Rd w A n (marksK 1 n)) (hn : n ≤ 2097152) :
    Calls Tryz.prog 40 #[.agg #[.int .i64 N, .slice A n c], .int .i64 1] w (GNum w ((1 + n : Nat) : Int)) :=
  heldSet_any N A n c 1 w hr hn (by omega)
theorem Box2.new1 (w : World) (o : Obj) (v0 v1 : Value) (t : TypeId) : Box2 ((w.alloc o).alloc (.cells #[v0, v1] t)) (w.heap.size + 1) v0 v1 := by
  have h := Box2.new (w.alloc o) v0 v1 t
  rw [World.size_alloc] at h
  exact h
theorem SBx.box {w : World} {b n c : Nat} {N : Int} {A : Option Addr} (h : SBx w b N A n c) : Box2 w b (.int .i64 N) (.slice A n c) := ⟨h.parts.1, h.parts.2.1, h.parts.2.2.1⟩
theorem box_set2 {w : World} {b q : Nat} {v0 v1 : Value} (h : Box2 w b v0 v1) (hq : b ≠ q) (u u' : Value) : Box2 ((w.setCell ⟨q, 0, none⟩ u).setCell ⟨q, 1, none⟩ u') b v0 v1 :=
  h.keep (by simp) ((Below.heap_setCell _ ⟨q, 1, none⟩ u' b hq).trans (Below.heap_setCell w ⟨q, 0, none⟩ u b hq))
theorem own_apart1 {w : World} {lo e size n b i : Nat} {v u : Value} {xs : List Value} (h : w.ownsRow lo e size v n xs) (hne : v.ownBlock ≠ some b) : (w.setCell ⟨b, i, none⟩ u).ownsRow lo e size v n xs := by
  obtain ⟨h1, h2⟩ := h
  refine ⟨h1, ?_⟩
  rcases h2 with h2 | ⟨g, cap, cur, rfl, hb, hg, r⟩
  · exact .inl h2
  · exact .inr ⟨g, cap, cur, rfl, hb, (Below.heap_setCell w ⟨b, i, none⟩ u g (fun e => hne (by have e2 : g = b := e; rw [← e2]; rfl))).trans hg, r⟩
theorem own_apart2 {w : World} {lo e size n b : Nat} {v : Value} {xs : List Value} (h : w.ownsRow lo e size v n xs) (hne : v.ownBlock ≠ some b) (u u' : Value) : ((w.setCell ⟨b, 0, none⟩ u).setCell ⟨b, 1, none⟩ u').ownsRow lo e size v n xs :=
  own_apart1 (own_apart1 h hne) hne
theorem set_type {w : World} {lo size n b c m : Nat} {N : Int} {A : Option Addr} {v : Value} {xs : List Value} (h : w.ownsRow lo 5 size v n xs) (hb : SBx w b N A m c) : v.ownBlock ≠ some b := by
  rcases h.2 with ⟨rfl, _⟩ | ⟨g, cap, cur, rfl, _, hg, _⟩
  · simp [Value.ownBlock]
  · intro e
    have e3 : g = b := by simpa [Value.ownBlock] using e
    subst e3
    have h9 : w.heap[g]? = some (.cells #[.int .i64 N, .slice A m c] 30 (0, 0)) := hb
    rw [hg] at h9
    injection h9 with h9
    injection h9 with _ h2
    exact absurd h2 (by decide)
end Go.Proofs.YtlhcobkncceodaaGreatDoor
