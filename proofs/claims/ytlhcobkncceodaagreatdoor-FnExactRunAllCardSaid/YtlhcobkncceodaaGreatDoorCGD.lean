/- Sets as arguments of the laws: the laws' helpers that measure one, copy it, compare two, leave marks in one and find them; the opening of one that came in. Condition: at most 2^21 bytes. // What the opening of an argument that is a graph, or a list of records of three numbers, is told by (no condition). // The opening of an argument that is a graph. // Degrees as data, and a row of numbers that is counted in (no condition). // Slices of numbers as arguments of the laws: the helper that copies one into new memory; the opening of one that came in. Condition: at most 2^21 numbers. // Words for the walks of laws whose function answers numbers: rows of numbers of a call's own, from call to call. // Words for slices of views in memory (plain lemmas over the model; no condition): 'SlV': a slice that reads as a list of records of two truth values and two numbers; such a list laid record by record. // The opening of an argument that is a job, or a list of views (no condition). // Views: what new ones are (no condition). // Views: the contracts of the laws' helpers that measure and copy. Condition: at most 2^21 views. // What stays where another row of the call's own is written; the law's helper that looks for marks in numbers, said of memory alone (plain lemmas over the model; condition: at most 2^21 numbers). // Writings in blocks of a set alone, and what a row of the call's own has for a block (plain lemmas over the model; no condition). -/
import Derived.Test.YtlhcobkncceodaaGreatDoorCGC
import Derived.Test.YtlhcobkncceodaaGreatDoorCGB
import Derived.Test.YtlhcobkncceodaaGreatDoorCGA
namespace Go.Proofs.YtlhcobkncceodaaGreatDoor
open Go.RowKit
set_option linter.unusedVariables false

set_option maxHeartbeats 400000 in
theorem eqSet_any (kind : Int) (a b : Dat) (w : World) (ha : a.Ok w) (hb : b.Ok w) (hx : a.xs = b.xs) (hn : a.n ≤ 2097152) :
    Calls Tryz.prog 37 #[.agg #[.int .i64 kind, .slice a.A a.n a.c], .agg #[.int .i64 kind, .slice b.A b.n b.c]] w (FTell w true) := by
  have hnn : a.n = b.n := by rw [← ha.rd.len, ← hb.rd.len, hx]
  have C := Lib.hid (fun w' (h : Below w.heap.size w w') => same_any a.A b.A a.n a.c b.c a.xs w' (ha.rd.below h) (by rw [hnn, hx]; exact hb.rd.below h) hn)
  obtain ⟨A1, n1, c1, xs1⟩ := a
  obtain ⟨A2, n2, c2, xs2⟩ := b
  simp only at hnn hx
  subst hnn hx
  clear ha hb
  go_enter Tryz.func37, Tryz.ntmps37
  go_wp2_with fail
  refine (C.out _ (below_a2 _ _ _)).mono ?_
  rintro e w1 ⟨rfl, k, rfl⟩
  go_wp2
  go_ret
  exact ⟨rfl, below_drewN (below_a2 _ _ _) k⟩


set_option maxHeartbeats 400000 in
theorem toSet_any (kind : Int) (d : Dat) (w : World) (hr : d.Ok w) (hn : d.n ≤ 2097152) :
    Calls Tryz.prog 35 #[.agg #[.int .i64 kind, .slice d.A d.n d.c]] w (MadeFr w kind d.xs) := by
  have C := Lib.hid (fun w' (hb : Below w.heap.size w w') => copy_any d.A d.n d.c d.xs w' (hr.rd.below hb) hn)
  have HL := Lib.hid hr.rd.len
  clear hr
  go_enter Tryz.func35, Tryz.ntmps35
  go_wp2_with fail
  refine (C.out _ ?_).mono ?_
  · exact below_a3 _ _ _ _
  · rintro e w1 ⟨A1, c1, rfl, ho1, hb1⟩
    obtain ⟨hc, hf⟩ := bcell hb1
    have hz : w.heap.size + 1 + 1 < w1.heap.size := by have := hb1.size; simp at this; omega
    have HB := Lib.hid hb1
    clear hb1
    go_wp2
    refine bodyPost_ret (v := .agg #[.int .i64 kind, .slice A1 d.n c1]) (by simp [results, Tryz.results35, go_sem, hc]) rfl ⟨A1, c1, by rw [HL.out], ?_, ?_⟩
    · rw [HL.out]
      exact base_row (low_row (low_row (low_row ho1 (by simp) _) (by simp) _) (by simp) _) (by simp; omega)
    · exact ((((below_a3 _ _ _ _).trans (HB.out.mono (by simp; omega))).setCell (by simp; omega) _).setCell (by simp) _).setCell (by simp) _
theorem szYS_any (A : Option Addr) (n c : Nat) (left : Int) (w : World) (hn : n ≤ maxLen) (h0 : 0 ≤ left) (h1 : left ≤ 1048576) :
    Calls Tryz.prog 67 #[.slice A n c, .int .i64 left] w fun e w' => e = .returned (.int .i64 (leftN left n)) ∧ w = w' := by
  unfold maxLen at hn
  by_cases h : (n : Int) ≤ left
  · have HV := Lib.hid (leftN_pos h)
    have h2 : 0 ≤ left - (n : Int) := by omega
    go_enter Tryz.func67, Tryz.ntmps67
    go_wp2
    go_ret
    exact ⟨fr_int HV.out.symm, rfl⟩
  · have HV := Lib.hid (leftN_neg (n := n) (left := left) (by omega))
    have h2 : left - (n : Int) < 0 := by omega
    go_enter Tryz.func67, Tryz.ntmps67
    go_wp2
    go_ret
    exact ⟨fr_int HV.out.symm, rfl⟩


theorem szSet_any (kind : Int) (A : Option Addr) (n c : Nat) (left : Int) (w : World) (hn : n ≤ maxLen) (h0 : 0 ≤ left) (h1 : left ≤ 1048576) :
    Calls Tryz.prog 33 #[.agg #[.int .i64 kind, .slice A n c], .int .i64 left] w (FNum w (leftN left n)) := by
  have C := Lib.hid (fun w => szYS_any A n c left w hn h0 h1)
  have HL : Hid (leftN left n = if (n : Int) ≤ left then left - n else -1) := Lib.hid rfl
  by_cases h : (n : Int) ≤ left
  · have h2 : 0 ≤ left - (n : Int) := by omega
    have e1 := leftN_pos h
    rw [e1] at C ⊢
    generalize left - (n : Int) = q at C h2 ⊢
    clear e1 h HL
    go_enter Tryz.func33, Tryz.ntmps33
    go_wp2_with fail
    refine (C.out _).mono ?_
    rintro e w1 ⟨rfl, rfl⟩
    go_wp2
    go_ret
    exact ⟨rfl, below_a1 _ _⟩
  · have e1 := leftN_neg (n := n) (left := left) (by omega)
    rw [e1] at C ⊢
    clear e1 h HL
    go_enter Tryz.func33, Tryz.ntmps33
    go_wp2_with fail
    refine (C.out _).mono ?_
    rintro e w1 ⟨rfl, rfl⟩
    go_wp2
    go_ret
    exact ⟨rfl, below_a1 _ _⟩

section
variable {H : Type} {enc : TypeId × Value → H} {w : World} {base : Nat} {spare : Nat → Bool} {held : Bool}
theorem Tryz.cellsSet : Tryz.prog.cellsOf 48 = 2 := by kernel_rfl
theorem opensSet : Opens enc Tryz.prog w base spare held 48 frSh :=
  opens_struct Tryz.underlying48 Tryz.cellsSet (opensF_cons rfl Tryz.cellsIn (opens_int Tryz.underlying3) (opensF_last rfl Tryz.cellsSY opensY))
end


theorem markSet_any (kind : Int) (A : Option Addr) (n c lo k : Nat) (xs : List Nat) (w : World) (ho : w.ownsRow lo 5 1 (.slice A n c) n (vb xs)) (hn : n ≤ 2097152) (hk : k ≤ 8388608) :
    Calls Tryz.prog 38 #[.agg #[.int .i64 kind, .slice A n c], .int .i64 (k : Int)] w (MarkedK w lo k A n c) := by
  have C := Lib.hid (markB_any A n c lo k xs (w.alloc (.cells #[.int .i64 kind, .slice A n c] 30)) (ho.alloc _) hn hk)
  clear ho
  go_enter Tryz.func38, Tryz.ntmps38
  go_wp2_with fail
  refine C.out.mono ?_
  rintro e w1 ⟨rfl, ho1, hg⟩
  have HO := Lib.hid ho1
  have HG := Lib.hid hg
  clear ho1 hg
  go_wp2
  go_ret
  exact ⟨rfl, HO.out, grownBy_trans (grownBy_of_below (below_a1 w _) _) HG.out⟩
theorem heldSet_any (kind : Int) (A : Option Addr) (n c k : Nat) (w : World) (hr : Rd w A n (marksK k n)) (hn : n ≤ 2097152) (hk : k ≤ 8388608) :
    Calls Tryz.prog 40 #[.agg #[.int .i64 kind, .slice A n c], .int .i64 (k : Int)] w (FNum w ((k + n : Nat) : Int)) := by
  have C := Lib.hid (fun W (h : Below w.heap.size w W) => heldB_any A n c k W (hr.below h) hn hk)
  have hp : (0 : Int) ≤ ((k + n : Nat) : Int) := by omega
  generalize k + n = q at C hp ⊢
  clear hr
  go_enter Tryz.func40, Tryz.ntmps40
  go_wp2_with fail
  refine (C.out _ (below_a1 _ _)).mono ?_
  rintro e w1 ⟨rfl, rfl⟩
  go_wp2
  go_ret
  exact ⟨rfl, below_a1 _ _⟩
/-! ### as the laws' walks take them -/
/-- What a walk is told of a set that came in. -/
structure SetIn (w : World) (N : Int) (A : Option Addr) (c : Nat) (xs : List Nat) : Prop where
  wf : (Lit.int .i64 N).wf = true
  g : Rd w A xs.length xs
  cap : xs.length ≤ c
  l : xs.length ≤ maxLen
theorem toSet_is (N : Int) (A : Option Addr) (c : Nat) (xs : List Nat) (w : World) (hr : Rd w A xs.length xs) (hc : xs.length ≤ c) (hn : xs.length ≤ 2097152) :
    Calls Tryz.prog 35 #[.agg #[.int .i64 N, .slice A xs.length c]] w (MadeS w N xs) :=
  toSet_any N ⟨A, xs.length, c, xs⟩ w ⟨hr, hc⟩ hn
theorem eqSet_is (N : Int) (A A' : Option Addr) (c c' : Nat) (xs : List Nat) (w : World) (h1 : Rd w A xs.length xs) (h2 : Rd w A' xs.length xs) (hc : xs.length ≤ c) (hc' : xs.length ≤ c') (hn : xs.length ≤ 2097152) :
    Calls Tryz.prog 37 #[.agg #[.int .i64 N, .slice A xs.length c], .agg #[.int .i64 N, .slice A' xs.length c']] w (GTell w true) :=
  eqSet_any N ⟨A, xs.length, c, xs⟩ ⟨A', xs.length, c', xs⟩ w ⟨h1, hc⟩ ⟨h2, hc'⟩ rfl hn
theorem Box2.new1 (w : World) (o : Obj) (v0 v1 : Value) (t : TypeId) : Box2 ((w.alloc o).alloc (.cells #[v0, v1] t)) (w.heap.size + 1) v0 v1 := by
  have h := Box2.new (w.alloc o) v0 v1 t
  rw [World.size_alloc] at h
  exact h
theorem SBx.box {w : World} {b n c : Nat} {N : Int} {A : Option Addr} (h : SBx w b N A n c) : Box2 w b (.int .i64 N) (.slice A n c) := ⟨h.parts.1, h.parts.2.1, h.parts.2.2.1⟩
end Go.Proofs.YtlhcobkncceodaaGreatDoor
namespace Go.Proofs.YtlhcobkncceodaaGreatDoor
open Go.RowKit

def edgeSh : Sh := .pair (.int .i64) (.pair (.int .i64) (.int .i64))
def grSh : Sh := .pair (.int .i64) (.sl edgeSh)
theorem g_build {α : Type} (f : α → List Value) (k : Nat) (hf : ∀ a, (f a).length = k) (Q : α → Prop) (w : World) (b off : Nat) : ∀ (n : Nat), (∀ j, j < n → ∃ a, Q a ∧ ∀ (i : Nat) (v : Value), (f a)[i]? = some v → w.cell? ⟨b, off + j * k + i, none⟩ = some v) →
    ∃ es : List α, es.length = n ∧ (∀ (j : Nat) (v : Value), (es.flatMap f)[j]? = some v → w.cell? ⟨b, off + j, none⟩ = some v) ∧ ∀ a ∈ es, Q a
  | 0, _ => ⟨[], rfl, fun j v hv => by simp at hv, by simp⟩
  | m + 1, h => by
    obtain ⟨es, h1, h2, h3⟩ := g_build f k hf Q w b off m (fun j hj => h j (by omega))
    obtain ⟨a, ha, hc⟩ := h m (by omega)
    refine ⟨es ++ [a], by simp [h1], fun j v hv => ?_, fun x hx => ?_⟩
    · have hl : (es.flatMap f).length = m * k := by rw [flat_len f k hf, h1]
      rw [flat_snoc] at hv
      rcases Nat.lt_or_ge j (m * k) with hj | hj
      · rw [List.getElem?_append_left (by omega)] at hv
        exact h2 j v hv
      · rw [List.getElem?_append_right (by omega), hl] at hv
        have := hc (j - m * k) v hv
        rw [show off + m * k + (j - m * k) = off + j by omega] at this
        exact this
    · rcases List.mem_append.1 hx with hx | hx
      · exact h3 x hx
      · simp at hx
        subst hx
        exact ha

def EdgeIn (e : GE) : Prop := (Lit.int .i64 e.f).wf = true ∧ (Lit.int .i64 e.t).wf = true ∧ (Lit.int .i64 e.w).wf = true
theorem RdR.edge {lo hi : Nat} {w : World} {cs : List Value} {d : edgeSh.D} (h : RdR lo hi w edgeSh cs d) : ∃ e : GE, cs = e.cells ∧ EdgeIn e := by
  obtain ⟨c1, c2, e, h1, ⟨hk, hwf⟩, hb⟩ := h
  obtain ⟨c3, c4, e', h2, ⟨hk', hwf'⟩, hc, hwf''⟩ := hb
  exact ⟨⟨d.1, d.2.1, d.2.2⟩, by rw [e, hk, e', hk', hc]; rfl, hwf, hwf', hwf''⟩
/-- What a walk is told of a graph that came in. -/
structure GrIn (w : World) (N : Int) (A : Option Addr) (n : Nat) (es : List GE) : Prop where
  N : (Lit.int .i64 N).wf = true
  g : SlG w A n es
  l : n ≤ maxLen
  e : ∀ e ∈ es, EdgeIn e
theorem RdR.edges {lo hi : Nat} {w : World} {cs : List Value} {ds : List edgeSh.D} (h : RdR lo hi w (.sl edgeSh) cs ds) (hh : hi ≤ w.heap.size) : ∃ A n c es, cs = [.slice A n c] ∧ SlG w A n es ∧ n ≤ c ∧ n ≤ maxLen ∧ ∀ e ∈ es, EdgeIn e := by
  obtain ⟨A, n, c, e1, e2, e3, e4, h⟩ := h
  rcases Nat.eq_zero_or_pos n with h0 | h0
  · subst h0
    exact ⟨A, 0, c, [], e1, SlG.nil, e3, by omega, by simp⟩
  · obtain ⟨b, off, eA, _, hb, hall⟩ := h h0
    obtain ⟨es, h1, h2, h3⟩ := g_build GE.cells 3 GE.cells_len EdgeIn w b off n (fun j hj => by
      have hjl : j < ds.length := by omega
      obtain ⟨cs, _, hc, hr⟩ := hall j (ds[j]'hjl) (List.getElem?_eq_getElem hjl)
      obtain ⟨e, rfl, he⟩ := RdR.edge hr
      exact ⟨e, he, hc⟩)
    exact ⟨A, n, c, es, e1, ⟨h1, ⟨by rw [flat_len _ 3 GE.cells_len, h1], fun _ => ⟨b, off, eA, by omega, h2⟩⟩⟩, e3, by omega, h3⟩
theorem RdR.graph {lo hi : Nat} {w : World} {cs : List Value} {d : grSh.D} (h : RdR lo hi w grSh cs d) (hh : hi ≤ w.heap.size) : ∃ N A n c es, cs = [.int .i64 N, .slice A n c] ∧ GrIn w N A n es := by
  obtain ⟨c1, c2, e, h1, ⟨hk, hwf⟩, hb⟩ := h
  obtain ⟨A, n, c, es, ea, hg, _, hl, he⟩ := RdR.edges hb hh
  exact ⟨d.1, A, n, c, es, by rw [e, hk, ea]; rfl, ⟨hwf, hg, hl, he⟩⟩

end Go.Proofs.YtlhcobkncceodaaGreatDoor
namespace Go.Proofs.YtlhcobkncceodaaGreatDoor
open Go.RowKit

section
variable {H : Type} {enc : TypeId × Value → H} {w : World} {base : Nat} {spare : Nat → Bool} {held : Bool}
theorem Tryz.cellsGi : Tryz.prog.cellsOf 3 = 1 := by kernel_rfl
theorem Tryz.cellsEd : Tryz.prog.cellsOf 128 = 3 := by kernel_rfl
theorem Tryz.cellsSEd : Tryz.prog.cellsOf 44 = 1 := by kernel_rfl
theorem Tryz.cellsGr : Tryz.prog.cellsOf 46 = 2 := by kernel_rfl
theorem opensEdge : Opens enc Tryz.prog w base spare held 128 edgeSh :=
  opens_struct Tryz.underlying128 Tryz.cellsEd (opensF_cons rfl Tryz.cellsGi (opens_int Tryz.underlying3) (opensF_cons rfl Tryz.cellsGi (opens_int Tryz.underlying3) (opensF_last rfl Tryz.cellsGi (opens_int Tryz.underlying3))))
theorem opensGraph : Opens enc Tryz.prog w base spare held 46 grSh :=
  opens_struct Tryz.underlying46 Tryz.cellsGr (opensF_cons rfl Tryz.cellsGi (opens_int Tryz.underlying3) (opensF_last rfl Tryz.cellsSEd (opens_sl Tryz.underlying44 Tryz.cellsEd (by decide) opensEdge)))

set_option maxRecDepth 100000 in
theorem open_graph {r : Reach} {b0 : Nat} {v : Value} {d : DataW H} {p : List MemPlace} (hv : Value.okWide Tryz.prog w r b0 46 v) (h : DataW.Trod enc Tryz.prog w base spare held 46 v d p) :
    ∃ N A n c es, v = .agg #[.int .i64 N, .slice A n c] ∧ GrIn w N A n es := by
  obtain ⟨cs, rfl, _⟩ := Go.WideShapes.okWide_struct Tryz.underlying46 hv
  obtain ⟨fuel, hf⟩ := h
  obtain ⟨x, hx⟩ := opensGraph _ _ _ hf
  obtain ⟨N, A, n, c, es, he, hi⟩ := hx.graph (Nat.le_refl _)
  refine ⟨N, A, n, c, es, ?_, hi⟩
  have : cs.toList = [.int .i64 N, .slice A n c] := by simpa [Value.cells] using he
  cases cs
  simp only at this
  rw [this]
end
end Go.Proofs.YtlhcobkncceodaaGreatDoor
namespace Go.Proofs.YtlhcobkncceodaaGreatDoor
open Go.RowKit

def OwI (w : World) (lo : Nat) (A : Option Addr) (n c : Nat) (xs : List Int) : Prop := w.ownsRow lo 3 1 (.slice A n c) n (vi xs)
theorem flat_one : ∀ xs : List Int, xs.flatMap (fun x : Int => [Value.int .i64 x]) = vi xs
  | [] => rfl
  | x :: r => by rw [List.flatMap_cons, flat_one r]; rfl
end Go.Proofs.YtlhcobkncceodaaGreatDoor
namespace Go.Proofs.YtlhcobkncceodaaGreatDoor
open Go.RowKit

/-- The first k cells are those of xs, the rest nought. -/
def halfI (xs : List Int) (k : Nat) : List Int := xs.take k ++ List.replicate (xs.length - k) 0
theorem halfI_zero (xs : List Int) : halfI xs 0 = List.replicate xs.length 0 := by simp [halfI]
theorem halfI_full (xs : List Int) : halfI xs xs.length = xs := by simp [halfI]
theorem halfI_step (xs : List Int) (k : Nat) (x : Int) (h : xs[k]? = some x) : (vi (halfI xs k)).set k (.int .i64 x) = vi (halfI xs (k + 1)) := by
  have hk : k < xs.length := (List.getElem?_eq_some_iff.1 h).1
  have hx : xs[k] = x := (List.getElem?_eq_some_iff.1 h).2
  have : (halfI xs k).set k x = halfI xs (k + 1) := by
    unfold halfI
    rw [List.set_append_right _ _ (by simp; omega), List.take_succ_eq_append_getElem hk, List.append_assoc]
    congr 1
    rw [List.length_take, Nat.min_eq_left (by omega), Nat.sub_self, show xs.length - k = (xs.length - (k + 1)) + 1 by omega, List.replicate_succ]
    simp [hx]
  rw [← this]
  simp [vi, List.map_set]

def MadeN (w : World) (n : Nat) (xs : List Int) (e : Ending) (w' : World) : Prop :=
  ∃ A c, e = .returned (.slice A n c) ∧ OwI w' w.heap.size A n c xs ∧ Below w.heap.size w w'

set_option maxHeartbeats 400000 in
theorem copyInts_any (A : Option Addr) (n c : Nat) (xs : List Int) (w : World) (hr : SlI w A n xs) (hn : n ≤ 2097152) :
    Calls Tryz.prog 60 #[.slice A n c] w (MadeN w n xs) := by
  obtain ⟨i0, hi, hz0, hz1, hz2⟩ := info_parts Tryz.infoInt
  have hl := Lib.hid hr.len
  have HR := Lib.hid hr
  clear hr
  go_enter Tryz.func60, Tryz.ntmps60
  go_wp2_with (refine wpList_make_full _ rfl (.tmp 6) (.tmp 6) 28 rfl w.heap.size 3 i0 (.int .i64 0) 1 Tryz.underlying28 hi hz0 hz1 .i64 .i64 _ _ n rfl rfl rfl rfl (by rw [hz2]; omega) (by unfold maxLen; omega) (Nat.le_refl _) ?_; intro w1 hown hg)
  have hb1 : Below w.heap.size w w1 := (Below.refl _ _).grown hg (Nat.le_refl _) (by simp)
  have hown1 : w1.ownsRow w.heap.size 3 1 (.slice (some ⟨w.heap.size, 0, none⟩) n n) n (vi (halfI xs 0)) := by
    have h := hown
    rw [g_rep (fun x : Int => [Value.int .i64 x]) 0 1 (fun _ => rfl) (by omega) (Value.int .i64 0).cells rfl n, flat_one] at h
    rw [halfI_zero, hl.out]
    exact h
  clear hown hg
  go_loopw [4] (fun i wr => ∃ k : Nat, k ≤ n ∧ i = .int .i64 k ∧ wr.ownsRow w.heap.size 3 1 (.slice (some ⟨w.heap.size, 0, none⟩) n n) n (vi (halfI xs k)) ∧ Below w.heap.size w wr) (fun i _ => n - (intOf i).toNat)
  case atStart => exact ⟨0, Nat.zero_le _, rfl, hown1, hb1⟩
  case round =>
    obtain ⟨k, hk, rfl, hown, hbel⟩ := hrel
    by_cases hlt : k < n
    · obtain ⟨b, off, x, rfl, hbw, hxs, hc⟩ := HR.out.at_ hlt
      have hcell : wr.cell? ⟨b, off + k, none⟩ = some (.int .i64 x) := (hbel.cell (by exact hbw)).trans hc
      have hl2 : k < (vi (halfI xs k)).length := by rw [hown.1]; omega
      have hcell2 : wr.cell? ⟨w.heap.size, k, none⟩ = some (vi (halfI xs k))[k] := by rw [hown.cellAt k (by omega), List.getElem?_eq_getElem hl2]
      have hfr := hown.frozenAt k
      have hst := hown.stored k (.int .i64 x)
      rw [halfI_step xs k x hxs.out] at hst
      have hb2 := hbel.setCell (p := ⟨w.heap.size, k, none⟩) (Nat.le_refl _) (.int .i64 x)
      have hst1 := Lib.hid hst.1
      generalize (vi (halfI xs k))[k] = old at hcell2
      clear hst hown hl2 hc
      go_wp2
      go_roundw
      case rel => exact ⟨k + 1, by omega, by go_num, hst1.out, hb2⟩
      case measure => simp [intOf]; omega
    · obtain rfl : k = n := by omega
      go_wp2
      go_ret
      have e := hl.out
      subst e
      rw [halfI_full] at hown
      exact ⟨_, _, rfl, hown, hbel⟩

/-! ### one that came in -/
def NumIn (x : Int) : Prop := (Lit.int .i64 x).wf = true
/-- What a walk is told of a slice of numbers that came in. -/
structure IntsIn (w : World) (A : Option Addr) (n c : Nat) (xs : List Int) : Prop where
  g : SlI w A n xs
  l : n ≤ maxLen
  c : n ≤ c
  e : ∀ x ∈ xs, NumIn x
theorem flat_vi (xs : List Int) : xs.flatMap (fun x : Int => [Value.int .i64 x]) = vi xs := flat_one xs
theorem RdR.nums {lo hi : Nat} {w : World} {cs : List Value} {ds : List Int} (h : RdR lo hi w (.sl (.int .i64)) cs ds) (hh : hi ≤ w.heap.size) : ∃ A n c xs, cs = [.slice A n c] ∧ IntsIn w A n c xs := by
  obtain ⟨A, n, c, e1, e2, e3, e4, h⟩ := h
  rcases Nat.eq_zero_or_pos n with h0 | h0
  · subst h0
    exact ⟨A, 0, c, [], e1, ⟨SlI.nil, by omega, e3, by simp⟩⟩
  · obtain ⟨b, off, eA, _, hb, hall⟩ := h h0
    obtain ⟨xs, h1, h2, h3⟩ := g_build (fun x : Int => [Value.int .i64 x]) 1 (fun _ => rfl) NumIn w b off n (fun j hj => by
      have e5 : List.length (α := Int) ds = n := e2
      have hjl : j < List.length (α := Int) ds := by omega
      obtain ⟨cs, _, hc, hr⟩ := hall j (ds[j]'hjl) (List.getElem?_eq_getElem hjl)
      obtain ⟨rfl, hwf⟩ := hr
      exact ⟨_, hwf, hc⟩)
    rw [flat_vi] at h2
    exact ⟨A, n, c, xs, e1, ⟨⟨h1, ⟨by rw [vi_len, h1, Nat.mul_one], fun _ => ⟨b, off, eA, by omega, h2⟩⟩⟩, by omega, e3, h3⟩⟩

section
variable {H : Type} {enc : TypeId × Value → H} {w : World} {base : Nat} {spare : Nat → Bool} {held : Bool}
theorem Tryz.cellsSI : Tryz.prog.cellsOf 28 = 1 := by kernel_rfl
theorem opensNums : Opens enc Tryz.prog w base spare held 28 (.sl (.int .i64)) := opens_sl Tryz.underlying28 Tryz.cellsGi (by decide) (opens_int Tryz.underlying3)
end
end Go.Proofs.YtlhcobkncceodaaGreatDoor
namespace Go.Proofs.YtlhcobkncceodaaGreatDoor
open Go.RowKit

section
variable {w w' : World} {lo n c : Nat} {A : Option Addr} {xs : List Int}
theorem OwI.cnt (h : OwI w lo A n c xs) : n = xs.length := by have := h.1; rw [vi_len] at this; omega
theorem OwI.below (h : OwI w lo A n c xs) (hb : Below w.heap.size w w') : OwI w' lo A n c xs := own_below h hb
theorem OwI.rd (h : OwI w lo A n c xs) : SlI w A n xs := SlI.of_own h
end
/-- The law's own graph: its box and its edges. -/
structure XBox (w : World) (lo b : Nat) (N : Int) (A : Option Addr) (n c : Nat) (es : List GE) : Prop where
  box : NBox w b N A n c
  own : w.ownsRow lo 113 3 (.slice A n c) n (es.flatMap GE.cells)
theorem XBox.below {w w' : World} {lo b n c : Nat} {N : Int} {A : Option Addr} {es : List GE} (h : XBox w lo b N A n c es) (hb : Below w.heap.size w w') : XBox w' lo b N A n c es := ⟨h.box.below hb, own_below h.own hb⟩
end Go.Proofs.YtlhcobkncceodaaGreatDoor
namespace Go.Proofs.YtlhcobkncceodaaGreatDoor
open Go.RowKit

def VE.cells (e : VE) : List Value := [.bool e.i, .bool e.o, .int .i64 e.w, .int .i64 e.v]
theorem VE.cells_len (e : VE) : e.cells.length = 4 := rfl
theorem VE.cells_one (e : VE) : ∀ u ∈ e.cells, u.oneCell' = true := by
  intro u hu
  simp [VE.cells] at hu
  rcases hu with rfl | rfl | rfl | rfl <;> rfl
/-- A slice of shard edges in memory. -/
structure SlV (w : World) (A : Option Addr) (n : Nat) (es : List VE) : Prop where
  len : es.length = n
  row : Row w 4 A n (es.flatMap VE.cells)
section
variable {w w' : World} {n c lo e : Nat} {A : Option Addr} {es : List VE}
theorem SlV.keep (h : SlV w A n es) (hs : w.heap.size ≤ w'.heap.size) (hk : ∀ i, i < w.heap.size → w'.heap[i]? = w.heap[i]?) : SlV w' A n es := ⟨h.len, h.row.keep hs hk⟩
theorem SlV.below (h : SlV w A n es) (hb : Below w.heap.size w w') : SlV w' A n es := h.keep hb.size hb.block
theorem SlV.drewN (h : SlV w A n es) (m : Nat) : SlV (w.drewN m) A n es := ⟨h.len, h.row.drewN m⟩
theorem SlV.nil : SlV w A 0 [] := ⟨rfl, Row.nil⟩
/-- The view at place j, its four cells. -/
theorem SlV.at_ {j : Nat} (h : SlV w A n es) (hj : j < n) : ∃ (b off : Nat) (e : VE), A = some ⟨b, off, none⟩ ∧ b < w.heap.size ∧ Hid (es[j]? = some e) ∧
    w.cell? ⟨b, off + j * 4, none⟩ = some (.bool e.i) ∧ w.cell? ⟨b, off + j * 4 + 1, none⟩ = some (.bool e.o) ∧ w.cell? ⟨b, off + j * 4 + 2, none⟩ = some (.int .i64 e.w) ∧ w.cell? ⟨b, off + j * 4 + 3, none⟩ = some (.int .i64 e.v) := by
  obtain ⟨b, off, rfl, hb, hc⟩ := h.row.lies (by omega)
  have hl : j < es.length := by have := h.len; omega
  have he : es[j]? = some es[j] := List.getElem?_eq_getElem hl
  refine ⟨b, off, es[j], rfl, hb, he, ?_, ?_, ?_, ?_⟩
  · exact hc (j * 4) _ (flat_get VE.cells 4 VE.cells_len es j 0 _ he (by omega))
  · exact hc (j * 4 + 1) _ (flat_get VE.cells 4 VE.cells_len es j 1 _ he (by omega))
  · exact hc (j * 4 + 2) _ (flat_get VE.cells 4 VE.cells_len es j 2 _ he (by omega))
  · exact hc (j * 4 + 3) _ (flat_get VE.cells 4 VE.cells_len es j 3 _ he (by omega))
theorem SlV.of_own (h : w.ownsRow lo e 4 (.slice A n c) n (es.flatMap VE.cells)) (hl : es.length = n) : SlV w A n es := ⟨hl, Row.of_own h⟩
end
end Go.Proofs.YtlhcobkncceodaaGreatDoor
namespace Go.Proofs.YtlhcobkncceodaaGreatDoor
open Go.RowKit

def jobSh : Sh := .pair (.int .i64) (.int .i64)
def viewSh : Sh := .pair .bool (.pair .bool (.pair (.int .i64) (.int .i64)))
def ViewIn (e : VE) : Prop := (Lit.int .i64 e.w).wf = true ∧ (Lit.int .i64 e.v).wf = true
theorem RdR.view {lo hi : Nat} {w : World} {cs : List Value} {d : viewSh.D} (h : RdR lo hi w viewSh cs d) : ∃ e : VE, cs = e.cells ∧ ViewIn e := by
  obtain ⟨c1, r1, e1, h1, hk1, hb⟩ := h
  obtain ⟨c2, r2, e2, h2, hk2, hb⟩ := hb
  obtain ⟨c3, r3, e3, h3, ⟨hk3, hw3⟩, hk4, hw4⟩ := hb
  have hk1' : c1 = [.bool d.1] := hk1
  have hk2' : c2 = [.bool d.2.1] := hk2
  exact ⟨⟨d.1, d.2.1, d.2.2.1, d.2.2.2⟩, by rw [e1, hk1', e2, hk2', e3, hk3, hk4]; rfl, hw3, hw4⟩
theorem RdR.views {lo hi : Nat} {w : World} {cs : List Value} {ds : List viewSh.D} (h : RdR lo hi w (.sl viewSh) cs ds) (hh : hi ≤ w.heap.size) : ∃ A n c es, cs = [.slice A n c] ∧ SlV w A n es ∧ n ≤ c ∧ n ≤ maxLen ∧ ∀ e ∈ es, ViewIn e := by
  obtain ⟨A, n, c, e1, e2, e3, e4, h⟩ := h
  rcases Nat.eq_zero_or_pos n with h0 | h0
  · subst h0
    exact ⟨A, 0, c, [], e1, SlV.nil, e3, by omega, by simp⟩
  · obtain ⟨b, off, eA, _, hb, hall⟩ := h h0
    obtain ⟨es, h1, h2, h3⟩ := g_build VE.cells 4 VE.cells_len ViewIn w b off n (fun j hj => by
      have hjl : j < ds.length := by omega
      obtain ⟨cs, _, hc, hr⟩ := hall j (ds[j]'hjl) (List.getElem?_eq_getElem hjl)
      obtain ⟨e, rfl, he⟩ := RdR.view hr
      exact ⟨e, he, hc⟩)
    exact ⟨A, n, c, es, e1, ⟨h1, ⟨by rw [flat_len _ 4 VE.cells_len, h1], fun _ => ⟨b, off, eA, by omega, h2⟩⟩⟩, e3, by omega, h3⟩
section
variable {H : Type} {enc : TypeId × Value → H} {w : World} {base : Nat} {spare : Nat → Bool} {held : Bool}
theorem Tryz.cellsVi : Tryz.prog.cellsOf 3 = 1 := by kernel_rfl
theorem Tryz.cellsVb : Tryz.prog.cellsOf 4 = 1 := by kernel_rfl
theorem Tryz.cellsJob : Tryz.prog.cellsOf 47 = 2 := by kernel_rfl
theorem opensJob : Opens enc Tryz.prog w base spare held 47 jobSh :=
  opens_struct Tryz.underlying47 Tryz.cellsJob (opensF_cons rfl Tryz.cellsVi (opens_int Tryz.underlying3) (opensF_last rfl Tryz.cellsVi (opens_int Tryz.underlying3)))
end
section
variable {H : Type} {enc : TypeId × Value → H} {w : World} {base : Nat} {spare : Nat → Bool} {held : Bool}
end
end Go.Proofs.YtlhcobkncceodaaGreatDoor
namespace Go.Proofs.YtlhcobkncceodaaGreatDoor
open Go.RowKit

theorem Tryz.infoView : (Tryz.prog.info? 93).map (fun i => (i.zero, i.size, i.bytes)) = some (some (.agg #[.bool false, .bool false, .int .i64 0, .int .i64 0]), 4, 24) := by kernel_rfl

end Go.Proofs.YtlhcobkncceodaaGreatDoor
namespace Go.Proofs.YtlhcobkncceodaaGreatDoor
open Go.RowKit

theorem toJob_any (p s : Int) (w : World) :
    Calls Tryz.prog 59 #[.agg #[.int .i64 p, .int .i64 s]] w fun r w' => r = .returned (.agg #[.int .i64 p, .int .i64 s]) ∧ Below w.heap.size w w' := by
  go_enter Tryz.func59, Tryz.ntmps59
  go_wp2
  refine bodyPost_ret (v := .agg #[.int .i64 p, .int .i64 s]) (by simp [results, Tryz.results59, go_sem]) rfl ⟨rfl, ?_⟩
  repeat (first | exact below_a3 _ _ _ _ | refine Below.setCell ?_ (by simp <;> omega) _)
end Go.Proofs.YtlhcobkncceodaaGreatDoor
namespace Go.Proofs.YtlhcobkncceodaaGreatDoor
open Go.RowKit

theorem heldZ_any (A : Option Addr) (n c k : Nat) (w : World) (hr : SlI w A n (ints k n)) (hn : n ≤ 2097152) (hk : k ≤ 8388608) :
    Calls Tryz.prog 32 #[.slice A n c, .int .i64 (k : Int)] w (GNum w ((k + n : Nat) : Int)) := by
  refine (heldInts_any A n c k w hr hn hk).mono ?_
  rintro e w' ⟨rfl, rfl⟩
  exact ⟨rfl, Below.refl _ _⟩
end Go.Proofs.YtlhcobkncceodaaGreatDoor
namespace Go.Proofs.YtlhcobkncceodaaGreatDoor
open Go.RowKit

/-- Nothing is written but in blocks of S, and new ones. -/
structure OnlyB (S : Nat → Prop) (w w' : World) : Prop where
  os : w'.os = w.os
  tape : w'.tape = w.tape
  output : w'.output = w.output
  size : w.heap.size ≤ w'.heap.size
  block : ∀ k, k < w.heap.size → ¬ S k → w'.heap[k]? = w.heap[k]?
theorem OnlyB.refl (S : Nat → Prop) (w : World) : OnlyB S w w := ⟨rfl, rfl, rfl, Nat.le_refl _, fun _ _ _ => rfl⟩
theorem OnlyB.trans {S : Nat → Prop} {a b c : World} (h : OnlyB S a b) (k : OnlyB S b c) : OnlyB S a c :=
  ⟨k.os.trans h.os, k.tape.trans h.tape, k.output.trans h.output, Nat.le_trans h.size k.size, fun i hi hn => (k.block i (Nat.lt_of_lt_of_le hi h.size) hn).trans (h.block i hi hn)⟩
theorem OnlyB.grown {S : Nat → Prop} {a b c : World} {row : Option Nat} (h : OnlyB S a b) (k : b.grownBy c row) (hr : ∀ i, row = some i → S i) : OnlyB S a c :=
  h.trans ⟨k.os, k.tape, k.output, k.size, fun i hi hn => k.block i hi (fun e => hn (hr i e.symm))⟩
theorem OnlyB.below {S : Nat → Prop} {a b c : World} (h : OnlyB S a b) (k : Below b.heap.size b c) : OnlyB S a c :=
  h.trans ⟨k.os, k.tape, k.output, k.size, fun i hi _ => k.block i hi⟩
theorem OnlyB.mono {S T : Nat → Prop} {a b : World} (h : OnlyB S a b) (hs : ∀ i, S i → T i) : OnlyB T a b :=
  ⟨h.os, h.tape, h.output, h.size, fun i hi hn => h.block i hi (fun e => hn (hs i e))⟩
theorem OnlyB.toBelow {S : Nat → Prop} {B : Nat} {w w' : World} (h : OnlyB S w w') (hB : B ≤ w.heap.size) (hs : ∀ k, S k → B ≤ k) : Below B w w' :=
  ⟨h.os, h.tape, h.output, h.size, fun k hk => h.block k (by omega) (fun e => by have := hs k e; omega)⟩
theorem OnlyB.own {S : Nat → Prop} {w w' : World} {lo e size n : Nat} {v : Value} {xs : List Value} (h : w.ownsRow lo e size v n xs) (k : OnlyB S w w') (hs : ∀ g, v.ownBlock = some g → ¬ S g) : w'.ownsRow lo e size v n xs := by
  refine ⟨h.1, ?_⟩
  rcases h.2 with hn | ⟨g, cap, cur, rfl, hb, hgg, rest⟩
  · exact .inl hn
  · refine .inr ⟨g, cap, cur, rfl, hb, ?_, rest⟩
    rw [k.block g (Array.getElem?_eq_some_iff.1 hgg).1 (hs g rfl)]
    exact hgg
theorem OnlyB.grown2 {S : Nat → Prop} {a b c : World} {row : Option Nat} (h : OnlyB S a b) (k : b.grownBy c row) (hr : ∀ i, row = some i → S i ∨ a.heap.size ≤ i) : OnlyB S a c :=
  ⟨k.os.trans h.os, k.tape.trans h.tape, k.output.trans h.output, Nat.le_trans h.size k.size, fun i hi hn => (k.block i (Nat.lt_of_lt_of_le hi h.size) (fun e => by
    rcases hr i e.symm with h1 | h1
    · exact hn h1
    · omega)).trans (h.block i hi hn)⟩
end Go.Proofs.YtlhcobkncceodaaGreatDoor
