/- What the opening of an argument that is a graph, or a list of records of three numbers, is told by (no condition). // The opening of an argument that is a graph. // Degrees as data, and a row of numbers that is counted in (no condition). // Slices of numbers as arguments of the laws: the helper that copies one into new memory; the opening of one that came in. Condition: at most 2^21 numbers. // Words for the walks of laws whose function answers numbers: rows of numbers of a call's own, from call to call. -/
import Derived.Test.YtlhcobkncceodaaGreatDoorCK
import Derived.Test.YtlhcobkncceodaaGreatDoorCB
import Derived.Test.YtlhcobkncceodaaGreatDoorKGrEq
import Derived.Test.YtlhcobkncceodaaGreatDoorKIntEq
namespace Go.Proofs.YtlhcobkncceodaaGreatDoor
open Go.RowKit

def edgeSh : Sh := .pair (.int .i64) (.pair (.int .i64) (.int .i64))
def grSh : Sh := .pair (.int .i64) (.sl edgeSh)
theorem g_build {α : Type} (f : α → List Value) (k : Nat) (hf : ∀ a, (f a).length = k) (Q : α → Prop) (w : World) (b off : Nat) : ∀ (n : Nat), (∀ j, j < n → ∃ a, Q a ∧ ∀ (i : Nat) (v : Value), (f a)[i]? = some v → w.cell? ⟨b, off + j * k + i, none⟩ = some v) →
    ∃ es : List α, es.length = n ∧ (∀ (j : Nat) (v : Value), (es.flatMap f)[j]? = some v → w.cell? ⟨b, off + j, none⟩ = some v) ∧ ∀ a ∈ es, Q a
  | 0, _ => ⟨[], rfl, fun j v hv => by simp at hv, by simp⟩
  | m + 1, h => by
    obtain ⟨es, h1, h2, h3⟩ := g_build f k hf Q w b off m (fun j hj => h j (by omega))
    obtain ⟨a, ha, hc⟩ := h m (by omega)
    refine ⟨es ++ [a], by simp [h1], fun j v hv => ?_, fun x hx => ?_⟩
    · have hl : (es.flatMap f).length = m * k := by rw [flat_len f k hf, h1]
      rw [flat_snoc] at hv
      rcases Nat.lt_or_ge j (m * k) with hj | hj
      · rw [List.getElem?_append_left (by omega)] at hv
        exact h2 j v hv
      · rw [List.getElem?_append_right (by omega), hl] at hv
        have := hc (j - m * k) v hv
        rw [show off + m * k + (j - m * k) = off + j by omega] at this
        exact this
    · rcases List.mem_append.1 hx with hx | hx
      · exact h3 x hx
      · simp at hx
        subst hx
        exact ha

def EdgeIn (e : GE) : Prop := (Lit.int .i64 e.f).wf = true ∧ (Lit.int .i64 e.t).wf = true ∧ (Lit.int .i64 e.w).wf = true
theorem RdR.edge {lo hi : Nat} {w : World} {cs : List Value} {d : edgeSh.D} (h : RdR lo hi w edgeSh cs d) : ∃ e : GE, cs = e.cells ∧ EdgeIn e := by
  obtain ⟨c1, c2, e, h1, ⟨hk, hwf⟩, hb⟩ := h
  obtain ⟨c3, c4, e', h2, ⟨hk', hwf'⟩, hc, hwf''⟩ := hb
  exact ⟨⟨d.1, d.2.1, d.2.2⟩, by rw [e, hk, e', hk', hc]; rfl, hwf, hwf', hwf''⟩
/-- What a walk is told of a graph that came in. -/
structure GrIn (w : World) (N : Int) (A : Option Addr) (n : Nat) (es : List GE) : Prop where
  N : (Lit.int .i64 N).wf = true
  g : SlG w A n es
  l : n ≤ maxLen
  e : ∀ e ∈ es, EdgeIn e
theorem RdR.edges {lo hi : Nat} {w : World} {cs : List Value} {ds : List edgeSh.D} (h : RdR lo hi w (.sl edgeSh) cs ds) (hh : hi ≤ w.heap.size) : ∃ A n c es, cs = [.slice A n c] ∧ SlG w A n es ∧ n ≤ c ∧ n ≤ maxLen ∧ ∀ e ∈ es, EdgeIn e := by
  obtain ⟨A, n, c, e1, e2, e3, e4, h⟩ := h
  rcases Nat.eq_zero_or_pos n with h0 | h0
  · subst h0
    exact ⟨A, 0, c, [], e1, SlG.nil, e3, by omega, by simp⟩
  · obtain ⟨b, off, eA, _, hb, hall⟩ := h h0
    obtain ⟨es, h1, h2, h3⟩ := g_build GE.cells 3 GE.cells_len EdgeIn w b off n (fun j hj => by
      have hjl : j < ds.length := by omega
      obtain ⟨cs, _, hc, hr⟩ := hall j (ds[j]'hjl) (List.getElem?_eq_getElem hjl)
      obtain ⟨e, rfl, he⟩ := RdR.edge hr
      exact ⟨e, he, hc⟩)
    exact ⟨A, n, c, es, e1, ⟨h1, ⟨by rw [flat_len _ 3 GE.cells_len, h1], fun _ => ⟨b, off, eA, by omega, h2⟩⟩⟩, e3, by omega, h3⟩
theorem RdR.graph {lo hi : Nat} {w : World} {cs : List Value} {d : grSh.D} (h : RdR lo hi w grSh cs d) (hh : hi ≤ w.heap.size) : ∃ N A n c es, cs = [.int .i64 N, .slice A n c] ∧ GrIn w N A n es := by
  obtain ⟨c1, c2, e, h1, ⟨hk, hwf⟩, hb⟩ := h
  obtain ⟨A, n, c, es, ea, hg, _, hl, he⟩ := RdR.edges hb hh
  exact ⟨d.1, A, n, c, es, by rw [e, hk, ea]; rfl, ⟨hwf, hg, hl, he⟩⟩

end Go.Proofs.YtlhcobkncceodaaGreatDoor
namespace Go.Proofs.YtlhcobkncceodaaGreatDoor
open Go.RowKit

section
variable {H : Type} {enc : TypeId × Value → H} {w : World} {base : Nat} {spare : Nat → Bool} {held : Bool}
theorem Tryz.cellsGi : Tryz.prog.cellsOf 3 = 1 := by kernel_rfl
theorem Tryz.cellsEd : Tryz.prog.cellsOf 128 = 3 := by kernel_rfl
theorem Tryz.cellsSEd : Tryz.prog.cellsOf 44 = 1 := by kernel_rfl
theorem Tryz.cellsGr : Tryz.prog.cellsOf 46 = 2 := by kernel_rfl
theorem opensEdge : Opens enc Tryz.prog w base spare held 128 edgeSh :=
  opens_struct Tryz.underlying128 Tryz.cellsEd (opensF_cons rfl Tryz.cellsGi (opens_int Tryz.underlying3) (opensF_cons rfl Tryz.cellsGi (opens_int Tryz.underlying3) (opensF_last rfl Tryz.cellsGi (opens_int Tryz.underlying3))))
theorem opensGraph : Opens enc Tryz.prog w base spare held 46 grSh :=
  opens_struct Tryz.underlying46 Tryz.cellsGr (opensF_cons rfl Tryz.cellsGi (opens_int Tryz.underlying3) (opensF_last rfl Tryz.cellsSEd (opens_sl Tryz.underlying44 Tryz.cellsEd (by decide) opensEdge)))

set_option maxRecDepth 100000 in
theorem open_graph {r : Reach} {b0 : Nat} {v : Value} {d : DataW H} {p : List MemPlace} (hv : Value.okWide Tryz.prog w r b0 46 v) (h : DataW.Trod enc Tryz.prog w base spare held 46 v d p) :
    ∃ N A n c es, v = .agg #[.int .i64 N, .slice A n c] ∧ GrIn w N A n es := by
  obtain ⟨cs, rfl, _⟩ := Go.WideShapes.okWide_struct Tryz.underlying46 hv
  obtain ⟨fuel, hf⟩ := h
  obtain ⟨x, hx⟩ := opensGraph _ _ _ hf
  obtain ⟨N, A, n, c, es, he, hi⟩ := hx.graph (Nat.le_refl _)
  refine ⟨N, A, n, c, es, ?_, hi⟩
  have : cs.toList = [.int .i64 N, .slice A n c] := by simpa [Value.cells] using he
  cases cs
  simp only at this
  rw [this]
end
end Go.Proofs.YtlhcobkncceodaaGreatDoor
namespace Go.Proofs.YtlhcobkncceodaaGreatDoor
open Go.RowKit

/-- One more at place i. -/
def bump (l : List Int) (i : Nat) : List Int := l.set i (l.getD i 0 + 1)
def degs (key : GE → Int) (n : Nat) (es : List GE) : List Int := es.foldl (fun l e => bump l (key e).toNat) (List.replicate n 0)
def degsOf (key : GE → Int) (N : Int) (es : List GE) : List Int := if graphB N es then degs key N.toNat es else []
theorem bump_len (l : List Int) (i : Nat) : (bump l i).length = l.length := by simp [bump]
theorem degs_snoc (key : GE → Int) (n : Nat) (es : List GE) (e : GE) : degs key n (es ++ [e]) = bump (degs key n es) (key e).toNat := by simp [degs]
theorem fold_len (key : GE → Int) : ∀ (es : List GE) (l : List Int), (es.foldl (fun l e => bump l (key e).toNat) l).length = l.length
  | [], _ => rfl
  | e :: r, l => by rw [List.foldl_cons, fold_len key r, bump_len]
theorem degs_len (key : GE → Int) (n : Nat) (es : List GE) : (degs key n es).length = n := by
  unfold degs
  rw [fold_len]
  simp
theorem bump_bound {l : List Int} {i : Nat} {q : Int} (h : ∀ x ∈ l, 0 ≤ x ∧ x ≤ q) (hq : 0 ≤ q) : ∀ x ∈ bump l i, 0 ≤ x ∧ x ≤ q + 1 := by
  intro x hx
  unfold bump at hx
  rcases List.mem_or_eq_of_mem_set hx with hx | rfl
  · have := h x hx; omega
  · rw [List.getD_eq_getElem?_getD]
    cases hh : l[i]? with
    | none => simp; omega
    | some y => have := h y (List.mem_of_getElem? hh); simp; omega
theorem fold_bound (key : GE → Int) : ∀ (es : List GE) (l : List Int) (q : Int), 0 ≤ q → (∀ x ∈ l, 0 ≤ x ∧ x ≤ q) → ∀ x ∈ es.foldl (fun l e => bump l (key e).toNat) l, 0 ≤ x ∧ x ≤ q + es.length
  | [], l, q, _, h => by simpa using h
  | e :: r, l, q, hq, h => by
    intro x hx
    rw [List.foldl_cons] at hx
    have := fold_bound key r _ (q + 1) (by omega) (bump_bound h hq) x hx
    rw [List.length_cons]
    omega
theorem degs_bound (key : GE → Int) (n : Nat) (es : List GE) : ∀ x ∈ degs key n es, 0 ≤ x ∧ x ≤ es.length := by
  intro x hx
  have := fold_bound key es (List.replicate n 0) 0 (by omega) (fun y hy => by rw [List.eq_of_mem_replicate hy]; omega) x hx
  omega
theorem vi_bump (l : List Int) (i : Nat) (v : Int) : (vi l).set i (.int .i64 v) = vi (l.set i v) := by simp [vi, List.map_set]

def OwI (w : World) (lo : Nat) (A : Option Addr) (n c : Nat) (xs : List Int) : Prop := w.ownsRow lo 3 1 (.slice A n c) n (vi xs)
def MadeI (w : World) (xs : List Int) (e : Ending) (w' : World) : Prop :=
  ∃ A n c, e = .returned (.slice A n c) ∧ OwI w' w.heap.size A n c xs ∧ Below w.heap.size w w'
theorem flat_one : ∀ xs : List Int, xs.flatMap (fun x : Int => [Value.int .i64 x]) = vi xs
  | [] => rfl
  | x :: r => by rw [List.flatMap_cons, flat_one r]; rfl
theorem made_zero (M : Nat) (key : GE → Int) (es : List GE) : (madeCells (Value.int .i64 0).cells (M * 1)).toList = vi (degs key M (es.take 0)) := by
  rw [g_rep (fun x : Int => [Value.int .i64 x]) 0 1 (fun _ => rfl) (by omega) (Value.int .i64 0).cells rfl M, flat_one]
  rfl
theorem degs_at {key : GE → Int} {M : Nat} {es : List GE} {f : Nat} (hf : f < M) : ∃ x : Int, (degs key M es)[f]? = some x ∧ 0 ≤ x ∧ x ≤ es.length := by
  have hl : f < (degs key M es).length := by rw [degs_len]; exact hf
  exact ⟨(degs key M es)[f], List.getElem?_eq_getElem hl, degs_bound key M es _ (List.getElem_mem hl)⟩
theorem degs_step {key : GE → Int} {M k : Nat} {es : List GE} {e : GE} {f : Nat} {x : Int} (he : es[k]? = some e) (hk : key e = (f : Int)) (hx : (degs key M (es.take k))[f]? = some x) : vi (degs key M (es.take (k + 1))) = (vi (degs key M (es.take k))).set f (.int .i64 (x + 1)) := by
  rw [g_take es k e he, degs_snoc, hk, Int.toNat_natCast, vi_bump]
  unfold bump
  rw [List.getD_eq_getElem?_getD, hx]
  rfl

end Go.Proofs.YtlhcobkncceodaaGreatDoor
namespace Go.Proofs.YtlhcobkncceodaaGreatDoor
open Go.RowKit

/-- The first k cells are those of xs, the rest nought. -/
def halfI (xs : List Int) (k : Nat) : List Int := xs.take k ++ List.replicate (xs.length - k) 0
theorem halfI_zero (xs : List Int) : halfI xs 0 = List.replicate xs.length 0 := by simp [halfI]
theorem halfI_full (xs : List Int) : halfI xs xs.length = xs := by simp [halfI]
theorem halfI_step (xs : List Int) (k : Nat) (x : Int) (h : xs[k]? = some x) : (vi (halfI xs k)).set k (.int .i64 x) = vi (halfI xs (k + 1)) := by
  have hk : k < xs.length := (List.getElem?_eq_some_iff.1 h).1
  have hx : xs[k] = x := (List.getElem?_eq_some_iff.1 h).2
  have : (halfI xs k).set k x = halfI xs (k + 1) := by
    unfold halfI
    rw [List.set_append_right _ _ (by simp; omega), List.take_succ_eq_append_getElem hk, List.append_assoc]
    congr 1
    rw [List.length_take, Nat.min_eq_left (by omega), Nat.sub_self, show xs.length - k = (xs.length - (k + 1)) + 1 by omega, List.replicate_succ]
    simp [hx]
  rw [← this]
  simp [vi, List.map_set]

def MadeN (w : World) (n : Nat) (xs : List Int) (e : Ending) (w' : World) : Prop :=
  ∃ A c, e = .returned (.slice A n c) ∧ OwI w' w.heap.size A n c xs ∧ Below w.heap.size w w'

set_option maxHeartbeats 400000 in
theorem copyInts_any (A : Option Addr) (n c : Nat) (xs : List Int) (w : World) (hr : SlI w A n xs) (hn : n ≤ 2097152) :
    Calls Tryz.prog 60 #[.slice A n c] w (MadeN w n xs) := by
  obtain ⟨i0, hi, hz0, hz1, hz2⟩ := info_parts Tryz.infoInt
  have hl := Lib.hid hr.len
  have HR := Lib.hid hr
  clear hr
  go_enter Tryz.func60, Tryz.ntmps60
  go_wp2_with (refine wpList_make_full _ rfl (.tmp 6) (.tmp 6) 28 rfl w.heap.size 3 i0 (.int .i64 0) 1 Tryz.underlying28 hi hz0 hz1 .i64 .i64 _ _ n rfl rfl rfl rfl (by rw [hz2]; omega) (by unfold maxLen; omega) (Nat.le_refl _) ?_; intro w1 hown hg)
  have hb1 : Below w.heap.size w w1 := (Below.refl _ _).grown hg (Nat.le_refl _) (by simp)
  have hown1 : w1.ownsRow w.heap.size 3 1 (.slice (some ⟨w.heap.size, 0, none⟩) n n) n (vi (halfI xs 0)) := by
    have h := hown
    rw [g_rep (fun x : Int => [Value.int .i64 x]) 0 1 (fun _ => rfl) (by omega) (Value.int .i64 0).cells rfl n, flat_one] at h
    rw [halfI_zero, hl.out]
    exact h
  clear hown hg
  go_loopw [4] (fun i wr => ∃ k : Nat, k ≤ n ∧ i = .int .i64 k ∧ wr.ownsRow w.heap.size 3 1 (.slice (some ⟨w.heap.size, 0, none⟩) n n) n (vi (halfI xs k)) ∧ Below w.heap.size w wr) (fun i _ => n - (intOf i).toNat)
  case atStart => exact ⟨0, Nat.zero_le _, rfl, hown1, hb1⟩
  case round =>
    obtain ⟨k, hk, rfl, hown, hbel⟩ := hrel
    by_cases hlt : k < n
    · obtain ⟨b, off, x, rfl, hbw, hxs, hc⟩ := HR.out.at_ hlt
      have hcell : wr.cell? ⟨b, off + k, none⟩ = some (.int .i64 x) := (hbel.cell (by exact hbw)).trans hc
      have hl2 : k < (vi (halfI xs k)).length := by rw [hown.1]; omega
      have hcell2 : wr.cell? ⟨w.heap.size, k, none⟩ = some (vi (halfI xs k))[k] := by rw [hown.cellAt k (by omega), List.getElem?_eq_getElem hl2]
      have hfr := hown.frozenAt k
      have hst := hown.stored k (.int .i64 x)
      rw [halfI_step xs k x hxs.out] at hst
      have hb2 := hbel.setCell (p := ⟨w.heap.size, k, none⟩) (Nat.le_refl _) (.int .i64 x)
      have hst1 := Lib.hid hst.1
      generalize (vi (halfI xs k))[k] = old at hcell2
      clear hst hown hl2 hc
      go_wp2
      go_roundw
      case rel => exact ⟨k + 1, by omega, by go_num, hst1.out, hb2⟩
      case measure => simp [intOf]; omega
    · obtain rfl : k = n := by omega
      go_wp2
      go_ret
      have e := hl.out
      subst e
      rw [halfI_full] at hown
      exact ⟨_, _, rfl, hown, hbel⟩

/-! ### one that came in -/
def NumIn (x : Int) : Prop := (Lit.int .i64 x).wf = true
/-- What a walk is told of a slice of numbers that came in. -/
structure IntsIn (w : World) (A : Option Addr) (n c : Nat) (xs : List Int) : Prop where
  g : SlI w A n xs
  l : n ≤ maxLen
  c : n ≤ c
  e : ∀ x ∈ xs, NumIn x
theorem flat_vi (xs : List Int) : xs.flatMap (fun x : Int => [Value.int .i64 x]) = vi xs := flat_one xs
theorem RdR.nums {lo hi : Nat} {w : World} {cs : List Value} {ds : List Int} (h : RdR lo hi w (.sl (.int .i64)) cs ds) (hh : hi ≤ w.heap.size) : ∃ A n c xs, cs = [.slice A n c] ∧ IntsIn w A n c xs := by
  obtain ⟨A, n, c, e1, e2, e3, e4, h⟩ := h
  rcases Nat.eq_zero_or_pos n with h0 | h0
  · subst h0
    exact ⟨A, 0, c, [], e1, ⟨SlI.nil, by omega, e3, by simp⟩⟩
  · obtain ⟨b, off, eA, _, hb, hall⟩ := h h0
    obtain ⟨xs, h1, h2, h3⟩ := g_build (fun x : Int => [Value.int .i64 x]) 1 (fun _ => rfl) NumIn w b off n (fun j hj => by
      have e5 : List.length (α := Int) ds = n := e2
      have hjl : j < List.length (α := Int) ds := by omega
      obtain ⟨cs, _, hc, hr⟩ := hall j (ds[j]'hjl) (List.getElem?_eq_getElem hjl)
      obtain ⟨rfl, hwf⟩ := hr
      exact ⟨_, hwf, hc⟩)
    rw [flat_vi] at h2
    exact ⟨A, n, c, xs, e1, ⟨⟨h1, ⟨by rw [vi_len, h1, Nat.mul_one], fun _ => ⟨b, off, eA, by omega, h2⟩⟩⟩, by omega, e3, h3⟩⟩

section
variable {H : Type} {enc : TypeId × Value → H} {w : World} {base : Nat} {spare : Nat → Bool} {held : Bool}
theorem Tryz.cellsSI : Tryz.prog.cellsOf 28 = 1 := by kernel_rfl
theorem opensNums : Opens enc Tryz.prog w base spare held 28 (.sl (.int .i64)) := opens_sl Tryz.underlying28 Tryz.cellsGi (by decide) (opens_int Tryz.underlying3)
set_option maxRecDepth 100000 in
theorem open_ints {r : Reach} {b0 : Nat} {v : Value} {d : DataW H} {p : List MemPlace} (hv : Value.okWide Tryz.prog w r b0 28 v) (h : DataW.Trod enc Tryz.prog w base spare held 28 v d p) :
    ∃ A n c xs, v = .slice A n c ∧ IntsIn w A n c xs := by
  obtain ⟨a, len, cap, rfl⟩ := Go.WideShapes.okWide_slice Tryz.underlying28 hv
  obtain ⟨fuel, hf⟩ := h
  obtain ⟨x, hx⟩ := opensNums _ _ _ hf
  obtain ⟨A, n, c, xs, he, hi⟩ := RdR.nums hx (Nat.le_refl _)
  have h9 : [Value.slice a len cap] = [.slice A n c] := by simpa [Value.cells] using he
  injection h9 with h9
  exact ⟨A, n, c, xs, h9, hi⟩
end
end Go.Proofs.YtlhcobkncceodaaGreatDoor
namespace Go.Proofs.YtlhcobkncceodaaGreatDoor
open Go.RowKit

section
variable {w w' : World} {lo n c : Nat} {A : Option Addr} {xs : List Int}
theorem OwI.cnt (h : OwI w lo A n c xs) : n = xs.length := by have := h.1; rw [vi_len] at this; omega
theorem OwI.below (h : OwI w lo A n c xs) (hb : Below w.heap.size w w') : OwI w' lo A n c xs := own_below h hb
theorem OwI.rd (h : OwI w lo A n c xs) : SlI w A n xs := SlI.of_own h
end
theorem degsOf_len (key : GE → Int) (N : Int) (es : List GE) : (degsOf key N es).length ≤ 150 := by
  unfold degsOf
  split
  · rename_i h
    have := graphB_iff h
    rw [degs_len]
    omega
  · simp
/-- The law's own graph: its box and its edges. -/
structure XBox (w : World) (lo b : Nat) (N : Int) (A : Option Addr) (n c : Nat) (es : List GE) : Prop where
  box : NBox w b N A n c
  own : w.ownsRow lo 113 3 (.slice A n c) n (es.flatMap GE.cells)
theorem XBox.below {w w' : World} {lo b n c : Nat} {N : Int} {A : Option Addr} {es : List GE} (h : XBox w lo b N A n c es) (hb : Below w.heap.size w w') : XBox w' lo b N A n c es := ⟨h.box.below hb, own_below h.own hb⟩
end Go.Proofs.YtlhcobkncceodaaGreatDoor
