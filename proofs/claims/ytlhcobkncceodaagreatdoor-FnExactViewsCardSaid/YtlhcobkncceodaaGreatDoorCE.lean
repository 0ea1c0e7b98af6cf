/- Words for slices of views in memory (plain lemmas over the model; no condition): 'SlV': a slice that reads as a list of records of two truth values and two numbers; such a list laid record by record. // The opening of an argument that is a job, or a list of views (no condition). // Views: what new ones are (no condition). // Views: the contracts of the laws' helpers that measure and copy. Condition: at most 2^21 views. // What stays where another row of the call's own is written; the law's helper that looks for marks in numbers, said of memory alone (plain lemmas over the model; condition: at most 2^21 numbers). // Writings in blocks of a set alone, and what a row of the call's own has for a block (plain lemmas over the model; no condition). -/
import Derived.Test.YtlhcobkncceodaaGreatDoorCK
import Derived.Test.YtlhcobkncceodaaGreatDoorProgMath
import Derived.Test.YtlhcobkncceodaaGreatDoorCD
import Derived.Test.YtlhcobkncceodaaGreatDoorKIntEq
import Derived.Test.YtlhcobkncceodaaGreatDoorKBlkB
namespace Go.Proofs.YtlhcobkncceodaaGreatDoor
open Go.RowKit

def VE.cells (e : VE) : List Value := [.bool e.i, .bool e.o, .int .i64 e.w, .int .i64 e.v]
theorem VE.cells_len (e : VE) : e.cells.length = 4 := rfl
theorem VE.cells_one (e : VE) : ∀ u ∈ e.cells, u.oneCell' = true := by
  intro u hu
  simp [VE.cells] at hu
  rcases hu with rfl | rfl | rfl | rfl <;> rfl
theorem ve_one (es : List VE) : ∀ u ∈ es.flatMap VE.cells, u.oneCell' = true := fun u hu => by
  obtain ⟨e, _, he⟩ := List.mem_flatMap.1 hu
  exact e.cells_one u he

/-- A slice of shard edges in memory. -/
structure SlV (w : World) (A : Option Addr) (n : Nat) (es : List VE) : Prop where
  len : es.length = n
  row : Row w 4 A n (es.flatMap VE.cells)
section
variable {w w' : World} {n c lo e : Nat} {A : Option Addr} {es : List VE}
theorem SlV.keep (h : SlV w A n es) (hs : w.heap.size ≤ w'.heap.size) (hk : ∀ i, i < w.heap.size → w'.heap[i]? = w.heap[i]?) : SlV w' A n es := ⟨h.len, h.row.keep hs hk⟩
theorem SlV.below (h : SlV w A n es) (hb : Below w.heap.size w w') : SlV w' A n es := h.keep hb.size hb.block
theorem SlV.drewN (h : SlV w A n es) (m : Nat) : SlV (w.drewN m) A n es := ⟨h.len, h.row.drewN m⟩
theorem SlV.nil : SlV w A 0 [] := ⟨rfl, Row.nil⟩
/-- The view at place j, its four cells. -/
theorem SlV.at_ {j : Nat} (h : SlV w A n es) (hj : j < n) : ∃ (b off : Nat) (e : VE), A = some ⟨b, off, none⟩ ∧ b < w.heap.size ∧ Hid (es[j]? = some e) ∧
    w.cell? ⟨b, off + j * 4, none⟩ = some (.bool e.i) ∧ w.cell? ⟨b, off + j * 4 + 1, none⟩ = some (.bool e.o) ∧ w.cell? ⟨b, off + j * 4 + 2, none⟩ = some (.int .i64 e.w) ∧ w.cell? ⟨b, off + j * 4 + 3, none⟩ = some (.int .i64 e.v) := by
  obtain ⟨b, off, rfl, hb, hc⟩ := h.row.lies (by omega)
  have hl : j < es.length := by have := h.len; omega
  have he : es[j]? = some es[j] := List.getElem?_eq_getElem hl
  refine ⟨b, off, es[j], rfl, hb, he, ?_, ?_, ?_, ?_⟩
  · exact hc (j * 4) _ (flat_get VE.cells 4 VE.cells_len es j 0 _ he (by omega))
  · exact hc (j * 4 + 1) _ (flat_get VE.cells 4 VE.cells_len es j 1 _ he (by omega))
  · exact hc (j * 4 + 2) _ (flat_get VE.cells 4 VE.cells_len es j 2 _ he (by omega))
  · exact hc (j * 4 + 3) _ (flat_get VE.cells 4 VE.cells_len es j 3 _ he (by omega))
theorem SlV.of_own (h : w.ownsRow lo e 4 (.slice A n c) n (es.flatMap VE.cells)) (hl : es.length = n) : SlV w A n es := ⟨hl, Row.of_own h⟩
end
/-- Four cells of one view stored. -/
def lay4 (w : World) (g q : Nat) (e : VE) : World := (((w.setCell ⟨g, q, none⟩ (.bool e.i)).setCell ⟨g, q + 1, none⟩ (.bool e.o)).setCell ⟨g, q + 2, none⟩ (.int .i64 e.w)).setCell ⟨g, q + 3, none⟩ (.int .i64 e.v)
theorem v_lay {w : World} {lo ty g c n k : Nat} {made rest : List VE} {x e : VE} (h : w.ownsRow lo ty 4 (.slice (some ⟨g, 0, none⟩) n c) n ((made ++ x :: rest).flatMap VE.cells)) (hm : made.length = k) :
    (lay4 w g (k * 4) e).ownsRow lo ty 4 (.slice (some ⟨g, 0, none⟩) n c) n ((made ++ e :: rest).flatMap VE.cells) ∧ w.grownBy (lay4 w g (k * 4) e) (some g) := by
  have h1 := h.stored (k * 4) (.bool e.i)
  have h2 := h1.1.stored (k * 4 + 1) (.bool e.o)
  have h3 := h2.1.stored (k * 4 + 2) (.int .i64 e.w)
  have h4 := h3.1.stored (k * 4 + 3) (.int .i64 e.v)
  have e1 := flat_set VE.cells 4 VE.cells_len (made ++ x :: rest) k 0 x ⟨e.i, x.o, x.w, x.v⟩ (.bool e.i) (g_get _ _ _ _ hm) (by omega) rfl
  rw [Nat.add_zero, g_set _ _ _ _ _ hm] at e1
  have e2 := flat_set VE.cells 4 VE.cells_len (made ++ ⟨e.i, x.o, x.w, x.v⟩ :: rest) k 1 ⟨e.i, x.o, x.w, x.v⟩ ⟨e.i, e.o, x.w, x.v⟩ (.bool e.o) (g_get _ _ _ _ hm) (by omega) rfl
  rw [g_set _ _ _ _ _ hm] at e2
  have e3 := flat_set VE.cells 4 VE.cells_len (made ++ ⟨e.i, e.o, x.w, x.v⟩ :: rest) k 2 ⟨e.i, e.o, x.w, x.v⟩ ⟨e.i, e.o, e.w, x.v⟩ (.int .i64 e.w) (g_get _ _ _ _ hm) (by omega) rfl
  rw [g_set _ _ _ _ _ hm] at e3
  have e4 := flat_set VE.cells 4 VE.cells_len (made ++ ⟨e.i, e.o, e.w, x.v⟩ :: rest) k 3 ⟨e.i, e.o, e.w, x.v⟩ e (.int .i64 e.v) (g_get _ _ _ _ hm) (by omega) rfl
  rw [g_set _ _ _ _ _ hm] at e4
  rw [e1, e2, e3, e4] at h4
  exact ⟨h4.1, ((h1.2.trans h2.2).trans h3.2).trans h4.2⟩
def zero4 : VE := ⟨false, false, 0, 0⟩
theorem rep4_succ (n k : Nat) (h : k < n) : List.replicate (n - k) zero4 = zero4 :: List.replicate (n - (k + 1)) zero4 := by
  rw [show n - k = (n - (k + 1)) + 1 by omega, List.replicate_succ]

end Go.Proofs.YtlhcobkncceodaaGreatDoor
namespace Go.Proofs.YtlhcobkncceodaaGreatDoor
open Go.RowKit

def jobSh : Sh := .pair (.int .i64) (.int .i64)
def viewSh : Sh := .pair .bool (.pair .bool (.pair (.int .i64) (.int .i64)))
def ViewIn (e : VE) : Prop := (Lit.int .i64 e.w).wf = true ∧ (Lit.int .i64 e.v).wf = true
theorem RdR.view {lo hi : Nat} {w : World} {cs : List Value} {d : viewSh.D} (h : RdR lo hi w viewSh cs d) : ∃ e : VE, cs = e.cells ∧ ViewIn e := by
  obtain ⟨c1, r1, e1, h1, hk1, hb⟩ := h
  obtain ⟨c2, r2, e2, h2, hk2, hb⟩ := hb
  obtain ⟨c3, r3, e3, h3, ⟨hk3, hw3⟩, hk4, hw4⟩ := hb
  have hk1' : c1 = [.bool d.1] := hk1
  have hk2' : c2 = [.bool d.2.1] := hk2
  exact ⟨⟨d.1, d.2.1, d.2.2.1, d.2.2.2⟩, by rw [e1, hk1', e2, hk2', e3, hk3, hk4]; rfl, hw3, hw4⟩
theorem RdR.views {lo hi : Nat} {w : World} {cs : List Value} {ds : List viewSh.D} (h : RdR lo hi w (.sl viewSh) cs ds) (hh : hi ≤ w.heap.size) : ∃ A n c es, cs = [.slice A n c] ∧ SlV w A n es ∧ n ≤ c ∧ n ≤ maxLen ∧ ∀ e ∈ es, ViewIn e := by
  obtain ⟨A, n, c, e1, e2, e3, e4, h⟩ := h
  rcases Nat.eq_zero_or_pos n with h0 | h0
  · subst h0
    exact ⟨A, 0, c, [], e1, SlV.nil, e3, by omega, by simp⟩
  · obtain ⟨b, off, eA, _, hb, hall⟩ := h h0
    obtain ⟨es, h1, h2, h3⟩ := g_build VE.cells 4 VE.cells_len ViewIn w b off n (fun j hj => by
      have hjl : j < ds.length := by omega
      obtain ⟨cs, _, hc, hr⟩ := hall j (ds[j]'hjl) (List.getElem?_eq_getElem hjl)
      obtain ⟨e, rfl, he⟩ := RdR.view hr
      exact ⟨e, he, hc⟩)
    exact ⟨A, n, c, es, e1, ⟨h1, ⟨by rw [flat_len _ 4 VE.cells_len, h1], fun _ => ⟨b, off, eA, by omega, h2⟩⟩⟩, e3, by omega, h3⟩
/-- What a walk is told of a list of views that came in. -/
structure ViewsIn (w : World) (A : Option Addr) (n c : Nat) (es : List VE) : Prop where
  g : SlV w A n es
  c : n ≤ c
  l : n ≤ maxLen
  e : ∀ e ∈ es, ViewIn e
section
variable {H : Type} {enc : TypeId × Value → H} {w : World} {base : Nat} {spare : Nat → Bool} {held : Bool}
theorem Tryz.cellsVi : Tryz.prog.cellsOf 3 = 1 := by kernel_rfl
theorem Tryz.cellsVb : Tryz.prog.cellsOf 4 = 1 := by kernel_rfl
theorem Tryz.cellsJob : Tryz.prog.cellsOf 47 = 2 := by kernel_rfl
theorem opensJob : Opens enc Tryz.prog w base spare held 47 jobSh :=
  opens_struct Tryz.underlying47 Tryz.cellsJob (opensF_cons rfl Tryz.cellsVi (opens_int Tryz.underlying3) (opensF_last rfl Tryz.cellsVi (opens_int Tryz.underlying3)))
set_option maxRecDepth 100000 in
theorem open_job {r : Reach} {b0 : Nat} {v : Value} {d : DataW H} {p : List MemPlace} (hv : Value.okWide Tryz.prog w r b0 47 v) (h : DataW.Trod enc Tryz.prog w base spare held 47 v d p) :
    ∃ a s : Int, v = .agg #[.int .i64 a, .int .i64 s] ∧ ((Lit.int .i64 a).wf = true ∧ (Lit.int .i64 s).wf = true) := by
  obtain ⟨cs, rfl, _⟩ := Go.WideShapes.okWide_struct Tryz.underlying47 hv
  obtain ⟨fuel, hf⟩ := h
  obtain ⟨x, hx⟩ := opensJob _ _ _ hf
  obtain ⟨c1, c2, e, h1, ⟨hk, hwf⟩, hk2, hwf2⟩ := hx
  refine ⟨x.1, x.2, ?_, hwf, hwf2⟩
  have : cs.toList = [.int .i64 x.1, .int .i64 x.2] := by
    have e9 : (Value.agg cs).cells.toList = c1 ++ c2 := e
    rw [hk, hk2] at e9
    simpa [Value.cells] using e9
  cases cs
  simp only at this
  rw [this]
end
section
variable {H : Type} {enc : TypeId × Value → H} {w : World} {base : Nat} {spare : Nat → Bool} {held : Bool}
end
end Go.Proofs.YtlhcobkncceodaaGreatDoor
namespace Go.Proofs.YtlhcobkncceodaaGreatDoor
open Go.RowKit

theorem Tryz.infoView : (Tryz.prog.info? 93).map (fun i => (i.zero, i.size, i.bytes)) = some (some (.agg #[.bool false, .bool false, .int .i64 0, .int .i64 0]), 4, 24) := by kernel_rfl

/-- New views. -/
def MadeVs (w : World) (es : List VE) (e : Ending) (w' : World) : Prop :=
  ∃ A c, e = .returned (.slice A es.length c) ∧ w'.ownsRow w.heap.size 93 4 (.slice A es.length c) es.length (es.flatMap VE.cells) ∧ Below w.heap.size w w'
end Go.Proofs.YtlhcobkncceodaaGreatDoor
namespace Go.Proofs.YtlhcobkncceodaaGreatDoor
open Go.RowKit

theorem toJob_any (p s : Int) (w : World) :
    Calls Tryz.prog 59 #[.agg #[.int .i64 p, .int .i64 s]] w fun r w' => r = .returned (.agg #[.int .i64 p, .int .i64 s]) ∧ Below w.heap.size w w' := by
  go_enter Tryz.func59, Tryz.ntmps59
  go_wp2
  refine bodyPost_ret (v := .agg #[.int .i64 p, .int .i64 s]) (by simp [results, Tryz.results59, go_sem]) rfl ⟨rfl, ?_⟩
  repeat (first | exact below_a3 _ _ _ _ | refine Below.setCell ?_ (by simp <;> omega) _)
end Go.Proofs.YtlhcobkncceodaaGreatDoor
namespace Go.Proofs.YtlhcobkncceodaaGreatDoor
open Go.RowKit

theorem heldZ_any (A : Option Addr) (n c k : Nat) (w : World) (hr : SlI w A n (ints k n)) (hn : n ≤ 2097152) (hk : k ≤ 8388608) :
    Calls Tryz.prog 32 #[.slice A n c, .int .i64 (k : Int)] w (GNum w ((k + n : Nat) : Int)) := by
  refine (heldInts_any A n c k w hr hn hk).mono ?_
  rintro e w' ⟨rfl, rfl⟩
  exact ⟨rfl, Below.refl _ _⟩
/-- A row of the call's own stays where another is written. -/
theorem own_farV {w w' : World} {base e size n c : Nat} {A : Option Addr} {xs : List Value} {row : Option Nat} (h : w.ownsRow base e size (.slice A n c) n xs) (hg : w.grownBy w' row) {l1 h1 l2 h2 : Nat} (ha : ∀ k, (Value.slice A n c).ownBlock = some k → l1 ≤ k ∧ k < h1) (hb : ∀ k, row = some k → l2 ≤ k ∧ k < h2) (hd : h1 ≤ l2 ∨ h2 ≤ l1) : w'.ownsRow base e size (.slice A n c) n xs :=
  h.kept hg (by
    cases hv : (Value.slice A n c).ownBlock with
    | none => exact .inl rfl
    | some k => exact .inr (fun e => by have := ha k hv; have := hb k e.symm; omega))
theorem Blk.far {w w' : World} {b : Nat} {cs : Array Value} {t : TypeId} (h : Blk w b cs t) {row : Option Nat} (hg : w.grownBy w' row) {l2 h2 : Nat} (hb : ∀ k, row = some k → l2 ≤ k ∧ k < h2) (hd : b < l2 ∨ h2 ≤ b) : Blk w' b cs t :=
  h.grown hg (fun e => by have := hb b e; omega)
end Go.Proofs.YtlhcobkncceodaaGreatDoor
namespace Go.Proofs.YtlhcobkncceodaaGreatDoor
open Go.RowKit

theorem bat_map_at {α β : Type} {f : α → β} {xs ys : List α} (h : xs.map f = ys.map f) {k : Nat} {x y : α} (hx : xs[k]? = some x) (hy : ys[k]? = some y) : f x = f y := by
  have := congrArg (fun l => l[k]?) h
  simp only [List.getElem?_map, hx, hy, Option.map_some, Option.some.injEq] at this
  exact this
theorem bat_cap {w : World} {lo e size n c : Nat} {A : Option Addr} {xs : List Value} (h : w.ownsRow lo e size (.slice A n c) n xs) : n ≤ c := by
  rcases h.2 with ⟨h, h0⟩ | ⟨g, cap, cur, h, _, _, h1, _⟩
  · injection h with _ e1 _
    omega
  · injection h with _ _ e3
    omega
/-- Nothing is written but in blocks of S, and new ones. -/
structure OnlyB (S : Nat → Prop) (w w' : World) : Prop where
  os : w'.os = w.os
  tape : w'.tape = w.tape
  output : w'.output = w.output
  size : w.heap.size ≤ w'.heap.size
  block : ∀ k, k < w.heap.size → ¬ S k → w'.heap[k]? = w.heap[k]?
theorem OnlyB.refl (S : Nat → Prop) (w : World) : OnlyB S w w := ⟨rfl, rfl, rfl, Nat.le_refl _, fun _ _ _ => rfl⟩
theorem OnlyB.trans {S : Nat → Prop} {a b c : World} (h : OnlyB S a b) (k : OnlyB S b c) : OnlyB S a c :=
  ⟨k.os.trans h.os, k.tape.trans h.tape, k.output.trans h.output, Nat.le_trans h.size k.size, fun i hi hn => (k.block i (Nat.lt_of_lt_of_le hi h.size) hn).trans (h.block i hi hn)⟩
theorem OnlyB.grown {S : Nat → Prop} {a b c : World} {row : Option Nat} (h : OnlyB S a b) (k : b.grownBy c row) (hr : ∀ i, row = some i → S i) : OnlyB S a c :=
  h.trans ⟨k.os, k.tape, k.output, k.size, fun i hi hn => k.block i hi (fun e => hn (hr i e.symm))⟩
theorem OnlyB.below {S : Nat → Prop} {a b c : World} (h : OnlyB S a b) (k : Below b.heap.size b c) : OnlyB S a c :=
  h.trans ⟨k.os, k.tape, k.output, k.size, fun i hi _ => k.block i hi⟩
theorem OnlyB.mono {S T : Nat → Prop} {a b : World} (h : OnlyB S a b) (hs : ∀ i, S i → T i) : OnlyB T a b :=
  ⟨h.os, h.tape, h.output, h.size, fun i hi hn => h.block i hi (fun e => hn (hs i e))⟩
theorem OnlyB.toBelow {S : Nat → Prop} {B : Nat} {w w' : World} (h : OnlyB S w w') (hB : B ≤ w.heap.size) (hs : ∀ k, S k → B ≤ k) : Below B w w' :=
  ⟨h.os, h.tape, h.output, h.size, fun k hk => h.block k (by omega) (fun e => by have := hs k e; omega)⟩
theorem OnlyB.own {S : Nat → Prop} {w w' : World} {lo e size n : Nat} {v : Value} {xs : List Value} (h : w.ownsRow lo e size v n xs) (k : OnlyB S w w') (hs : ∀ g, v.ownBlock = some g → ¬ S g) : w'.ownsRow lo e size v n xs := by
  refine ⟨h.1, ?_⟩
  rcases h.2 with hn | ⟨g, cap, cur, rfl, hb, hgg, rest⟩
  · exact .inl hn
  · refine .inr ⟨g, cap, cur, rfl, hb, ?_, rest⟩
    rw [k.block g (Array.getElem?_eq_some_iff.1 hgg).1 (hs g rfl)]
    exact hgg
theorem OnlyB.grown2 {S : Nat → Prop} {a b c : World} {row : Option Nat} (h : OnlyB S a b) (k : b.grownBy c row) (hr : ∀ i, row = some i → S i ∨ a.heap.size ≤ i) : OnlyB S a c :=
  ⟨k.os.trans h.os, k.tape.trans h.tape, k.output.trans h.output, Nat.le_trans h.size k.size, fun i hi hn => (k.block i (Nat.lt_of_lt_of_le hi h.size) (fun e => by
    rcases hr i e.symm with h1 | h1
    · exact hn h1
    · omega)).trans (h.block i hi hn)⟩
theorem bat_block {w : World} {lo e size g n c m : Nat} {xs : List Value} (h : w.ownsRow lo e size (.slice (some ⟨g, 0, none⟩) n c) m xs) : ∃ cur, w.heap[g]? = some (.cells cur e (0, 0)) := by
  rcases h.2 with ⟨h2, _⟩ | ⟨g', cap, cur, e, _, hg, _⟩
  · cases h2
  · injection e with e1 _ _
    injection e1 with e1
    injection e1 with e1
    subst e1
    exact ⟨cur, hg⟩
theorem ne_of_lt {v : Option Nat} {row : Option Nat} {P : Nat → Prop} (h : ∀ k, v = some k → P k) (hr : ∀ k, row = some k → ¬ P k) : v = none ∨ v ≠ row := by
  cases v with
  | none => exact .inl rfl
  | some k => exact .inr (fun e => hr k e.symm (h k rfl))
theorem mem_sum {ls : List Nat} {x : Nat} (h : x ∈ ls) : x ≤ ls.sum := by
  induction ls with
  | nil => cases h
  | cons a r ih =>
    rw [List.sum_cons]
    rcases List.mem_cons.1 h with rfl | h
    · omega
    · have := ih h; omega
end Go.Proofs.YtlhcobkncceodaaGreatDoor
