/- A block of cells that is known whole (plain lemmas over the model; no condition). // Rows of the call's own and blocks that are known whole, beside one another (plain lemmas over the model; no condition). // Words for slices of shard edges in memory (plain lemmas over the model; no condition): 'SlK': a slice that reads as a list of records of five numbers; such a list laid record by record; marks in it. // Shard edges and shards: what new ones are (no condition). // Lists of shards in memory: that read, that are the call's own (plain lemmas over the model; no condition). // Shard edges: the contracts of the laws' helpers that leave marks and that look for them. Condition: at most 2^21 edges. // Marks in lists of shards: the contracts of the laws' helpers that write them and that look for them. Condition: at most 2^21 of each. // Shards as data: valid ones (plain lemmas; no condition). // Joining shards, as data: the edges in the order of their numbers (plain lemmas; no condition). // Lists of shards in memory and their data (plain lemmas; no condition). // Shards of the call's own behind writings elsewhere; how small they are (plain lemmas over the model; no condition). // Words that all texts on graphs share (no condition). -/
import Derived.Test.YtpgnappddddlpaaCOA
import Derived.RangeFuncBox
namespace Go.Proofs.Ytpgnappddddlpaa
open Go.RowKit

def Blk (w : World) (b : Nat) (cs : Array Value) (t : TypeId) : Prop := w.heap[b]? = some (.cells cs t (0, 0))
section
variable {w w' : World} {b : Nat} {cs : Array Value} {t : TypeId}
theorem Blk.lt (h : Blk w b cs t) : b < w.heap.size := (Array.getElem?_eq_some_iff.1 h).1
theorem Blk.cell (h : Blk w b cs t) {i : Nat} {v : Value} (hv : cs[i]? = some v) : w.cell? ⟨b, i, none⟩ = some v := by simp [World.cell?, show w.heap[b]? = _ from h, hv]
theorem Blk.frozen (h : Blk w b cs t) (i : Nat) : w.frozen? ⟨b, i, none⟩ = false := by simp [World.frozen?, show w.heap[b]? = _ from h]
theorem Blk.new (w : World) (cs : Array Value) (t : TypeId) : Blk (w.alloc (.cells cs t)) w.heap.size cs t := World.alloc_heap_new w _
theorem Blk.keep (h : Blk w b cs t) (hk : w'.heap[b]? = w.heap[b]?) : Blk w' b cs t := hk.trans h
theorem Blk.below (h : Blk w b cs t) (hb : Below w.heap.size w w') : Blk w' b cs t := h.keep (hb.block b h.lt)
theorem Blk.alloc (h : Blk w b cs t) (o : Obj) : Blk (w.alloc o) b cs t := h.below (below_a1 w o)
theorem Blk.drew (h : Blk w b cs t) : Blk w.drew b cs t := h
theorem Blk.drewN (h : Blk w b cs t) (n : Nat) : Blk (w.drewN n) b cs t := h
theorem Blk.grown {row : Option Nat} (h : Blk w b cs t) (hg : w.grownBy w' row) (hr : row ≠ some b) : Blk w' b cs t := h.keep (hg.block b h.lt (fun e => hr e.symm))
theorem Blk.other (h : Blk w b cs t) {p : Addr} (hp : b ≠ p.block) (u : Value) : Blk (w.setCell p u) b cs t := h.keep (Below.heap_setCell w p u b hp)
theorem Blk.set (h : Blk w b cs t) (i : Nat) (u : Value) : Blk (w.setCell ⟨b, i, none⟩ u) b (cs.setIfInBounds i u) t := by
  have hlt := h.lt
  have h2 : w.heap[b]? = some (.cells cs t (0, 0)) := h
  unfold Blk World.setCell
  simp [Array.getElem?_modify, h2]
end
end Go.Proofs.Ytpgnappddddlpaa
namespace Go.Proofs.Ytpgnappddddlpaa
open Go.RowKit
set_option linter.unusedVariables false

/-- Rows of two kinds of element lie in two blocks. -/
theorem own_types {w : World} {lo1 lo2 e1 e2 s1 s2 n1 n2 : Nat} {v1 v2 : Value} {xs1 xs2 : List Value} (h1 : w.ownsRow lo1 e1 s1 v1 n1 xs1) (h2 : w.ownsRow lo2 e2 s2 v2 n2 xs2) (hne : e1 ≠ e2) : v1.ownBlock = none ∨ v2.ownBlock ≠ v1.ownBlock := by
  rcases h1.2 with ⟨rfl, _⟩ | ⟨g, cap, cur, rfl, _, hb, _⟩
  · exact .inl rfl
  · rcases h2.2 with ⟨rfl, _⟩ | ⟨g2, cap2, cur2, rfl, _, hb2, _⟩
    · exact .inr (by simp [Value.ownBlock])
    · refine .inr (fun e => ?_)
      simp [Value.ownBlock] at e
      subst e
      rw [hb] at hb2
      injection hb2 with h
      injection h with _ h _
      exact hne h
theorem grown_cell (w : World) (b i : Nat) (u : Value) : w.grownBy (w.setCell ⟨b, i, none⟩ u) (some b) :=
  ⟨rfl, rfl, rfl, by simp, fun k _ hk => Below.heap_setCell w ⟨b, i, none⟩ u k (fun e => hk (by rw [show k = b from e]))⟩
theorem grown_trans' {a b c : World} {row : Option Nat} (h : a.grownBy b row) (k : b.grownBy c row) : a.grownBy c row := h.trans k
/-- A row of one type does not lie in a block of another. -/
theorem own_kind {w : World} {lo e size n b : Nat} {v : Value} {xs : List Value} {cs : Array Value} {t : TypeId} (h : w.ownsRow lo e size v n xs) (hb : Blk w b cs t) (hne : e ≠ t) : v.ownBlock ≠ some b := by
  rcases h.2 with ⟨rfl, _⟩ | ⟨g, cap, cur, rfl, _, hg, _⟩
  · simp [Value.ownBlock]
  · intro e3
    have e3 : g = b := by simpa [Value.ownBlock] using e3
    subst e3
    have h9 : w.heap[g]? = some (.cells cs t (0, 0)) := hb
    rw [hg] at h9
    injection h9 with h9
    injection h9 with _ h2
    exact absurd h2 hne
theorem own_kept {w w' : World} {lo e size n g : Nat} {v : Value} {xs : List Value} (h : w.ownsRow lo e size v n xs) (hg : w.grownBy w' (some g)) (hne : v.ownBlock ≠ some g) : w'.ownsRow lo e size v n xs :=
  h.kept hg (.inr hne)
/-- A row of later days lies elsewhere. -/
theorem own_time {w2 : World} {v1 v2 : Value} {l1 sz lo2 e s n : Nat} {xs : List Value} (hlt : ∀ b, v1.ownBlock = some b → l1 ≤ b ∧ b < sz) (h2 : w2.ownsRow lo2 e s v2 n xs) (hle : sz ≤ lo2) : v1.ownBlock = none ∨ v2.ownBlock ≠ v1.ownBlock := by
  cases hv : v1.ownBlock with
  | none => exact .inl rfl
  | some b =>
    right
    intro e
    have a := (hlt b hv).2
    have c := (h2.lt b e).1
    omega
theorem own_old {v : Value} {l sz g : Nat} (hlt : ∀ b, v.ownBlock = some b → l ≤ b ∧ b < sz) (hle : sz ≤ g) : v.ownBlock = none ∨ v.ownBlock ≠ some g := by
  cases hv : v.ownBlock with
  | none => exact .inl rfl
  | some b =>
    right
    intro e
    injection e with e
    have a := (hlt b hv).2
    omega
theorem ap_symm {a b : Option Nat} (h : a = none ∨ b ≠ a) : b = none ∨ a ≠ b := by
  rcases h with h | h
  · cases b with
    | none => exact .inl rfl
    | some x => exact .inr (by rw [h]; simp)
  · exact .inr (fun e => h e.symm)
theorem OnlyB.blk {S : Nat → Prop} {w w' : World} {b : Nat} {cs : Array Value} {t : TypeId} (h : OnlyB S w w') (hb : Blk w b cs t) (hn : ¬ S b) : Blk w' b cs t := hb.keep (h.block b hb.lt hn)
/-- Nothing is written but in blocks from l to h, and new ones. -/
def Wr (l h : Nat) (w w' : World) : Prop := OnlyB (fun g => l ≤ g ∧ g < h) w w'
section
variable {w w' w0 : World} {l h l1 h1 lo e sz n c b : Nat} {A : Option Addr} {xs : List Value} {v : Value}
theorem Wr.of_grown {row : Option Nat} (hg : w.grownBy w' row) (hr : ∀ g, row = some g → l ≤ g ∧ g < h) : Wr l h w w' := (OnlyB.refl _ w).grown hg hr
theorem Wr.of_only {S : Nat → Prop} (ho : OnlyB S w w') (hr : ∀ g, S g → l ≤ g ∧ g < h) : Wr l h w w' := ho.mono hr
theorem Wr.size (hw : Wr l h w w') : w.heap.size ≤ w'.heap.size := OnlyB.size hw
theorem Wr.blk {cs : Array Value} {t : TypeId} (hw : Wr l h w w') (hb : Blk w b cs t) (hd : b < l ∨ h ≤ b) : Blk w' b cs t := hb.keep (OnlyB.block hw b hb.lt (fun hh => by have h1 := hh.1; have h2 := hh.2; omega))
theorem Wr.own (hw : Wr l h w w') (ho : w.ownsRow lo e sz v n xs) (ha : ∀ g, v.ownBlock = some g → l1 ≤ g ∧ g < h1) (hd : h1 ≤ l ∨ h ≤ l1) : w'.ownsRow lo e sz v n xs :=
  OnlyB.own ho hw (fun g hg hh => by have h2 := ha g hg; have h3 := hh.1; have h4 := hh.2; omega)
theorem Wr.orig {base : Nat} (hw : Wr l h w w') (hb : Below base w0 w) (hs : base ≤ w.heap.size) (hl : base ≤ l) : Below base w0 w' := hb.trans (OnlyB.toBelow hw hs (fun k hk => by have h1 := hk.1; omega))
end
end Go.Proofs.Ytpgnappddddlpaa
namespace Go.Proofs.Ytpgnappddddlpaa
open Go.RowKit

structure KE where
  f : Int
  t : Int
  w : Int
  i : Int
  v : Int
def KE.cells (e : KE) : List Value := [.int .i64 e.f, .int .i64 e.t, .int .i64 e.w, .int .i64 e.i, .int .i64 e.v]
theorem KE.cells_len (e : KE) : e.cells.length = 5 := rfl
theorem KE.cells_one (e : KE) : ∀ u ∈ e.cells, u.oneCell' = true := by
  intro u hu
  simp [KE.cells] at hu
  rcases hu with rfl | rfl | rfl | rfl | rfl <;> rfl
theorem ke_one (es : List KE) : ∀ u ∈ es.flatMap KE.cells, u.oneCell' = true := fun u hu => by
  obtain ⟨e, _, he⟩ := List.mem_flatMap.1 hu
  exact e.cells_one u he

/-- A slice of shard edges in memory. -/
structure SlK (w : World) (A : Option Addr) (n : Nat) (es : List KE) : Prop where
  len : es.length = n
  row : Row w 5 A n (es.flatMap KE.cells)
section
variable {w w' : World} {n c lo e : Nat} {A : Option Addr} {es : List KE}
theorem SlK.keep (h : SlK w A n es) (hs : w.heap.size ≤ w'.heap.size) (hk : ∀ i, i < w.heap.size → w'.heap[i]? = w.heap[i]?) : SlK w' A n es := ⟨h.len, h.row.keep hs hk⟩
theorem SlK.below (h : SlK w A n es) (hb : Below w.heap.size w w') : SlK w' A n es := h.keep hb.size hb.block
theorem SlK.drewN (h : SlK w A n es) (m : Nat) : SlK (w.drewN m) A n es := ⟨h.len, h.row.drewN m⟩
theorem SlK.nil : SlK w A 0 [] := ⟨rfl, Row.nil⟩
/-- The edge at place j, its five cells. -/
theorem SlK.at_ {j : Nat} (h : SlK w A n es) (hj : j < n) : ∃ (b off : Nat) (e : KE), A = some ⟨b, off, none⟩ ∧ b < w.heap.size ∧ Hid (es[j]? = some e) ∧
    w.cell? ⟨b, off + j * 5, none⟩ = some (.int .i64 e.f) ∧ w.cell? ⟨b, off + j * 5 + 1, none⟩ = some (.int .i64 e.t) ∧ w.cell? ⟨b, off + j * 5 + 2, none⟩ = some (.int .i64 e.w) ∧
    w.cell? ⟨b, off + j * 5 + 3, none⟩ = some (.int .i64 e.i) ∧ w.cell? ⟨b, off + j * 5 + 4, none⟩ = some (.int .i64 e.v) := by
  obtain ⟨b, off, rfl, hb, hc⟩ := h.row.lies (by omega)
  have hl : j < es.length := by have := h.len; omega
  have he : es[j]? = some es[j] := List.getElem?_eq_getElem hl
  refine ⟨b, off, es[j], rfl, hb, he, ?_, ?_, ?_, ?_, ?_⟩
  · exact hc (j * 5) _ (flat_get KE.cells 5 KE.cells_len es j 0 _ he (by omega))
  · exact hc (j * 5 + 1) _ (flat_get KE.cells 5 KE.cells_len es j 1 _ he (by omega))
  · exact hc (j * 5 + 2) _ (flat_get KE.cells 5 KE.cells_len es j 2 _ he (by omega))
  · exact hc (j * 5 + 3) _ (flat_get KE.cells 5 KE.cells_len es j 3 _ he (by omega))
  · exact hc (j * 5 + 4) _ (flat_get KE.cells 5 KE.cells_len es j 4 _ he (by omega))
theorem SlK.of_own (h : w.ownsRow lo e 5 (.slice A n c) n (es.flatMap KE.cells)) (hl : es.length = n) : SlK w A n es := ⟨hl, Row.of_own h⟩
end
/-- Five cells of one edge stored. -/
def lay5 (w : World) (g q : Nat) (e : KE) : World := ((((w.setCell ⟨g, q, none⟩ (.int .i64 e.f)).setCell ⟨g, q + 1, none⟩ (.int .i64 e.t)).setCell ⟨g, q + 2, none⟩ (.int .i64 e.w)).setCell ⟨g, q + 3, none⟩ (.int .i64 e.i)).setCell ⟨g, q + 4, none⟩ (.int .i64 e.v)
theorem k_lay {w : World} {lo ty g c n k : Nat} {made rest : List KE} {x e : KE} (h : w.ownsRow lo ty 5 (.slice (some ⟨g, 0, none⟩) n c) n ((made ++ x :: rest).flatMap KE.cells)) (hm : made.length = k) :
    (lay5 w g (k * 5) e).ownsRow lo ty 5 (.slice (some ⟨g, 0, none⟩) n c) n ((made ++ e :: rest).flatMap KE.cells) ∧ w.grownBy (lay5 w g (k * 5) e) (some g) := by
  have h1 := h.stored (k * 5) (.int .i64 e.f)
  have h2 := h1.1.stored (k * 5 + 1) (.int .i64 e.t)
  have h3 := h2.1.stored (k * 5 + 2) (.int .i64 e.w)
  have h4 := h3.1.stored (k * 5 + 3) (.int .i64 e.i)
  have h5 := h4.1.stored (k * 5 + 4) (.int .i64 e.v)
  have e1 := flat_set KE.cells 5 KE.cells_len (made ++ x :: rest) k 0 x ⟨e.f, x.t, x.w, x.i, x.v⟩ (.int .i64 e.f) (g_get _ _ _ _ hm) (by omega) rfl
  rw [Nat.add_zero, g_set _ _ _ _ _ hm] at e1
  have e2 := flat_set KE.cells 5 KE.cells_len (made ++ ⟨e.f, x.t, x.w, x.i, x.v⟩ :: rest) k 1 ⟨e.f, x.t, x.w, x.i, x.v⟩ ⟨e.f, e.t, x.w, x.i, x.v⟩ (.int .i64 e.t) (g_get _ _ _ _ hm) (by omega) rfl
  rw [g_set _ _ _ _ _ hm] at e2
  have e3 := flat_set KE.cells 5 KE.cells_len (made ++ ⟨e.f, e.t, x.w, x.i, x.v⟩ :: rest) k 2 ⟨e.f, e.t, x.w, x.i, x.v⟩ ⟨e.f, e.t, e.w, x.i, x.v⟩ (.int .i64 e.w) (g_get _ _ _ _ hm) (by omega) rfl
  rw [g_set _ _ _ _ _ hm] at e3
  have e4 := flat_set KE.cells 5 KE.cells_len (made ++ ⟨e.f, e.t, e.w, x.i, x.v⟩ :: rest) k 3 ⟨e.f, e.t, e.w, x.i, x.v⟩ ⟨e.f, e.t, e.w, e.i, x.v⟩ (.int .i64 e.i) (g_get _ _ _ _ hm) (by omega) rfl
  rw [g_set _ _ _ _ _ hm] at e4
  have e5 := flat_set KE.cells 5 KE.cells_len (made ++ ⟨e.f, e.t, e.w, e.i, x.v⟩ :: rest) k 4 ⟨e.f, e.t, e.w, e.i, x.v⟩ e (.int .i64 e.v) (g_get _ _ _ _ hm) (by omega) rfl
  rw [g_set _ _ _ _ _ hm] at e5
  rw [e1, e2, e3, e4, e5] at h5
  exact ⟨h5.1, (((h1.2.trans h2.2).trans h3.2).trans h4.2).trans h5.2⟩
def zero5 : KE := ⟨0, 0, 0, 0, 0⟩
theorem rep5_succ (n k : Nat) (h : k < n) : List.replicate (n - k) zero5 = zero5 :: List.replicate (n - (k + 1)) zero5 := by
  rw [show n - k = (n - (k + 1)) + 1 by omega, List.replicate_succ]

/-! ### marks -/
def mark5 (k : Nat) : List KE → List KE
  | [] => []
  | _ :: r => ⟨k, k + 1, k + 2, k + 3, k + 4⟩ :: mark5 (k + 5) r
theorem mark5_len : ∀ (es : List KE) (k : Nat), (mark5 k es).length = es.length
  | [], _ => rfl
  | _ :: r, k => by rw [mark5, List.length_cons, mark5_len r, List.length_cons]
theorem mark5_snoc : ∀ (es : List KE) (k : Nat) (e : KE), mark5 k (es ++ [e]) = mark5 k es ++ [⟨(k + 5 * es.length : Nat), (k + 5 * es.length : Nat) + 1, (k + 5 * es.length : Nat) + 2, (k + 5 * es.length : Nat) + 3, (k + 5 * es.length : Nat) + 4⟩]
  | [], k, _ => by simp [mark5]
  | _ :: r, k, e => by
    rw [List.cons_append, mark5, mark5_snoc r (k + 5) e, mark5, List.cons_append, List.length_cons, show k + 5 + 5 * r.length = k + 5 * (r.length + 1) by omega]
theorem mark5_get : ∀ (es : List KE) (k j : Nat), j < es.length → (mark5 k es)[j]? = some ⟨((k + 5 * j : Nat) : Int), ((k + 5 * j : Nat) : Int) + 1, ((k + 5 * j : Nat) : Int) + 2, ((k + 5 * j : Nat) : Int) + 3, ((k + 5 * j : Nat) : Int) + 4⟩
  | [], _, j, h => by simp at h
  | _ :: r, k, 0, _ => by simp [mark5]
  | _ :: r, k, j + 1, h => by
    rw [mark5, List.getElem?_cons_succ, mark5_get r (k + 5) j (by simpa using h), show k + 5 + 5 * j = k + 5 * (j + 1) by omega]
end Go.Proofs.Ytpgnappddddlpaa
namespace Go.Proofs.Ytpgnappddddlpaa
open Go.RowKit

theorem Try.infoSEdge : (Try.prog.info? 40).map (fun i => (i.zero, i.size, i.bytes)) = some (some (.agg #[.int .i64 0, .int .i64 0, .int .i64 0, .int .i64 0, .int .i64 0]), 5, 40) := by kernel_rfl

/-- New shard edges. -/
def MadeKs (w : World) (es : List KE) (e : Ending) (w' : World) : Prop :=
  ∃ A c, e = .returned (.slice A es.length c) ∧ w'.ownsRow w.heap.size 40 5 (.slice A es.length c) es.length (es.flatMap KE.cells) ∧ Below w.heap.size w w'
/-- A new shard. -/
def MadeSh (w : World) (lo hi : Int) (es : List KE) (e : Ending) (w' : World) : Prop :=
  ∃ A c, e = .returned (.agg #[.int .i64 lo, .int .i64 hi, .slice A es.length c]) ∧ w'.ownsRow w.heap.size 40 5 (.slice A es.length c) es.length (es.flatMap KE.cells) ∧ Below w.heap.size w w'
/-- A block that holds a shard. -/
structure HBox (w : World) (b : Nat) (lo hi : Int) (A : Option Addr) (n c : Nat) : Prop where
  lt : b < w.heap.size
  c0 : w.cell? ⟨b, 0, none⟩ = some (.int .i64 lo)
  c1 : w.cell? ⟨b, 1, none⟩ = some (.int .i64 hi)
  c2 : w.cell? ⟨b, 2, none⟩ = some (.slice A n c)
section
variable {w w' : World} {b n c : Nat} {lo hi : Int} {A : Option Addr}
theorem HBox.keep (h : HBox w b lo hi A n c) (hs : w.heap.size ≤ w'.heap.size) (hk : w'.heap[b]? = w.heap[b]?) : HBox w' b lo hi A n c :=
  ⟨Nat.lt_of_lt_of_le h.lt hs, (World.cell?_of_block (a := ⟨b, 0, none⟩) hk).trans h.c0, (World.cell?_of_block (a := ⟨b, 1, none⟩) hk).trans h.c1, (World.cell?_of_block (a := ⟨b, 2, none⟩) hk).trans h.c2⟩
theorem HBox.below (h : HBox w b lo hi A n c) (hb : Below w.heap.size w w') : HBox w' b lo hi A n c := h.keep hb.size (hb.block b h.lt)
theorem HBox.new (w : World) (lo hi : Int) (A : Option Addr) (n c : Nat) (t : TypeId) : HBox (w.alloc (.cells #[.int .i64 lo, .int .i64 hi, .slice A n c] t)) w.heap.size lo hi A n c := ⟨by simp, by simp, by simp, by simp⟩
theorem HBox.alloc (h : HBox w b lo hi A n c) (o : Obj) : HBox (w.alloc o) b lo hi A n c := h.below (below_a1 w o)
theorem HBox.drew (h : HBox w b lo hi A n c) : HBox w.drew b lo hi A n c := ⟨h.lt, h.c0, h.c1, h.c2⟩
end
end Go.Proofs.Ytpgnappddddlpaa
namespace Go.Proofs.Ytpgnappddddlpaa
open Go.RowKit

/-- A shard. -/
structure HE where
  lo : Int
  hi : Int
  A : Option Addr
  n : Nat
  c : Nat
  es : List KE
def HE.v (e : HE) : Value := .slice e.A e.n e.c
def HE.w (e : HE) : Value := .agg #[.int .i64 e.lo, .int .i64 e.hi, .slice e.A e.n e.c]
def HE.cells (e : HE) : List Value := [.int .i64 e.lo, .int .i64 e.hi, .slice e.A e.n e.c]
/-- What it says, without where it lies. -/
def HE.sd (e : HE) : Int × Int × List KE := (e.lo, e.hi, e.es)
theorem HE.cells_len (e : HE) : e.cells.length = 3 := rfl
theorem HE.cells_one (e : HE) : ∀ u ∈ e.cells, u.oneCell' = true := by
  intro u hu
  simp only [HE.cells, List.mem_cons, List.not_mem_nil, or_false] at hu
  rcases hu with rfl | rfl | rfl <;> rfl
theorem he_one (hs : List HE) : ∀ u ∈ hs.flatMap HE.cells, u.oneCell' = true := fun u hu => by
  obtain ⟨e, _, he⟩ := List.mem_flatMap.1 hu
  exact e.cells_one u he
structure HE.Ok (w : World) (e : HE) : Prop where
  rd : SlK w e.A e.n e.es
  cap : e.n ≤ e.c
theorem HE.Ok.below {w w' : World} {e : HE} (h : e.Ok w) (hb : Below w.heap.size w w') : e.Ok w' := ⟨h.rd.below hb, h.cap⟩
/-- A slice of shards in memory. -/
structure SlH (w : World) (A : Option Addr) (n : Nat) (bs : List HE) : Prop where
  len : bs.length = n
  row : Row w 3 A n (bs.flatMap HE.cells)
  each : ∀ e ∈ bs, e.Ok w
def ApartH (a b : HE) : Prop := a.v.ownBlock = none ∨ a.v.ownBlock ≠ b.v.ownBlock
/-- Rows of shard edges of the call's own. -/
structure OwnHL (w : World) (lo : Nat) (l : List HE) : Prop where
  own : ∀ d ∈ l, w.ownsRow lo 40 5 d.v d.n (d.es.flatMap KE.cells)
  len : ∀ d ∈ l, d.es.length = d.n
  apart : l.Pairwise ApartH
section
variable {w w' : World} {lo : Nat} {l m : List HE}
theorem OwnHL.nil : OwnHL w lo [] := ⟨by simp, by simp, List.Pairwise.nil⟩
theorem OwnHL.kept {row : Option Nat} (h : OwnHL w lo l) (hg : w.grownBy w' row) (hne : ∀ d ∈ l, d.v.ownBlock = none ∨ d.v.ownBlock ≠ row) : OwnHL w' lo l :=
  ⟨fun d hd => (h.own d hd).kept hg (hne d hd), h.len, h.apart⟩
theorem OwnHL.below (h : OwnHL w lo l) (hb : Below w.heap.size w w') : OwnHL w' lo l :=
  ⟨fun d hd => own_below (h.own d hd) hb, h.len, h.apart⟩
theorem OwnHL.lt (h : OwnHL w lo l) {d : HE} (hd : d ∈ l) : ∀ k, d.v.ownBlock = some k → lo ≤ k ∧ k < w.heap.size := (h.own d hd).lt
theorem OwnHL.ok (h : OwnHL w lo l) : ∀ d ∈ l, d.Ok w := fun d hd => ⟨SlK.of_own (h.own d hd) (h.len d hd), bat_cap (h.own d hd)⟩
theorem OwnHL.far (h : OwnHL w lo l) {g : Nat} {cur : Array Value} {t : TypeId} {fr : Nat × Nat} (hg : w.heap[g]? = some (.cells cur t fr)) (ht : t ≠ 40) : ∀ d ∈ l, d.v.ownBlock = none ∨ d.v.ownBlock ≠ some g := fun d hd => by
  rcases (h.own d hd).2 with ⟨e, _⟩ | ⟨g', cap, cur', e, _, hg', _⟩
  · exact .inl (by rw [e]; rfl)
  · refine .inr (fun e2 => ?_)
    rw [e] at e2
    have e3 : g' = g := by simpa [Value.ownBlock] using e2
    subst e3
    rw [hg] at hg'
    injection hg' with hg'
    injection hg' with _ h2
    exact ht h2
theorem OwnHL.append (h : OwnHL w lo l) (k : OwnHL w lo m) (hx : ∀ a ∈ l, ∀ b ∈ m, ApartH a b) : OwnHL w lo (l ++ m) :=
  ⟨fun d hd => by rcases List.mem_append.1 hd with hd | hd; exact h.own d hd; exact k.own d hd,
   fun d hd => by rcases List.mem_append.1 hd with hd | hd; exact h.len d hd; exact k.len d hd,
   List.pairwise_append.2 ⟨h.apart, k.apart, hx⟩⟩
theorem apartH_of_time {B lo' : Nat} (h : OwnHL w lo l) (hB : w.heap.size ≤ B) (k : OwnHL w' lo' m) (hB' : B ≤ lo') : ∀ a ∈ l, ∀ b ∈ m, ApartH a b := fun a ha b hb => by
  cases e : a.v.ownBlock with
  | none => exact .inl e
  | some i =>
    refine .inr (fun e2 => ?_)
    rw [e] at e2
    have h1 := h.lt ha i e
    have h2 := k.lt hb i e2.symm
    omega
theorem OwnHL.one {d : HE} (h : w.ownsRow lo 40 5 d.v d.n (d.es.flatMap KE.cells)) (hs : d.es.length = d.n) : OwnHL w lo [d] :=
  ⟨fun e he => by simp at he; subst he; exact h, fun e he => by simp at he; subst he; exact hs, by simp⟩
theorem OwnHL.mono {lo' : Nat} (h : OwnHL w lo l) (hl : lo' ≤ lo) : OwnHL w lo' l := ⟨fun d hd => own_monoG (h.own d hd) hl, h.len, h.apart⟩
theorem OwnHL.setLow (h : OwnHL w lo l) {p : Addr} (hp : p.block < lo) (u : Value) : OwnHL (w.setCell p u) lo l := ⟨fun d hd => own_lowG (h.own d hd) hp u, h.len, h.apart⟩
theorem OwnHL.turn0 {d d' : HE} (h : OwnHL w lo (l ++ d :: m)) (hk : ∀ e ∈ l ++ m, w'.ownsRow lo 40 5 e.v e.n (e.es.flatMap KE.cells)) (ho : w'.ownsRow lo 40 5 d'.v d'.n (d'.es.flatMap KE.cells)) (hs : d'.es.length = d'.n)
    (hx : ∀ a ∈ l, ApartH a d') (hy : ∀ b ∈ m, ApartH d' b) : OwnHL w' lo (l ++ d' :: m) := by
  obtain ⟨a1, a2, a3⟩ := List.pairwise_append.1 h.apart
  obtain ⟨b1, b2⟩ := List.pairwise_cons.1 a2
  refine ⟨fun e he => ?_, fun e he => ?_, List.pairwise_append.2 ⟨a1, List.pairwise_cons.2 ⟨hy, b2⟩, fun e he f hf => ?_⟩⟩
  · rcases List.mem_append.1 he with he | he
    · exact hk e (List.mem_append_left _ he)
    · rcases List.mem_cons.1 he with rfl | he
      · exact ho
      · exact hk e (List.mem_append_right _ he)
  · rcases List.mem_append.1 he with he | he
    · exact h.len e (List.mem_append_left _ he)
    · rcases List.mem_cons.1 he with rfl | he
      · exact hs
      · exact h.len e (List.mem_append_right _ (by simp [he]))
  · rcases List.mem_cons.1 hf with rfl | hf
    · exact hx e he
    · exact a3 e he f (by simp [hf])
/-- One row is written, in its own block. -/
theorem OwnHL.turn {d d' : HE} (h : OwnHL w lo (l ++ d :: m)) (hg : w.grownBy w' d.v.ownBlock) (hb : d'.v.ownBlock = d.v.ownBlock) (ho : w'.ownsRow lo 40 5 d'.v d'.n (d'.es.flatMap KE.cells)) (hs : d'.es.length = d'.n) :
    OwnHL w' lo (l ++ d' :: m) := by
  obtain ⟨a1, a2, a3⟩ := List.pairwise_append.1 h.apart
  obtain ⟨b1, b2⟩ := List.pairwise_cons.1 a2
  refine h.turn0 (fun e he => ?_) ho hs (fun a ha => ?_) (fun b hb' => ?_)
  · rcases List.mem_append.1 he with he | he
    · exact (h.own e (List.mem_append_left _ he)).kept hg (a3 e he d (by simp))
    · refine (h.own e (List.mem_append_right _ (by simp [he]))).kept hg ?_
      rcases b1 e he with h1 | h1
      · rw [h1]
        cases e.v.ownBlock <;> simp
      · exact .inr (fun e2 => h1 e2.symm)
  · have := a3 a ha d (by simp)
    unfold ApartH at *
    rw [hb]
    exact this
  · have := b1 b hb'
    unfold ApartH at *
    rw [hb]
    exact this
end
/-- Shards of the call's own. -/
structure OwnH (w : World) (lo : Nat) (A : Option Addr) (n c : Nat) (bs : List HE) : Prop where
  row : w.ownsRow lo 85 3 (.slice A n c) n (bs.flatMap HE.cells)
  len : bs.length = n
  dat : OwnHL w lo bs
section
variable {w w' : World} {n c lo : Nat} {A : Option Addr} {bs : List HE}
theorem SlH.below (h : SlH w A n bs) (hb : Below w.heap.size w w') : SlH w' A n bs := ⟨h.len, h.row.keep hb.size hb.block, fun e he => (h.each e he).below hb⟩
theorem SlH.at_ {j : Nat} (h : SlH w A n bs) (hj : j < n) : ∃ (b off : Nat) (e : HE), A = some ⟨b, off, none⟩ ∧ b < w.heap.size ∧ Hid (bs[j]? = some e) ∧ Hid (e.Ok w) ∧ w.cell? ⟨b, off + j * 3, none⟩ = some (.int .i64 e.lo) ∧ w.cell? ⟨b, off + j * 3 + 1, none⟩ = some (.int .i64 e.hi) ∧ w.cell? ⟨b, off + j * 3 + 2, none⟩ = some (.slice e.A e.n e.c) := by
  obtain ⟨b, off, rfl, hb, hc⟩ := h.row.lies (by omega)
  have hl : j < bs.length := by have := h.len; omega
  have he : bs[j]? = some bs[j] := List.getElem?_eq_getElem hl
  refine ⟨b, off, bs[j], rfl, hb, he, h.each _ (List.getElem_mem hl), ?_, ?_, ?_⟩
  · exact hc (j * 3) _ (flat_get HE.cells 3 HE.cells_len bs j 0 _ he (by omega))
  · exact hc (j * 3 + 1) _ (flat_get HE.cells 3 HE.cells_len bs j 1 _ he (by omega))
  · exact hc (j * 3 + 2) _ (flat_get HE.cells 3 HE.cells_len bs j 2 _ he (by omega))
theorem OwnH.sl (h : OwnH w lo A n c bs) : SlH w A n bs := ⟨h.len, Row.of_own h.row, h.dat.ok⟩
theorem OwnH.below (h : OwnH w lo A n c bs) (hb : Below w.heap.size w w') : OwnH w' lo A n c bs := ⟨own_below h.row hb, h.len, h.dat.below hb⟩
theorem OwnH.mono {lo' : Nat} (h : OwnH w lo A n c bs) (hl : lo' ≤ lo) : OwnH w lo' A n c bs := ⟨own_monoG h.row hl, h.len, h.dat.mono hl⟩
/-- Where the blocks that are written were made elsewhere in time. -/
theorem OwnH.kept {row : Option Nat} (h : OwnH w lo A n c bs) (hg : w.grownBy w' row) (hne : ∀ k, row = some k → ¬ (lo ≤ k ∧ k < w.heap.size)) : OwnH w' lo A n c bs := by
  have hx : ∀ {e size m : Nat} {v : Value} {xs : List Value}, w.ownsRow lo e size v m xs → v.ownBlock = none ∨ v.ownBlock ≠ row := fun ho => by
    rename_i v _
    cases hv : v.ownBlock with
    | none => exact .inl rfl
    | some k => exact .inr (fun e => hne k e.symm (ho.lt k hv))
  exact ⟨h.row.kept hg (hx h.row), h.len, h.dat.kept hg (fun d hd => hx (h.dat.own d hd))⟩
end
theorem OwnHL.grow {w w' : World} {lo lo' e size n : Nat} {l : List HE} {v : Value} {xs : List Value} (h : OwnHL w lo l) (hv : w.ownsRow lo' e size v n xs) (hne : e ≠ 40) (hg : w.grownBy w' v.ownBlock) : OwnHL w' lo l := by
  rcases hv.2 with ⟨rfl, _⟩ | ⟨g, cap, cur, rfl, _, hcell, _⟩
  · exact h.kept hg (fun d _ => by cases d.v.ownBlock <;> simp [Value.ownBlock])
  · exact h.kept hg (h.far hcell hne)
theorem Try.infoShard : (Try.prog.info? 85).map (fun i => (i.zero, i.size, i.bytes)) = some (some (.agg #[.int .i64 0, .int .i64 0, .slice none 0 0]), 3, 40) := by kernel_rfl
/-- New shards with these data. -/
def MadeHs (w : World) (ls : List (Int × Int × List KE)) (e : Ending) (w' : World) : Prop :=
  ∃ A n c bs, e = .returned (.slice A n c) ∧ OwnH w' w.heap.size A n c bs ∧ bs.map HE.sd = ls ∧ Below w.heap.size w w'
end Go.Proofs.Ytpgnappddddlpaa
namespace Go.Proofs.Ytpgnappddddlpaa
open Go.RowKit

def Marked5 (w : World) (lo kk : Nat) (A : Option Addr) (n c k : Nat) (es : List KE) (e : Ending) (w' : World) : Prop :=
  e = .returned (.int .i64 (kk : Int)) ∧ w'.ownsRow lo 40 5 (.slice A n c) n ((mark5 k es).flatMap KE.cells) ∧ w.grownBy w' (Value.slice A n c).ownBlock

set_option maxRecDepth 10000 in
set_option maxHeartbeats 2000000 in
theorem markKs_any (A : Option Addr) (n c lo k : Nat) (es : List KE) (w : World) (ho : w.ownsRow lo 40 5 (.slice A n c) n (es.flatMap KE.cells)) (hl : es.length = n) (hn : n ≤ 2097152) (hk : k ≤ 16777216) :
    Calls Try.prog 128 #[.slice A n c, .int .i64 (k : Int)] w (Marked5 w lo (k + 5 * n) A n c k es) := by
  have HL := Lib.hid hl
  rcases Nat.eq_zero_or_pos n with rfl | hpos
  · obtain rfl : es = [] := List.eq_nil_of_length_eq_zero hl
    have HO := Lib.hid ho
    clear ho hl
    go_enter Try.func128, Try.ntmps128
    go_wp2
    go_loopw [1, 5] (fun q i wr => i = .int .i64 0 ∧ q = .int .i64 (k : Int) ∧ wr = w) (fun _ _ _ => 0)
    case atStart => exact ⟨rfl, rfl, rfl⟩
    case round =>
      obtain ⟨rfl, rfl, rfl⟩ := hrel
      go_wp2
      go_ret
      exact ⟨rfl, HO.out, World.grownBy.refl _ _⟩
  · obtain ⟨g, rfl⟩ := g_own_at ho hpos
    have HO : Hid (w.ownsRow lo 40 5 (.slice (some ⟨g, 0, none⟩) n c) n ((mark5 k (es.take 0) ++ es.drop 0).flatMap KE.cells)) := Lib.hid ho
    clear ho hl
    go_enter Try.func128, Try.ntmps128
    go_wp2
    go_loopw [1, 5] (fun q i wr => ∃ j : Nat, j ≤ n ∧ i = .int .i64 j ∧ q = .int .i64 ((k + 5 * j : Nat) : Int) ∧ Hid (wr.ownsRow lo 40 5 (.slice (some ⟨g, 0, none⟩) n c) n ((mark5 k (es.take j) ++ es.drop j).flatMap KE.cells)) ∧ Hid (w.grownBy wr (some g))) (fun _ i _ => n - (intOf i).toNat)
    case atStart => exact ⟨0, Nat.zero_le _, rfl, rfl, HO, Lib.hid (World.grownBy.refl _ _)⟩
    case round =>
      clear HO
      obtain ⟨j, hj, rfl, rfl, hown, hgr⟩ := hrel
      by_cases hlt : j < n
      · obtain ⟨e, he⟩ : ∃ e, es[j]? = some e := ⟨es[j]'(by rw [HL.out]; exact hlt), List.getElem?_eq_getElem _⟩
        have hmk : (mark5 k (es.take j)).length = j := by rw [mark5_len, List.length_take, HL.out]; omega
        have hown2 := hown.out
        rw [g_drop es j e he] at hown2
        have hq := fun i (hi : i < 5) => (hown2.cellAt (j * 5 + i) (by omega)).trans (flat_get KE.cells 5 KE.cells_len _ j i e (g_get _ _ _ _ hmk) hi)
        have hc0 : wr.cell? ⟨g, j * 5, none⟩ = some (.int .i64 e.f) := hq 0 (by omega)
        have hc1 : wr.cell? ⟨g, j * 5 + 1, none⟩ = some (.int .i64 e.t) := hq 1 (by omega)
        have hc2 : wr.cell? ⟨g, j * 5 + 2, none⟩ = some (.int .i64 e.w) := hq 2 (by omega)
        have hc3 : wr.cell? ⟨g, j * 5 + 3, none⟩ = some (.int .i64 e.i) := hq 3 (by omega)
        have hc4 : wr.cell? ⟨g, j * 5 + 4, none⟩ = some (.int .i64 e.v) := hq 4 (by omega)
        have hf0 := hown2.frozenAt (j * 5)
        have hf1 := hown2.frozenAt (j * 5 + 1)
        have hf2 := hown2.frozenAt (j * 5 + 2)
        have hf3 := hown2.frozenAt (j * 5 + 3)
        have hf4 := hown2.frozenAt (j * 5 + 4)
        have HS := Lib.hid (k_lay (e := ⟨((k + 5 * j : Nat) : Int), ((k + 5 * j : Nat) : Int) + 1, ((k + 5 * j : Nat) : Int) + 2, ((k + 5 * j : Nat) : Int) + 3, ((k + 5 * j : Nat) : Int) + 4⟩) hown2 hmk)
        have hb1 : ((k + 5 * j : Nat) : Int) + 1 + 1 = ((k + 5 * j : Nat) : Int) + 2 := by omega
        have hb2 : ((k + 5 * j : Nat) : Int) + 2 + 1 = ((k + 5 * j : Nat) : Int) + 3 := by omega
        have hb3 : ((k + 5 * j : Nat) : Int) + 3 + 1 = ((k + 5 * j : Nat) : Int) + 4 := by omega
        have HE := Lib.hid he
        clear hown hown2 hq he hmk
        have hq0 : k + 5 * j ≤ 40000000 := by omega
        obtain ⟨q, hq⟩ : ∃ q, q = k + 5 * j := ⟨_, rfl⟩
        rw [← hq] at HS hb1 hb2 hb3 hq0
        have HQ := Lib.hid hq
        simp only [← hq]
        clear hq
        go_wp2
        go_roundw
        case rel =>
          refine ⟨j + 1, by omega, by go_num, ?_, Lib.hid ?_, Lib.hid (hgr.out.trans ?_)⟩
          · have := HQ.out
            exact congrArg (Value.int .i64) (by first | omega | (simp only [IntKind.wrap_i64]; omega))
          · have h := HS.out.1
            rw [g_take es j e HE.out, mark5_snoc, List.length_take, HL.out, show min j n = j by omega, ← HQ.out, List.append_assoc]
            exact h
          · exact HS.out.2
        case measure => simp [intOf]; omega
      · obtain rfl : j = n := by omega
        go_wp2
        go_ret
        refine ⟨rfl, ?_, hgr.out⟩
        have h := hown.out
        rw [List.take_of_length_le (by rw [HL.out]; exact Nat.le_refl _), List.drop_eq_nil_of_le (by rw [HL.out]; exact Nat.le_refl _), List.append_nil] at h
        exact h

set_option maxRecDepth 10000 in
set_option maxHeartbeats 1000000 in
theorem heldKs_any (A : Option Addr) (n c k : Nat) (es : List KE) (w : World) (hr : SlK w A n (mark5 k es)) (hn : n ≤ 2097152) (hk : k ≤ 16777216) :
    Calls Try.prog 129 #[.slice A n c, .int .i64 (k : Int)] w (GNum w ((k + 5 * n : Nat) : Int)) := by
  have HR := Lib.hid hr
  have HL : Hid (es.length = n) := Lib.hid (by rw [← hr.len, mark5_len])
  have HG := Lib.hid (fun j (h : j < es.length) => mark5_get es k j h)
  clear hr
  go_enter Try.func129, Try.ntmps129
  go_wp2
  go_loopw [1, 5] (fun q i wr => ∃ j : Nat, j ≤ n ∧ i = .int .i64 j ∧ q = .int .i64 ((k + 5 * j : Nat) : Int) ∧ wr = w) (fun _ i _ => n - (intOf i).toNat)
  case atStart => exact ⟨0, Nat.zero_le _, rfl, rfl, rfl⟩
  case round =>
    obtain ⟨j, hj, rfl, rfl, rfl⟩ := hrel
    by_cases hlt : j < n
    · obtain ⟨b, off, e, rfl, hbw, he, c0, c1, c2, c3, c4⟩ := HR.out.at_ hlt
      have hee : e = ⟨((k + 5 * j : Nat) : Int), ((k + 5 * j : Nat) : Int) + 1, ((k + 5 * j : Nat) : Int) + 2, ((k + 5 * j : Nat) : Int) + 3, ((k + 5 * j : Nat) : Int) + 4⟩ := by
        have h1 := he.out
        rw [HG.out j (by rw [HL.out]; exact hlt)] at h1
        injection h1 with h1
        exact h1.symm
      subst hee
      clear he
      have hq0 : k + 5 * j ≤ 40000000 := by omega
      obtain ⟨q, hq⟩ : ∃ q, q = k + 5 * j := ⟨_, rfl⟩
      simp only [← hq] at c0 c1 c2 c3 c4 hq0 ⊢
      have hb1 : (q : Int) + 1 + 1 = (q : Int) + 2 := by omega
      have hb2 : (q : Int) + 2 + 1 = (q : Int) + 3 := by omega
      have hb3 : (q : Int) + 3 + 1 = (q : Int) + 4 := by omega
      have HQ := Lib.hid hq
      clear hq
      go_wp2
      go_roundw
      case rel =>
        refine ⟨j + 1, by omega, by go_num, ?_, by first | rfl | trivial⟩
        have := HQ.out
        exact congrArg (Value.int .i64) (by first | omega | (simp only [IntKind.wrap_i64]; omega))
      case measure => simp [intOf]; omega
    · obtain rfl : j = n := by omega
      go_wp2
      go_ret
      exact ⟨by first | rfl | trivial, Below.refl _ _⟩
end Go.Proofs.Ytpgnappddddlpaa
namespace Go.Proofs.Ytpgnappddddlpaa
open Go.RowKit

/-! ### marks -/
def markHe (q : Nat) (e : HE) : HE := ⟨(q : Int), (q : Int) + 1, e.A, e.n, e.c, mark5 (q + 2) e.es⟩
def markH : Nat → List HE → List HE
  | _, [] => []
  | k, e :: r => markHe k e :: markH (k + 2 + 5 * e.n) r
def endH : Nat → List HE → Nat
  | k, [] => k
  | k, e :: r => endH (k + 2 + 5 * e.n) r
theorem markH_append : ∀ (xs ys : List HE) (k : Nat), markH k (xs ++ ys) = markH k xs ++ markH (endH k xs) ys
  | [], _, _ => rfl
  | x :: r, ys, k => by simp [markH, endH, markH_append r ys]
theorem endH_append : ∀ (xs ys : List HE) (k : Nat), endH k (xs ++ ys) = endH (endH k xs) ys
  | [], _, _ => rfl
  | x :: r, ys, k => by simp [endH, endH_append r ys]
theorem endH_le : ∀ (xs : List HE) (k : Nat), k ≤ endH k xs
  | [], _ => Nat.le_refl _
  | x :: r, k => by
    have := endH_le r (k + 2 + 5 * x.n)
    simp only [endH]
    omega
theorem markH_len : ∀ (xs : List HE) (k : Nat), (markH k xs).length = xs.length
  | [], _ => rfl
  | x :: r, k => by simp [markH, markH_len r]
def sumH (bs : List HE) : Nat := (bs.map HE.n).sum
theorem sumH_append (xs ys : List HE) : sumH (xs ++ ys) = sumH xs + sumH ys := by simp [sumH]
theorem sumH_cons (x : HE) (ys : List HE) : sumH (x :: ys) = x.n + sumH ys := by simp [sumH]
theorem endH_sum : ∀ (xs : List HE) (k : Nat), endH k xs = k + 2 * xs.length + 5 * sumH xs
  | [], k => by simp [endH, sumH]
  | x :: r, k => by
    rw [endH, endH_sum r, sumH_cons, List.length_cons]
    omega
def blkH (A : Option Addr) (n c : Nat) (bs : List HE) (b : Nat) : Prop := (Value.slice A n c).ownBlock = some b ∨ ∃ e ∈ bs, e.v.ownBlock = some b
def MarkedH (w : World) (lo kk k : Nat) (A : Option Addr) (n c : Nat) (bs : List HE) (e : Ending) (w' : World) : Prop :=
  e = .returned (.int .i64 (kk : Int)) ∧ OwnH w' lo A n c (markH k bs) ∧ OnlyB (blkH A n c bs) w w'
/-- The two numbers of a shard stored in its row. -/
theorem he_lay {w : World} {lo ty g c n j : Nat} {made rest : List HE} {x : HE} (q : Nat) (h : w.ownsRow lo ty 3 (.slice (some ⟨g, 0, none⟩) n c) n ((made ++ x :: rest).flatMap HE.cells)) (hm : made.length = j) :
    ((w.setCell ⟨g, j * 3, none⟩ (.int .i64 (q : Int))).setCell ⟨g, j * 3 + 1, none⟩ (.int .i64 ((q : Int) + 1))).ownsRow lo ty 3 (.slice (some ⟨g, 0, none⟩) n c) n ((made ++ markHe q x :: rest).flatMap HE.cells) ∧
      w.grownBy ((w.setCell ⟨g, j * 3, none⟩ (.int .i64 (q : Int))).setCell ⟨g, j * 3 + 1, none⟩ (.int .i64 ((q : Int) + 1))) (some g) := by
  have h1 := h.stored (j * 3) (.int .i64 (q : Int))
  have h2 := h1.1.stored (j * 3 + 1) (.int .i64 ((q : Int) + 1))
  have e1 := flat_set HE.cells 3 HE.cells_len (made ++ x :: rest) j 0 x ⟨(q : Int), x.hi, x.A, x.n, x.c, x.es⟩ (.int .i64 (q : Int)) (g_get _ _ _ _ hm) (by omega) rfl
  rw [Nat.add_zero, g_set _ _ _ _ _ hm] at e1
  have e2 := flat_set HE.cells 3 HE.cells_len (made ++ ⟨(q : Int), x.hi, x.A, x.n, x.c, x.es⟩ :: rest) j 1 ⟨(q : Int), x.hi, x.A, x.n, x.c, x.es⟩ (markHe q x) (.int .i64 ((q : Int) + 1)) (g_get _ _ _ _ hm) (by omega) rfl
  rw [g_set _ _ _ _ _ hm] at e2
  rw [e1, e2] at h2
  exact ⟨h2.1, h1.2.trans h2.2⟩

set_option maxRecDepth 10000 in
set_option maxHeartbeats 4000000 in
theorem markHs_any (A : Option Addr) (n c lo k : Nat) (bs : List HE) (w : World) (ho : OwnH w lo A n c bs) (hn : n ≤ 2097152) (hs : ∀ e ∈ bs, e.n ≤ 2097152) (hk : endH k bs ≤ 16777216) :
    Calls Try.prog 79 #[.slice A n c, .int .i64 (k : Int)] w (MarkedH w lo (endH k bs) k A n c bs) := by
  obtain ⟨hr, hl, hd⟩ := ho
  have HS := Lib.hid hs
  have HL := Lib.hid hl
  have HK := Lib.hid hk
  have HR := Lib.hid hr
  have HD := Lib.hid hd
  clear hs hl hk hr hd
  go_enter Try.func79, Try.ntmps79
  go_wp2
  go_loopw [1, 5] (fun t i wr => ∃ (j q : Nat) (pre post : List HE), j ≤ n ∧ i = .int .i64 j ∧ t = .int .i64 (q : Int) ∧ Hid (q = endH k pre) ∧ Hid (bs = pre ++ post) ∧ Hid (pre.length = j) ∧ Hid (wr.ownsRow lo 85 3 (.slice A n c) n ((markH k pre ++ post).flatMap HE.cells)) ∧ Hid (OwnHL wr lo (markH k pre ++ post)) ∧ Hid (OnlyB (blkH A n c bs) w wr)) (fun _ i _ => n - (intOf i).toNat)
  case atStart => exact ⟨0, k, [], bs, Nat.zero_le _, rfl, rfl, Lib.hid rfl, Lib.hid rfl, Lib.hid rfl, HR, HD, Lib.hid (OnlyB.refl _ _)⟩
  case round =>
    clear HR HD
    obtain ⟨j, q, pre, post, hj, rfl, rfl, hq, hes, hpl, hown, hdat, honly⟩ := hrel
    by_cases hlt : j < n
    · obtain ⟨e, post, rfl⟩ : ∃ e r, post = e :: r := by
        cases post with
        | nil => exfalso; have := congrArg List.length hes.out; have := HL.out; have := hpl.out; simp at *; omega
        | cons e r => exact ⟨e, r, rfl⟩
      obtain ⟨g, hg⟩ := g_own_at hown.out (by omega)
      subst hg
      have hq2 : q + 2 + 5 * e.n ≤ 16777216 := by
        have h1 := HK.out
        rw [hes.out, endH_append, endH, ← hq.out] at h1
        have := endH_le post (q + 2 + 5 * e.n)
        omega
      have hmem : e ∈ bs := by rw [hes.out]; simp
      have hen : e.n ≤ 2097152 := HS.out e hmem
      have hmk : (markH k pre).length = j := by rw [markH_len, hpl.out]
      have hown2 := hown.out
      have hqq := fun i (hi : i < 3) => (hown2.cellAt (j * 3 + i) (by omega)).trans (flat_get HE.cells 3 HE.cells_len _ j i e (g_get _ _ _ _ hmk) hi)
      have hc0 : wr.cell? ⟨g, j * 3, none⟩ = some (.int .i64 e.lo) := hqq 0 (by omega)
      have hc1 : wr.cell? ⟨g, j * 3 + 1, none⟩ = some (.int .i64 e.hi) := hqq 1 (by omega)
      have hc2 : wr.cell? ⟨g, j * 3 + 2, none⟩ = some (.slice e.A e.n e.c) := hqq 2 (by omega)
      have hf0 := hown2.frozenAt (j * 3)
      have hf1 := hown2.frozenAt (j * 3 + 1)
      have hlay := he_lay q hown2 hmk
      have HROW := Lib.hid hlay.1
      have HGR := Lib.hid hlay.2
      obtain ⟨cur, hg0⟩ := bat_block hown2
      have hel : e.es.length = e.n := hdat.out.len e (by simp)
      have HEL := Lib.hid hel
      have hd2 := hdat.out.kept hlay.2 (hdat.out.far hg0 (by decide))
      have HD2 := Lib.hid hd2
      have HFAR := Lib.hid (hdat.out.far hg0 (by decide) e (by simp))
      have CM := Lib.hid (markKs_any e.A e.n e.c lo (q + 2) e.es _ (hd2.own e (by simp)) hel hen (by omega))
      have hqs : ((q + 2 : Nat) : Int) = (q : Int) + 2 := by omega
      have hb1 : (q : Int) + 1 + 1 = (q : Int) + 2 := by omega
      rw [hqs] at CM
      obtain ⟨z, hz⟩ : ∃ z, q + 2 + 5 * e.n = z := ⟨_, rfl⟩
      have HZ := Lib.hid hz
      rw [hz] at CM
      clear hown2 hqq hmk hel hd2 hlay hg0 hqs hz
      go_wp2_with fail
      refine CM.out.mono ?_
      rintro e1 w2 ⟨rfl, ho2, hg2⟩
      have HOWN := Lib.hid (HROW.out.kept hg2 (.inr (fun e4 => by rcases HFAR.out with h5 | h5; · rw [show (Value.slice e.A e.n e.c).ownBlock = none from h5] at e4; cases e4
                                                                  · exact h5 e4.symm)))
      have HDAT := Lib.hid (HD2.out.turn (d' := markHe q e) hg2 rfl ho2 (by show (mark5 (q + 2) e.es).length = e.n; rw [mark5_len]; exact HEL.out))
      have HONLY := Lib.hid ((honly.out.grown HGR.out (fun i hi => .inl hi)).grown hg2 (fun i hi => .inr ⟨e, hmem, hi⟩))
      clear ho2 hg2
      go_wp2
      go_roundw
      case rel =>
        refine ⟨j + 1, z, pre ++ [e], post, by omega, by go_num, rfl, Lib.hid ?_, Lib.hid ?_, Lib.hid (by simp [hpl.out]), Lib.hid ?_, Lib.hid ?_, HONLY⟩
        · rw [endH_append, ← hq.out, ← HZ.out]; rfl
        · rw [hes.out]; simp
        · have h := HOWN.out
          rw [markH_append, ← hq.out, List.append_assoc]
          exact h
        · have h := HDAT.out
          rw [markH_append, ← hq.out, List.append_assoc]
          exact h
      case measure => simp [intOf]; omega
    · obtain rfl : j = n := by omega
      have hpe : post = [] := by
        have h1 := congrArg List.length hes.out
        have h2 := HL.out
        have h3 := hpl.out
        rw [List.length_append] at h1
        exact List.eq_nil_of_length_eq_zero (by omega)
      subst hpe
      go_wp2
      go_ret
      have e1 := hes.out
      have hdat := hdat.out
      have hown := hown.out
      rw [List.append_nil] at e1 hdat hown
      subst e1
      exact ⟨g_int (by rw [hq.out]), ⟨hown, by rw [markH_len]; exact HL.out, hdat⟩, honly.out⟩

set_option maxRecDepth 10000 in
set_option maxHeartbeats 2000000 in
theorem heldHs_any (A : Option Addr) (n c k : Nat) (bs : List HE) (w : World) (hr : SlH w A n (markH k bs)) (hn : n ≤ 2097152) (hs : ∀ e ∈ bs, e.n ≤ 2097152) (hk : endH k bs ≤ 16777216) (hx : ∀ e ∈ bs, e.es.length = e.n) :
    Calls Try.prog 80 #[.slice A n c, .int .i64 (k : Int)] w (GNum w (endH k bs : Int)) := by
  have HS := Lib.hid hs
  have HR := Lib.hid hr
  have HK := Lib.hid hk
  have HX := Lib.hid hx
  have hlen : bs.length = n := by have := hr.len; rw [markH_len] at this; exact this
  have HL := Lib.hid hlen
  clear hs hr hk hx hlen
  go_enter Try.func80, Try.ntmps80
  go_wp2
  go_loopw [1, 5] (fun t i wr => ∃ (j q : Nat) (pre post : List HE), j ≤ n ∧ i = .int .i64 j ∧ t = .int .i64 (q : Int) ∧ Hid (q = endH k pre) ∧ Hid (bs = pre ++ post) ∧ Hid (pre.length = j) ∧ Hid (Below w.heap.size w wr)) (fun _ i _ => n - (intOf i).toNat)
  case atStart => exact ⟨0, k, [], bs, Nat.zero_le _, rfl, rfl, Lib.hid rfl, Lib.hid rfl, Lib.hid rfl, Lib.hid (Below.refl _ _)⟩
  case round =>
    obtain ⟨j, q, pre, post, hj, rfl, rfl, hq, hes, hpl, hbel⟩ := hrel
    by_cases hlt : j < n
    · obtain ⟨e, post, rfl⟩ : ∃ e r, post = e :: r := by
        cases post with
        | nil => exfalso; have := congrArg List.length hes.out; have := HL.out; have := hpl.out; simp at *; omega
        | cons e r => exact ⟨e, r, rfl⟩
      obtain ⟨b, off, e0, rfl, hbw, he, hok, c0, c1, c2⟩ := HR.out.at_ hlt
      have he0 : e0 = markHe q e := by
        have h1 := he.out
        rw [hes.out, markH_append, ← hq.out, markH, List.getElem?_append_right (by rw [markH_len, hpl.out]; exact Nat.le_refl _), markH_len, hpl.out, Nat.sub_self] at h1
        simpa using h1.symm
      subst he0
      have hq2 : q + 2 + 5 * e.n ≤ 16777216 := by
        have h1 := HK.out
        rw [hes.out, endH_append, endH, ← hq.out] at h1
        have := endH_le post (q + 2 + 5 * e.n)
        omega
      have hen : e.n ≤ 2097152 := HS.out e (by rw [hes.out]; simp)
      have c0 : wr.cell? ⟨b, off + j * 3, none⟩ = some (.int .i64 (q : Int)) := (hbel.out.cell (p := ⟨b, off + j * 3, none⟩) hbw).trans c0
      have c1 : wr.cell? ⟨b, off + j * 3 + 1, none⟩ = some (.int .i64 ((q : Int) + 1)) := (hbel.out.cell (p := ⟨b, off + j * 3 + 1, none⟩) hbw).trans c1
      have c2 : wr.cell? ⟨b, off + j * 3 + 2, none⟩ = some (.slice e.A e.n e.c) := (hbel.out.cell (p := ⟨b, off + j * 3 + 2, none⟩) hbw).trans c2
      have H := Lib.hid (heldKs_any e.A e.n e.c (q + 2) e.es wr (hok.out.below hbel.out).rd hen (by omega))
      have hqs : ((q + 2 : Nat) : Int) = (q : Int) + 2 := by omega
      have hb1 : (q : Int) + 1 + 1 = (q : Int) + 2 := by omega
      rw [hqs] at H
      have hp : (0 : Int) ≤ ((q + 2 + 5 * e.n : Nat) : Int) := by omega
      obtain ⟨z, hz⟩ : ∃ z, q + 2 + 5 * e.n = z := ⟨_, rfl⟩
      have HZ := Lib.hid hz
      rw [hz] at H hp
      clear he hok hz hqs
      go_wp2_with fail
      refine H.out.mono ?_
      rintro e1 w2 ⟨rfl, hb2⟩
      have HB := Lib.hid (g_chain hbel.out hb2)
      clear hb2
      go_wp2
      go_roundw
      case rel => exact ⟨j + 1, z, pre ++ [e], post, by omega, by go_num, rfl, Lib.hid (by rw [endH_append, ← hq.out, ← HZ.out]; rfl), Lib.hid (by rw [hes.out]; simp), Lib.hid (by simp [hpl.out]), HB⟩
      case measure => simp [intOf]; omega
    · obtain rfl : j = n := by omega
      have hpe : post = [] := by
        have h1 := congrArg List.length hes.out
        have h2 := HL.out
        have h3 := hpl.out
        rw [List.length_append] at h1
        exact List.eq_nil_of_length_eq_zero (by omega)
      subst hpe
      go_wp2
      go_ret
      have e1 := hes.out
      rw [List.append_nil] at e1
      subst e1
      exact ⟨g_int (by rw [hq.out]), hbel.out⟩
end Go.Proofs.Ytpgnappddddlpaa
namespace Go.Proofs.Ytpgnappddddlpaa
open Go.RowKit

def kedgeB (lo hi : Int) (e : KE) : Bool := decide (0 ≤ e.f ∧ e.f < 150 ∧ lo ≤ e.t ∧ e.t < hi ∧ 0 ≤ e.w ∧ e.w ≤ 1000 ∧ 0 ≤ e.i ∧ e.i < 400 ∧ 0 ≤ e.v ∧ e.v ≤ 281474976710655)
def afterB (p q : Int) (e : KE) : Bool := decide (p < e.f ∨ (p = e.f ∧ q < e.i))
def runK (lo hi : Int) : Int → Int → List KE → Bool
  | _, _, [] => true
  | p, q, e :: r => kedgeB lo hi e && afterB p q e && runK lo hi e.f e.i r
def shardB (lo hi : Int) (es : List KE) : Bool := decide (0 ≤ lo ∧ lo < hi ∧ hi ≤ 150 ∧ es.length ≤ 400) && runK lo hi (-1) 0 es

theorem kedgeB_iff {lo hi : Int} {e : KE} (h : kedgeB lo hi e = true) : 0 ≤ e.f ∧ e.f < 150 ∧ lo ≤ e.t ∧ e.t < hi ∧ 0 ≤ e.w ∧ e.w ≤ 1000 ∧ 0 ≤ e.i ∧ e.i < 400 ∧ 0 ≤ e.v ∧ e.v ≤ 281474976710655 := of_decide_eq_true h
theorem afterB_iff {p q : Int} {e : KE} (h : afterB p q e = true) : p < e.f ∨ (p = e.f ∧ q < e.i) := of_decide_eq_true h
theorem shardB_iff {lo hi : Int} {es : List KE} (h : shardB lo hi es = true) : 0 ≤ lo ∧ lo < hi ∧ hi ≤ 150 ∧ es.length ≤ 400 ∧ runK lo hi (-1) 0 es = true := by
  unfold shardB at h
  rw [Bool.and_eq_true, decide_eq_true_iff] at h
  exact ⟨h.1.1, h.1.2.1, h.1.2.2.1, h.1.2.2.2, h.2⟩
theorem shardB_yes {lo hi : Int} {es : List KE} (h0 : 0 ≤ lo) (h1 : lo < hi) (h2 : hi ≤ 150) (h3 : es.length ≤ 400) : shardB lo hi es = runK lo hi (-1) 0 es := by
  simp [shardB, h0, h1, h2, h3]
theorem runK_drop {lo hi p q : Int} {es : List KE} {k : Nat} {e : KE} (he : es[k]? = some e) (h : runK lo hi p q (es.drop k) = runK lo hi (-1) 0 es) : (kedgeB lo hi e && afterB p q e && runK lo hi e.f e.i (es.drop (k + 1))) = runK lo hi (-1) 0 es := by
  rw [← h, g_drop es k e he, runK]
theorem runK_each {lo hi : Int} : ∀ {es : List KE} {p q : Int}, runK lo hi p q es = true → ∀ e ∈ es, kedgeB lo hi e = true
  | [], _, _, _, e, he => by cases he
  | a :: r, p, q, h, e, he => by
    rw [runK, Bool.and_eq_true, Bool.and_eq_true] at h
    rcases List.mem_cons.1 he with rfl | he
    · exact h.1.1
    · exact runK_each h.2 e he
/-- The edges of a valid shard do not fall in From. -/
theorem runK_from {lo hi : Int} : ∀ {es : List KE} {p q : Int}, runK lo hi p q es = true → (∀ e ∈ es, p ≤ e.f) ∧ es.Pairwise (fun a b => a.f ≤ b.f)
  | [], _, _, _ => ⟨by simp, List.Pairwise.nil⟩
  | a :: r, p, q, h => by
    rw [runK, Bool.and_eq_true, Bool.and_eq_true] at h
    obtain ⟨h1, h2⟩ := runK_from h.2
    have h3 := afterB_iff h.1.2
    refine ⟨fun e he => ?_, List.pairwise_cons.2 ⟨h1, h2⟩⟩
    rcases List.mem_cons.1 he with rfl | he
    · omega
    · have := h1 e he; omega
theorem kedgeB_parts {lo hi : Int} {e : KE} (h : kedgeB lo hi e = false) : e.f < 0 ∨ (0 ≤ e.f ∧ 150 ≤ e.f) ∨ (0 ≤ e.f ∧ e.f < 150 ∧ e.t < lo) ∨ (0 ≤ e.f ∧ e.f < 150 ∧ lo ≤ e.t ∧ hi ≤ e.t) ∨ (0 ≤ e.f ∧ e.f < 150 ∧ lo ≤ e.t ∧ e.t < hi ∧ e.w < 0) ∨ (0 ≤ e.f ∧ e.f < 150 ∧ lo ≤ e.t ∧ e.t < hi ∧ 0 ≤ e.w ∧ 1000 < e.w) ∨
    (0 ≤ e.f ∧ e.f < 150 ∧ lo ≤ e.t ∧ e.t < hi ∧ 0 ≤ e.w ∧ e.w ≤ 1000 ∧ e.i < 0) ∨ (0 ≤ e.f ∧ e.f < 150 ∧ lo ≤ e.t ∧ e.t < hi ∧ 0 ≤ e.w ∧ e.w ≤ 1000 ∧ 0 ≤ e.i ∧ 400 ≤ e.i) ∨ (0 ≤ e.f ∧ e.f < 150 ∧ lo ≤ e.t ∧ e.t < hi ∧ 0 ≤ e.w ∧ e.w ≤ 1000 ∧ 0 ≤ e.i ∧ e.i < 400 ∧ ¬ (0 ≤ e.v ∧ e.v ≤ 281474976710655)) := by
  have h := of_decide_eq_false h
  rcases Int.lt_or_le e.f 0 with h1 | h1
  · exact .inl h1
  refine .inr ?_
  rcases Int.lt_or_le e.f 150 with h2 | h2
  case inr => exact .inl ⟨h1, h2⟩
  refine .inr ?_
  rcases Int.lt_or_le e.t lo with h3 | h3
  · exact .inl ⟨h1, h2, h3⟩
  refine .inr ?_
  rcases Int.lt_or_le e.t hi with h4 | h4
  case inr => exact .inl ⟨h1, h2, h3, h4⟩
  refine .inr ?_
  rcases Int.lt_or_le e.w 0 with h5 | h5
  · exact .inl ⟨h1, h2, h3, h4, h5⟩
  refine .inr ?_
  rcases Int.lt_or_le 1000 e.w with h6 | h6
  · exact .inl ⟨h1, h2, h3, h4, h5, h6⟩
  refine .inr ?_
  rcases Int.lt_or_le e.i 0 with h7 | h7
  · exact .inl ⟨h1, h2, h3, h4, h5, h6, h7⟩
  refine .inr ?_
  rcases Int.lt_or_le e.i 400 with h8 | h8
  case inr => exact .inl ⟨h1, h2, h3, h4, h5, h6, h7, h8⟩
  refine .inr ?_
  exact ⟨h1, h2, h3, h4, h5, h6, h7, h8, fun h9 => h ⟨h1, h2, h3, h4, h5, h6, h7, h8, h9⟩⟩
theorem prev_next {es : List KE} {k : Nat} {e : KE} (he : es[k]? = some e) : ∀ (j : Nat) (x : KE), k + 1 = j + 1 → es[j]? = some x → e.f = x.f ∧ e.i = x.i := fun j x hj hx => by
  obtain rfl : k = j := by omega
  rw [he] at hx
  injection hx with hx
  subst hx
  exact ⟨rfl, rfl⟩
end Go.Proofs.Ytpgnappddddlpaa
namespace Go.Proofs.Ytpgnappddddlpaa
open Go.RowKit

abbrev SD := Int × Int × List KE
def chainB (n : Int) : Int → List SD → Bool
  | a, [] => decide (a = n)
  | a, s :: r => shardB s.1 s.2.1 s.2.2 && decide (s.1 = a) && chainB n s.2.1 r
def flatK (l : List SD) : List KE := l.flatMap (fun s => s.2.2)
def indsOk (n : Int) (F : List KE) : Bool := decide (F.length ≤ 400) && F.all (fun e => decide (e.i < (F.length : Int) ∧ e.f < n)) && decide (F.map KE.i).Nodup
def KE.ge (e : KE) : GE := ⟨e.f, e.t, e.w⟩
def edgeOf (F : List KE) (j : Nat) : GE := ((F.find? (fun e => decide (e.i = (j : Int)))).map KE.ge).getD zeroG
def edgesJ (F : List KE) : List GE := (List.range F.length).map (edgeOf F)
def joinB (n : Int) (l : List SD) : Bool := chainB n 0 l && indsOk n (flatK l)

theorem perm_of_sub {α : Type} [DecidableEq α] : ∀ (A L : List α), A.Nodup → (∀ a ∈ A, a ∈ L) → L.length ≤ A.length → L.Perm A
  | [], L, _, _, h => by
    obtain rfl : L = [] := List.eq_nil_of_length_eq_zero (by simpa using h)
    exact List.Perm.refl _
  | a :: A, L, hn, hs, hl => by
    obtain ⟨h1, h2⟩ := List.nodup_cons.1 hn
    have ha : a ∈ L := hs a (by simp)
    have hp : L.Perm (a :: L.erase a) := List.perm_cons_erase ha
    have hle : (L.erase a).length = L.length - 1 := List.length_erase_of_mem ha
    have hpos : 0 < L.length := List.length_pos_of_mem ha
    have ih := perm_of_sub A (L.erase a) h2 (fun b hb => (List.mem_erase_of_ne (fun e => by subst e; exact h1 hb)).2 (hs b (by simp [hb]))) (by simp at hl; omega)
    exact hp.trans (ih.cons a)
def rangeI (n : Nat) : List Int := (List.range n).map (fun j : Nat => (j : Int))
theorem rangeI_len (n : Nat) : (rangeI n).length = n := by simp [rangeI]
theorem rangeI_nodup (n : Nat) : (rangeI n).Nodup := by
  unfold rangeI
  rw [List.Nodup, List.pairwise_map]
  exact List.nodup_range.imp (fun {a b} h e => h (by exact_mod_cast e))
theorem rangeI_mem {n : Nat} {x : Int} : x ∈ rangeI n ↔ 0 ≤ x ∧ x < n := by
  unfold rangeI
  rw [List.mem_map]
  constructor
  · rintro ⟨j, hj, rfl⟩
    have := List.mem_range.1 hj
    omega
  · rintro ⟨h1, h2⟩
    exact ⟨x.toNat, List.mem_range.2 (by omega), by omega⟩
/-- Every number below the count occurs: so each occurs once, and no other. -/
theorem inds_full {F : List KE} (h : ∀ j : Nat, j < F.length → ∃ e ∈ F, e.i = (j : Int)) : (F.map KE.i).Nodup ∧ ∀ e ∈ F, 0 ≤ e.i ∧ e.i < F.length := by
  have hp : (F.map KE.i).Perm (rangeI F.length) := perm_of_sub _ _ (rangeI_nodup _) (fun x hx => by
    obtain ⟨h1, h2⟩ := rangeI_mem.1 hx
    obtain ⟨e, he, hi⟩ := h x.toNat (by omega)
    exact List.mem_map.2 ⟨e, he, by omega⟩) (by rw [List.length_map, rangeI_len]; exact Nat.le_refl _)
  exact ⟨hp.nodup_iff.2 (rangeI_nodup _), fun e he => rangeI_mem.1 (hp.mem_iff.1 (List.mem_map_of_mem he))⟩
theorem inds_all {F : List KE} (h1 : (F.map KE.i).Nodup) (h2 : ∀ e ∈ F, 0 ≤ e.i ∧ e.i < F.length) : ∀ j : Nat, j < F.length → ∃ e ∈ F, e.i = (j : Int) := by
  intro j hj
  have hp : (rangeI F.length).Perm (F.map KE.i) := perm_of_sub _ _ h1 (fun x hx => by
    obtain ⟨e, he, rfl⟩ := List.mem_map.1 hx
    exact rangeI_mem.2 (h2 e he)) (by rw [List.length_map, rangeI_len]; exact Nat.le_refl _)
  obtain ⟨e, he, hi⟩ := List.mem_map.1 (hp.mem_iff.1 (rangeI_mem.2 ⟨by omega, by exact_mod_cast hj⟩ : (j : Int) ∈ rangeI F.length))
  exact ⟨e, he, hi⟩
theorem find_only {F : List KE} {e : KE} {j : Int} (hn : (F.map KE.i).Nodup) (he : e ∈ F) (hi : e.i = j) : F.find? (fun x => decide (x.i = j)) = some e := by
  induction F with
  | nil => cases he
  | cons a r ih =>
    rw [List.map_cons, List.nodup_cons] at hn
    rw [List.find?_cons]
    rcases List.mem_cons.1 he with rfl | he
    · simp [hi]
    · have : a.i ≠ j := fun e2 => hn.1 (by rw [e2, ← hi]; exact List.mem_map_of_mem he)
      simp only [this, decide_false]
      exact ih hn.2 he
theorem edgeOf_only {F : List KE} {e : KE} {j : Nat} (hn : (F.map KE.i).Nodup) (he : e ∈ F) (hi : e.i = (j : Int)) : edgeOf F j = e.ge := by
  unfold edgeOf
  rw [find_only hn he hi]
  rfl
theorem edgesJ_of {F : List KE} {out : List GE} (hl : out.length = F.length) (h : ∀ j : Nat, j < F.length → ∃ e ∈ F, e.i = (j : Int) ∧ out[j]? = some e.ge) : (F.map KE.i).Nodup ∧ (∀ e ∈ F, 0 ≤ e.i ∧ e.i < F.length) ∧ out = edgesJ F := by
  obtain ⟨h1, h2⟩ := inds_full (F := F) (fun j hj => by obtain ⟨e, a, b, _⟩ := h j hj; exact ⟨e, a, b⟩)
  refine ⟨h1, h2, List.ext_getElem? fun j => ?_⟩
  by_cases hj : j < F.length
  · obtain ⟨e, he, hi, ho⟩ := h j hj
    rw [ho]
    unfold edgesJ
    rw [List.getElem?_map, List.getElem?_range hj]
    simp [edgeOf_only h1 he hi]
  · rw [List.getElem?_eq_none (by omega), List.getElem?_eq_none (by simp [edgesJ]; omega)]

/-! ### one edge more -/
def hadB (F : List KE) (j : Nat) : Bool := F.any (fun e => decide (e.i = (j : Int)))
theorem edgeOf_snoc_no {F : List KE} {e : KE} {j : Nat} (h : e.i ≠ (j : Int)) : edgeOf (F ++ [e]) j = edgeOf F j := by
  unfold edgeOf
  rw [List.find?_append]
  cases hf : F.find? (fun x => decide (x.i = (j : Int))) with
  | some a => rfl
  | none => simp [h]
theorem edgeOf_snoc_yes {F : List KE} {e : KE} {j : Nat} (h : e.i = (j : Int)) (hn : hadB F j = false) : edgeOf (F ++ [e]) j = e.ge := by
  unfold edgeOf
  rw [List.find?_append]
  have : F.find? (fun x => decide (x.i = (j : Int))) = none := by
    rw [List.find?_eq_none]
    intro x hx hh
    unfold hadB at hn
    rw [List.any_eq_false] at hn
    exact hn x hx hh
  rw [this]
  simp [h]
theorem hadB_snoc {F : List KE} {e : KE} {j : Nat} : hadB (F ++ [e]) j = (hadB F j || decide (e.i = (j : Int))) := by simp [hadB]
def edgeRow (m : Nat) (F : List KE) : List GE := (List.range m).map (edgeOf F)
def hadRow (m : Nat) (F : List KE) : List Bool := (List.range m).map (hadB F)
theorem edgeRow_len (m : Nat) (F : List KE) : (edgeRow m F).length = m := by simp [edgeRow]
theorem hadRow_len (m : Nat) (F : List KE) : (hadRow m F).length = m := by simp [hadRow]
theorem edgeRow_get {m : Nat} {F : List KE} {j : Nat} (h : j < m) : (edgeRow m F)[j]? = some (edgeOf F j) := by simp [edgeRow, h]
theorem hadRow_get {m : Nat} {F : List KE} {j : Nat} (h : j < m) : (hadRow m F)[j]? = some (hadB F j) := by simp [hadRow, h]
theorem edgeRow_nil (m : Nat) : edgeRow m [] = List.replicate m zeroG := by
  apply List.ext_getElem?
  intro j
  by_cases h : j < m
  · rw [edgeRow_get h]
    simp [edgeOf, h]
  · rw [List.getElem?_eq_none (by rw [edgeRow_len]; omega), List.getElem?_eq_none (by simp; omega)]
theorem hadRow_nil (m : Nat) : hadRow m [] = List.replicate m false := by
  apply List.ext_getElem?
  intro j
  by_cases h : j < m
  · rw [hadRow_get h]
    simp [hadB, h]
  · rw [List.getElem?_eq_none (by rw [hadRow_len]; omega), List.getElem?_eq_none (by simp; omega)]
theorem edgeRow_snoc {m j : Nat} {F : List KE} {e : KE} (hj : e.i = (j : Int)) (hn : hadB F j = false) : (edgeRow m F).set j e.ge = edgeRow m (F ++ [e]) := by
  apply List.ext_getElem?
  intro q
  by_cases h : q < m
  · rw [edgeRow_get h, List.getElem?_set]
    by_cases hq : j = q
    · subst hq
      rw [if_pos rfl, if_pos (by rw [edgeRow_len]; exact h), edgeOf_snoc_yes hj hn]
    · rw [if_neg hq, edgeRow_get h, edgeOf_snoc_no (by omega)]
  · rw [List.getElem?_eq_none (by rw [List.length_set, edgeRow_len]; omega), List.getElem?_eq_none (by rw [edgeRow_len]; omega)]
theorem hadRow_snoc {m j : Nat} {F : List KE} {e : KE} (hj : e.i = (j : Int)) : (hadRow m F).set j true = hadRow m (F ++ [e]) := by
  apply List.ext_getElem?
  intro q
  by_cases h : q < m
  · rw [hadRow_get h, List.getElem?_set, hadB_snoc]
    by_cases hq : j = q
    · subst hq
      rw [if_pos rfl, if_pos (by rw [hadRow_len]; exact h)]
      simp [hj]
    · rw [if_neg hq, hadRow_get h]
      have : e.i ≠ (q : Int) := by omega
      simp [this]
  · rw [List.getElem?_eq_none (by rw [List.length_set, hadRow_len]; omega), List.getElem?_eq_none (by rw [hadRow_len]; omega)]
theorem hadB_iff {F : List KE} {j : Nat} : hadB F j = true ↔ ∃ e ∈ F, e.i = (j : Int) := by simp [hadB]
theorem nodup_snoc {F : List KE} {e : KE} {j : Nat} (h : (F.map KE.i).Nodup) (hj : e.i = (j : Int)) (hn : hadB F j = false) : ((F ++ [e]).map KE.i).Nodup := by
  rw [List.map_append, List.nodup_append]
  refine ⟨h, by simp, fun a ha b hb => ?_⟩
  simp at hb
  subst hb
  intro e2
  obtain ⟨x, hx, hxi⟩ := List.mem_map.1 ha
  have : hadB F j = true := hadB_iff.2 ⟨x, hx, by omega⟩
  rw [hn] at this
  cases this
theorem nodup_no {F G : List KE} {e : KE} {j : Nat} (hj : e.i = (j : Int)) (hn : hadB F j = true) : ¬ ((F ++ e :: G).map KE.i).Nodup := by
  intro h
  obtain ⟨x, hx, hxi⟩ := hadB_iff.1 hn
  rw [List.map_append, List.nodup_append] at h
  exact h.2.2 x.i (List.mem_map_of_mem hx) e.i (by simp) (by omega)
/-! ### chains -/
theorem chain_each {n : Int} : ∀ {l : List SD} {a : Int}, chainB n a l = true → ∀ s ∈ l, shardB s.1 s.2.1 s.2.2 = true
  | [], _, _, s, hs => by cases hs
  | x :: r, a, h, s, hs => by
    rw [chainB, Bool.and_eq_true, Bool.and_eq_true] at h
    rcases List.mem_cons.1 hs with rfl | hs
    · exact h.1.1
    · exact chain_each h.2 s hs
theorem chain_n {n : Int} : ∀ {l : List SD} {a : Int}, chainB n a l = true → 0 ≤ a → a ≤ 150 → 0 ≤ n ∧ n ≤ 150
  | [], a, h, h0, h1 => by
    have := of_decide_eq_true h
    omega
  | x :: r, a, h, h0, h1 => by
    rw [chainB, Bool.and_eq_true, Bool.and_eq_true] at h
    have h2 := shardB_iff h.1.1
    exact chain_n h.2 (by omega) (by omega)
theorem flat_each {n : Int} {l : List SD} {a : Int} (h : chainB n a l = true) : ∀ e ∈ flatK l, 0 ≤ e.i ∧ e.i < 400 ∧ 0 ≤ e.f := by
  intro e he
  obtain ⟨s, hs, hes⟩ := List.mem_flatMap.1 he
  have h1 := shardB_iff (chain_each h s hs)
  have h2 := kedgeB_iff (runK_each h1.2.2.2.2 e hes)
  omega
theorem flatK_append (a b : List SD) : flatK (a ++ b) = flatK a ++ flatK b := by simp [flatK]
theorem flatK_cons (s : SD) (r : List SD) : flatK (s :: r) = s.2.2 ++ flatK r := by simp [flatK]
/-! ### the answer -/
def joinN (N : Int) (l : List SD) : Int := if joinB N l = true then N else 0
def joinE (N : Int) (l : List SD) : List GE := if joinB N l = true then edgesJ (flatK l) else []
theorem join_none {N : Int} {l : List SD} (h : joinB N l = false) : joinN N l = 0 ∧ joinE N l = [] := by simp [joinN, joinE, h]
theorem join_some {N : Int} {l : List SD} (h : joinB N l = true) : joinN N l = N ∧ joinE N l = edgesJ (flatK l) := by simp [joinN, joinE, h]
theorem join_chain {N : Int} {l : List SD} (h : chainB N 0 l = false) : joinB N l = false := by simp [joinB, h]
theorem join_no1 {N : Int} {l : List SD} {e : KE} (he : e ∈ flatK l) (hf : ((flatK l).length : Int) ≤ e.i ∨ N ≤ e.f) : joinB N l = false := by
  cases h : joinB N l with
  | false => rfl
  | true =>
    unfold joinB indsOk at h
    rw [Bool.and_eq_true, Bool.and_eq_true, Bool.and_eq_true] at h
    have := of_decide_eq_true (List.all_eq_true.1 h.2.1.2 e he)
    omega
theorem join_no2 {N : Int} {l : List SD} (hc : chainB N 0 l = true) {j : Nat} (hj : j < (flatK l).length) (hn : ¬ ∃ e ∈ flatK l, e.i = (j : Int)) : joinB N l = false := by
  cases h : joinB N l with
  | false => rfl
  | true =>
    unfold joinB indsOk at h
    rw [Bool.and_eq_true, Bool.and_eq_true, Bool.and_eq_true] at h
    refine absurd (inds_all (of_decide_eq_true h.2.2) (fun e he => ?_) j hj) hn
    have h1 := of_decide_eq_true (List.all_eq_true.1 h.2.1.2 e he)
    have h2 := flat_each hc e he
    omega
theorem join_dup {N : Int} {l : List SD} (hd : ¬ ((flatK l).map KE.i).Nodup) : joinB N l = false := by
  unfold joinB indsOk
  rw [decide_eq_false hd]
  simp
theorem join_long {N : Int} {l : List SD} (hd : 400 < (flatK l).length) : joinB N l = false := by
  unfold joinB indsOk
  rw [decide_eq_false (by omega : ¬ (flatK l).length ≤ 400)]
  simp
theorem join_yes0 {N : Int} {l : List SD} (hc : chainB N 0 l = true) (hl : (flatK l).length ≤ 400) (hf : ∀ e ∈ flatK l, e.i < ((flatK l).length : Int) ∧ e.f < N) (hn : ((flatK l).map KE.i).Nodup) : joinB N l = true := by
  unfold joinB indsOk
  rw [hc, decide_eq_true hl, decide_eq_true hn, List.all_eq_true.2 (fun e he => decide_eq_true (hf e he))]
  rfl
theorem join_yes {N : Int} {l : List SD} {out : List GE} (hc : chainB N 0 l = true) (hf : ∀ e ∈ flatK l, e.f < N) (hl : out.length = (flatK l).length) (h : ∀ j : Nat, j < (flatK l).length → ∃ e ∈ flatK l, e.i = (j : Int) ∧ out[j]? = some e.ge) : joinB N l = true ∧ out = edgesJ (flatK l) := by
  obtain ⟨h1, h2, h3⟩ := edgesJ_of hl h
  refine ⟨join_yes0 hc ?_ (fun e he => ⟨(h2 e he).2, hf e he⟩) h1, h3⟩
  rcases Nat.eq_zero_or_pos (flatK l).length with h0 | h0
  · omega
  · obtain ⟨e, he, hi, _⟩ := h ((flatK l).length - 1) (by omega)
    have := flat_each hc e he
    omega
theorem wf_small {x : Int} (h0 : 0 ≤ x) (h1 : x ≤ 1000000) : (Lit.int .i64 x).wf = true := by
  unfold Lit.wf
  rw [Bool.and_eq_true, decide_eq_true_iff, decide_eq_true_iff]
  constructor
  · exact Int.le_trans (by decide) h0
  · exact Int.le_trans h1 (by decide)
end Go.Proofs.Ytpgnappddddlpaa
namespace Go.Proofs.Ytpgnappddddlpaa
open Go.RowKit

def sdL (bs : List HE) : List SD := bs.map HE.sd
theorem sdL_len (bs : List HE) : (sdL bs).length = bs.length := by simp [sdL]
theorem sdL_drop {bs : List HE} {k : Nat} {e : HE} (h : bs[k]? = some e) : (sdL bs).drop k = e.sd :: (sdL bs).drop (k + 1) := by
  unfold sdL
  exact g_drop _ k _ (by rw [List.getElem?_map, h]; rfl)
theorem sdL_take {bs : List HE} {k : Nat} {e : HE} (h : bs[k]? = some e) : (sdL bs).take (k + 1) = (sdL bs).take k ++ [e.sd] := by
  unfold sdL
  exact g_take _ k _ (by rw [List.getElem?_map, h]; rfl)
theorem chain_step {N a : Int} {bs : List HE} {k : Nat} {e : HE} (h : bs[k]? = some e) : chainB N a ((sdL bs).drop k) = (shardB e.lo e.hi e.es && decide (e.lo = a) && chainB N e.hi ((sdL bs).drop (k + 1))) := by
  rw [sdL_drop h, chainB]
  rfl
theorem flat_step {bs : List HE} {k : Nat} {e : HE} (h : bs[k]? = some e) : flatK ((sdL bs).take (k + 1)) = flatK ((sdL bs).take k) ++ e.es := by
  rw [sdL_take h, flatK_append]
  simp [flatK, HE.sd]
theorem flat_mid {bs : List HE} {k j : Nat} {e : HE} {x : KE} (h : bs[k]? = some e) (hx : e.es[j]? = some x) : ∃ G, flatK (sdL bs) = (flatK ((sdL bs).take k) ++ e.es.take j) ++ x :: G := by
  refine ⟨e.es.drop (j + 1) ++ flatK ((sdL bs).drop (k + 1)), ?_⟩
  have h1 : sdL bs = (sdL bs).take k ++ (e.sd :: (sdL bs).drop (k + 1)) := by rw [← sdL_drop h, List.take_append_drop]
  have h2 : e.es = e.es.take j ++ (x :: e.es.drop (j + 1)) := by rw [← g_drop e.es j x hx, List.take_append_drop]
  calc flatK (sdL bs) = flatK ((sdL bs).take k) ++ (e.es ++ flatK ((sdL bs).drop (k + 1))) := by
        conv => lhs; rw [h1]
        rw [flatK_append, flatK_cons]
        rfl
    _ = flatK ((sdL bs).take k) ++ ((e.es.take j ++ (x :: e.es.drop (j + 1))) ++ flatK ((sdL bs).drop (k + 1))) := by rw [← h2]
    _ = _ := by simp
theorem flat_all (bs : List HE) {k : Nat} (h : bs.length ≤ k) : flatK ((sdL bs).take k) = flatK (sdL bs) := by
  rw [List.take_of_length_le (by rw [sdL_len]; exact h)]
end Go.Proofs.Ytpgnappddddlpaa
namespace Go.Proofs.Ytpgnappddddlpaa
open Go.RowKit

section
variable {w w' w0 : World} {n c lo lo0 : Nat} {A : Option Addr} {bs : List HE}
theorem OwnH.blocks (h : OwnH w0 lo0 A n c bs) : (∀ k, (Value.slice A n c).ownBlock = some k → lo0 ≤ k ∧ k < w0.heap.size) ∧ ∀ d ∈ bs, ∀ k, d.v.ownBlock = some k → lo0 ≤ k ∧ k < w0.heap.size :=
  ⟨h.row.lt, fun d hd => (h.dat.own d hd).lt⟩
theorem OwnH.other {row : Option Nat} (h : OwnH w lo A n c bs) (h0 : OwnH w0 lo0 A n c bs) (hg : w.grownBy w' row) (hne : ∀ k, row = some k → ¬ (lo0 ≤ k ∧ k < w0.heap.size)) : OwnH w' lo A n c bs :=
  ⟨h.row.kept hg (ne_of_lt h0.blocks.1 hne), h.len, h.dat.kept hg (fun d hd => ne_of_lt (h0.blocks.2 d hd) hne)⟩
theorem OwnH.only {S : Nat → Prop} (h : OwnH w lo A n c bs) (h0 : OwnH w0 lo0 A n c bs) (hg : OnlyB S w w') (hne : ∀ k, S k → ¬ (lo0 ≤ k ∧ k < w0.heap.size)) : OwnH w' lo A n c bs :=
  ⟨hg.own h.row (fun k hk hs => hne k hs (h0.blocks.1 k hk)), h.len, fun d hd => hg.own (h.dat.own d hd) (fun k hk hs => hne k hs (h0.blocks.2 d hd k hk)), h.dat.len, h.dat.apart⟩
theorem OwnH.blk (h : OwnH w lo A n c bs) {k : Nat} (hk : blkH A n c bs k) : lo ≤ k ∧ k < w.heap.size := by
  rcases hk with e | ⟨d, hd, e⟩
  · exact h.row.lt k e
  · exact (h.dat.own d hd).lt k e
theorem sum_flat {ls : List SD} (hx : bs.map HE.sd = ls) (hl : ∀ d ∈ bs, d.es.length = d.n) : sumH bs = (flatK ls).length := by
  subst hx
  unfold sumH flatK
  rw [List.length_flatMap, List.map_map]
  congr 1
  exact List.map_congr_left (fun d hd => (hl d hd).symm)
/-- One row is written on, in its own block or in a new one. -/
theorem OwnHL.app {l m : List HE} {x d' : HE} (h : OwnHL w lo (l ++ x :: m)) (hg : w.grownBy w' x.v.ownBlock) (ho : w'.ownsRow lo 40 5 d'.v d'.n (d'.es.flatMap KE.cells)) (hs : d'.es.length = d'.n)
    (hb : d'.v.ownBlock = x.v.ownBlock ∨ ∃ s, d'.v.ownBlock = some s ∧ w.heap.size ≤ s) : OwnHL w' lo (l ++ d' :: m) := by
  obtain ⟨a1, a2, a3⟩ := List.pairwise_append.1 h.apart
  obtain ⟨b1, b2⟩ := List.pairwise_cons.1 a2
  have hsym : ∀ {a b : HE}, ApartH a b → ApartH b a := fun {a b} hh => by
    unfold ApartH at *
    rcases hh with hh | hh
    · rw [hh]
      cases b.v.ownBlock <;> simp
    · exact .inr (fun e => hh e.symm)
  have hap : ∀ a ∈ l ++ m, ApartH a x → ApartH a d' := fun a ha hh => by
    unfold ApartH at *
    rcases hb with hb | ⟨s, hb, hs2⟩
    · rw [hb]; exact hh
    · cases hv : a.v.ownBlock with
      | none => exact .inl rfl
      | some i =>
        refine .inr (fun e => ?_)
        rw [hb] at e
        injection e with e
        have hin : a ∈ l ++ x :: m := by rcases List.mem_append.1 ha with ha | ha; exact List.mem_append_left _ ha; exact List.mem_append_right _ (by simp [ha])
        have := (h.lt hin i hv).2
        omega
  refine h.turn0 (fun e he => ?_) ho hs (fun a ha => hap a (List.mem_append_left _ ha) (a3 a ha x (by simp))) (fun b hb2 => hsym (hap b (List.mem_append_right _ hb2) (hsym (b1 b hb2))))
  rcases List.mem_append.1 he with he | he
  · exact (h.own e (List.mem_append_left _ he)).kept hg (a3 e he x (by simp))
  · exact (h.own e (List.mem_append_right _ (by simp [he]))).kept hg (hsym (b1 e he))
structure HSm (M n : Nat) (bs : List HE) (ls : List SD) : Prop where
  c : n ≤ M
  e : ∀ d ∈ bs, d.n ≤ M
  s : endH 1 bs ≤ 1 + 5 * M
  q : endH 1 bs = 1 + 2 * ls.length + 5 * (flatK ls).length
  k : n = ls.length
  l : ∀ d ∈ bs, d.es.length = d.n
theorem HSm.of {M : Nat} {ls : List SD} (hn : bs.length = n) (hl : ∀ d ∈ bs, d.es.length = d.n) (hx : bs.map HE.sd = ls) (h1 : ls.length + (flatK ls).length ≤ M) : HSm M n bs ls := by
  have e1 := sum_flat hx hl
  have e2 : n = ls.length := by rw [← hn, ← hx, List.length_map]
  refine ⟨by omega, fun d hd => ?_, by rw [endH_sum]; omega, by rw [endH_sum, e1]; omega, e2, hl⟩
  have := mem_sum (List.mem_map_of_mem (f := HE.n) hd)
  unfold sumH at e1
  omega
theorem OwnH.small {M : Nat} {ls : List SD} (h : OwnH w lo A n c bs) (hx : bs.map HE.sd = ls) (h1 : ls.length + (flatK ls).length ≤ M) : HSm M n bs ls := HSm.of h.len h.dat.len hx h1
end
end Go.Proofs.Ytpgnappddddlpaa
namespace Go.Proofs.Ytpgnappddddlpaa
open Go.RowKit

theorem Try.infoEdge : (Try.prog.info? 145).map (fun i => (i.zero, i.size, i.bytes)) = some (some (.agg #[.int .i64 0, .int .i64 0, .int .i64 0]), 3, 24) := by kernel_rfl

/-- New edges. -/
def MadeG (w : World) (es : List GE) (e : Ending) (w' : World) : Prop :=
  ∃ A c, e = .returned (.slice A es.length c) ∧ w'.ownsRow w.heap.size 145 3 (.slice A es.length c) es.length (es.flatMap GE.cells) ∧ Below w.heap.size w w'
/-- A new graph. -/
def MadeGr (w : World) (N : Int) (es : List GE) (e : Ending) (w' : World) : Prop :=
  ∃ A c, e = .returned (.agg #[.int .i64 N, .slice A es.length c]) ∧ w'.ownsRow w.heap.size 145 3 (.slice A es.length c) es.length (es.flatMap GE.cells) ∧ Below w.heap.size w w'
end Go.Proofs.Ytpgnappddddlpaa
