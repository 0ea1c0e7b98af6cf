/- How often a record stands in a list (plain mathematics; no condition). // Shard edges and shards: what new ones are (no condition). // Lists of shards in memory: that read, that are the call's own (plain lemmas over the model; no condition). // Shard edges: the contracts of the laws' helpers that leave marks and that look for them. Condition: at most 2^21 edges. // Marks in lists of shards: the contracts of the laws' helpers that write them and that look for them. Condition: at most 2^21 of each. // Lists of shards in memory and their data (plain lemmas; no condition). // Shards of the call's own behind writings elsewhere; how small they are (plain lemmas over the model; no condition). // The contract of the program's function that lays an empty shard for every interval: a loop over its iterator whose body appends. Condition: at most 2^20 ends. // Words for dealing out: new shards, new records that read (plain lemmas over the model; no condition). // The contracts of the program's functions that ask whether a shard is valid. Condition: at most 2^20 edges. -/
import Derived.Test.YtmbabbapcjphgaaDoorCA10
import Derived.Test.YtmbabbapcjphgaaDoorCA15
import Derived.Test.YtmbabbapcjphgaaDoorKBatI
import Derived.Test.YtmbabbapcjphgaaDoorCA7
import Derived.Test.YtmbabbapcjphgaaDoorCA9
import Derived.Maps.OwnIn
import Derived.Test.YtmbabbapcjphgaaDoorCA3
import Derived.Test.YtmbabbapcjphgaaDoorCA5
import Derived.Test.YtmbabbapcjphgaaDoorCA11
namespace Go.Proofs.YtmbabbapcjphgaaDoor

noncomputable def cntR (x : GE) (l : List GE) : Nat := (l.filter fun y => @decide (x = y) (Classical.propDecidable _)).length
theorem cntR_perm {x : GE} {l m : List GE} (h : l.Perm m) : cntR x l = cntR x m := (h.filter _).length_eq
theorem cntR_le (x : GE) (l : List GE) : cntR x l ≤ l.length := List.length_filter_le _ _
theorem cntR_yes {x : GE} {l : List GE} {j : Nat} (h : l[j]? = some x) : cntR x (l.take (j + 1)) = cntR x (l.take j) + 1 := by
  unfold cntR
  rw [List.take_add_one, h, List.filter_append, List.length_append]
  simp
theorem cntR_no {x y : GE} {l : List GE} {j : Nat} (h : l[j]? = some y) (hn : x ≠ y) : cntR x (l.take (j + 1)) = cntR x (l.take j) := by
  unfold cntR
  rw [List.take_add_one, h, List.filter_append, List.length_append]
  simp [hn]
theorem cntR_zero (x : GE) (l : List GE) : cntR x (l.take 0) = 0 := by simp [cntR]
theorem GE.ne_of {x y : GE} (h : x ≠ y) : (x.f == y.f) = false ∨ (x.t == y.t) = false ∨ (x.w == y.w) = false := by
  obtain ⟨a, b, c⟩ := x
  obtain ⟨a', b', c'⟩ := y
  by_cases h1 : a = a'
  · by_cases h2 : b = b'
    · by_cases h3 : c = c'
      · subst h1
        subst h2
        subst h3
        exact absurd rfl h
      · exact .inr (.inr (by simpa using h3))
    · exact .inr (.inl (by simpa using h2))
  · exact .inl (by simpa using h1)
theorem merge_batches {b : Int} (hb : 1 ≤ b) (es : List GE) : mergeAll (batchesZ b es) = sortR es := by
  rw [batchesZ_yes hb]
  unfold mergeAll
  exact sortAll_is (by omega) (by rw [total_batches (by omega)]; exact Nat.le_refl _)
end Go.Proofs.YtmbabbapcjphgaaDoor
namespace Go.Proofs.YtmbabbapcjphgaaDoor
open Go.RowKit

theorem Tryd.infoSEdge : (Tryd.prog.info? 74).map (fun i => (i.zero, i.size, i.bytes)) = some (some (.agg #[.int .i64 0, .int .i64 0, .int .i64 0, .int .i64 0, .int .i64 0]), 5, 40) := by kernel_rfl

/-- New shard edges. -/
def MadeKs (w : World) (es : List KE) (e : Ending) (w' : World) : Prop :=
  ∃ A c, e = .returned (.slice A es.length c) ∧ w'.ownsRow w.heap.size 74 5 (.slice A es.length c) es.length (es.flatMap KE.cells) ∧ Below w.heap.size w w'
/-- A new shard. -/
def MadeSh (w : World) (lo hi : Int) (es : List KE) (e : Ending) (w' : World) : Prop :=
  ∃ A c, e = .returned (.agg #[.int .i64 lo, .int .i64 hi, .slice A es.length c]) ∧ w'.ownsRow w.heap.size 74 5 (.slice A es.length c) es.length (es.flatMap KE.cells) ∧ Below w.heap.size w w'
/-- A block that holds a shard. -/
structure HBox (w : World) (b : Nat) (lo hi : Int) (A : Option Addr) (n c : Nat) : Prop where
  lt : b < w.heap.size
  c0 : w.cell? ⟨b, 0, none⟩ = some (.int .i64 lo)
  c1 : w.cell? ⟨b, 1, none⟩ = some (.int .i64 hi)
  c2 : w.cell? ⟨b, 2, none⟩ = some (.slice A n c)
section
variable {w w' : World} {b n c : Nat} {lo hi : Int} {A : Option Addr}
theorem HBox.keep (h : HBox w b lo hi A n c) (hs : w.heap.size ≤ w'.heap.size) (hk : w'.heap[b]? = w.heap[b]?) : HBox w' b lo hi A n c :=
  ⟨Nat.lt_of_lt_of_le h.lt hs, (World.cell?_of_block (a := ⟨b, 0, none⟩) hk).trans h.c0, (World.cell?_of_block (a := ⟨b, 1, none⟩) hk).trans h.c1, (World.cell?_of_block (a := ⟨b, 2, none⟩) hk).trans h.c2⟩
theorem HBox.below (h : HBox w b lo hi A n c) (hb : Below w.heap.size w w') : HBox w' b lo hi A n c := h.keep hb.size (hb.block b h.lt)
theorem HBox.new (w : World) (lo hi : Int) (A : Option Addr) (n c : Nat) (t : TypeId) : HBox (w.alloc (.cells #[.int .i64 lo, .int .i64 hi, .slice A n c] t)) w.heap.size lo hi A n c := ⟨by simp, by simp, by simp, by simp⟩
theorem HBox.alloc (h : HBox w b lo hi A n c) (o : Obj) : HBox (w.alloc o) b lo hi A n c := h.below (below_a1 w o)
theorem HBox.drew (h : HBox w b lo hi A n c) : HBox w.drew b lo hi A n c := ⟨h.lt, h.c0, h.c1, h.c2⟩
end
end Go.Proofs.YtmbabbapcjphgaaDoor
namespace Go.Proofs.YtmbabbapcjphgaaDoor
open Go.RowKit

/-- A shard. -/
structure HE where
  lo : Int
  hi : Int
  A : Option Addr
  n : Nat
  c : Nat
  es : List KE
def HE.v (e : HE) : Value := .slice e.A e.n e.c
def HE.w (e : HE) : Value := .agg #[.int .i64 e.lo, .int .i64 e.hi, .slice e.A e.n e.c]
def HE.cells (e : HE) : List Value := [.int .i64 e.lo, .int .i64 e.hi, .slice e.A e.n e.c]
/-- What it says, without where it lies. -/
def HE.sd (e : HE) : Int × Int × List KE := (e.lo, e.hi, e.es)
theorem HE.cells_len (e : HE) : e.cells.length = 3 := rfl
theorem HE.cells_one (e : HE) : ∀ u ∈ e.cells, u.oneCell' = true := by
  intro u hu
  simp only [HE.cells, List.mem_cons, List.not_mem_nil, or_false] at hu
  rcases hu with rfl | rfl | rfl <;> rfl
theorem he_one (hs : List HE) : ∀ u ∈ hs.flatMap HE.cells, u.oneCell' = true := fun u hu => by
  obtain ⟨e, _, he⟩ := List.mem_flatMap.1 hu
  exact e.cells_one u he
structure HE.Ok (w : World) (e : HE) : Prop where
  rd : SlK w e.A e.n e.es
  cap : e.n ≤ e.c
theorem HE.Ok.below {w w' : World} {e : HE} (h : e.Ok w) (hb : Below w.heap.size w w') : e.Ok w' := ⟨h.rd.below hb, h.cap⟩
/-- A slice of shards in memory. -/
structure SlH (w : World) (A : Option Addr) (n : Nat) (bs : List HE) : Prop where
  len : bs.length = n
  row : Row w 3 A n (bs.flatMap HE.cells)
  each : ∀ e ∈ bs, e.Ok w
def ApartH (a b : HE) : Prop := a.v.ownBlock = none ∨ a.v.ownBlock ≠ b.v.ownBlock
/-- Rows of shard edges of the call's own. -/
structure OwnHL (w : World) (lo : Nat) (l : List HE) : Prop where
  own : ∀ d ∈ l, w.ownsRow lo 74 5 d.v d.n (d.es.flatMap KE.cells)
  len : ∀ d ∈ l, d.es.length = d.n
  apart : l.Pairwise ApartH
section
variable {w w' : World} {lo : Nat} {l m : List HE}
theorem OwnHL.nil : OwnHL w lo [] := ⟨by simp, by simp, List.Pairwise.nil⟩
theorem OwnHL.kept {row : Option Nat} (h : OwnHL w lo l) (hg : w.grownBy w' row) (hne : ∀ d ∈ l, d.v.ownBlock = none ∨ d.v.ownBlock ≠ row) : OwnHL w' lo l :=
  ⟨fun d hd => (h.own d hd).kept hg (hne d hd), h.len, h.apart⟩
theorem OwnHL.below (h : OwnHL w lo l) (hb : Below w.heap.size w w') : OwnHL w' lo l :=
  ⟨fun d hd => own_below (h.own d hd) hb, h.len, h.apart⟩
theorem OwnHL.lt (h : OwnHL w lo l) {d : HE} (hd : d ∈ l) : ∀ k, d.v.ownBlock = some k → lo ≤ k ∧ k < w.heap.size := (h.own d hd).lt
theorem OwnHL.ok (h : OwnHL w lo l) : ∀ d ∈ l, d.Ok w := fun d hd => ⟨SlK.of_own (h.own d hd) (h.len d hd), bat_cap (h.own d hd)⟩
theorem OwnHL.far (h : OwnHL w lo l) {g : Nat} {cur : Array Value} {t : TypeId} {fr : Nat × Nat} (hg : w.heap[g]? = some (.cells cur t fr)) (ht : t ≠ 74) : ∀ d ∈ l, d.v.ownBlock = none ∨ d.v.ownBlock ≠ some g := fun d hd => by
  rcases (h.own d hd).2 with ⟨e, _⟩ | ⟨g', cap, cur', e, _, hg', _⟩
  · exact .inl (by rw [e]; rfl)
  · refine .inr (fun e2 => ?_)
    rw [e] at e2
    have e3 : g' = g := by simpa [Value.ownBlock] using e2
    subst e3
    rw [hg] at hg'
    injection hg' with hg'
    injection hg' with _ h2
    exact ht h2
theorem OwnHL.append (h : OwnHL w lo l) (k : OwnHL w lo m) (hx : ∀ a ∈ l, ∀ b ∈ m, ApartH a b) : OwnHL w lo (l ++ m) :=
  ⟨fun d hd => by rcases List.mem_append.1 hd with hd | hd; exact h.own d hd; exact k.own d hd,
   fun d hd => by rcases List.mem_append.1 hd with hd | hd; exact h.len d hd; exact k.len d hd,
   List.pairwise_append.2 ⟨h.apart, k.apart, hx⟩⟩
theorem apartH_of_time {B lo' : Nat} (h : OwnHL w lo l) (hB : w.heap.size ≤ B) (k : OwnHL w' lo' m) (hB' : B ≤ lo') : ∀ a ∈ l, ∀ b ∈ m, ApartH a b := fun a ha b hb => by
  cases e : a.v.ownBlock with
  | none => exact .inl e
  | some i =>
    refine .inr (fun e2 => ?_)
    rw [e] at e2
    have h1 := h.lt ha i e
    have h2 := k.lt hb i e2.symm
    omega
theorem OwnHL.one {d : HE} (h : w.ownsRow lo 74 5 d.v d.n (d.es.flatMap KE.cells)) (hs : d.es.length = d.n) : OwnHL w lo [d] :=
  ⟨fun e he => by simp at he; subst he; exact h, fun e he => by simp at he; subst he; exact hs, by simp⟩
theorem OwnHL.mono {lo' : Nat} (h : OwnHL w lo l) (hl : lo' ≤ lo) : OwnHL w lo' l := ⟨fun d hd => own_monoG (h.own d hd) hl, h.len, h.apart⟩
theorem OwnHL.setLow (h : OwnHL w lo l) {p : Addr} (hp : p.block < lo) (u : Value) : OwnHL (w.setCell p u) lo l := ⟨fun d hd => own_lowG (h.own d hd) hp u, h.len, h.apart⟩
theorem OwnHL.turn0 {d d' : HE} (h : OwnHL w lo (l ++ d :: m)) (hk : ∀ e ∈ l ++ m, w'.ownsRow lo 74 5 e.v e.n (e.es.flatMap KE.cells)) (ho : w'.ownsRow lo 74 5 d'.v d'.n (d'.es.flatMap KE.cells)) (hs : d'.es.length = d'.n)
    (hx : ∀ a ∈ l, ApartH a d') (hy : ∀ b ∈ m, ApartH d' b) : OwnHL w' lo (l ++ d' :: m) := by
  obtain ⟨a1, a2, a3⟩ := List.pairwise_append.1 h.apart
  obtain ⟨b1, b2⟩ := List.pairwise_cons.1 a2
  refine ⟨fun e he => ?_, fun e he => ?_, List.pairwise_append.2 ⟨a1, List.pairwise_cons.2 ⟨hy, b2⟩, fun e he f hf => ?_⟩⟩
  · rcases List.mem_append.1 he with he | he
    · exact hk e (List.mem_append_left _ he)
    · rcases List.mem_cons.1 he with rfl | he
      · exact ho
      · exact hk e (List.mem_append_right _ he)
  · rcases List.mem_append.1 he with he | he
    · exact h.len e (List.mem_append_left _ he)
    · rcases List.mem_cons.1 he with rfl | he
      · exact hs
      · exact h.len e (List.mem_append_right _ (by simp [he]))
  · rcases List.mem_cons.1 hf with rfl | hf
    · exact hx e he
    · exact a3 e he f (by simp [hf])
/-- One row is written, in its own block. -/
theorem OwnHL.turn {d d' : HE} (h : OwnHL w lo (l ++ d :: m)) (hg : w.grownBy w' d.v.ownBlock) (hb : d'.v.ownBlock = d.v.ownBlock) (ho : w'.ownsRow lo 74 5 d'.v d'.n (d'.es.flatMap KE.cells)) (hs : d'.es.length = d'.n) :
    OwnHL w' lo (l ++ d' :: m) := by
  obtain ⟨a1, a2, a3⟩ := List.pairwise_append.1 h.apart
  obtain ⟨b1, b2⟩ := List.pairwise_cons.1 a2
  refine h.turn0 (fun e he => ?_) ho hs (fun a ha => ?_) (fun b hb' => ?_)
  · rcases List.mem_append.1 he with he | he
    · exact (h.own e (List.mem_append_left _ he)).kept hg (a3 e he d (by simp))
    · refine (h.own e (List.mem_append_right _ (by simp [he]))).kept hg ?_
      rcases b1 e he with h1 | h1
      · rw [h1]
        cases e.v.ownBlock <;> simp
      · exact .inr (fun e2 => h1 e2.symm)
  · have := a3 a ha d (by simp)
    unfold ApartH at *
    rw [hb]
    exact this
  · have := b1 b hb'
    unfold ApartH at *
    rw [hb]
    exact this
end
/-- Shards of the call's own. -/
structure OwnH (w : World) (lo : Nat) (A : Option Addr) (n c : Nat) (bs : List HE) : Prop where
  row : w.ownsRow lo 38 3 (.slice A n c) n (bs.flatMap HE.cells)
  len : bs.length = n
  dat : OwnHL w lo bs
section
variable {w w' : World} {n c lo : Nat} {A : Option Addr} {bs : List HE}
theorem SlH.below (h : SlH w A n bs) (hb : Below w.heap.size w w') : SlH w' A n bs := ⟨h.len, h.row.keep hb.size hb.block, fun e he => (h.each e he).below hb⟩
theorem SlH.at_ {j : Nat} (h : SlH w A n bs) (hj : j < n) : ∃ (b off : Nat) (e : HE), A = some ⟨b, off, none⟩ ∧ b < w.heap.size ∧ Hid (bs[j]? = some e) ∧ Hid (e.Ok w) ∧ w.cell? ⟨b, off + j * 3, none⟩ = some (.int .i64 e.lo) ∧ w.cell? ⟨b, off + j * 3 + 1, none⟩ = some (.int .i64 e.hi) ∧ w.cell? ⟨b, off + j * 3 + 2, none⟩ = some (.slice e.A e.n e.c) := by
  obtain ⟨b, off, rfl, hb, hc⟩ := h.row.lies (by omega)
  have hl : j < bs.length := by have := h.len; omega
  have he : bs[j]? = some bs[j] := List.getElem?_eq_getElem hl
  refine ⟨b, off, bs[j], rfl, hb, he, h.each _ (List.getElem_mem hl), ?_, ?_, ?_⟩
  · exact hc (j * 3) _ (flat_get HE.cells 3 HE.cells_len bs j 0 _ he (by omega))
  · exact hc (j * 3 + 1) _ (flat_get HE.cells 3 HE.cells_len bs j 1 _ he (by omega))
  · exact hc (j * 3 + 2) _ (flat_get HE.cells 3 HE.cells_len bs j 2 _ he (by omega))
theorem OwnH.sl (h : OwnH w lo A n c bs) : SlH w A n bs := ⟨h.len, Row.of_own h.row, h.dat.ok⟩
theorem OwnH.below (h : OwnH w lo A n c bs) (hb : Below w.heap.size w w') : OwnH w' lo A n c bs := ⟨own_below h.row hb, h.len, h.dat.below hb⟩
theorem OwnH.mono {lo' : Nat} (h : OwnH w lo A n c bs) (hl : lo' ≤ lo) : OwnH w lo' A n c bs := ⟨own_monoG h.row hl, h.len, h.dat.mono hl⟩
/-- Where the blocks that are written were made elsewhere in time. -/
theorem OwnH.kept {row : Option Nat} (h : OwnH w lo A n c bs) (hg : w.grownBy w' row) (hne : ∀ k, row = some k → ¬ (lo ≤ k ∧ k < w.heap.size)) : OwnH w' lo A n c bs := by
  have hx : ∀ {e size m : Nat} {v : Value} {xs : List Value}, w.ownsRow lo e size v m xs → v.ownBlock = none ∨ v.ownBlock ≠ row := fun ho => by
    rename_i v _
    cases hv : v.ownBlock with
    | none => exact .inl rfl
    | some k => exact .inr (fun e => hne k e.symm (ho.lt k hv))
  exact ⟨h.row.kept hg (hx h.row), h.len, h.dat.kept hg (fun d hd => hx (h.dat.own d hd))⟩
end
theorem OwnHL.grow {w w' : World} {lo lo' e size n : Nat} {l : List HE} {v : Value} {xs : List Value} (h : OwnHL w lo l) (hv : w.ownsRow lo' e size v n xs) (hne : e ≠ 74) (hg : w.grownBy w' v.ownBlock) : OwnHL w' lo l := by
  rcases hv.2 with ⟨rfl, _⟩ | ⟨g, cap, cur, rfl, _, hcell, _⟩
  · exact h.kept hg (fun d _ => by cases d.v.ownBlock <;> simp [Value.ownBlock])
  · exact h.kept hg (h.far hcell hne)
theorem Tryd.infoShard : (Tryd.prog.info? 38).map (fun i => (i.zero, i.size, i.bytes)) = some (some (.agg #[.int .i64 0, .int .i64 0, .slice none 0 0]), 3, 40) := by kernel_rfl
/-- New shards with these data. -/
def MadeHs (w : World) (ls : List (Int × Int × List KE)) (e : Ending) (w' : World) : Prop :=
  ∃ A n c bs, e = .returned (.slice A n c) ∧ OwnH w' w.heap.size A n c bs ∧ bs.map HE.sd = ls ∧ Below w.heap.size w w'
end Go.Proofs.YtmbabbapcjphgaaDoor
namespace Go.Proofs.YtmbabbapcjphgaaDoor
open Go.RowKit

def Marked5 (w : World) (lo kk : Nat) (A : Option Addr) (n c k : Nat) (es : List KE) (e : Ending) (w' : World) : Prop :=
  e = .returned (.int .i64 (kk : Int)) ∧ w'.ownsRow lo 74 5 (.slice A n c) n ((mark5 k es).flatMap KE.cells) ∧ w.grownBy w' (Value.slice A n c).ownBlock

end Go.Proofs.YtmbabbapcjphgaaDoor
namespace Go.Proofs.YtmbabbapcjphgaaDoor
open Go.RowKit

/-! ### marks -/
def markHe (q : Nat) (e : HE) : HE := ⟨(q : Int), (q : Int) + 1, e.A, e.n, e.c, mark5 (q + 2) e.es⟩
def markH : Nat → List HE → List HE
  | _, [] => []
  | k, e :: r => markHe k e :: markH (k + 2 + 5 * e.n) r
def endH : Nat → List HE → Nat
  | k, [] => k
  | k, e :: r => endH (k + 2 + 5 * e.n) r
theorem markH_append : ∀ (xs ys : List HE) (k : Nat), markH k (xs ++ ys) = markH k xs ++ markH (endH k xs) ys
  | [], _, _ => rfl
  | x :: r, ys, k => by simp [markH, endH, markH_append r ys]
theorem endH_append : ∀ (xs ys : List HE) (k : Nat), endH k (xs ++ ys) = endH (endH k xs) ys
  | [], _, _ => rfl
  | x :: r, ys, k => by simp [endH, endH_append r ys]
theorem endH_le : ∀ (xs : List HE) (k : Nat), k ≤ endH k xs
  | [], _ => Nat.le_refl _
  | x :: r, k => by
    have := endH_le r (k + 2 + 5 * x.n)
    simp only [endH]
    omega
theorem markH_len : ∀ (xs : List HE) (k : Nat), (markH k xs).length = xs.length
  | [], _ => rfl
  | x :: r, k => by simp [markH, markH_len r]
def sumH (bs : List HE) : Nat := (bs.map HE.n).sum
theorem sumH_append (xs ys : List HE) : sumH (xs ++ ys) = sumH xs + sumH ys := by simp [sumH]
theorem sumH_cons (x : HE) (ys : List HE) : sumH (x :: ys) = x.n + sumH ys := by simp [sumH]
theorem endH_sum : ∀ (xs : List HE) (k : Nat), endH k xs = k + 2 * xs.length + 5 * sumH xs
  | [], k => by simp [endH, sumH]
  | x :: r, k => by
    rw [endH, endH_sum r, sumH_cons, List.length_cons]
    omega
def blkH (A : Option Addr) (n c : Nat) (bs : List HE) (b : Nat) : Prop := (Value.slice A n c).ownBlock = some b ∨ ∃ e ∈ bs, e.v.ownBlock = some b
def MarkedH (w : World) (lo kk k : Nat) (A : Option Addr) (n c : Nat) (bs : List HE) (e : Ending) (w' : World) : Prop :=
  e = .returned (.int .i64 (kk : Int)) ∧ OwnH w' lo A n c (markH k bs) ∧ OnlyB (blkH A n c bs) w w'
/-- The two numbers of a shard stored in its row. -/
theorem he_lay {w : World} {lo ty g c n j : Nat} {made rest : List HE} {x : HE} (q : Nat) (h : w.ownsRow lo ty 3 (.slice (some ⟨g, 0, none⟩) n c) n ((made ++ x :: rest).flatMap HE.cells)) (hm : made.length = j) :
    ((w.setCell ⟨g, j * 3, none⟩ (.int .i64 (q : Int))).setCell ⟨g, j * 3 + 1, none⟩ (.int .i64 ((q : Int) + 1))).ownsRow lo ty 3 (.slice (some ⟨g, 0, none⟩) n c) n ((made ++ markHe q x :: rest).flatMap HE.cells) ∧
      w.grownBy ((w.setCell ⟨g, j * 3, none⟩ (.int .i64 (q : Int))).setCell ⟨g, j * 3 + 1, none⟩ (.int .i64 ((q : Int) + 1))) (some g) := by
  have h1 := h.stored (j * 3) (.int .i64 (q : Int))
  have h2 := h1.1.stored (j * 3 + 1) (.int .i64 ((q : Int) + 1))
  have e1 := flat_set HE.cells 3 HE.cells_len (made ++ x :: rest) j 0 x ⟨(q : Int), x.hi, x.A, x.n, x.c, x.es⟩ (.int .i64 (q : Int)) (g_get _ _ _ _ hm) (by omega) rfl
  rw [Nat.add_zero, g_set _ _ _ _ _ hm] at e1
  have e2 := flat_set HE.cells 3 HE.cells_len (made ++ ⟨(q : Int), x.hi, x.A, x.n, x.c, x.es⟩ :: rest) j 1 ⟨(q : Int), x.hi, x.A, x.n, x.c, x.es⟩ (markHe q x) (.int .i64 ((q : Int) + 1)) (g_get _ _ _ _ hm) (by omega) rfl
  rw [g_set _ _ _ _ _ hm] at e2
  rw [e1, e2] at h2
  exact ⟨h2.1, h1.2.trans h2.2⟩

end Go.Proofs.YtmbabbapcjphgaaDoor
namespace Go.Proofs.YtmbabbapcjphgaaDoor
open Go.RowKit

def sdL (bs : List HE) : List SD := bs.map HE.sd
theorem sdL_len (bs : List HE) : (sdL bs).length = bs.length := by simp [sdL]
theorem sdL_drop {bs : List HE} {k : Nat} {e : HE} (h : bs[k]? = some e) : (sdL bs).drop k = e.sd :: (sdL bs).drop (k + 1) := by
  unfold sdL
  exact g_drop _ k _ (by rw [List.getElem?_map, h]; rfl)
theorem sdL_take {bs : List HE} {k : Nat} {e : HE} (h : bs[k]? = some e) : (sdL bs).take (k + 1) = (sdL bs).take k ++ [e.sd] := by
  unfold sdL
  exact g_take _ k _ (by rw [List.getElem?_map, h]; rfl)
theorem chain_step {N a : Int} {bs : List HE} {k : Nat} {e : HE} (h : bs[k]? = some e) : chainB N a ((sdL bs).drop k) = (shardB e.lo e.hi e.es && decide (e.lo = a) && chainB N e.hi ((sdL bs).drop (k + 1))) := by
  rw [sdL_drop h, chainB]
  rfl
theorem flat_step {bs : List HE} {k : Nat} {e : HE} (h : bs[k]? = some e) : flatK ((sdL bs).take (k + 1)) = flatK ((sdL bs).take k) ++ e.es := by
  rw [sdL_take h, flatK_append]
  simp [flatK, HE.sd]
theorem flat_mid {bs : List HE} {k j : Nat} {e : HE} {x : KE} (h : bs[k]? = some e) (hx : e.es[j]? = some x) : ∃ G, flatK (sdL bs) = (flatK ((sdL bs).take k) ++ e.es.take j) ++ x :: G := by
  refine ⟨e.es.drop (j + 1) ++ flatK ((sdL bs).drop (k + 1)), ?_⟩
  have h1 : sdL bs = (sdL bs).take k ++ (e.sd :: (sdL bs).drop (k + 1)) := by rw [← sdL_drop h, List.take_append_drop]
  have h2 : e.es = e.es.take j ++ (x :: e.es.drop (j + 1)) := by rw [← g_drop e.es j x hx, List.take_append_drop]
  calc flatK (sdL bs) = flatK ((sdL bs).take k) ++ (e.es ++ flatK ((sdL bs).drop (k + 1))) := by
        conv => lhs; rw [h1]
        rw [flatK_append, flatK_cons]
        rfl
    _ = flatK ((sdL bs).take k) ++ ((e.es.take j ++ (x :: e.es.drop (j + 1))) ++ flatK ((sdL bs).drop (k + 1))) := by rw [← h2]
    _ = _ := by simp
theorem flat_all (bs : List HE) {k : Nat} (h : bs.length ≤ k) : flatK ((sdL bs).take k) = flatK (sdL bs) := by
  rw [List.take_of_length_le (by rw [sdL_len]; exact h)]
end Go.Proofs.YtmbabbapcjphgaaDoor
namespace Go.Proofs.YtmbabbapcjphgaaDoor
open Go.RowKit

section
variable {w w' w0 : World} {n c lo lo0 : Nat} {A : Option Addr} {bs : List HE}
theorem OwnH.blocks (h : OwnH w0 lo0 A n c bs) : (∀ k, (Value.slice A n c).ownBlock = some k → lo0 ≤ k ∧ k < w0.heap.size) ∧ ∀ d ∈ bs, ∀ k, d.v.ownBlock = some k → lo0 ≤ k ∧ k < w0.heap.size :=
  ⟨h.row.lt, fun d hd => (h.dat.own d hd).lt⟩
theorem OwnH.other {row : Option Nat} (h : OwnH w lo A n c bs) (h0 : OwnH w0 lo0 A n c bs) (hg : w.grownBy w' row) (hne : ∀ k, row = some k → ¬ (lo0 ≤ k ∧ k < w0.heap.size)) : OwnH w' lo A n c bs :=
  ⟨h.row.kept hg (ne_of_lt h0.blocks.1 hne), h.len, h.dat.kept hg (fun d hd => ne_of_lt (h0.blocks.2 d hd) hne)⟩
theorem OwnH.only {S : Nat → Prop} (h : OwnH w lo A n c bs) (h0 : OwnH w0 lo0 A n c bs) (hg : OnlyB S w w') (hne : ∀ k, S k → ¬ (lo0 ≤ k ∧ k < w0.heap.size)) : OwnH w' lo A n c bs :=
  ⟨hg.own h.row (fun k hk hs => hne k hs (h0.blocks.1 k hk)), h.len, fun d hd => hg.own (h.dat.own d hd) (fun k hk hs => hne k hs (h0.blocks.2 d hd k hk)), h.dat.len, h.dat.apart⟩
theorem OwnH.blk (h : OwnH w lo A n c bs) {k : Nat} (hk : blkH A n c bs k) : lo ≤ k ∧ k < w.heap.size := by
  rcases hk with e | ⟨d, hd, e⟩
  · exact h.row.lt k e
  · exact (h.dat.own d hd).lt k e
theorem sum_flat {ls : List SD} (hx : bs.map HE.sd = ls) (hl : ∀ d ∈ bs, d.es.length = d.n) : sumH bs = (flatK ls).length := by
  subst hx
  unfold sumH flatK
  rw [List.length_flatMap, List.map_map]
  congr 1
  exact List.map_congr_left (fun d hd => (hl d hd).symm)
/-- One row is written on, in its own block or in a new one. -/
theorem OwnHL.app {l m : List HE} {x d' : HE} (h : OwnHL w lo (l ++ x :: m)) (hg : w.grownBy w' x.v.ownBlock) (ho : w'.ownsRow lo 74 5 d'.v d'.n (d'.es.flatMap KE.cells)) (hs : d'.es.length = d'.n)
    (hb : d'.v.ownBlock = x.v.ownBlock ∨ ∃ s, d'.v.ownBlock = some s ∧ w.heap.size ≤ s) : OwnHL w' lo (l ++ d' :: m) := by
  obtain ⟨a1, a2, a3⟩ := List.pairwise_append.1 h.apart
  obtain ⟨b1, b2⟩ := List.pairwise_cons.1 a2
  have hsym : ∀ {a b : HE}, ApartH a b → ApartH b a := fun {a b} hh => by
    unfold ApartH at *
    rcases hh with hh | hh
    · rw [hh]
      cases b.v.ownBlock <;> simp
    · exact .inr (fun e => hh e.symm)
  have hap : ∀ a ∈ l ++ m, ApartH a x → ApartH a d' := fun a ha hh => by
    unfold ApartH at *
    rcases hb with hb | ⟨s, hb, hs2⟩
    · rw [hb]; exact hh
    · cases hv : a.v.ownBlock with
      | none => exact .inl rfl
      | some i =>
        refine .inr (fun e => ?_)
        rw [hb] at e
        injection e with e
        have hin : a ∈ l ++ x :: m := by rcases List.mem_append.1 ha with ha | ha; exact List.mem_append_left _ ha; exact List.mem_append_right _ (by simp [ha])
        have := (h.lt hin i hv).2
        omega
  refine h.turn0 (fun e he => ?_) ho hs (fun a ha => hap a (List.mem_append_left _ ha) (a3 a ha x (by simp))) (fun b hb2 => hsym (hap b (List.mem_append_right _ hb2) (hsym (b1 b hb2))))
  rcases List.mem_append.1 he with he | he
  · exact (h.own e (List.mem_append_left _ he)).kept hg (a3 e he x (by simp))
  · exact (h.own e (List.mem_append_right _ (by simp [he]))).kept hg (hsym (b1 e he))
structure HSm (M n : Nat) (bs : List HE) (ls : List SD) : Prop where
  c : n ≤ M
  e : ∀ d ∈ bs, d.n ≤ M
  s : endH 1 bs ≤ 1 + 5 * M
  q : endH 1 bs = 1 + 2 * ls.length + 5 * (flatK ls).length
  k : n = ls.length
  l : ∀ d ∈ bs, d.es.length = d.n
theorem HSm.of {M : Nat} {ls : List SD} (hn : bs.length = n) (hl : ∀ d ∈ bs, d.es.length = d.n) (hx : bs.map HE.sd = ls) (h1 : ls.length + (flatK ls).length ≤ M) : HSm M n bs ls := by
  have e1 := sum_flat hx hl
  have e2 : n = ls.length := by rw [← hn, ← hx, List.length_map]
  refine ⟨by omega, fun d hd => ?_, by rw [endH_sum]; omega, by rw [endH_sum, e1]; omega, e2, hl⟩
  have := mem_sum (List.mem_map_of_mem (f := HE.n) hd)
  unfold sumH at e1
  omega
theorem OwnH.small {M : Nat} {ls : List SD} (h : OwnH w lo A n c bs) (hx : bs.map HE.sd = ls) (h1 : ls.length + (flatK ls).length ≤ M) : HSm M n bs ls := HSm.of h.len h.dat.len hx h1
end
end Go.Proofs.YtmbabbapcjphgaaDoor
namespace Go.Proofs.YtmbabbapcjphgaaDoor
open Go.RowKit Go.Shelf
attribute [local go_sem] Oper.semAt_some

def emptyHs (ps : List (Int × Int)) : List HE := ps.map fun x => ⟨x.1, x.2, none, 0, 0, []⟩
theorem emptyHs_len (ps : List (Int × Int)) : (emptyHs ps).length = ps.length := by simp [emptyHs]
theorem emptyHs_own (w : World) (lo : Nat) (ps : List (Int × Int)) : OwnHL w lo (emptyHs ps) := by
  have h : ∀ d ∈ emptyHs ps, ∃ x : Int × Int, d = ⟨x.1, x.2, none, 0, 0, []⟩ := fun d hd => by
    obtain ⟨x, _, rfl⟩ := List.mem_map.1 hd
    exact ⟨x, rfl⟩
  refine ⟨fun d hd => ?_, fun d hd => ?_, ?_⟩
  · obtain ⟨x, rfl⟩ := h d hd
    exact World.ownsRow_nil _ _ _ _
  · obtain ⟨x, rfl⟩ := h d hd
    rfl
  · refine List.pairwise_iff_forall_sublist.2 fun {a b} hs => ?_
    obtain ⟨x, rfl⟩ := h a (hs.subset (by simp))
    exact .inl rfl
theorem emptyHs_sd (ps : List (Int × Int)) : (emptyHs ps).map HE.sd = ps.map (fun x => (x.1, x.2, [])) := by
  unfold emptyHs
  rw [List.map_map]
  rfl
theorem he_cells_new (w : World) (lo hi : Int) (t : TypeId) : ∀ j u, (HE.cells ⟨lo, hi, none, 0, 0, []⟩)[j]? = some u → (w.alloc (.cells #[.int .i64 lo, .int .i64 hi, .slice none 0 0] t)).cell? ((⟨w.heap.size, 0, none⟩ : Addr).add j) = some u := fun j u hj => by
  match j, hj with
  | 0, hj => simp [HE.cells] at hj; subst hj; simp [Addr.add]
  | 1, hj => simp [HE.cells] at hj; subst hj; simp [Addr.add]
  | 2, hj => simp [HE.cells] at hj; subst hj; simp [Addr.add]
/-- New shards without edges. -/
def MadeEm (w : World) (ps : List (Int × Int)) (e : Ending) (w' : World) : Prop :=
  ∃ A c, e = .returned (.slice A ps.length c) ∧ w'.ownsRow w.heap.size 38 3 (.slice A ps.length c) ps.length ((emptyHs ps).flatMap HE.cells) ∧ Below w.heap.size w w'
def EInv (w : World) (pre : List (Int × Int)) (W : World) : Prop :=
  (∃ A' c', Boxed W w.heap.size 30 (.slice A' pre.length c') ∧ W.ownsRow (w.heap.size + 2) 38 3 (.slice A' pre.length c') pre.length ((emptyHs pre).flatMap HE.cells) ∧ w.heap.size + 2 ≤ W.heap.size) ∧ Below w.heap.size w W

set_option maxRecDepth 100000 in
set_option maxHeartbeats 4000000 in
theorem implEmpty_in (A : Option Addr) (n c : Nat) (es : List Int) (w : World) (hI : SlI w A n es) (hn : n ≤ 1048576) :
    CallsIn Fence.wide 3 Tryd.prog 30 #[.slice A n c] w (MadeEm w (pairsE 0 es)) := by
  obtain ⟨i0, hi, hz0, hz1, hz2⟩ := info_parts Tryd.infoShard
  have HL := Lib.hid hI.len
  have HI := Lib.hid hI
  clear hI
  refine callsIn_of_wp_marks Tryd.func30 rfl trivial ?_ rfl
  simp only [Tryd.ntmps30, List.size_toArray, List.length_cons, List.length_nil, Nat.reduceAdd, Nat.reduceSub, Array.replicate_succ, Array.replicate_zero, List.push_toArray, List.append_toArray, List.nil_append, List.cons_append]
  gi_wp2
  refine ⟨trivial, (spans_in Fence.wide 2 trivial rfl _ _ _ _).mono ?_⟩
  rintro e w' ⟨rfl, rfl⟩
  gi_wp2
  have bO := (Boxed.new w 30 (.slice none 0 0)).alloc (.cells #[.slice A n c] 27)
  have bN := Boxed.new (w.alloc (.cells #[.slice none 0 0] 30)) 27 (.slice A n c)
  rw [World.size_alloc] at bN
  have hB0 : Below w.heap.size w ((w.alloc (.cells #[.slice none 0 0] 30)).alloc (.cells #[.slice A n c] 27)) := below_a2 _ _ _
  have hsz : ((w.alloc (.cells #[.slice none 0 0] 30)).alloc (.cells #[.slice A n c] 27)).heap.size = w.heap.size + 2 := by simp
  generalize ((w.alloc (.cells #[.slice none 0 0] 30)).alloc (.cells #[.slice A n c] 27)) = w0 at bO bN hB0 hsz ⊢
  refine wpIn_rangeFunc_ownG rfl (by omega) (gf := 71) (lb := #[.pointer (some ⟨w.heap.size + 1, 0, none⟩)]) rfl trivial (enters_of Tryd.func71 (by kernel_rfl) rfl)
    (spans_stops id (pairsE 0 es) Fence.wide 2 trivial rfl (by omega) (w.heap.size + 1) A n c es (List.map_id _) w HI.out hn _ hB0 (by omega) bN.cell) belowK_t (belowK_b (by omega)) (Below.refl _ _) (fun _ => rfl)
    (EInv w) (fun _ _ _ => False)
    (OwnFrom.and (Own.from (fun s A B row hs hg hr => by obtain ⟨A', c', h1, h2, h3⟩ := hs; exact ⟨A', c', box_own h1 hg hr, h2.kept hg (own_ne h2 hr), Nat.le_trans h3 hg.size⟩) _) (ownFrom_below (Nat.le_refl _) (by omega)))
    (fun _ _ _ _ _ hs _ _ => hs)
    ⟨⟨none, 0, bO, World.ownsRow_nil _ _ _ _, by omega⟩, hB0⟩
    (fun x => { tmps := #[.slice A n c, undef, .slice none 0 0, .pointer (some ⟨w.heap.size, 0, none⟩), .int .i64 x.1, .int .i64 x.2, .slice A n c, .func (.func 71) #[] #[.pointer (some ⟨w.heap.size + 1, 0, none⟩)], .int .i64 x.1, .int .i64 x.2, undef, undef, undef, undef, undef, undef, undef], defers := [] }) ?assign ?body ?done ?stop
  case assign =>
    intro l x W K hK
    gi_wp2
    exact hK
  case body =>
    rintro l pre ⟨lo, hi2⟩ W ⟨⟨A', c', hv, hrow, hsW⟩, hB⟩ hlt
    have hc := hv.cell
    gi_wp2_with (gi_at_builtin; refine wpListIn_append_own _ rfl (.tmp 10) (.tmp 14) 30 rfl (w.heap.size + 2) 38 i0 _ 3 40 Tryd.underlying30 hi hz0 hz1 hz2 rfl (by omega) _ _ _ rfl (hrow.alloc _) ⟨W.heap.size, 0, none⟩ 1 1 (HE.cells ⟨lo, hi2, none, 0, 0, []⟩) rfl rfl (he_cells_new _ _ _ _) (HE.cells_one _) (by simp only [maxLen]; omega) (by omega) (by simp; omega) ?_; intro v3 w3 hown3 hg3 hat3; obtain ⟨P3, cc3, rfl⟩ := rec_form hown3; obtain ⟨hv3, hv4, hr4, hk4, hb4⟩ := hv.appended (by decide) (own_monoG hrow (by omega)) (by omega) (Nat.le_refl _) (own_monoG hown3 (by omega : w.heap.size ≤ w.heap.size + 2)) hg3; have hc4 := hv3.cell; have hf4 := hv3.frozen)
    have hpl : (pre ++ [(lo, hi2)]).length = pre.length + 1 := by simp
    have hs3 := hg3.size
    refine ⟨KeepsOthers.from hk4 _, hb4, ⟨P3, cc3, ?_, ?_, ?_⟩, hB.trans hb4⟩
    · rw [hpl]; exact hv4
    · rw [hpl]
      unfold emptyHs
      rw [List.map_append, List.flatMap_append]
      simpa [emptyHs] using own_lowG hown3 (p := ⟨w.heap.size, 0, none⟩) (by show w.heap.size < w.heap.size + 2; omega) _
    · simp at hs3 ⊢; omega
  case done =>
    rintro D ys W hD rfl ⟨⟨A', c', hv, hrow, hsW⟩, hB⟩ hK
    have hc := hv.cell
    gi_wp2
    refine ⟨by simp, .inl ⟨_, _, rfl, run_takeDeferred hK, ?_⟩⟩
    exact ⟨_, results_tmp rfl _ _ _, A', c', rfl, own_monoG (hrow.kept (grownBy_putObj' W D (.deferred none)) (own_ne hrow (fun r e => by cases e; exact ⟨_, hK, rfl⟩))) (by omega), hB.trans (belowK_b (w := w) (Nat.le_refl _) W D _ _ (by omega) hK rfl rfl)⟩
  case stop =>
    rintro D c pre W _ _ h _
    exact h.elim
theorem implEmpty (A : Option Addr) (n c : Nat) (es : List Int) (w : World) (hI : SlI w A n es) (hn : n ≤ 1048576) :
    Calls Tryd.prog 30 #[.slice A n c] w (MadeEm w (pairsE 0 es)) :=
  callsIn_wide.1 (implEmpty_in A n c es w hI hn)
end Go.Proofs.YtmbabbapcjphgaaDoor
namespace Go.Proofs.YtmbabbapcjphgaaDoor
open Go.RowKit

theorem he_built (w : World) : (w.alloc (.cells #[] 38)).ownsRow w.heap.size 38 3 (.slice (some ⟨w.heap.size, 0, none⟩) 0 0) 0 [] :=
  World.ownsRow_lit w #[] 0 (Nat.le_refl _) (by unfold maxLen; omega) rfl
theorem five_reads (w : World) (e : KE) (t : TypeId) (g : Nat) (hg : g = w.heap.size) : Reads (w.alloc (.cells #[.int .i64 e.f, .int .i64 e.t, .int .i64 e.w, .int .i64 e.i, .int .i64 e.v] t)) (g + 1) 5 (some ⟨g, 0, none⟩) 1 (KE.cells e) := by
  subst hg
  refine ⟨rfl, fun _ => ⟨_, rfl, by simp, fun j x hj => ?_⟩⟩
  match j, hj with
  | 0, hj => simp [KE.cells] at hj; subst hj; simp [Addr.add]
  | 1, hj => simp [KE.cells] at hj; subst hj; simp [Addr.add]
  | 2, hj => simp [KE.cells] at hj; subst hj; simp [Addr.add]
  | 3, hj => simp [KE.cells] at hj; subst hj; simp [Addr.add]
  | 4, hj => simp [KE.cells] at hj; subst hj; simp [Addr.add]
theorem he_reads (w : World) (e : HE) (t : TypeId) (g : Nat) (hg : g = w.heap.size) : Reads (w.alloc (.cells #[.int .i64 e.lo, .int .i64 e.hi, .slice e.A e.n e.c] t)) (g + 1) 3 (some ⟨g, 0, none⟩) 1 (HE.cells e) := by
  subst hg
  refine ⟨rfl, fun _ => ⟨_, rfl, by simp, fun j x hj => ?_⟩⟩
  match j, hj with
  | 0, hj => simp [HE.cells] at hj; subst hj; simp [Addr.add]
  | 1, hj => simp [HE.cells] at hj; subst hj; simp [Addr.add]
  | 2, hj => simp [HE.cells] at hj; subst hj; simp [Addr.add]
/-- No shards. -/
theorem hs_none (w w' : World) (h : Below w.heap.size w w') : MadeHs w [] (.returned (.slice none 0 0)) w' := ⟨none, 0, 0, [], rfl, ⟨World.ownsRow_nil _ _ _ _, rfl, OwnHL.nil⟩, rfl, h⟩

end Go.Proofs.YtmbabbapcjphgaaDoor
namespace Go.Proofs.YtmbabbapcjphgaaDoor
open Go.RowKit

theorem place_any (a b c : Int) (w : World) :
    Calls Tryd.prog 29 #[.int .i64 a, .int .i64 b, .int .i64 c] w fun e w' => e = .returned (.agg #[.int .i64 a, .int .i64 b, .int .i64 c]) ∧ Below w.heap.size w w' := by
  go_enter Tryd.func29, Tryd.ntmps29
  go_wp2
  refine bodyPost_ret (v := .agg #[.int .i64 a, .int .i64 b, .int .i64 c]) (by simp [results, Tryd.results29, go_sem]) rfl ⟨rfl, ?_⟩
  repeat (first | exact below_a1 _ _ | exact below_a2 _ _ _ | exact below_a3 _ _ _ _ | refine Below.setCell ?_ (by simp <;> omega) _)
theorem implEdge5Ok (lo hi : Int) (e : KE) (w : World) :
    Calls Tryd.prog 39 #[.agg #[.int .i64 e.f, .int .i64 e.t, .int .i64 e.w, .int .i64 e.i, .int .i64 e.v], .int .i64 lo, .int .i64 hi] w (GTell w (kedgeB lo hi e)) := by
  have HB := Lib.hid (below_a1 w (.cells #[.int .i64 e.f, .int .i64 e.t, .int .i64 e.w, .int .i64 e.i, .int .i64 e.v] 74))
  cases hv : kedgeB lo hi e with
  | true =>
    obtain ⟨h1, h2, h3, h4, h5, h6, h7, h8, h9, h10⟩ := kedgeB_iff hv
    clear hv
    go_enter Tryd.func39, Tryd.ntmps39
    go_wp2_with (go_at_call 58; refine (implNum_yes _ _ h9 h10).mono ?_; rintro e w' ⟨rfl, rfl⟩)
    go_ret
    exact ⟨rfl, HB.out⟩
  | false =>
    have hp := kedgeB_parts hv
    clear hv
    rcases hp with h1 | ⟨h1, h2⟩ | ⟨h1, h2, h3⟩ | ⟨h1, h2, h3, h4⟩ | ⟨h1, h2, h3, h4, h5⟩ | ⟨h1, h2, h3, h4, h5, h6⟩ | ⟨h1, h2, h3, h4, h5, h6, h7⟩ | ⟨h1, h2, h3, h4, h5, h6, h7, h8⟩ | ⟨h1, h2, h3, h4, h5, h6, h7, h8, h9⟩
    case inr.inr.inr.inr.inr.inr.inr.inr =>
      have h10 : e.v < 0 ∨ 281474976710655 < e.v := by omega
      clear h9
      go_enter Tryd.func39, Tryd.ntmps39
      go_wp2_with (go_at_call 58; refine (implNum_no _ _ h10).mono ?_; rintro e w' ⟨rfl, rfl⟩)
      go_ret
      exact ⟨rfl, HB.out⟩
    all_goals
      go_enter Tryd.func39, Tryd.ntmps39
      go_wp2
      go_ret
      exact ⟨g_bool (by first | rfl | (simp <;> omega)), HB.out⟩
theorem after_less (p q : Int) (e : KE) : lessR ⟨0, p, q⟩ ⟨0, e.f, e.i⟩ = afterB p q e := by
  rw [Bool.eq_iff_iff, lessR_iff]
  unfold afterB
  rw [decide_eq_true_iff]
  show ((0 : Int) < 0 ∨ ((0 : Int) = 0 ∧ (p < e.f ∨ (p = e.f ∧ q < e.i)))) ↔ _
  constructor
  · rintro (h | ⟨_, h⟩)
    · omega
    · exact h
  · exact fun h => .inr ⟨rfl, h⟩

set_option maxRecDepth 10000 in
set_option maxHeartbeats 4000000 in
theorem implShardOk (lo hi : Int) (A : Option Addr) (n c : Nat) (es : List KE) (w : World) (hr : SlK w A n es) (hn : n ≤ 1048576) :
    Calls Tryd.prog 15 #[.agg #[.int .i64 lo, .int .i64 hi, .slice A n c]] w (GTell w (shardB lo hi es)) := by
  have hel := hr.len
  have HB0 := Lib.hid (below_a1 w (.cells #[.int .i64 lo, .int .i64 hi, .slice A n c] 38))
  by_cases h1 : 0 ≤ lo
  · by_cases h2 : lo < hi
    · by_cases h3 : hi ≤ 150
      · by_cases h4 : n ≤ 400
        · rw [shardB_yes h1 h2 h3 (by omega)]
          have CE := Lib.hid (fun e W => implEdge5Ok lo hi e W)
          have CP := Lib.hid (fun b c W => place_any 0 b c W)
          have CL := Lib.hid (fun p q (e : KE) W => after_less p q e ▸ implLess ⟨0, p, q⟩ ⟨0, e.f, e.i⟩ W)
          have HR := Lib.hid hr
          have HEL := Lib.hid hel
          clear hr hel
          go_enter Tryd.func15, Tryd.ntmps15
          go_wp2_with fail
          refine (CP.out (-1) 0 _).mono ?_
          rintro e wp ⟨rfl, hbp⟩
          have XP := Lib.hid ((HBox.new w lo hi A n c 38).below hbp)
          have HBP := Lib.hid (g_chain HB0.out hbp)
          have LB0 := Lib.hid (Blk.new wp #[.int .i64 0, .int .i64 (-1), .int .i64 0] 68)
          have X0 := Lib.hid (XP.out.alloc (.cells #[.int .i64 0, .int .i64 (-1), .int .i64 0] 68))
          have HB1 := Lib.hid (g_chain HBP.out (below_a1 wp (.cells #[.int .i64 0, .int .i64 (-1), .int .i64 0] 68)))
          have hlp : w.heap.size < wp.heap.size := XP.out.lt
          obtain ⟨l0, x0, x1, x2⟩ := XP.out
          clear hbp
          go_wp2
          clear l0 x0 x1 x2
          go_loopw [32] (fun i wr => ∃ (k : Nat) (p q : Int), k ≤ n ∧ i = .int .i64 k ∧ Hid (HBox wr w.heap.size lo hi A n c) ∧ Hid (Below w.heap.size w wr) ∧ Hid (Blk wr wp.heap.size #[.int .i64 0, .int .i64 p, .int .i64 q] 68) ∧ Hid (runK lo hi p q (es.drop k) = runK lo hi (-1) 0 es)) (fun i _ => n - (intOf i).toNat)
          case atStart => exact ⟨0, -1, 0, Nat.zero_le _, rfl, X0, HB1, LB0, Lib.hid rfl⟩
          case round =>
            clear X0 HB1 LB0 XP HBP
            obtain ⟨k, p, q, hk, rfl, hx, hbel, hlb, hrun⟩ := hrel
            by_cases hlt : k < n
            · obtain ⟨b, off, e, rfl, hbw, he, c0, c1, c2, c3, c4⟩ := HR.out.at_ hlt
              have c0 := (hbel.out.cell (p := ⟨b, off + k * 5, none⟩) hbw).trans c0
              have c1 := (hbel.out.cell (p := ⟨b, off + k * 5 + 1, none⟩) hbw).trans c1
              have c2 := (hbel.out.cell (p := ⟨b, off + k * 5 + 2, none⟩) hbw).trans c2
              have c3 := (hbel.out.cell (p := ⟨b, off + k * 5 + 3, none⟩) hbw).trans c3
              have c4 := (hbel.out.cell (p := ⟨b, off + k * 5 + 4, none⟩) hbw).trans c4
              obtain ⟨l0, x0, x1, x2⟩ := hx.out
              have hwle : w.heap.size ≤ wr.heap.size := hbel.out.size
              go_wp2_with fail
              refine (CP.out e.f e.i _).mono ?_
              rintro e1 w1 ⟨rfl, hb1⟩
              have HB1 := Lib.hid (g_chain (below_a1 wr (.cells #[.int .i64 e.f, .int .i64 e.t, .int .i64 e.w, .int .i64 e.i, .int .i64 e.v] 74)) hb1)
              have X1 := Lib.hid ((hx.out.below HB1.out).alloc (.cells #[.int .i64 0, .int .i64 e.f, .int .i64 e.i] 68))
              have L1 := Lib.hid ((hlb.out.below HB1.out).below (below_a1 w1 (.cells #[.int .i64 0, .int .i64 e.f, .int .i64 e.i] 68)))
              have R1 := Lib.hid (Blk.new w1 #[.int .i64 0, .int .i64 e.f, .int .i64 e.i] 68)
              have HB2 := Lib.hid (g_chain HB1.out (below_a1 w1 (.cells #[.int .i64 0, .int .i64 e.f, .int .i64 e.i] 68)))
              have hl1 : wr.heap.size < w1.heap.size := by have := hb1.size; simp at this; omega
              have hy := fun i (v : Value) (hi : #[Value.int .i64 e.f, .int .i64 e.t, .int .i64 e.w, .int .i64 e.i, .int .i64 e.v][i]? = some v) => ((Blk.new wr #[Value.int .i64 e.f, .int .i64 e.t, .int .i64 e.w, .int .i64 e.i, .int .i64 e.v] 74).below hb1).cell hi
              have y0 := hy 0 _ rfl
              have y1 := hy 1 _ rfl
              have y2 := hy 2 _ rfl
              have y3 := hy 3 _ rfl
              have y4 := hy 4 _ rfl
              obtain ⟨z0, z1, z2, z3⟩ := (hx.out.below HB1.out)
              have HQ := Lib.hid (runK_drop he.out hrun.out)
              clear hb1 c0 c1 c2 c3 c4 l0 x0 x1 x2 hx hrun hy hlb
              cases hv : kedgeB lo hi e with
              | false =>
                have HV : Hid (runK lo hi (-1) 0 es = false) := Lib.hid (by rw [← HQ.out, hv]; rfl)
                have CE1 := Lib.hid (fun W => hv ▸ CE.out e W)
                go_wp2_with fail
                refine (CE1.out _).mono ?_
                rintro e2 w2 ⟨rfl, hb2⟩
                go_wp2
                go_ret
                rw [HV.out]
                exact ⟨rfl, g_chain hbel.out (g_chain HB2.out hb2)⟩
              | true =>
                have CE1 := Lib.hid (fun W => hv ▸ CE.out e W)
                cases ha : afterB p q e with
                | true =>
                  have HN : Hid (runK lo hi e.f e.i (es.drop (k + 1)) = runK lo hi (-1) 0 es) := Lib.hid (by rw [← HQ.out, hv, ha]; rfl)
                  have CL1 := Lib.hid (fun W => ha ▸ CL.out p q e W)
                  clear hv ha HQ
                  go_wp2_with fail
                  refine (CE1.out _).mono ?_
                  rintro e2 w2 ⟨rfl, hb2⟩
                  have L2 := Lib.hid (L1.out.below hb2)
                  have R2 := Lib.hid (R1.out.below hb2)
                  have X2 := Lib.hid (X1.out.below hb2)
                  have HB3 := Lib.hid (g_chain HB2.out hb2)
                  have q0 := L2.out.cell (i := 0) rfl
                  have q1 := L2.out.cell (i := 1) rfl
                  have q2 := L2.out.cell (i := 2) rfl
                  have r0 := R2.out.cell (i := 0) rfl
                  have r1 := R2.out.cell (i := 1) rfl
                  have r2 := R2.out.cell (i := 2) rfl
                  clear hb2
                  go_wp2_with fail
                  refine (CL1.out _).mono ?_
                  rintro e3 w3 ⟨rfl, hb3⟩
                  have L3 := Lib.hid (L2.out.below hb3)
                  have R3 := Lib.hid (R2.out.below hb3)
                  have X3 := Lib.hid (X2.out.below hb3)
                  have HB4 := Lib.hid (g_chain HB3.out hb3)
                  have f0 := L3.out.frozen 0
                  have f1 := L3.out.frozen 1
                  have f2 := L3.out.frozen 2
                  have hlt3 := L3.out.lt
                  have hlw : w.heap.size < wp.heap.size := hlp
                  clear q0 q1 q2 r0 r1 r2 hb3
                  have q0 := L3.out.cell (i := 0) rfl
                  have q1 := L3.out.cell (i := 1) rfl
                  have q2 := L3.out.cell (i := 2) rfl
                  have r0 := R3.out.cell (i := 0) rfl
                  have r1 := R3.out.cell (i := 1) rfl
                  have r2 := R3.out.cell (i := 2) rfl
                  go_wp2
                  go_roundw
                  case rel => exact ⟨k + 1, e.f, e.i, by omega, by go_num, Lib.hid (X3.out.keep (by simp) (by rw [Below.heap_setCell _ _ _ _ (by show w.heap.size ≠ wp.heap.size; omega), Below.heap_setCell _ _ _ _ (by show w.heap.size ≠ wp.heap.size; omega), Below.heap_setCell _ _ _ _ (by show w.heap.size ≠ wp.heap.size; omega)])), Lib.hid ((((g_chain hbel.out HB4.out).setCell (p := ⟨wp.heap.size, 0, none⟩) (by show w.heap.size ≤ wp.heap.size; omega) _).setCell (p := ⟨wp.heap.size, 1, none⟩) (by show w.heap.size ≤ wp.heap.size; omega) _).setCell (p := ⟨wp.heap.size, 2, none⟩) (by show w.heap.size ≤ wp.heap.size; omega) _), Lib.hid (((L3.out.set 0 _).set 1 _).set 2 _), HN⟩
                  case measure => simp [intOf]; omega
                | false =>
                  have HV : Hid (runK lo hi (-1) 0 es = false) := Lib.hid (by rw [← HQ.out, hv, ha]; rfl)
                  have CL1 := Lib.hid (fun W => ha ▸ CL.out p q e W)
                  clear hv ha HQ
                  go_wp2_with fail
                  refine (CE1.out _).mono ?_
                  rintro e2 w2 ⟨rfl, hb2⟩
                  have L2 := Lib.hid (L1.out.below hb2)
                  have R2 := Lib.hid (R1.out.below hb2)
                  have X2 := Lib.hid (X1.out.below hb2)
                  have HB3 := Lib.hid (g_chain HB2.out hb2)
                  have q0 := L2.out.cell (i := 0) rfl
                  have q1 := L2.out.cell (i := 1) rfl
                  have q2 := L2.out.cell (i := 2) rfl
                  have r0 := R2.out.cell (i := 0) rfl
                  have r1 := R2.out.cell (i := 1) rfl
                  have r2 := R2.out.cell (i := 2) rfl
                  clear hb2
                  go_wp2_with fail
                  refine (CL1.out _).mono ?_
                  rintro e3 w3 ⟨rfl, hb3⟩
                  go_wp2
                  go_ret
                  rw [HV.out]
                  exact ⟨rfl, g_chain hbel.out (g_chain HB3.out hb3)⟩
            · obtain rfl : k = n := by omega
              have HV : Hid (runK lo hi (-1) 0 es = true) := Lib.hid (by
                have h := hrun.out
                rw [List.drop_eq_nil_of_le (by rw [HEL.out]; exact Nat.le_refl _), runK] at h
                exact h.symm)
              go_wp2
              go_ret
              rw [HV.out]
              exact ⟨rfl, hbel.out⟩
        · have HV : Hid (shardB lo hi es = false) := Lib.hid (by simp [shardB, hel, h4])
          clear hr hel
          go_enter Tryd.func15, Tryd.ntmps15
          go_wp2
          go_ret
          rw [HV.out]
          exact ⟨g_bool (by first | rfl | (simp <;> omega)), HB0.out⟩
      · have HV : Hid (shardB lo hi es = false) := Lib.hid (by simp [shardB, h3])
        clear hr hel
        go_enter Tryd.func15, Tryd.ntmps15
        go_wp2
        go_ret
        rw [HV.out]
        exact ⟨g_bool (by first | rfl | (simp <;> omega)), HB0.out⟩
    · have HV : Hid (shardB lo hi es = false) := Lib.hid (by simp [shardB, h2])
      clear hr hel
      go_enter Tryd.func15, Tryd.ntmps15
      go_wp2
      go_ret
      rw [HV.out]
      exact ⟨g_bool (by first | rfl | (simp <;> omega)), HB0.out⟩
  · have HV : Hid (shardB lo hi es = false) := Lib.hid (by simp [shardB, h1])
    clear hr hel
    go_enter Tryd.func15, Tryd.ntmps15
    go_wp2
    go_ret
    rw [HV.out]
    exact ⟨g_bool (by first | rfl | (simp <;> omega)), HB0.out⟩
end Go.Proofs.YtmbabbapcjphgaaDoor
