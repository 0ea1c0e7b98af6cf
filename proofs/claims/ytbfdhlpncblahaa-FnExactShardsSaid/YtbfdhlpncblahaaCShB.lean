/- Shard edges and shards: what new ones are (no condition). // Lists of shards in memory: that read, that are the call's own (plain lemmas over the model; no condition). // Shard edges: the contracts of the laws' helpers that leave marks and that look for them. Condition: at most 2^21 edges. // Marks in lists of shards: the contracts of the laws' helpers that write them and that look for them. Condition: at most 2^21 of each. // Lists of shards in memory and their data (plain lemmas; no condition). // Shards of the call's own behind writings elsewhere; how small they are (plain lemmas over the model; no condition). // A block of two writable cells, what grows while one block is written, a new record that reads (plain lemmas over the model; no condition). // Words for dealing out: new shards, new records that read (plain lemmas over the model; no condition). // Shard edges and shards: the contracts of the laws' helpers that measure and copy. Condition: at most 2^21 edges. // Shard edges and shards: the contracts of the laws' helpers that compare, that leave marks and that look for them. Condition: at most 2^21 edges. -/
import Derived.Test.YtbfdhlpncblahaaKE
import Derived.Test.YtbfdhlpncblahaaOnlyB
import Derived.Test.YtbfdhlpncblahaaCShA
import Derived.Test.YtbfdhlpncblahaaGrN
namespace Go.Proofs.Ytbfdhlpncblahaa
open Go.RowKit

theorem Try.infoSEdge : (Try.prog.info? 78).map (fun i => (i.zero, i.size, i.bytes)) = some (some (.agg #[.int .i64 0, .int .i64 0, .int .i64 0, .int .i64 0, .int .i64 0]), 5, 40) := by kernel_rfl

/-- New shard edges. -/
def MadeKs (w : World) (es : List KE) (e : Ending) (w' : World) : Prop :=
  ∃ A c, e = .returned (.slice A es.length c) ∧ w'.ownsRow w.heap.size 78 5 (.slice A es.length c) es.length (es.flatMap KE.cells) ∧ Below w.heap.size w w'
/-- A new shard. -/
def MadeSh (w : World) (lo hi : Int) (es : List KE) (e : Ending) (w' : World) : Prop :=
  ∃ A c, e = .returned (.agg #[.int .i64 lo, .int .i64 hi, .slice A es.length c]) ∧ w'.ownsRow w.heap.size 78 5 (.slice A es.length c) es.length (es.flatMap KE.cells) ∧ Below w.heap.size w w'
/-- A block that holds a shard. -/
structure HBox (w : World) (b : Nat) (lo hi : Int) (A : Option Addr) (n c : Nat) : Prop where
  lt : b < w.heap.size
  c0 : w.cell? ⟨b, 0, none⟩ = some (.int .i64 lo)
  c1 : w.cell? ⟨b, 1, none⟩ = some (.int .i64 hi)
  c2 : w.cell? ⟨b, 2, none⟩ = some (.slice A n c)
section
variable {w w' : World} {b n c : Nat} {lo hi : Int} {A : Option Addr}
theorem HBox.keep (h : HBox w b lo hi A n c) (hs : w.heap.size ≤ w'.heap.size) (hk : w'.heap[b]? = w.heap[b]?) : HBox w' b lo hi A n c :=
  ⟨Nat.lt_of_lt_of_le h.lt hs, (World.cell?_of_block (a := ⟨b, 0, none⟩) hk).trans h.c0, (World.cell?_of_block (a := ⟨b, 1, none⟩) hk).trans h.c1, (World.cell?_of_block (a := ⟨b, 2, none⟩) hk).trans h.c2⟩
theorem HBox.below (h : HBox w b lo hi A n c) (hb : Below w.heap.size w w') : HBox w' b lo hi A n c := h.keep hb.size (hb.block b h.lt)
theorem HBox.new (w : World) (lo hi : Int) (A : Option Addr) (n c : Nat) (t : TypeId) : HBox (w.alloc (.cells #[.int .i64 lo, .int .i64 hi, .slice A n c] t)) w.heap.size lo hi A n c := ⟨by simp, by simp, by simp, by simp⟩
theorem HBox.alloc (h : HBox w b lo hi A n c) (o : Obj) : HBox (w.alloc o) b lo hi A n c := h.below (below_a1 w o)
theorem HBox.drew (h : HBox w b lo hi A n c) : HBox w.drew b lo hi A n c := ⟨h.lt, h.c0, h.c1, h.c2⟩
end
end Go.Proofs.Ytbfdhlpncblahaa
namespace Go.Proofs.Ytbfdhlpncblahaa
open Go.RowKit

/-- A shard. -/
structure HE where
  lo : Int
  hi : Int
  A : Option Addr
  n : Nat
  c : Nat
  es : List KE
def HE.v (e : HE) : Value := .slice e.A e.n e.c
def HE.w (e : HE) : Value := .agg #[.int .i64 e.lo, .int .i64 e.hi, .slice e.A e.n e.c]
def HE.cells (e : HE) : List Value := [.int .i64 e.lo, .int .i64 e.hi, .slice e.A e.n e.c]
/-- What it says, without where it lies. -/
def HE.sd (e : HE) : Int × Int × List KE := (e.lo, e.hi, e.es)
theorem HE.cells_len (e : HE) : e.cells.length = 3 := rfl
theorem HE.cells_one (e : HE) : ∀ u ∈ e.cells, u.oneCell' = true := by
  intro u hu
  simp only [HE.cells, List.mem_cons, List.not_mem_nil, or_false] at hu
  rcases hu with rfl | rfl | rfl <;> rfl
theorem he_one (hs : List HE) : ∀ u ∈ hs.flatMap HE.cells, u.oneCell' = true := fun u hu => by
  obtain ⟨e, _, he⟩ := List.mem_flatMap.1 hu
  exact e.cells_one u he
structure HE.Ok (w : World) (e : HE) : Prop where
  rd : SlK w e.A e.n e.es
  cap : e.n ≤ e.c
theorem HE.Ok.below {w w' : World} {e : HE} (h : e.Ok w) (hb : Below w.heap.size w w') : e.Ok w' := ⟨h.rd.below hb, h.cap⟩
/-- A slice of shards in memory. -/
structure SlH (w : World) (A : Option Addr) (n : Nat) (bs : List HE) : Prop where
  len : bs.length = n
  row : Row w 3 A n (bs.flatMap HE.cells)
  each : ∀ e ∈ bs, e.Ok w
def ApartH (a b : HE) : Prop := a.v.ownBlock = none ∨ a.v.ownBlock ≠ b.v.ownBlock
/-- Rows of shard edges of the call's own. -/
structure OwnHL (w : World) (lo : Nat) (l : List HE) : Prop where
  own : ∀ d ∈ l, w.ownsRow lo 78 5 d.v d.n (d.es.flatMap KE.cells)
  len : ∀ d ∈ l, d.es.length = d.n
  apart : l.Pairwise ApartH
section
variable {w w' : World} {lo : Nat} {l m : List HE}
theorem OwnHL.nil : OwnHL w lo [] := ⟨by simp, by simp, List.Pairwise.nil⟩
theorem OwnHL.kept {row : Option Nat} (h : OwnHL w lo l) (hg : w.grownBy w' row) (hne : ∀ d ∈ l, d.v.ownBlock = none ∨ d.v.ownBlock ≠ row) : OwnHL w' lo l :=
  ⟨fun d hd => (h.own d hd).kept hg (hne d hd), h.len, h.apart⟩
theorem OwnHL.below (h : OwnHL w lo l) (hb : Below w.heap.size w w') : OwnHL w' lo l :=
  ⟨fun d hd => own_below (h.own d hd) hb, h.len, h.apart⟩
theorem OwnHL.lt (h : OwnHL w lo l) {d : HE} (hd : d ∈ l) : ∀ k, d.v.ownBlock = some k → lo ≤ k ∧ k < w.heap.size := (h.own d hd).lt
theorem OwnHL.ok (h : OwnHL w lo l) : ∀ d ∈ l, d.Ok w := fun d hd => ⟨SlK.of_own (h.own d hd) (h.len d hd), bat_cap (h.own d hd)⟩
theorem OwnHL.far (h : OwnHL w lo l) {g : Nat} {cur : Array Value} {t : TypeId} {fr : Nat × Nat} (hg : w.heap[g]? = some (.cells cur t fr)) (ht : t ≠ 78) : ∀ d ∈ l, d.v.ownBlock = none ∨ d.v.ownBlock ≠ some g := fun d hd => by
  rcases (h.own d hd).2 with ⟨e, _⟩ | ⟨g', cap, cur', e, _, hg', _⟩
  · exact .inl (by rw [e]; rfl)
  · refine .inr (fun e2 => ?_)
    rw [e] at e2
    have e3 : g' = g := by simpa [Value.ownBlock] using e2
    subst e3
    rw [hg] at hg'
    injection hg' with hg'
    injection hg' with _ h2
    exact ht h2
theorem OwnHL.append (h : OwnHL w lo l) (k : OwnHL w lo m) (hx : ∀ a ∈ l, ∀ b ∈ m, ApartH a b) : OwnHL w lo (l ++ m) :=
  ⟨fun d hd => by rcases List.mem_append.1 hd with hd | hd; exact h.own d hd; exact k.own d hd,
   fun d hd => by rcases List.mem_append.1 hd with hd | hd; exact h.len d hd; exact k.len d hd,
   List.pairwise_append.2 ⟨h.apart, k.apart, hx⟩⟩
theorem apartH_of_time {B lo' : Nat} (h : OwnHL w lo l) (hB : w.heap.size ≤ B) (k : OwnHL w' lo' m) (hB' : B ≤ lo') : ∀ a ∈ l, ∀ b ∈ m, ApartH a b := fun a ha b hb => by
  cases e : a.v.ownBlock with
  | none => exact .inl e
  | some i =>
    refine .inr (fun e2 => ?_)
    rw [e] at e2
    have h1 := h.lt ha i e
    have h2 := k.lt hb i e2.symm
    omega
theorem OwnHL.one {d : HE} (h : w.ownsRow lo 78 5 d.v d.n (d.es.flatMap KE.cells)) (hs : d.es.length = d.n) : OwnHL w lo [d] :=
  ⟨fun e he => by simp at he; subst he; exact h, fun e he => by simp at he; subst he; exact hs, by simp⟩
theorem OwnHL.mono {lo' : Nat} (h : OwnHL w lo l) (hl : lo' ≤ lo) : OwnHL w lo' l := ⟨fun d hd => own_monoG (h.own d hd) hl, h.len, h.apart⟩
theorem OwnHL.setLow (h : OwnHL w lo l) {p : Addr} (hp : p.block < lo) (u : Value) : OwnHL (w.setCell p u) lo l := ⟨fun d hd => own_lowG (h.own d hd) hp u, h.len, h.apart⟩
theorem OwnHL.turn0 {d d' : HE} (h : OwnHL w lo (l ++ d :: m)) (hk : ∀ e ∈ l ++ m, w'.ownsRow lo 78 5 e.v e.n (e.es.flatMap KE.cells)) (ho : w'.ownsRow lo 78 5 d'.v d'.n (d'.es.flatMap KE.cells)) (hs : d'.es.length = d'.n)
    (hx : ∀ a ∈ l, ApartH a d') (hy : ∀ b ∈ m, ApartH d' b) : OwnHL w' lo (l ++ d' :: m) := by
  obtain ⟨a1, a2, a3⟩ := List.pairwise_append.1 h.apart
  obtain ⟨b1, b2⟩ := List.pairwise_cons.1 a2
  refine ⟨fun e he => ?_, fun e he => ?_, List.pairwise_append.2 ⟨a1, List.pairwise_cons.2 ⟨hy, b2⟩, fun e he f hf => ?_⟩⟩
  · rcases List.mem_append.1 he with he | he
    · exact hk e (List.mem_append_left _ he)
    · rcases List.mem_cons.1 he with rfl | he
      · exact ho
      · exact hk e (List.mem_append_right _ he)
  · rcases List.mem_append.1 he with he | he
    · exact h.len e (List.mem_append_left _ he)
    · rcases List.mem_cons.1 he with rfl | he
      · exact hs
      · exact h.len e (List.mem_append_right _ (by simp [he]))
  · rcases List.mem_cons.1 hf with rfl | hf
    · exact hx e he
    · exact a3 e he f (by simp [hf])
/-- One row is written, in its own block. -/
theorem OwnHL.turn {d d' : HE} (h : OwnHL w lo (l ++ d :: m)) (hg : w.grownBy w' d.v.ownBlock) (hb : d'.v.ownBlock = d.v.ownBlock) (ho : w'.ownsRow lo 78 5 d'.v d'.n (d'.es.flatMap KE.cells)) (hs : d'.es.length = d'.n) :
    OwnHL w' lo (l ++ d' :: m) := by
  obtain ⟨a1, a2, a3⟩ := List.pairwise_append.1 h.apart
  obtain ⟨b1, b2⟩ := List.pairwise_cons.1 a2
  refine h.turn0 (fun e he => ?_) ho hs (fun a ha => ?_) (fun b hb' => ?_)
  · rcases List.mem_append.1 he with he | he
    · exact (h.own e (List.mem_append_left _ he)).kept hg (a3 e he d (by simp))
    · refine (h.own e (List.mem_append_right _ (by simp [he]))).kept hg ?_
      rcases b1 e he with h1 | h1
      · rw [h1]
        cases e.v.ownBlock <;> simp
      · exact .inr (fun e2 => h1 e2.symm)
  · have := a3 a ha d (by simp)
    unfold ApartH at *
    rw [hb]
    exact this
  · have := b1 b hb'
    unfold ApartH at *
    rw [hb]
    exact this
end
/-- Shards of the call's own. -/
structure OwnH (w : World) (lo : Nat) (A : Option Addr) (n c : Nat) (bs : List HE) : Prop where
  row : w.ownsRow lo 29 3 (.slice A n c) n (bs.flatMap HE.cells)
  len : bs.length = n
  dat : OwnHL w lo bs
section
variable {w w' : World} {n c lo : Nat} {A : Option Addr} {bs : List HE}
theorem SlH.below (h : SlH w A n bs) (hb : Below w.heap.size w w') : SlH w' A n bs := ⟨h.len, h.row.keep hb.size hb.block, fun e he => (h.each e he).below hb⟩
theorem SlH.at_ {j : Nat} (h : SlH w A n bs) (hj : j < n) : ∃ (b off : Nat) (e : HE), A = some ⟨b, off, none⟩ ∧ b < w.heap.size ∧ Hid (bs[j]? = some e) ∧ Hid (e.Ok w) ∧ w.cell? ⟨b, off + j * 3, none⟩ = some (.int .i64 e.lo) ∧ w.cell? ⟨b, off + j * 3 + 1, none⟩ = some (.int .i64 e.hi) ∧ w.cell? ⟨b, off + j * 3 + 2, none⟩ = some (.slice e.A e.n e.c) := by
  obtain ⟨b, off, rfl, hb, hc⟩ := h.row.lies (by omega)
  have hl : j < bs.length := by have := h.len; omega
  have he : bs[j]? = some bs[j] := List.getElem?_eq_getElem hl
  refine ⟨b, off, bs[j], rfl, hb, he, h.each _ (List.getElem_mem hl), ?_, ?_, ?_⟩
  · exact hc (j * 3) _ (flat_get HE.cells 3 HE.cells_len bs j 0 _ he (by omega))
  · exact hc (j * 3 + 1) _ (flat_get HE.cells 3 HE.cells_len bs j 1 _ he (by omega))
  · exact hc (j * 3 + 2) _ (flat_get HE.cells 3 HE.cells_len bs j 2 _ he (by omega))
theorem OwnH.sl (h : OwnH w lo A n c bs) : SlH w A n bs := ⟨h.len, Row.of_own h.row, h.dat.ok⟩
theorem OwnH.below (h : OwnH w lo A n c bs) (hb : Below w.heap.size w w') : OwnH w' lo A n c bs := ⟨own_below h.row hb, h.len, h.dat.below hb⟩
theorem OwnH.mono {lo' : Nat} (h : OwnH w lo A n c bs) (hl : lo' ≤ lo) : OwnH w lo' A n c bs := ⟨own_monoG h.row hl, h.len, h.dat.mono hl⟩
/-- Where the blocks that are written were made elsewhere in time. -/
theorem OwnH.kept {row : Option Nat} (h : OwnH w lo A n c bs) (hg : w.grownBy w' row) (hne : ∀ k, row = some k → ¬ (lo ≤ k ∧ k < w.heap.size)) : OwnH w' lo A n c bs := by
  have hx : ∀ {e size m : Nat} {v : Value} {xs : List Value}, w.ownsRow lo e size v m xs → v.ownBlock = none ∨ v.ownBlock ≠ row := fun ho => by
    rename_i v _
    cases hv : v.ownBlock with
    | none => exact .inl rfl
    | some k => exact .inr (fun e => hne k e.symm (ho.lt k hv))
  exact ⟨h.row.kept hg (hx h.row), h.len, h.dat.kept hg (fun d hd => hx (h.dat.own d hd))⟩
end
theorem OwnHL.grow {w w' : World} {lo lo' e size n : Nat} {l : List HE} {v : Value} {xs : List Value} (h : OwnHL w lo l) (hv : w.ownsRow lo' e size v n xs) (hne : e ≠ 78) (hg : w.grownBy w' v.ownBlock) : OwnHL w' lo l := by
  rcases hv.2 with ⟨rfl, _⟩ | ⟨g, cap, cur, rfl, _, hcell, _⟩
  · exact h.kept hg (fun d _ => by cases d.v.ownBlock <;> simp [Value.ownBlock])
  · exact h.kept hg (h.far hcell hne)
theorem Try.infoShard : (Try.prog.info? 29).map (fun i => (i.zero, i.size, i.bytes)) = some (some (.agg #[.int .i64 0, .int .i64 0, .slice none 0 0]), 3, 40) := by kernel_rfl
/-- New shards with these data. -/
def MadeHs (w : World) (ls : List (Int × Int × List KE)) (e : Ending) (w' : World) : Prop :=
  ∃ A n c bs, e = .returned (.slice A n c) ∧ OwnH w' w.heap.size A n c bs ∧ bs.map HE.sd = ls ∧ Below w.heap.size w w'
end Go.Proofs.Ytbfdhlpncblahaa
namespace Go.Proofs.Ytbfdhlpncblahaa
open Go.RowKit

def Marked5 (w : World) (lo kk : Nat) (A : Option Addr) (n c k : Nat) (es : List KE) (e : Ending) (w' : World) : Prop :=
  e = .returned (.int .i64 (kk : Int)) ∧ w'.ownsRow lo 78 5 (.slice A n c) n ((mark5 k es).flatMap KE.cells) ∧ w.grownBy w' (Value.slice A n c).ownBlock

set_option maxRecDepth 10000 in
set_option maxHeartbeats 2000000 in
theorem markKs_any (A : Option Addr) (n c lo k : Nat) (es : List KE) (w : World) (ho : w.ownsRow lo 78 5 (.slice A n c) n (es.flatMap KE.cells)) (hl : es.length = n) (hn : n ≤ 2097152) (hk : k ≤ 16777216) :
    Calls Try.prog 69 #[.slice A n c, .int .i64 (k : Int)] w (Marked5 w lo (k + 5 * n) A n c k es) := by
  have HL := Lib.hid hl
  rcases Nat.eq_zero_or_pos n with rfl | hpos
  · obtain rfl : es = [] := List.eq_nil_of_length_eq_zero hl
    have HO := Lib.hid ho
    clear ho hl
    go_enter Try.func69, Try.ntmps69
    go_wp2
    go_loopw [1, 5] (fun q i wr => i = .int .i64 0 ∧ q = .int .i64 (k : Int) ∧ wr = w) (fun _ _ _ => 0)
    case atStart => exact ⟨rfl, rfl, rfl⟩
    case round =>
      obtain ⟨rfl, rfl, rfl⟩ := hrel
      go_wp2
      go_ret
      exact ⟨rfl, HO.out, World.grownBy.refl _ _⟩
  · obtain ⟨g, rfl⟩ := g_own_at ho hpos
    have HO : Hid (w.ownsRow lo 78 5 (.slice (some ⟨g, 0, none⟩) n c) n ((mark5 k (es.take 0) ++ es.drop 0).flatMap KE.cells)) := Lib.hid ho
    clear ho hl
    go_enter Try.func69, Try.ntmps69
    go_wp2
    go_loopw [1, 5] (fun q i wr => ∃ j : Nat, j ≤ n ∧ i = .int .i64 j ∧ q = .int .i64 ((k + 5 * j : Nat) : Int) ∧ Hid (wr.ownsRow lo 78 5 (.slice (some ⟨g, 0, none⟩) n c) n ((mark5 k (es.take j) ++ es.drop j).flatMap KE.cells)) ∧ Hid (w.grownBy wr (some g))) (fun _ i _ => n - (intOf i).toNat)
    case atStart => exact ⟨0, Nat.zero_le _, rfl, rfl, HO, Lib.hid (World.grownBy.refl _ _)⟩
    case round =>
      clear HO
      obtain ⟨j, hj, rfl, rfl, hown, hgr⟩ := hrel
      by_cases hlt : j < n
      · obtain ⟨e, he⟩ : ∃ e, es[j]? = some e := ⟨es[j]'(by rw [HL.out]; exact hlt), List.getElem?_eq_getElem _⟩
        have hmk : (mark5 k (es.take j)).length = j := by rw [mark5_len, List.length_take, HL.out]; omega
        have hown2 := hown.out
        rw [g_drop es j e he] at hown2
        have hq := fun i (hi : i < 5) => (hown2.cellAt (j * 5 + i) (by omega)).trans (flat_get KE.cells 5 KE.cells_len _ j i e (g_get _ _ _ _ hmk) hi)
        have hc0 : wr.cell? ⟨g, j * 5, none⟩ = some (.int .i64 e.f) := hq 0 (by omega)
        have hc1 : wr.cell? ⟨g, j * 5 + 1, none⟩ = some (.int .i64 e.t) := hq 1 (by omega)
        have hc2 : wr.cell? ⟨g, j * 5 + 2, none⟩ = some (.int .i64 e.w) := hq 2 (by omega)
        have hc3 : wr.cell? ⟨g, j * 5 + 3, none⟩ = some (.int .i64 e.i) := hq 3 (by omega)
        have hc4 : wr.cell? ⟨g, j * 5 + 4, none⟩ = some (.int .i64 e.v) := hq 4 (by omega)
        have hf0 := hown2.frozenAt (j * 5)
        have hf1 := hown2.frozenAt (j * 5 + 1)
        have hf2 := hown2.frozenAt (j * 5 + 2)
        have hf3 := hown2.frozenAt (j * 5 + 3)
        have hf4 := hown2.frozenAt (j * 5 + 4)
        have HS := Lib.hid (k_lay (e := ⟨((k + 5 * j : Nat) : Int), ((k + 5 * j : Nat) : Int) + 1, ((k + 5 * j : Nat) : Int) + 2, ((k + 5 * j : Nat) : Int) + 3, ((k + 5 * j : Nat) : Int) + 4⟩) hown2 hmk)
        have hb1 : ((k + 5 * j : Nat) : Int) + 1 + 1 = ((k + 5 * j : Nat) : Int) + 2 := by omega
        have hb2 : ((k + 5 * j : Nat) : Int) + 2 + 1 = ((k + 5 * j : Nat) : Int) + 3 := by omega
        have hb3 : ((k + 5 * j : Nat) : Int) + 3 + 1 = ((k + 5 * j : Nat) : Int) + 4 := by omega
        have HE := Lib.hid he
        clear hown hown2 hq he hmk
        have hq0 : k + 5 * j ≤ 40000000 := by omega
        obtain ⟨q, hq⟩ : ∃ q, q = k + 5 * j := ⟨_, rfl⟩
        rw [← hq] at HS hb1 hb2 hb3 hq0
        have HQ := Lib.hid hq
        simp only [← hq]
        clear hq
        go_wp2
        go_roundw
        case rel =>
          refine ⟨j + 1, by omega, by go_num, ?_, Lib.hid ?_, Lib.hid (hgr.out.trans ?_)⟩
          · have := HQ.out
            exact congrArg (Value.int .i64) (by first | omega | (simp only [IntKind.wrap_i64]; omega))
          · have h := HS.out.1
            rw [g_take es j e HE.out, mark5_snoc, List.length_take, HL.out, show min j n = j by omega, ← HQ.out, List.append_assoc]
            exact h
          · exact HS.out.2
        case measure => simp [intOf]; omega
      · obtain rfl : j = n := by omega
        go_wp2
        go_ret
        refine ⟨rfl, ?_, hgr.out⟩
        have h := hown.out
        rw [List.take_of_length_le (by rw [HL.out]; exact Nat.le_refl _), List.drop_eq_nil_of_le (by rw [HL.out]; exact Nat.le_refl _), List.append_nil] at h
        exact h

set_option maxRecDepth 10000 in
set_option maxHeartbeats 1000000 in
theorem heldKs_any (A : Option Addr) (n c k : Nat) (es : List KE) (w : World) (hr : SlK w A n (mark5 k es)) (hn : n ≤ 2097152) (hk : k ≤ 16777216) :
    Calls Try.prog 70 #[.slice A n c, .int .i64 (k : Int)] w (GNum w ((k + 5 * n : Nat) : Int)) := by
  have HR := Lib.hid hr
  have HL : Hid (es.length = n) := Lib.hid (by rw [← hr.len, mark5_len])
  have HG := Lib.hid (fun j (h : j < es.length) => mark5_get es k j h)
  clear hr
  go_enter Try.func70, Try.ntmps70
  go_wp2
  go_loopw [1, 5] (fun q i wr => ∃ j : Nat, j ≤ n ∧ i = .int .i64 j ∧ q = .int .i64 ((k + 5 * j : Nat) : Int) ∧ wr = w) (fun _ i _ => n - (intOf i).toNat)
  case atStart => exact ⟨0, Nat.zero_le _, rfl, rfl, rfl⟩
  case round =>
    obtain ⟨j, hj, rfl, rfl, rfl⟩ := hrel
    by_cases hlt : j < n
    · obtain ⟨b, off, e, rfl, hbw, he, c0, c1, c2, c3, c4⟩ := HR.out.at_ hlt
      have hee : e = ⟨((k + 5 * j : Nat) : Int), ((k + 5 * j : Nat) : Int) + 1, ((k + 5 * j : Nat) : Int) + 2, ((k + 5 * j : Nat) : Int) + 3, ((k + 5 * j : Nat) : Int) + 4⟩ := by
        have h1 := he.out
        rw [HG.out j (by rw [HL.out]; exact hlt)] at h1
        injection h1 with h1
        exact h1.symm
      subst hee
      clear he
      have hq0 : k + 5 * j ≤ 40000000 := by omega
      obtain ⟨q, hq⟩ : ∃ q, q = k + 5 * j := ⟨_, rfl⟩
      simp only [← hq] at c0 c1 c2 c3 c4 hq0 ⊢
      have hb1 : (q : Int) + 1 + 1 = (q : Int) + 2 := by omega
      have hb2 : (q : Int) + 2 + 1 = (q : Int) + 3 := by omega
      have hb3 : (q : Int) + 3 + 1 = (q : Int) + 4 := by omega
      have HQ := Lib.hid hq
      clear hq
      go_wp2
      go_roundw
      case rel =>
        refine ⟨j + 1, by omega, by go_num, ?_, by first | rfl | trivial⟩
        have := HQ.out
        exact congrArg (Value.int .i64) (by first | omega | (simp only [IntKind.wrap_i64]; omega))
      case measure => simp [intOf]; omega
    · obtain rfl : j = n := by omega
      go_wp2
      go_ret
      exact ⟨by first | rfl | trivial, Below.refl _ _⟩
end Go.Proofs.Ytbfdhlpncblahaa
namespace Go.Proofs.Ytbfdhlpncblahaa
open Go.RowKit

/-! ### marks -/
def markHe (q : Nat) (e : HE) : HE := ⟨(q : Int), (q : Int) + 1, e.A, e.n, e.c, mark5 (q + 2) e.es⟩
def markH : Nat → List HE → List HE
  | _, [] => []
  | k, e :: r => markHe k e :: markH (k + 2 + 5 * e.n) r
def endH : Nat → List HE → Nat
  | k, [] => k
  | k, e :: r => endH (k + 2 + 5 * e.n) r
theorem markH_append : ∀ (xs ys : List HE) (k : Nat), markH k (xs ++ ys) = markH k xs ++ markH (endH k xs) ys
  | [], _, _ => rfl
  | x :: r, ys, k => by simp [markH, endH, markH_append r ys]
theorem endH_append : ∀ (xs ys : List HE) (k : Nat), endH k (xs ++ ys) = endH (endH k xs) ys
  | [], _, _ => rfl
  | x :: r, ys, k => by simp [endH, endH_append r ys]
theorem endH_le : ∀ (xs : List HE) (k : Nat), k ≤ endH k xs
  | [], _ => Nat.le_refl _
  | x :: r, k => by
    have := endH_le r (k + 2 + 5 * x.n)
    simp only [endH]
    omega
theorem markH_len : ∀ (xs : List HE) (k : Nat), (markH k xs).length = xs.length
  | [], _ => rfl
  | x :: r, k => by simp [markH, markH_len r]
def sumH (bs : List HE) : Nat := (bs.map HE.n).sum
theorem sumH_append (xs ys : List HE) : sumH (xs ++ ys) = sumH xs + sumH ys := by simp [sumH]
theorem sumH_cons (x : HE) (ys : List HE) : sumH (x :: ys) = x.n + sumH ys := by simp [sumH]
theorem endH_sum : ∀ (xs : List HE) (k : Nat), endH k xs = k + 2 * xs.length + 5 * sumH xs
  | [], k => by simp [endH, sumH]
  | x :: r, k => by
    rw [endH, endH_sum r, sumH_cons, List.length_cons]
    omega
def blkH (A : Option Addr) (n c : Nat) (bs : List HE) (b : Nat) : Prop := (Value.slice A n c).ownBlock = some b ∨ ∃ e ∈ bs, e.v.ownBlock = some b
def MarkedH (w : World) (lo kk k : Nat) (A : Option Addr) (n c : Nat) (bs : List HE) (e : Ending) (w' : World) : Prop :=
  e = .returned (.int .i64 (kk : Int)) ∧ OwnH w' lo A n c (markH k bs) ∧ OnlyB (blkH A n c bs) w w'
/-- The two numbers of a shard stored in its row. -/
theorem he_lay {w : World} {lo ty g c n j : Nat} {made rest : List HE} {x : HE} (q : Nat) (h : w.ownsRow lo ty 3 (.slice (some ⟨g, 0, none⟩) n c) n ((made ++ x :: rest).flatMap HE.cells)) (hm : made.length = j) :
    ((w.setCell ⟨g, j * 3, none⟩ (.int .i64 (q : Int))).setCell ⟨g, j * 3 + 1, none⟩ (.int .i64 ((q : Int) + 1))).ownsRow lo ty 3 (.slice (some ⟨g, 0, none⟩) n c) n ((made ++ markHe q x :: rest).flatMap HE.cells) ∧
      w.grownBy ((w.setCell ⟨g, j * 3, none⟩ (.int .i64 (q : Int))).setCell ⟨g, j * 3 + 1, none⟩ (.int .i64 ((q : Int) + 1))) (some g) := by
  have h1 := h.stored (j * 3) (.int .i64 (q : Int))
  have h2 := h1.1.stored (j * 3 + 1) (.int .i64 ((q : Int) + 1))
  have e1 := flat_set HE.cells 3 HE.cells_len (made ++ x :: rest) j 0 x ⟨(q : Int), x.hi, x.A, x.n, x.c, x.es⟩ (.int .i64 (q : Int)) (g_get _ _ _ _ hm) (by omega) rfl
  rw [Nat.add_zero, g_set _ _ _ _ _ hm] at e1
  have e2 := flat_set HE.cells 3 HE.cells_len (made ++ ⟨(q : Int), x.hi, x.A, x.n, x.c, x.es⟩ :: rest) j 1 ⟨(q : Int), x.hi, x.A, x.n, x.c, x.es⟩ (markHe q x) (.int .i64 ((q : Int) + 1)) (g_get _ _ _ _ hm) (by omega) rfl
  rw [g_set _ _ _ _ _ hm] at e2
  rw [e1, e2] at h2
  exact ⟨h2.1, h1.2.trans h2.2⟩

set_option maxRecDepth 10000 in
set_option maxHeartbeats 4000000 in
theorem markHs_any (A : Option Addr) (n c lo k : Nat) (bs : List HE) (w : World) (ho : OwnH w lo A n c bs) (hn : n ≤ 2097152) (hs : ∀ e ∈ bs, e.n ≤ 2097152) (hk : endH k bs ≤ 16777216) :
    Calls Try.prog 26 #[.slice A n c, .int .i64 (k : Int)] w (MarkedH w lo (endH k bs) k A n c bs) := by
  obtain ⟨hr, hl, hd⟩ := ho
  have HS := Lib.hid hs
  have HL := Lib.hid hl
  have HK := Lib.hid hk
  have HR := Lib.hid hr
  have HD := Lib.hid hd
  clear hs hl hk hr hd
  go_enter Try.func26, Try.ntmps26
  go_wp2
  go_loopw [1, 5] (fun t i wr => ∃ (j q : Nat) (pre post : List HE), j ≤ n ∧ i = .int .i64 j ∧ t = .int .i64 (q : Int) ∧ Hid (q = endH k pre) ∧ Hid (bs = pre ++ post) ∧ Hid (pre.length = j) ∧ Hid (wr.ownsRow lo 29 3 (.slice A n c) n ((markH k pre ++ post).flatMap HE.cells)) ∧ Hid (OwnHL wr lo (markH k pre ++ post)) ∧ Hid (OnlyB (blkH A n c bs) w wr)) (fun _ i _ => n - (intOf i).toNat)
  case atStart => exact ⟨0, k, [], bs, Nat.zero_le _, rfl, rfl, Lib.hid rfl, Lib.hid rfl, Lib.hid rfl, HR, HD, Lib.hid (OnlyB.refl _ _)⟩
  case round =>
    clear HR HD
    obtain ⟨j, q, pre, post, hj, rfl, rfl, hq, hes, hpl, hown, hdat, honly⟩ := hrel
    by_cases hlt : j < n
    · obtain ⟨e, post, rfl⟩ : ∃ e r, post = e :: r := by
        cases post with
        | nil => exfalso; have := congrArg List.length hes.out; have := HL.out; have := hpl.out; simp at *; omega
        | cons e r => exact ⟨e, r, rfl⟩
      obtain ⟨g, hg⟩ := g_own_at hown.out (by omega)
      subst hg
      have hq2 : q + 2 + 5 * e.n ≤ 16777216 := by
        have h1 := HK.out
        rw [hes.out, endH_append, endH, ← hq.out] at h1
        have := endH_le post (q + 2 + 5 * e.n)
        omega
      have hmem : e ∈ bs := by rw [hes.out]; simp
      have hen : e.n ≤ 2097152 := HS.out e hmem
      have hmk : (markH k pre).length = j := by rw [markH_len, hpl.out]
      have hown2 := hown.out
      have hqq := fun i (hi : i < 3) => (hown2.cellAt (j * 3 + i) (by omega)).trans (flat_get HE.cells 3 HE.cells_len _ j i e (g_get _ _ _ _ hmk) hi)
      have hc0 : wr.cell? ⟨g, j * 3, none⟩ = some (.int .i64 e.lo) := hqq 0 (by omega)
      have hc1 : wr.cell? ⟨g, j * 3 + 1, none⟩ = some (.int .i64 e.hi) := hqq 1 (by omega)
      have hc2 : wr.cell? ⟨g, j * 3 + 2, none⟩ = some (.slice e.A e.n e.c) := hqq 2 (by omega)
      have hf0 := hown2.frozenAt (j * 3)
      have hf1 := hown2.frozenAt (j * 3 + 1)
      have hlay := he_lay q hown2 hmk
      have HROW := Lib.hid hlay.1
      have HGR := Lib.hid hlay.2
      obtain ⟨cur, hg0⟩ := bat_block hown2
      have hel : e.es.length = e.n := hdat.out.len e (by simp)
      have HEL := Lib.hid hel
      have hd2 := hdat.out.kept hlay.2 (hdat.out.far hg0 (by decide))
      have HD2 := Lib.hid hd2
      have HFAR := Lib.hid (hdat.out.far hg0 (by decide) e (by simp))
      have CM := Lib.hid (markKs_any e.A e.n e.c lo (q + 2) e.es _ (hd2.own e (by simp)) hel hen (by omega))
      have hqs : ((q + 2 : Nat) : Int) = (q : Int) + 2 := by omega
      have hb1 : (q : Int) + 1 + 1 = (q : Int) + 2 := by omega
      rw [hqs] at CM
      obtain ⟨z, hz⟩ : ∃ z, q + 2 + 5 * e.n = z := ⟨_, rfl⟩
      have HZ := Lib.hid hz
      rw [hz] at CM
      clear hown2 hqq hmk hel hd2 hlay hg0 hqs hz
      go_wp2_with fail
      refine CM.out.mono ?_
      rintro e1 w2 ⟨rfl, ho2, hg2⟩
      have HOWN := Lib.hid (HROW.out.kept hg2 (.inr (fun e4 => by rcases HFAR.out with h5 | h5; · rw [show (Value.slice e.A e.n e.c).ownBlock = none from h5] at e4; cases e4
                                                                  · exact h5 e4.symm)))
      have HDAT := Lib.hid (HD2.out.turn (d' := markHe q e) hg2 rfl ho2 (by show (mark5 (q + 2) e.es).length = e.n; rw [mark5_len]; exact HEL.out))
      have HONLY := Lib.hid ((honly.out.grown HGR.out (fun i hi => .inl hi)).grown hg2 (fun i hi => .inr ⟨e, hmem, hi⟩))
      clear ho2 hg2
      go_wp2
      go_roundw
      case rel =>
        refine ⟨j + 1, z, pre ++ [e], post, by omega, by go_num, rfl, Lib.hid ?_, Lib.hid ?_, Lib.hid (by simp [hpl.out]), Lib.hid ?_, Lib.hid ?_, HONLY⟩
        · rw [endH_append, ← hq.out, ← HZ.out]; rfl
        · rw [hes.out]; simp
        · have h := HOWN.out
          rw [markH_append, ← hq.out, List.append_assoc]
          exact h
        · have h := HDAT.out
          rw [markH_append, ← hq.out, List.append_assoc]
          exact h
      case measure => simp [intOf]; omega
    · obtain rfl : j = n := by omega
      have hpe : post = [] := by
        have h1 := congrArg List.length hes.out
        have h2 := HL.out
        have h3 := hpl.out
        rw [List.length_append] at h1
        exact List.eq_nil_of_length_eq_zero (by omega)
      subst hpe
      go_wp2
      go_ret
      have e1 := hes.out
      have hdat := hdat.out
      have hown := hown.out
      rw [List.append_nil] at e1 hdat hown
      subst e1
      exact ⟨g_int (by rw [hq.out]), ⟨hown, by rw [markH_len]; exact HL.out, hdat⟩, honly.out⟩

set_option maxRecDepth 10000 in
set_option maxHeartbeats 2000000 in
theorem heldHs_any (A : Option Addr) (n c k : Nat) (bs : List HE) (w : World) (hr : SlH w A n (markH k bs)) (hn : n ≤ 2097152) (hs : ∀ e ∈ bs, e.n ≤ 2097152) (hk : endH k bs ≤ 16777216) (hx : ∀ e ∈ bs, e.es.length = e.n) :
    Calls Try.prog 27 #[.slice A n c, .int .i64 (k : Int)] w (GNum w (endH k bs : Int)) := by
  have HS := Lib.hid hs
  have HR := Lib.hid hr
  have HK := Lib.hid hk
  have HX := Lib.hid hx
  have hlen : bs.length = n := by have := hr.len; rw [markH_len] at this; exact this
  have HL := Lib.hid hlen
  clear hs hr hk hx hlen
  go_enter Try.func27, Try.ntmps27
  go_wp2
  go_loopw [1, 5] (fun t i wr => ∃ (j q : Nat) (pre post : List HE), j ≤ n ∧ i = .int .i64 j ∧ t = .int .i64 (q : Int) ∧ Hid (q = endH k pre) ∧ Hid (bs = pre ++ post) ∧ Hid (pre.length = j) ∧ Hid (Below w.heap.size w wr)) (fun _ i _ => n - (intOf i).toNat)
  case atStart => exact ⟨0, k, [], bs, Nat.zero_le _, rfl, rfl, Lib.hid rfl, Lib.hid rfl, Lib.hid rfl, Lib.hid (Below.refl _ _)⟩
  case round =>
    obtain ⟨j, q, pre, post, hj, rfl, rfl, hq, hes, hpl, hbel⟩ := hrel
    by_cases hlt : j < n
    · obtain ⟨e, post, rfl⟩ : ∃ e r, post = e :: r := by
        cases post with
        | nil => exfalso; have := congrArg List.length hes.out; have := HL.out; have := hpl.out; simp at *; omega
        | cons e r => exact ⟨e, r, rfl⟩
      obtain ⟨b, off, e0, rfl, hbw, he, hok, c0, c1, c2⟩ := HR.out.at_ hlt
      have he0 : e0 = markHe q e := by
        have h1 := he.out
        rw [hes.out, markH_append, ← hq.out, markH, List.getElem?_append_right (by rw [markH_len, hpl.out]; exact Nat.le_refl _), markH_len, hpl.out, Nat.sub_self] at h1
        simpa using h1.symm
      subst he0
      have hq2 : q + 2 + 5 * e.n ≤ 16777216 := by
        have h1 := HK.out
        rw [hes.out, endH_append, endH, ← hq.out] at h1
        have := endH_le post (q + 2 + 5 * e.n)
        omega
      have hen : e.n ≤ 2097152 := HS.out e (by rw [hes.out]; simp)
      have c0 : wr.cell? ⟨b, off + j * 3, none⟩ = some (.int .i64 (q : Int)) := (hbel.out.cell (p := ⟨b, off + j * 3, none⟩) hbw).trans c0
      have c1 : wr.cell? ⟨b, off + j * 3 + 1, none⟩ = some (.int .i64 ((q : Int) + 1)) := (hbel.out.cell (p := ⟨b, off + j * 3 + 1, none⟩) hbw).trans c1
      have c2 : wr.cell? ⟨b, off + j * 3 + 2, none⟩ = some (.slice e.A e.n e.c) := (hbel.out.cell (p := ⟨b, off + j * 3 + 2, none⟩) hbw).trans c2
      have H := Lib.hid (heldKs_any e.A e.n e.c (q + 2) e.es wr (hok.out.below hbel.out).rd hen (by omega))
      have hqs : ((q + 2 : Nat) : Int) = (q : Int) + 2 := by omega
      have hb1 : (q : Int) + 1 + 1 = (q : Int) + 2 := by omega
      rw [hqs] at H
      have hp : (0 : Int) ≤ ((q + 2 + 5 * e.n : Nat) : Int) := by omega
      obtain ⟨z, hz⟩ : ∃ z, q + 2 + 5 * e.n = z := ⟨_, rfl⟩
      have HZ := Lib.hid hz
      rw [hz] at H hp
      clear he hok hz hqs
      go_wp2_with fail
      refine H.out.mono ?_
      rintro e1 w2 ⟨rfl, hb2⟩
      have HB := Lib.hid (g_chain hbel.out hb2)
      clear hb2
      go_wp2
      go_roundw
      case rel => exact ⟨j + 1, z, pre ++ [e], post, by omega, by go_num, rfl, Lib.hid (by rw [endH_append, ← hq.out, ← HZ.out]; rfl), Lib.hid (by rw [hes.out]; simp), Lib.hid (by simp [hpl.out]), HB⟩
      case measure => simp [intOf]; omega
    · obtain rfl : j = n := by omega
      have hpe : post = [] := by
        have h1 := congrArg List.length hes.out
        have h2 := HL.out
        have h3 := hpl.out
        rw [List.length_append] at h1
        exact List.eq_nil_of_length_eq_zero (by omega)
      subst hpe
      go_wp2
      go_ret
      have e1 := hes.out
      rw [List.append_nil] at e1
      subst e1
      exact ⟨g_int (by rw [hq.out]), hbel.out⟩
end Go.Proofs.Ytbfdhlpncblahaa
namespace Go.Proofs.Ytbfdhlpncblahaa
open Go.RowKit

def sdL (bs : List HE) : List SD := bs.map HE.sd
theorem sdL_len (bs : List HE) : (sdL bs).length = bs.length := by simp [sdL]
theorem sdL_drop {bs : List HE} {k : Nat} {e : HE} (h : bs[k]? = some e) : (sdL bs).drop k = e.sd :: (sdL bs).drop (k + 1) := by
  unfold sdL
  exact g_drop _ k _ (by rw [List.getElem?_map, h]; rfl)
theorem sdL_take {bs : List HE} {k : Nat} {e : HE} (h : bs[k]? = some e) : (sdL bs).take (k + 1) = (sdL bs).take k ++ [e.sd] := by
  unfold sdL
  exact g_take _ k _ (by rw [List.getElem?_map, h]; rfl)
theorem chain_step {N a : Int} {bs : List HE} {k : Nat} {e : HE} (h : bs[k]? = some e) : chainB N a ((sdL bs).drop k) = (shardB e.lo e.hi e.es && decide (e.lo = a) && chainB N e.hi ((sdL bs).drop (k + 1))) := by
  rw [sdL_drop h, chainB]
  rfl
theorem flat_step {bs : List HE} {k : Nat} {e : HE} (h : bs[k]? = some e) : flatK ((sdL bs).take (k + 1)) = flatK ((sdL bs).take k) ++ e.es := by
  rw [sdL_take h, flatK_append]
  simp [flatK, HE.sd]
theorem flat_mid {bs : List HE} {k j : Nat} {e : HE} {x : KE} (h : bs[k]? = some e) (hx : e.es[j]? = some x) : ∃ G, flatK (sdL bs) = (flatK ((sdL bs).take k) ++ e.es.take j) ++ x :: G := by
  refine ⟨e.es.drop (j + 1) ++ flatK ((sdL bs).drop (k + 1)), ?_⟩
  have h1 : sdL bs = (sdL bs).take k ++ (e.sd :: (sdL bs).drop (k + 1)) := by rw [← sdL_drop h, List.take_append_drop]
  have h2 : e.es = e.es.take j ++ (x :: e.es.drop (j + 1)) := by rw [← g_drop e.es j x hx, List.take_append_drop]
  calc flatK (sdL bs) = flatK ((sdL bs).take k) ++ (e.es ++ flatK ((sdL bs).drop (k + 1))) := by
        conv => lhs; rw [h1]
        rw [flatK_append, flatK_cons]
        rfl
    _ = flatK ((sdL bs).take k) ++ ((e.es.take j ++ (x :: e.es.drop (j + 1))) ++ flatK ((sdL bs).drop (k + 1))) := by rw [← h2]
    _ = _ := by simp
theorem flat_all (bs : List HE) {k : Nat} (h : bs.length ≤ k) : flatK ((sdL bs).take k) = flatK (sdL bs) := by
  rw [List.take_of_length_le (by rw [sdL_len]; exact h)]
end Go.Proofs.Ytbfdhlpncblahaa
namespace Go.Proofs.Ytbfdhlpncblahaa
open Go.RowKit

section
variable {w w' w0 : World} {n c lo lo0 : Nat} {A : Option Addr} {bs : List HE}
theorem OwnH.blocks (h : OwnH w0 lo0 A n c bs) : (∀ k, (Value.slice A n c).ownBlock = some k → lo0 ≤ k ∧ k < w0.heap.size) ∧ ∀ d ∈ bs, ∀ k, d.v.ownBlock = some k → lo0 ≤ k ∧ k < w0.heap.size :=
  ⟨h.row.lt, fun d hd => (h.dat.own d hd).lt⟩
theorem OwnH.other {row : Option Nat} (h : OwnH w lo A n c bs) (h0 : OwnH w0 lo0 A n c bs) (hg : w.grownBy w' row) (hne : ∀ k, row = some k → ¬ (lo0 ≤ k ∧ k < w0.heap.size)) : OwnH w' lo A n c bs :=
  ⟨h.row.kept hg (ne_of_lt h0.blocks.1 hne), h.len, h.dat.kept hg (fun d hd => ne_of_lt (h0.blocks.2 d hd) hne)⟩
theorem OwnH.only {S : Nat → Prop} (h : OwnH w lo A n c bs) (h0 : OwnH w0 lo0 A n c bs) (hg : OnlyB S w w') (hne : ∀ k, S k → ¬ (lo0 ≤ k ∧ k < w0.heap.size)) : OwnH w' lo A n c bs :=
  ⟨hg.own h.row (fun k hk hs => hne k hs (h0.blocks.1 k hk)), h.len, fun d hd => hg.own (h.dat.own d hd) (fun k hk hs => hne k hs (h0.blocks.2 d hd k hk)), h.dat.len, h.dat.apart⟩
theorem OwnH.blk (h : OwnH w lo A n c bs) {k : Nat} (hk : blkH A n c bs k) : lo ≤ k ∧ k < w.heap.size := by
  rcases hk with e | ⟨d, hd, e⟩
  · exact h.row.lt k e
  · exact (h.dat.own d hd).lt k e
theorem sum_flat {ls : List SD} (hx : bs.map HE.sd = ls) (hl : ∀ d ∈ bs, d.es.length = d.n) : sumH bs = (flatK ls).length := by
  subst hx
  unfold sumH flatK
  rw [List.length_flatMap, List.map_map]
  congr 1
  exact List.map_congr_left (fun d hd => (hl d hd).symm)
/-- One row is written on, in its own block or in a new one. -/
theorem OwnHL.app {l m : List HE} {x d' : HE} (h : OwnHL w lo (l ++ x :: m)) (hg : w.grownBy w' x.v.ownBlock) (ho : w'.ownsRow lo 78 5 d'.v d'.n (d'.es.flatMap KE.cells)) (hs : d'.es.length = d'.n)
    (hb : d'.v.ownBlock = x.v.ownBlock ∨ ∃ s, d'.v.ownBlock = some s ∧ w.heap.size ≤ s) : OwnHL w' lo (l ++ d' :: m) := by
  obtain ⟨a1, a2, a3⟩ := List.pairwise_append.1 h.apart
  obtain ⟨b1, b2⟩ := List.pairwise_cons.1 a2
  have hsym : ∀ {a b : HE}, ApartH a b → ApartH b a := fun {a b} hh => by
    unfold ApartH at *
    rcases hh with hh | hh
    · rw [hh]
      cases b.v.ownBlock <;> simp
    · exact .inr (fun e => hh e.symm)
  have hap : ∀ a ∈ l ++ m, ApartH a x → ApartH a d' := fun a ha hh => by
    unfold ApartH at *
    rcases hb with hb | ⟨s, hb, hs2⟩
    · rw [hb]; exact hh
    · cases hv : a.v.ownBlock with
      | none => exact .inl rfl
      | some i =>
        refine .inr (fun e => ?_)
        rw [hb] at e
        injection e with e
        have hin : a ∈ l ++ x :: m := by rcases List.mem_append.1 ha with ha | ha; exact List.mem_append_left _ ha; exact List.mem_append_right _ (by simp [ha])
        have := (h.lt hin i hv).2
        omega
  refine h.turn0 (fun e he => ?_) ho hs (fun a ha => hap a (List.mem_append_left _ ha) (a3 a ha x (by simp))) (fun b hb2 => hsym (hap b (List.mem_append_right _ hb2) (hsym (b1 b hb2))))
  rcases List.mem_append.1 he with he | he
  · exact (h.own e (List.mem_append_left _ he)).kept hg (a3 e he x (by simp))
  · exact (h.own e (List.mem_append_right _ (by simp [he]))).kept hg (hsym (b1 e he))
structure HSm (M n : Nat) (bs : List HE) (ls : List SD) : Prop where
  c : n ≤ M
  e : ∀ d ∈ bs, d.n ≤ M
  s : endH 1 bs ≤ 1 + 5 * M
  q : endH 1 bs = 1 + 2 * ls.length + 5 * (flatK ls).length
  k : n = ls.length
  l : ∀ d ∈ bs, d.es.length = d.n
theorem HSm.of {M : Nat} {ls : List SD} (hn : bs.length = n) (hl : ∀ d ∈ bs, d.es.length = d.n) (hx : bs.map HE.sd = ls) (h1 : ls.length + (flatK ls).length ≤ M) : HSm M n bs ls := by
  have e1 := sum_flat hx hl
  have e2 : n = ls.length := by rw [← hn, ← hx, List.length_map]
  refine ⟨by omega, fun d hd => ?_, by rw [endH_sum]; omega, by rw [endH_sum, e1]; omega, e2, hl⟩
  have := mem_sum (List.mem_map_of_mem (f := HE.n) hd)
  unfold sumH at e1
  omega
theorem OwnH.small {M : Nat} {ls : List SD} (h : OwnH w lo A n c bs) (hx : bs.map HE.sd = ls) (h1 : ls.length + (flatK ls).length ≤ M) : HSm M n bs ls := HSm.of h.len h.dat.len hx h1
end
end Go.Proofs.Ytbfdhlpncblahaa
namespace Go.Proofs.Ytbfdhlpncblahaa
open Go.RowKit

theorem grown_up {a b c : World} {row r2 : Option Nat} (h : a.grownBy b row) (k : b.grownBy c r2) (hr : ∀ j, r2 = some j → a.heap.size ≤ j) : a.grownBy c row :=
  ⟨k.os.trans h.os, k.tape.trans h.tape, k.output.trans h.output, Nat.le_trans h.size k.size, fun i hi hn => (k.block i (Nat.lt_of_lt_of_le hi h.size) (fun e => by have := hr i e.symm; omega)).trans (h.block i hi hn)⟩
theorem grown_below {a b c : World} {row : Option Nat} (h : a.grownBy b row) (k : Below b.heap.size b c) : a.grownBy c row := grownBy_trans h (grownBy_of_below k row)
theorem grown_set {a b : World} {g i : Nat} (h : a.grownBy b (some g)) (u : Value) : a.grownBy (b.setCell ⟨g, i, none⟩ u) (some g) :=
  ⟨h.os, h.tape, h.output, by simpa using h.size, fun j hj hn => (Below.heap_setCell b ⟨g, i, none⟩ u j (fun e => hn (by rw [e]))).trans (h.block j hj hn)⟩
theorem grown_drew {a b : World} {row : Option Nat} (h : a.grownBy b row) : a.grownBy b.drew row := ⟨h.os, h.tape, h.output, h.size, h.block⟩

/-- A block of two cells that may be written. -/
structure DBox (w : World) (b : Nat) (v0 v1 : Value) : Prop where
  lt : b < w.heap.size
  c0 : w.cell? ⟨b, 0, none⟩ = some v0
  c1 : w.cell? ⟨b, 1, none⟩ = some v1
  f : ∀ i, w.frozen? ⟨b, i, none⟩ = false
section
variable {w w' : World} {b : Nat} {v0 v1 : Value}
theorem DBox.keep (h : DBox w b v0 v1) (hs : w.heap.size ≤ w'.heap.size) (hk : w'.heap[b]? = w.heap[b]?) : DBox w' b v0 v1 :=
  ⟨Nat.lt_of_lt_of_le h.lt hs, (World.cell?_of_block (a := ⟨b, 0, none⟩) hk).trans h.c0, (World.cell?_of_block (a := ⟨b, 1, none⟩) hk).trans h.c1, fun i => (World.frozen?_of_block (a := ⟨b, i, none⟩) hk).trans (h.f i)⟩
theorem DBox.below (h : DBox w b v0 v1) (hb : Below w.heap.size w w') : DBox w' b v0 v1 := h.keep hb.size (hb.block b h.lt)
theorem DBox.grown {row : Option Nat} (h : DBox w b v0 v1) (hg : w.grownBy w' row) (hr : row ≠ some b) : DBox w' b v0 v1 := h.keep hg.size (hg.block b h.lt (fun e => hr e.symm))
theorem DBox.new (w : World) (v0 v1 : Value) (t : TypeId) : DBox (w.alloc (.cells #[v0, v1] t)) w.heap.size v0 v1 := ⟨by simp, by simp, by simp, fun i => by simp⟩
theorem DBox.alloc (h : DBox w b v0 v1) (o : Obj) : DBox (w.alloc o) b v0 v1 := h.below (below_a1 w o)
theorem DBox.drew (h : DBox w b v0 v1) : DBox w.drew b v0 v1 := ⟨h.lt, h.c0, h.c1, h.f⟩
theorem DBox.far (h : DBox w b v0 v1) {p : Addr} (hp : b ≠ p.block) (u : Value) : DBox (w.setCell p u) b v0 v1 := h.keep (by simp) (Below.heap_setCell w p u b hp)
theorem DBox.set1 (h : DBox w b v0 v1) (u : Value) : DBox (w.setCell ⟨b, 1, none⟩ u) b v0 u :=
  ⟨by simpa using h.lt, by rw [World.cell?_setCell_other _ _ _ _ (by simp)]; exact h.c0, World.cell?_setCell_same' _ _ _ (by rw [h.c1]; rfl), fun i => by simpa using h.f i⟩
end

theorem three_reads (w : World) (a b c : Int) (t : TypeId) (g : Nat) (hg : g = w.heap.size) : Reads (w.alloc (.cells #[.int .i64 a, .int .i64 b, .int .i64 c] t)) (g + 1) 3 (some ⟨g, 0, none⟩) 1 [.int .i64 a, .int .i64 b, .int .i64 c] := by
  subst hg
  refine ⟨rfl, fun _ => ⟨_, rfl, by simp, fun j x hj => ?_⟩⟩
  match j, hj with
  | 0, hj => simp at hj; subst hj; simp [Addr.add]
  | 1, hj => simp at hj; subst hj; simp [Addr.add]
  | 2, hj => simp at hj; subst hj; simp [Addr.add]
theorem own_formG {w : World} {base e size n : Nat} {v : Value} {xs : List Value} (h : w.ownsRow base e size v n xs) : ∃ A c, v = .slice A n c ∧ n ≤ c := by
  rcases h.2 with ⟨rfl, rfl⟩ | ⟨g, cap, _, rfl, _, _, hc, _⟩
  · exact ⟨_, _, rfl, Nat.le_refl _⟩
  · exact ⟨_, _, rfl, hc⟩
end Go.Proofs.Ytbfdhlpncblahaa
namespace Go.Proofs.Ytbfdhlpncblahaa
open Go.RowKit

theorem he_built (w : World) : (w.alloc (.cells #[] 29)).ownsRow w.heap.size 29 3 (.slice (some ⟨w.heap.size, 0, none⟩) 0 0) 0 [] :=
  World.ownsRow_lit w #[] 0 (Nat.le_refl _) (by unfold maxLen; omega) rfl
theorem five_reads (w : World) (e : KE) (t : TypeId) (g : Nat) (hg : g = w.heap.size) : Reads (w.alloc (.cells #[.int .i64 e.f, .int .i64 e.t, .int .i64 e.w, .int .i64 e.i, .int .i64 e.v] t)) (g + 1) 5 (some ⟨g, 0, none⟩) 1 (KE.cells e) := by
  subst hg
  refine ⟨rfl, fun _ => ⟨_, rfl, by simp, fun j x hj => ?_⟩⟩
  match j, hj with
  | 0, hj => simp [KE.cells] at hj; subst hj; simp [Addr.add]
  | 1, hj => simp [KE.cells] at hj; subst hj; simp [Addr.add]
  | 2, hj => simp [KE.cells] at hj; subst hj; simp [Addr.add]
  | 3, hj => simp [KE.cells] at hj; subst hj; simp [Addr.add]
  | 4, hj => simp [KE.cells] at hj; subst hj; simp [Addr.add]
theorem he_reads (w : World) (e : HE) (t : TypeId) (g : Nat) (hg : g = w.heap.size) : Reads (w.alloc (.cells #[.int .i64 e.lo, .int .i64 e.hi, .slice e.A e.n e.c] t)) (g + 1) 3 (some ⟨g, 0, none⟩) 1 (HE.cells e) := by
  subst hg
  refine ⟨rfl, fun _ => ⟨_, rfl, by simp, fun j x hj => ?_⟩⟩
  match j, hj with
  | 0, hj => simp [HE.cells] at hj; subst hj; simp [Addr.add]
  | 1, hj => simp [HE.cells] at hj; subst hj; simp [Addr.add]
  | 2, hj => simp [HE.cells] at hj; subst hj; simp [Addr.add]
/-- No shards. -/
theorem hs_none (w w' : World) (h : Below w.heap.size w w') : MadeHs w [] (.returned (.slice none 0 0)) w' := ⟨none, 0, 0, [], rfl, ⟨World.ownsRow_nil _ _ _ _, rfl, OwnHL.nil⟩, rfl, h⟩

end Go.Proofs.Ytbfdhlpncblahaa
namespace Go.Proofs.Ytbfdhlpncblahaa
open Go.RowKit

theorem szK_any (A : Option Addr) (n c : Nat) (left : Int) (w : World) (hn : n ≤ maxLen) (h0 : 0 ≤ left) (h1 : left ≤ 1048576) :
    Calls Try.prog 52 #[.slice A n c, .int .i64 left] w fun e w' => e = .returned (.int .i64 (leftG left n)) ∧ w = w' := by
  unfold maxLen at hn
  by_cases h : (n : Int) ≤ left
  · have HV := Lib.hid (leftG_pos h)
    have h2 : 0 ≤ left - (n : Int) := by omega
    go_enter Try.func52, Try.ntmps52
    go_wp2
    go_ret
    exact ⟨g_int HV.out.symm, rfl⟩
  · have HV := Lib.hid (leftG_neg (n := n) (left := left) (by omega))
    have h2 : left - (n : Int) < 0 := by omega
    go_enter Try.func52, Try.ntmps52
    go_wp2
    go_ret
    exact ⟨g_int HV.out.symm, rfl⟩
theorem szShard_any (lo hi : Int) (A : Option Addr) (n c : Nat) (left : Int) (w : World) (hn : n ≤ maxLen) (h0 : 0 ≤ left) (h1 : left ≤ 1048576) :
    Calls Try.prog 11 #[.agg #[.int .i64 lo, .int .i64 hi, .slice A n c], .int .i64 left] w (GNum w (leftG left n)) := by
  have C := Lib.hid (fun w => szK_any A n c left w hn h0 h1)
  by_cases h : (n : Int) ≤ left
  · have h2 : 0 ≤ left - (n : Int) := by omega
    have e1 := leftG_pos h
    rw [e1] at C ⊢
    generalize left - (n : Int) = q at C h2 ⊢
    clear e1 h
    go_enter Try.func11, Try.ntmps11
    go_wp2_with fail
    refine (C.out _).mono ?_
    rintro e w1 ⟨rfl, rfl⟩
    go_wp2
    go_ret
    exact ⟨rfl, below_a1 _ _⟩
  · have e1 := leftG_neg (n := n) (left := left) (by omega)
    rw [e1] at C ⊢
    clear e1 h
    go_enter Try.func11, Try.ntmps11
    go_wp2_with fail
    refine (C.out _).mono ?_
    rintro e w1 ⟨rfl, rfl⟩
    go_wp2
    go_ret
    exact ⟨rfl, below_a1 _ _⟩

theorem toK_any (e : KE) (w : World) :
    Calls Try.prog 87 #[.agg #[.int .i64 e.f, .int .i64 e.t, .int .i64 e.w, .int .i64 e.i, .int .i64 e.v]] w fun r w' => r = .returned (.agg #[.int .i64 e.f, .int .i64 e.t, .int .i64 e.w, .int .i64 e.i, .int .i64 e.v]) ∧ Below w.heap.size w w' := by
  go_enter Try.func87, Try.ntmps87
  go_wp2
  refine bodyPost_ret (v := .agg #[.int .i64 e.f, .int .i64 e.t, .int .i64 e.w, .int .i64 e.i, .int .i64 e.v]) (by simp [results, Try.results87, go_sem]) rfl ⟨rfl, ?_⟩
  repeat (first | exact below_a3 _ _ _ _ | refine Below.setCell ?_ (by simp <;> omega) _)

set_option maxRecDepth 10000 in
set_option maxHeartbeats 1000000 in
theorem toKs_any (A : Option Addr) (n c : Nat) (es : List KE) (w : World) (hr : SlK w A n es) (hn : n ≤ 2097152) :
    Calls Try.prog 54 #[.slice A n c] w (MadeKs w es) := by
  obtain ⟨i0, hi, hz0, hz1, hz2⟩ := info_parts Try.infoSEdge
  have HR := Lib.hid hr
  clear hr
  go_enter Try.func54, Try.ntmps54
  go_wp2_with (refine wpList_make_full _ rfl (.tmp 6) (.tmp 6) 27 rfl w.heap.size 78 i0 (.agg #[.int .i64 0, .int .i64 0, .int .i64 0, .int .i64 0, .int .i64 0]) 5 Try.underlying27 hi hz0 hz1 .i64 .i64 _ _ n rfl rfl rfl rfl (by rw [hz2]; omega) (by unfold maxLen; omega) (Nat.le_refl _) ?_; intro w1 hown hg)
  have hb1 : Below w.heap.size w w1 := (Below.refl _ _).grown hg (Nat.le_refl _) (by simp)
  have hown1 : w1.ownsRow w.heap.size 78 5 (.slice (some ⟨w.heap.size, 0, none⟩) n n) n ((es.take 0 ++ List.replicate (n - 0) zero5).flatMap KE.cells) := by
    have h := hown
    rw [g_rep KE.cells zero5 5 KE.cells_len (by omega) (Value.agg #[.int .i64 0, .int .i64 0, .int .i64 0, .int .i64 0, .int .i64 0]).cells rfl n] at h
    simpa using h
  clear hown hg
  have HO1 := Lib.hid hown1
  have HB1 := Lib.hid hb1
  clear hown1 hb1
  go_loopw [4] (fun i wr => ∃ k : Nat, k ≤ n ∧ i = .int .i64 k ∧ Hid (wr.ownsRow w.heap.size 78 5 (.slice (some ⟨w.heap.size, 0, none⟩) n n) n ((es.take k ++ List.replicate (n - k) zero5).flatMap KE.cells)) ∧ Hid (Below w.heap.size w wr)) (fun i _ => n - (intOf i).toNat)
  case atStart => exact ⟨0, Nat.zero_le _, rfl, HO1, HB1⟩
  case round =>
    clear HO1 HB1
    obtain ⟨k, hk, rfl, hown, hbel⟩ := hrel
    by_cases hlt : k < n
    · obtain ⟨b, off, e, rfl, hbw, he, c0, c1, c2, c3, c4⟩ := HR.out.at_ hlt
      have c0 := (hbel.out.cell (p := ⟨b, off + k * 5, none⟩) hbw).trans c0
      have c1 := (hbel.out.cell (p := ⟨b, off + k * 5 + 1, none⟩) hbw).trans c1
      have c2 := (hbel.out.cell (p := ⟨b, off + k * 5 + 2, none⟩) hbw).trans c2
      have c3 := (hbel.out.cell (p := ⟨b, off + k * 5 + 3, none⟩) hbw).trans c3
      have c4 := (hbel.out.cell (p := ⟨b, off + k * 5 + 4, none⟩) hbw).trans c4
      have HC := Lib.hid (toK_any e wr)
      have hmk : (es.take k).length = k := by rw [List.length_take, HR.out.len]; omega
      go_wp2_with fail
      refine HC.out.mono ?_
      rintro e1 w2 ⟨rfl, hb2⟩
      have HB2 := Lib.hid hb2
      have hown2 := own_below hown.out hb2
      rw [rep5_succ n k hlt] at hown2
      have hq := fun i (hi : i < 5) => (hown2.cellAt (k * 5 + i) (by omega)).trans (flat_get KE.cells 5 KE.cells_len _ k i zero5 (g_get _ _ _ _ hmk) hi)
      have hc0 : w2.cell? ⟨w.heap.size, k * 5, none⟩ = some (.int .i64 0) := hq 0 (by omega)
      have hc1 : w2.cell? ⟨w.heap.size, k * 5 + 1, none⟩ = some (.int .i64 0) := hq 1 (by omega)
      have hc2 : w2.cell? ⟨w.heap.size, k * 5 + 2, none⟩ = some (.int .i64 0) := hq 2 (by omega)
      have hc3 : w2.cell? ⟨w.heap.size, k * 5 + 3, none⟩ = some (.int .i64 0) := hq 3 (by omega)
      have hc4 : w2.cell? ⟨w.heap.size, k * 5 + 4, none⟩ = some (.int .i64 0) := hq 4 (by omega)
      have hf0 := hown2.frozenAt (k * 5)
      have hf1 := hown2.frozenAt (k * 5 + 1)
      have hf2 := hown2.frozenAt (k * 5 + 2)
      have hf3 := hown2.frozenAt (k * 5 + 3)
      have hf4 := hown2.frozenAt (k * 5 + 4)
      have HL := Lib.hid (k_lay (e := e) hown2 hmk)
      clear hown2 hq hb2
      go_wp2
      go_roundw
      case rel =>
        refine ⟨k + 1, by omega, by go_num, Lib.hid ?_, Lib.hid (((((((g_chain hbel.out HB2.out).setCell (Nat.le_refl _) _).setCell (Nat.le_refl _) _).setCell (Nat.le_refl _) _).setCell (Nat.le_refl _) _).setCell (Nat.le_refl _) _))⟩
        rw [g_take es k e he.out, List.append_assoc]
        exact HL.out.1
      case measure => simp [intOf]; omega
    · obtain rfl : k = n := by omega
      go_wp2
      go_ret
      have hfin := hown.out
      rw [Nat.sub_self, List.replicate_zero, List.append_nil, List.take_of_length_le (by rw [HR.out.len]; exact Nat.le_refl _), ← HR.out.len] at hfin
      refine ⟨some ⟨w.heap.size, 0, none⟩, es.length, ?_, hfin, hbel.out⟩
      rw [HR.out.len]
      rfl
set_option maxRecDepth 10000 in
set_option maxHeartbeats 1000000 in
theorem toShard_any (lo hi : Int) (A : Option Addr) (n c : Nat) (es : List KE) (w : World) (hr : SlK w A n es) (hn : n ≤ 2097152) :
    Calls Try.prog 13 #[.agg #[.int .i64 lo, .int .i64 hi, .slice A n c]] w (MadeSh w lo hi es) := by
  have C := Lib.hid (fun w' (hb : Below w.heap.size w w') => toKs_any A n c es w' (hr.below hb) hn)
  clear hr
  go_enter Try.func13, Try.ntmps13
  go_wp2_with fail
  refine (C.out _ ?_).mono ?_
  · repeat (first | exact below_a3 _ _ _ _ | refine Below.setCell ?_ (by simp <;> omega) _)
  · rintro e w1 ⟨A1, c1, rfl, ho1, hb1⟩
    obtain ⟨hc, hf⟩ := bcell hb1
    have hz : w.heap.size + 1 + 1 < w1.heap.size := by have := hb1.size; simp at this; omega
    have HB := Lib.hid hb1
    clear hb1
    go_wp2
    refine bodyPost_ret (v := .agg #[.int .i64 lo, .int .i64 hi, .slice A1 es.length c1]) (by simp [results, Try.results13, go_sem, hc]) rfl ⟨A1, c1, rfl, ?_, ?_⟩
    · have ho2 := ho1
      rw [World.size_alloc, World.size_alloc, World.size_alloc] at ho2
      refine own_monoG (lo := w.heap.size + 1 + 1 + 1) ?_ (by omega)
      repeat (first | exact ho2 | refine own_lowG ?_ (by simp <;> omega) _)
    · repeat (first | exact g_chain (by repeat (first | exact below_a3 _ _ _ _ | refine Below.setCell ?_ (by simp <;> omega) _)) HB.out | refine Below.setCell ?_ (by simp <;> omega) _)
end Go.Proofs.Ytbfdhlpncblahaa
namespace Go.Proofs.Ytbfdhlpncblahaa
open Go.RowKit

theorem eqK_any (e : KE) (w : World) :
    Calls Try.prog 90 #[.agg #[.int .i64 e.f, .int .i64 e.t, .int .i64 e.w, .int .i64 e.i, .int .i64 e.v], .agg #[.int .i64 e.f, .int .i64 e.t, .int .i64 e.w, .int .i64 e.i, .int .i64 e.v]] w (GTell w true) := by
  go_enter Try.func90, Try.ntmps90
  go_wp2
  go_ret
  exact ⟨rfl, below_a2 _ _ _⟩

set_option maxRecDepth 10000 in
set_option maxHeartbeats 1000000 in
theorem eqKs_any (A B : Option Addr) (n c d : Nat) (es : List KE) (w : World) (ha : SlK w A n es) (hb : SlK w B n es) (hn : n ≤ 2097152) :
    Calls Try.prog 58 #[.slice A n c, .slice B n d] w (GTell w true) := by
  have HA := Lib.hid ha
  have HB := Lib.hid hb
  have CE := Lib.hid (fun e W => eqK_any e W)
  clear ha hb
  go_enter Try.func58, Try.ntmps58
  go_wp2
  go_loopw [5] (fun i wr => ∃ k : Nat, k ≤ n ∧ i = .int .i64 k ∧ Hid (Below w.heap.size w wr)) (fun i _ => n - (intOf i).toNat)
  case atStart => exact ⟨0, Nat.zero_le _, rfl, Lib.hid (Below.refl _ _)⟩
  case round =>
    obtain ⟨k, hk, rfl, hbel⟩ := hrel
    by_cases hlt : k < n
    · obtain ⟨b, off, e, rfl, hbw, he, c0, c1, c2, c3, c4⟩ := HA.out.at_ hlt
      obtain ⟨b', off', e', rfl, hbw', he', c0', c1', c2', c3', c4'⟩ := HB.out.at_ hlt
      have hee : e' = e := by have h1 := he.out; rw [he'.out] at h1; injection h1
      subst hee
      have c0 := (hbel.out.cell (p := ⟨b, off + k * 5, none⟩) hbw).trans c0
      have c1 := (hbel.out.cell (p := ⟨b, off + k * 5 + 1, none⟩) hbw).trans c1
      have c2 := (hbel.out.cell (p := ⟨b, off + k * 5 + 2, none⟩) hbw).trans c2
      have c3 := (hbel.out.cell (p := ⟨b, off + k * 5 + 3, none⟩) hbw).trans c3
      have c4 := (hbel.out.cell (p := ⟨b, off + k * 5 + 4, none⟩) hbw).trans c4
      have c0' := (hbel.out.cell (p := ⟨b', off' + k * 5, none⟩) hbw').trans c0'
      have c1' := (hbel.out.cell (p := ⟨b', off' + k * 5 + 1, none⟩) hbw').trans c1'
      have c2' := (hbel.out.cell (p := ⟨b', off' + k * 5 + 2, none⟩) hbw').trans c2'
      have c3' := (hbel.out.cell (p := ⟨b', off' + k * 5 + 3, none⟩) hbw').trans c3'
      have c4' := (hbel.out.cell (p := ⟨b', off' + k * 5 + 4, none⟩) hbw').trans c4'
      clear he he'
      go_wp2
      go_region_with (go_at_call 90; ((with_reducible refine (CE.out e' _).mono ?_)); rintro e1 w1 ⟨rfl, hb1⟩)
      all_goals
        go_wp2
        go_roundw
        case rel => exact ⟨k + 1, by omega, by go_num, Lib.hid (by first | exact g_chain hbel.out hb1 | exact g_chain hbel.out.drew hb1 | exact (g_chain hbel.out.drew hb1).drew)⟩
        case measure => simp [intOf]; omega
    · go_wp2
      go_ret
      exact ⟨rfl, hbel.out⟩
theorem eqShard_any (lo hi : Int) (A B : Option Addr) (n c d : Nat) (es : List KE) (w : World) (ha : SlK w A n es) (hb : SlK w B n es) (hn : n ≤ 2097152) :
    Calls Try.prog 15 #[.agg #[.int .i64 lo, .int .i64 hi, .slice A n c], .agg #[.int .i64 lo, .int .i64 hi, .slice B n d]] w (GTell w true) := by
  have CE := Lib.hid (fun W (h : Below w.heap.size w W) => eqKs_any A B n c d es W (ha.below h) (hb.below h) hn)
  clear ha hb
  go_enter Try.func15, Try.ntmps15
  go_wp2_with fail
  refine (CE.out _ (below_a2 _ _ _)).mono ?_
  rintro e w1 ⟨rfl, hb1⟩
  go_wp2
  go_ret
  exact ⟨rfl, g_chain (below_a2 _ _ _) hb1⟩
end Go.Proofs.Ytbfdhlpncblahaa
