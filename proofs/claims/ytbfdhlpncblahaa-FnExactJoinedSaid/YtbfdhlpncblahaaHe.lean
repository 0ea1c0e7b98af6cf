/- Lists of shards in memory: that read, that are the call's own (plain lemmas over the model; no condition). -/
import Derived.Test.YtbfdhlpncblahaaOnlyB
import Derived.Test.YtbfdhlpncblahaaKEB
namespace Go.Proofs.Ytbfdhlpncblahaa
open Go.RowKit

/-- A shard. -/
structure HE where
  lo : Int
  hi : Int
  A : Option Addr
  n : Nat
  c : Nat
  es : List KE
def HE.v (e : HE) : Value := .slice e.A e.n e.c
def HE.w (e : HE) : Value := .agg #[.int .i64 e.lo, .int .i64 e.hi, .slice e.A e.n e.c]
def HE.cells (e : HE) : List Value := [.int .i64 e.lo, .int .i64 e.hi, .slice e.A e.n e.c]
/-- What it says, without where it lies. -/
def HE.sd (e : HE) : Int × Int × List KE := (e.lo, e.hi, e.es)
theorem HE.cells_len (e : HE) : e.cells.length = 3 := rfl
theorem HE.cells_one (e : HE) : ∀ u ∈ e.cells, u.oneCell' = true := by
  intro u hu
  simp only [HE.cells, List.mem_cons, List.not_mem_nil, or_false] at hu
  rcases hu with rfl | rfl | rfl <;> rfl
theorem he_one (hs : List HE) : ∀ u ∈ hs.flatMap HE.cells, u.oneCell' = true := fun u hu => by
  obtain ⟨e, _, he⟩ := List.mem_flatMap.1 hu
  exact e.cells_one u he
structure HE.Ok (w : World) (e : HE) : Prop where
  rd : SlK w e.A e.n e.es
  cap : e.n ≤ e.c
theorem HE.Ok.below {w w' : World} {e : HE} (h : e.Ok w) (hb : Below w.heap.size w w') : e.Ok w' := ⟨h.rd.below hb, h.cap⟩
/-- A slice of shards in memory. -/
structure SlH (w : World) (A : Option Addr) (n : Nat) (bs : List HE) : Prop where
  len : bs.length = n
  row : Row w 3 A n (bs.flatMap HE.cells)
  each : ∀ e ∈ bs, e.Ok w
def ApartH (a b : HE) : Prop := a.v.ownBlock = none ∨ a.v.ownBlock ≠ b.v.ownBlock
/-- Rows of shard edges of the call's own. -/
structure OwnHL (w : World) (lo : Nat) (l : List HE) : Prop where
  own : ∀ d ∈ l, w.ownsRow lo 78 5 d.v d.n (d.es.flatMap KE.cells)
  len : ∀ d ∈ l, d.es.length = d.n
  apart : l.Pairwise ApartH
section
variable {w w' : World} {lo : Nat} {l m : List HE}
theorem OwnHL.nil : OwnHL w lo [] := ⟨by simp, by simp, List.Pairwise.nil⟩
theorem OwnHL.kept {row : Option Nat} (h : OwnHL w lo l) (hg : w.grownBy w' row) (hne : ∀ d ∈ l, d.v.ownBlock = none ∨ d.v.ownBlock ≠ row) : OwnHL w' lo l :=
  ⟨fun d hd => (h.own d hd).kept hg (hne d hd), h.len, h.apart⟩
theorem OwnHL.below (h : OwnHL w lo l) (hb : Below w.heap.size w w') : OwnHL w' lo l :=
  ⟨fun d hd => own_below (h.own d hd) hb, h.len, h.apart⟩
theorem OwnHL.lt (h : OwnHL w lo l) {d : HE} (hd : d ∈ l) : ∀ k, d.v.ownBlock = some k → lo ≤ k ∧ k < w.heap.size := (h.own d hd).lt
theorem OwnHL.ok (h : OwnHL w lo l) : ∀ d ∈ l, d.Ok w := fun d hd => ⟨SlK.of_own (h.own d hd) (h.len d hd), bat_cap (h.own d hd)⟩
theorem OwnHL.far (h : OwnHL w lo l) {g : Nat} {cur : Array Value} {t : TypeId} {fr : Nat × Nat} (hg : w.heap[g]? = some (.cells cur t fr)) (ht : t ≠ 78) : ∀ d ∈ l, d.v.ownBlock = none ∨ d.v.ownBlock ≠ some g := fun d hd => by
  rcases (h.own d hd).2 with ⟨e, _⟩ | ⟨g', cap, cur', e, _, hg', _⟩
  · exact .inl (by rw [e]; rfl)
  · refine .inr (fun e2 => ?_)
    rw [e] at e2
    have e3 : g' = g := by simpa [Value.ownBlock] using e2
    subst e3
    rw [hg] at hg'
    injection hg' with hg'
    injection hg' with _ h2
    exact ht h2
theorem OwnHL.append (h : OwnHL w lo l) (k : OwnHL w lo m) (hx : ∀ a ∈ l, ∀ b ∈ m, ApartH a b) : OwnHL w lo (l ++ m) :=
  ⟨fun d hd => by rcases List.mem_append.1 hd with hd | hd; exact h.own d hd; exact k.own d hd,
   fun d hd => by rcases List.mem_append.1 hd with hd | hd; exact h.len d hd; exact k.len d hd,
   List.pairwise_append.2 ⟨h.apart, k.apart, hx⟩⟩
theorem apartH_of_time {B lo' : Nat} (h : OwnHL w lo l) (hB : w.heap.size ≤ B) (k : OwnHL w' lo' m) (hB' : B ≤ lo') : ∀ a ∈ l, ∀ b ∈ m, ApartH a b := fun a ha b hb => by
  cases e : a.v.ownBlock with
  | none => exact .inl e
  | some i =>
    refine .inr (fun e2 => ?_)
    rw [e] at e2
    have h1 := h.lt ha i e
    have h2 := k.lt hb i e2.symm
    omega
theorem OwnHL.one {d : HE} (h : w.ownsRow lo 78 5 d.v d.n (d.es.flatMap KE.cells)) (hs : d.es.length = d.n) : OwnHL w lo [d] :=
  ⟨fun e he => by simp at he; subst he; exact h, fun e he => by simp at he; subst he; exact hs, by simp⟩
theorem OwnHL.mono {lo' : Nat} (h : OwnHL w lo l) (hl : lo' ≤ lo) : OwnHL w lo' l := ⟨fun d hd => own_monoG (h.own d hd) hl, h.len, h.apart⟩
theorem OwnHL.setLow (h : OwnHL w lo l) {p : Addr} (hp : p.block < lo) (u : Value) : OwnHL (w.setCell p u) lo l := ⟨fun d hd => own_lowG (h.own d hd) hp u, h.len, h.apart⟩
theorem OwnHL.turn0 {d d' : HE} (h : OwnHL w lo (l ++ d :: m)) (hk : ∀ e ∈ l ++ m, w'.ownsRow lo 78 5 e.v e.n (e.es.flatMap KE.cells)) (ho : w'.ownsRow lo 78 5 d'.v d'.n (d'.es.flatMap KE.cells)) (hs : d'.es.length = d'.n)
    (hx : ∀ a ∈ l, ApartH a d') (hy : ∀ b ∈ m, ApartH d' b) : OwnHL w' lo (l ++ d' :: m) := by
  obtain ⟨a1, a2, a3⟩ := List.pairwise_append.1 h.apart
  obtain ⟨b1, b2⟩ := List.pairwise_cons.1 a2
  refine ⟨fun e he => ?_, fun e he => ?_, List.pairwise_append.2 ⟨a1, List.pairwise_cons.2 ⟨hy, b2⟩, fun e he f hf => ?_⟩⟩
  · rcases List.mem_append.1 he with he | he
    · exact hk e (List.mem_append_left _ he)
    · rcases List.mem_cons.1 he with rfl | he
      · exact ho
      · exact hk e (List.mem_append_right _ he)
  · rcases List.mem_append.1 he with he | he
    · exact h.len e (List.mem_append_left _ he)
    · rcases List.mem_cons.1 he with rfl | he
      · exact hs
      · exact h.len e (List.mem_append_right _ (by simp [he]))
  · rcases List.mem_cons.1 hf with rfl | hf
    · exact hx e he
    · exact a3 e he f (by simp [hf])
/-- One row is written, in its own block. -/
theorem OwnHL.turn {d d' : HE} (h : OwnHL w lo (l ++ d :: m)) (hg : w.grownBy w' d.v.ownBlock) (hb : d'.v.ownBlock = d.v.ownBlock) (ho : w'.ownsRow lo 78 5 d'.v d'.n (d'.es.flatMap KE.cells)) (hs : d'.es.length = d'.n) :
    OwnHL w' lo (l ++ d' :: m) := by
  obtain ⟨a1, a2, a3⟩ := List.pairwise_append.1 h.apart
  obtain ⟨b1, b2⟩ := List.pairwise_cons.1 a2
  refine h.turn0 (fun e he => ?_) ho hs (fun a ha => ?_) (fun b hb' => ?_)
  · rcases List.mem_append.1 he with he | he
    · exact (h.own e (List.mem_append_left _ he)).kept hg (a3 e he d (by simp))
    · refine (h.own e (List.mem_append_right _ (by simp [he]))).kept hg ?_
      rcases b1 e he with h1 | h1
      · rw [h1]
        cases e.v.ownBlock <;> simp
      · exact .inr (fun e2 => h1 e2.symm)
  · have := a3 a ha d (by simp)
    unfold ApartH at *
    rw [hb]
    exact this
  · have := b1 b hb'
    unfold ApartH at *
    rw [hb]
    exact this
end
/-- Shards of the call's own. -/
structure OwnH (w : World) (lo : Nat) (A : Option Addr) (n c : Nat) (bs : List HE) : Prop where
  row : w.ownsRow lo 29 3 (.slice A n c) n (bs.flatMap HE.cells)
  len : bs.length = n
  dat : OwnHL w lo bs
section
variable {w w' : World} {n c lo : Nat} {A : Option Addr} {bs : List HE}
theorem SlH.below (h : SlH w A n bs) (hb : Below w.heap.size w w') : SlH w' A n bs := ⟨h.len, h.row.keep hb.size hb.block, fun e he => (h.each e he).below hb⟩
theorem SlH.at_ {j : Nat} (h : SlH w A n bs) (hj : j < n) : ∃ (b off : Nat) (e : HE), A = some ⟨b, off, none⟩ ∧ b < w.heap.size ∧ Hid (bs[j]? = some e) ∧ Hid (e.Ok w) ∧ w.cell? ⟨b, off + j * 3, none⟩ = some (.int .i64 e.lo) ∧ w.cell? ⟨b, off + j * 3 + 1, none⟩ = some (.int .i64 e.hi) ∧ w.cell? ⟨b, off + j * 3 + 2, none⟩ = some (.slice e.A e.n e.c) := by
  obtain ⟨b, off, rfl, hb, hc⟩ := h.row.lies (by omega)
  have hl : j < bs.length := by have := h.len; omega
  have he : bs[j]? = some bs[j] := List.getElem?_eq_getElem hl
  refine ⟨b, off, bs[j], rfl, hb, he, h.each _ (List.getElem_mem hl), ?_, ?_, ?_⟩
  · exact hc (j * 3) _ (flat_get HE.cells 3 HE.cells_len bs j 0 _ he (by omega))
  · exact hc (j * 3 + 1) _ (flat_get HE.cells 3 HE.cells_len bs j 1 _ he (by omega))
  · exact hc (j * 3 + 2) _ (flat_get HE.cells 3 HE.cells_len bs j 2 _ he (by omega))
theorem OwnH.sl (h : OwnH w lo A n c bs) : SlH w A n bs := ⟨h.len, Row.of_own h.row, h.dat.ok⟩
theorem OwnH.below (h : OwnH w lo A n c bs) (hb : Below w.heap.size w w') : OwnH w' lo A n c bs := ⟨own_below h.row hb, h.len, h.dat.below hb⟩
theorem OwnH.mono {lo' : Nat} (h : OwnH w lo A n c bs) (hl : lo' ≤ lo) : OwnH w lo' A n c bs := ⟨own_monoG h.row hl, h.len, h.dat.mono hl⟩
/-- Where the blocks that are written were made elsewhere in time. -/
theorem OwnH.kept {row : Option Nat} (h : OwnH w lo A n c bs) (hg : w.grownBy w' row) (hne : ∀ k, row = some k → ¬ (lo ≤ k ∧ k < w.heap.size)) : OwnH w' lo A n c bs := by
  have hx : ∀ {e size m : Nat} {v : Value} {xs : List Value}, w.ownsRow lo e size v m xs → v.ownBlock = none ∨ v.ownBlock ≠ row := fun ho => by
    rename_i v _
    cases hv : v.ownBlock with
    | none => exact .inl rfl
    | some k => exact .inr (fun e => hne k e.symm (ho.lt k hv))
  exact ⟨h.row.kept hg (hx h.row), h.len, h.dat.kept hg (fun d hd => hx (h.dat.own d hd))⟩
end
theorem OwnHL.grow {w w' : World} {lo lo' e size n : Nat} {l : List HE} {v : Value} {xs : List Value} (h : OwnHL w lo l) (hv : w.ownsRow lo' e size v n xs) (hne : e ≠ 78) (hg : w.grownBy w' v.ownBlock) : OwnHL w' lo l := by
  rcases hv.2 with ⟨rfl, _⟩ | ⟨g, cap, cur, rfl, _, hcell, _⟩
  · exact h.kept hg (fun d _ => by cases d.v.ownBlock <;> simp [Value.ownBlock])
  · exact h.kept hg (h.far hcell hne)
theorem Try.infoShard : (Try.prog.info? 29).map (fun i => (i.zero, i.size, i.bytes)) = some (some (.agg #[.int .i64 0, .int .i64 0, .slice none 0 0]), 3, 40) := by kernel_rfl
/-- New shards with these data. -/
def MadeHs (w : World) (ls : List (Int × Int × List KE)) (e : Ending) (w' : World) : Prop :=
  ∃ A n c bs, e = .returned (.slice A n c) ∧ OwnH w' w.heap.size A n c bs ∧ bs.map HE.sd = ls ∧ Below w.heap.size w w'
end Go.Proofs.Ytbfdhlpncblahaa
