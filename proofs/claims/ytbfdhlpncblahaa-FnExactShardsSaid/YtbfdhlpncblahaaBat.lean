/- Batches of records in memory: that read, that are the call's own (plain lemmas over the model; no condition). -/
import Derived.Test.YtbfdhlpncblahaaOnlyB
import Derived.Test.YtbfdhlpncblahaaRecW
import Derived.Test.YtbfdhlpncblahaaRecEq
namespace Go.Proofs.Ytbfdhlpncblahaa
open Go.RowKit

/-- A batch. -/
structure BE where
  A : Option Addr
  n : Nat
  c : Nat
  es : List GE
def BE.v (e : BE) : Value := .slice e.A e.n e.c
def BE.cells (e : BE) : List Value := [.slice e.A e.n e.c]
theorem BE.cells_len (e : BE) : e.cells.length = 1 := rfl
theorem BE.cells_one (e : BE) : ∀ u ∈ e.cells, u.oneCell' = true := by
  intro u hu
  simp only [BE.cells, List.mem_cons, List.not_mem_nil, or_false] at hu
  subst hu
  rfl
structure BE.Ok (w : World) (e : BE) : Prop where
  rd : SlG w e.A e.n e.es
  cap : e.n ≤ e.c
theorem BE.Ok.below {w w' : World} {e : BE} (h : e.Ok w) (hb : Below w.heap.size w w') : e.Ok w' := ⟨h.rd.below hb, h.cap⟩
/-- A slice of batches in memory. -/
structure SlT (w : World) (A : Option Addr) (n : Nat) (bs : List BE) : Prop where
  len : bs.length = n
  row : Row w 1 A n (bs.flatMap BE.cells)
  each : ∀ e ∈ bs, e.Ok w
def ApartT (a b : BE) : Prop := a.v.ownBlock = none ∨ a.v.ownBlock ≠ b.v.ownBlock
/-- Rows of records of the call's own. -/
structure OwnL (w : World) (lo : Nat) (l : List BE) : Prop where
  own : ∀ d ∈ l, w.ownsRow lo 82 3 d.v d.n (d.es.flatMap GE.cells)
  len : ∀ d ∈ l, d.es.length = d.n
  apart : l.Pairwise ApartT
section
variable {w w' : World} {lo : Nat} {l m : List BE}
theorem OwnL.nil : OwnL w lo [] := ⟨by simp, by simp, List.Pairwise.nil⟩
theorem OwnL.kept {row : Option Nat} (h : OwnL w lo l) (hg : w.grownBy w' row) (hne : ∀ d ∈ l, d.v.ownBlock = none ∨ d.v.ownBlock ≠ row) : OwnL w' lo l :=
  ⟨fun d hd => (h.own d hd).kept hg (hne d hd), h.len, h.apart⟩
theorem OwnL.below (h : OwnL w lo l) (hb : Below w.heap.size w w') : OwnL w' lo l :=
  ⟨fun d hd => own_below (h.own d hd) hb, h.len, h.apart⟩
theorem OwnL.lt (h : OwnL w lo l) {d : BE} (hd : d ∈ l) : ∀ k, d.v.ownBlock = some k → lo ≤ k ∧ k < w.heap.size := (h.own d hd).lt
theorem OwnL.ok (h : OwnL w lo l) : ∀ d ∈ l, d.Ok w := fun d hd => ⟨SlG.of_own (h.own d hd) (h.len d hd), bat_cap (h.own d hd)⟩
theorem OwnL.far (h : OwnL w lo l) {g : Nat} {cur : Array Value} {t : TypeId} {fr : Nat × Nat} (hg : w.heap[g]? = some (.cells cur t fr)) (ht : t ≠ 82) : ∀ d ∈ l, d.v.ownBlock = none ∨ d.v.ownBlock ≠ some g := fun d hd => by
  rcases (h.own d hd).2 with ⟨e, _⟩ | ⟨g', cap, cur', e, _, hg', _⟩
  · exact .inl (by rw [e]; rfl)
  · refine .inr (fun e2 => ?_)
    rw [e] at e2
    have e3 : g' = g := by simpa [Value.ownBlock] using e2
    subst e3
    rw [hg] at hg'
    injection hg' with hg'
    injection hg' with _ h2
    exact ht h2
theorem OwnL.append (h : OwnL w lo l) (k : OwnL w lo m) (hx : ∀ a ∈ l, ∀ b ∈ m, ApartT a b) : OwnL w lo (l ++ m) :=
  ⟨fun d hd => by rcases List.mem_append.1 hd with hd | hd; exact h.own d hd; exact k.own d hd,
   fun d hd => by rcases List.mem_append.1 hd with hd | hd; exact h.len d hd; exact k.len d hd,
   List.pairwise_append.2 ⟨h.apart, k.apart, hx⟩⟩
theorem apartT_of_time {B lo' : Nat} (h : OwnL w lo l) (hB : w.heap.size ≤ B) (k : OwnL w' lo' m) (hB' : B ≤ lo') : ∀ a ∈ l, ∀ b ∈ m, ApartT a b := fun a ha b hb => by
  cases e : a.v.ownBlock with
  | none => exact .inl e
  | some i =>
    refine .inr (fun e2 => ?_)
    rw [e] at e2
    have h1 := h.lt ha i e
    have h2 := k.lt hb i e2.symm
    omega
theorem OwnL.one {d : BE} (h : w.ownsRow lo 82 3 d.v d.n (d.es.flatMap GE.cells)) (hs : d.es.length = d.n) : OwnL w lo [d] :=
  ⟨fun e he => by simp at he; subst he; exact h, fun e he => by simp at he; subst he; exact hs, by simp⟩
theorem OwnL.mono {lo' : Nat} (h : OwnL w lo l) (hl : lo' ≤ lo) : OwnL w lo' l := ⟨fun d hd => own_monoG (h.own d hd) hl, h.len, h.apart⟩
theorem OwnL.setLow (h : OwnL w lo l) {p : Addr} (hp : p.block < lo) (u : Value) : OwnL (w.setCell p u) lo l := ⟨fun d hd => own_lowG (h.own d hd) hp u, h.len, h.apart⟩
theorem OwnL.turn {d : BE} {ys : List GE} (h : OwnL w lo (l ++ d :: m)) (hg : w.grownBy w' d.v.ownBlock) (ho : w'.ownsRow lo 82 3 d.v d.n (ys.flatMap GE.cells)) (hs : ys.length = d.n) :
    OwnL w' lo (l ++ (⟨d.A, d.n, d.c, ys⟩ : BE) :: m) := by
  obtain ⟨a1, a2, a3⟩ := List.pairwise_append.1 h.apart
  obtain ⟨b1, b2⟩ := List.pairwise_cons.1 a2
  have hl : ∀ e ∈ l, w'.ownsRow lo 82 3 e.v e.n (e.es.flatMap GE.cells) := fun e he => (h.own e (List.mem_append_left _ he)).kept hg (a3 e he d (by simp))
  have hm : ∀ e ∈ m, w'.ownsRow lo 82 3 e.v e.n (e.es.flatMap GE.cells) := fun e he => by
    refine (h.own e (List.mem_append_right _ (by simp [he]))).kept hg ?_
    rcases b1 e he with h1 | h1
    · rw [h1]
      cases e.v.ownBlock <;> simp
    · exact .inr (fun e2 => h1 e2.symm)
  refine ⟨fun e he => ?_, fun e he => ?_, List.pairwise_append.2 ⟨a1, List.pairwise_cons.2 ⟨fun e he => b1 e he, b2⟩, fun e he f hf => ?_⟩⟩
  · rcases List.mem_append.1 he with he | he
    · exact hl e he
    · rcases List.mem_cons.1 he with rfl | he
      · exact ho
      · exact hm e he
  · rcases List.mem_append.1 he with he | he
    · exact h.len e (List.mem_append_left _ he)
    · rcases List.mem_cons.1 he with rfl | he
      · exact hs
      · exact h.len e (List.mem_append_right _ (by simp [he]))
  · rcases List.mem_cons.1 hf with rfl | hf
    · exact a3 e he d (by simp)
    · exact a3 e he f (by simp [hf])
end
/-- Batches of the call's own. -/
structure OwnT (w : World) (lo : Nat) (A : Option Addr) (n c : Nat) (bs : List BE) : Prop where
  row : w.ownsRow lo 109 1 (.slice A n c) n (bs.flatMap BE.cells)
  len : bs.length = n
  dat : OwnL w lo bs
section
variable {w w' : World} {n c lo : Nat} {A : Option Addr} {bs : List BE}
theorem SlT.below (h : SlT w A n bs) (hb : Below w.heap.size w w') : SlT w' A n bs := ⟨h.len, h.row.keep hb.size hb.block, fun e he => (h.each e he).below hb⟩
theorem SlT.at_ {j : Nat} (h : SlT w A n bs) (hj : j < n) : ∃ (b off : Nat) (e : BE), A = some ⟨b, off, none⟩ ∧ b < w.heap.size ∧ Hid (bs[j]? = some e) ∧ Hid (e.Ok w) ∧ w.cell? ⟨b, off + j, none⟩ = some (.slice e.A e.n e.c) := by
  obtain ⟨b, off, rfl, hb, hc⟩ := h.row.lies (by omega)
  have hl : j < bs.length := by have := h.len; omega
  have he : bs[j]? = some bs[j] := List.getElem?_eq_getElem hl
  refine ⟨b, off, bs[j], rfl, hb, he, h.each _ (List.getElem_mem hl), ?_⟩
  have h1 := hc (j * 1) _ (flat_get BE.cells 1 BE.cells_len bs j 0 _ he (by omega))
  rwa [Nat.mul_one] at h1
theorem OwnT.sl (h : OwnT w lo A n c bs) : SlT w A n bs := ⟨h.len, Row.of_own h.row, h.dat.ok⟩
theorem OwnT.below (h : OwnT w lo A n c bs) (hb : Below w.heap.size w w') : OwnT w' lo A n c bs := ⟨own_below h.row hb, h.len, h.dat.below hb⟩
theorem OwnT.mono {lo' : Nat} (h : OwnT w lo A n c bs) (hl : lo' ≤ lo) : OwnT w lo' A n c bs := ⟨own_monoG h.row hl, h.len, h.dat.mono hl⟩
/-- Where the blocks that are written were made elsewhere in time. -/
theorem OwnT.kept {row : Option Nat} (h : OwnT w lo A n c bs) (hg : w.grownBy w' row) (hne : ∀ k, row = some k → ¬ (lo ≤ k ∧ k < w.heap.size)) : OwnT w' lo A n c bs := by
  have hx : ∀ {e size m : Nat} {v : Value} {xs : List Value}, w.ownsRow lo e size v m xs → v.ownBlock = none ∨ v.ownBlock ≠ row := fun ho => by
    rename_i v _
    cases hv : v.ownBlock with
    | none => exact .inl rfl
    | some k => exact .inr (fun e => hne k e.symm (ho.lt k hv))
  exact ⟨h.row.kept hg (hx h.row), h.len, h.dat.kept hg (fun d hd => hx (h.dat.own d hd))⟩
end
theorem OwnL.grow {w w' : World} {lo lo' e size n : Nat} {l : List BE} {v : Value} {xs : List Value} (h : OwnL w lo l) (hv : w.ownsRow lo' e size v n xs) (hne : e ≠ 82) (hg : w.grownBy w' v.ownBlock) : OwnL w' lo l := by
  rcases hv.2 with ⟨rfl, _⟩ | ⟨g, cap, cur, rfl, _, hcell, _⟩
  · exact h.kept hg (fun d _ => by cases d.v.ownBlock <;> simp [Value.ownBlock])
  · exact h.kept hg (h.far hcell hne)
theorem Try.infoBatch : (Try.prog.info? 109).map (fun i => (i.zero, i.size, i.bytes)) = some (some (.agg #[.slice none 0 0]), 1, 24) := by kernel_rfl
theorem bat_built (w : World) : (w.alloc (.cells #[] 109)).ownsRow w.heap.size 109 1 (.slice (some ⟨w.heap.size, 0, none⟩) 0 0) 0 [] :=
  World.ownsRow_lit w #[] 0 (Nat.le_refl _) (by unfold maxLen; omega) rfl
theorem bat_reads (w : World) (e : BE) (t : TypeId) (g : Nat) (hg : g = w.heap.size) : Reads (w.alloc (.cells #[.slice e.A e.n e.c] t)) (g + 1) 1 (some ⟨g, 0, none⟩) 1 (BE.cells e) := by
  subst hg
  refine ⟨rfl, fun _ => ⟨_, rfl, by simp, fun j x hj => ?_⟩⟩
  match j, hj with
  | 0, hj => simp [BE.cells] at hj; subst hj; simp [Addr.add]
/-- New batches with these records. -/
def MadeT (w : World) (ls : List (List GE)) (e : Ending) (w' : World) : Prop :=
  ∃ A n c bs, e = .returned (.slice A n c) ∧ OwnT w' w.heap.size A n c bs ∧ bs.map BE.es = ls ∧ Below w.heap.size w w'
end Go.Proofs.Ytbfdhlpncblahaa
