/- Slices of bytes, of files and of operations of the call's own: no two slices of bytes lie in one block; what is owned is kept where its blocks are, and reads. -/
import Derived.Test.YtlhcobkncceodaaGreatDoorCJ
namespace Go.Proofs.YtlhcobkncceodaaGreatDoor
open Go.RowKit

def Apart (a b : Dat) : Prop := a.v.ownBlock = none ∨ a.v.ownBlock ≠ b.v.ownBlock

/-- Slices of bytes of the call's own. -/
structure OwnB (w : World) (lo : Nat) (l : List Dat) : Prop where
  own : ∀ d ∈ l, w.ownsRow lo 5 1 d.v d.n (vb d.xs)
  small : ∀ d ∈ l, ∀ x ∈ d.xs, x < 256
  apart : l.Pairwise Apart

section
variable {w w' : World} {lo : Nat} {l m : List Dat}
theorem OwnB.nil : OwnB w lo [] := ⟨by simp, by simp, List.Pairwise.nil⟩
theorem OwnB.kept {row : Option Nat} (h : OwnB w lo l) (hg : w.grownBy w' row) (hne : ∀ d ∈ l, d.v.ownBlock = none ∨ d.v.ownBlock ≠ row) : OwnB w' lo l :=
  ⟨fun d hd => (h.own d hd).kept hg (hne d hd), h.small, h.apart⟩
theorem OwnB.below (h : OwnB w lo l) (hb : Below w.heap.size w w') : OwnB w' lo l :=
  h.kept (grownBy_of_below hb none) (fun d _ => by cases d.v.ownBlock <;> simp)
theorem OwnB.drewN (h : OwnB w lo l) (k : Nat) : OwnB (w.drewN k) lo l := ⟨h.own, h.small, h.apart⟩
theorem OwnB.lt (h : OwnB w lo l) {d : Dat} (hd : d ∈ l) : ∀ k, d.v.ownBlock = some k → lo ≤ k ∧ k < w.heap.size := (h.own d hd).lt
/-- Where the blocks from lo on are as they were. -/
theorem OwnB.keep (h : OwnB w lo l) (hk : ∀ k, lo ≤ k → k < w.heap.size → w'.heap[k]? = w.heap[k]?) : OwnB w' lo l := by
  refine ⟨fun d hd => ?_, h.small, h.apart⟩
  obtain ⟨h1, h2⟩ := h.own d hd
  refine ⟨h1, ?_⟩
  rcases h2 with h2 | ⟨g, cap, cur, e, hb, hg, r⟩
  · exact .inl h2
  · exact .inr ⟨g, cap, cur, e, hb, (hk g hb (lt_of_block hg)).trans hg, r⟩
theorem OwnB.ok (h : OwnB w lo l) : ∀ d ∈ l, d.Ok w := fun d hd => by
  have ho := h.own d hd
  exact ⟨Rd.of_own ho (h.small d hd), own_cap ho⟩
theorem OwnB.far (h : OwnB w lo l) {g : Nat} {cur : Array Value} {t : TypeId} {fr : Nat × Nat} (hg : w.heap[g]? = some (.cells cur t fr)) (ht : t ≠ 5) : ∀ d ∈ l, d.v.ownBlock = none ∨ d.v.ownBlock ≠ some g := fun d hd => by
  rcases (h.own d hd).2 with ⟨e, _⟩ | ⟨g', cap, cur', e, _, hg', _⟩
  · exact .inl (by rw [e]; rfl)
  · refine .inr (fun e2 => ?_)
    rw [e] at e2
    have e3 : g' = g := by simpa [Value.ownBlock] using e2
    subst e3
    rw [hg] at hg'
    injection hg' with hg'
    injection hg' with _ h2
    exact ht h2
theorem OwnB.append (h : OwnB w lo l) (k : OwnB w lo m) (hx : ∀ a ∈ l, ∀ b ∈ m, Apart a b) : OwnB w lo (l ++ m) :=
  ⟨fun d hd => by rcases List.mem_append.1 hd with hd | hd; exact h.own d hd; exact k.own d hd,
   fun d hd => by rcases List.mem_append.1 hd with hd | hd; exact h.small d hd; exact k.small d hd,
   List.pairwise_append.2 ⟨h.apart, k.apart, hx⟩⟩
/-- Those that were there before a world, and those that were made behind it, lie apart. -/
theorem apart_of_time {B lo' : Nat} (h : OwnB w lo l) (hB : w.heap.size ≤ B) (k : OwnB w' lo' m) (hB' : B ≤ lo') : ∀ a ∈ l, ∀ b ∈ m, Apart a b := fun a ha b hb => by
  cases e : a.v.ownBlock with
  | none => exact .inl e
  | some i =>
    refine .inr (fun e2 => ?_)
    rw [e] at e2
    have h1 := h.lt ha i e
    have h2 := k.lt hb i e2.symm
    omega
theorem OwnB.one {d : Dat} (h : w.ownsRow lo 5 1 d.v d.n (vb d.xs)) (hs : ∀ x ∈ d.xs, x < 256) : OwnB w lo [d] :=
  ⟨fun e he => by simp at he; subst he; exact h, fun e he => by simp at he; subst he; exact hs, by simp⟩
theorem OwnB.mono {lo' : Nat} (h : OwnB w lo l) (hl : lo' ≤ lo) : OwnB w lo' l :=
  ⟨fun d hd => by
    obtain ⟨h1, h2⟩ := h.own d hd
    refine ⟨h1, ?_⟩
    rcases h2 with h2 | ⟨g, cap, cur, e, hb, r⟩
    · exact .inl h2
    · exact .inr ⟨g, cap, cur, e, by omega, r⟩, h.small, h.apart⟩
theorem OwnB.left (h : OwnB w lo (l ++ m)) : OwnB w lo l := ⟨fun d hd => h.own d (List.mem_append_left _ hd), fun d hd => h.small d (List.mem_append_left _ hd), (List.pairwise_append.1 h.apart).1⟩
theorem OwnB.right (h : OwnB w lo (l ++ m)) : OwnB w lo m := ⟨fun d hd => h.own d (List.mem_append_right _ hd), fun d hd => h.small d (List.mem_append_right _ hd), (List.pairwise_append.1 h.apart).2.1⟩
end

theorem own_mono {w : World} {lo lo' e size n : Nat} {v : Value} {xs : List Value} (h : w.ownsRow lo e size v n xs) (hl : lo' ≤ lo) : w.ownsRow lo' e size v n xs := by
  obtain ⟨h1, h2⟩ := h
  refine ⟨h1, ?_⟩
  rcases h2 with h2 | ⟨g, cap, cur, e, hb, r⟩
  · exact .inl h2
  · exact .inr ⟨g, cap, cur, e, by omega, r⟩
theorem own_keep {w w' : World} {lo e size n : Nat} {v : Value} {xs : List Value} (h : w.ownsRow lo e size v n xs) (hk : ∀ k, lo ≤ k → k < w.heap.size → w'.heap[k]? = w.heap[k]?) : w'.ownsRow lo e size v n xs := by
  obtain ⟨h1, h2⟩ := h
  refine ⟨h1, ?_⟩
  rcases h2 with h2 | ⟨g, cap, cur, e, hb, hg, r⟩
  · exact .inl h2
  · exact .inr ⟨g, cap, cur, e, hb, (hk g hb (lt_of_block hg)).trans hg, r⟩

theorem own_set_low {w : World} {lo e size n : Nat} {v : Value} {xs : List Value} (h : w.ownsRow lo e size v n xs) {p : Addr} (hp : p.block < lo) (u : Value) : (w.setCell p u).ownsRow lo e size v n xs :=
  own_keep h (fun k hk _ => Below.heap_setCell w p u k (by omega))

section
variable {w w' : World} {lo c : Nat} {A : Option Addr} {es : List Ent} {os : List OpE}
end

section
variable {w w' : World} {lo c d : Nat} {A B : Option Addr} {es : List Ent} {os : List OpE}
end

/-- A disk as a value. -/
def diskV (room fuse : Int) (A : Option Addr) (n c : Nat) (B : Option Addr) (m d : Nat) : Value := .agg #[.int .i64 room, .int .i64 fuse, .slice A n c, .slice B m d]
end Go.Proofs.YtlhcobkncceodaaGreatDoor
