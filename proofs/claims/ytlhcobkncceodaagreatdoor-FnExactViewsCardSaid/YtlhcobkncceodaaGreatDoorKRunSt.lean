/- Blocks that hold a run in memory, and may be written; rows of the call's own beside them (plain lemmas over the model; no condition). -/
import Derived.Test.YtlhcobkncceodaaGreatDoorKRunB
import Derived.Test.YtlhcobkncceodaaGreatDoorKSetB
namespace Go.Proofs.YtlhcobkncceodaaGreatDoor
open Go.RowKit
set_option linter.unusedVariables false

theorem grown_cell (w : World) (b i : Nat) (u : Value) : w.grownBy (w.setCell ⟨b, i, none⟩ u) (some b) :=
  ⟨rfl, rfl, rfl, by simp, fun k _ hk => Below.heap_setCell w ⟨b, i, none⟩ u k (fun e => hk (by rw [show k = b from e]))⟩
/-- Eight cells of one run stored. -/
def layR (w : World) (b : Nat) (x0 x1 x2 x3 x4 x5 x6 x7 : Value) : World :=
  (((((((w.setCell ⟨b, 0, none⟩ x0).setCell ⟨b, 1, none⟩ x1).setCell ⟨b, 2, none⟩ x2).setCell ⟨b, 3, none⟩ x3).setCell ⟨b, 4, none⟩ x4).setCell ⟨b, 5, none⟩ x5).setCell ⟨b, 6, none⟩ x6).setCell ⟨b, 7, none⟩ x7
section
variable {w w' : World} {b : Nat} {x0 x1 x2 x3 x4 x5 x6 x7 y0 y1 y2 y3 y4 y5 y6 y7 : Value} {t : TypeId}
theorem grown_trans {a b c : World} {row : Option Nat} (h : a.grownBy b row) (k : b.grownBy c row) : a.grownBy c row := h.trans k
theorem layR_grown (w : World) (b : Nat) (x0 x1 x2 x3 x4 x5 x6 x7 : Value) : w.grownBy (layR w b x0 x1 x2 x3 x4 x5 x6 x7) (some b) :=
  (((((((grown_cell w b 0 x0).trans (grown_cell _ b 1 x1)).trans (grown_cell _ b 2 x2)).trans (grown_cell _ b 3 x3)).trans (grown_cell _ b 4 x4)).trans (grown_cell _ b 5 x5)).trans (grown_cell _ b 6 x6)).trans (grown_cell _ b 7 x7)
theorem layR_blk (h : Blk w b #[y0, y1, y2, y3, y4, y5, y6, y7] t) : Blk (layR w b x0 x1 x2 x3 x4 x5 x6 x7) b #[x0, x1, x2, x3, x4, x5, x6, x7] t := by
  have h1 : Blk (w.setCell ⟨b, 0, none⟩ x0) b #[x0, y1, y2, y3, y4, y5, y6, y7] t := Blk.set h 0 x0
  have h2 : Blk ((w.setCell ⟨b, 0, none⟩ x0).setCell ⟨b, 1, none⟩ x1) b #[x0, x1, y2, y3, y4, y5, y6, y7] t := Blk.set h1 1 x1
  have h3 : Blk (((w.setCell ⟨b, 0, none⟩ x0).setCell ⟨b, 1, none⟩ x1).setCell ⟨b, 2, none⟩ x2) b #[x0, x1, x2, y3, y4, y5, y6, y7] t := Blk.set h2 2 x2
  have h4 : Blk ((((w.setCell ⟨b, 0, none⟩ x0).setCell ⟨b, 1, none⟩ x1).setCell ⟨b, 2, none⟩ x2).setCell ⟨b, 3, none⟩ x3) b #[x0, x1, x2, x3, y4, y5, y6, y7] t := Blk.set h3 3 x3
  have h5 : Blk (((((w.setCell ⟨b, 0, none⟩ x0).setCell ⟨b, 1, none⟩ x1).setCell ⟨b, 2, none⟩ x2).setCell ⟨b, 3, none⟩ x3).setCell ⟨b, 4, none⟩ x4) b #[x0, x1, x2, x3, x4, y5, y6, y7] t := Blk.set h4 4 x4
  have h6 : Blk ((((((w.setCell ⟨b, 0, none⟩ x0).setCell ⟨b, 1, none⟩ x1).setCell ⟨b, 2, none⟩ x2).setCell ⟨b, 3, none⟩ x3).setCell ⟨b, 4, none⟩ x4).setCell ⟨b, 5, none⟩ x5) b #[x0, x1, x2, x3, x4, x5, y6, y7] t := Blk.set h5 5 x5
  have h7 : Blk (((((((w.setCell ⟨b, 0, none⟩ x0).setCell ⟨b, 1, none⟩ x1).setCell ⟨b, 2, none⟩ x2).setCell ⟨b, 3, none⟩ x3).setCell ⟨b, 4, none⟩ x4).setCell ⟨b, 5, none⟩ x5).setCell ⟨b, 6, none⟩ x6) b #[x0, x1, x2, x3, x4, x5, x6, y7] t := Blk.set h6 6 x6
  have h8 : Blk ((((((((w.setCell ⟨b, 0, none⟩ x0).setCell ⟨b, 1, none⟩ x1).setCell ⟨b, 2, none⟩ x2).setCell ⟨b, 3, none⟩ x3).setCell ⟨b, 4, none⟩ x4).setCell ⟨b, 5, none⟩ x5).setCell ⟨b, 6, none⟩ x6).setCell ⟨b, 7, none⟩ x7) b #[x0, x1, x2, x3, x4, x5, x6, x7] t := Blk.set h7 7 x7
  exact h8
/-- What a block of eight cells reads. -/
theorem Blk.eight (h : Blk w b #[y0, y1, y2, y3, y4, y5, y6, y7] t) : b < w.heap.size ∧ w.cell? ⟨b, 0, none⟩ = some y0 ∧ w.cell? ⟨b, 1, none⟩ = some y1 ∧ w.cell? ⟨b, 2, none⟩ = some y2 ∧ w.cell? ⟨b, 3, none⟩ = some y3 ∧ w.cell? ⟨b, 4, none⟩ = some y4 ∧ w.cell? ⟨b, 5, none⟩ = some y5 ∧ w.cell? ⟨b, 6, none⟩ = some y6 ∧ w.cell? ⟨b, 7, none⟩ = some y7 :=
  ⟨h.lt, h.cell rfl, h.cell rfl, h.cell rfl, h.cell rfl, h.cell rfl, h.cell rfl, h.cell rfl, h.cell rfl⟩
theorem Blk.eightF (h : Blk w b #[y0, y1, y2, y3, y4, y5, y6, y7] t) : w.frozen? ⟨b, 0, none⟩ = false ∧ w.frozen? ⟨b, 1, none⟩ = false ∧ w.frozen? ⟨b, 2, none⟩ = false ∧ w.frozen? ⟨b, 3, none⟩ = false ∧ w.frozen? ⟨b, 4, none⟩ = false ∧ w.frozen? ⟨b, 5, none⟩ = false ∧ w.frozen? ⟨b, 6, none⟩ = false ∧ w.frozen? ⟨b, 7, none⟩ = false :=
  ⟨h.frozen 0, h.frozen 1, h.frozen 2, h.frozen 3, h.frozen 4, h.frozen 5, h.frozen 6, h.frozen 7⟩
end
/-- A row of one type does not lie in a block of another. -/
theorem own_kind {w : World} {lo e size n b : Nat} {v : Value} {xs : List Value} {cs : Array Value} {t : TypeId} (h : w.ownsRow lo e size v n xs) (hb : Blk w b cs t) (hne : e ≠ t) : v.ownBlock ≠ some b := by
  rcases h.2 with ⟨rfl, _⟩ | ⟨g, cap, cur, rfl, _, hg, _⟩
  · simp [Value.ownBlock]
  · intro e3
    have e3 : g = b := by simpa [Value.ownBlock] using e3
    subst e3
    have h9 : w.heap[g]? = some (.cells cs t (0, 0)) := hb
    rw [hg] at h9
    injection h9 with h9
    injection h9 with _ h2
    exact absurd h2 hne
theorem own_kept {w w' : World} {lo e size n g : Nat} {v : Value} {xs : List Value} (h : w.ownsRow lo e size v n xs) (hg : w.grownBy w' (some g)) (hne : v.ownBlock ≠ some g) : w'.ownsRow lo e size v n xs :=
  h.kept hg (.inr hne)
/-- A row of later days lies elsewhere. -/
theorem own_time {w2 : World} {v1 v2 : Value} {l1 sz lo2 e s n : Nat} {xs : List Value} (hlt : ∀ b, v1.ownBlock = some b → l1 ≤ b ∧ b < sz) (h2 : w2.ownsRow lo2 e s v2 n xs) (hle : sz ≤ lo2) : v1.ownBlock = none ∨ v2.ownBlock ≠ v1.ownBlock := by
  cases hv : v1.ownBlock with
  | none => exact .inl rfl
  | some b =>
    right
    intro e
    have a := (hlt b hv).2
    have c := (h2.lt b e).1
    omega
theorem own_old {v : Value} {l sz g : Nat} (hlt : ∀ b, v.ownBlock = some b → l ≤ b ∧ b < sz) (hle : sz ≤ g) : v.ownBlock = none ∨ v.ownBlock ≠ some g := by
  cases hv : v.ownBlock with
  | none => exact .inl rfl
  | some b =>
    right
    intro e
    injection e with e
    have a := (hlt b hv).2
    omega
/-- The three rows of a run of the call's own. -/
structure Rows3 (w : World) (lo : Nat) (A : Option Addr) (n c : Nat) (B : Option Addr) (m d : Nat) (C : Option Addr) (j k : Nat) (vs ev : List Int) (nx : List Nat) : Prop where
  v : w.ownsRow lo 3 1 (.slice A n c) n (vi vs)
  e : w.ownsRow lo 3 1 (.slice B m d) m (vi ev)
  x : w.ownsRow lo 5 1 (.slice C j k) j (vb nx)
  ap : (Value.slice A n c).ownBlock = none ∨ (Value.slice B m d).ownBlock ≠ (Value.slice A n c).ownBlock
theorem Rows3.below {w w' : World} {lo n c m d j k : Nat} {A B C : Option Addr} {vs ev : List Int} {nx : List Nat} (h : Rows3 w lo A n c B m d C j k vs ev nx) (hb : Below w.heap.size w w') : Rows3 w' lo A n c B m d C j k vs ev nx := ⟨own_below h.v hb, own_below h.e hb, own_below h.x hb, h.ap⟩
theorem Rows3.mono {w : World} {lo lo' n c m d j k : Nat} {A B C : Option Addr} {vs ev : List Int} {nx : List Nat} (h : Rows3 w lo A n c B m d C j k vs ev nx) (hl : lo' ≤ lo) : Rows3 w lo' A n c B m d C j k vs ev nx := ⟨own_monoG h.v hl, own_monoG h.e hl, own_monoG h.x hl, h.ap⟩
theorem Rows3.len {w : World} {lo n c m d j k : Nat} {A B C : Option Addr} {vs ev : List Int} {nx : List Nat} (h : Rows3 w lo A n c B m d C j k vs ev nx) : vs.length = n ∧ ev.length = m ∧ nx.length = j := by
  have h1 := h.v.1; have h2 := h.e.1; have h3 := h.x.1
  rw [vi_len] at h1 h2
  rw [vb_length] at h3
  omega
/-- A new run. -/
def MadeR (w : World) (p s it : Int) (dn : Bool) (n m : Nat) (nn : Int) (j : Nat) (vs ev : List Int) (nx : List Nat) (e : Ending) (w' : World) : Prop :=
  ∃ A c B d C k, e = .returned (.agg #[.int .i64 p, .int .i64 s, .int .i64 it, .bool dn, .slice A n c, .slice B m d, .int .i64 nn, .slice C j k]) ∧ Rows3 w' w.heap.size A n c B m d C j k vs ev nx ∧ Below w.heap.size w w'
/-- A run that stands in a block of its own, with rows of its own; all of it at lo and above. -/
structure RSt (w : World) (lo b : Nat) (p s it : Int) (dn : Bool) (A : Option Addr) (n c : Nat) (B : Option Addr) (m d : Nat) (nn : Int) (C : Option Addr) (j k : Nat) (vs ev : List Int) (nx : List Nat) : Prop where
  bx : Blk w b #[.int .i64 p, .int .i64 s, .int .i64 it, .bool dn, .slice A n c, .slice B m d, .int .i64 nn, .slice C j k] 32
  v : w.ownsRow lo 3 1 (.slice A n c) n (vi vs)
  e : w.ownsRow lo 3 1 (.slice B m d) m (vi ev)
  x : w.ownsRow lo 5 1 (.slice C j k) j (vb nx)
  ap : (Value.slice A n c).ownBlock = none ∨ (Value.slice B m d).ownBlock ≠ (Value.slice A n c).ownBlock
  lb : lo ≤ b
section
variable {w w' : World} {lo b n c m d j k : Nat} {p s it nn : Int} {dn : Bool} {A B C : Option Addr} {vs ev : List Int} {nx : List Nat}
theorem RSt.below (h : RSt w lo b p s it dn A n c B m d nn C j k vs ev nx) (hb : Below w.heap.size w w') : RSt w' lo b p s it dn A n c B m d nn C j k vs ev nx :=
  ⟨h.bx.below hb, own_below h.v hb, own_below h.e hb, own_below h.x hb, h.ap, h.lb⟩
theorem RSt.mono (h : RSt w lo b p s it dn A n c B m d nn C j k vs ev nx) {lo' : Nat} (hl : lo' ≤ lo) : RSt w lo' b p s it dn A n c B m d nn C j k vs ev nx :=
  ⟨h.bx, own_monoG h.v hl, own_monoG h.e hl, own_monoG h.x hl, h.ap, Nat.le_trans hl h.lb⟩
theorem RSt.rows (h : RSt w lo b p s it dn A n c B m d nn C j k vs ev nx) : Rows3 w lo A n c B m d C j k vs ev nx := ⟨h.v, h.e, h.x, h.ap⟩
theorem RSt.nl (h : RSt w lo b p s it dn A n c B m d nn C j k vs ev nx) : vs.length = n ∧ ev.length = m ∧ nx.length = j := by
  have h1 := h.v.1; have h2 := h.e.1; have h3 := h.x.1
  rw [vi_len] at h1 h2
  rw [vb_length] at h3
  omega
/-- Another block of the call's own is written. -/
theorem RSt.other (h : RSt w lo b p s it dn A n c B m d nn C j k vs ev nx) {g : Nat} (hg : w.grownBy w' (some g)) (h0 : g ≠ b) (h1 : (Value.slice A n c).ownBlock ≠ some g) (h2 : (Value.slice B m d).ownBlock ≠ some g) (h3 : (Value.slice C j k).ownBlock ≠ some g) : RSt w' lo b p s it dn A n c B m d nn C j k vs ev nx :=
  ⟨h.bx.grown hg (fun e => h0 (by injection e)), own_kept h.v hg h1, own_kept h.e hg h2, own_kept h.x hg h3, h.ap, h.lb⟩
theorem RSt.parts (h : RSt w lo b p s it dn A n c B m d nn C j k vs ev nx) : (b < w.heap.size ∧ w.cell? ⟨b, 0, none⟩ = some (.int .i64 p) ∧ w.cell? ⟨b, 1, none⟩ = some (.int .i64 s) ∧ w.cell? ⟨b, 2, none⟩ = some (.int .i64 it) ∧ w.cell? ⟨b, 3, none⟩ = some (.bool dn) ∧ w.cell? ⟨b, 4, none⟩ = some (.slice A n c) ∧ w.cell? ⟨b, 5, none⟩ = some (.slice B m d) ∧ w.cell? ⟨b, 6, none⟩ = some (.int .i64 nn) ∧ w.cell? ⟨b, 7, none⟩ = some (.slice C j k)) ∧ (∀ i, w.frozen? ⟨b, i, none⟩ = false) :=
  ⟨h.bx.eight, fun i => h.bx.frozen i⟩
end
end Go.Proofs.YtlhcobkncceodaaGreatDoor
