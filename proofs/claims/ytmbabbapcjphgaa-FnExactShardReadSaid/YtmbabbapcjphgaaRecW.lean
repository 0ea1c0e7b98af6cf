/- Words for rows of records that a call makes (plain lemmas over the model; no condition). -/
import Derived.Test.YtmbabbapcjphgaaRecB
namespace Go.Proofs.Ytmbabbapcjphgaa
open Go.RowKit

theorem rec_form {w : World} {base e size n : Nat} {v : Value} {xs : List Value} (h : w.ownsRow base e size v n xs) : ∃ A c, v = .slice A n c := by
  rcases h.2 with ⟨rfl, rfl⟩ | ⟨g, cap, _, rfl, _⟩
  · exact ⟨_, _, rfl⟩
  · exact ⟨_, _, rfl⟩
theorem rec_built (w : World) : (w.alloc (.cells #[] 81)).ownsRow w.heap.size 81 3 (.slice (some ⟨w.heap.size, 0, none⟩) 0 0) 0 [] :=
  World.ownsRow_lit w #[] 0 (Nat.le_refl _) (by unfold maxLen; omega) rfl
theorem rec_below {w w1 : World} {o : Obj} {k c : Nat} (hg : (w.alloc o).grownBy w1 (Value.slice (some ⟨w.heap.size, 0, none⟩) k c).ownBlock) : Below w.heap.size w w1 :=
  ((Below.refl _ _).alloc (Nat.le_refl _) o).grown hg (by simp) (fun j hj => by simp [Value.ownBlock] at hj; omega)
/-- A new row of records. -/
def RowRc (w : World) (n : Nat) (es : List GE) (e : Ending) (w' : World) : Prop :=
  ∃ A c, e = .returned (.slice A n c) ∧ w'.ownsRow w.heap.size 81 3 (.slice A n c) n (es.flatMap GE.cells) ∧ Below w.heap.size w w'
theorem rec_one (es : List GE) : ∀ u ∈ es.flatMap GE.cells, u.oneCell' = true := fun u hu => by
  obtain ⟨e, _, he⟩ := List.mem_flatMap.1 hu
  simp only [GE.cells, List.mem_cons, List.not_mem_nil, or_false] at he
  rcases he with rfl | rfl | rfl <;> rfl
theorem rec_reads (w : World) (e : GE) (t : TypeId) (g : Nat) (hg : g = w.heap.size) : Reads (w.alloc (.cells #[.int .i64 e.f, .int .i64 e.t, .int .i64 e.w] t)) (g + 1) 3 (some ⟨g, 0, none⟩) 1 (GE.cells e) := by
  subst hg
  refine ⟨rfl, fun _ => ⟨_, rfl, by simp, fun j x hj => ?_⟩⟩
  match j, hj with
  | 0, hj => simp [GE.cells] at hj; subst hj; simp [Addr.add]
  | 1, hj => simp [GE.cells] at hj; subst hj; simp [Addr.add]
  | 2, hj => simp [GE.cells] at hj; subst hj; simp [Addr.add]
/-- A block that holds one record. -/
structure RBox (w : World) (b : Nat) (e : GE) : Prop where
  lt : b < w.heap.size
  c0 : w.cell? ⟨b, 0, none⟩ = some (.int .i64 e.f)
  c1 : w.cell? ⟨b, 1, none⟩ = some (.int .i64 e.t)
  c2 : w.cell? ⟨b, 2, none⟩ = some (.int .i64 e.w)
theorem RBox.below {w w' : World} {b : Nat} {e : GE} (h : RBox w b e) (hb : Below w.heap.size w w') : RBox w' b e :=
  ⟨Nat.lt_of_lt_of_le h.lt hb.size, (hb.cell (p := ⟨b, 0, none⟩) h.lt).trans h.c0, (hb.cell (p := ⟨b, 1, none⟩) h.lt).trans h.c1, (hb.cell (p := ⟨b, 2, none⟩) h.lt).trans h.c2⟩
theorem RBox.drew {w : World} {b : Nat} {e : GE} (h : RBox w b e) : RBox w.drew b e := ⟨h.lt, h.c0, h.c1, h.c2⟩
theorem RowRc.made {w : World} {n : Nat} {es : List GE} {e : Ending} {w' : World} (h : RowRc w n es e w') (hl : es.length = n) : MadeRc w es e w' := by
  subst hl
  exact h
end Go.Proofs.Ytmbabbapcjphgaa
