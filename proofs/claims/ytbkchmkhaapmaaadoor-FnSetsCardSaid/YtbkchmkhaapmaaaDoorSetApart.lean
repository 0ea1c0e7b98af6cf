/- A row of bytes of the call's own stays where a block that is a set is written (plain lemmas over the model; no condition). -/
import Derived.Test.YtbkchmkhaapmaaaDoorSetB
namespace Go.Proofs.YtbkchmkhaapmaaaDoor
open Go.RowKit
set_option linter.unusedVariables false

theorem own_part1 {w : World} {lo e size n b i : Nat} {v u : Value} {xs : List Value} (h : w.ownsRow lo e size v n xs) (hne : v.ownBlock ≠ some b) : (w.setCell ⟨b, i, none⟩ u).ownsRow lo e size v n xs := by
  obtain ⟨h1, h2⟩ := h
  refine ⟨h1, ?_⟩
  rcases h2 with h2 | ⟨g, cap, cur, rfl, hb, hg, r⟩
  · exact .inl h2
  · exact .inr ⟨g, cap, cur, rfl, hb, (Below.heap_setCell w ⟨b, i, none⟩ u g (fun e => hne (by have e2 : g = b := e; rw [← e2]; rfl))).trans hg, r⟩
theorem own_part2 {w : World} {lo e size n b : Nat} {v : Value} {xs : List Value} (h : w.ownsRow lo e size v n xs) (hne : v.ownBlock ≠ some b) (u u' : Value) : ((w.setCell ⟨b, 0, none⟩ u).setCell ⟨b, 1, none⟩ u').ownsRow lo e size v n xs :=
  own_part1 (own_part1 h hne) hne
theorem set_kind {w : World} {lo size n b c m : Nat} {N : Int} {A : Option Addr} {v : Value} {xs : List Value} (h : w.ownsRow lo 5 size v n xs) (hb : SBx w b N A m c) : v.ownBlock ≠ some b := by
  rcases h.2 with ⟨rfl, _⟩ | ⟨g, cap, cur, rfl, _, hg, _⟩
  · simp [Value.ownBlock]
  · intro e
    have e3 : g = b := by simpa [Value.ownBlock] using e
    subst e3
    have h9 : w.heap[g]? = some (.cells #[.int .i64 N, .slice A m c] 24 (0, 0)) := hb
    rw [hg] at h9
    injection h9 with h9
    injection h9 with _ h2
    exact absurd h2 (by decide)
end Go.Proofs.YtbkchmkhaapmaaaDoor
