/- Words for the draw of a crash: the list of numbers that it picks from (no condition). -/
import Derived.Test.YtejibpajjoaldaaKDraw
import Derived.Test.YtejibpajjoaldaaKEdge
import Derived.Deep.RegionWith
import Derived.RegionTactic
namespace Go.Proofs.Ytejibpajjoaldaa
open Go.RowKit

def cutNums : List Int := [0, 1, 5, 13, 14, 20, 30, 60, 9999]
theorem cuts_row (w : World) (t : TypeId) : SlI (w.alloc (.cells #[.int .i64 0, .int .i64 1, .int .i64 5, .int .i64 13, .int .i64 14, .int .i64 20, .int .i64 30, .int .i64 60, .int .i64 9999] t)) (some ⟨w.heap.size, 0, none⟩) 9 cutNums := by
  refine ⟨rfl, ⟨rfl, fun _ => ⟨w.heap.size, 0, rfl, by simp, fun j u hu => ?_⟩⟩⟩
  rw [Nat.zero_add]
  match j, hu with
  | 0, hu => simp [vi, cutNums] at hu; subst hu; simp
  | 1, hu => simp [vi, cutNums] at hu; subst hu; simp
  | 2, hu => simp [vi, cutNums] at hu; subst hu; simp
  | 3, hu => simp [vi, cutNums] at hu; subst hu; simp
  | 4, hu => simp [vi, cutNums] at hu; subst hu; simp
  | 5, hu => simp [vi, cutNums] at hu; subst hu; simp
  | 6, hu => simp [vi, cutNums] at hu; subst hu; simp
  | 7, hu => simp [vi, cutNums] at hu; subst hu; simp
  | 8, hu => simp [vi, cutNums] at hu; subst hu; simp
def CutRes (w : World) (e : Ending) (w' : World) : Prop := ∃ (q : Nat) (k : Int), q < 8 ∧ k ∈ cutNums ∧ e = .returned (.tuple #[.int .i64 (q : Int), .int .i64 k]) ∧ Below w.heap.size w w'
theorem SlI.other {w w' : World} {A : Option Addr} {n : Nat} {es : List Int} {row : Option Nat} (h : SlI w A n es) (hg : w.grownBy w' row) (hr : ∀ b off sp, A = some ⟨b, off, sp⟩ → some b ≠ row) : SlI w' A n es := by
  refine ⟨h.len, h.row.1, fun hn => ?_⟩
  obtain ⟨b, off, e, hb, hc⟩ := h.row.lies hn
  have := hg.size
  exact ⟨b, off, e, by omega, fun j u hu => (World.cell?_of_block (hg.block b hb (hr _ _ _ e))).trans (hc j u hu)⟩

end Go.Proofs.Ytejibpajjoaldaa
