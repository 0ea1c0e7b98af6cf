/- Words that all texts on lists of records of three numbers share (no condition). -/
import Derived.Test.YtpgnappddddlpaaEdge
import Derived.Deep.QuietTactic
import Derived.Deep.RegionWith
import Derived.RegionTactic
import Derived.BigQuiet
namespace Go.Proofs.Ytpgnappddddlpaa
open Go.RowKit

theorem Try.infoInt : (Try.prog.info? 3).map (fun i => (i.zero, i.size, i.bytes)) = some (some (.int .i64 0), 1, 8) := by kernel_rfl

def GNum (w : World) (b : Int) (e : Ending) (w' : World) : Prop := e = .returned (.int .i64 b) ∧ Below w.heap.size w w'
def GTell (w : World) (b : Bool) (e : Ending) (w' : World) : Prop := e = .returned (.bool b) ∧ Below w.heap.size w w'
def leftG (left : Int) (n : Nat) : Int := if (n : Int) ≤ left then left - n else -1
theorem leftG_pos {left : Int} {n : Nat} (h : (n : Int) ≤ left) : leftG left n = left - n := if_pos h
theorem leftG_neg {left : Int} {n : Nat} (h : left < (n : Int)) : leftG left n = -1 := if_neg (by omega)
theorem g_int {k : IntKind} {a b : Int} (h : a = b) : Ending.returned (.int k a) = .returned (.int k b) := by rw [h]
theorem g_bool {a b : Bool} (h : a = b) : Ending.returned (.bool a) = .returned (.bool b) := by rw [h]

def zeroG : GE := ⟨0, 0, 0⟩
theorem rep_succ (n k : Nat) (h : k < n) : List.replicate (n - k) zeroG = zeroG :: List.replicate (n - (k + 1)) zeroG := by
  rw [show n - k = (n - (k + 1)) + 1 by omega, List.replicate_succ]

theorem own_lowG {w : World} {lo e size n : Nat} {v : Value} {xs : List Value} (h : w.ownsRow lo e size v n xs) {p : Addr} (hp : p.block < lo) (u : Value) : (w.setCell p u).ownsRow lo e size v n xs := by
  obtain ⟨h1, h2⟩ := h
  refine ⟨h1, ?_⟩
  rcases h2 with h2 | ⟨g, cap, cur, e, hb, hg, r⟩
  · exact .inl h2
  · exact .inr ⟨g, cap, cur, e, hb, (Below.heap_setCell w p u g (by omega)).trans hg, r⟩
theorem own_monoG {w : World} {lo lo' e size n : Nat} {v : Value} {xs : List Value} (h : w.ownsRow lo e size v n xs) (hl : lo' ≤ lo) : w.ownsRow lo' e size v n xs := by
  obtain ⟨h1, h2⟩ := h
  refine ⟨h1, ?_⟩
  rcases h2 with h2 | ⟨g, cap, cur, e, hb, r⟩
  · exact .inl h2
  · exact .inr ⟨g, cap, cur, e, by omega, r⟩

end Go.Proofs.Ytpgnappddddlpaa
