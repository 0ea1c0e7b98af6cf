/- The contracts of the functions that encode a frame: the model's and the program's. -/
import Derived.Test.YtbkchmkhaapmaaaDoorFrBox
import Derived.Test.YtbkchmkhaapmaaaDoorPutFixSpec
import Derived.Test.YtbkchmkhaapmaaaDoorPutFixImpl
import Derived.Test.YtbkchmkhaapmaaaDoorCrcSpec
import Derived.Test.YtbkchmkhaapmaaaDoorCrcImpl
namespace Go.Proofs.YtbkchmkhaapmaaaDoor
open Go.RowKit

def crcV (xs : List Nat) : Nat := crcAll xs ^^^ 4294967295
theorem crcV_lt (xs : List Nat) (hs : ∀ x ∈ xs, x < 256) : crcV xs < 4294967296 := by
  have h := crcAll_lt xs hs xs.length
  rw [List.take_length] at h
  exact xor_lt32 h (by omega)
theorem fixByte_lt (m j : Nat) : fixByte m j < 256 := Nat.mod_lt _ (by omega)
theorem fixBytes_small (m j : Nat) : ∀ x ∈ fixBytes m j, x < 256 := by
  intro x hx
  obtain ⟨i, _, rfl⟩ := List.mem_map.1 hx
  exact fixByte_lt m i
theorem more_small {l : List Nat} (h : ∀ x ∈ l, x < 256) (m : Nat) : ∀ x ∈ l ++ fixBytes m 6, x < 256 := fun x hx => by
  rcases List.mem_append.1 hx with hx | hx
  · exact h x hx
  · exact fixBytes_small m 6 x hx
theorem head_small {k : Nat} (hk : k < 256) (m : Nat) : ∀ x ∈ [71, k] ++ fixBytes m 6, x < 256 := more_small (by intro x hx; simp at hx; omega) m
/-- The encoding of a frame. -/
def frB (kind : Int) (xs : List Nat) : List Nat :=
  if frOk kind xs.length then ((([71, kind.toNat] ++ fixBytes xs.length 6) ++ fixBytes (crcV ([71, kind.toNat] ++ fixBytes xs.length 6)) 6) ++ fixBytes (crcV xs) 6) ++ xs else []
theorem frB_small (kind : Int) (xs : List Nat) (hs : ∀ x ∈ xs, x < 256) : ∀ x ∈ frB kind xs, x < 256 := by
  unfold frB
  split
  · rename_i hok
    have hk : kind.toNat < 256 := by
      unfold frOk at hok
      simp only [Bool.and_eq_true, decide_eq_true_eq] at hok
      omega
    intro x hx
    rcases List.mem_append.1 hx with hx | hx
    · exact more_small (more_small (head_small hk _) _) _ x hx
    · exact hs x hx
  · simp
theorem frB_len (kind : Int) (xs : List Nat) : (frB kind xs).length ≤ 20 + xs.length := by
  unfold frB
  split
  · simp [fixBytes_length]; omega
  · simp

end Go.Proofs.YtbkchmkhaapmaaaDoor
