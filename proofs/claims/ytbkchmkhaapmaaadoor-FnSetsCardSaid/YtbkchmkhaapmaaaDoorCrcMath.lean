/- The checksum as a fold of one step over the bits. -/
import Derived.Test.YtbkchmkhaapmaaaDoorBase
import Derived.Test.YtbkchmkhaapmaaaDoorBits
namespace Go.Proofs.YtbkchmkhaapmaaaDoor
open Go.RowKit

/-- One bit. -/
def crcBit (r : Nat) : Nat := if r % 2 = 1 then (r / 2) ^^^ 3988292384 else r / 2

def crcBits : Nat → Nat → Nat
  | 0, r => r
  | k + 1, r => crcBit (crcBits k r)

def crcByte (r x : Nat) : Nat := crcBits 8 (r ^^^ x)

def crcAll (xs : List Nat) : Nat := xs.foldl crcByte 4294967295

theorem xor_lt32 {a b : Nat} (ha : a < 4294967296) (hb : b < 4294967296) : a ^^^ b < 4294967296 := Nat.xor_lt_two_pow (n := 32) ha hb

theorem crcBit_lt (r : Nat) (h : r < 4294967296) : crcBit r < 4294967296 := by
  unfold crcBit
  split
  · exact xor_lt32 (by omega) (by omega)
  · omega

theorem crcBits_lt (k r : Nat) (h : r < 4294967296) : crcBits k r < 4294967296 := by
  induction k with
  | zero => exact h
  | succ k ih => exact crcBit_lt _ ih

theorem crcAll_snoc (xs : List Nat) (k x : Nat) (h : xs[k]? = some x) : crcAll (xs.take (k + 1)) = crcByte (crcAll (xs.take k)) x := by
  obtain ⟨hl, he⟩ := List.getElem?_eq_some_iff.1 h
  unfold crcAll
  rw [List.take_succ_eq_append_getElem hl, List.foldl_append, he]
  rfl

theorem crcAll_lt (xs : List Nat) (hs : ∀ x ∈ xs, x < 256) (k : Nat) : crcAll (xs.take k) < 4294967296 := by
  induction k with
  | zero => simp [crcAll]
  | succ k ih =>
    by_cases hk : k < xs.length
    · rw [crcAll_snoc xs k _ (List.getElem?_eq_getElem hk)]
      exact crcBits_lt _ _ (xor_lt32 ih (by have := hs _ (List.getElem_mem hk); omega))
    · rw [List.take_of_length_le (by omega)] at ih ⊢
      exact ih

theorem crcBit_even (s : Nat) (ho : ¬ s % 2 = 1) : (s : Int) / 2 = ((crcBit s : Nat) : Int) := by
  rw [crcBit, if_neg ho]
  omega
end Go.Proofs.YtbkchmkhaapmaaaDoor
