/- A graph's text: the words. -/
import Derived.Test.YtggfjnmplokccaaDoorNumText
import Derived.Test.YtggfjnmplokccaaDoorGraph
namespace Go.Proofs.YtggfjnmplokccaaDoor
open Go.RowKit

def numS (n : Int) : ByteArray := ⟨(Lib.decDigits n.toNat).toArray⟩
def spS : ByteArray := ⟨#[32]⟩
def nlS : ByteArray := ⟨#[10]⟩
def numOk' (n : Int) : Prop := 0 ≤ n ∧ n ≤ 281474976710655
theorem numS_size {n : Int} (h : numOk' n) : (numS n).size ≤ 16 := by
  have := decDigits_le n.toNat (by unfold numOk' at h; omega)
  simpa [numS, ByteArray.size] using this
theorem numS_call {n : Int} (h : numOk' n) (w : World) : Calls Tryd.prog 46 #[.int .i64 n] w fun e w' => e = .returned (.string (numS n)) ∧ Below w.heap.size w w' := by
  unfold numOk' at h
  obtain ⟨m, rfl⟩ : ∃ m : Nat, n = (m : Int) := ⟨n.toNat, by omega⟩
  exact specText_yes m w (by omega)
/-- The first k of a line's numbers, with spaces between. -/
def joinK (e : GE) : Nat → ByteArray
  | 0 => ⟨#[]⟩
  | 1 => ⟨#[]⟩ ++ numS e.f
  | 2 => ⟨#[]⟩ ++ numS e.f ++ spS ++ numS e.t
  | _ => ⟨#[]⟩ ++ numS e.f ++ spS ++ numS e.t ++ spS ++ numS e.w
def EdgeNum (e : GE) : Prop := numOk' e.f ∧ numOk' e.t ∧ numOk' e.w
theorem joinK_size {e : GE} (h : EdgeNum e) (k : Nat) : (joinK e k).size ≤ 50 := by
  have h1 := numS_size h.1
  have h2 := numS_size h.2.1
  have h3 := numS_size h.2.2
  have hsp : spS.size = 1 := rfl
  have he0 : (⟨#[]⟩ : ByteArray).size = 0 := rfl
  unfold joinK
  split
  · omega
  · rw [ByteArray.size_append]; omega
  · rw [ByteArray.size_append, ByteArray.size_append, ByteArray.size_append]; omega
  · rw [ByteArray.size_append, ByteArray.size_append, ByteArray.size_append, ByteArray.size_append, ByteArray.size_append]; omega

end Go.Proofs.YtggfjnmplokccaaDoor
