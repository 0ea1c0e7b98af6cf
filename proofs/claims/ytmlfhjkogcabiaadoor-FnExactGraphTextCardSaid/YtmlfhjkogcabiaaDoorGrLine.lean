/- A graph's text: the words, and the contract of the model's line of three numbers. Condition: each number is one of the document's numbers. -/
import Derived.Test.YtmlfhjkogcabiaaDoorNumText
import Derived.Test.YtmlfhjkogcabiaaDoorGraphS
namespace Go.Proofs.YtmlfhjkogcabiaaDoor
open Go.RowKit

def numS (n : Int) : ByteArray := ⟨(Lib.decDigits n.toNat).toArray⟩
def spS : ByteArray := ⟨#[32]⟩
def nlS : ByteArray := ⟨#[10]⟩
def numOk' (n : Int) : Prop := 0 ≤ n ∧ n ≤ 281474976710655
theorem numS_size {n : Int} (h : numOk' n) : (numS n).size ≤ 16 := by
  have := decDigits_le n.toNat (by unfold numOk' at h; omega)
  simpa [numS, ByteArray.size] using this
theorem numS_call {n : Int} (h : numOk' n) (w : World) : Calls Tryd.prog 21 #[.int .i64 n] w fun e w' => e = .returned (.string (numS n)) ∧ Below w.heap.size w w' := by
  unfold numOk' at h
  obtain ⟨m, rfl⟩ : ∃ m : Nat, n = (m : Int) := ⟨n.toNat, by omega⟩
  exact specText_yes m w (by omega)
/-- The first k of a line's numbers, with spaces between. -/
def joinK (e : GE) : Nat → ByteArray
  | 0 => ⟨#[]⟩
  | 1 => ⟨#[]⟩ ++ numS e.f
  | 2 => ⟨#[]⟩ ++ numS e.f ++ spS ++ numS e.t
  | _ => ⟨#[]⟩ ++ numS e.f ++ spS ++ numS e.t ++ spS ++ numS e.w
def EdgeNum (e : GE) : Prop := numOk' e.f ∧ numOk' e.t ∧ numOk' e.w
theorem joinK_size {e : GE} (h : EdgeNum e) (k : Nat) : (joinK e k).size ≤ 50 := by
  have h1 := numS_size h.1
  have h2 := numS_size h.2.1
  have h3 := numS_size h.2.2
  have hsp : spS.size = 1 := rfl
  have he0 : (⟨#[]⟩ : ByteArray).size = 0 := rfl
  unfold joinK
  split
  · omega
  · rw [ByteArray.size_append]; omega
  · rw [ByteArray.size_append, ByteArray.size_append, ByteArray.size_append]; omega
  · rw [ByteArray.size_append, ByteArray.size_append, ByteArray.size_append, ByteArray.size_append, ByteArray.size_append]; omega

set_option maxRecDepth 10000 in
set_option maxHeartbeats 1000000 in
theorem specLine (e : GE) (he : EdgeNum e) (A : Option Addr) (c : Nat) (w : World) (hr : SlI w A 3 [e.f, e.t, e.w]) :
    Calls Tryd.prog 22 #[.slice A 3 c] w fun r w' => r = .returned (.string (joinK e 3)) ∧ Below w.heap.size w w' := by
  have HR := Lib.hid hr
  have HE := Lib.hid he
  clear hr he
  have HZ := Lib.hid (fun k => joinK_size HE.out k)
  go_enter Tryd.func22, Tryd.ntmps22
  go_wp2
  go_loopw [3, 8] (fun s i wr => ∃ k : Nat, k ≤ 3 ∧ i = .int .i64 k ∧ s = .string (joinK e k) ∧ Hid (Below w.heap.size w wr)) (fun _ i _ => 3 - (intOf i).toNat)
  case atStart => exact ⟨0, by omega, rfl, rfl, Lib.hid (Below.refl _ _)⟩
  case round =>
    obtain ⟨k, hk, rfl, rfl, hbel⟩ := hrel
    by_cases hlt : k < 3
    · obtain ⟨b, off, x, rfl, hbw, hx, c0⟩ := HR.out.at_ hlt
      have c0 := (hbel.out.cell (p := ⟨b, off + k, none⟩) hbw).trans c0
      have hnx : numOk' x := by
        have h9 := hx.out
        have hE := HE.out
        match k, h9 with
        | 0, h9 => simp at h9; subst h9; exact hE.1
        | 1, h9 => simp at h9; subst h9; exact hE.2.1
        | 2, h9 => simp at h9; subst h9; exact hE.2.2
      have CN := Lib.hid (fun W => numS_call hnx W)
      have hs1 := numS_size hnx
      have hs2 := HZ.out k
      have HN : Hid (joinK e (k + 1) = if k = 0 then joinK e k ++ numS x else joinK e k ++ spS ++ numS x) := Lib.hid (by
        have h9 := hx.out
        match k, h9 with
        | 0, h9 => simp at h9; subst h9; rfl
        | 1, h9 => simp at h9; subst h9; rfl
        | 2, h9 => simp at h9; subst h9; rfl)
      generalize joinK e k = J at HN hs2
      generalize numS x = X at CN hs1 HN
      clear hnx hx
      by_cases hk0 : k = 0
      · have HJ : Hid (joinK e (k + 1) = J ++ X) := Lib.hid (by rw [HN.out, if_pos hk0])
        have hk1 : ¬ 0 < k := by omega
        have HK := Lib.hid hk0
        clear HN hk0
        go_wp2_with (go_at_call 21; refine (CN.out _).mono ?_; rintro e1 w1 ⟨rfl, hb1⟩)
        go_roundw
        case rel => exact ⟨k + 1, by omega, by go_num, congrArg Value.string HJ.out.symm, Lib.hid (g_chain hbel.out hb1)⟩
        case measure => simp [intOf]; omega
      · have HJ : Hid (joinK e (k + 1) = J ++ spS ++ X) := Lib.hid (by rw [HN.out, if_neg hk0])
        have hk1 : 0 < k := by omega
        clear HN hk0
        go_wp2_with (go_at_call 21; refine (CN.out _).mono ?_; rintro e1 w1 ⟨rfl, hb1⟩)
        go_roundw
        case rel => exact ⟨k + 1, by omega, by go_num, congrArg Value.string HJ.out.symm, Lib.hid (g_chain hbel.out hb1)⟩
        case measure => simp [intOf]; omega
    · obtain rfl : k = 3 := by omega
      go_wp2
      go_ret
      exact ⟨rfl, hbel.out⟩
end Go.Proofs.YtmlfhjkogcabiaaDoor
