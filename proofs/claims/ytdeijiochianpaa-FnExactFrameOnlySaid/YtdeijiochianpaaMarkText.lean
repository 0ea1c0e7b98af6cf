/- The contract of the laws' helper that makes a mark as a text. -/
import Derived.Test.YtdeijiochianpaaBase
import Derived.Test.YtdeijiochianpaaConv
import Derived.Test.YtdeijiochianpaaDec
namespace Go.Proofs.Ytdeijiochianpaa
open Go.RowKit

/-- A string of one byte, out of a new slice of it. -/
theorem conv_one (W : World) (g x : Nat) (hx : x < 256) (hc : W.cell? ⟨g, 0, none⟩ = some (.int .u8 (x : Int))) :
    (convert 22 9 (.slice (some ⟨g, 0, none⟩) 1 1)).run Try.prog W = .ok (.string ⟨#[UInt8.ofNat x]⟩) W := by
  have h := conv_rd (xs := [x]) 1 (A := some ⟨g, 0, none⟩) (n := 1) (w := W) ⟨rfl, by simpa using hx, fun _ => ⟨g, 0, rfl, World.block_lt_of_cell? W _ hc, fun j y hj => by
    match j, hj with
    | 0, hj => simp at hj; subst hj; exact hc⟩⟩
  exact h

/-- The text of a mark. -/
def mt (k : Nat) : ByteArray := ⟨(109 :: Lib.decDigits k).toArray⟩
def dd (r : Nat) : List UInt8 := if r = 0 then [] else Lib.decDigits r
theorem dd_step (r : Nat) (h : 0 < r) : dd r = dd (r / 10) ++ [UInt8.ofNat (48 + r % 10)] := by
  unfold dd
  rw [if_neg (by omega), Lib.decDigits]
  split
  · rename_i h10
    rw [if_pos (by omega), Nat.mod_eq_of_lt h10]
    rfl
  · rw [if_neg (by omega)]

set_option maxRecDepth 10000 in
set_option maxHeartbeats 1000000 in
theorem markText_any (k : Nat) (w : World) (h0 : 0 < k) (hk : k ≤ 4194304) : Calls Try.prog 108 #[.int .i64 (k : Int)] w fun e w' => e = .returned (.string (mt k)) ∧ Below w.heap.size w w' := by
  have hl16 := decDigits_le k (by omega)
  have hdk : Hid (dd k ++ [] = Lib.decDigits k) := by show _ = _; rw [List.append_nil, dd, if_neg (by omega)]
  have HM : Hid ((⟨#[109]⟩ : ByteArray) ++ ⟨(Lib.decDigits k).toArray⟩ = mt k) := by
    show _ = _
    unfold mt
    apply ByteArray.ext
    simp
  go_enter Try.func108, Try.ntmps108
  go_wp2
  go_loopw [0, 3] (fun t v wr => ∃ (r : Nat) (o : List UInt8), t = .int .i64 (r : Int) ∧ r ≤ 4194304 ∧ Hid (dd r ++ o = Lib.decDigits k) ∧ v = .string ⟨o.toArray⟩ ∧ Below w.heap.size w wr) (fun t _ _ => (intOf t).toNat)
  case atStart => exact ⟨k, [], rfl, hk, hdk, rfl, Below.refl _ _⟩
  case round =>
    obtain ⟨r, o, rfl, hr, hdd, rfl, hbel⟩ := hrel
    by_cases hpos : 0 < r
    · have hsz : o.length ≤ 16 := by have := congrArg List.length hdd.out; rw [List.length_append] at this; omega
      obtain ⟨O, hO⟩ : ∃ O : ByteArray, O = ⟨o.toArray⟩ := ⟨_, rfl⟩
      obtain ⟨D, hD⟩ : ∃ D : ByteArray, D = ⟨#[UInt8.ofNat (48 + r % 10)]⟩ := ⟨_, rfl⟩
      have hOs : O.size ≤ 16 := by rw [hO]; simpa [ByteArray.size] using hsz
      have hDs : D.size ≤ 16 := by rw [hD]; simp [ByteArray.size]
      have hDO : Hid (D ++ O = ⟨(UInt8.ofNat (48 + r % 10) :: o).toArray⟩) := by
        show _ = _
        rw [hO, hD]
        apply ByteArray.ext
        simp
      have hcv : ∀ W : World, W.cell? ⟨wr.heap.size, 0, none⟩ = some (.int .u8 (48 + (r : Int) % 10)) → (convert 22 9 (.slice (some ⟨wr.heap.size, 0, none⟩) 1 1)).run Try.prog W = .ok (.string D) W := fun W hc => by rw [hD]; exact conv_one W _ (48 + r % 10) (by omega) (by rw [hc]; rfl)
      have hst : Hid (dd (r / 10) ++ (UInt8.ofNat (48 + r % 10) :: o) = Lib.decDigits k) := by
        show _ = _
        rw [← hdd.out, dd_step r hpos, List.append_assoc]
        rfl
      rw [← hO]
      clear hO hD hsz hdd
      go_wp2
      go_roundw
      case rel => exact ⟨r / 10, _, by go_num, by omega, hst, by rw [hDO.out], hbel.alloc hbel.size _⟩
      case measure => simp [intOf]; omega
    · have ho : o = Lib.decDigits k := by have := hdd.out; rw [dd, if_pos (by omega)] at this; simpa using this
      have hsz : (⟨o.toArray⟩ : ByteArray).size ≤ 16 := by rw [ho]; simpa [ByteArray.size] using hl16
      rw [← ho] at HM
      generalize (⟨o.toArray⟩ : ByteArray) = O at HM hsz ⊢
      clear ho hdd
      go_wp2
      go_ret
      exact ⟨by rw [← HM.out]; rfl, hbel⟩
end Go.Proofs.Ytdeijiochianpaa
