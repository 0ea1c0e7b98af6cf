/- What a name is; the contracts of the model's and of the program's function that asks it. -/
import Derived.Test.YtdeijiochianpaaBase
namespace Go.Proofs.Ytdeijiochianpaa
open Go.RowKit

def goodB (c : UInt8) : Bool := decide ((97 ≤ (c.toNat : Int) ∧ (c.toNat : Int) ≤ 122) ∨ (48 ≤ (c.toNat : Int) ∧ (c.toNat : Int) ≤ 57) ∨ (c.toNat : Int) = 46)
def nameB (s : ByteArray) : Bool := decide (1 ≤ s.size) && decide (s.size ≤ 12) && s.data.toList.all goodB

theorem nameB_bad (s : ByteArray) (k : Nat) (hk : k < s.size) (hb : goodB s[k] = false) : nameB s = false := by
  have : s.data.toList.all goodB = false := by
    rw [List.all_eq_false]
    refine ⟨s[k], ?_, by rw [hb]; simp⟩
    exact List.mem_iff_getElem.2 ⟨k, by simpa using hk, rfl⟩
  unfold nameB
  rw [this, Bool.and_false]
theorem nameB_end (s : ByteArray) (h : ∀ k (hk : k < s.size), goodB s[k] = true) : nameB s = (decide (1 ≤ s.size) && decide (s.size ≤ 12)) := by
  have : s.data.toList.all goodB = true := by
    rw [List.all_eq_true]
    intro c hc
    obtain ⟨k, hk, rfl⟩ := List.getElem_of_mem hc
    exact h k (by simpa using hk)
  unfold nameB
  rw [this, Bool.and_true]

theorem ret_bool {a b : Bool} (h : a = b) : Ending.returned (.bool a) = .returned (.bool b) := by rw [h]

set_option maxHeartbeats 400000 in
theorem specName (s : ByteArray) (w : World) (hs : s.size ≤ 2097152) :
    Calls Try.prog 98 #[.string s] w fun e w' => e = .returned (.bool (nameB s)) ∧ w = w' := by
  go_enter Try.func98, Try.ntmps98
  go_wp2
  go_loop [3] (fun i => ∃ k : Nat, k ≤ s.size ∧ i = .int .i64 k ∧ Hid (∀ j (hj : j < s.size), j < k → goodB s[j] = true)) (fun i => s.size - (intOf i).toNat)
  case atStart => exact ⟨0, Nat.zero_le _, rfl, Lib.hid (fun j _ h => absurd h (by omega))⟩
  case round =>
    obtain ⟨k, hk, rfl, hall⟩ := hrel
    by_cases hlt : k < s.size
    · by_cases hg : goodB s[k] = true
      · have hg2 : (97 ≤ (s[k].toNat : Int) ∧ (s[k].toNat : Int) ≤ 122) ∨ (48 ≤ (s[k].toNat : Int) ∧ (s[k].toNat : Int) ≤ 57) ∨ (s[k].toNat : Int) = 46 := by simpa [goodB] using hg
        have hnew : Hid (∀ j (hj : j < s.size), j < k + 1 → goodB s[j] = true) := Lib.hid (fun j hj h => by
          rcases Nat.lt_or_ge j k with h1 | h1
          · exact hall.out j hj h1
          · obtain rfl : j = k := by omega
            exact hg)
        clear hg hall
        rcases hg2 with ⟨h1, h2⟩ | ⟨h1, h2⟩ | h1
        · go_wp2
          go_round
          case rel => exact ⟨k + 1, by omega, by go_num, hnew⟩
          case measure => simp [intOf]; omega
        · have h3 : (s[k].toNat : Int) < 97 := by omega
          go_wp2
          go_round
          case rel => exact ⟨k + 1, by omega, by go_num, hnew⟩
          case measure => simp [intOf]; omega
        · have h3 : (s[k].toNat : Int) < 48 := by omega
          have h4 : (s[k].toNat : Int) < 97 := by omega
          go_wp2
          go_round
          case rel => exact ⟨k + 1, by omega, by go_num, hnew⟩
          case measure => simp [intOf]; omega
      · have hbad := Lib.hid (nameB_bad s k hlt (by simpa using hg))
        have hg2 : ¬ ((97 ≤ (s[k].toNat : Int) ∧ (s[k].toNat : Int) ≤ 122) ∨ (48 ≤ (s[k].toNat : Int) ∧ (s[k].toNat : Int) ≤ 57) ∨ (s[k].toNat : Int) = 46) := by simpa [goodB] using hg
        have h46 : ((s[k].toNat : Int) != 46) = true := by simp; omega
        have HG := Lib.hid hg2
        clear hg hall hg2
        go_wp2
        all_goals first
          | (go_ret; exact ⟨ret_bool hbad.out.symm, rfl⟩)
          | (exfalso; have := HG.out; omega)
    · have hend := Lib.hid (nameB_end s (fun j hj => hall.out j hj (by omega)))
      clear hall
      by_cases h1 : 1 ≤ s.size
      · by_cases h2 : s.size ≤ 12
        · have hv : nameB s = true := by rw [hend.out]; simp [h1, h2]
          have HV := Lib.hid hv
          clear hv hend
          go_wp2
          go_ret
          exact ⟨ret_bool (by rw [HV.out]; simp; omega), rfl⟩
        · have hv : nameB s = false := by rw [hend.out]; simp [h2]
          have HV := Lib.hid hv
          clear hv hend
          go_wp2
          go_ret
          exact ⟨ret_bool (by rw [HV.out]; simp; omega), rfl⟩
      · have hv : nameB s = false := by rw [hend.out]; simp [h1]
        have HV := Lib.hid hv
        clear hv hend
        go_wp2
        go_ret
        exact ⟨ret_bool HV.out.symm, rfl⟩

theorem nameB_len (s : ByteArray) (h : ¬ (1 ≤ s.size ∧ s.size ≤ 12)) : nameB s = false := by
  unfold nameB
  by_cases h1 : 1 ≤ s.size
  · have h2 : ¬ s.size ≤ 12 := fun h2 => h ⟨h1, h2⟩
    simp [h2]
  · simp [h1]

set_option maxHeartbeats 400000 in
theorem implName (s : ByteArray) (w : World) (hs : s.size ≤ 2097152) :
    Calls Try.prog 95 #[.string s] w fun e w' => e = .returned (.bool (nameB s)) ∧ w = w' := by
  by_cases hlen : 1 ≤ s.size ∧ s.size ≤ 12
  · obtain ⟨hl1, hl2⟩ := hlen
    go_enter Try.func95, Try.ntmps95
    go_wp2
    go_loop [16] (fun i => ∃ k : Nat, k ≤ s.size ∧ i = .int .i64 k ∧ Hid (∀ j (hj : j < s.size), j < k → goodB s[j] = true)) (fun i => s.size - (intOf i).toNat)
    case atStart => exact ⟨0, Nat.zero_le _, rfl, Lib.hid (fun j _ h => absurd h (by omega))⟩
    case round =>
      obtain ⟨k, hk, rfl, hall⟩ := hrel
      by_cases hlt : k < s.size
      · by_cases hg : goodB s[k] = true
        · have hg2 : (97 ≤ (s[k].toNat : Int) ∧ (s[k].toNat : Int) ≤ 122) ∨ (48 ≤ (s[k].toNat : Int) ∧ (s[k].toNat : Int) ≤ 57) ∨ (s[k].toNat : Int) = 46 := by simpa [goodB] using hg
          have hnew : Hid (∀ j (hj : j < s.size), j < k + 1 → goodB s[j] = true) := Lib.hid (fun j hj h => by
            rcases Nat.lt_or_ge j k with h1 | h1
            · exact hall.out j hj h1
            · obtain rfl : j = k := by omega
              exact hg)
          clear hg hall
          rcases hg2 with ⟨h1, h2⟩ | ⟨h1, h2⟩ | h1
          · have h3 : ¬ (s[k].toNat : Int) ≤ 57 := by omega
            have h4 : 48 ≤ (s[k].toNat : Int) := by omega
            go_wp2
            go_round
            case rel => exact ⟨k + 1, by omega, by go_num, hnew⟩
            case measure => simp [intOf]; omega
          · have h3 : ¬ 97 ≤ (s[k].toNat : Int) := by omega
            go_wp2
            go_round
            case rel => exact ⟨k + 1, by omega, by go_num, hnew⟩
            case measure => simp [intOf]; omega
          · have h3 : ¬ 97 ≤ (s[k].toNat : Int) := by omega
            have h4 : ¬ 48 ≤ (s[k].toNat : Int) := by omega
            have h46 : ((s[k].toNat : Int) != 46) = false := by simp; omega
            clear h1
            go_wp2
            go_round
            case rel => exact ⟨k + 1, by omega, by go_num, hnew⟩
            case measure => simp [intOf]; omega
        · have hbad := Lib.hid (nameB_bad s k hlt (by simpa using hg))
          have hg2 : ¬ ((97 ≤ (s[k].toNat : Int) ∧ (s[k].toNat : Int) ≤ 122) ∨ (48 ≤ (s[k].toNat : Int) ∧ (s[k].toNat : Int) ≤ 57) ∨ (s[k].toNat : Int) = 46) := by simpa [goodB] using hg
          have h46 : ((s[k].toNat : Int) != 46) = true := by simp; omega
          have h3 : (123 ≤ (s[k].toNat : Int)) ∨ (58 ≤ (s[k].toNat : Int) ∧ (s[k].toNat : Int) ≤ 96) ∨ (s[k].toNat : Int) ≤ 47 := by omega
          clear hg hall hg2
          rcases h3 with h3 | ⟨h3, h4⟩ | h3
          · have h5 : ¬ (s[k].toNat : Int) ≤ 122 := by omega
            have h6 : ¬ (s[k].toNat : Int) ≤ 57 := by omega
            have h7 : 97 ≤ (s[k].toNat : Int) := by omega
            have h8 : 48 ≤ (s[k].toNat : Int) := by omega
            clear h3
            go_wp2
            go_ret
            exact ⟨ret_bool hbad.out.symm, rfl⟩
          · have h5 : ¬ 97 ≤ (s[k].toNat : Int) := by omega
            have h6 : ¬ (s[k].toNat : Int) ≤ 57 := by omega
            have h8 : 48 ≤ (s[k].toNat : Int) := by omega
            clear h3 h4
            go_wp2
            go_ret
            exact ⟨ret_bool hbad.out.symm, rfl⟩
          · have h5 : ¬ 97 ≤ (s[k].toNat : Int) := by omega
            have h6 : ¬ 48 ≤ (s[k].toNat : Int) := by omega
            clear h3
            go_wp2
            go_ret
            exact ⟨ret_bool hbad.out.symm, rfl⟩
      · have hend := Lib.hid (nameB_end s (fun j hj => hall.out j hj (by omega)))
        have hv : nameB s = true := by rw [hend.out]; simp [hl1, hl2]
        have HV := Lib.hid hv
        clear hv hend hall
        go_wp2
        go_ret
        exact ⟨ret_bool HV.out.symm, rfl⟩
  · have hno := Lib.hid (nameB_len s hlen)
    by_cases h1 : 1 ≤ s.size
    · have h2 : 12 < s.size := by omega
      clear hlen
      go_enter Try.func95, Try.ntmps95
      go_wp2
      go_ret
      exact ⟨ret_bool hno.out.symm, rfl⟩
    · clear hlen
      go_enter Try.func95, Try.ntmps95
      go_wp2
      go_ret
      exact ⟨ret_bool hno.out.symm, rfl⟩
end Go.Proofs.Ytdeijiochianpaa
