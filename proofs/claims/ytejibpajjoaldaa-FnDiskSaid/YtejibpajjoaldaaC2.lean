/- What a name is; the contracts of the model's and of the program's function that asks it. // What a valid operation is; the contracts of the model's and of the program's function that asks it. // Words for slices of bytes, of files and of operations in memory (plain lemmas over the model; no condition): a record bears its own slice of bytes and what that slice holds ('Dat', 'Ent', 'OpE'); 'Row': a slice that reads as a list of cells; 'OwnB': slices of bytes of the call's own, no two in one block. // The contracts of the laws' helpers that measure arguments: each answers what is left, or -1. // Slices of bytes, of files and of operations of the call's own: no two slices of bytes lie in one block; what is owned is kept where its blocks are, and reads. // The contracts of the laws' helpers that copy arguments into new memory. Condition: at most 2^21 of each. // The contracts of the laws' helpers that compare: what reads the same is told to be the same, and nothing old is written. Condition: at most 2^21 of each. -/
import Derived.BigQuiet
import Derived.Deep.QuietTactic
import Derived.Deep.RegionWith
import Derived.WalkLawsBesides
import Derived.Test.YtejibpajjoaldaaC1
import Derived.Test.YtejibpajjoaldaaRows
namespace Go.Proofs.Ytejibpajjoaldaa
open Go.RowKit

def goodB (c : UInt8) : Bool := decide ((97 ≤ (c.toNat : Int) ∧ (c.toNat : Int) ≤ 122) ∨ (48 ≤ (c.toNat : Int) ∧ (c.toNat : Int) ≤ 57) ∨ (c.toNat : Int) = 46)
def nameB (s : ByteArray) : Bool := decide (1 ≤ s.size) && decide (s.size ≤ 12) && s.data.toList.all goodB

theorem nameB_bad (s : ByteArray) (k : Nat) (hk : k < s.size) (hb : goodB s[k] = false) : nameB s = false := by
  have : s.data.toList.all goodB = false := by
    rw [List.all_eq_false]
    refine ⟨s[k], ?_, by rw [hb]; simp⟩
    exact List.mem_iff_getElem.2 ⟨k, by simpa using hk, rfl⟩
  unfold nameB
  rw [this, Bool.and_false]
theorem nameB_end (s : ByteArray) (h : ∀ k (hk : k < s.size), goodB s[k] = true) : nameB s = (decide (1 ≤ s.size) && decide (s.size ≤ 12)) := by
  have : s.data.toList.all goodB = true := by
    rw [List.all_eq_true]
    intro c hc
    obtain ⟨k, hk, rfl⟩ := List.getElem_of_mem hc
    exact h k (by simpa using hk)
  unfold nameB
  rw [this, Bool.and_true]

theorem ret_bool {a b : Bool} (h : a = b) : Ending.returned (.bool a) = .returned (.bool b) := by rw [h]

set_option maxHeartbeats 400000 in
theorem specName (s : ByteArray) (w : World) (hs : s.size ≤ 2097152) :
    Calls Try.prog 80 #[.string s] w fun e w' => e = .returned (.bool (nameB s)) ∧ w = w' := by
  go_enter Try.func80, Try.ntmps80
  go_wp2
  go_loop [3] (fun i => ∃ k : Nat, k ≤ s.size ∧ i = .int .i64 k ∧ Hid (∀ j (hj : j < s.size), j < k → goodB s[j] = true)) (fun i => s.size - (intOf i).toNat)
  case atStart => exact ⟨0, Nat.zero_le _, rfl, Lib.hid (fun j _ h => absurd h (by omega))⟩
  case round =>
    obtain ⟨k, hk, rfl, hall⟩ := hrel
    by_cases hlt : k < s.size
    · by_cases hg : goodB s[k] = true
      · have hg2 : (97 ≤ (s[k].toNat : Int) ∧ (s[k].toNat : Int) ≤ 122) ∨ (48 ≤ (s[k].toNat : Int) ∧ (s[k].toNat : Int) ≤ 57) ∨ (s[k].toNat : Int) = 46 := by simpa [goodB] using hg
        have hnew : Hid (∀ j (hj : j < s.size), j < k + 1 → goodB s[j] = true) := Lib.hid (fun j hj h => by
          rcases Nat.lt_or_ge j k with h1 | h1
          · exact hall.out j hj h1
          · obtain rfl : j = k := by omega
            exact hg)
        clear hg hall
        rcases hg2 with ⟨h1, h2⟩ | ⟨h1, h2⟩ | h1
        · go_wp2
          go_round
          case rel => exact ⟨k + 1, by omega, by go_num, hnew⟩
          case measure => simp [intOf]; omega
        · have h3 : (s[k].toNat : Int) < 97 := by omega
          go_wp2
          go_round
          case rel => exact ⟨k + 1, by omega, by go_num, hnew⟩
          case measure => simp [intOf]; omega
        · have h3 : (s[k].toNat : Int) < 48 := by omega
          have h4 : (s[k].toNat : Int) < 97 := by omega
          go_wp2
          go_round
          case rel => exact ⟨k + 1, by omega, by go_num, hnew⟩
          case measure => simp [intOf]; omega
      · have hbad := Lib.hid (nameB_bad s k hlt (by simpa using hg))
        have hg2 : ¬ ((97 ≤ (s[k].toNat : Int) ∧ (s[k].toNat : Int) ≤ 122) ∨ (48 ≤ (s[k].toNat : Int) ∧ (s[k].toNat : Int) ≤ 57) ∨ (s[k].toNat : Int) = 46) := by simpa [goodB] using hg
        have h46 : ((s[k].toNat : Int) != 46) = true := by simp; omega
        have HG := Lib.hid hg2
        clear hg hall hg2
        go_wp2
        all_goals first
          | (go_ret; exact ⟨ret_bool hbad.out.symm, rfl⟩)
          | (exfalso; have := HG.out; omega)
    · have hend := Lib.hid (nameB_end s (fun j hj => hall.out j hj (by omega)))
      clear hall
      by_cases h1 : 1 ≤ s.size
      · by_cases h2 : s.size ≤ 12
        · have hv : nameB s = true := by rw [hend.out]; simp [h1, h2]
          have HV := Lib.hid hv
          clear hv hend
          go_wp2
          go_ret
          exact ⟨ret_bool (by rw [HV.out]; simp; omega), rfl⟩
        · have hv : nameB s = false := by rw [hend.out]; simp [h2]
          have HV := Lib.hid hv
          clear hv hend
          go_wp2
          go_ret
          exact ⟨ret_bool (by rw [HV.out]; simp; omega), rfl⟩
      · have hv : nameB s = false := by rw [hend.out]; simp [h1]
        have HV := Lib.hid hv
        clear hv hend
        go_wp2
        go_ret
        exact ⟨ret_bool HV.out.symm, rfl⟩

theorem nameB_len (s : ByteArray) (h : ¬ (1 ≤ s.size ∧ s.size ≤ 12)) : nameB s = false := by
  unfold nameB
  by_cases h1 : 1 ≤ s.size
  · have h2 : ¬ s.size ≤ 12 := fun h2 => h ⟨h1, h2⟩
    simp [h2]
  · simp [h1]

set_option maxHeartbeats 400000 in
theorem implName (s : ByteArray) (w : World) (hs : s.size ≤ 2097152) :
    Calls Try.prog 77 #[.string s] w fun e w' => e = .returned (.bool (nameB s)) ∧ w = w' := by
  by_cases hlen : 1 ≤ s.size ∧ s.size ≤ 12
  · obtain ⟨hl1, hl2⟩ := hlen
    go_enter Try.func77, Try.ntmps77
    go_wp2
    go_loop [16] (fun i => ∃ k : Nat, k ≤ s.size ∧ i = .int .i64 k ∧ Hid (∀ j (hj : j < s.size), j < k → goodB s[j] = true)) (fun i => s.size - (intOf i).toNat)
    case atStart => exact ⟨0, Nat.zero_le _, rfl, Lib.hid (fun j _ h => absurd h (by omega))⟩
    case round =>
      obtain ⟨k, hk, rfl, hall⟩ := hrel
      by_cases hlt : k < s.size
      · by_cases hg : goodB s[k] = true
        · have hg2 : (97 ≤ (s[k].toNat : Int) ∧ (s[k].toNat : Int) ≤ 122) ∨ (48 ≤ (s[k].toNat : Int) ∧ (s[k].toNat : Int) ≤ 57) ∨ (s[k].toNat : Int) = 46 := by simpa [goodB] using hg
          have hnew : Hid (∀ j (hj : j < s.size), j < k + 1 → goodB s[j] = true) := Lib.hid (fun j hj h => by
            rcases Nat.lt_or_ge j k with h1 | h1
            · exact hall.out j hj h1
            · obtain rfl : j = k := by omega
              exact hg)
          clear hg hall
          rcases hg2 with ⟨h1, h2⟩ | ⟨h1, h2⟩ | h1
          · have h3 : ¬ (s[k].toNat : Int) ≤ 57 := by omega
            have h4 : 48 ≤ (s[k].toNat : Int) := by omega
            go_wp2
            go_round
            case rel => exact ⟨k + 1, by omega, by go_num, hnew⟩
            case measure => simp [intOf]; omega
          · have h3 : ¬ 97 ≤ (s[k].toNat : Int) := by omega
            go_wp2
            go_round
            case rel => exact ⟨k + 1, by omega, by go_num, hnew⟩
            case measure => simp [intOf]; omega
          · have h3 : ¬ 97 ≤ (s[k].toNat : Int) := by omega
            have h4 : ¬ 48 ≤ (s[k].toNat : Int) := by omega
            have h46 : ((s[k].toNat : Int) != 46) = false := by simp; omega
            clear h1
            go_wp2
            go_round
            case rel => exact ⟨k + 1, by omega, by go_num, hnew⟩
            case measure => simp [intOf]; omega
        · have hbad := Lib.hid (nameB_bad s k hlt (by simpa using hg))
          have hg2 : ¬ ((97 ≤ (s[k].toNat : Int) ∧ (s[k].toNat : Int) ≤ 122) ∨ (48 ≤ (s[k].toNat : Int) ∧ (s[k].toNat : Int) ≤ 57) ∨ (s[k].toNat : Int) = 46) := by simpa [goodB] using hg
          have h46 : ((s[k].toNat : Int) != 46) = true := by simp; omega
          have h3 : (123 ≤ (s[k].toNat : Int)) ∨ (58 ≤ (s[k].toNat : Int) ∧ (s[k].toNat : Int) ≤ 96) ∨ (s[k].toNat : Int) ≤ 47 := by omega
          clear hg hall hg2
          rcases h3 with h3 | ⟨h3, h4⟩ | h3
          · have h5 : ¬ (s[k].toNat : Int) ≤ 122 := by omega
            have h6 : ¬ (s[k].toNat : Int) ≤ 57 := by omega
            have h7 : 97 ≤ (s[k].toNat : Int) := by omega
            have h8 : 48 ≤ (s[k].toNat : Int) := by omega
            clear h3
            go_wp2
            go_ret
            exact ⟨ret_bool hbad.out.symm, rfl⟩
          · have h5 : ¬ 97 ≤ (s[k].toNat : Int) := by omega
            have h6 : ¬ (s[k].toNat : Int) ≤ 57 := by omega
            have h8 : 48 ≤ (s[k].toNat : Int) := by omega
            clear h3 h4
            go_wp2
            go_ret
            exact ⟨ret_bool hbad.out.symm, rfl⟩
          · have h5 : ¬ 97 ≤ (s[k].toNat : Int) := by omega
            have h6 : ¬ 48 ≤ (s[k].toNat : Int) := by omega
            clear h3
            go_wp2
            go_ret
            exact ⟨ret_bool hbad.out.symm, rfl⟩
      · have hend := Lib.hid (nameB_end s (fun j hj => hall.out j hj (by omega)))
        have hv : nameB s = true := by rw [hend.out]; simp [hl1, hl2]
        have HV := Lib.hid hv
        clear hv hend hall
        go_wp2
        go_ret
        exact ⟨ret_bool HV.out.symm, rfl⟩
  · have hno := Lib.hid (nameB_len s hlen)
    by_cases h1 : 1 ≤ s.size
    · have h2 : 12 < s.size := by omega
      clear hlen
      go_enter Try.func77, Try.ntmps77
      go_wp2
      go_ret
      exact ⟨ret_bool hno.out.symm, rfl⟩
    · clear hlen
      go_enter Try.func77, Try.ntmps77
      go_wp2
      go_ret
      exact ⟨ret_bool hno.out.symm, rfl⟩
end Go.Proofs.Ytejibpajjoaldaa
namespace Go.Proofs.Ytejibpajjoaldaa
open Go.RowKit

def opOkB (kind : Int) (nm to : ByteArray) (n : Nat) : Bool :=
  nameB nm && (((decide (kind = 1) || decide (kind = 4)) && (decide (to.size = 0) && decide (n = 0))) || (decide (kind = 2) && (decide (to.size = 0) && decide (1 ≤ n ∧ n ≤ 200000))) || (decide (kind = 3) && (nameB to && decide (n = 0))))

theorem empty_of_size {s : ByteArray} (h : s.size = 0) : s = ⟨#[]⟩ := by
  apply ByteArray.ext
  exact Array.eq_empty_of_size_eq_zero h

theorem nameB_pos {s : ByteArray} (h : nameB s = true) : 1 ≤ s.size ∧ s.size ≤ 12 := by
  unfold nameB at h
  simp at h
  exact h.1

theorem implName_t (s : ByteArray) (h : nameB s = true) (w : World) : Calls Try.prog 77 #[.string s] w fun e w' => e = .returned (.bool true) ∧ w = w' := by
  have := implName s w (by have := nameB_pos h; omega)
  rw [h] at this
  exact this
theorem implName_f (s : ByteArray) (h : nameB s = false) (w : World) (hs : s.size ≤ 2097152) : Calls Try.prog 77 #[.string s] w fun e w' => e = .returned (.bool false) ∧ w = w' := by
  have := implName s w hs
  rw [h] at this
  exact this
theorem specName_t (s : ByteArray) (h : nameB s = true) (w : World) : Calls Try.prog 80 #[.string s] w fun e w' => e = .returned (.bool true) ∧ w = w' := by
  have := specName s w (by have := nameB_pos h; omega)
  rw [h] at this
  exact this
theorem specName_f (s : ByteArray) (h : nameB s = false) (w : World) (hs : s.size ≤ 2097152) : Calls Try.prog 80 #[.string s] w fun e w' => e = .returned (.bool false) ∧ w = w' := by
  have := specName s w hs
  rw [h] at this
  exact this

/-- What a question leaves: an answer, and the old memory as it was. -/
def Tells (w : World) (b : Bool) (e : Ending) (w' : World) : Prop := e = .returned (.bool b) ∧ Below w.heap.size w w'

set_option maxRecDepth 10000 in
set_option maxHeartbeats 1000000 in
theorem implOpOk_no (kind : Int) (nm to : ByteArray) (A : Option Addr) (n c : Nat) (w : World) (hs : nm.size ≤ 2097152) (hb : nameB nm = false) :
    Calls Try.prog 43 #[.agg #[.int .i64 kind, .string nm, .string to, .slice A n c]] w (Tells w false) := by
  have C := Lib.hid (fun w => implName_f nm hb w hs)
  clear hb
  go_enter Try.func43, Try.ntmps43
  go_wp2_with fail
  refine (C.out _).mono ?_
  rintro e w' ⟨rfl, rfl⟩
  go_wp2
  go_ret
  exact ⟨rfl, (Below.refl _ _).alloc (Nat.le_refl _) _⟩


theorem toList_ne {s : ByteArray} (h : ¬ s.size = 0) : ¬ s.toList = [] := by
  intro e
  apply h
  have e2 : s.data.toList = [] := by rw [ByteArray.toList_eq] at e; exact e
  have := congrArg List.length e2
  simpa using this

theorem opOkB_other {kind : Int} {nm to : ByteArray} {n : Nat} (h1 : kind ≠ 1) (h2 : kind ≠ 2) (h3 : kind ≠ 3) (h4 : kind ≠ 4) : opOkB kind nm to n = false := by
  unfold opOkB
  simp [h1, h2, h3, h4]

set_option maxRecDepth 10000 in
set_option maxHeartbeats 1000000 in
theorem implOpOk_1 (nm to : ByteArray) (A : Option Addr) (n c : Nat) (w : World) (hn : n ≤ 2097152) (hb : nameB nm = true) :
    Calls Try.prog 43 #[.agg #[.int .i64 1, .string nm, .string to, .slice A n c]] w (Tells w (opOkB 1 nm to n)) := by
  have C := Lib.hid (fun w => implName_t nm hb w)
  by_cases hto : to.size = 0
  · by_cases h0 : n = 0
    · have hv : opOkB 1 nm to n = true := by simp only [opOkB, hb, hto, h0]; simp
      rw [hv]
      obtain rfl := empty_of_size hto
      subst h0
      clear hb hv hto
      go_enter Try.func43, Try.ntmps43
      go_wp2_with fail
      refine (C.out _).mono ?_
      rintro e w' ⟨rfl, rfl⟩
      go_wp2
      go_ret
      exact ⟨ret_bool (by first | rfl | simp), (Below.refl _ _).alloc (Nat.le_refl _) _⟩
    · have hv : opOkB 1 nm to n = false := by simp [opOkB, h0]
      rw [hv]
      have h1 : 0 < n := by omega
      obtain rfl := empty_of_size hto
      clear hb hv hto h0
      go_enter Try.func43, Try.ntmps43
      go_wp2_with fail
      refine (C.out _).mono ?_
      rintro e w' ⟨rfl, rfl⟩
      go_wp2
      go_ret
      exact ⟨ret_bool (by simp; omega), (Below.refl _ _).alloc (Nat.le_refl _) _⟩
  · have hv : opOkB 1 nm to n = false := by simp only [opOkB, hto]; simp
    rw [hv]
    have ht := toList_ne hto
    have ht2 : (!to.toList.isEmpty) = true := by simpa using ht
    clear hb hv hto
    go_enter Try.func43, Try.ntmps43
    go_wp2_with fail
    refine (C.out _).mono ?_
    rintro e w' ⟨rfl, rfl⟩
    go_wp2
    go_ret
    exact ⟨ret_bool (by first | rfl | simp), (Below.refl _ _).alloc (Nat.le_refl _) _⟩

set_option maxRecDepth 10000 in
set_option maxHeartbeats 1000000 in
theorem implOpOk_4 (nm to : ByteArray) (A : Option Addr) (n c : Nat) (w : World) (hn : n ≤ 2097152) (hb : nameB nm = true) :
    Calls Try.prog 43 #[.agg #[.int .i64 4, .string nm, .string to, .slice A n c]] w (Tells w (opOkB 4 nm to n)) := by
  have C := Lib.hid (fun w => implName_t nm hb w)
  by_cases hto : to.size = 0
  · by_cases h0 : n = 0
    · have hv : opOkB 4 nm to n = true := by simp only [opOkB, hb, hto, h0]; simp
      rw [hv]
      obtain rfl := empty_of_size hto
      subst h0
      clear hb hv hto
      go_enter Try.func43, Try.ntmps43
      go_wp2_with fail
      refine (C.out _).mono ?_
      rintro e w' ⟨rfl, rfl⟩
      go_wp2
      go_ret
      exact ⟨ret_bool (by first | rfl | simp), (Below.refl _ _).alloc (Nat.le_refl _) _⟩
    · have hv : opOkB 4 nm to n = false := by simp [opOkB, h0]
      rw [hv]
      have h1 : 0 < n := by omega
      obtain rfl := empty_of_size hto
      clear hb hv hto h0
      go_enter Try.func43, Try.ntmps43
      go_wp2_with fail
      refine (C.out _).mono ?_
      rintro e w' ⟨rfl, rfl⟩
      go_wp2
      go_ret
      exact ⟨ret_bool (by simp; omega), (Below.refl _ _).alloc (Nat.le_refl _) _⟩
  · have hv : opOkB 4 nm to n = false := by simp only [opOkB, hto]; simp
    rw [hv]
    have ht := toList_ne hto
    have ht2 : (!to.toList.isEmpty) = true := by simpa using ht
    clear hb hv hto
    go_enter Try.func43, Try.ntmps43
    go_wp2_with fail
    refine (C.out _).mono ?_
    rintro e w' ⟨rfl, rfl⟩
    go_wp2
    go_ret
    exact ⟨ret_bool (by first | rfl | simp), (Below.refl _ _).alloc (Nat.le_refl _) _⟩

set_option maxRecDepth 10000 in
set_option maxHeartbeats 1000000 in
theorem implOpOk_2 (nm to : ByteArray) (A : Option Addr) (n c : Nat) (w : World) (hn : n ≤ 2097152) (hb : nameB nm = true) :
    Calls Try.prog 43 #[.agg #[.int .i64 2, .string nm, .string to, .slice A n c]] w (Tells w (opOkB 2 nm to n)) := by
  have C := Lib.hid (fun w => implName_t nm hb w)
  by_cases hto : to.size = 0
  · by_cases h1 : 1 ≤ n
    · by_cases h2 : n ≤ 200000
      · have hv : opOkB 2 nm to n = true := by simp only [opOkB, hb, hto, h1, h2]; simp
        rw [hv]
        obtain rfl := empty_of_size hto
        clear hb hv hto
        go_enter Try.func43, Try.ntmps43
        go_wp2_with fail
        refine (C.out _).mono ?_
        rintro e w' ⟨rfl, rfl⟩
        go_wp2
        go_ret
        exact ⟨ret_bool (by first | rfl | (simp; omega)), (Below.refl _ _).alloc (Nat.le_refl _) _⟩
      · have hv : opOkB 2 nm to n = false := by simp only [opOkB, hb, hto, h2]; simp
        rw [hv]
        obtain rfl := empty_of_size hto
        clear hb hv hto
        go_enter Try.func43, Try.ntmps43
        go_wp2_with fail
        refine (C.out _).mono ?_
        rintro e w' ⟨rfl, rfl⟩
        go_wp2
        go_ret
        exact ⟨ret_bool (by first | rfl | (simp; omega)), (Below.refl _ _).alloc (Nat.le_refl _) _⟩
    · have hv : opOkB 2 nm to n = false := by simp only [opOkB, hb, hto, h1]; simp
      rw [hv]
      obtain rfl := empty_of_size hto
      clear hb hv hto
      go_enter Try.func43, Try.ntmps43
      go_wp2_with fail
      refine (C.out _).mono ?_
      rintro e w' ⟨rfl, rfl⟩
      go_wp2
      go_ret
      exact ⟨ret_bool (by first | rfl | (simp; omega)), (Below.refl _ _).alloc (Nat.le_refl _) _⟩
  · have hv : opOkB 2 nm to n = false := by simp only [opOkB, hto]; simp
    rw [hv]
    have ht := toList_ne hto
    have ht2 : (!to.toList.isEmpty) = true := by simpa using ht
    clear hb hv hto
    go_enter Try.func43, Try.ntmps43
    go_wp2_with fail
    refine (C.out _).mono ?_
    rintro e w' ⟨rfl, rfl⟩
    go_wp2
    go_ret
    exact ⟨ret_bool (by first | rfl | simp), (Below.refl _ _).alloc (Nat.le_refl _) _⟩

set_option maxRecDepth 10000 in
set_option maxHeartbeats 1000000 in
theorem implOpOk_3 (nm to : ByteArray) (A : Option Addr) (n c : Nat) (w : World) (hn : n ≤ 2097152) (hs : to.size ≤ 2097152) (hb : nameB nm = true) :
    Calls Try.prog 43 #[.agg #[.int .i64 3, .string nm, .string to, .slice A n c]] w (Tells w (opOkB 3 nm to n)) := by
  have C := Lib.hid (fun w => implName_t nm hb w)
  by_cases ht : nameB to = true
  · have D := Lib.hid (fun w => implName_t to ht w)
    by_cases h0 : n = 0
    · have hv : opOkB 3 nm to n = true := by simp only [opOkB, hb, ht, h0]; simp
      rw [hv]
      subst h0
      clear hb hv ht
      go_enter Try.func43, Try.ntmps43
      go_wp2_with fail
      refine (C.out _).mono ?_
      rintro e w' ⟨rfl, rfl⟩
      go_wp2_with fail
      refine (D.out _).mono ?_
      rintro e w' ⟨rfl, rfl⟩
      go_wp2
      go_ret
      exact ⟨ret_bool (by first | rfl | simp), (Below.refl _ _).alloc (Nat.le_refl _) _⟩
    · have hv : opOkB 3 nm to n = false := by simp [opOkB, h0]
      rw [hv]
      have h1 : 0 < n := by omega
      clear hb hv ht h0
      go_enter Try.func43, Try.ntmps43
      go_wp2_with fail
      refine (C.out _).mono ?_
      rintro e w' ⟨rfl, rfl⟩
      go_wp2_with fail
      refine (D.out _).mono ?_
      rintro e w' ⟨rfl, rfl⟩
      go_wp2
      go_ret
      exact ⟨ret_bool (by first | rfl | (simp; omega)), (Below.refl _ _).alloc (Nat.le_refl _) _⟩
  · have ht2 : nameB to = false := by simpa using ht
    have D := Lib.hid (fun w => implName_f to ht2 w hs)
    have hv : opOkB 3 nm to n = false := by simp [opOkB, ht2]
    rw [hv]
    clear hb hv ht ht2
    go_enter Try.func43, Try.ntmps43
    go_wp2_with fail
    refine (C.out _).mono ?_
    rintro e w' ⟨rfl, rfl⟩
    go_wp2_with fail
    refine (D.out _).mono ?_
    rintro e w' ⟨rfl, rfl⟩
    go_wp2
    go_ret
    exact ⟨ret_bool (by first | rfl | simp), (Below.refl _ _).alloc (Nat.le_refl _) _⟩

set_option maxRecDepth 10000 in
set_option maxHeartbeats 1000000 in
theorem implOpOk_other (kind : Int) (nm to : ByteArray) (A : Option Addr) (n c : Nat) (w : World) (h1 : kind ≠ 1) (h2 : kind ≠ 2) (h3 : kind ≠ 3) (h4 : kind ≠ 4) (hb : nameB nm = true) :
    Calls Try.prog 43 #[.agg #[.int .i64 kind, .string nm, .string to, .slice A n c]] w (Tells w (opOkB kind nm to n)) := by
  rw [opOkB_other h1 h2 h3 h4]
  have C := Lib.hid (fun w => implName_t nm hb w)
  have e1 : (kind == 1) = false := by simpa using h1
  have e2 : (kind == 2) = false := by simpa using h2
  have e3 : (kind == 3) = false := by simpa using h3
  have e4 : (kind == 4) = false := by simpa using h4
  clear hb h1 h2 h3 h4
  go_enter Try.func43, Try.ntmps43
  go_wp2_with fail
  refine (C.out _).mono ?_
  rintro e w' ⟨rfl, rfl⟩
  go_wp2
  go_ret
  exact ⟨rfl, (Below.refl _ _).alloc (Nat.le_refl _) _⟩

theorem implOpOk (kind : Int) (nm to : ByteArray) (A : Option Addr) (n c : Nat) (w : World) (hs : nm.size ≤ 2097152) (ht : to.size ≤ 2097152) (hn : n ≤ 2097152) :
    Calls Try.prog 43 #[.agg #[.int .i64 kind, .string nm, .string to, .slice A n c]] w (Tells w (opOkB kind nm to n)) := by
  by_cases hb : nameB nm = true
  · by_cases h1 : kind = 1
    · subst h1; exact implOpOk_1 nm to A n c w hn hb
    · by_cases h2 : kind = 2
      · subst h2; exact implOpOk_2 nm to A n c w hn hb
      · by_cases h3 : kind = 3
        · subst h3; exact implOpOk_3 nm to A n c w hn ht hb
        · by_cases h4 : kind = 4
          · subst h4; exact implOpOk_4 nm to A n c w hn hb
          · exact implOpOk_other kind nm to A n c w h1 h2 h3 h4 hb
  · have hf : nameB nm = false := by simpa using hb
    have e : opOkB kind nm to n = false := by unfold opOkB; rw [hf, Bool.false_and]
    rw [e]
    exact implOpOk_no kind nm to A n c w hs hf

set_option maxRecDepth 10000 in
set_option maxHeartbeats 1000000 in
theorem specOpOk_no (kind : Int) (nm to : ByteArray) (A : Option Addr) (n c : Nat) (w : World) (hs : nm.size ≤ 2097152) (hb : nameB nm = false) :
    Calls Try.prog 50 #[.agg #[.int .i64 kind, .string nm, .string to, .slice A n c]] w (Tells w false) := by
  have C := Lib.hid (fun w => specName_f nm hb w hs)
  clear hb
  by_cases h1 : kind < 1
  · go_enter Try.func50, Try.ntmps50
    go_wp2_with fail
    go_ret
    exact ⟨rfl, (Below.refl _ _).alloc (Nat.le_refl _) _⟩
  · by_cases h2 : 4 < kind
    · go_enter Try.func50, Try.ntmps50
      go_wp2_with fail
      go_ret
      exact ⟨rfl, (Below.refl _ _).alloc (Nat.le_refl _) _⟩
    · go_enter Try.func50, Try.ntmps50
      go_wp2_with fail
      refine (C.out _).mono ?_
      rintro e w' ⟨rfl, rfl⟩
      go_wp2
      go_ret
      exact ⟨rfl, (Below.refl _ _).alloc (Nat.le_refl _) _⟩


set_option maxRecDepth 10000 in
set_option maxHeartbeats 1000000 in
theorem specOpOk_1 (nm to : ByteArray) (A : Option Addr) (n c : Nat) (w : World) (hn : n ≤ 2097152) (hb : nameB nm = true) :
    Calls Try.prog 50 #[.agg #[.int .i64 1, .string nm, .string to, .slice A n c]] w (Tells w (opOkB 1 nm to n)) := by
  have C := Lib.hid (fun w => specName_t nm hb w)
  by_cases hto : to.size = 0
  · by_cases h0 : n = 0
    · have hv : opOkB 1 nm to n = true := by simp only [opOkB, hb, hto, h0]; simp
      rw [hv]
      obtain rfl := empty_of_size hto
      subst h0
      clear hb hv hto
      go_enter Try.func50, Try.ntmps50
      go_wp2_with fail
      refine (C.out _).mono ?_
      rintro e w' ⟨rfl, rfl⟩
      go_wp2
      go_ret
      exact ⟨ret_bool (by first | rfl | simp), (Below.refl _ _).alloc (Nat.le_refl _) _⟩
    · have hv : opOkB 1 nm to n = false := by simp [opOkB, h0]
      rw [hv]
      have h1 : 0 < n := by omega
      obtain rfl := empty_of_size hto
      clear hb hv hto h0
      go_enter Try.func50, Try.ntmps50
      go_wp2_with fail
      refine (C.out _).mono ?_
      rintro e w' ⟨rfl, rfl⟩
      go_wp2
      go_ret
      exact ⟨ret_bool (by simp; omega), (Below.refl _ _).alloc (Nat.le_refl _) _⟩
  · have hv : opOkB 1 nm to n = false := by simp only [opOkB, hto]; simp
    rw [hv]
    have ht := toList_ne hto
    have ht2 : (!to.toList.isEmpty) = true := by simpa using ht
    clear hb hv hto
    go_enter Try.func50, Try.ntmps50
    go_wp2_with fail
    refine (C.out _).mono ?_
    rintro e w' ⟨rfl, rfl⟩
    go_wp2
    go_ret
    exact ⟨ret_bool (by first | rfl | simp), (Below.refl _ _).alloc (Nat.le_refl _) _⟩

set_option maxRecDepth 10000 in
set_option maxHeartbeats 1000000 in
theorem specOpOk_4 (nm to : ByteArray) (A : Option Addr) (n c : Nat) (w : World) (hn : n ≤ 2097152) (hb : nameB nm = true) :
    Calls Try.prog 50 #[.agg #[.int .i64 4, .string nm, .string to, .slice A n c]] w (Tells w (opOkB 4 nm to n)) := by
  have C := Lib.hid (fun w => specName_t nm hb w)
  by_cases hto : to.size = 0
  · by_cases h0 : n = 0
    · have hv : opOkB 4 nm to n = true := by simp only [opOkB, hb, hto, h0]; simp
      rw [hv]
      obtain rfl := empty_of_size hto
      subst h0
      clear hb hv hto
      go_enter Try.func50, Try.ntmps50
      go_wp2_with fail
      refine (C.out _).mono ?_
      rintro e w' ⟨rfl, rfl⟩
      go_wp2
      go_ret
      exact ⟨ret_bool (by first | rfl | simp), (Below.refl _ _).alloc (Nat.le_refl _) _⟩
    · have hv : opOkB 4 nm to n = false := by simp [opOkB, h0]
      rw [hv]
      have h1 : 0 < n := by omega
      obtain rfl := empty_of_size hto
      clear hb hv hto h0
      go_enter Try.func50, Try.ntmps50
      go_wp2_with fail
      refine (C.out _).mono ?_
      rintro e w' ⟨rfl, rfl⟩
      go_wp2
      go_ret
      exact ⟨ret_bool (by simp; omega), (Below.refl _ _).alloc (Nat.le_refl _) _⟩
  · have hv : opOkB 4 nm to n = false := by simp only [opOkB, hto]; simp
    rw [hv]
    have ht := toList_ne hto
    have ht2 : (!to.toList.isEmpty) = true := by simpa using ht
    clear hb hv hto
    go_enter Try.func50, Try.ntmps50
    go_wp2_with fail
    refine (C.out _).mono ?_
    rintro e w' ⟨rfl, rfl⟩
    go_wp2
    go_ret
    exact ⟨ret_bool (by first | rfl | simp), (Below.refl _ _).alloc (Nat.le_refl _) _⟩

set_option maxRecDepth 10000 in
set_option maxHeartbeats 1000000 in
theorem specOpOk_2 (nm to : ByteArray) (A : Option Addr) (n c : Nat) (w : World) (hn : n ≤ 2097152) (hb : nameB nm = true) :
    Calls Try.prog 50 #[.agg #[.int .i64 2, .string nm, .string to, .slice A n c]] w (Tells w (opOkB 2 nm to n)) := by
  have C := Lib.hid (fun w => specName_t nm hb w)
  by_cases hto : to.size = 0
  · by_cases h1 : 1 ≤ n
    · by_cases h2 : n ≤ 200000
      · have hv : opOkB 2 nm to n = true := by simp only [opOkB, hb, hto, h1, h2]; simp
        rw [hv]
        obtain rfl := empty_of_size hto
        clear hb hv hto
        go_enter Try.func50, Try.ntmps50
        go_wp2_with fail
        refine (C.out _).mono ?_
        rintro e w' ⟨rfl, rfl⟩
        go_wp2
        go_ret
        exact ⟨ret_bool (by first | rfl | (simp; omega)), (Below.refl _ _).alloc (Nat.le_refl _) _⟩
      · have hv : opOkB 2 nm to n = false := by simp only [opOkB, hb, hto, h2]; simp
        rw [hv]
        obtain rfl := empty_of_size hto
        clear hb hv hto
        go_enter Try.func50, Try.ntmps50
        go_wp2_with fail
        refine (C.out _).mono ?_
        rintro e w' ⟨rfl, rfl⟩
        go_wp2
        go_ret
        exact ⟨ret_bool (by first | rfl | (simp; omega)), (Below.refl _ _).alloc (Nat.le_refl _) _⟩
    · have hv : opOkB 2 nm to n = false := by simp only [opOkB, hb, hto, h1]; simp
      rw [hv]
      obtain rfl := empty_of_size hto
      clear hb hv hto
      go_enter Try.func50, Try.ntmps50
      go_wp2_with fail
      refine (C.out _).mono ?_
      rintro e w' ⟨rfl, rfl⟩
      go_wp2
      go_ret
      exact ⟨ret_bool (by first | rfl | (simp; omega)), (Below.refl _ _).alloc (Nat.le_refl _) _⟩
  · have hv : opOkB 2 nm to n = false := by simp only [opOkB, hto]; simp
    rw [hv]
    have ht := toList_ne hto
    have ht2 : (!to.toList.isEmpty) = true := by simpa using ht
    clear hb hv hto
    go_enter Try.func50, Try.ntmps50
    go_wp2_with fail
    refine (C.out _).mono ?_
    rintro e w' ⟨rfl, rfl⟩
    go_wp2
    go_ret
    exact ⟨ret_bool (by first | rfl | simp), (Below.refl _ _).alloc (Nat.le_refl _) _⟩

set_option maxRecDepth 10000 in
set_option maxHeartbeats 1000000 in
theorem specOpOk_3 (nm to : ByteArray) (A : Option Addr) (n c : Nat) (w : World) (hn : n ≤ 2097152) (hs : to.size ≤ 2097152) (hb : nameB nm = true) :
    Calls Try.prog 50 #[.agg #[.int .i64 3, .string nm, .string to, .slice A n c]] w (Tells w (opOkB 3 nm to n)) := by
  have C := Lib.hid (fun w => specName_t nm hb w)
  by_cases ht : nameB to = true
  · have D := Lib.hid (fun w => specName_t to ht w)
    by_cases h0 : n = 0
    · have hv : opOkB 3 nm to n = true := by simp only [opOkB, hb, ht, h0]; simp
      rw [hv]
      subst h0
      clear hb hv ht
      go_enter Try.func50, Try.ntmps50
      go_wp2_with fail
      refine (C.out _).mono ?_
      rintro e w' ⟨rfl, rfl⟩
      go_wp2_with fail
      refine (D.out _).mono ?_
      rintro e w' ⟨rfl, rfl⟩
      go_wp2
      go_ret
      exact ⟨ret_bool (by first | rfl | simp), (Below.refl _ _).alloc (Nat.le_refl _) _⟩
    · have hv : opOkB 3 nm to n = false := by simp [opOkB, h0]
      rw [hv]
      have h1 : 0 < n := by omega
      clear hb hv ht h0
      go_enter Try.func50, Try.ntmps50
      go_wp2_with fail
      refine (C.out _).mono ?_
      rintro e w' ⟨rfl, rfl⟩
      go_wp2_with fail
      refine (D.out _).mono ?_
      rintro e w' ⟨rfl, rfl⟩
      go_wp2
      go_ret
      exact ⟨ret_bool (by first | rfl | (simp; omega)), (Below.refl _ _).alloc (Nat.le_refl _) _⟩
  · have ht2 : nameB to = false := by simpa using ht
    have D := Lib.hid (fun w => specName_f to ht2 w hs)
    have hv : opOkB 3 nm to n = false := by simp [opOkB, ht2]
    rw [hv]
    clear hb hv ht ht2
    go_enter Try.func50, Try.ntmps50
    go_wp2_with fail
    refine (C.out _).mono ?_
    rintro e w' ⟨rfl, rfl⟩
    go_wp2_with fail
    refine (D.out _).mono ?_
    rintro e w' ⟨rfl, rfl⟩
    go_wp2
    go_ret
    exact ⟨ret_bool (by first | rfl | simp), (Below.refl _ _).alloc (Nat.le_refl _) _⟩

set_option maxRecDepth 10000 in
set_option maxHeartbeats 1000000 in
theorem specOpOk_other (kind : Int) (nm to : ByteArray) (A : Option Addr) (n c : Nat) (w : World) (h1 : kind ≠ 1) (h2 : kind ≠ 2) (h3 : kind ≠ 3) (h4 : kind ≠ 4) (_hb : nameB nm = true) :
    Calls Try.prog 50 #[.agg #[.int .i64 kind, .string nm, .string to, .slice A n c]] w (Tells w (opOkB kind nm to n)) := by
  rw [opOkB_other h1 h2 h3 h4]
  have hk : kind < 1 ∨ 4 < kind := by omega
  clear h1 h2 h3 h4
  rcases hk with hk | hk
  · go_enter Try.func50, Try.ntmps50
    go_wp2_with fail
    go_ret
    exact ⟨rfl, (Below.refl _ _).alloc (Nat.le_refl _) _⟩
  · have hk2 : ¬ kind < 1 := by omega
    go_enter Try.func50, Try.ntmps50
    go_wp2_with fail
    go_ret
    exact ⟨rfl, (Below.refl _ _).alloc (Nat.le_refl _) _⟩

theorem specOpOk (kind : Int) (nm to : ByteArray) (A : Option Addr) (n c : Nat) (w : World) (hs : nm.size ≤ 2097152) (ht : to.size ≤ 2097152) (hn : n ≤ 2097152) :
    Calls Try.prog 50 #[.agg #[.int .i64 kind, .string nm, .string to, .slice A n c]] w (Tells w (opOkB kind nm to n)) := by
  by_cases hb : nameB nm = true
  · by_cases h1 : kind = 1
    · subst h1; exact specOpOk_1 nm to A n c w hn hb
    · by_cases h2 : kind = 2
      · subst h2; exact specOpOk_2 nm to A n c w hn hb
      · by_cases h3 : kind = 3
        · subst h3; exact specOpOk_3 nm to A n c w hn ht hb
        · by_cases h4 : kind = 4
          · subst h4; exact specOpOk_4 nm to A n c w hn hb
          · exact specOpOk_other kind nm to A n c w h1 h2 h3 h4 hb
  · have hf : nameB nm = false := by simpa using hb
    have e : opOkB kind nm to n = false := by unfold opOkB; rw [hf, Bool.false_and]
    rw [e]
    exact specOpOk_no kind nm to A n c w hs hf
end Go.Proofs.Ytejibpajjoaldaa
namespace Go.Proofs.Ytejibpajjoaldaa
open Go.RowKit

/-- All old cells and all old marks read as before. -/
theorem bcell {W w1 : World} (hb : Below W.heap.size W w1) : (∀ b o, b < W.heap.size → w1.cell? ⟨b, o, none⟩ = W.cell? ⟨b, o, none⟩) ∧ (∀ b o, b < W.heap.size → w1.frozen? ⟨b, o, none⟩ = W.frozen? ⟨b, o, none⟩) :=
  ⟨fun b o h => hb.cell (p := ⟨b, o, none⟩) h, fun b o h => hb.frozen (p := ⟨b, o, none⟩) h⟩
theorem below_a1 (w : World) (o1 : Obj) : Below w.heap.size w (w.alloc o1) := (Below.refl _ _).alloc (Nat.le_refl _) _
theorem below_a2 (w : World) (o1 o2 : Obj) : Below w.heap.size w ((w.alloc o1).alloc o2) := (below_a1 w o1).alloc (by simp) _
theorem below_a3 (w : World) (o1 o2 o3 : Obj) : Below w.heap.size w (((w.alloc o1).alloc o2).alloc o3) := (below_a2 w o1 o2).alloc (by simp; omega) _

/-- Cells of blocks below B alone are written. -/
def Lows (B : Nat) (w w' : World) : Prop := ∀ k, B ≤ k → w'.heap[k]? = w.heap[k]?
theorem Lows.refl (B : Nat) (w : World) : Lows B w w := fun _ _ => rfl
theorem Lows.set {B : Nat} {w w' : World} (h : Lows B w w') {p : Addr} (hp : p.block < B) (u : Value) : Lows B w (w'.setCell p u) :=
  fun k hk => (Below.heap_setCell w' p u k (by omega)).trans (h k hk)

/-- A slice of bytes, and what it holds. -/
structure Dat where
  A : Option Addr
  n : Nat
  c : Nat
  xs : List Nat
def Dat.v (d : Dat) : Value := .slice d.A d.n d.c
structure Dat.Ok (w : World) (d : Dat) : Prop where
  rd : Rd w d.A d.n d.xs
  cap : d.n ≤ d.c
/-- A file. -/
structure Ent where
  nm : ByteArray
  d : Dat
def Ent.cells (e : Ent) : List Value := [.string e.nm, .slice e.d.A e.d.n e.d.c]
def Ent.file (e : Ent) : ByteArray × List Nat := (e.nm, e.d.xs)
/-- An operation. -/
structure OpE where
  kind : Int
  nm : ByteArray
  to : ByteArray
  d : Dat
def OpE.cells (o : OpE) : List Value := [.int .i64 o.kind, .string o.nm, .string o.to, .slice o.d.A o.d.n o.d.c]
def OpE.v (o : OpE) : Value := .agg #[.int .i64 o.kind, .string o.nm, .string o.to, .slice o.d.A o.d.n o.d.c]
def OpE.op (o : OpE) : Int × ByteArray × ByteArray × List Nat := (o.kind, o.nm, o.to, o.d.xs)
theorem Ent.cells_len (e : Ent) : e.cells.length = 2 := rfl
theorem OpE.cells_len (o : OpE) : o.cells.length = 4 := rfl

section
variable {w w' : World} {d : Dat}
theorem Dat.Ok.keep (h : d.Ok w) (hs : w.heap.size ≤ w'.heap.size) (hk : ∀ k, k < w.heap.size → w'.heap[k]? = w.heap[k]?) : d.Ok w' :=
  ⟨h.rd.keep hs fun p hp => World.cell?_of_block (hk p.block hp), h.cap⟩
theorem Dat.Ok.below (h : d.Ok w) (hb : Below w.heap.size w w') : d.Ok w' := h.keep hb.size hb.block
theorem Dat.Ok.drewN (h : d.Ok w) (k : Nat) : d.Ok (w.drewN k) := ⟨h.rd.drewN k, h.cap⟩
theorem Dat.Ok.alloc (h : d.Ok w) (o : Obj) : d.Ok (w.alloc o) := ⟨h.rd.alloc o, h.cap⟩
end

/-! ### cells one behind the other -/
theorem flat_len {α : Type} (f : α → List Value) (k : Nat) (hf : ∀ a, (f a).length = k) (es : List α) : (es.flatMap f).length = es.length * k := by
  induction es with
  | nil => simp
  | cons a r ih => rw [List.flatMap_cons, List.length_append, hf, ih, List.length_cons, Nat.add_mul, Nat.one_mul, Nat.add_comm]
theorem flat_get {α : Type} (f : α → List Value) (k : Nat) (hf : ∀ a, (f a).length = k) : ∀ (es : List α) (j i : Nat) (e : α), es[j]? = some e → i < k → (es.flatMap f)[j * k + i]? = (f e)[i]?
  | [], j, i, e, he, _ => by simp at he
  | a :: r, 0, i, e, he, hi => by
    simp at he
    subst he
    rw [List.flatMap_cons, Nat.zero_mul, Nat.zero_add, List.getElem?_append_left (by rw [hf]; exact hi)]
  | a :: r, j + 1, i, e, he, hi => by
    have he2 : r[j]? = some e := by simpa using he
    rw [List.flatMap_cons, List.getElem?_append_right (by rw [hf, Nat.add_mul]; omega), hf, Nat.add_mul, Nat.one_mul, show j * k + k + i - k = j * k + i by omega]
    exact flat_get f k hf r j i e he2 hi
theorem flat_set {α : Type} (f : α → List Value) (k : Nat) (hf : ∀ a, (f a).length = k) : ∀ (es : List α) (j i : Nat) (e e' : α) (u : Value), es[j]? = some e → i < k → f e' = (f e).set i u → (es.flatMap f).set (j * k + i) u = (es.set j e').flatMap f
  | [], j, i, e, _, _, he, _, _ => by simp at he
  | a :: r, 0, i, e, e', u, he, hi, h => by
    simp at he
    subst he
    rw [List.flatMap_cons, Nat.zero_mul, Nat.zero_add, List.set_append_left _ _ (by rw [hf]; exact hi), ← h, List.set_cons_zero, List.flatMap_cons]
  | a :: r, j + 1, i, e, e', u, he, hi, h => by
    have he2 : r[j]? = some e := by simpa using he
    rw [List.flatMap_cons, List.set_append_right _ _ (by rw [hf, Nat.add_mul]; omega), hf, Nat.add_mul, Nat.one_mul, show j * k + k + i - k = j * k + i by omega, flat_set f k hf r j i e e' u he2 hi h, List.set_cons_succ, List.flatMap_cons]
theorem flat_snoc {α : Type} (f : α → List Value) (es : List α) (e : α) : (es ++ [e]).flatMap f = es.flatMap f ++ f e := by simp

/-- The slice at A of n records of k cells each reads as the cells cs. -/
structure Row (w : World) (k : Nat) (A : Option Addr) (n : Nat) (cs : List Value) : Prop where
  len : cs.length = n * k
  lies : 0 < n → ∃ b off, A = some ⟨b, off, none⟩ ∧ b < w.heap.size ∧ ∀ (j : Nat) (u : Value), cs[j]? = some u → w.cell? ⟨b, off + j, none⟩ = some u

section
variable {w w' : World} {k n : Nat} {A : Option Addr} {cs : List Value}
theorem Row.keep (h : Row w k A n cs) (hs : w.heap.size ≤ w'.heap.size) (hk : ∀ i, i < w.heap.size → w'.heap[i]? = w.heap[i]?) : Row w' k A n cs :=
  ⟨h.len, fun hn => by
    obtain ⟨b, off, e, hb, hc⟩ := h.lies hn
    exact ⟨b, off, e, by omega, fun j u hu => (World.cell?_of_block (a := ⟨b, off + j, none⟩) (hk b hb)).trans (hc j u hu)⟩⟩
theorem Row.below (h : Row w k A n cs) (hb : Below w.heap.size w w') : Row w' k A n cs := h.keep hb.size hb.block
theorem Row.drewN (h : Row w k A n cs) (m : Nat) : Row (w.drewN m) k A n cs := ⟨h.len, h.lies⟩
theorem Row.alloc (h : Row w k A n cs) (o : Obj) : Row (w.alloc o) k A n cs := h.keep (by simp) fun i hi => Below.heap_alloc w o i hi
theorem Row.nil : Row w k A 0 [] := ⟨by simp, fun h => absurd h (by omega)⟩
theorem Row.reads (h : Row w k A n cs) : Reads w w.heap.size k A n cs :=
  ⟨h.len, fun hn => by
    obtain ⟨b, off, rfl, hb, hc⟩ := h.lies hn
    refine ⟨_, rfl, hb, fun j u hu => ?_⟩
    have hx2 : ((⟨b, off, none⟩ : Addr).add j) = ⟨b, off + j, none⟩ := by unfold Addr.add; split <;> simp_all
    rw [hx2]
    exact hc j u hu⟩
theorem Row.of_own {base e c : Nat} (h : w.ownsRow base e k (.slice A n c) n cs) : Row w k A n cs := by
  refine ⟨h.1, fun hn => ?_⟩
  obtain ⟨g, cap, hv, _, hlt⟩ := h.form hn
  have hA : A = some ⟨g, 0, none⟩ := by injection hv
  subst hA
  refine ⟨g, 0, rfl, hlt, fun j u hu => ?_⟩
  have := h.cells (g := g) rfl j u hu
  have hx : ((⟨g, 0, none⟩ : Addr).add j) = ⟨g, 0 + j, none⟩ := by unfold Addr.add; split <;> simp_all
  rw [hx] at this
  exact this
end

/-- A slice of files, a slice of operations, in memory. -/
structure SlF (w : World) (A : Option Addr) (n : Nat) (es : List Ent) : Prop where
  len : es.length = n
  row : Row w 2 A n (es.flatMap Ent.cells)
  each : ∀ e ∈ es, e.d.Ok w
structure SlO (w : World) (A : Option Addr) (n : Nat) (os : List OpE) : Prop where
  len : os.length = n
  row : Row w 4 A n (os.flatMap OpE.cells)
  each : ∀ o ∈ os, o.d.Ok w

section
variable {w w' : World} {n : Nat} {A : Option Addr} {es : List Ent} {os : List OpE}
theorem SlF.keep (h : SlF w A n es) (hs : w.heap.size ≤ w'.heap.size) (hk : ∀ i, i < w.heap.size → w'.heap[i]? = w.heap[i]?) : SlF w' A n es :=
  ⟨h.len, h.row.keep hs hk, fun e he => (h.each e he).keep hs hk⟩
theorem SlF.below (h : SlF w A n es) (hb : Below w.heap.size w w') : SlF w' A n es := h.keep hb.size hb.block
theorem SlF.drewN (h : SlF w A n es) (m : Nat) : SlF (w.drewN m) A n es := ⟨h.len, h.row.drewN m, fun e he => (h.each e he).drewN m⟩
theorem SlF.nil : SlF w A 0 [] := ⟨rfl, Row.nil, by simp⟩
theorem SlO.keep (h : SlO w A n os) (hs : w.heap.size ≤ w'.heap.size) (hk : ∀ i, i < w.heap.size → w'.heap[i]? = w.heap[i]?) : SlO w' A n os :=
  ⟨h.len, h.row.keep hs hk, fun e he => (h.each e he).keep hs hk⟩
theorem SlO.below (h : SlO w A n os) (hb : Below w.heap.size w w') : SlO w' A n os := h.keep hb.size hb.block
theorem SlO.drewN (h : SlO w A n os) (m : Nat) : SlO (w.drewN m) A n os := ⟨h.len, h.row.drewN m, fun e he => (h.each e he).drewN m⟩
theorem SlO.nil : SlO w A 0 [] := ⟨rfl, Row.nil, by simp⟩
/-- The file at place j, its two cells. -/
theorem SlF.at_ {j : Nat} (h : SlF w A n es) (hj : j < n) : ∃ (b off : Nat) (e : Ent), A = some ⟨b, off, none⟩ ∧ b < w.heap.size ∧ Hid (es[j]? = some e) ∧ Hid (e.d.Ok w) ∧
    w.cell? ⟨b, off + j * 2, none⟩ = some (.string e.nm) ∧ w.cell? ⟨b, off + j * 2 + 1, none⟩ = some (.slice e.d.A e.d.n e.d.c) := by
  obtain ⟨b, off, rfl, hb, hc⟩ := h.row.lies (by omega)
  have hl : j < es.length := by have := h.len; omega
  have he : es[j]? = some es[j] := List.getElem?_eq_getElem hl
  refine ⟨b, off, es[j], rfl, hb, he, h.each _ (List.getElem_mem hl), ?_, ?_⟩
  · exact hc (j * 2) _ (flat_get Ent.cells 2 Ent.cells_len es j 0 _ he (by omega))
  · exact hc (j * 2 + 1) _ (flat_get Ent.cells 2 Ent.cells_len es j 1 _ he (by omega))
theorem SlO.at_ {j : Nat} (h : SlO w A n os) (hj : j < n) : ∃ (b off : Nat) (o : OpE), A = some ⟨b, off, none⟩ ∧ b < w.heap.size ∧ Hid (os[j]? = some o) ∧ Hid (o.d.Ok w) ∧
    w.cell? ⟨b, off + j * 4, none⟩ = some (.int .i64 o.kind) ∧ w.cell? ⟨b, off + j * 4 + 1, none⟩ = some (.string o.nm) ∧ w.cell? ⟨b, off + j * 4 + 2, none⟩ = some (.string o.to) ∧ w.cell? ⟨b, off + j * 4 + 3, none⟩ = some (.slice o.d.A o.d.n o.d.c) := by
  obtain ⟨b, off, rfl, hb, hc⟩ := h.row.lies (by omega)
  have hl : j < os.length := by have := h.len; omega
  have he : os[j]? = some os[j] := List.getElem?_eq_getElem hl
  refine ⟨b, off, os[j], rfl, hb, he, h.each _ (List.getElem_mem hl), ?_, ?_, ?_, ?_⟩
  · exact hc (j * 4) _ (flat_get OpE.cells 4 OpE.cells_len os j 0 _ he (by omega))
  · exact hc (j * 4 + 1) _ (flat_get OpE.cells 4 OpE.cells_len os j 1 _ he (by omega))
  · exact hc (j * 4 + 2) _ (flat_get OpE.cells 4 OpE.cells_len os j 2 _ he (by omega))
  · exact hc (j * 4 + 3) _ (flat_get OpE.cells 4 OpE.cells_len os j 3 _ he (by omega))
end
end Go.Proofs.Ytejibpajjoaldaa
namespace Go.Proofs.Ytejibpajjoaldaa
open Go.RowKit

def szI (left : Int) (n : Nat) : Int := if (n : Int) ≤ left then left - n else -1
theorem szI_pos {left : Int} {n : Nat} (h : (n : Int) ≤ left) : szI left n = left - n := if_pos h
theorem szI_neg {left : Int} {n : Nat} (h : left < (n : Int)) : szI left n = -1 := if_neg (by omega)
def Ent.sz (e : Ent) : Nat := e.nm.size + e.d.n
def OpE.sz (o : OpE) : Nat := o.nm.size + o.to.size + o.d.n
theorem ret_int {k : IntKind} {a b : Int} (h : a = b) : Ending.returned (.int k a) = .returned (.int k b) := by rw [h]

/-- A number, and the old memory as it was. -/
def Nums (w : World) (b : Int) (e : Ending) (w' : World) : Prop := e = .returned (.int .i64 b) ∧ Below w.heap.size w w'

theorem szBytes_any (A : Option Addr) (n c : Nat) (left : Int) (w : World) (hn : n ≤ maxLen) (h0 : 0 ≤ left) (h1 : left ≤ 1048576) :
    Calls Try.prog 60 #[.slice A n c, .int .i64 left] w fun e w' => e = .returned (.int .i64 (szI left n)) ∧ w = w' := by
  unfold maxLen at hn
  by_cases h : (n : Int) ≤ left
  · have HV := Lib.hid (szI_pos h)
    have h2 : 0 ≤ left - (n : Int) := by omega
    go_enter Try.func60, Try.ntmps60
    go_wp2
    go_ret
    exact ⟨ret_int HV.out.symm, rfl⟩
  · have HV := Lib.hid (szI_neg (n := n) (left := left) (by omega))
    have h2 : left - (n : Int) < 0 := by omega
    go_enter Try.func60, Try.ntmps60
    go_wp2
    go_ret
    exact ⟨ret_int HV.out.symm, rfl⟩

set_option maxHeartbeats 400000 in
theorem szFile_any (s : ByteArray) (A : Option Addr) (n c : Nat) (left : Int) (w : World) (hs : s.size ≤ maxLen) (hn : n ≤ maxLen) (h0 : 0 ≤ left) (h1 : left ≤ 1048576) :
    Calls Try.prog 86 #[.agg #[.string s, .slice A n c], .int .i64 left] w (Nums w (szI left (s.size + n))) := by
  unfold maxLen at hs
  by_cases h : (s.size : Int) ≤ left
  · have h2 : 0 ≤ left - (s.size : Int) := by omega
    have C := Lib.hid (fun w => szBytes_any A n c (left - s.size) w hn h2 (by omega))
    by_cases h3 : ((s.size + n : Nat) : Int) ≤ left
    · have HV := Lib.hid (szI_pos h3)
      have h4 : 0 ≤ left - (s.size : Int) - n := by omega
      rw [szI_pos (by omega)] at C
      clear hn
      go_enter Try.func86, Try.ntmps86
      go_wp2_with fail
      refine (C.out _).mono ?_
      rintro e w' ⟨rfl, rfl⟩
      go_wp2
      go_ret
      exact ⟨ret_int (by rw [HV.out]; omega), (Below.refl _ _).alloc (Nat.le_refl _) _⟩
    · have HV := Lib.hid (szI_neg (left := left) (n := s.size + n) (by omega))
      rw [szI_neg (by omega)] at C
      clear hn
      go_enter Try.func86, Try.ntmps86
      go_wp2_with fail
      refine (C.out _).mono ?_
      rintro e w' ⟨rfl, rfl⟩
      go_wp2
      go_ret
      exact ⟨ret_int HV.out.symm, (Below.refl _ _).alloc (Nat.le_refl _) _⟩
  · have HV := Lib.hid (szI_neg (left := left) (n := s.size + n) (by omega))
    have h2 : left - (s.size : Int) < 0 := by omega
    clear hn
    go_enter Try.func86, Try.ntmps86
    go_wp2_with fail
    go_ret
    exact ⟨ret_int HV.out.symm, (Below.refl _ _).alloc (Nat.le_refl _) _⟩

set_option maxHeartbeats 1000000 in
theorem szOp_any (kind : Int) (s t : ByteArray) (A : Option Addr) (n c : Nat) (left : Int) (w : World) (hs : s.size ≤ maxLen) (ht : t.size ≤ maxLen) (hn : n ≤ maxLen) (h0 : 0 ≤ left) (h1 : left ≤ 1048576) :
    Calls Try.prog 20 #[.agg #[.int .i64 kind, .string s, .string t, .slice A n c], .int .i64 left] w (Nums w (szI left (s.size + t.size + n))) := by
  unfold maxLen at hs ht
  by_cases h : (s.size : Int) ≤ left
  · have h2 : 0 ≤ left - (s.size : Int) := by omega
    by_cases h5 : (t.size : Int) ≤ left - s.size
    · have h6 : 0 ≤ left - (s.size : Int) - t.size := by omega
      have C := Lib.hid (fun w => szBytes_any A n c (left - s.size - t.size) w hn h6 (by omega))
      by_cases h3 : ((s.size + t.size + n : Nat) : Int) ≤ left
      · have HV := Lib.hid (szI_pos h3)
        have h4 : 0 ≤ left - (s.size : Int) - t.size - n := by omega
        rw [szI_pos (by omega)] at C
        clear hn
        go_enter Try.func20, Try.ntmps20
        go_wp2_with fail
        refine (C.out _).mono ?_
        rintro e w' ⟨rfl, rfl⟩
        go_wp2
        go_ret
        exact ⟨ret_int (by rw [HV.out]; omega), (Below.refl _ _).alloc (Nat.le_refl _) _⟩
      · have HV := Lib.hid (szI_neg (left := left) (n := s.size + t.size + n) (by omega))
        rw [szI_neg (by omega)] at C
        clear hn
        go_enter Try.func20, Try.ntmps20
        go_wp2_with fail
        refine (C.out _).mono ?_
        rintro e w' ⟨rfl, rfl⟩
        go_wp2
        go_ret
        exact ⟨ret_int HV.out.symm, (Below.refl _ _).alloc (Nat.le_refl _) _⟩
    · have HV := Lib.hid (szI_neg (left := left) (n := s.size + t.size + n) (by omega))
      have h6 : left - (s.size : Int) - t.size < 0 := by omega
      clear hn
      go_enter Try.func20, Try.ntmps20
      go_wp2_with fail
      go_ret
      exact ⟨ret_int HV.out.symm, (Below.refl _ _).alloc (Nat.le_refl _) _⟩
  · have HV := Lib.hid (szI_neg (left := left) (n := s.size + t.size + n) (by omega))
    have h2 : left - (s.size : Int) < 0 := by omega
    clear hn
    go_enter Try.func20, Try.ntmps20
    go_wp2_with fail
    go_ret
    exact ⟨ret_int HV.out.symm, (Below.refl _ _).alloc (Nat.le_refl _) _⟩

def sumF (es : List Ent) : Nat := (es.map Ent.sz).sum
def sumO (os : List OpE) : Nat := (os.map OpE.sz).sum
theorem sumF_step (es : List Ent) (k : Nat) (e : Ent) (h : es[k]? = some e) : sumF (es.take (k + 1)) = sumF (es.take k) + e.sz := by
  obtain ⟨hk, rfl⟩ := List.getElem?_eq_some_iff.1 h
  unfold sumF
  rw [List.take_succ_eq_append_getElem hk, List.map_append, List.sum_append]
  simp
theorem sumO_step (es : List OpE) (k : Nat) (e : OpE) (h : es[k]? = some e) : sumO (es.take (k + 1)) = sumO (es.take k) + e.sz := by
  obtain ⟨hk, rfl⟩ := List.getElem?_eq_some_iff.1 h
  unfold sumO
  rw [List.take_succ_eq_append_getElem hk, List.map_append, List.sum_append]
  simp
theorem sumF_le (es : List Ent) (k : Nat) : sumF (es.take k) ≤ sumF es := by
  have : sumF es = sumF (es.take k) + sumF (es.drop k) := by unfold sumF; rw [← List.sum_append, ← List.map_append, List.take_append_drop]
  omega
theorem sumO_le (es : List OpE) (k : Nat) : sumO (es.take k) ≤ sumO es := by
  have : sumO es = sumO (es.take k) + sumO (es.drop k) := by unfold sumO; rw [← List.sum_append, ← List.map_append, List.take_append_drop]
  omega

set_option maxRecDepth 10000 in
set_option maxHeartbeats 1000000 in
theorem szFiles_any (A : Option Addr) (n c : Nat) (es : List Ent) (left : Int) (w : World) (hr : SlF w A n es) (hn : n ≤ maxLen) (hs : ∀ e ∈ es, e.nm.size ≤ maxLen ∧ e.d.n ≤ maxLen) (h0 : 0 ≤ left) (h1 : left ≤ 1048576) :
    Calls Try.prog 58 #[.slice A n c, .int .i64 left] w (Nums w (szI left (n + sumF es))) := by
  have HR := Lib.hid hr
  have HS := Lib.hid hs
  clear hr hs
  unfold maxLen at hn
  by_cases h : (n : Int) ≤ left
  · have h2 : 0 ≤ left - (n : Int) := by omega
    go_enter Try.func58, Try.ntmps58
    go_wp2
    go_loopw [1, 5] (fun t i wr => ∃ (k : Nat) (r : Int), k ≤ n ∧ i = .int .i64 k ∧ t = .int .i64 r ∧ Hid (r = left - n - sumF (es.take k)) ∧ 0 ≤ r ∧ r ≤ 1048576 ∧ Below w.heap.size w wr) (fun _ i _ => n - (intOf i).toNat)
    case atStart => exact ⟨0, _, Nat.zero_le _, rfl, rfl, Lib.hid (by simp [sumF]), h2, by omega, Below.refl _ _⟩
    case round =>
      obtain ⟨k, r, hk, rfl, rfl, hr, hr0, hr1, hbel⟩ := hrel
      by_cases hlt : k < n
      · obtain ⟨b, off, e, rfl, hbw, he, hok, c0, c1⟩ := HR.out.at_ hlt
        have c0 := (hbel.cell (p := ⟨b, off + k * 2, none⟩) hbw).trans c0
        have c1 := (hbel.cell (p := ⟨b, off + k * 2 + 1, none⟩) hbw).trans c1
        have hss := HS.out e (List.mem_of_getElem? he.out)
        have HB := Lib.hid hbel
        have HC := Lib.hid (szFile_any e.nm e.d.A e.d.n e.d.c r wr hss.1 hss.2 hr0 hr1)
        have HST := Lib.hid (sumF_step es k e he.out)
        have hsz : e.sz = e.nm.size + e.d.n := rfl
        have HLE := Lib.hid (sumF_le es (k + 1))
        have HSZ := Lib.hid hsz
        clear hss hbel hsz
        by_cases hfit : ((e.nm.size + e.d.n : Nat) : Int) ≤ r
        · rw [szI_pos hfit] at HC
          have hp : 0 ≤ r - ((e.nm.size + e.d.n : Nat) : Int) := by omega
          generalize hq : r - ((e.nm.size + e.d.n : Nat) : Int) = q at HC hp
          have HQ := Lib.hid hq
          clear hq hfit
          go_wp2_with fail
          refine HC.out.mono ?_
          rintro e1 w1 ⟨rfl, hb1⟩
          go_wp2
          go_roundw
          case rel => exact ⟨k + 1, q, by omega, by go_num, rfl, Lib.hid (by rw [HST.out, HSZ.out, ← HQ.out, hr.out]; omega), hp, by have := HQ.out; omega, HB.out.trans (hb1.mono HB.out.size)⟩
          case measure => simp [intOf]; omega
        · rw [szI_neg (by omega)] at HC
          have HV := Lib.hid (szI_neg (left := left) (n := n + sumF es) (by have := HST.out; have := HLE.out; have := HSZ.out; have := hr.out; omega))
          clear hfit
          go_wp2_with fail
          refine HC.out.mono ?_
          rintro e1 w1 ⟨rfl, hb1⟩
          go_wp2
          go_ret
          exact ⟨ret_int HV.out.symm, HB.out.trans (hb1.mono HB.out.size)⟩
      · have hkn : k = n := by omega
        have HV : Hid (r = szI left (n + sumF es)) := Lib.hid (by
          have e1 := hr.out
          rw [hkn, ← HR.out.len, List.take_length] at e1
          rw [szI_pos (by have := HR.out.len; omega)]
          have := HR.out.len
          omega)
        go_wp2
        go_ret
        exact ⟨ret_int HV.out, hbel⟩
  · have HV := Lib.hid (szI_neg (left := left) (n := n + sumF es) (by omega))
    have h2 : left - (n : Int) < 0 := by omega
    go_enter Try.func58, Try.ntmps58
    go_wp2
    go_ret
    exact ⟨ret_int HV.out.symm, Below.refl _ _⟩

set_option maxRecDepth 10000 in
set_option maxHeartbeats 1000000 in
theorem szOps_any (A : Option Addr) (n c : Nat) (es : List OpE) (left : Int) (w : World) (hr : SlO w A n es) (hn : n ≤ maxLen) (hs : ∀ e ∈ es, e.nm.size ≤ maxLen ∧ e.to.size ≤ maxLen ∧ e.d.n ≤ maxLen) (h0 : 0 ≤ left) (h1 : left ≤ 1048576) :
    Calls Try.prog 59 #[.slice A n c, .int .i64 left] w (Nums w (szI left (n + sumO es))) := by
  have HR := Lib.hid hr
  have HS := Lib.hid hs
  clear hr hs
  unfold maxLen at hn
  by_cases h : (n : Int) ≤ left
  · have h2 : 0 ≤ left - (n : Int) := by omega
    go_enter Try.func59, Try.ntmps59
    go_wp2
    go_loopw [1, 5] (fun t i wr => ∃ (k : Nat) (r : Int), k ≤ n ∧ i = .int .i64 k ∧ t = .int .i64 r ∧ Hid (r = left - n - sumO (es.take k)) ∧ 0 ≤ r ∧ r ≤ 1048576 ∧ Below w.heap.size w wr) (fun _ i _ => n - (intOf i).toNat)
    case atStart => exact ⟨0, _, Nat.zero_le _, rfl, rfl, Lib.hid (by simp [sumO]), h2, by omega, Below.refl _ _⟩
    case round =>
      obtain ⟨k, r, hk, rfl, rfl, hr, hr0, hr1, hbel⟩ := hrel
      by_cases hlt : k < n
      · obtain ⟨b, off, e, rfl, hbw, he, hok, c0, c1, c2, c3⟩ := HR.out.at_ hlt
        have c0 := (hbel.cell (p := ⟨b, off + k * 4, none⟩) hbw).trans c0
        have c1 := (hbel.cell (p := ⟨b, off + k * 4 + 1, none⟩) hbw).trans c1
        have c2 := (hbel.cell (p := ⟨b, off + k * 4 + 2, none⟩) hbw).trans c2
        have c3 := (hbel.cell (p := ⟨b, off + k * 4 + 3, none⟩) hbw).trans c3
        have hss := HS.out e (List.mem_of_getElem? he.out)
        have HB := Lib.hid hbel
        have HC := Lib.hid (szOp_any e.kind e.nm e.to e.d.A e.d.n e.d.c r wr hss.1 hss.2.1 hss.2.2 hr0 hr1)
        have HST := Lib.hid (sumO_step es k e he.out)
        have hsz : e.sz = e.nm.size + e.to.size + e.d.n := rfl
        have HLE := Lib.hid (sumO_le es (k + 1))
        have HSZ := Lib.hid hsz
        clear hss hbel hsz
        by_cases hfit : ((e.nm.size + e.to.size + e.d.n : Nat) : Int) ≤ r
        · rw [szI_pos hfit] at HC
          have hp : 0 ≤ r - ((e.nm.size + e.to.size + e.d.n : Nat) : Int) := by omega
          generalize hq : r - ((e.nm.size + e.to.size + e.d.n : Nat) : Int) = q at HC hp
          have HQ := Lib.hid hq
          clear hq hfit
          go_wp2_with fail
          refine HC.out.mono ?_
          rintro e1 w1 ⟨rfl, hb1⟩
          go_wp2
          go_roundw
          case rel => exact ⟨k + 1, q, by omega, by go_num, rfl, Lib.hid (by rw [HST.out, HSZ.out, ← HQ.out, hr.out]; omega), hp, by have := HQ.out; omega, HB.out.trans (hb1.mono HB.out.size)⟩
          case measure => simp [intOf]; omega
        · rw [szI_neg (by omega)] at HC
          have HV := Lib.hid (szI_neg (left := left) (n := n + sumO es) (by have := HST.out; have := HLE.out; have := HSZ.out; have := hr.out; omega))
          clear hfit
          go_wp2_with fail
          refine HC.out.mono ?_
          rintro e1 w1 ⟨rfl, hb1⟩
          go_wp2
          go_ret
          exact ⟨ret_int HV.out.symm, HB.out.trans (hb1.mono HB.out.size)⟩
      · have hkn : k = n := by omega
        have HV : Hid (r = szI left (n + sumO es)) := Lib.hid (by
          have e1 := hr.out
          rw [hkn, ← HR.out.len, List.take_length] at e1
          rw [szI_pos (by have := HR.out.len; omega)]
          have := HR.out.len
          omega)
        go_wp2
        go_ret
        exact ⟨ret_int HV.out, hbel⟩
  · have HV := Lib.hid (szI_neg (left := left) (n := n + sumO es) (by omega))
    have h2 : left - (n : Int) < 0 := by omega
    go_enter Try.func59, Try.ntmps59
    go_wp2
    go_ret
    exact ⟨ret_int HV.out.symm, Below.refl _ _⟩

set_option maxHeartbeats 1000000 in
theorem szDisk_any (room fuse : Int) (A B : Option Addr) (n c m d : Nat) (es : List Ent) (os : List OpE) (left : Int) (w : World) (hr : SlF w A n es) (hn : n ≤ maxLen) (hs : ∀ e ∈ es, e.nm.size ≤ maxLen ∧ e.d.n ≤ maxLen)
    (ho : SlO w B m os) (hm : m ≤ maxLen) (ht : ∀ e ∈ os, e.nm.size ≤ maxLen ∧ e.to.size ≤ maxLen ∧ e.d.n ≤ maxLen) (h0 : 0 ≤ left) (h1 : left ≤ 1048576) :
    Calls Try.prog 19 #[.agg #[.int .i64 room, .int .i64 fuse, .slice A n c, .slice B m d], .int .i64 left] w (Nums w (szI left (n + sumF es + (m + sumO os)))) := by
  have hal : ∀ o : Obj, Below w.heap.size w (w.alloc o) := fun o => (Below.refl _ _).alloc (Nat.le_refl _) o
  have C := Lib.hid (fun o => szFiles_any A n c es left (w.alloc o) (hr.below (hal o)) hn hs h0 h1)
  by_cases h : ((n + sumF es : Nat) : Int) ≤ left
  · rw [szI_pos h] at C
    have h2 : 0 ≤ left - ((n + sumF es : Nat) : Int) := by omega
    have D := Lib.hid (fun w' (hb : Below w.heap.size w w') => szOps_any B m d os (left - ((n + sumF es : Nat) : Int)) w' (ho.below hb) hm ht h2 (by omega))
    by_cases h3 : ((m + sumO os : Nat) : Int) ≤ left - ((n + sumF es : Nat) : Int)
    · rw [szI_pos h3] at D
      have HV := Lib.hid (szI_pos (left := left) (n := n + sumF es + (m + sumO os)) (by omega))
      have hp : 0 ≤ left - ((n + sumF es : Nat) : Int) - ((m + sumO os : Nat) : Int) := by omega
      have HQ : Hid (left - ((n + sumF es : Nat) : Int) - ((m + sumO os : Nat) : Int) = left - ((n + sumF es + (m + sumO os) : Nat) : Int)) := Lib.hid (by omega)
      generalize left - ((n + sumF es : Nat) : Int) - ((m + sumO os : Nat) : Int) = q at D hp HQ
      generalize left - ((n + sumF es : Nat) : Int) = p at C D h2
      clear h3 h hn hm hr ho hs ht
      go_enter Try.func19, Try.ntmps19
      go_wp2_with fail
      refine (C.out _).mono ?_
      rintro e w1 ⟨rfl, hb1⟩
      have hb2 := (hal _).trans (hb1.mono (by simp))
      have h2c := (hb1.cell (p := ⟨w.heap.size, 3, none⟩) (by simp))
      go_wp2_with fail
      refine (D.out w1 hb2).mono ?_
      rintro e w2 ⟨rfl, hb3⟩
      go_wp2
      go_ret
      exact ⟨ret_int (by rw [HV.out, HQ.out]), hb2.trans (hb3.mono hb2.size)⟩
    · rw [szI_neg (by omega)] at D
      have HV := Lib.hid (szI_neg (left := left) (n := n + sumF es + (m + sumO os)) (by omega))
      generalize left - ((n + sumF es : Nat) : Int) = p at C D h2
      clear h3 h hn hm hr ho hs ht
      go_enter Try.func19, Try.ntmps19
      go_wp2_with fail
      refine (C.out _).mono ?_
      rintro e w1 ⟨rfl, hb1⟩
      have hb2 := (hal _).trans (hb1.mono (by simp))
      have h2c := (hb1.cell (p := ⟨w.heap.size, 3, none⟩) (by simp))
      go_wp2_with fail
      refine (D.out w1 hb2).mono ?_
      rintro e w2 ⟨rfl, hb3⟩
      go_wp2
      go_ret
      exact ⟨ret_int HV.out.symm, hb2.trans (hb3.mono hb2.size)⟩
  · rw [szI_neg (by omega)] at C
    have HV := Lib.hid (szI_neg (left := left) (n := n + sumF es + (m + sumO os)) (by omega))
    clear h hn hm hr ho hs ht
    go_enter Try.func19, Try.ntmps19
    go_wp2_with fail
    refine (C.out _).mono ?_
    rintro e w1 ⟨rfl, hb1⟩
    go_wp2
    go_ret
    exact ⟨ret_int HV.out.symm, (hal _).trans (hb1.mono (by simp))⟩
end Go.Proofs.Ytejibpajjoaldaa
namespace Go.Proofs.Ytejibpajjoaldaa
open Go.RowKit

def Apart (a b : Dat) : Prop := a.v.ownBlock = none ∨ a.v.ownBlock ≠ b.v.ownBlock

/-- Slices of bytes of the call's own. -/
structure OwnB (w : World) (lo : Nat) (l : List Dat) : Prop where
  own : ∀ d ∈ l, w.ownsRow lo 5 1 d.v d.n (vb d.xs)
  small : ∀ d ∈ l, ∀ x ∈ d.xs, x < 256
  apart : l.Pairwise Apart

section
variable {w w' : World} {lo : Nat} {l m : List Dat}
theorem OwnB.nil : OwnB w lo [] := ⟨by simp, by simp, List.Pairwise.nil⟩
theorem OwnB.kept {row : Option Nat} (h : OwnB w lo l) (hg : w.grownBy w' row) (hne : ∀ d ∈ l, d.v.ownBlock = none ∨ d.v.ownBlock ≠ row) : OwnB w' lo l :=
  ⟨fun d hd => (h.own d hd).kept hg (hne d hd), h.small, h.apart⟩
theorem OwnB.below (h : OwnB w lo l) (hb : Below w.heap.size w w') : OwnB w' lo l :=
  h.kept (grownBy_of_below hb none) (fun d _ => by cases d.v.ownBlock <;> simp)
theorem OwnB.drewN (h : OwnB w lo l) (k : Nat) : OwnB (w.drewN k) lo l := ⟨h.own, h.small, h.apart⟩
theorem OwnB.lt (h : OwnB w lo l) {d : Dat} (hd : d ∈ l) : ∀ k, d.v.ownBlock = some k → lo ≤ k ∧ k < w.heap.size := (h.own d hd).lt
/-- Where the blocks from lo on are as they were. -/
theorem OwnB.keep (h : OwnB w lo l) (hk : ∀ k, lo ≤ k → k < w.heap.size → w'.heap[k]? = w.heap[k]?) : OwnB w' lo l := by
  refine ⟨fun d hd => ?_, h.small, h.apart⟩
  obtain ⟨h1, h2⟩ := h.own d hd
  refine ⟨h1, ?_⟩
  rcases h2 with h2 | ⟨g, cap, cur, e, hb, hg, r⟩
  · exact .inl h2
  · exact .inr ⟨g, cap, cur, e, hb, (hk g hb (lt_of_block hg)).trans hg, r⟩
theorem OwnB.ok (h : OwnB w lo l) : ∀ d ∈ l, d.Ok w := fun d hd => by
  have ho := h.own d hd
  exact ⟨Rd.of_own ho (h.small d hd), own_cap ho⟩
theorem OwnB.far (h : OwnB w lo l) {g : Nat} {cur : Array Value} {t : TypeId} {fr : Nat × Nat} (hg : w.heap[g]? = some (.cells cur t fr)) (ht : t ≠ 5) : ∀ d ∈ l, d.v.ownBlock = none ∨ d.v.ownBlock ≠ some g := fun d hd => by
  rcases (h.own d hd).2 with ⟨e, _⟩ | ⟨g', cap, cur', e, _, hg', _⟩
  · exact .inl (by rw [e]; rfl)
  · refine .inr (fun e2 => ?_)
    rw [e] at e2
    have e3 : g' = g := by simpa [Value.ownBlock] using e2
    subst e3
    rw [hg] at hg'
    injection hg' with hg'
    injection hg' with _ h2
    exact ht h2
theorem OwnB.append (h : OwnB w lo l) (k : OwnB w lo m) (hx : ∀ a ∈ l, ∀ b ∈ m, Apart a b) : OwnB w lo (l ++ m) :=
  ⟨fun d hd => by rcases List.mem_append.1 hd with hd | hd; exact h.own d hd; exact k.own d hd,
   fun d hd => by rcases List.mem_append.1 hd with hd | hd; exact h.small d hd; exact k.small d hd,
   List.pairwise_append.2 ⟨h.apart, k.apart, hx⟩⟩
/-- Those that were there before a world, and those that were made behind it, lie apart. -/
theorem apart_of_time {B lo' : Nat} (h : OwnB w lo l) (hB : w.heap.size ≤ B) (k : OwnB w' lo' m) (hB' : B ≤ lo') : ∀ a ∈ l, ∀ b ∈ m, Apart a b := fun a ha b hb => by
  cases e : a.v.ownBlock with
  | none => exact .inl e
  | some i =>
    refine .inr (fun e2 => ?_)
    rw [e] at e2
    have h1 := h.lt ha i e
    have h2 := k.lt hb i e2.symm
    omega
theorem OwnB.one {d : Dat} (h : w.ownsRow lo 5 1 d.v d.n (vb d.xs)) (hs : ∀ x ∈ d.xs, x < 256) : OwnB w lo [d] :=
  ⟨fun e he => by simp at he; subst he; exact h, fun e he => by simp at he; subst he; exact hs, by simp⟩
theorem OwnB.mono {lo' : Nat} (h : OwnB w lo l) (hl : lo' ≤ lo) : OwnB w lo' l :=
  ⟨fun d hd => by
    obtain ⟨h1, h2⟩ := h.own d hd
    refine ⟨h1, ?_⟩
    rcases h2 with h2 | ⟨g, cap, cur, e, hb, r⟩
    · exact .inl h2
    · exact .inr ⟨g, cap, cur, e, by omega, r⟩, h.small, h.apart⟩
theorem OwnB.left (h : OwnB w lo (l ++ m)) : OwnB w lo l := ⟨fun d hd => h.own d (List.mem_append_left _ hd), fun d hd => h.small d (List.mem_append_left _ hd), (List.pairwise_append.1 h.apart).1⟩
theorem OwnB.right (h : OwnB w lo (l ++ m)) : OwnB w lo m := ⟨fun d hd => h.own d (List.mem_append_right _ hd), fun d hd => h.small d (List.mem_append_right _ hd), (List.pairwise_append.1 h.apart).2.1⟩
end

theorem own_mono {w : World} {lo lo' e size n : Nat} {v : Value} {xs : List Value} (h : w.ownsRow lo e size v n xs) (hl : lo' ≤ lo) : w.ownsRow lo' e size v n xs := by
  obtain ⟨h1, h2⟩ := h
  refine ⟨h1, ?_⟩
  rcases h2 with h2 | ⟨g, cap, cur, e, hb, r⟩
  · exact .inl h2
  · exact .inr ⟨g, cap, cur, e, by omega, r⟩
theorem own_keep {w w' : World} {lo e size n : Nat} {v : Value} {xs : List Value} (h : w.ownsRow lo e size v n xs) (hk : ∀ k, lo ≤ k → k < w.heap.size → w'.heap[k]? = w.heap[k]?) : w'.ownsRow lo e size v n xs := by
  obtain ⟨h1, h2⟩ := h
  refine ⟨h1, ?_⟩
  rcases h2 with h2 | ⟨g, cap, cur, e, hb, hg, r⟩
  · exact .inl h2
  · exact .inr ⟨g, cap, cur, e, hb, (hk g hb (lt_of_block hg)).trans hg, r⟩

theorem own_set_low {w : World} {lo e size n : Nat} {v : Value} {xs : List Value} (h : w.ownsRow lo e size v n xs) {p : Addr} (hp : p.block < lo) (u : Value) : (w.setCell p u).ownsRow lo e size v n xs :=
  own_keep h (fun k hk _ => Below.heap_setCell w p u k (by omega))

/-- Files of the call's own; operations of the call's own. -/
structure OwnF (w : World) (lo : Nat) (A : Option Addr) (c : Nat) (es : List Ent) : Prop where
  row : w.ownsRow lo 87 2 (.slice A es.length c) es.length (es.flatMap Ent.cells)
  dat : OwnB w lo (es.map Ent.d)
structure OwnO (w : World) (lo : Nat) (A : Option Addr) (c : Nat) (os : List OpE) : Prop where
  row : w.ownsRow lo 30 4 (.slice A os.length c) os.length (os.flatMap OpE.cells)
  dat : OwnB w lo (os.map OpE.d)

section
variable {w w' : World} {lo c : Nat} {A : Option Addr} {es : List Ent} {os : List OpE}
theorem OwnF.below (h : OwnF w lo A c es) (hb : Below w.heap.size w w') : OwnF w' lo A c es := ⟨own_below h.row hb, h.dat.below hb⟩
theorem OwnO.below (h : OwnO w lo A c os) (hb : Below w.heap.size w w') : OwnO w' lo A c os := ⟨own_below h.row hb, h.dat.below hb⟩
theorem OwnF.drewN (h : OwnF w lo A c es) (k : Nat) : OwnF (w.drewN k) lo A c es := ⟨h.row, h.dat.drewN k⟩
theorem OwnO.drewN (h : OwnO w lo A c os) (k : Nat) : OwnO (w.drewN k) lo A c os := ⟨h.row, h.dat.drewN k⟩
theorem OwnF.keep (h : OwnF w lo A c es) (hk : ∀ k, lo ≤ k → k < w.heap.size → w'.heap[k]? = w.heap[k]?) : OwnF w' lo A c es := ⟨own_keep h.row hk, h.dat.keep hk⟩
theorem OwnO.keep (h : OwnO w lo A c os) (hk : ∀ k, lo ≤ k → k < w.heap.size → w'.heap[k]? = w.heap[k]?) : OwnO w' lo A c os := ⟨own_keep h.row hk, h.dat.keep hk⟩
theorem OwnF.mono {lo' : Nat} (h : OwnF w lo A c es) (hl : lo' ≤ lo) : OwnF w lo' A c es := ⟨own_mono h.row hl, h.dat.mono hl⟩
theorem OwnO.mono {lo' : Nat} (h : OwnO w lo A c os) (hl : lo' ≤ lo) : OwnO w lo' A c os := ⟨own_mono h.row hl, h.dat.mono hl⟩
theorem OwnF.sl (h : OwnF w lo A c es) : SlF w A es.length es := ⟨rfl, Row.of_own h.row, fun e he => h.dat.ok _ (List.mem_map.2 ⟨e, he, rfl⟩)⟩
theorem OwnO.sl (h : OwnO w lo A c os) : SlO w A os.length os := ⟨rfl, Row.of_own h.row, fun e he => h.dat.ok _ (List.mem_map.2 ⟨e, he, rfl⟩)⟩
theorem OwnF.nil : OwnF w lo none 0 [] := ⟨World.ownsRow_nil _ _ _ _, OwnB.nil⟩
theorem OwnO.nil : OwnO w lo none 0 [] := ⟨World.ownsRow_nil _ _ _ _, OwnB.nil⟩
end

theorem OwnF.lows {w w' : World} {lo c : Nat} {A : Option Addr} {es : List Ent} (h : OwnF w lo A c es) (hl : Lows lo w w') : OwnF w' lo A c es := h.keep (fun k hk _ => hl k hk)
theorem OwnO.lows {w w' : World} {lo c : Nat} {A : Option Addr} {os : List OpE} (h : OwnO w lo A c os) (hl : Lows lo w w') : OwnO w' lo A c os := h.keep (fun k hk _ => hl k hk)

/-- A disk of the call's own. -/
structure OwnD (w : World) (lo : Nat) (A : Option Addr) (c : Nat) (B : Option Addr) (d : Nat) (es : List Ent) (os : List OpE) : Prop where
  f : OwnF w lo A c es
  o : OwnO w lo B d os
  x : ∀ a ∈ es.map Ent.d, ∀ b ∈ os.map OpE.d, Apart a b
section
variable {w w' : World} {lo c d : Nat} {A B : Option Addr} {es : List Ent} {os : List OpE}
theorem OwnD.below (h : OwnD w lo A c B d es os) (hb : Below w.heap.size w w') : OwnD w' lo A c B d es os := ⟨h.f.below hb, h.o.below hb, h.x⟩
theorem OwnD.drewN (h : OwnD w lo A c B d es os) (k : Nat) : OwnD (w.drewN k) lo A c B d es os := ⟨h.f.drewN k, h.o.drewN k, h.x⟩
theorem OwnD.keep (h : OwnD w lo A c B d es os) (hk : ∀ k, lo ≤ k → k < w.heap.size → w'.heap[k]? = w.heap[k]?) : OwnD w' lo A c B d es os := ⟨h.f.keep hk, h.o.keep hk, h.x⟩
theorem OwnD.mono {lo' : Nat} (h : OwnD w lo A c B d es os) (hl : lo' ≤ lo) : OwnD w lo' A c B d es os := ⟨h.f.mono hl, h.o.mono hl, h.x⟩
theorem OwnD.lows (h : OwnD w lo A c B d es os) (hl : Lows lo w w') : OwnD w' lo A c B d es os := h.keep (fun k hk _ => hl k hk)
theorem OwnD.nil : OwnD w lo none 0 none 0 [] [] := ⟨OwnF.nil, OwnO.nil, by simp⟩
end

/-- A disk as a value. -/
def diskV (room fuse : Int) (A : Option Addr) (n c : Nat) (B : Option Addr) (m d : Nat) : Value := .agg #[.int .i64 room, .int .i64 fuse, .slice A n c, .slice B m d]
end Go.Proofs.Ytejibpajjoaldaa
namespace Go.Proofs.Ytejibpajjoaldaa
open Go.RowKit

theorem Try.infoFile : (Try.prog.info? 87).map (fun i => (i.zero, i.size, i.bytes)) = some (some (.agg #[.string ByteArray.empty, .slice none 0 0]), 2, 40) := by kernel_rfl
theorem Try.infoOp : (Try.prog.info? 30).map (fun i => (i.zero, i.size, i.bytes)) = some (some (.agg #[.int .i64 0, .string ByteArray.empty, .string ByteArray.empty, .slice none 0 0]), 4, 64) := by kernel_rfl

/-- A new file. -/
def MadeFile (w : World) (s : ByteArray) (xs : List Nat) (e : Ending) (w' : World) : Prop :=
  ∃ A c, e = .returned (.agg #[.string s, .slice A xs.length c]) ∧ w'.ownsRow w.heap.size 5 1 (.slice A xs.length c) xs.length (vb xs) ∧ Below w.heap.size w w'
def MadeOp (w : World) (kind : Int) (s t : ByteArray) (xs : List Nat) (e : Ending) (w' : World) : Prop :=
  ∃ A c, e = .returned (.agg #[.int .i64 kind, .string s, .string t, .slice A xs.length c]) ∧ w'.ownsRow w.heap.size 5 1 (.slice A xs.length c) xs.length (vb xs) ∧ Below w.heap.size w w'

set_option maxHeartbeats 400000 in
theorem toFile_any (s : ByteArray) (d : Dat) (w : World) (hr : d.Ok w) (hn : d.n ≤ 2097152) :
    Calls Try.prog 87 #[.agg #[.string s, .slice d.A d.n d.c]] w (MadeFile w s d.xs) := by
  have C := Lib.hid (fun w' (hb : Below w.heap.size w w') => copy_any d.A d.n d.c d.xs w' (hr.rd.below hb) hn)
  have HL := Lib.hid hr.rd.len
  clear hr
  go_enter Try.func87, Try.ntmps87
  go_wp2_with fail
  refine (C.out _ ?_).mono ?_
  · exact below_a3 _ _ _ _
  · rintro e w1 ⟨A1, c1, rfl, ho1, hb1⟩
    obtain ⟨hc, hf⟩ := bcell hb1
    have hz : w.heap.size + 1 + 1 < w1.heap.size := by have := hb1.size; simp at this; omega
    have HB := Lib.hid hb1
    clear hb1
    go_wp2
    refine bodyPost_ret (v := .agg #[.string s, .slice A1 d.n c1]) (by simp [results, Try.results87, go_sem, hc]) rfl ⟨A1, c1, by rw [HL.out], ?_, ?_⟩
    · rw [HL.out]
      exact own_mono (own_set_low (own_set_low (own_set_low ho1 (by simp) _) (by simp) _) (by simp) _) (by simp; omega)
    · exact ((((below_a3 _ _ _ _).trans (HB.out.mono (by simp; omega))).setCell (by simp; omega) _).setCell (by simp) _).setCell (by simp) _

set_option maxHeartbeats 400000 in
theorem toOp_any (kind : Int) (s t : ByteArray) (d : Dat) (w : World) (hr : d.Ok w) (hn : d.n ≤ 2097152) :
    Calls Try.prog 22 #[.agg #[.int .i64 kind, .string s, .string t, .slice d.A d.n d.c]] w (MadeOp w kind s t d.xs) := by
  have C := Lib.hid (fun w' (hb : Below w.heap.size w w') => copy_any d.A d.n d.c d.xs w' (hr.rd.below hb) hn)
  have HL := Lib.hid hr.rd.len
  clear hr
  go_enter Try.func22, Try.ntmps22
  go_wp2_with fail
  refine (C.out _ ?_).mono ?_
  · exact below_a3 _ _ _ _
  · rintro e w1 ⟨A1, c1, rfl, ho1, hb1⟩
    obtain ⟨hc, hf⟩ := bcell hb1
    have hz : w.heap.size + 1 + 1 < w1.heap.size := by have := hb1.size; simp at this; omega
    have HB := Lib.hid hb1
    clear hb1
    go_wp2
    refine bodyPost_ret (v := .agg #[.int .i64 kind, .string s, .string t, .slice A1 d.n c1]) (by simp [results, Try.results22, go_sem, hc]) rfl ⟨A1, c1, by rw [HL.out], ?_, ?_⟩
    · rw [HL.out]
      exact own_mono (own_set_low (own_set_low (own_set_low (own_set_low (own_set_low ho1 (by simp) _) (by simp) _) (by simp) _) (by simp) _) (by simp) _) (by simp; omega)
    · exact ((((((below_a3 _ _ _ _).trans (HB.out.mono (by simp; omega))).setCell (by simp; omega) _).setCell (by simp) _).setCell (by simp) _).setCell (by simp) _).setCell (by simp) _

/-- Nothing yet. -/
def zeroE : Ent := ⟨⟨#[]⟩, ⟨none, 0, 0, []⟩⟩
def zeroO : OpE := ⟨0, ⟨#[]⟩, ⟨#[]⟩, ⟨none, 0, 0, []⟩⟩
theorem made_rep {α : Type} (f : α → List Value) (z : α) (k : Nat) (hf : ∀ a, (f a).length = k) (hk : 0 < k) (cs : Array Value) (h : cs.toList = f z) (n : Nat) : (madeCells cs (n * k)).toList = (List.replicate n z).flatMap f := by
  have hs : cs.size = k := by rw [← Array.length_toList, h, hf]
  apply List.ext_getElem?
  intro i
  by_cases hi : i < n * k
  · have hj : i / k < n := Nat.div_lt_of_lt_mul (by rw [Nat.mul_comm]; exact hi)
    have hr : i % k < k := Nat.mod_lt _ hk
    have e := flat_get f k hf (List.replicate n z) (i / k) (i % k) z (by simp [hj]) hr
    rw [show i / k * k + i % k = i by rw [Nat.mul_comm]; exact Nat.div_add_mod i k] at e
    rw [e]
    simp only [madeCells, Array.toList_map, Array.toList_range, List.getElem?_map, List.getElem?_range hi, Option.map_some, hs]
    rw [← h, Array.getElem?_toList, getElem!_pos cs (i % k) (by omega), Array.getElem?_eq_getElem (by omega)]
  · rw [List.getElem?_eq_none (by simp [madeCells]; omega), List.getElem?_eq_none (by rw [flat_len f k hf]; simp; omega)]

/-- New files. -/
def MadeFs (w : World) (fs : List (ByteArray × List Nat)) (e : Ending) (w' : World) : Prop :=
  ∃ A c es, e = .returned (.slice A es.length c) ∧ es.map Ent.file = fs ∧ OwnF w' w.heap.size A c es ∧ Below w.heap.size w w'
def MadeOs (w : World) (fs : List (Int × ByteArray × ByteArray × List Nat)) (e : Ending) (w' : World) : Prop :=
  ∃ A c os, e = .returned (.slice A os.length c) ∧ os.map OpE.op = fs ∧ OwnO w' w.heap.size A c os ∧ Below w.heap.size w w'

theorem take_step {α : Type} (es : List α) (k : Nat) (e : α) (h : es[k]? = some e) : es.take (k + 1) = es.take k ++ [e] := by
  obtain ⟨hk, rfl⟩ := List.getElem?_eq_some_iff.1 h
  exact List.take_succ_eq_append_getElem hk
theorem own_block {w : World} {lo e size g n c m : Nat} {xs : List Value} (h : w.ownsRow lo e size (.slice (some ⟨g, 0, none⟩) n c) m xs) : ∃ cur, w.heap[g]? = some (.cells cur e (0, 0)) := by
  rcases h.2 with ⟨h2, _⟩ | ⟨g', cap, cur, e, _, hg, _⟩
  · cases h2
  · injection e with e1 _ _
    injection e1 with e1
    injection e1 with e1
    subst e1
    exact ⟨cur, hg⟩

/-- One more is made: what is laid at place k of a row that is nothing from k on. -/
theorem lay_at {α : Type} (made : List α) (z x : α) (n k : Nat) (hm : made.length = k) (hk : k < n) : (made ++ List.replicate (n - k) z).set k x = (made ++ [x]) ++ List.replicate (n - (k + 1)) z := by
  rw [List.set_append_right _ _ (by omega), hm, Nat.sub_self, show n - k = (n - (k + 1)) + 1 by omega, List.replicate_succ, List.set_cons_zero, List.append_assoc]
  rfl
theorem get_at {α : Type} (made : List α) (z : α) (n k : Nat) (hm : made.length = k) (hk : k < n) : (made ++ List.replicate (n - k) z)[k]? = some z := by
  rw [List.getElem?_append_right (by omega), hm, Nat.sub_self, show n - k = (n - (k + 1)) + 1 by omega, List.replicate_succ]
  rfl

/-- Two cells of one record stored. -/
theorem ownF_lay {w : World} {lo g c n k : Nat} {made : List Ent} {e : Ent} (h : w.ownsRow lo 87 2 (.slice (some ⟨g, 0, none⟩) n c) n ((made ++ List.replicate (n - k) zeroE).flatMap Ent.cells)) (hm : made.length = k) (hk : k < n) :
    ((w.setCell ⟨g, k * 2, none⟩ (.string e.nm)).setCell ⟨g, k * 2 + 1, none⟩ (.slice e.d.A e.d.n e.d.c)).ownsRow lo 87 2 (.slice (some ⟨g, 0, none⟩) n c) n (((made ++ [e]) ++ List.replicate (n - (k + 1)) zeroE).flatMap Ent.cells) ∧
      w.grownBy ((w.setCell ⟨g, k * 2, none⟩ (.string e.nm)).setCell ⟨g, k * 2 + 1, none⟩ (.slice e.d.A e.d.n e.d.c)) (some g) := by
  have h1 := h.stored (k * 2) (.string e.nm)
  have h2 := h1.1.stored (k * 2 + 1) (.slice e.d.A e.d.n e.d.c)
  have e1 := flat_set Ent.cells 2 Ent.cells_len (made ++ List.replicate (n - k) zeroE) k 0 zeroE ⟨e.nm, zeroE.d⟩ (.string e.nm) (get_at made zeroE n k hm hk) (by omega) rfl
  rw [Nat.add_zero, lay_at made zeroE _ n k hm hk] at e1
  have e2 := flat_set Ent.cells 2 Ent.cells_len (made ++ [⟨e.nm, zeroE.d⟩] ++ List.replicate (n - (k + 1)) zeroE) k 1 ⟨e.nm, zeroE.d⟩ e (.slice e.d.A e.d.n e.d.c) (by simp [hm]) (by omega) rfl
  have e3 : (made ++ [(⟨e.nm, zeroE.d⟩ : Ent)] ++ List.replicate (n - (k + 1)) zeroE).set k e = made ++ [e] ++ List.replicate (n - (k + 1)) zeroE := by
    rw [List.append_assoc, List.set_append_right _ _ (by omega), hm, Nat.sub_self, List.append_assoc]
    rfl
  rw [e3] at e2
  rw [e1, e2] at h2
  exact ⟨h2.1, h1.2.trans h2.2⟩

set_option maxRecDepth 10000 in
set_option maxHeartbeats 1000000 in
theorem toFiles_any (A : Option Addr) (n c : Nat) (es : List Ent) (w : World) (hr : SlF w A n es) (hn : n ≤ 2097152) (hs : ∀ e ∈ es, e.d.n ≤ 2097152) :
    Calls Try.prog 61 #[.slice A n c] w (MadeFs w (es.map Ent.file)) := by
  obtain ⟨i0, hi, hz0, hz1, hz2⟩ := info_parts Try.infoFile
  have HR := Lib.hid hr
  have HS := Lib.hid hs
  clear hr hs
  go_enter Try.func61, Try.ntmps61
  go_wp2_with (refine wpList_make_full _ rfl (.tmp 6) (.tmp 6) 23 rfl w.heap.size 87 i0 (.agg #[.string ByteArray.empty, .slice none 0 0]) 2 Try.underlying23 hi hz0 hz1 .i64 .i64 _ _ n rfl rfl rfl rfl (by rw [hz2]; omega) (by unfold maxLen; omega) (Nat.le_refl _) ?_; intro w1 hown hg)
  have hb1 : Below w.heap.size w w1 := (Below.refl _ _).grown hg (Nat.le_refl _) (by simp)
  have hown1 : w1.ownsRow w.heap.size 87 2 (.slice (some ⟨w.heap.size, 0, none⟩) n n) n (([] ++ List.replicate (n - 0) zeroE).flatMap Ent.cells) := by
    have h := hown
    rw [made_rep Ent.cells zeroE 2 Ent.cells_len (by omega) (Value.agg #[.string ByteArray.empty, .slice none 0 0]).cells rfl n] at h
    simpa using h
  clear hown hg
  go_loopw [4] (fun i wr => ∃ (k : Nat) (made : List Ent), k ≤ n ∧ i = .int .i64 k ∧ Hid (made.length = k) ∧ Hid (made.map Ent.file = (es.take k).map Ent.file) ∧ wr.ownsRow w.heap.size 87 2 (.slice (some ⟨w.heap.size, 0, none⟩) n n) n ((made ++ List.replicate (n - k) zeroE).flatMap Ent.cells) ∧ OwnB wr w.heap.size (made.map Ent.d) ∧ Below w.heap.size w wr) (fun i _ => n - (intOf i).toNat)
  case atStart => exact ⟨0, [], Nat.zero_le _, rfl, Lib.hid rfl, Lib.hid (by simp), hown1, OwnB.nil, hb1⟩
  case round =>
    obtain ⟨k, made, hk, rfl, hm, hf, hown, hdat, hbel⟩ := hrel
    by_cases hlt : k < n
    · obtain ⟨b, off, e, rfl, hbw, he, hok, c0, c1⟩ := HR.out.at_ hlt
      have c0 := (hbel.cell (p := ⟨b, off + k * 2, none⟩) hbw).trans c0
      have c1 := (hbel.cell (p := ⟨b, off + k * 2 + 1, none⟩) hbw).trans c1
      have HC := Lib.hid (toFile_any e.nm e.d wr (hok.out.below hbel) (HS.out e (List.mem_of_getElem? he.out)))
      have HO := Lib.hid hown
      have HB := Lib.hid hbel
      have HD := Lib.hid hdat
      clear hown hdat hbel
      go_wp2_with fail
      refine HC.out.mono ?_
      rintro e1 w2 ⟨A2, c2, rfl, ho2, hb2⟩
      have hown2 := own_below HO.out hb2
      have hc0 : w2.cell? ⟨w.heap.size, k * 2, none⟩ = some (.string ⟨#[]⟩) := by
        rw [hown2.cellAt (k * 2) (by omega)]
        exact flat_get Ent.cells 2 Ent.cells_len _ k 0 zeroE (get_at made zeroE n k hm.out hlt) (by omega)
      have hc1 : w2.cell? ⟨w.heap.size, k * 2 + 1, none⟩ = some (.slice none 0 0) := by
        rw [hown2.cellAt (k * 2 + 1) (by omega)]
        exact flat_get Ent.cells 2 Ent.cells_len _ k 1 zeroE (get_at made zeroE n k hm.out hlt) (by omega)
      have hf0 := hown2.frozenAt (k * 2)
      have hf1 := hown2.frozenAt (k * 2 + 1)
      have HL := Lib.hid (ownF_lay (e := ⟨e.nm, ⟨A2, e.d.xs.length, c2, e.d.xs⟩⟩) hown2 hm.out hlt)
      obtain ⟨cur, hg0⟩ := own_block hown2
      have HG := Lib.hid hg0
      have HO2 := Lib.hid ho2
      have HB2 := Lib.hid hb2
      clear hown2 ho2 hb2 hg0
      go_wp2
      go_roundw
      case rel =>
        refine ⟨k + 1, made ++ [⟨e.nm, ⟨A2, e.d.xs.length, c2, e.d.xs⟩⟩], by omega, by go_num, Lib.hid (by simp [hm.out]), Lib.hid ?_, HL.out.1, ?_, ?_⟩
        · rw [List.map_append, hf.out, take_step es k e he.out, List.map_append]
          rfl
        · rw [List.map_append]
          have hd2 : OwnB w2 w.heap.size (made.map Ent.d) := HD.out.below HB2.out
          have hall := hd2.append (OwnB.one (d := ⟨A2, e.d.xs.length, c2, e.d.xs⟩) (own_mono HO2.out HB.out.size) hok.out.rd.small) (apart_of_time HD.out (Nat.le_refl _) (OwnB.one (d := ⟨A2, e.d.xs.length, c2, e.d.xs⟩) HO2.out hok.out.rd.small) (Nat.le_refl _))
          exact hall.kept HL.out.2 (hall.far (HG.out) (by decide))
        · exact ((HB.out.trans (HB2.out.mono HB.out.size)).setCell (Nat.le_refl _) _).setCell (Nat.le_refl _) _
      case measure => simp [intOf]; omega
    · obtain rfl : k = n := by omega
      go_wp2
      go_ret
      refine ⟨some ⟨w.heap.size, 0, none⟩, made.length, made, ?_, ?_, ⟨?_, hdat⟩, hbel⟩
      · rw [hm.out]; rfl
      · rw [hf.out, ← HR.out.len, List.take_length]
      · rw [hm.out]; simpa using hown

theorem set_mid {α : Type} (made rest : List α) (x y : α) (k : Nat) (hm : made.length = k) : (made ++ [x] ++ rest).set k y = made ++ [y] ++ rest := by
  rw [List.append_assoc, List.set_append_right _ _ (by omega), hm, Nat.sub_self, List.append_assoc]
  rfl
theorem get_mid {α : Type} (made rest : List α) (x : α) (k : Nat) (hm : made.length = k) : (made ++ [x] ++ rest)[k]? = some x := by
  simp [hm]

/-- Four cells of one record stored. -/
theorem ownO_lay {w : World} {lo g c n k : Nat} {made : List OpE} {e : OpE} (h : w.ownsRow lo 30 4 (.slice (some ⟨g, 0, none⟩) n c) n ((made ++ List.replicate (n - k) zeroO).flatMap OpE.cells)) (hm : made.length = k) (hk : k < n) :
    ((((w.setCell ⟨g, k * 4, none⟩ (.int .i64 e.kind)).setCell ⟨g, k * 4 + 1, none⟩ (.string e.nm)).setCell ⟨g, k * 4 + 2, none⟩ (.string e.to)).setCell ⟨g, k * 4 + 3, none⟩ (.slice e.d.A e.d.n e.d.c)).ownsRow lo 30 4 (.slice (some ⟨g, 0, none⟩) n c) n (((made ++ [e]) ++ List.replicate (n - (k + 1)) zeroO).flatMap OpE.cells) ∧
      w.grownBy ((((w.setCell ⟨g, k * 4, none⟩ (.int .i64 e.kind)).setCell ⟨g, k * 4 + 1, none⟩ (.string e.nm)).setCell ⟨g, k * 4 + 2, none⟩ (.string e.to)).setCell ⟨g, k * 4 + 3, none⟩ (.slice e.d.A e.d.n e.d.c)) (some g) := by
  have h1 := h.stored (k * 4) (.int .i64 e.kind)
  have h2 := h1.1.stored (k * 4 + 1) (.string e.nm)
  have h3 := h2.1.stored (k * 4 + 2) (.string e.to)
  have h4 := h3.1.stored (k * 4 + 3) (.slice e.d.A e.d.n e.d.c)
  have e1 := flat_set OpE.cells 4 OpE.cells_len (made ++ List.replicate (n - k) zeroO) k 0 zeroO ⟨e.kind, zeroO.nm, zeroO.to, zeroO.d⟩ (.int .i64 e.kind) (get_at made zeroO n k hm hk) (by omega) rfl
  rw [Nat.add_zero, lay_at made zeroO _ n k hm hk] at e1
  have e2 := flat_set OpE.cells 4 OpE.cells_len (made ++ [⟨e.kind, zeroO.nm, zeroO.to, zeroO.d⟩] ++ List.replicate (n - (k + 1)) zeroO) k 1 ⟨e.kind, zeroO.nm, zeroO.to, zeroO.d⟩ ⟨e.kind, e.nm, zeroO.to, zeroO.d⟩ (.string e.nm) (get_mid _ _ _ _ hm) (by omega) rfl
  rw [set_mid _ _ _ _ _ hm] at e2
  have e3 := flat_set OpE.cells 4 OpE.cells_len (made ++ [⟨e.kind, e.nm, zeroO.to, zeroO.d⟩] ++ List.replicate (n - (k + 1)) zeroO) k 2 ⟨e.kind, e.nm, zeroO.to, zeroO.d⟩ ⟨e.kind, e.nm, e.to, zeroO.d⟩ (.string e.to) (get_mid _ _ _ _ hm) (by omega) rfl
  rw [set_mid _ _ _ _ _ hm] at e3
  have e4 := flat_set OpE.cells 4 OpE.cells_len (made ++ [⟨e.kind, e.nm, e.to, zeroO.d⟩] ++ List.replicate (n - (k + 1)) zeroO) k 3 ⟨e.kind, e.nm, e.to, zeroO.d⟩ e (.slice e.d.A e.d.n e.d.c) (get_mid _ _ _ _ hm) (by omega) rfl
  rw [set_mid _ _ _ _ _ hm] at e4
  rw [e1, e2, e3, e4] at h4
  exact ⟨h4.1, ((h1.2.trans h2.2).trans h3.2).trans h4.2⟩

set_option maxRecDepth 10000 in
set_option maxHeartbeats 1000000 in
theorem toOps_any (A : Option Addr) (n c : Nat) (es : List OpE) (w : World) (hr : SlO w A n es) (hn : n ≤ 2097152) (hs : ∀ e ∈ es, e.d.n ≤ 2097152) :
    Calls Try.prog 62 #[.slice A n c] w (MadeOs w (es.map OpE.op)) := by
  obtain ⟨i0, hi, hz0, hz1, hz2⟩ := info_parts Try.infoOp
  have HR := Lib.hid hr
  have HS := Lib.hid hs
  clear hr hs
  go_enter Try.func62, Try.ntmps62
  go_wp2_with (refine wpList_make_full _ rfl (.tmp 6) (.tmp 6) 24 rfl w.heap.size 30 i0 (.agg #[.int .i64 0, .string ByteArray.empty, .string ByteArray.empty, .slice none 0 0]) 4 Try.underlying24 hi hz0 hz1 .i64 .i64 _ _ n rfl rfl rfl rfl (by rw [hz2]; omega) (by unfold maxLen; omega) (Nat.le_refl _) ?_; intro w1 hown hg)
  have hb1 : Below w.heap.size w w1 := (Below.refl _ _).grown hg (Nat.le_refl _) (by simp)
  have hown1 : w1.ownsRow w.heap.size 30 4 (.slice (some ⟨w.heap.size, 0, none⟩) n n) n (([] ++ List.replicate (n - 0) zeroO).flatMap OpE.cells) := by
    have h := hown
    rw [made_rep OpE.cells zeroO 4 OpE.cells_len (by omega) (Value.agg #[.int .i64 0, .string ByteArray.empty, .string ByteArray.empty, .slice none 0 0]).cells rfl n] at h
    simpa using h
  clear hown hg
  go_loopw [4] (fun i wr => ∃ (k : Nat) (made : List OpE), k ≤ n ∧ i = .int .i64 k ∧ Hid (made.length = k) ∧ Hid (made.map OpE.op = (es.take k).map OpE.op) ∧ wr.ownsRow w.heap.size 30 4 (.slice (some ⟨w.heap.size, 0, none⟩) n n) n ((made ++ List.replicate (n - k) zeroO).flatMap OpE.cells) ∧ OwnB wr w.heap.size (made.map OpE.d) ∧ Below w.heap.size w wr) (fun i _ => n - (intOf i).toNat)
  case atStart => exact ⟨0, [], Nat.zero_le _, rfl, Lib.hid rfl, Lib.hid (by simp), hown1, OwnB.nil, hb1⟩
  case round =>
    obtain ⟨k, made, hk, rfl, hm, hf, hown, hdat, hbel⟩ := hrel
    by_cases hlt : k < n
    · obtain ⟨b, off, e, rfl, hbw, he, hok, c0, c1, c2, c3⟩ := HR.out.at_ hlt
      have c0 := (hbel.cell (p := ⟨b, off + k * 4, none⟩) hbw).trans c0
      have c1 := (hbel.cell (p := ⟨b, off + k * 4 + 1, none⟩) hbw).trans c1
      have c2 := (hbel.cell (p := ⟨b, off + k * 4 + 2, none⟩) hbw).trans c2
      have c3 := (hbel.cell (p := ⟨b, off + k * 4 + 3, none⟩) hbw).trans c3
      have HC := Lib.hid (toOp_any e.kind e.nm e.to e.d wr (hok.out.below hbel) (HS.out e (List.mem_of_getElem? he.out)))
      have HO := Lib.hid hown
      have HB := Lib.hid hbel
      have HD := Lib.hid hdat
      clear hown hdat hbel
      go_wp2_with fail
      refine HC.out.mono ?_
      rintro e1 w2 ⟨A2, c4, rfl, ho2, hb2⟩
      have hown2 := own_below HO.out hb2
      have hc0 : w2.cell? ⟨w.heap.size, k * 4, none⟩ = some (.int .i64 0) := by
        rw [hown2.cellAt (k * 4) (by omega)]
        exact flat_get OpE.cells 4 OpE.cells_len _ k 0 zeroO (get_at made zeroO n k hm.out hlt) (by omega)
      have hc1 : w2.cell? ⟨w.heap.size, k * 4 + 1, none⟩ = some (.string ⟨#[]⟩) := by
        rw [hown2.cellAt (k * 4 + 1) (by omega)]
        exact flat_get OpE.cells 4 OpE.cells_len _ k 1 zeroO (get_at made zeroO n k hm.out hlt) (by omega)
      have hc2 : w2.cell? ⟨w.heap.size, k * 4 + 2, none⟩ = some (.string ⟨#[]⟩) := by
        rw [hown2.cellAt (k * 4 + 2) (by omega)]
        exact flat_get OpE.cells 4 OpE.cells_len _ k 2 zeroO (get_at made zeroO n k hm.out hlt) (by omega)
      have hc3 : w2.cell? ⟨w.heap.size, k * 4 + 3, none⟩ = some (.slice none 0 0) := by
        rw [hown2.cellAt (k * 4 + 3) (by omega)]
        exact flat_get OpE.cells 4 OpE.cells_len _ k 3 zeroO (get_at made zeroO n k hm.out hlt) (by omega)
      have hf0 := hown2.frozenAt (k * 4)
      have hf1 := hown2.frozenAt (k * 4 + 1)
      have hf2 := hown2.frozenAt (k * 4 + 2)
      have hf3 := hown2.frozenAt (k * 4 + 3)
      have HL := Lib.hid (ownO_lay (e := ⟨e.kind, e.nm, e.to, ⟨A2, e.d.xs.length, c4, e.d.xs⟩⟩) hown2 hm.out hlt)
      obtain ⟨cur, hg0⟩ := own_block hown2
      have HG := Lib.hid hg0
      have HO2 := Lib.hid ho2
      have HB2 := Lib.hid hb2
      clear hown2 ho2 hb2 hg0
      go_wp2
      go_roundw
      case rel =>
        refine ⟨k + 1, made ++ [⟨e.kind, e.nm, e.to, ⟨A2, e.d.xs.length, c4, e.d.xs⟩⟩], by omega, by go_num, Lib.hid (by simp [hm.out]), Lib.hid ?_, HL.out.1, ?_, ?_⟩
        · rw [List.map_append, hf.out, take_step es k e he.out, List.map_append]
          rfl
        · rw [List.map_append]
          have hd2 : OwnB w2 w.heap.size (made.map OpE.d) := HD.out.below HB2.out
          have hall := hd2.append (OwnB.one (d := ⟨A2, e.d.xs.length, c4, e.d.xs⟩) (own_mono HO2.out HB.out.size) hok.out.rd.small) (apart_of_time HD.out (Nat.le_refl _) (OwnB.one (d := ⟨A2, e.d.xs.length, c4, e.d.xs⟩) HO2.out hok.out.rd.small) (Nat.le_refl _))
          exact hall.kept HL.out.2 (hall.far (HG.out) (by decide))
        · exact ((((HB.out.trans (HB2.out.mono HB.out.size)).setCell (Nat.le_refl _) _).setCell (Nat.le_refl _) _).setCell (Nat.le_refl _) _).setCell (Nat.le_refl _) _
      case measure => simp [intOf]; omega
    · obtain rfl : k = n := by omega
      go_wp2
      go_ret
      refine ⟨some ⟨w.heap.size, 0, none⟩, made.length, made, ?_, ?_, ⟨?_, hdat⟩, hbel⟩
      · rw [hm.out]; rfl
      · rw [hf.out, ← HR.out.len, List.take_length]
      · rw [hm.out]; simpa using hown

/-- A new disk. -/
def MadeD (w : World) (room fuse : Int) (fs : List (ByteArray × List Nat)) (ops : List (Int × ByteArray × ByteArray × List Nat)) (e : Ending) (w' : World) : Prop :=
  ∃ A c B d es os, e = .returned (.agg #[.int .i64 room, .int .i64 fuse, .slice A es.length c, .slice B os.length d]) ∧ es.map Ent.file = fs ∧ os.map OpE.op = ops ∧ OwnD w' w.heap.size A c B d es os ∧ Below w.heap.size w w'

set_option maxHeartbeats 1000000 in
theorem toDisk_any (room fuse : Int) (A : Option Addr) (n c : Nat) (B : Option Addr) (m d : Nat) (es : List Ent) (os : List OpE) (w : World) (hr : SlF w A n es) (hn : n ≤ 2097152) (hs : ∀ e ∈ es, e.d.n ≤ 2097152)
    (ho : SlO w B m os) (hm : m ≤ 2097152) (ht : ∀ e ∈ os, e.d.n ≤ 2097152) :
    Calls Try.prog 21 #[.agg #[.int .i64 room, .int .i64 fuse, .slice A n c, .slice B m d]] w (MadeD w room fuse (es.map Ent.file) (os.map OpE.op)) := by
  have C := Lib.hid (fun w' (hb : Below w.heap.size w w') => toFiles_any A n c es w' (hr.below hb) hn hs)
  have D := Lib.hid (fun w' (hb : Below w.heap.size w w') => toOps_any B m d os w' (ho.below hb) hm ht)
  clear hr hs ho ht
  generalize es.map Ent.file = fs at C ⊢
  generalize os.map OpE.op = ops at D ⊢
  go_enter Try.func21, Try.ntmps21
  go_wp2_with fail
  refine (C.out _ (below_a3 _ _ _ _)).mono ?_
  rintro e w1 ⟨A1, c1, es1, rfl, hf1, ho1, hb1⟩
  obtain ⟨hc, hf⟩ := bcell hb1
  have hz : w.heap.size + 1 + 1 < w1.heap.size := by have := hb1.size; simp at this; omega
  have hz' : w.heap.size + 1 < w1.heap.size := by omega
  have hz'' : w.heap.size < w1.heap.size := by omega
  have HF1 := Lib.hid hf1
  have HB := Lib.hid hb1
  have HO := Lib.hid ho1
  clear hb1 hf1 ho1
  go_wp2_with fail
  refine (D.out _ ?_).mono ?_
  · exact ((below_a3 _ _ _ _).trans (HB.out.mono (by simp; omega))).setCell (by simp; omega) _
  rintro e w2 ⟨B2, d2, os2, rfl, hf2, ho2, hb2⟩
  obtain ⟨hc2, hg2⟩ := bcell hb2
  have hz2 : w.heap.size + 1 + 1 < w2.heap.size := by have := hb2.size; simp at this; omega
  have HF2 := Lib.hid hf2
  have HB2 := Lib.hid hb2
  have HO2 := Lib.hid ho2
  clear hb2 hf2 ho2
  go_wp2
  refine bodyPost_ret (v := .agg #[.int .i64 room, .int .i64 fuse, .slice A1 es1.length c1, .slice B2 os2.length d2]) (by simp [results, Try.results21, go_sem, hc2, hc, hz']) rfl ⟨A1, c1, B2, d2, es1, os2, rfl, HF1.out, HF2.out, ?_, ?_⟩
  · have h1 : OwnF (w1.setCell ⟨w.heap.size + 1 + 1, 2, none⟩ (.slice A1 es1.length c1)) (w.heap.size + 1 + 1 + 1) A1 c1 es1 := by
      have := HO.out
      simp only [World.size_alloc] at this
      exact this.keep (fun k hk _ => Below.heap_setCell _ _ _ _ (by simp; omega))
    have h2 : OwnD w2 (w.heap.size + 1 + 1 + 1) A1 c1 B2 d2 es1 os2 := ⟨h1.below HB2.out, HO2.out.mono (by simp; omega), apart_of_time h1.dat (Nat.le_refl _) HO2.out.dat (Nat.le_refl _)⟩
    refine OwnD.mono (OwnD.lows h2 ?_) (by omega)
    exact Lows.set (Lows.set (Lows.set (Lows.set (Lows.set (Lows.refl _ _) (by simp <;> omega) _) (by simp <;> omega) _) (by simp <;> omega) _) (by simp <;> omega) _) (by simp <;> omega) _
  · refine Below.setCell (Below.setCell (Below.setCell (Below.setCell (Below.setCell ?_ (by simp <;> omega) _) (by simp <;> omega) _) (by simp <;> omega) _) (by simp <;> omega) _) (by simp <;> omega) _
    exact (((below_a3 _ _ _ _).trans (HB.out.mono (by simp; omega))).setCell (by simp; omega) _).trans (HB2.out.mono (by simp; omega))
end Go.Proofs.Ytejibpajjoaldaa
namespace Go.Proofs.Ytejibpajjoaldaa
open Go.RowKit

theorem str_same (x : ByteArray) : (x.toList == x.toList) = true := by simp
theorem str_same' (x : ByteArray) : (x.toList != x.toList) = false := by simp

set_option maxHeartbeats 400000 in
theorem eqFile_any (s : ByteArray) (a b : Dat) (w : World) (ha : a.Ok w) (hb : b.Ok w) (hx : a.xs = b.xs) (hn : a.n ≤ 2097152) :
    Calls Try.prog 67 #[.agg #[.string s, .slice a.A a.n a.c], .agg #[.string s, .slice b.A b.n b.c]] w (Tells w true) := by
  have hnn : a.n = b.n := by rw [← ha.rd.len, ← hb.rd.len, hx]
  have C := Lib.hid (fun w' (h : Below w.heap.size w w') => same_any a.A b.A a.n a.c b.c a.xs w' (ha.rd.below h) (by rw [hnn, hx]; exact hb.rd.below h) hn)
  have hss := str_same s
  obtain ⟨A1, n1, c1, xs1⟩ := a
  obtain ⟨A2, n2, c2, xs2⟩ := b
  simp only at hnn hx
  subst hnn hx
  clear ha hb
  go_enter Try.func67, Try.ntmps67
  go_wp2_with fail
  refine (C.out _ (below_a2 _ _ _)).mono ?_
  rintro e w1 ⟨rfl, k, rfl⟩
  go_wp2
  go_ret
  exact ⟨rfl, below_drewN (below_a2 _ _ _) k⟩

set_option maxHeartbeats 400000 in
theorem eqOp_any (kind : Int) (s t : ByteArray) (a b : Dat) (w : World) (ha : a.Ok w) (hb : b.Ok w) (hx : a.xs = b.xs) (hn : a.n ≤ 2097152) :
    Calls Try.prog 24 #[.agg #[.int .i64 kind, .string s, .string t, .slice a.A a.n a.c], .agg #[.int .i64 kind, .string s, .string t, .slice b.A b.n b.c]] w (Tells w true) := by
  have hnn : a.n = b.n := by rw [← ha.rd.len, ← hb.rd.len, hx]
  have C := Lib.hid (fun w' (h : Below w.heap.size w w') => same_any a.A b.A a.n a.c b.c a.xs w' (ha.rd.below h) (by rw [hnn, hx]; exact hb.rd.below h) hn)
  have hss := str_same s
  have htt := str_same t
  obtain ⟨A1, n1, c1, xs1⟩ := a
  obtain ⟨A2, n2, c2, xs2⟩ := b
  simp only at hnn hx
  subst hnn hx
  clear ha hb
  go_enter Try.func24, Try.ntmps24
  go_wp2_with fail
  refine (C.out _ (below_a2 _ _ _)).mono ?_
  rintro e w1 ⟨rfl, k, rfl⟩
  go_wp2
  go_ret
  exact ⟨rfl, below_drewN (below_a2 _ _ _) k⟩

theorem file_split {e e' : Ent} (h : e.file = e'.file) : e.nm = e'.nm ∧ e.d.xs = e'.d.xs := by
  unfold Ent.file at h
  injection h with h1 h2
  exact ⟨h1, h2⟩
theorem op_split {e e' : OpE} (h : e.op = e'.op) : e.kind = e'.kind ∧ e.nm = e'.nm ∧ e.to = e'.to ∧ e.d.xs = e'.d.xs := by
  unfold OpE.op at h
  injection h with h1 h2
  injection h2 with h2 h3
  injection h3 with h3 h4
  exact ⟨h1, h2, h3, h4⟩
theorem map_at {α β : Type} {f : α → β} {xs ys : List α} (h : xs.map f = ys.map f) {k : Nat} {x y : α} (hx : xs[k]? = some x) (hy : ys[k]? = some y) : f x = f y := by
  have := congrArg (fun l => l[k]?) h
  simp only [List.getElem?_map, hx, hy, Option.map_some, Option.some.injEq] at this
  exact this

set_option maxRecDepth 10000 in
set_option maxHeartbeats 1000000 in
theorem eqFiles_any (A B : Option Addr) (n c d : Nat) (es es' : List Ent) (w : World) (ha : SlF w A n es) (hb : SlF w B n es') (hx : es.map Ent.file = es'.map Ent.file) (hn : n ≤ 2097152) (hs : ∀ e ∈ es, e.d.n ≤ 2097152) :
    Calls Try.prog 28 #[.slice A n c, .slice B n d] w (Tells w true) := by
  have HA := Lib.hid ha
  have HB := Lib.hid hb
  have HX := Lib.hid hx
  have HS := Lib.hid hs
  clear ha hb hx hs
  go_enter Try.func28, Try.ntmps28
  go_wp2
  go_loopw [5] (fun i wr => ∃ k : Nat, k ≤ n ∧ i = .int .i64 k ∧ Below w.heap.size w wr) (fun i _ => n - (intOf i).toNat)
  case atStart => exact ⟨0, Nat.zero_le _, rfl, Below.refl _ _⟩
  case round =>
    obtain ⟨k, hk, rfl, hbel⟩ := hrel
    by_cases hlt : k < n
    · obtain ⟨b, off, e, rfl, hbw, he, hok, c0, c1⟩ := HA.out.at_ hlt
      obtain ⟨b', off', e', rfl, hbw', he', hok', c0', c1'⟩ := HB.out.at_ hlt
      have c0 := (hbel.cell (p := ⟨b, off + k * 2, none⟩) hbw).trans c0
      have c1 := (hbel.cell (p := ⟨b, off + k * 2 + 1, none⟩) hbw).trans c1
      have c0' := (hbel.cell (p := ⟨b', off' + k * 2, none⟩) hbw').trans c0'
      have c1' := (hbel.cell (p := ⟨b', off' + k * 2 + 1, none⟩) hbw').trans c1'
      obtain ⟨hnm, hxs⟩ := file_split (map_at HX.out he.out he'.out)
      have HC := Lib.hid (fun w' (h : Below wr.heap.size wr w') => eqFile_any e.nm e.d e'.d w' ((hok.out.below hbel).below h) ((hok'.out.below hbel).below h) hxs (HS.out e (List.mem_of_getElem? he.out)))
      rw [← hnm] at c0'
      have HBL := Lib.hid hbel
      clear hbel hnm hxs
      go_wp2
      go_region_with (go_at_call 67; ((with_reducible refine (HC.out _ (by first | exact Below.refl _ _ | exact (Below.refl _ _).drew | exact below_drewN (Below.refl _ _) _)).mono ?_)); rintro e1 w1 ⟨rfl, hb1⟩)
      all_goals
        go_wp2
        go_roundw
        case rel => exact ⟨k + 1, by omega, by go_num, by first | exact HBL.out.trans (hb1.mono HBL.out.size) | exact HBL.out.drew.trans (hb1.mono HBL.out.size) | exact (HBL.out.drew.trans (hb1.mono HBL.out.size)).drew | exact (below_drewN HBL.out _).trans (hb1.mono HBL.out.size)⟩
        case measure => simp [intOf]; omega
    · go_wp2
      go_ret
      exact ⟨rfl, hbel⟩
set_option maxRecDepth 10000 in
set_option maxHeartbeats 1000000 in
theorem eqOps_any (A B : Option Addr) (n c d : Nat) (es es' : List OpE) (w : World) (ha : SlO w A n es) (hb : SlO w B n es') (hx : es.map OpE.op = es'.map OpE.op) (hn : n ≤ 2097152) (hs : ∀ e ∈ es, e.d.n ≤ 2097152) :
    Calls Try.prog 64 #[.slice A n c, .slice B n d] w (Tells w true) := by
  have HA := Lib.hid ha
  have HB := Lib.hid hb
  have HX := Lib.hid hx
  have HS := Lib.hid hs
  clear ha hb hx hs
  go_enter Try.func64, Try.ntmps64
  go_wp2
  go_loopw [5] (fun i wr => ∃ k : Nat, k ≤ n ∧ i = .int .i64 k ∧ Below w.heap.size w wr) (fun i _ => n - (intOf i).toNat)
  case atStart => exact ⟨0, Nat.zero_le _, rfl, Below.refl _ _⟩
  case round =>
    obtain ⟨k, hk, rfl, hbel⟩ := hrel
    by_cases hlt : k < n
    · obtain ⟨b, off, e, rfl, hbw, he, hok, c0, c1, c2, c3⟩ := HA.out.at_ hlt
      obtain ⟨b', off', e', rfl, hbw', he', hok', c0', c1', c2', c3'⟩ := HB.out.at_ hlt
      have c0 := (hbel.cell (p := ⟨b, off + k * 4, none⟩) hbw).trans c0
      have c1 := (hbel.cell (p := ⟨b, off + k * 4 + 1, none⟩) hbw).trans c1
      have c2 := (hbel.cell (p := ⟨b, off + k * 4 + 2, none⟩) hbw).trans c2
      have c3 := (hbel.cell (p := ⟨b, off + k * 4 + 3, none⟩) hbw).trans c3
      have c0' := (hbel.cell (p := ⟨b', off' + k * 4, none⟩) hbw').trans c0'
      have c1' := (hbel.cell (p := ⟨b', off' + k * 4 + 1, none⟩) hbw').trans c1'
      have c2' := (hbel.cell (p := ⟨b', off' + k * 4 + 2, none⟩) hbw').trans c2'
      have c3' := (hbel.cell (p := ⟨b', off' + k * 4 + 3, none⟩) hbw').trans c3'
      obtain ⟨hkd, hnm, hto, hxs⟩ := op_split (map_at HX.out he.out he'.out)
      have HC := Lib.hid (fun w' (h : Below wr.heap.size wr w') => eqOp_any e.kind e.nm e.to e.d e'.d w' ((hok.out.below hbel).below h) ((hok'.out.below hbel).below h) hxs (HS.out e (List.mem_of_getElem? he.out)))
      rw [← hkd] at c0'
      rw [← hnm] at c1'
      rw [← hto] at c2'
      have HBL := Lib.hid hbel
      clear hbel hnm hxs hkd hto
      go_wp2
      go_region_with (go_at_call 24; ((with_reducible refine (HC.out _ (by first | exact Below.refl _ _ | exact (Below.refl _ _).drew | exact below_drewN (Below.refl _ _) _)).mono ?_)); rintro e1 w1 ⟨rfl, hb1⟩)
      all_goals
        go_wp2
        go_roundw
        case rel => exact ⟨k + 1, by omega, by go_num, by first | exact HBL.out.trans (hb1.mono HBL.out.size) | exact HBL.out.drew.trans (hb1.mono HBL.out.size) | exact (HBL.out.drew.trans (hb1.mono HBL.out.size)).drew | exact (below_drewN HBL.out _).trans (hb1.mono HBL.out.size)⟩
        case measure => simp [intOf]; omega
    · go_wp2
      go_ret
      exact ⟨rfl, hbel⟩

set_option maxHeartbeats 1000000 in
theorem eqDisk_any (room fuse : Int) (A A' : Option Addr) (n c c' : Nat) (B B' : Option Addr) (m d d' : Nat) (es es' : List Ent) (os os' : List OpE) (w : World) (ha : SlF w A n es) (hb : SlF w A' n es') (hx : es.map Ent.file = es'.map Ent.file) (hn : n ≤ 2097152) (hs : ∀ e ∈ es, e.d.n ≤ 2097152)
    (ka : SlO w B m os) (kb : SlO w B' m os') (kx : os.map OpE.op = os'.map OpE.op) (km : m ≤ 2097152) (ks : ∀ e ∈ os, e.d.n ≤ 2097152) :
    Calls Try.prog 23 #[.agg #[.int .i64 room, .int .i64 fuse, .slice A n c, .slice B m d], .agg #[.int .i64 room, .int .i64 fuse, .slice A' n c', .slice B' m d']] w (Tells w true) := by
  have C := Lib.hid (fun w' (h : Below w.heap.size w w') => eqFiles_any A A' n c c' es es' w' (ha.below h) (hb.below h) hx hn hs)
  have D := Lib.hid (fun w' (h : Below w.heap.size w w') => eqOps_any B B' m d d' os os' w' (ka.below h) (kb.below h) kx km ks)
  clear ha hb hx hs ka kb kx ks
  go_enter Try.func23, Try.ntmps23
  go_wp2_with fail
  refine (C.out _ (below_a2 _ _ _)).mono ?_
  rintro e w1 ⟨rfl, hb1⟩
  obtain ⟨hc, hf⟩ := bcell hb1
  have HB := Lib.hid ((below_a2 _ _ _).trans (hb1.mono (by simp; omega)))
  clear hb1
  go_wp2_with fail
  refine (D.out _ HB.out).mono ?_
  rintro e w2 ⟨rfl, hb2⟩
  go_wp2
  go_ret
  exact ⟨rfl, HB.out.trans (hb2.mono HB.out.size)⟩
end Go.Proofs.Ytejibpajjoaldaa
