/- What a valid operation is; the contracts of the model's and of the program's function that asks it. -/
import Derived.Test.YtdeijiochianpaaNameOk
import Derived.WalkLawsBesides
namespace Go.Proofs.Ytdeijiochianpaa
open Go.RowKit

def opOkB (kind : Int) (nm to : ByteArray) (n : Nat) : Bool :=
  nameB nm && (((decide (kind = 1) || decide (kind = 4)) && (decide (to.size = 0) && decide (n = 0))) || (decide (kind = 2) && (decide (to.size = 0) && decide (1 ≤ n ∧ n ≤ 200000))) || (decide (kind = 3) && (nameB to && decide (n = 0))))

theorem empty_of_size {s : ByteArray} (h : s.size = 0) : s = ⟨#[]⟩ := by
  apply ByteArray.ext
  exact Array.eq_empty_of_size_eq_zero h

theorem nameB_pos {s : ByteArray} (h : nameB s = true) : 1 ≤ s.size ∧ s.size ≤ 12 := by
  unfold nameB at h
  simp at h
  exact h.1

theorem implName_t (s : ByteArray) (h : nameB s = true) (w : World) : Calls Try.prog 95 #[.string s] w fun e w' => e = .returned (.bool true) ∧ w = w' := by
  have := implName s w (by have := nameB_pos h; omega)
  rw [h] at this
  exact this
theorem implName_f (s : ByteArray) (h : nameB s = false) (w : World) (hs : s.size ≤ 2097152) : Calls Try.prog 95 #[.string s] w fun e w' => e = .returned (.bool false) ∧ w = w' := by
  have := implName s w hs
  rw [h] at this
  exact this
theorem specName_t (s : ByteArray) (h : nameB s = true) (w : World) : Calls Try.prog 98 #[.string s] w fun e w' => e = .returned (.bool true) ∧ w = w' := by
  have := specName s w (by have := nameB_pos h; omega)
  rw [h] at this
  exact this
theorem specName_f (s : ByteArray) (h : nameB s = false) (w : World) (hs : s.size ≤ 2097152) : Calls Try.prog 98 #[.string s] w fun e w' => e = .returned (.bool false) ∧ w = w' := by
  have := specName s w hs
  rw [h] at this
  exact this

/-- What a question leaves: an answer, and the old memory as it was. -/
def Tells (w : World) (b : Bool) (e : Ending) (w' : World) : Prop := e = .returned (.bool b) ∧ Below w.heap.size w w'

set_option maxRecDepth 10000 in
set_option maxHeartbeats 1000000 in
theorem implOpOk_no (kind : Int) (nm to : ByteArray) (A : Option Addr) (n c : Nat) (w : World) (hs : nm.size ≤ 2097152) (hb : nameB nm = false) :
    Calls Try.prog 53 #[.agg #[.int .i64 kind, .string nm, .string to, .slice A n c]] w (Tells w false) := by
  have C := Lib.hid (fun w => implName_f nm hb w hs)
  clear hb
  go_enter Try.func53, Try.ntmps53
  go_wp2_with fail
  refine (C.out _).mono ?_
  rintro e w' ⟨rfl, rfl⟩
  go_wp2
  go_ret
  exact ⟨rfl, (Below.refl _ _).alloc (Nat.le_refl _) _⟩


theorem toList_ne {s : ByteArray} (h : ¬ s.size = 0) : ¬ s.toList = [] := by
  intro e
  apply h
  have e2 : s.data.toList = [] := by rw [ByteArray.toList_eq] at e; exact e
  have := congrArg List.length e2
  simpa using this

theorem opOkB_other {kind : Int} {nm to : ByteArray} {n : Nat} (h1 : kind ≠ 1) (h2 : kind ≠ 2) (h3 : kind ≠ 3) (h4 : kind ≠ 4) : opOkB kind nm to n = false := by
  unfold opOkB
  simp [h1, h2, h3, h4]

set_option maxRecDepth 10000 in
set_option maxHeartbeats 1000000 in
theorem implOpOk_1 (nm to : ByteArray) (A : Option Addr) (n c : Nat) (w : World) (hn : n ≤ 2097152) (hb : nameB nm = true) :
    Calls Try.prog 53 #[.agg #[.int .i64 1, .string nm, .string to, .slice A n c]] w (Tells w (opOkB 1 nm to n)) := by
  have C := Lib.hid (fun w => implName_t nm hb w)
  by_cases hto : to.size = 0
  · by_cases h0 : n = 0
    · have hv : opOkB 1 nm to n = true := by simp only [opOkB, hb, hto, h0]; simp
      rw [hv]
      obtain rfl := empty_of_size hto
      subst h0
      clear hb hv hto
      go_enter Try.func53, Try.ntmps53
      go_wp2_with fail
      refine (C.out _).mono ?_
      rintro e w' ⟨rfl, rfl⟩
      go_wp2
      go_ret
      exact ⟨ret_bool (by first | rfl | simp), (Below.refl _ _).alloc (Nat.le_refl _) _⟩
    · have hv : opOkB 1 nm to n = false := by simp [opOkB, h0]
      rw [hv]
      have h1 : 0 < n := by omega
      obtain rfl := empty_of_size hto
      clear hb hv hto h0
      go_enter Try.func53, Try.ntmps53
      go_wp2_with fail
      refine (C.out _).mono ?_
      rintro e w' ⟨rfl, rfl⟩
      go_wp2
      go_ret
      exact ⟨ret_bool (by simp; omega), (Below.refl _ _).alloc (Nat.le_refl _) _⟩
  · have hv : opOkB 1 nm to n = false := by simp only [opOkB, hto]; simp
    rw [hv]
    have ht := toList_ne hto
    have ht2 : (!to.toList.isEmpty) = true := by simpa using ht
    clear hb hv hto
    go_enter Try.func53, Try.ntmps53
    go_wp2_with fail
    refine (C.out _).mono ?_
    rintro e w' ⟨rfl, rfl⟩
    go_wp2
    go_ret
    exact ⟨ret_bool (by first | rfl | simp), (Below.refl _ _).alloc (Nat.le_refl _) _⟩

set_option maxRecDepth 10000 in
set_option maxHeartbeats 1000000 in
theorem implOpOk_4 (nm to : ByteArray) (A : Option Addr) (n c : Nat) (w : World) (hn : n ≤ 2097152) (hb : nameB nm = true) :
    Calls Try.prog 53 #[.agg #[.int .i64 4, .string nm, .string to, .slice A n c]] w (Tells w (opOkB 4 nm to n)) := by
  have C := Lib.hid (fun w => implName_t nm hb w)
  by_cases hto : to.size = 0
  · by_cases h0 : n = 0
    · have hv : opOkB 4 nm to n = true := by simp only [opOkB, hb, hto, h0]; simp
      rw [hv]
      obtain rfl := empty_of_size hto
      subst h0
      clear hb hv hto
      go_enter Try.func53, Try.ntmps53
      go_wp2_with fail
      refine (C.out _).mono ?_
      rintro e w' ⟨rfl, rfl⟩
      go_wp2
      go_ret
      exact ⟨ret_bool (by first | rfl | simp), (Below.refl _ _).alloc (Nat.le_refl _) _⟩
    · have hv : opOkB 4 nm to n = false := by simp [opOkB, h0]
      rw [hv]
      have h1 : 0 < n := by omega
      obtain rfl := empty_of_size hto
      clear hb hv hto h0
      go_enter Try.func53, Try.ntmps53
      go_wp2_with fail
      refine (C.out _).mono ?_
      rintro e w' ⟨rfl, rfl⟩
      go_wp2
      go_ret
      exact ⟨ret_bool (by simp; omega), (Below.refl _ _).alloc (Nat.le_refl _) _⟩
  · have hv : opOkB 4 nm to n = false := by simp only [opOkB, hto]; simp
    rw [hv]
    have ht := toList_ne hto
    have ht2 : (!to.toList.isEmpty) = true := by simpa using ht
    clear hb hv hto
    go_enter Try.func53, Try.ntmps53
    go_wp2_with fail
    refine (C.out _).mono ?_
    rintro e w' ⟨rfl, rfl⟩
    go_wp2
    go_ret
    exact ⟨ret_bool (by first | rfl | simp), (Below.refl _ _).alloc (Nat.le_refl _) _⟩

set_option maxRecDepth 10000 in
set_option maxHeartbeats 1000000 in
theorem implOpOk_2 (nm to : ByteArray) (A : Option Addr) (n c : Nat) (w : World) (hn : n ≤ 2097152) (hb : nameB nm = true) :
    Calls Try.prog 53 #[.agg #[.int .i64 2, .string nm, .string to, .slice A n c]] w (Tells w (opOkB 2 nm to n)) := by
  have C := Lib.hid (fun w => implName_t nm hb w)
  by_cases hto : to.size = 0
  · by_cases h1 : 1 ≤ n
    · by_cases h2 : n ≤ 200000
      · have hv : opOkB 2 nm to n = true := by simp only [opOkB, hb, hto, h1, h2]; simp
        rw [hv]
        obtain rfl := empty_of_size hto
        clear hb hv hto
        go_enter Try.func53, Try.ntmps53
        go_wp2_with fail
        refine (C.out _).mono ?_
        rintro e w' ⟨rfl, rfl⟩
        go_wp2
        go_ret
        exact ⟨ret_bool (by first | rfl | (simp; omega)), (Below.refl _ _).alloc (Nat.le_refl _) _⟩
      · have hv : opOkB 2 nm to n = false := by simp only [opOkB, hb, hto, h2]; simp
        rw [hv]
        obtain rfl := empty_of_size hto
        clear hb hv hto
        go_enter Try.func53, Try.ntmps53
        go_wp2_with fail
        refine (C.out _).mono ?_
        rintro e w' ⟨rfl, rfl⟩
        go_wp2
        go_ret
        exact ⟨ret_bool (by first | rfl | (simp; omega)), (Below.refl _ _).alloc (Nat.le_refl _) _⟩
    · have hv : opOkB 2 nm to n = false := by simp only [opOkB, hb, hto, h1]; simp
      rw [hv]
      obtain rfl := empty_of_size hto
      clear hb hv hto
      go_enter Try.func53, Try.ntmps53
      go_wp2_with fail
      refine (C.out _).mono ?_
      rintro e w' ⟨rfl, rfl⟩
      go_wp2
      go_ret
      exact ⟨ret_bool (by first | rfl | (simp; omega)), (Below.refl _ _).alloc (Nat.le_refl _) _⟩
  · have hv : opOkB 2 nm to n = false := by simp only [opOkB, hto]; simp
    rw [hv]
    have ht := toList_ne hto
    have ht2 : (!to.toList.isEmpty) = true := by simpa using ht
    clear hb hv hto
    go_enter Try.func53, Try.ntmps53
    go_wp2_with fail
    refine (C.out _).mono ?_
    rintro e w' ⟨rfl, rfl⟩
    go_wp2
    go_ret
    exact ⟨ret_bool (by first | rfl | simp), (Below.refl _ _).alloc (Nat.le_refl _) _⟩

set_option maxRecDepth 10000 in
set_option maxHeartbeats 1000000 in
theorem implOpOk_3 (nm to : ByteArray) (A : Option Addr) (n c : Nat) (w : World) (hn : n ≤ 2097152) (hs : to.size ≤ 2097152) (hb : nameB nm = true) :
    Calls Try.prog 53 #[.agg #[.int .i64 3, .string nm, .string to, .slice A n c]] w (Tells w (opOkB 3 nm to n)) := by
  have C := Lib.hid (fun w => implName_t nm hb w)
  by_cases ht : nameB to = true
  · have D := Lib.hid (fun w => implName_t to ht w)
    by_cases h0 : n = 0
    · have hv : opOkB 3 nm to n = true := by simp only [opOkB, hb, ht, h0]; simp
      rw [hv]
      subst h0
      clear hb hv ht
      go_enter Try.func53, Try.ntmps53
      go_wp2_with fail
      refine (C.out _).mono ?_
      rintro e w' ⟨rfl, rfl⟩
      go_wp2_with fail
      refine (D.out _).mono ?_
      rintro e w' ⟨rfl, rfl⟩
      go_wp2
      go_ret
      exact ⟨ret_bool (by first | rfl | simp), (Below.refl _ _).alloc (Nat.le_refl _) _⟩
    · have hv : opOkB 3 nm to n = false := by simp [opOkB, h0]
      rw [hv]
      have h1 : 0 < n := by omega
      clear hb hv ht h0
      go_enter Try.func53, Try.ntmps53
      go_wp2_with fail
      refine (C.out _).mono ?_
      rintro e w' ⟨rfl, rfl⟩
      go_wp2_with fail
      refine (D.out _).mono ?_
      rintro e w' ⟨rfl, rfl⟩
      go_wp2
      go_ret
      exact ⟨ret_bool (by first | rfl | (simp; omega)), (Below.refl _ _).alloc (Nat.le_refl _) _⟩
  · have ht2 : nameB to = false := by simpa using ht
    have D := Lib.hid (fun w => implName_f to ht2 w hs)
    have hv : opOkB 3 nm to n = false := by simp [opOkB, ht2]
    rw [hv]
    clear hb hv ht ht2
    go_enter Try.func53, Try.ntmps53
    go_wp2_with fail
    refine (C.out _).mono ?_
    rintro e w' ⟨rfl, rfl⟩
    go_wp2_with fail
    refine (D.out _).mono ?_
    rintro e w' ⟨rfl, rfl⟩
    go_wp2
    go_ret
    exact ⟨ret_bool (by first | rfl | simp), (Below.refl _ _).alloc (Nat.le_refl _) _⟩

set_option maxRecDepth 10000 in
set_option maxHeartbeats 1000000 in
theorem implOpOk_other (kind : Int) (nm to : ByteArray) (A : Option Addr) (n c : Nat) (w : World) (h1 : kind ≠ 1) (h2 : kind ≠ 2) (h3 : kind ≠ 3) (h4 : kind ≠ 4) (hb : nameB nm = true) :
    Calls Try.prog 53 #[.agg #[.int .i64 kind, .string nm, .string to, .slice A n c]] w (Tells w (opOkB kind nm to n)) := by
  rw [opOkB_other h1 h2 h3 h4]
  have C := Lib.hid (fun w => implName_t nm hb w)
  have e1 : (kind == 1) = false := by simpa using h1
  have e2 : (kind == 2) = false := by simpa using h2
  have e3 : (kind == 3) = false := by simpa using h3
  have e4 : (kind == 4) = false := by simpa using h4
  clear hb h1 h2 h3 h4
  go_enter Try.func53, Try.ntmps53
  go_wp2_with fail
  refine (C.out _).mono ?_
  rintro e w' ⟨rfl, rfl⟩
  go_wp2
  go_ret
  exact ⟨rfl, (Below.refl _ _).alloc (Nat.le_refl _) _⟩

theorem implOpOk (kind : Int) (nm to : ByteArray) (A : Option Addr) (n c : Nat) (w : World) (hs : nm.size ≤ 2097152) (ht : to.size ≤ 2097152) (hn : n ≤ 2097152) :
    Calls Try.prog 53 #[.agg #[.int .i64 kind, .string nm, .string to, .slice A n c]] w (Tells w (opOkB kind nm to n)) := by
  by_cases hb : nameB nm = true
  · by_cases h1 : kind = 1
    · subst h1; exact implOpOk_1 nm to A n c w hn hb
    · by_cases h2 : kind = 2
      · subst h2; exact implOpOk_2 nm to A n c w hn hb
      · by_cases h3 : kind = 3
        · subst h3; exact implOpOk_3 nm to A n c w hn ht hb
        · by_cases h4 : kind = 4
          · subst h4; exact implOpOk_4 nm to A n c w hn hb
          · exact implOpOk_other kind nm to A n c w h1 h2 h3 h4 hb
  · have hf : nameB nm = false := by simpa using hb
    have e : opOkB kind nm to n = false := by unfold opOkB; rw [hf, Bool.false_and]
    rw [e]
    exact implOpOk_no kind nm to A n c w hs hf

set_option maxRecDepth 10000 in
set_option maxHeartbeats 1000000 in
theorem specOpOk_no (kind : Int) (nm to : ByteArray) (A : Option Addr) (n c : Nat) (w : World) (hs : nm.size ≤ 2097152) (hb : nameB nm = false) :
    Calls Try.prog 60 #[.agg #[.int .i64 kind, .string nm, .string to, .slice A n c]] w (Tells w false) := by
  have C := Lib.hid (fun w => specName_f nm hb w hs)
  clear hb
  by_cases h1 : kind < 1
  · go_enter Try.func60, Try.ntmps60
    go_wp2_with fail
    go_ret
    exact ⟨rfl, (Below.refl _ _).alloc (Nat.le_refl _) _⟩
  · by_cases h2 : 4 < kind
    · go_enter Try.func60, Try.ntmps60
      go_wp2_with fail
      go_ret
      exact ⟨rfl, (Below.refl _ _).alloc (Nat.le_refl _) _⟩
    · go_enter Try.func60, Try.ntmps60
      go_wp2_with fail
      refine (C.out _).mono ?_
      rintro e w' ⟨rfl, rfl⟩
      go_wp2
      go_ret
      exact ⟨rfl, (Below.refl _ _).alloc (Nat.le_refl _) _⟩


set_option maxRecDepth 10000 in
set_option maxHeartbeats 1000000 in
theorem specOpOk_1 (nm to : ByteArray) (A : Option Addr) (n c : Nat) (w : World) (hn : n ≤ 2097152) (hb : nameB nm = true) :
    Calls Try.prog 60 #[.agg #[.int .i64 1, .string nm, .string to, .slice A n c]] w (Tells w (opOkB 1 nm to n)) := by
  have C := Lib.hid (fun w => specName_t nm hb w)
  by_cases hto : to.size = 0
  · by_cases h0 : n = 0
    · have hv : opOkB 1 nm to n = true := by simp only [opOkB, hb, hto, h0]; simp
      rw [hv]
      obtain rfl := empty_of_size hto
      subst h0
      clear hb hv hto
      go_enter Try.func60, Try.ntmps60
      go_wp2_with fail
      refine (C.out _).mono ?_
      rintro e w' ⟨rfl, rfl⟩
      go_wp2
      go_ret
      exact ⟨ret_bool (by first | rfl | simp), (Below.refl _ _).alloc (Nat.le_refl _) _⟩
    · have hv : opOkB 1 nm to n = false := by simp [opOkB, h0]
      rw [hv]
      have h1 : 0 < n := by omega
      obtain rfl := empty_of_size hto
      clear hb hv hto h0
      go_enter Try.func60, Try.ntmps60
      go_wp2_with fail
      refine (C.out _).mono ?_
      rintro e w' ⟨rfl, rfl⟩
      go_wp2
      go_ret
      exact ⟨ret_bool (by simp; omega), (Below.refl _ _).alloc (Nat.le_refl _) _⟩
  · have hv : opOkB 1 nm to n = false := by simp only [opOkB, hto]; simp
    rw [hv]
    have ht := toList_ne hto
    have ht2 : (!to.toList.isEmpty) = true := by simpa using ht
    clear hb hv hto
    go_enter Try.func60, Try.ntmps60
    go_wp2_with fail
    refine (C.out _).mono ?_
    rintro e w' ⟨rfl, rfl⟩
    go_wp2
    go_ret
    exact ⟨ret_bool (by first | rfl | simp), (Below.refl _ _).alloc (Nat.le_refl _) _⟩

set_option maxRecDepth 10000 in
set_option maxHeartbeats 1000000 in
theorem specOpOk_4 (nm to : ByteArray) (A : Option Addr) (n c : Nat) (w : World) (hn : n ≤ 2097152) (hb : nameB nm = true) :
    Calls Try.prog 60 #[.agg #[.int .i64 4, .string nm, .string to, .slice A n c]] w (Tells w (opOkB 4 nm to n)) := by
  have C := Lib.hid (fun w => specName_t nm hb w)
  by_cases hto : to.size = 0
  · by_cases h0 : n = 0
    · have hv : opOkB 4 nm to n = true := by simp only [opOkB, hb, hto, h0]; simp
      rw [hv]
      obtain rfl := empty_of_size hto
      subst h0
      clear hb hv hto
      go_enter Try.func60, Try.ntmps60
      go_wp2_with fail
      refine (C.out _).mono ?_
      rintro e w' ⟨rfl, rfl⟩
      go_wp2
      go_ret
      exact ⟨ret_bool (by first | rfl | simp), (Below.refl _ _).alloc (Nat.le_refl _) _⟩
    · have hv : opOkB 4 nm to n = false := by simp [opOkB, h0]
      rw [hv]
      have h1 : 0 < n := by omega
      obtain rfl := empty_of_size hto
      clear hb hv hto h0
      go_enter Try.func60, Try.ntmps60
      go_wp2_with fail
      refine (C.out _).mono ?_
      rintro e w' ⟨rfl, rfl⟩
      go_wp2
      go_ret
      exact ⟨ret_bool (by simp; omega), (Below.refl _ _).alloc (Nat.le_refl _) _⟩
  · have hv : opOkB 4 nm to n = false := by simp only [opOkB, hto]; simp
    rw [hv]
    have ht := toList_ne hto
    have ht2 : (!to.toList.isEmpty) = true := by simpa using ht
    clear hb hv hto
    go_enter Try.func60, Try.ntmps60
    go_wp2_with fail
    refine (C.out _).mono ?_
    rintro e w' ⟨rfl, rfl⟩
    go_wp2
    go_ret
    exact ⟨ret_bool (by first | rfl | simp), (Below.refl _ _).alloc (Nat.le_refl _) _⟩

set_option maxRecDepth 10000 in
set_option maxHeartbeats 1000000 in
theorem specOpOk_2 (nm to : ByteArray) (A : Option Addr) (n c : Nat) (w : World) (hn : n ≤ 2097152) (hb : nameB nm = true) :
    Calls Try.prog 60 #[.agg #[.int .i64 2, .string nm, .string to, .slice A n c]] w (Tells w (opOkB 2 nm to n)) := by
  have C := Lib.hid (fun w => specName_t nm hb w)
  by_cases hto : to.size = 0
  · by_cases h1 : 1 ≤ n
    · by_cases h2 : n ≤ 200000
      · have hv : opOkB 2 nm to n = true := by simp only [opOkB, hb, hto, h1, h2]; simp
        rw [hv]
        obtain rfl := empty_of_size hto
        clear hb hv hto
        go_enter Try.func60, Try.ntmps60
        go_wp2_with fail
        refine (C.out _).mono ?_
        rintro e w' ⟨rfl, rfl⟩
        go_wp2
        go_ret
        exact ⟨ret_bool (by first | rfl | (simp; omega)), (Below.refl _ _).alloc (Nat.le_refl _) _⟩
      · have hv : opOkB 2 nm to n = false := by simp only [opOkB, hb, hto, h2]; simp
        rw [hv]
        obtain rfl := empty_of_size hto
        clear hb hv hto
        go_enter Try.func60, Try.ntmps60
        go_wp2_with fail
        refine (C.out _).mono ?_
        rintro e w' ⟨rfl, rfl⟩
        go_wp2
        go_ret
        exact ⟨ret_bool (by first | rfl | (simp; omega)), (Below.refl _ _).alloc (Nat.le_refl _) _⟩
    · have hv : opOkB 2 nm to n = false := by simp only [opOkB, hb, hto, h1]; simp
      rw [hv]
      obtain rfl := empty_of_size hto
      clear hb hv hto
      go_enter Try.func60, Try.ntmps60
      go_wp2_with fail
      refine (C.out _).mono ?_
      rintro e w' ⟨rfl, rfl⟩
      go_wp2
      go_ret
      exact ⟨ret_bool (by first | rfl | (simp; omega)), (Below.refl _ _).alloc (Nat.le_refl _) _⟩
  · have hv : opOkB 2 nm to n = false := by simp only [opOkB, hto]; simp
    rw [hv]
    have ht := toList_ne hto
    have ht2 : (!to.toList.isEmpty) = true := by simpa using ht
    clear hb hv hto
    go_enter Try.func60, Try.ntmps60
    go_wp2_with fail
    refine (C.out _).mono ?_
    rintro e w' ⟨rfl, rfl⟩
    go_wp2
    go_ret
    exact ⟨ret_bool (by first | rfl | simp), (Below.refl _ _).alloc (Nat.le_refl _) _⟩

set_option maxRecDepth 10000 in
set_option maxHeartbeats 1000000 in
theorem specOpOk_3 (nm to : ByteArray) (A : Option Addr) (n c : Nat) (w : World) (hn : n ≤ 2097152) (hs : to.size ≤ 2097152) (hb : nameB nm = true) :
    Calls Try.prog 60 #[.agg #[.int .i64 3, .string nm, .string to, .slice A n c]] w (Tells w (opOkB 3 nm to n)) := by
  have C := Lib.hid (fun w => specName_t nm hb w)
  by_cases ht : nameB to = true
  · have D := Lib.hid (fun w => specName_t to ht w)
    by_cases h0 : n = 0
    · have hv : opOkB 3 nm to n = true := by simp only [opOkB, hb, ht, h0]; simp
      rw [hv]
      subst h0
      clear hb hv ht
      go_enter Try.func60, Try.ntmps60
      go_wp2_with fail
      refine (C.out _).mono ?_
      rintro e w' ⟨rfl, rfl⟩
      go_wp2_with fail
      refine (D.out _).mono ?_
      rintro e w' ⟨rfl, rfl⟩
      go_wp2
      go_ret
      exact ⟨ret_bool (by first | rfl | simp), (Below.refl _ _).alloc (Nat.le_refl _) _⟩
    · have hv : opOkB 3 nm to n = false := by simp [opOkB, h0]
      rw [hv]
      have h1 : 0 < n := by omega
      clear hb hv ht h0
      go_enter Try.func60, Try.ntmps60
      go_wp2_with fail
      refine (C.out _).mono ?_
      rintro e w' ⟨rfl, rfl⟩
      go_wp2_with fail
      refine (D.out _).mono ?_
      rintro e w' ⟨rfl, rfl⟩
      go_wp2
      go_ret
      exact ⟨ret_bool (by first | rfl | (simp; omega)), (Below.refl _ _).alloc (Nat.le_refl _) _⟩
  · have ht2 : nameB to = false := by simpa using ht
    have D := Lib.hid (fun w => specName_f to ht2 w hs)
    have hv : opOkB 3 nm to n = false := by simp [opOkB, ht2]
    rw [hv]
    clear hb hv ht ht2
    go_enter Try.func60, Try.ntmps60
    go_wp2_with fail
    refine (C.out _).mono ?_
    rintro e w' ⟨rfl, rfl⟩
    go_wp2_with fail
    refine (D.out _).mono ?_
    rintro e w' ⟨rfl, rfl⟩
    go_wp2
    go_ret
    exact ⟨ret_bool (by first | rfl | simp), (Below.refl _ _).alloc (Nat.le_refl _) _⟩

set_option maxRecDepth 10000 in
set_option maxHeartbeats 1000000 in
theorem specOpOk_other (kind : Int) (nm to : ByteArray) (A : Option Addr) (n c : Nat) (w : World) (h1 : kind ≠ 1) (h2 : kind ≠ 2) (h3 : kind ≠ 3) (h4 : kind ≠ 4) (_hb : nameB nm = true) :
    Calls Try.prog 60 #[.agg #[.int .i64 kind, .string nm, .string to, .slice A n c]] w (Tells w (opOkB kind nm to n)) := by
  rw [opOkB_other h1 h2 h3 h4]
  have hk : kind < 1 ∨ 4 < kind := by omega
  clear h1 h2 h3 h4
  rcases hk with hk | hk
  · go_enter Try.func60, Try.ntmps60
    go_wp2_with fail
    go_ret
    exact ⟨rfl, (Below.refl _ _).alloc (Nat.le_refl _) _⟩
  · have hk2 : ¬ kind < 1 := by omega
    go_enter Try.func60, Try.ntmps60
    go_wp2_with fail
    go_ret
    exact ⟨rfl, (Below.refl _ _).alloc (Nat.le_refl _) _⟩

theorem specOpOk (kind : Int) (nm to : ByteArray) (A : Option Addr) (n c : Nat) (w : World) (hs : nm.size ≤ 2097152) (ht : to.size ≤ 2097152) (hn : n ≤ 2097152) :
    Calls Try.prog 60 #[.agg #[.int .i64 kind, .string nm, .string to, .slice A n c]] w (Tells w (opOkB kind nm to n)) := by
  by_cases hb : nameB nm = true
  · by_cases h1 : kind = 1
    · subst h1; exact specOpOk_1 nm to A n c w hn hb
    · by_cases h2 : kind = 2
      · subst h2; exact specOpOk_2 nm to A n c w hn hb
      · by_cases h3 : kind = 3
        · subst h3; exact specOpOk_3 nm to A n c w hn ht hb
        · by_cases h4 : kind = 4
          · subst h4; exact specOpOk_4 nm to A n c w hn hb
          · exact specOpOk_other kind nm to A n c w h1 h2 h3 h4 hb
  · have hf : nameB nm = false := by simpa using hb
    have e : opOkB kind nm to n = false := by unfold opOkB; rw [hf, Bool.false_and]
    rw [e]
    exact specOpOk_no kind nm to A n c w hs hf
end Go.Proofs.Ytdeijiochianpaa
