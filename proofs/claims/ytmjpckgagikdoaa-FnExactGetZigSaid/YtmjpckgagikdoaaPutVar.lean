/- The contracts of the writers of numbers of variable length: what they return is a new slice with the bytes given and the digits of the number. Condition: at most 2^20 bytes. -/
import Derived.Test.YtmjpckgagikdoaaCopy
import Derived.Test.YtmjpckgagikdoaaAppend
import Derived.Test.YtmjpckgagikdoaaBits
namespace Go.Proofs.Ytmjpckgagikdoaa
open Go.RowKit

def numOk (n : Int) : Bool := decide (0 ≤ n ∧ n ≤ 281474976710655)

/-- What a writer leaves: a new slice of the bytes ys, and whether there was something to write. -/
def PutRes (w : World) (ok : Bool) (ys : List Nat) (e : Ending) (w' : World) : Prop :=
  ∃ A c, e = .returned (.tuple #[.slice A ys.length c, .bool ok]) ∧ w'.ownsRow w.heap.size 5 1 (.slice A ys.length c) ys.length (vb ys) ∧ Below w.heap.size w w'

theorem PutRes.no (w : World) : PutRes w false [] (.returned (.tuple #[.slice none 0 0, .bool false])) w :=
  ⟨none, 0, rfl, World.ownsRow_nil _ _ _ _, Below.refl _ _⟩

theorem specNum_yes (n : Int) (w : World) (h0 : 0 ≤ n) (h1 : n ≤ 281474976710655) : Calls Try.prog 28 #[.int .i64 n] w fun e w' => e = .returned (.bool true) ∧ w = w' := by
  go_enter Try.func28, Try.ntmps28
  go_wp2
  go_ret
  exact ⟨rfl, rfl⟩
theorem specNum_no (n : Int) (w : World) (h : n < 0 ∨ 281474976710655 < n) : Calls Try.prog 28 #[.int .i64 n] w fun e w' => e = .returned (.bool false) ∧ w = w' := by
  rcases h with h | h
  · go_enter Try.func28, Try.ntmps28
    go_wp2
    go_ret
    exact ⟨rfl, rfl⟩
  · have h0 : 0 ≤ n := by omega
    have h2 : decide (n ≤ 281474976710655) = false := by simpa using h
    go_enter Try.func28, Try.ntmps28
    go_wp2
    go_ret
    exact ⟨rfl, rfl⟩
theorem implNum_yes (n : Int) (w : World) (h0 : 0 ≤ n) (h1 : n ≤ 281474976710655) : Calls Try.prog 29 #[.int .i64 n] w fun e w' => e = .returned (.bool true) ∧ w = w' := by
  go_enter Try.func29, Try.ntmps29
  go_wp2
  go_ret
  exact ⟨rfl, rfl⟩
theorem implNum_no (n : Int) (w : World) (h : n < 0 ∨ 281474976710655 < n) : Calls Try.prog 29 #[.int .i64 n] w fun e w' => e = .returned (.bool false) ∧ w = w' := by
  rcases h with h | h
  · go_enter Try.func29, Try.ntmps29
    go_wp2
    go_ret
    exact ⟨rfl, rfl⟩
  · have h0 : 0 ≤ n := by omega
    have h2 : decide (n ≤ 281474976710655) = false := by simpa using h
    go_enter Try.func29, Try.ntmps29
    go_wp2
    go_ret
    exact ⟨rfl, rfl⟩

/-- The digits of a number, the lowest first; all but the last with 128 on top. -/
def digits : Nat → Nat → List Nat
  | 0, n => [n]
  | f + 1, n => if n < 128 then [n] else (n % 128 + 128) :: digits f (n / 128)
/-- The digits that are written when n is left, of a number below 128^(f+1). -/
theorem digits_small (f n : Nat) (h : n < 128) : digits f n = [n] := by cases f <;> simp [digits, h]
theorem digits_big (f n : Nat) (h : 128 ≤ n) : digits (f + 1) n = (n % 128 + 128) :: digits f (n / 128) := by simp [digits]; omega
theorem digits_length (f n : Nat) : (digits f n).length ≤ f + 1 := by
  induction f generalizing n with
  | zero => simp [digits]
  | succ f ih =>
    by_cases h : n < 128
    · simp [digits, h]
    · have := ih (n / 128)
      simp [digits, h]
      omega
theorem digits_bytes (f n : Nat) (h : n < 128 ^ (f + 1)) : ∀ x ∈ digits f n, x < 256 := by
  induction f generalizing n with
  | zero => intro x hx; simp [digits] at hx; omega
  | succ f ih =>
    intro x hx
    by_cases hn : n < 128
    · rw [digits_small _ _ hn] at hx; simp at hx; omega
    · rw [digits_big _ _ (by omega)] at hx
      rcases List.mem_cons.1 hx with rfl | hx
      · omega
      · refine ih (n / 128) ?_ x hx
        rw [Nat.pow_succ] at h
        omega
def putVar (xs : List Nat) (n : Int) : List Nat := if numOk n then xs ++ digits 6 n.toNat else []

/-- '[]byte{}' owns nothing. -/
theorem built_none (w : World) : (w.alloc (.cells #[] 5)).ownsRow w.heap.size 5 1 (.slice (some ⟨w.heap.size, 0, none⟩) 0 0) 0 [] :=
  World.ownsRow_lit w #[] 0 (Nat.le_refl _) (by unfold maxLen; omega) rfl
theorem own_form {w : World} {base e n : Nat} {v : Value} {xs : List Value} (h : w.ownsRow base e 1 v n xs) : ∃ A c, v = .slice A n c := by
  rcases h.2 with ⟨rfl, rfl⟩ | ⟨g, cap, _, rfl, _⟩
  · exact ⟨_, _, rfl⟩
  · exact ⟨_, _, rfl⟩
theorem below_built {w w1 : World} {o : Obj} {k c : Nat} (hg : (w.alloc o).grownBy w1 (Value.slice (some ⟨w.heap.size, 0, none⟩) k c).ownBlock) : Below w.heap.size w w1 :=
  ((Below.refl _ _).alloc (Nat.le_refl _) o).grown hg (by simp) (by simp [Value.ownBlock])

theorem clone_any (A : Option Addr) (n c : Nat) (xs : List Nat) (w : World) (hr : Rd w A n xs) (hn : n ≤ 2097152) :
    Calls Try.prog 30 #[.slice A n c] w (Made w n xs) := by
  obtain ⟨i0, hi, hz0, hz1, hz2⟩ := info_parts Try.infoByte
  rcases A with _ | a
  · obtain rfl : n = 0 := by
      rcases Nat.eq_zero_or_pos n with h | h
      · exact h
      · obtain ⟨_, _, h, _⟩ := hr.lies h
        cases h
    obtain rfl : xs = [] := List.eq_nil_of_length_eq_zero hr.len
    have e1 := fun w : World => Lib.run_eql_slice_nil (P := Try.prog) w 22 5 none 0 c 0 0 Try.underlying22
    go_enter Try.func30, Try.ntmps30
    go_wp2
    go_ret
    exact ⟨none, 0, rfl, World.ownsRow_nil _ _ _ _, Below.refl _ _⟩
  · have e1 := fun w : World => Lib.run_eql_slice_nil (P := Try.prog) w 22 5 (some a) n c 0 0 Try.underlying22
    go_enter Try.func30, Try.ntmps30
    go_wp2_with (at_builtin; refine wpList_append_any _ rfl (.tmp 5) (.tmp 6) _ rfl w.heap.size 5 i0 _ 1 1 Try.underlying22 hi hz0 hz1 hz2 rfl (by omega) (.slice (some ⟨w.heap.size, 0, none⟩) 0 0) 0 [] rfl (built_none w) w.heap.size (some a) n c (vb xs) rfl (hr.reads.alloc (Nat.le_refl _) _) (vb_oneCell xs) (by simp only [maxLen]; omega) (by omega) (by simp) ?_; intro v1 w1 hown1 hg1 hat1)
    obtain ⟨A1, c1, rfl⟩ := own_form hown1
    go_ret
    exact ⟨A1, c1, by simp, by simpa using hown1, below_built hg1⟩
theorem one_reads (w : World) (u : Value) : Reads (w.alloc (.cells #[u] 5)) (w.heap.size + 1) 1 (some ⟨w.heap.size, 0, none⟩) 1 [u] := by
  refine ⟨rfl, fun _ => ⟨_, rfl, by simp, fun j v hj => ?_⟩⟩
  match j, hj with
  | 0, hj => simp at hj; subst hj; simp [Addr.add]
theorem one_cell (x : Int) : ∀ u ∈ [Value.int .u8 x], u.oneCell' = true := by intro u hu; simp at hu; subst hu; rfl
/-- One byte more. -/
theorem own_snoc {w : World} {base n : Nat} {v : Value} {ys : List Nat} {x : Int} {y : Nat} (h : w.ownsRow base 5 1 v (n + 1) (vb ys ++ [.int .u8 x])) (hn : ys.length = n) (hx : x = (y : Int)) :
    w.ownsRow base 5 1 v (ys ++ [y]).length (vb (ys ++ [y])) := by
  subst hx
  rw [vb_append, List.length_append, hn]
  exact h

theorem below_app {w wr w2 : World} {e n : Nat} {v : Value} {xs : List Value} {o : Obj} (hbel : Below w.heap.size w wr) (hown : wr.ownsRow w.heap.size e 1 v n xs) (hg : (wr.alloc o).grownBy w2 v.ownBlock) : Below w.heap.size w w2 :=
  (hbel.alloc hbel.size o).grown hg (by have := hbel.size; simp; omega) (fun k hk => (hown.lt k hk).1)

/-- What is written so far (ys) and what is left (r) make the whole. -/
structure Left (whole ys : List Nat) (f r : Nat) : Prop where
  eq : ys ++ digits f r = whole
  lt : r < 128 ^ (f + 1)
theorem Left.step {whole ys : List Nat} {f r : Nat} (h : Left whole ys f r) (hr : 128 ≤ r) : ∃ g, f = g + 1 ∧ Left whole (ys ++ [r % 128 + 128]) g (r / 128) := by
  cases f with
  | zero => have := h.lt; simp at this; omega
  | succ g =>
    refine ⟨g, rfl, ?_, ?_⟩
    · rw [← h.eq, digits_big _ _ hr]; simp
    · have := h.lt; rw [Nat.pow_succ] at this; omega
theorem Left.done {whole ys : List Nat} {f r : Nat} (h : Left whole ys f r) (hr : r < 128) : ys ++ [r] = whole := by rw [← h.eq, digits_small _ _ hr]

set_option maxRecDepth 10000 in
set_option maxHeartbeats 1000000 in
theorem specPutVar_yes (A : Option Addr) (n c m : Nat) (xs : List Nat) (w : World) (hr : Rd w A n xs) (hn : n ≤ 1048600) (hm : m ≤ 281474976710655) :
    Calls Try.prog 10 #[.slice A n c, .int .i64 (m : Int)] w (PutRes w true (xs ++ digits 6 m)) := by
  obtain ⟨i0, hi, hz0, hz1, hz2⟩ := info_parts Try.infoByte
  have HL := Lib.hid hr.len
  have hleft : Left (xs ++ digits 6 m) xs 6 m := ⟨rfl, by omega⟩
  go_enter Try.func10, Try.ntmps10
  go_wp2_with (first
    | (go_at_call 28; refine (specNum_yes _ _ (by omega) (by omega)).mono ?_; rintro e w' ⟨rfl, rfl⟩)
    | (at_builtin; refine wpList_append_any _ rfl (.tmp 10) (.tmp 11) _ rfl w.heap.size 5 i0 _ 1 1 Try.underlying22 hi hz0 hz1 hz2 rfl (by omega) (.slice (some ⟨w.heap.size, 0, none⟩) 0 0) 0 [] rfl (built_none w) w.heap.size A n c (vb xs) rfl (hr.reads.alloc (Nat.le_refl _) _) (vb_oneCell xs) (by simp only [maxLen]; omega) (by omega) (by simp) ?_; intro v1 w1 hown1 hg1 hat1))
  have hb1 : Below w.heap.size w w1 := below_built hg1
  have ho1 : w1.ownsRow w.heap.size 5 1 v1 xs.length (vb xs) := by rw [HL.out]; simpa using hown1
  have hlen : xs.length ≤ 1048600 := by rw [HL.out]; omega
  clear hg1 hat1 hown1
  go_loopw [1, 6] (fun t v wr => ∃ (r f : Nat) (ys : List Nat), t = .int .i64 (r : Int) ∧ r ≤ 281474976710655 ∧ Left (xs ++ digits 6 m) ys f r ∧ ys.length + f ≤ 1048606 ∧ wr.ownsRow w.heap.size 5 1 v ys.length (vb ys) ∧ Below w.heap.size w wr) (fun t _ _ => (intOf t).toNat)
  case atStart => exact ⟨m, 6, xs, rfl, hm, hleft, by omega, ho1, hb1⟩
  case round =>
    obtain ⟨r, f, ys, rfl, hrm, hlf, hyl, hown, hbel⟩ := hrel
    by_cases hbig : 128 ≤ r
    · obtain ⟨g, rfl, hlf2⟩ := hlf.step hbig
      go_wp2_with (at_builtin; refine wpList_append_any _ rfl (.tmp 15) (.tmp 20) _ rfl w.heap.size 5 i0 _ 1 1 Try.underlying22 hi hz0 hz1 hz2 rfl (by omega) _ ys.length (vb ys) rfl (hown.alloc _) (wr.heap.size + 1) (some ⟨wr.heap.size, 0, none⟩) 1 1 [.int .u8 ((r : Int) % 128 + 128)] rfl (one_reads _ _) (one_cell _) (by simp only [maxLen]; omega) (by omega) (by have := hbel.size; simp; omega) ?_; intro v2 w2 hown2 hg2 hat2)
      have hb2 : Below w.heap.size w w2 := below_app hbel hown hg2
      have ho2 := own_snoc (y := r % 128 + 128) hown2 rfl (by omega)
      clear hown2 hg2 hat2 hown hlf
      go_roundw
      case rel => exact ⟨r / 128, g, _, by go_num, by omega, hlf2, by simp; omega, ho2, hb2⟩
      case measure => simp [intOf]; omega
    · have hd := hlf.done (by omega)
      go_wp2_with (at_builtin; refine wpList_append_any _ rfl (.tmp 24) (.tmp 27) _ rfl w.heap.size 5 i0 _ 1 1 Try.underlying22 hi hz0 hz1 hz2 rfl (by omega) _ ys.length (vb ys) rfl (hown.alloc _) (wr.heap.size + 1) (some ⟨wr.heap.size, 0, none⟩) 1 1 [.int .u8 (r : Int)] rfl (one_reads _ _) (one_cell _) (by simp only [maxLen]; omega) (by omega) (by have := hbel.size; simp; omega) ?_; intro v2 w2 hown2 hg2 hat2)
      have hb2 : Below w.heap.size w w2 := below_app hbel hown hg2
      have ho2 := own_snoc (y := r) hown2 rfl rfl
      obtain ⟨A2, c2, rfl⟩ := own_form ho2
      go_ret2
      rw [hd] at ho2
      exact ⟨A2, c2, by rw [← hd]; rfl, ho2, hb2⟩

set_option maxRecDepth 10000 in
set_option maxHeartbeats 1000000 in
theorem implPutVar_yes (A : Option Addr) (n c m : Nat) (xs : List Nat) (w : World) (hr : Rd w A n xs) (hn : n ≤ 1048600) (hm : m ≤ 281474976710655) :
    Calls Try.prog 12 #[.slice A n c, .int .i64 (m : Int)] w (PutRes w true (xs ++ digits 6 m)) := by
  obtain ⟨i0, hi, hz0, hz1, hz2⟩ := info_parts Try.infoByte
  have HL := Lib.hid hr.len
  have hleft : Left (xs ++ digits 6 m) xs 6 m := ⟨rfl, by omega⟩
  go_enter Try.func12, Try.ntmps12
  go_wp2_with (first
    | (go_at_call 29; refine (implNum_yes _ _ (by omega) (by omega)).mono ?_; rintro e w' ⟨rfl, rfl⟩)
    | (go_at_call 30; refine (clone_any A n c xs w hr (by omega)).mono ?_; rintro e w1 ⟨A1, c1, rfl, hown1, hb1⟩))
  have ho1 : w1.ownsRow w.heap.size 5 1 (.slice A1 n c1) xs.length (vb xs) := by rw [HL.out]; exact hown1
  have hlen : xs.length ≤ 1048600 := by rw [HL.out]; omega
  clear hown1
  go_loopw [1, 6] (fun t v wr => ∃ (r f : Nat) (ys : List Nat), t = .int .i64 (r : Int) ∧ r ≤ 281474976710655 ∧ Left (xs ++ digits 6 m) ys f r ∧ ys.length + f ≤ 1048606 ∧ wr.ownsRow w.heap.size 5 1 v ys.length (vb ys) ∧ Below w.heap.size w wr) (fun t _ _ => (intOf t).toNat)
  case atStart => exact ⟨m, 6, xs, rfl, hm, hleft, by omega, ho1, hb1⟩
  case round =>
    obtain ⟨r, f, ys, rfl, hrm, hlf, hyl, hown, hbel⟩ := hrel
    by_cases hbig : 128 ≤ r
    · obtain ⟨g, rfl, hlf2⟩ := hlf.step hbig
      go_wp2_with (at_builtin; refine wpList_append_any _ rfl (.tmp 14) (.tmp 18) _ rfl w.heap.size 5 i0 _ 1 1 Try.underlying22 hi hz0 hz1 hz2 rfl (by omega) _ ys.length (vb ys) rfl (hown.alloc _) (wr.heap.size + 1) (some ⟨wr.heap.size, 0, none⟩) 1 1 [.int .u8 _] rfl (one_reads _ _) (one_cell _) (by simp only [maxLen]; omega) (by omega) (by have := hbel.size; simp; omega) ?_; intro v2 w2 hown2 hg2 hat2)
      have hb2 : Below w.heap.size w w2 := below_app hbel hown hg2
      have ho2 := own_snoc (y := r % 128 + 128) hown2 rfl (or128 r)
      clear hown2 hg2 hat2 hown hlf
      go_roundw
      case rel => exact ⟨r / 128, g, _, by go_num, by omega, hlf2, by simp; omega, ho2, hb2⟩
      case measure => simp [intOf]; omega
    · have hd := hlf.done (by omega)
      go_wp2_with (at_builtin; refine wpList_append_any _ rfl (.tmp 22) (.tmp 25) _ rfl w.heap.size 5 i0 _ 1 1 Try.underlying22 hi hz0 hz1 hz2 rfl (by omega) _ ys.length (vb ys) rfl (hown.alloc _) (wr.heap.size + 1) (some ⟨wr.heap.size, 0, none⟩) 1 1 [.int .u8 (r : Int)] rfl (one_reads _ _) (one_cell _) (by simp only [maxLen]; omega) (by omega) (by have := hbel.size; simp; omega) ?_; intro v2 w2 hown2 hg2 hat2)
      have hb2 : Below w.heap.size w w2 := below_app hbel hown hg2
      have ho2 := own_snoc (y := r) hown2 rfl rfl
      obtain ⟨A2, c2, rfl⟩ := own_form ho2
      go_ret2
      rw [hd] at ho2
      exact ⟨A2, c2, by rw [← hd]; rfl, ho2, hb2⟩
set_option maxRecDepth 10000 in
theorem specPutVar_no (A : Option Addr) (n c : Nat) (m : Int) (w : World) (hm : m < 0 ∨ 281474976710655 < m) :
    Calls Try.prog 10 #[.slice A n c, .int .i64 m] w (PutRes w false []) := by
  go_enter Try.func10, Try.ntmps10
  go_wp2_with (go_at_call 28; refine (specNum_no _ _ hm).mono ?_; rintro e w' ⟨rfl, rfl⟩)
  go_ret2
  exact PutRes.no w
theorem specPutVar (A : Option Addr) (n c : Nat) (a : Int) (xs : List Nat) (w : World) (hr : Rd w A n xs) (hn : n ≤ 1048600) :
    Calls Try.prog 10 #[.slice A n c, .int .i64 a] w (PutRes w (numOk a) (putVar xs a)) := by
  by_cases h : 0 ≤ a ∧ a ≤ 281474976710655
  · obtain ⟨m, rfl⟩ : ∃ m : Nat, a = m := ⟨a.toNat, by omega⟩
    have e1 : numOk (m : Int) = true := by simp only [numOk, decide_eq_true h]
    have e2 : putVar xs (m : Int) = xs ++ digits 6 m := by simp [putVar, e1]
    rw [e1, e2]
    exact specPutVar_yes A n c m xs w hr hn (by omega)
  · have e1 : numOk a = false := by simp only [numOk, decide_eq_false h]
    have e2 : putVar xs a = [] := by simp [putVar, e1]
    rw [e1, e2]
    exact specPutVar_no A n c a w (by omega)

set_option maxRecDepth 10000 in
theorem implPutVar_no (A : Option Addr) (n c : Nat) (m : Int) (w : World) (hm : m < 0 ∨ 281474976710655 < m) :
    Calls Try.prog 12 #[.slice A n c, .int .i64 m] w (PutRes w false []) := by
  go_enter Try.func12, Try.ntmps12
  go_wp2_with (go_at_call 29; refine (implNum_no _ _ hm).mono ?_; rintro e w' ⟨rfl, rfl⟩)
  go_ret2
  exact PutRes.no w
theorem implPutVar (A : Option Addr) (n c : Nat) (a : Int) (xs : List Nat) (w : World) (hr : Rd w A n xs) (hn : n ≤ 1048600) :
    Calls Try.prog 12 #[.slice A n c, .int .i64 a] w (PutRes w (numOk a) (putVar xs a)) := by
  by_cases h : 0 ≤ a ∧ a ≤ 281474976710655
  · obtain ⟨m, rfl⟩ : ∃ m : Nat, a = m := ⟨a.toNat, by omega⟩
    have e1 : numOk (m : Int) = true := by simp only [numOk, decide_eq_true h]
    have e2 : putVar xs (m : Int) = xs ++ digits 6 m := by simp [putVar, e1]
    rw [e1, e2]
    exact implPutVar_yes A n c m xs w hr hn (by omega)
  · have e1 : numOk a = false := by simp only [numOk, decide_eq_false h]
    have e2 : putVar xs a = [] := by simp [putVar, e1]
    rw [e1, e2]
    exact implPutVar_no A n c a w (by omega)

theorem putVar_small (xs : List Nat) (a : Int) (h : ∀ x ∈ xs, x < 256) : ∀ x ∈ putVar xs a, x < 256 := by
  intro x hx
  unfold putVar at hx
  split at hx
  · rename_i hok
    rcases List.mem_append.1 hx with hx | hx
    · exact h x hx
    · refine digits_bytes 6 _ ?_ x hx
      simp only [numOk, decide_eq_true_eq] at hok
      omega
  · simp at hx
theorem putVar_length (xs : List Nat) (a : Int) : (putVar xs a).length ≤ xs.length + 7 := by
  unfold putVar
  split
  · have := digits_length 6 a.toNat
    simp
    omega
  · simp
end Go.Proofs.Ytmjpckgagikdoaa
