/- Plain mathematics of numbers of variable length: the value of digits, how far a number goes, and when its digits are the shortest. -/
import Derived.Test.YtmbabbapcjphgaaPutMath
namespace Go.Proofs.Ytmbabbapcjphgaa

/-- The value of digits, the lowest first. -/
def val : List Nat → Nat
  | [] => 0
  | d :: r => d % 128 + 128 * val r
theorem val_lt (l : List Nat) : val l < 128 ^ l.length := by
  induction l with
  | nil => simp [val]
  | cons d r ih => simp only [val, List.length_cons, Nat.pow_succ]; omega
theorem val_snoc (l : List Nat) (x : Nat) : val (l ++ [x]) = val l + x % 128 * 128 ^ l.length := by
  induction l with
  | nil => simp [val]
  | cons d r ih =>
    simp only [List.cons_append, val, ih, List.length_cons, Nat.pow_succ]
    rw [Nat.mul_add, Nat.mul_comm (128 ^ r.length) 128, ← Nat.mul_assoc (x % 128), Nat.mul_comm (x % 128) 128, Nat.mul_assoc]
    omega

/-- How many digits with 128 on top come first. -/
def scan : List Nat → Nat
  | [] => 0
  | d :: r => if 128 ≤ d then scan r + 1 else 0
theorem scan_le (l : List Nat) : scan l ≤ l.length := by
  induction l with
  | nil => simp [scan]
  | cons d r ih => simp only [scan, List.length_cons]; split <;> omega
theorem scan_lt (l : List Nat) (j : Nat) (h : j < scan l) : ∃ x, l[j]? = some x ∧ 128 ≤ x := by
  induction l generalizing j with
  | nil => simp [scan] at h
  | cons d r ih =>
    simp only [scan] at h
    split at h
    · cases j with
      | zero => exact ⟨d, rfl, by assumption⟩
      | succ j => simpa using ih j (by omega)
    · omega
theorem scan_at (l : List Nat) (h : scan l < l.length) : ∃ d, l[scan l]? = some d ∧ d < 128 := by
  induction l with
  | nil => simp [scan] at h
  | cons d r ih =>
    simp only [scan] at h ⊢
    split at h
    · rename_i hd
      rw [if_pos hd]
      simpa using ih (by simpa using h)
    · rename_i hd
      rw [if_neg hd]
      exact ⟨d, rfl, by omega⟩

/-- Digits of which all but the last have 128 on top. -/
def shape : List Nat → Prop
  | [] => False
  | [d] => d < 128
  | d :: e :: r => 128 ≤ d ∧ d < 256 ∧ shape (e :: r)
theorem shape_take (l : List Nat) (hs : ∀ x ∈ l, x < 256) (h : scan l < l.length) : shape (l.take (scan l + 1)) := by
  induction l with
  | nil => simp [scan] at h
  | cons d r ih =>
    simp only [scan] at h ⊢
    split at h
    · rename_i hd
      rw [if_pos hd]
      have h2 : scan r < r.length := by simpa using h
      have := ih (fun x hx => hs x (by simp [hx])) h2
      rw [List.take_succ_cons]
      cases r with
      | nil => simp at h2
      | cons e r => rw [List.take_succ_cons] at this ⊢; exact ⟨hd, hs d (by simp), this⟩
    · rename_i hd
      rw [if_neg hd]
      simp [shape]
      omega
/-- The digits are the shortest ones: there is one alone, or the last is not nought. -/
def shortest : List Nat → Bool
  | [] => false
  | [_] => true
  | l => l.getLast? != some 0
theorem val_pos (l : List Nat) (h : shape l) (hl : l.getLast? ≠ some 0) : 1 ≤ val l := by
  induction l with
  | nil => cases h
  | cons d r ih =>
    cases r with
    | nil => simp [shape] at h; simp at hl; simp [val]; omega
    | cons e r =>
      have := ih h.2.2 (by simpa using hl)
      simp only [val] at this ⊢
      omega
theorem digits_val (l : List Nat) (f : Nat) (h : shape l) (hf : l.length ≤ f + 1) : digits f (val l) = l ↔ shortest l = true := by
  induction l generalizing f with
  | nil => cases h
  | cons d r ih =>
    cases r with
    | nil =>
      simp [shape] at h
      simp [shortest, val, Nat.mod_eq_of_lt h, digits_small _ _ h]
    | cons e r =>
      obtain ⟨h1, h2, h3⟩ := h
      cases f with
      | zero => simp at hf
      | succ f =>
        have ih := ih f h3 (by simpa using hf)
        have hv : val (d :: e :: r) = d % 128 + 128 * val (e :: r) := rfl
        by_cases hz : val (e :: r) = 0
        · have hs : val (d :: e :: r) < 128 := by rw [hv, hz]; omega
          rw [digits_small _ _ hs]
          constructor
          · intro hc; simp at hc
          · intro hc
            have := val_pos (e :: r) h3 (by simpa [shortest] using hc)
            omega
        · have hb : 128 ≤ val (d :: e :: r) := by rw [hv]; omega
          rw [digits_big _ _ hb]
          have e1 : val (d :: e :: r) % 128 + 128 = d := by rw [hv]; omega
          have e2 : val (d :: e :: r) / 128 = val (e :: r) := by rw [hv]; omega
          rw [e1, e2, List.cons.injEq]
          simp only [true_and]
          rw [ih]
          cases r with
          | nil =>
            simp [shape] at h3
            simp [shortest]
            simp [val] at hz
            omega
          | cons g r => simp [shortest]
/-- Whether a number of variable length begins here. -/
def gvOk (ds : List Nat) : Bool := decide (scan ds < 7 ∧ scan ds < ds.length ∧ val (ds.take (scan ds + 1)) ≤ 281474976710655) && shortest (ds.take (scan ds + 1))
def gv (xs : List Nat) (a : Int) (n : Nat) : Bool := decide (0 ≤ a ∧ a < n) && gvOk (xs.drop a.toNat)
def gvN (xs : List Nat) (a : Int) (n : Nat) : Int := if gv xs a n then val ((xs.drop a.toNat).take (scan (xs.drop a.toNat) + 1)) else 0
def gvE (xs : List Nat) (a : Int) (n : Nat) : Int := if gv xs a n then a + scan (xs.drop a.toNat) + 1 else 0
theorem gv_out (xs : List Nat) (a : Int) (n : Nat) (h : ¬ (0 ≤ a ∧ a < n)) : gv xs a n = false := by simp only [gv, decide_eq_false h, Bool.false_and]
theorem gv_in (xs : List Nat) (p n : Nat) (h : p < n) : gv xs (p : Int) n = gvOk (xs.drop p) := by
  have h2 : 0 ≤ (p : Int) ∧ (p : Int) < n := by omega
  simp only [gv, decide_eq_true h2, Bool.true_and, Int.toNat_natCast]
theorem shortest_take (l : List Nat) (h : scan l < l.length) (d : Nat) (hd : l[scan l]? = some d) : shortest (l.take (scan l + 1)) = true ↔ (scan l = 0 ∨ d ≠ 0) := by
  obtain ⟨hlt, he⟩ := List.getElem?_eq_some_iff.1 hd
  have e1 : l.take (scan l + 1) = l.take (scan l) ++ [d] := by rw [List.take_succ_eq_append_getElem h, he]
  rw [e1]
  generalize hq : scan l = q at *
  cases hl : l.take q with
  | nil =>
    have : q = 0 := by
      rcases Nat.eq_zero_or_pos q with h0 | h0
      · exact h0
      · have := congrArg List.length hl; rw [List.length_take, List.length_nil] at this; omega
    simp [shortest, this]
  | cons x r =>
    have : q ≠ 0 := by rintro rfl; simp at hl
    cases r with
    | nil => simp [shortest, this]
    | cons y r =>
      have e2 : (x :: y :: r ++ [d]).getLast? = some d := List.getLast?_concat
      have e3 : shortest (x :: y :: r ++ [d]) = ((x :: y :: r ++ [d]).getLast? != some 0) := rfl
      rw [e3, e2]
      simp [this]
theorem val_take_succ (ds : List Nat) (j x : Nat) (h : ds[j]? = some x) : val (ds.take (j + 1)) = val (ds.take j) + x % 128 * 128 ^ j := by
  obtain ⟨hl, he⟩ := List.getElem?_eq_some_iff.1 h
  rw [List.take_succ_eq_append_getElem hl, val_snoc, he, List.length_take, Nat.min_eq_left (by omega)]
theorem val_take_lt (ds : List Nat) (j : Nat) : val (ds.take j) < 128 ^ j :=
  Nat.lt_of_lt_of_le (val_lt _) (Nat.pow_le_pow_right (by omega) (by rw [List.length_take]; omega))
theorem pow7 (j : Nat) : 2 ^ (7 * j) = 128 ^ j := by rw [Nat.pow_mul]
theorem shl_or (v x j : Nat) (hj : j < 7) (hv : v < 128 ^ j) : bits .or .i64 (v : Int) (RowKit.wrap64 ((x : Int) % 128 * 2 ^ (7 * j))) = ((v + x % 128 * 128 ^ j : Nat) : Int) := by
  have hp : 128 ^ j ≤ 128 ^ 6 := Nat.pow_le_pow_right (by omega) (by omega)
  have hm : x % 128 * 128 ^ j ≤ 127 * 128 ^ j := Nat.mul_le_mul_right _ (by omega)
  have e1 : (x : Int) % 128 * 2 ^ (7 * j) = ((x % 128 * 128 ^ j : Nat) : Int) := by
    rw [← pow7, Int.natCast_mul, Int.natCast_pow, Int.natCast_emod]
    rfl
  rw [e1, IntWalk.wrap64_in _ ⟨by omega, by omega⟩, or64 _ _ (by omega) (by omega), Nat.or_comm, ← pow7, or_mul_pow _ _ _ (by rw [pow7]; exact hv), Nat.add_comm]
theorem gvOk_no (ds : List Nat) (h : 7 ≤ scan ds ∨ ds.length ≤ scan ds) : gvOk ds = false := by
  unfold gvOk
  rw [decide_eq_false (by omega), Bool.false_and]
theorem gvOk_short (ds : List Nat) (d : Nat) (h : scan ds < ds.length) (hd : ds[scan ds]? = some d) (h0 : 0 < scan ds) (hz : d = 0) : gvOk ds = false := by
  unfold gvOk
  have : shortest (ds.take (scan ds + 1)) = false := by
    rw [Bool.eq_false_iff]
    intro hc
    have := (shortest_take ds h d hd).1 hc
    omega
  rw [this, Bool.and_false]
theorem gvOk_big (ds : List Nat) (h : 281474976710655 < val (ds.take (scan ds + 1))) : gvOk ds = false := by
  unfold gvOk
  rw [decide_eq_false (by omega), Bool.false_and]
theorem gvOk_yes (ds : List Nat) (d : Nat) (h7 : scan ds < 7) (h : scan ds < ds.length) (hd : ds[scan ds]? = some d) (h0 : scan ds = 0 ∨ d ≠ 0) (hv : val (ds.take (scan ds + 1)) ≤ 281474976710655) : gvOk ds = true := by
  unfold gvOk
  rw [decide_eq_true ⟨h7, h, hv⟩, (shortest_take ds h d hd).2 h0]
  rfl
end Go.Proofs.Ytmbabbapcjphgaa
