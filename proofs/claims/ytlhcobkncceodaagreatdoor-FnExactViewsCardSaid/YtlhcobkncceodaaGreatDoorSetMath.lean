/- Sets of vertices as data: a number and bytes, whose bits are the members (no program; no condition). -/
import Derived.Test.YtlhcobkncceodaaGreatDoorWords
namespace Go.Proofs.YtlhcobkncceodaaGreatDoor
open Go.RowKit
set_option linter.unusedVariables false

/-- Vertex v is a member. -/
def bitN (xs : List Nat) (v : Nat) : Bool := (xs.getD (v / 8) 0).testBit (v % 8)
def bytesN (n : Nat) : Nat := (n + 7) / 8
/-- A valid set. -/
def setB (N : Int) (xs : List Nat) : Bool := decide (0 ≤ N ∧ N ≤ 150 ∧ xs.length = bytesN N.toNat) && (List.range (8 * xs.length)).all fun v => decide (v < N.toNat) || !bitN xs v
/-- The sizes fit. -/
def dimB (N : Int) (n : Nat) : Bool := decide (0 ≤ N ∧ N ≤ 150 ∧ n = bytesN N.toNat)
theorem bitN_far {xs : List Nat} {v : Nat} (h : 8 * xs.length ≤ v) : bitN xs v = false := by
  unfold bitN
  rw [List.getD_eq_getElem?_getD, List.getElem?_eq_none (by omega)]
  simp
theorem setB_iff {N : Int} {xs : List Nat} : setB N xs = true ↔ (0 ≤ N ∧ N ≤ 150 ∧ xs.length = bytesN N.toNat) ∧ ∀ v, N.toNat ≤ v → bitN xs v = false := by
  unfold setB
  rw [Bool.and_eq_true, decide_eq_true_iff, List.all_eq_true]
  constructor
  · rintro ⟨h1, h2⟩
    refine ⟨h1, fun v hv => ?_⟩
    rcases Nat.lt_or_ge v (8 * xs.length) with h | h
    · have := h2 v (List.mem_range.2 h)
      rw [Bool.or_eq_true, decide_eq_true_iff] at this
      rcases this with h3 | h3
      · omega
      · simpa using h3
    · exact bitN_far h
  · rintro ⟨h1, h2⟩
    refine ⟨h1, fun v _ => ?_⟩
    rw [Bool.or_eq_true, decide_eq_true_iff]
    rcases Nat.lt_or_ge v N.toNat with h | h
    · exact .inl h
    · exact .inr (by rw [h2 v h]; rfl)
theorem setB_dim {N : Int} {xs : List Nat} (h : setB N xs = true) : 0 ≤ N ∧ N ≤ 150 ∧ xs.length = bytesN N.toNat := (setB_iff.1 h).1

/-! ### one byte -/
theorem byteBit (x k : Nat) : x.testBit k = decide (x / 2 ^ k % 2 = 1) := Nat.testBit_eq_decide_div_mod_eq
theorem pow8 {k : Nat} (h : k < 8) : 2 ^ k < 256 ∧ 0 < 2 ^ k := by
  have : 2 ^ k < 2 ^ 8 := Nat.pow_lt_pow_right (by omega) h
  exact ⟨this, Nat.pos_of_ne_zero (by simp)⟩
def onN (x k : Nat) : Nat := x ||| 2 ^ k
def offN (x k : Nat) : Nat := x &&& (255 - 2 ^ k)
theorem on_lt {x k : Nat} (hx : x < 256) (hk : k < 8) : onN x k < 256 := Nat.or_lt_two_pow (n := 8) hx (pow8 hk).1
theorem off_lt {x k : Nat} (hx : x < 256) : offN x k < 256 := Nat.lt_of_le_of_lt Nat.and_le_left hx
theorem on_bit (x k j : Nat) : (onN x k).testBit j = (decide (j = k) || x.testBit j) := by
  unfold onN
  rw [Nat.testBit_or, Nat.testBit_two_pow, Bool.or_comm]
  congr 1
  simp [eq_comm]
theorem off_all : ∀ k j : Fin 8, (255 - 2 ^ k.val).testBit j.val = !decide (j.val = k.val) := by decide +kernel
theorem off_bit (x k j : Nat) (hk : k < 8) (hj : j < 8) : (offN x k).testBit j = (!decide (j = k) && x.testBit j) := by
  unfold offN
  rw [Nat.testBit_and, off_all ⟨k, hk⟩ ⟨j, hj⟩, Bool.and_comm]
theorem add_all : ∀ (x : Fin 256) (k : Fin 8), (x.val / 2 ^ k.val % 2 = 1 → x.val ||| 2 ^ k.val = x.val ∧ x.val &&& (255 - 2 ^ k.val) = x.val - 2 ^ k.val ∧ 2 ^ k.val ≤ x.val) ∧ (x.val / 2 ^ k.val % 2 ≠ 1 → x.val ||| 2 ^ k.val = x.val + 2 ^ k.val ∧ x.val + 2 ^ k.val < 256 ∧ x.val &&& (255 - 2 ^ k.val) = x.val) := by decide +kernel
theorem on_yes {x k : Nat} (hx : x < 256) (hk : k < 8) (h : x.testBit k = true) : onN x k = x ∧ offN x k = x - 2 ^ k ∧ 2 ^ k ≤ x := by
  rw [byteBit, decide_eq_true_iff] at h
  exact (add_all ⟨x, hx⟩ ⟨k, hk⟩).1 h
theorem on_no {x k : Nat} (hx : x < 256) (hk : k < 8) (h : x.testBit k = false) : onN x k = x + 2 ^ k ∧ x + 2 ^ k < 256 ∧ offN x k = x := by
  rw [byteBit, decide_eq_false_iff_not] at h
  exact (add_all ⟨x, hx⟩ ⟨k, hk⟩).2 h

/-! ### what the byte's operations give -/
theorem and8_all : ∀ (x : Fin 256) (k : Fin 8), bits .and .u8 (x.val : Int) ((2 ^ k.val : Nat) : Int) = ((if x.val / 2 ^ k.val % 2 = 1 then 2 ^ k.val else 0 : Nat) : Int) := by decide +kernel
theorem or8_all : ∀ (x : Fin 256) (k : Fin 8), bits .or .u8 (x.val : Int) ((2 ^ k.val : Nat) : Int) = ((x.val ||| 2 ^ k.val : Nat) : Int) := by decide +kernel
theorem not8_all : ∀ (x : Fin 256) (k : Fin 8), bits .andNot .u8 (x.val : Int) ((2 ^ k.val : Nat) : Int) = ((x.val &&& (255 - 2 ^ k.val) : Nat) : Int) := by decide +kernel
theorem and8 {x k : Nat} (hx : x < 256) (hk : k < 8) : bits .and .u8 (x : Int) ((2 ^ k : Nat) : Int) = ((if x.testBit k then 2 ^ k else 0 : Nat) : Int) := by
  rw [and8_all ⟨x, hx⟩ ⟨k, hk⟩, byteBit]
  simp only [decide_eq_true_eq]
theorem or8 {x k : Nat} (hx : x < 256) (hk : k < 8) : bits .or .u8 (x : Int) ((2 ^ k : Nat) : Int) = ((onN x k : Nat) : Int) := or8_all ⟨x, hx⟩ ⟨k, hk⟩
theorem not8 {x k : Nat} (hx : x < 256) (hk : k < 8) : bits .andNot .u8 (x : Int) ((2 ^ k : Nat) : Int) = ((offN x k : Nat) : Int) := not8_all ⟨x, hx⟩ ⟨k, hk⟩

theorem or8_nat {x y : Nat} (hx : x < 256) (hy : y < 256) : bits .or .u8 (x : Int) (y : Int) = ((x ||| y : Nat) : Int) := by
  have h1 : x ||| y < 2 ^ 8 := Nat.or_lt_two_pow (n := 8) hx hy
  show IntKind.u8.wrap ((BitVec.ofInt 8 (x : Int) ||| BitVec.ofInt 8 (y : Int)).toNat : Int) = _
  rw [BitVec.toNat_or, BitVec.ofInt_natCast, BitVec.ofInt_natCast, BitVec.toNat_ofNat, BitVec.toNat_ofNat, Nat.mod_eq_of_lt (by omega), Nat.mod_eq_of_lt (by omega)]
  generalize x ||| y = z at h1
  rw [IntKind.wrap_u8]
  omega

/-! ### a vertex put in, a vertex taken out -/
def addV (xs : List Nat) (v : Nat) : List Nat := xs.set (v / 8) (onN (xs.getD (v / 8) 0) (v % 8))
def delV (xs : List Nat) (v : Nat) : List Nat := xs.set (v / 8) (offN (xs.getD (v / 8) 0) (v % 8))
theorem addV_len (xs : List Nat) (v : Nat) : (addV xs v).length = xs.length := by simp [addV]
theorem delV_len (xs : List Nat) (v : Nat) : (delV xs v).length = xs.length := by simp [delV]
theorem getD_lt {xs : List Nat} (hs : ∀ x ∈ xs, x < 256) (i : Nat) : xs.getD i 0 < 256 := by
  rw [List.getD_eq_getElem?_getD]
  rcases Nat.lt_or_ge i xs.length with h | h
  · rw [List.getElem?_eq_getElem h]
    exact hs _ (List.getElem_mem h)
  · rw [List.getElem?_eq_none h]
    exact Nat.zero_lt_succ _
theorem set_small {xs : List Nat} (hs : ∀ x ∈ xs, x < 256) (i : Nat) {y : Nat} (hy : y < 256) : ∀ x ∈ xs.set i y, x < 256 := fun x hx => by
  rcases List.mem_or_eq_of_mem_set hx with h | rfl
  · exact hs x h
  · exact hy
theorem addV_small {xs : List Nat} (hs : ∀ x ∈ xs, x < 256) (v : Nat) : ∀ x ∈ addV xs v, x < 256 := set_small hs _ (on_lt (getD_lt hs _) (by omega))
theorem delV_small {xs : List Nat} (hs : ∀ x ∈ xs, x < 256) (v : Nat) : ∀ x ∈ delV xs v, x < 256 := set_small hs _ (off_lt (getD_lt hs _))
theorem getD_set (xs : List Nat) (i j y : Nat) (hi : i < xs.length) : (xs.set i y).getD j 0 = if j = i then y else xs.getD j 0 := by
  rw [List.getD_eq_getElem?_getD, List.getD_eq_getElem?_getD, List.getElem?_set]
  by_cases h : i = j
  · subst h
    rw [if_pos rfl, if_pos hi, if_pos rfl]
    rfl
  · rw [if_neg h, if_neg (fun e => h e.symm)]
theorem bit_place {u v : Nat} : u / 8 = v / 8 → (u % 8 = v % 8 ↔ u = v) := fun h => ⟨fun k => by omega, fun k => by rw [k]⟩
theorem bit_addV {xs : List Nat} {v : Nat} (hv : v / 8 < xs.length) (u : Nat) : bitN (addV xs v) u = (decide (u = v) || bitN xs u) := by
  unfold bitN addV
  rw [getD_set _ _ _ _ hv]
  by_cases h : u / 8 = v / 8
  · rw [if_pos h, on_bit, h]
    congr 1
    simp only [decide_eq_decide]
    exact bit_place h
  · rw [if_neg h, show decide (u = v) = false by simp only [decide_eq_false_iff_not]; intro e; exact h (by rw [e]), Bool.false_or]
theorem bit_delV {xs : List Nat} {v : Nat} (hv : v / 8 < xs.length) (u : Nat) : bitN (delV xs v) u = (!decide (u = v) && bitN xs u) := by
  unfold bitN delV
  rw [getD_set _ _ _ _ hv]
  by_cases h : u / 8 = v / 8
  · rw [if_pos h, off_bit _ _ _ (by omega) (by omega), h]
    congr 2
    simp only [decide_eq_decide]
    exact bit_place h
  · rw [if_neg h, show decide (u = v) = false by simp only [decide_eq_false_iff_not]; intro e; exact h (by rw [e]), Bool.not_false, Bool.true_and]
theorem lt_bytes {n v : Nat} (h : v < n) : v / 8 < bytesN n := by unfold bytesN; omega
theorem setB_add {N : Int} {xs : List Nat} {v : Nat} (h : setB N xs = true) (hv : v < N.toNat) : setB N (addV xs v) = true := by
  obtain ⟨⟨h1, h2, h3⟩, h4⟩ := setB_iff.1 h
  refine setB_iff.2 ⟨⟨h1, h2, by rw [addV_len]; exact h3⟩, fun u hu => ?_⟩
  rw [bit_addV (by rw [h3]; exact lt_bytes hv), h4 u hu, show decide (u = v) = false by simp only [decide_eq_false_iff_not]; omega]
  rfl
theorem setB_del {N : Int} {xs : List Nat} {v : Nat} (h : setB N xs = true) (hv : v < N.toNat) : setB N (delV xs v) = true := by
  obtain ⟨⟨h1, h2, h3⟩, h4⟩ := setB_iff.1 h
  refine setB_iff.2 ⟨⟨h1, h2, by rw [delV_len]; exact h3⟩, fun u hu => ?_⟩
  rw [bit_delV (by rw [h3]; exact lt_bytes hv), h4 u hu, Bool.and_false]
/-- What With answers: the number and the bytes. -/
def withN (N : Int) (xs : List Nat) : Int := if setB N xs then N else 0
def withX (N : Int) (xs : List Nat) (v : Int) : List Nat := if setB N xs then (if 0 ≤ v ∧ v < N then addV xs v.toNat else xs) else []
def wipeX (N : Int) (xs : List Nat) (v : Int) : List Nat := if setB N xs then (if 0 ≤ v ∧ v < N then delV xs v.toNat else xs) else []
theorem withX_small {N : Int} {xs : List Nat} (hs : ∀ x ∈ xs, x < 256) (v : Int) : ∀ x ∈ withX N xs v, x < 256 := by
  unfold withX
  split
  · split
    · exact addV_small hs _
    · exact hs
  · simp
theorem wipeX_small {N : Int} {xs : List Nat} (hs : ∀ x ∈ xs, x < 256) (v : Int) : ∀ x ∈ wipeX N xs v, x < 256 := by
  unfold wipeX
  split
  · split
    · exact delV_small hs _
    · exact hs
  · simp
theorem withX_len (N : Int) (xs : List Nat) (v : Int) : (withX N xs v).length ≤ xs.length := by
  unfold withX
  split
  · split
    · rw [addV_len]; exact Nat.le_refl _
    · exact Nat.le_refl _
  · simp
theorem wipeX_len (N : Int) (xs : List Nat) (v : Int) : (wipeX N xs v).length ≤ xs.length := by
  unfold wipeX
  split
  · split
    · rw [delV_len]; exact Nat.le_refl _
    · exact Nat.le_refl _
  · simp
/-- What Has answers. -/
def hasB (N : Int) (xs : List Nat) (v : Int) : Bool := setB N xs && (decide (0 ≤ v) && (decide (v < N) && bitN xs v.toNat))
/-- The members. -/
def memsR (xs : List Nat) (k : Nat) : List Int := ((List.range k).filter (bitN xs)).map fun v : Nat => (v : Int)
def memsB (N : Int) (xs : List Nat) : List Int := if setB N xs then memsR xs N.toNat else []
theorem mems_step (xs : List Nat) (k : Nat) : memsR xs (k + 1) = if bitN xs k then memsR xs k ++ [(k : Int)] else memsR xs k := by
  unfold memsR
  rw [List.range_succ, List.filter_append, List.map_append]
  cases h : bitN xs k with
  | true => rw [if_pos rfl]; simp [List.filter, h]
  | false => simp [List.filter, h]
theorem mems_zero (xs : List Nat) : memsR xs 0 = [] := rfl
theorem mems_len (xs : List Nat) (k : Nat) : (memsR xs k).length ≤ k := by
  unfold memsR
  rw [List.length_map]
  exact Nat.le_trans (List.length_filter_le _ _) (by rw [List.length_range]; exact Nat.le_refl _)
theorem memsB_len (N : Int) (xs : List Nat) : (memsB N xs).length ≤ 150 := by
  unfold memsB
  split
  · rename_i h
    have h1 := setB_dim h
    have h2 := mems_len xs N.toNat
    omega
  · simp
/-- All vertices below k put in. -/
def fillV (n k : Nat) : List Nat := (List.range k).foldl addV (List.replicate n 0)
theorem fill_step (n k : Nat) : fillV n (k + 1) = addV (fillV n k) k := by unfold fillV; rw [List.range_succ, List.foldl_append]; rfl
theorem fill_len (n k : Nat) : (fillV n k).length = n := by
  induction k with
  | zero => simp [fillV]
  | succ k ih => rw [fill_step, addV_len, ih]
theorem fill_small (n k : Nat) : ∀ x ∈ fillV n k, x < 256 := by
  induction k with
  | zero => intro x hx; simp [fillV, List.mem_replicate] at hx; omega
  | succ k ih => rw [fill_step]; exact addV_small ih _
theorem bit_empty (n v : Nat) : bitN (List.replicate n 0) v = false := by
  unfold bitN
  rw [List.getD_eq_getElem?_getD, List.getElem?_replicate]
  split <;> simp
theorem setB_empty {n : Nat} (h : n ≤ 150) : setB (n : Int) (List.replicate (bytesN n) 0) = true :=
  setB_iff.2 ⟨⟨by omega, by omega, by simp⟩, fun v _ => bit_empty _ v⟩
theorem setB_fill {n k : Nat} (h : n ≤ 150) (hk : k ≤ n) : setB (n : Int) (fillV (bytesN n) k) = true := by
  induction k with
  | zero => exact setB_empty h
  | succ k ih => rw [fill_step]; exact setB_add (ih (by omega)) (show k < Int.toNat (n : Int) by rw [Int.toNat_natCast]; omega)
/-- Two lists of bytes with the same bits are one. -/
theorem byte_ext {x y : Nat} (hx : x < 256) (hy : y < 256) (h : ∀ k, k < 8 → x.testBit k = y.testBit k) : x = y := by
  refine Nat.eq_of_testBit_eq fun i => ?_
  rcases Nat.lt_or_ge i 8 with hi | hi
  · exact h i hi
  · have h8 : 2 ^ 8 ≤ 2 ^ i := Nat.pow_le_pow_right (by omega) hi
    rw [Nat.testBit_lt_two_pow (by omega), Nat.testBit_lt_two_pow (by omega)]
theorem bits_ext {xs ys : List Nat} (hl : xs.length = ys.length) (hx : ∀ x ∈ xs, x < 256) (hy : ∀ x ∈ ys, x < 256) (h : ∀ v, bitN xs v = bitN ys v) : xs = ys := by
  refine List.ext_getElem hl fun i h1 h2 => ?_
  refine byte_ext (hx _ (List.getElem_mem h1)) (hy _ (List.getElem_mem h2)) fun k hk => ?_
  have := h (8 * i + k)
  unfold bitN at this
  rw [show (8 * i + k) / 8 = i by omega, show (8 * i + k) % 8 = k by omega, List.getD_eq_getElem?_getD, List.getD_eq_getElem?_getD, List.getElem?_eq_getElem h1, List.getElem?_eq_getElem h2] at this
  exact this
/-- The union. -/
def orX (xs ys : List Nat) : List Nat := List.zipWith (· ||| ·) xs ys
def orTo (xs ys : List Nat) (k : Nat) : List Nat := orX (xs.take k) (ys.take k) ++ xs.drop k
theorem orX_len {xs ys : List Nat} (hl : xs.length = ys.length) : (orX xs ys).length = xs.length := by simp [orX, hl]
theorem orX_small {xs ys : List Nat} (hx : ∀ x ∈ xs, x < 256) (hy : ∀ x ∈ ys, x < 256) : ∀ x ∈ orX xs ys, x < 256 := fun z hz => by
  unfold orX at hz
  obtain ⟨i, hi, rfl⟩ := List.getElem_of_mem hz
  rw [List.length_zipWith] at hi
  rw [List.getElem_zipWith]
  exact Nat.or_lt_two_pow (n := 8) (hx _ (List.getElem_mem (by omega))) (hy _ (List.getElem_mem (by omega)))
theorem bit_orX {xs ys : List Nat} (hl : xs.length = ys.length) (v : Nat) : bitN (orX xs ys) v = (bitN xs v || bitN ys v) := by
  unfold bitN orX
  simp only [List.getD_eq_getElem?_getD]
  rcases Nat.lt_or_ge (v / 8) xs.length with h | h
  · rw [List.getElem?_eq_getElem h, List.getElem?_eq_getElem (show v / 8 < ys.length by omega), List.getElem?_eq_getElem (show v / 8 < (List.zipWith (· ||| ·) xs ys).length by rw [List.length_zipWith]; omega)]
    simp [List.getElem_zipWith]
  · rw [List.getElem?_eq_none h, List.getElem?_eq_none (show ys.length ≤ v / 8 by omega), List.getElem?_eq_none (show (List.zipWith (· ||| ·) xs ys).length ≤ v / 8 by rw [List.length_zipWith]; omega)]
    simp
theorem orTo_zero (xs ys : List Nat) : orTo xs ys 0 = xs := by simp [orTo, orX]
theorem orTo_full {xs ys : List Nat} (hl : xs.length = ys.length) : orTo xs ys ys.length = orX xs ys := by
  unfold orTo
  rw [List.take_length, List.drop_eq_nil_of_le (by omega), List.append_nil, List.take_of_length_le (by omega)]
theorem orTo_step {xs ys : List Nat} {k x y : Nat} (hl : xs.length = ys.length) (hx : xs[k]? = some x) (hy : ys[k]? = some y) : (orTo xs ys k)[k]? = some x ∧ (orTo xs ys k).set k (x ||| y) = orTo xs ys (k + 1) := by
  have h1 : k < xs.length := (List.getElem?_eq_some_iff.1 hx).1
  have h2 : k < ys.length := (List.getElem?_eq_some_iff.1 hy).1
  have e1 : xs[k] = x := (List.getElem?_eq_some_iff.1 hx).2
  have e2 : ys[k] = y := (List.getElem?_eq_some_iff.1 hy).2
  have hlen : (orX (xs.take k) (ys.take k)).length = k := by simp [orX]; omega
  unfold orTo
  refine ⟨?_, ?_⟩
  · rw [List.getElem?_append_right (by omega), hlen, Nat.sub_self, List.getElem?_drop, Nat.add_zero]
    exact hx
  · rw [List.set_append_right _ _ (by omega), hlen, Nat.sub_self, List.drop_eq_getElem_cons h1, List.set_cons_zero, List.take_succ_eq_append_getElem h1, List.take_succ_eq_append_getElem h2, e1, e2]
    unfold orX
    rw [List.zipWith_append (by simp; omega), List.append_assoc]
    rfl
theorem fold_add_bit {l : List Nat} {xs : List Nat} (h : ∀ v ∈ l, v / 8 < xs.length) (u : Nat) : bitN (l.foldl addV xs) u = (l.contains u || bitN xs u) := by
  induction l generalizing xs with
  | nil => simp
  | cons a l ih =>
    rw [List.foldl_cons, ih (fun v hv => by rw [addV_len]; exact h v (by simp [hv])), bit_addV (h a (by simp)), List.contains_cons]
    rw [← Bool.or_assoc]
    congr 1
    rw [Bool.or_comm]
    congr 1
theorem foldAdd_len (l : List Nat) (xs : List Nat) : (l.foldl addV xs).length = xs.length := by
  induction l generalizing xs with
  | nil => rfl
  | cons a l ih => rw [List.foldl_cons, ih, addV_len]
theorem foldAdd_small (l : List Nat) {xs : List Nat} (hs : ∀ x ∈ xs, x < 256) : ∀ x ∈ l.foldl addV xs, x < 256 := by
  induction l generalizing xs with
  | nil => exact hs
  | cons a l ih => exact ih (addV_small hs a)
theorem setB_fold {N : Int} (l : List Nat) {xs : List Nat} (h : setB N xs = true) (hl : ∀ v ∈ l, v < N.toNat) : setB N (l.foldl addV xs) = true := by
  induction l generalizing xs with
  | nil => exact h
  | cons a l ih => exact ih (setB_add h (hl a (by simp))) (fun v hv => hl v (by simp [hv]))
/-- The members, as numbers without a sign. -/
def memsN (xs : List Nat) (k : Nat) : List Nat := (List.range k).filter (bitN xs)
theorem memsR_eq (xs : List Nat) (k : Nat) : memsR xs k = (memsN xs k).map fun v : Nat => (v : Int) := rfl
theorem memsN_lt {xs : List Nat} {k v : Nat} (h : v ∈ memsN xs k) : v < k ∧ bitN xs v = true := by
  unfold memsN at h
  rw [List.mem_filter, List.mem_range] at h
  exact h
/-- Putting in the members of the other is the union. -/
theorem fold_or {N : Int} {xs ys : List Nat} (hx : setB N xs = true) (hy : setB N ys = true) (hsx : ∀ x ∈ xs, x < 256) (hsy : ∀ x ∈ ys, x < 256) : (memsN ys N.toNat).foldl addV xs = orX xs ys := by
  have h1 := setB_dim hx
  have h2 := setB_dim hy
  have hl : xs.length = ys.length := by omega
  refine bits_ext (by rw [foldAdd_len, orX_len hl]) (foldAdd_small _ hsx) (orX_small hsx hsy) fun v => ?_
  rw [fold_add_bit (fun v hv => by rw [h1.2.2]; exact lt_bytes (memsN_lt hv).1), bit_orX hl, Bool.or_comm]
  congr 1
  by_cases hv : v < N.toNat
  · rw [Bool.eq_iff_iff, List.contains_iff_mem]
    constructor
    · intro h; exact (memsN_lt h).2
    · intro h
      unfold memsN
      rw [List.mem_filter, List.mem_range]
      exact ⟨hv, h⟩
  · rw [(setB_iff.1 hy).2 v (by omega)]
    rw [Bool.eq_false_iff]
    intro h
    rw [List.contains_iff_mem] at h
    exact hv (memsN_lt h).1
/-- What Either answers. -/
def eitherB (N M : Int) (xs ys : List Nat) : Bool := setB N xs && (setB M ys && decide (N = M))
def eitherN (N M : Int) (xs ys : List Nat) : Int := if eitherB N M xs ys then N else 0
def eitherX (N M : Int) (xs ys : List Nat) : List Nat := if eitherB N M xs ys then orX xs ys else []
/-- What SetNew answers. -/
def newB (N : Int) : Bool := decide (0 ≤ N ∧ N ≤ 150)
def newN (N : Int) : Int := if newB N then N else 0
def newX (N : Int) (all : Bool) : List Nat := if newB N then fillV (bytesN N.toNat) (if all then N.toNat else 0) else []
theorem newX_small (N : Int) (all : Bool) : ∀ x ∈ newX N all, x < 256 := by
  unfold newX
  split
  · exact fill_small _ _
  · simp
theorem newX_len (N : Int) (all : Bool) : (newX N all).length ≤ 20 := by
  unfold newX
  split
  · rename_i h
    unfold newB at h
    rw [decide_eq_true_iff] at h
    rw [fill_len]
    unfold bytesN
    omega
  · simp
theorem eitherX_small {N M : Int} {xs ys : List Nat} (hx : ∀ x ∈ xs, x < 256) (hy : ∀ x ∈ ys, x < 256) : ∀ x ∈ eitherX N M xs ys, x < 256 := by
  unfold eitherX
  split
  · exact orX_small hx hy
  · simp
theorem eitherX_len (N M : Int) (xs ys : List Nat) : (eitherX N M xs ys).length ≤ xs.length := by
  unfold eitherX
  split
  · unfold orX
    rw [List.length_zipWith]
    omega
  · simp
end Go.Proofs.YtlhcobkncceodaaGreatDoor
