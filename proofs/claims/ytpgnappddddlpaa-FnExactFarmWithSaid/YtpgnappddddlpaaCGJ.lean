/- Bits of int (64 bits) at numbers that are not negative: 'or' and 'xor' are those of the natural numbers; an 'or' onto free low bits is a sum. // What a writer of numbers leaves; the digits of numbers of variable length; words for an append of one byte. // The six bytes of a number, the highest first. // Plain mathematics of numbers of variable length: the value of digits, how far a number goes, and when its digits are the shortest. // What a reader of a number of variable length returns. // What a reader of a signed number returns. // The number that bears the sign in its lowest bit. // The number of six bytes, the highest first. // Lists of numbers and shards as bytes: what is written and what is read, as data (plain lemmas; no condition). // What the functions on encoded shards and lists return (no condition). // Words for the encoding of a shard: a block of one edge, the bytes so far (plain lemmas; no condition). // A shard with other values, as data; blocks of a shard in memory (plain lemmas; no condition). -/
import Derived.Laws.BitsAllLaws
import Derived.Laws.BitsLemmas
import Derived.WalkKit
import Derived.Test.YtpgnappddddlpaaCGA
import Derived.Test.YtpgnappddddlpaaCGC
import Derived.Test.YtpgnappddddlpaaCGB
import Derived.Test.YtpgnappddddlpaaCGD
namespace Go.Proofs.Ytpgnappddddlpaa
open Go.RowKit

theorem toNat_ofInt64 (a : Nat) (ha : a < 9223372036854775808) : (BitVec.ofInt 64 (a : Int)).toNat = a := by
  rw [BitVec.ofInt_natCast, BitVec.toNat_ofNat]; exact Nat.mod_eq_of_lt (by omega)
theorem or64 (a b : Nat) (ha : a < 9223372036854775808) (hb : b < 9223372036854775808) : bits .or .i64 (a : Int) (b : Int) = ((a ||| b : Nat) : Int) := by
  have hx : a ||| b < 2 ^ 63 := Nat.or_lt_two_pow (by omega) (by omega)
  show IntKind.i64.wrap ((BitVec.ofInt 64 (a : Int) ||| BitVec.ofInt 64 (b : Int)).toNat : Int) = _
  rw [BitVec.toNat_or, toNat_ofInt64 a ha, toNat_ofInt64 b hb, IntKind.wrap_i64]
  omega
theorem xor64 (a b : Nat) (ha : a < 9223372036854775808) (hb : b < 9223372036854775808) : bits .xor .i64 (a : Int) (b : Int) = ((a ^^^ b : Nat) : Int) := by
  have hx : a ^^^ b < 2 ^ 63 := Nat.xor_lt_two_pow (by omega) (by omega)
  show IntKind.i64.wrap ((BitVec.ofInt 64 (a : Int) ^^^ BitVec.ofInt 64 (b : Int)).toNat : Int) = _
  rw [BitVec.toNat_xor, toNat_ofInt64 a ha, toNat_ofInt64 b hb, IntKind.wrap_i64]
  omega
theorem or_mul_pow (m x i : Nat) (hx : x < 2 ^ i) : (m * 2 ^ i) ||| x = m * 2 ^ i + x := by
  rw [Nat.mul_comm, ← Nat.two_pow_add_eq_or_of_lt hx]
theorem or256 (m x : Nat) (hm : m < 1099511627776) (hx : x < 256) : bits .or .i64 ((m : Int) * 256) (x : Int) = (m : Int) * 256 + x := by
  have h3 : (m : Int) * 256 = (((m * 256 : Nat)) : Int) := by omega
  have h4 : (m : Int) * 256 + x = (((m * 256 + x : Nat)) : Int) := by omega
  rw [h4, h3, or64 (m * 256) x (by omega) (by omega)]
  exact congrArg _ (or_mul_pow m x 8 (by omega))
theorem or128_all : ∀ x : Fin 256, bits .or .u8 (x.val : Int) 128 = ((x.val % 128 + 128 : Nat) : Int) := by decide +kernel
theorem or128 (r : Nat) : bits .or .u8 ((r : Int) % 256) 128 = ((r % 128 + 128 : Nat) : Int) := by
  have h := or128_all ⟨r % 256, by omega⟩
  have e1 : (r : Int) % 256 = ((r % 256 : Nat) : Int) := by omega
  have e2 : r % 256 % 128 = r % 128 := by omega
  rw [e1, ← e2]
  exact h
end Go.Proofs.Ytpgnappddddlpaa
namespace Go.Proofs.Ytpgnappddddlpaa
open Go.RowKit

def numOk (n : Int) : Bool := decide (0 ≤ n ∧ n ≤ 281474976710655)

/-- What a writer leaves: a new slice of the bytes ys, and whether there was something to write. -/
def PutRes (w : World) (ok : Bool) (ys : List Nat) (e : Ending) (w' : World) : Prop :=
  ∃ A c, e = .returned (.tuple #[.slice A ys.length c, .bool ok]) ∧ w'.ownsRow w.heap.size 5 1 (.slice A ys.length c) ys.length (vb ys) ∧ Below w.heap.size w w'

theorem PutRes.no (w : World) : PutRes w false [] (.returned (.tuple #[.slice none 0 0, .bool false])) w :=
  ⟨none, 0, rfl, World.ownsRow_nil _ _ _ _, Below.refl _ _⟩

/-- The digits of a number, the lowest first; all but the last with 128 on top. -/
def digits : Nat → Nat → List Nat
  | 0, n => [n]
  | f + 1, n => if n < 128 then [n] else (n % 128 + 128) :: digits f (n / 128)

/-- The digits that are written when n is left, of a number below 128^(f+1). -/
theorem digits_small (f n : Nat) (h : n < 128) : digits f n = [n] := by cases f <;> simp [digits, h]

theorem digits_big (f n : Nat) (h : 128 ≤ n) : digits (f + 1) n = (n % 128 + 128) :: digits f (n / 128) := by simp [digits]; omega

theorem digits_length (f n : Nat) : (digits f n).length ≤ f + 1 := by
  induction f generalizing n with
  | zero => simp [digits]
  | succ f ih =>
    by_cases h : n < 128
    · simp [digits, h]
    · have := ih (n / 128)
      simp [digits, h]
      omega

theorem digits_bytes (f n : Nat) (h : n < 128 ^ (f + 1)) : ∀ x ∈ digits f n, x < 256 := by
  induction f generalizing n with
  | zero => intro x hx; simp [digits] at hx; omega
  | succ f ih =>
    intro x hx
    by_cases hn : n < 128
    · rw [digits_small _ _ hn] at hx; simp at hx; omega
    · rw [digits_big _ _ (by omega)] at hx
      rcases List.mem_cons.1 hx with rfl | hx
      · omega
      · refine ih (n / 128) ?_ x hx
        rw [Nat.pow_succ] at h
        omega

def putVar (xs : List Nat) (n : Int) : List Nat := if numOk n then xs ++ digits 6 n.toNat else []

/-- '[]byte{}' owns nothing. -/
theorem built_none (w : World) : (w.alloc (.cells #[] 5)).ownsRow w.heap.size 5 1 (.slice (some ⟨w.heap.size, 0, none⟩) 0 0) 0 [] :=
  World.ownsRow_lit w #[] 0 (Nat.le_refl _) (by unfold maxLen; omega) rfl

theorem own_form {w : World} {base e n : Nat} {v : Value} {xs : List Value} (h : w.ownsRow base e 1 v n xs) : ∃ A c, v = .slice A n c := by
  rcases h.2 with ⟨rfl, rfl⟩ | ⟨g, cap, _, rfl, _⟩
  · exact ⟨_, _, rfl⟩
  · exact ⟨_, _, rfl⟩

theorem below_built {w w1 : World} {o : Obj} {k c : Nat} (hg : (w.alloc o).grownBy w1 (Value.slice (some ⟨w.heap.size, 0, none⟩) k c).ownBlock) : Below w.heap.size w w1 :=
  ((Below.refl _ _).alloc (Nat.le_refl _) o).grown hg (by simp) (by simp [Value.ownBlock])

theorem one_reads (w : World) (u : Value) : Reads (w.alloc (.cells #[u] 5)) (w.heap.size + 1) 1 (some ⟨w.heap.size, 0, none⟩) 1 [u] := by
  refine ⟨rfl, fun _ => ⟨_, rfl, by simp, fun j v hj => ?_⟩⟩
  match j, hj with
  | 0, hj => simp at hj; subst hj; simp [Addr.add]

theorem one_cell (x : Int) : ∀ u ∈ [Value.int .u8 x], u.oneCell' = true := by intro u hu; simp at hu; subst hu; rfl

/-- One byte more. -/
theorem own_snoc {w : World} {base n : Nat} {v : Value} {ys : List Nat} {x : Int} {y : Nat} (h : w.ownsRow base 5 1 v (n + 1) (vb ys ++ [.int .u8 x])) (hn : ys.length = n) (hx : x = (y : Int)) :
    w.ownsRow base 5 1 v (ys ++ [y]).length (vb (ys ++ [y])) := by
  subst hx
  rw [vb_append, List.length_append, hn]
  exact h

theorem below_app {w wr w2 : World} {e n : Nat} {v : Value} {xs : List Value} {o : Obj} (hbel : Below w.heap.size w wr) (hown : wr.ownsRow w.heap.size e 1 v n xs) (hg : (wr.alloc o).grownBy w2 v.ownBlock) : Below w.heap.size w w2 :=
  (hbel.alloc hbel.size o).grown hg (by have := hbel.size; simp; omega) (fun k hk => (hown.lt k hk).1)

/-- What is written so far (ys) and what is left (r) make the whole. -/
structure Left (whole ys : List Nat) (f r : Nat) : Prop where
  eq : ys ++ digits f r = whole
  lt : r < 128 ^ (f + 1)

theorem Left.step {whole ys : List Nat} {f r : Nat} (h : Left whole ys f r) (hr : 128 ≤ r) : ∃ g, f = g + 1 ∧ Left whole (ys ++ [r % 128 + 128]) g (r / 128) := by
  cases f with
  | zero => have := h.lt; simp at this; omega
  | succ g =>
    refine ⟨g, rfl, ?_, ?_⟩
    · rw [← h.eq, digits_big _ _ hr]; simp
    · have := h.lt; rw [Nat.pow_succ] at this; omega

theorem Left.done {whole ys : List Nat} {f r : Nat} (h : Left whole ys f r) (hr : r < 128) : ys ++ [r] = whole := by rw [← h.eq, digits_small _ _ hr]

theorem putVar_small (xs : List Nat) (a : Int) (h : ∀ x ∈ xs, x < 256) : ∀ x ∈ putVar xs a, x < 256 := by
  intro x hx
  unfold putVar at hx
  split at hx
  · rename_i hok
    rcases List.mem_append.1 hx with hx | hx
    · exact h x hx
    · refine digits_bytes 6 _ ?_ x hx
      simp only [numOk, decide_eq_true_eq] at hok
      omega
  · simp at hx

theorem putVar_length (xs : List Nat) (a : Int) : (putVar xs a).length ≤ xs.length + 7 := by
  unfold putVar
  split
  · have := digits_length 6 a.toNat
    simp
    omega
  · simp
end Go.Proofs.Ytpgnappddddlpaa
namespace Go.Proofs.Ytpgnappddddlpaa
open Go.RowKit

/-- The byte at place j, the highest first. -/
def fixByte (m j : Nat) : Nat := m / 256 ^ (5 - j) % 256

def fixBytes (m j : Nat) : List Nat := (List.range j).map (fixByte m)

theorem fixBytes_succ (m j : Nat) : fixBytes m (j + 1) = fixBytes m j ++ [fixByte m j] := by simp [fixBytes, List.range_succ]

theorem fixBytes_length (m j : Nat) : (fixBytes m j).length = j := by simp [fixBytes]

theorem fixByte_shift (m j : Nat) : (m : Int) / 2 ^ (8 * (5 - j)) % 256 = ((fixByte m j : Nat) : Int) := by
  unfold fixByte
  rw [Int.natCast_emod, Int.natCast_ediv, Int.natCast_pow, show ((256 : Nat) : Int) = 2 ^ 8 from rfl, ← Int.pow_mul, show (2 : Int) ^ 8 = 256 from rfl]

theorem div_256 (m i : Nat) : m / 256 ^ i / 256 = m / 256 ^ (i + 1) := by rw [Nat.div_div_eq_div_mul, ← Nat.pow_succ]

def putFix (xs : List Nat) (n : Int) : List Nat := if numOk n then xs ++ fixBytes n.toNat 6 else []

theorem putFix_small (xs : List Nat) (a : Int) (h : ∀ x ∈ xs, x < 256) : ∀ x ∈ putFix xs a, x < 256 := by
  intro x hx
  unfold putFix at hx
  split at hx
  · rcases List.mem_append.1 hx with hx | hx
    · exact h x hx
    · simp only [fixBytes, List.mem_map] at hx
      obtain ⟨j, _, rfl⟩ := hx
      unfold fixByte
      omega
  · simp at hx

theorem putFix_length (xs : List Nat) (a : Int) : (putFix xs a).length ≤ xs.length + 7 := by
  unfold putFix
  split
  · simp [fixBytes_length]
  · simp
end Go.Proofs.Ytpgnappddddlpaa
namespace Go.Proofs.Ytpgnappddddlpaa

/-- The value of digits, the lowest first. -/
def val : List Nat → Nat
  | [] => 0
  | d :: r => d % 128 + 128 * val r
theorem val_lt (l : List Nat) : val l < 128 ^ l.length := by
  induction l with
  | nil => simp [val]
  | cons d r ih => simp only [val, List.length_cons, Nat.pow_succ]; omega
theorem val_snoc (l : List Nat) (x : Nat) : val (l ++ [x]) = val l + x % 128 * 128 ^ l.length := by
  induction l with
  | nil => simp [val]
  | cons d r ih =>
    simp only [List.cons_append, val, ih, List.length_cons, Nat.pow_succ]
    rw [Nat.mul_add, Nat.mul_comm (128 ^ r.length) 128, ← Nat.mul_assoc (x % 128), Nat.mul_comm (x % 128) 128, Nat.mul_assoc]
    omega

/-- How many digits with 128 on top come first. -/
def scan : List Nat → Nat
  | [] => 0
  | d :: r => if 128 ≤ d then scan r + 1 else 0
theorem scan_le (l : List Nat) : scan l ≤ l.length := by
  induction l with
  | nil => simp [scan]
  | cons d r ih => simp only [scan, List.length_cons]; split <;> omega
theorem scan_lt (l : List Nat) (j : Nat) (h : j < scan l) : ∃ x, l[j]? = some x ∧ 128 ≤ x := by
  induction l generalizing j with
  | nil => simp [scan] at h
  | cons d r ih =>
    simp only [scan] at h
    split at h
    · cases j with
      | zero => exact ⟨d, rfl, by assumption⟩
      | succ j => simpa using ih j (by omega)
    · omega
theorem scan_at (l : List Nat) (h : scan l < l.length) : ∃ d, l[scan l]? = some d ∧ d < 128 := by
  induction l with
  | nil => simp [scan] at h
  | cons d r ih =>
    simp only [scan] at h ⊢
    split at h
    · rename_i hd
      rw [if_pos hd]
      simpa using ih (by simpa using h)
    · rename_i hd
      rw [if_neg hd]
      exact ⟨d, rfl, by omega⟩

/-- Digits of which all but the last have 128 on top. -/
def shape : List Nat → Prop
  | [] => False
  | [d] => d < 128
  | d :: e :: r => 128 ≤ d ∧ d < 256 ∧ shape (e :: r)
theorem shape_take (l : List Nat) (hs : ∀ x ∈ l, x < 256) (h : scan l < l.length) : shape (l.take (scan l + 1)) := by
  induction l with
  | nil => simp [scan] at h
  | cons d r ih =>
    simp only [scan] at h ⊢
    split at h
    · rename_i hd
      rw [if_pos hd]
      have h2 : scan r < r.length := by simpa using h
      have := ih (fun x hx => hs x (by simp [hx])) h2
      rw [List.take_succ_cons]
      cases r with
      | nil => simp at h2
      | cons e r => rw [List.take_succ_cons] at this ⊢; exact ⟨hd, hs d (by simp), this⟩
    · rename_i hd
      rw [if_neg hd]
      simp [shape]
      omega
/-- The digits are the shortest ones: there is one alone, or the last is not nought. -/
def shortest : List Nat → Bool
  | [] => false
  | [_] => true
  | l => l.getLast? != some 0
theorem val_pos (l : List Nat) (h : shape l) (hl : l.getLast? ≠ some 0) : 1 ≤ val l := by
  induction l with
  | nil => cases h
  | cons d r ih =>
    cases r with
    | nil => simp [shape] at h; simp at hl; simp [val]; omega
    | cons e r =>
      have := ih h.2.2 (by simpa using hl)
      simp only [val] at this ⊢
      omega
theorem digits_val (l : List Nat) (f : Nat) (h : shape l) (hf : l.length ≤ f + 1) : digits f (val l) = l ↔ shortest l = true := by
  induction l generalizing f with
  | nil => cases h
  | cons d r ih =>
    cases r with
    | nil =>
      simp [shape] at h
      simp [shortest, val, Nat.mod_eq_of_lt h, digits_small _ _ h]
    | cons e r =>
      obtain ⟨h1, h2, h3⟩ := h
      cases f with
      | zero => simp at hf
      | succ f =>
        have ih := ih f h3 (by simpa using hf)
        have hv : val (d :: e :: r) = d % 128 + 128 * val (e :: r) := rfl
        by_cases hz : val (e :: r) = 0
        · have hs : val (d :: e :: r) < 128 := by rw [hv, hz]; omega
          rw [digits_small _ _ hs]
          constructor
          · intro hc; simp at hc
          · intro hc
            have := val_pos (e :: r) h3 (by simpa [shortest] using hc)
            omega
        · have hb : 128 ≤ val (d :: e :: r) := by rw [hv]; omega
          rw [digits_big _ _ hb]
          have e1 : val (d :: e :: r) % 128 + 128 = d := by rw [hv]; omega
          have e2 : val (d :: e :: r) / 128 = val (e :: r) := by rw [hv]; omega
          rw [e1, e2, List.cons.injEq]
          simp only [true_and]
          rw [ih]
          cases r with
          | nil =>
            simp [shape] at h3
            simp [shortest]
            simp [val] at hz
            omega
          | cons g r => simp [shortest]
/-- Whether a number of variable length begins here. -/
def gvOk (ds : List Nat) : Bool := decide (scan ds < 7 ∧ scan ds < ds.length ∧ val (ds.take (scan ds + 1)) ≤ 281474976710655) && shortest (ds.take (scan ds + 1))
def gv (xs : List Nat) (a : Int) (n : Nat) : Bool := decide (0 ≤ a ∧ a < n) && gvOk (xs.drop a.toNat)
def gvN (xs : List Nat) (a : Int) (n : Nat) : Int := if gv xs a n then val ((xs.drop a.toNat).take (scan (xs.drop a.toNat) + 1)) else 0
def gvE (xs : List Nat) (a : Int) (n : Nat) : Int := if gv xs a n then a + scan (xs.drop a.toNat) + 1 else 0
theorem gv_out (xs : List Nat) (a : Int) (n : Nat) (h : ¬ (0 ≤ a ∧ a < n)) : gv xs a n = false := by simp only [gv, decide_eq_false h, Bool.false_and]
theorem gv_in (xs : List Nat) (p n : Nat) (h : p < n) : gv xs (p : Int) n = gvOk (xs.drop p) := by
  have h2 : 0 ≤ (p : Int) ∧ (p : Int) < n := by omega
  simp only [gv, decide_eq_true h2, Bool.true_and, Int.toNat_natCast]
theorem shortest_take (l : List Nat) (h : scan l < l.length) (d : Nat) (hd : l[scan l]? = some d) : shortest (l.take (scan l + 1)) = true ↔ (scan l = 0 ∨ d ≠ 0) := by
  obtain ⟨hlt, he⟩ := List.getElem?_eq_some_iff.1 hd
  have e1 : l.take (scan l + 1) = l.take (scan l) ++ [d] := by rw [List.take_succ_eq_append_getElem h, he]
  rw [e1]
  generalize hq : scan l = q at *
  cases hl : l.take q with
  | nil =>
    have : q = 0 := by
      rcases Nat.eq_zero_or_pos q with h0 | h0
      · exact h0
      · have := congrArg List.length hl; rw [List.length_take, List.length_nil] at this; omega
    simp [shortest, this]
  | cons x r =>
    have : q ≠ 0 := by rintro rfl; simp at hl
    cases r with
    | nil => simp [shortest, this]
    | cons y r =>
      have e2 : (x :: y :: r ++ [d]).getLast? = some d := List.getLast?_concat
      have e3 : shortest (x :: y :: r ++ [d]) = ((x :: y :: r ++ [d]).getLast? != some 0) := rfl
      rw [e3, e2]
      simp [this]
theorem val_take_succ (ds : List Nat) (j x : Nat) (h : ds[j]? = some x) : val (ds.take (j + 1)) = val (ds.take j) + x % 128 * 128 ^ j := by
  obtain ⟨hl, he⟩ := List.getElem?_eq_some_iff.1 h
  rw [List.take_succ_eq_append_getElem hl, val_snoc, he, List.length_take, Nat.min_eq_left (by omega)]
theorem val_take_lt (ds : List Nat) (j : Nat) : val (ds.take j) < 128 ^ j :=
  Nat.lt_of_lt_of_le (val_lt _) (Nat.pow_le_pow_right (by omega) (by rw [List.length_take]; omega))
theorem pow7 (j : Nat) : 2 ^ (7 * j) = 128 ^ j := by rw [Nat.pow_mul]
theorem shl_or (v x j : Nat) (hj : j < 7) (hv : v < 128 ^ j) : bits .or .i64 (v : Int) (RowKit.wrap64 ((x : Int) % 128 * 2 ^ (7 * j))) = ((v + x % 128 * 128 ^ j : Nat) : Int) := by
  have hp : 128 ^ j ≤ 128 ^ 6 := Nat.pow_le_pow_right (by omega) (by omega)
  have hm : x % 128 * 128 ^ j ≤ 127 * 128 ^ j := Nat.mul_le_mul_right _ (by omega)
  have e1 : (x : Int) % 128 * 2 ^ (7 * j) = ((x % 128 * 128 ^ j : Nat) : Int) := by
    rw [← pow7, Int.natCast_mul, Int.natCast_pow, Int.natCast_emod]
    rfl
  rw [e1, IntWalk.wrap64_in _ ⟨by omega, by omega⟩, or64 _ _ (by omega) (by omega), Nat.or_comm, ← pow7, or_mul_pow _ _ _ (by rw [pow7]; exact hv), Nat.add_comm]
theorem gvOk_no (ds : List Nat) (h : 7 ≤ scan ds ∨ ds.length ≤ scan ds) : gvOk ds = false := by
  unfold gvOk
  rw [decide_eq_false (by omega), Bool.false_and]
theorem gvOk_short (ds : List Nat) (d : Nat) (h : scan ds < ds.length) (hd : ds[scan ds]? = some d) (h0 : 0 < scan ds) (hz : d = 0) : gvOk ds = false := by
  unfold gvOk
  have : shortest (ds.take (scan ds + 1)) = false := by
    rw [Bool.eq_false_iff]
    intro hc
    have := (shortest_take ds h d hd).1 hc
    omega
  rw [this, Bool.and_false]
theorem gvOk_big (ds : List Nat) (h : 281474976710655 < val (ds.take (scan ds + 1))) : gvOk ds = false := by
  unfold gvOk
  rw [decide_eq_false (by omega), Bool.false_and]
theorem gvOk_yes (ds : List Nat) (d : Nat) (h7 : scan ds < 7) (h : scan ds < ds.length) (hd : ds[scan ds]? = some d) (h0 : scan ds = 0 ∨ d ≠ 0) (hv : val (ds.take (scan ds + 1)) ≤ 281474976710655) : gvOk ds = true := by
  unfold gvOk
  rw [decide_eq_true ⟨h7, h, hv⟩, (shortest_take ds h d hd).2 h0]
  rfl
end Go.Proofs.Ytpgnappddddlpaa
namespace Go.Proofs.Ytpgnappddddlpaa
open Go.RowKit

def gvVal (xs : List Nat) (a : Int) (n : Nat) : Value := .tuple #[.int .i64 (gvN xs a n), .int .i64 (gvE xs a n), .bool (gv xs a n)]

theorem gvVal_no (xs : List Nat) (a : Int) (n : Nat) (h : gv xs a n = false) : gvVal xs a n = .tuple #[.int .i64 0, .int .i64 0, .bool false] := by simp [gvVal, gvN, gvE, h]
end Go.Proofs.Ytpgnappddddlpaa
namespace Go.Proofs.Ytpgnappddddlpaa
open Go.RowKit

def unzig (n : Int) : Int := if n % 2 = 1 then -(n / 2) - 1 else n / 2

def gzVal (xs : List Nat) (a : Int) (n : Nat) : Value := .tuple #[.int .i64 (if gv xs a n then unzig (gvN xs a n) else 0), .int .i64 (gvE xs a n), .bool (gv xs a n)]

theorem gz_yes (xs : List Nat) (a : Int) (n : Nat) (h : gv xs a n = true) : gzVal xs a n = .tuple #[.int .i64 (unzig (gvN xs a n)), .int .i64 (gvE xs a n), .bool true] := by simp [gzVal, h]

theorem gz_no (xs : List Nat) (a : Int) (n : Nat) (h : gv xs a n = false) : gzVal xs a n = .tuple #[.int .i64 0, .int .i64 0, .bool false] := by simp [gzVal, gvE, h]

theorem gvVal_yes (xs : List Nat) (a : Int) (n : Nat) (h : gv xs a n = true) : gvVal xs a n = .tuple #[.int .i64 (gvN xs a n), .int .i64 (gvE xs a n), .bool true] := by simp [gvVal, h]

theorem gvN_bounds (xs : List Nat) (a : Int) (n : Nat) : 0 ≤ gvN xs a n ∧ gvN xs a n ≤ 281474976710655 := by
  unfold gvN
  split
  · rename_i h
    have h2 : gvOk (xs.drop a.toNat) = true := by
      unfold gv at h
      rw [Bool.and_eq_true] at h
      exact h.2
    unfold gvOk at h2
    rw [Bool.and_eq_true, decide_eq_true_eq] at h2
    have := h2.1.2.2
    omega
  · omega
end Go.Proofs.Ytpgnappddddlpaa
namespace Go.Proofs.Ytpgnappddddlpaa
open Go.RowKit

def zigOk (n : Int) : Bool := decide (-140737488355328 ≤ n ∧ n ≤ 140737488355327)

/-- The number that bears the sign in its lowest bit. -/
def zig (n : Int) : Int := if n < 0 then -2 * n - 1 else 2 * n

def putZig (xs : List Nat) (n : Int) : List Nat := if zigOk n then putVar xs (zig n) else []

theorem zig_num (n : Int) (h : zigOk n = true) : numOk (zig n) = true := by
  simp only [zigOk, decide_eq_true_eq] at h
  simp only [numOk, decide_eq_true_eq]
  unfold zig
  by_cases hn : n < 0
  · rw [if_pos hn]; omega
  · rw [if_neg hn]; omega

theorem putZig_small (xs : List Nat) (a : Int) (h : ∀ x ∈ xs, x < 256) : ∀ x ∈ putZig xs a, x < 256 := by
  unfold putZig
  split
  · exact putVar_small xs _ h
  · simp

theorem putZig_length (xs : List Nat) (a : Int) : (putZig xs a).length ≤ xs.length + 7 := by
  unfold putZig
  split
  · exact putVar_length xs _
  · simp
end Go.Proofs.Ytpgnappddddlpaa
namespace Go.Proofs.Ytpgnappddddlpaa
open Go.RowKit

/-- The number of the first k bytes from 'at' on, the highest first. -/
def fixNat (xs : List Nat) (a k : Nat) : Nat := ((xs.drop a).take k).foldl (fun n x => n * 256 + x) 0

theorem fixNat_zero (xs : List Nat) (a : Nat) : fixNat xs a 0 = 0 := by simp [fixNat]

theorem fixNat_succ (xs : List Nat) (a k x : Nat) (h : xs[a + k]? = some x) : fixNat xs a (k + 1) = fixNat xs a k * 256 + x := by
  unfold fixNat
  have h2 : (xs.drop a)[k]? = some x := by rw [List.getElem?_drop]; exact h
  obtain ⟨hl, he⟩ := List.getElem?_eq_some_iff.1 h2
  rw [List.take_succ_eq_append_getElem hl, List.foldl_append, he]
  rfl

theorem fixNat_lt (xs : List Nat) (hs : ∀ x ∈ xs, x < 256) (a k : Nat) (hk : a + k ≤ xs.length) : fixNat xs a k < 256 ^ k := by
  induction k with
  | zero => simp [fixNat_zero]
  | succ k ih =>
    have hl : a + k < xs.length := by omega
    rw [fixNat_succ xs a k _ (List.getElem?_eq_getElem hl), Nat.pow_succ]
    have := ih (by omega)
    have := hs _ (List.getElem_mem hl)
    omega

def fixOk (a : Int) (n : Nat) : Bool := decide (0 ≤ a ∧ a + 6 ≤ n)

def fixVal (xs : List Nat) (a : Int) (n : Nat) : Value := .tuple #[.int .i64 (if fixOk a n then (fixNat xs a.toNat 6 : Nat) else 0), .bool (fixOk a n)]
end Go.Proofs.Ytpgnappddddlpaa
namespace Go.Proofs.Ytpgnappddddlpaa
open Go.RowKit

/-! ### a list -/
def listOk (l : List Int) : Bool := decide (l.length ≤ 400) && l.all numOk
def listY (l : List Int) : List Nat := if listOk l then digits 6 l.length ++ l.flatMap (fun x => putFix [] x) else []
theorem putVar_nil (m : Nat) (h : m ≤ 281474976710655) : putVar [] (m : Int) = digits 6 m := by
  have e1 : numOk (m : Int) = true := by simp only [numOk, decide_eq_true_eq]; omega
  simp [putVar, e1]
theorem putVar_onto (xs : List Nat) (n : Int) (h : numOk n = true) : putVar xs n = xs ++ putVar [] n := by simp [putVar, h]
theorem putZig_onto (xs : List Nat) (n : Int) (h : zigOk n = true) : putZig xs n = xs ++ putZig [] n := by simp [putZig, h, putVar, zig_num n h]
theorem putFix_onto (xs : List Nat) (n : Int) (h : numOk n = true) : putFix xs n = xs ++ putFix [] n := by simp [putFix, h]
theorem pk_flat_small {α : Type} (f : α → List Nat) (h : ∀ x, ∀ b ∈ f x, b < 256) (l : List α) : ∀ b ∈ l.flatMap f, b < 256 := fun b hb => by
  obtain ⟨x, _, hx⟩ := List.mem_flatMap.1 hb
  exact h x b hx
theorem pk_flat_len {α : Type} (f : α → List Nat) (m : Nat) (h : ∀ x, (f x).length ≤ m) : ∀ l : List α, (l.flatMap f).length ≤ m * l.length
  | [] => by simp
  | x :: r => by
    have h1 := h x
    have h2 := pk_flat_len f m h r
    rw [List.flatMap_cons, List.length_append, List.length_cons, Nat.mul_succ]
    omega
theorem listY_small (l : List Int) : ∀ b ∈ listY l, b < 256 := by
  unfold listY
  split
  · rename_i h
    intro b hb
    rcases List.mem_append.1 hb with hb | hb
    · have h2 : l.length ≤ 400 := by simp only [listOk, Bool.and_eq_true, decide_eq_true_eq] at h; exact h.1
      exact digits_bytes 6 _ (by omega) b hb
    · exact pk_flat_small _ (fun x => putFix_small [] x (by simp)) l b hb
  · simp
theorem listY_len (l : List Int) : (listY l).length ≤ 2807 := by
  unfold listY
  split
  · rename_i h
    have h2 : l.length ≤ 400 := by simp only [listOk, Bool.and_eq_true, decide_eq_true_eq] at h; exact h.1
    have h3 := digits_length 6 l.length
    have h4 := pk_flat_len (fun x : Int => putFix [] x) 7 (fun x => by have := putFix_length [] x; simpa using this) l
    rw [List.length_append]
    omega
  · simp
theorem pk_all_step (p : Int → Bool) (l : List Int) (k : Nat) (x : Int) (h : l[k]? = some x) : (l.take (k + 1)).all p = ((l.take k).all p && p x) := by
  obtain ⟨hl, he⟩ := List.getElem?_eq_some_iff.1 h
  rw [List.take_succ_eq_append_getElem hl, he]
  simp
theorem pk_flat_step (f : Int → List Nat) (l : List Int) (k : Nat) (x : Int) (h : l[k]? = some x) : (l.take (k + 1)).flatMap f = (l.take k).flatMap f ++ f x := by
  obtain ⟨hl, he⟩ := List.getElem?_eq_some_iff.1 h
  rw [List.take_succ_eq_append_getElem hl, he]
  simp

/-! ### a shard's bytes -/
def encE (d e : KE) : List Nat := putVar [] (e.f - d.f) ++ (putZig [] (e.t - d.t) ++ (putVar [] e.w ++ putZig [] (e.i - d.i)))
def encEs : KE → List KE → List Nat
  | _, [] => []
  | d, e :: r => encE d e ++ encEs e r
def lastK : KE → List KE → KE
  | d, [] => d
  | _, e :: r => lastK e r
theorem encEs_snoc : ∀ (l : List KE) (d e : KE), encEs d (l ++ [e]) = encEs d l ++ encE (lastK d l) e
  | [], d, e => by simp [encEs, lastK]
  | a :: r, d, e => by rw [List.cons_append, encEs, encEs_snoc r a e, encEs, lastK, List.append_assoc]
theorem lastK_snoc : ∀ (l : List KE) (d e : KE), lastK d (l ++ [e]) = e
  | [], _, _ => rfl
  | a :: r, d, e => by rw [List.cons_append, lastK, lastK_snoc r a e]
def headY (lo hi : Int) (n : Nat) : List Nat := putVar [] lo ++ (putVar [] hi ++ putVar [] (n : Int))
def shardY (lo hi : Int) (es : List KE) : List Nat := if shardB lo hi es then headY lo hi es.length ++ encEs ⟨0, lo, 0, 0, 0⟩ es else []
theorem putY_small (n : Int) : ∀ x ∈ putVar [] n, x < 256 := putVar_small [] n (by simp)
theorem putZ_small (n : Int) : ∀ x ∈ putZig [] n, x < 256 := putZig_small [] n (by simp)
theorem encE_small (d e : KE) : ∀ x ∈ encE d e, x < 256 := fun x hx => by
  unfold encE at hx
  simp only [List.mem_append] at hx
  rcases hx with hx | hx | hx | hx
  · exact putY_small _ x hx
  · exact putZ_small _ x hx
  · exact putY_small _ x hx
  · exact putZ_small _ x hx
theorem encEs_small : ∀ (l : List KE) (d : KE), ∀ x ∈ encEs d l, x < 256
  | [], _, x, hx => by cases hx
  | a :: r, d, x, hx => by
    rw [encEs] at hx
    rcases List.mem_append.1 hx with hx | hx
    · exact encE_small d a x hx
    · exact encEs_small r a x hx
theorem encE_len (d e : KE) : (encE d e).length ≤ 28 := by
  have h1 := putVar_length [] (e.f - d.f)
  have h2 := putZig_length [] (e.t - d.t)
  have h3 := putVar_length [] e.w
  have h4 := putZig_length [] (e.i - d.i)
  unfold encE
  simp only [List.length_append, List.length_nil] at *
  omega
theorem encEs_len : ∀ (l : List KE) (d : KE), (encEs d l).length ≤ 28 * l.length
  | [], _ => by simp [encEs]
  | a :: r, d => by
    have h1 := encE_len d a
    have h2 := encEs_len r a
    rw [encEs, List.length_append, List.length_cons]
    omega
theorem headY_small (lo hi : Int) (n : Nat) : ∀ x ∈ headY lo hi n, x < 256 := fun x hx => by
  unfold headY at hx
  simp only [List.mem_append] at hx
  rcases hx with hx | hx | hx
  all_goals exact putY_small _ x hx
theorem headY_len (lo hi : Int) (n : Nat) : (headY lo hi n).length ≤ 21 := by
  have h1 := putVar_length [] lo
  have h2 := putVar_length [] hi
  have h3 := putVar_length [] (n : Int)
  unfold headY
  simp only [List.length_append, List.length_nil] at *
  omega
theorem shardY_small (lo hi : Int) (es : List KE) : ∀ x ∈ shardY lo hi es, x < 256 := by
  unfold shardY
  split
  · intro x hx
    rcases List.mem_append.1 hx with hx | hx
    · exact headY_small _ _ _ x hx
    · exact encEs_small _ _ x hx
  · simp
theorem shardY_len (lo hi : Int) (es : List KE) : (shardY lo hi es).length ≤ 11221 := by
  unfold shardY
  split
  · rename_i h
    have h2 := (shardB_iff h).2.2.2.1
    have h3 := headY_len lo hi es.length
    have h4 := encEs_len es ⟨0, lo, 0, 0, 0⟩
    rw [List.length_append]
    omega
  · simp
/-- An edge from which the next one's differences are taken. -/
structure Nr (lo hi p : Int) (d : KE) : Prop where
  f0 : 0 ≤ d.f
  f1 : d.f ≤ 150
  fp : d.f ≤ p ∨ d.f = 0
  t0 : lo ≤ d.t
  t1 : d.t < hi
  i0 : 0 ≤ d.i
  i1 : d.i ≤ 400
/-- The differences of an edge of a valid shard. -/
structure Dif (d e : KE) : Prop where
  f0 : 0 ≤ e.f - d.f
  f1 : e.f - d.f ≤ 150
  t0 : -150 ≤ e.t - d.t
  t1 : e.t - d.t ≤ 150
  w0 : 0 ≤ e.w
  w1 : e.w ≤ 1000
  i0 : -400 ≤ e.i - d.i
  i1 : e.i - d.i ≤ 400
theorem nr_first {lo hi : Int} (h : lo < hi) : Nr lo hi (-1) ⟨0, lo, 0, 0, 0⟩ := ⟨by simp, by simp, .inr rfl, Int.le_refl _, h, by simp, by simp⟩
theorem nr_edge {lo hi : Int} {e : KE} (h : kedgeB lo hi e = true) : Nr lo hi e.f e := by
  obtain ⟨h1, h2, h3, h4, h5, h6, h7, h8, _⟩ := kedgeB_iff h
  exact ⟨h1, by omega, .inl (Int.le_refl _), h3, h4, h7, by omega⟩
theorem dif_edge {lo hi p q : Int} {d e : KE} (h0 : 0 ≤ lo) (hh : hi ≤ 150) (hd : Nr lo hi p d) (he : kedgeB lo hi e = true) (ha : afterB p q e = true) : Dif d e := by
  obtain ⟨h1, h2, h3, h4, h5, h6, h7, h8, _⟩ := kedgeB_iff he
  obtain ⟨d1, d2, d3, d4, d5, d6, d7⟩ := hd
  have h9 := afterB_iff ha
  exact ⟨by omega, by omega, by omega, by omega, by omega, by omega, by omega, by omega⟩
theorem dif_at {lo hi : Int} (h0 : 0 ≤ lo) (hh : hi ≤ 150) : ∀ (es : List KE) (p q : Int) (d : KE), runK lo hi p q es = true → Nr lo hi p d → ∀ (k : Nat) (e : KE), es[k]? = some e → Dif (lastK d (es.take k)) e ∧ kedgeB lo hi e = true
  | [], _, _, _, _, _, k, e, he => by simp at he
  | a :: r, p, q, d, h, hd, k, e, he => by
    rw [runK, Bool.and_eq_true, Bool.and_eq_true] at h
    cases k with
    | zero =>
      have h9 : a = e := by simpa using he
      subst h9
      exact ⟨dif_edge h0 hh hd h.1.1 h.1.2, h.1.1⟩
    | succ k =>
      rw [List.take_succ_cons, lastK]
      exact dif_at h0 hh r a.f a.i a h.2 (nr_edge h.1.1) k e (by simpa using he)

/-! ### reading -/
def nxV (xs : List Nat) (a : Int) (n : Nat) : Int := if gv xs a n then gvE xs a n else -1
def vZ (xs : List Nat) (a : Int) (n : Nat) : Int := if gv xs a n then unzig (gvN xs a n) else 0
def nxF (a : Int) (n : Nat) : Int := if fixOk a n then a + 6 else -1
def vF (xs : List Nat) (a : Int) (n : Nat) : Int := if fixOk a n then (fixNat xs a.toNat 6 : Nat) else 0
structure RS where
  a : Int
  f : Int
  t : Int
  w : Int
  i : Int
def RS.e (s : RS) : KE := ⟨s.f, s.t, s.w, s.i, 0⟩
def rdStep (xs : List Nat) (n : Nat) (s : RS) : RS :=
  ⟨nxV xs (nxV xs (nxV xs (nxV xs s.a n) n) n) n, IntKind.i64.wrap (s.f + gvN xs s.a n), IntKind.i64.wrap (s.t + vZ xs (nxV xs s.a n) n), gvN xs (nxV xs (nxV xs s.a n) n) n, IntKind.i64.wrap (s.i + vZ xs (nxV xs (nxV xs (nxV xs s.a n) n) n) n)⟩
def rdIt (xs : List Nat) (n : Nat) : Nat → RS → RS
  | 0, s => s
  | k + 1, s => rdIt xs n k (rdStep xs n s)
def esR (xs : List Nat) (n : Nat) : Nat → RS → List KE
  | 0, _ => []
  | k + 1, s => (rdStep xs n s).e :: esR xs n k (rdStep xs n s)
theorem rdIt_succ (xs : List Nat) (n : Nat) : ∀ (k : Nat) (s : RS), rdIt xs n (k + 1) s = rdStep xs n (rdIt xs n k s)
  | 0, _ => rfl
  | k + 1, s => by rw [rdIt, rdIt_succ xs n k, rdIt]
theorem esR_snoc (xs : List Nat) (n : Nat) : ∀ (k : Nat) (s : RS), esR xs n (k + 1) s = esR xs n k s ++ [(rdStep xs n (rdIt xs n k s)).e]
  | 0, _ => rfl
  | k + 1, s => by rw [esR, esR_snoc xs n k, esR, rdIt]; rfl
theorem esR_len (xs : List Nat) (n : Nat) : ∀ (k : Nat) (s : RS), (esR xs n k s).length = k
  | 0, _ => rfl
  | k + 1, s => by rw [esR, List.length_cons, esR_len xs n k]
theorem nxV_neg (xs : List Nat) (a : Int) (n : Nat) (h : a < 0) : nxV xs a n = -1 := by rw [nxV, gv_out xs a n (by omega), if_neg (by simp)]
theorem gvN_neg (xs : List Nat) (a : Int) (n : Nat) (h : a < 0) : gvN xs a n = 0 := by rw [gvN, gv_out xs a n (by omega), if_neg (by simp)]
theorem vZ_neg (xs : List Nat) (a : Int) (n : Nat) (h : a < 0) : vZ xs a n = 0 := by rw [vZ, gv_out xs a n (by omega), if_neg (by simp)]
theorem nxV_gv {xs : List Nat} {a : Int} {n : Nat} (h : 0 ≤ nxV xs a n) : gv xs a n = true := by
  cases h2 : gv xs a n with
  | true => rfl
  | false => rw [nxV, h2, if_neg (by simp)] at h; omega
theorem nxV_yes {xs : List Nat} {a : Int} {n : Nat} (h : gv xs a n = true) : nxV xs a n = gvE xs a n := by rw [nxV, h, if_pos rfl]
theorem gvE_facts {xs : List Nat} {a : Int} {n : Nat} (hl : xs.length = n) (h : gv xs a n = true) : 0 ≤ a ∧ a < gvE xs a n ∧ gvE xs a n ≤ n := by
  have h0 := h
  unfold gv at h0
  rw [Bool.and_eq_true, decide_eq_true_eq] at h0
  obtain ⟨h1, h2⟩ := h0
  unfold gvOk at h2
  rw [Bool.and_eq_true, decide_eq_true_eq, List.length_drop] at h2
  unfold gvE
  rw [h, if_pos rfl]
  omega
theorem nxV_facts {xs : List Nat} {a : Int} {n : Nat} (hl : xs.length = n) (h : 0 ≤ nxV xs a n) : 0 ≤ a ∧ a < nxV xs a n ∧ nxV xs a n ≤ n := by
  have hg := nxV_gv h
  rw [nxV_yes hg]
  exact gvE_facts hl hg
theorem nxV_or {xs : List Nat} {a : Int} {n : Nat} (hl : xs.length = n) : nxV xs a n = -1 ∨ 0 < nxV xs a n := by
  cases h : gv xs a n with
  | true => exact .inr (by rw [nxV_yes h]; have := gvE_facts hl h; omega)
  | false => exact .inl (by rw [nxV, h, if_neg (by simp)])
/-- The bytes from a to b. -/
def seg (xs : List Nat) (a b : Int) : List Nat := (xs.drop a.toNat).take (b - a).toNat
theorem seg_append (xs : List Nat) {a b c : Int} (h0 : 0 ≤ a) (h1 : a ≤ b) (h2 : b ≤ c) : seg xs a b ++ seg xs b c = seg xs a c := by
  unfold seg
  rw [show (c - a).toNat = (b - a).toNat + (c - b).toNat by omega, List.take_add, List.drop_drop, show a.toNat + (b - a).toNat = b.toNat by omega]
theorem seg_same (xs : List Nat) (a : Int) : seg xs a a = [] := by simp [seg]
theorem gvN_seg {xs : List Nat} {a : Int} {n : Nat} (hs : ∀ x ∈ xs, x < 256) (h : gv xs a n = true) : putVar [] (gvN xs a n) = seg xs a (gvE xs a n) := by
  have h0 := h
  unfold gv at h0
  rw [Bool.and_eq_true, decide_eq_true_eq] at h0
  obtain ⟨h1, h2⟩ := h0
  unfold gvOk at h2
  rw [Bool.and_eq_true, decide_eq_true_eq, List.length_drop] at h2
  obtain ⟨⟨h3, h4, h5⟩, h6⟩ := h2
  have hlt : scan (xs.drop a.toNat) < (xs.drop a.toNat).length := by rw [List.length_drop]; exact h4
  have h7 := (digits_val ((xs.drop a.toNat).take (scan (xs.drop a.toNat) + 1)) 6 (shape_take _ (fun x hx => hs x (List.mem_of_mem_drop hx)) hlt) (by rw [List.length_take]; omega)).2 h6
  unfold gvN gvE seg
  rw [h, if_pos rfl, if_pos rfl, putVar_nil _ h5, h7]
  congr 1
  omega
theorem zig_unzig (m : Int) (h : 0 ≤ m) : zig (unzig m) = m := by
  unfold unzig
  split
  · unfold zig
    rw [if_pos (by omega)]
    omega
  · unfold zig
    rw [if_neg (by omega)]
    omega
theorem zigOk_unzig (m : Int) (h : 0 ≤ m) (h2 : m ≤ 281474976710655) : zigOk (unzig m) = true := by
  unfold zigOk unzig
  rw [decide_eq_true_eq]
  split <;> omega
theorem vZ_bounds (xs : List Nat) (a : Int) (n : Nat) : -140737488355328 ≤ vZ xs a n ∧ vZ xs a n ≤ 140737488355327 := by
  obtain ⟨h1, h2⟩ := gvN_bounds xs a n
  unfold vZ
  split
  · have := zigOk_unzig _ h1 h2
    simpa only [zigOk, decide_eq_true_eq] using this
  · omega
theorem vZ_seg {xs : List Nat} {a : Int} {n : Nat} (hs : ∀ x ∈ xs, x < 256) (h : gv xs a n = true) : putZig [] (vZ xs a n) = seg xs a (gvE xs a n) := by
  obtain ⟨h1, h2⟩ := gvN_bounds xs a n
  unfold vZ
  rw [h, if_pos rfl, putZig, zigOk_unzig _ h1 h2, if_pos rfl, zig_unzig _ h1]
  exact gvN_seg hs h
theorem wrap_in (x : Int) (h0 : -9223372036854775808 ≤ x) (h1 : x ≤ 9223372036854775807) : IntKind.i64.wrap x = x := by
  rw [IntKind.wrap_i64]
  omega
theorem rdIt_neg (xs : List Nat) (n : Nat) : ∀ (k : Nat) (s : RS), s.a < 0 → (rdIt xs n k s).a < 0
  | 0, _, h => h
  | k + 1, s, h => by
    rw [rdIt]
    refine rdIt_neg xs n k _ ?_
    show nxV xs (nxV xs (nxV xs (nxV xs s.a n) n) n) n < 0
    rw [nxV_neg xs _ n h, nxV_neg xs (-1) n (by omega), nxV_neg xs (-1) n (by omega), nxV_neg xs (-1) n (by omega)]
    omega
theorem rdStep_facts {xs : List Nat} {n : Nat} {s : RS} (hl : xs.length = n) (h : 0 ≤ (rdStep xs n s).a) : 0 ≤ s.a ∧ s.a < nxV xs s.a n ∧ nxV xs s.a n < nxV xs (nxV xs s.a n) n ∧ nxV xs (nxV xs s.a n) n < nxV xs (nxV xs (nxV xs s.a n) n) n ∧ nxV xs (nxV xs (nxV xs s.a n) n) n < (rdStep xs n s).a := by
  obtain ⟨h1, h2, _⟩ := nxV_facts hl h
  obtain ⟨h3, h4, _⟩ := nxV_facts hl h1
  obtain ⟨h5, h6, _⟩ := nxV_facts hl h3
  obtain ⟨h7, h8, _⟩ := nxV_facts hl h5
  exact ⟨h7, h8, h6, h4, h2⟩
theorem rdIt_up {xs : List Nat} {n : Nat} (hl : xs.length = n) : ∀ (k : Nat) (s : RS), 0 ≤ (rdIt xs n k s).a → 0 ≤ s.a ∧ s.a ≤ (rdIt xs n k s).a
  | 0, _, h => ⟨h, Int.le_refl _⟩
  | k + 1, s, h => by
    rw [rdIt] at h
    obtain ⟨h1, h2⟩ := rdIt_up hl k _ h
    obtain ⟨h3, h4, h5, h6, h7⟩ := rdStep_facts hl h1
    rw [rdIt]
    exact ⟨h3, by omega⟩
/-- What was read is what would be written. -/
theorem enc_seg {xs : List Nat} {n : Nat} {lo hi : Int} (hl : xs.length = n) (hs : ∀ x ∈ xs, x < 256) (h0 : 0 ≤ lo) (hh : hi ≤ 150) : ∀ (k : Nat) (s : RS) (p q v : Int), runK lo hi p q (esR xs n k s) = true → Nr lo hi p ⟨s.f, s.t, s.w, s.i, v⟩ → 0 ≤ (rdIt xs n k s).a →
    encEs ⟨s.f, s.t, s.w, s.i, v⟩ (esR xs n k s) = seg xs s.a (rdIt xs n k s).a
  | 0, s, _, _, _, _, _, _ => by rw [esR, encEs, rdIt, seg_same]
  | k + 1, s, p, q, v, hr, hd, ha => by
    rw [esR, runK, Bool.and_eq_true, Bool.and_eq_true] at hr
    rw [rdIt] at ha
    obtain ⟨u1, u2⟩ := rdIt_up hl k _ ha
    obtain ⟨h3, h4, h5, h6, h7⟩ := rdStep_facts hl u1
    have ih := enc_seg hl hs h0 hh k (rdStep xs n s) _ _ 0 hr.2 (nr_edge hr.1.1) ha
    have hdf := dif_edge h0 hh hd hr.1.1 hr.1.2
    obtain ⟨d1, d2, d3, d4, d5, d6, d7⟩ := hd
    simp only at d1 d2 d3 d4 d5 d6 d7
    have g1 := nxV_gv (xs := xs) (a := s.a) (n := n) (by omega)
    have g2 := nxV_gv (xs := xs) (a := nxV xs s.a n) (n := n) (by omega)
    have g3 := nxV_gv (xs := xs) (a := nxV xs (nxV xs s.a n) n) (n := n) (by omega)
    have g4 := nxV_gv (xs := xs) (a := nxV xs (nxV xs (nxV xs s.a n) n) n) (n := n) (by have := u1; unfold rdStep at this; exact this)
    have b1 := gvN_bounds xs s.a n
    have b2 := vZ_bounds xs (nxV xs s.a n) n
    have b4 := vZ_bounds xs (nxV xs (nxV xs (nxV xs s.a n) n) n) n
    have e1 : (rdStep xs n s).e.f - s.f = gvN xs s.a n := by
      show IntKind.i64.wrap (s.f + gvN xs s.a n) - s.f = _
      rw [wrap_in _ (by omega) (by omega)]; omega
    have e2 : (rdStep xs n s).e.t - s.t = vZ xs (nxV xs s.a n) n := by
      show IntKind.i64.wrap (s.t + _) - s.t = _
      rw [wrap_in _ (by omega) (by omega)]; omega
    have e4 : (rdStep xs n s).e.i - s.i = vZ xs (nxV xs (nxV xs (nxV xs s.a n) n) n) n := by
      show IntKind.i64.wrap (s.i + _) - s.i = _
      rw [wrap_in _ (by omega) (by omega)]; omega
    have e3 : (rdStep xs n s).e.w = gvN xs (nxV xs (nxV xs s.a n) n) n := rfl
    have hE : encE ⟨s.f, s.t, s.w, s.i, v⟩ (rdStep xs n s).e = seg xs s.a (rdStep xs n s).a := by
      unfold encE
      show putVar [] ((rdStep xs n s).e.f - s.f) ++ (putZig [] ((rdStep xs n s).e.t - s.t) ++ (putVar [] (rdStep xs n s).e.w ++ putZig [] ((rdStep xs n s).e.i - s.i))) = _
      rw [e1, e2, e3, e4, gvN_seg hs g1, vZ_seg hs g2, gvN_seg hs g3, vZ_seg hs g4, ← nxV_yes g1, ← nxV_yes g2, ← nxV_yes g3, ← nxV_yes g4]
      have hz : nxV xs (nxV xs (nxV xs (nxV xs s.a n) n) n) n = (rdStep xs n s).a := rfl
      rw [hz, seg_append xs (by omega) (by omega) (by omega), seg_append xs (by omega) (by omega) (by omega), seg_append xs (by omega) (by omega) (by omega)]
    have ih2 : encEs (rdStep xs n s).e (esR xs n k (rdStep xs n s)) = seg xs (rdStep xs n s).a (rdIt xs n k (rdStep xs n s)).a := ih
    rw [esR, encEs, hE, ih2, rdIt, seg_append xs h3 (by omega) (by omega)]
/-- A shard as it is read: Lo, Hi, how many edges, and where the edges begin. -/
structure RH where
  lo : Int
  hi : Int
  m : Int
  s : RS
def rdHead (xs : List Nat) (a : Int) (n : Nat) : RH :=
  ⟨gvN xs a n, gvN xs (nxV xs a n) n, gvN xs (nxV xs (nxV xs a n) n) n, ⟨nxV xs (nxV xs (nxV xs a n) n) n, 0, gvN xs a n, 0, 0⟩⟩
def RH.es (h : RH) (xs : List Nat) (n : Nat) : List KE := esR xs n h.m.toNat h.s
def RH.z (h : RH) (xs : List Nat) (n : Nat) : Int := (rdIt xs n h.m.toNat h.s).a
def RH.ok (h : RH) (xs : List Nat) (n : Nat) : Bool := decide (h.m ≤ 400 ∧ 0 ≤ h.z xs n) && shardB h.lo h.hi (h.es xs n)
theorem shard_seg {xs : List Nat} {n : Nat} {a : Int} (hl : xs.length = n) (hs : ∀ x ∈ xs, x < 256) (hz : 0 ≤ (rdHead xs a n).z xs n) (hb : shardB (rdHead xs a n).lo (rdHead xs a n).hi ((rdHead xs a n).es xs n) = true) :
    shardY (rdHead xs a n).lo (rdHead xs a n).hi ((rdHead xs a n).es xs n) = seg xs a ((rdHead xs a n).z xs n) := by
  obtain ⟨h0, h1, h2, h3, hr⟩ := shardB_iff hb
  obtain ⟨u1, u2⟩ := rdIt_up hl _ _ hz
  have u3 : 0 ≤ nxV xs (nxV xs (nxV xs a n) n) n := u1
  obtain ⟨v1, v2, _⟩ := nxV_facts hl u3
  obtain ⟨v3, v4, _⟩ := nxV_facts hl v1
  obtain ⟨v5, v6, _⟩ := nxV_facts hl v3
  have g1 := nxV_gv (xs := xs) (a := a) (n := n) (by omega)
  have g2 := nxV_gv (xs := xs) (a := nxV xs a n) (n := n) (by omega)
  have g3 := nxV_gv u3
  have hE := enc_seg hl hs h0 h2 (rdHead xs a n).m.toNat (rdHead xs a n).s (-1) 0 0 hr (nr_first h1) hz
  have hm := gvN_bounds xs (nxV xs (nxV xs a n) n) n
  have hm2 : (((rdHead xs a n).es xs n).length : Int) = gvN xs (nxV xs (nxV xs a n) n) n := by
    unfold RH.es
    rw [esR_len]
    show ((gvN xs (nxV xs (nxV xs a n) n) n).toNat : Int) = _
    omega
  have hH : headY (rdHead xs a n).lo (rdHead xs a n).hi ((rdHead xs a n).es xs n).length = seg xs a (rdHead xs a n).s.a := by
    unfold headY
    rw [hm2]
    show putVar [] (gvN xs a n) ++ (putVar [] (gvN xs (nxV xs a n) n) ++ putVar [] (gvN xs (nxV xs (nxV xs a n) n) n)) = seg xs a (nxV xs (nxV xs (nxV xs a n) n) n)
    rw [gvN_seg hs g1, gvN_seg hs g2, gvN_seg hs g3, ← nxV_yes g1, ← nxV_yes g2, ← nxV_yes g3, seg_append xs (by omega) (by omega) (by omega), seg_append xs (by omega) (by omega) (by omega)]
  have hE2 : encEs ⟨0, (rdHead xs a n).lo, 0, 0, 0⟩ ((rdHead xs a n).es xs n) = seg xs (rdHead xs a n).s.a ((rdHead xs a n).z xs n) := hE
  have u4 : (rdHead xs a n).s.a ≤ (rdHead xs a n).z xs n := u2
  have u5 : (rdHead xs a n).s.a = nxV xs (nxV xs (nxV xs a n) n) n := rfl
  rw [shardY, hb, if_pos rfl, hH, hE2, seg_append xs (by omega) (by omega) u4]

/-! ### values -/
def valAt (vals : List Int) (i : Int) : Int := if 0 ≤ i then (vals[i.toNat]?).getD (-1) else -1
def KE.put (vals : List Int) (e : KE) : KE := ⟨e.f, e.t, e.w, e.i, valAt vals e.i⟩
def valsK (lo hi : Int) (es : List KE) (vals : List Int) : Bool := shardB lo hi es && es.all (fun e => numOk (valAt vals e.i))
end Go.Proofs.Ytpgnappddddlpaa
namespace Go.Proofs.Ytpgnappddddlpaa
open Go.RowKit

/-- A shard and whether there is one. -/
def MadeShB (w : World) (lo hi : Int) (es : List KE) (ok : Bool) (e : Ending) (w' : World) : Prop :=
  ∃ A c, e = .returned (.tuple #[.agg #[.int .i64 lo, .int .i64 hi, .slice A es.length c], .bool ok]) ∧ w'.ownsRow w.heap.size 40 5 (.slice A es.length c) es.length (es.flatMap KE.cells) ∧ Below w.heap.size w w'
/-- A shard, the offset behind it and whether there is one. -/
def MadeShP (w : World) (lo hi : Int) (es : List KE) (p : Int) (ok : Bool) (e : Ending) (w' : World) : Prop :=
  ∃ A c, e = .returned (.tuple #[.agg #[.int .i64 lo, .int .i64 hi, .slice A es.length c], .int .i64 p, .bool ok]) ∧ w'.ownsRow w.heap.size 40 5 (.slice A es.length c) es.length (es.flatMap KE.cells) ∧ Below w.heap.size w w'
/-- A list of numbers, the offset behind it and whether there is one. -/
def MadeNP (w : World) (xs : List Int) (p : Int) (ok : Bool) (e : Ending) (w' : World) : Prop :=
  ∃ A c, e = .returned (.tuple #[.slice A xs.length c, .int .i64 p, .bool ok]) ∧ OwI w' w.heap.size A xs.length c xs ∧ Below w.heap.size w w'
theorem MadeShB.no (w w' : World) (h : Below w.heap.size w w') : MadeShB w 0 0 [] false (.returned (.tuple #[.agg #[.int .i64 0, .int .i64 0, .slice none 0 0], .bool false])) w' := ⟨none, 0, rfl, World.ownsRow_nil _ _ _ _, h⟩
theorem MadeShP.no (w w' : World) (h : Below w.heap.size w w') : MadeShP w 0 0 [] 0 false (.returned (.tuple #[.agg #[.int .i64 0, .int .i64 0, .slice none 0 0], .int .i64 0, .bool false])) w' := ⟨none, 0, rfl, World.ownsRow_nil _ _ _ _, h⟩
theorem MadeNP.no (w w' : World) (h : Below w.heap.size w w') : MadeNP w [] 0 false (.returned (.tuple #[.slice none 0 0, .int .i64 0, .bool false])) w' := ⟨none, 0, rfl, World.ownsRow_nil _ _ _ _, h⟩
theorem PutRes.nope (w w' : World) (h : Below w.heap.size w w') : PutRes w false [] (.returned (.tuple #[.slice none 0 0, .bool false])) w' := ⟨none, 0, rfl, World.ownsRow_nil _ _ _ _, h⟩
end Go.Proofs.Ytpgnappddddlpaa
namespace Go.Proofs.Ytpgnappddddlpaa
open Go.RowKit

theorem ke_blk {w : World} {b : Nat} {e : KE} {t : TypeId} (h : Blk w b #[.int .i64 e.f, .int .i64 e.t, .int .i64 e.w, .int .i64 e.i, .int .i64 e.v] t) :
    w.cell? ⟨b, 0, none⟩ = some (.int .i64 e.f) ∧ w.cell? ⟨b, 1, none⟩ = some (.int .i64 e.t) ∧ w.cell? ⟨b, 2, none⟩ = some (.int .i64 e.w) ∧ w.cell? ⟨b, 3, none⟩ = some (.int .i64 e.i) ∧ w.cell? ⟨b, 4, none⟩ = some (.int .i64 e.v) :=
  ⟨h.cell (i := 0) rfl, h.cell (i := 1) rfl, h.cell (i := 2) rfl, h.cell (i := 3) rfl, h.cell (i := 4) rfl⟩
def KBlk (w : World) (b : Nat) (e : KE) : Prop := Blk w b #[.int .i64 e.f, .int .i64 e.t, .int .i64 e.w, .int .i64 e.i, .int .i64 e.v] 40
/-- Five cells written one behind the other. -/
theorem KBlk.lay {w : World} {b : Nat} {d : KE} (h : KBlk w b d) (e : KE) : KBlk (lay5 w b 0 e) b e :=
  ((((Blk.set h 0 (.int .i64 e.f)).set 1 (.int .i64 e.t)).set 2 (.int .i64 e.w)).set 3 (.int .i64 e.i)).set 4 (.int .i64 e.v)
theorem below_lay5 {w w' : World} {B b : Nat} (h : Below B w w') (hb : B ≤ b) (e : KE) : Below B w (lay5 w' b 0 e) :=
  ((((h.setCell (p := ⟨b, 0, none⟩) hb _).setCell (p := ⟨b, 1, none⟩) hb _).setCell (p := ⟨b, 2, none⟩) hb _).setCell (p := ⟨b, 3, none⟩) hb _).setCell (p := ⟨b, 4, none⟩) hb _
theorem Blk.lay5o {w : World} {b g : Nat} {cs : Array Value} {t : TypeId} (h : Blk w b cs t) (hne : b ≠ g) (e : KE) : Blk (lay5 w g 0 e) b cs t :=
  ((((h.other (p := ⟨g, 0, none⟩) hne _).other (p := ⟨g, 1, none⟩) hne _).other (p := ⟨g, 2, none⟩) hne _).other (p := ⟨g, 3, none⟩) hne _).other (p := ⟨g, 4, none⟩) hne _
/-- The differences have encodings. -/
theorem dif_ok {d e : KE} (h : Dif d e) : numOk (e.f - d.f) = true ∧ zigOk (e.t - d.t) = true ∧ numOk e.w = true ∧ zigOk (e.i - d.i) = true := by
  obtain ⟨h1, h2, h3, h4, h5, h6, h7, h8⟩ := h
  refine ⟨?_, ?_, ?_, ?_⟩
  · simp only [numOk, decide_eq_true_eq]; omega
  · simp only [zigOk, decide_eq_true_eq]; omega
  · simp only [numOk, decide_eq_true_eq]; omega
  · simp only [zigOk, decide_eq_true_eq]; omega
/-- The bytes so far, and those of one edge more. -/
def encTo (lo hi : Int) (es : List KE) (j : Nat) : List Nat := headY lo hi es.length ++ encEs ⟨0, lo, 0, 0, 0⟩ (es.take j)
theorem encTo_step (lo hi : Int) (es : List KE) (j : Nat) (e : KE) (h : es[j]? = some e) : encTo lo hi es (j + 1) = encTo lo hi es j ++ encE (lastK ⟨0, lo, 0, 0, 0⟩ (es.take j)) e := by
  unfold encTo
  rw [g_take es j e h, encEs_snoc, List.append_assoc]
theorem encTo_small (lo hi : Int) (es : List KE) (j : Nat) : ∀ x ∈ encTo lo hi es j, x < 256 := fun x hx => by
  rcases List.mem_append.1 hx with hx | hx
  · exact headY_small _ _ _ x hx
  · exact encEs_small _ _ x hx
theorem encTo_len (lo hi : Int) (es : List KE) (j : Nat) (h : es.length ≤ 400) : (encTo lo hi es j).length ≤ 11221 := by
  have h1 := headY_len lo hi es.length
  have h2 := encEs_len (es.take j) ⟨0, lo, 0, 0, 0⟩
  rw [List.length_take] at h2
  unfold encTo
  rw [List.length_append]
  omega
theorem own_apart {w : World} {lo e size n b i : Nat} {v u : Value} {xs : List Value} (h : w.ownsRow lo e size v n xs) (hne : v.ownBlock ≠ some b) : (w.setCell ⟨b, i, none⟩ u).ownsRow lo e size v n xs := by
  refine ⟨h.1, ?_⟩
  rcases h.2 with hn | ⟨g, cap, cur, rfl, hl, hgg, rest⟩
  · exact .inl hn
  · refine .inr ⟨g, cap, cur, rfl, hl, ?_, rest⟩
    rw [Below.heap_setCell w ⟨b, i, none⟩ u g (fun e => hne (by rw [e]; rfl))]
    exact hgg
theorem own_lay5 {w : World} {lo e size n b : Nat} {v : Value} {xs : List Value} (h : w.ownsRow lo e size v n xs) (hne : v.ownBlock ≠ some b) (k : KE) : (lay5 w b 0 k).ownsRow lo e size v n xs :=
  own_apart (own_apart (own_apart (own_apart (own_apart h hne) hne) hne) hne) hne
theorem own_type {w : World} {lo e size n b : Nat} {v : Value} {xs : List Value} {cs : Array Value} {t : TypeId} (h : w.ownsRow lo e size v n xs) (hb : Blk w b cs t) (ht : t ≠ e) : v.ownBlock ≠ some b := by
  rcases h.2 with ⟨rfl, _⟩ | ⟨g, cap, cur2, rfl, _, hcell, _⟩
  · simp [Value.ownBlock]
  · intro h
    have h' : some g = some b := h
    injection h' with h'
    subst h'
    have hb2 : w.heap[g]? = some (.cells cs t (0, 0)) := hb
    rw [hb2] at hcell
    injection hcell with hcell
    injection hcell with _ h2
    exact ht h2
theorem KBlk.new (w : World) (e : KE) : KBlk (w.alloc (.cells #[.int .i64 e.f, .int .i64 e.t, .int .i64 e.w, .int .i64 e.i, .int .i64 e.v] 40)) w.heap.size e := Blk.new _ _ _
theorem KBlk.below {w w' : World} {b : Nat} {e : KE} (h : KBlk w b e) (hb : Below w.heap.size w w') : KBlk w' b e := Blk.below h hb
theorem KBlk.cells {w : World} {b : Nat} {e : KE} (h : KBlk w b e) : w.cell? ⟨b, 0, none⟩ = some (.int .i64 e.f) ∧ w.cell? ⟨b, 1, none⟩ = some (.int .i64 e.t) ∧ w.cell? ⟨b, 2, none⟩ = some (.int .i64 e.w) ∧ w.cell? ⟨b, 3, none⟩ = some (.int .i64 e.i) ∧ w.cell? ⟨b, 4, none⟩ = some (.int .i64 e.v) := ke_blk h
theorem HBox.lay5 {w : World} {b g n c : Nat} {lo hi : Int} {A : Option Addr} (h : HBox w b lo hi A n c) (hne : b ≠ g) (e : KE) : HBox (lay5 w g 0 e) b lo hi A n c := by
  unfold Go.Proofs.Ytpgnappddddlpaa.lay5
  refine h.keep (by simp) ?_
  rw [Below.heap_setCell _ ⟨g, 0 + 4, none⟩ _ b hne, Below.heap_setCell _ ⟨g, 0 + 3, none⟩ _ b hne, Below.heap_setCell _ ⟨g, 0 + 2, none⟩ _ b hne, Below.heap_setCell _ ⟨g, 0 + 1, none⟩ _ b hne, Below.heap_setCell _ ⟨g, 0, none⟩ _ b hne]
end Go.Proofs.Ytpgnappddddlpaa
namespace Go.Proofs.Ytpgnappddddlpaa
open Go.RowKit

def valsLo (lo hi : Int) (es : List KE) (l : List Int) : Int := if valsK lo hi es l then lo else 0
def valsHi (lo hi : Int) (es : List KE) (l : List Int) : Int := if valsK lo hi es l then hi else 0
def valsR (lo hi : Int) (es : List KE) (l : List Int) : List KE := if valsK lo hi es l then es.map (KE.put l) else []
theorem valsR_len (lo hi : Int) (es : List KE) (l : List Int) : (valsR lo hi es l).length ≤ 400 := by
  unfold valsR
  split
  · rename_i h
    unfold valsK at h
    rw [Bool.and_eq_true] at h
    rw [List.length_map]
    exact (shardB_iff h.1).2.2.2.1
  · simp
theorem valsK_no {lo hi : Int} {es : List KE} {l : List Int} (h : valsK lo hi es l = false) : valsLo lo hi es l = 0 ∧ valsHi lo hi es l = 0 ∧ valsR lo hi es l = [] := by simp [valsLo, valsHi, valsR, h]
theorem valsK_yes {lo hi : Int} {es : List KE} {l : List Int} (h : valsK lo hi es l = true) : valsLo lo hi es l = lo ∧ valsHi lo hi es l = hi ∧ valsR lo hi es l = es.map (KE.put l) := by simp [valsLo, valsHi, valsR, h]
theorem vals_bad {lo hi : Int} {es : List KE} {l : List Int} {k : Nat} {e : KE} (h : es[k]? = some e) (hx : numOk (valAt l e.i) = false) : valsK lo hi es l = false := by
  unfold valsK
  rw [Bool.and_eq_false_iff]
  refine .inr ?_
  rw [List.all_eq_false]
  exact ⟨e, List.mem_of_getElem? h, by simp [hx]⟩
theorem vals_all {lo hi : Int} {es : List KE} {l : List Int} (h : shardB lo hi es = true) (hx : es.all (fun e => numOk (valAt l e.i)) = true) : valsK lo hi es l = true := by
  unfold valsK
  rw [h, hx]
  rfl
theorem valsK_step (l : List Int) (es : List KE) (k : Nat) (e : KE) (h : es[k]? = some e) : (es.take (k + 1)).all (fun e => numOk (valAt l e.i)) = ((es.take k).all (fun e => numOk (valAt l e.i)) && numOk (valAt l e.i)) := by
  rw [g_take es k e h]
  simp
theorem map_step (l : List Int) (es : List KE) (k : Nat) (e : KE) (h : es[k]? = some e) : (es.take (k + 1)).map (KE.put l) = (es.take k).map (KE.put l) ++ [e.put l] := by
  rw [g_take es k e h]
  simp
theorem valAt_in {l : List Int} {k : Nat} {x : Int} (h : l[k]? = some x) : valAt l (k : Int) = x := by
  unfold valAt
  rw [if_pos (by omega), Int.toNat_natCast, h]
  rfl
theorem valAt_out {l : List Int} {i : Int} (h : (l.length : Int) ≤ i) : numOk (valAt l i) = false := by
  unfold valAt
  rw [if_pos (by omega), List.getElem?_eq_none (by omega)]
  rfl
theorem ke_flat (l : List KE) (e : KE) : (l ++ [e]).flatMap KE.cells = l.flatMap KE.cells ++ [.int .i64 e.f, .int .i64 e.t, .int .i64 e.w, .int .i64 e.i, .int .i64 e.v] := by
  rw [List.flatMap_append]
  simp [KE.cells]
theorem five_reads (w : World) (e : KE) (t : TypeId) (g : Nat) (hg : g = w.heap.size) : Reads (w.alloc (.cells #[.int .i64 e.f, .int .i64 e.t, .int .i64 e.w, .int .i64 e.i, .int .i64 e.v] t)) (g + 1) 5 (some ⟨g, 0, none⟩) 1 [.int .i64 e.f, .int .i64 e.t, .int .i64 e.w, .int .i64 e.i, .int .i64 e.v] := by
  subst hg
  refine ⟨rfl, fun _ => ⟨_, rfl, by simp, fun j v hj => ?_⟩⟩
  match j, hj with
  | 0, hj => simp at hj; subst hj; simp [Addr.add]
  | 1, hj => simp at hj; subst hj; simp [Addr.add]
  | 2, hj => simp at hj; subst hj; simp [Addr.add]
  | 3, hj => simp at hj; subst hj; simp [Addr.add]
  | 4, hj => simp at hj; subst hj; simp [Addr.add]
theorem five_cells (e : KE) : ∀ u ∈ [Value.int .i64 e.f, .int .i64 e.t, .int .i64 e.w, .int .i64 e.i, .int .i64 e.v], u.oneCell' = true := e.cells_one
/-- A block that is a shard. -/
def SBlk (w : World) (b : Nat) (lo hi : Int) (A : Option Addr) (n c : Nat) : Prop := Blk w b #[.int .i64 lo, .int .i64 hi, .slice A n c] 85
theorem SBlk.new (w : World) (lo hi : Int) (A : Option Addr) (n c : Nat) : SBlk (w.alloc (.cells #[.int .i64 lo, .int .i64 hi, .slice A n c] 85)) w.heap.size lo hi A n c := Blk.new _ _ _
theorem SBlk.below {w w' : World} {b n c : Nat} {lo hi : Int} {A : Option Addr} (h : SBlk w b lo hi A n c) (hb : Below w.heap.size w w') : SBlk w' b lo hi A n c := Blk.below h hb
theorem SBlk.cells {w : World} {b n c : Nat} {lo hi : Int} {A : Option Addr} (h : SBlk w b lo hi A n c) : w.cell? ⟨b, 0, none⟩ = some (.int .i64 lo) ∧ w.cell? ⟨b, 1, none⟩ = some (.int .i64 hi) ∧ w.cell? ⟨b, 2, none⟩ = some (.slice A n c) :=
  ⟨Blk.cell h (i := 0) rfl, Blk.cell h (i := 1) rfl, Blk.cell h (i := 2) rfl⟩
theorem SBlk.edges {w : World} {b n c n' c' : Nat} {lo hi : Int} {A A' : Option Addr} (h : SBlk w b lo hi A n c) : SBlk (w.setCell ⟨b, 2, none⟩ (.slice A' n' c')) b lo hi A' n' c' := Blk.set h 2 _
theorem SBlk.hbox {w : World} {b n c : Nat} {lo hi : Int} {A : Option Addr} (h : SBlk w b lo hi A n c) : HBox w b lo hi A n c := ⟨Blk.lt h, h.cells.1, h.cells.2.1, h.cells.2.2⟩
theorem pk_form {w : World} {base e size n : Nat} {v : Value} {xs : List Value} (h : w.ownsRow base e size v n xs) : ∃ A c, v = .slice A n c := by
  rcases h.2 with ⟨rfl, rfl⟩ | ⟨g, cap, _, rfl, _⟩
  · exact ⟨_, _, rfl⟩
  · exact ⟨_, _, rfl⟩
end Go.Proofs.Ytpgnappddddlpaa
