/- Bits of int (64 bits) at numbers that are not negative: 'or' and 'xor' are those of the natural numbers; an 'or' onto free low bits is a sum. // What a writer of numbers leaves; the digits of numbers of variable length; words for an append of one byte. // The contracts of the draws behind the laws: a cursor over the bytes of a draw; the next byte, a number below a bound, some bytes. They say that what is drawn lies in its range, and that nothing but the cursor is written. // Parted from YtmbabbapcjphgaaDoorDrawG: a row of the call's own stays while an older block is written (a plain lemma over the model; no condition). // The contract of the model's function that draws one number for a law. Condition: at most 2^20 bytes. // Words for slices of strings: 'RdS w A n ss': the slice at A of length n reads in w as the strings ss. The contracts of the law's helper that makes a mark as a text, and of the ones that compare, mark and look for marks in slices of strings. Condition: at most 2^21 strings. // Plain mathematics of parting a text at blanks: the library's split at one blank gives the same parts as going through the text byte by byte. // The contracts of the two functions that part a text at blanks: a new slice of the parts. Condition: at most 2^20 bytes; for the program's one: the library's word length is an int in memory. // Plain mathematics of decimal numerals: the value of digits, and that Atoi reads a numeral back. // Plain mathematics of reading a graph's text: its lines, the numbers of a line, and what is read, as data (no condition). // The contract of the model's function that reads the numbers of a line. Condition: at most 2^20 bytes. // A block of two writable cells, what grows while one block is written, a new record that reads (plain lemmas over the model; no condition). // Words for reading a graph's text: a block of two writable cells, what grows while one block is written, slices of strings cut short (no condition). -/
import Derived.Laws.BitsAllLaws
import Derived.Laws.BitsLemmas
import Derived.WalkKit
import Derived.Test.YtmbabbapcjphgaaDoorCA1
import Derived.Deep.RegionWith
import Derived.Lib.SplitLaws
import Derived.Lib.IndexBytes
import Derived.Lib.IndexLaws
import Derived.Test.YtmbabbapcjphgaaDoorShelfSplit
import Derived.Lib.ItoaNum
import Derived.Lib.AtoiAllCases
namespace Go.Proofs.YtmbabbapcjphgaaDoor
open Go.RowKit

theorem toNat_ofInt64 (a : Nat) (ha : a < 9223372036854775808) : (BitVec.ofInt 64 (a : Int)).toNat = a := by
  rw [BitVec.ofInt_natCast, BitVec.toNat_ofNat]; exact Nat.mod_eq_of_lt (by omega)
theorem or64 (a b : Nat) (ha : a < 9223372036854775808) (hb : b < 9223372036854775808) : bits .or .i64 (a : Int) (b : Int) = ((a ||| b : Nat) : Int) := by
  have hx : a ||| b < 2 ^ 63 := Nat.or_lt_two_pow (by omega) (by omega)
  show IntKind.i64.wrap ((BitVec.ofInt 64 (a : Int) ||| BitVec.ofInt 64 (b : Int)).toNat : Int) = _
  rw [BitVec.toNat_or, toNat_ofInt64 a ha, toNat_ofInt64 b hb, IntKind.wrap_i64]
  omega
theorem xor64 (a b : Nat) (ha : a < 9223372036854775808) (hb : b < 9223372036854775808) : bits .xor .i64 (a : Int) (b : Int) = ((a ^^^ b : Nat) : Int) := by
  have hx : a ^^^ b < 2 ^ 63 := Nat.xor_lt_two_pow (by omega) (by omega)
  show IntKind.i64.wrap ((BitVec.ofInt 64 (a : Int) ^^^ BitVec.ofInt 64 (b : Int)).toNat : Int) = _
  rw [BitVec.toNat_xor, toNat_ofInt64 a ha, toNat_ofInt64 b hb, IntKind.wrap_i64]
  omega
theorem or_mul_pow (m x i : Nat) (hx : x < 2 ^ i) : (m * 2 ^ i) ||| x = m * 2 ^ i + x := by
  rw [Nat.mul_comm, ← Nat.two_pow_add_eq_or_of_lt hx]
theorem or256 (m x : Nat) (hm : m < 1099511627776) (hx : x < 256) : bits .or .i64 ((m : Int) * 256) (x : Int) = (m : Int) * 256 + x := by
  have h3 : (m : Int) * 256 = (((m * 256 : Nat)) : Int) := by omega
  have h4 : (m : Int) * 256 + x = (((m * 256 + x : Nat)) : Int) := by omega
  rw [h4, h3, or64 (m * 256) x (by omega) (by omega)]
  exact congrArg _ (or_mul_pow m x 8 (by omega))
theorem or128_all : ∀ x : Fin 256, bits .or .u8 (x.val : Int) 128 = ((x.val % 128 + 128 : Nat) : Int) := by decide +kernel
theorem or128 (r : Nat) : bits .or .u8 ((r : Int) % 256) 128 = ((r % 128 + 128 : Nat) : Int) := by
  have h := or128_all ⟨r % 256, by omega⟩
  have e1 : (r : Int) % 256 = ((r % 256 : Nat) : Int) := by omega
  have e2 : r % 256 % 128 = r % 128 := by omega
  rw [e1, ← e2]
  exact h
end Go.Proofs.YtmbabbapcjphgaaDoor
namespace Go.Proofs.YtmbabbapcjphgaaDoor
open Go.RowKit

def numOk (n : Int) : Bool := decide (0 ≤ n ∧ n ≤ 281474976710655)

/-- What a writer leaves: a new slice of the bytes ys, and whether there was something to write. -/
def PutRes (w : World) (ok : Bool) (ys : List Nat) (e : Ending) (w' : World) : Prop :=
  ∃ A c, e = .returned (.tuple #[.slice A ys.length c, .bool ok]) ∧ w'.ownsRow w.heap.size 5 1 (.slice A ys.length c) ys.length (vb ys) ∧ Below w.heap.size w w'

theorem PutRes.no (w : World) : PutRes w false [] (.returned (.tuple #[.slice none 0 0, .bool false])) w :=
  ⟨none, 0, rfl, World.ownsRow_nil _ _ _ _, Below.refl _ _⟩

/-- The digits of a number, the lowest first; all but the last with 128 on top. -/
def digits : Nat → Nat → List Nat
  | 0, n => [n]
  | f + 1, n => if n < 128 then [n] else (n % 128 + 128) :: digits f (n / 128)

/-- The digits that are written when n is left, of a number below 128^(f+1). -/
theorem digits_small (f n : Nat) (h : n < 128) : digits f n = [n] := by cases f <;> simp [digits, h]

theorem digits_big (f n : Nat) (h : 128 ≤ n) : digits (f + 1) n = (n % 128 + 128) :: digits f (n / 128) := by simp [digits]; omega

theorem digits_length (f n : Nat) : (digits f n).length ≤ f + 1 := by
  induction f generalizing n with
  | zero => simp [digits]
  | succ f ih =>
    by_cases h : n < 128
    · simp [digits, h]
    · have := ih (n / 128)
      simp [digits, h]
      omega

theorem digits_bytes (f n : Nat) (h : n < 128 ^ (f + 1)) : ∀ x ∈ digits f n, x < 256 := by
  induction f generalizing n with
  | zero => intro x hx; simp [digits] at hx; omega
  | succ f ih =>
    intro x hx
    by_cases hn : n < 128
    · rw [digits_small _ _ hn] at hx; simp at hx; omega
    · rw [digits_big _ _ (by omega)] at hx
      rcases List.mem_cons.1 hx with rfl | hx
      · omega
      · refine ih (n / 128) ?_ x hx
        rw [Nat.pow_succ] at h
        omega

def putVar (xs : List Nat) (n : Int) : List Nat := if numOk n then xs ++ digits 6 n.toNat else []

/-- '[]byte{}' owns nothing. -/
theorem built_none (w : World) : (w.alloc (.cells #[] 5)).ownsRow w.heap.size 5 1 (.slice (some ⟨w.heap.size, 0, none⟩) 0 0) 0 [] :=
  World.ownsRow_lit w #[] 0 (Nat.le_refl _) (by unfold maxLen; omega) rfl

theorem own_form {w : World} {base e n : Nat} {v : Value} {xs : List Value} (h : w.ownsRow base e 1 v n xs) : ∃ A c, v = .slice A n c := by
  rcases h.2 with ⟨rfl, rfl⟩ | ⟨g, cap, _, rfl, _⟩
  · exact ⟨_, _, rfl⟩
  · exact ⟨_, _, rfl⟩

theorem below_built {w w1 : World} {o : Obj} {k c : Nat} (hg : (w.alloc o).grownBy w1 (Value.slice (some ⟨w.heap.size, 0, none⟩) k c).ownBlock) : Below w.heap.size w w1 :=
  ((Below.refl _ _).alloc (Nat.le_refl _) o).grown hg (by simp) (by simp [Value.ownBlock])

theorem one_reads (w : World) (u : Value) : Reads (w.alloc (.cells #[u] 5)) (w.heap.size + 1) 1 (some ⟨w.heap.size, 0, none⟩) 1 [u] := by
  refine ⟨rfl, fun _ => ⟨_, rfl, by simp, fun j v hj => ?_⟩⟩
  match j, hj with
  | 0, hj => simp at hj; subst hj; simp [Addr.add]

theorem one_cell (x : Int) : ∀ u ∈ [Value.int .u8 x], u.oneCell' = true := by intro u hu; simp at hu; subst hu; rfl

/-- One byte more. -/
theorem own_snoc {w : World} {base n : Nat} {v : Value} {ys : List Nat} {x : Int} {y : Nat} (h : w.ownsRow base 5 1 v (n + 1) (vb ys ++ [.int .u8 x])) (hn : ys.length = n) (hx : x = (y : Int)) :
    w.ownsRow base 5 1 v (ys ++ [y]).length (vb (ys ++ [y])) := by
  subst hx
  rw [vb_append, List.length_append, hn]
  exact h

theorem below_app {w wr w2 : World} {e n : Nat} {v : Value} {xs : List Value} {o : Obj} (hbel : Below w.heap.size w wr) (hown : wr.ownsRow w.heap.size e 1 v n xs) (hg : (wr.alloc o).grownBy w2 v.ownBlock) : Below w.heap.size w w2 :=
  (hbel.alloc hbel.size o).grown hg (by have := hbel.size; simp; omega) (fun k hk => (hown.lt k hk).1)

/-- What is written so far (ys) and what is left (r) make the whole. -/
structure Left (whole ys : List Nat) (f r : Nat) : Prop where
  eq : ys ++ digits f r = whole
  lt : r < 128 ^ (f + 1)

theorem Left.step {whole ys : List Nat} {f r : Nat} (h : Left whole ys f r) (hr : 128 ≤ r) : ∃ g, f = g + 1 ∧ Left whole (ys ++ [r % 128 + 128]) g (r / 128) := by
  cases f with
  | zero => have := h.lt; simp at this; omega
  | succ g =>
    refine ⟨g, rfl, ?_, ?_⟩
    · rw [← h.eq, digits_big _ _ hr]; simp
    · have := h.lt; rw [Nat.pow_succ] at this; omega

theorem Left.done {whole ys : List Nat} {f r : Nat} (h : Left whole ys f r) (hr : r < 128) : ys ++ [r] = whole := by rw [← h.eq, digits_small _ _ hr]

theorem putVar_small (xs : List Nat) (a : Int) (h : ∀ x ∈ xs, x < 256) : ∀ x ∈ putVar xs a, x < 256 := by
  intro x hx
  unfold putVar at hx
  split at hx
  · rename_i hok
    rcases List.mem_append.1 hx with hx | hx
    · exact h x hx
    · refine digits_bytes 6 _ ?_ x hx
      simp only [numOk, decide_eq_true_eq] at hok
      omega
  · simp at hx

theorem putVar_length (xs : List Nat) (a : Int) : (putVar xs a).length ≤ xs.length + 7 := by
  unfold putVar
  split
  · have := digits_length 6 a.toNat
    simp
    omega
  · simp
end Go.Proofs.YtmbabbapcjphgaaDoor
namespace Go.Proofs.YtmbabbapcjphgaaDoor
open Go.RowKit

/-- The low byte of an int. -/
def lowByte (z : Int) : Nat := (bits .and .i64 z 255).toNat
theorem low_eq (z : Int) : bits .and .i64 z 255 = ((lowByte z : Nat) : Int) := by
  have h : 0 ≤ bits .and .i64 z 255 := by
    show 0 ≤ IntKind.i64.wrap ((BitVec.ofInt 64 z &&& BitVec.ofInt 64 255).toNat : Int)
    have : (BitVec.ofInt 64 z &&& BitVec.ofInt 64 255).toNat < 256 := by
      rw [BitVec.toNat_and]
      exact Nat.lt_of_le_of_lt Nat.and_le_right (by decide)
    rw [IntKind.wrap_i64]
    omega
  unfold lowByte
  omega
theorem low_lt (z : Int) : lowByte z < 256 := by
  have : (BitVec.ofInt 64 z &&& BitVec.ofInt 64 255).toNat < 256 := by
    rw [BitVec.toNat_and]
    exact Nat.lt_of_le_of_lt Nat.and_le_right (by decide)
  have h : bits .and .i64 z 255 = IntKind.i64.wrap ((BitVec.ofInt 64 z &&& BitVec.ofInt 64 255).toNat : Int) := rfl
  unfold lowByte
  rw [h, IntKind.wrap_i64]
  omega

/-- A cursor lies in block g, over the bytes xs at A. -/
structure Cur (w : World) (g : Nat) (A : Option Addr) (n c : Nat) (xs : List Nat) : Prop where
  rd : Rd w A n xs
  le : n ≤ 1048576
  ne : 0 < n → ∀ b off sp, A = some ⟨b, off, sp⟩ → b ≠ g
  cells : ∃ (i : Nat) (h : Int), i ≤ n ∧ (-9223372036854775808 ≤ h ∧ h ≤ 9223372036854775807) ∧ w.heap[g]? = some (.cells #[.slice A n c, .int .i64 (i : Int), .int .i64 h] 62 (0, 0))

theorem Rd.other0 {w w' : World} {A : Option Addr} {n : Nat} {xs : List Nat} {row : Option Nat} (h : Rd w A n xs) (hg : w.grownBy w' row) (hr : 0 < n → ∀ b off sp, A = some ⟨b, off, sp⟩ → some b ≠ row) : Rd w' A n xs :=
  ⟨h.len, h.small, fun hn => by
    obtain ⟨b, off, e, hb, hc⟩ := h.lies hn
    have := hg.size
    exact ⟨b, off, e, by omega, fun j u hu => (World.cell?_of_block (hg.block b hb (hr hn _ _ _ e))).trans (hc j u hu)⟩⟩
theorem block_cell {w : World} {g : Nat} {t : TypeId} {cs : Array Value} (h : w.heap[g]? = some (.cells cs t (0, 0))) (i : Nat) : w.cell? ⟨g, i, none⟩ = cs[i]? := cell_of_row w g i cs t (0, 0) h
theorem block_free {w : World} {g : Nat} {t : TypeId} {cs : Array Value} (h : w.heap[g]? = some (.cells cs t (0, 0))) (i : Nat) : w.frozen? ⟨g, i, none⟩ = false := frozen_of_row w g i cs t h
theorem block_set {w : World} {g : Nat} {t : TypeId} {cs : Array Value} (h : w.heap[g]? = some (.cells cs t (0, 0))) (i : Nat) (u : Value) : (w.setCell ⟨g, i, none⟩ u).heap[g]? = some (.cells (cs.setIfInBounds i u) t (0, 0)) := heap_setCell_same w g i cs t u h
theorem grown_setAt {a w : World} {g : Nat} (h : a.grownBy w (some g)) (i : Nat) (u : Value) : a.grownBy (w.setCell ⟨g, i, none⟩ u) (some g) :=
  ⟨h.os, h.tape, h.output, by simpa using h.size, fun k hk hne => (Below.heap_setCell w ⟨g, i, none⟩ u k (fun e => hne (by rw [e]))).trans (h.block k hk hne)⟩

theorem wrap64_range (z : Int) : -9223372036854775808 ≤ wrap64 z ∧ wrap64 z ≤ 9223372036854775807 := by
  unfold wrap64
  omega

def ByteRes (w : World) (g : Nat) (A : Option Addr) (n c : Nat) (xs : List Nat) (e : Ending) (w' : World) : Prop :=
  ∃ x : Nat, x < 256 ∧ e = .returned (.int .i64 (x : Int)) ∧ Cur w' g A n c xs ∧ w.grownBy w' (some g)

set_option maxRecDepth 10000 in
set_option maxHeartbeats 1000000 in
theorem drawByte (g : Nat) (A : Option Addr) (n c : Nat) (xs : List Nat) (w : World) (hcur : Cur w g A n c xs) :
    Calls Tryd.prog 53 #[.pointer (some ⟨g, 0, none⟩)] w (ByteRes w g A n c xs) := by
  obtain ⟨hrd, hn, hne, i, h, hi, ⟨hh1, hh2⟩, hb⟩ := hcur
  have hc2 : w.cell? ⟨g, 2, none⟩ = some (.int .i64 h) := block_cell hb 2
  have hf2 := block_free hb 2
  go_enter Tryd.func53, Tryd.ntmps53
  go_wp2
  have hr1 := wrap64_range (wrap64 (h * 6364136223846793005) + 1442695040888963407)
  generalize wrap64 (wrap64 (h * 6364136223846793005) + 1442695040888963407) = h1 at hr1 ⊢
  generalize wrap64 (h * 6364136223846793005) = h2
  have hb1 : (w.setCell ⟨g, 2, none⟩ (.int .i64 h1)).heap[g]? = some (.cells #[.slice A n c, .int .i64 (i : Int), .int .i64 h1] 62 (0, 0)) := block_set hb 2 _
  have hg1 : w.grownBy (w.setCell ⟨g, 2, none⟩ (.int .i64 h1)) (some g) := grown_setAt (World.grownBy.refl _ _) 2 _
  have hrd1 : Rd (w.setCell ⟨g, 2, none⟩ (.int .i64 h1)) A n xs := hrd.other0 hg1 (fun hn0 b off sp e he => hne hn0 b off sp e (by injection he))
  generalize w.setCell ⟨g, 2, none⟩ (.int .i64 h1) = w1 at hb1 hg1 hrd1 ⊢
  have c0 : w1.cell? ⟨g, 0, none⟩ = some (.slice A n c) := block_cell hb1 0
  have c1 : w1.cell? ⟨g, 1, none⟩ = some (.int .i64 (i : Int)) := block_cell hb1 1
  have c2 : w1.cell? ⟨g, 2, none⟩ = some (.int .i64 h1) := block_cell hb1 2
  have f1 := block_free hb1 1
  have hlow := low_eq
  have HNE := Lib.hid hne
  have HB := Lib.hid hb1
  have HRD := Lib.hid hrd1
  have HG := Lib.hid hg1
  clear hc2 hf2 hb hb1 hrd hrd1 hg1 hne
  go_quiet (fail)
  rename_i nq
  go_wp2
  have hy := low_lt (bits BinOp.xor IntKind.i64 (h1 / 8589934592) (h1 / 35184372088832))
  generalize lowByte (bits BinOp.xor IntKind.i64 (h1 / 8589934592) (h1 / 35184372088832)) = y at hy ⊢
  have HB2 : Hid ((w1.drewN nq).heap[g]? = some (.cells #[.slice A n c, .int .i64 (i : Int), .int .i64 h1] 62 (0, 0))) := HB
  have HRD2 := Lib.hid (HRD.out.drewN nq)
  have HG2 := Lib.hid (grownBy_drewN HG.out nq)
  clear c0 c1 c2 f1 HB HRD HG
  generalize w1.drewN nq = w2 at HB2 HRD2 HG2 ⊢
  have c0 : w2.cell? ⟨g, 0, none⟩ = some (.slice A n c) := block_cell HB2.out 0
  have c1 : w2.cell? ⟨g, 1, none⟩ = some (.int .i64 (i : Int)) := block_cell HB2.out 1
  by_cases hin : i < n
  · have hlt : (i : Int) < (n : Int) := by omega
    go_quiet (fail)
    rename_i nq
    go_wp2
    obtain ⟨b, off, x, rfl, hbw, hx, hxs, hc⟩ := (HRD2.out.drewN nq).at_ hin
    have hbg : b ≠ g := HNE.out (by omega) b off none rfl
    have HB3 : Hid ((w2.drewN nq).heap[g]? = some (.cells #[.slice (some ⟨b, off, none⟩) n c, .int .i64 (i : Int), .int .i64 h1] 62 (0, 0))) := HB2
    have HRD3 := Lib.hid (HRD2.out.drewN nq)
    have HG3 := Lib.hid (grownBy_drewN HG2.out nq)
    clear c0 c1 HB2 HRD2 HG2
    generalize w2.drewN nq = w3 at HB3 HRD3 HG3 hc ⊢
    have c0 : w3.cell? ⟨g, 0, none⟩ = some (.slice (some ⟨b, off, none⟩) n c) := block_cell HB3.out 0
    have c1 : w3.cell? ⟨g, 1, none⟩ = some (.int .i64 (i : Int)) := block_cell HB3.out 1
    have f1 := block_free HB3.out 1
    have hw : IntKind.i64.wrap ((y : Int) + (x : Int)) = (y : Int) + x := IntWalk.i64_in _ (by omega)
    have hi0 : (0 : Int) ≤ (i : Int) := by omega
    go_quiet (fail)
    rename Nat => nr
    have HB4 : Hid ((w3.drewN nr).heap[g]? = some (.cells #[.slice (some ⟨b, off, none⟩) n c, .int .i64 (i : Int), .int .i64 h1] 62 (0, 0))) := HB3
    have HRD4 := Lib.hid (HRD3.out.drewN nr)
    have HG4 := Lib.hid (grownBy_drewN HG3.out nr)
    clear c0 c1 f1 HB3 HRD3 HG3 hc
    generalize w3.drewN nr = w4 at HB4 HRD4 HG4 ⊢
    have c1 : w4.cell? ⟨g, 1, none⟩ = some (.int .i64 (i : Int)) := block_cell HB4.out 1
    have f1 := block_free HB4.out 1
    go_wp2
    go_ret
    have hgr := grown_setAt HG4.out 1 (.int .i64 ((i : Int) + 1))
    refine ⟨lowByte ((y : Int) + x), low_lt _, rfl, ⟨?_, hn, HNE.out, i + 1, h1, by omega, hr1, ?_⟩, hgr⟩
    · exact HRD4.out.other0 (row := some g) (grown_setAt (World.grownBy.refl _ _) 1 _) (fun hn0 b' off' sp' e he => HNE.out hn0 b' off' sp' e (by injection he))
    · have := block_set HB4.out 1 (.int .i64 ((i : Int) + 1))
      rw [Int.natCast_add]
      exact this
  · have hlt : decide ((i : Int) < (n : Int)) = false := decide_eq_false (by omega)
    go_quiet (fail)
    rename_i nq
    go_wp2
    go_ret
    exact ⟨y, hy, rfl, ⟨HRD2.out.drewN nq, hn, HNE.out, i, h1, hi, hr1, HB2.out⟩, grownBy_drewN HG2.out nq⟩
def BelowRes (w : World) (g : Nat) (A : Option Addr) (n c : Nat) (xs : List Nat) (m : Nat) (e : Ending) (w' : World) : Prop :=
  ∃ x : Nat, x < m ∧ e = .returned (.int .i64 (x : Int)) ∧ Cur w' g A n c xs ∧ w.grownBy w' (some g)

set_option maxRecDepth 10000 in
theorem drawBelow (g : Nat) (A : Option Addr) (n c m : Nat) (xs : List Nat) (w : World) (hcur : Cur w g A n c xs) (h0 : 0 < m) (hm : m ≤ 256) :
    Calls Tryd.prog 27 #[.pointer (some ⟨g, 0, none⟩), .int .i64 (m : Int)] w (BelowRes w g A n c xs m) := by
  have C := Lib.hid (drawByte g A n c xs w hcur)
  clear hcur
  go_enter Tryd.func27, Tryd.ntmps27
  go_wp2_with (go_at_call 53; refine C.out.mono ?_; rintro e w1 ⟨x, hx, rfl, hcur, hg⟩)
  go_ret
  exact ⟨x % m, Nat.mod_lt _ h0, by rw [Int.natCast_emod]; rfl, hcur, hg⟩

theorem Rd.far {w w' : World} {A : Option Addr} {n B : Nat} {xs : List Nat} {row : Option Nat} (h : Rd w A n xs) (hg : w.grownBy w' row) (hrow : ∀ k, row = some k → B ≤ k) (hA : 0 < n → ∀ b off sp, A = some ⟨b, off, sp⟩ → b < B) : Rd w' A n xs :=
  ⟨h.len, h.small, fun hn => by
    obtain ⟨b, off, e, hb, hc⟩ := h.lies hn
    have hsz := hg.size
    have hbB := hA hn b off none e
    exact ⟨b, off, e, by omega, fun j u hu => (World.cell?_of_block (hg.block b hb (fun he => by have := hrow b he.symm; omega))).trans (hc j u hu)⟩⟩
theorem Cur.far {w w' : World} {g : Nat} {A : Option Addr} {n c B : Nat} {xs : List Nat} {row : Option Nat} (h : Cur w g A n c xs) (hg : w.grownBy w' row) (hrow : ∀ k, row = some k → B ≤ k) (hgB : g < B) (hA : 0 < n → ∀ b off sp, A = some ⟨b, off, sp⟩ → b < B) : Cur w' g A n c xs := by
  obtain ⟨hrd, hn, hne, i, hh, hi, hr, hc⟩ := h
  exact ⟨hrd.far hg hrow hA, hn, hne, i, hh, hi, hr, (hg.block g (lt_of_block hc) (fun e => by have := hrow g e.symm; omega)).trans hc⟩
theorem own_base {w : World} {base base' e n : Nat} {v : Value} {xs : List Value} (h : w.ownsRow base e 1 v n xs) (hb : base' ≤ base) : w.ownsRow base' e 1 v n xs := by
  obtain ⟨h1, h2⟩ := h
  refine ⟨h1, ?_⟩
  rcases h2 with h2 | ⟨g, cap, cur, hv, hg, r⟩
  · exact .inl h2
  · exact .inr ⟨g, cap, cur, hv, Nat.le_trans hb hg, r⟩
theorem own_far {w w' : World} {base e n g : Nat} {v : Value} {xs : List Value} (h : w.ownsRow base e 1 v n xs) (hg : w.grownBy w' (some g)) (hgb : g < base) : w'.ownsRow base e 1 v n xs :=
  h.kept hg (.inr (fun e => by have := (h.lt g e).1; omega))
theorem grownBy_far {a w w' : World} {g : Nat} {row : Option Nat} (h : a.grownBy w (some g)) (hg : w.grownBy w' row) (hrow : ∀ k, row = some k → a.heap.size ≤ k) : a.grownBy w' (some g) :=
  ⟨hg.os.trans h.os, hg.tape.trans h.tape, hg.output.trans h.output, Nat.le_trans h.size hg.size, fun k hk hne => (hg.block k (Nat.lt_of_lt_of_le hk h.size) (fun e => by have := hrow k e.symm; omega)).trans (h.block k hk hne)⟩

theorem Cur.grow {w w' : World} {g : Nat} {A : Option Addr} {n c : Nat} {xs : List Nat} (h : Cur w g A n c xs) (hb : Below w.heap.size w w') : Cur w' g A n c xs := by
  obtain ⟨hrd, hn, hne, i, hh, hi, hr, hc⟩ := h
  exact ⟨hrd.below hb, hn, hne, i, hh, hi, hr, (hb.block g (lt_of_block hc)).trans hc⟩

theorem Cur.setH {w : World} {g : Nat} {A : Option Addr} {n c : Nat} {xs : List Nat} (h : Cur w g A n c xs) (z : Int) (h1 : -9223372036854775808 ≤ z) (h2 : z ≤ 9223372036854775807) : Cur (w.setCell ⟨g, 2, none⟩ (.int .i64 z)) g A n c xs := by
  obtain ⟨hrd, hn, hne, i, hh, hi, hr, hc⟩ := h
  exact ⟨hrd.other0 (row := some g) (grown_setAt (World.grownBy.refl _ _) 2 _) (fun hn0 b off sp e he => hne hn0 b off sp e (by injection he)), hn, hne, i, z, hi, ⟨h1, h2⟩, block_set hc 2 _⟩
def NewRes (w : World) (A : Option Addr) (n c : Nat) (xs : List Nat) (e : Ending) (w' : World) : Prop :=
  e = .returned (.pointer (some ⟨w.heap.size, 0, none⟩)) ∧ w.heap.size < w'.heap.size ∧ Cur w' w.heap.size A n c xs ∧ Below w.heap.size w w'

theorem new_res (A : Option Addr) (n c : Nat) (h : Int) (xs : List Nat) (w : World) (hr : Rd w A n xs) (hn : n ≤ 1048576) (h0 : 0 ≤ h) (h1 : h ≤ 1073741823) :
    NewRes w A n c xs (.returned (.pointer (some ⟨w.heap.size, 0, none⟩))) (w.alloc (.cells #[.slice A n c, .int .i64 0, .int .i64 h] 62)) := by
  refine ⟨rfl, by simp, ⟨hr.alloc _, hn, fun hn0 b off sp e => ?_, 0, h, by omega, by omega, heap_alloc_new w _⟩, (Below.refl _ _).alloc (Nat.le_refl _) _⟩
  obtain ⟨b', off', e', hb, _⟩ := hr.lies hn0
  rw [e'] at e
  injection e with e
  injection e with e1 e2 e3
  omega
theorem low30 (z : Int) : ∃ r : Int, bits .and .i64 z 1073741823 = r ∧ 0 ≤ r ∧ r ≤ 1073741823 := by
  refine ⟨_, rfl, ?_⟩
  show 0 ≤ IntKind.i64.wrap ((BitVec.ofInt 64 z &&& BitVec.ofInt 64 1073741823).toNat : Int) ∧ IntKind.i64.wrap ((BitVec.ofInt 64 z &&& BitVec.ofInt 64 1073741823).toNat : Int) ≤ 1073741823
  have : (BitVec.ofInt 64 z &&& BitVec.ofInt 64 1073741823).toNat ≤ 1073741823 := by
    rw [BitVec.toNat_and]
    exact Nat.le_trans Nat.and_le_right (by decide)
  rw [IntKind.wrap_i64]
  omega

set_option maxRecDepth 100000 in
set_option maxHeartbeats 1000000 in
theorem drawNew (A : Option Addr) (n c : Nat) (xs : List Nat) (w : World) (hr : Rd w A n xs) (hn : n ≤ 1048576) :
    Calls Tryd.prog 23 #[.slice A n c] w (NewRes w A n c xs) := by
  go_enter Tryd.func23, Tryd.ntmps23
  go_wp2
  go_loop [3, 4] (fun t i => ∃ (k : Nat) (h : Int), k ≤ n ∧ k ≤ 4000 ∧ i = .int .i64 (k : Int) ∧ 0 ≤ h ∧ h ≤ 1073741823 ∧ t = .int .i64 h) (fun _ i => 4000 - (intOf i).toNat)
  case atStart => exact ⟨0, _, by omega, by omega, rfl, by omega, by omega, rfl⟩
  case round =>
    obtain ⟨k, h, hk, hk2, rfl, h0, h1, rfl⟩ := hrel
    by_cases hlt : k < n
    · obtain ⟨b, off, x, rfl, hbw, hx, hxs, hc⟩ := hr.at_ hlt
      by_cases h4 : k < 4000
      · obtain ⟨r, hb, hr0, hr1⟩ := low30 (h * 157 + x + 7)
        go_wp2
        go_round
        case rel => exact ⟨k + 1, r, by omega, by omega, by go_num, by omega, by omega, rfl⟩
        case measure => simp [intOf]; omega
      · have h5 : decide ((k : Int) < 4000) = false := decide_eq_false (by omega)
        go_wp2
        go_ret
        exact new_res _ n c h xs w hr hn (by omega) (by omega)
    · go_wp2
      go_ret
      exact new_res A n c h xs w hr hn (by omega) (by omega)
end Go.Proofs.YtmbabbapcjphgaaDoor
namespace Go.Proofs.YtmbabbapcjphgaaDoor
open Go.RowKit

theorem own_keepG {w w' : World} {lo e size n g : Nat} {v : Value} {xs : List Value} (h : w.ownsRow lo e size v n xs) (hg : w.grownBy w' (some g)) (hgb : g < lo) : w'.ownsRow lo e size v n xs :=
  h.kept hg (.inr (fun e => by have := (h.lt g e).1; omega))
end Go.Proofs.YtmbabbapcjphgaaDoor
namespace Go.Proofs.YtmbabbapcjphgaaDoor
open Go.RowKit

set_option maxRecDepth 10000 in
theorem makeNum (A : Option Addr) (n c m : Nat) (xs : List Nat) (w : World) (hr : Rd w A n xs) (hn : n ≤ 1048576) (h0 : 0 < m) (hm : m ≤ 256) :
    Calls Tryd.prog 8 #[.slice A n c, .int .i64 (m : Int)] w fun e w' => ∃ x : Nat, x < m ∧ e = .returned (.int .i64 (x : Int)) ∧ Below w.heap.size w w' := by
  have C1 := Lib.hid (drawNew A n c xs w hr hn)
  clear hr
  go_enter Tryd.func8, Tryd.ntmps8
  go_wp2_with fail
  refine C1.out.mono ?_
  rintro e w1 ⟨rfl, hsz, hcur, hb1⟩
  obtain ⟨i, h, hi, hh, hc⟩ := hcur.cells
  have c2 : w1.cell? ⟨w.heap.size, 2, none⟩ = some (.int .i64 h) := block_cell hc 2
  have f2 := block_free hc 2
  have hw := wrap64_range (h + 777)
  have HC := Lib.hid (hcur.setH (wrap64 (h + 777)) hw.1 hw.2)
  have HB := Lib.hid (hb1.setCell (p := ⟨w.heap.size, 2, none⟩) (Nat.le_refl _) (.int .i64 (wrap64 (h + 777))))
  clear hcur hc hb1 hw
  go_wp2_with fail
  refine (drawBelow w.heap.size A n c m xs _ HC.out h0 hm).mono ?_
  rintro e w2 ⟨x, hx, rfl, hcu2, hgr⟩
  go_wp2
  go_ret
  exact ⟨x, hx, rfl, HB.out.grown hgr HB.out.size (fun k hk => by injection hk; omega)⟩

end Go.Proofs.YtmbabbapcjphgaaDoor
namespace Go.Proofs.YtmbabbapcjphgaaDoor
open Go.RowKit

theorem Tryd.infoStr : (Tryd.prog.info? 9).map (fun i => (i.zero, i.size, i.bytes)) = some (some (.string ByteArray.empty), 1, 16) := by kernel_rfl
def vs (ss : List ByteArray) : List Value := ss.map Value.string
theorem vs_length (ss : List ByteArray) : (vs ss).length = ss.length := by simp [vs]
theorem vs_append (a b : List ByteArray) : vs (a ++ b) = vs a ++ vs b := by simp [vs]
theorem vs_get (ss : List ByteArray) (j : Nat) : (vs ss)[j]? = (ss[j]?).map Value.string := by simp [vs]

structure RdS (w : World) (A : Option Addr) (n : Nat) (ss : List ByteArray) : Prop where
  len : ss.length = n
  lies : 0 < n → ∃ b off, A = some ⟨b, off, none⟩ ∧ b < w.heap.size ∧ ∀ (j : Nat) (s : ByteArray), ss[j]? = some s → w.cell? ⟨b, off + j, none⟩ = some (.string s)

section
variable {w w' : World} {A : Option Addr} {n : Nat} {ss : List ByteArray}
theorem RdS.at_ {k : Nat} (h : RdS w A n ss) (hk : k < n) : ∃ (b off : Nat) (s : ByteArray), A = some ⟨b, off, none⟩ ∧ b < w.heap.size ∧ Hid (ss[k]? = some s) ∧ w.cell? ⟨b, off + k, none⟩ = some (.string s) := by
  obtain ⟨b, off, rfl, hb, hc⟩ := h.lies (by omega)
  have hl : k < ss.length := by have := h.len; omega
  exact ⟨b, off, ss[k], rfl, hb, List.getElem?_eq_getElem hl, hc k _ (List.getElem?_eq_getElem hl)⟩
theorem RdS.keep (h : RdS w A n ss) (hs : w.heap.size ≤ w'.heap.size) (hk : ∀ p : Addr, p.block < w.heap.size → w'.cell? p = w.cell? p) : RdS w' A n ss :=
  ⟨h.len, fun hn => by
    obtain ⟨b, off, e, hb, hc⟩ := h.lies hn
    exact ⟨b, off, e, by omega, fun j u hu => (hk _ hb).trans (hc j u hu)⟩⟩
theorem RdS.below (h : RdS w A n ss) (hb : Below w.heap.size w w') : RdS w' A n ss := h.keep hb.size fun _ hp => hb.cell hp
theorem RdS.drewN (h : RdS w A n ss) (k : Nat) : RdS (w.drewN k) A n ss := ⟨h.len, h.lies⟩
theorem RdS.other {row : Option Nat} (h : RdS w A n ss) (hg : w.grownBy w' row) (hr : ∀ b off sp, A = some ⟨b, off, sp⟩ → some b ≠ row) : RdS w' A n ss :=
  ⟨h.len, fun hn => by
    obtain ⟨b, off, e, hb, hc⟩ := h.lies hn
    have := hg.size
    exact ⟨b, off, e, by omega, fun j u hu => (World.cell?_of_block (hg.block b hb (hr _ _ _ e))).trans (hc j u hu)⟩⟩
theorem RdS.of_own {base e c : Nat} (h : w.ownsRow base e 1 (.slice A n c) n (vs ss)) : RdS w A n ss := by
  have hl : ss.length = n := by have := h.1; rw [vs_length] at this; omega
  refine ⟨hl, fun hn => ?_⟩
  obtain ⟨g, cap, hv, _, hlt⟩ := h.form hn
  have hA : A = some ⟨g, 0, none⟩ := by injection hv
  subst hA
  refine ⟨g, 0, rfl, hlt, fun j u hu => ?_⟩
  have := h.cells (g := g) rfl j (.string u) (by rw [vs_get, hu]; rfl)
  have hx : ((⟨g, 0, none⟩ : Addr).add j) = ⟨g, 0 + j, none⟩ := by unfold Addr.add; split <;> simp_all
  rw [hx] at this
  exact this
end

end Go.Proofs.YtmbabbapcjphgaaDoor
namespace Go.Proofs.YtmbabbapcjphgaaDoor

def attach (p : List UInt8) : List (List UInt8) → List (List UInt8)
  | [] => [p]
  | h :: t => (p ++ h) :: t
/-- The parts of a text between its blanks. -/
def pl : List UInt8 → List (List UInt8)
  | [] => [[]]
  | c :: r => if c = 32 then [] :: pl r else attach [c] (pl r)
theorem attach_attach (p q : List UInt8) (x : List (List UInt8)) : attach p (attach q x) = attach (p ++ q) x := by cases x <;> simp [attach]
theorem attach_ne (p : List UInt8) (x : List (List UInt8)) : attach p x ≠ [] := by cases x <;> simp [attach]
theorem pl_ne (l : List UInt8) : pl l ≠ [] := by
  cases l with
  | nil => simp [pl]
  | cons c r =>
    unfold pl
    split
    · simp
    · exact attach_ne _ _
theorem attach_nil (x : List (List UInt8)) (h : x ≠ []) : attach [] x = x := by
  cases x with
  | nil => exact absurd rfl h
  | cons a t => rfl
theorem pl_skip (p r : List UInt8) (h : ∀ c ∈ p, c ≠ 32) : pl (p ++ r) = attach p (pl r) := by
  induction p with
  | nil => rw [List.nil_append, attach_nil _ (pl_ne _)]
  | cons c p ih =>
    rw [List.cons_append, pl, if_neg (h c (by simp)), ih (fun x hx => h x (by simp [hx])), attach_attach]
    rfl
theorem pl_blank (r : List UInt8) : pl (32 :: r) = [] :: pl r := by rw [pl, if_pos rfl]
theorem pl_none (l : List UInt8) (h : ∀ c ∈ l, c ≠ 32) : pl l = [l] := by
  have := pl_skip l [] h
  rw [List.append_nil] at this
  rw [this]
  simp [pl, attach]

def blank : ByteArray := ⟨#[32]⟩
theorem index_blank (s : ByteArray) : Lib.indexB s blank = Lib.indexByte s.data.toList 32 := Lib.index_one _ _
theorem split_pl : ∀ (k : Nat) (s : ByteArray), Lib.countB s blank = k → (Lib.splitB blank 0 k s).map (fun t => t.data.toList) = pl s.data.toList
  | 0, s, hk => by
    rcases Lib.indexB_cases s blank with hix | ⟨i, hix, _⟩
    · rw [index_blank] at hix
      have hn := Lib.indexByte_none hix
      rw [Lib.splitB_zero, pl_none _ (fun c hc e => by
        obtain ⟨j, hj, he⟩ := List.getElem_of_mem hc
        exact hn j (by rw [List.getElem?_eq_getElem hj, he, e]))]
      rfl
    · have := Lib.countB_hit s blank i (by decide) hix
      omega
  | k + 1, s, hk => by
    rcases Lib.indexB_cases s blank with hix | ⟨i, hix, hroom⟩
    · rw [Lib.countB_miss s blank hix] at hk
      omega
    · have hc := Lib.countB_hit s blank i (by decide) hix
      have ih := split_pl k (s.extract (i + blank.size) s.size) (by omega)
      rw [Lib.splitB_hit blank 0 k s i hix, List.map_cons, ih]
      rw [index_blank] at hix
      obtain ⟨h1, h2⟩ := Lib.indexByte_some hix
      obtain ⟨hl, he⟩ := List.getElem?_eq_some_iff.1 h1
      rw [Lib.extract_to_end, Lib.extract_data]
      have e1 : s.data.toList = s.data.toList.take i ++ 32 :: s.data.toList.drop (i + 1) := by
        conv => lhs; rw [← List.take_append_drop i s.data.toList, List.drop_eq_getElem_cons hl, he]
      conv => rhs; rw [e1]
      rw [pl_skip _ _ (fun c hc e => by
        obtain ⟨j, hj, hj2⟩ := List.getElem_of_mem hc
        rw [List.length_take] at hj
        rw [List.getElem_take] at hj2
        exact h2 j (by omega) (by rw [List.getElem?_eq_getElem (by omega), hj2, e])), pl_blank]
      simp [attach, blank, ByteArray.size]
theorem pl_length (l : List UInt8) : (pl l).length ≤ l.length + 1 := by
  induction l with
  | nil => simp [pl]
  | cons c r ih =>
    unfold pl
    split
    · simp; exact ih
    · cases hp : pl r with
      | nil => simp [attach]
      | cons a t => rw [hp] at ih; simp [attach] at ih ⊢; omega
end Go.Proofs.YtmbabbapcjphgaaDoor
namespace Go.Proofs.YtmbabbapcjphgaaDoor
open Go.RowKit

def mkB (l : List UInt8) : ByteArray := ⟨l.toArray⟩
def parts (s : ByteArray) : List ByteArray := (pl s.data.toList).map mkB
theorem mkB_data (s : ByteArray) : mkB s.data.toList = s := by
  unfold mkB
  apply ByteArray.ext
  simp
theorem parts_length (s : ByteArray) : (parts s).length ≤ s.size + 1 := by
  have h := pl_length s.data.toList
  have e : s.data.toList.length = s.size := Array.length_toList
  unfold parts
  rw [List.length_map]
  omega
theorem parts_pos (s : ByteArray) : 0 < (parts s).length := by
  have := pl_ne s.data.toList
  unfold parts
  rw [List.length_map]
  exact List.length_pos_iff.mpr this

/-- What has been parted so far, and what is left. -/
structure Cutting (s : ByteArray) (acc : List ByteArray) (f i : Nat) : Prop where
  eq : parts s = acc ++ (attach ((s.data.toList.drop f).take (i - f)) (pl (s.data.toList.drop i))).map mkB
  le : f ≤ i
theorem Cutting.start (s : ByteArray) : Cutting s [] 0 0 := ⟨by simp only [List.nil_append, Nat.sub_self, List.take_zero, List.drop_zero, attach_nil _ (pl_ne _)]; rfl, Nat.le_refl _⟩
theorem extract_mk (s : ByteArray) (f i : Nat) : s.extract f i = mkB ((s.data.toList.drop f).take (i - f)) := by
  rw [← Lib.extract_data]
  exact (mkB_data _).symm
theorem drop_byte (s : ByteArray) (i : Nat) (h : i < s.size) : s.data.toList.drop i = s[i] :: s.data.toList.drop (i + 1) := by
  have hl : i < s.data.toList.length := by rw [Array.length_toList]; exact h
  rw [List.drop_eq_getElem_cons hl]
  rfl
theorem Cutting.cut {s : ByteArray} {acc : List ByteArray} {f i : Nat} (h : Cutting s acc f i) (hi : i < s.size) (hb : s[i] = 32) : Cutting s (acc ++ [s.extract f i]) (i + 1) (i + 1) := by
  refine ⟨?_, Nat.le_refl _⟩
  rw [h.eq, drop_byte s i hi, hb, pl_blank, extract_mk, Nat.sub_self, List.take_zero, attach_nil _ (pl_ne _)]
  simp [attach]
theorem Cutting.go {s : ByteArray} {acc : List ByteArray} {f i : Nat} (h : Cutting s acc f i) (hi : i < s.size) (hb : s[i] ≠ 32) : Cutting s acc f (i + 1) := by
  have hle := h.le
  refine ⟨?_, by omega⟩
  have hl : i - f < (s.data.toList.drop f).length := by rw [List.length_drop, Array.length_toList]; have : s.data.size = s.size := rfl; omega
  have e : (s.data.toList.drop f).take (i + 1 - f) = (s.data.toList.drop f).take (i - f) ++ [s[i]] := by
    have hl2 : i < s.data.toList.length := by rw [Array.length_toList]; exact hi
    have h2 : (s.data.toList.drop f)[i - f]? = some s[i] := by rw [List.getElem?_drop, show f + (i - f) = i by omega, List.getElem?_eq_getElem hl2]; rfl
    rw [show i + 1 - f = (i - f) + 1 by omega, List.take_succ_eq_append_getElem hl, (List.getElem?_eq_some_iff.1 h2).2]
  rw [h.eq, drop_byte s i hi, pl, if_neg hb, attach_attach, e]
theorem Cutting.fin {s : ByteArray} {acc : List ByteArray} {f i : Nat} (h : Cutting s acc f i) (hi : i = s.size) : parts s = acc ++ [s.extract f s.size] := by
  subst hi
  have e1 : s.data.toList.drop s.size = [] := List.drop_of_length_le (by rw [Array.length_toList]; exact Nat.le_refl _)
  rw [h.eq, extract_mk, e1]
  simp [pl, attach]

def PartsRes (w : World) (ss : List ByteArray) (e : Ending) (w' : World) : Prop :=
  ∃ A c, e = .returned (.slice A ss.length c) ∧ w'.ownsRow w.heap.size 9 1 (.slice A ss.length c) ss.length (vs ss) ∧ Below w.heap.size w w'

theorem one_readsS (w : World) (u : Value) : Reads (w.alloc (.cells #[u] 9)) (w.heap.size + 1) 1 (some ⟨w.heap.size, 0, none⟩) 1 [u] := by
  refine ⟨rfl, fun _ => ⟨_, rfl, by simp, fun j v hj => ?_⟩⟩
  match j, hj with
  | 0, hj => simp at hj; subst hj; simp [Addr.add]
theorem one_cellS (x : ByteArray) : ∀ u ∈ [Value.string x], u.oneCell' = true := by intro u hu; simp at hu; subst hu; rfl
theorem own_snocS {w : World} {base n : Nat} {v : Value} {ss : List ByteArray} {x : ByteArray} (h : w.ownsRow base 9 1 v (n + 1) (vs ss ++ [.string x])) (hn : ss.length = n) :
    w.ownsRow base 9 1 v (ss ++ [x]).length (vs (ss ++ [x])) := by
  rw [vs_append, List.length_append, hn]
  exact h

/-- The library's word length is some int in memory. -/
def MaxLen (w : World) : Prop := ∃ m : Int, w.cell? ⟨2, 0, none⟩ = some (.int .i64 m)
theorem MaxLen.below {w w' : World} (h : MaxLen w) (hb : Below w.heap.size w w') : MaxLen w' := by
  obtain ⟨m, hm⟩ := h
  exact ⟨m, (hb.cell (World.block_lt_of_cell? w _ hm)).trans hm⟩

theorem split_parts (s : ByteArray) : Lib.splitB blank 0 (Lib.countB s blank) s = parts s := by
  have h := split_pl _ s rfl
  unfold parts
  rw [← h, List.map_map]
  have e : (mkB ∘ fun t : ByteArray => t.data.toList) = id := funext fun t => mkB_data t
  rw [e, List.map_id]

theorem implParts (s : ByteArray) (w : World) (hs : s.size ≤ 1048576) (hm : MaxLen w) : Calls Tryd.prog 80 #[.string s] w (PartsRes w (parts s)) := by
  obtain ⟨m, hm⟩ := hm
  have C0 : Calls Tryd.prog 64 #[.string s, .string blank] w fun e w' => e = .returned (.slice (some ⟨w.heap.size, 0, none⟩) (Lib.countB s blank + 1) (Lib.countB s blank + 1)) ∧ w' = w.alloc (.cells ((Lib.splitB blank 0 (Lib.countB s blank) s).map Value.string).toArray 9) :=
    let L := Tryd.laysM146
    Any.strings_Split { L with } L.i9 s blank m w (by omega) hm (by decide)
  have hlen : (parts s).length = Lib.countB s blank + 1 := by rw [← split_parts]; exact Lib.splitB_all blank (by decide) 0 _ s rfl
  have hpl := parts_length s
  rw [split_parts, ← hlen] at C0
  have C := Lib.hid C0
  clear C0 hlen hm
  go_enter Tryd.func80, Tryd.ntmps80
  go_wp2_with fail
  refine C.out.mono ?_
  rintro e w1 ⟨rfl, rfl⟩
  go_wp2
  go_ret
  have ho := World.ownsRow_lit (base := w.heap.size) (e := 9) (size := 1) w ((parts s).map Value.string).toArray (parts s).length (Nat.le_refl _) (by unfold maxLen; omega) (by simp)
  exact ⟨_, _, rfl, by simpa [vs] using ho, (Below.refl _ _).alloc (Nat.le_refl _) _⟩

end Go.Proofs.YtmbabbapcjphgaaDoor
namespace Go.Proofs.YtmbabbapcjphgaaDoor

def val10 (l : List UInt8) : Nat := l.foldl (fun n c => n * 10 + (c.toNat - 48)) 0
theorem dec_toNat (d : Nat) (h : d < 10) : (UInt8.ofNat (48 + d)).toNat = 48 + d := by
  rw [UInt8.toNat_ofNat']
  exact Nat.mod_eq_of_lt (by omega)
theorem val10_snoc (l : List UInt8) (c : UInt8) : val10 (l ++ [c]) = val10 l * 10 + (c.toNat - 48) := by simp [val10]
theorem val10_dec (n : Nat) : val10 (Lib.decDigits n) = n := by
  induction n using Nat.strongRecOn with
  | ind n ih =>
    rw [Lib.decDigits]
    split
    · rename_i h
      have := dec_toNat n h
      simp only [val10, List.foldl_cons, List.foldl_nil]
      omega
    · rename_i h
      rw [val10_snoc, ih _ (by omega), dec_toNat _ (by omega)]
      omega
theorem dec_digit (n : Nat) : ∀ c ∈ Lib.decDigits n, 48 ≤ c.toNat ∧ c.toNat ≤ 57 := by
  induction n using Nat.strongRecOn with
  | ind n ih =>
    rw [Lib.decDigits]
    split
    · rename_i h
      intro c hc
      simp only [List.mem_singleton] at hc
      subst hc
      rw [dec_toNat n h]
      omega
    · rename_i h
      intro c hc
      rcases List.mem_append.1 hc with hc | hc
      · exact ih _ (by omega) c hc
      · simp only [List.mem_singleton] at hc
        subst hc
        rw [dec_toNat _ (by omega)]
        omega
theorem dec_ne_nil (n : Nat) : Lib.decDigits n ≠ [] := by
  rw [Lib.decDigits]
  split <;> simp
theorem dec_len15 (n : Nat) (h : n ≤ 281474976710655) : (Lib.decDigits n).length ≤ 15 := by
  have H : ∀ (k u : Nat), u < 10 ^ (k + 1) → (Lib.decDigits u).length ≤ k + 1 := by
    intro k
    induction k with
    | zero => intro u h; rw [Lib.decDigits, dif_pos (by simpa using h)]; simp
    | succ k ih =>
      intro u h
      rw [Lib.decDigits]
      split
      · simp
      · have := ih (u / 10) (by rw [Nat.pow_succ] at h; omega)
        simp
        omega
  exact H 14 n (by omega)
theorem parse_snoc (l : List UInt8) (acc u : Nat) (c : UInt8) (h : Lib.parseUint10 acc l = .ok u) (hc : 48 ≤ c.toNat ∧ c.toNat ≤ 57) (hu : u < 1844674407370955161) : Lib.parseUint10 acc (l ++ [c]) = .ok (u * 10 + (c.toNat - 48)) := by
  induction l generalizing acc with
  | nil =>
    simp only [Lib.parseUint10] at h
    injection h with h
    subst h
    simp only [List.nil_append, Lib.parseUint10]
    rw [if_pos hc, if_neg (by omega), if_neg (by omega)]
  | cons x r ih =>
    simp only [Lib.parseUint10, List.cons_append] at h ⊢
    split at h
    · rename_i h1
      rw [if_pos h1]
      split at h
      · cases h
      · rename_i h2
        rw [if_neg h2]
        split at h
        · cases h
        · rename_i h3
          rw [if_neg h3]
          exact ih _ h
    · cases h
theorem parse_dec (n : Nat) (h : n ≤ 281474976710655) : Lib.parseUint10 0 (Lib.decDigits n) = .ok n := by
  induction n using Nat.strongRecOn with
  | ind n ih =>
    rw [Lib.decDigits]
    split
    · rename_i h1
      have := dec_toNat n h1
      simp only [Lib.parseUint10, this]
      rw [if_pos (by omega), if_neg (by omega), if_neg (by omega)]
      congr 1
      omega
    · rename_i h1
      have := dec_toNat (n % 10) (by omega)
      rw [parse_snoc _ _ _ _ (ih (n / 10) (by omega) (by omega)) (by rw [this]; omega) (by omega), this]
      congr 1
      omega
theorem atoi_dec (n : Nat) (h : n ≤ 281474976710655) : Lib.atoiAll (Lib.decDigits n) = .ok (n : Int) := by
  have hp := parse_dec n h
  have hd := dec_digit n
  have hn := dec_ne_nil n
  generalize Lib.decDigits n = l at hp hd hn
  cases l with
  | nil => exact absurd rfl hn
  | cons c r =>
    have hc := hd c (by simp)
    have e : Lib.parseMag (c :: r) = .ok n := by unfold Lib.parseMag; rw [if_neg (by simp)]; exact hp
    rw [Lib.atoiAll_plain c r (by omega) (by omega), e]
    unfold Lib.signless
    simp only
    rw [if_neg (by omega)]
/-- Whether a text is the numeral of a number. -/
def tn (l : List UInt8) : Bool := decide (val10 l ≤ 281474976710655 ∧ Lib.decDigits (val10 l) = l)
theorem tn_dec (n : Nat) (h : n ≤ 281474976710655) : tn (Lib.decDigits n) = true := by
  unfold tn
  rw [val10_dec]
  simp [h]
theorem tn_iff (l : List UInt8) (h : tn l = true) : val10 l ≤ 281474976710655 ∧ Lib.decDigits (val10 l) = l := by simpa [tn] using h
theorem tn_no (l : List UInt8) (h : tn l = false) (n : Nat) (hn : n ≤ 281474976710655) : Lib.decDigits n ≠ l := by
  intro e
  rw [← e, tn_dec n hn] at h
  cases h
end Go.Proofs.YtmbabbapcjphgaaDoor
namespace Go.Proofs.YtmbabbapcjphgaaDoor

/-- The pieces of a text between its newlines. -/
def ql : List UInt8 → List (List UInt8)
  | [] => [[]]
  | c :: r => if c = 10 then [] :: ql r else attach [c] (ql r)
theorem ql_ne (l : List UInt8) : ql l ≠ [] := by
  cases l with
  | nil => simp [ql]
  | cons c r =>
    unfold ql
    split
    · simp
    · exact attach_ne _ _
theorem ql_skip (p r : List UInt8) (h : ∀ c ∈ p, c ≠ 10) : ql (p ++ r) = attach p (ql r) := by
  induction p with
  | nil => rw [List.nil_append, attach_nil _ (ql_ne _)]
  | cons c p ih =>
    rw [List.cons_append, ql, if_neg (h c (by simp)), ih (fun x hx => h x (by simp [hx])), attach_attach]
    rfl
theorem ql_nl (r : List UInt8) : ql (10 :: r) = [] :: ql r := by rw [ql, if_pos rfl]
theorem ql_none (l : List UInt8) (h : ∀ c ∈ l, c ≠ 10) : ql l = [l] := by
  have := ql_skip l [] h
  rw [List.append_nil] at this
  rw [this]
  simp [ql, attach]
def newl : ByteArray := ⟨#[10]⟩
theorem index_newl (s : ByteArray) : Lib.indexB s newl = Lib.indexByte s.data.toList 10 := Lib.index_one _ _
theorem split_ql : ∀ (k : Nat) (s : ByteArray), Lib.countB s newl = k → (Lib.splitB newl 0 k s).map (fun t => t.data.toList) = ql s.data.toList
  | 0, s, hk => by
    rcases Lib.indexB_cases s newl with hix | ⟨i, hix, _⟩
    · rw [index_newl] at hix
      have hn := Lib.indexByte_none hix
      rw [Lib.splitB_zero, ql_none _ (fun c hc e => by
        obtain ⟨j, hj, he⟩ := List.getElem_of_mem hc
        exact hn j (by rw [List.getElem?_eq_getElem hj, he, e]))]
      rfl
    · have := Lib.countB_hit s newl i (by decide) hix
      omega
  | k + 1, s, hk => by
    rcases Lib.indexB_cases s newl with hix | ⟨i, hix, hroom⟩
    · rw [Lib.countB_miss s newl hix] at hk
      omega
    · have hc := Lib.countB_hit s newl i (by decide) hix
      have ih := split_ql k (s.extract (i + newl.size) s.size) (by omega)
      rw [Lib.splitB_hit newl 0 k s i hix, List.map_cons, ih]
      rw [index_newl] at hix
      obtain ⟨h1, h2⟩ := Lib.indexByte_some hix
      obtain ⟨hl, he⟩ := List.getElem?_eq_some_iff.1 h1
      rw [Lib.extract_to_end, Lib.extract_data]
      have e1 : s.data.toList = s.data.toList.take i ++ 10 :: s.data.toList.drop (i + 1) := by
        conv => lhs; rw [← List.take_append_drop i s.data.toList, List.drop_eq_getElem_cons hl, he]
      conv => rhs; rw [e1]
      rw [ql_skip _ _ (fun c hc e => by
        obtain ⟨j, hj, hj2⟩ := List.getElem_of_mem hc
        rw [List.length_take] at hj
        rw [List.getElem_take] at hj2
        exact h2 j (by omega) (by rw [List.getElem?_eq_getElem (by omega), hj2, e])), ql_nl]
      simp [attach, newl, ByteArray.size]
theorem ql_length (l : List UInt8) : (ql l).length ≤ l.length + 1 := by
  induction l with
  | nil => simp [ql]
  | cons c r ih =>
    unfold ql
    split
    · simp; exact ih
    · cases hp : ql r with
      | nil => simp [attach]
      | cons a t => rw [hp] at ih; simp [attach] at ih ⊢; omega

def pieces (s : ByteArray) : List ByteArray := (ql s.data.toList).map mkB
theorem pieces_length (s : ByteArray) : (pieces s).length ≤ s.size + 1 := by
  have h := ql_length s.data.toList
  have e : s.data.toList.length = s.size := Array.length_toList
  unfold pieces
  rw [List.length_map]
  omega
theorem pieces_pos (s : ByteArray) : 0 < (pieces s).length := by
  have := ql_ne s.data.toList
  unfold pieces
  rw [List.length_map]
  exact List.length_pos_iff.mpr this
theorem split_pieces (s : ByteArray) : Lib.splitB newl 0 (Lib.countB s newl) s = pieces s := by
  have h := split_ql _ s rfl
  unfold pieces
  rw [← h, List.map_map]
  have e : (mkB ∘ fun t : ByteArray => t.data.toList) = id := funext fun t => mkB_data t
  rw [e, List.map_id]
theorem attach_size {p : List UInt8} {x : List (List UInt8)} {k : Nat} (h : ∀ y ∈ x, p.length + y.length ≤ k) (h0 : p.length ≤ k) : ∀ y ∈ attach p x, y.length ≤ k := by
  cases x with
  | nil => intro y hy; simp [attach] at hy; subst hy; exact h0
  | cons a t =>
    intro y hy
    simp [attach] at hy
    rcases hy with rfl | hy
    · have := h a (by simp); simp; omega
    · have := h y (by simp [hy]); omega
theorem ql_size (l : List UInt8) : ∀ y ∈ ql l, y.length ≤ l.length := by
  induction l with
  | nil => intro y hy; simp [ql] at hy; subst hy; simp
  | cons c r ih =>
    unfold ql
    split
    · intro y hy
      rcases List.mem_cons.1 hy with rfl | hy
      · simp
      · have := ih y hy; simp; omega
    · exact attach_size (fun y hy => by have := ih y hy; simp; omega) (by simp)
theorem pieces_size (s : ByteArray) : ∀ p ∈ pieces s, p.size ≤ s.size := by
  intro p hp
  obtain ⟨y, hy, rfl⟩ := List.mem_map.1 hp
  have h := ql_size _ y hy
  have e : s.data.toList.length = s.size := Array.length_toList
  have e2 : (mkB y).size = y.length := by simp [mkB, ByteArray.size]
  omega
theorem pl_size (l : List UInt8) : ∀ y ∈ pl l, y.length ≤ l.length := by
  induction l with
  | nil => intro y hy; simp [pl] at hy; subst hy; simp
  | cons c r ih =>
    unfold pl
    split
    · intro y hy
      rcases List.mem_cons.1 hy with rfl | hy
      · simp
      · have := ih y hy; simp; omega
    · exact attach_size (fun y hy => by have := ih y hy; simp; omega) (by simp)
theorem parts_size (s : ByteArray) : ∀ p ∈ parts s, p.size ≤ s.size := by
  intro p hp
  obtain ⟨y, hy, rfl⟩ := List.mem_map.1 hp
  have h := pl_size _ y hy
  have e : s.data.toList.length = s.size := Array.length_toList
  have e2 : (mkB y).size = y.length := by simp [mkB, ByteArray.size]
  omega
/-- A text's lines: its pieces, without an empty last one. -/
def cutE (l : List ByteArray) : List ByteArray :=
  match l.getLast? with
  | some p => if p.size = 0 then l.dropLast else l
  | none => l
def linesOf (s : ByteArray) : List ByteArray := cutE (pieces s)
theorem cutE_snoc (l : List ByteArray) (p : ByteArray) : cutE (l ++ [p]) = if p.size = 0 then l else l ++ [p] := by
  simp [cutE]
theorem linesOf_length (s : ByteArray) : (linesOf s).length ≤ s.size + 1 := by
  have h := pieces_length s
  unfold linesOf cutE
  split
  · split
    · rw [List.length_dropLast]; omega
    · exact h
  · exact h
theorem linesOf_mem (s : ByteArray) : ∀ p ∈ linesOf s, p.size ≤ s.size := by
  have h := pieces_size s
  unfold linesOf cutE
  split
  · split
    · exact fun p hp => h p (List.dropLast_subset _ hp)
    · exact h
  · exact h

/-- What has been cut into lines so far, and what is left. -/
structure Lining (s : ByteArray) (acc : List ByteArray) (f i : Nat) : Prop where
  eq : pieces s = acc ++ (attach ((s.data.toList.drop f).take (i - f)) (ql (s.data.toList.drop i))).map mkB
  le : f ≤ i
theorem Lining.start (s : ByteArray) : Lining s [] 0 0 := ⟨by simp only [List.nil_append, Nat.sub_self, List.take_zero, List.drop_zero, attach_nil _ (ql_ne _)]; rfl, Nat.le_refl _⟩
theorem Lining.cut {s : ByteArray} {acc : List ByteArray} {f i : Nat} (h : Lining s acc f i) (hi : i < s.size) (hb : s[i] = 10) : Lining s (acc ++ [s.extract f i]) (i + 1) (i + 1) := by
  refine ⟨?_, Nat.le_refl _⟩
  rw [h.eq, drop_byte s i hi, hb, ql_nl, extract_mk, Nat.sub_self, List.take_zero, attach_nil _ (ql_ne _)]
  simp [attach]
theorem Lining.go {s : ByteArray} {acc : List ByteArray} {f i : Nat} (h : Lining s acc f i) (hi : i < s.size) (hb : s[i] ≠ 10) : Lining s acc f (i + 1) := by
  have hle := h.le
  refine ⟨?_, by omega⟩
  have hl : i - f < (s.data.toList.drop f).length := by rw [List.length_drop, Array.length_toList]; have : s.data.size = s.size := rfl; omega
  have e : (s.data.toList.drop f).take (i + 1 - f) = (s.data.toList.drop f).take (i - f) ++ [s[i]] := by
    have hl2 : i < s.data.toList.length := by rw [Array.length_toList]; exact hi
    have h2 : (s.data.toList.drop f)[i - f]? = some s[i] := by rw [List.getElem?_drop, show f + (i - f) = i by omega, List.getElem?_eq_getElem hl2]; rfl
    rw [show i + 1 - f = (i - f) + 1 by omega, List.take_succ_eq_append_getElem hl, (List.getElem?_eq_some_iff.1 h2).2]
  rw [h.eq, drop_byte s i hi, ql, if_neg hb, attach_attach, e]
theorem Lining.fin {s : ByteArray} {acc : List ByteArray} {f i : Nat} (h : Lining s acc f i) (hi : i = s.size) : pieces s = acc ++ [s.extract f s.size] := by
  subst hi
  have e1 : s.data.toList.drop s.size = [] := List.drop_of_length_le (by rw [Array.length_toList]; exact Nat.le_refl _)
  rw [h.eq, extract_mk, e1]
  simp [ql, attach]
theorem Lining.some {s : ByteArray} {acc : List ByteArray} {f i : Nat} (h : Lining s acc f i) (hi : i = s.size) (hf : f < s.size) : linesOf s = acc ++ [s.extract f s.size] := by
  unfold linesOf
  rw [h.fin hi, cutE_snoc, if_neg (by rw [ByteArray.size_extract]; omega)]
theorem Lining.none {s : ByteArray} {acc : List ByteArray} {f i : Nat} (h : Lining s acc f i) (hi : i = s.size) (hf : ¬ f < s.size) : linesOf s = acc := by
  unfold linesOf
  rw [h.fin hi, cutE_snoc, if_pos (by rw [ByteArray.size_extract]; omega)]

/-! ### numbers of a line -/
def numB (p : ByteArray) : Bool := tn p.data.toList
def valB (p : ByteArray) : Int := (val10 p.data.toList : Int)
def numsOf (s : ByteArray) : List Int := if (parts s).all numB then (parts s).map valB else []
theorem nums_yes {s : ByteArray} (h : ∀ p ∈ parts s, numB p = true) : numsOf s = (parts s).map valB := by
  unfold numsOf
  rw [if_pos (List.all_eq_true.2 h)]
theorem nums_no {s p : ByteArray} (hp : p ∈ parts s) (h : numB p = false) : numsOf s = [] := by
  unfold numsOf
  rw [if_neg]
  intro hh
  have := List.all_eq_true.1 hh p hp
  rw [h] at this
  cases this
theorem nums_length (s : ByteArray) : (numsOf s).length ≤ s.size + 1 := by
  have := parts_length s
  unfold numsOf
  split
  · rw [List.length_map]; exact this
  · simp
theorem valB_bd {p : ByteArray} (h : numB p = true) : 0 ≤ valB p ∧ valB p ≤ 281474976710655 := by
  have := (tn_iff _ h).1
  unfold valB
  omega
theorem nums_bd (s : ByteArray) : ∀ x ∈ numsOf s, 0 ≤ x ∧ x ≤ 281474976710655 := by
  intro x hx
  unfold numsOf at hx
  split at hx
  · rename_i h
    obtain ⟨p, hp, rfl⟩ := List.mem_map.1 hx
    exact valB_bd (List.all_eq_true.1 h p hp)
  · simp at hx
theorem pl_one (l : List UInt8) (h : (pl l).length = 1) : pl l = [l] := by
  induction l with
  | nil => rfl
  | cons c r ih =>
    by_cases hc : c = 32
    · rw [pl, if_pos hc, List.length_cons] at h
      have := List.length_pos_iff.mpr (pl_ne r)
      omega
    · have e : (attach [c] (pl r)).length = (pl r).length := by
        have := pl_ne r
        cases hp : pl r with
        | nil => exact absurd hp this
        | cons a t => simp [attach]
      rw [pl, if_neg hc] at h ⊢
      rw [ih (by omega)]
      rfl
theorem tn_digit (l : List UInt8) (h : tn l = true) : ∀ c ∈ l, c ≠ 32 := by
  intro c hc e
  obtain ⟨_, h2⟩ := tn_iff l h
  have := dec_digit (val10 l) c (by rw [h2]; exact hc)
  rw [e] at this
  have h32 : (32 : UInt8).toNat = 32 := rfl
  omega
theorem parts_num {h : ByteArray} (ht : numB h = true) : parts h = [h] := by
  unfold parts
  rw [pl_none _ (tn_digit _ ht)]
  show [mkB h.data.toList] = [h]
  rw [mkB_data]
theorem nums_one {h : ByteArray} (ht : numB h = true) : numsOf h = [valB h] := by
  have e := parts_num ht
  rw [nums_yes (by rw [e]; intro p hp; rw [List.mem_singleton.1 hp]; exact ht), e]
  rfl
theorem nums_not_one {h : ByteArray} (ht : numB h = false) : (numsOf h).length ≠ 1 := by
  intro hl
  unfold numsOf at hl
  split at hl
  · rename_i ha
    rw [List.length_map] at hl
    have h1 : (pl h.data.toList).length = 1 := by
      have : (parts h).length = (pl h.data.toList).length := by unfold parts; rw [List.length_map]
      omega
    have e : parts h = [h] := by
      unfold parts
      rw [pl_one _ h1]
      show [mkB h.data.toList] = [h]
      rw [mkB_data]
    have := List.all_eq_true.1 ha h (by rw [e]; simp)
    rw [ht] at this
    cases this
  · simp at hl

/-! ### what is read -/
def edgeL (N : Int) (s : ByteArray) : Option GE :=
  match numsOf s with
  | [a, b, c] => if a < N ∧ b < N ∧ c ≤ 1000 then some ⟨a, b, c⟩ else none
  | _ => none
/-- What is read: a graph and a code. -/
structure RG where
  N : Int
  es : List GE
  c : Int
def badG (c : Int) : RG := ⟨0, [], c⟩
def readE (N : Int) : List GE → List ByteArray → RG
  | acc, [] => ⟨N, acc, 0⟩
  | acc, s :: r => match edgeL N s with
    | none => badG 1
    | some e => if acc.length = 400 then badG 2 else readE N (acc ++ [e]) r
def readG (s : ByteArray) : RG :=
  if 20000 < s.size then badG 2 else match linesOf s with
    | [] => badG 1
    | h :: r => match numsOf h with
      | [n] => if 150 < n then badG 2 else readE n [] r
      | _ => badG 1
theorem readE_len (N : Int) : ∀ (ls : List ByteArray) (acc : List GE), acc.length ≤ 400 → (readE N acc ls).es.length ≤ 400
  | [], acc, h => h
  | s :: r, acc, h => by
    rw [readE]
    split
    · simp [badG]
    · split
      · simp [badG]
      · exact readE_len N r _ (by simp; omega)
theorem readG_len (s : ByteArray) : (readG s).es.length ≤ 400 := by
  unfold readG
  split
  · simp [badG]
  · split
    · simp [badG]
    · split
      · split
        · simp [badG]
        · exact readE_len _ _ _ (by simp)
      · simp [badG]
theorem readG_long {s : ByteArray} (h : 20000 < s.size) : readG s = badG 2 := by unfold readG; rw [if_pos h]
theorem readG_none {s : ByteArray} (h : ¬ 20000 < s.size) (hl : linesOf s = []) : readG s = badG 1 := by unfold readG; rw [if_neg h, hl]
theorem readG_head {s h : ByteArray} {r : List ByteArray} (hs : ¬ 20000 < s.size) (hl : linesOf s = h :: r) (hn : (numsOf h).length ≠ 1) : readG s = badG 1 := by
  unfold readG
  rw [if_neg hs, hl]
  simp only
  split
  · rename_i n hh; rw [hh] at hn; exact absurd rfl hn
  · rfl
theorem readG_much {s h : ByteArray} {r : List ByteArray} {n : Int} (hs : ¬ 20000 < s.size) (hl : linesOf s = h :: r) (hn : numsOf h = [n]) (hb : 150 < n) : readG s = badG 2 := by
  unfold readG
  rw [if_neg hs, hl]
  simp only [hn]
  rw [if_pos hb]
theorem readG_go {s h : ByteArray} {r : List ByteArray} {n : Int} (hs : ¬ 20000 < s.size) (hl : linesOf s = h :: r) (hn : numsOf h = [n]) (hb : ¬ 150 < n) : readG s = readE n [] r := by
  unfold readG
  rw [if_neg hs, hl]
  simp only [hn]
  rw [if_neg hb]
theorem readE_none {N : Int} {acc : List GE} {s : ByteArray} {r : List ByteArray} (h : edgeL N s = none) : readE N acc (s :: r) = badG 1 := by rw [readE, h]
theorem readE_full {N : Int} {acc : List GE} {s : ByteArray} {r : List ByteArray} {e : GE} (h : edgeL N s = some e) (ha : acc.length = 400) : readE N acc (s :: r) = badG 2 := by rw [readE, h]; simp only; rw [if_pos ha]
theorem readE_step {N : Int} {acc : List GE} {s : ByteArray} {r : List ByteArray} {e : GE} (h : edgeL N s = some e) (ha : acc.length ≠ 400) : readE N acc (s :: r) = readE N (acc ++ [e]) r := by rw [readE, h]; simp only; rw [if_neg ha]
theorem edgeL_len {N : Int} {s : ByteArray} (h : (numsOf s).length ≠ 3) : edgeL N s = none := by
  unfold edgeL
  split
  · rename_i a b c hh; rw [hh] at h; exact absurd rfl h
  · rfl
theorem edgeL_three {N : Int} {s : ByteArray} {a b c : Int} (h : numsOf s = [a, b, c]) : edgeL N s = if a < N ∧ b < N ∧ c ≤ 1000 then some ⟨a, b, c⟩ else none := by
  unfold edgeL
  rw [h]
theorem edgeL_parts {N : Int} {s : ByteArray} (h : (parts s).length ≠ 3) : edgeL N s = none := by
  refine edgeL_len ?_
  unfold numsOf
  split
  · rw [List.length_map]; exact h
  · simp
theorem edgeL_bad {N : Int} {s p : ByteArray} (hp : p ∈ parts s) (h : numB p = false) : edgeL N s = none := edgeL_len (by rw [nums_no hp h]; simp)
theorem edgeL_edge {N : Int} {s : ByteArray} {a b c : Int} (h : numsOf s = [a, b, c]) : edgeL N s = if edgeB N ⟨a, b, c⟩ then some ⟨a, b, c⟩ else none := by
  have hb := nums_bd s
  rw [h] at hb
  have h1 := hb a (by simp)
  have h2 := hb b (by simp)
  have h3 := hb c (by simp)
  rw [edgeL_three h]
  by_cases hh : a < N ∧ b < N ∧ c ≤ 1000
  · rw [if_pos hh, if_pos (show edgeB N ⟨a, b, c⟩ = true from decide_eq_true ⟨h1.1, hh.1, h2.1, hh.2.1, h3.1, hh.2.2⟩)]
  · rw [if_neg hh, if_neg]
    intro he
    have := edgeB_iff he
    exact hh ⟨this.2.1, this.2.2.2.1, this.2.2.2.2.2⟩
end Go.Proofs.YtmbabbapcjphgaaDoor
namespace Go.Proofs.YtmbabbapcjphgaaDoor
open Go.RowKit

theorem r_reads (w : World) (u : Value) (t : TypeId) (g : Nat) (hg : g = w.heap.size) : Reads (w.alloc (.cells #[u] t)) (g + 1) 1 (some ⟨g, 0, none⟩) 1 [u] := by
  subst hg
  refine ⟨rfl, fun _ => ⟨_, rfl, by simp, fun j x hj => ?_⟩⟩
  match j, hj with
  | 0, hj => simp at hj; subst hj; simp [Addr.add]
theorem r_one (x : Int) : ∀ u ∈ [Value.int .i64 x], u.oneCell' = true := by
  intro u hu
  simp at hu
  subst hu
  rfl
theorem r_snoc (xs : List Int) (x : Int) : vi (xs ++ [x]) = vi xs ++ [.int .i64 x] := by rw [vi_append]; rfl
/-- New numbers. -/
def NumsRes (w : World) (xs : List Int) (e : Ending) (w' : World) : Prop :=
  ∃ A c, e = .returned (.slice A xs.length c) ∧ w'.ownsRow w.heap.size 3 1 (.slice A xs.length c) xs.length (vi xs) ∧ Below w.heap.size w w'
/-- A block is not the one that a value lies in. -/
def AwayV (A : Option Addr) (v : Value) : Prop := ∀ b off sp, A = some ⟨b, off, sp⟩ → some b ≠ v.ownBlock
theorem AwayV.step {A : Option Addr} {v v' : Value} {n : Nat} (h : AwayV A v) (hA : ∀ b off sp, A = some ⟨b, off, sp⟩ → b < n) (hv : v'.ownBlock = v.ownBlock ∨ v'.ownBlock = some n) : AwayV A v' := by
  intro b off sp e he
  rcases hv with h3 | h3
  · rw [h3] at he; exact h b off sp e he
  · have := hA b off sp e
    rw [h3] at he
    injection he with he
    omega
theorem RdS.lt {w : World} {A : Option Addr} {n : Nat} {ss : List ByteArray} (h : RdS w A n ss) (hn : 0 < n) : ∀ b off sp, A = some ⟨b, off, sp⟩ → b < w.heap.size := by
  intro b off sp e
  obtain ⟨b', off', e', hb, _⟩ := h.lies hn
  rw [e] at e'
  injection e' with e'
  injection e' with e1 e2 e3
  omega

end Go.Proofs.YtmbabbapcjphgaaDoor
namespace Go.Proofs.YtmbabbapcjphgaaDoor
open Go.RowKit

theorem grown_up {a b c : World} {row r2 : Option Nat} (h : a.grownBy b row) (k : b.grownBy c r2) (hr : ∀ j, r2 = some j → a.heap.size ≤ j) : a.grownBy c row :=
  ⟨k.os.trans h.os, k.tape.trans h.tape, k.output.trans h.output, Nat.le_trans h.size k.size, fun i hi hn => (k.block i (Nat.lt_of_lt_of_le hi h.size) (fun e => by have := hr i e.symm; omega)).trans (h.block i hi hn)⟩
theorem grown_below {a b c : World} {row : Option Nat} (h : a.grownBy b row) (k : Below b.heap.size b c) : a.grownBy c row := grownBy_trans h (grownBy_of_below k row)
theorem grown_set {a b : World} {g i : Nat} (h : a.grownBy b (some g)) (u : Value) : a.grownBy (b.setCell ⟨g, i, none⟩ u) (some g) :=
  ⟨h.os, h.tape, h.output, by simpa using h.size, fun j hj hn => (Below.heap_setCell b ⟨g, i, none⟩ u j (fun e => hn (by rw [e]))).trans (h.block j hj hn)⟩
theorem grown_drew {a b : World} {row : Option Nat} (h : a.grownBy b row) : a.grownBy b.drew row := ⟨h.os, h.tape, h.output, h.size, h.block⟩

/-- A block of two cells that may be written. -/
structure DBox (w : World) (b : Nat) (v0 v1 : Value) : Prop where
  lt : b < w.heap.size
  c0 : w.cell? ⟨b, 0, none⟩ = some v0
  c1 : w.cell? ⟨b, 1, none⟩ = some v1
  f : ∀ i, w.frozen? ⟨b, i, none⟩ = false
section
variable {w w' : World} {b : Nat} {v0 v1 : Value}
theorem DBox.keep (h : DBox w b v0 v1) (hs : w.heap.size ≤ w'.heap.size) (hk : w'.heap[b]? = w.heap[b]?) : DBox w' b v0 v1 :=
  ⟨Nat.lt_of_lt_of_le h.lt hs, (World.cell?_of_block (a := ⟨b, 0, none⟩) hk).trans h.c0, (World.cell?_of_block (a := ⟨b, 1, none⟩) hk).trans h.c1, fun i => (World.frozen?_of_block (a := ⟨b, i, none⟩) hk).trans (h.f i)⟩
theorem DBox.below (h : DBox w b v0 v1) (hb : Below w.heap.size w w') : DBox w' b v0 v1 := h.keep hb.size (hb.block b h.lt)
theorem DBox.grown {row : Option Nat} (h : DBox w b v0 v1) (hg : w.grownBy w' row) (hr : row ≠ some b) : DBox w' b v0 v1 := h.keep hg.size (hg.block b h.lt (fun e => hr e.symm))
theorem DBox.new (w : World) (v0 v1 : Value) (t : TypeId) : DBox (w.alloc (.cells #[v0, v1] t)) w.heap.size v0 v1 := ⟨by simp, by simp, by simp, fun i => by simp⟩
theorem DBox.alloc (h : DBox w b v0 v1) (o : Obj) : DBox (w.alloc o) b v0 v1 := h.below (below_a1 w o)
theorem DBox.drew (h : DBox w b v0 v1) : DBox w.drew b v0 v1 := ⟨h.lt, h.c0, h.c1, h.f⟩
theorem DBox.far (h : DBox w b v0 v1) {p : Addr} (hp : b ≠ p.block) (u : Value) : DBox (w.setCell p u) b v0 v1 := h.keep (by simp) (Below.heap_setCell w p u b hp)
theorem DBox.set1 (h : DBox w b v0 v1) (u : Value) : DBox (w.setCell ⟨b, 1, none⟩ u) b v0 u :=
  ⟨by simpa using h.lt, by rw [World.cell?_setCell_other _ _ _ _ (by simp)]; exact h.c0, World.cell?_setCell_same' _ _ _ (by rw [h.c1]; rfl), fun i => by simpa using h.f i⟩
end

theorem three_reads (w : World) (a b c : Int) (t : TypeId) (g : Nat) (hg : g = w.heap.size) : Reads (w.alloc (.cells #[.int .i64 a, .int .i64 b, .int .i64 c] t)) (g + 1) 3 (some ⟨g, 0, none⟩) 1 [.int .i64 a, .int .i64 b, .int .i64 c] := by
  subst hg
  refine ⟨rfl, fun _ => ⟨_, rfl, by simp, fun j x hj => ?_⟩⟩
  match j, hj with
  | 0, hj => simp at hj; subst hj; simp [Addr.add]
  | 1, hj => simp at hj; subst hj; simp [Addr.add]
  | 2, hj => simp at hj; subst hj; simp [Addr.add]
theorem own_formG {w : World} {base e size n : Nat} {v : Value} {xs : List Value} (h : w.ownsRow base e size v n xs) : ∃ A c, v = .slice A n c ∧ n ≤ c := by
  rcases h.2 with ⟨rfl, rfl⟩ | ⟨g, cap, _, rfl, _, _, hc, _⟩
  · exact ⟨_, _, rfl, Nat.le_refl _⟩
  · exact ⟨_, _, rfl, hc⟩
end Go.Proofs.YtmbabbapcjphgaaDoor
namespace Go.Proofs.YtmbabbapcjphgaaDoor
open Go.RowKit

/-! ### slices of strings cut short -/
theorem strElem : Tryd.prog.underlying 92 = some (.slice (Tryd.prog.elem 92)) := by simp [Program.elem, Tryd.underlying92]
theorem strElem' : Tryd.prog.elem 92 = 9 := by simp [Program.elem, Tryd.underlying92]
theorem strSize (w : World) : (Go.sizeOf 9).run Tryd.prog w = .ok 1 w := by kernel_rfl
theorem r_add (b off k : Nat) : (⟨b, off, none⟩ : Addr).add k = ⟨b, off + k, none⟩ := by unfold Addr.add; split <;> simp_all
theorem rest_from {P : Option Addr} {n c : Nat} {ss : List ByteArray} {w : World} (hr : RdS w P n ss) (h1 : 1 ≤ n) (hc : n ≤ c) :
    ∃ P', (∀ W, (Instr.slice 92 (.slice P n c) (some (.int .i64 1)) none none).run Tryd.prog W = .ok (.slice P' (n - 1) (c - 1)) W) ∧ RdS w P' (n - 1) (ss.drop 1) := by
  refine ⟨if c = 1 then P else P.map (·.add (1 * 1)), fun W => ?_, ?_⟩
  · rw [run_slice_l W _ _ _ _ strElem .i64 1 (by omega) (by omega), strElem', strSize]
    rfl
  · obtain ⟨b, off, rfl, hb, hcell⟩ := hr.lies (by omega)
    have hl := hr.len
    refine ⟨by rw [List.length_drop, hl], fun hn => ?_⟩
    rw [if_neg (by omega)]
    refine ⟨b, off + 1, by simp [r_add], hb, fun j s hs => ?_⟩
    rw [List.getElem?_drop] at hs
    rw [Nat.add_assoc]
    exact hcell (1 + j) s hs
theorem most_to {P : Option Addr} {n c m : Nat} {ss : List ByteArray} {w : World} (hr : RdS w P n ss) (hm : m ≤ n) (hc : n ≤ c) :
    ∃ P', (∀ W, (Instr.slice 92 (.slice P n c) none (some (.int .i64 (m : Int))) none).run Tryd.prog W = .ok (.slice P' m c) W) ∧ RdS w P' m (ss.take m) := by
  refine ⟨if c = 0 then P else P.map (·.add (0 * 1)), fun W => ?_, ?_⟩
  · rw [run_slice_h W _ _ _ _ strElem .i64 (m : Int) (by omega) (by omega), strElem', strSize, Int.toNat_natCast]
    rfl
  · have hl := hr.len
    refine ⟨by rw [List.length_take]; omega, fun hn => ?_⟩
    obtain ⟨b, off, rfl, hb, hcell⟩ := hr.lies (by omega)
    rw [if_neg (by omega)]
    refine ⟨b, off, by simp [r_add], hb, fun j s hs => hcell j s ?_⟩
    rw [List.getElem?_take] at hs
    split at hs
    · exact hs
    · cases hs

/-! ### what reading leaves -/
def ReadRes (w : World) (r : RG) (e : Ending) (w' : World) : Prop :=
  ∃ A c, e = .returned (.tuple #[.agg #[.int .i64 r.N, .slice A r.es.length c], .int .i64 r.c]) ∧ w'.ownsRow w.heap.size 45 3 (.slice A r.es.length c) r.es.length (r.es.flatMap GE.cells) ∧ Below w.heap.size w w'
theorem below_two {w W : World} (hb : Below w.heap.size w W) (u v : Value) : Below w.heap.size w ((W.setCell ⟨w.heap.size, 0, none⟩ u).setCell ⟨w.heap.size, 1, none⟩ v) :=
  (hb.setCell (p := ⟨w.heap.size, 0, none⟩) (Nat.le_refl _) _).setCell (p := ⟨w.heap.size, 1, none⟩) (Nat.le_refl _) _
theorem read_bad {w W : World} (c : Int) (hb : Below w.heap.size w W) (u v : Value) : ReadRes w (badG c) (.returned (.tuple #[.agg #[.int .i64 0, .slice none 0 0], .int .i64 c])) ((W.setCell ⟨w.heap.size, 0, none⟩ u).setCell ⟨w.heap.size, 1, none⟩ v) :=
  ⟨none, 0, rfl, World.ownsRow_nil _ _ _ _, below_two hb _ _⟩
theorem read_fine {w W : World} {N : Int} {A : Option Addr} {n c lo : Nat} {es : List GE} (hb : Below w.heap.size w W) (ho : W.ownsRow lo 45 3 (.slice A n c) n (es.flatMap GE.cells)) (hn : es.length = n) (hlo : w.heap.size < lo) (u v : Value) :
    ReadRes w ⟨N, es, 0⟩ (.returned (.tuple #[.agg #[.int .i64 N, .slice A n c], .int .i64 0])) ((W.setCell ⟨w.heap.size, 0, none⟩ u).setCell ⟨w.heap.size, 1, none⟩ v) := by
  subst hn
  exact ⟨A, c, rfl, own_monoG (own_lowG (own_lowG ho (p := ⟨w.heap.size, 0, none⟩) hlo u) (p := ⟨w.heap.size, 1, none⟩) hlo v) (Nat.le_of_lt hlo), below_two hb _ _⟩
theorem flat_snocG (es : List GE) (e : GE) : (es ++ [e]).flatMap GE.cells = es.flatMap GE.cells ++ [.int .i64 e.f, .int .i64 e.t, .int .i64 e.w] := by
  rw [List.flatMap_append]
  rfl
theorem ReadRes.drew {w w' : World} {r : RG} {e : Ending} (h : ReadRes w r e w') : ReadRes w r e w'.drew := by
  obtain ⟨A, c, h1, h2, h3⟩ := h
  exact ⟨A, c, h1, h2, h3.drew⟩
end Go.Proofs.YtmbabbapcjphgaaDoor
