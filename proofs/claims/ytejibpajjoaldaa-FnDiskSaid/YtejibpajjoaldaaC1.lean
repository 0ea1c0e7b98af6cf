/- Words for slices of bytes (plain lemmas over the model; no condition): 'Rd w A n xs': the slice at A of length n reads in w as the bytes xs; what the call itself owns ('ownsRow') reads so; a reading is kept where nothing old is written. // Bits of int (64 bits) at numbers that are not negative: 'or' and 'xor' are those of the natural numbers; an 'or' onto free low bits is a sum. // What a call that makes a new slice of bytes leaves; the row of the table of types for bytes. // A slice that reads as a list of cells, nil let in, and 'append' of such a slice onto a row of the call's own (after the guide's words for memory); its use for slices of bytes. // A slice of bytes as a string: what the conversion gives, and when two such strings are the same. // The contracts of the two helpers of the laws: 'toByteS' makes a copy of a slice of bytes in new memory; 'eqByteS' of two slices that read as the same bytes returns true and writes nothing. Condition: at most 2^21 bytes. // What a writer of numbers leaves; the digits of numbers of variable length; words for an append of one byte. // The contract of slices.Clone at bytes. Condition: at most 2^21 bytes. -/
import Derived.Below
import Derived.BigQuiet
import Derived.Deep.AppendLies
import Derived.Deep.Draws
import Derived.Deep.QuietTactic
import Derived.Laws.BitsAllLaws
import Derived.Laws.BitsLemmas
import Derived.Laws.BytesArg
import Derived.Laws.OwnMore
import Derived.Laws.Rows
import Derived.Lib.Hide
import Derived.Lib.SlBytesRow
import Derived.Maps.AppendAt
import Derived.OpenShut
import Derived.OwnWalk
import Derived.RegionTactic
import Derived.Shelf.Bytes.SlSmallAll
import Derived.WalkKit
import Derived.WalkSpells
import Derived.Test.YtejibpajjoaldaaRows
namespace Go.Proofs.Ytejibpajjoaldaa
open Go.RowKit

def vb (xs : List Nat) : List Value := xs.map fun n : Nat => .int .u8 (n : Int)
theorem vb_length (xs : List Nat) : (vb xs).length = xs.length := by simp [vb]
theorem vb_append (xs ys : List Nat) : vb (xs ++ ys) = vb xs ++ vb ys := by simp [vb]
theorem vb_one (x : Nat) : vb [x] = [.int .u8 (x : Int)] := rfl
theorem vb_get (xs : List Nat) (j : Nat) : (vb xs)[j]? = (xs[j]?).map fun n : Nat => .int .u8 (n : Int) := by simp [vb]
theorem vb_oneCell (xs : List Nat) : ∀ u ∈ vb xs, u.oneCell' = true := by
  intro u hu
  simp only [vb, List.mem_map] at hu
  obtain ⟨n, _, rfl⟩ := hu
  rfl

theorem grownBy_trans {a b c : World} {row : Option Nat} (h : a.grownBy b row) (k : b.grownBy c row) : a.grownBy c row :=
  ⟨k.os.trans h.os, k.tape.trans h.tape, k.output.trans h.output, Nat.le_trans h.size k.size, fun i hi hn => (k.block i (Nat.lt_of_lt_of_le hi h.size) hn).trans (h.block i hi hn)⟩
theorem grownBy_drewN {a w : World} {row : Option Nat} (h : a.grownBy w row) (n : Nat) : a.grownBy (w.drewN n) row := ⟨h.os, h.tape, h.output, h.size, h.block⟩
theorem below_drewN {B : Nat} {a w : World} (h : Below B a w) (n : Nat) : Below B a (w.drewN n) := ⟨h.os, h.tape, h.output, h.size, h.block⟩

/-- The slice value '.slice A n c' reads in w as the bytes xs. -/
structure Rd (w : World) (A : Option Addr) (n : Nat) (xs : List Nat) : Prop where
  len : xs.length = n
  small : ∀ x ∈ xs, x < 256
  lies : 0 < n → ∃ b off, A = some ⟨b, off, none⟩ ∧ b < w.heap.size ∧ ∀ (j : Nat) (x : Nat), xs[j]? = some x → w.cell? ⟨b, off + j, none⟩ = some (.int .u8 (x : Int))

section
variable {w w' : World} {A : Option Addr} {n : Nat} {xs : List Nat}
theorem Rd.at_ {k : Nat} (h : Rd w A n xs) (hk : k < n) : ∃ (b off x : Nat), A = some ⟨b, off, none⟩ ∧ b < w.heap.size ∧ x < 256 ∧ Hid (xs[k]? = some x) ∧ w.cell? ⟨b, off + k, none⟩ = some (.int .u8 (x : Int)) := by
  obtain ⟨b, off, rfl, hb, hc⟩ := h.lies (by omega)
  have hl : k < xs.length := by have := h.len; omega
  exact ⟨b, off, xs[k], rfl, hb, h.small _ (List.getElem_mem hl), List.getElem?_eq_getElem hl, hc k _ (List.getElem?_eq_getElem hl)⟩
theorem Rd.keep (h : Rd w A n xs) (hs : w.heap.size ≤ w'.heap.size) (hk : ∀ p : Addr, p.block < w.heap.size → w'.cell? p = w.cell? p) : Rd w' A n xs :=
  ⟨h.len, h.small, fun hn => by
    obtain ⟨b, off, e, hb, hc⟩ := h.lies hn
    exact ⟨b, off, e, by omega, fun j u hu => (hk _ hb).trans (hc j u hu)⟩⟩
theorem Rd.below (h : Rd w A n xs) (hb : Below w.heap.size w w') : Rd w' A n xs := h.keep hb.size fun _ hp => hb.cell hp
theorem Rd.drewN (h : Rd w A n xs) (k : Nat) : Rd (w.drewN k) A n xs := ⟨h.len, h.small, h.lies⟩
theorem Rd.drew (h : Rd w A n xs) : Rd w.drew A n xs := ⟨h.len, h.small, h.lies⟩
theorem Rd.alloc (h : Rd w A n xs) (o : Obj) : Rd (w.alloc o) A n xs := h.keep (by simp) fun p hp => World.cell?_alloc_lt w o p hp
theorem Rd.nil : Rd w A 0 [] := ⟨rfl, by simp, fun h => absurd h (by omega)⟩
theorem Rd.other {row : Option Nat} (h : Rd w A n xs) (hg : w.grownBy w' row) (hr : ∀ b off sp, A = some ⟨b, off, sp⟩ → some b ≠ row) : Rd w' A n xs :=
  ⟨h.len, h.small, fun hn => by
    obtain ⟨b, off, e, hb, hc⟩ := h.lies hn
    have := hg.size
    exact ⟨b, off, e, by omega, fun j u hu => (World.cell?_of_block (hg.block b hb (hr _ _ _ e))).trans (hc j u hu)⟩⟩
/-- What the call owns reads as its bytes. -/
theorem Rd.of_own {base e c : Nat} (h : w.ownsRow base e 1 (.slice A n c) n (vb xs)) (hs : ∀ x ∈ xs, x < 256) : Rd w A n xs := by
  have hl : xs.length = n := by have := h.1; rw [vb_length] at this; omega
  refine ⟨hl, hs, fun hn => ?_⟩
  obtain ⟨g, cap, hv, _, hlt⟩ := h.form hn
  have hA : A = some ⟨g, 0, none⟩ := by injection hv
  subst hA
  refine ⟨g, 0, rfl, hlt, fun j u hu => ?_⟩
  have := h.cells (g := g) rfl j (.int .u8 (u : Int)) (by rw [vb_get, hu]; rfl)
  have hx : ((⟨g, 0, none⟩ : Addr).add j) = ⟨g, 0 + j, none⟩ := by unfold Addr.add; split <;> simp_all
  rw [hx] at this
  exact this
end

theorem grownBy_of_below {w w' : World} (h : Below w.heap.size w w') (row : Option Nat) : w.grownBy w' row := ⟨h.os, h.tape, h.output, h.size, fun i hi _ => h.block i hi⟩
/-- What is owned stays owned where nothing old is written. -/
theorem own_below {w w' : World} {base e size n : Nat} {v : Value} {xs : List Value} (h : w.ownsRow base e size v n xs) (hb : Below w.heap.size w w') : w'.ownsRow base e size v n xs :=
  h.kept (grownBy_of_below hb none) (by cases v.ownBlock <;> simp)
theorem own_drewN {w : World} {base e size n : Nat} {v : Value} {xs : List Value} (h : w.ownsRow base e size v n xs) (k : Nat) : (w.drewN k).ownsRow base e size v n xs := h
theorem own_cap {w : World} {base e n c : Nat} {A : Option Addr} {xs : List Value} (h : w.ownsRow base e 1 (.slice A n c) n xs) : n ≤ c := by
  rcases h.2 with ⟨h', h0⟩ | ⟨g, cap, _, h', _, _, hc, _⟩
  · omega
  · injection h' with _ _ h3; omega
/-- A row that lay before another was made is not that other one. -/
theorem ne_of_before {w1 w2 : World} {b1 b2 e1 e2 n m c d s1 s2 : Nat} {A B : Option Addr} {xs ys : List Value} (h1 : w1.ownsRow b1 e1 s1 (.slice A n c) n xs) (h2 : w2.ownsRow b2 e2 s2 (.slice B m d) m ys) (hle : w1.heap.size ≤ b2) :
    ∀ b off sp, A = some ⟨b, off, sp⟩ → some b ≠ (Value.slice B m d).ownBlock := by
  rintro b off sp rfl he
  have := (h1.lt b rfl).2
  have := (h2.lt b he.symm).1
  omega
theorem ne_of_after {w1 w2 : World} {b1 b2 e1 e2 n m c d s1 s2 : Nat} {A B : Option Addr} {xs ys : List Value} (h1 : w1.ownsRow b1 e1 s1 (.slice A n c) n xs) (h2 : w2.ownsRow b2 e2 s2 (.slice B m d) m ys) (hle : w2.heap.size ≤ b1) :
    ∀ b off sp, A = some ⟨b, off, sp⟩ → some b ≠ (Value.slice B m d).ownBlock := by
  rintro b off sp rfl he
  have := (h1.lt b rfl).1
  have := (h2.lt b he.symm).2
  omega
/-- The same for what is owned. -/
theorem own_other {w w' : World} {base e size n c : Nat} {A : Option Addr} {xs : List Value} {row : Option Nat} (h : w.ownsRow base e size (.slice A n c) n xs) (hg : w.grownBy w' row) (hr : ∀ b off sp, A = some ⟨b, off, sp⟩ → some b ≠ row) : w'.ownsRow base e size (.slice A n c) n xs := by
  refine h.kept hg ?_
  rcases A with _ | ⟨b, off, sp⟩
  · exact .inl rfl
  · exact .inr (hr b off sp rfl)
theorem below_mark {w wr w' : World} {base e size n c : Nat} {A : Option Addr} {xs : List Value} (hb : Below w.heap.size w wr) (hg : wr.grownBy w' (Value.slice A n c).ownBlock) (ho : wr.ownsRow base e size (.slice A n c) n xs) (hle : w.heap.size ≤ base) : Below w.heap.size w w' :=
  hb.grown hg hb.size (fun k hk => Nat.le_trans hle (ho.lt k hk).1)

/-- What a slice of bytes that came in is told as (the shell's word), read as bytes. -/
def IsRow (k : IntKind) (w : World) (a : Option Addr) (len cap : Nat) (zs : List Int) : Prop :=
  (a = none ∧ len = 0 ∧ cap = 0 ∧ zs = []) ∨
  ∃ x, a = some x ∧ len ≤ cap ∧ cap ≤ maxLen ∧ zs.length = cap ∧ (∀ i, i < zs.length → w.cell? (x.add i) = some (.int k (zs.getD i 0))) ∧ ∀ n ∈ zs, (Lit.int k n).wf = true

theorem IsRow.rd {w : World} {a : Option Addr} {len cap : Nat} {zs : List Int} (h : IsRow .u8 w a len cap zs) : len ≤ cap ∧ cap ≤ maxLen ∧ ∃ xs, Rd w a len xs := by
  rcases h with ⟨rfl, rfl, rfl, rfl⟩ | ⟨x, rfl, hl, hm, hz, hcell, hwz⟩
  · exact ⟨Nat.le_refl _, by unfold maxLen; omega, [], Rd.nil⟩
  · refine ⟨hl, hm, (zs.take len).map Int.toNat, ?_, ?_, ?_⟩
    · simp; omega
    · intro y hy
      simp only [List.mem_map] at hy
      obtain ⟨z, hzm, rfl⟩ := hy
      have := hwz z (List.mem_of_mem_take hzm)
      have := bounds_u8 this
      omega
    · intro hn
      obtain ⟨b, off, spot⟩ := x
      have hc := hcell 0 (by omega)
      have hspot : spot = none := by simpa [Addr.add] using World.cell?_spot hc
      subst hspot
      refine ⟨b, off, rfl, World.block_lt_of_cell? w _ hc, fun j u hu => ?_⟩
      have hj : j < len := by have := (List.getElem?_eq_some_iff.1 hu).1; simp at this; omega
      have h1 := hcell j (by omega)
      have hx : ((⟨b, off, none⟩ : Addr).add j) = ⟨b, off + j, none⟩ := by unfold Addr.add; split <;> simp_all
      rw [hx] at h1
      rw [h1]
      have hjz : j < zs.length := by omega
      have hw := bounds_u8 (hwz _ (List.getElem_mem hjz))
      simp only [List.getElem?_map, List.getElem?_take, if_pos hj, List.getElem?_eq_getElem hjz, Option.map_some, Option.some.injEq] at hu
      simp only [List.getD_eq_getElem?_getD, List.getElem?_eq_getElem hjz, Option.getD_some]
      rw [← hu, Int.toNat_of_nonneg hw.1]
end Go.Proofs.Ytejibpajjoaldaa
namespace Go.Proofs.Ytejibpajjoaldaa
open Go.RowKit

theorem toNat_ofInt64 (a : Nat) (ha : a < 9223372036854775808) : (BitVec.ofInt 64 (a : Int)).toNat = a := by
  rw [BitVec.ofInt_natCast, BitVec.toNat_ofNat]; exact Nat.mod_eq_of_lt (by omega)
theorem or64 (a b : Nat) (ha : a < 9223372036854775808) (hb : b < 9223372036854775808) : bits .or .i64 (a : Int) (b : Int) = ((a ||| b : Nat) : Int) := by
  have hx : a ||| b < 2 ^ 63 := Nat.or_lt_two_pow (by omega) (by omega)
  show IntKind.i64.wrap ((BitVec.ofInt 64 (a : Int) ||| BitVec.ofInt 64 (b : Int)).toNat : Int) = _
  rw [BitVec.toNat_or, toNat_ofInt64 a ha, toNat_ofInt64 b hb, IntKind.wrap_i64]
  omega
theorem xor64 (a b : Nat) (ha : a < 9223372036854775808) (hb : b < 9223372036854775808) : bits .xor .i64 (a : Int) (b : Int) = ((a ^^^ b : Nat) : Int) := by
  have hx : a ^^^ b < 2 ^ 63 := Nat.xor_lt_two_pow (by omega) (by omega)
  show IntKind.i64.wrap ((BitVec.ofInt 64 (a : Int) ^^^ BitVec.ofInt 64 (b : Int)).toNat : Int) = _
  rw [BitVec.toNat_xor, toNat_ofInt64 a ha, toNat_ofInt64 b hb, IntKind.wrap_i64]
  omega
theorem or_mul_pow (m x i : Nat) (hx : x < 2 ^ i) : (m * 2 ^ i) ||| x = m * 2 ^ i + x := by
  rw [Nat.mul_comm, ← Nat.two_pow_add_eq_or_of_lt hx]
theorem or256 (m x : Nat) (hm : m < 1099511627776) (hx : x < 256) : bits .or .i64 ((m : Int) * 256) (x : Int) = (m : Int) * 256 + x := by
  have h3 : (m : Int) * 256 = (((m * 256 : Nat)) : Int) := by omega
  have h4 : (m : Int) * 256 + x = (((m * 256 + x : Nat)) : Int) := by omega
  rw [h4, h3, or64 (m * 256) x (by omega) (by omega)]
  exact congrArg _ (or_mul_pow m x 8 (by omega))
theorem or128_all : ∀ x : Fin 256, bits .or .u8 (x.val : Int) 128 = ((x.val % 128 + 128 : Nat) : Int) := by decide +kernel
theorem or128 (r : Nat) : bits .or .u8 ((r : Int) % 256) 128 = ((r % 128 + 128 : Nat) : Int) := by
  have h := or128_all ⟨r % 256, by omega⟩
  have e1 : (r : Int) % 256 = ((r % 256 : Nat) : Int) := by omega
  have e2 : r % 256 % 128 = r % 128 := by omega
  rw [e1, ← e2]
  exact h
end Go.Proofs.Ytejibpajjoaldaa
namespace Go.Proofs.Ytejibpajjoaldaa
open Go.RowKit

theorem Try.infoByte : (Try.prog.info? 5).map (fun i => (i.zero, i.size, i.bytes)) = some (some (.int .u8 0), 1, 1) := by kernel_rfl

/-- What a call that makes a new slice of bytes leaves. -/
def Made (w : World) (n : Nat) (xs : List Nat) (e : Ending) (w' : World) : Prop :=
  ∃ A c, e = .returned (.slice A n c) ∧ w'.ownsRow w.heap.size 5 1 (.slice A n c) n (vb xs) ∧ Below w.heap.size w w'
end Go.Proofs.Ytejibpajjoaldaa
namespace Go.Proofs.Ytejibpajjoaldaa
open Go.RowKit

theorem block_of_add (a : Addr) (n : Nat) : (a.add n).block = a.block := by unfold Addr.add; split <;> rfl
theorem add_of_add (a : Addr) (i j : Nat) : (a.add i).add j = a.add (i + j) := by
  unfold Addr.add
  by_cases hi : i = 0 <;> by_cases hj : j = 0 <;> simp [hi, hj, Nat.add_assoc]

def Reads (w : World) (B size : Nat) (A : Option Addr) (n : Nat) (xs : List Value) : Prop :=
  xs.length = n * size ∧ (0 < n → ∃ ad, A = some ad ∧ ad.block < B ∧ ∀ j u, xs[j]? = some u → w.cell? (ad.add j) = some u)

section
variable {w w' : World} {B B' size n : Nat} {A : Option Addr} {xs : List Value}
theorem Reads.none_ : Reads w B size A 0 [] := ⟨by simp, fun h => absurd h (by omega)⟩
theorem Reads.at_ {k : Nat} (h : Reads w B 1 A n xs) (hk : k < n) : ∃ ad u, A = some ad ∧ ad.block < B ∧ xs[k]? = some u ∧ w.cell? (ad.add k) = some u := by
  obtain ⟨ad, e, hb, hc⟩ := h.2 (by omega)
  have hl : k < xs.length := by have := h.1; omega
  exact ⟨ad, xs[k], e, hb, List.getElem?_eq_getElem hl, hc k _ (List.getElem?_eq_getElem hl)⟩
theorem Reads.keep (h : Reads w B size A n xs) (hk : ∀ p : Addr, p.block < B → w'.cell? p = w.cell? p) : Reads w' B size A n xs :=
  ⟨h.1, fun hn => by
    obtain ⟨ad, e, hb, hc⟩ := h.2 hn
    exact ⟨ad, e, hb, fun j u hu => (hk _ (by rw [block_of_add]; exact hb)).trans (hc j u hu)⟩⟩
theorem Reads.more (h : Reads w B size A n xs) (hB : B ≤ B') : Reads w B' size A n xs :=
  ⟨h.1, fun hn => by
    obtain ⟨ad, e, hb, hc⟩ := h.2 hn
    exact ⟨ad, e, by omega, hc⟩⟩
theorem Reads.below (h : Reads w B size A n xs) (hb : Below B w w') : Reads w' B size A n xs := h.keep fun _ hp => hb.cell hp
theorem Reads.drew (h : Reads w B size A n xs) : Reads w.drew B size A n xs := h
theorem Reads.drewN (h : Reads w B size A n xs) (k : Nat) : Reads (w.drewN k) B size A n xs := h
theorem Reads.alloc (h : Reads w B size A n xs) (hB : B ≤ w.heap.size) (o : Obj) : Reads (w.alloc o) B size A n xs := h.keep fun p hp => World.cell?_alloc_lt w o p (by omega)
theorem Reads.setCell (h : Reads w B size A n xs) {p : Addr} (hB : B ≤ p.block) (u : Value) : Reads (w.setCell p u) B size A n xs :=
  h.keep fun q hq => World.cell?_setCell_other w p q u (fun e => by subst e; omega)
theorem Reads.grown (h : Reads w B size A n xs) {row : Option Nat} (hg : w.grownBy w' row) (hB : B ≤ w.heap.size) (hr : ∀ g, row = some g → B ≤ g) : Reads w' B size A n xs :=
  h.keep fun p hp => World.cell?_of_block (hg.block p.block (by omega) (fun e => by have := hr _ e.symm; omega))
theorem Reads.cut (h : Reads w B size A n xs) {k cap : Nat} (hk : k ≤ n) (hc : n ≤ cap) :
    Reads w B size (if cap = k then A else A.map (·.add (k * size))) (n - k) (xs.drop (k * size)) := by
  refine ⟨by rw [List.length_drop, h.1, Nat.sub_mul], fun hn => ?_⟩
  obtain ⟨ad, rfl, hb, hcell⟩ := h.2 (by omega)
  rw [if_neg (by omega)]
  refine ⟨ad.add (k * size), rfl, by rw [block_of_add]; exact hb, fun j u hu => ?_⟩
  rw [add_of_add]
  exact hcell _ u (by rw [← hu, List.getElem?_drop])
theorem Reads.of_own {base : Nat} {e : TypeId} {c : Nat} (h : w.ownsRow base e size (.slice A n c) n xs) : Reads w w.heap.size size A n xs := by
  refine ⟨h.1, fun hn => ?_⟩
  obtain ⟨g, cap, hv, _, hlt⟩ := h.form hn
  have hA : A = some ⟨g, 0, none⟩ := by injection hv
  subst hA
  exact ⟨_, rfl, hlt, h.cells (g := g) rfl⟩
end

section
variable {P : Program} (w : World)

theorem run_append_of_nil (base : Nat) (t ty e : TypeId) (i : TypeInfo) (size : Nat) (ht : P.underlying t = some (.slice e)) (hi : P.info? e = some i)
    (v : Value) (n : Nat) (xs : List Value) (hown : w.ownsRow base e size v n xs) (c : Nat) : (Builtin.append_ #[t, t] ty #[v, .slice none 0 c]).run P w = .ok v w := by
  rcases hown.2 with ⟨rfl, rfl⟩ | ⟨g, cap, cur, rfl, _, _, hnc, _⟩
  · simp [Builtin.append_, run_underlying ht, sizeOf, typeInfo, hi, Builtin.lenOf, Builtin.firstCells]
  · simp [Builtin.append_, run_underlying ht, sizeOf, typeInfo, hi, Builtin.lenOf, Builtin.firstCells, hnc, storeCells]

theorem run_append_any (base : Nat) (t ty e : TypeId) (i : TypeInfo) (z : Value) (size bytes : Nat) (ht : P.underlying t = some (.slice e)) (hi : P.info? e = some i) (hz : i.zero = some z)
    (hsize : i.size = size) (hby : i.bytes = bytes) (hzs : z.cells.size = size) (hsz : 0 < size)
    (v : Value) (n : Nat) (xs : List Value) (hown : w.ownsRow base e size v n xs)
    (B : Nat) (A : Option Addr) (m c : Nat) (news : List Value) (hr : Reads w B size A m news) (h1 : ∀ u ∈ news, u.oneCell' = true)
    (h63 : n + m ≤ maxLen) (hbytes : (n + m) * bytes ≤ 140737488355328) (hbase : base ≤ w.heap.size) :
    ∃ v' w', (Builtin.append_ #[t, t] ty #[v, .slice A m c]).run P w = .ok v' w' ∧ w'.ownsRow base e size v' (n + m) (xs ++ news) ∧ w.grownBy w' v.ownBlock ∧
      (v'.ownBlock = v.ownBlock ∨ v'.ownBlock = some w.heap.size) := by
  rcases A with _ | ad
  · have hm : m = 0 := by
      rcases Nat.eq_zero_or_pos m with h0 | h0
      · exact h0
      · obtain ⟨ad, h, _⟩ := hr.2 h0
        cases h
    subst hm
    have hn : news = [] := List.eq_nil_of_length_eq_zero (by simpa using hr.1)
    subst hn
    exact ⟨v, w, run_append_of_nil w base t ty e i size ht hi v n xs hown c, by simpa using hown, World.grownBy.refl w _, .inl rfl⟩
  · have hcells : ∀ j u, news[j]? = some u → w.cell? (ad.add j) = some u := by
      intro j u hu
      rcases Nat.eq_zero_or_pos m with h0 | h0
      · subst h0
        have hn : news = [] := List.eq_nil_of_length_eq_zero (by simpa using hr.1)
        subst hn
        simp at hu
      · obtain ⟨ad', h, _, hc⟩ := hr.2 h0
        injection h with h
        subst h
        exact hc j u hu
    obtain ⟨v', w', hrun, h2, h3, _, h5⟩ := run_append_own_at (P := P) w base t ty e i z size bytes ht hi hz hsize hby hzs hsz v n xs hown ad m c news hr.1 hcells h1 h63 hbytes hbase
    exact ⟨v', w', hrun, h2, h3, h5⟩

theorem wp_append_any {o : Oper} {a : Act} {K : Act → World → Prop} {Q : Exit → Act → World → Prop} (s x : Operand) (t : TypeId)
    (ho : o.op = .call { callee := .builtin .append, args := #[s, x], argTypes := #[t, t] })
    (base : Nat) (e : TypeId) (i : TypeInfo) (z : Value) (size bytes : Nat) (ht : P.underlying t = some (.slice e)) (hi : P.info? e = some i) (hz : i.zero = some z)
    (hsize : i.size = size) (hby : i.bytes = bytes) (hzs : z.cells.size = size) (hsz : 0 < size)
    (v : Value) (n : Nat) (xs : List Value) (hs : a.eval s = v) (hown : w.ownsRow base e size v n xs)
    (B : Nat) (A : Option Addr) (m c : Nat) (news : List Value) (hx : a.eval x = .slice A m c) (hr : Reads w B size A m news) (h1 : ∀ u ∈ news, u.oneCell' = true)
    (h63 : n + m ≤ maxLen) (hbytes : (n + m) * bytes ≤ 140737488355328) (hbase : base ≤ w.heap.size)
    (h : ∀ v' w', w'.ownsRow base e size v' (n + m) (xs ++ news) → w.grownBy w' v.ownBlock → (v'.ownBlock = v.ownBlock ∨ v'.ownBlock = some w.heap.size) → K (a.put o.dst v') w') : o.wp P a w K Q := by
  obtain ⟨v', w', hrun, h2, h3, h4⟩ := run_append_any (P := P) w base t o.type e i z size bytes ht hi hz hsize hby hzs hsz v n xs hown B A m c news hr h1 h63 hbytes hbase
  unfold Oper.wp execOp
  simp only [ho, resolve, invoke, builtin, Sem.run_bind, Sem.run_pure, Result.andThen_ok, List.map_toArray, List.map_cons, List.map_nil, hs, hx, hrun]
  exact h v' w' h2 h3 h4

theorem wpList_append_any {ops : Array Oper} {rest : List Oper} {o : Oper} {a : Act} {Q : Exit → Act → World → Prop} (hgd : o.guard = none) (s x : Operand) (t : TypeId)
    (ho : o.op = .call { callee := .builtin .append, args := #[s, x], argTypes := #[t, t] })
    (base : Nat) (e : TypeId) (i : TypeInfo) (z : Value) (size bytes : Nat) (ht : P.underlying t = some (.slice e)) (hi : P.info? e = some i) (hz : i.zero = some z)
    (hsize : i.size = size) (hby : i.bytes = bytes) (hzs : z.cells.size = size) (hsz : 0 < size)
    (v : Value) (n : Nat) (xs : List Value) (hs : a.eval s = v) (hown : w.ownsRow base e size v n xs)
    (B : Nat) (A : Option Addr) (m c : Nat) (news : List Value) (hx : a.eval x = .slice A m c) (hr : Reads w B size A m news) (h1 : ∀ u ∈ news, u.oneCell' = true)
    (h63 : n + m ≤ maxLen) (hbytes : (n + m) * bytes ≤ 140737488355328) (hbase : base ≤ w.heap.size)
    (h : ∀ v' w', w'.ownsRow base e size v' (n + m) (xs ++ news) → w.grownBy w' v.ownBlock → (v'.ownBlock = v.ownBlock ∨ v'.ownBlock = some w.heap.size) → wpList P ops Q rest (a.put o.dst v') w') : wpList P ops Q (o :: rest) a w :=
  wpList_plain hgd fun _ hK => wp_append_any w s x t ho base e i z size bytes ht hi hz hsize hby hzs hsz v n xs hs hown B A m c news hx hr h1 h63 hbytes hbase fun v' w' h2 h3 h4 => hK _ _ (h v' w' h2 h3 h4)

theorem step_append_any {ops : Array Oper} {o : Oper} {a : Act} {K : Act → World → Prop} {Q : Exit → Act → World → Prop} {E : Prop} (hgd : o.guard = none) (s x : Operand) (t : TypeId)
    (ho : o.op = .call { callee := .builtin .append, args := #[s, x], argTypes := #[t, t] })
    (base : Nat) (e : TypeId) (i : TypeInfo) (z : Value) (size bytes : Nat) (ht : P.underlying t = some (.slice e)) (hi : P.info? e = some i) (hz : i.zero = some z)
    (hsize : i.size = size) (hby : i.bytes = bytes) (hzs : z.cells.size = size) (hsz : 0 < size)
    (v : Value) (n : Nat) (xs : List Value) (hs : a.eval s = v) (hown : w.ownsRow base e size v n xs)
    (B : Nat) (A : Option Addr) (m c : Nat) (news : List Value) (hx : a.eval x = .slice A m c) (hr : Reads w B size A m news) (h1 : ∀ u ∈ news, u.oneCell' = true)
    (h63 : n + m ≤ maxLen) (hbytes : (n + m) * bytes ≤ 140737488355328) (hbase : base ≤ w.heap.size)
    (h : ∀ v' w', w'.ownsRow base e size v' (n + m) (xs ++ news) → w.grownBy w' v.ownBlock → (v'.ownBlock = v.ownBlock ∨ v'.ownBlock = some w.heap.size) → K (a.put o.dst v') w') :
    if Region.wanted o (yielded ops a.tmps) = true then Oper.wp P o a w K Q else E := by
  have hw : Region.wanted o (yielded ops a.tmps) = true := by simp [Region.wanted, hgd]
  rw [if_pos hw]
  exact wp_append_any w s x t ho base e i z size bytes ht hi hz hsize hby hzs hsz v n xs hs hown B A m c news hx hr h1 h63 hbytes hbase h
end

theorem Rd.reads {w : World} {A : Option Addr} {n : Nat} {xs : List Nat} (h : Rd w A n xs) : Reads w w.heap.size 1 A n (vb xs) := by
  refine ⟨by rw [vb_length, h.len]; omega, fun hn => ?_⟩
  obtain ⟨b, off, rfl, hb, hc⟩ := h.lies hn
  refine ⟨_, rfl, hb, fun j u hu => ?_⟩
  rw [vb_get] at hu
  obtain ⟨x, hx, rfl⟩ := Option.map_eq_some_iff.1 hu
  have hx2 : ((⟨b, off, none⟩ : Addr).add j) = ⟨b, off + j, none⟩ := by unfold Addr.add; split <;> simp_all
  rw [hx2]
  exact hc j x hx
end Go.Proofs.Ytejibpajjoaldaa
namespace Go.Proofs.Ytejibpajjoaldaa
open Go.RowKit

def strB (xs : List Nat) : ByteArray := strOfNums (xs.map fun n : Nat => (n : Int))
theorem strB_toList (xs : List Nat) : (strB xs).toList = xs.map UInt8.ofNat := by
  rw [Go.ByteArray.toList_eq]
  unfold strB
  rw [strOfNums_data, List.map_map]
  rfl
theorem strB_inj (xs ys : List Nat) (hx : ∀ x ∈ xs, x < 256) (hy : ∀ x ∈ ys, x < 256) (h : (strB xs).toList = (strB ys).toList) : xs = ys := by
  rw [strB_toList, strB_toList] at h
  have e : ∀ l : List Nat, (∀ x ∈ l, x < 256) → (l.map UInt8.ofNat).map UInt8.toNat = l := by
    intro l hl
    rw [List.map_map]
    conv => rhs; rw [← List.map_id l]
    refine List.map_congr_left fun x hx => ?_
    have := hl x hx
    simp [Nat.mod_eq_of_lt this]
  rw [← e xs hx, ← e ys hy, h]
theorem strB_beq (xs ys : List Nat) (hx : ∀ x ∈ xs, x < 256) (hy : ∀ x ∈ ys, x < 256) : ((strB xs).toList == (strB ys).toList) = decide (xs = ys) := by
  by_cases h : xs = ys
  · subst h; simp
  · rw [decide_eq_false h, beq_eq_false_iff_ne]
    exact fun hc => h (strB_inj xs ys hx hy hc)

theorem conv_rd {w : World} {A : Option Addr} {n : Nat} {xs : List Nat} (c : Nat) (h : Rd w A n xs) : (convert 22 9 (.slice A n c)).run Try.prog w = .ok (.string (strB xs)) w := by
  rcases Nat.eq_zero_or_pos n with h0 | h0
  · subst h0
    obtain rfl : xs = [] := List.eq_nil_of_length_eq_zero h.len
    exact run_convert_bytes_zero w 22 5 Try.underlying22 Try.underlying5 A c 9 Try.underlying9
  · obtain ⟨b, off, rfl, hb, hc⟩ := h.lies h0
    refine run_convert_bytes_arg w 22 5 Try.underlying22 Try.underlying5 b off n c _ (by simp [h.len]) (fun i hi => ?_) 9 Try.underlying9
    have hl : i < xs.length := by rw [h.len]; exact hi
    rw [hc i xs[i] (List.getElem?_eq_getElem hl)]
    simp [List.getElem?_eq_getElem hl]
theorem byteSize (w : World) : (Go.sizeOf 5).run Try.prog w = .ok 1 w := by kernel_rfl
/-- 'b[lo:hi]' of a slice of bytes, lo below hi. -/
theorem window (w : World) (b off len cap lo m : Nat) (hi : Int) (he : hi = (lo : Int) + m) (hm : 0 < m) (hc : lo + m ≤ cap) :
    (Instr.slice 22 (.slice (some ⟨b, off, none⟩) len cap) (some (.int .i64 (lo : Int))) (some (.int .i64 hi)) none).run Try.prog w = .ok (.slice (some ⟨b, off + lo, none⟩) m (cap - lo)) w := by
  have h := Lib.run_slice_window (P := Try.prog) w 22 5 Try.underlying22 byteSize b off len cap lo (lo + m) (by omega) hc
  rw [Nat.add_sub_cancel_left, Int.natCast_add] at h
  rw [he]
  exact h
theorem Rd.cut {w : World} {b off n p m : Nat} {xs : List Nat} (h : Rd w (some ⟨b, off, none⟩) n xs) (hp : p + m ≤ n) : Rd w (some ⟨b, off + p, none⟩) m ((xs.drop p).take m) := by
  refine ⟨by rw [List.length_take, List.length_drop, h.len]; omega, fun x hx => h.small x (List.mem_of_mem_drop (List.mem_of_mem_take hx)), fun hm => ?_⟩
  obtain ⟨b', off', e, hb, hc⟩ := h.lies (by omega)
  injection e with e
  injection e with e1 e2
  subst e1 e2
  refine ⟨b, off + p, rfl, hb, fun j x hx => ?_⟩
  rw [List.getElem?_take] at hx
  split at hx
  · rw [List.getElem?_drop] at hx
    rw [Nat.add_assoc]
    exact hc _ x hx
  · cases hx
/-- A string of one byte, out of a new slice of it. -/
theorem conv_one (W : World) (g x : Nat) (hx : x < 256) (hc : W.cell? ⟨g, 0, none⟩ = some (.int .u8 (x : Int))) :
    (convert 22 9 (.slice (some ⟨g, 0, none⟩) 1 1)).run Try.prog W = .ok (.string ⟨#[UInt8.ofNat x]⟩) W := by
  have h := conv_rd (xs := [x]) 1 (A := some ⟨g, 0, none⟩) (n := 1) (w := W) ⟨rfl, by simpa using hx, fun _ => ⟨g, 0, rfl, World.block_lt_of_cell? W _ hc, fun j y hj => by
    match j, hj with
    | 0, hj => simp at hj; subst hj; exact hc⟩⟩
  exact h
end Go.Proofs.Ytejibpajjoaldaa
namespace Go.Proofs.Ytejibpajjoaldaa
open Go.RowKit

/-- The first k cells are those of xs, the rest nought. -/
def half (xs : List Nat) (k : Nat) : List Nat := xs.take k ++ List.replicate (xs.length - k) 0

theorem half_zero (xs : List Nat) : half xs 0 = List.replicate xs.length 0 := by simp [half]

theorem half_full (xs : List Nat) : half xs xs.length = xs := by simp [half]

theorem half_step (xs : List Nat) (k x : Nat) (h : xs[k]? = some x) : (vb (half xs k)).set k (.int .u8 (x : Int)) = vb (half xs (k + 1)) := by
  have hk : k < xs.length := (List.getElem?_eq_some_iff.1 h).1
  have hx : xs[k] = x := (List.getElem?_eq_some_iff.1 h).2
  have : (half xs k).set k x = half xs (k + 1) := by
    unfold half
    rw [List.set_append_right _ _ (by simp; omega), List.take_succ_eq_append_getElem hk, List.append_assoc]
    congr 1
    rw [List.length_take, Nat.min_eq_left (by omega), Nat.sub_self, show xs.length - k = (xs.length - (k + 1)) + 1 by omega, List.replicate_succ]
    simp [hx]
  rw [← this]
  simp [vb, List.map_set]

set_option maxHeartbeats 400000 in
theorem copy_any (A : Option Addr) (n c : Nat) (xs : List Nat) (w : World) (hr : Rd w A n xs) (hn : n ≤ 2097152) :
    Calls Try.prog 63 #[.slice A n c] w (Made w n xs) := by
  obtain ⟨i0, hi, hz0, hz1, hz2⟩ := info_parts Try.infoByte
  have hl := Lib.hid hr.len
  go_enter Try.func63, Try.ntmps63
  go_wp2_with (refine wpList_make_full _ rfl (.tmp 6) (.tmp 6) 22 rfl w.heap.size 5 i0 (.int .u8 0) 1 Try.underlying22 hi hz0 hz1 .i64 .i64 _ _ n rfl rfl rfl rfl (by rw [hz2]; omega) (by unfold maxLen; omega) (Nat.le_refl _) ?_; intro w1 hown hg)
  have hb1 : Below w.heap.size w w1 := (Below.refl _ _).grown hg (Nat.le_refl _) (by simp)
  have hown1 : w1.ownsRow w.heap.size 5 1 (.slice (some ⟨w.heap.size, 0, none⟩) n n) n (vb (half xs 0)) := by
    have h := hown
    rw [half_zero, hl.out, show (Value.int IntKind.u8 0).cells = #[.int .u8 0] from rfl, toList_madeCells_one, Nat.mul_one] at *
    simpa [vb] using h
  clear hown hg
  go_loopw [4] (fun i wr => ∃ k : Nat, k ≤ n ∧ i = .int .i64 k ∧ wr.ownsRow w.heap.size 5 1 (.slice (some ⟨w.heap.size, 0, none⟩) n n) n (vb (half xs k)) ∧ Below w.heap.size w wr) (fun i _ => n - (intOf i).toNat)
  case atStart => exact ⟨0, Nat.zero_le _, rfl, hown1, hb1⟩
  case round =>
    obtain ⟨k, hk, rfl, hown, hbel⟩ := hrel
    by_cases hlt : k < n
    · obtain ⟨b, off, x, rfl, hbw, hx, hxs, hc⟩ := hr.at_ hlt
      have hcell : wr.cell? ⟨b, off + k, none⟩ = some (.int .u8 (x : Int)) := (hbel.cell (by exact hbw)).trans hc
      have hl2 : k < (vb (half xs k)).length := by rw [hown.1]; omega
      have hcell2 : wr.cell? ⟨w.heap.size, k, none⟩ = some (vb (half xs k))[k] := by rw [hown.cellAt k (by omega), List.getElem?_eq_getElem hl2]
      have hfr := hown.frozenAt k
      have hst := hown.stored k (.int .u8 (x : Int))
      rw [half_step xs k x hxs.out] at hst
      have hb2 := hbel.setCell (p := ⟨w.heap.size, k, none⟩) (Nat.le_refl _) (.int .u8 (x : Int))
      have hst1 := Lib.hid hst.1
      generalize (vb (half xs k))[k] = old at hcell2
      clear hst hown hl2 hc
      go_wp2
      go_roundw
      case rel => exact ⟨k + 1, by omega, by go_num, hst1.out, hb2⟩
      case measure => simp [intOf]; omega
    · have : k = n := by omega
      subst this
      go_wp2
      go_ret
      have e := hl.out
      subst e
      rw [half_full] at hown
      exact ⟨_, _, rfl, hown, hbel⟩

set_option maxHeartbeats 400000 in
theorem same_any (A B : Option Addr) (n c d : Nat) (xs : List Nat) (w : World) (ha : Rd w A n xs) (hb : Rd w B n xs) (hn : n ≤ 2097152) :
    Calls Try.prog 33 #[.slice A n c, .slice B n d] w fun e w' => e = .returned (.bool true) ∧ ∃ m, w' = w.drewN m := by
  go_enter Try.func33, Try.ntmps33
  go_wp2
  go_loopw [5] (fun i wr => ∃ k : Nat, k ≤ n ∧ i = .int .i64 k ∧ ∃ m, wr = w.drewN m) (fun i _ => n - (intOf i).toNat)
  case atStart => exact ⟨0, Nat.zero_le _, rfl, 0, rfl⟩
  case round =>
    obtain ⟨k, hk, rfl, m, rfl⟩ := hrel
    by_cases hlt : k < n
    · obtain ⟨b, off, x, rfl, hbw, hx, hxs, hc⟩ := ha.at_ hlt
      obtain ⟨b', off', x', rfl, hbw', hx', hxs', hc'⟩ := hb.at_ hlt
      obtain rfl : x = x' := by have := hxs.out.symm.trans hxs'.out; injection this
      go_wp2
      go_quiet (fail)
      go_wp2
      go_roundw
      case rel => exact ⟨k + 1, by omega, by go_num, _, rfl⟩
      case measure => simp [intOf]; omega
    · go_wp2
      go_ret
      exact ⟨rfl, m, rfl⟩
end Go.Proofs.Ytejibpajjoaldaa
namespace Go.Proofs.Ytejibpajjoaldaa
open Go.RowKit

def numOk (n : Int) : Bool := decide (0 ≤ n ∧ n ≤ 281474976710655)

/-- What a writer leaves: a new slice of the bytes ys, and whether there was something to write. -/
def PutRes (w : World) (ok : Bool) (ys : List Nat) (e : Ending) (w' : World) : Prop :=
  ∃ A c, e = .returned (.tuple #[.slice A ys.length c, .bool ok]) ∧ w'.ownsRow w.heap.size 5 1 (.slice A ys.length c) ys.length (vb ys) ∧ Below w.heap.size w w'

theorem PutRes.no (w : World) : PutRes w false [] (.returned (.tuple #[.slice none 0 0, .bool false])) w :=
  ⟨none, 0, rfl, World.ownsRow_nil _ _ _ _, Below.refl _ _⟩

/-- The digits of a number, the lowest first; all but the last with 128 on top. -/
def digits : Nat → Nat → List Nat
  | 0, n => [n]
  | f + 1, n => if n < 128 then [n] else (n % 128 + 128) :: digits f (n / 128)

/-- The digits that are written when n is left, of a number below 128^(f+1). -/
theorem digits_small (f n : Nat) (h : n < 128) : digits f n = [n] := by cases f <;> simp [digits, h]

theorem digits_big (f n : Nat) (h : 128 ≤ n) : digits (f + 1) n = (n % 128 + 128) :: digits f (n / 128) := by simp [digits]; omega

theorem digits_length (f n : Nat) : (digits f n).length ≤ f + 1 := by
  induction f generalizing n with
  | zero => simp [digits]
  | succ f ih =>
    by_cases h : n < 128
    · simp [digits, h]
    · have := ih (n / 128)
      simp [digits, h]
      omega

theorem digits_bytes (f n : Nat) (h : n < 128 ^ (f + 1)) : ∀ x ∈ digits f n, x < 256 := by
  induction f generalizing n with
  | zero => intro x hx; simp [digits] at hx; omega
  | succ f ih =>
    intro x hx
    by_cases hn : n < 128
    · rw [digits_small _ _ hn] at hx; simp at hx; omega
    · rw [digits_big _ _ (by omega)] at hx
      rcases List.mem_cons.1 hx with rfl | hx
      · omega
      · refine ih (n / 128) ?_ x hx
        rw [Nat.pow_succ] at h
        omega

def putVar (xs : List Nat) (n : Int) : List Nat := if numOk n then xs ++ digits 6 n.toNat else []

/-- '[]byte{}' owns nothing. -/
theorem built_none (w : World) : (w.alloc (.cells #[] 5)).ownsRow w.heap.size 5 1 (.slice (some ⟨w.heap.size, 0, none⟩) 0 0) 0 [] :=
  World.ownsRow_lit w #[] 0 (Nat.le_refl _) (by unfold maxLen; omega) rfl

theorem own_form {w : World} {base e n : Nat} {v : Value} {xs : List Value} (h : w.ownsRow base e 1 v n xs) : ∃ A c, v = .slice A n c := by
  rcases h.2 with ⟨rfl, rfl⟩ | ⟨g, cap, _, rfl, _⟩
  · exact ⟨_, _, rfl⟩
  · exact ⟨_, _, rfl⟩

theorem below_built {w w1 : World} {o : Obj} {k c : Nat} (hg : (w.alloc o).grownBy w1 (Value.slice (some ⟨w.heap.size, 0, none⟩) k c).ownBlock) : Below w.heap.size w w1 :=
  ((Below.refl _ _).alloc (Nat.le_refl _) o).grown hg (by simp) (by simp [Value.ownBlock])

theorem one_reads (w : World) (u : Value) : Reads (w.alloc (.cells #[u] 5)) (w.heap.size + 1) 1 (some ⟨w.heap.size, 0, none⟩) 1 [u] := by
  refine ⟨rfl, fun _ => ⟨_, rfl, by simp, fun j v hj => ?_⟩⟩
  match j, hj with
  | 0, hj => simp at hj; subst hj; simp [Addr.add]

theorem one_cell (x : Int) : ∀ u ∈ [Value.int .u8 x], u.oneCell' = true := by intro u hu; simp at hu; subst hu; rfl

/-- One byte more. -/
theorem own_snoc {w : World} {base n : Nat} {v : Value} {ys : List Nat} {x : Int} {y : Nat} (h : w.ownsRow base 5 1 v (n + 1) (vb ys ++ [.int .u8 x])) (hn : ys.length = n) (hx : x = (y : Int)) :
    w.ownsRow base 5 1 v (ys ++ [y]).length (vb (ys ++ [y])) := by
  subst hx
  rw [vb_append, List.length_append, hn]
  exact h

theorem below_app {w wr w2 : World} {e n : Nat} {v : Value} {xs : List Value} {o : Obj} (hbel : Below w.heap.size w wr) (hown : wr.ownsRow w.heap.size e 1 v n xs) (hg : (wr.alloc o).grownBy w2 v.ownBlock) : Below w.heap.size w w2 :=
  (hbel.alloc hbel.size o).grown hg (by have := hbel.size; simp; omega) (fun k hk => (hown.lt k hk).1)

/-- What is written so far (ys) and what is left (r) make the whole. -/
structure Left (whole ys : List Nat) (f r : Nat) : Prop where
  eq : ys ++ digits f r = whole
  lt : r < 128 ^ (f + 1)

theorem Left.step {whole ys : List Nat} {f r : Nat} (h : Left whole ys f r) (hr : 128 ≤ r) : ∃ g, f = g + 1 ∧ Left whole (ys ++ [r % 128 + 128]) g (r / 128) := by
  cases f with
  | zero => have := h.lt; simp at this; omega
  | succ g =>
    refine ⟨g, rfl, ?_, ?_⟩
    · rw [← h.eq, digits_big _ _ hr]; simp
    · have := h.lt; rw [Nat.pow_succ] at this; omega

theorem Left.done {whole ys : List Nat} {f r : Nat} (h : Left whole ys f r) (hr : r < 128) : ys ++ [r] = whole := by rw [← h.eq, digits_small _ _ hr]

theorem putVar_small (xs : List Nat) (a : Int) (h : ∀ x ∈ xs, x < 256) : ∀ x ∈ putVar xs a, x < 256 := by
  intro x hx
  unfold putVar at hx
  split at hx
  · rename_i hok
    rcases List.mem_append.1 hx with hx | hx
    · exact h x hx
    · refine digits_bytes 6 _ ?_ x hx
      simp only [numOk, decide_eq_true_eq] at hok
      omega
  · simp at hx

theorem putVar_length (xs : List Nat) (a : Int) : (putVar xs a).length ≤ xs.length + 7 := by
  unfold putVar
  split
  · have := digits_length 6 a.toNat
    simp
    omega
  · simp
end Go.Proofs.Ytejibpajjoaldaa
namespace Go.Proofs.Ytejibpajjoaldaa
open Go.RowKit

theorem clone_any (A : Option Addr) (n c : Nat) (xs : List Nat) (w : World) (hr : Rd w A n xs) (hn : n ≤ 2097152) :
    Calls Try.prog 48 #[.slice A n c] w (Made w n xs) := by
  obtain ⟨i0, hi, hz0, hz1, hz2⟩ := info_parts Try.infoByte
  rcases A with _ | a
  · obtain rfl : n = 0 := by
      rcases Nat.eq_zero_or_pos n with h | h
      · exact h
      · obtain ⟨_, _, h, _⟩ := hr.lies h
        cases h
    obtain rfl : xs = [] := List.eq_nil_of_length_eq_zero hr.len
    have e1 := fun w : World => Lib.run_eql_slice_nil (P := Try.prog) w 22 5 none 0 c 0 0 Try.underlying22
    go_enter Try.func48, Try.ntmps48
    go_wp2
    go_ret
    exact ⟨none, 0, rfl, World.ownsRow_nil _ _ _ _, Below.refl _ _⟩
  · have e1 := fun w : World => Lib.run_eql_slice_nil (P := Try.prog) w 22 5 (some a) n c 0 0 Try.underlying22
    go_enter Try.func48, Try.ntmps48
    go_wp2_with (at_builtin; refine wpList_append_any _ rfl (.tmp 5) (.tmp 6) _ rfl w.heap.size 5 i0 _ 1 1 Try.underlying22 hi hz0 hz1 hz2 rfl (by omega) (.slice (some ⟨w.heap.size, 0, none⟩) 0 0) 0 [] rfl (built_none w) w.heap.size (some a) n c (vb xs) rfl (hr.reads.alloc (Nat.le_refl _) _) (vb_oneCell xs) (by simp only [maxLen]; omega) (by omega) (by simp) ?_; intro v1 w1 hown1 hg1 hat1)
    obtain ⟨A1, c1, rfl⟩ := own_form hown1
    go_ret
    exact ⟨A1, c1, by simp, by simpa using hown1, below_built hg1⟩
end Go.Proofs.Ytejibpajjoaldaa
