/- Words for slices of bytes (plain lemmas over the model; no condition): 'Rd w A n xs': the slice at A of length n reads in w as the bytes xs; what the call itself owns ('ownsRow') reads so; a reading is kept where nothing old is written. // Sets of vertices as data: a number and bytes, whose bits are the members (no program; no condition). // Vertex programs as data (plain lemmas; no condition): a view of an edge, sums limited to Far, first values, the new value of a vertex and the new values of its edges; the most frequent label. // A slice that reads as a list of cells, nil let in, and 'append' of such a slice onto a row of the call's own (after the guide's words for memory); its use for slices of bytes. // Words for slices of bytes, of files and of operations in memory (plain lemmas over the model; no condition): a record bears its own slice of bytes and what that slice holds ('Dat', 'Ent', 'OpE'); 'Row': a slice that reads as a list of cells; 'OwnB': slices of bytes of the call's own, no two in one block. // What a call that makes a new slice of bytes leaves; the row of the table of types for bytes. // Words for slices of edges and of numbers in memory (plain lemmas over the model; no condition): 'SlG': a slice that reads as a list of edges; 'SlI': one that reads as a list of numbers; what is laid record by record. -/
import Derived.WalkKit
import Derived.WalkSpells
import Derived.Below
import Derived.Laws.OwnMore
import Derived.Deep.AppendLies
import Derived.Deep.Draws
import Derived.Laws.Rows
import Derived.Lib.Hide
import Derived.OpenShut
import Derived.Maps.AppendAt
import Derived.RegionTactic
import Derived.OwnWalk
import Derived.Test.YtpgnappddddlpaaGreatDoorRows
import Derived.Deep.QuietTactic
import Derived.BigQuiet
namespace Go.Proofs.YtpgnappddddlpaaGreatDoor
open Go.RowKit

def vb (xs : List Nat) : List Value := xs.map fun n : Nat => .int .u8 (n : Int)
theorem vb_length (xs : List Nat) : (vb xs).length = xs.length := by simp [vb]
theorem vb_get (xs : List Nat) (j : Nat) : (vb xs)[j]? = (xs[j]?).map fun n : Nat => .int .u8 (n : Int) := by simp [vb]
theorem vb_oneCell (xs : List Nat) : ∀ u ∈ vb xs, u.oneCell' = true := by
  intro u hu
  simp only [vb, List.mem_map] at hu
  obtain ⟨n, _, rfl⟩ := hu
  rfl

theorem grownBy_trans {a b c : World} {row : Option Nat} (h : a.grownBy b row) (k : b.grownBy c row) : a.grownBy c row :=
  ⟨k.os.trans h.os, k.tape.trans h.tape, k.output.trans h.output, Nat.le_trans h.size k.size, fun i hi hn => (k.block i (Nat.lt_of_lt_of_le hi h.size) hn).trans (h.block i hi hn)⟩
theorem below_drewN {B : Nat} {a w : World} (h : Below B a w) (n : Nat) : Below B a (w.drewN n) := ⟨h.os, h.tape, h.output, h.size, h.block⟩

/-- The slice value '.slice A n c' reads in w as the bytes xs. -/
structure Rd (w : World) (A : Option Addr) (n : Nat) (xs : List Nat) : Prop where
  len : xs.length = n
  small : ∀ x ∈ xs, x < 256
  lies : 0 < n → ∃ b off, A = some ⟨b, off, none⟩ ∧ b < w.heap.size ∧ ∀ (j : Nat) (x : Nat), xs[j]? = some x → w.cell? ⟨b, off + j, none⟩ = some (.int .u8 (x : Int))

section
variable {w w' : World} {A : Option Addr} {n : Nat} {xs : List Nat}
theorem Rd.at_ {k : Nat} (h : Rd w A n xs) (hk : k < n) : ∃ (b off x : Nat), A = some ⟨b, off, none⟩ ∧ b < w.heap.size ∧ x < 256 ∧ Hid (xs[k]? = some x) ∧ w.cell? ⟨b, off + k, none⟩ = some (.int .u8 (x : Int)) := by
  obtain ⟨b, off, rfl, hb, hc⟩ := h.lies (by omega)
  have hl : k < xs.length := by have := h.len; omega
  exact ⟨b, off, xs[k], rfl, hb, h.small _ (List.getElem_mem hl), List.getElem?_eq_getElem hl, hc k _ (List.getElem?_eq_getElem hl)⟩
theorem Rd.keep (h : Rd w A n xs) (hs : w.heap.size ≤ w'.heap.size) (hk : ∀ p : Addr, p.block < w.heap.size → w'.cell? p = w.cell? p) : Rd w' A n xs :=
  ⟨h.len, h.small, fun hn => by
    obtain ⟨b, off, e, hb, hc⟩ := h.lies hn
    exact ⟨b, off, e, by omega, fun j u hu => (hk _ hb).trans (hc j u hu)⟩⟩
theorem Rd.below (h : Rd w A n xs) (hb : Below w.heap.size w w') : Rd w' A n xs := h.keep hb.size fun _ hp => hb.cell hp
theorem Rd.drewN (h : Rd w A n xs) (k : Nat) : Rd (w.drewN k) A n xs := ⟨h.len, h.small, h.lies⟩
theorem Rd.drew (h : Rd w A n xs) : Rd w.drew A n xs := ⟨h.len, h.small, h.lies⟩
theorem Rd.alloc (h : Rd w A n xs) (o : Obj) : Rd (w.alloc o) A n xs := h.keep (by simp) fun p hp => World.cell?_alloc_lt w o p hp
theorem Rd.nil : Rd w A 0 [] := ⟨rfl, by simp, fun h => absurd h (by omega)⟩
theorem Rd.other {row : Option Nat} (h : Rd w A n xs) (hg : w.grownBy w' row) (hr : ∀ b off sp, A = some ⟨b, off, sp⟩ → some b ≠ row) : Rd w' A n xs :=
  ⟨h.len, h.small, fun hn => by
    obtain ⟨b, off, e, hb, hc⟩ := h.lies hn
    have := hg.size
    exact ⟨b, off, e, by omega, fun j u hu => (World.cell?_of_block (hg.block b hb (hr _ _ _ e))).trans (hc j u hu)⟩⟩
/-- What the call owns reads as its bytes. -/
theorem Rd.of_own {base e c : Nat} (h : w.ownsRow base e 1 (.slice A n c) n (vb xs)) (hs : ∀ x ∈ xs, x < 256) : Rd w A n xs := by
  have hl : xs.length = n := by have := h.1; rw [vb_length] at this; omega
  refine ⟨hl, hs, fun hn => ?_⟩
  obtain ⟨g, cap, hv, _, hlt⟩ := h.form hn
  have hA : A = some ⟨g, 0, none⟩ := by injection hv
  subst hA
  refine ⟨g, 0, rfl, hlt, fun j u hu => ?_⟩
  have := h.cells (g := g) rfl j (.int .u8 (u : Int)) (by rw [vb_get, hu]; rfl)
  have hx : ((⟨g, 0, none⟩ : Addr).add j) = ⟨g, 0 + j, none⟩ := by unfold Addr.add; split <;> simp_all
  rw [hx] at this
  exact this
end

theorem grownBy_of_below {w w' : World} (h : Below w.heap.size w w') (row : Option Nat) : w.grownBy w' row := ⟨h.os, h.tape, h.output, h.size, fun i hi _ => h.block i hi⟩
/-- What is owned stays owned where nothing old is written. -/
theorem own_below {w w' : World} {base e size n : Nat} {v : Value} {xs : List Value} (h : w.ownsRow base e size v n xs) (hb : Below w.heap.size w w') : w'.ownsRow base e size v n xs :=
  h.kept (grownBy_of_below hb none) (by cases v.ownBlock <;> simp)
theorem own_drewN {w : World} {base e size n : Nat} {v : Value} {xs : List Value} (h : w.ownsRow base e size v n xs) (k : Nat) : (w.drewN k).ownsRow base e size v n xs := h
theorem own_cap {w : World} {base e n c : Nat} {A : Option Addr} {xs : List Value} (h : w.ownsRow base e 1 (.slice A n c) n xs) : n ≤ c := by
  rcases h.2 with ⟨h', h0⟩ | ⟨g, cap, _, h', _, _, hc, _⟩
  · omega
  · injection h' with _ _ h3; omega
/-- What a slice of bytes that came in is told as (the shell's word), read as bytes. -/
def IsRow (k : IntKind) (w : World) (a : Option Addr) (len cap : Nat) (zs : List Int) : Prop :=
  (a = none ∧ len = 0 ∧ cap = 0 ∧ zs = []) ∨
  ∃ x, a = some x ∧ len ≤ cap ∧ cap ≤ maxLen ∧ zs.length = cap ∧ (∀ i, i < zs.length → w.cell? (x.add i) = some (.int k (zs.getD i 0))) ∧ ∀ n ∈ zs, (Lit.int k n).wf = true

theorem IsRow.rd {w : World} {a : Option Addr} {len cap : Nat} {zs : List Int} (h : IsRow .u8 w a len cap zs) : len ≤ cap ∧ cap ≤ maxLen ∧ ∃ xs, Rd w a len xs := by
  rcases h with ⟨rfl, rfl, rfl, rfl⟩ | ⟨x, rfl, hl, hm, hz, hcell, hwz⟩
  · exact ⟨Nat.le_refl _, by unfold maxLen; omega, [], Rd.nil⟩
  · refine ⟨hl, hm, (zs.take len).map Int.toNat, ?_, ?_, ?_⟩
    · simp; omega
    · intro y hy
      simp only [List.mem_map] at hy
      obtain ⟨z, hzm, rfl⟩ := hy
      have := hwz z (List.mem_of_mem_take hzm)
      have := bounds_u8 this
      omega
    · intro hn
      obtain ⟨b, off, spot⟩ := x
      have hc := hcell 0 (by omega)
      have hspot : spot = none := by simpa [Addr.add] using World.cell?_spot hc
      subst hspot
      refine ⟨b, off, rfl, World.block_lt_of_cell? w _ hc, fun j u hu => ?_⟩
      have hj : j < len := by have := (List.getElem?_eq_some_iff.1 hu).1; simp at this; omega
      have h1 := hcell j (by omega)
      have hx : ((⟨b, off, none⟩ : Addr).add j) = ⟨b, off + j, none⟩ := by unfold Addr.add; split <;> simp_all
      rw [hx] at h1
      rw [h1]
      have hjz : j < zs.length := by omega
      have hw := bounds_u8 (hwz _ (List.getElem_mem hjz))
      simp only [List.getElem?_map, List.getElem?_take, if_pos hj, List.getElem?_eq_getElem hjz, Option.map_some, Option.some.injEq] at hu
      simp only [List.getD_eq_getElem?_getD, List.getElem?_eq_getElem hjz, Option.getD_some]
      rw [← hu, Int.toNat_of_nonneg hw.1]
end Go.Proofs.YtpgnappddddlpaaGreatDoor
namespace Go.Proofs.YtpgnappddddlpaaGreatDoor
open Go.RowKit
set_option linter.unusedVariables false

/-- Vertex v is a member. -/
def bitN (xs : List Nat) (v : Nat) : Bool := (xs.getD (v / 8) 0).testBit (v % 8)
def bytesN (n : Nat) : Nat := (n + 7) / 8
/-- A valid set. -/
def setB (N : Int) (xs : List Nat) : Bool := decide (0 ≤ N ∧ N ≤ 150 ∧ xs.length = bytesN N.toNat) && (List.range (8 * xs.length)).all fun v => decide (v < N.toNat) || !bitN xs v
theorem bitN_far {xs : List Nat} {v : Nat} (h : 8 * xs.length ≤ v) : bitN xs v = false := by
  unfold bitN
  rw [List.getD_eq_getElem?_getD, List.getElem?_eq_none (by omega)]
  simp
theorem setB_iff {N : Int} {xs : List Nat} : setB N xs = true ↔ (0 ≤ N ∧ N ≤ 150 ∧ xs.length = bytesN N.toNat) ∧ ∀ v, N.toNat ≤ v → bitN xs v = false := by
  unfold setB
  rw [Bool.and_eq_true, decide_eq_true_iff, List.all_eq_true]
  constructor
  · rintro ⟨h1, h2⟩
    refine ⟨h1, fun v hv => ?_⟩
    rcases Nat.lt_or_ge v (8 * xs.length) with h | h
    · have := h2 v (List.mem_range.2 h)
      rw [Bool.or_eq_true, decide_eq_true_iff] at this
      rcases this with h3 | h3
      · omega
      · simpa using h3
    · exact bitN_far h
  · rintro ⟨h1, h2⟩
    refine ⟨h1, fun v _ => ?_⟩
    rw [Bool.or_eq_true, decide_eq_true_iff]
    rcases Nat.lt_or_ge v N.toNat with h | h
    · exact .inl h
    · exact .inr (by rw [h2 v h]; rfl)
theorem setB_dim {N : Int} {xs : List Nat} (h : setB N xs = true) : 0 ≤ N ∧ N ≤ 150 ∧ xs.length = bytesN N.toNat := (setB_iff.1 h).1

/-! ### one byte -/
theorem byteBit (x k : Nat) : x.testBit k = decide (x / 2 ^ k % 2 = 1) := Nat.testBit_eq_decide_div_mod_eq
theorem pow8 {k : Nat} (h : k < 8) : 2 ^ k < 256 ∧ 0 < 2 ^ k := by
  have : 2 ^ k < 2 ^ 8 := Nat.pow_lt_pow_right (by omega) h
  exact ⟨this, Nat.pos_of_ne_zero (by simp)⟩
def onN (x k : Nat) : Nat := x ||| 2 ^ k
def offN (x k : Nat) : Nat := x &&& (255 - 2 ^ k)
theorem on_lt {x k : Nat} (hx : x < 256) (hk : k < 8) : onN x k < 256 := Nat.or_lt_two_pow (n := 8) hx (pow8 hk).1
theorem on_bit (x k j : Nat) : (onN x k).testBit j = (decide (j = k) || x.testBit j) := by
  unfold onN
  rw [Nat.testBit_or, Nat.testBit_two_pow, Bool.or_comm]
  congr 1
  simp [eq_comm]
theorem add_all : ∀ (x : Fin 256) (k : Fin 8), (x.val / 2 ^ k.val % 2 = 1 → x.val ||| 2 ^ k.val = x.val ∧ x.val &&& (255 - 2 ^ k.val) = x.val - 2 ^ k.val ∧ 2 ^ k.val ≤ x.val) ∧ (x.val / 2 ^ k.val % 2 ≠ 1 → x.val ||| 2 ^ k.val = x.val + 2 ^ k.val ∧ x.val + 2 ^ k.val < 256 ∧ x.val &&& (255 - 2 ^ k.val) = x.val) := by decide +kernel
theorem on_yes {x k : Nat} (hx : x < 256) (hk : k < 8) (h : x.testBit k = true) : onN x k = x ∧ offN x k = x - 2 ^ k ∧ 2 ^ k ≤ x := by
  rw [byteBit, decide_eq_true_iff] at h
  exact (add_all ⟨x, hx⟩ ⟨k, hk⟩).1 h
theorem on_no {x k : Nat} (hx : x < 256) (hk : k < 8) (h : x.testBit k = false) : onN x k = x + 2 ^ k ∧ x + 2 ^ k < 256 ∧ offN x k = x := by
  rw [byteBit, decide_eq_false_iff_not] at h
  exact (add_all ⟨x, hx⟩ ⟨k, hk⟩).2 h

/-! ### what the byte's operations give -/
theorem and8_all : ∀ (x : Fin 256) (k : Fin 8), bits .and .u8 (x.val : Int) ((2 ^ k.val : Nat) : Int) = ((if x.val / 2 ^ k.val % 2 = 1 then 2 ^ k.val else 0 : Nat) : Int) := by decide +kernel
theorem or8_all : ∀ (x : Fin 256) (k : Fin 8), bits .or .u8 (x.val : Int) ((2 ^ k.val : Nat) : Int) = ((x.val ||| 2 ^ k.val : Nat) : Int) := by decide +kernel
theorem and8 {x k : Nat} (hx : x < 256) (hk : k < 8) : bits .and .u8 (x : Int) ((2 ^ k : Nat) : Int) = ((if x.testBit k then 2 ^ k else 0 : Nat) : Int) := by
  rw [and8_all ⟨x, hx⟩ ⟨k, hk⟩, byteBit]
  simp only [decide_eq_true_eq]
theorem or8 {x k : Nat} (hx : x < 256) (hk : k < 8) : bits .or .u8 (x : Int) ((2 ^ k : Nat) : Int) = ((onN x k : Nat) : Int) := or8_all ⟨x, hx⟩ ⟨k, hk⟩
/-! ### a vertex put in, a vertex taken out -/
def addV (xs : List Nat) (v : Nat) : List Nat := xs.set (v / 8) (onN (xs.getD (v / 8) 0) (v % 8))
theorem addV_len (xs : List Nat) (v : Nat) : (addV xs v).length = xs.length := by simp [addV]
theorem getD_lt {xs : List Nat} (hs : ∀ x ∈ xs, x < 256) (i : Nat) : xs.getD i 0 < 256 := by
  rw [List.getD_eq_getElem?_getD]
  rcases Nat.lt_or_ge i xs.length with h | h
  · rw [List.getElem?_eq_getElem h]
    exact hs _ (List.getElem_mem h)
  · rw [List.getElem?_eq_none h]
    exact Nat.zero_lt_succ _
theorem set_small {xs : List Nat} (hs : ∀ x ∈ xs, x < 256) (i : Nat) {y : Nat} (hy : y < 256) : ∀ x ∈ xs.set i y, x < 256 := fun x hx => by
  rcases List.mem_or_eq_of_mem_set hx with h | rfl
  · exact hs x h
  · exact hy
theorem addV_small {xs : List Nat} (hs : ∀ x ∈ xs, x < 256) (v : Nat) : ∀ x ∈ addV xs v, x < 256 := set_small hs _ (on_lt (getD_lt hs _) (by omega))
theorem getD_set (xs : List Nat) (i j y : Nat) (hi : i < xs.length) : (xs.set i y).getD j 0 = if j = i then y else xs.getD j 0 := by
  rw [List.getD_eq_getElem?_getD, List.getD_eq_getElem?_getD, List.getElem?_set]
  by_cases h : i = j
  · subst h
    rw [if_pos rfl, if_pos hi, if_pos rfl]
    rfl
  · rw [if_neg h, if_neg (fun e => h e.symm)]
theorem bit_place {u v : Nat} : u / 8 = v / 8 → (u % 8 = v % 8 ↔ u = v) := fun h => ⟨fun k => by omega, fun k => by rw [k]⟩
theorem bit_addV {xs : List Nat} {v : Nat} (hv : v / 8 < xs.length) (u : Nat) : bitN (addV xs v) u = (decide (u = v) || bitN xs u) := by
  unfold bitN addV
  rw [getD_set _ _ _ _ hv]
  by_cases h : u / 8 = v / 8
  · rw [if_pos h, on_bit, h]
    congr 1
    simp only [decide_eq_decide]
    exact bit_place h
  · rw [if_neg h, show decide (u = v) = false by simp only [decide_eq_false_iff_not]; intro e; exact h (by rw [e]), Bool.false_or]
theorem lt_bytes {n v : Nat} (h : v < n) : v / 8 < bytesN n := by unfold bytesN; omega
theorem setB_add {N : Int} {xs : List Nat} {v : Nat} (h : setB N xs = true) (hv : v < N.toNat) : setB N (addV xs v) = true := by
  obtain ⟨⟨h1, h2, h3⟩, h4⟩ := setB_iff.1 h
  refine setB_iff.2 ⟨⟨h1, h2, by rw [addV_len]; exact h3⟩, fun u hu => ?_⟩
  rw [bit_addV (by rw [h3]; exact lt_bytes hv), h4 u hu, show decide (u = v) = false by simp only [decide_eq_false_iff_not]; omega]
  rfl
/-- What With answers: the number and the bytes. -/
def withN (N : Int) (xs : List Nat) : Int := if setB N xs then N else 0
def withX (N : Int) (xs : List Nat) (v : Int) : List Nat := if setB N xs then (if 0 ≤ v ∧ v < N then addV xs v.toNat else xs) else []
theorem withX_small {N : Int} {xs : List Nat} (hs : ∀ x ∈ xs, x < 256) (v : Int) : ∀ x ∈ withX N xs v, x < 256 := by
  unfold withX
  split
  · split
    · exact addV_small hs _
    · exact hs
  · simp
/-- What Has answers. -/
def hasB (N : Int) (xs : List Nat) (v : Int) : Bool := setB N xs && (decide (0 ≤ v) && (decide (v < N) && bitN xs v.toNat))
/-- The members. -/
def memsR (xs : List Nat) (k : Nat) : List Int := ((List.range k).filter (bitN xs)).map fun v : Nat => (v : Int)
def memsB (N : Int) (xs : List Nat) : List Int := if setB N xs then memsR xs N.toNat else []
theorem mems_step (xs : List Nat) (k : Nat) : memsR xs (k + 1) = if bitN xs k then memsR xs k ++ [(k : Int)] else memsR xs k := by
  unfold memsR
  rw [List.range_succ, List.filter_append, List.map_append]
  cases h : bitN xs k with
  | true => rw [if_pos rfl]; simp [List.filter, h]
  | false => simp [List.filter, h]
theorem mems_len (xs : List Nat) (k : Nat) : (memsR xs k).length ≤ k := by
  unfold memsR
  rw [List.length_map]
  exact Nat.le_trans (List.length_filter_le _ _) (by rw [List.length_range]; exact Nat.le_refl _)
end Go.Proofs.YtpgnappddddlpaaGreatDoor
namespace Go.Proofs.YtpgnappddddlpaaGreatDoor

structure VE where
  i : Bool
  o : Bool
  w : Int
  v : Int
def capF (x : Int) : Int := min (max x 0) 1099511627776
def addC (a b : Int) : Int := min (min (max a 0) 1099511627776 + min (max b 0) 1099511627776) 1099511627776
theorem addC_cap (a b : Int) : capF (capF a + capF b) = addC a b := by unfold capF addC; omega
theorem capF_lim (x : Int) : 0 ≤ capF x ∧ capF x ≤ 1099511627776 := by unfold capF; omega
theorem addC_lim (a b : Int) : 0 ≤ addC a b ∧ addC a b ≤ 1099511627776 := by unfold addC; omega
theorem addC_in {a b : Int} (h0 : 0 ≤ a) (h1 : 0 ≤ b) : addC a b = capF (a + b) := by unfold capF addC; omega

def progB (p : Int) : Bool := decide (1 ≤ p ∧ p ≤ 4)
def jobB (n p s : Int) : Bool := progB p && (if p = 3 then decide (0 ≤ s ∧ s < n) else decide (s = 0))
def vtxB (v : Int) : Bool := decide (0 ≤ v ∧ v < 150)
/-! ### the views -/
def valB (x : Int) : Bool := decide (0 ≤ x ∧ x ≤ 1099511627776)
def valsB (l : List Int) : Bool := l.all valB
def VE.ok (e : VE) : Bool := (e.i || e.o) && (decide (0 ≤ e.w ∧ e.w ≤ 1000) && valB e.v)
def viewsB (es : List VE) : Bool := decide (es.length ≤ 400) && es.all VE.ok
def updB (p v x : Int) (es : List VE) : Bool := progB p && (vtxB v && (valB x && viewsB es))
theorem VE.ok_lim {e : VE} (h : e.ok = true) : 0 ≤ e.w ∧ e.w ≤ 1000 ∧ 0 ≤ e.v ∧ e.v ≤ 1099511627776 ∧ (e.i = true ∨ e.o = true) := by
  unfold VE.ok valB at h
  simp at h
  exact ⟨h.2.1.1, h.2.1.2, h.2.2.1, h.2.2.2, h.1⟩
theorem updB_is {p v x : Int} {es : List VE} (h : updB p v x es = true) : (1 ≤ p ∧ p ≤ 4) ∧ (0 ≤ v ∧ v < 150) ∧ (0 ≤ x ∧ x ≤ 1099511627776) ∧ es.length ≤ 400 ∧ ∀ e ∈ es, e.ok = true := by
  unfold updB progB vtxB valB viewsB at h
  simp at h
  exact ⟨h.1, h.2.1, h.2.2.1, h.2.2.2.1, h.2.2.2.2⟩

/-! ### the new value -/
def rankStep (s : Int) (e : VE) : Int := if e.i then addC s e.v else s
def rankS (es : List VE) : Int := es.foldl rankStep 0
def newRank (es : List VE) : Int := addC 157286 (Int.tdiv (17 * rankS es) 20)
def minAll (x : Int) (es : List VE) : Int := es.foldl (fun x e => min x e.v) x
def pathStep (x : Int) (e : VE) : Int := if e.i then min x (addC e.v e.w) else x
def minPath (x : Int) (es : List VE) : Int := es.foldl pathStep x
def VE.labs (e : VE) : List Int := (if e.i then [Int.tdiv e.v 1000] else []) ++ (if e.o then [Int.tmod e.v 1000] else [])
def told (es : List VE) : List Int := es.flatMap VE.labs
def mostStep (T : List Int) (q : Int × Nat) (a : Int) : Int × Nat := if q.2 < T.count a ∨ (T.count a = q.2 ∧ a < q.1) then (a, T.count a) else q
def mostR (T : List Int) (x : Int) : Int := (T.foldl (mostStep T) (x, 0)).1
def newVal (p x : Int) (es : List VE) : Int := if p = 1 then newRank es else if p = 2 then minAll x es else if p = 3 then minPath x es else mostR (told es) x
def outsN (es : List VE) : Nat := es.foldl (fun n e => if e.o then n + 1 else n) 0
def newEdge (p x : Int) (n : Nat) (e : VE) : Int :=
  if p = 1 then (if e.o then Int.tdiv x (n : Int) else e.v)
  else if p = 2 then min x e.v
  else if p = 3 then (if e.o then x else e.v)
  else capF ((if e.o then x else Int.tdiv e.v 1000) * 1000 + (if e.i then x else Int.tmod e.v 1000))
def updV (p v x : Int) (es : List VE) : Int := if updB p v x es then newVal p x es else 0
def updE (p v x : Int) (es : List VE) : List Int := if updB p v x es then es.map (newEdge p (newVal p x es) (outsN es)) else []

section
variable {es : List VE} {k : Nat} {e : VE}
theorem take_snoc {α : Type} {es : List α} {k : Nat} {e : α} (h : es[k]? = some e) : es.take (k + 1) = es.take k ++ [e] := by
  obtain ⟨hk, rfl⟩ := List.getElem?_eq_some_iff.1 h
  rw [List.take_append_getElem]
theorem rankS_lim (es : List VE) : 0 ≤ rankS es ∧ rankS es ≤ 1099511627776 := by
  unfold rankS
  suffices H : ∀ (es : List VE) (s : Int), 0 ≤ s ∧ s ≤ 1099511627776 → 0 ≤ es.foldl rankStep s ∧ es.foldl rankStep s ≤ 1099511627776 from H es 0 (by omega)
  intro es
  induction es with
  | nil => intro s h; exact h
  | cons e r ih =>
    intro s h
    rw [List.foldl_cons]
    refine ih _ ?_
    unfold rankStep
    split
    · exact addC_lim _ _
    · exact h
theorem rankS_snoc (h : es[k]? = some e) : rankS (es.take (k + 1)) = rankStep (rankS (es.take k)) e := by
  rw [take_snoc h]; unfold rankS; rw [List.foldl_append]; rfl
theorem minAll_snoc (x : Int) (h : es[k]? = some e) : minAll x (es.take (k + 1)) = min (minAll x (es.take k)) e.v := by
  rw [take_snoc h]; unfold minAll; rw [List.foldl_append]; rfl
theorem minPath_snoc (x : Int) (h : es[k]? = some e) : minPath x (es.take (k + 1)) = pathStep (minPath x (es.take k)) e := by
  rw [take_snoc h]; unfold minPath; rw [List.foldl_append]; rfl
theorem told_snoc (h : es[k]? = some e) : told (es.take (k + 1)) = told (es.take k) ++ e.labs := by
  rw [take_snoc h]; unfold told; rw [List.flatMap_append]; simp
theorem outsN_snoc (h : es[k]? = some e) : outsN (es.take (k + 1)) = if e.o then outsN (es.take k) + 1 else outsN (es.take k) := by
  rw [take_snoc h]; unfold outsN; rw [List.foldl_append]; rfl
theorem labs_len (e : VE) : e.labs.length ≤ 2 := by unfold VE.labs; split <;> split <;> simp
theorem told_len (es : List VE) : (told es).length ≤ 2 * es.length := by
  unfold told
  induction es with
  | nil => simp
  | cons e r ih => rw [List.flatMap_cons, List.length_append, List.length_cons]; have := labs_len e; omega
theorem outsN_le : ∀ (es : List VE), outsN es ≤ es.length := by
  intro es
  unfold outsN
  suffices H : ∀ (es : List VE) (s : Nat), es.foldl (fun n e => if e.o then n + 1 else n) s ≤ s + es.length by have := H es 0; omega
  intro es
  induction es with
  | nil => intro s; simp
  | cons e r ih =>
    intro s
    rw [List.foldl_cons, List.length_cons]
    have := ih (if e.o then s + 1 else s)
    by_cases hq : e.o = true <;> simp [hq] at this ⊢ <;> omega
theorem outsN_pos {es : List VE} {e : VE} (h : e ∈ es) (ho : e.o = true) : 0 < outsN es := by
  unfold outsN
  have M : ∀ (es : List VE) (s : Nat), s ≤ es.foldl (fun n e => if e.o then n + 1 else n) s := by
    intro es
    induction es with
    | nil => intro s; simp
    | cons e r ih => intro s; rw [List.foldl_cons]; have := ih (if e.o then s + 1 else s); by_cases hq : e.o = true <;> simp [hq] at this ⊢ <;> omega
  suffices H : ∀ (es : List VE) (s : Nat), e ∈ es → s < es.foldl (fun n e => if e.o then n + 1 else n) s from H es 0 h
  intro es
  induction es with
  | nil => intro s h; simp at h
  | cons a r ih =>
    intro s h
    rw [List.foldl_cons]
    rcases List.mem_cons.1 h with rfl | h
    · rw [ho]; have := M r (s + 1); simp; omega
    · have := ih (if a.o then s + 1 else s) h
      by_cases hq : a.o = true <;> simp [hq] at this ⊢ <;> omega
theorem labs_lim {e : VE} (h : 0 ≤ e.v ∧ e.v ≤ 1099511627776) : ∀ a ∈ e.labs, 0 ≤ a ∧ a ≤ 1099511627776 := by
  intro a ha
  unfold VE.labs at ha
  rw [Int.tdiv_eq_ediv_of_nonneg h.1, Int.tmod_eq_emod_of_nonneg h.1] at ha
  rcases List.mem_append.1 ha with ha | ha
  · split at ha
    · rw [List.mem_singleton.1 ha]; omega
    · simp at ha
  · split at ha
    · rw [List.mem_singleton.1 ha]; omega
    · simp at ha
theorem told_lim {es : List VE} (h : ∀ e ∈ es, e.ok = true) : ∀ a ∈ told es, 0 ≤ a ∧ a ≤ 1099511627776 := by
  intro a ha
  obtain ⟨e, he, ha⟩ := List.mem_flatMap.1 ha
  have := VE.ok_lim (h e he)
  exact labs_lim (by omega) a ha
end

/-! ### the most frequent label -/
/-- b is the most frequent element of T, the smallest one in case of a tie; x if T is empty. -/
def IsMost (T : List Int) (x b : Int) : Prop := (T = [] ∧ b = x) ∨ (b ∈ T ∧ ∀ a ∈ T, T.count a < T.count b ∨ (T.count a = T.count b ∧ b ≤ a))
theorem IsMost.uniq {T : List Int} {x b c : Int} (h : IsMost T x b) (h' : IsMost T x c) : b = c := by
  rcases h with ⟨rfl, rfl⟩ | ⟨hb, h1⟩
  · rcases h' with ⟨_, rfl⟩ | ⟨hc, _⟩
    · rfl
    · simp at hc
  · rcases h' with ⟨rfl, _⟩ | ⟨hc, h2⟩
    · simp at hb
    · have e1 := h1 c hc
      have e2 := h2 b hb
      omega
theorem IsMost.perm {T S : List Int} {x b : Int} (h : IsMost T x b) (p : T.Perm S) : IsMost S x b := by
  rcases h with ⟨rfl, rfl⟩ | ⟨hb, h1⟩
  · exact .inl ⟨p.nil_eq.symm, rfl⟩
  · exact .inr ⟨p.mem_iff.1 hb, fun a ha => by have := h1 a (p.mem_iff.2 ha); rwa [p.count_eq, p.count_eq] at this⟩
/-- What stands behind a prefix P of T, the counts in T. -/
def MostIn (T P : List Int) (x : Int) (q : Int × Nat) : Prop := (P = [] ∧ q = (x, 0)) ∨ (q.1 ∈ P ∧ q.2 = T.count q.1 ∧ ∀ a ∈ P, T.count a < q.2 ∨ (T.count a = q.2 ∧ q.1 ≤ a))
theorem MostIn.step {T P : List Int} {x : Int} {q : Int × Nat} (h : MostIn T P x q) (a : Int) (ha : a ∈ T) : MostIn T (P ++ [a]) x (mostStep T q a) := by
  have hp : 0 < T.count a := List.count_pos_iff.2 ha
  right
  unfold mostStep
  rcases h with ⟨rfl, rfl⟩ | ⟨h1, h2, h3⟩
  · rw [if_pos (.inl hp)]
    simp
  · by_cases hc : q.2 < T.count a ∨ (T.count a = q.2 ∧ a < q.1)
    · rw [if_pos hc]
      refine ⟨by simp, rfl, fun b hb => ?_⟩
      rcases List.mem_append.1 hb with hb | hb
      · have := h3 b hb
        simp only
        omega
      · rw [List.mem_singleton.1 hb]
        simp
    · rw [if_neg hc]
      refine ⟨List.mem_append_left _ h1, h2, fun b hb => ?_⟩
      rcases List.mem_append.1 hb with hb | hb
      · exact h3 b hb
      · rw [List.mem_singleton.1 hb]
        omega
theorem mostR_in (T : List Int) (x : Int) : ∀ (R P : List Int) (q : Int × Nat), (∀ a ∈ R, a ∈ T) → MostIn T P x q → MostIn T (P ++ R) x (R.foldl (mostStep T) q)
  | [], P, q, _, h => by simpa using h
  | a :: R, P, q, hR, h => by
    rw [List.foldl_cons, show P ++ a :: R = (P ++ [a]) ++ R by simp]
    exact mostR_in T x R _ _ (fun b hb => hR b (List.mem_cons_of_mem _ hb)) (h.step a (hR a (List.mem_cons_self)))
theorem mostR_is (T : List Int) (x : Int) : IsMost T x (mostR T x) := by
  have h := mostR_in T x T [] (x, 0) (fun _ h => h) (.inl ⟨rfl, rfl⟩)
  rw [List.nil_append] at h
  unfold mostR
  rcases h with ⟨h1, h2⟩ | ⟨h1, h2, h3⟩
  · left
    exact ⟨h1, by rw [h2]⟩
  · right
    refine ⟨h1, fun a ha => ?_⟩
    rw [← h2]
    exact h3 a ha
theorem mostR_lim {T : List Int} {x : Int} (hT : ∀ a ∈ T, 0 ≤ a ∧ a ≤ 1099511627776) (hx : 0 ≤ x ∧ x ≤ 1099511627776) : 0 ≤ mostR T x ∧ mostR T x ≤ 1099511627776 := by
  rcases mostR_is T x with ⟨_, h⟩ | ⟨h, _⟩
  · rw [h]; exact hx
  · exact hT _ h

/-! ### the scan of a sorted list -/
/-- What stands behind a prefix P of a sorted list: best, most, count. -/
def Scan (P : List Int) (x b : Int) (m c : Nat) : Prop := (P = [] ∧ b = x ∧ m = 0 ∧ c = 0) ∨ (∃ y, P.getLast? = some y ∧ c = P.count y ∧ b ∈ P ∧ m = P.count b ∧ ∀ a ∈ P, P.count a < m ∨ (P.count a = m ∧ b ≤ a))
theorem Scan.is {P : List Int} {x b : Int} {m c : Nat} (h : Scan P x b m c) : IsMost P x b := by
  rcases h with ⟨h1, h2, _, _⟩ | ⟨y, _, _, h3, h4, h5⟩
  · exact .inl ⟨h1, h2⟩
  · right
    refine ⟨h3, fun a ha => ?_⟩
    rw [← h4]
    exact h5 a ha
theorem count_snoc (P : List Int) (a b : Int) : (P ++ [a]).count b = P.count b + if a = b then 1 else 0 := by
  rw [List.count_append, List.count_singleton]
  simp
theorem last_count {P : List Int} {y a : Int} (hs : (P ++ [a]).Pairwise (· ≤ ·)) (hl : P.getLast? = some y) (hne : y ≠ a) : P.count a = 0 := by
  rw [List.count_eq_zero]
  intro hm
  have hs' := List.pairwise_append.1 hs
  have h1 : y ∈ P := List.mem_of_getLast? hl
  have h2 := hs'.2.2 y h1 a (by simp)
  obtain ⟨Q, rfl⟩ : ∃ Q, P = Q ++ [y] := by
    obtain ⟨Q, hQ⟩ := List.getLast?_eq_some_iff.1 hl
    exact ⟨Q, hQ⟩
  rcases List.mem_append.1 hm with hm | hm
  · have h3 := (List.pairwise_append.1 hs'.1).2.2 a hm y (by simp)
    omega
  · simp at hm
    omega
/-- One more element; 'same': it is the last one again. -/
theorem Scan.step {P : List Int} {x b a : Int} {m c : Nat} (h : Scan P x b m c) (hs : (P ++ [a]).Pairwise (· ≤ ·)) (same : Bool) (hsame : same = true → P.getLast? = some a) (hdiff : same = false → P.getLast? ≠ some a) :
    Scan (P ++ [a]) x (if m < (if same then c else 0) + 1 then a else b) (if m < (if same then c else 0) + 1 then (if same then c else 0) + 1 else m) ((if same then c else 0) + 1) := by
  have hcnt : (if same then c else 0) = P.count a := by
    rcases h with ⟨rfl, _, _, rfl⟩ | ⟨y, h1, h2, _, _, _⟩
    · simp
    · cases hsm : same with
      | true => have := hsame hsm; rw [h1] at this; injection this with this; subst this; simpa using h2
      | false =>
        have := hdiff hsm
        rw [h1] at this
        rw [last_count hs h1 (fun e => this (by rw [e]))]
        rfl
  rw [hcnt]
  clear hcnt hsame hdiff
  right
  refine ⟨a, by simp, by rw [count_snoc]; simp, ?_⟩
  have hle : ∀ q ∈ P, q ≤ a := fun q hq => (List.pairwise_append.1 hs).2.2 q hq a (by simp)
  by_cases hc : m < P.count a + 1
  · rw [if_pos hc, if_pos hc]
    refine ⟨by simp, by rw [count_snoc]; simp, fun q hq => ?_⟩
    rw [count_snoc]
    rcases List.mem_append.1 hq with hq | hq
    · split
      · rename_i e; subst e; right; exact ⟨rfl, by omega⟩
      · rename_i e
        rcases h with ⟨rfl, _, _, _⟩ | ⟨y, _, _, _, _, h5⟩
        · simp at hq
        · have := h5 q hq
          left
          omega
    · rw [List.mem_singleton.1 hq]
      simp
  · rw [if_neg hc, if_neg hc]
    rcases h with ⟨rfl, _, rfl, _⟩ | ⟨y, _, _, h3, h4, h5⟩
    · simp at hc
    · have hba : a ≠ b := fun e => by subst e; omega
      refine ⟨List.mem_append_left _ h3, by rw [count_snoc, if_neg hba]; omega, fun q hq => ?_⟩
      rw [count_snoc]
      have hqa : ∀ (_ : a = q), P.count q + 1 < m ∨ (P.count q + 1 = m ∧ b ≤ q) := fun e => by
        subst e
        have := hle b h3
        omega
      split
      · rename_i e; exact hqa e
      · rename_i e
        rcases List.mem_append.1 hq with hq | hq
        · have := h5 q hq; omega
        · exact absurd (List.mem_singleton.1 hq).symm e
theorem Scan.most {S T : List Int} {x b : Int} {m c : Nat} (h : Scan S x b m c) (p : T.Perm S) : b = mostR T x := (h.is.perm p.symm).uniq (mostR_is T x)
theorem Scan.le {P : List Int} {x b : Int} {m c : Nat} (h : Scan P x b m c) : m ≤ P.length ∧ c ≤ P.length := by
  rcases h with ⟨rfl, _, rfl, rfl⟩ | ⟨y, _, h2, _, h4, _⟩
  · simp
  · rw [h2, h4]
    exact ⟨List.count_le_length, List.count_le_length⟩
end Go.Proofs.YtpgnappddddlpaaGreatDoor
namespace Go.Proofs.YtpgnappddddlpaaGreatDoor
open Go.RowKit

theorem block_of_add (a : Addr) (n : Nat) : (a.add n).block = a.block := by unfold Addr.add; split <;> rfl
def Reads (w : World) (B size : Nat) (A : Option Addr) (n : Nat) (xs : List Value) : Prop :=
  xs.length = n * size ∧ (0 < n → ∃ ad, A = some ad ∧ ad.block < B ∧ ∀ j u, xs[j]? = some u → w.cell? (ad.add j) = some u)

section
variable {w w' : World} {B B' size n : Nat} {A : Option Addr} {xs : List Value}
theorem Reads.at_ {k : Nat} (h : Reads w B 1 A n xs) (hk : k < n) : ∃ ad u, A = some ad ∧ ad.block < B ∧ xs[k]? = some u ∧ w.cell? (ad.add k) = some u := by
  obtain ⟨ad, e, hb, hc⟩ := h.2 (by omega)
  have hl : k < xs.length := by have := h.1; omega
  exact ⟨ad, xs[k], e, hb, List.getElem?_eq_getElem hl, hc k _ (List.getElem?_eq_getElem hl)⟩
theorem Reads.keep (h : Reads w B size A n xs) (hk : ∀ p : Addr, p.block < B → w'.cell? p = w.cell? p) : Reads w' B size A n xs :=
  ⟨h.1, fun hn => by
    obtain ⟨ad, e, hb, hc⟩ := h.2 hn
    exact ⟨ad, e, hb, fun j u hu => (hk _ (by rw [block_of_add]; exact hb)).trans (hc j u hu)⟩⟩
theorem Reads.below (h : Reads w B size A n xs) (hb : Below B w w') : Reads w' B size A n xs := h.keep fun _ hp => hb.cell hp
theorem Reads.drew (h : Reads w B size A n xs) : Reads w.drew B size A n xs := h
theorem Reads.drewN (h : Reads w B size A n xs) (k : Nat) : Reads (w.drewN k) B size A n xs := h
theorem Reads.alloc (h : Reads w B size A n xs) (hB : B ≤ w.heap.size) (o : Obj) : Reads (w.alloc o) B size A n xs := h.keep fun p hp => World.cell?_alloc_lt w o p (by omega)
theorem Reads.setCell (h : Reads w B size A n xs) {p : Addr} (hB : B ≤ p.block) (u : Value) : Reads (w.setCell p u) B size A n xs :=
  h.keep fun q hq => World.cell?_setCell_other w p q u (fun e => by subst e; omega)
theorem Reads.grown (h : Reads w B size A n xs) {row : Option Nat} (hg : w.grownBy w' row) (hB : B ≤ w.heap.size) (hr : ∀ g, row = some g → B ≤ g) : Reads w' B size A n xs :=
  h.keep fun p hp => World.cell?_of_block (hg.block p.block (by omega) (fun e => by have := hr _ e.symm; omega))
theorem Reads.of_own {base : Nat} {e : TypeId} {c : Nat} (h : w.ownsRow base e size (.slice A n c) n xs) : Reads w w.heap.size size A n xs := by
  refine ⟨h.1, fun hn => ?_⟩
  obtain ⟨g, cap, hv, _, hlt⟩ := h.form hn
  have hA : A = some ⟨g, 0, none⟩ := by injection hv
  subst hA
  exact ⟨_, rfl, hlt, h.cells (g := g) rfl⟩
end

section
variable {P : Program} (w : World)

theorem run_append_of_nil (base : Nat) (t ty e : TypeId) (i : TypeInfo) (size : Nat) (ht : P.underlying t = some (.slice e)) (hi : P.info? e = some i)
    (v : Value) (n : Nat) (xs : List Value) (hown : w.ownsRow base e size v n xs) (c : Nat) : (Builtin.append_ #[t, t] ty #[v, .slice none 0 c]).run P w = .ok v w := by
  rcases hown.2 with ⟨rfl, rfl⟩ | ⟨g, cap, cur, rfl, _, _, hnc, _⟩
  · simp [Builtin.append_, run_underlying ht, sizeOf, typeInfo, hi, Builtin.lenOf, Builtin.firstCells]
  · simp [Builtin.append_, run_underlying ht, sizeOf, typeInfo, hi, Builtin.lenOf, Builtin.firstCells, hnc, storeCells]

theorem run_append_any (base : Nat) (t ty e : TypeId) (i : TypeInfo) (z : Value) (size bytes : Nat) (ht : P.underlying t = some (.slice e)) (hi : P.info? e = some i) (hz : i.zero = some z)
    (hsize : i.size = size) (hby : i.bytes = bytes) (hzs : z.cells.size = size) (hsz : 0 < size)
    (v : Value) (n : Nat) (xs : List Value) (hown : w.ownsRow base e size v n xs)
    (B : Nat) (A : Option Addr) (m c : Nat) (news : List Value) (hr : Reads w B size A m news) (h1 : ∀ u ∈ news, u.oneCell' = true)
    (h63 : n + m ≤ maxLen) (hbytes : (n + m) * bytes ≤ 140737488355328) (hbase : base ≤ w.heap.size) :
    ∃ v' w', (Builtin.append_ #[t, t] ty #[v, .slice A m c]).run P w = .ok v' w' ∧ w'.ownsRow base e size v' (n + m) (xs ++ news) ∧ w.grownBy w' v.ownBlock ∧
      (v'.ownBlock = v.ownBlock ∨ v'.ownBlock = some w.heap.size) := by
  rcases A with _ | ad
  · have hm : m = 0 := by
      rcases Nat.eq_zero_or_pos m with h0 | h0
      · exact h0
      · obtain ⟨ad, h, _⟩ := hr.2 h0
        cases h
    subst hm
    have hn : news = [] := List.eq_nil_of_length_eq_zero (by simpa using hr.1)
    subst hn
    exact ⟨v, w, run_append_of_nil w base t ty e i size ht hi v n xs hown c, by simpa using hown, World.grownBy.refl w _, .inl rfl⟩
  · have hcells : ∀ j u, news[j]? = some u → w.cell? (ad.add j) = some u := by
      intro j u hu
      rcases Nat.eq_zero_or_pos m with h0 | h0
      · subst h0
        have hn : news = [] := List.eq_nil_of_length_eq_zero (by simpa using hr.1)
        subst hn
        simp at hu
      · obtain ⟨ad', h, _, hc⟩ := hr.2 h0
        injection h with h
        subst h
        exact hc j u hu
    obtain ⟨v', w', hrun, h2, h3, _, h5⟩ := run_append_own_at (P := P) w base t ty e i z size bytes ht hi hz hsize hby hzs hsz v n xs hown ad m c news hr.1 hcells h1 h63 hbytes hbase
    exact ⟨v', w', hrun, h2, h3, h5⟩

theorem wp_append_any {o : Oper} {a : Act} {K : Act → World → Prop} {Q : Exit → Act → World → Prop} (s x : Operand) (t : TypeId)
    (ho : o.op = .call { callee := .builtin .append, args := #[s, x], argTypes := #[t, t] })
    (base : Nat) (e : TypeId) (i : TypeInfo) (z : Value) (size bytes : Nat) (ht : P.underlying t = some (.slice e)) (hi : P.info? e = some i) (hz : i.zero = some z)
    (hsize : i.size = size) (hby : i.bytes = bytes) (hzs : z.cells.size = size) (hsz : 0 < size)
    (v : Value) (n : Nat) (xs : List Value) (hs : a.eval s = v) (hown : w.ownsRow base e size v n xs)
    (B : Nat) (A : Option Addr) (m c : Nat) (news : List Value) (hx : a.eval x = .slice A m c) (hr : Reads w B size A m news) (h1 : ∀ u ∈ news, u.oneCell' = true)
    (h63 : n + m ≤ maxLen) (hbytes : (n + m) * bytes ≤ 140737488355328) (hbase : base ≤ w.heap.size)
    (h : ∀ v' w', w'.ownsRow base e size v' (n + m) (xs ++ news) → w.grownBy w' v.ownBlock → (v'.ownBlock = v.ownBlock ∨ v'.ownBlock = some w.heap.size) → K (a.put o.dst v') w') : o.wp P a w K Q := by
  obtain ⟨v', w', hrun, h2, h3, h4⟩ := run_append_any (P := P) w base t o.type e i z size bytes ht hi hz hsize hby hzs hsz v n xs hown B A m c news hr h1 h63 hbytes hbase
  unfold Oper.wp execOp
  simp only [ho, resolve, invoke, builtin, Sem.run_bind, Sem.run_pure, Result.andThen_ok, List.map_toArray, List.map_cons, List.map_nil, hs, hx, hrun]
  exact h v' w' h2 h3 h4

theorem wpList_append_any {ops : Array Oper} {rest : List Oper} {o : Oper} {a : Act} {Q : Exit → Act → World → Prop} (hgd : o.guard = none) (s x : Operand) (t : TypeId)
    (ho : o.op = .call { callee := .builtin .append, args := #[s, x], argTypes := #[t, t] })
    (base : Nat) (e : TypeId) (i : TypeInfo) (z : Value) (size bytes : Nat) (ht : P.underlying t = some (.slice e)) (hi : P.info? e = some i) (hz : i.zero = some z)
    (hsize : i.size = size) (hby : i.bytes = bytes) (hzs : z.cells.size = size) (hsz : 0 < size)
    (v : Value) (n : Nat) (xs : List Value) (hs : a.eval s = v) (hown : w.ownsRow base e size v n xs)
    (B : Nat) (A : Option Addr) (m c : Nat) (news : List Value) (hx : a.eval x = .slice A m c) (hr : Reads w B size A m news) (h1 : ∀ u ∈ news, u.oneCell' = true)
    (h63 : n + m ≤ maxLen) (hbytes : (n + m) * bytes ≤ 140737488355328) (hbase : base ≤ w.heap.size)
    (h : ∀ v' w', w'.ownsRow base e size v' (n + m) (xs ++ news) → w.grownBy w' v.ownBlock → (v'.ownBlock = v.ownBlock ∨ v'.ownBlock = some w.heap.size) → wpList P ops Q rest (a.put o.dst v') w') : wpList P ops Q (o :: rest) a w :=
  wpList_plain hgd fun _ hK => wp_append_any w s x t ho base e i z size bytes ht hi hz hsize hby hzs hsz v n xs hs hown B A m c news hx hr h1 h63 hbytes hbase fun v' w' h2 h3 h4 => hK _ _ (h v' w' h2 h3 h4)

theorem step_append_any {ops : Array Oper} {o : Oper} {a : Act} {K : Act → World → Prop} {Q : Exit → Act → World → Prop} {E : Prop} (hgd : o.guard = none) (s x : Operand) (t : TypeId)
    (ho : o.op = .call { callee := .builtin .append, args := #[s, x], argTypes := #[t, t] })
    (base : Nat) (e : TypeId) (i : TypeInfo) (z : Value) (size bytes : Nat) (ht : P.underlying t = some (.slice e)) (hi : P.info? e = some i) (hz : i.zero = some z)
    (hsize : i.size = size) (hby : i.bytes = bytes) (hzs : z.cells.size = size) (hsz : 0 < size)
    (v : Value) (n : Nat) (xs : List Value) (hs : a.eval s = v) (hown : w.ownsRow base e size v n xs)
    (B : Nat) (A : Option Addr) (m c : Nat) (news : List Value) (hx : a.eval x = .slice A m c) (hr : Reads w B size A m news) (h1 : ∀ u ∈ news, u.oneCell' = true)
    (h63 : n + m ≤ maxLen) (hbytes : (n + m) * bytes ≤ 140737488355328) (hbase : base ≤ w.heap.size)
    (h : ∀ v' w', w'.ownsRow base e size v' (n + m) (xs ++ news) → w.grownBy w' v.ownBlock → (v'.ownBlock = v.ownBlock ∨ v'.ownBlock = some w.heap.size) → K (a.put o.dst v') w') :
    if Region.wanted o (yielded ops a.tmps) = true then Oper.wp P o a w K Q else E := by
  have hw : Region.wanted o (yielded ops a.tmps) = true := by simp [Region.wanted, hgd]
  rw [if_pos hw]
  exact wp_append_any w s x t ho base e i z size bytes ht hi hz hsize hby hzs hsz v n xs hs hown B A m c news hx hr h1 h63 hbytes hbase h
end

theorem Rd.reads {w : World} {A : Option Addr} {n : Nat} {xs : List Nat} (h : Rd w A n xs) : Reads w w.heap.size 1 A n (vb xs) := by
  refine ⟨by rw [vb_length, h.len]; omega, fun hn => ?_⟩
  obtain ⟨b, off, rfl, hb, hc⟩ := h.lies hn
  refine ⟨_, rfl, hb, fun j u hu => ?_⟩
  rw [vb_get] at hu
  obtain ⟨x, hx, rfl⟩ := Option.map_eq_some_iff.1 hu
  have hx2 : ((⟨b, off, none⟩ : Addr).add j) = ⟨b, off + j, none⟩ := by unfold Addr.add; split <;> simp_all
  rw [hx2]
  exact hc j x hx
end Go.Proofs.YtpgnappddddlpaaGreatDoor
namespace Go.Proofs.YtpgnappddddlpaaGreatDoor
open Go.RowKit

/-- All old cells and all old marks read as before. -/
theorem bcell {W w1 : World} (hb : Below W.heap.size W w1) : (∀ b o, b < W.heap.size → w1.cell? ⟨b, o, none⟩ = W.cell? ⟨b, o, none⟩) ∧ (∀ b o, b < W.heap.size → w1.frozen? ⟨b, o, none⟩ = W.frozen? ⟨b, o, none⟩) :=
  ⟨fun b o h => hb.cell (p := ⟨b, o, none⟩) h, fun b o h => hb.frozen (p := ⟨b, o, none⟩) h⟩
theorem below_a1 (w : World) (o1 : Obj) : Below w.heap.size w (w.alloc o1) := (Below.refl _ _).alloc (Nat.le_refl _) _
theorem below_a2 (w : World) (o1 o2 : Obj) : Below w.heap.size w ((w.alloc o1).alloc o2) := (below_a1 w o1).alloc (by simp) _
theorem below_a3 (w : World) (o1 o2 o3 : Obj) : Below w.heap.size w (((w.alloc o1).alloc o2).alloc o3) := (below_a2 w o1 o2).alloc (by simp; omega) _

/-- Cells of blocks below B alone are written. -/
def Lows (B : Nat) (w w' : World) : Prop := ∀ k, B ≤ k → w'.heap[k]? = w.heap[k]?
theorem Lows.refl (B : Nat) (w : World) : Lows B w w := fun _ _ => rfl
theorem Lows.set {B : Nat} {w w' : World} (h : Lows B w w') {p : Addr} (hp : p.block < B) (u : Value) : Lows B w (w'.setCell p u) :=
  fun k hk => (Below.heap_setCell w' p u k (by omega)).trans (h k hk)

/-- A slice of bytes, and what it holds. -/
structure Dat where
  A : Option Addr
  n : Nat
  c : Nat
  xs : List Nat
def Dat.v (d : Dat) : Value := .slice d.A d.n d.c
structure Dat.Ok (w : World) (d : Dat) : Prop where
  rd : Rd w d.A d.n d.xs
  cap : d.n ≤ d.c
/-- A file. -/
structure Ent where
  nm : ByteArray
  d : Dat
def Ent.cells (e : Ent) : List Value := [.string e.nm, .slice e.d.A e.d.n e.d.c]
def Ent.file (e : Ent) : ByteArray × List Nat := (e.nm, e.d.xs)
/-- An operation. -/
structure OpE where
  kind : Int
  nm : ByteArray
  to : ByteArray
  d : Dat
def OpE.cells (o : OpE) : List Value := [.int .i64 o.kind, .string o.nm, .string o.to, .slice o.d.A o.d.n o.d.c]
def OpE.v (o : OpE) : Value := .agg #[.int .i64 o.kind, .string o.nm, .string o.to, .slice o.d.A o.d.n o.d.c]
def OpE.op (o : OpE) : Int × ByteArray × ByteArray × List Nat := (o.kind, o.nm, o.to, o.d.xs)
theorem Ent.cells_len (e : Ent) : e.cells.length = 2 := rfl
theorem OpE.cells_len (o : OpE) : o.cells.length = 4 := rfl

section
variable {w w' : World} {d : Dat}
theorem Dat.Ok.keep (h : d.Ok w) (hs : w.heap.size ≤ w'.heap.size) (hk : ∀ k, k < w.heap.size → w'.heap[k]? = w.heap[k]?) : d.Ok w' :=
  ⟨h.rd.keep hs fun p hp => World.cell?_of_block (hk p.block hp), h.cap⟩
theorem Dat.Ok.below (h : d.Ok w) (hb : Below w.heap.size w w') : d.Ok w' := h.keep hb.size hb.block
theorem Dat.Ok.drewN (h : d.Ok w) (k : Nat) : d.Ok (w.drewN k) := ⟨h.rd.drewN k, h.cap⟩
theorem Dat.Ok.alloc (h : d.Ok w) (o : Obj) : d.Ok (w.alloc o) := ⟨h.rd.alloc o, h.cap⟩
end

/-! ### cells one behind the other -/
theorem flat_len {α : Type} (f : α → List Value) (k : Nat) (hf : ∀ a, (f a).length = k) (es : List α) : (es.flatMap f).length = es.length * k := by
  induction es with
  | nil => simp
  | cons a r ih => rw [List.flatMap_cons, List.length_append, hf, ih, List.length_cons, Nat.add_mul, Nat.one_mul, Nat.add_comm]
theorem flat_get {α : Type} (f : α → List Value) (k : Nat) (hf : ∀ a, (f a).length = k) : ∀ (es : List α) (j i : Nat) (e : α), es[j]? = some e → i < k → (es.flatMap f)[j * k + i]? = (f e)[i]?
  | [], j, i, e, he, _ => by simp at he
  | a :: r, 0, i, e, he, hi => by
    simp at he
    subst he
    rw [List.flatMap_cons, Nat.zero_mul, Nat.zero_add, List.getElem?_append_left (by rw [hf]; exact hi)]
  | a :: r, j + 1, i, e, he, hi => by
    have he2 : r[j]? = some e := by simpa using he
    rw [List.flatMap_cons, List.getElem?_append_right (by rw [hf, Nat.add_mul]; omega), hf, Nat.add_mul, Nat.one_mul, show j * k + k + i - k = j * k + i by omega]
    exact flat_get f k hf r j i e he2 hi
theorem flat_set {α : Type} (f : α → List Value) (k : Nat) (hf : ∀ a, (f a).length = k) : ∀ (es : List α) (j i : Nat) (e e' : α) (u : Value), es[j]? = some e → i < k → f e' = (f e).set i u → (es.flatMap f).set (j * k + i) u = (es.set j e').flatMap f
  | [], j, i, e, _, _, he, _, _ => by simp at he
  | a :: r, 0, i, e, e', u, he, hi, h => by
    simp at he
    subst he
    rw [List.flatMap_cons, Nat.zero_mul, Nat.zero_add, List.set_append_left _ _ (by rw [hf]; exact hi), ← h, List.set_cons_zero, List.flatMap_cons]
  | a :: r, j + 1, i, e, e', u, he, hi, h => by
    have he2 : r[j]? = some e := by simpa using he
    rw [List.flatMap_cons, List.set_append_right _ _ (by rw [hf, Nat.add_mul]; omega), hf, Nat.add_mul, Nat.one_mul, show j * k + k + i - k = j * k + i by omega, flat_set f k hf r j i e e' u he2 hi h, List.set_cons_succ, List.flatMap_cons]
theorem flat_snoc {α : Type} (f : α → List Value) (es : List α) (e : α) : (es ++ [e]).flatMap f = es.flatMap f ++ f e := by simp

/-- The slice at A of n records of k cells each reads as the cells cs. -/
structure Row (w : World) (k : Nat) (A : Option Addr) (n : Nat) (cs : List Value) : Prop where
  len : cs.length = n * k
  lies : 0 < n → ∃ b off, A = some ⟨b, off, none⟩ ∧ b < w.heap.size ∧ ∀ (j : Nat) (u : Value), cs[j]? = some u → w.cell? ⟨b, off + j, none⟩ = some u

section
variable {w w' : World} {k n : Nat} {A : Option Addr} {cs : List Value}
theorem Row.keep (h : Row w k A n cs) (hs : w.heap.size ≤ w'.heap.size) (hk : ∀ i, i < w.heap.size → w'.heap[i]? = w.heap[i]?) : Row w' k A n cs :=
  ⟨h.len, fun hn => by
    obtain ⟨b, off, e, hb, hc⟩ := h.lies hn
    exact ⟨b, off, e, by omega, fun j u hu => (World.cell?_of_block (a := ⟨b, off + j, none⟩) (hk b hb)).trans (hc j u hu)⟩⟩
theorem Row.below (h : Row w k A n cs) (hb : Below w.heap.size w w') : Row w' k A n cs := h.keep hb.size hb.block
theorem Row.drewN (h : Row w k A n cs) (m : Nat) : Row (w.drewN m) k A n cs := ⟨h.len, h.lies⟩
theorem Row.alloc (h : Row w k A n cs) (o : Obj) : Row (w.alloc o) k A n cs := h.keep (by simp) fun i hi => Below.heap_alloc w o i hi
theorem Row.nil : Row w k A 0 [] := ⟨by simp, fun h => absurd h (by omega)⟩
theorem Row.reads (h : Row w k A n cs) : Reads w w.heap.size k A n cs :=
  ⟨h.len, fun hn => by
    obtain ⟨b, off, rfl, hb, hc⟩ := h.lies hn
    refine ⟨_, rfl, hb, fun j u hu => ?_⟩
    have hx2 : ((⟨b, off, none⟩ : Addr).add j) = ⟨b, off + j, none⟩ := by unfold Addr.add; split <;> simp_all
    rw [hx2]
    exact hc j u hu⟩
theorem Row.of_own {base e c : Nat} (h : w.ownsRow base e k (.slice A n c) n cs) : Row w k A n cs := by
  refine ⟨h.1, fun hn => ?_⟩
  obtain ⟨g, cap, hv, _, hlt⟩ := h.form hn
  have hA : A = some ⟨g, 0, none⟩ := by injection hv
  subst hA
  refine ⟨g, 0, rfl, hlt, fun j u hu => ?_⟩
  have := h.cells (g := g) rfl j u hu
  have hx : ((⟨g, 0, none⟩ : Addr).add j) = ⟨g, 0 + j, none⟩ := by unfold Addr.add; split <;> simp_all
  rw [hx] at this
  exact this
end

/-- A slice of files, a slice of operations, in memory. -/
structure SlF (w : World) (A : Option Addr) (n : Nat) (es : List Ent) : Prop where
  len : es.length = n
  row : Row w 2 A n (es.flatMap Ent.cells)
  each : ∀ e ∈ es, e.d.Ok w
structure SlO (w : World) (A : Option Addr) (n : Nat) (os : List OpE) : Prop where
  len : os.length = n
  row : Row w 4 A n (os.flatMap OpE.cells)
  each : ∀ o ∈ os, o.d.Ok w

section
variable {w w' : World} {n : Nat} {A : Option Addr} {es : List Ent} {os : List OpE}
theorem SlF.keep (h : SlF w A n es) (hs : w.heap.size ≤ w'.heap.size) (hk : ∀ i, i < w.heap.size → w'.heap[i]? = w.heap[i]?) : SlF w' A n es :=
  ⟨h.len, h.row.keep hs hk, fun e he => (h.each e he).keep hs hk⟩
theorem SlF.below (h : SlF w A n es) (hb : Below w.heap.size w w') : SlF w' A n es := h.keep hb.size hb.block
theorem SlF.drewN (h : SlF w A n es) (m : Nat) : SlF (w.drewN m) A n es := ⟨h.len, h.row.drewN m, fun e he => (h.each e he).drewN m⟩
theorem SlF.nil : SlF w A 0 [] := ⟨rfl, Row.nil, by simp⟩
theorem SlO.keep (h : SlO w A n os) (hs : w.heap.size ≤ w'.heap.size) (hk : ∀ i, i < w.heap.size → w'.heap[i]? = w.heap[i]?) : SlO w' A n os :=
  ⟨h.len, h.row.keep hs hk, fun e he => (h.each e he).keep hs hk⟩
theorem SlO.below (h : SlO w A n os) (hb : Below w.heap.size w w') : SlO w' A n os := h.keep hb.size hb.block
theorem SlO.drewN (h : SlO w A n os) (m : Nat) : SlO (w.drewN m) A n os := ⟨h.len, h.row.drewN m, fun e he => (h.each e he).drewN m⟩
theorem SlO.nil : SlO w A 0 [] := ⟨rfl, Row.nil, by simp⟩
/-- The file at place j, its two cells. -/
theorem SlF.at_ {j : Nat} (h : SlF w A n es) (hj : j < n) : ∃ (b off : Nat) (e : Ent), A = some ⟨b, off, none⟩ ∧ b < w.heap.size ∧ Hid (es[j]? = some e) ∧ Hid (e.d.Ok w) ∧
    w.cell? ⟨b, off + j * 2, none⟩ = some (.string e.nm) ∧ w.cell? ⟨b, off + j * 2 + 1, none⟩ = some (.slice e.d.A e.d.n e.d.c) := by
  obtain ⟨b, off, rfl, hb, hc⟩ := h.row.lies (by omega)
  have hl : j < es.length := by have := h.len; omega
  have he : es[j]? = some es[j] := List.getElem?_eq_getElem hl
  refine ⟨b, off, es[j], rfl, hb, he, h.each _ (List.getElem_mem hl), ?_, ?_⟩
  · exact hc (j * 2) _ (flat_get Ent.cells 2 Ent.cells_len es j 0 _ he (by omega))
  · exact hc (j * 2 + 1) _ (flat_get Ent.cells 2 Ent.cells_len es j 1 _ he (by omega))
theorem SlO.at_ {j : Nat} (h : SlO w A n os) (hj : j < n) : ∃ (b off : Nat) (o : OpE), A = some ⟨b, off, none⟩ ∧ b < w.heap.size ∧ Hid (os[j]? = some o) ∧ Hid (o.d.Ok w) ∧
    w.cell? ⟨b, off + j * 4, none⟩ = some (.int .i64 o.kind) ∧ w.cell? ⟨b, off + j * 4 + 1, none⟩ = some (.string o.nm) ∧ w.cell? ⟨b, off + j * 4 + 2, none⟩ = some (.string o.to) ∧ w.cell? ⟨b, off + j * 4 + 3, none⟩ = some (.slice o.d.A o.d.n o.d.c) := by
  obtain ⟨b, off, rfl, hb, hc⟩ := h.row.lies (by omega)
  have hl : j < os.length := by have := h.len; omega
  have he : os[j]? = some os[j] := List.getElem?_eq_getElem hl
  refine ⟨b, off, os[j], rfl, hb, he, h.each _ (List.getElem_mem hl), ?_, ?_, ?_, ?_⟩
  · exact hc (j * 4) _ (flat_get OpE.cells 4 OpE.cells_len os j 0 _ he (by omega))
  · exact hc (j * 4 + 1) _ (flat_get OpE.cells 4 OpE.cells_len os j 1 _ he (by omega))
  · exact hc (j * 4 + 2) _ (flat_get OpE.cells 4 OpE.cells_len os j 2 _ he (by omega))
  · exact hc (j * 4 + 3) _ (flat_get OpE.cells 4 OpE.cells_len os j 3 _ he (by omega))
end
end Go.Proofs.YtpgnappddddlpaaGreatDoor
namespace Go.Proofs.YtpgnappddddlpaaGreatDoor
open Go.RowKit

theorem Tryz.infoByte : (Tryz.prog.info? 5).map (fun i => (i.zero, i.size, i.bytes)) = some (some (.int .u8 0), 1, 1) := by kernel_rfl

/-- What a call that makes a new slice of bytes leaves. -/
def Made (w : World) (n : Nat) (xs : List Nat) (e : Ending) (w' : World) : Prop :=
  ∃ A c, e = .returned (.slice A n c) ∧ w'.ownsRow w.heap.size 5 1 (.slice A n c) n (vb xs) ∧ Below w.heap.size w w'
end Go.Proofs.YtpgnappddddlpaaGreatDoor
namespace Go.Proofs.YtpgnappddddlpaaGreatDoor
open Go.RowKit

structure GE where
  f : Int
  t : Int
  w : Int
def GE.cells (e : GE) : List Value := [.int .i64 e.f, .int .i64 e.t, .int .i64 e.w]
def GE.v (e : GE) : Value := .agg #[.int .i64 e.f, .int .i64 e.t, .int .i64 e.w]
theorem GE.cells_len (e : GE) : e.cells.length = 3 := rfl
theorem GE.cells_one (e : GE) : ∀ u ∈ e.cells, u.oneCell' = true := by
  intro u hu
  simp [GE.cells] at hu
  rcases hu with rfl | rfl | rfl <;> rfl
/-- A slice of edges in memory. -/
structure SlG (w : World) (A : Option Addr) (n : Nat) (es : List GE) : Prop where
  len : es.length = n
  row : Row w 3 A n (es.flatMap GE.cells)
/-- A slice of numbers in memory. -/
def vi (xs : List Int) : List Value := xs.map (.int .i64)
theorem vi_len (xs : List Int) : (vi xs).length = xs.length := by simp [vi]
theorem vi_get (xs : List Int) (j : Nat) : (vi xs)[j]? = (xs[j]?).map (.int .i64) := by simp [vi]
theorem vi_append (xs ys : List Int) : vi (xs ++ ys) = vi xs ++ vi ys := by simp [vi]
theorem vi_one (xs : List Int) : ∀ u ∈ vi xs, u.oneCell' = true := by
  intro u hu
  simp only [vi, List.mem_map] at hu
  obtain ⟨n, _, rfl⟩ := hu
  rfl
structure SlI (w : World) (A : Option Addr) (n : Nat) (xs : List Int) : Prop where
  len : xs.length = n
  row : Row w 1 A n (vi xs)
section
variable {w w' : World} {n c lo e : Nat} {A : Option Addr} {es : List GE} {xs : List Int}
theorem SlG.keep (h : SlG w A n es) (hs : w.heap.size ≤ w'.heap.size) (hk : ∀ i, i < w.heap.size → w'.heap[i]? = w.heap[i]?) : SlG w' A n es := ⟨h.len, h.row.keep hs hk⟩
theorem SlG.below (h : SlG w A n es) (hb : Below w.heap.size w w') : SlG w' A n es := h.keep hb.size hb.block
theorem SlG.drewN (h : SlG w A n es) (m : Nat) : SlG (w.drewN m) A n es := ⟨h.len, h.row.drewN m⟩
theorem SlG.nil : SlG w A 0 [] := ⟨rfl, Row.nil⟩
theorem SlI.keep (h : SlI w A n xs) (hs : w.heap.size ≤ w'.heap.size) (hk : ∀ i, i < w.heap.size → w'.heap[i]? = w.heap[i]?) : SlI w' A n xs := ⟨h.len, h.row.keep hs hk⟩
theorem SlI.below (h : SlI w A n xs) (hb : Below w.heap.size w w') : SlI w' A n xs := h.keep hb.size hb.block
theorem SlI.drewN (h : SlI w A n xs) (m : Nat) : SlI (w.drewN m) A n xs := ⟨h.len, h.row.drewN m⟩
theorem SlI.nil : SlI w A 0 [] := ⟨rfl, Row.nil⟩
/-- The edge at place j, its three cells. -/
theorem SlG.at_ {j : Nat} (h : SlG w A n es) (hj : j < n) : ∃ (b off : Nat) (e : GE), A = some ⟨b, off, none⟩ ∧ b < w.heap.size ∧ Hid (es[j]? = some e) ∧
    w.cell? ⟨b, off + j * 3, none⟩ = some (.int .i64 e.f) ∧ w.cell? ⟨b, off + j * 3 + 1, none⟩ = some (.int .i64 e.t) ∧ w.cell? ⟨b, off + j * 3 + 2, none⟩ = some (.int .i64 e.w) := by
  obtain ⟨b, off, rfl, hb, hc⟩ := h.row.lies (by omega)
  have hl : j < es.length := by have := h.len; omega
  have he : es[j]? = some es[j] := List.getElem?_eq_getElem hl
  refine ⟨b, off, es[j], rfl, hb, he, ?_, ?_, ?_⟩
  · exact hc (j * 3) _ (flat_get GE.cells 3 GE.cells_len es j 0 _ he (by omega))
  · exact hc (j * 3 + 1) _ (flat_get GE.cells 3 GE.cells_len es j 1 _ he (by omega))
  · exact hc (j * 3 + 2) _ (flat_get GE.cells 3 GE.cells_len es j 2 _ he (by omega))
theorem SlI.at_ {j : Nat} (h : SlI w A n xs) (hj : j < n) : ∃ (b off : Nat) (x : Int), A = some ⟨b, off, none⟩ ∧ b < w.heap.size ∧ Hid (xs[j]? = some x) ∧ w.cell? ⟨b, off + j, none⟩ = some (.int .i64 x) := by
  obtain ⟨b, off, rfl, hb, hc⟩ := h.row.lies (by omega)
  have hl : j < xs.length := by have := h.len; omega
  have he : xs[j]? = some xs[j] := List.getElem?_eq_getElem hl
  exact ⟨b, off, xs[j], rfl, hb, he, hc j _ (by rw [vi_get, he]; rfl)⟩
theorem SlG.of_own (h : w.ownsRow lo e 3 (.slice A n c) n (es.flatMap GE.cells)) (hl : es.length = n) : SlG w A n es := ⟨hl, Row.of_own h⟩
theorem SlI.of_own (h : w.ownsRow lo e 1 (.slice A n c) n (vi xs)) : SlI w A n xs := ⟨by have := h.1; rw [vi_len] at this; omega, Row.of_own h⟩
end
theorem g_chain {w W W' : World} (h : Below w.heap.size w W) (k : Below W.heap.size W W') : Below w.heap.size w W' := h.trans (k.mono h.size)

/-! ### a row that is laid record by record -/
theorem g_rep {α : Type} (f : α → List Value) (z : α) (k : Nat) (hf : ∀ a, (f a).length = k) (hk : 0 < k) (cs : Array Value) (h : cs.toList = f z) (n : Nat) : (madeCells cs (n * k)).toList = (List.replicate n z).flatMap f := by
  have hs : cs.size = k := by rw [← Array.length_toList, h, hf]
  apply List.ext_getElem?
  intro i
  by_cases hi : i < n * k
  · have hj : i / k < n := Nat.div_lt_of_lt_mul (by rw [Nat.mul_comm]; exact hi)
    have hr : i % k < k := Nat.mod_lt _ hk
    have e := flat_get f k hf (List.replicate n z) (i / k) (i % k) z (by simp [hj]) hr
    rw [show i / k * k + i % k = i by rw [Nat.mul_comm]; exact Nat.div_add_mod i k] at e
    rw [e]
    simp only [madeCells, Array.toList_map, Array.toList_range, List.getElem?_map, List.getElem?_range hi, Option.map_some, hs]
    rw [← h, Array.getElem?_toList, getElem!_pos cs (i % k) (by omega), Array.getElem?_eq_getElem (by omega)]
  · rw [List.getElem?_eq_none (by simp [madeCells]; omega), List.getElem?_eq_none (by rw [flat_len f k hf]; simp; omega)]
theorem g_take {α : Type} (es : List α) (k : Nat) (e : α) (h : es[k]? = some e) : es.take (k + 1) = es.take k ++ [e] := by
  obtain ⟨hk, rfl⟩ := List.getElem?_eq_some_iff.1 h
  exact List.take_succ_eq_append_getElem hk
theorem g_drop {α : Type} (es : List α) (k : Nat) (e : α) (h : es[k]? = some e) : es.drop k = e :: es.drop (k + 1) := by
  obtain ⟨hk, rfl⟩ := List.getElem?_eq_some_iff.1 h
  exact List.drop_eq_getElem_cons hk
theorem g_set {α : Type} (made rest : List α) (x y : α) (k : Nat) (hm : made.length = k) : (made ++ x :: rest).set k y = made ++ y :: rest := by
  rw [List.set_append_right _ _ (by omega), hm, Nat.sub_self]
  rfl
theorem g_get {α : Type} (made rest : List α) (x : α) (k : Nat) (hm : made.length = k) : (made ++ x :: rest)[k]? = some x := by
  simp [hm]
theorem g_own_at {w : World} {lo t size n c : Nat} {A : Option Addr} {cs : List Value} (h : w.ownsRow lo t size (.slice A n c) n cs) (hn : 0 < n) : ∃ g, A = some ⟨g, 0, none⟩ := by
  obtain ⟨g, cap, hv, _⟩ := h.form hn
  injection hv with hv
  exact ⟨g, hv⟩
/-- Three cells of one edge stored. -/
theorem g_lay {w : World} {lo ty g c n k : Nat} {made rest : List GE} {x e : GE} (h : w.ownsRow lo ty 3 (.slice (some ⟨g, 0, none⟩) n c) n ((made ++ x :: rest).flatMap GE.cells)) (hm : made.length = k) :
    (((w.setCell ⟨g, k * 3, none⟩ (.int .i64 e.f)).setCell ⟨g, k * 3 + 1, none⟩ (.int .i64 e.t)).setCell ⟨g, k * 3 + 2, none⟩ (.int .i64 e.w)).ownsRow lo ty 3 (.slice (some ⟨g, 0, none⟩) n c) n ((made ++ e :: rest).flatMap GE.cells) ∧
      w.grownBy (((w.setCell ⟨g, k * 3, none⟩ (.int .i64 e.f)).setCell ⟨g, k * 3 + 1, none⟩ (.int .i64 e.t)).setCell ⟨g, k * 3 + 2, none⟩ (.int .i64 e.w)) (some g) := by
  have h1 := h.stored (k * 3) (.int .i64 e.f)
  have h2 := h1.1.stored (k * 3 + 1) (.int .i64 e.t)
  have h3 := h2.1.stored (k * 3 + 2) (.int .i64 e.w)
  have e1 := flat_set GE.cells 3 GE.cells_len (made ++ x :: rest) k 0 x ⟨e.f, x.t, x.w⟩ (.int .i64 e.f) (g_get _ _ _ _ hm) (by omega) rfl
  rw [Nat.add_zero, g_set _ _ _ _ _ hm] at e1
  have e2 := flat_set GE.cells 3 GE.cells_len (made ++ ⟨e.f, x.t, x.w⟩ :: rest) k 1 ⟨e.f, x.t, x.w⟩ ⟨e.f, e.t, x.w⟩ (.int .i64 e.t) (g_get _ _ _ _ hm) (by omega) rfl
  rw [g_set _ _ _ _ _ hm] at e2
  have e3 := flat_set GE.cells 3 GE.cells_len (made ++ ⟨e.f, e.t, x.w⟩ :: rest) k 2 ⟨e.f, e.t, x.w⟩ e (.int .i64 e.w) (g_get _ _ _ _ hm) (by omega) rfl
  rw [g_set _ _ _ _ _ hm] at e3
  rw [e1, e2, e3] at h3
  exact ⟨h3.1, (h1.2.trans h2.2).trans h3.2⟩
end Go.Proofs.YtpgnappddddlpaaGreatDoor
