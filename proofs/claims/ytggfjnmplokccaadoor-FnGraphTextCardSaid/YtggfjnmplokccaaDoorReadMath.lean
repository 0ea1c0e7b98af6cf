/- Plain mathematics of reading a graph's text: its lines, the numbers of a line, and what is read, as data (no condition). -/
import Derived.Test.YtggfjnmplokccaaDoorPartsF
import Derived.Test.YtggfjnmplokccaaDoorTextMath
import Derived.Test.YtggfjnmplokccaaDoorGraph
namespace Go.Proofs.YtggfjnmplokccaaDoor

/-- The pieces of a text between its newlines. -/
def ql : List UInt8 → List (List UInt8)
  | [] => [[]]
  | c :: r => if c = 10 then [] :: ql r else attach [c] (ql r)
theorem ql_ne (l : List UInt8) : ql l ≠ [] := by
  cases l with
  | nil => simp [ql]
  | cons c r =>
    unfold ql
    split
    · simp
    · exact attach_ne _ _
theorem ql_skip (p r : List UInt8) (h : ∀ c ∈ p, c ≠ 10) : ql (p ++ r) = attach p (ql r) := by
  induction p with
  | nil => rw [List.nil_append, attach_nil _ (ql_ne _)]
  | cons c p ih =>
    rw [List.cons_append, ql, if_neg (h c (by simp)), ih (fun x hx => h x (by simp [hx])), attach_attach]
    rfl
theorem ql_nl (r : List UInt8) : ql (10 :: r) = [] :: ql r := by rw [ql, if_pos rfl]
theorem ql_none (l : List UInt8) (h : ∀ c ∈ l, c ≠ 10) : ql l = [l] := by
  have := ql_skip l [] h
  rw [List.append_nil] at this
  rw [this]
  simp [ql, attach]
def newl : ByteArray := ⟨#[10]⟩
theorem index_newl (s : ByteArray) : Lib.indexB s newl = Lib.indexByte s.data.toList 10 := Lib.index_one _ _
theorem split_ql : ∀ (k : Nat) (s : ByteArray), Lib.countB s newl = k → (Lib.splitB newl 0 k s).map (fun t => t.data.toList) = ql s.data.toList
  | 0, s, hk => by
    rcases Lib.indexB_cases s newl with hix | ⟨i, hix, _⟩
    · rw [index_newl] at hix
      have hn := Lib.indexByte_none hix
      rw [Lib.splitB_zero, ql_none _ (fun c hc e => by
        obtain ⟨j, hj, he⟩ := List.getElem_of_mem hc
        exact hn j (by rw [List.getElem?_eq_getElem hj, he, e]))]
      rfl
    · have := Lib.countB_hit s newl i (by decide) hix
      omega
  | k + 1, s, hk => by
    rcases Lib.indexB_cases s newl with hix | ⟨i, hix, hroom⟩
    · rw [Lib.countB_miss s newl hix] at hk
      omega
    · have hc := Lib.countB_hit s newl i (by decide) hix
      have ih := split_ql k (s.extract (i + newl.size) s.size) (by omega)
      rw [Lib.splitB_hit newl 0 k s i hix, List.map_cons, ih]
      rw [index_newl] at hix
      obtain ⟨h1, h2⟩ := Lib.indexByte_some hix
      obtain ⟨hl, he⟩ := List.getElem?_eq_some_iff.1 h1
      rw [Lib.extract_to_end, Lib.extract_data]
      have e1 : s.data.toList = s.data.toList.take i ++ 10 :: s.data.toList.drop (i + 1) := by
        conv => lhs; rw [← List.take_append_drop i s.data.toList, List.drop_eq_getElem_cons hl, he]
      conv => rhs; rw [e1]
      rw [ql_skip _ _ (fun c hc e => by
        obtain ⟨j, hj, hj2⟩ := List.getElem_of_mem hc
        rw [List.length_take] at hj
        rw [List.getElem_take] at hj2
        exact h2 j (by omega) (by rw [List.getElem?_eq_getElem (by omega), hj2, e])), ql_nl]
      simp [attach, newl, ByteArray.size]
theorem ql_length (l : List UInt8) : (ql l).length ≤ l.length + 1 := by
  induction l with
  | nil => simp [ql]
  | cons c r ih =>
    unfold ql
    split
    · simp; exact ih
    · cases hp : ql r with
      | nil => simp [attach]
      | cons a t => rw [hp] at ih; simp [attach] at ih ⊢; omega

def pieces (s : ByteArray) : List ByteArray := (ql s.data.toList).map mkB
theorem pieces_length (s : ByteArray) : (pieces s).length ≤ s.size + 1 := by
  have h := ql_length s.data.toList
  have e : s.data.toList.length = s.size := Array.length_toList
  unfold pieces
  rw [List.length_map]
  omega
theorem pieces_pos (s : ByteArray) : 0 < (pieces s).length := by
  have := ql_ne s.data.toList
  unfold pieces
  rw [List.length_map]
  exact List.length_pos_iff.mpr this
theorem split_pieces (s : ByteArray) : Lib.splitB newl 0 (Lib.countB s newl) s = pieces s := by
  have h := split_ql _ s rfl
  unfold pieces
  rw [← h, List.map_map]
  have e : (mkB ∘ fun t : ByteArray => t.data.toList) = id := funext fun t => mkB_data t
  rw [e, List.map_id]
theorem attach_size {p : List UInt8} {x : List (List UInt8)} {k : Nat} (h : ∀ y ∈ x, p.length + y.length ≤ k) (h0 : p.length ≤ k) : ∀ y ∈ attach p x, y.length ≤ k := by
  cases x with
  | nil => intro y hy; simp [attach] at hy; subst hy; exact h0
  | cons a t =>
    intro y hy
    simp [attach] at hy
    rcases hy with rfl | hy
    · have := h a (by simp); simp; omega
    · have := h y (by simp [hy]); omega
theorem ql_size (l : List UInt8) : ∀ y ∈ ql l, y.length ≤ l.length := by
  induction l with
  | nil => intro y hy; simp [ql] at hy; subst hy; simp
  | cons c r ih =>
    unfold ql
    split
    · intro y hy
      rcases List.mem_cons.1 hy with rfl | hy
      · simp
      · have := ih y hy; simp; omega
    · exact attach_size (fun y hy => by have := ih y hy; simp; omega) (by simp)
theorem pieces_size (s : ByteArray) : ∀ p ∈ pieces s, p.size ≤ s.size := by
  intro p hp
  obtain ⟨y, hy, rfl⟩ := List.mem_map.1 hp
  have h := ql_size _ y hy
  have e : s.data.toList.length = s.size := Array.length_toList
  have e2 : (mkB y).size = y.length := by simp [mkB, ByteArray.size]
  omega
theorem pl_size (l : List UInt8) : ∀ y ∈ pl l, y.length ≤ l.length := by
  induction l with
  | nil => intro y hy; simp [pl] at hy; subst hy; simp
  | cons c r ih =>
    unfold pl
    split
    · intro y hy
      rcases List.mem_cons.1 hy with rfl | hy
      · simp
      · have := ih y hy; simp; omega
    · exact attach_size (fun y hy => by have := ih y hy; simp; omega) (by simp)
theorem parts_size (s : ByteArray) : ∀ p ∈ parts s, p.size ≤ s.size := by
  intro p hp
  obtain ⟨y, hy, rfl⟩ := List.mem_map.1 hp
  have h := pl_size _ y hy
  have e : s.data.toList.length = s.size := Array.length_toList
  have e2 : (mkB y).size = y.length := by simp [mkB, ByteArray.size]
  omega
/-- A text's lines: its pieces, without an empty last one. -/
def cutE (l : List ByteArray) : List ByteArray :=
  match l.getLast? with
  | some p => if p.size = 0 then l.dropLast else l
  | none => l
def linesOf (s : ByteArray) : List ByteArray := cutE (pieces s)
theorem cutE_snoc (l : List ByteArray) (p : ByteArray) : cutE (l ++ [p]) = if p.size = 0 then l else l ++ [p] := by
  simp [cutE]
theorem linesOf_length (s : ByteArray) : (linesOf s).length ≤ s.size + 1 := by
  have h := pieces_length s
  unfold linesOf cutE
  split
  · split
    · rw [List.length_dropLast]; omega
    · exact h
  · exact h
theorem linesOf_mem (s : ByteArray) : ∀ p ∈ linesOf s, p.size ≤ s.size := by
  have h := pieces_size s
  unfold linesOf cutE
  split
  · split
    · exact fun p hp => h p (List.dropLast_subset _ hp)
    · exact h
  · exact h

/-- What has been cut into lines so far, and what is left. -/
structure Lining (s : ByteArray) (acc : List ByteArray) (f i : Nat) : Prop where
  eq : pieces s = acc ++ (attach ((s.data.toList.drop f).take (i - f)) (ql (s.data.toList.drop i))).map mkB
  le : f ≤ i
theorem Lining.start (s : ByteArray) : Lining s [] 0 0 := ⟨by simp only [List.nil_append, Nat.sub_self, List.take_zero, List.drop_zero, attach_nil _ (ql_ne _)]; rfl, Nat.le_refl _⟩
theorem Lining.cut {s : ByteArray} {acc : List ByteArray} {f i : Nat} (h : Lining s acc f i) (hi : i < s.size) (hb : s[i] = 10) : Lining s (acc ++ [s.extract f i]) (i + 1) (i + 1) := by
  refine ⟨?_, Nat.le_refl _⟩
  rw [h.eq, drop_byte s i hi, hb, ql_nl, extract_mk, Nat.sub_self, List.take_zero, attach_nil _ (ql_ne _)]
  simp [attach]
theorem Lining.go {s : ByteArray} {acc : List ByteArray} {f i : Nat} (h : Lining s acc f i) (hi : i < s.size) (hb : s[i] ≠ 10) : Lining s acc f (i + 1) := by
  have hle := h.le
  refine ⟨?_, by omega⟩
  have hl : i - f < (s.data.toList.drop f).length := by rw [List.length_drop, Array.length_toList]; have : s.data.size = s.size := rfl; omega
  have e : (s.data.toList.drop f).take (i + 1 - f) = (s.data.toList.drop f).take (i - f) ++ [s[i]] := by
    have hl2 : i < s.data.toList.length := by rw [Array.length_toList]; exact hi
    have h2 : (s.data.toList.drop f)[i - f]? = some s[i] := by rw [List.getElem?_drop, show f + (i - f) = i by omega, List.getElem?_eq_getElem hl2]; rfl
    rw [show i + 1 - f = (i - f) + 1 by omega, List.take_succ_eq_append_getElem hl, (List.getElem?_eq_some_iff.1 h2).2]
  rw [h.eq, drop_byte s i hi, ql, if_neg hb, attach_attach, e]
theorem Lining.fin {s : ByteArray} {acc : List ByteArray} {f i : Nat} (h : Lining s acc f i) (hi : i = s.size) : pieces s = acc ++ [s.extract f s.size] := by
  subst hi
  have e1 : s.data.toList.drop s.size = [] := List.drop_of_length_le (by rw [Array.length_toList]; exact Nat.le_refl _)
  rw [h.eq, extract_mk, e1]
  simp [ql, attach]
theorem Lining.some {s : ByteArray} {acc : List ByteArray} {f i : Nat} (h : Lining s acc f i) (hi : i = s.size) (hf : f < s.size) : linesOf s = acc ++ [s.extract f s.size] := by
  unfold linesOf
  rw [h.fin hi, cutE_snoc, if_neg (by rw [ByteArray.size_extract]; omega)]
theorem Lining.none {s : ByteArray} {acc : List ByteArray} {f i : Nat} (h : Lining s acc f i) (hi : i = s.size) (hf : ¬ f < s.size) : linesOf s = acc := by
  unfold linesOf
  rw [h.fin hi, cutE_snoc, if_pos (by rw [ByteArray.size_extract]; omega)]

/-! ### numbers of a line -/
def numB (p : ByteArray) : Bool := tn p.data.toList
def valB (p : ByteArray) : Int := (val10 p.data.toList : Int)
def numsOf (s : ByteArray) : List Int := if (parts s).all numB then (parts s).map valB else []
theorem nums_yes {s : ByteArray} (h : ∀ p ∈ parts s, numB p = true) : numsOf s = (parts s).map valB := by
  unfold numsOf
  rw [if_pos (List.all_eq_true.2 h)]
theorem nums_no {s p : ByteArray} (hp : p ∈ parts s) (h : numB p = false) : numsOf s = [] := by
  unfold numsOf
  rw [if_neg]
  intro hh
  have := List.all_eq_true.1 hh p hp
  rw [h] at this
  cases this
theorem nums_length (s : ByteArray) : (numsOf s).length ≤ s.size + 1 := by
  have := parts_length s
  unfold numsOf
  split
  · rw [List.length_map]; exact this
  · simp
theorem valB_bd {p : ByteArray} (h : numB p = true) : 0 ≤ valB p ∧ valB p ≤ 281474976710655 := by
  have := (tn_iff _ h).1
  unfold valB
  omega
theorem nums_bd (s : ByteArray) : ∀ x ∈ numsOf s, 0 ≤ x ∧ x ≤ 281474976710655 := by
  intro x hx
  unfold numsOf at hx
  split at hx
  · rename_i h
    obtain ⟨p, hp, rfl⟩ := List.mem_map.1 hx
    exact valB_bd (List.all_eq_true.1 h p hp)
  · simp at hx
theorem pl_one (l : List UInt8) (h : (pl l).length = 1) : pl l = [l] := by
  induction l with
  | nil => rfl
  | cons c r ih =>
    by_cases hc : c = 32
    · rw [pl, if_pos hc, List.length_cons] at h
      have := List.length_pos_iff.mpr (pl_ne r)
      omega
    · have e : (attach [c] (pl r)).length = (pl r).length := by
        have := pl_ne r
        cases hp : pl r with
        | nil => exact absurd hp this
        | cons a t => simp [attach]
      rw [pl, if_neg hc] at h ⊢
      rw [ih (by omega)]
      rfl
theorem tn_digit (l : List UInt8) (h : tn l = true) : ∀ c ∈ l, c ≠ 32 := by
  intro c hc e
  obtain ⟨_, h2⟩ := tn_iff l h
  have := dec_digit (val10 l) c (by rw [h2]; exact hc)
  rw [e] at this
  have h32 : (32 : UInt8).toNat = 32 := rfl
  omega
theorem parts_num {h : ByteArray} (ht : numB h = true) : parts h = [h] := by
  unfold parts
  rw [pl_none _ (tn_digit _ ht)]
  show [mkB h.data.toList] = [h]
  rw [mkB_data]
theorem nums_one {h : ByteArray} (ht : numB h = true) : numsOf h = [valB h] := by
  have e := parts_num ht
  rw [nums_yes (by rw [e]; intro p hp; rw [List.mem_singleton.1 hp]; exact ht), e]
  rfl
theorem nums_not_one {h : ByteArray} (ht : numB h = false) : (numsOf h).length ≠ 1 := by
  intro hl
  unfold numsOf at hl
  split at hl
  · rename_i ha
    rw [List.length_map] at hl
    have h1 : (pl h.data.toList).length = 1 := by
      have : (parts h).length = (pl h.data.toList).length := by unfold parts; rw [List.length_map]
      omega
    have e : parts h = [h] := by
      unfold parts
      rw [pl_one _ h1]
      show [mkB h.data.toList] = [h]
      rw [mkB_data]
    have := List.all_eq_true.1 ha h (by rw [e]; simp)
    rw [ht] at this
    cases this
  · simp at hl

/-! ### what is read -/
def edgeL (N : Int) (s : ByteArray) : Option GE :=
  match numsOf s with
  | [a, b, c] => if a < N ∧ b < N ∧ c ≤ 1000 then some ⟨a, b, c⟩ else none
  | _ => none
/-- What is read: a graph and a code. -/
structure RG where
  N : Int
  es : List GE
  c : Int
def badG (c : Int) : RG := ⟨0, [], c⟩
def readE (N : Int) : List GE → List ByteArray → RG
  | acc, [] => ⟨N, acc, 0⟩
  | acc, s :: r => match edgeL N s with
    | none => badG 1
    | some e => if acc.length = 400 then badG 2 else readE N (acc ++ [e]) r
def readG (s : ByteArray) : RG :=
  if 20000 < s.size then badG 2 else match linesOf s with
    | [] => badG 1
    | h :: r => match numsOf h with
      | [n] => if 150 < n then badG 2 else readE n [] r
      | _ => badG 1
theorem readE_len (N : Int) : ∀ (ls : List ByteArray) (acc : List GE), acc.length ≤ 400 → (readE N acc ls).es.length ≤ 400
  | [], acc, h => h
  | s :: r, acc, h => by
    rw [readE]
    split
    · simp [badG]
    · split
      · simp [badG]
      · exact readE_len N r _ (by simp; omega)
theorem readG_len (s : ByteArray) : (readG s).es.length ≤ 400 := by
  unfold readG
  split
  · simp [badG]
  · split
    · simp [badG]
    · split
      · split
        · simp [badG]
        · exact readE_len _ _ _ (by simp)
      · simp [badG]
theorem readG_long {s : ByteArray} (h : 20000 < s.size) : readG s = badG 2 := by unfold readG; rw [if_pos h]
theorem readG_none {s : ByteArray} (h : ¬ 20000 < s.size) (hl : linesOf s = []) : readG s = badG 1 := by unfold readG; rw [if_neg h, hl]
theorem readG_head {s h : ByteArray} {r : List ByteArray} (hs : ¬ 20000 < s.size) (hl : linesOf s = h :: r) (hn : (numsOf h).length ≠ 1) : readG s = badG 1 := by
  unfold readG
  rw [if_neg hs, hl]
  simp only
  split
  · rename_i n hh; rw [hh] at hn; exact absurd rfl hn
  · rfl
theorem readG_much {s h : ByteArray} {r : List ByteArray} {n : Int} (hs : ¬ 20000 < s.size) (hl : linesOf s = h :: r) (hn : numsOf h = [n]) (hb : 150 < n) : readG s = badG 2 := by
  unfold readG
  rw [if_neg hs, hl]
  simp only [hn]
  rw [if_pos hb]
theorem readG_go {s h : ByteArray} {r : List ByteArray} {n : Int} (hs : ¬ 20000 < s.size) (hl : linesOf s = h :: r) (hn : numsOf h = [n]) (hb : ¬ 150 < n) : readG s = readE n [] r := by
  unfold readG
  rw [if_neg hs, hl]
  simp only [hn]
  rw [if_neg hb]
theorem readE_none {N : Int} {acc : List GE} {s : ByteArray} {r : List ByteArray} (h : edgeL N s = none) : readE N acc (s :: r) = badG 1 := by rw [readE, h]
theorem readE_full {N : Int} {acc : List GE} {s : ByteArray} {r : List ByteArray} {e : GE} (h : edgeL N s = some e) (ha : acc.length = 400) : readE N acc (s :: r) = badG 2 := by rw [readE, h]; simp only; rw [if_pos ha]
theorem readE_step {N : Int} {acc : List GE} {s : ByteArray} {r : List ByteArray} {e : GE} (h : edgeL N s = some e) (ha : acc.length ≠ 400) : readE N acc (s :: r) = readE N (acc ++ [e]) r := by rw [readE, h]; simp only; rw [if_neg ha]
theorem edgeL_len {N : Int} {s : ByteArray} (h : (numsOf s).length ≠ 3) : edgeL N s = none := by
  unfold edgeL
  split
  · rename_i a b c hh; rw [hh] at h; exact absurd rfl h
  · rfl
theorem edgeL_three {N : Int} {s : ByteArray} {a b c : Int} (h : numsOf s = [a, b, c]) : edgeL N s = if a < N ∧ b < N ∧ c ≤ 1000 then some ⟨a, b, c⟩ else none := by
  unfold edgeL
  rw [h]
theorem edgeL_parts {N : Int} {s : ByteArray} (h : (parts s).length ≠ 3) : edgeL N s = none := by
  refine edgeL_len ?_
  unfold numsOf
  split
  · rw [List.length_map]; exact h
  · simp
theorem edgeL_bad {N : Int} {s p : ByteArray} (hp : p ∈ parts s) (h : numB p = false) : edgeL N s = none := edgeL_len (by rw [nums_no hp h]; simp)
theorem edgeL_edge {N : Int} {s : ByteArray} {a b c : Int} (h : numsOf s = [a, b, c]) : edgeL N s = if edgeB N ⟨a, b, c⟩ then some ⟨a, b, c⟩ else none := by
  have hb := nums_bd s
  rw [h] at hb
  have h1 := hb a (by simp)
  have h2 := hb b (by simp)
  have h3 := hb c (by simp)
  rw [edgeL_three h]
  by_cases hh : a < N ∧ b < N ∧ c ≤ 1000
  · rw [if_pos hh, if_pos (show edgeB N ⟨a, b, c⟩ = true from decide_eq_true ⟨h1.1, hh.1, h2.1, hh.2.1, h3.1, hh.2.2⟩)]
  · rw [if_neg hh, if_neg]
    intro he
    have := edgeB_iff he
    exact hh ⟨this.2.1, this.2.2.2.1, this.2.2.2.2.2⟩
end Go.Proofs.YtggfjnmplokccaaDoor
