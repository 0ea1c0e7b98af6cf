/- Plain mathematics of files by name: sorted lists of files, what operations make of them, valid disks (no program; no condition). -/
import Derived.Test.YtfcomnpoehpgiaaEnt
import Derived.WideAt
import Derived.Laws.Strings
namespace Go.Proofs.Ytfcomnpoehpgiaa
open Go.RowKit

abbrev FileD := ByteArray × List Nat
abbrev OpD := Int × ByteArray × ByteArray × List Nat

def ltB (a b : ByteArray) : Bool := Op.bytesLess a.toList b.toList
def gtN (a b : ByteArray) : Bool := !(Op.bytesLess a.toList b.toList || a.toList == b.toList)

section
variable {α β : Type} (key : α → ByteArray)
def hasK (s : ByteArray) (l : List α) : Bool := l.any fun e => decide (key e = s)
def lessK (s : ByteArray) (l : List α) : List α := l.filter fun e => decide (key e ≠ s)
def insK (x : α) : List α → List α
  | [] => [x]
  | e :: r => if gtN (key e) (key x) then x :: e :: r else e :: insK x r
def withK (x : α) (l : List α) : List α := insK key x (lessK key (key x) l)
def findK (s : ByteArray) (l : List α) : Option α := l.find? fun e => decide (key e = s)
end

section
variable {α β : Type} {key : α → ByteArray} {key' : β → ByteArray} {f : α → β} (hf : ∀ a, key' (f a) = key a)
include hf
theorem lessK_map (s : ByteArray) (l : List α) : (lessK key s l).map f = lessK key' s (l.map f) := by
  unfold lessK
  rw [List.filter_map]
  congr 1
  apply List.filter_congr
  intro a _
  simp [Function.comp, hf]
theorem insK_map (x : α) : ∀ l : List α, (insK key x l).map f = insK key' (f x) (l.map f)
  | [] => rfl
  | e :: r => by
    simp only [insK, List.map_cons, hf]
    split
    · rfl
    · simp [insK_map x r]
theorem withK_map (x : α) (l : List α) : (withK key x l).map f = withK key' (f x) (l.map f) := by
  unfold withK
  rw [insK_map hf, lessK_map hf, hf]
theorem hasK_map (s : ByteArray) (l : List α) : hasK key' s (l.map f) = hasK key s l := by
  unfold hasK
  rw [List.any_map]
  congr 1
  funext a
  simp [Function.comp, hf]
theorem findK_map (s : ByteArray) : ∀ l : List α, findK key' s (l.map f) = (findK key s l).map f
  | [] => rfl
  | e :: r => by
    unfold findK
    rw [List.map_cons, List.find?_cons, List.find?_cons, hf]
    by_cases h : key e = s
    · simp [h]
    · simp only [h, decide_false]
      exact findK_map s r
end

def hasF (s : ByteArray) (l : List FileD) : Bool := hasK Prod.fst s l
def lessF (s : ByteArray) (l : List FileD) : List FileD := lessK Prod.fst s l
def withF (x : FileD) (l : List FileD) : List FileD := withK Prod.fst x l
def dataF (s : ByteArray) (l : List FileD) : List Nat := ((findK Prod.fst s l).map Prod.snd).getD []
def totF (l : List FileD) : Nat := (l.map fun f => f.2.length).sum
def fitsF (l : List FileD) (o : OpD) : Bool :=
  if o.1 = 1 then hasF o.2.1 l || decide (l.length < 12) else if o.1 = 3 then hasF o.2.1 l && decide (o.2.2.1 ≠ o.2.1) else hasF o.2.1 l
def makeF (l : List FileD) (o : OpD) : List FileD :=
  if o.1 = 1 then withF (o.2.1, []) l else if o.1 = 2 then withF (o.2.1, dataF o.2.1 l ++ o.2.2.2) l else if o.1 = 3 then withF (o.2.2.1, dataF o.2.1 l) (lessF o.2.1 l) else lessF o.2.1 l

section
variable {α : Type} {key : α → ByteArray}
theorem hasK_find (s : ByteArray) : ∀ l : List α, hasK key s l = (findK key s l).isSome
  | [] => rfl
  | e :: r => by
    have ih := hasK_find s r
    unfold hasK findK at *
    rw [List.any_cons, List.find?_cons]
    by_cases h : key e = s
    · simp [h]
    · simp only [h, decide_false, Bool.false_or]
      exact ih
theorem lessK_len (s : ByteArray) (l : List α) : (lessK key s l).length ≤ l.length := List.length_filter_le _ _
theorem lessK_mem {s : ByteArray} {l : List α} {e : α} (h : e ∈ lessK key s l) : e ∈ l ∧ key e ≠ s := by
  unfold lessK at h
  simpa using h
theorem insK_len (x : α) : ∀ l : List α, (insK key x l).length = l.length + 1
  | [] => rfl
  | e :: r => by
    unfold insK
    split
    · simp
    · simp [insK_len x r]
theorem insK_mem {x e : α} : ∀ {l : List α}, e ∈ insK key x l ↔ e = x ∨ e ∈ l
  | [] => by simp [insK]
  | y :: r => by
    unfold insK
    split
    · simp
    · rw [List.mem_cons, insK_mem, List.mem_cons]
      constructor
      · rintro (h | h | h)
        · exact .inr (.inl h)
        · exact .inl h
        · exact .inr (.inr h)
      · rintro (h | h | h)
        · exact .inr (.inl h)
        · exact .inl h
        · exact .inr (.inr h)
theorem lessK_len_lt {s : ByteArray} : ∀ {l : List α}, hasK key s l = true → (lessK key s l).length < l.length
  | [], h => by simp [hasK] at h
  | e :: r, h => by
    unfold lessK
    rw [List.filter_cons]
    by_cases he : key e = s
    · have := lessK_len (key := key) s r
      unfold lessK at this
      simp [he] at *
      omega
    · have h2 : hasK key s r = true := by simpa [hasK, he] using h
      have := lessK_len_lt h2
      unfold lessK at this
      simp [he] at *
      omega
end

/-- The pieces of an insertion: what has been met, and whether it is laid. -/
theorem insK_split {α : Type} {key : α → ByteArray} (x : α) : ∀ (pre post : List α), (∀ e ∈ pre, gtN (key e) (key x) = false) → insK key x (pre ++ post) = pre ++ insK key x post
  | [], _, _ => rfl
  | e :: r, post, h => by
    rw [List.cons_append, insK, h e (by simp)]
    simp [insK_split x r post (fun a ha => h a (by simp [ha]))]

theorem dataF_len (s : ByteArray) : ∀ (l : List FileD), (dataF s l).length ≤ totF l
  | [] => by simp [dataF, findK]
  | e :: r => by
    have ih := dataF_len s r
    unfold dataF findK totF at *
    rw [List.find?_cons]
    by_cases h : e.1 = s
    · simp [h]
    · simp only [h, decide_false, List.map_cons, List.sum_cons]
      omega
theorem totF_cons (e : FileD) (l : List FileD) : totF (e :: l) = e.2.length + totF l := by simp [totF]
theorem totF_less (s : ByteArray) : ∀ (l : List FileD), totF (lessF s l) ≤ totF l
  | [] => Nat.le_refl _
  | e :: r => by
    have ih := totF_less s r
    unfold lessF lessK at *
    rw [List.filter_cons]
    split
    · rw [totF_cons, totF_cons]; omega
    · rw [totF_cons]; omega
theorem totF_ins (x : FileD) : ∀ (l : List FileD), totF (insK Prod.fst x l) = x.2.length + totF l
  | [] => by simp [insK, totF]
  | e :: r => by
    unfold insK
    split
    · rw [totF_cons]
    · rw [totF_cons, totF_cons, totF_ins x r]; omega
theorem totF_with (x : FileD) (l : List FileD) : totF (withF x l) ≤ x.2.length + totF l := by
  unfold withF withK
  rw [totF_ins]
  have := totF_less x.1 l
  unfold lessF at this
  omega
theorem len_with (x : FileD) (l : List FileD) : (withF x l).length ≤ l.length + 1 := by
  unfold withF withK
  rw [insK_len]
  have := lessK_len (key := Prod.fst) x.1 l
  omega
theorem len_with_has {x : FileD} {l : List FileD} (h : hasF x.1 l = true) : (withF x l).length ≤ l.length := by
  unfold withF withK
  rw [insK_len]
  have := lessK_len_lt (key := Prod.fst) h
  omega
theorem len_less (s : ByteArray) (l : List FileD) : (lessF s l).length ≤ l.length := lessK_len s l
theorem len_less_has {s : ByteArray} {l : List FileD} (h : hasF s l = true) : (lessF s l).length < l.length := lessK_len_lt h
theorem make_len {l : List FileD} {o : OpD} (h : fitsF l o = true) (hl : l.length ≤ 12) : (makeF l o).length ≤ 12 := by
  unfold fitsF at h
  unfold makeF
  split
  · rename_i h1
    rw [if_pos h1] at h
    by_cases hh : hasF o.2.1 l = true
    · have := len_with_has (x := (o.2.1, [])) hh
      omega
    · have := len_with (o.2.1, []) l
      simp [hh] at h
      omega
  · rename_i h1
    rw [if_neg h1] at h
    split
    · rename_i h2
      rw [if_neg (by omega)] at h
      have := len_with_has (x := (o.2.1, dataF o.2.1 l ++ o.2.2.2)) h
      omega
    · split
      · rename_i h2 h3
        rw [if_pos h3] at h
        simp at h
        have := len_with (o.2.2.1, dataF o.2.1 l) (lessF o.2.1 l)
        have := len_less_has h.1
        omega
      · have := len_less o.2.1 l
        omega
theorem make_tot (l : List FileD) (o : OpD) : totF (makeF l o) ≤ 2 * totF l + o.2.2.2.length := by
  have hd := dataF_len o.2.1 l
  have hl := totF_less o.2.1 l
  unfold makeF
  split
  · have := totF_with (o.2.1, []) l
    simp at this
    omega
  · split
    · have := totF_with (o.2.1, dataF o.2.1 l ++ o.2.2.2) l
      simp at this
      omega
    · split
      · have := totF_with (o.2.2.1, dataF o.2.1 l) (lessF o.2.1 l)
        simp at this
        omega
      · omega
end Go.Proofs.Ytfcomnpoehpgiaa
