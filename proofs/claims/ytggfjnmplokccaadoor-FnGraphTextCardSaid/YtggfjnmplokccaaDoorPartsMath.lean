/- Plain mathematics of parting a text at blanks: the library's split at one blank gives the same parts as going through the text byte by byte. -/
import Derived.Lib.SplitLaws
import Derived.Lib.IndexBytes
import Derived.Lib.IndexLaws
namespace Go.Proofs.YtggfjnmplokccaaDoor

def attach (p : List UInt8) : List (List UInt8) → List (List UInt8)
  | [] => [p]
  | h :: t => (p ++ h) :: t
/-- The parts of a text between its blanks. -/
def pl : List UInt8 → List (List UInt8)
  | [] => [[]]
  | c :: r => if c = 32 then [] :: pl r else attach [c] (pl r)
theorem attach_attach (p q : List UInt8) (x : List (List UInt8)) : attach p (attach q x) = attach (p ++ q) x := by cases x <;> simp [attach]
theorem attach_ne (p : List UInt8) (x : List (List UInt8)) : attach p x ≠ [] := by cases x <;> simp [attach]
theorem pl_ne (l : List UInt8) : pl l ≠ [] := by
  cases l with
  | nil => simp [pl]
  | cons c r =>
    unfold pl
    split
    · simp
    · exact attach_ne _ _
theorem attach_nil (x : List (List UInt8)) (h : x ≠ []) : attach [] x = x := by
  cases x with
  | nil => exact absurd rfl h
  | cons a t => rfl
theorem pl_skip (p r : List UInt8) (h : ∀ c ∈ p, c ≠ 32) : pl (p ++ r) = attach p (pl r) := by
  induction p with
  | nil => rw [List.nil_append, attach_nil _ (pl_ne _)]
  | cons c p ih =>
    rw [List.cons_append, pl, if_neg (h c (by simp)), ih (fun x hx => h x (by simp [hx])), attach_attach]
    rfl
theorem pl_blank (r : List UInt8) : pl (32 :: r) = [] :: pl r := by rw [pl, if_pos rfl]
theorem pl_none (l : List UInt8) (h : ∀ c ∈ l, c ≠ 32) : pl l = [l] := by
  have := pl_skip l [] h
  rw [List.append_nil] at this
  rw [this]
  simp [pl, attach]

def blank : ByteArray := ⟨#[32]⟩
theorem index_blank (s : ByteArray) : Lib.indexB s blank = Lib.indexByte s.data.toList 32 := Lib.index_one _ _
theorem split_pl : ∀ (k : Nat) (s : ByteArray), Lib.countB s blank = k → (Lib.splitB blank 0 k s).map (fun t => t.data.toList) = pl s.data.toList
  | 0, s, hk => by
    rcases Lib.indexB_cases s blank with hix | ⟨i, hix, _⟩
    · rw [index_blank] at hix
      have hn := Lib.indexByte_none hix
      rw [Lib.splitB_zero, pl_none _ (fun c hc e => by
        obtain ⟨j, hj, he⟩ := List.getElem_of_mem hc
        exact hn j (by rw [List.getElem?_eq_getElem hj, he, e]))]
      rfl
    · have := Lib.countB_hit s blank i (by decide) hix
      omega
  | k + 1, s, hk => by
    rcases Lib.indexB_cases s blank with hix | ⟨i, hix, hroom⟩
    · rw [Lib.countB_miss s blank hix] at hk
      omega
    · have hc := Lib.countB_hit s blank i (by decide) hix
      have ih := split_pl k (s.extract (i + blank.size) s.size) (by omega)
      rw [Lib.splitB_hit blank 0 k s i hix, List.map_cons, ih]
      rw [index_blank] at hix
      obtain ⟨h1, h2⟩ := Lib.indexByte_some hix
      obtain ⟨hl, he⟩ := List.getElem?_eq_some_iff.1 h1
      rw [Lib.extract_to_end, Lib.extract_data]
      have e1 : s.data.toList = s.data.toList.take i ++ 32 :: s.data.toList.drop (i + 1) := by
        conv => lhs; rw [← List.take_append_drop i s.data.toList, List.drop_eq_getElem_cons hl, he]
      conv => rhs; rw [e1]
      rw [pl_skip _ _ (fun c hc e => by
        obtain ⟨j, hj, hj2⟩ := List.getElem_of_mem hc
        rw [List.length_take] at hj
        rw [List.getElem_take] at hj2
        exact h2 j (by omega) (by rw [List.getElem?_eq_getElem (by omega), hj2, e])), pl_blank]
      simp [attach, blank, ByteArray.size]
theorem pl_length (l : List UInt8) : (pl l).length ≤ l.length + 1 := by
  induction l with
  | nil => simp [pl]
  | cons c r ih =>
    unfold pl
    split
    · simp; exact ih
    · cases hp : pl r with
      | nil => simp [attach]
      | cons a t => rw [hp] at ih; simp [attach] at ih ⊢; omega
end Go.Proofs.YtggfjnmplokccaaDoor
