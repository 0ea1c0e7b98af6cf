/- Plain mathematics of names in order: a list of files whose names rise; one more at the end (no program; no condition). -/
import Derived.Test.YtfcomnpoehpgiaaImplLim
import Derived.Test.YtfcomnpoehpgiaaMapMath
namespace Go.Proofs.Ytfcomnpoehpgiaa
open Go.RowKit Go.Maps

theorem ltB_trans {a b c : ByteArray} (h1 : ltB a b = true) (h2 : ltB b c = true) : ltB a c = true := by
  rw [ltB_before] at *
  exact WideShapes.bytes_trans _ _ _ h1 h2
theorem ltB_irrefl (a : ByteArray) : ltB a a = false := by
  rw [ltB_before]
  exact WideAt.bytes_irrefl _
theorem ltB_ne {a b : ByteArray} (h : ltB a b = true) : a ≠ b := fun e => by
  subst e
  rw [ltB_irrefl] at h
  cases h
theorem ltB_asymm {a b : ByteArray} (h : ltB a b = true) : ltB b a = false := by
  cases hb : ltB b a with
  | false => rfl
  | true =>
    have := ltB_trans h hb
    rw [ltB_irrefl] at this
    cases this
theorem gtN_lt {a b : ByteArray} (h : ltB a b = true) : gtN a b = false := by
  unfold gtN
  unfold ltB at h
  rw [h]
  rfl
/-- Names that rise. -/
def Rises (l : List FileD) : Prop := l.Pairwise (fun a b => ltB a.1 b.1 = true)
theorem namesFrom_rises : ∀ {l : List FileD} {p : Option ByteArray}, namesFrom p l = true → Rises l ∧ ∀ q, p = some q → ∀ b ∈ l, ltB q b.1 = true
  | [], p, _ => ⟨List.Pairwise.nil, fun _ _ b hb => by cases hb⟩
  | f :: r, p, h => by
    unfold namesFrom at h
    simp only [Bool.and_eq_true] at h
    obtain ⟨h1, h2, h3⟩ := h
    obtain ⟨i1, i2⟩ := namesFrom_rises h3
    refine ⟨List.pairwise_cons.2 ⟨fun b hb => i2 f.1 rfl b hb, i1⟩, fun q hq b hb => ?_⟩
    subst hq
    rcases List.mem_cons.1 hb with rfl | hb
    · exact h2
    · exact ltB_trans h2 (i2 f.1 rfl b hb)
theorem namesFrom_names : ∀ {l : List FileD} {p : Option ByteArray}, namesFrom p l = true → ∀ f ∈ l, nameB f.1 = true
  | [], p, _ => fun b hb => by cases hb
  | f :: r, p, h => by
    unfold namesFrom at h
    simp only [Bool.and_eq_true] at h
    obtain ⟨h1, h2, h3⟩ := h
    intro b hb
    rcases List.mem_cons.1 hb with rfl | hb
    · exact h1
    · exact namesFrom_names h3 b hb
theorem withF_snoc {l : List FileD} {f : FileD} (h : ∀ e ∈ l, ltB e.1 f.1 = true) : withF f l = l ++ [f] := by
  have h1 : lessK Prod.fst f.1 l = l := by
    unfold lessK
    rw [List.filter_eq_self]
    intro e he
    simpa using ltB_ne (h e he)
  unfold withF withK
  rw [h1]
  have := insK_split (key := Prod.fst) f l [] (fun e he => gtN_lt (h e he))
  rw [List.append_nil] at this
  rw [this]
  rfl
theorem withF_take {l : List FileD} {k : Nat} {f : FileD} (h : Rises l) (hk : l[k]? = some f) : withF f (l.take k) = l.take (k + 1) := by
  rw [take_step l k f hk]
  refine withF_snoc fun e he => ?_
  obtain ⟨hkl, rfl⟩ := List.getElem?_eq_some_iff.1 hk
  obtain ⟨j, hj, rfl⟩ := List.getElem_of_mem he
  rw [List.length_take] at hj
  rw [List.getElem_take]
  exact List.pairwise_iff_getElem.1 h j k (by omega) hkl (by omega)
end Go.Proofs.Ytfcomnpoehpgiaa
