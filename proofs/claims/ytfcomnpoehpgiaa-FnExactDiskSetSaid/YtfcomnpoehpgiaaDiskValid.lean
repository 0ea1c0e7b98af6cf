/- Plain mathematics of valid disks: limits, names in order, the replay (no program; no condition). -/
import Derived.Test.YtfcomnpoehpgiaaDiskMath
import Derived.Test.YtfcomnpoehpgiaaOpOk
import Derived.Test.YtfcomnpoehpgiaaRes
namespace Go.Proofs.Ytfcomnpoehpgiaa
open Go.RowKit

def opOkF (o : OpD) : Bool := opOkB o.1 o.2.1 o.2.2.1 o.2.2.2.length
def limB (d : DD) : Bool := decide (0 ≤ d.room ∧ d.room ≤ 200000 ∧ -1 ≤ d.fuse ∧ d.fuse ≤ 2000 ∧ d.fs.length ≤ 12 ∧ d.ops.length ≤ 60)
def namesFrom : Option ByteArray → List FileD → Bool
  | _, [] => true
  | p, f :: r => nameB f.1 && ((match p with | none => true | some q => ltB q f.1) && namesFrom (some f.1) r)
def prevAt (l : List FileD) : Nat → Option ByteArray
  | 0 => none
  | k + 1 => (l[k]?).map Prod.fst
theorem namesFrom_at {p : Option ByteArray} {l : List FileD} {k : Nat} {f : FileD} (h : l[k]? = some f) : namesFrom p (l.drop k) = (nameB f.1 && ((match p with | none => true | some q => ltB q f.1) && namesFrom (some f.1) (l.drop (k + 1)))) := by
  obtain ⟨hk, rfl⟩ := List.getElem?_eq_some_iff.1 h
  rw [List.drop_eq_getElem_cons hk]
  cases p <;> rfl

/-- The replay: what the operations make, if each of them may be done. -/
def visF (room : Int) : List FileD → List OpD → Option (List FileD)
  | l, [] => some l
  | l, o :: r => if opOkF o && fitsF l o then (if (totF (makeF l o) : Int) ≤ room then visF room (makeF l o) r else none) else none
def okD (d : DD) : Option (List FileD) := if limB d && (namesFrom none d.fs && decide ((totF d.fs : Int) ≤ d.room)) then visF d.room d.fs d.ops else none
def DD.ok (d : DD) : Bool := (okD d).isSome

theorem visF_at {room : Int} {l : List FileD} {ops : List OpD} {k : Nat} {o : OpD} (h : ops[k]? = some o) : visF room l (ops.drop k) = if opOkF o && fitsF l o then (if (totF (makeF l o) : Int) ≤ room then visF room (makeF l o) (ops.drop (k + 1)) else none) else none := by
  obtain ⟨hk, rfl⟩ := List.getElem?_eq_some_iff.1 h
  rw [List.drop_eq_getElem_cons hk, visF]
theorem visF_seen {room : Int} : ∀ {ops : List OpD} {l l' : List FileD}, visF room l ops = some l' → l' = ops.foldl makeF l
  | [], l, l', h => by simp [visF] at h; exact h.symm
  | o :: r, l, l', h => by
    unfold visF at h
    split at h
    · split at h
      · exact visF_seen (ops := r) (l := makeF l o) h
      · cases h
    · cases h
theorem okD_some {d : DD} {l : List FileD} (h : okD d = some l) : limB d = true ∧ namesFrom none d.fs = true ∧ (totF d.fs : Int) ≤ d.room ∧ visF d.room d.fs d.ops = some l := by
  unfold okD at h
  split at h
  · rename_i hc
    simp at hc
    exact ⟨hc.1, hc.2.1, hc.2.2, h⟩
  · cases h
theorem limB_iff {d : DD} (h : limB d = true) : 0 ≤ d.room ∧ d.room ≤ 200000 ∧ -1 ≤ d.fuse ∧ d.fuse ≤ 2000 ∧ d.fs.length ≤ 12 ∧ d.ops.length ≤ 60 := by
  unfold limB at h
  simpa using h
/-- What the replay passes through: at most 12 files, their bytes within the room. -/
theorem visF_prefix {room : Int} : ∀ {ops : List OpD} {l l' : List FileD} (k : Nat), visF room l ops = some l' → l.length ≤ 12 → (totF l : Int) ≤ room → ((ops.take k).foldl makeF l).length ≤ 12 ∧ (totF ((ops.take k).foldl makeF l) : Int) ≤ room ∧ visF room ((ops.take k).foldl makeF l) (ops.drop k) = some l'
  | ops, l, l', 0, h, h1, h2 => ⟨by simpa using h1, by simpa using h2, by simpa using h⟩
  | [], l, l', k + 1, h, h1, h2 => ⟨by simpa using h1, by simpa using h2, by simpa using h⟩
  | o :: r, l, l', k + 1, h, h1, h2 => by
    unfold visF at h
    split at h
    · rename_i hc
      simp at hc
      split at h
      · rename_i ht
        simpa using visF_prefix k h (make_len hc.2 h1) ht
      · cases h
    · cases h
theorem visF_next {room : Int} {l l' : List FileD} {ops : List OpD} {o : OpD} {r : List OpD} (h : visF room l ops = some l') (hops : ops = o :: r) : opOkF o = true ∧ fitsF l o = true ∧ (totF (makeF l o) : Int) ≤ room := by
  subst hops
  unfold visF at h
  split at h
  · rename_i hc
    simp at hc
    split at h
    · rename_i ht
      exact ⟨hc.1, hc.2, ht⟩
    · cases h
  · cases h
theorem opOkF_bounds {o : OpD} (h : opOkF o = true) : (o.1 = 1 ∨ o.1 = 2 ∨ o.1 = 3 ∨ o.1 = 4) ∧ o.2.2.2.length ≤ 200000 := by
  unfold opOkF opOkB at h
  simp only [Bool.and_eq_true, Bool.or_eq_true, decide_eq_true_eq] at h
  obtain ⟨_, h⟩ := h
  rcases h with (⟨h1 | h1, h2, h3⟩ | ⟨h1, h2, h3, h4⟩) | ⟨h1, h2, h3⟩ <;> omega
theorem fitsF_has {l : List FileD} {o : OpD} (h : fitsF l o = true) (hk : o.1 = 2 ∨ o.1 = 3) : hasF o.2.1 l = true := by
  unfold fitsF at h
  rcases hk with hk | hk
  · rw [if_neg (by omega), if_neg (by omega)] at h
    exact h
  · rw [if_neg (by omega), if_pos hk] at h
    simp at h
    exact h.1
end Go.Proofs.Ytfcomnpoehpgiaa
