/- Consecutive frames, as data: what is read from an offset on, and where reading stops (no program; no condition). Words for lists of frames in memory. -/
import Derived.Test.YtmlfhjkogcabiaaFrMath
import Derived.Test.YtmlfhjkogcabiaaFrOwn
namespace Go.Proofs.Ytmlfhjkogcabiaa
open Go.RowKit

/-- What comes from place a on, with at most so many frames; the place where it stops. -/
def frsR (xs : List Nat) : Nat → Int → List (Int × List Nat) × Int
  | 0, a => ([], a)
  | f + 1, a => if (frR xs a).2.2 = 0 then ((frR xs a).1 :: (frsR xs f (frR xs a).2.1).1, (frsR xs f (frR xs a).2.1).2) else ([], a)
def frsAll (xs : List Nat) : List (Int × List Nat) × Int := frsR xs (xs.length + 1) 0
theorem frR_next {xs : List Nat} {a : Int} (h : (frR xs a).2.2 = 0) : 0 ≤ a ∧ (frR xs a).2.1 = a + 20 + (frR xs a).1.2.length ∧ (frR xs a).2.1 ≤ xs.length := by
  unfold frR at h ⊢
  split at h
  · simp at h
  · rename_i h1
    split at h
    · simp at h
    · rename_i h2
      split at h
      · simp at h
      · rename_i h3
        split at h
        · simp at h
        · rename_i h4
          split at h
          · simp at h
          · rename_i h5
            rw [if_neg h1, if_neg h2, if_neg h3, if_neg h4, if_neg h5]
            have h4 : 20 + sizeR (xs.drop a.toNat) ≤ (xs.drop a.toNat).length := Nat.le_of_not_lt h4
            have h6 := data_len (rs := xs.drop a.toNat) (by omega)
            have h7 : (xs.drop a.toNat).length = xs.length - a.toNat := List.length_drop
            simp only [h6]
            refine ⟨by omega, trivial, ?_⟩
            rw [h7] at h4
            omega
/-- So much has been read; what is left. -/
structure FrsAt (xs : List Nat) (pre : List (Int × List Nat)) (a : Int) (fuel : Nat) : Prop where
  all : frsAll xs = (pre ++ (frsR xs fuel a).1, (frsR xs fuel a).2)
  lo : 0 ≤ a
  hi : a ≤ xs.length
  fuel : (xs.length : Int) < a + fuel
  tot : (((pre.map fun p => p.2.length).sum : Nat) : Int) + 20 * pre.length = a
theorem FrsAt.start (xs : List Nat) : FrsAt xs [] 0 (xs.length + 1) := ⟨rfl, by omega, by omega, by omega, rfl⟩
theorem FrsAt.step {xs : List Nat} {pre : List (Int × List Nat)} {a : Int} {fuel : Nat} (h : FrsAt xs pre a fuel) (h0 : (frR xs a).2.2 = 0) : ∃ f, fuel = f + 1 ∧ FrsAt xs (pre ++ [(frR xs a).1]) (frR xs a).2.1 f := by
  obtain ⟨n1, n2, n3⟩ := frR_next h0
  obtain ⟨f, rfl⟩ : ∃ f, fuel = f + 1 := ⟨fuel - 1, by have := h.fuel; have := h.hi; omega⟩
  refine ⟨f, rfl, ?_, by omega, n3, by have := h.fuel; omega, ?_⟩
  · have := h.all
    rw [frsR, if_pos h0] at this
    rw [this, List.append_assoc]
    rfl
  · have := h.tot
    rw [List.map_append, List.sum_append, List.length_append]
    simp only [List.map_cons, List.map_nil, List.sum_cons, List.sum_nil, List.length_cons, List.length_nil]
    omega
theorem FrsAt.stop {xs : List Nat} {pre : List (Int × List Nat)} {a : Int} {fuel : Nat} (h : FrsAt xs pre a fuel) (h0 : (frR xs a).2.2 ≠ 0) : frsAll xs = (pre, a) := by
  have h1 := h.all
  obtain ⟨f, rfl⟩ : ∃ f, fuel = f + 1 := ⟨fuel - 1, by have := h.fuel; have := h.hi; omega⟩
  rw [frsR, if_neg h0] at h1
  simpa using h1
theorem FrsAt.ends {xs : List Nat} : ∀ (fuel : Nat) (pre : List (Int × List Nat)) (a : Int), FrsAt xs pre a fuel → ∃ q b f, FrsAt xs q b f ∧ frsAll xs = (q, b)
  | 0, pre, a, h => by have := h.fuel; have := h.hi; omega
  | fuel + 1, pre, a, h => by
    by_cases h0 : (frR xs a).2.2 = 0
    · obtain ⟨f, e, h1⟩ := h.step h0
      injection e with e
      subst e
      exact FrsAt.ends _ _ _ h1
    · exact ⟨pre, a, _, h, h.stop h0⟩
theorem frsAll_tot (xs : List Nat) : ((frsAll xs).1.map fun p => p.2.length).sum + 20 * (frsAll xs).1.length ≤ xs.length := by
  obtain ⟨q, b, f, h, e⟩ := FrsAt.ends _ _ _ (FrsAt.start xs)
  rw [e]
  have h1 := h.tot
  have h2 := h.hi
  simp only
  omega
theorem le_sum_of_mem {α : Type} (f : α → Nat) : ∀ (l : List α) (x : α), x ∈ l → f x ≤ (l.map f).sum
  | [], x, h => by simp at h
  | y :: r, x, h => by
    rw [List.map_cons, List.sum_cons]
    rcases List.mem_cons.1 h with rfl | h
    · omega
    · have := le_sum_of_mem f r x h; omega
theorem OwnR.sizes {w : World} {lo n c : Nat} {A : Option Addr} {es : List FrE} (h : OwnR w lo A n c es) : ∀ e ∈ es, e.d.n = e.fr.2.length := fun e he => by
  have := (h.dat.own e.d (List.mem_map.2 ⟨e, he, rfl⟩)).1
  rw [vb_length] at this
  show e.d.n = e.d.xs.length
  omega
theorem OwnR.sums {w : World} {lo n c : Nat} {A : Option Addr} {es : List FrE} (h : OwnR w lo A n c es) : (es.map fun e => e.d.n) = (es.map FrE.fr).map fun p => p.2.length := by
  rw [List.map_map]
  exact List.map_congr_left (fun e he => h.sizes e he)
end Go.Proofs.Ytmlfhjkogcabiaa
