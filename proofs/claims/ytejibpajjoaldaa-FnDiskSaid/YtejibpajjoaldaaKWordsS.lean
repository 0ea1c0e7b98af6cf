/- Words for slices of strings: 'RdS w A n ss': the slice at A of length n reads in w as the strings ss. The contracts of the law's helper that makes a mark as a text, and of the ones that compare, mark and look for marks in slices of strings. Condition: at most 2^21 strings. -/
import Derived.Test.YtejibpajjoaldaaC1
import Derived.Deep.RegionWith
namespace Go.Proofs.Ytejibpajjoaldaa
open Go.RowKit

theorem Try.infoStr : (Try.prog.info? 9).map (fun i => (i.zero, i.size, i.bytes)) = some (some (.string ByteArray.empty), 1, 16) := by kernel_rfl
def vs (ss : List ByteArray) : List Value := ss.map Value.string
theorem vs_length (ss : List ByteArray) : (vs ss).length = ss.length := by simp [vs]
theorem vs_append (a b : List ByteArray) : vs (a ++ b) = vs a ++ vs b := by simp [vs]
theorem vs_get (ss : List ByteArray) (j : Nat) : (vs ss)[j]? = (ss[j]?).map Value.string := by simp [vs]

structure RdS (w : World) (A : Option Addr) (n : Nat) (ss : List ByteArray) : Prop where
  len : ss.length = n
  lies : 0 < n → ∃ b off, A = some ⟨b, off, none⟩ ∧ b < w.heap.size ∧ ∀ (j : Nat) (s : ByteArray), ss[j]? = some s → w.cell? ⟨b, off + j, none⟩ = some (.string s)

section
variable {w w' : World} {A : Option Addr} {n : Nat} {ss : List ByteArray}
theorem RdS.at_ {k : Nat} (h : RdS w A n ss) (hk : k < n) : ∃ (b off : Nat) (s : ByteArray), A = some ⟨b, off, none⟩ ∧ b < w.heap.size ∧ Hid (ss[k]? = some s) ∧ w.cell? ⟨b, off + k, none⟩ = some (.string s) := by
  obtain ⟨b, off, rfl, hb, hc⟩ := h.lies (by omega)
  have hl : k < ss.length := by have := h.len; omega
  exact ⟨b, off, ss[k], rfl, hb, List.getElem?_eq_getElem hl, hc k _ (List.getElem?_eq_getElem hl)⟩
theorem RdS.keep (h : RdS w A n ss) (hs : w.heap.size ≤ w'.heap.size) (hk : ∀ p : Addr, p.block < w.heap.size → w'.cell? p = w.cell? p) : RdS w' A n ss :=
  ⟨h.len, fun hn => by
    obtain ⟨b, off, e, hb, hc⟩ := h.lies hn
    exact ⟨b, off, e, by omega, fun j u hu => (hk _ hb).trans (hc j u hu)⟩⟩
theorem RdS.below (h : RdS w A n ss) (hb : Below w.heap.size w w') : RdS w' A n ss := h.keep hb.size fun _ hp => hb.cell hp
theorem RdS.drewN (h : RdS w A n ss) (k : Nat) : RdS (w.drewN k) A n ss := ⟨h.len, h.lies⟩
theorem RdS.other {row : Option Nat} (h : RdS w A n ss) (hg : w.grownBy w' row) (hr : ∀ b off sp, A = some ⟨b, off, sp⟩ → some b ≠ row) : RdS w' A n ss :=
  ⟨h.len, fun hn => by
    obtain ⟨b, off, e, hb, hc⟩ := h.lies hn
    have := hg.size
    exact ⟨b, off, e, by omega, fun j u hu => (World.cell?_of_block (hg.block b hb (hr _ _ _ e))).trans (hc j u hu)⟩⟩
theorem RdS.of_own {base e c : Nat} (h : w.ownsRow base e 1 (.slice A n c) n (vs ss)) : RdS w A n ss := by
  have hl : ss.length = n := by have := h.1; rw [vs_length] at this; omega
  refine ⟨hl, fun hn => ?_⟩
  obtain ⟨g, cap, hv, _, hlt⟩ := h.form hn
  have hA : A = some ⟨g, 0, none⟩ := by injection hv
  subst hA
  refine ⟨g, 0, rfl, hlt, fun j u hu => ?_⟩
  have := h.cells (g := g) rfl j (.string u) (by rw [vs_get, hu]; rfl)
  have hx : ((⟨g, 0, none⟩ : Addr).add j) = ⟨g, 0 + j, none⟩ := by unfold Addr.add; split <;> simp_all
  rw [hx] at this
  exact this
end

end Go.Proofs.Ytejibpajjoaldaa
