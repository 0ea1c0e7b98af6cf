/- Shards of the call's own behind writings elsewhere; how small they are (plain lemmas over the model; no condition). -/
import Derived.Test.YtbfdhlpncblahaaHeMark
import Derived.Test.YtbfdhlpncblahaaHeMath
namespace Go.Proofs.Ytbfdhlpncblahaa
open Go.RowKit

section
variable {w w' w0 : World} {n c lo lo0 : Nat} {A : Option Addr} {bs : List HE}
theorem OwnH.blocks (h : OwnH w0 lo0 A n c bs) : (∀ k, (Value.slice A n c).ownBlock = some k → lo0 ≤ k ∧ k < w0.heap.size) ∧ ∀ d ∈ bs, ∀ k, d.v.ownBlock = some k → lo0 ≤ k ∧ k < w0.heap.size :=
  ⟨h.row.lt, fun d hd => (h.dat.own d hd).lt⟩
theorem OwnH.other {row : Option Nat} (h : OwnH w lo A n c bs) (h0 : OwnH w0 lo0 A n c bs) (hg : w.grownBy w' row) (hne : ∀ k, row = some k → ¬ (lo0 ≤ k ∧ k < w0.heap.size)) : OwnH w' lo A n c bs :=
  ⟨h.row.kept hg (ne_of_lt h0.blocks.1 hne), h.len, h.dat.kept hg (fun d hd => ne_of_lt (h0.blocks.2 d hd) hne)⟩
theorem OwnH.only {S : Nat → Prop} (h : OwnH w lo A n c bs) (h0 : OwnH w0 lo0 A n c bs) (hg : OnlyB S w w') (hne : ∀ k, S k → ¬ (lo0 ≤ k ∧ k < w0.heap.size)) : OwnH w' lo A n c bs :=
  ⟨hg.own h.row (fun k hk hs => hne k hs (h0.blocks.1 k hk)), h.len, fun d hd => hg.own (h.dat.own d hd) (fun k hk hs => hne k hs (h0.blocks.2 d hd k hk)), h.dat.len, h.dat.apart⟩
theorem OwnH.blk (h : OwnH w lo A n c bs) {k : Nat} (hk : blkH A n c bs k) : lo ≤ k ∧ k < w.heap.size := by
  rcases hk with e | ⟨d, hd, e⟩
  · exact h.row.lt k e
  · exact (h.dat.own d hd).lt k e
theorem sum_flat {ls : List SD} (hx : bs.map HE.sd = ls) (hl : ∀ d ∈ bs, d.es.length = d.n) : sumH bs = (flatK ls).length := by
  subst hx
  unfold sumH flatK
  rw [List.length_flatMap, List.map_map]
  congr 1
  exact List.map_congr_left (fun d hd => (hl d hd).symm)
structure HSm (M n : Nat) (bs : List HE) (ls : List SD) : Prop where
  c : n ≤ M
  e : ∀ d ∈ bs, d.n ≤ M
  s : endH 1 bs ≤ 1 + 5 * M
  q : endH 1 bs = 1 + 2 * ls.length + 5 * (flatK ls).length
  k : n = ls.length
  l : ∀ d ∈ bs, d.es.length = d.n
theorem HSm.of {M : Nat} {ls : List SD} (hn : bs.length = n) (hl : ∀ d ∈ bs, d.es.length = d.n) (hx : bs.map HE.sd = ls) (h1 : ls.length + (flatK ls).length ≤ M) : HSm M n bs ls := by
  have e1 := sum_flat hx hl
  have e2 : n = ls.length := by rw [← hn, ← hx, List.length_map]
  refine ⟨by omega, fun d hd => ?_, by rw [endH_sum]; omega, by rw [endH_sum, e1]; omega, e2, hl⟩
  have := mem_sum (List.mem_map_of_mem (f := HE.n) hd)
  unfold sumH at e1
  omega
theorem OwnH.small {M : Nat} {ls : List SD} (h : OwnH w lo A n c bs) (hx : bs.map HE.sd = ls) (h1 : ls.length + (flatK ls).length ≤ M) : HSm M n bs ls := HSm.of h.len h.dat.len hx h1
end
end Go.Proofs.Ytbfdhlpncblahaa
