/- Batches of the call's own behind writings elsewhere; how small they are (plain lemmas over the model; no condition). -/
import Derived.Test.YtbfdhlpncblahaaBat
import Derived.Test.YtbfdhlpncblahaaBatEq
import Derived.Test.YtbfdhlpncblahaaBatMath
namespace Go.Proofs.Ytbfdhlpncblahaa
open Go.RowKit

section
variable {w w' w0 : World} {n c lo lo0 lo1 : Nat} {A : Option Addr} {bs : List BE}
/-- Where each row lay when the batches were made. -/
theorem OwnT.blocks (h : OwnT w0 lo0 A n c bs) : (∀ k, (Value.slice A n c).ownBlock = some k → lo0 ≤ k ∧ k < w0.heap.size) ∧ ∀ d ∈ bs, ∀ k, d.v.ownBlock = some k → lo0 ≤ k ∧ k < w0.heap.size :=
  ⟨h.row.lt, fun d hd => (h.dat.own d hd).lt⟩
theorem OwnT.other {row : Option Nat} (h : OwnT w lo A n c bs) (h0 : OwnT w0 lo0 A n c bs) (hg : w.grownBy w' row) (hne : ∀ k, row = some k → ¬ (lo0 ≤ k ∧ k < w0.heap.size)) : OwnT w' lo A n c bs :=
  ⟨h.row.kept hg (ne_of_lt h0.blocks.1 hne), h.len, h.dat.kept hg (fun d hd => ne_of_lt (h0.blocks.2 d hd) hne)⟩
theorem OwnT.only {S : Nat → Prop} (h : OwnT w lo A n c bs) (h0 : OwnT w0 lo0 A n c bs) (hg : OnlyB S w w') (hne : ∀ k, S k → ¬ (lo0 ≤ k ∧ k < w0.heap.size)) : OwnT w' lo A n c bs :=
  ⟨hg.own h.row (fun k hk hs => hne k hs (h0.blocks.1 k hk)), h.len, fun d hd => hg.own (h.dat.own d hd) (fun k hk hs => hne k hs (h0.blocks.2 d hd k hk)), h.dat.len, h.dat.apart⟩
theorem OwnT.blk (h : OwnT w lo A n c bs) {k : Nat} (hk : blkT bs k) : lo ≤ k ∧ k < w.heap.size := by
  obtain ⟨d, hd, e⟩ := hk
  exact (h.dat.own d hd).lt k e
theorem total_sum {ls : List (List GE)} (hx : bs.map BE.es = ls) (hl : ∀ d ∈ bs, d.es.length = d.n) : sumN bs = totalR ls := by
  subst hx
  unfold sumN totalR
  rw [List.map_map]
  congr 1
  exact List.map_congr_left (fun d hd => (hl d hd).symm)
structure BatSmall (M n : Nat) (bs : List BE) (ls : List (List GE)) : Prop where
  c : n ≤ M
  e : ∀ d ∈ bs, d.n ≤ M
  s : endT 1 bs ≤ 1 + 3 * M
  q : endT 1 bs = 1 + 3 * totalR ls
  k : n = ls.length
  l : ∀ d ∈ bs, d.es.length = d.n
theorem OwnT.small {M : Nat} {ls : List (List GE)} (h : OwnT w lo A n c bs) (hx : bs.map BE.es = ls) (h1 : ls.length ≤ M) (h2 : totalR ls ≤ M) : BatSmall M n bs ls := by
  have e1 := total_sum hx h.dat.len
  have e2 : n = ls.length := by rw [← h.len, ← hx, List.length_map]
  refine ⟨by omega, fun d hd => ?_, by rw [endT_sum]; omega, by rw [endT_sum, e1], e2, h.dat.len⟩
  have := mem_sum (List.mem_map_of_mem (f := BE.n) hd)
  unfold sumN at e1
  omega
end
theorem batchesZ_len (b : Int) (es : List GE) : (batchesZ b es).length ≤ es.length := by
  by_cases h : b < 1
  · rw [batchesZ_no h]; exact Nat.zero_le _
  · rw [batchesZ_yes (by omega)]
    exact count_batches (by omega) _ es (Nat.le_refl _)
theorem batchesZ_total (b : Int) (es : List GE) : totalR (batchesZ b es) ≤ es.length := by
  by_cases h : b < 1
  · rw [batchesZ_no h]; exact Nat.zero_le _
  · rw [batchesZ_yes (by omega), total_batches (by omega)]
    exact Nat.le_refl _
end Go.Proofs.Ytbfdhlpncblahaa
