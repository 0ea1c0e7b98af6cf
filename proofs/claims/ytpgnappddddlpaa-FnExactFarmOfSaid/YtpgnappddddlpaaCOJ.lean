/- Records: the contract of the laws' helper that finds the marks. Condition: at most 2^21. // The contracts of the laws' helpers that compare lists of batches, write marks into them and look for the marks. Condition: at most 2^21 of each. // Batches of the call's own behind writings elsewhere; how small they are (plain lemmas over the model; no condition). // Plain mathematics of merging by positions: what is left of each batch, the batch whose first record goes next (no condition). // A block of cells that is known whole: see BlkB (no condition). -/
import Derived.Test.YtpgnappddddlpaaCOQ
import Derived.StillTailTactics
import Derived.Test.YtpgnappddddlpaaCOB
namespace Go.Proofs.Ytpgnappddddlpaa
open Go.RowKit

end Go.Proofs.Ytpgnappddddlpaa
namespace Go.Proofs.Ytpgnappddddlpaa
open Go.RowKit

/-! ### marks -/
def markT : Nat → List BE → List BE
  | _, [] => []
  | k, e :: r => ⟨e.A, e.n, e.c, markG k e.es⟩ :: markT (k + 3 * e.n) r
def endT : Nat → List BE → Nat
  | k, [] => k
  | k, e :: r => endT (k + 3 * e.n) r
theorem markT_append : ∀ (xs ys : List BE) (k : Nat), markT k (xs ++ ys) = markT k xs ++ markT (endT k xs) ys
  | [], _, _ => rfl
  | x :: r, ys, k => by simp [markT, endT, markT_append r ys]
theorem endT_append : ∀ (xs ys : List BE) (k : Nat), endT k (xs ++ ys) = endT (endT k xs) ys
  | [], _, _ => rfl
  | x :: r, ys, k => by simp [endT, endT_append r ys]
theorem endT_le : ∀ (xs : List BE) (k : Nat), k ≤ endT k xs
  | [], _ => Nat.le_refl _
  | x :: r, k => by
    have := endT_le r (k + 3 * x.n)
    simp only [endT]
    omega
theorem markT_len : ∀ (xs : List BE) (k : Nat), (markT k xs).length = xs.length
  | [], _ => rfl
  | x :: r, k => by simp [markT, markT_len r]
theorem markT_cells : ∀ (xs : List BE) (k : Nat), (markT k xs).flatMap BE.cells = xs.flatMap BE.cells
  | [], _ => rfl
  | x :: r, k => by simp [markT, markT_cells r, BE.cells]
def sumN (bs : List BE) : Nat := (bs.map BE.n).sum
theorem endT_sum : ∀ (xs : List BE) (k : Nat), endT k xs = k + 3 * sumN xs
  | [], k => by simp [endT, sumN]
  | x :: r, k => by
    rw [endT, endT_sum r]
    simp only [sumN, List.map_cons, List.sum_cons]
    omega
def blkT (bs : List BE) (b : Nat) : Prop := ∃ e ∈ bs, e.v.ownBlock = some b
def MarkedT (w : World) (lo kk k : Nat) (A : Option Addr) (n c : Nat) (bs : List BE) (e : Ending) (w' : World) : Prop :=
  e = .returned (.int .i64 (kk : Int)) ∧ OwnT w' lo A n c (markT k bs) ∧ OnlyB (blkT bs) w w'

end Go.Proofs.Ytpgnappddddlpaa
namespace Go.Proofs.Ytpgnappddddlpaa
open Go.RowKit

section
variable {w w' w0 : World} {n c lo lo0 lo1 : Nat} {A : Option Addr} {bs : List BE}
/-- Where each row lay when the batches were made. -/
theorem OwnT.blocks (h : OwnT w0 lo0 A n c bs) : (∀ k, (Value.slice A n c).ownBlock = some k → lo0 ≤ k ∧ k < w0.heap.size) ∧ ∀ d ∈ bs, ∀ k, d.v.ownBlock = some k → lo0 ≤ k ∧ k < w0.heap.size :=
  ⟨h.row.lt, fun d hd => (h.dat.own d hd).lt⟩
theorem OwnT.other {row : Option Nat} (h : OwnT w lo A n c bs) (h0 : OwnT w0 lo0 A n c bs) (hg : w.grownBy w' row) (hne : ∀ k, row = some k → ¬ (lo0 ≤ k ∧ k < w0.heap.size)) : OwnT w' lo A n c bs :=
  ⟨h.row.kept hg (ne_of_lt h0.blocks.1 hne), h.len, h.dat.kept hg (fun d hd => ne_of_lt (h0.blocks.2 d hd) hne)⟩
theorem OwnT.only {S : Nat → Prop} (h : OwnT w lo A n c bs) (h0 : OwnT w0 lo0 A n c bs) (hg : OnlyB S w w') (hne : ∀ k, S k → ¬ (lo0 ≤ k ∧ k < w0.heap.size)) : OwnT w' lo A n c bs :=
  ⟨hg.own h.row (fun k hk hs => hne k hs (h0.blocks.1 k hk)), h.len, fun d hd => hg.own (h.dat.own d hd) (fun k hk hs => hne k hs (h0.blocks.2 d hd k hk)), h.dat.len, h.dat.apart⟩
theorem OwnT.blk (h : OwnT w lo A n c bs) {k : Nat} (hk : blkT bs k) : lo ≤ k ∧ k < w.heap.size := by
  obtain ⟨d, hd, e⟩ := hk
  exact (h.dat.own d hd).lt k e
theorem total_sum {ls : List (List GE)} (hx : bs.map BE.es = ls) (hl : ∀ d ∈ bs, d.es.length = d.n) : sumN bs = totalR ls := by
  subst hx
  unfold sumN totalR
  rw [List.map_map]
  congr 1
  exact List.map_congr_left (fun d hd => (hl d hd).symm)
structure BatSmall (M n : Nat) (bs : List BE) (ls : List (List GE)) : Prop where
  c : n ≤ M
  e : ∀ d ∈ bs, d.n ≤ M
  s : endT 1 bs ≤ 1 + 3 * M
  q : endT 1 bs = 1 + 3 * totalR ls
  k : n = ls.length
  l : ∀ d ∈ bs, d.es.length = d.n
theorem OwnT.small {M : Nat} {ls : List (List GE)} (h : OwnT w lo A n c bs) (hx : bs.map BE.es = ls) (h1 : ls.length ≤ M) (h2 : totalR ls ≤ M) : BatSmall M n bs ls := by
  have e1 := total_sum hx h.dat.len
  have e2 : n = ls.length := by rw [← h.len, ← hx, List.length_map]
  refine ⟨by omega, fun d hd => ?_, by rw [endT_sum]; omega, by rw [endT_sum, e1], e2, h.dat.len⟩
  have := mem_sum (List.mem_map_of_mem (f := BE.n) hd)
  unfold sumN at e1
  omega
end
theorem batchesZ_len (b : Int) (es : List GE) : (batchesZ b es).length ≤ es.length := by
  by_cases h : b < 1
  · rw [batchesZ_no h]; exact Nat.zero_le _
  · rw [batchesZ_yes (by omega)]
    exact count_batches (by omega) _ es (Nat.le_refl _)
theorem batchesZ_total (b : Int) (es : List GE) : totalR (batchesZ b es) ≤ es.length := by
  by_cases h : b < 1
  · rw [batchesZ_no h]; exact Nat.zero_le _
  · rw [batchesZ_yes (by omega), total_batches (by omega)]
    exact Nat.le_refl _
end Go.Proofs.Ytpgnappddddlpaa
namespace Go.Proofs.Ytpgnappddddlpaa

/-- What is left of each batch, behind these positions. -/
def rest (bs : List BE) (ats : List Nat) : List (List GE) := List.zipWith (fun e a => e.es.drop a) bs ats
def bestI : Option (Nat × GE) → Int
  | none => -1
  | some p => p.1
theorem rest_len {bs : List BE} {ats : List Nat} (h : ats.length = bs.length) : (rest bs ats).length = bs.length := by simp [rest, h]
theorem rest_at {bs : List BE} {ats : List Nat} {i : Nat} {e : BE} {a : Nat} (he : bs[i]? = some e) (ha : ats[i]? = some a) : (rest bs ats)[i]? = some (e.es.drop a) := by
  simp [rest, List.getElem?_zipWith, he, ha]
theorem rest_set : ∀ (bs : List BE) (ats : List Nat) (i a : Nat), ats[i]? = some a → rest bs (ats.set i (a + 1)) = (rest bs ats).modify i List.tail
  | [], ats, i, a, _ => by simp [rest]
  | _ :: _, [], i, a, h => by simp at h
  | e :: bs, x :: ats, 0, a, h => by
    simp at h
    subst h
    simp [rest]
  | e :: bs, x :: ats, i + 1, a, h => by
    have := rest_set bs ats i a (by simpa using h)
    unfold rest at this ⊢
    simp only [List.set_cons_succ, List.zipWith_cons_cons, List.modify_succ_cons, this]
theorem rest_zero : ∀ (bs : List BE), rest bs (List.replicate bs.length 0) = bs.map BE.es
  | [] => rfl
  | e :: bs => by
    have := rest_zero bs
    unfold rest at this ⊢
    simp [List.replicate_succ, this]
/-- The best of the first i, with one more batch. -/
def bestMore (i : Nat) (b : Option (Nat × GE)) (x : List GE) : Option (Nat × GE) := bestFrom i b [x]
theorem best_take {rs : List (List GE)} {i : Nat} {x : List GE} (h : rs[i]? = some x) : bestFrom 0 none (rs.take (i + 1)) = bestMore i (bestFrom 0 none (rs.take i)) x := by
  have hi : i < rs.length := (List.getElem?_eq_some_iff.1 h).1
  have h1 : rs.take (i + 1) = rs.take i ++ [x] := by
    rw [List.take_add_one, h]; rfl
  rw [h1, bestFrom_append, List.length_take, Nat.min_eq_left (by omega), Nat.zero_add]
  rfl
theorem bestMore_nil (i : Nat) (b : Option (Nat × GE)) : bestMore i b [] = b := by cases b <;> rfl
theorem bestMore_new (i : Nat) (x : GE) (t : List GE) : bestMore i none (x :: t) = some (i, x) := rfl
theorem bestMore_less {i j : Nat} {x y : GE} {t : List GE} (h : lessR x y = true) : bestMore i (some (j, y)) (x :: t) = some (i, x) := by simp [bestMore, bestFrom, h]
theorem bestMore_not {i j : Nat} {x y : GE} {t : List GE} (h : lessR x y = false) : bestMore i (some (j, y)) (x :: t) = some (j, y) := by simp [bestMore, bestFrom, h]
/-- The best of the first i lies among them. -/
theorem best_in {rs : List (List GE)} {i j : Nat} {y : GE} (h : bestFrom 0 none (rs.take i) = some (j, y)) : j < i ∧ ∃ t, rs[j]? = some (y :: t) := by
  have h1 : bestR (rs.take i) = some (j, y) := h
  have h2 := bestR_lt h1
  obtain ⟨t, ht, _⟩ := bestR_some h1
  rw [List.length_take] at h2
  rw [List.getElem?_take] at ht
  split at ht
  · exact ⟨by omega, t, ht⟩
  · cases ht
/-- A list that starts with y behind a position: there it stands. -/
theorem drop_cons {es : List GE} {a : Nat} {y : GE} {t : List GE} (h : es.drop a = y :: t) : es[a]? = some y := by
  have : (es.drop a)[0]? = some y := by rw [h]; rfl
  simpa using this
theorem drop_at {es : List GE} {a : Nat} {y : GE} (h : es[a]? = some y) : es.drop a = y :: es.drop (a + 1) := by
  obtain ⟨hl, rfl⟩ := List.getElem?_eq_some_iff.1 h
  exact List.drop_eq_getElem_cons hl
end Go.Proofs.Ytpgnappddddlpaa

