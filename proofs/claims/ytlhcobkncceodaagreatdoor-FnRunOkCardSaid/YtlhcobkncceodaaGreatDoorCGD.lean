/- One vertex, one iteration: what stays valid; a vertex that is not to be updated is stable (data only; no condition). // Marks in lists of records of three numbers and of numbers, as data (no condition). // Edges, graphs and numbers: the contracts of the laws' helpers that compare and that leave marks. Condition: at most 2^21 of each. // Degrees as data, and a row of numbers that is counted in (no condition). // A new run, an iteration, many iterations as data: what is valid stays valid; in two parts or at once; a finished run does not change (data only; no condition). // What RunIter and RunAll answer, as data, and what they leave in memory (plain lemmas; no condition). // Lists of numbers of a call's own: small words (plain lemmas over the model; no condition). // The views that a vertex of a run has, and where they stand, in memory: two lists of the call's own (plain lemmas over the model; no condition). // Writings in blocks of a set alone, and what a row of the call's own has for a block (plain lemmas over the model; no condition). // What stands while a vertex of a run is updated: the run in its block, its rows, the bits of the present set; all of it the call's own (plain lemmas over the model; no condition). // What stands while a run is iterated in place, and what an iteration writes (plain lemmas over the model; no condition). -/
import Derived.Test.YtlhcobkncceodaaGreatDoorCGC
import Derived.Test.YtlhcobkncceodaaGreatDoorCGA
import Derived.Test.YtlhcobkncceodaaGreatDoorCGB
namespace Go.Proofs.YtlhcobkncceodaaGreatDoor
open Go.RowKit

def Lab (p : Int) (S : SD) : Prop := p = 4 → (∀ x ∈ S.vs, 0 ≤ x ∧ x < 1000) ∧ ∀ x ∈ S.ev, 0 ≤ x ∧ x < 1000000
def Stable (p : Int) (G : List GE) (vs ev : List Int) (v : Nat) : Prop :=
  newAt p G ⟨vs, ev, [], []⟩ v = vs.getD v 0 ∧ ∀ i ∈ idxT G v G.length, edgeNew p G ⟨vs, ev, [], []⟩ v i = ev.getD i 0
theorem newAt_eq (p : Int) (G : List GE) (S : SD) (v : Nat) : newAt p G ⟨S.vs, S.ev, [], []⟩ v = newAt p G S v := rfl
theorem edgeNew_eq (p : Int) (G : List GE) (S : SD) (v i : Nat) : edgeNew p G ⟨S.vs, S.ev, [], []⟩ v i = edgeNew p G S v i := rfl
section
variable {p : Int} {N : Nat} {G : List GE} {S : SD}
theorem vstep_is (hG : graphB (N : Int) G = true) (h : Good p N G S) (v : Nat) : Stepped p N G v (edgeNew p G S v) (idxT G v G.length) ⟨S.vs.set v (newAt p G S v), S.ev, S.nx, S.nw⟩ (vstep p N G S v) :=
  fold_step hG v _ _ _ (idx_nodup _ _ _) (fun i hi => by have := (idx_mem.1 hi).1; exact ⟨by simp only; rw [h.el]; exact this, this⟩) h.nx h.nw
theorem newAt_lim (hG : graphB (N : Int) G = true) (h : Good p N G S) {v : Nat} (hv : v < N) : 0 ≤ newAt p G S v ∧ newAt p G S v ≤ 1099511627776 :=
  newVal_in (getD_in h.vv (i := v) (by rw [h.vl]; exact hv)) (views_ok hG h v)
theorem ev_all {l : List Int} {P : Int → Prop} (h : ∀ i, i < l.length → P (l.getD i 0)) : ∀ x ∈ l, P x := fun x hx => by
  obtain ⟨i, hi, rfl⟩ := List.getElem_of_mem hx
  have := h i hi
  rwa [List.getD_eq_getElem?_getD, List.getElem?_eq_getElem hi] at this
theorem vstep_good (hG : graphB (N : Int) G = true) (h : Good p N G S) {v : Nat} (hv : v < N) : Good p N G (vstep p N G S v) := by
  have T := vstep_is hG h v
  have hn := newAt_lim hG h hv
  refine ⟨by rw [T.vs]; simp [h.vl], by rw [T.el]; exact h.el, by rw [T.vs]; exact set_all h.vv v hn, ev_all (fun i hi => ?_), T.nx, T.nw, T.nxs h.nxs, T.nws h.nws⟩
  rw [T.ev i]
  split
  · rename_i hi2
    exact newEdge_in hn (view_ok hG h hi2)
  · exact getD_in h.ee (by rw [T.el] at hi; exact hi)
theorem views_small (h : Good p N G S) (hl : ∀ x ∈ S.ev, 0 ≤ x ∧ x < 1000000) (v : Int) : ∀ e ∈ viewsT G S.ev v G.length, 0 ≤ e.v ∧ e.v < 1000000 := by
  intro e he
  obtain ⟨i, hi, rfl⟩ := List.mem_map.1 he
  exact getD_in hl (by rw [h.el]; exact (idx_mem.1 hi).1)
theorem vstep_lab (hG : graphB (N : Int) G = true) (h : Good p N G S) (hl : Lab p S) {v : Nat} (hv : v < N) : Lab p (vstep p N G S v) := by
  intro hp
  obtain ⟨h1, h2⟩ := hl hp
  have T := vstep_is hG h v
  have hx := getD_in h1 (i := v) (by rw [h.vl]; exact hv)
  have hn : 0 ≤ newAt p G S v ∧ newAt p G S v < 1000 := by
    subst hp
    have e : newAt 4 G S v = mostR (told (viewsT G S.ev v G.length)) (S.vs.getD v 0) := by unfold newAt newVal; simp
    rw [e]
    exact most_small (told_small (views_small h h2 v)) hx
  refine ⟨by rw [T.vs]; exact set_all h1 v hn, ev_all (fun i hi => ?_)⟩
  rw [T.ev i]
  split
  · rename_i hi2
    have hv2 := getD_in h2 (i := i) (by rw [h.el]; exact (idx_mem.1 hi2).1)
    subst hp
    unfold edgeNew newEdge
    simp only [show ¬ ((4 : Int) = 1) by omega, show ¬ ((4 : Int) = 2) by omega, show ¬ ((4 : Int) = 3) by omega, if_false]
    have h9 : (viewAt G S.ev v i).v = S.ev.getD i 0 := rfl
    rw [h9, Int.tdiv_eq_ediv_of_nonneg hv2.1, Int.tmod_eq_emod_of_nonneg hv2.1]
    unfold capF
    split <;> split <;> omega
  · exact getD_in h2 (by rw [T.el] at hi; exact hi)
/-- Where neither the vertex's value nor any of its edges' has changed, it is as stable as before. -/
theorem stable_congr {vs ev vs' ev' : List Int} {u : Nat} (h : Stable p G vs ev u) (hv : vs'.getD u 0 = vs.getD u 0) (he : ∀ i ∈ idxT G u G.length, ev'.getD i 0 = ev.getD i 0) : Stable p G vs' ev' u := by
  have e1 : ∀ i ∈ idxT G u G.length, viewAt G ev' u i = viewAt G ev u i := fun i hi => by unfold viewAt; rw [he i hi]
  have e2 : viewsT G ev' u G.length = viewsT G ev u G.length := by unfold viewsT; exact List.map_congr_left e1
  have e3 : newAt p G ⟨vs', ev', [], []⟩ u = newAt p G ⟨vs, ev, [], []⟩ u := by unfold newAt; simp only; rw [e2, hv]
  refine ⟨by rw [e3, hv]; exact h.1, fun i hi => ?_⟩
  rw [he i hi, ← h.2 i hi]
  unfold edgeNew
  rw [e3]
  simp only
  rw [e2, e1 i hi]
theorem stable_noop {v : Nat} (hs : Stable p G S.vs S.ev v) : vstep p N G S v = S := by
  unfold vstep
  rw [← newAt_eq, hs.1]
  have e : S.vs.set v (S.vs.getD v 0) = S.vs := by
    apply List.ext_getElem?
    intro j
    rw [List.getElem?_set]
    by_cases hj : v = j
    · subst hj
      by_cases hlt : v < S.vs.length
      · rw [if_pos rfl, if_pos hlt, List.getD_eq_getElem?_getD, List.getElem?_eq_getElem hlt]; rfl
      · rw [if_pos rfl, if_neg hlt, List.getElem?_eq_none (by omega)]
    · rw [if_neg hj]
  rw [e]
  suffices H : ∀ (J : List Nat) (T : SD), (∀ i ∈ J, edgeNew p G S v i = T.ev.getD i 0) → J.foldl (estep (N : Int) G v (edgeNew p G S v)) T = T from H _ S (fun i hi => by rw [← edgeNew_eq]; exact hs.2 i hi)
  intro J
  induction J with
  | nil => intro T _; rfl
  | cons i J ih =>
    intro T hT
    rw [List.foldl_cons]
    have e1 : estep (N : Int) G v (edgeNew p G S v) T i = T := by unfold estep; rw [if_pos (hT i List.mem_cons_self)]
    rw [e1]
    exact ih T (fun j hj => hT j (List.mem_cons_of_mem _ hj))
/-- The updated vertex is stable, where no self-loop has changed. -/
theorem stable_self (hp : 1 ≤ p ∧ p ≤ 4) (hG : graphB (N : Int) G = true) (h : Good p N G S) (hl : Lab p S) {v : Nat} (hv : v < N)
    (hs : ∀ i ∈ idxT G v G.length, (edgeAt G i).f = (v : Int) → (edgeAt G i).t = (v : Int) → edgeNew p G S v i = S.ev.getD i 0) : Stable p G (vstep p N G S v).vs (vstep p N G S v).ev v := by
  have T := vstep_is hG h v
  obtain ⟨l, hlq⟩ : ∃ l, l = viewsT G S.ev v G.length := ⟨_, rfl⟩
  have hn : newAt p G S v = newVal p (S.vs.getD v 0) l := by rw [hlq]; rfl
  have hev : ∀ i, edgeNew p G S v i = newEdge p (newAt p G S v) (outsN l) (viewAt G S.ev v i) := fun i => by rw [hlq]; rfl
  have hself : ∀ e ∈ l, e.i = true → e.o = true → newEdge p (newAt p G S v) (outsN l) e = e.v := by
    intro e he h1 h2
    rw [hlq] at he
    obtain ⟨i, hi, rfl⟩ := List.mem_map.1 he
    rw [← hev i]
    exact hs i hi (by simpa [viewAt, viewE] using h2) (by simpa [viewAt, viewE] using h1)
  have hlab : p = 4 → (0 ≤ S.vs.getD v 0 ∧ S.vs.getD v 0 < 1000) ∧ ∀ e ∈ l, 0 ≤ e.v ∧ e.v < 1000000 := fun h4 => by
    obtain ⟨h1, h2⟩ := hl h4
    exact ⟨getD_in h1 (by rw [h.vl]; exact hv), by rw [hlq]; exact views_small h h2 v⟩
  obtain ⟨k1, k2⟩ := upd_again hp hn hself hlab
  have hvs : (vstep p N G S v).vs.getD v 0 = newAt p G S v := by rw [T.vs]; rw [set_getD _ _ _ _ (by rw [h.vl]; exact hv), if_pos rfl]
  have hview : ∀ i ∈ idxT G v G.length, viewAt G (vstep p N G S v).ev v i = (viewAt G S.ev v i).put p (newAt p G S v) (outsN l) := fun i hi => by
    unfold viewAt VE.put viewE
    rw [T.ev i, if_pos hi, hev i]
    rfl
  have hviews : viewsT G (vstep p N G S v).ev v G.length = l.map fun e => e.put p (newAt p G S v) (outsN l) := by
    rw [hlq]
    unfold viewsT
    rw [List.map_map]
    refine List.map_congr_left (fun i hi => ?_)
    rw [hview i hi, hlq]
    rfl
  have hnew : newAt p G ⟨(vstep p N G S v).vs, (vstep p N G S v).ev, [], []⟩ v = newAt p G S v := by
    show newVal p ((vstep p N G S v).vs.getD v 0) (viewsT G (vstep p N G S v).ev v G.length) = _
    rw [hvs, hviews]
    exact k1
  refine ⟨by rw [hnew, hvs], fun i hi => ?_⟩
  show newEdge p (newAt p G ⟨(vstep p N G S v).vs, (vstep p N G S v).ev, [], []⟩ v) (outsN (viewsT G (vstep p N G S v).ev v G.length)) (viewAt G (vstep p N G S v).ev v i) = _
  rw [hnew, hviews, outs_put, hview i hi, T.ev i, if_pos hi, hev i]
  exact k2 _ (by rw [hlq]; exact List.mem_map.2 ⟨i, hi, rfl⟩)

/-! ### an iteration -/
/-- At vertex k every vertex is still to come, or to be updated next, or stable. -/
def Inv (p : Int) (N : Nat) (G : List GE) (S : SD) (k : Nat) : Prop := ∀ u, u < N → (bitN S.nw u = true ∧ k ≤ u) ∨ bitN S.nx u = true ∨ Stable p G S.vs S.ev u
theorem inv_step (hp : 1 ≤ p ∧ p ≤ 4) (hG : graphB (N : Int) G = true) (h : Good p N G S) (hl : Lab p S) {v : Nat} (hv : v < N) (hi : Inv p N G S v) : Inv p N G (vstep p N G S v) (v + 1) := by
  have T := vstep_is hG h v
  intro u hu
  by_cases huv : u = v
  · subst huv
    by_cases hc : ∃ i ∈ idxT G u G.length, (edgeAt G i).f = (u : Int) ∧ (edgeAt G i).t = (u : Int) ∧ edgeNew p G S u i ≠ S.ev.getD i 0
    · obtain ⟨i, h1, h2, h3, h4⟩ := hc
      right
      left
      rw [T.bx u]
      right
      refine ⟨i, h1, h4, ?_, by omega⟩
      unfold otherE
      rw [if_pos h2, h3]
    · right
      right
      refine stable_self hp hG h hl hv (fun i h1 h2 h3 => ?_)
      exact Classical.byContradiction fun h4 => hc ⟨i, h1, h2, h3, h4⟩
  · by_cases hc : ∃ i ∈ idxT G v G.length, i ∈ idxT G u G.length ∧ edgeNew p G S v i ≠ S.ev.getD i 0
    · obtain ⟨i, h1, h2, h3⟩ := hc
      have ho : otherE (edgeAt G i) v = (u : Int) := by
        have a1 := (idx_mem.1 h1).2
        have a2 := (idx_mem.1 h2).2
        unfold incB at a1 a2
        simp only [Bool.or_eq_true, decide_eq_true_eq] at a1 a2
        unfold otherE
        split <;> omega
      by_cases hlt : v < u
      · left
        refine ⟨?_, by omega⟩
        rw [T.bw u]
        right
        exact ⟨i, h1, h3, ho, by omega⟩
      · right
        left
        rw [T.bx u]
        right
        exact ⟨i, h1, h3, ho, by omega⟩
    · rcases hi u hu with ⟨h1, h2⟩ | h1 | h1
      · left
        exact ⟨(T.bw u).2 (.inl h1), by omega⟩
      · right
        left
        exact (T.bx u).2 (.inl h1)
      · right
        right
        refine stable_congr h1 ?_ (fun i hiu => ?_)
        · rw [T.vs, set_getD _ _ _ _ (by rw [h.vl]; exact hv), if_neg huv]
        · rw [T.ev i]
          split
          · rename_i hiv
            exact Classical.byContradiction fun h4 => hc ⟨i, hiv, hiu, h4⟩
          · rfl
theorem pass_inv (hp : 1 ≤ p ∧ p ≤ 4) (hG : graphB (N : Int) G = true) (h : Good p N G S) (hl : Lab p S) (hi : Inv p N G S 0) : ∀ k, k ≤ N → Good p N G (pass p N G S k) ∧ Lab p (pass p N G S k) ∧ Inv p N G (pass p N G S k) k
  | 0, _ => ⟨h, hl, hi⟩
  | k + 1, hk => by
    obtain ⟨h1, h2, h3⟩ := pass_inv hp hG h hl hi k (by omega)
    unfold pass
    cases hb : bitN (pass p N G S k).nw k with
    | true =>
      rw [if_pos rfl]
      exact ⟨vstep_good hG h1 (by omega), vstep_lab hG h1 h2 (by omega), inv_step hp hG h1 h2 (by omega) h3⟩
    | false =>
      rw [if_neg (by simp)]
      refine ⟨h1, h2, fun u hu => ?_⟩
      rcases h3 u hu with ⟨h4, h5⟩ | h4
      · left
        refine ⟨h4, ?_⟩
        have : u ≠ k := fun e => by rw [e, hb] at h4; cases h4
        omega
      · exact .inr h4
theorem pass_good (hG : graphB (N : Int) G = true) (h : Good p N G S) : ∀ k, k ≤ N → Good p N G (pass p N G S k)
  | 0, _ => h
  | k + 1, hk => by
    have h1 := pass_good hG h k (by omega)
    unfold pass
    split
    · exact vstep_good hG h1 (by omega)
    · exact h1
theorem pass_noop (hs : ∀ u, u < N → Stable p G S.vs S.ev u) : ∀ k, k ≤ N → pass p N G S k = S
  | 0, _ => rfl
  | k + 1, hk => by
    have h1 := pass_noop hs k (by omega)
    unfold pass
    rw [h1]
    split
    · exact stable_noop (hs k (by omega))
    · rfl
end
end Go.Proofs.YtlhcobkncceodaaGreatDoor
namespace Go.Proofs.YtlhcobkncceodaaGreatDoor
open Go.RowKit

/-! ### marks -/
/-! ### marks in edges -/
end Go.Proofs.YtlhcobkncceodaaGreatDoor
namespace Go.Proofs.YtlhcobkncceodaaGreatDoor
open Go.RowKit

end Go.Proofs.YtlhcobkncceodaaGreatDoor
namespace Go.Proofs.YtlhcobkncceodaaGreatDoor
open Go.RowKit

/-- One more at place i. -/
def bump (l : List Int) (i : Nat) : List Int := l.set i (l.getD i 0 + 1)
def degs (key : GE → Int) (n : Nat) (es : List GE) : List Int := es.foldl (fun l e => bump l (key e).toNat) (List.replicate n 0)
def degsOf (key : GE → Int) (N : Int) (es : List GE) : List Int := if graphB N es then degs key N.toNat es else []
theorem bump_len (l : List Int) (i : Nat) : (bump l i).length = l.length := by simp [bump]
theorem degs_snoc (key : GE → Int) (n : Nat) (es : List GE) (e : GE) : degs key n (es ++ [e]) = bump (degs key n es) (key e).toNat := by simp [degs]
theorem fold_len (key : GE → Int) : ∀ (es : List GE) (l : List Int), (es.foldl (fun l e => bump l (key e).toNat) l).length = l.length
  | [], _ => rfl
  | e :: r, l => by rw [List.foldl_cons, fold_len key r, bump_len]
theorem degs_len (key : GE → Int) (n : Nat) (es : List GE) : (degs key n es).length = n := by
  unfold degs
  rw [fold_len]
  simp
theorem bump_bound {l : List Int} {i : Nat} {q : Int} (h : ∀ x ∈ l, 0 ≤ x ∧ x ≤ q) (hq : 0 ≤ q) : ∀ x ∈ bump l i, 0 ≤ x ∧ x ≤ q + 1 := by
  intro x hx
  unfold bump at hx
  rcases List.mem_or_eq_of_mem_set hx with hx | rfl
  · have := h x hx; omega
  · rw [List.getD_eq_getElem?_getD]
    cases hh : l[i]? with
    | none => simp; omega
    | some y => have := h y (List.mem_of_getElem? hh); simp; omega
theorem fold_bound (key : GE → Int) : ∀ (es : List GE) (l : List Int) (q : Int), 0 ≤ q → (∀ x ∈ l, 0 ≤ x ∧ x ≤ q) → ∀ x ∈ es.foldl (fun l e => bump l (key e).toNat) l, 0 ≤ x ∧ x ≤ q + es.length
  | [], l, q, _, h => by simpa using h
  | e :: r, l, q, hq, h => by
    intro x hx
    rw [List.foldl_cons] at hx
    have := fold_bound key r _ (q + 1) (by omega) (bump_bound h hq) x hx
    rw [List.length_cons]
    omega
theorem degs_bound (key : GE → Int) (n : Nat) (es : List GE) : ∀ x ∈ degs key n es, 0 ≤ x ∧ x ≤ es.length := by
  intro x hx
  have := fold_bound key es (List.replicate n 0) 0 (by omega) (fun y hy => by rw [List.eq_of_mem_replicate hy]; omega) x hx
  omega
theorem vi_bump (l : List Int) (i : Nat) (v : Int) : (vi l).set i (.int .i64 v) = vi (l.set i v) := by simp [vi, List.map_set]

def OwI (w : World) (lo : Nat) (A : Option Addr) (n c : Nat) (xs : List Int) : Prop := w.ownsRow lo 3 1 (.slice A n c) n (vi xs)
def MadeI (w : World) (xs : List Int) (e : Ending) (w' : World) : Prop :=
  ∃ A n c, e = .returned (.slice A n c) ∧ OwI w' w.heap.size A n c xs ∧ Below w.heap.size w w'
theorem flat_one : ∀ xs : List Int, xs.flatMap (fun x : Int => [Value.int .i64 x]) = vi xs
  | [] => rfl
  | x :: r => by rw [List.flatMap_cons, flat_one r]; rfl
theorem made_zero (M : Nat) (key : GE → Int) (es : List GE) : (madeCells (Value.int .i64 0).cells (M * 1)).toList = vi (degs key M (es.take 0)) := by
  rw [g_rep (fun x : Int => [Value.int .i64 x]) 0 1 (fun _ => rfl) (by omega) (Value.int .i64 0).cells rfl M, flat_one]
  rfl
theorem degs_at {key : GE → Int} {M : Nat} {es : List GE} {f : Nat} (hf : f < M) : ∃ x : Int, (degs key M es)[f]? = some x ∧ 0 ≤ x ∧ x ≤ es.length := by
  have hl : f < (degs key M es).length := by rw [degs_len]; exact hf
  exact ⟨(degs key M es)[f], List.getElem?_eq_getElem hl, degs_bound key M es _ (List.getElem_mem hl)⟩
theorem degs_step {key : GE → Int} {M k : Nat} {es : List GE} {e : GE} {f : Nat} {x : Int} (he : es[k]? = some e) (hk : key e = (f : Int)) (hx : (degs key M (es.take k))[f]? = some x) : vi (degs key M (es.take (k + 1))) = (vi (degs key M (es.take k))).set f (.int .i64 (x + 1)) := by
  rw [g_take es k e he, degs_snoc, hk, Int.toNat_natCast, vi_bump]
  unfold bump
  rw [List.getD_eq_getElem?_getD, hx]
  rfl

end Go.Proofs.YtlhcobkncceodaaGreatDoor
namespace Go.Proofs.YtlhcobkncceodaaGreatDoor
open Go.RowKit

def newR (N : Int) (G : List GE) (p s : Int) : RD :=
  ⟨p, s, 0, decide (N = 0), (List.range N.toNat).map (fun v : Nat => firstV p s (v : Int)), G.map (fun e => firstE p e.f e.t ((degs GE.f N.toNat G).getD e.f.toNat 0)), N, newX N true⟩
/-! ### first values -/
theorem firstV_in (p s v : Int) : 0 ≤ firstV p s v ∧ firstV p s v ≤ 1099511627776 := by
  unfold firstV
  split
  · rename_i h
    unfold vtxB at h
    simp only [Bool.and_eq_true, decide_eq_true_eq] at h
    split
    · omega
    split
    · split <;> omega
    · omega
  · omega
theorem firstV_lab (s v : Int) : 0 ≤ firstV 4 s v ∧ firstV 4 s v < 1000 := by
  unfold firstV
  split
  · rename_i h
    unfold vtxB at h
    simp only [Bool.and_eq_true, decide_eq_true_eq] at h
    simp only [show ¬ ((4 : Int) = 1) by omega, show ¬ ((4 : Int) = 3) by omega, if_false]
    omega
  · omega
theorem firstE_in (p f t d : Int) : 0 ≤ firstE p f t d ∧ firstE p f t d ≤ 1099511627776 := by
  unfold firstE
  split
  · rename_i h
    unfold firstEB vtxB at h
    simp only [Bool.and_eq_true, decide_eq_true_eq] at h
    split
    · rw [Int.tdiv_eq_ediv_of_nonneg (by omega)]
      have h1 := Int.ediv_nonneg (a := 1048576) (b := d) (by omega) (by omega)
      have h2 := Int.ediv_le_self (a := 1048576) d (by omega)
      omega
    split <;> omega
  · omega
theorem firstE_lab (f t d : Int) : 0 ≤ firstE 4 f t d ∧ firstE 4 f t d < 1000000 := by
  unfold firstE
  split
  · rename_i h
    unfold firstEB vtxB at h
    simp only [Bool.and_eq_true, decide_eq_true_eq] at h
    simp only [show ¬ ((4 : Int) = 1) by omega, if_false, if_true]
    omega
  · omega

/-! ### sets of vertices -/
theorem bit_zero (n v : Nat) : bitN (List.replicate n 0) v = false := by
  unfold bitN
  rw [List.getD_eq_getElem?_getD, List.getElem?_replicate]
  split <;> simp
theorem bit_fill {n k : Nat} (hk : k ≤ n) (u : Nat) : bitN (fillV (bytesN n) k) u = decide (u < k) := by
  induction k with
  | zero => unfold fillV; simp only [List.range_zero, List.foldl_nil]; rw [bit_zero]; simp
  | succ k ih =>
    rw [fill_step, bit_addV (by rw [fill_len]; exact lt_bytes (by omega)), ih (by omega), Bool.eq_iff_iff]
    simp
    omega
theorem newX_is {N : Nat} (hN : N ≤ 150) (all : Bool) : newX (N : Int) all = fillV (bytesN N) (if all then N else 0) := by
  unfold newX newB
  rw [if_pos (by simp; omega), Int.toNat_natCast]
theorem newX_ok {N : Nat} (hN : N ≤ 150) (all : Bool) : setB (N : Int) (newX (N : Int) all) = true := by
  rw [newX_is hN]
  exact setB_fill hN (by split <;> omega)
theorem newX_bit {N : Nat} (hN : N ≤ 150) (all : Bool) (u : Nat) : bitN (newX (N : Int) all) u = (all && decide (u < N)) := by
  rw [newX_is hN, bit_fill (by split <;> omega)]
  cases all <;> simp
theorem mems_nil {N : Nat} {ys : List Nat} (h : setB (N : Int) ys = true) : (memsB (N : Int) ys).length = 0 ↔ ∀ u, u < N → bitN ys u = false := by
  unfold memsB memsR
  rw [if_pos h, List.length_map, Int.toNat_natCast, List.length_eq_zero_iff, List.filter_eq_nil_iff]
  constructor
  · intro h1 u hu
    have := h1 u (List.mem_range.2 hu)
    simpa using this
  · intro h1 u hu
    rw [h1 u (List.mem_range.1 hu)]
    simp

/-! ### a run -/
structure RunP (N : Nat) (G : List GE) (r : RD) : Prop where
  g : graphB (N : Int) G = true
  j : jobB (N : Int) r.p r.s = true
  i : 0 ≤ r.it ∧ r.it ≤ 1000
  vl : r.vs.length = N
  el : r.ev.length = G.length
  vv : ∀ x ∈ r.vs, 0 ≤ x ∧ x ≤ 1099511627776
  ee : ∀ x ∈ r.ev, 0 ≤ x ∧ x ≤ 1099511627776
  nx : setB (N : Int) r.nx = true
  nn : r.nn = (N : Int)
  dn : r.dn = decide ((memsB (N : Int) r.nx).length = 0)
theorem vals_iff {l : List Int} : valsB l = true ↔ ∀ x ∈ l, 0 ≤ x ∧ x ≤ 1099511627776 := by
  unfold valsB valB
  rw [List.all_eq_true]
  constructor
  · intro h x hx; simpa using h x hx
  · intro h x hx; simpa using h x hx
theorem runB_iff {N : Nat} {G : List GE} {r : RD} : runB (N : Int) G r = true ↔ RunP N G r := by
  unfold runB
  simp only [Bool.and_eq_true, decide_eq_true_eq, beq_iff_eq, vals_iff]
  constructor
  · rintro ⟨h1, h2, h3, ⟨h4, h5⟩, h6, h7, h8, h9, h10⟩
    rw [h9] at h8 h10
    exact ⟨h1, h2, h3, by omega, h5, h6, h7, h8, h9, h10⟩
  · rintro ⟨h1, h2, h3, h4, h5, h6, h7, h8, h9, h10⟩
    rw [h9]
    exact ⟨h1, h2, h3, ⟨by omega, h5⟩, h6, h7, h8, rfl, h10⟩
theorem RunP.prog {N : Nat} {G : List GE} {r : RD} (h : RunP N G r) : 1 ≤ r.p ∧ r.p ≤ 4 := by
  have h1 := h.j
  unfold jobB progB at h1
  simp only [Bool.and_eq_true, decide_eq_true_eq] at h1
  exact h1.1
theorem RunP.n150 {N : Nat} {G : List GE} {r : RD} (h : RunP N G r) : N ≤ 150 := by have := graphB_iff h.g; omega
/-- The bytes of the set are bytes. -/
def SmallR (r : RD) : Prop := ∀ x ∈ r.nx, x < 256
def LabR (r : RD) : Prop := r.p = 4 → (∀ x ∈ r.vs, 0 ≤ x ∧ x < 1000) ∧ ∀ x ∈ r.ev, 0 ≤ x ∧ x < 1000000
/-- Every vertex is to be updated, or stable. -/
def Calm (N : Nat) (G : List GE) (r : RD) : Prop := ∀ u, u < N → bitN r.nx u = true ∨ Stable r.p G r.vs r.ev u
section
variable {N : Nat} {G : List GE} {r : RD}
theorem newR_ok {p s : Int} (hG : graphB (N : Int) G = true) (hj : jobB (N : Int) p s = true) : RunP N G (newR (N : Int) G p s) := by
  have hN : N ≤ 150 := by have := graphB_iff hG; omega
  refine ⟨hG, hj, by unfold newR; simp, by unfold newR; simp, by unfold newR; simp, fun x hx => ?_, fun x hx => ?_, newX_ok hN true, rfl, ?_⟩
  · obtain ⟨v, _, rfl⟩ := List.mem_map.1 hx
    exact firstV_in _ _ _
  · obtain ⟨e, _, rfl⟩ := List.mem_map.1 hx
    exact firstE_in _ _ _ _
  · show decide ((N : Int) = 0) = decide ((memsB (N : Int) (newX (N : Int) true)).length = 0)
    rw [Bool.eq_iff_iff, decide_eq_true_iff, decide_eq_true_iff, mems_nil (newX_ok hN true)]
    constructor
    · intro h u hu; omega
    · intro h
      rcases Nat.eq_zero_or_pos N with h0 | h0
      · omega
      · have := h 0 h0
        rw [newX_bit hN] at this
        simp at this
        omega
theorem newR_small (p s : Int) : SmallR (newR (N : Int) G p s) := newX_small _ _
theorem newR_lab (p s : Int) : LabR (newR (N : Int) G p s) := by
  intro hp
  have hp : p = 4 := hp
  subst hp
  refine ⟨fun x hx => ?_, fun x hx => ?_⟩
  · obtain ⟨v, _, rfl⟩ := List.mem_map.1 hx
    exact firstV_lab _ _
  · obtain ⟨e, _, rfl⟩ := List.mem_map.1 hx
    exact firstE_lab _ _ _
theorem newR_calm {p s : Int} (hG : graphB (N : Int) G = true) : Calm N G (newR (N : Int) G p s) := fun u hu => by
  left
  show bitN (newX (N : Int) true) u = true
  rw [newX_bit (by have := graphB_iff hG; omega)]
  simp [hu]
theorem start_good (h : RunP N G r) (hs : SmallR r) : Good r.p N G (startS (N : Int) r) :=
  ⟨h.vl, h.el, h.vv, h.ee, newX_ok h.n150 false, h.nx, newX_small _ _, hs⟩
theorem start_inv (h : Calm N G r) : Inv r.p N G (startS (N : Int) r) 0 := fun u hu => by
  rcases h u hu with h1 | h1
  · exact .inl ⟨h1, Nat.zero_le _⟩
  · exact .inr (.inr h1)
theorem iter_run (h : RunP N G r) (hs : SmallR r) (hi : r.it ≠ 1000) : RunP N G (iterR (N : Int) G r) ∧ SmallR (iterR (N : Int) G r) := by
  have hg := pass_good h.g (start_good h hs) N (Nat.le_refl _)
  have h1 := h.i
  refine ⟨⟨h.g, h.j, ?_, ?_, ?_, ?_, ?_, ?_, rfl, ?_⟩, ?_⟩
  · show 0 ≤ r.it + 1 ∧ r.it + 1 ≤ 1000
    omega
  · show (pass r.p (N : Int) G (startS (N : Int) r) (N : Int).toNat).vs.length = N
    rw [Int.toNat_natCast]; exact hg.vl
  · show (pass r.p (N : Int) G (startS (N : Int) r) (N : Int).toNat).ev.length = G.length
    rw [Int.toNat_natCast]; exact hg.el
  · show ∀ x ∈ (pass r.p (N : Int) G (startS (N : Int) r) (N : Int).toNat).vs, _
    rw [Int.toNat_natCast]; exact hg.vv
  · show ∀ x ∈ (pass r.p (N : Int) G (startS (N : Int) r) (N : Int).toNat).ev, _
    rw [Int.toNat_natCast]; exact hg.ee
  · show setB (N : Int) (pass r.p (N : Int) G (startS (N : Int) r) (N : Int).toNat).nx = true
    rw [Int.toNat_natCast]; exact hg.nx
  · rfl
  · show ∀ x ∈ (pass r.p (N : Int) G (startS (N : Int) r) (N : Int).toNat).nx, x < 256
    rw [Int.toNat_natCast]; exact hg.nxs
theorem iter_calm (h : RunP N G r) (hs : SmallR r) (hl : LabR r) (hc : Calm N G r) : Calm N G (iterR (N : Int) G r) ∧ LabR (iterR (N : Int) G r) := by
  obtain ⟨_, h2, h3⟩ := pass_inv h.prog h.g (start_good h hs) hl (start_inv hc) N (Nat.le_refl _)
  constructor
  · intro u hu
    show bitN (pass r.p (N : Int) G (startS (N : Int) r) (N : Int).toNat).nx u = true ∨ Stable r.p G (pass r.p (N : Int) G (startS (N : Int) r) (N : Int).toNat).vs (pass r.p (N : Int) G (startS (N : Int) r) (N : Int).toNat).ev u
    rw [Int.toNat_natCast]
    rcases h3 u hu with ⟨_, h4⟩ | h4
    · omega
    · exact h4
  · intro hp
    have := h2 hp
    show (∀ x ∈ (pass r.p (N : Int) G (startS (N : Int) r) (N : Int).toNat).vs, _) ∧ ∀ x ∈ (pass r.p (N : Int) G (startS (N : Int) r) (N : Int).toNat).ev, _
    rw [Int.toNat_natCast]
    exact this
theorem iterB_iff : iterB (N : Int) G r = true ↔ RunP N G r ∧ r.dn = false ∧ r.it ≠ 1000 := by
  unfold iterB
  rw [Bool.and_eq_true, Bool.and_eq_true, runB_iff, decide_eq_true_iff]
  simp
theorem all_run : ∀ (k : Nat) (r : RD), RunP N G r → SmallR r → RunP N G (allR (N : Int) G r k) ∧ SmallR (allR (N : Int) G r k)
  | 0, _, h, hs => ⟨h, hs⟩
  | k + 1, r, h, hs => by
    unfold allR
    cases hb : iterB (N : Int) G r with
    | true =>
      obtain ⟨h1, h2⟩ := iter_run h hs (iterB_iff.1 hb).2.2
      simpa using all_run k _ h1 h2
    | false => simpa using ⟨h, hs⟩
theorem all_calm : ∀ (k : Nat) (r : RD), RunP N G r → SmallR r → LabR r → Calm N G r → Calm N G (allR (N : Int) G r k) ∧ LabR (allR (N : Int) G r k)
  | 0, _, _, _, hl, hc => ⟨hc, hl⟩
  | k + 1, r, h, hs, hl, hc => by
    unfold allR
    cases hb : iterB (N : Int) G r with
    | true =>
      obtain ⟨h1, h2⟩ := iter_run h hs (iterB_iff.1 hb).2.2
      obtain ⟨h3, h4⟩ := iter_calm h hs hl hc
      simpa using all_calm k _ h1 h2 h4 h3
    | false => simpa using ⟨hc, hl⟩
theorem all_stop (N : Int) (G : List GE) {r : RD} (h : iterB N G r = false) : ∀ k, allR N G r k = r
  | 0 => rfl
  | k + 1 => by unfold allR; rw [h]; rfl
/-- In two parts, or at once. -/
theorem all_add (N : Int) (G : List GE) (b : Nat) : ∀ (a : Nat) (r : RD), allR N G r (a + b) = allR N G (allR N G r a) b
  | 0, r => by rw [Nat.zero_add]; rfl
  | a + 1, r => by
    rw [show a + 1 + b = (a + b) + 1 by omega]
    cases h : iterB N G r with
    | true =>
      have e1 : ∀ k, allR N G r (k + 1) = allR N G (iterR N G r) k := fun k => by conv => lhs; unfold allR; rw [h, if_pos rfl]
      rw [e1, e1]
      exact all_add N G b a _
    | false => rw [all_stop N G h, all_stop N G h, all_stop N G h]
/-- A run that is not done has gone on as often as it was asked. -/
theorem all_it : ∀ (k : Nat) (r : RD), RunP N G r → SmallR r → r.it + k ≤ 1000 → (allR (N : Int) G r k).dn = false → (allR (N : Int) G r k).it = r.it + k
  | 0, r, _, _, _, _ => by simp [allR]
  | k + 1, r, h, hs, hk, hd => by
    cases hb : iterB (N : Int) G r with
    | true =>
      have e1 : allR (N : Int) G r (k + 1) = allR (N : Int) G (iterR (N : Int) G r) k := by conv => lhs; unfold allR; rw [hb, if_pos rfl]
      obtain ⟨h1, h2⟩ := iter_run h hs (iterB_iff.1 hb).2.2
      rw [e1] at hd ⊢
      have h3 := all_it k (iterR (N : Int) G r) h1 h2 (by show r.it + 1 + k ≤ 1000; omega) hd
      rw [h3]
      show r.it + 1 + k = _
      omega
    | false =>
      rw [all_stop (N : Int) G hb] at hd
      have : iterB (N : Int) G r = true := iterB_iff.2 ⟨h, hd, by omega⟩
      rw [hb] at this
      cases this
theorem all_it_le (N : Int) (G : List GE) : ∀ (k : Nat) (r : RD), (allR N G r k).it ≤ r.it + k
  | 0, r => by simp [allR]
  | k + 1, r => by
    unfold allR
    split
    · have := all_it_le N G k (iterR N G r)
      have e : (iterR N G r).it = r.it + 1 := rfl
      omega
    · omega
/-- A finished run does not change if all vertices are updated again. -/
theorem fix_with (h : RunP N G r) (hN : 0 < N) (hc : Calm N G r) (hd : r.dn = true) (hi : r.it ≠ 1000) (Z : List Nat) (hZ : setB (N : Int) Z = true) (hb : ∀ u, u < N → bitN Z u = true) :
    iterB (N : Int) G ⟨r.p, r.s, r.it, false, r.vs, r.ev, (N : Int), Z⟩ = true ∧ (iterR (N : Int) G ⟨r.p, r.s, r.it, false, r.vs, r.ev, (N : Int), Z⟩).dn = true ∧ (iterR (N : Int) G ⟨r.p, r.s, r.it, false, r.vs, r.ev, (N : Int), Z⟩).vs = r.vs ∧ (iterR (N : Int) G ⟨r.p, r.s, r.it, false, r.vs, r.ev, (N : Int), Z⟩).ev = r.ev := by
  have hno : ∀ u, u < N → bitN r.nx u = false := (mems_nil h.nx).1 (by have := h.dn; rw [hd] at this; exact of_decide_eq_true this.symm)
  have hst : ∀ u, u < N → Stable r.p G r.vs r.ev u := fun u hu => by
    rcases hc u hu with h1 | h1
    · rw [hno u hu] at h1; cases h1
    · exact h1
  have hE := newX_ok h.n150 false
  have hEb := fun u => newX_bit h.n150 false u
  have hp : pass r.p (N : Int) G ⟨r.vs, r.ev, newX (N : Int) false, Z⟩ (N : Int).toNat = ⟨r.vs, r.ev, newX (N : Int) false, Z⟩ := by
    rw [Int.toNat_natCast]
    exact pass_noop (p := r.p) (N := N) (G := G) (S := ⟨r.vs, r.ev, newX (N : Int) false, Z⟩) (fun u hu => hst u hu) N (Nat.le_refl _)
  have hs : startS (N : Int) ⟨r.p, r.s, r.it, false, r.vs, r.ev, (N : Int), Z⟩ = ⟨r.vs, r.ev, newX (N : Int) false, Z⟩ := rfl
  generalize newX (N : Int) false = E at hE hEb hp hs
  have e : iterR (N : Int) G ⟨r.p, r.s, r.it, false, r.vs, r.ev, (N : Int), Z⟩ = ⟨r.p, r.s, r.it + 1, decide ((memsB (N : Int) E).length = 0), r.vs, r.ev, (N : Int), E⟩ := by
    unfold iterR
    simp only
    rw [hs, hp]
  refine ⟨iterB_iff.2 ⟨⟨h.g, h.j, h.i, h.vl, h.el, h.vv, h.ee, hZ, rfl, ?_⟩, rfl, hi⟩, ?_, ?_, ?_⟩
  · show false = decide _
    rw [Eq.comm, decide_eq_false_iff_not, mems_nil hZ]
    intro h1
    have := h1 0 hN
    rw [hb 0 hN] at this
    cases this
  · rw [e]
    show decide _ = true
    rw [decide_eq_true_iff, mems_nil hE]
    intro u hu
    rw [hEb]
    rfl
  · rw [e]
  · rw [e]
end
end Go.Proofs.YtlhcobkncceodaaGreatDoor
namespace Go.Proofs.YtlhcobkncceodaaGreatDoor
open Go.RowKit
set_option linter.unusedVariables false

def noRun : RD := ⟨0, 0, 0, false, [], [], 0, []⟩
def iterO (N : Int) (G : List GE) (r : RD) : RD := if iterB N G r then iterR N G r else noRun
def allO (N : Int) (G : List GE) (r : RD) (k : Nat) : RD := if runB N G r then allR N G r k else noRun
/-- A new run, and a truth value. -/
def MadeRB (w : World) (r : RD) (b : Bool) (e : Ending) (w' : World) : Prop :=
  ∃ A c B d C k, e = .returned (.tuple #[.agg #[.int .i64 r.p, .int .i64 r.s, .int .i64 r.it, .bool r.dn, .slice A r.vs.length c, .slice B r.ev.length d, .int .i64 r.nn, .slice C r.nx.length k], .bool b]) ∧ Rows3 w' w.heap.size A r.vs.length c B r.ev.length d C r.nx.length k r.vs r.ev r.nx ∧ Below w.heap.size w w'
theorem nil_rows (w : World) (lo : Nat) : Rows3 w lo none 0 0 none 0 0 none 0 0 [] [] [] := ⟨World.ownsRow_nil _ _ _ _, World.ownsRow_nil _ _ _ _, ⟨rfl, .inl ⟨rfl, rfl⟩⟩, .inl rfl⟩
theorem MadeRB.no {w w' : World} (h : Below w.heap.size w w') : MadeRB w noRun false (.returned (.tuple #[.agg #[.int .i64 0, .int .i64 0, .int .i64 0, .bool false, .slice none 0 0, .slice none 0 0, .int .i64 0, .slice none 0 0], .bool false])) w' := ⟨none, 0, none, 0, none, 0, rfl, nil_rows _ _, h⟩
/-- A new run. -/
def MadeRO (w : World) (r : RD) (e : Ending) (w' : World) : Prop :=
  ∃ A c B d C k, e = .returned (.agg #[.int .i64 r.p, .int .i64 r.s, .int .i64 r.it, .bool r.dn, .slice A r.vs.length c, .slice B r.ev.length d, .int .i64 r.nn, .slice C r.nx.length k]) ∧ Rows3 w' w.heap.size A r.vs.length c B r.ev.length d C r.nx.length k r.vs r.ev r.nx ∧ Below w.heap.size w w'
theorem MadeRO.no {w w' : World} (h : Below w.heap.size w w') : MadeRO w noRun (.returned (.agg #[.int .i64 0, .int .i64 0, .int .i64 0, .bool false, .slice none 0 0, .slice none 0 0, .int .i64 0, .slice none 0 0])) w' := ⟨none, 0, none, 0, none, 0, rfl, nil_rows _ _, h⟩
theorem iterB_no {N : Int} {G : List GE} {r : RD} (h : runB N G r = false) : iterB N G r = false := by unfold iterB; rw [h]; rfl
theorem iterB_over {N : Int} {G : List GE} {r : RD} (h : runB N G r = true) : iterB N G r = !(r.dn || decide (r.it = 1000)) := by
  unfold iterB
  rw [h]
  cases r.dn <;> simp
/-! ### as often as asked -/
theorem run_step {N : Nat} {G : List GE} {r : RD} (hr : RunP N G r) (hs : SmallR r) (q : Nat) : allR (N : Int) G r (q + 1) = if (allR (N : Int) G r q).dn || decide ((allR (N : Int) G r q).it = 1000) then allR (N : Int) G r q else iterR (N : Int) G (allR (N : Int) G r q) := by
  rw [all_add (N : Int) G 1 q r]
  have h1 := (all_run q r hr hs).1
  have h2 := iterB_over (runB_iff.2 h1)
  show (if iterB (N : Int) G (allR (N : Int) G r q) then allR (N : Int) G (iterR (N : Int) G (allR (N : Int) G r q)) 0 else allR (N : Int) G r q) = _
  rw [h2]
  cases (allR (N : Int) G r q).dn || decide ((allR (N : Int) G r q).it = 1000) <;> simp [allR]
theorem run_over {N : Nat} {G : List GE} {r : RD} (hr : RunP N G r) (hs : SmallR r) {q k : Nat} (hq : q ≤ k) (ho : ((allR (N : Int) G r q).dn || decide ((allR (N : Int) G r q).it = 1000)) = true) : allR (N : Int) G r k = allR (N : Int) G r q := by
  obtain ⟨z, rfl⟩ : ∃ z, k = q + z := ⟨k - q, by omega⟩
  rw [all_add (N : Int) G z q r]
  refine all_stop (N : Int) G ?_ z
  rw [iterB_over (runB_iff.2 (all_run q r hr hs).1), ho]
  rfl
theorem run_count {N : Nat} {G : List GE} {r : RD} (hr : RunP N G r) (hs : SmallR r) : ∀ q : Nat, (∀ z, z < q → ((allR (N : Int) G r z).dn || decide ((allR (N : Int) G r z).it = 1000)) = false) → (allR (N : Int) G r q).it = r.it + q
  | 0, _ => by simp [allR]
  | q + 1, h => by
    rw [run_step hr hs q, h q (by omega)]
    simp only [Bool.false_eq_true, if_false]
    show (allR (N : Int) G r q).it + 1 = _
    rw [run_count hr hs q (fun z hz => h z (by omega))]
    omega
end Go.Proofs.YtlhcobkncceodaaGreatDoor
namespace Go.Proofs.YtlhcobkncceodaaGreatDoor
open Go.RowKit

theorem lab_reads (w : World) (u : Value) (t : TypeId) (g : Nat) (hg : g = w.heap.size) : Reads (w.alloc (.cells #[u] t)) (g + 1) 1 (some ⟨g, 0, none⟩) 1 [u] := by
  subst hg
  refine ⟨rfl, fun _ => ⟨_, rfl, by simp, fun j x hj => ?_⟩⟩
  match j, hj with
  | 0, hj => simp at hj; subst hj; simp [Addr.add]
theorem lab_built (w : World) : (w.alloc (.cells #[] 3)).ownsRow w.heap.size 3 1 (.slice (some ⟨w.heap.size, 0, none⟩) 0 0) 0 [] :=
  World.ownsRow_lit w #[] 0 (Nat.le_refl _) (by unfold maxLen; omega) rfl
theorem lab_form {w : World} {base e size n : Nat} {v : Value} {xs : List Value} (h : w.ownsRow base e size v n xs) : ∃ A c, v = .slice A n c := by
  rcases h.2 with ⟨rfl, rfl⟩ | ⟨g, cap, _, rfl, _⟩
  · exact ⟨_, _, rfl⟩
  · exact ⟨_, _, rfl⟩
theorem lab_one (x : Int) : ∀ u ∈ [Value.int .i64 x], u.oneCell' = true := by
  intro u hu
  simp at hu
  subst hu
  rfl
theorem lab_snoc (xs : List Int) (x : Int) : vi (xs ++ [x]) = vi xs ++ [.int .i64 x] := by rw [vi_append]; rfl
theorem lab_ne {w : World} {lo e size n b : Nat} {v : Value} {xs : List Value} (h : w.ownsRow lo e size v n xs) (hb : w.heap.size ≤ b) : v.ownBlock ≠ some b := fun e => by have := (h.lt b e).2; omega
theorem lab_below {w W W' : World} {lo e size n : Nat} {v : Value} {xs : List Value} (hb : Below lo w W) (ho : W.ownsRow lo e size v n xs) (hs : lo ≤ W.heap.size) (hg : W.grownBy W' v.ownBlock) : Below lo w W' :=
  hb.grown hg hs (fun k hk => (ho.lt k hk).1)
/-- New numbers. -/
def MadeZ (w : World) (xs : List Int) (e : Ending) (w' : World) : Prop :=
  ∃ A c, e = .returned (.slice A xs.length c) ∧ w'.ownsRow w.heap.size 3 1 (.slice A xs.length c) xs.length (vi xs) ∧ Below w.heap.size w w'
end Go.Proofs.YtlhcobkncceodaaGreatDoor
namespace Go.Proofs.YtlhcobkncceodaaGreatDoor
open Go.RowKit
set_option linter.unusedVariables false

def zI (l : List Nat) : List Int := l.map fun i : Nat => (i : Int)
theorem zI_snoc (l : List Nat) (k : Nat) : vi (zI (l ++ [k])) = vi (zI l) ++ [.int .i64 (k : Int)] := by unfold zI vi; simp
theorem zI_get {l : List Nat} {i k : Nat} (h : l[i]? = some k) : (zI l)[i]? = some (k : Int) := by unfold zI; rw [List.getElem?_map, h]; rfl
theorem vw_reads (w : World) (e : VE) (t : TypeId) (g : Nat) (hg : g = w.heap.size) : Reads (w.alloc (.cells #[.bool e.i, .bool e.o, .int .i64 e.w, .int .i64 e.v] t)) (g + 1) 4 (some ⟨g, 0, none⟩) 1 (VE.cells e) := by
  subst hg
  refine ⟨rfl, fun _ => ⟨_, rfl, by simp, fun j v hj => ?_⟩⟩
  match j, hj with
  | 0, hj => simp [VE.cells] at hj; subst hj; simp [Addr.add]
  | 1, hj => simp [VE.cells] at hj; subst hj; simp [Addr.add]
  | 2, hj => simp [VE.cells] at hj; subst hj; simp [Addr.add]
  | 3, hj => simp [VE.cells] at hj; subst hj; simp [Addr.add]
/-- New views, and new places. -/
def MadeVI (w : World) (es : List VE) (is : List Nat) (e : Ending) (w' : World) : Prop :=
  ∃ A c A' c', e = .returned (.tuple #[.slice A is.length c, .slice A' is.length c']) ∧ w'.ownsRow w.heap.size 93 4 (.slice A is.length c) is.length (es.flatMap VE.cells) ∧ w'.ownsRow w.heap.size 3 1 (.slice A' is.length c') is.length (vi (zI is)) ∧ Below w.heap.size w w'
/-- While they are gathered. -/
structure VSt (w wr : World) (A1 : Option Addr) (c1 : Nat) (A2 : Option Addr) (c2 : Nat) (es : List VE) (is : List Nat) : Prop where
  v : wr.ownsRow w.heap.size 93 4 (.slice A1 is.length c1) is.length (es.flatMap VE.cells)
  i : wr.ownsRow w.heap.size 3 1 (.slice A2 is.length c2) is.length (vi (zI is))
  h : Below w.heap.size w wr
section
variable {w wr w5 : World} {A1 A2 : Option Addr} {c1 c2 : Nat} {es : List VE} {is : List Nat}
theorem VSt.below (h : VSt w wr A1 c1 A2 c2 es is) (hb : Below wr.heap.size wr w5) : VSt w w5 A1 c1 A2 c2 es is := ⟨own_below h.v hb, own_below h.i hb, g_chain h.h hb⟩
theorem VSt.alloc (h : VSt w wr A1 c1 A2 c2 es is) (o : Obj) : VSt w (wr.alloc o) A1 c1 A2 c2 es is := h.below (below_a1 wr o)
theorem VSt.drewN (h : VSt w wr A1 c1 A2 c2 es is) (q : Nat) : VSt w (wr.drewN q) A1 c1 A2 c2 es is := ⟨own_drewN h.v q, own_drewN h.i q, below_drewN h.h q⟩
theorem VSt.drew (h : VSt w wr A1 c1 A2 c2 es is) : VSt w wr.drew A1 c1 A2 c2 es is := ⟨h.v, h.i, h.h.drew⟩
/-- A view is appended. -/
theorem VSt.gotV (h : VSt w wr A1 c1 A2 c2 es is) {o : Obj} {e : VE} {P : Option Addr} {cp : Nat} (hg : (wr.alloc o).grownBy w5 (Value.slice A1 is.length c1).ownBlock) (ho : w5.ownsRow w.heap.size 93 4 (.slice P (is.length + 1) cp) (is.length + 1) (es.flatMap VE.cells ++ e.cells)) :
    w5.ownsRow w.heap.size 93 4 (.slice P (is.length + 1) cp) (is.length + 1) ((es ++ [e]).flatMap VE.cells) ∧ w5.ownsRow w.heap.size 3 1 (.slice A2 is.length c2) is.length (vi (zI is)) ∧ Below w.heap.size w w5 := by
  have ha := h.alloc o
  refine ⟨by rw [flat_snoc]; exact ho, ha.i.kept hg ((own_types ha.i ha.v (by decide)).imp id fun h e => h e.symm), ha.h.grown hg ha.h.size (fun k hk => (ha.v.lt k hk).1)⟩
/-- And its place. -/
theorem VSt.gotI {lv : Nat} {fs : List VE} (hv : wr.ownsRow w.heap.size 93 4 (.slice A1 lv c1) lv (fs.flatMap VE.cells)) (hi : wr.ownsRow w.heap.size 3 1 (.slice A2 is.length c2) is.length (vi (zI is))) (hb : Below w.heap.size w wr) (hl : lv = is.length + 1) {o : Obj} {k : Nat} {P : Option Addr} {cp : Nat} (hg : (wr.alloc o).grownBy w5 (Value.slice A2 is.length c2).ownBlock) (ho : w5.ownsRow w.heap.size 3 1 (.slice P (is.length + 1) cp) (is.length + 1) (vi (zI is) ++ [.int .i64 (k : Int)])) :
    VSt w w5 A1 c1 P cp fs (is ++ [k]) := by
  have hv1 := own_below hv (below_a1 wr o)
  have hi1 := own_below hi (below_a1 wr o)
  have hb1 := g_chain hb (below_a1 wr o)
  subst hl
  refine ⟨?_, ?_, hb1.grown hg hb1.size (fun q hq => (hi1.lt q hq).1)⟩
  · rw [List.length_append]; exact hv1.kept hg ((own_types hv1 hi1 (by decide)).imp id fun h e => h e.symm)
  · rw [List.length_append, zI_snoc]; exact ho
end
theorem idx_yes {G : List GE} {v : Int} {k : Nat} {e : GE} (he : G[k]? = some e) (h : e.f = v ∨ e.t = v) : idxT G v (k + 1) = idxT G v k ++ [k] := by
  rw [idx_step, if_pos]
  unfold incB edgeAt
  rw [List.getD_eq_getElem?_getD, he]
  simpa using h
theorem idx_no {G : List GE} {v : Int} {k : Nat} {e : GE} (he : G[k]? = some e) (h1 : e.f ≠ v) (h2 : e.t ≠ v) : idxT G v (k + 1) = idxT G v k := by
  rw [idx_step, if_neg]
  unfold incB edgeAt
  rw [List.getD_eq_getElem?_getD, he]
  simp [h1, h2]
theorem viewAt_is {G : List GE} {E : List Int} {v : Int} {k : Nat} {e : GE} {x : Int} (he : G[k]? = some e) (hx : E[k]? = some x) : viewAt G E v k = ⟨decide (e.t = v), decide (e.f = v), e.w, x⟩ := by
  unfold viewAt viewE edgeAt
  rw [List.getD_eq_getElem?_getD, he, List.getD_eq_getElem?_getD, hx]
  rfl
end Go.Proofs.YtlhcobkncceodaaGreatDoor
namespace Go.Proofs.YtlhcobkncceodaaGreatDoor
open Go.RowKit

/-- Nothing is written but in blocks of S, and new ones. -/
structure OnlyB (S : Nat → Prop) (w w' : World) : Prop where
  os : w'.os = w.os
  tape : w'.tape = w.tape
  output : w'.output = w.output
  size : w.heap.size ≤ w'.heap.size
  block : ∀ k, k < w.heap.size → ¬ S k → w'.heap[k]? = w.heap[k]?
theorem OnlyB.refl (S : Nat → Prop) (w : World) : OnlyB S w w := ⟨rfl, rfl, rfl, Nat.le_refl _, fun _ _ _ => rfl⟩
theorem OnlyB.trans {S : Nat → Prop} {a b c : World} (h : OnlyB S a b) (k : OnlyB S b c) : OnlyB S a c :=
  ⟨k.os.trans h.os, k.tape.trans h.tape, k.output.trans h.output, Nat.le_trans h.size k.size, fun i hi hn => (k.block i (Nat.lt_of_lt_of_le hi h.size) hn).trans (h.block i hi hn)⟩
theorem OnlyB.grown {S : Nat → Prop} {a b c : World} {row : Option Nat} (h : OnlyB S a b) (k : b.grownBy c row) (hr : ∀ i, row = some i → S i) : OnlyB S a c :=
  h.trans ⟨k.os, k.tape, k.output, k.size, fun i hi hn => k.block i hi (fun e => hn (hr i e.symm))⟩
theorem OnlyB.below {S : Nat → Prop} {a b c : World} (h : OnlyB S a b) (k : Below b.heap.size b c) : OnlyB S a c :=
  h.trans ⟨k.os, k.tape, k.output, k.size, fun i hi _ => k.block i hi⟩
theorem OnlyB.mono {S T : Nat → Prop} {a b : World} (h : OnlyB S a b) (hs : ∀ i, S i → T i) : OnlyB T a b :=
  ⟨h.os, h.tape, h.output, h.size, fun i hi hn => h.block i hi (fun e => hn (hs i e))⟩
theorem OnlyB.own {S : Nat → Prop} {w w' : World} {lo e size n : Nat} {v : Value} {xs : List Value} (h : w.ownsRow lo e size v n xs) (k : OnlyB S w w') (hs : ∀ g, v.ownBlock = some g → ¬ S g) : w'.ownsRow lo e size v n xs := by
  refine ⟨h.1, ?_⟩
  rcases h.2 with hn | ⟨g, cap, cur, rfl, hb, hgg, rest⟩
  · exact .inl hn
  · refine .inr ⟨g, cap, cur, rfl, hb, ?_, rest⟩
    rw [k.block g (Array.getElem?_eq_some_iff.1 hgg).1 (hs g rfl)]
    exact hgg
theorem OnlyB.grown2 {S : Nat → Prop} {a b c : World} {row : Option Nat} (h : OnlyB S a b) (k : b.grownBy c row) (hr : ∀ i, row = some i → S i ∨ a.heap.size ≤ i) : OnlyB S a c :=
  ⟨k.os.trans h.os, k.tape.trans h.tape, k.output.trans h.output, Nat.le_trans h.size k.size, fun i hi hn => (k.block i (Nat.lt_of_lt_of_le hi h.size) (fun e => by
    rcases hr i e.symm with h1 | h1
    · exact hn h1
    · omega)).trans (h.block i hi hn)⟩
end Go.Proofs.YtlhcobkncceodaaGreatDoor
namespace Go.Proofs.YtlhcobkncceodaaGreatDoor
open Go.RowKit
set_option linter.unusedVariables false

/-- The blocks that an update writes. -/
def updBlk (A : Option Addr) (n c : Nat) (B : Option Addr) (m d : Nat) (C : Option Addr) (j k : Nat) (D : Option Addr) (q e : Nat) (g : Nat) : Prop := (Value.slice A n c).ownBlock = some g ∨ (Value.slice B m d).ownBlock = some g ∨ (Value.slice C j k).ownBlock = some g ∨ (Value.slice D q e).ownBlock = some g
structure USt (w0 w : World) (b : Nat) (p s it : Int) (dn : Bool) (A : Option Addr) (n c : Nat) (B : Option Addr) (m d : Nat) (nn : Int) (C : Option Addr) (j k : Nat) (D : Option Addr) (q e : Nat) (vs ev : List Int) (nx nw : List Nat) : Prop where
  r : RSt w w0.heap.size b p s it dn A n c B m d nn C j k vs ev nx
  d : w.ownsRow w0.heap.size 5 1 (.slice D q e) q (vb nw)
  ap : (Value.slice C j k).ownBlock = none ∨ (Value.slice D q e).ownBlock ≠ (Value.slice C j k).ownBlock
  h : Below w0.heap.size w0 w
theorem ap_flip {a b : Option Nat} (h : a = none ∨ b ≠ a) : b = none ∨ b ≠ a := by
  rcases h with h | h
  · cases b with
    | none => exact .inl rfl
    | some x => exact .inr (by rw [h]; simp)
  · exact .inr h
theorem ap_turn {a b : Option Nat} (h : a = none ∨ b ≠ a) : a = none ∨ a ≠ b := h.imp id fun h e => h e.symm
section
variable {w0 w w' : World} {b n c m d j k q e : Nat} {p s it nn : Int} {dn : Bool} {A B C D : Option Addr} {vs ev : List Int} {nx nw : List Nat}
theorem USt.below (h : USt w0 w b p s it dn A n c B m d nn C j k D q e vs ev nx nw) (hb : Below w.heap.size w w') : USt w0 w' b p s it dn A n c B m d nn C j k D q e vs ev nx nw :=
  ⟨h.r.below hb, own_below h.d hb, h.ap, g_chain h.h hb⟩
theorem USt.drewN (h : USt w0 w b p s it dn A n c B m d nn C j k D q e vs ev nx nw) (z : Nat) : USt w0 (w.drewN z) b p s it dn A n c B m d nn C j k D q e vs ev nx nw :=
  h.below (below_drewN (Below.refl _ _) z)
/-- The present set is marked. -/
theorem USt.gotD (h : USt w0 w b p s it dn A n c B m d nn C j k D q e vs ev nx nw) {zs : List Nat} (ho : w'.ownsRow w0.heap.size 5 1 (.slice D q e) q (vb zs)) (hg : w.grownBy w' (Value.slice D q e).ownBlock) : USt w0 w' b p s it dn A n c B m d nn C j k D q e vs ev nx zs :=
  ⟨⟨h.r.bx.grown hg (own_kind h.d h.r.bx (by decide)), h.r.v.kept hg (ap_turn (own_types h.r.v h.d (by decide))), h.r.e.kept hg (ap_turn (own_types h.r.e h.d (by decide))), h.r.x.kept hg (ap_turn h.ap), h.r.ap, h.r.lb⟩, ho, h.ap, h.h.grown hg h.h.size (fun i hi => (h.d.lt i hi).1)⟩
/-- The next set is marked. -/
theorem USt.gotX (h : USt w0 w b p s it dn A n c B m d nn C j k D q e vs ev nx nw) {zs : List Nat} (ho : w'.ownsRow w0.heap.size 5 1 (.slice C j k) j (vb zs)) (hg : w.grownBy w' (Value.slice C j k).ownBlock) : USt w0 w' b p s it dn A n c B m d nn C j k D q e vs ev zs nw :=
  ⟨⟨h.r.bx.grown hg (own_kind h.r.x h.r.bx (by decide)), h.r.v.kept hg (ap_turn (own_types h.r.v h.r.x (by decide))), h.r.e.kept hg (ap_turn (own_types h.r.e h.r.x (by decide))), ho, h.r.ap, h.r.lb⟩, h.d.kept hg (ap_flip h.ap), h.ap, h.h.grown hg h.h.size (fun i hi => (h.r.x.lt i hi).1)⟩
end
section
variable {w0 w w' : World} {b n c m d j k q e g : Nat} {p s it nn : Int} {dn : Bool} {A B C D : Option Addr} {vs ev : List Int} {nx nw : List Nat}
theorem vi_set (l : List Int) (i : Nat) (x : Int) : (vi l).set i (.int .i64 x) = vi (l.set i x) := by simp [vi, List.map_set]
/-- A value is stored. -/
theorem USt.gotV (h : USt w0 w b p s it dn (some ⟨g, 0, none⟩) n c B m d nn C j k D q e vs ev nx nw) (i : Nat) (x : Int) : USt w0 (w.setCell ⟨g, i, none⟩ (.int .i64 x)) b p s it dn (some ⟨g, 0, none⟩) n c B m d nn C j k D q e (vs.set i x) ev nx nw := by
  have hs := h.r.v.stored i (.int .i64 x)
  rw [vi_set] at hs
  have hg : w.grownBy (w.setCell ⟨g, i, none⟩ (.int .i64 x)) (Value.slice (some ⟨g, 0, none⟩) n c).ownBlock := hs.2
  exact ⟨⟨h.r.bx.grown hg (own_kind h.r.v h.r.bx (by decide)), hs.1, h.r.e.kept hg (ap_flip h.r.ap), h.r.x.kept hg (ap_turn (own_types h.r.x h.r.v (by decide))), h.r.ap, h.r.lb⟩, h.d.kept hg (ap_turn (own_types h.d h.r.v (by decide))), h.ap, h.h.grown hg h.h.size (fun z hz => (h.r.v.lt z hz).1)⟩
/-- The value of an edge is stored. -/
theorem USt.gotE (h : USt w0 w b p s it dn A n c (some ⟨g, 0, none⟩) m d nn C j k D q e vs ev nx nw) (i : Nat) (x : Int) : USt w0 (w.setCell ⟨g, i, none⟩ (.int .i64 x)) b p s it dn A n c (some ⟨g, 0, none⟩) m d nn C j k D q e vs (ev.set i x) nx nw := by
  have hs := h.r.e.stored i (.int .i64 x)
  rw [vi_set] at hs
  have hg : w.grownBy (w.setCell ⟨g, i, none⟩ (.int .i64 x)) (Value.slice (some ⟨g, 0, none⟩) m d).ownBlock := hs.2
  exact ⟨⟨h.r.bx.grown hg (own_kind h.r.e h.r.bx (by decide)), h.r.v.kept hg (ap_turn h.r.ap), hs.1, h.r.x.kept hg (ap_turn (own_types h.r.x h.r.e (by decide))), h.r.ap, h.r.lb⟩, h.d.kept hg (ap_turn (own_types h.d h.r.e (by decide))), h.ap, h.h.grown hg h.h.size (fun z hz => (h.r.e.lt z hz).1)⟩
end
section
variable {w0 w w' : World} {b n c m d j k q e g : Nat} {p s it nn : Int} {dn : Bool} {A B C D : Option Addr} {vs ev : List Int} {nx nw : List Nat}
theorem USt.olds (h : USt w0 w b p s it dn A n c B m d nn C j k D q e vs ev nx nw) : (∀ g, (Value.slice A n c).ownBlock = some g → g < w.heap.size) ∧ (∀ g, (Value.slice B m d).ownBlock = some g → g < w.heap.size) ∧ (∀ g, (Value.slice C j k).ownBlock = some g → g < w.heap.size) ∧ ∀ g, (Value.slice D q e).ownBlock = some g → g < w.heap.size :=
  ⟨fun g hg => (h.r.v.lt g hg).2, fun g hg => (h.r.e.lt g hg).2, fun g hg => (h.r.x.lt g hg).2, fun g hg => (h.d.lt g hg).2⟩
end
/-- What else the update of a vertex holds: its boxes, the views, their places, the new values of the edges; all of it at L and above. -/
structure UAux (L : Nat) (w : World) (b1 b2 : Nat) (g1 g2 : Array Value) (t1 t2 : TypeId) (A1 : Option Addr) (c1 : Nat) (A2 : Option Addr) (c2 : Nat) (A3 : Option Addr) (c3 : Nat) (es : List VE) (is : List Nat) (ys : List Int) : Prop where
  bg : Blk w b1 g1 t1
  bn : Blk w b2 g2 t2
  l1 : L ≤ b1
  l2 : L ≤ b2
  ov : w.ownsRow L 93 4 (.slice A1 is.length c1) is.length (es.flatMap VE.cells)
  oi : w.ownsRow L 3 1 (.slice A2 is.length c2) is.length (vi (zI is))
  oy : w.ownsRow L 3 1 (.slice A3 is.length c3) is.length (vi ys)
section
variable {L : Nat} {w w' : World} {b1 b2 : Nat} {g1 g2 : Array Value} {t1 t2 : TypeId} {A1 A2 A3 : Option Addr} {c1 c2 c3 : Nat} {es : List VE} {is : List Nat} {ys : List Int}
theorem UAux.below (h : UAux L w b1 b2 g1 g2 t1 t2 A1 c1 A2 c2 A3 c3 es is ys) (hb : Below w.heap.size w w') : UAux L w' b1 b2 g1 g2 t1 t2 A1 c1 A2 c2 A3 c3 es is ys :=
  ⟨h.bg.below hb, h.bn.below hb, h.l1, h.l2, own_below h.ov hb, own_below h.oi hb, own_below h.oy hb⟩
theorem UAux.drewN (h : UAux L w b1 b2 g1 g2 t1 t2 A1 c1 A2 c2 A3 c3 es is ys) (z : Nat) : UAux L (w.drewN z) b1 b2 g1 g2 t1 t2 A1 c1 A2 c2 A3 c3 es is ys := h.below (below_drewN (Below.refl _ _) z)
theorem own_late {w w' : World} {L e s n g : Nat} {v : Value} {xs : List Value} (h : w.ownsRow L e s v n xs) {row : Option Nat} (hg : w.grownBy w' row) (hr : ∀ g, row = some g → g < L) : w'.ownsRow L e s v n xs :=
  h.kept hg (by
    cases hv : v.ownBlock with
    | none => exact .inl rfl
    | some x => exact .inr (fun e => by have := (h.lt x hv).1; have := hr x e.symm; omega))
theorem UAux.grown (h : UAux L w b1 b2 g1 g2 t1 t2 A1 c1 A2 c2 A3 c3 es is ys) {row : Option Nat} (hg : w.grownBy w' row) (hr : ∀ g, row = some g → g < L) : UAux L w' b1 b2 g1 g2 t1 t2 A1 c1 A2 c2 A3 c3 es is ys :=
  ⟨h.bg.grown hg (fun e => by have := hr _ e; have := h.l1; omega), h.bn.grown hg (fun e => by have := hr _ e; have := h.l2; omega), h.l1, h.l2, own_late (g := 0) h.ov hg hr, own_late (g := 0) h.oi hg hr, own_late (g := 0) h.oy hg hr⟩
end
/-! ### one edge after the other, as data -/
/-- The state when the first k of the edges have been looked at. -/
def atK (N : Int) (G : List GE) (v : Nat) (f : Nat → Int) (S : SD) (l k : Nat) : SD := ((idxT G v l).take k).foldl (estep N G v f) S
theorem atK_step {N : Int} {G : List GE} {v : Nat} {f : Nat → Int} {S : SD} {l k i : Nat} (h : (idxT G v l)[k]? = some i) : atK N G v f S l (k + 1) = estep N G v f (atK N G v f S l k) i := by
  unfold atK
  rw [g_take _ _ _ h, List.foldl_append]
  rfl
theorem atK_full {N : Int} {G : List GE} {v : Nat} {f : Nat → Int} {S : SD} {l : Nat} : atK N G v f S l (idxT G v l).length = (idxT G v l).foldl (estep N G v f) S := by
  unfold atK
  rw [List.take_length]
theorem atK_ok {p : Int} {N : Nat} {G : List GE} (hG : graphB (N : Int) G = true) (v : Nat) (f : Nat → Int) (S : SD) (hs : S.ev.length = G.length) (h1 : setB (N : Int) S.nx = true) (h2 : setB (N : Int) S.nw = true) (k : Nat) : Stepped p N G v f ((idxT G v G.length).take k) S (atK (N : Int) G v f S G.length k) :=
  fold_step hG v f _ S (List.Pairwise.sublist (List.take_sublist _ _) (idx_nodup G v G.length)) (fun i hi => by
    have := (idx_mem.1 (List.mem_of_mem_take hi)).1
    omega) h1 h2
theorem not_before {l : List Nat} (h : l.Nodup) {k i : Nat} (hk : l[k]? = some i) : i ∉ l.take k := by
  intro hm
  obtain ⟨hk2, rfl⟩ := List.getElem?_eq_some_iff.1 hk
  rw [List.mem_take_iff_getElem] at hm
  obtain ⟨a, ha, he⟩ := hm
  have := (List.getElem_inj h).1 he
  omega
end Go.Proofs.YtlhcobkncceodaaGreatDoor
namespace Go.Proofs.YtlhcobkncceodaaGreatDoor
open Go.RowKit
set_option linter.unusedVariables false

theorem ap_other {a b : Option Nat} (h : a = none ∨ b ≠ a) : b = none ∨ a ≠ b := by
  rcases h with h | h
  · cases b with
    | none => exact .inl rfl
    | some x => exact .inr (by rw [h]; simp)
  · exact .inr (fun e => h e.symm)
theorem OnlyB.blk {S : Nat → Prop} {w w' : World} {b : Nat} {cs : Array Value} {t : TypeId} (h : OnlyB S w w') (hb : Blk w b cs t) (hn : ¬ S b) : Blk w' b cs t := hb.keep (h.block b hb.lt hn)
theorem OnlyB.also {S T : Nat → Prop} {a b c : World} (h : OnlyB S a b) (k : OnlyB T b c) (hT : ∀ i, T i → S i ∨ a.heap.size ≤ i) : OnlyB S a c :=
  ⟨k.os.trans h.os, k.tape.trans h.tape, k.output.trans h.output, Nat.le_trans h.size k.size, fun i hi hn => (k.block i (Nat.lt_of_lt_of_le hi h.size) (fun ht => by rcases hT i ht with h1 | h1; exact hn h1; omega)).trans (h.block i hi hn)⟩
/-- The blocks that an iteration writes, of those that were there. -/
def iterBlk (b : Nat) (A : Option Addr) (n c : Nat) (B : Option Addr) (m d : Nat) (C : Option Addr) (j k : Nat) (g : Nat) : Prop := g = b ∨ (Value.slice A n c).ownBlock = some g ∨ (Value.slice B m d).ownBlock = some g ∨ (Value.slice C j k).ownBlock = some g
section
variable {w0 w w' : World} {lo b n c m d j k : Nat} {p s it nn : Int} {dn : Bool} {A B C : Option Addr} {vs ev : List Int} {nx : List Nat}
/-- The count and the mark of the end are stored. -/
theorem RSt.setIt (h : RSt w lo b p s it dn A n c B m d nn C j k vs ev nx) (x : Int) : RSt (w.setCell ⟨b, 2, none⟩ (.int .i64 x)) lo b p s x dn A n c B m d nn C j k vs ev nx := by
  have hg := grown_cell w b 2 (.int .i64 x)
  exact ⟨Blk.set h.bx 2 (.int .i64 x), own_kept h.v hg (own_kind h.v h.bx (by decide)), own_kept h.e hg (own_kind h.e h.bx (by decide)), own_kept h.x hg (own_kind h.x h.bx (by decide)), h.ap, h.lb⟩
theorem RSt.setDn (h : RSt w lo b p s it dn A n c B m d nn C j k vs ev nx) (x : Bool) : RSt (w.setCell ⟨b, 3, none⟩ (.bool x)) lo b p s it x A n c B m d nn C j k vs ev nx := by
  have hg := grown_cell w b 3 (.bool x)
  exact ⟨Blk.set h.bx 3 (.bool x), own_kept h.v hg (own_kind h.v h.bx (by decide)), own_kept h.e hg (own_kind h.e h.bx (by decide)), own_kept h.x hg (own_kind h.x h.bx (by decide)), h.ap, h.lb⟩
/-- A new next set; the old one is the present one. -/
theorem RSt.newNext (h : RSt w lo b p s it dn A n c B m d nn C j k vs ev nx) (hl : lo = w0.heap.size) (hb : Below w0.heap.size w0 w) {C' : Option Addr} {j' k' : Nat} {zs : List Nat} (ho : w.ownsRow w0.heap.size 5 1 (.slice C' j' k') j' (vb zs)) (ap : (Value.slice C' j' k').ownBlock = none ∨ (Value.slice C j k).ownBlock ≠ (Value.slice C' j' k').ownBlock) (M : Int) :
    USt w0 ((w.setCell ⟨b, 6, none⟩ (.int .i64 M)).setCell ⟨b, 7, none⟩ (.slice C' j' k')) b p s it dn A n c B m d M C' j' k' C j k vs ev zs nx := by
  subst hl
  have hg := (grown_cell w b 6 (.int .i64 M)).trans (grown_cell (w.setCell ⟨b, 6, none⟩ (.int .i64 M)) b 7 (.slice C' j' k'))
  exact ⟨⟨Blk.set (Blk.set h.bx 6 (.int .i64 M)) 7 (.slice C' j' k'), own_kept h.v hg (own_kind h.v h.bx (by decide)), own_kept h.e hg (own_kind h.e h.bx (by decide)), own_kept ho hg (own_kind ho h.bx (by decide)), h.ap, h.lb⟩, own_kept h.x hg (own_kind h.x h.bx (by decide)), ap, hb.grown hg hb.size (fun i hi => by injection hi with hi; have := h.lb; omega)⟩
end
end Go.Proofs.YtlhcobkncceodaaGreatDoor
