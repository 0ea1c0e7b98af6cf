/- The shards of a graph, as data: each is valid, joined they are the graph, each vertex lies where its interval says, and the degrees of an interval add up to its edges (plain lemmas; no condition). // The farm that a graph is made into, as data (plain lemmas; no condition). // The program's iterator over the intervals of ends: a closure that reads the slice between two rounds; its contract for whatever loop body. Condition: at most 2^20 ends. // Words for the walks of laws whose function answers numbers: rows of numbers of a call's own, from call to call. // The contract of the model's Cut. Condition: at most 2^20 edges. // The contract of the program's Cut: its iterator over the ends, slices.AppendSeq and slices.Collect over it. Condition: at most 2^20 edges. -/
import Derived.Test.YtpgnappddddlpaaCOF
import Derived.RangeFuncNested
import Derived.RangeFuncBound
import Derived.RangeFuncCalls
import Derived.RangeFuncLeaves
import Derived.RangeFuncBox
import Derived.Shelf.Abstract
import Derived.Shelf.RegionOpen
import Derived.WalkKit
import Derived.OwnWalkIn
import Derived.TacticsInMore
import Derived.LoopNIn
import Derived.LoopIn
import Derived.Test.YtpgnappddddlpaaCOE
import Derived.Test.YtpgnappddddlpaaCOC
import Derived.Test.YtpgnappddddlpaaCOD
import Derived.Sort.QuietIn
import Derived.Maps.AppendAt
namespace Go.Proofs.Ytpgnappddddlpaa
open Go.RowKit

/-! ### where a vertex lies -/
theorem asc_take {l : Int} {xs : List Int} (k : Nat) (ha : ascB l xs = true) : ascB l (xs.take k) = true := by
  rw [← List.take_append_drop k xs, ascB_append, Bool.and_eq_true] at ha
  exact ha.1
theorem asc_drop {l : Int} {xs : List Int} (k : Nat) (ha : ascB l xs = true) : ascB (lastE l (xs.take k)) (xs.drop k) = true := by
  rw [← List.take_append_drop k xs, ascB_append, Bool.and_eq_true] at ha
  exact ha.2
theorem cnt_append (v : Int) (xs ys : List Int) : cntE v (xs ++ ys) = cntE v xs + cntE v ys := by
  unfold cntE
  rw [List.filter_append, List.length_append]
  omega
theorem cnt_all : ∀ (xs : List Int) (l v : Int), ascB l xs = true → lastE l xs ≤ v → cntE v xs = xs.length
  | [], _, _, _, _ => rfl
  | x :: r, l, v, ha, hv => by
    simp only [ascB, Bool.and_eq_true, decide_eq_true_eq] at ha
    simp only [lastE] at hv
    have h1 := asc_last_ge r x ha.2
    have h2 := cnt_all r x v ha.2 hv
    have h3 : cntE v (x :: r) = cntE v [x] + cntE v r := cnt_append v [x] r
    have h4 : cntE v [x] = 1 := by unfold cntE; simp [show x ≤ v by omega]
    rw [h3, h4, h2, List.length_cons]
    omega
theorem iv_at {xs : List Int} {k : Nat} {e v : Int} (ha : ascB 0 xs = true) (he : xs[k]? = some e) (h0 : lastE 0 (xs.take k) ≤ v) (h1 : v < e) : ivE xs v = (k : Int) := by
  have hk := (List.getElem?_eq_some_iff.1 he).1
  have hb := asc_at he ha
  have hne : xs ≠ [] := fun e => by subst e; simp at hk
  have hv : ivE xs v = cntE v xs := by
    unfold ivE
    rw [if_neg]
    rintro (h | h | h)
    · omega
    · exact hne h
    · omega
  rw [hv, ← List.take_append_drop k xs, cnt_append, cnt_all _ 0 v (asc_take k ha) h0, List.length_take, Nat.min_eq_left (by omega)]
  have hd := asc_drop k ha
  rw [g_drop xs k e he] at hd ⊢
  simp only [ascB, Bool.and_eq_true, decide_eq_true_eq] at hd
  have h3 : cntE v (e :: xs.drop (k + 1)) = cntE v [e] + cntE v (xs.drop (k + 1)) := cnt_append v [e] _
  have h4 : cntE v [e] = 0 := by unfold cntE; simp [show ¬ e ≤ v by omega]
  have h5 := cnt_none (xs.drop (k + 1)) e v hd.2 h1
  omega
theorem span_ex : ∀ (xs : List Int) (l v : Int), ascB l xs = true → l ≤ v → v < lastE l xs → ∃ k e, xs[k]? = some e ∧ lastE l (xs.take k) ≤ v ∧ v < e
  | [], l, v, _, h0, h1 => by simp only [lastE] at h1; omega
  | x :: r, l, v, ha, h0, h1 => by
    simp only [ascB, Bool.and_eq_true, decide_eq_true_eq] at ha
    simp only [lastE] at h1
    rcases Int.lt_or_le v x with h | h
    · exact ⟨0, x, rfl, h0, h⟩
    · obtain ⟨k, e, h2, h3, h4⟩ := span_ex r x v ha.2 h h1
      exact ⟨k + 1, e, by simpa using h2, by simpa [lastE] using h3, h4⟩
theorem iv_back {xs : List Int} {k : Nat} {e v : Int} (ha : ascB 0 xs = true) (he : xs[k]? = some e) (h0 : 0 ≤ v) (h1 : v < lastE 0 xs) (hk : ivE xs v = (k : Int)) : lastE 0 (xs.take k) ≤ v ∧ v < e := by
  obtain ⟨q, f, h2, h3, h4⟩ := span_ex xs 0 v ha h0 h1
  have h5 := iv_at ha h2 h3 h4
  obtain rfl : q = k := by omega
  rw [he] at h2
  injection h2 with h2
  subst h2
  exact ⟨h3, h4⟩

/-! ### a shard is valid -/
theorem runK_of {lo hi : Int} : ∀ (es : List KE) (p q : Int), (∀ e ∈ es, kedgeB lo hi e = true) → es.Pairwise (fun a b => afterB a.f a.i b = true) → (∀ e ∈ es, afterB p q e = true) → runK lo hi p q es = true
  | [], _, _, _, _, _ => rfl
  | a :: r, p, q, h1, h2, h3 => by
    obtain ⟨h4, h5⟩ := List.pairwise_cons.1 h2
    rw [runK, Bool.and_eq_true, Bool.and_eq_true]
    exact ⟨⟨h1 a (by simp), h3 a (by simp)⟩, runK_of r a.f a.i (fun e he => h1 e (by simp [he])) h5 h4⟩
theorem recs_nodup (ends : List Int) (es : List GE) : ((sortedRecs ends es).map GE.w).Nodup := by
  have h := (sortR_perm (recsK ends es es.length)).map GE.w
  unfold sortedRecs
  refine h.nodup_iff.2 ?_
  have e : (recsK ends es es.length).map GE.w = rangeI es.length := by
    unfold recsK rangeI
    rw [List.map_map]
    refine List.map_congr_left fun j hj => ?_
    have hj := List.mem_range.1 hj
    show (recAt ends es j).w = (j : Int)
    rw [recAt_some (List.getElem?_eq_getElem hj)]
  rw [e]
  exact rangeI_nodup _
theorem dealt_mem {ends : List Int} {es : List GE} {N : Int} {p : Nat} {k : KE} (hg : graphB N es = true) (he : endsB N ends = true) (h : k ∈ dealt es (sortedRecs ends es) (p : Int)) : ∃ (j : Nat) (e : GE), es[j]? = some e ∧ k = ⟨e.f, e.t, e.w, (j : Int), 0⟩ ∧ ivE ends e.t = (p : Int) := by
  unfold dealt at h
  obtain ⟨r, hr, rfl⟩ := List.mem_map.1 h
  obtain ⟨hr, hp⟩ := List.mem_filter.1 hr
  obtain ⟨q, j, e, rfl, _, hj, _, hq⟩ := rec_range hg he hr
  have hp2 : (q : Int) = (p : Int) := by simpa using hp
  exact ⟨j, e, hj, keOf_some _ _ hj, by rw [← hq, hp2]⟩
theorem dealt_pair {ends : List Int} {es : List GE} {N : Int} {p : Nat} (hg : graphB N es = true) (he : endsB N ends = true) : (dealt es (sortedRecs ends es) (p : Int)).Pairwise (fun a b => afterB a.f a.i b = true) := by
  have h1 : (sortedRecs ends es).Pairwise (fun a b => leR a b ∧ a.w ≠ b.w) := by
    refine List.Pairwise.and ?_ ?_
    · exact sortR_sorted _
    · have := recs_nodup ends es
      rw [List.Nodup, List.pairwise_map] at this
      exact this
  unfold dealt
  rw [List.pairwise_map]
  have h2 := h1.filter (fun r => decide (r.f = (p : Int)))
  refine (List.pairwise_iff_forall_sublist.2 fun {a b} hs => ?_)
  have h3 := (List.pairwise_iff_forall_sublist.1 h2) hs
  have ha : a ∈ (sortedRecs ends es).filter (fun r => decide (r.f = (p : Int))) := hs.subset (by simp)
  have hb : b ∈ (sortedRecs ends es).filter (fun r => decide (r.f = (p : Int))) := hs.subset (by simp)
  obtain ⟨ha1, ha2⟩ := List.mem_filter.1 ha
  obtain ⟨hb1, hb2⟩ := List.mem_filter.1 hb
  obtain ⟨qa, ja, ea, rfl, _, hja, _, _⟩ := rec_range hg he ha1
  obtain ⟨qb, jb, eb, rfl, _, hjb, _, _⟩ := rec_range hg he hb1
  have ha3 : (qa : Int) = (p : Int) := by simpa using ha2
  have hb3 : (qb : Int) = (p : Int) := by simpa using hb2
  obtain ⟨h4, h5⟩ := h3
  unfold leR at h4
  rw [lessR_no] at h4
  simp only at h4 h5
  rw [keOf_some _ _ hja, keOf_some _ _ hjb]
  unfold afterB
  rw [decide_eq_true_eq]
  show ea.f < eb.f ∨ (ea.f = eb.f ∧ (ja : Int) < (jb : Int))
  omega
theorem shard_valid {ends : List Int} {es : List GE} {N : Int} {p : Nat} {e : Int} (hg : graphB N es = true) (he : endsB N ends = true) (hp : ends[p]? = some e) : shardB (lastE 0 (ends.take p)) e (dealt es (sortedRecs ends es) (p : Int)) = true := by
  obtain ⟨a1, a2, a3, a4⟩ := endsB_iff he
  obtain ⟨b1, b2, b3⟩ := asc_at hp a1
  obtain ⟨g1, g2, g3, g4⟩ := graphB_iff hg
  have hl := dealt_len es (sortedRecs ends es) (p : Int)
  rw [sortedRecs_len] at hl
  rw [shardB_yes b1 b2 (by omega) (by omega)]
  refine runK_of _ _ _ (fun k hk => ?_) (dealt_pair hg he) (fun k hk => ?_)
  · obtain ⟨j, x, hj, rfl, hv⟩ := dealt_mem hg he hk
    have hx := edgeB_iff (g4 x (List.mem_of_getElem? hj))
    have hjl := (List.getElem?_eq_some_iff.1 hj).1
    obtain ⟨v1, v2⟩ := iv_back a1 hp hx.2.2.1 (by rw [a4]; exact hx.2.2.2.1) hv
    unfold kedgeB
    rw [decide_eq_true_eq]
    refine ⟨hx.1, by have := hx.2.1; show x.f < 150; omega, v1, v2, hx.2.2.2.2.1, hx.2.2.2.2.2, by simp, by show (j : Int) < 400; omega, by simp, by simp⟩
  · obtain ⟨j, x, hj, rfl, hv⟩ := dealt_mem hg he hk
    have hx := edgeB_iff (g4 x (List.mem_of_getElem? hj))
    unfold afterB
    rw [decide_eq_true_eq]
    exact .inl (by have := hx.1; show (-1 : Int) < x.f; omega)

/-! ### joined, they are the graph -/
def rowFrom (D : Nat → List KE) : List Int → Int → Nat → List SD
  | [], _, _ => []
  | e :: r, l, k => (l, e, D k) :: rowFrom D r e (k + 1)
theorem rowFrom_len (D : Nat → List KE) : ∀ (xs : List Int) (l : Int) (k : Nat), (rowFrom D xs l k).length = xs.length
  | [], _, _ => rfl
  | e :: r, l, k => by rw [rowFrom, List.length_cons, rowFrom_len D r, List.length_cons]
theorem rowFrom_get (D : Nat → List KE) : ∀ (xs : List Int) (l : Int) (k p : Nat) (e : Int), xs[p]? = some e → (rowFrom D xs l k)[p]? = some (lastE l (xs.take p), e, D (k + p))
  | [], _, _, p, e, h => by simp at h
  | x :: r, l, k, 0, e, h => by
    have : x = e := by simpa using h
    subst this
    simp [rowFrom, lastE]
  | x :: r, l, k, p + 1, e, h => by
    rw [rowFrom, List.getElem?_cons_succ, rowFrom_get D r x (k + 1) p e (by simpa using h), List.take_succ_cons, lastE, show k + 1 + p = k + (p + 1) by omega]
theorem row_from (ends : List Int) (es L : List GE) : shardRow ends es L ends.length = rowFrom (fun p => dealt es L (p : Int)) ends 0 0 := by
  apply List.ext_getElem?
  intro p
  by_cases h : p < ends.length
  · have he : ends[p]? = some ends[p] := List.getElem?_eq_getElem h
    rw [shardRow_get h, rowFrom_get _ ends 0 0 p _ he, Nat.zero_add]
    unfold shardAt
    rw [span_yes he]
  · rw [List.getElem?_eq_none (by rw [shardRow_len]; omega), List.getElem?_eq_none (by rw [rowFrom_len]; omega)]
theorem chain_from {N : Int} (D : Nat → List KE) : ∀ (xs : List Int) (l : Int) (k : Nat), lastE l xs = N → (∀ p e, xs[p]? = some e → shardB (lastE l (xs.take p)) e (D (k + p)) = true) → chainB N l (rowFrom D xs l k) = true
  | [], l, k, h, _ => by simpa [rowFrom, chainB, lastE] using h
  | e :: r, l, k, h, hv => by
    rw [rowFrom, chainB, Bool.and_eq_true, Bool.and_eq_true, decide_eq_true_eq]
    refine ⟨⟨by simpa [lastE] using hv 0 e rfl, rfl⟩, ?_⟩
    refine chain_from D r e (k + 1) h (fun p f hp => ?_)
    have := hv (p + 1) f (by simpa using hp)
    rw [List.take_succ_cons, lastE] at this
    rw [show k + 1 + p = k + (p + 1) by omega]
    exact this
theorem shards_chain {ends : List Int} {es : List GE} {N : Int} (hg : graphB N es = true) (he : endsB N ends = true) : chainB N 0 (shardRow ends es (sortedRecs ends es) ends.length) = true := by
  rw [row_from]
  refine chain_from _ ends 0 0 (endsB_iff he).2.2.2 (fun p e hp => ?_)
  rw [Nat.zero_add]
  exact shard_valid hg he hp
theorem filt_split (L : List GE) (n : Nat) : (L.filter (fun r => decide (0 ≤ r.f ∧ r.f < ((n + 1 : Nat) : Int)))).length = (L.filter (fun r => decide (0 ≤ r.f ∧ r.f < (n : Int)))).length + (L.filter (fun r => decide (r.f = (n : Int)))).length := by
  induction L with
  | nil => rfl
  | cons r L ih =>
    simp only [List.filter_cons]
    by_cases h1 : 0 ≤ r.f ∧ r.f < (n : Int)
    · rw [if_pos (by rw [decide_eq_true_eq]; omega), if_pos (by rw [decide_eq_true_eq]; omega), if_neg (by rw [decide_eq_true_eq]; omega), List.length_cons, List.length_cons]
      omega
    · by_cases h2 : r.f = (n : Int)
      · rw [if_pos (by rw [decide_eq_true_eq]; omega), if_neg (by rw [decide_eq_true_eq]; omega), if_pos (by rw [decide_eq_true_eq]; omega), List.length_cons, List.length_cons]
        omega
      · rw [if_neg (by rw [decide_eq_true_eq]; omega), if_neg (by rw [decide_eq_true_eq]; omega), if_neg (by rw [decide_eq_true_eq]; omega)]
        exact ih
theorem flat_row_len (ends : List Int) (es L : List GE) : ∀ n : Nat, (flatK (shardRow ends es L n)).length = (L.filter (fun r => decide (0 ≤ r.f ∧ r.f < (n : Int)))).length
  | 0 => by
    have : L.filter (fun r => decide (0 ≤ r.f ∧ r.f < ((0 : Nat) : Int))) = [] := List.filter_eq_nil_iff.2 (fun r _ => by rw [decide_eq_true_eq]; omega)
    rw [this]
    simp [shardRow, flatK]
  | n + 1 => by
    rw [shardRow_step, flatK_append, List.length_append, flat_row_len ends es L n, filt_split]
    congr 1
    simp [flatK, shardAt, dealt]
theorem shards_joined {ends : List Int} {es : List GE} {N : Int} (hg : graphB N es = true) (he : endsB N ends = true) : joinB N (shardRow ends es (sortedRecs ends es) ends.length) = true ∧ es = edgesJ (flatK (shardRow ends es (sortedRecs ends es) ends.length)) := by
  have hlen : (flatK (shardRow ends es (sortedRecs ends es) ends.length)).length = es.length := by
    rw [flat_row_len]
    have : (sortedRecs ends es).filter (fun r => decide (0 ≤ r.f ∧ r.f < (ends.length : Int))) = sortedRecs ends es := List.filter_eq_self.2 (fun r hr => by
      obtain ⟨p, j, e, rfl, hp, _⟩ := rec_range hg he hr
      rw [decide_eq_true_eq]
      show 0 ≤ (p : Int) ∧ (p : Int) < (ends.length : Int)
      omega)
    rw [this, sortedRecs_len]
  have hin : ∀ (j : Nat) (e : GE), es[j]? = some e → (⟨e.f, e.t, e.w, (j : Int), 0⟩ : KE) ∈ flatK (shardRow ends es (sortedRecs ends es) ends.length) := fun j e hj => by
    have hm : (⟨ivE ends e.t, e.f, (j : Int)⟩ : GE) ∈ sortedRecs ends es := by
      unfold sortedRecs
      refine (sortR_perm _).mem_iff.2 ?_
      unfold recsK
      exact List.mem_map.2 ⟨j, List.mem_range.2 (List.getElem?_eq_some_iff.1 hj).1, recAt_some hj⟩
    obtain ⟨p, j2, e2, h1, hp, _, _, _⟩ := rec_range hg he hm
    have hpv : ivE ends e.t = (p : Int) := by injection h1
    refine List.mem_flatMap.2 ⟨shardAt ends es (sortedRecs ends es) p, List.mem_map.2 ⟨p, List.mem_range.2 hp, rfl⟩, ?_⟩
    show _ ∈ dealt es (sortedRecs ends es) (p : Int)
    unfold dealt
    refine List.mem_map.2 ⟨_, List.mem_filter.2 ⟨hm, by rw [decide_eq_true_eq]; exact hpv⟩, keOf_some _ _ hj⟩
  refine join_yes (shards_chain hg he) (fun k hk => ?_) hlen.symm (fun j hj => ?_)
  · obtain ⟨s, hs, hk⟩ := List.mem_flatMap.1 hk
    obtain ⟨p, _, rfl⟩ := List.mem_map.1 hs
    obtain ⟨j, x, hj, rfl, _⟩ := dealt_mem hg he (show k ∈ dealt es (sortedRecs ends es) (p : Int) from hk)
    exact (edgeB_iff ((graphB_iff hg).2.2.2 x (List.mem_of_getElem? hj))).2.1
  · rw [hlen] at hj
    exact ⟨⟨es[j].f, es[j].t, es[j].w, (j : Int), 0⟩, hin j es[j] (List.getElem?_eq_getElem hj), rfl, List.getElem?_eq_getElem hj⟩

/-! ### the degrees of an interval -/
theorem degs_count (key : GE → Int) (n p : Nat) (hp : p < n) (es : List GE) : (degs key n es)[p]? = some (((es.filter (fun e => decide ((key e).toNat = p))).length : Nat) : Int) := by
  have h : ∀ k : Nat, k ≤ es.length → (degs key n (es.take k))[p]? = some ((((es.take k).filter (fun e => decide ((key e).toNat = p))).length : Nat) : Int) := by
    intro k
    induction k with
    | zero => intro _; simp [degs, hp]
    | succ k ih =>
      intro hk
      have ih := ih (by omega)
      have hj : es[k]? = some es[k] := List.getElem?_eq_getElem (by omega)
      rw [g_take es k _ hj, degs_snoc, bump, List.filter_append, List.length_append]
      by_cases h : (key es[k]).toNat = p
      · rw [h, List.getElem?_set_self (by rw [degs_len]; exact hp), List.getD_eq_getElem?_getD, ih]
        simp [h]
      · rw [List.getElem?_set_ne h, ih]
        simp [h]
  have h9 := h es.length (Nat.le_refl _)
  rw [List.take_length] at h9
  exact h9
theorem dealt_count {ends : List Int} {es : List GE} {N : Int} {p : Nat} (hg : graphB N es = true) (he : endsB N ends = true) : (dealt es (sortedRecs ends es) (p : Int)).length = (es.filter (fun e => decide ((ivE ends e.t).toNat = p))).length := by
  unfold dealt
  rw [List.length_map]
  have h1 : ((sortedRecs ends es).filter (fun r => decide (r.f = (p : Int)))).length = ((recsK ends es es.length).filter (fun r => decide (r.f = (p : Int)))).length := ((sortR_perm _).filter _).length_eq
  rw [h1]
  have h2 : ∀ k : Nat, k ≤ es.length → ((recsK ends es k).filter (fun r => decide (r.f = (p : Int)))).length = ((es.take k).filter (fun e => decide ((ivE ends e.t).toNat = p))).length := by
    intro k
    induction k with
    | zero => intro _; simp [recsK]
    | succ k ih =>
      intro hk
      have hj : es[k]? = some es[k] := List.getElem?_eq_getElem (by omega)
      rw [recsK_step hj, g_take es k _ hj, List.filter_append, List.filter_append, List.length_append, List.length_append, ih (by omega)]
      congr 1
      have hx := edgeB_iff ((graphB_iff hg).2.2.2 es[k] (List.mem_of_getElem? hj))
      have hr := iv_range (xs := ends) (v := es[k].t) hx.2.2.1 (by rw [(endsB_iff he).2.2.2]; exact hx.2.2.2.1)
      by_cases h : ivE ends es[k].t = (p : Int)
      · have h' : (ivE ends es[k].t).toNat = p := by omega
        simp [h]
      · have h' : ¬ (ivE ends es[k].t).toNat = p := by omega
        simp [h, h']
  have h3 := h2 es.length (Nat.le_refl _)
  rw [List.take_length] at h3
  exact h3
theorem dealt_sum {ends : List Int} {es : List GE} {N : Int} {p : Nat} {e : Int} (hg : graphB N es = true) (he : endsB N ends = true) (hp : ends[p]? = some e) : sumAt (degs GE.t N.toNat es) (lastE 0 (ends.take p)) e = ((dealt es (sortedRecs ends es) (p : Int)).length : Int) := by
  have hpl := (List.getElem?_eq_some_iff.1 hp).1
  have h1 := holds_degs hg he
  have h2 : holdsR N es ends = holdsL (degs GE.t N.toNat es) 0 ends := by unfold holdsR; rw [if_pos ⟨hg, he⟩]
  have h3 : (holdsL (degs GE.t N.toNat es) 0 ends)[p]? = some (sumAt (degs GE.t N.toNat es) (lastE 0 (ends.take p)) e) := by
    unfold holdsL
    rw [List.getElem?_map, pairsE_get ends 0 p e hp]
    rfl
  rw [← h2, h1, degs_count _ _ _ hpl] at h3
  injection h3 with h3
  rw [dealt_count hg he, ← h3]

/-! ### the ends that the greedy division gives -/
theorem cutGo_ends : ∀ (l : List Int) (b v s l0 : Int), l0 < v → ascB l0 (cutGo b v s l) = true ∧ lastE l0 (cutGo b v s l) = v + l.length
  | [], b, v, s, l0, h => by simp [cutGo, ascB, lastE, h]
  | d :: r, b, v, s, l0, h => by
    rw [cutGo]
    split
    · obtain ⟨h1, h2⟩ := cutGo_ends r b (v + 1) d v (by omega)
      simp only [ascB, lastE, Bool.and_eq_true, decide_eq_true_eq]
      exact ⟨⟨h, h1⟩, by rw [h2, List.length_cons]; omega⟩
    · obtain ⟨h1, h2⟩ := cutGo_ends r b (v + 1) (s + d) l0 (by omega)
      exact ⟨h1, by rw [h2, List.length_cons]; omega⟩
theorem cut_ends {N : Int} {es : List GE} {b : Int} (hg : graphB N es = true) (h1 : 1 ≤ b) (h2 : b ≤ 400) : endsB N (cutR N es b) = true := by
  obtain ⟨g1, g2, _, _⟩ := graphB_iff hg
  have hd := degs_len GE.t N.toNat es
  unfold cutR
  rw [if_pos ⟨hg, h1, h2⟩]
  generalize degs GE.t N.toNat es = ds at hd
  have h : ascB 0 (cutFrom b 0 ds) = true ∧ lastE 0 (cutFrom b 0 ds) = ds.length := by
    cases ds with
    | nil => exact ⟨rfl, rfl⟩
    | cons d r =>
      obtain ⟨h3, h4⟩ := cutGo_ends r b (0 + 1) d 0 (by omega)
      exact ⟨h3, by rw [cutFrom, h4, List.length_cons]; omega⟩
  rw [ends_yes h.1, decide_eq_true_eq]
  exact ⟨g1, g2, by rw [h.2]; omega⟩
/-- What is so of the shard at place p. -/
structure ShAt (N : Int) (es : List GE) (ends ds : List Int) (p : Nat) (lo hi : Int) (D : List KE) : Prop where
  lo0 : 0 ≤ lo
  lt : lo < hi
  top : hi ≤ ds.length
  ok : shardB lo hi D = true
  sum : sumAt ds lo hi = (D.length : Int)
  iv : ∀ v : Int, lo ≤ v → v < hi → ivE ends v = (p : Int)
theorem shards_at {N : Int} {es : List GE} {ends : List Int} {size : Int} {p : Nat} (hg : graphB N es = true) (he : endsB N ends = true) (hs : 1 ≤ size) (hp : p < ends.length) : ∃ lo hi D, (shardsR N es ends size)[p]? = some (lo, hi, D) ∧ ShAt N es ends (degsOf GE.t N es) p lo hi D := by
  have hq : ends[p]? = some ends[p] := List.getElem?_eq_getElem hp
  obtain ⟨a1, a2, a3, a4⟩ := endsB_iff he
  obtain ⟨b1, b2, b3⟩ := asc_at hq a1
  have hd : degsOf GE.t N es = degs GE.t N.toNat es := if_pos hg
  refine ⟨lastE 0 (ends.take p), ends[p], dealt es (sortedRecs ends es) (p : Int), ?_, b1, b2, ?_, shard_valid hg he hq, ?_, fun v h1 h2 => iv_at a1 hq h1 h2⟩
  · rw [shardsR_yes hg he hs, shardRow_get hp]
    unfold shardAt
    rw [span_yes hq]
  · rw [hd, degs_len]; omega
  · rw [hd]; exact dealt_sum hg he hq
theorem shards_graph {N : Int} {es : List GE} {ends : List Int} {size : Int} (hg : graphB N es = true) (he : endsB N ends = true) (hs : 1 ≤ size) : joinB N (shardsR N es ends size) = true ∧ joinN N (shardsR N es ends size) = N ∧ joinE N (shardsR N es ends size) = es ∧ (shardsR N es ends size).length = ends.length := by
  have h := shards_joined hg he
  rw [← shardsR_yes hg he hs] at h
  obtain ⟨j1, j2⟩ := join_some h.1
  exact ⟨h.1, j1, by rw [j2, ← h.2], by rw [shardsR_yes hg he hs, shardRow_len]⟩
end Go.Proofs.Ytpgnappddddlpaa
namespace Go.Proofs.Ytpgnappddddlpaa
open Go.RowKit

def foB (N : Int) (G : List GE) (b s : Int) : Bool := graphB N G && decide (1 ≤ b ∧ b ≤ 400 ∧ 1 ≤ s)
def foN (N : Int) (G : List GE) (b s : Int) : Int := if foB N G b s then N else 0
def foE (N : Int) (G : List GE) (b s : Int) : List Int := if foB N G b s then cutR N G b else []
def foL (N : Int) (G : List GE) (b s : Int) : List SD := if foB N G b s then shardsR N G (cutR N G b) s else []
theorem fo_no {N : Int} {G : List GE} {b s : Int} (h : foB N G b s = false) : foN N G b s = 0 ∧ foE N G b s = [] ∧ foL N G b s = [] := by simp [foN, foE, foL, h]
theorem fo_yes {N : Int} {G : List GE} {b s : Int} (h : foB N G b s = true) : foN N G b s = N ∧ foE N G b s = cutR N G b ∧ foL N G b s = shardsR N G (cutR N G b) s := by simp [foN, foE, foL, h]
theorem foB_no1 {N : Int} {G : List GE} {b s : Int} (h : graphB N G = false) : foB N G b s = false := by simp [foB, h]
theorem foB_no2 {N : Int} {G : List GE} {b s : Int} (h : ¬ (1 ≤ b ∧ b ≤ 400 ∧ 1 ≤ s)) : foB N G b s = false := by
  unfold foB
  rw [decide_eq_false h, Bool.and_false]
theorem foB_yes {N : Int} {G : List GE} {b s : Int} (h : graphB N G = true) (h1 : 1 ≤ b) (h2 : b ≤ 400) (h3 : 1 ≤ s) : foB N G b s = true := by
  unfold foB
  rw [h, decide_eq_true ⟨h1, h2, h3⟩]
  rfl
theorem shardsR_few {N : Int} {G : List GE} {E : List Int} {s : Int} (hg : G.length ≤ 400) : (shardsR N G E s).length ≤ E.length ∧ (flatK (shardsR N G E s)).length ≤ 400 := by
  unfold shardsR
  split
  · refine ⟨by rw [shardRow_len]; exact Nat.le_refl _, ?_⟩
    rw [flat_row_len]
    refine Nat.le_trans (List.length_filter_le _ _) ?_
    rw [sortedRecs_len]
    exact hg
  · simp [flatK]
theorem cut_few (N : Int) (G : List GE) (b : Int) : (cutR N G b).length ≤ 150 := by
  unfold cutR
  split
  · rename_i h
    have h1 := graphB_iff h.1
    refine Nat.le_trans (cutFrom_len _ _ _) ?_
    rw [degs_len]
    omega
  · simp
theorem fo_few {N : Int} {G : List GE} {b s : Int} : (foE N G b s).length ≤ 150 ∧ (foL N G b s).length + (flatK (foL N G b s)).length ≤ 550 := by
  cases h : foB N G b s with
  | false => obtain ⟨_, e2, e3⟩ := fo_no h; rw [e2, e3]; simp [flatK]
  | true =>
    obtain ⟨_, e2, e3⟩ := fo_yes h
    have h1 : graphB N G = true := by unfold foB at h; rw [Bool.and_eq_true] at h; exact h.1
    have h2 := cut_few N G b
    have h3 := shardsR_few (N := N) (E := cutR N G b) (s := s) (graphB_iff h1).2.2.1
    rw [e2, e3]
    omega
end Go.Proofs.Ytpgnappddddlpaa
namespace Go.Proofs.Ytpgnappddddlpaa
open Go.RowKit Go.Shelf
attribute [local go_sem] Oper.semAt_some

set_option maxRecDepth 100000 in
set_option maxHeartbeats 2000000 in
theorem spans1_in {α : Type} (f : α → Int × Int) (ps : List α) (F : Fence) (m : Nat) (hf : F.fn 163) (hro : F.round = none) (hm : 1 ≤ m) (l Bs : Nat) (A : Option Addr) (n c : Nat) (es : List Int) (hps : ps.map f = pairsE 0 es) (w0 : World) (hI : SlI w0 A n es) (hn : n ≤ 1048576) (J Jx : List α → World → Prop)
    (hY : ∀ pre x W, J pre W → pre.length < n → YieldAt F (m - 1) Try.prog l #[.int .i64 (f x).1, .int .i64 (f x).2] W fun e W' =>
      (e = .returned (.bool true) ∧ J (pre ++ [x]) W' ∧ Below w0.heap.size W W') ∨ (e = .returned (.bool false) ∧ Jx (pre ++ [x]) W'))
    (W : World) (hW : Below w0.heap.size w0 W) (hBs : W.cell? ⟨Bs, 0, none⟩ = some (.slice A n c)) (h0 : J [] W) :
    CallsIn F m Try.prog 163 #[.func (.yield l) #[] #[], .pointer (some ⟨Bs, 0, none⟩)] W fun e W' => (∃ v, e = .returned v) ∧
      ((∃ ys, ys = ps ∧ J ys W') ∨ (∃ pre, (∃ k, k ≤ n ∧ pre = ps.take k) ∧ Jx pre W')) := by
  have hpl : ps.length = n := by have := congrArg List.length hps; rw [List.length_map, pairsE_len, hI.len] at this; exact this
  refine callsIn_of_wp Try.func163 rfl hf ?_ hro
  simp only [Try.ntmps163, List.size_toArray, List.length_cons, List.length_nil, Nat.reduceAdd, Nat.reduceSub, Array.replicate_succ, Array.replicate_zero, List.push_toArray, List.append_toArray, List.nil_append, List.cons_append]
  gi_wp2
  gi_loopw [3, 8] (fun v i wr => ∃ k : Nat, k ≤ n ∧ i = .int .i64 k ∧ v = .int .i64 (lastE 0 (es.take k)) ∧ J (ps.take k) wr ∧ Below w0.heap.size w0 wr)
    (fun _ i _ => n - (intOf i).toNat)
  case atStart => exact ⟨0, Nat.zero_le _, rfl, rfl, h0, hW⟩
  case round =>
    obtain ⟨k, hk, rfl, rfl, hJs, hnx⟩ := hrel
    by_cases hlt : k < n
    · obtain ⟨b, off, x, rfl, hbw, hx, hcx⟩ := hI.at_ hlt
      have hcx := (hnx.cell (p := ⟨b, off + k, none⟩) hbw).trans hcx
      have hpk : ps[k]? = some (ps[k]'(by omega)) := List.getElem?_eq_getElem (by omega)
      generalize ps[k]'(by omega) = y at hpk
      have hfy : f y = (lastE 0 (es.take k), x) := by
        have h1 : (ps.map f)[k]? = some (f y) := by rw [List.getElem?_map, hpk]; rfl
        rw [hps, pairsE_get es 0 k x hx.out] at h1
        injection h1 with h1
        exact h1.symm
      obtain ⟨fn, tmps, assign, body, hy, hR⟩ := hY _ y wr hJs (by rw [List.length_take]; omega)
      rw [hfy] at hy
      dsimp only at hy
      have hs : ps.take (k + 1) = ps.take k ++ [y] := g_take ps k y hpk
      have hl2 : lastE 0 (es.take (k + 1)) = x := last_step hx.out
      clear hx
      gi_wp2
      refine hR.mono ?_
      rintro e W3 (⟨rfl, hJ3, hk3⟩ | ⟨rfl, hJx3⟩)
      · gi_wp2
        go_roundw
        case rel => exact ⟨k + 1, by omega, by simp, by rw [hl2], by rw [hs]; exact hJ3, hnx.trans hk3⟩
        case measure => simp [intOf]; omega
      · gi_wp2
        refine bodyPost_ret (results_none rfl _ _ _) rfl ?_
        exact ⟨⟨_, rfl⟩, .inr ⟨_, ⟨k + 1, by omega, hs.symm⟩, hJx3⟩⟩
    · obtain rfl : k = n := by omega
      have he : ps.take k = ps := List.take_of_length_le (by omega)
      rw [he] at hJs
      gi_wp2
      go_end0
      exact ⟨⟨_, rfl⟩, .inl ⟨_, rfl, hJs⟩⟩

set_option maxHeartbeats 1000000 in
/-- The slice is boxed; the function value captures the box. -/
theorem spans_in (F : Fence) (m : Nat) (hf : F.fn 153) (hro : F.round = none) (A : Option Addr) (n c : Nat) (w : World) :
    CallsIn F m Try.prog 153 #[.slice A n c] w fun e w' => e = .returned (.func (.func 163) #[] #[.pointer (some ⟨w.heap.size, 0, none⟩)]) ∧ w' = w.alloc (.cells #[.slice A n c] 23) := by
  refine callsIn_of_wp Try.func153 rfl hf ?_ hro
  simp only [Try.ntmps153, List.size_toArray, List.length_cons, List.length_nil, Nat.reduceAdd, Nat.reduceSub, Array.replicate_succ, Array.replicate_zero, List.push_toArray, List.append_toArray, List.nil_append, List.cons_append]
  gi_wp2
  go_ret
  exact ⟨rfl, rfl⟩

theorem spans_stops {α : Type} (f : α → Int × Int) (ps : List α) (F : Fence) (m : Nat) (hf : F.fn 163) (hro : F.round = none) (hm : 1 ≤ m) (Bs : Nat) (A : Option Addr) (n c : Nat) (es : List Int) (hps : ps.map f = pairsE 0 es) (w0 : World) (hI : SlI w0 A n es) (hn : n ≤ 1048576) (w : World) (hw : Below w0.heap.size w0 w) (hBs : Bs < w.heap.size)
    (hc : w.cell? ⟨Bs, 0, none⟩ = some (.slice A n c)) :
    SeqStopsK F m Try.prog 163 #[.pointer (some ⟨Bs, 0, none⟩)] (fun x : α => #[Value.int .i64 (f x).1, Value.int .i64 (f x).2]) (Below w0.heap.size) (fun ys => ys = ps)
      (fun pre => ∃ k, k ≤ n ∧ pre = ps.take k) n w := fun l J Jx W hW _ _ hY h0 =>
  spans1_in f ps F m hf hro hm l Bs A n c es hps w0 hI hn J Jx hY W (hw.trans (hW.mono hw.size)) ((hW.cell (p := ⟨Bs, 0, none⟩) hBs).trans hc) h0

/-! ### what the pairs tell of the ends -/
theorem asc_pairs : ∀ (xs : List Int) (l : Int), (∀ p ∈ pairsE l xs, p.1 < p.2) → ascB l xs = true
  | [], _, _ => rfl
  | e :: r, l, h => by
    have h1 := h (l, e) (by simp [pairsE])
    have h2 := asc_pairs r e (fun p hp => h p (by simp [pairsE, hp]))
    simp only [ascB, Bool.and_eq_true, decide_eq_true_eq]
    exact ⟨h1, h2⟩
theorem asc_pairs_no : ∀ (xs : List Int) (l : Int) (p : Int × Int), p ∈ pairsE l xs → p.2 ≤ p.1 → ascB l xs = false
  | [], _, _, h, _ => by simp [pairsE] at h
  | e :: r, l, p, h, hp => by
    simp only [pairsE, List.mem_cons] at h
    simp only [ascB, Bool.and_eq_false_iff, decide_eq_false_iff_not]
    rcases h with rfl | h
    · exact .inl (by simp only at hp; omega)
    · exact .inr (asc_pairs_no r e p h hp)
def upP (ps : List (Int × Int)) : Prop := ∀ p ∈ ps, p.1 < p.2
def dnP (ps : List (Int × Int)) : Prop := ∃ p ∈ ps, p.2 ≤ p.1
theorem upP_snoc {ps : List (Int × Int)} {lo hi : Int} (h : upP ps) (hx : lo < hi) : upP (ps ++ [(lo, hi)]) := fun p hp => (List.mem_append.1 hp).elim (h p) (fun e => by simp at e; subst e; exact hx)
theorem dnP_snoc {ps : List (Int × Int)} {lo hi : Int} (hx : hi ≤ lo) : dnP (ps ++ [(lo, hi)]) := ⟨(lo, hi), by simp, hx⟩
def lastP (ps : List (Int × Int)) : Int := ((ps.getLast?).map Prod.snd).getD 0
theorem lastP_snoc (ps : List (Int × Int)) (p : Int × Int) : lastP (ps ++ [p]) = p.2 := by simp [lastP]
theorem lastP_pairs : ∀ (xs : List Int), lastP (pairsE 0 xs) = lastE 0 xs := by
  intro xs
  rcases List.eq_nil_or_concat xs with rfl | ⟨r, e, rfl⟩
  · rfl
  · rw [List.concat_eq_append, pairsE_snoc, lastP_snoc, lastE_snoc]
end Go.Proofs.Ytpgnappddddlpaa
namespace Go.Proofs.Ytpgnappddddlpaa
open Go.RowKit

section
variable {w w' : World} {lo n c : Nat} {A : Option Addr} {xs : List Int}
theorem OwI.cnt (h : OwI w lo A n c xs) : n = xs.length := by have := h.1; rw [vi_len] at this; omega
theorem OwI.below (h : OwI w lo A n c xs) (hb : Below w.heap.size w w') : OwI w' lo A n c xs := own_below h hb
theorem OwI.rd (h : OwI w lo A n c xs) : SlI w A n xs := SlI.of_own h
end
theorem degsOf_len (key : GE → Int) (N : Int) (es : List GE) : (degsOf key N es).length ≤ 150 := by
  unfold degsOf
  split
  · rename_i h
    have := graphB_iff h
    rw [degs_len]
    omega
  · simp
/-- The law's own graph: its box and its edges. -/
structure XBox (w : World) (lo b : Nat) (N : Int) (A : Option Addr) (n c : Nat) (es : List GE) : Prop where
  box : NBox w b N A n c
  own : w.ownsRow lo 145 3 (.slice A n c) n (es.flatMap GE.cells)
theorem XBox.below {w w' : World} {lo b n c : Nat} {N : Int} {A : Option Addr} {es : List GE} (h : XBox w lo b N A n c es) (hb : Below w.heap.size w w') : XBox w' lo b N A n c es := ⟨h.box.below hb, own_below h.own hb⟩
end Go.Proofs.Ytpgnappddddlpaa
namespace Go.Proofs.Ytpgnappddddlpaa
open Go.RowKit

theorem i_reads (w : World) (u : Value) (t : TypeId) (g : Nat) (hg : g = w.heap.size) : Reads (w.alloc (.cells #[u] t)) (g + 1) 1 (some ⟨g, 0, none⟩) 1 [u] := by
  subst hg
  refine ⟨rfl, fun _ => ⟨_, rfl, by simp, fun j x hj => ?_⟩⟩
  match j, hj with
  | 0, hj => simp at hj; subst hj; simp [Addr.add]
theorem i_built (w : World) : (w.alloc (.cells #[] 3)).ownsRow w.heap.size 3 1 (.slice (some ⟨w.heap.size, 0, none⟩) 0 0) 0 [] :=
  World.ownsRow_lit w #[] 0 (Nat.le_refl _) (by unfold maxLen; omega) rfl
theorem i_form {w : World} {base e size n : Nat} {v : Value} {xs : List Value} (h : w.ownsRow base e size v n xs) : ∃ A c, v = .slice A n c := by
  rcases h.2 with ⟨rfl, rfl⟩ | ⟨g, cap, _, rfl, _⟩
  · exact ⟨_, _, rfl⟩
  · exact ⟨_, _, rfl⟩
theorem i_one (x : Int) : ∀ u ∈ [Value.int .i64 x], u.oneCell' = true := by
  intro u hu
  simp at hu
  subst hu
  rfl
theorem vi_snoc (xs : List Int) (x : Int) : vi (xs ++ [x]) = vi xs ++ [.int .i64 x] := by rw [vi_append]; rfl
def MadeV (w : World) (xs : List Int) (e : Ending) (w' : World) : Prop :=
  ∃ A n c, e = .returned (.slice A n c) ∧ OwI w' w.heap.size A n c xs ∧ Below w.heap.size w w'

theorem cutR_no {N : Int} {es : List GE} {b : Int} (h : graphB N es = false ∨ b < 1 ∨ 400 < b) : cutR N es b = [] := by
  unfold cutR
  rw [if_neg]
  rintro ⟨h1, h2, h3⟩
  rcases h with h | h | h
  · rw [h1] at h; cases h
  · omega
  · omega
theorem cutR_yes {N : Int} {es : List GE} {b : Int} (h : graphB N es = true) (h1 : 1 ≤ b) (h2 : b ≤ 400) : cutR N es b = cutFrom b 0 (degsOf GE.t N es) := by
  unfold cutR degsOf
  rw [if_pos ⟨h, h1, h2⟩, if_pos h]

set_option maxRecDepth 10000 in
set_option maxHeartbeats 4000000 in
theorem specCut (N : Int) (A : Option Addr) (n c : Nat) (es : List GE) (b : Int) (w : World) (hr : SlG w A n es) (hn : n ≤ 1048576) :
    Calls Try.prog 50 #[.agg #[.int .i64 N, .slice A n c], .int .i64 b] w (MadeI w (cutR N es b)) := by
  obtain ⟨i0, hi, hz0, hz1, hz2⟩ := info_parts Try.infoInt
  have CG := Lib.hid (fun W (h : Below w.heap.size w W) => specGraphOk N A n c es W (hr.below h) hn)
  have CD := Lib.hid (fun W (h : Below w.heap.size w W) => specIn N A n c es W (hr.below h) hn)
  have HEL := Lib.hid hr.len
  obtain ⟨R, hR⟩ : ∃ R, cutR N es b = R := ⟨_, rfl⟩
  rw [hR]
  clear hr
  go_enter Try.func50, Try.ntmps50
  go_wp2_with fail
  refine (CG.out _ (below_a1 _ _)).mono ?_
  rintro e w1 ⟨rfl, hb1⟩
  have X1 := Lib.hid ((NBox.new w N A n c 58).below hb1)
  have HB1 := Lib.hid (g_chain (below_a1 w (.cells #[.int .i64 N, .slice A n c] 58)) hb1)
  clear hb1
  obtain ⟨l0, x0, x1⟩ := X1.out
  cases hv : graphB N es with
  | false =>
    have HD := Lib.hid (hR.symm.trans (cutR_no (.inl hv)))
    go_wp2
    go_ret
    rw [HD.out]
    exact ⟨none, 0, 0, rfl, World.ownsRow_nil _ _ _ _, HB1.out⟩
  | true =>
    by_cases hb1 : b < 1
    · have HD := Lib.hid (hR.symm.trans (cutR_no (.inr (.inl hb1))))
      go_wp2
      go_ret
      rw [HD.out]
      exact ⟨none, 0, 0, rfl, World.ownsRow_nil _ _ _ _, HB1.out⟩
    · by_cases hb2 : 400 < b
      · have HD := Lib.hid (hR.symm.trans (cutR_no (.inr (.inr hb2))))
        go_wp2
        go_ret
        rw [HD.out]
        exact ⟨none, 0, 0, rfl, World.ownsRow_nil _ _ _ _, HB1.out⟩
      · have HD := Lib.hid (hR.symm.trans (cutR_yes hv (b := b) (by omega) (by omega)))
        have hdl : (degsOf GE.t N es).length = N.toNat := by unfold degsOf; rw [if_pos hv, degs_len]
        obtain ⟨g1, g2, g3, _⟩ := graphB_iff hv
        have HBD : Hid (∀ x ∈ degsOf GE.t N es, 0 ≤ x ∧ x ≤ 400) := Lib.hid (fun x hx => by
          unfold degsOf at hx
          rw [if_pos hv] at hx
          have := degs_bound GE.t N.toNat es x hx
          omega)
        generalize degsOf GE.t N es = ds at CD hdl HBD HD
        obtain ⟨M, rfl⟩ : ∃ M : Nat, N = (M : Int) := ⟨N.toNat, by omega⟩
        rw [Int.toNat_natCast] at hdl
        have HDL := Lib.hid hdl
        have hM : M ≤ 150 := by omega
        clear hv g1 g2 g3 CG hdl hR
        have HB2 := Lib.hid (g_chain HB1.out (below_a1 w1 (.cells #[] 3)))
        have hg1 : w.heap.size < w1.heap.size := X1.out.lt
        go_wp2_with fail
        refine (CD.out _ HB2.out).mono ?_
        rintro e w2 ⟨A2, m2, c2, rfl, hod, hb2⟩
        obtain rfl : m2 = M := by have := hod.cnt; rw [HDL.out] at this; exact this
        have X2 := Lib.hid ((X1.out.below (below_a1 w1 (.cells #[] 3))).below hb2)
        have HB3 := Lib.hid (g_chain HB2.out hb2)
        have D2 := Lib.hid hod
        have O2 := Lib.hid (own_below (own_monoG (lo' := w.heap.size + 1) (i_built w1) hg1) hb2)
        clear hod hb2 HB2 l0 x0 x1
        have NE2 : Hid (∀ bb off sp, A2 = some ⟨bb, off, sp⟩ → some bb ≠ (Value.slice (some ⟨w1.heap.size, 0, none⟩) 0 0).ownBlock) := Lib.hid (fun bb off sp hA he => by
          have h1 := (D2.out.lt bb (by rw [hA]; rfl)).1
          simp [Value.ownBlock] at he
          simp at h1
          omega)
        obtain ⟨lo2, hlo2⟩ : ∃ lo2, lo2 = (w1.alloc (.cells #[] 3)).heap.size := ⟨_, rfl⟩
        rw [← hlo2] at D2
        clear hlo2
        go_wp2
        go_loopw [5, 6, 24] (fun v s i wr => ∃ (k : Nat) (acc : List Int) (q : Int), k ≤ m2 ∧ i = .int .i64 k ∧ s = .int .i64 q ∧ Hid (CutAt b ds k acc q) ∧ Hid (wr.ownsRow (w.heap.size + 1) 3 1 v acc.length (vi acc)) ∧ Hid (OwI wr lo2 A2 m2 c2 ds) ∧ Hid (∀ bb off sp, A2 = some ⟨bb, off, sp⟩ → some bb ≠ v.ownBlock) ∧ Hid (NBox wr w.heap.size m2 A n c) ∧ Hid (Below w.heap.size w wr)) (fun _ _ i _ => m2 - (intOf i).toNat)
        case atStart => exact ⟨0, [], 0, Nat.zero_le _, rfl, rfl, Lib.hid (CutAt.start b ds), O2, D2, NE2, X2, HB3⟩
        case round =>
          clear X2 HB3 O2 D2 NE2
          obtain ⟨k, acc, q, hk, rfl, rfl, hcut, hown, hdeg, hne, hx, hbel⟩ := hrel
          have hq0 := hcut.out.lo
          have hq1 := hcut.out.hi
          have hal := hcut.out.len
          by_cases hlt : k < m2
          · obtain ⟨bb, off, x, rfl, hbw, hd, hc⟩ := hdeg.out.rd.at_ hlt
            have hx2 := HBD.out x (List.mem_of_getElem? hd.out)
            rcases Nat.eq_zero_or_pos k with rfl | hk0
            · have HS := Lib.hid (hcut.out.one hd.out hx2.1 hx2.2)
              have ha0 : acc = [] ∧ q = 0 := hcut.out.first rfl
              obtain ⟨rfl, rfl⟩ := ha0
              clear hcut
              simp only [Nat.add_zero] at hc
              go_wp2
              go_roundw
              case rel => exact ⟨1, [], x, by omega, by go_num, by go_num, HS, hown, hdeg, hne, hx, hbel⟩
              case measure => simp [intOf]; omega
            · have hkp : (0 : Int) < (k : Int) := by omega
              by_cases hbq : b < q + x
              · have HS := Lib.hid (hcut.out.new hk0 hd.out hx2.1 hx2.2 hbq)
                clear hcut
                go_wp2_with (at_builtin; refine wpList_append_any _ rfl (.tmp 38) (.tmp 40) 23 rfl (w.heap.size + 1) 3 i0 _ 1 8 Try.underlying23 hi hz0 hz1 hz2 rfl (by omega) _ acc.length (vi acc) rfl (hown.out.alloc _) (wr.heap.size + 1) (some ⟨wr.heap.size, 0, none⟩) 1 1 [.int .i64 k] rfl (i_reads _ _ _ _ rfl) (i_one _) (by simp only [maxLen]; omega) (by omega) (by have := hx.out.lt; simp; omega) ?_; intro v3 w3 hown3 hg3 hat3)
                go_roundw
                case rel => exact ⟨k + 1, acc ++ [(k : Int)], x, by omega, by go_num, by go_num, HS, Lib.hid (by rw [vi_snoc, List.length_append]; exact hown3), Lib.hid (own_other (hdeg.out.below (below_a1 _ _)) hg3 hne.out), Lib.hid (fun b1 o1 s1 h1 h2 => by
                  rcases hat3 with h3 | h3
                  · rw [h3] at h2; exact hne.out b1 o1 s1 h1 h2
                  · rw [h3] at h2; simp at h1 h2; omega), Lib.hid ((hx.out.below (below_a1 _ _)).keep hg3.size (hg3.block _ (hx.out.below (below_a1 _ _)).lt (fun hh => by
                    have := (hown.out.lt _ hh.symm).1
                    omega))), Lib.hid ((g_chain hbel.out (below_a1 _ _)).grown hg3 (by have := hbel.out.size; simp; omega) (fun j hj => by have := (hown.out.lt j hj).1; omega))⟩
                case measure => simp [intOf]; omega
              · have HS := Lib.hid (hcut.out.same hk0 hd.out hx2.1 hx2.2 (by omega))
                clear hcut
                go_wp2
                go_roundw
                case rel => exact ⟨k + 1, acc, q + x, by omega, by go_num, by go_num, HS, hown, hdeg, hne, hx, hbel⟩
                case measure => simp [intOf]; omega
          · obtain rfl : k = m2 := by omega
            have HC := Lib.hid (hcut.out.done HDL.out)
            obtain ⟨l0, x0, x1⟩ := hx.out
            obtain ⟨A3, c3, rfl⟩ := i_form hown.out
            clear hcut
            rcases Nat.eq_zero_or_pos k with rfl | hk0
            · have HC2 : Hid (cutFrom b 0 ds = acc) := Lib.hid (by rw [HC.out, if_pos rfl])
              go_wp2
              go_ret
              rw [HD.out, HC2.out]
              exact ⟨_, _, _, rfl, own_monoG hown.out (Nat.le_succ _), hbel.out⟩
            · have HC2 : Hid (cutFrom b 0 ds = acc ++ [(k : Int)]) := Lib.hid (by rw [HC.out, if_neg (by omega)])
              have hkp : (0 : Int) < (k : Int) := by omega
              go_wp2_with (at_builtin; refine wpList_append_any _ rfl (.tmp 49) (.tmp 52) 23 rfl (w.heap.size + 1) 3 i0 _ 1 8 Try.underlying23 hi hz0 hz1 hz2 rfl (by omega) _ acc.length (vi acc) rfl (hown.out.alloc _) (wr.heap.size + 1) (some ⟨wr.heap.size, 0, none⟩) 1 1 [.int .i64 k] rfl (i_reads _ _ _ _ rfl) (i_one _) (by simp only [maxLen]; omega) (by omega) (by have := hx.out.lt; simp; omega) ?_; intro v3 w3 hown3 hg3 hat3)
              obtain ⟨A4, c4, rfl⟩ := i_form hown3
              go_ret
              rw [HD.out, HC2.out]
              exact ⟨A4, _, c4, rfl, by unfold OwI; rw [vi_snoc]; exact own_monoG hown3 (Nat.le_succ _), (g_chain hbel.out (below_a1 _ _)).grown hg3 (by have := hbel.out.size; simp; omega) (fun j hj => by have := (hown.out.lt j hj).1; omega)⟩
end Go.Proofs.Ytpgnappddddlpaa
namespace Go.Proofs.Ytpgnappddddlpaa
open Go.RowKit Go.Shelf
attribute [local go_sem] Oper.semAt_some

/-- What the iterator reads between two rounds. -/
structure GrdIn (w0 : World) (B1 B2 : Nat) (A : Option Addr) (n c : Nat) (ds : List Int) (b : Int) : Prop where
  d : SlI w0 A n ds
  le : n ≤ 150
  b1 : 1 ≤ b
  b2 : b ≤ 400
  bd : ∀ x ∈ ds, 0 ≤ x ∧ x ≤ 400
  l1 : B1 < w0.heap.size
  l2 : B2 < w0.heap.size
  c1 : w0.cell? ⟨B1, 0, none⟩ = some (.slice A n c)
  c2 : w0.cell? ⟨B2, 0, none⟩ = some (.int .i64 b)

set_option maxRecDepth 100000 in
set_option maxHeartbeats 4000000 in
theorem greedy1_in (F : Fence) (m : Nat) (hf : F.fn 135) (hro : F.round = none) (hm : 1 ≤ m) (l B1 B2 : Nat) (A : Option Addr) (n c : Nat) (ds : List Int) (b : Int) (w0 : World) (hI : GrdIn w0 B1 B2 A n c ds b) (J Jx : List Int → World → Prop) (W : World) (hab : AbidesFrom W.heap.size J)
    (hY : ∀ pre x W, J pre W → pre.length < 150 → YieldAt F (m - 1) Try.prog l #[.int .i64 x] W fun e W' =>
      (e = .returned (.bool true) ∧ J (pre ++ [x]) W' ∧ Below w0.heap.size W W') ∨ (e = .returned (.bool false) ∧ Jx (pre ++ [x]) W'))
    (hW : Below w0.heap.size w0 W) (h0 : J [] W) :
    CallsIn F m Try.prog 135 #[.func (.yield l) #[] #[], .pointer (some ⟨B1, 0, none⟩), .pointer (some ⟨B2, 0, none⟩)] W fun e W' => (∃ v, e = .returned v) ∧
      ((∃ ys, ys = cutFrom b 0 ds ∧ J ys W') ∨ (∃ pre, pre <+: cutFrom b 0 ds ∧ Jx pre W')) := by
  have HI := Lib.hid hI
  have hn := hI.le
  have hb1 := hI.b1
  have hb2 := hI.b2
  clear hI
  rcases F with ⟨Ff, Fd, Fa, Fr⟩
  obtain rfl : Fr = none := hro
  refine callsIn_of_wp Try.func135 rfl hf ?_ rfl
  simp only [Try.ntmps135, List.size_toArray, List.length_cons, List.length_nil, Nat.reduceAdd, Nat.reduceSub, Array.replicate_succ, Array.replicate_zero, List.push_toArray, List.append_toArray, List.nil_append, List.cons_append]
  gi_wp2
  gi_loopw [4] (fun v wr => ∃ (k : Nat) (acc : List Int), k ≤ n ∧ acc.length ≤ k ∧ v = .int .i64 k ∧ Hid (CutTo b ds k acc) ∧ Hid (J acc wr) ∧ Hid (Below w0.heap.size w0 wr)) (fun v _ => n - (intOf v).toNat)
  case atStart => exact ⟨0, [], Nat.zero_le _, Nat.zero_le _, rfl, Lib.hid (CutTo.start b ds), Lib.hid h0, Lib.hid hW⟩
  case round =>
    obtain ⟨k, acc, hk, hal, rfl, hcut, hJ, hbel⟩ := hrel
    have d1 := (hbel.out.cell (p := ⟨B1, 0, none⟩) HI.out.l1).trans HI.out.c1
    have d2 := (hbel.out.cell (p := ⟨B2, 0, none⟩) HI.out.l2).trans HI.out.c2
    by_cases hlt : k < n
    · obtain ⟨bb, off, x, rfl, hbw, hd, hc⟩ := HI.out.d.at_ hlt
      have hx := HI.out.bd x (List.mem_of_getElem? hd.out)
      have hc := (hbel.out.cell (p := ⟨bb, off + k, none⟩) hbw).trans hc
      have HG := Lib.hid (hcut.out.go hd.out hx.1 hx.2)
      have HDL := Lib.hid HI.out.d.len
      clear hcut hd
      gi_wp2
      gi_quiet (fail)
      rename Nat => kq
      gi_wp2
      have hJ0 : J acc (wr.drewN kq) := hab acc wr _ none hJ.out (grownBy_drewN (World.grownBy.refl _ _) kq) (fun r e => by cases e)
      have HJ0 := Lib.hid hJ0
      have HB0 := Lib.hid (below_drewN hbel.out kq)
      clear hJ0 hJ hbel d1 d2 hc
      generalize wr.drewN kq = ws at HJ0 HB0 ⊢
      gi_loopw [5, 6] (fun h s wr => ∃ (j : Nat) (q : Int), k + 1 ≤ j ∧ j ≤ n ∧ h = .int .i64 j ∧ s = .int .i64 q ∧ Hid (CutIn b ds j acc q) ∧ Hid (J acc wr) ∧ Hid (Below w0.heap.size w0 wr)) (fun h _ _ => n - (intOf h).toNat)
      case atStart => exact ⟨k + 1, x, Nat.le_refl _, by omega, by go_num, by go_num, HG, HJ0, HB0⟩
      case round =>
        clear HJ0 HB0 HG
        obtain ⟨j, q, hkj, hj, rfl, rfl, hin, hJ, hbel⟩ := hrel
        have d1 := (hbel.out.cell (p := ⟨B1, 0, none⟩) HI.out.l1).trans HI.out.c1
        have d2 := (hbel.out.cell (p := ⟨B2, 0, none⟩) HI.out.l2).trans HI.out.c2
        have hq0 := hin.out.lo
        have hq1 := hin.out.hi
        by_cases hjl : j < n
        · obtain ⟨b', off', y, hA, hbw', hd, hc⟩ := HI.out.d.at_ hjl
          obtain ⟨rfl, rfl⟩ : bb = b' ∧ off = off' := by injection hA with hA; injection hA with h1 h2; exact ⟨h1, h2⟩
          have hy := HI.out.bd y (List.mem_of_getElem? hd.out)
          have hc := (hbel.out.cell (p := ⟨bb, off + j, none⟩) hbw).trans hc
          have hz : j < n := hjl
          by_cases hqb : q + y ≤ b
          · have HS := Lib.hid (hin.out.more hd.out hy.1 hy.2 hqb)
            clear hin hd hA
            gi_wp2
            gi_quiet (fail)
            rename Nat => k2
            gi_wp2
            go_roundw
            case rel => exact ⟨j + 1, q + y, by omega, by omega, by go_num, by go_num, HS, Lib.hid (hab acc wr _ none hJ.out (grownBy_drewN (World.grownBy.refl _ _) k2) (fun r e => by cases e)), Lib.hid (below_drewN hbel.out k2)⟩
            case measure => simp [intOf]; omega
          · have HS := Lib.hid (hin.out.new hd.out (by omega))
            clear hin hd hA
            gi_wp2
            gi_quiet (fail)
            rename Nat => k2
            have hJ2 : J acc (wr.drewN k2) := hab acc wr _ none hJ.out (grownBy_drewN (World.grownBy.refl _ _) k2) (fun r e => by cases e)
            obtain ⟨fn, tmps, assign, body, hy2, hR⟩ := hY acc (j : Int) _ hJ2 (by omega)
            gi_wp2
            refine hR.mono ?_
            rintro e W3 (⟨rfl, hJ3, hk3⟩ | ⟨rfl, hJx3⟩)
            · gi_wp2
              go_roundw
              case rel => exact ⟨j, acc ++ [(j : Int)], by omega, by simp; omega, by go_num, HS, Lib.hid hJ3, Lib.hid ((below_drewN hbel.out k2).trans hk3)⟩
              case measure => simp [intOf]; omega
            · gi_wp2
              refine bodyPost_ret (results_none rfl _ _ _) rfl ?_
              exact ⟨⟨_, rfl⟩, .inr ⟨_, HS.out.pre, hJx3⟩⟩
        · obtain rfl : j = n := by omega
          have HS := Lib.hid (hin.out.last HDL.out)
          clear hin
          gi_wp2
          gi_quiet (fail)
          rename Nat => k2
          have hJ2 : J acc (wr.drewN k2) := hab acc wr _ none hJ.out (grownBy_drewN (World.grownBy.refl _ _) k2) (fun r e => by cases e)
          obtain ⟨fn, tmps, assign, body, hy2, hR⟩ := hY acc (j : Int) _ hJ2 (by omega)
          gi_wp2
          refine hR.mono ?_
          rintro e W3 (⟨rfl, hJ3, hk3⟩ | ⟨rfl, hJx3⟩)
          · gi_wp2
            go_roundw
            case rel => exact ⟨j, acc ++ [(j : Int)], by omega, by simp; omega, by go_num, HS, Lib.hid hJ3, Lib.hid ((below_drewN hbel.out k2).trans hk3)⟩
            case measure => simp [intOf]; omega
          · gi_wp2
            refine bodyPost_ret (results_none rfl _ _ _) rfl ?_
            exact ⟨⟨_, rfl⟩, .inr ⟨_, HS.out.pre, hJx3⟩⟩
    · obtain rfl : k = n := by omega
      have HE := Lib.hid (hcut.out.done (by rw [HI.out.d.len]; exact Nat.le_refl _))
      gi_wp2
      go_end0
      exact ⟨⟨_, rfl⟩, .inl ⟨_, HE.out, hJ.out⟩⟩

theorem greedy_stops (F : Fence) (m : Nat) (hf : F.fn 135) (hro : F.round = none) (hm : 1 ≤ m) (B1 B2 : Nat) (A : Option Addr) (n c : Nat) (ds : List Int) (b : Int) (w0 : World) (hI : GrdIn w0 B1 B2 A n c ds b) :
    SeqStopsK F m Try.prog 135 #[.pointer (some ⟨B1, 0, none⟩), .pointer (some ⟨B2, 0, none⟩)] (fun x : Int => #[Value.int .i64 x]) (Below w0.heap.size) (fun ys => ys = cutFrom b 0 ds) (fun pre => pre <+: cutFrom b 0 ds) 150 w0 := fun l J Jx W hW hJ _ hY h0 =>
  greedy1_in F m hf hro hm l B1 B2 A n c ds b w0 hI J Jx W hJ hY hW h0

set_option maxHeartbeats 1000000 in
/-- The degrees and the budget are boxed; the function value captures both boxes. -/
theorem greedy_any (A : Option Addr) (n c : Nat) (b : Int) (w : World) :
    Calls Try.prog 94 #[.slice A n c, .int .i64 b] w fun e w' => e = .returned (.func (.func 135) #[] #[.pointer (some ⟨w.heap.size, 0, none⟩), .pointer (some ⟨w.heap.size + 1, 0, none⟩)]) ∧ w' = (w.alloc (.cells #[.slice A n c] 23)).alloc (.cells #[.int .i64 b] 3) := by
  go_enter Try.func94, Try.ntmps94
  go_wp2
  go_ret
  exact ⟨rfl, rfl⟩

def MadeS (w : World) (xs : List Int) (e : Ending) (w' : World) : Prop :=
  ∃ v, e = .returned v ∧ w'.ownsRow w.heap.size 3 1 v xs.length (vi xs) ∧ Below w.heap.size w w'

set_option maxRecDepth 100000 in
set_option maxHeartbeats 2000000 in
/-- slices.AppendSeq(nil, seq), for whatever iterator that keeps what lay. -/
theorem appendSeq_in (F : Fence) (m : Nat) (hf : F.fn 134) (hro : F.round = none) (hm : 2 ≤ m) (g : Nat) (lb : Array Value) (hFg : F.fn g) (eg : ∀ args w, (callFunc g args).run Try.prog w = .ok (.enter g args) w) (xs : List Int) (Sp : List Int → Prop) (w : World)
    (hseq : SeqStopsK F (m - 1) Try.prog g lb (fun x : Int => #[Value.int .i64 x]) (Below w.heap.size) (fun ys => ys = xs) Sp 150 w) :
    CallsIn F m Try.prog 134 #[.slice none 0 0, .func (.func g) #[] lb] w (MadeS w xs) := by
  have h1 : 1 ≤ m := by omega
  obtain ⟨i0, hi, hz0, hz1, hz2⟩ := info_parts Try.infoInt
  refine callsIn_of_wp_marks Try.func134 rfl hf ?_ hro
  simp only [Try.ntmps134, List.size_toArray, List.length_cons, List.length_nil, Nat.reduceAdd, Nat.reduceSub, Array.replicate_succ, Array.replicate_zero, List.push_toArray, List.append_toArray, List.nil_append, List.cons_append]
  gi_wp2
  have bO := Boxed.new w 23 (.slice none 0 0)
  have hB0 : Below w.heap.size w (w.alloc (.cells #[.slice none 0 0] 23)) := below_a1 _ _
  refine wpIn_rangeFunc_ownG hro h1 (gf := g) (lb := lb) rfl hFg eg hseq belowK_t (belowK_b (by simp)) hB0 (fun _ => rfl)
    (fun pre W => (∃ v, Boxed W w.heap.size 23 v ∧ W.ownsRow w.heap.size 3 1 v pre.length (pre.map (Value.int .i64)) ∧ (v = .slice none 0 0 ↔ pre = [])) ∧ Below w.heap.size w W)
    (fun _ _ _ => False)
    (OwnFrom.and (Own.from (holdsRow_own w.heap.size w.heap.size 23 3 1 (fun pre : List Int => pre.length) (fun pre => pre.map (Value.int .i64)) (fun pre v => v = .slice none 0 0 ↔ pre = [])) _) (ownFrom_below (Nat.le_refl _) (by simp)))
    (fun _ _ _ _ _ hs _ _ => hs)
    ⟨⟨_, bO, World.ownsRow_nil _ _ _ _, by simp⟩, hB0⟩
    (fun x => { tmps := #[.slice none 0 0, .func (.func g) #[] lb, .pointer (some ⟨w.heap.size, 0, none⟩), undef, .slice none 0 0, .int .i64 x, .func (.func g) #[] lb, .int .i64 x, undef, undef, undef, undef, undef], defers := [] }) ?assign ?body ?done ?stop
  case assign =>
    intro l x W K hK
    gi_wp2
    exact hK
  case body =>
    rintro l pre x W ⟨⟨v, hv, hrow, hnil⟩, hB⟩ hlt
    have hc := hv.cell
    gi_wp2_with (gi_at_builtin; refine wpListIn_append_own _ rfl _ _ 23 rfl w.heap.size 3 i0 (.int .i64 0) 1 8 Try.underlying23 hi hz0 hz1 hz2 rfl (by decide) _ _ _ rfl (hrow.alloc _) ⟨W.heap.size, 0, none⟩ 1 1 [.int .i64 x] rfl rfl (cell_one_new _ _ _) (by simp [Value.oneCell']) (by simp only [maxLen]; omega) (by omega) (by have := hB.size; simp; omega) ?_; intro v' w1 hown' hgrow _; obtain ⟨g', cap', rfl⟩ := ownsRow_succ hown'; obtain ⟨hv1, hv2, hr2, hk2, hb2⟩ := hv.appended (by decide) hrow hB.size (Nat.le_refl _) hown' hgrow; have hc1 := hv1.cell; have hf1 := hv1.frozen)
    exact ⟨hk2.from _, hb2, ⟨_, hv2, by simpa using hr2, by simp⟩, hB.trans hb2⟩
  case done =>
    rintro D ys W hD rfl ⟨⟨v, hv, hrow, hnil⟩, hB⟩ hK
    have hc := hv.cell
    gi_wp2
    refine ⟨by simp, .inl ⟨_, _, rfl, run_takeDeferred hK, ?_⟩⟩
    exact ⟨_, results_tmp rfl _ _ _, v, rfl, ownsRow_putObj hrow _ hK rfl, hB.trans (belowK_b (w := w) (Nat.le_refl _) W D _ _ (by simp at hD; omega) hK rfl rfl)⟩
  case stop =>
    rintro D c pre W _ _ h _
    exact h.elim

set_option maxHeartbeats 1000000 in
theorem collect_any (B1 B2 : Nat) (A : Option Addr) (n c : Nat) (ds : List Int) (b : Int) (w : World) (hI : GrdIn w B1 B2 A n c ds b) :
    Calls Try.prog 93 #[.func (.func 135) #[] #[.pointer (some ⟨B1, 0, none⟩), .pointer (some ⟨B2, 0, none⟩)]] w (MadeS w (cutFrom b 0 ds)) := by
  have C := Lib.hid (callsIn_wide.1 (appendSeq_in Fence.wide 3 trivial rfl (by omega) 135 _ trivial (enters_of Try.func135 (by kernel_rfl) rfl) (cutFrom b 0 ds) _ w (greedy_stops Fence.wide 2 trivial rfl (by omega) B1 B2 A n c ds b w hI)))
  clear hI
  go_enter Try.func93, Try.ntmps93
  go_wp2_with fail
  refine C.out.mono ?_
  rintro e w1 ⟨v, rfl, ho, hb⟩
  obtain ⟨A2, c2, rfl⟩ := i_form ho
  go_wp2
  go_ret
  exact ⟨_, rfl, ho, hb⟩
end Go.Proofs.Ytpgnappddddlpaa
