/- Runs in memory as data: a run, its views, one vertex, one iteration (no program; no condition). -/
import Derived.Test.YtlhcobkncceodaaGreatDoorSetMath
import Derived.Test.YtlhcobkncceodaaGreatDoorProgMath
import Derived.Test.YtlhcobkncceodaaGreatDoorCK
namespace Go.Proofs.YtlhcobkncceodaaGreatDoor
open Go.RowKit

structure RD where
  p : Int
  s : Int
  it : Int
  dn : Bool
  vs : List Int
  ev : List Int
  nn : Int
  nx : List Nat
def valsB (l : List Int) : Bool := l.all valB
def runB (N : Int) (G : List GE) (r : RD) : Bool :=
  graphB N G && (jobB N r.p r.s && (decide (0 ≤ r.it ∧ r.it ≤ 1000) && (decide ((r.vs.length : Int) = N ∧ r.ev.length = G.length) && (valsB r.vs && (valsB r.ev && (setB r.nn r.nx && (decide (r.nn = N) && (r.dn == decide ((memsB r.nn r.nx).length = 0)))))))) )
def edgeAt (G : List GE) (i : Nat) : GE := G.getD i zeroG
def otherE (e : GE) (v : Int) : Int := if e.f = v then e.t else e.f
def incB (v : Int) (e : GE) : Bool := decide (e.f = v) || decide (e.t = v)
def viewE (v : Int) (e : GE) (x : Int) : VE := ⟨decide (e.t = v), decide (e.f = v), e.w, x⟩
def idxT (G : List GE) (v : Int) (k : Nat) : List Nat := (List.range k).filter fun i => incB v (edgeAt G i)
def viewAt (G : List GE) (E : List Int) (v : Int) (i : Nat) : VE := viewE v (edgeAt G i) (E.getD i 0)
def viewsT (G : List GE) (E : List Int) (v : Int) (k : Nat) : List VE := (idxT G v k).map (viewAt G E v)
/-- What an iteration works on: the values, those of the edges, the next set and the present one. -/
structure SD where
  vs : List Int
  ev : List Int
  nx : List Nat
  nw : List Nat
def estep (N : Int) (G : List GE) (v : Int) (f : Nat → Int) (S : SD) (i : Nat) : SD :=
  if f i = S.ev.getD i 0 then S
  else if v < otherE (edgeAt G i) v then ⟨S.vs, S.ev.set i (f i), S.nx, withX N S.nw (otherE (edgeAt G i) v)⟩
  else ⟨S.vs, S.ev.set i (f i), withX N S.nx (otherE (edgeAt G i) v), S.nw⟩
def newAt (p : Int) (G : List GE) (S : SD) (v : Nat) : Int := newVal p (S.vs.getD v 0) (viewsT G S.ev v G.length)
def edgeNew (p : Int) (G : List GE) (S : SD) (v : Nat) (i : Nat) : Int := newEdge p (newAt p G S v) (outsN (viewsT G S.ev v G.length)) (viewAt G S.ev v i)
def vstep (p N : Int) (G : List GE) (S : SD) (v : Nat) : SD :=
  (idxT G v G.length).foldl (estep N G v (edgeNew p G S v)) ⟨S.vs.set v (newAt p G S v), S.ev, S.nx, S.nw⟩
def pass (p N : Int) (G : List GE) (S : SD) : Nat → SD
  | 0 => S
  | k + 1 => if bitN (pass p N G S k).nw k then vstep p N G (pass p N G S k) k else pass p N G S k
def startS (N : Int) (r : RD) : SD := ⟨r.vs, r.ev, newX N false, r.nx⟩
def iterR (N : Int) (G : List GE) (r : RD) : RD :=
  let T := pass r.p N G (startS N r) N.toNat
  ⟨r.p, r.s, r.it + 1, decide ((memsB N T.nx).length = 0), T.vs, T.ev, N, T.nx⟩
def iterB (N : Int) (G : List GE) (r : RD) : Bool := runB N G r && (!r.dn && decide (r.it ≠ 1000))
def allR (N : Int) (G : List GE) (r : RD) : Nat → RD
  | 0 => r
  | k + 1 => if iterB N G r then allR N G (iterR N G r) k else r

/-! ### which edges a vertex sees -/
theorem idx_mem {G : List GE} {v : Int} {k i : Nat} : i ∈ idxT G v k ↔ i < k ∧ incB v (edgeAt G i) = true := by
  unfold idxT
  rw [List.mem_filter, List.mem_range]
theorem idx_nodup (G : List GE) (v : Int) (k : Nat) : (idxT G v k).Nodup := List.Pairwise.sublist List.filter_sublist List.nodup_range
theorem idx_step (G : List GE) (v : Int) (k : Nat) : idxT G v (k + 1) = if incB v (edgeAt G k) then idxT G v k ++ [k] else idxT G v k := by
  unfold idxT
  rw [List.range_succ, List.filter_append]
  cases h : incB v (edgeAt G k) <;> simp [h]
theorem idx_len (G : List GE) (v : Int) (k : Nat) : (idxT G v k).length ≤ k := by
  unfold idxT
  exact Nat.le_trans (List.length_filter_le _ _) (by rw [List.length_range]; exact Nat.le_refl _)
theorem edgeAt_mem {G : List GE} {i : Nat} (h : i < G.length) : edgeAt G i ∈ G := by
  unfold edgeAt
  rw [List.getD_eq_getElem?_getD, List.getElem?_eq_getElem h]
  exact List.getElem_mem h
theorem edge_in {N : Nat} {G : List GE} (hG : graphB (N : Int) G = true) {i : Nat} (h : i < G.length) : 0 ≤ (edgeAt G i).f ∧ (edgeAt G i).f < N ∧ 0 ≤ (edgeAt G i).t ∧ (edgeAt G i).t < N ∧ 0 ≤ (edgeAt G i).w ∧ (edgeAt G i).w ≤ 1000 := edgeB_iff ((graphB_iff hG).2.2.2 _ (edgeAt_mem h))
theorem other_in {N : Nat} {G : List GE} (hG : graphB (N : Int) G = true) {i : Nat} (h : i < G.length) (v : Int) : 0 ≤ otherE (edgeAt G i) v ∧ otherE (edgeAt G i) v < N := by
  have := edge_in hG h
  unfold otherE
  split <;> omega

/-! ### what stands for a state -/
structure Good (p : Int) (N : Nat) (G : List GE) (S : SD) : Prop where
  vl : S.vs.length = N
  el : S.ev.length = G.length
  vv : ∀ x ∈ S.vs, 0 ≤ x ∧ x ≤ 1099511627776
  ee : ∀ x ∈ S.ev, 0 ≤ x ∧ x ≤ 1099511627776
  nx : setB (N : Int) S.nx = true
  nw : setB (N : Int) S.nw = true
  nxs : ∀ x ∈ S.nx, x < 256
  nws : ∀ x ∈ S.nw, x < 256
theorem getD_in {l : List Int} {P : Int → Prop} (h : ∀ x ∈ l, P x) {i : Nat} (hi : i < l.length) : P (l.getD i 0) := by
  rw [List.getD_eq_getElem?_getD, List.getElem?_eq_getElem hi]
  exact h _ (List.getElem_mem hi)
theorem view_ok {p : Int} {N : Nat} {G : List GE} {S : SD} (hG : graphB (N : Int) G = true) (h : Good p N G S) {v : Int} {i : Nat} (hi : i ∈ idxT G v G.length) : (viewAt G S.ev v i).ok = true := by
  obtain ⟨h1, h2⟩ := idx_mem.1 hi
  have h3 := edge_in hG h1
  have h4 := getD_in h.ee (i := i) (by rw [h.el]; exact h1)
  unfold incB at h2
  unfold viewAt viewE VE.ok valB
  simp only [Bool.and_eq_true, Bool.or_eq_true, decide_eq_true_eq] at h2 ⊢
  exact ⟨h2.symm, ⟨h3.2.2.2.2.1, h3.2.2.2.2.2⟩, h4⟩
theorem views_ok {p : Int} {N : Nat} {G : List GE} {S : SD} (hG : graphB (N : Int) G = true) (h : Good p N G S) (v : Int) : ∀ e ∈ viewsT G S.ev v G.length, e.ok = true := by
  intro e he
  obtain ⟨i, hi, rfl⟩ := List.mem_map.1 he
  exact view_ok hG h hi
theorem views_len (G : List GE) (E : List Int) (v : Int) (k : Nat) : (viewsT G E v k).length ≤ k := by unfold viewsT; rw [List.length_map]; exact idx_len _ _ _
/-- An update in a good state is a valid one. -/
theorem upd_good {p : Int} {N : Nat} {G : List GE} {S : SD} (hp : 1 ≤ p ∧ p ≤ 4) (hG : graphB (N : Int) G = true) (h : Good p N G S) {v : Nat} (hv : v < N) : updB p (v : Int) (S.vs.getD v 0) (viewsT G S.ev v G.length) = true := by
  have h1 := graphB_iff hG
  have h2 := getD_in h.vv (i := v) (by rw [h.vl]; exact hv)
  have h3 := views_len G S.ev v G.length
  unfold updB progB vtxB valB viewsB
  simp only [Bool.and_eq_true, decide_eq_true_eq, List.all_eq_true]
  exact ⟨hp, by omega, h2, by omega, views_ok hG h v⟩

/-! ### one edge after the other -/
theorem set_getD (l : List Int) (i j : Nat) (x : Int) (hi : i < l.length) : (l.set i x).getD j 0 = if j = i then x else l.getD j 0 := by
  rw [List.getD_eq_getElem?_getD, List.getD_eq_getElem?_getD, List.getElem?_set]
  by_cases h : i = j
  · subst h; rw [if_pos rfl, if_pos hi, if_pos rfl]; rfl
  · rw [if_neg h, if_neg (fun e => h e.symm)]
theorem set_all {l : List Int} {P : Int → Prop} (h : ∀ x ∈ l, P x) (i : Nat) {y : Int} (hy : P y) : ∀ x ∈ l.set i y, P x := fun x hx => by
  rcases List.mem_or_eq_of_mem_set hx with h1 | rfl
  · exact h x h1
  · exact hy
theorem with_is {N : Nat} {ys : List Nat} (h : setB (N : Int) ys = true) {u : Int} (hu : 0 ≤ u ∧ u < N) : withX (N : Int) ys u = addV ys u.toNat := by
  unfold withX
  rw [if_pos h, if_pos hu]
theorem with_ok {N : Nat} {ys : List Nat} (h : setB (N : Int) ys = true) {u : Int} (hu : 0 ≤ u ∧ u < N) : setB (N : Int) (withX (N : Int) ys u) = true := by
  rw [with_is h hu]
  exact setB_add h (by rw [Int.toNat_natCast]; omega)
theorem with_bit {N : Nat} {ys : List Nat} (h : setB (N : Int) ys = true) {u : Int} (hu : 0 ≤ u ∧ u < N) (q : Nat) : bitN (withX (N : Int) ys u) q = true ↔ ((q : Int) = u ∨ bitN ys q = true) := by
  rw [with_is h hu, bit_addV (by rw [(setB_dim h).2.2]; exact lt_bytes (by rw [Int.toNat_natCast]; omega)), Bool.or_eq_true, decide_eq_true_iff]
  constructor
  · rintro (h1 | h1)
    · left; omega
    · exact .inr h1
  · rintro (h1 | h1)
    · left; omega
    · exact .inr h1
structure Stepped (p : Int) (N : Nat) (G : List GE) (v : Int) (f : Nat → Int) (J : List Nat) (S T : SD) : Prop where
  vs : T.vs = S.vs
  el : T.ev.length = S.ev.length
  ev : ∀ j, T.ev.getD j 0 = if j ∈ J then f j else S.ev.getD j 0
  nx : setB (N : Int) T.nx = true
  nw : setB (N : Int) T.nw = true
  nxs : (∀ x ∈ S.nx, x < 256) → ∀ x ∈ T.nx, x < 256
  nws : (∀ x ∈ S.nw, x < 256) → ∀ x ∈ T.nw, x < 256
  bw : ∀ q, bitN T.nw q = true ↔ (bitN S.nw q = true ∨ ∃ j ∈ J, f j ≠ S.ev.getD j 0 ∧ otherE (edgeAt G j) v = (q : Int) ∧ v < (q : Int))
  bx : ∀ q, bitN T.nx q = true ↔ (bitN S.nx q = true ∨ ∃ j ∈ J, f j ≠ S.ev.getD j 0 ∧ otherE (edgeAt G j) v = (q : Int) ∧ ¬ v < (q : Int))
theorem fold_step {p : Int} {N : Nat} {G : List GE} (hG : graphB (N : Int) G = true) (v : Int) (f : Nat → Int) : ∀ (J : List Nat) (S : SD), J.Nodup → (∀ i ∈ J, i < S.ev.length ∧ i < G.length) → setB (N : Int) S.nx = true → setB (N : Int) S.nw = true → Stepped p N G v f J S (J.foldl (estep (N : Int) G v f) S)
  | [], S, _, _, h1, h2 => ⟨rfl, rfl, fun j => by simp, h1, h2, fun h => h, fun h => h, fun q => by simp, fun q => by simp⟩
  | i :: J, S, hd, hl, h1, h2 => by
    rw [List.foldl_cons]
    obtain ⟨hi, hd'⟩ := List.nodup_cons.1 hd
    have hil := hl i List.mem_cons_self
    have ho := other_in hG hil.2 v
    by_cases hq : f i = S.ev.getD i 0
    · have e : estep (N : Int) G v f S i = S := by unfold estep; rw [if_pos hq]
      rw [e]
      have ih := fold_step (p := p) hG v f J S hd' (fun j hj => hl j (List.mem_cons_of_mem _ hj)) h1 h2
      refine ⟨ih.vs, ih.el, fun j => ?_, ih.nx, ih.nw, ih.nxs, ih.nws, fun q => ?_, fun q => ?_⟩
      · rw [ih.ev j]
        by_cases hj : j = i
        · subst hj; rw [if_neg hi, if_pos List.mem_cons_self, hq]
        · simp [hj]
      · rw [ih.bw q]
        constructor
        · rintro (h | ⟨j, hj, h⟩)
          · exact .inl h
          · exact .inr ⟨j, List.mem_cons_of_mem _ hj, h⟩
        · rintro (h | ⟨j, hj, h⟩)
          · exact .inl h
          · rcases List.mem_cons.1 hj with rfl | hj
            · exact absurd hq h.1
            · exact .inr ⟨j, hj, h⟩
      · rw [ih.bx q]
        constructor
        · rintro (h | ⟨j, hj, h⟩)
          · exact .inl h
          · exact .inr ⟨j, List.mem_cons_of_mem _ hj, h⟩
        · rintro (h | ⟨j, hj, h⟩)
          · exact .inl h
          · rcases List.mem_cons.1 hj with rfl | hj
            · exact absurd hq h.1
            · exact .inr ⟨j, hj, h⟩
    · have hev : ∀ j, (S.ev.set i (f i)).getD j 0 = if j = i then f i else S.ev.getD j 0 := fun j => set_getD _ _ _ _ hil.1
      have hJ : ∀ j ∈ J, j ≠ i := fun j hj e => hi (by rw [← e]; exact hj)
      by_cases hv : v < otherE (edgeAt G i) v
      · have e : estep (N : Int) G v f S i = ⟨S.vs, S.ev.set i (f i), S.nx, withX (N : Int) S.nw (otherE (edgeAt G i) v)⟩ := by unfold estep; rw [if_neg hq, if_pos hv]
        rw [e]
        have ih := fold_step (p := p) hG v f J ⟨S.vs, S.ev.set i (f i), S.nx, withX (N : Int) S.nw (otherE (edgeAt G i) v)⟩ hd' (fun j hj => by simp only [List.length_set]; exact hl j (List.mem_cons_of_mem _ hj)) h1 (with_ok h2 ho)
        refine ⟨ih.vs, by rw [ih.el]; simp, fun j => ?_, ih.nx, ih.nw, ih.nxs, fun h => ih.nws (withX_small h _), fun q => ?_, fun q => ?_⟩
        · rw [ih.ev j]
          by_cases hj : j = i
          · subst hj; rw [if_neg hi, if_pos List.mem_cons_self, hev, if_pos rfl]
          · by_cases hj2 : j ∈ J
            · rw [if_pos hj2, if_pos (List.mem_cons_of_mem _ hj2)]
            · rw [if_neg hj2, if_neg (by simp [hj, hj2]), hev, if_neg hj]
        · rw [ih.bw q, with_bit h2 ho]
          constructor
          · rintro ((h | h) | ⟨j, hj, h⟩)
            · exact .inr ⟨i, List.mem_cons_self, hq, h.symm, by omega⟩
            · exact .inl h
            · refine .inr ⟨j, List.mem_cons_of_mem _ hj, ?_⟩
              have h9 := hev j
              rw [if_neg (hJ j hj)] at h9
              simp only [h9] at h
              exact h
          · rintro (h | ⟨j, hj, h⟩)
            · exact .inl (.inr h)
            · rcases List.mem_cons.1 hj with rfl | hj
              · exact .inl (.inl h.2.1.symm)
              · refine .inr ⟨j, hj, ?_⟩
                have h9 := hev j
                rw [if_neg (hJ j hj)] at h9
                simp only [h9]
                exact h
        · rw [ih.bx q]
          constructor
          · rintro (h | ⟨j, hj, h⟩)
            · exact .inl h
            · refine .inr ⟨j, List.mem_cons_of_mem _ hj, ?_⟩
              have h9 := hev j
              rw [if_neg (hJ j hj)] at h9
              simp only [h9] at h
              exact h
          · rintro (h | ⟨j, hj, h⟩)
            · exact .inl h
            · rcases List.mem_cons.1 hj with rfl | hj
              · exact absurd (by rw [← h.2.1]; exact hv) h.2.2
              · refine .inr ⟨j, hj, ?_⟩
                have h9 := hev j
                rw [if_neg (hJ j hj)] at h9
                simp only [h9]
                exact h
      · have e : estep (N : Int) G v f S i = ⟨S.vs, S.ev.set i (f i), withX (N : Int) S.nx (otherE (edgeAt G i) v), S.nw⟩ := by unfold estep; rw [if_neg hq, if_neg hv]
        rw [e]
        have ih := fold_step (p := p) hG v f J ⟨S.vs, S.ev.set i (f i), withX (N : Int) S.nx (otherE (edgeAt G i) v), S.nw⟩ hd' (fun j hj => by simp only [List.length_set]; exact hl j (List.mem_cons_of_mem _ hj)) (with_ok h1 ho) h2
        refine ⟨ih.vs, by rw [ih.el]; simp, fun j => ?_, ih.nx, ih.nw, fun h => ih.nxs (withX_small h _), ih.nws, fun q => ?_, fun q => ?_⟩
        · rw [ih.ev j]
          by_cases hj : j = i
          · subst hj; rw [if_neg hi, if_pos List.mem_cons_self, hev, if_pos rfl]
          · by_cases hj2 : j ∈ J
            · rw [if_pos hj2, if_pos (List.mem_cons_of_mem _ hj2)]
            · rw [if_neg hj2, if_neg (by simp [hj, hj2]), hev, if_neg hj]
        · rw [ih.bw q]
          constructor
          · rintro (h | ⟨j, hj, h⟩)
            · exact .inl h
            · refine .inr ⟨j, List.mem_cons_of_mem _ hj, ?_⟩
              have h9 := hev j
              rw [if_neg (hJ j hj)] at h9
              simp only [h9] at h
              exact h
          · rintro (h | ⟨j, hj, h⟩)
            · exact .inl h
            · rcases List.mem_cons.1 hj with rfl | hj
              · exact absurd h.2.2 (by rw [← h.2.1]; exact hv)
              · refine .inr ⟨j, hj, ?_⟩
                have h9 := hev j
                rw [if_neg (hJ j hj)] at h9
                simp only [h9]
                exact h
        · rw [ih.bx q, with_bit h1 ho]
          constructor
          · rintro ((h | h) | ⟨j, hj, h⟩)
            · exact .inr ⟨i, List.mem_cons_self, hq, h.symm, by rw [h]; exact hv⟩
            · exact .inl h
            · refine .inr ⟨j, List.mem_cons_of_mem _ hj, ?_⟩
              have h9 := hev j
              rw [if_neg (hJ j hj)] at h9
              simp only [h9] at h
              exact h
          · rintro (h | ⟨j, hj, h⟩)
            · exact .inl (.inr h)
            · rcases List.mem_cons.1 hj with rfl | hj
              · exact .inl (.inl h.2.1.symm)
              · refine .inr ⟨j, hj, ?_⟩
                have h9 := hev j
                rw [if_neg (hJ j hj)] at h9
                simp only [h9]
                exact h
end Go.Proofs.YtlhcobkncceodaaGreatDoor
