/- Runs in memory as data: a run, its views, one vertex, one iteration (no program; no condition). // A run in memory: eight cells, two lists of numbers and a list of bytes, read or owned (plain lemmas over the model; no condition). // The contracts of the two helpers of the laws: 'toByteS' makes a copy of a slice of bytes in new memory; 'eqByteS' of two slices that read as the same bytes returns true and writes nothing. Condition: at most 2^21 bytes. // Words for data with depth (plain lemmas over the model; no condition): 'RdR lo hi w s cs d': the cells cs read in w as the datum d of the shape s, and every row that is looked into lies in a block from lo on and below hi; such a reading is kept where these blocks are. // Frames: the contracts of the laws' helpers on them (measures, copies, comparisons), of the functions that ask whether a frame is valid, the opening of an argument that is a frame. // A block that holds a frame. // Sets in memory: a block that holds one, what a call that makes one leaves (plain lemmas over the model; no condition). // Blocks that hold a run in memory, and may be written; rows of the call's own beside them (plain lemmas over the model; no condition). // What an update gives lies in the limits; an update done twice is done once (data only; no condition). -/
import Derived.Test.YtlhcobkncceodaaGreatDoorCGB
import Derived.Test.YtlhcobkncceodaaGreatDoorCGA
import Derived.WalkKit
import Derived.Below
import Derived.Laws.Rows
import Derived.Laws.OwnMore
import Derived.Deep.Draws
import Derived.Lib.Hide
import Derived.ChangeArms
import Derived.DataReads
import Derived.Deep.QuietTactic
import Derived.BigQuiet
namespace Go.Proofs.YtlhcobkncceodaaGreatDoor
open Go.RowKit

structure RD where
  p : Int
  s : Int
  it : Int
  dn : Bool
  vs : List Int
  ev : List Int
  nn : Int
  nx : List Nat
def valsB (l : List Int) : Bool := l.all valB
def runB (N : Int) (G : List GE) (r : RD) : Bool :=
  graphB N G && (jobB N r.p r.s && (decide (0 ≤ r.it ∧ r.it ≤ 1000) && (decide ((r.vs.length : Int) = N ∧ r.ev.length = G.length) && (valsB r.vs && (valsB r.ev && (setB r.nn r.nx && (decide (r.nn = N) && (r.dn == decide ((memsB r.nn r.nx).length = 0)))))))) )
def edgeAt (G : List GE) (i : Nat) : GE := G.getD i zeroG
def otherE (e : GE) (v : Int) : Int := if e.f = v then e.t else e.f
def incB (v : Int) (e : GE) : Bool := decide (e.f = v) || decide (e.t = v)
def viewE (v : Int) (e : GE) (x : Int) : VE := ⟨decide (e.t = v), decide (e.f = v), e.w, x⟩
def idxT (G : List GE) (v : Int) (k : Nat) : List Nat := (List.range k).filter fun i => incB v (edgeAt G i)
def viewAt (G : List GE) (E : List Int) (v : Int) (i : Nat) : VE := viewE v (edgeAt G i) (E.getD i 0)
def viewsT (G : List GE) (E : List Int) (v : Int) (k : Nat) : List VE := (idxT G v k).map (viewAt G E v)
/-- What an iteration works on: the values, those of the edges, the next set and the present one. -/
structure SD where
  vs : List Int
  ev : List Int
  nx : List Nat
  nw : List Nat
def estep (N : Int) (G : List GE) (v : Int) (f : Nat → Int) (S : SD) (i : Nat) : SD :=
  if f i = S.ev.getD i 0 then S
  else if v < otherE (edgeAt G i) v then ⟨S.vs, S.ev.set i (f i), S.nx, withX N S.nw (otherE (edgeAt G i) v)⟩
  else ⟨S.vs, S.ev.set i (f i), withX N S.nx (otherE (edgeAt G i) v), S.nw⟩
def newAt (p : Int) (G : List GE) (S : SD) (v : Nat) : Int := newVal p (S.vs.getD v 0) (viewsT G S.ev v G.length)
def edgeNew (p : Int) (G : List GE) (S : SD) (v : Nat) (i : Nat) : Int := newEdge p (newAt p G S v) (outsN (viewsT G S.ev v G.length)) (viewAt G S.ev v i)
def vstep (p N : Int) (G : List GE) (S : SD) (v : Nat) : SD :=
  (idxT G v G.length).foldl (estep N G v (edgeNew p G S v)) ⟨S.vs.set v (newAt p G S v), S.ev, S.nx, S.nw⟩
def pass (p N : Int) (G : List GE) (S : SD) : Nat → SD
  | 0 => S
  | k + 1 => if bitN (pass p N G S k).nw k then vstep p N G (pass p N G S k) k else pass p N G S k
def startS (N : Int) (r : RD) : SD := ⟨r.vs, r.ev, newX N false, r.nx⟩
def iterR (N : Int) (G : List GE) (r : RD) : RD :=
  let T := pass r.p N G (startS N r) N.toNat
  ⟨r.p, r.s, r.it + 1, decide ((memsB N T.nx).length = 0), T.vs, T.ev, N, T.nx⟩
def iterB (N : Int) (G : List GE) (r : RD) : Bool := runB N G r && (!r.dn && decide (r.it ≠ 1000))
def allR (N : Int) (G : List GE) (r : RD) : Nat → RD
  | 0 => r
  | k + 1 => if iterB N G r then allR N G (iterR N G r) k else r

/-! ### which edges a vertex sees -/
theorem idx_mem {G : List GE} {v : Int} {k i : Nat} : i ∈ idxT G v k ↔ i < k ∧ incB v (edgeAt G i) = true := by
  unfold idxT
  rw [List.mem_filter, List.mem_range]
theorem idx_nodup (G : List GE) (v : Int) (k : Nat) : (idxT G v k).Nodup := List.Pairwise.sublist List.filter_sublist List.nodup_range
theorem idx_step (G : List GE) (v : Int) (k : Nat) : idxT G v (k + 1) = if incB v (edgeAt G k) then idxT G v k ++ [k] else idxT G v k := by
  unfold idxT
  rw [List.range_succ, List.filter_append]
  cases h : incB v (edgeAt G k) <;> simp [h]
theorem idx_len (G : List GE) (v : Int) (k : Nat) : (idxT G v k).length ≤ k := by
  unfold idxT
  exact Nat.le_trans (List.length_filter_le _ _) (by rw [List.length_range]; exact Nat.le_refl _)
theorem edgeAt_mem {G : List GE} {i : Nat} (h : i < G.length) : edgeAt G i ∈ G := by
  unfold edgeAt
  rw [List.getD_eq_getElem?_getD, List.getElem?_eq_getElem h]
  exact List.getElem_mem h
theorem edge_in {N : Nat} {G : List GE} (hG : graphB (N : Int) G = true) {i : Nat} (h : i < G.length) : 0 ≤ (edgeAt G i).f ∧ (edgeAt G i).f < N ∧ 0 ≤ (edgeAt G i).t ∧ (edgeAt G i).t < N ∧ 0 ≤ (edgeAt G i).w ∧ (edgeAt G i).w ≤ 1000 := edgeB_iff ((graphB_iff hG).2.2.2 _ (edgeAt_mem h))
theorem other_in {N : Nat} {G : List GE} (hG : graphB (N : Int) G = true) {i : Nat} (h : i < G.length) (v : Int) : 0 ≤ otherE (edgeAt G i) v ∧ otherE (edgeAt G i) v < N := by
  have := edge_in hG h
  unfold otherE
  split <;> omega

/-! ### what stands for a state -/
structure Good (p : Int) (N : Nat) (G : List GE) (S : SD) : Prop where
  vl : S.vs.length = N
  el : S.ev.length = G.length
  vv : ∀ x ∈ S.vs, 0 ≤ x ∧ x ≤ 1099511627776
  ee : ∀ x ∈ S.ev, 0 ≤ x ∧ x ≤ 1099511627776
  nx : setB (N : Int) S.nx = true
  nw : setB (N : Int) S.nw = true
  nxs : ∀ x ∈ S.nx, x < 256
  nws : ∀ x ∈ S.nw, x < 256
theorem getD_in {l : List Int} {P : Int → Prop} (h : ∀ x ∈ l, P x) {i : Nat} (hi : i < l.length) : P (l.getD i 0) := by
  rw [List.getD_eq_getElem?_getD, List.getElem?_eq_getElem hi]
  exact h _ (List.getElem_mem hi)
theorem view_ok {p : Int} {N : Nat} {G : List GE} {S : SD} (hG : graphB (N : Int) G = true) (h : Good p N G S) {v : Int} {i : Nat} (hi : i ∈ idxT G v G.length) : (viewAt G S.ev v i).ok = true := by
  obtain ⟨h1, h2⟩ := idx_mem.1 hi
  have h3 := edge_in hG h1
  have h4 := getD_in h.ee (i := i) (by rw [h.el]; exact h1)
  unfold incB at h2
  unfold viewAt viewE VE.ok valB
  simp only [Bool.and_eq_true, Bool.or_eq_true, decide_eq_true_eq] at h2 ⊢
  exact ⟨h2.symm, ⟨h3.2.2.2.2.1, h3.2.2.2.2.2⟩, h4⟩
theorem views_ok {p : Int} {N : Nat} {G : List GE} {S : SD} (hG : graphB (N : Int) G = true) (h : Good p N G S) (v : Int) : ∀ e ∈ viewsT G S.ev v G.length, e.ok = true := by
  intro e he
  obtain ⟨i, hi, rfl⟩ := List.mem_map.1 he
  exact view_ok hG h hi
theorem views_len (G : List GE) (E : List Int) (v : Int) (k : Nat) : (viewsT G E v k).length ≤ k := by unfold viewsT; rw [List.length_map]; exact idx_len _ _ _
/-- An update in a good state is a valid one. -/
theorem upd_good {p : Int} {N : Nat} {G : List GE} {S : SD} (hp : 1 ≤ p ∧ p ≤ 4) (hG : graphB (N : Int) G = true) (h : Good p N G S) {v : Nat} (hv : v < N) : updB p (v : Int) (S.vs.getD v 0) (viewsT G S.ev v G.length) = true := by
  have h1 := graphB_iff hG
  have h2 := getD_in h.vv (i := v) (by rw [h.vl]; exact hv)
  have h3 := views_len G S.ev v G.length
  unfold updB progB vtxB valB viewsB
  simp only [Bool.and_eq_true, decide_eq_true_eq, List.all_eq_true]
  exact ⟨hp, by omega, h2, by omega, views_ok hG h v⟩

/-! ### one edge after the other -/
theorem set_getD (l : List Int) (i j : Nat) (x : Int) (hi : i < l.length) : (l.set i x).getD j 0 = if j = i then x else l.getD j 0 := by
  rw [List.getD_eq_getElem?_getD, List.getD_eq_getElem?_getD, List.getElem?_set]
  by_cases h : i = j
  · subst h; rw [if_pos rfl, if_pos hi, if_pos rfl]; rfl
  · rw [if_neg h, if_neg (fun e => h e.symm)]
theorem set_all {l : List Int} {P : Int → Prop} (h : ∀ x ∈ l, P x) (i : Nat) {y : Int} (hy : P y) : ∀ x ∈ l.set i y, P x := fun x hx => by
  rcases List.mem_or_eq_of_mem_set hx with h1 | rfl
  · exact h x h1
  · exact hy
theorem with_is {N : Nat} {ys : List Nat} (h : setB (N : Int) ys = true) {u : Int} (hu : 0 ≤ u ∧ u < N) : withX (N : Int) ys u = addV ys u.toNat := by
  unfold withX
  rw [if_pos h, if_pos hu]
theorem with_ok {N : Nat} {ys : List Nat} (h : setB (N : Int) ys = true) {u : Int} (hu : 0 ≤ u ∧ u < N) : setB (N : Int) (withX (N : Int) ys u) = true := by
  rw [with_is h hu]
  exact setB_add h (by rw [Int.toNat_natCast]; omega)
theorem with_bit {N : Nat} {ys : List Nat} (h : setB (N : Int) ys = true) {u : Int} (hu : 0 ≤ u ∧ u < N) (q : Nat) : bitN (withX (N : Int) ys u) q = true ↔ ((q : Int) = u ∨ bitN ys q = true) := by
  rw [with_is h hu, bit_addV (by rw [(setB_dim h).2.2]; exact lt_bytes (by rw [Int.toNat_natCast]; omega)), Bool.or_eq_true, decide_eq_true_iff]
  constructor
  · rintro (h1 | h1)
    · left; omega
    · exact .inr h1
  · rintro (h1 | h1)
    · left; omega
    · exact .inr h1
structure Stepped (p : Int) (N : Nat) (G : List GE) (v : Int) (f : Nat → Int) (J : List Nat) (S T : SD) : Prop where
  vs : T.vs = S.vs
  el : T.ev.length = S.ev.length
  ev : ∀ j, T.ev.getD j 0 = if j ∈ J then f j else S.ev.getD j 0
  nx : setB (N : Int) T.nx = true
  nw : setB (N : Int) T.nw = true
  nxs : (∀ x ∈ S.nx, x < 256) → ∀ x ∈ T.nx, x < 256
  nws : (∀ x ∈ S.nw, x < 256) → ∀ x ∈ T.nw, x < 256
  bw : ∀ q, bitN T.nw q = true ↔ (bitN S.nw q = true ∨ ∃ j ∈ J, f j ≠ S.ev.getD j 0 ∧ otherE (edgeAt G j) v = (q : Int) ∧ v < (q : Int))
  bx : ∀ q, bitN T.nx q = true ↔ (bitN S.nx q = true ∨ ∃ j ∈ J, f j ≠ S.ev.getD j 0 ∧ otherE (edgeAt G j) v = (q : Int) ∧ ¬ v < (q : Int))
theorem fold_step {p : Int} {N : Nat} {G : List GE} (hG : graphB (N : Int) G = true) (v : Int) (f : Nat → Int) : ∀ (J : List Nat) (S : SD), J.Nodup → (∀ i ∈ J, i < S.ev.length ∧ i < G.length) → setB (N : Int) S.nx = true → setB (N : Int) S.nw = true → Stepped p N G v f J S (J.foldl (estep (N : Int) G v f) S)
  | [], S, _, _, h1, h2 => ⟨rfl, rfl, fun j => by simp, h1, h2, fun h => h, fun h => h, fun q => by simp, fun q => by simp⟩
  | i :: J, S, hd, hl, h1, h2 => by
    rw [List.foldl_cons]
    obtain ⟨hi, hd'⟩ := List.nodup_cons.1 hd
    have hil := hl i List.mem_cons_self
    have ho := other_in hG hil.2 v
    by_cases hq : f i = S.ev.getD i 0
    · have e : estep (N : Int) G v f S i = S := by unfold estep; rw [if_pos hq]
      rw [e]
      have ih := fold_step (p := p) hG v f J S hd' (fun j hj => hl j (List.mem_cons_of_mem _ hj)) h1 h2
      refine ⟨ih.vs, ih.el, fun j => ?_, ih.nx, ih.nw, ih.nxs, ih.nws, fun q => ?_, fun q => ?_⟩
      · rw [ih.ev j]
        by_cases hj : j = i
        · subst hj; rw [if_neg hi, if_pos List.mem_cons_self, hq]
        · simp [hj]
      · rw [ih.bw q]
        constructor
        · rintro (h | ⟨j, hj, h⟩)
          · exact .inl h
          · exact .inr ⟨j, List.mem_cons_of_mem _ hj, h⟩
        · rintro (h | ⟨j, hj, h⟩)
          · exact .inl h
          · rcases List.mem_cons.1 hj with rfl | hj
            · exact absurd hq h.1
            · exact .inr ⟨j, hj, h⟩
      · rw [ih.bx q]
        constructor
        · rintro (h | ⟨j, hj, h⟩)
          · exact .inl h
          · exact .inr ⟨j, List.mem_cons_of_mem _ hj, h⟩
        · rintro (h | ⟨j, hj, h⟩)
          · exact .inl h
          · rcases List.mem_cons.1 hj with rfl | hj
            · exact absurd hq h.1
            · exact .inr ⟨j, hj, h⟩
    · have hev : ∀ j, (S.ev.set i (f i)).getD j 0 = if j = i then f i else S.ev.getD j 0 := fun j => set_getD _ _ _ _ hil.1
      have hJ : ∀ j ∈ J, j ≠ i := fun j hj e => hi (by rw [← e]; exact hj)
      by_cases hv : v < otherE (edgeAt G i) v
      · have e : estep (N : Int) G v f S i = ⟨S.vs, S.ev.set i (f i), S.nx, withX (N : Int) S.nw (otherE (edgeAt G i) v)⟩ := by unfold estep; rw [if_neg hq, if_pos hv]
        rw [e]
        have ih := fold_step (p := p) hG v f J ⟨S.vs, S.ev.set i (f i), S.nx, withX (N : Int) S.nw (otherE (edgeAt G i) v)⟩ hd' (fun j hj => by simp only [List.length_set]; exact hl j (List.mem_cons_of_mem _ hj)) h1 (with_ok h2 ho)
        refine ⟨ih.vs, by rw [ih.el]; simp, fun j => ?_, ih.nx, ih.nw, ih.nxs, fun h => ih.nws (withX_small h _), fun q => ?_, fun q => ?_⟩
        · rw [ih.ev j]
          by_cases hj : j = i
          · subst hj; rw [if_neg hi, if_pos List.mem_cons_self, hev, if_pos rfl]
          · by_cases hj2 : j ∈ J
            · rw [if_pos hj2, if_pos (List.mem_cons_of_mem _ hj2)]
            · rw [if_neg hj2, if_neg (by simp [hj, hj2]), hev, if_neg hj]
        · rw [ih.bw q, with_bit h2 ho]
          constructor
          · rintro ((h | h) | ⟨j, hj, h⟩)
            · exact .inr ⟨i, List.mem_cons_self, hq, h.symm, by omega⟩
            · exact .inl h
            · refine .inr ⟨j, List.mem_cons_of_mem _ hj, ?_⟩
              have h9 := hev j
              rw [if_neg (hJ j hj)] at h9
              simp only [h9] at h
              exact h
          · rintro (h | ⟨j, hj, h⟩)
            · exact .inl (.inr h)
            · rcases List.mem_cons.1 hj with rfl | hj
              · exact .inl (.inl h.2.1.symm)
              · refine .inr ⟨j, hj, ?_⟩
                have h9 := hev j
                rw [if_neg (hJ j hj)] at h9
                simp only [h9]
                exact h
        · rw [ih.bx q]
          constructor
          · rintro (h | ⟨j, hj, h⟩)
            · exact .inl h
            · refine .inr ⟨j, List.mem_cons_of_mem _ hj, ?_⟩
              have h9 := hev j
              rw [if_neg (hJ j hj)] at h9
              simp only [h9] at h
              exact h
          · rintro (h | ⟨j, hj, h⟩)
            · exact .inl h
            · rcases List.mem_cons.1 hj with rfl | hj
              · exact absurd (by rw [← h.2.1]; exact hv) h.2.2
              · refine .inr ⟨j, hj, ?_⟩
                have h9 := hev j
                rw [if_neg (hJ j hj)] at h9
                simp only [h9]
                exact h
      · have e : estep (N : Int) G v f S i = ⟨S.vs, S.ev.set i (f i), withX (N : Int) S.nx (otherE (edgeAt G i) v), S.nw⟩ := by unfold estep; rw [if_neg hq, if_neg hv]
        rw [e]
        have ih := fold_step (p := p) hG v f J ⟨S.vs, S.ev.set i (f i), withX (N : Int) S.nx (otherE (edgeAt G i) v), S.nw⟩ hd' (fun j hj => by simp only [List.length_set]; exact hl j (List.mem_cons_of_mem _ hj)) (with_ok h1 ho) h2
        refine ⟨ih.vs, by rw [ih.el]; simp, fun j => ?_, ih.nx, ih.nw, fun h => ih.nxs (withX_small h _), ih.nws, fun q => ?_, fun q => ?_⟩
        · rw [ih.ev j]
          by_cases hj : j = i
          · subst hj; rw [if_neg hi, if_pos List.mem_cons_self, hev, if_pos rfl]
          · by_cases hj2 : j ∈ J
            · rw [if_pos hj2, if_pos (List.mem_cons_of_mem _ hj2)]
            · rw [if_neg hj2, if_neg (by simp [hj, hj2]), hev, if_neg hj]
        · rw [ih.bw q]
          constructor
          · rintro (h | ⟨j, hj, h⟩)
            · exact .inl h
            · refine .inr ⟨j, List.mem_cons_of_mem _ hj, ?_⟩
              have h9 := hev j
              rw [if_neg (hJ j hj)] at h9
              simp only [h9] at h
              exact h
          · rintro (h | ⟨j, hj, h⟩)
            · exact .inl h
            · rcases List.mem_cons.1 hj with rfl | hj
              · exact absurd h.2.2 (by rw [← h.2.1]; exact hv)
              · refine .inr ⟨j, hj, ?_⟩
                have h9 := hev j
                rw [if_neg (hJ j hj)] at h9
                simp only [h9]
                exact h
        · rw [ih.bx q, with_bit h1 ho]
          constructor
          · rintro ((h | h) | ⟨j, hj, h⟩)
            · exact .inr ⟨i, List.mem_cons_self, hq, h.symm, by rw [h]; exact hv⟩
            · exact .inl h
            · refine .inr ⟨j, List.mem_cons_of_mem _ hj, ?_⟩
              have h9 := hev j
              rw [if_neg (hJ j hj)] at h9
              simp only [h9] at h
              exact h
          · rintro (h | ⟨j, hj, h⟩)
            · exact .inl (.inr h)
            · rcases List.mem_cons.1 hj with rfl | hj
              · exact .inl (.inl h.2.1.symm)
              · refine .inr ⟨j, hj, ?_⟩
                have h9 := hev j
                rw [if_neg (hJ j hj)] at h9
                simp only [h9]
                exact h
end Go.Proofs.YtlhcobkncceodaaGreatDoor
namespace Go.Proofs.YtlhcobkncceodaaGreatDoor
open Go.RowKit

/-- Rows of two kinds of element lie in two blocks. -/
theorem own_types {w : World} {lo1 lo2 e1 e2 s1 s2 n1 n2 : Nat} {v1 v2 : Value} {xs1 xs2 : List Value} (h1 : w.ownsRow lo1 e1 s1 v1 n1 xs1) (h2 : w.ownsRow lo2 e2 s2 v2 n2 xs2) (hne : e1 ≠ e2) : v1.ownBlock = none ∨ v2.ownBlock ≠ v1.ownBlock := by
  rcases h1.2 with ⟨rfl, _⟩ | ⟨g, cap, cur, rfl, _, hb, _⟩
  · exact .inl rfl
  · rcases h2.2 with ⟨rfl, _⟩ | ⟨g2, cap2, cur2, rfl, _, hb2, _⟩
    · exact .inr (by simp [Value.ownBlock])
    · refine .inr (fun e => ?_)
      simp [Value.ownBlock] at e
      subst e
      rw [hb] at hb2
      injection hb2 with h
      injection h with _ h _
      exact hne h
/-- A run that reads. -/
structure RunR (w : World) (r : RD) (A B C : Option Addr) : Prop where
  v : SlI w A r.vs.length r.vs
  e : SlI w B r.ev.length r.ev
  x : Rd w C r.nx.length r.nx
theorem RunR.below {w w' : World} {r : RD} {A B C : Option Addr} (h : RunR w r A B C) (hb : Below w.heap.size w w') : RunR w' r A B C := ⟨h.v.below hb, h.e.below hb, h.x.below hb⟩
/-- A run of the call's own. -/
structure RunO (w : World) (lo : Nat) (r : RD) (A : Option Addr) (c : Nat) (B : Option Addr) (d : Nat) (C : Option Addr) (k : Nat) : Prop where
  v : w.ownsRow lo 3 1 (.slice A r.vs.length c) r.vs.length (vi r.vs)
  e : w.ownsRow lo 3 1 (.slice B r.ev.length d) r.ev.length (vi r.ev)
  x : w.ownsRow lo 5 1 (.slice C r.nx.length k) r.nx.length (vb r.nx)
  ap : (Value.slice A r.vs.length c).ownBlock = none ∨ (Value.slice B r.ev.length d).ownBlock ≠ (Value.slice A r.vs.length c).ownBlock
section
variable {w w' : World} {lo lo' : Nat} {r : RD} {A B C : Option Addr} {c d k : Nat}
theorem RunO.below (h : RunO w lo r A c B d C k) (hb : Below w.heap.size w w') : RunO w' lo r A c B d C k := ⟨own_below h.v hb, own_below h.e hb, own_below h.x hb, h.ap⟩
theorem RunO.mono (h : RunO w lo r A c B d C k) (hl : lo' ≤ lo) : RunO w lo' r A c B d C k := ⟨own_monoG h.v hl, own_monoG h.e hl, own_monoG h.x hl, h.ap⟩
theorem RunO.reads (h : RunO w lo r A c B d C k) (hs : ∀ x ∈ r.nx, x < 256) : RunR w r A B C := ⟨SlI.of_own h.v, SlI.of_own h.e, Rd.of_own h.x hs⟩
/-- Another block is written. -/
theorem RunO.far (h : RunO w lo r A c B d C k) {row : Option Nat} (hg : w.grownBy w' row) (hv : (Value.slice A r.vs.length c).ownBlock = none ∨ row ≠ (Value.slice A r.vs.length c).ownBlock) (he : (Value.slice B r.ev.length d).ownBlock = none ∨ row ≠ (Value.slice B r.ev.length d).ownBlock) (hx : (Value.slice C r.nx.length k).ownBlock = none ∨ row ≠ (Value.slice C r.nx.length k).ownBlock) : RunO w' lo r A c B d C k :=
  ⟨h.v.kept hg (hv.imp id fun h e => h e.symm), h.e.kept hg (he.imp id fun h e => h e.symm), h.x.kept hg (hx.imp id fun h e => h e.symm), h.ap⟩
end
end Go.Proofs.YtlhcobkncceodaaGreatDoor
namespace Go.Proofs.YtlhcobkncceodaaGreatDoor
open Go.RowKit

end Go.Proofs.YtlhcobkncceodaaGreatDoor
namespace Go.Proofs.YtlhcobkncceodaaGreatDoor
open Go.RowKit

/-- Shapes of plain data; a struct is a chain of pairs. -/
inductive Sh where
  | int (k : IntKind)
  | bool
  | str
  | sl (e : Sh)
  | pair (a b : Sh)

def Sh.size : Sh → Nat
  | .int _ => 1
  | .bool => 1
  | .str => 1
  | .sl _ => 1
  | .pair a b => a.size + b.size
def Sh.D : Sh → Type
  | .int _ => Int
  | .bool => Bool
  | .str => ByteArray
  | .sl e => List e.D
  | .pair a b => a.D × b.D

/-- The cells from an address on. -/
def CellsAt (w : World) (b off : Nat) (cs : List Value) : Prop := ∀ (i : Nat) (v : Value), cs[i]? = some v → w.cell? ⟨b, off + i, none⟩ = some v
theorem CellsAt.same {w w' : World} {b off : Nat} {cs : List Value} (h : CellsAt w b off cs) (hb : w'.heap[b]? = w.heap[b]?) : CellsAt w' b off cs :=
  fun i v hv => (World.cell?_of_block (a := ⟨b, off + i, none⟩) hb).trans (h i v hv)

def RdR (lo hi : Nat) (w : World) : (s : Sh) → List Value → s.D → Prop
  | .int k, cs, n => cs = [.int k n] ∧ (Lit.int k n).wf = true
  | .bool, cs, b => cs = [.bool b]
  | .str, cs, x => cs = [.string x] ∧ ByteArray.size x ≤ maxLen
  | .sl e, cs, ds => ∃ A n c, cs = [.slice A n c] ∧ List.length ds = n ∧ n ≤ c ∧ c ≤ maxLen ∧ (0 < n → ∃ b off, A = some ⟨b, off, none⟩ ∧ lo ≤ b ∧ b < hi ∧
      ∀ (j : Nat) (d : e.D), (show List e.D from ds)[j]? = some d → ∃ es, es.length = e.size ∧ CellsAt w b (off + j * e.size) es ∧ RdR lo hi w e es d)
  | .pair a b, cs, d => ∃ c1 c2, cs = c1 ++ c2 ∧ c1.length = a.size ∧ RdR lo hi w a c1 d.1 ∧ RdR lo hi w b c2 d.2

theorem RdR.len {lo hi : Nat} {w : World} : ∀ {s : Sh} {cs : List Value} {d : s.D}, RdR lo hi w s cs d → cs.length = s.size
  | .int _, _, _, h => by rw [h.1]; rfl
  | .bool, _, _, h => by rw [show _ = _ from h]; rfl
  | .str, _, _, h => by rw [h.1]; rfl
  | .sl _, _, _, h => by obtain ⟨_, _, _, e, _⟩ := h; rw [e]; rfl
  | .pair _ _, _, _, h => by
    obtain ⟨c1, c2, e, h1, _, h2⟩ := h
    rw [e, List.length_append, h1, RdR.len h2]
    rfl

/-- Where the blocks from lo on and below hi are as they were, the reading is too; and the bounds may be widened. -/
theorem RdR.keep {lo hi lo' hi' : Nat} {w w' : World} (hl : lo' ≤ lo) (hh : hi ≤ hi') (hs : ∀ k, lo ≤ k → k < hi → w'.heap[k]? = w.heap[k]?) :
    ∀ {s : Sh} {cs : List Value} {d : s.D}, RdR lo hi w s cs d → RdR lo' hi' w' s cs d
  | .int _, _, _, h => h
  | .bool, _, _, h => h
  | .str, _, _, h => h
  | .sl e, _, _, h => by
    obtain ⟨A, n, c, e1, e2, e3, e4, h⟩ := h
    refine ⟨A, n, c, e1, e2, e3, e4, fun hn => ?_⟩
    obtain ⟨b, off, eA, hb1, hb2, h⟩ := h hn
    refine ⟨b, off, eA, by omega, by omega, fun j d hd => ?_⟩
    obtain ⟨es, hl2, hc, hr⟩ := h j d hd
    exact ⟨es, hl2, hc.same (hs b hb1 hb2), RdR.keep hl hh hs hr⟩
  | .pair _ _, _, _, h => by
    obtain ⟨c1, c2, e, h1, ha, hb⟩ := h
    exact ⟨c1, c2, e, h1, RdR.keep hl hh hs ha, RdR.keep hl hh hs hb⟩

theorem RdR.below {lo hi B : Nat} {w w' : World} {s : Sh} {cs : List Value} {d : s.D} (h : RdR lo hi w s cs d) (hb : Below B w w') (hB : hi ≤ B) : RdR lo hi w' s cs d :=
  h.keep (Nat.le_refl _) (Nat.le_refl _) (fun k _ hk => hb.block k (by omega))
theorem RdR.drewN {lo hi : Nat} {w : World} {s : Sh} {cs : List Value} {d : s.D} (h : RdR lo hi w s cs d) (k : Nat) : RdR lo hi (w.drewN k) s cs d :=
  RdR.keep (w := w) (w' := w.drewN k) (Nat.le_refl _) (Nat.le_refl _) (fun _ _ _ => rfl) h
/-- The element at place j of a slice that reads so. -/
theorem RdR.at_ {lo hi : Nat} {w : World} {e : Sh} {A : Option Addr} {n c j : Nat} {ds : List e.D} (h : RdR lo hi w (.sl e) [.slice A n c] ds) (hj : j < n) :
    ∃ (b off : Nat) (es : List Value) (d : e.D), A = some ⟨b, off, none⟩ ∧ lo ≤ b ∧ b < hi ∧ Hid (ds[j]? = some d) ∧ es.length = e.size ∧ CellsAt w b (off + j * e.size) es ∧ RdR lo hi w e es d := by
  obtain ⟨A', n', c', e1, e2, _, _, h⟩ := h
  simp only [List.cons.injEq, Value.slice.injEq, and_true] at e1
  obtain ⟨rfl, rfl, rfl⟩ := e1
  obtain ⟨b, off, eA, hb1, hb2, h⟩ := h (by omega)
  have hl : j < List.length ds := by omega
  obtain ⟨es, h1, h2, h3⟩ := h j ds[j] (List.getElem?_eq_getElem hl)
  exact ⟨b, off, es, ds[j], eA, hb1, hb2, List.getElem?_eq_getElem hl, h1, h2, h3⟩
theorem add_plain (b off j : Nat) : ((⟨b, off, none⟩ : Addr).add j) = ⟨b, off + j, none⟩ := by unfold Addr.add; split <;> simp_all
theorem add_spot {w : World} {a : Addr} {v : Value} (h : w.cell? (a.add 0) = some v) : a.spot = none := by
  have h1 := World.cell?_spot h
  simpa [Addr.add] using h1

section
variable {H : Type} {enc : TypeId × Value → H} {P : Program} {w : World} {base : Nat} {spare : Nat → Bool} {held : Bool}

/-- Whatever reads at the type t (as the form reads arguments) reads as a datum of the shape s. -/
def Opens (enc : TypeId × Value → H) (P : Program) (w : World) (base : Nat) (spare : Nat → Bool) (held : Bool) (t : TypeId) (s : Sh) : Prop :=
  ∀ (fuel : Nat) (cs : List Value) (x : DataW H × List MemPlace), DataW.trod enc P w base spare held fuel t cs = some x → ∃ d : s.D, RdR 0 w.heap.size w s cs d
theorem opens_int {t : TypeId} {k : IntKind} (ht : P.underlying t = some (.int k)) : Opens enc P w base spare held t (.int k) := fun _ _ _ h => by
  obtain ⟨n, e, _, hw⟩ := DataW.trod_int ht h
  exact ⟨n, e, hw⟩
theorem opens_sl {t e : TypeId} {s : Sh} (ht : P.underlying t = some (.slice e)) (hc : P.cellsOf e = s.size) (hs : 0 < s.size) (ho : Opens enc P w base spare held e s) : Opens enc P w base spare held t (.sl s) := fun _ _ _ h => by
  rcases DataW.trod_slice ht h with ⟨rfl, _⟩ | ⟨a, len, cap, elems, rest, n, _, rfl, _, _, hl, hmx, hlen, hel, hsp1, hsp2⟩
  · exact ⟨([] : List s.D), none, 0, 0, rfl, rfl, Nat.le_refl _, Nat.zero_le _, fun h0 => absurd h0 (by omega)⟩
  · have each : ∀ i, i < len → ∃ (es : List Value) (d : s.D), es.length = s.size ∧ (∀ j, j < s.size → w.cell? (a.add (i * s.size + j)) = es[j]?) ∧ RdR 0 w.heap.size w s es d := by
      intro i hi
      have h1 := hel i hi
      rw [List.getElem?_eq_getElem (by omega), Option.bind_eq_some_iff] at h1
      obtain ⟨es, hes, htr⟩ := h1
      obtain ⟨_, h2, h3⟩ := World.cells?_some hes
      obtain ⟨d, hd⟩ := ho _ _ _ htr
      refine ⟨es, d, by rw [h2, hc], fun j hj => ?_, hd⟩
      have := h3 j (by rw [hc]; exact hj)
      rw [hc] at this
      rw [← this]
      congr 1
      unfold Addr.add
      by_cases h01 : i * s.size = 0 <;> by_cases h02 : j = 0 <;> simp [h01, h02, Nat.add_assoc]
    have hall : ∃ ds : List s.D, ds.length = len ∧ ∀ (i : Nat) (d : s.D), ds[i]? = some d → ∃ es : List Value, es.length = s.size ∧ (∀ j, j < s.size → w.cell? (a.add (i * s.size + j)) = es[j]?) ∧ RdR 0 w.heap.size w s es d := by
      clear hel h hl hlen hsp1 hsp2
      induction len with
      | zero => exact ⟨[], rfl, fun i d h => by simp at h⟩
      | succ m ih =>
        obtain ⟨ds, hd1, hd2⟩ := ih (fun i hi => each i (by omega))
        obtain ⟨es, d, h1, h2, h3⟩ := each m (by omega)
        refine ⟨ds ++ [d], by simp [hd1], fun i d' hi => ?_⟩
        rcases Nat.lt_trichotomy i m with hlt | heq | hgt
        · rw [List.getElem?_append_left (by omega)] at hi
          exact hd2 i d' hi
        · subst heq
          rw [List.getElem?_append_right (by omega), hd1, Nat.sub_self] at hi
          simp at hi
          subst hi
          exact ⟨es, h1, h2, h3⟩
        · rw [List.getElem?_eq_none (by simp; omega)] at hi
          cases hi
    obtain ⟨ds, hd1, hd2⟩ := hall
    refine ⟨ds, some a, len, cap, rfl, hd1, hl, hmx, fun h0 => ?_⟩
    obtain ⟨es0, d0, h1, h2, _⟩ := each 0 h0
    have hc0 : w.cell? (a.add 0) = some es0[0] := by
      have := h2 0 hs
      rw [Nat.zero_mul, Nat.add_zero] at this
      rw [this, List.getElem?_eq_getElem (by omega)]
    have hsp := add_spot hc0
    obtain ⟨b, off, sp⟩ := a
    simp only at hsp
    subst hsp
    have hlt : b < w.heap.size := by
      rw [add_plain] at hc0
      exact World.block_lt_of_cell? w _ hc0
    refine ⟨b, off, rfl, Nat.zero_le _, hlt, fun j d hj => ?_⟩
    obtain ⟨es, h3, h4, h5⟩ := hd2 j d hj
    refine ⟨es, h3, fun i v hv => ?_, h5⟩
    have hi : i < s.size := by have := (List.getElem?_eq_some_iff.1 hv).1; omega
    have := h4 i hi
    rw [add_plain, ← Nat.add_assoc] at this
    rw [this, hv]

end
end Go.Proofs.YtlhcobkncceodaaGreatDoor
namespace Go.Proofs.YtlhcobkncceodaaGreatDoor
open Go.RowKit

/-! ### valid frames -/
/-! ### an argument that is a frame -/
section
variable {H : Type} {enc : TypeId × Value → H} {w : World} {base : Nat} {spare : Nat → Bool} {held : Bool}
end
end Go.Proofs.YtlhcobkncceodaaGreatDoor
namespace Go.Proofs.YtlhcobkncceodaaGreatDoor
open Go.RowKit

/-- A block that holds two cells. -/
structure Box2 (w : World) (b : Nat) (v0 v1 : Value) : Prop where
  lt : b < w.heap.size
  c0 : w.cell? ⟨b, 0, none⟩ = some v0
  c1 : w.cell? ⟨b, 1, none⟩ = some v1
section
variable {w w' : World} {b : Nat} {v0 v1 : Value}
theorem Box2.keep (h : Box2 w b v0 v1) (hs : w.heap.size ≤ w'.heap.size) (hk : w'.heap[b]? = w.heap[b]?) : Box2 w' b v0 v1 :=
  ⟨Nat.lt_of_lt_of_le h.lt hs, (World.cell?_of_block (a := ⟨b, 0, none⟩) hk).trans h.c0, (World.cell?_of_block (a := ⟨b, 1, none⟩) hk).trans h.c1⟩
theorem Box2.below (h : Box2 w b v0 v1) (hb : Below w.heap.size w w') : Box2 w' b v0 v1 := h.keep hb.size (hb.block b h.lt)
theorem Box2.new (w : World) (v0 v1 : Value) (t : TypeId) : Box2 (w.alloc (.cells #[v0, v1] t)) w.heap.size v0 v1 := ⟨by simp, by simp, by simp⟩
end
end Go.Proofs.YtlhcobkncceodaaGreatDoor
namespace Go.Proofs.YtlhcobkncceodaaGreatDoor
open Go.RowKit
set_option linter.unusedVariables false

/-- The table of the weights. -/
structure Wts (w : World) : Prop where
  lt : 0 < w.heap.size
  at_ : ∀ i : Nat, i < 8 → w.cell? ⟨0, i, none⟩ = some (.int .u8 ((2 ^ i : Nat) : Int))
theorem Wts.below {w w' : World} (h : Wts w) (hb : Below w.heap.size w w') : Wts w' :=
  ⟨Nat.lt_of_lt_of_le h.lt hb.size, fun i hi => (hb.cell (p := ⟨0, i, none⟩) h.lt).trans (h.at_ i hi)⟩
theorem Wts.other {w w' : World} {row : Option Nat} (h : Wts w) (hg : w.grownBy w' row) (hr : row ≠ some 0) : Wts w' :=
  ⟨Nat.lt_of_lt_of_le h.lt hg.size, fun i hi => (World.cell?_of_block (a := ⟨0, i, none⟩) (hg.block _ h.lt (fun e => hr e.symm))).trans (h.at_ i hi)⟩
theorem s_chain {w W W' : World} (h : Below w.heap.size w W) (k : Below W.heap.size W W') : Below w.heap.size w W' := h.trans (k.mono h.size)
/-- A new set. -/
def MadeS (w : World) (N : Int) (xs : List Nat) (e : Ending) (w' : World) : Prop :=
  ∃ A c, e = .returned (.agg #[.int .i64 N, .slice A xs.length c]) ∧ w'.ownsRow w.heap.size 5 1 (.slice A xs.length c) xs.length (vb xs) ∧ Below w.heap.size w w'
def MadeSB (w : World) (N : Int) (xs : List Nat) (b : Bool) (e : Ending) (w' : World) : Prop :=
  ∃ A c, e = .returned (.tuple #[.agg #[.int .i64 N, .slice A xs.length c], .bool b]) ∧ w'.ownsRow w.heap.size 5 1 (.slice A xs.length c) xs.length (vb xs) ∧ Below w.heap.size w w'
theorem own_nil (w : World) (lo : Nat) : w.ownsRow lo 5 1 (.slice none 0 0) 0 (vb []) := ⟨rfl, .inl ⟨rfl, rfl⟩⟩
theorem Box2.far {w w' : World} {b : Nat} {v0 v1 : Value} (h : Box2 w b v0 v1) {row : Option Nat} (hg : w.grownBy w' row) {l2 h2 : Nat} (hb : ∀ k, row = some k → l2 ≤ k ∧ k < h2) (hd : b < l2 ∨ h2 ≤ b) : Box2 w' b v0 v1 :=
  h.keep hg.size (hg.block _ h.lt (fun e => by have := hb b e.symm; omega))
/-- A block that is a set, and may be written. -/
def SBx (w : World) (b : Nat) (N : Int) (A : Option Addr) (n c : Nat) : Prop := Blk w b #[.int .i64 N, .slice A n c] 30
section
variable {w w' : World} {b n c : Nat} {N : Int} {A : Option Addr}
theorem SBx.new (w : World) (N : Int) (A : Option Addr) (n c : Nat) : SBx (w.alloc (.cells #[.int .i64 N, .slice A n c] 30)) w.heap.size N A n c := Blk.new _ _ _
theorem SBx.new1 (w : World) (o : Obj) (N : Int) (A : Option Addr) (n c : Nat) : SBx ((w.alloc o).alloc (.cells #[.int .i64 N, .slice A n c] 30)) (w.heap.size + 1) N A n c := by
  have h := SBx.new (w.alloc o) N A n c
  rw [World.size_alloc] at h
  exact h
theorem SBx.keep (h : SBx w b N A n c) (hk : w'.heap[b]? = w.heap[b]?) : SBx w' b N A n c := Blk.keep h hk
theorem SBx.below (h : SBx w b N A n c) (hb : Below w.heap.size w w') : SBx w' b N A n c := Blk.below h hb
theorem SBx.parts (h : SBx w b N A n c) : b < w.heap.size ∧ w.cell? ⟨b, 0, none⟩ = some (.int .i64 N) ∧ w.cell? ⟨b, 1, none⟩ = some (.slice A n c) ∧ w.frozen? ⟨b, 0, none⟩ = false ∧ w.frozen? ⟨b, 1, none⟩ = false :=
  ⟨Blk.lt h, Blk.cell h (i := 0) rfl, Blk.cell h (i := 1) rfl, Blk.frozen h 0, Blk.frozen h 1⟩
theorem SBx.set (h : SBx w b N A n c) (N' : Int) (A' : Option Addr) (n' c' : Nat) : SBx ((w.setCell ⟨b, 0, none⟩ (.int .i64 N')).setCell ⟨b, 1, none⟩ (.slice A' n' c')) b N' A' n' c' := Blk.set (Blk.set h 0 (.int .i64 N')) 1 (.slice A' n' c')
theorem SBx.grown {row : Option Nat} (h : SBx w b N A n c) (hg : w.grownBy w' row) (hr : row ≠ some b) : SBx w' b N A n c := Blk.grown h hg hr
end
theorem below_set2 {B b : Nat} {a w : World} (h : Below B a w) (hb : B ≤ b) (u v : Value) : Below B a ((w.setCell ⟨b, 0, none⟩ u).setCell ⟨b, 1, none⟩ v) := (h.setCell hb u).setCell hb v
theorem own_set2 {w : World} {lo e size n b : Nat} {v : Value} {xs : List Value} (h : w.ownsRow lo e size v n xs) (hb : b < lo) (u u' : Value) : ((w.setCell ⟨b, 0, none⟩ u).setCell ⟨b, 1, none⟩ u').ownsRow lo e size v n xs := own_lowG (own_lowG h hb u) hb u'
end Go.Proofs.YtlhcobkncceodaaGreatDoor
namespace Go.Proofs.YtlhcobkncceodaaGreatDoor
open Go.RowKit
set_option linter.unusedVariables false

theorem grown_cell (w : World) (b i : Nat) (u : Value) : w.grownBy (w.setCell ⟨b, i, none⟩ u) (some b) :=
  ⟨rfl, rfl, rfl, by simp, fun k _ hk => Below.heap_setCell w ⟨b, i, none⟩ u k (fun e => hk (by rw [show k = b from e]))⟩
/-- Eight cells of one run stored. -/
def layR (w : World) (b : Nat) (x0 x1 x2 x3 x4 x5 x6 x7 : Value) : World :=
  (((((((w.setCell ⟨b, 0, none⟩ x0).setCell ⟨b, 1, none⟩ x1).setCell ⟨b, 2, none⟩ x2).setCell ⟨b, 3, none⟩ x3).setCell ⟨b, 4, none⟩ x4).setCell ⟨b, 5, none⟩ x5).setCell ⟨b, 6, none⟩ x6).setCell ⟨b, 7, none⟩ x7
section
variable {w w' : World} {b : Nat} {x0 x1 x2 x3 x4 x5 x6 x7 y0 y1 y2 y3 y4 y5 y6 y7 : Value} {t : TypeId}
theorem layR_grown (w : World) (b : Nat) (x0 x1 x2 x3 x4 x5 x6 x7 : Value) : w.grownBy (layR w b x0 x1 x2 x3 x4 x5 x6 x7) (some b) :=
  (((((((grown_cell w b 0 x0).trans (grown_cell _ b 1 x1)).trans (grown_cell _ b 2 x2)).trans (grown_cell _ b 3 x3)).trans (grown_cell _ b 4 x4)).trans (grown_cell _ b 5 x5)).trans (grown_cell _ b 6 x6)).trans (grown_cell _ b 7 x7)
theorem layR_blk (h : Blk w b #[y0, y1, y2, y3, y4, y5, y6, y7] t) : Blk (layR w b x0 x1 x2 x3 x4 x5 x6 x7) b #[x0, x1, x2, x3, x4, x5, x6, x7] t := by
  have h1 : Blk (w.setCell ⟨b, 0, none⟩ x0) b #[x0, y1, y2, y3, y4, y5, y6, y7] t := Blk.set h 0 x0
  have h2 : Blk ((w.setCell ⟨b, 0, none⟩ x0).setCell ⟨b, 1, none⟩ x1) b #[x0, x1, y2, y3, y4, y5, y6, y7] t := Blk.set h1 1 x1
  have h3 : Blk (((w.setCell ⟨b, 0, none⟩ x0).setCell ⟨b, 1, none⟩ x1).setCell ⟨b, 2, none⟩ x2) b #[x0, x1, x2, y3, y4, y5, y6, y7] t := Blk.set h2 2 x2
  have h4 : Blk ((((w.setCell ⟨b, 0, none⟩ x0).setCell ⟨b, 1, none⟩ x1).setCell ⟨b, 2, none⟩ x2).setCell ⟨b, 3, none⟩ x3) b #[x0, x1, x2, x3, y4, y5, y6, y7] t := Blk.set h3 3 x3
  have h5 : Blk (((((w.setCell ⟨b, 0, none⟩ x0).setCell ⟨b, 1, none⟩ x1).setCell ⟨b, 2, none⟩ x2).setCell ⟨b, 3, none⟩ x3).setCell ⟨b, 4, none⟩ x4) b #[x0, x1, x2, x3, x4, y5, y6, y7] t := Blk.set h4 4 x4
  have h6 : Blk ((((((w.setCell ⟨b, 0, none⟩ x0).setCell ⟨b, 1, none⟩ x1).setCell ⟨b, 2, none⟩ x2).setCell ⟨b, 3, none⟩ x3).setCell ⟨b, 4, none⟩ x4).setCell ⟨b, 5, none⟩ x5) b #[x0, x1, x2, x3, x4, x5, y6, y7] t := Blk.set h5 5 x5
  have h7 : Blk (((((((w.setCell ⟨b, 0, none⟩ x0).setCell ⟨b, 1, none⟩ x1).setCell ⟨b, 2, none⟩ x2).setCell ⟨b, 3, none⟩ x3).setCell ⟨b, 4, none⟩ x4).setCell ⟨b, 5, none⟩ x5).setCell ⟨b, 6, none⟩ x6) b #[x0, x1, x2, x3, x4, x5, x6, y7] t := Blk.set h6 6 x6
  have h8 : Blk ((((((((w.setCell ⟨b, 0, none⟩ x0).setCell ⟨b, 1, none⟩ x1).setCell ⟨b, 2, none⟩ x2).setCell ⟨b, 3, none⟩ x3).setCell ⟨b, 4, none⟩ x4).setCell ⟨b, 5, none⟩ x5).setCell ⟨b, 6, none⟩ x6).setCell ⟨b, 7, none⟩ x7) b #[x0, x1, x2, x3, x4, x5, x6, x7] t := Blk.set h7 7 x7
  exact h8
/-- What a block of eight cells reads. -/
theorem Blk.eight (h : Blk w b #[y0, y1, y2, y3, y4, y5, y6, y7] t) : b < w.heap.size ∧ w.cell? ⟨b, 0, none⟩ = some y0 ∧ w.cell? ⟨b, 1, none⟩ = some y1 ∧ w.cell? ⟨b, 2, none⟩ = some y2 ∧ w.cell? ⟨b, 3, none⟩ = some y3 ∧ w.cell? ⟨b, 4, none⟩ = some y4 ∧ w.cell? ⟨b, 5, none⟩ = some y5 ∧ w.cell? ⟨b, 6, none⟩ = some y6 ∧ w.cell? ⟨b, 7, none⟩ = some y7 :=
  ⟨h.lt, h.cell rfl, h.cell rfl, h.cell rfl, h.cell rfl, h.cell rfl, h.cell rfl, h.cell rfl, h.cell rfl⟩
theorem Blk.eightF (h : Blk w b #[y0, y1, y2, y3, y4, y5, y6, y7] t) : w.frozen? ⟨b, 0, none⟩ = false ∧ w.frozen? ⟨b, 1, none⟩ = false ∧ w.frozen? ⟨b, 2, none⟩ = false ∧ w.frozen? ⟨b, 3, none⟩ = false ∧ w.frozen? ⟨b, 4, none⟩ = false ∧ w.frozen? ⟨b, 5, none⟩ = false ∧ w.frozen? ⟨b, 6, none⟩ = false ∧ w.frozen? ⟨b, 7, none⟩ = false :=
  ⟨h.frozen 0, h.frozen 1, h.frozen 2, h.frozen 3, h.frozen 4, h.frozen 5, h.frozen 6, h.frozen 7⟩
end
/-- A row of one type does not lie in a block of another. -/
theorem own_kind {w : World} {lo e size n b : Nat} {v : Value} {xs : List Value} {cs : Array Value} {t : TypeId} (h : w.ownsRow lo e size v n xs) (hb : Blk w b cs t) (hne : e ≠ t) : v.ownBlock ≠ some b := by
  rcases h.2 with ⟨rfl, _⟩ | ⟨g, cap, cur, rfl, _, hg, _⟩
  · simp [Value.ownBlock]
  · intro e3
    have e3 : g = b := by simpa [Value.ownBlock] using e3
    subst e3
    have h9 : w.heap[g]? = some (.cells cs t (0, 0)) := hb
    rw [hg] at h9
    injection h9 with h9
    injection h9 with _ h2
    exact absurd h2 hne
theorem own_kept {w w' : World} {lo e size n g : Nat} {v : Value} {xs : List Value} (h : w.ownsRow lo e size v n xs) (hg : w.grownBy w' (some g)) (hne : v.ownBlock ≠ some g) : w'.ownsRow lo e size v n xs :=
  h.kept hg (.inr hne)
/-- A row of later days lies elsewhere. -/
theorem own_time {w2 : World} {v1 v2 : Value} {l1 sz lo2 e s n : Nat} {xs : List Value} (hlt : ∀ b, v1.ownBlock = some b → l1 ≤ b ∧ b < sz) (h2 : w2.ownsRow lo2 e s v2 n xs) (hle : sz ≤ lo2) : v1.ownBlock = none ∨ v2.ownBlock ≠ v1.ownBlock := by
  cases hv : v1.ownBlock with
  | none => exact .inl rfl
  | some b =>
    right
    intro e
    have a := (hlt b hv).2
    have c := (h2.lt b e).1
    omega
theorem own_old {v : Value} {l sz g : Nat} (hlt : ∀ b, v.ownBlock = some b → l ≤ b ∧ b < sz) (hle : sz ≤ g) : v.ownBlock = none ∨ v.ownBlock ≠ some g := by
  cases hv : v.ownBlock with
  | none => exact .inl rfl
  | some b =>
    right
    intro e
    injection e with e
    have a := (hlt b hv).2
    omega
/-- The three rows of a run of the call's own. -/
structure Rows3 (w : World) (lo : Nat) (A : Option Addr) (n c : Nat) (B : Option Addr) (m d : Nat) (C : Option Addr) (j k : Nat) (vs ev : List Int) (nx : List Nat) : Prop where
  v : w.ownsRow lo 3 1 (.slice A n c) n (vi vs)
  e : w.ownsRow lo 3 1 (.slice B m d) m (vi ev)
  x : w.ownsRow lo 5 1 (.slice C j k) j (vb nx)
  ap : (Value.slice A n c).ownBlock = none ∨ (Value.slice B m d).ownBlock ≠ (Value.slice A n c).ownBlock
theorem Rows3.below {w w' : World} {lo n c m d j k : Nat} {A B C : Option Addr} {vs ev : List Int} {nx : List Nat} (h : Rows3 w lo A n c B m d C j k vs ev nx) (hb : Below w.heap.size w w') : Rows3 w' lo A n c B m d C j k vs ev nx := ⟨own_below h.v hb, own_below h.e hb, own_below h.x hb, h.ap⟩
theorem Rows3.mono {w : World} {lo lo' n c m d j k : Nat} {A B C : Option Addr} {vs ev : List Int} {nx : List Nat} (h : Rows3 w lo A n c B m d C j k vs ev nx) (hl : lo' ≤ lo) : Rows3 w lo' A n c B m d C j k vs ev nx := ⟨own_monoG h.v hl, own_monoG h.e hl, own_monoG h.x hl, h.ap⟩
theorem Rows3.len {w : World} {lo n c m d j k : Nat} {A B C : Option Addr} {vs ev : List Int} {nx : List Nat} (h : Rows3 w lo A n c B m d C j k vs ev nx) : vs.length = n ∧ ev.length = m ∧ nx.length = j := by
  have h1 := h.v.1; have h2 := h.e.1; have h3 := h.x.1
  rw [vi_len] at h1 h2
  rw [vb_length] at h3
  omega
/-- A new run. -/
def MadeR (w : World) (p s it : Int) (dn : Bool) (n m : Nat) (nn : Int) (j : Nat) (vs ev : List Int) (nx : List Nat) (e : Ending) (w' : World) : Prop :=
  ∃ A c B d C k, e = .returned (.agg #[.int .i64 p, .int .i64 s, .int .i64 it, .bool dn, .slice A n c, .slice B m d, .int .i64 nn, .slice C j k]) ∧ Rows3 w' w.heap.size A n c B m d C j k vs ev nx ∧ Below w.heap.size w w'
/-- A run that stands in a block of its own, with rows of its own; all of it at lo and above. -/
structure RSt (w : World) (lo b : Nat) (p s it : Int) (dn : Bool) (A : Option Addr) (n c : Nat) (B : Option Addr) (m d : Nat) (nn : Int) (C : Option Addr) (j k : Nat) (vs ev : List Int) (nx : List Nat) : Prop where
  bx : Blk w b #[.int .i64 p, .int .i64 s, .int .i64 it, .bool dn, .slice A n c, .slice B m d, .int .i64 nn, .slice C j k] 32
  v : w.ownsRow lo 3 1 (.slice A n c) n (vi vs)
  e : w.ownsRow lo 3 1 (.slice B m d) m (vi ev)
  x : w.ownsRow lo 5 1 (.slice C j k) j (vb nx)
  ap : (Value.slice A n c).ownBlock = none ∨ (Value.slice B m d).ownBlock ≠ (Value.slice A n c).ownBlock
  lb : lo ≤ b
section
variable {w w' : World} {lo b n c m d j k : Nat} {p s it nn : Int} {dn : Bool} {A B C : Option Addr} {vs ev : List Int} {nx : List Nat}
theorem RSt.below (h : RSt w lo b p s it dn A n c B m d nn C j k vs ev nx) (hb : Below w.heap.size w w') : RSt w' lo b p s it dn A n c B m d nn C j k vs ev nx :=
  ⟨h.bx.below hb, own_below h.v hb, own_below h.e hb, own_below h.x hb, h.ap, h.lb⟩
theorem RSt.mono (h : RSt w lo b p s it dn A n c B m d nn C j k vs ev nx) {lo' : Nat} (hl : lo' ≤ lo) : RSt w lo' b p s it dn A n c B m d nn C j k vs ev nx :=
  ⟨h.bx, own_monoG h.v hl, own_monoG h.e hl, own_monoG h.x hl, h.ap, Nat.le_trans hl h.lb⟩
theorem RSt.rows (h : RSt w lo b p s it dn A n c B m d nn C j k vs ev nx) : Rows3 w lo A n c B m d C j k vs ev nx := ⟨h.v, h.e, h.x, h.ap⟩
theorem RSt.nl (h : RSt w lo b p s it dn A n c B m d nn C j k vs ev nx) : vs.length = n ∧ ev.length = m ∧ nx.length = j := by
  have h1 := h.v.1; have h2 := h.e.1; have h3 := h.x.1
  rw [vi_len] at h1 h2
  rw [vb_length] at h3
  omega
/-- Another block of the call's own is written. -/
theorem RSt.other (h : RSt w lo b p s it dn A n c B m d nn C j k vs ev nx) {g : Nat} (hg : w.grownBy w' (some g)) (h0 : g ≠ b) (h1 : (Value.slice A n c).ownBlock ≠ some g) (h2 : (Value.slice B m d).ownBlock ≠ some g) (h3 : (Value.slice C j k).ownBlock ≠ some g) : RSt w' lo b p s it dn A n c B m d nn C j k vs ev nx :=
  ⟨h.bx.grown hg (fun e => h0 (by injection e)), own_kept h.v hg h1, own_kept h.e hg h2, own_kept h.x hg h3, h.ap, h.lb⟩
theorem RSt.parts (h : RSt w lo b p s it dn A n c B m d nn C j k vs ev nx) : (b < w.heap.size ∧ w.cell? ⟨b, 0, none⟩ = some (.int .i64 p) ∧ w.cell? ⟨b, 1, none⟩ = some (.int .i64 s) ∧ w.cell? ⟨b, 2, none⟩ = some (.int .i64 it) ∧ w.cell? ⟨b, 3, none⟩ = some (.bool dn) ∧ w.cell? ⟨b, 4, none⟩ = some (.slice A n c) ∧ w.cell? ⟨b, 5, none⟩ = some (.slice B m d) ∧ w.cell? ⟨b, 6, none⟩ = some (.int .i64 nn) ∧ w.cell? ⟨b, 7, none⟩ = some (.slice C j k)) ∧ (∀ i, w.frozen? ⟨b, i, none⟩ = false) :=
  ⟨h.bx.eight, fun i => h.bx.frozen i⟩
end
end Go.Proofs.YtlhcobkncceodaaGreatDoor
namespace Go.Proofs.YtlhcobkncceodaaGreatDoor

theorem newVal_in {p x : Int} {es : List VE} (hx : 0 ≤ x ∧ x ≤ 1099511627776) (h : ∀ e ∈ es, e.ok = true) : 0 ≤ newVal p x es ∧ newVal p x es ≤ 1099511627776 := by
  unfold newVal
  split
  · exact addC_lim _ _
  split
  · unfold minAll
    suffices H : ∀ (l : List VE) (y : Int), (∀ e ∈ l, e.ok = true) → 0 ≤ y ∧ y ≤ 1099511627776 → 0 ≤ l.foldl (fun x e => min x e.v) y ∧ l.foldl (fun x e => min x e.v) y ≤ 1099511627776 from H es x h hx
    intro l
    induction l with
    | nil => intro y _ hy; exact hy
    | cons e l ih =>
      intro y hl hy
      rw [List.foldl_cons]
      have h1 := VE.ok_lim (hl e List.mem_cons_self)
      exact ih _ (fun a ha => hl a (List.mem_cons_of_mem _ ha)) (by omega)
  split
  · unfold minPath
    suffices H : ∀ (l : List VE) (y : Int), 0 ≤ y ∧ y ≤ 1099511627776 → 0 ≤ l.foldl pathStep y ∧ l.foldl pathStep y ≤ 1099511627776 from H es x hx
    intro l
    induction l with
    | nil => intro y hy; exact hy
    | cons e l ih =>
      intro y hy
      rw [List.foldl_cons]
      refine ih _ ?_
      unfold pathStep
      have h1 := addC_lim e.v e.w
      split
      · omega
      · exact hy
  · exact mostR_lim (told_lim h) hx
theorem newEdge_in {p x : Int} {n : Nat} {e : VE} (hx : 0 ≤ x ∧ x ≤ 1099511627776) (he : e.ok = true) : 0 ≤ newEdge p x n e ∧ newEdge p x n e ≤ 1099511627776 := by
  have h := VE.ok_lim he
  unfold newEdge
  split
  · split
    · rw [Int.tdiv_eq_ediv_of_nonneg hx.1]
      have h1 := Int.ediv_nonneg (a := x) (b := (n : Int)) hx.1 (by omega)
      have h2 := Int.ediv_le_self (a := x) (n : Int) hx.1
      omega
    · omega
  split
  · omega
  split
  · split
    · exact hx
    · omega
  · exact capF_lim _
theorem fold_fix {f : Int → VE → Int} {n : Int} : ∀ {l : List VE}, (∀ e ∈ l, f n e = n) → l.foldl f n = n
  | [], _ => rfl
  | e :: l, h => by rw [List.foldl_cons, h e List.mem_cons_self]; exact fold_fix (fun a ha => h a (List.mem_cons_of_mem _ ha))
theorem fold_same {f : Int → VE → Int} {g : VE → VE} : ∀ {l : List VE} (s : Int), (∀ e ∈ l, ∀ s, f s (g e) = f s e) → (l.map g).foldl f s = l.foldl f s
  | [], _, _ => rfl
  | e :: l, s, h => by rw [List.map_cons, List.foldl_cons, List.foldl_cons, h e List.mem_cons_self]; exact fold_same _ (fun a ha => h a (List.mem_cons_of_mem _ ha))
theorem minAll_mem {x : Int} {l : List VE} {e : VE} (he : e ∈ l) : minAll x l ≤ e.v := by
  unfold minAll
  have M : ∀ (l : List VE) (y : Int), l.foldl (fun x e => min x e.v) y ≤ y := by
    intro l
    induction l with
    | nil => intro y; exact Int.le_refl _
    | cons a l ih => intro y; rw [List.foldl_cons]; have := ih (min y a.v); omega
  suffices H : ∀ (l : List VE) (y : Int), e ∈ l → l.foldl (fun x e => min x e.v) y ≤ e.v from H l x he
  intro l
  induction l with
  | nil => intro y h; simp at h
  | cons a l ih =>
    intro y h
    rw [List.foldl_cons]
    rcases List.mem_cons.1 h with rfl | h
    · have := M l (min y e.v); omega
    · exact ih _ h
theorem minPath_mem {x : Int} {l : List VE} {e : VE} (he : e ∈ l) (hi : e.i = true) : minPath x l ≤ addC e.v e.w := by
  unfold minPath
  have S : ∀ y (a : VE), pathStep y a ≤ y := by intro y a; unfold pathStep; split <;> omega
  have M : ∀ (l : List VE) (y : Int), l.foldl pathStep y ≤ y := by
    intro l
    induction l with
    | nil => intro y; exact Int.le_refl _
    | cons a l ih => intro y; rw [List.foldl_cons]; have := ih (pathStep y a); have := S y a; omega
  suffices H : ∀ (l : List VE) (y : Int), e ∈ l → l.foldl pathStep y ≤ addC e.v e.w from H l x he
  intro l
  induction l with
  | nil => intro y h; simp at h
  | cons a l ih =>
    intro y h
    rw [List.foldl_cons]
    rcases List.mem_cons.1 h with rfl | h
    · have := M l (pathStep y e)
      have h2 : pathStep y e ≤ addC e.v e.w := by unfold pathStep; rw [if_pos hi]; omega
      omega
    · exact ih _ h
theorem told_small {l : List VE} (h : ∀ e ∈ l, 0 ≤ e.v ∧ e.v < 1000000) : ∀ a ∈ told l, 0 ≤ a ∧ a < 1000 := by
  intro a ha
  obtain ⟨e, he, ha⟩ := List.mem_flatMap.1 ha
  have h1 := h e he
  unfold VE.labs at ha
  rw [Int.tdiv_eq_ediv_of_nonneg h1.1, Int.tmod_eq_emod_of_nonneg h1.1] at ha
  rcases List.mem_append.1 ha with ha | ha
  · split at ha
    · rw [List.mem_singleton.1 ha]; omega
    · simp at ha
  · split at ha
    · rw [List.mem_singleton.1 ha]; omega
    · simp at ha
theorem most_small {T : List Int} {x : Int} (hT : ∀ a ∈ T, 0 ≤ a ∧ a < 1000) (hx : 0 ≤ x ∧ x < 1000) : 0 ≤ mostR T x ∧ mostR T x < 1000 := by
  rcases mostR_is T x with ⟨_, h⟩ | ⟨h, _⟩
  · rw [h]; exact hx
  · exact hT _ h
theorem most_again {T : List Int} {x : Int} : mostR T (mostR T x) = mostR T x := by
  rcases mostR_is T x with ⟨h, h2⟩ | h
  · subst h; rw [h2]; exact h2
  · exact (IsMost.uniq (T := T) (x := mostR T x) (.inr h) (mostR_is T (mostR T x))).symm
/-- A view that bears the edge's new value. -/
def VE.put (e : VE) (p x : Int) (n : Nat) : VE := ⟨e.i, e.o, e.w, newEdge p x n e⟩
theorem outs_put (p x : Int) (n : Nat) (l : List VE) : outsN (l.map fun e => e.put p x n) = outsN l := by
  unfold outsN
  suffices H : ∀ (l : List VE) (s : Nat), (l.map fun e => e.put p x n).foldl (fun n e => if e.o then n + 1 else n) s = l.foldl (fun n e => if e.o then n + 1 else n) s from H l 0
  intro l
  induction l with
  | nil => intro s; rfl
  | cons e l ih => intro s; rw [List.map_cons, List.foldl_cons, List.foldl_cons]; exact ih _
theorem flat_same {f g : VE → List Int} : ∀ {l : List VE}, (∀ e ∈ l, f e = g e) → l.flatMap f = l.flatMap g
  | [], _ => rfl
  | e :: l, h => by rw [List.flatMap_cons, List.flatMap_cons, h e List.mem_cons_self, flat_same (fun a ha => h a (List.mem_cons_of_mem _ ha))]
theorem lab_div {q r : Int} (_hq : 0 ≤ q ∧ q < 1000) (hr : 0 ≤ r ∧ r < 1000) : (q * 1000 + r) / 1000 = q ∧ (q * 1000 + r) % 1000 = r := by omega
/-- An update done twice is done once, where no self-loop has changed. -/
theorem upd_again {p x n : Int} {l : List VE} (hp : 1 ≤ p ∧ p ≤ 4) (hn : n = newVal p x l) (hs : ∀ e ∈ l, e.i = true → e.o = true → newEdge p n (outsN l) e = e.v) (hlab : p = 4 → (0 ≤ x ∧ x < 1000) ∧ ∀ e ∈ l, 0 ≤ e.v ∧ e.v < 1000000) :
    newVal p n (l.map fun e => e.put p n (outsN l)) = n ∧ ∀ e ∈ l, newEdge p n (outsN l) (e.put p n (outsN l)) = newEdge p n (outsN l) e := by
  have hc : p = 1 ∨ p = 2 ∨ p = 3 ∨ p = 4 := by omega
  rcases hc with rfl | rfl | rfl | rfl
  · have hv : ∀ e ∈ l, e.i = true → newEdge 1 n (outsN l) e = e.v := by
      intro e he hi
      cases ho : e.o with
      | true => exact hs e he hi ho
      | false => unfold newEdge; simp [ho]
    refine ⟨?_, fun e he => ?_⟩
    · have e1 : rankS (l.map fun e => e.put 1 n (outsN l)) = rankS l := by
        unfold rankS
        refine fold_same 0 (fun e he s => ?_)
        unfold rankStep VE.put
        cases hi : e.i with
        | true => simp only [if_true]; rw [hv e he hi]
        | false => rfl
      rw [hn]
      unfold newVal
      simp only [if_true]
      unfold newRank
      rw [hn] at e1
      unfold newVal newRank at e1
      simp only [if_true] at e1
      rw [e1]
    · unfold newEdge VE.put
      cases ho : e.o with
      | true => simp
      | false => unfold newEdge; simp [ho]
  · have hle : ∀ e ∈ l, n ≤ e.v := fun e he => by rw [hn]; unfold newVal; simp; exact minAll_mem he
    have hv : ∀ e ∈ l, newEdge 2 n (outsN l) e = n := fun e he => by have := hle e he; unfold newEdge; simp; omega
    refine ⟨?_, fun e he => ?_⟩
    · have e1 : minAll n (l.map fun e => e.put 2 n (outsN l)) = n := by
        unfold minAll
        refine fold_fix (fun a ha => ?_)
        obtain ⟨e, he, rfl⟩ := List.mem_map.1 ha
        unfold VE.put
        simp only
        rw [hv e he]
        omega
      unfold newVal
      simp only [show ¬ ((2 : Int) = 1) by omega, if_false, if_true]
      exact e1
    · rw [hv e he]
      have h2 : (e.put 2 n (outsN l)).v = n := hv e he
      unfold newEdge
      simp only [show ¬ ((2 : Int) = 1) by omega, if_false, if_true]
      rw [h2]
      omega
  · have hv : ∀ e ∈ l, e.i = true → newEdge 3 n (outsN l) e = e.v := by
      intro e he hi
      cases ho : e.o with
      | true => exact hs e he hi ho
      | false => unfold newEdge; simp [ho]
    refine ⟨?_, fun e he => ?_⟩
    · have e1 : minPath n (l.map fun e => e.put 3 n (outsN l)) = n := by
        unfold minPath
        refine fold_fix (fun a ha => ?_)
        obtain ⟨e, he, rfl⟩ := List.mem_map.1 ha
        unfold pathStep VE.put
        cases hi : e.i with
        | true =>
          simp only [if_true]
          rw [hv e he hi]
          have h1 : n ≤ addC e.v e.w := by rw [hn]; unfold newVal; simp; exact minPath_mem he hi
          omega
        | false => rfl
      unfold newVal
      simp only [show ¬ ((3 : Int) = 1) by omega, show ¬ ((3 : Int) = 2) by omega, if_false, if_true]
      exact e1
    · unfold newEdge VE.put
      cases ho : e.o with
      | true => simp
      | false => unfold newEdge; simp [ho]
  · obtain ⟨hx, hl⟩ := hlab rfl
    have hn4 : n = mostR (told l) x := by rw [hn]; unfold newVal; simp
    have hnr : 0 ≤ n ∧ n < 1000 := by rw [hn4]; exact most_small (told_small hl) hx
    have hcap : ∀ q r : Int, 0 ≤ q ∧ q < 1000 → 0 ≤ r ∧ r < 1000 → capF (q * 1000 + r) = q * 1000 + r := fun q r h1 h2 => by unfold capF; omega
    have hparts : ∀ e ∈ l, (0 ≤ Int.tdiv e.v 1000 ∧ Int.tdiv e.v 1000 < 1000) ∧ (0 ≤ Int.tmod e.v 1000 ∧ Int.tmod e.v 1000 < 1000) ∧ e.v = Int.tdiv e.v 1000 * 1000 + Int.tmod e.v 1000 := fun e he => by
      have h1 := hl e he
      rw [Int.tdiv_eq_ediv_of_nonneg h1.1, Int.tmod_eq_emod_of_nonneg h1.1]
      omega
    have hdm : ∀ q r : Int, 0 ≤ q ∧ q < 1000 → 0 ≤ r ∧ r < 1000 → Int.tdiv (q * 1000 + r) 1000 = q ∧ Int.tmod (q * 1000 + r) 1000 = r := fun q r h1 h2 => by
      rw [Int.tdiv_eq_ediv_of_nonneg (by omega), Int.tmod_eq_emod_of_nonneg (by omega)]
      exact lab_div h1 h2
    have hg : ∀ e ∈ l, newEdge 4 n (outsN l) e = (if e.o then n else Int.tdiv e.v 1000) * 1000 + (if e.i then n else Int.tmod e.v 1000) := fun e he => by
      obtain ⟨h1, h2, _⟩ := hparts e he
      unfold newEdge
      simp only [show ¬ ((4 : Int) = 1) by omega, show ¬ ((4 : Int) = 2) by omega, show ¬ ((4 : Int) = 3) by omega, if_false]
      refine hcap _ _ ?_ ?_ <;> split <;> assumption
    have hd : ∀ e ∈ l, Int.tdiv (newEdge 4 n (outsN l) e) 1000 = (if e.o then n else Int.tdiv e.v 1000) ∧ Int.tmod (newEdge 4 n (outsN l) e) 1000 = (if e.i then n else Int.tmod e.v 1000) := fun e he => by
      obtain ⟨h1, h2, _⟩ := hparts e he
      rw [hg e he]
      refine hdm _ _ ?_ ?_ <;> split <;> assumption
    refine ⟨?_, fun e he => ?_⟩
    · have e1 : told (l.map fun e => e.put 4 n (outsN l)) = told l := by
        unfold told
        rw [List.flatMap_map]
        refine flat_same (fun e he => ?_)
        obtain ⟨h1, h2⟩ := hd e he
        unfold VE.labs VE.put
        simp only
        rw [h1, h2]
        cases hi : e.i with
        | true =>
          cases ho : e.o with
          | true =>
            have h3 := hs e he hi ho
            have h1' := h1
            have h2' := h2
            rw [h3, ho] at h1'
            rw [h3, hi] at h2'
            simp only [if_true] at h1' h2' ⊢
            rw [h1', h2']
          | false => simp
        | false => cases ho : e.o <;> simp
      unfold newVal
      simp only [show ¬ ((4 : Int) = 1) by omega, show ¬ ((4 : Int) = 2) by omega, show ¬ ((4 : Int) = 3) by omega, if_false]
      rw [e1, hn4]
      exact most_again
    · obtain ⟨h1, h2⟩ := hd e he
      obtain ⟨h3, h4, _⟩ := hparts e he
      have e1 : newEdge 4 n (outsN l) (e.put 4 n (outsN l)) = capF ((if e.o then n else Int.tdiv (newEdge 4 n (outsN l) e) 1000) * 1000 + (if e.i then n else Int.tmod (newEdge 4 n (outsN l) e) 1000)) := by
        conv => lhs; unfold newEdge
        simp only [show ¬ ((4 : Int) = 1) by omega, show ¬ ((4 : Int) = 2) by omega, show ¬ ((4 : Int) = 3) by omega, if_false]
        rfl
      rw [e1, h1, h2, hg e he]
      have e2 : (if e.o = true then n else if e.o = true then n else Int.tdiv e.v 1000) = (if e.o = true then n else Int.tdiv e.v 1000) := by split <;> rfl
      have e3 : (if e.i = true then n else if e.i = true then n else Int.tmod e.v 1000) = (if e.i = true then n else Int.tmod e.v 1000) := by split <;> rfl
      rw [e2, e3]
      refine hcap _ _ ?_ ?_ <;> split <;> assumption
end Go.Proofs.YtlhcobkncceodaaGreatDoor
