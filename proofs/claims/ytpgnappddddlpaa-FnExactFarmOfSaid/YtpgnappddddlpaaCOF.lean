/- Vertex programs as data (plain lemmas; no condition): a view of an edge, sums limited to Far, first values, the new value of a vertex and the new values of its edges; the most frequent label. // Farms as data: when one is valid, its graph, the values of its edges by their numbers (plain lemmas; no condition). // Dealing out a graph's edges by intervals, as data (plain lemmas; no condition). // The greedy division of vertices, and the edges that the intervals hold, as data (no program; no condition). // The contracts of the program's functions that count the edges at the vertices (one loop that takes a function value). -/
import Derived.Test.YtpgnappddddlpaaCOB
import Derived.Test.YtpgnappddddlpaaCOE
import Derived.Test.YtpgnappddddlpaaCOQ
import Derived.Test.YtpgnappddddlpaaCOC
namespace Go.Proofs.Ytpgnappddddlpaa

structure VE where
  i : Bool
  o : Bool
  w : Int
  v : Int
def capF (x : Int) : Int := min (max x 0) 1099511627776
def addC (a b : Int) : Int := min (min (max a 0) 1099511627776 + min (max b 0) 1099511627776) 1099511627776
theorem addC_cap (a b : Int) : capF (capF a + capF b) = addC a b := by unfold capF addC; omega
theorem capF_lim (x : Int) : 0 ≤ capF x ∧ capF x ≤ 1099511627776 := by unfold capF; omega
theorem addC_lim (a b : Int) : 0 ≤ addC a b ∧ addC a b ≤ 1099511627776 := by unfold addC; omega
theorem capF_in {x : Int} (h0 : 0 ≤ x) : capF x = min x 1099511627776 := by unfold capF; omega
theorem addC_in {a b : Int} (h0 : 0 ≤ a) (h1 : 0 ≤ b) : addC a b = capF (a + b) := by unfold capF addC; omega

def progB (p : Int) : Bool := decide (1 ≤ p ∧ p ≤ 4)
def jobB (n p s : Int) : Bool := progB p && (if p = 3 then decide (0 ≤ s ∧ s < n) else decide (s = 0))
def vtxB (v : Int) : Bool := decide (0 ≤ v ∧ v < 150)
def firstV (p s v : Int) : Int := if progB p && vtxB v then (if p = 1 then 1048576 else if p = 3 then (if v = s then 0 else 1099511627776) else v) else 0
def firstEB (p f t d : Int) : Bool := progB p && (vtxB f && vtxB t && decide (1 ≤ d ∧ d ≤ 400))
def firstE (p f t d : Int) : Int := if firstEB p f t d then (if p = 1 then Int.tdiv 1048576 d else if p = 4 then f * 1000 + t else 1099511627776) else 0

/-! ### the views -/
def valB (x : Int) : Bool := decide (0 ≤ x ∧ x ≤ 1099511627776)
def valsB (l : List Int) : Bool := l.all valB
def VE.ok (e : VE) : Bool := (e.i || e.o) && (decide (0 ≤ e.w ∧ e.w ≤ 1000) && valB e.v)
def viewsB (es : List VE) : Bool := decide (es.length ≤ 400) && es.all VE.ok
def updB (p v x : Int) (es : List VE) : Bool := progB p && (vtxB v && (valB x && viewsB es))
theorem VE.ok_lim {e : VE} (h : e.ok = true) : 0 ≤ e.w ∧ e.w ≤ 1000 ∧ 0 ≤ e.v ∧ e.v ≤ 1099511627776 ∧ (e.i = true ∨ e.o = true) := by
  unfold VE.ok valB at h
  simp at h
  exact ⟨h.2.1.1, h.2.1.2, h.2.2.1, h.2.2.2, h.1⟩
theorem updB_is {p v x : Int} {es : List VE} (h : updB p v x es = true) : (1 ≤ p ∧ p ≤ 4) ∧ (0 ≤ v ∧ v < 150) ∧ (0 ≤ x ∧ x ≤ 1099511627776) ∧ es.length ≤ 400 ∧ ∀ e ∈ es, e.ok = true := by
  unfold updB progB vtxB valB viewsB at h
  simp at h
  exact ⟨h.1, h.2.1, h.2.2.1, h.2.2.2.1, h.2.2.2.2⟩

/-! ### the new value -/
def rankStep (s : Int) (e : VE) : Int := if e.i then addC s e.v else s
def rankS (es : List VE) : Int := es.foldl rankStep 0
def newRank (es : List VE) : Int := addC 157286 (Int.tdiv (17 * rankS es) 20)
def minAll (x : Int) (es : List VE) : Int := es.foldl (fun x e => min x e.v) x
def pathStep (x : Int) (e : VE) : Int := if e.i then min x (addC e.v e.w) else x
def minPath (x : Int) (es : List VE) : Int := es.foldl pathStep x
def VE.labs (e : VE) : List Int := (if e.i then [Int.tdiv e.v 1000] else []) ++ (if e.o then [Int.tmod e.v 1000] else [])
def told (es : List VE) : List Int := es.flatMap VE.labs
def mostStep (T : List Int) (q : Int × Nat) (a : Int) : Int × Nat := if q.2 < T.count a ∨ (T.count a = q.2 ∧ a < q.1) then (a, T.count a) else q
def mostR (T : List Int) (x : Int) : Int := (T.foldl (mostStep T) (x, 0)).1
def newVal (p x : Int) (es : List VE) : Int := if p = 1 then newRank es else if p = 2 then minAll x es else if p = 3 then minPath x es else mostR (told es) x
def outsN (es : List VE) : Nat := es.foldl (fun n e => if e.o then n + 1 else n) 0
def newEdge (p x : Int) (n : Nat) (e : VE) : Int :=
  if p = 1 then (if e.o then Int.tdiv x (n : Int) else e.v)
  else if p = 2 then min x e.v
  else if p = 3 then (if e.o then x else e.v)
  else capF ((if e.o then x else Int.tdiv e.v 1000) * 1000 + (if e.i then x else Int.tmod e.v 1000))
def updV (p v x : Int) (es : List VE) : Int := if updB p v x es then newVal p x es else 0
def updE (p v x : Int) (es : List VE) : List Int := if updB p v x es then es.map (newEdge p (newVal p x es) (outsN es)) else []

section
variable {es : List VE} {k : Nat} {e : VE}
theorem take_snoc {α : Type} {es : List α} {k : Nat} {e : α} (h : es[k]? = some e) : es.take (k + 1) = es.take k ++ [e] := by
  obtain ⟨hk, rfl⟩ := List.getElem?_eq_some_iff.1 h
  rw [List.take_append_getElem]
theorem rankS_lim (es : List VE) : 0 ≤ rankS es ∧ rankS es ≤ 1099511627776 := by
  unfold rankS
  suffices H : ∀ (es : List VE) (s : Int), 0 ≤ s ∧ s ≤ 1099511627776 → 0 ≤ es.foldl rankStep s ∧ es.foldl rankStep s ≤ 1099511627776 from H es 0 (by omega)
  intro es
  induction es with
  | nil => intro s h; exact h
  | cons e r ih =>
    intro s h
    rw [List.foldl_cons]
    refine ih _ ?_
    unfold rankStep
    split
    · exact addC_lim _ _
    · exact h
theorem rankS_snoc (h : es[k]? = some e) : rankS (es.take (k + 1)) = rankStep (rankS (es.take k)) e := by
  rw [take_snoc h]; unfold rankS; rw [List.foldl_append]; rfl
theorem minAll_snoc (x : Int) (h : es[k]? = some e) : minAll x (es.take (k + 1)) = min (minAll x (es.take k)) e.v := by
  rw [take_snoc h]; unfold minAll; rw [List.foldl_append]; rfl
theorem minPath_snoc (x : Int) (h : es[k]? = some e) : minPath x (es.take (k + 1)) = pathStep (minPath x (es.take k)) e := by
  rw [take_snoc h]; unfold minPath; rw [List.foldl_append]; rfl
theorem told_snoc (h : es[k]? = some e) : told (es.take (k + 1)) = told (es.take k) ++ e.labs := by
  rw [take_snoc h]; unfold told; rw [List.flatMap_append]; simp
theorem outsN_snoc (h : es[k]? = some e) : outsN (es.take (k + 1)) = if e.o then outsN (es.take k) + 1 else outsN (es.take k) := by
  rw [take_snoc h]; unfold outsN; rw [List.foldl_append]; rfl
theorem labs_len (e : VE) : e.labs.length ≤ 2 := by unfold VE.labs; split <;> split <;> simp
theorem told_len (es : List VE) : (told es).length ≤ 2 * es.length := by
  unfold told
  induction es with
  | nil => simp
  | cons e r ih => rw [List.flatMap_cons, List.length_append, List.length_cons]; have := labs_len e; omega
theorem outsN_le : ∀ (es : List VE), outsN es ≤ es.length := by
  intro es
  unfold outsN
  suffices H : ∀ (es : List VE) (s : Nat), es.foldl (fun n e => if e.o then n + 1 else n) s ≤ s + es.length by have := H es 0; omega
  intro es
  induction es with
  | nil => intro s; simp
  | cons e r ih =>
    intro s
    rw [List.foldl_cons, List.length_cons]
    have := ih (if e.o then s + 1 else s)
    by_cases hq : e.o = true <;> simp [hq] at this ⊢ <;> omega
theorem outsN_pos {es : List VE} {e : VE} (h : e ∈ es) (ho : e.o = true) : 0 < outsN es := by
  unfold outsN
  have M : ∀ (es : List VE) (s : Nat), s ≤ es.foldl (fun n e => if e.o then n + 1 else n) s := by
    intro es
    induction es with
    | nil => intro s; simp
    | cons e r ih => intro s; rw [List.foldl_cons]; have := ih (if e.o then s + 1 else s); by_cases hq : e.o = true <;> simp [hq] at this ⊢ <;> omega
  suffices H : ∀ (es : List VE) (s : Nat), e ∈ es → s < es.foldl (fun n e => if e.o then n + 1 else n) s from H es 0 h
  intro es
  induction es with
  | nil => intro s h; simp at h
  | cons a r ih =>
    intro s h
    rw [List.foldl_cons]
    rcases List.mem_cons.1 h with rfl | h
    · rw [ho]; have := M r (s + 1); simp; omega
    · have := ih (if a.o then s + 1 else s) h
      by_cases hq : a.o = true <;> simp [hq] at this ⊢ <;> omega
theorem labs_lim {e : VE} (h : 0 ≤ e.v ∧ e.v ≤ 1099511627776) : ∀ a ∈ e.labs, 0 ≤ a ∧ a ≤ 1099511627776 := by
  intro a ha
  unfold VE.labs at ha
  rw [Int.tdiv_eq_ediv_of_nonneg h.1, Int.tmod_eq_emod_of_nonneg h.1] at ha
  rcases List.mem_append.1 ha with ha | ha
  · split at ha
    · rw [List.mem_singleton.1 ha]; omega
    · simp at ha
  · split at ha
    · rw [List.mem_singleton.1 ha]; omega
    · simp at ha
theorem told_lim {es : List VE} (h : ∀ e ∈ es, e.ok = true) : ∀ a ∈ told es, 0 ≤ a ∧ a ≤ 1099511627776 := by
  intro a ha
  obtain ⟨e, he, ha⟩ := List.mem_flatMap.1 ha
  have := VE.ok_lim (h e he)
  exact labs_lim (by omega) a ha
end

/-! ### the most frequent label -/
/-- b is the most frequent element of T, the smallest one in case of a tie; x if T is empty. -/
def IsMost (T : List Int) (x b : Int) : Prop := (T = [] ∧ b = x) ∨ (b ∈ T ∧ ∀ a ∈ T, T.count a < T.count b ∨ (T.count a = T.count b ∧ b ≤ a))
theorem IsMost.uniq {T : List Int} {x b c : Int} (h : IsMost T x b) (h' : IsMost T x c) : b = c := by
  rcases h with ⟨rfl, rfl⟩ | ⟨hb, h1⟩
  · rcases h' with ⟨_, rfl⟩ | ⟨hc, _⟩
    · rfl
    · simp at hc
  · rcases h' with ⟨rfl, _⟩ | ⟨hc, h2⟩
    · simp at hb
    · have e1 := h1 c hc
      have e2 := h2 b hb
      omega
theorem IsMost.perm {T S : List Int} {x b : Int} (h : IsMost T x b) (p : T.Perm S) : IsMost S x b := by
  rcases h with ⟨rfl, rfl⟩ | ⟨hb, h1⟩
  · exact .inl ⟨p.nil_eq.symm, rfl⟩
  · exact .inr ⟨p.mem_iff.1 hb, fun a ha => by have := h1 a (p.mem_iff.2 ha); rwa [p.count_eq, p.count_eq] at this⟩
/-- What stands behind a prefix P of T, the counts in T. -/
def MostIn (T P : List Int) (x : Int) (q : Int × Nat) : Prop := (P = [] ∧ q = (x, 0)) ∨ (q.1 ∈ P ∧ q.2 = T.count q.1 ∧ ∀ a ∈ P, T.count a < q.2 ∨ (T.count a = q.2 ∧ q.1 ≤ a))
theorem MostIn.step {T P : List Int} {x : Int} {q : Int × Nat} (h : MostIn T P x q) (a : Int) (ha : a ∈ T) : MostIn T (P ++ [a]) x (mostStep T q a) := by
  have hp : 0 < T.count a := List.count_pos_iff.2 ha
  right
  unfold mostStep
  rcases h with ⟨rfl, rfl⟩ | ⟨h1, h2, h3⟩
  · rw [if_pos (.inl hp)]
    simp
  · by_cases hc : q.2 < T.count a ∨ (T.count a = q.2 ∧ a < q.1)
    · rw [if_pos hc]
      refine ⟨by simp, rfl, fun b hb => ?_⟩
      rcases List.mem_append.1 hb with hb | hb
      · have := h3 b hb
        simp only
        omega
      · rw [List.mem_singleton.1 hb]
        simp
    · rw [if_neg hc]
      refine ⟨List.mem_append_left _ h1, h2, fun b hb => ?_⟩
      rcases List.mem_append.1 hb with hb | hb
      · exact h3 b hb
      · rw [List.mem_singleton.1 hb]
        omega
theorem mostR_in (T : List Int) (x : Int) : ∀ (R P : List Int) (q : Int × Nat), (∀ a ∈ R, a ∈ T) → MostIn T P x q → MostIn T (P ++ R) x (R.foldl (mostStep T) q)
  | [], P, q, _, h => by simpa using h
  | a :: R, P, q, hR, h => by
    rw [List.foldl_cons, show P ++ a :: R = (P ++ [a]) ++ R by simp]
    exact mostR_in T x R _ _ (fun b hb => hR b (List.mem_cons_of_mem _ hb)) (h.step a (hR a (List.mem_cons_self)))
theorem mostR_is (T : List Int) (x : Int) : IsMost T x (mostR T x) := by
  have h := mostR_in T x T [] (x, 0) (fun _ h => h) (.inl ⟨rfl, rfl⟩)
  rw [List.nil_append] at h
  unfold mostR
  rcases h with ⟨h1, h2⟩ | ⟨h1, h2, h3⟩
  · left
    exact ⟨h1, by rw [h2]⟩
  · right
    refine ⟨h1, fun a ha => ?_⟩
    rw [← h2]
    exact h3 a ha
theorem mostR_lim {T : List Int} {x : Int} (hT : ∀ a ∈ T, 0 ≤ a ∧ a ≤ 1099511627776) (hx : 0 ≤ x ∧ x ≤ 1099511627776) : 0 ≤ mostR T x ∧ mostR T x ≤ 1099511627776 := by
  rcases mostR_is T x with ⟨_, h⟩ | ⟨h, _⟩
  · rw [h]; exact hx
  · exact hT _ h

/-! ### the scan of a sorted list -/
/-- What stands behind a prefix P of a sorted list: best, most, count. -/
def Scan (P : List Int) (x b : Int) (m c : Nat) : Prop := (P = [] ∧ b = x ∧ m = 0 ∧ c = 0) ∨ (∃ y, P.getLast? = some y ∧ c = P.count y ∧ b ∈ P ∧ m = P.count b ∧ ∀ a ∈ P, P.count a < m ∨ (P.count a = m ∧ b ≤ a))
theorem Scan.is {P : List Int} {x b : Int} {m c : Nat} (h : Scan P x b m c) : IsMost P x b := by
  rcases h with ⟨h1, h2, _, _⟩ | ⟨y, _, _, h3, h4, h5⟩
  · exact .inl ⟨h1, h2⟩
  · right
    refine ⟨h3, fun a ha => ?_⟩
    rw [← h4]
    exact h5 a ha
theorem count_snoc (P : List Int) (a b : Int) : (P ++ [a]).count b = P.count b + if a = b then 1 else 0 := by
  rw [List.count_append, List.count_singleton]
  simp
theorem last_count {P : List Int} {y a : Int} (hs : (P ++ [a]).Pairwise (· ≤ ·)) (hl : P.getLast? = some y) (hne : y ≠ a) : P.count a = 0 := by
  rw [List.count_eq_zero]
  intro hm
  have hs' := List.pairwise_append.1 hs
  have h1 : y ∈ P := List.mem_of_getLast? hl
  have h2 := hs'.2.2 y h1 a (by simp)
  obtain ⟨Q, rfl⟩ : ∃ Q, P = Q ++ [y] := by
    obtain ⟨Q, hQ⟩ := List.getLast?_eq_some_iff.1 hl
    exact ⟨Q, hQ⟩
  rcases List.mem_append.1 hm with hm | hm
  · have h3 := (List.pairwise_append.1 hs'.1).2.2 a hm y (by simp)
    omega
  · simp at hm
    omega
/-- One more element; 'same': it is the last one again. -/
theorem Scan.step {P : List Int} {x b a : Int} {m c : Nat} (h : Scan P x b m c) (hs : (P ++ [a]).Pairwise (· ≤ ·)) (same : Bool) (hsame : same = true → P.getLast? = some a) (hdiff : same = false → P.getLast? ≠ some a) :
    Scan (P ++ [a]) x (if m < (if same then c else 0) + 1 then a else b) (if m < (if same then c else 0) + 1 then (if same then c else 0) + 1 else m) ((if same then c else 0) + 1) := by
  have hcnt : (if same then c else 0) = P.count a := by
    rcases h with ⟨rfl, _, _, rfl⟩ | ⟨y, h1, h2, _, _, _⟩
    · simp
    · cases hsm : same with
      | true => have := hsame hsm; rw [h1] at this; injection this with this; subst this; simpa using h2
      | false =>
        have := hdiff hsm
        rw [h1] at this
        rw [last_count hs h1 (fun e => this (by rw [e]))]
        rfl
  rw [hcnt]
  clear hcnt hsame hdiff
  right
  refine ⟨a, by simp, by rw [count_snoc]; simp, ?_⟩
  have hle : ∀ q ∈ P, q ≤ a := fun q hq => (List.pairwise_append.1 hs).2.2 q hq a (by simp)
  by_cases hc : m < P.count a + 1
  · rw [if_pos hc, if_pos hc]
    refine ⟨by simp, by rw [count_snoc]; simp, fun q hq => ?_⟩
    rw [count_snoc]
    rcases List.mem_append.1 hq with hq | hq
    · split
      · rename_i e; subst e; right; exact ⟨rfl, by omega⟩
      · rename_i e
        rcases h with ⟨rfl, _, _, _⟩ | ⟨y, _, _, _, _, h5⟩
        · simp at hq
        · have := h5 q hq
          left
          omega
    · rw [List.mem_singleton.1 hq]
      simp
  · rw [if_neg hc, if_neg hc]
    rcases h with ⟨rfl, _, rfl, _⟩ | ⟨y, _, _, h3, h4, h5⟩
    · simp at hc
    · have hba : a ≠ b := fun e => by subst e; omega
      refine ⟨List.mem_append_left _ h3, by rw [count_snoc, if_neg hba]; omega, fun q hq => ?_⟩
      rw [count_snoc]
      have hqa : ∀ (_ : a = q), P.count q + 1 < m ∨ (P.count q + 1 = m ∧ b ≤ q) := fun e => by
        subst e
        have := hle b h3
        omega
      split
      · rename_i e; exact hqa e
      · rename_i e
        rcases List.mem_append.1 hq with hq | hq
        · have := h5 q hq; omega
        · exact absurd (List.mem_singleton.1 hq).symm e
theorem Scan.most {S T : List Int} {x b : Int} {m c : Nat} (h : Scan S x b m c) (p : T.Perm S) : b = mostR T x := (h.is.perm p.symm).uniq (mostR_is T x)
theorem Scan.le {P : List Int} {x b : Int} {m c : Nat} (h : Scan P x b m c) : m ≤ P.length ∧ c ≤ P.length := by
  rcases h with ⟨rfl, _, rfl, rfl⟩ | ⟨y, _, h2, _, h4, _⟩
  · simp
  · rw [h2, h4]
    exact ⟨List.count_le_length, List.count_le_length⟩
end Go.Proofs.Ytpgnappddddlpaa
namespace Go.Proofs.Ytpgnappddddlpaa
open Go.RowKit

def farS (s : SD) : Bool := s.2.2.all (fun e => valB e.v)
def hiL (l : List SD) : List Int := l.map (fun s => s.2.1)
def farmB (N : Int) (E : List Int) (l : List SD) : Bool := decide (E = hiL l) && l.all farS && joinB N l
theorem hiL_len (l : List SD) : (hiL l).length = l.length := by simp [hiL]
theorem hiL_get {l : List SD} {k : Nat} {s : SD} (h : l[k]? = some s) : (hiL l)[k]? = some s.2.1 := by unfold hiL; rw [List.getElem?_map, h]; rfl
theorem farmB_iff {N : Int} {E : List Int} {l : List SD} (h : farmB N E l = true) : E = hiL l ∧ (∀ s ∈ l, farS s = true) ∧ joinB N l = true := by
  unfold farmB at h
  rw [Bool.and_eq_true, Bool.and_eq_true, decide_eq_true_eq, List.all_eq_true] at h
  exact ⟨h.1.1, h.1.2, h.2⟩
theorem farm_hi {N : Int} {E : List Int} {l : List SD} (h : E ≠ hiL l) : farmB N E l = false := by
  unfold farmB
  rw [decide_eq_false h]
  rfl
theorem farm_far {N : Int} {E : List Int} {l : List SD} {s : SD} (hs : s ∈ l) (h : farS s = false) : farmB N E l = false := by
  cases hf : farmB N E l with
  | false => rfl
  | true => have h1 := (farmB_iff hf).2.1 s hs; rw [h] at h1; cases h1
theorem farm_join {N : Int} {E : List Int} {l : List SD} (h1 : E = hiL l) (h2 : ∀ s ∈ l, farS s = true) : farmB N E l = joinB N l := by
  unfold farmB
  rw [decide_eq_true h1, List.all_eq_true.2 h2]
  rfl
theorem joinB_chain {N : Int} {l : List SD} (h : joinB N l = true) : chainB N 0 l = true := by
  unfold joinB at h
  rw [Bool.and_eq_true] at h
  exact h.1
theorem chain_asc {n : Int} : ∀ {l : List SD} {a : Int}, chainB n a l = true → ascB a (hiL l) = true ∧ lastE a (hiL l) = n
  | [], a, h => ⟨rfl, of_decide_eq_true h⟩
  | s :: r, a, h => by
    rw [chainB, Bool.and_eq_true, Bool.and_eq_true, decide_eq_true_eq] at h
    obtain ⟨h1, h2⟩ := chain_asc h.2
    have h3 := (shardB_iff h.1.1).2.1
    have h4 := h.1.2
    refine ⟨?_, h2⟩
    show (decide (a < s.2.1) && ascB s.2.1 (hiL r)) = true
    rw [h1, Bool.and_true, decide_eq_true_eq]
    omega
theorem chain_lo {n : Int} : ∀ {l : List SD} {a : Int} {k : Nat} {s : SD}, chainB n a l = true → l[k]? = some s → s.1 = lastE a ((hiL l).take k)
  | [], _, _, _, _, h => by simp at h
  | x :: r, a, 0, s, hc, h => by
    rw [chainB, Bool.and_eq_true, Bool.and_eq_true, decide_eq_true_eq] at hc
    have : x = s := by simpa using h
    subst this
    exact hc.1.2
  | x :: r, a, k + 1, s, hc, h => by
    rw [chainB, Bool.and_eq_true, Bool.and_eq_true, decide_eq_true_eq] at hc
    exact chain_lo (a := x.2.1) hc.2 (by simpa using h)
theorem farm_ends {N : Int} {E : List Int} {l : List SD} (h : farmB N E l = true) : endsB N E = true := by
  obtain ⟨h1, _, h3⟩ := farmB_iff h
  have hc := joinB_chain h3
  obtain ⟨h4, h5⟩ := chain_asc hc
  have h6 := chain_n hc (by omega) (by omega)
  subst h1
  rw [ends_yes h4, decide_eq_true_eq]
  exact ⟨h6.1, h6.2, h5⟩
theorem farm_span {N : Int} {E : List Int} {l : List SD} {k : Nat} {s : SD} (h : farmB N E l = true) (hk : l[k]? = some s) : spanR E (k : Int) = (s.1, s.2.1) := by
  obtain ⟨h1, _, h3⟩ := farmB_iff h
  subst h1
  rw [span_yes (hiL_get hk), ← chain_lo (joinB_chain h3) hk]
theorem farm_len {N : Int} {E : List Int} {l : List SD} (h : farmB N E l = true) : E.length = l.length := by
  rw [(farmB_iff h).1, hiL_len]
theorem farm_no_ends {N : Int} {E : List Int} {l : List SD} (h : endsB N E = false) : farmB N E l = false := by
  cases hf : farmB N E l with
  | false => rfl
  | true => rw [farm_ends hf] at h; cases h
theorem farm_no_len {N : Int} {E : List Int} {l : List SD} (h : E.length ≠ l.length) : farmB N E l = false := by
  cases hf : farmB N E l with
  | false => rfl
  | true => exact absurd (farm_len hf) h
theorem farm_no_span {N : Int} {E : List Int} {l : List SD} {k : Nat} {s : SD} (hk : l[k]? = some s) (h : s.1 ≠ (spanR E (k : Int)).1 ∨ s.2.1 ≠ (spanR E (k : Int)).2) : farmB N E l = false := by
  cases hf : farmB N E l with
  | false => rfl
  | true =>
    rw [farm_span hf hk] at h
    rcases h with h | h <;> exact absurd rfl h
theorem farm_no_val {N : Int} {E : List Int} {l : List SD} {s : SD} {e : KE} (hs : s ∈ l) (he : e ∈ s.2.2) (h : 1099511627776 < e.v) : farmB N E l = false :=
  farm_far hs (by
    unfold farS
    rw [List.all_eq_false]
    refine ⟨e, he, ?_⟩
    unfold valB
    rw [decide_eq_true_eq]
    omega)
/-- What the model asks, shard by shard. -/
theorem farm_spec {N : Int} {E : List Int} {l : List SD} (hlen : E.length = l.length) (hs : ∀ (k : Nat) (s : SD), l[k]? = some s → s.1 = (spanR E (k : Int)).1 ∧ s.2.1 = (spanR E (k : Int)).2) (hv : ∀ s ∈ l, ∀ e ∈ s.2.2, e.v ≤ 1099511627776) : farmB N E l = joinB N l := by
  have h1 : E = hiL l := by
    apply List.ext_getElem?
    intro k
    by_cases hk : k < l.length
    · have h2 : l[k]? = some l[k] := List.getElem?_eq_getElem hk
      have h3 : E[k]? = some (E[k]'(by omega)) := List.getElem?_eq_getElem (by omega)
      rw [hiL_get h2, (hs k _ h2).2, span_yes h3, h3]
    · rw [List.getElem?_eq_none (by omega), List.getElem?_eq_none (by rw [hiL_len]; omega)]
  cases hj : joinB N l with
  | false => unfold farmB; rw [hj, Bool.and_false]
  | true =>
    rw [farm_join h1 (fun s hm => ?_), hj]
    unfold farS
    rw [List.all_eq_true]
    intro e he
    have h2 := shardB_iff (chain_each (joinB_chain hj) s hm)
    have h3 := kedgeB_iff (runK_each h2.2.2.2.2 e he)
    have h4 := hv s hm e he
    unfold valB
    rw [decide_eq_true_eq]
    omega
/-! ### its graph -/
def farmN (N : Int) (E : List Int) (l : List SD) : Int := if farmB N E l = true then N else 0
def farmG (N : Int) (E : List Int) (l : List SD) : List GE := if farmB N E l = true then edgesJ (flatK l) else []
theorem farmG_no {N : Int} {E : List Int} {l : List SD} (h : farmB N E l = false) : farmN N E l = 0 ∧ farmG N E l = [] := by simp [farmN, farmG, h]
theorem farmG_yes {N : Int} {E : List Int} {l : List SD} (h : farmB N E l = true) : farmN N E l = N ∧ farmG N E l = edgesJ (flatK l) := by simp [farmN, farmG, h]
theorem farmG_join {N : Int} {E : List Int} {l : List SD} (h : farmB N E l = joinB N l) : farmN N E l = joinN N l ∧ farmG N E l = joinE N l := by simp [farmN, farmG, joinN, joinE, h]
theorem edgesJ_len (F : List KE) : (edgesJ F).length = F.length := by simp [edgesJ]
theorem join_inds {N : Int} {l : List SD} (h : joinB N l = true) : (flatK l).length ≤ 400 ∧ (∀ e ∈ flatK l, 0 ≤ e.i ∧ e.i < ((flatK l).length : Int) ∧ 0 ≤ e.f ∧ e.f < N) ∧ ((flatK l).map KE.i).Nodup := by
  have hc := joinB_chain h
  unfold joinB indsOk at h
  rw [Bool.and_eq_true, Bool.and_eq_true, Bool.and_eq_true] at h
  refine ⟨of_decide_eq_true h.2.1.1, fun e he => ?_, of_decide_eq_true h.2.2⟩
  have h1 := of_decide_eq_true (List.all_eq_true.1 h.2.1.2 e he)
  have h2 := flat_each hc e he
  exact ⟨h2.1, h1.1, h2.2.2, h1.2⟩
theorem farm_inds {N : Int} {E : List Int} {l : List SD} (h : farmB N E l = true) : (flatK l).length ≤ 400 ∧ (∀ e ∈ flatK l, 0 ≤ e.i ∧ e.i < ((flatK l).length : Int) ∧ 0 ≤ e.f ∧ e.f < N) ∧ ((flatK l).map KE.i).Nodup := join_inds (farmB_iff h).2.2
theorem farmG_len (N : Int) (E : List Int) (l : List SD) : (farmG N E l).length ≤ 400 := by
  unfold farmG
  split
  · rename_i h
    rw [edgesJ_len]
    exact (farm_inds h).1
  · simp
/-- A valid farm has at most 150 shards. -/
theorem chain_len {n : Int} : ∀ {l : List SD} {a : Int}, chainB n a l = true → 0 ≤ a → a + (l.length : Int) ≤ n
  | [], a, h, _ => by have := of_decide_eq_true h; simp; omega
  | s :: r, a, h, h0 => by
    rw [chainB, Bool.and_eq_true, Bool.and_eq_true, decide_eq_true_eq] at h
    have h3 := (shardB_iff h.1.1)
    have h4 := chain_len h.2 (by omega)
    have h5 := h.1.2
    rw [List.length_cons]
    omega
theorem farm_few {N : Int} {E : List Int} {l : List SD} (h : farmB N E l = true) : l.length ≤ 150 := by
  have hc := joinB_chain (farmB_iff h).2.2
  have h1 := chain_len hc (by omega)
  have h2 := chain_n hc (by omega) (by omega)
  omega
/-! ### its values -/
def valOf (F : List KE) (j : Nat) : Int := ((F.find? (fun e => decide (e.i = (j : Int)))).map KE.v).getD 0
def valRow (m : Nat) (F : List KE) : List Int := (List.range m).map (valOf F)
def farmV (N : Int) (E : List Int) (l : List SD) : List Int := if farmB N E l = true then valRow (flatK l).length (flatK l) else []
theorem valRow_len (m : Nat) (F : List KE) : (valRow m F).length = m := by simp [valRow]
theorem valRow_get {m : Nat} {F : List KE} {j : Nat} (h : j < m) : (valRow m F)[j]? = some (valOf F j) := by simp [valRow, h]
theorem valRow_nil (m : Nat) : valRow m [] = List.replicate m 0 := by
  apply List.ext_getElem?
  intro j
  by_cases h : j < m
  · rw [valRow_get h]
    simp [valOf, h]
  · rw [List.getElem?_eq_none (by rw [valRow_len]; omega), List.getElem?_eq_none (by simp; omega)]
theorem valOf_snoc_no {F : List KE} {e : KE} {j : Nat} (h : e.i ≠ (j : Int)) : valOf (F ++ [e]) j = valOf F j := by
  unfold valOf
  rw [List.find?_append]
  cases hf : F.find? (fun x => decide (x.i = (j : Int))) with
  | some a => rfl
  | none => simp [h]
theorem valOf_snoc_yes {F : List KE} {e : KE} {j : Nat} (h : e.i = (j : Int)) (hn : hadB F j = false) : valOf (F ++ [e]) j = e.v := by
  unfold valOf
  rw [List.find?_append]
  have : F.find? (fun x => decide (x.i = (j : Int))) = none := by
    rw [List.find?_eq_none]
    intro x hx hh
    unfold hadB at hn
    rw [List.any_eq_false] at hn
    exact hn x hx hh
  rw [this]
  simp [h]
theorem valRow_snoc {m j : Nat} {F : List KE} {e : KE} (hj : e.i = (j : Int)) (hn : hadB F j = false) : (valRow m F).set j e.v = valRow m (F ++ [e]) := by
  apply List.ext_getElem?
  intro q
  by_cases h : q < m
  · rw [valRow_get h, List.getElem?_set]
    by_cases hq : j = q
    · subst hq
      rw [if_pos rfl, if_pos (by rw [valRow_len]; exact h), valOf_snoc_yes hj hn]
    · rw [if_neg hq, valRow_get h, valOf_snoc_no (by omega)]
  · rw [List.getElem?_eq_none (by rw [List.length_set, valRow_len]; omega), List.getElem?_eq_none (by rw [valRow_len]; omega)]
/-- The number of an edge that stands behind a part of the whole list has not come up in that part. -/
theorem had_no {F G : List KE} {e : KE} {j : Nat} (hn : ((F ++ e :: G).map KE.i).Nodup) (hj : e.i = (j : Int)) : hadB F j = false := by
  cases h : hadB F j with
  | false => rfl
  | true => exact absurd hn (nodup_no hj h)
theorem farmV_no {N : Int} {E : List Int} {l : List SD} (h : farmB N E l = false) : farmV N E l = [] := by simp [farmV, h]
theorem farmV_yes {N : Int} {E : List Int} {l : List SD} (h : farmB N E l = true) : farmV N E l = valRow (flatK l).length (flatK l) := by simp [farmV, h]
theorem farmV_len (N : Int) (E : List Int) (l : List SD) : (farmV N E l).length ≤ 400 := by
  unfold farmV
  split
  · rename_i h
    rw [valRow_len]
    exact (farm_inds h).1
  · simp
end Go.Proofs.Ytpgnappddddlpaa
namespace Go.Proofs.Ytpgnappddddlpaa
open Go.RowKit

def recAt (ends : List Int) (es : List GE) (j : Nat) : GE := match es[j]? with
  | some e => ⟨ivE ends e.t, e.f, (j : Int)⟩
  | none => zeroG
def recsK (ends : List Int) (es : List GE) (k : Nat) : List GE := (List.range k).map (recAt ends es)
theorem recAt_some {ends : List Int} {es : List GE} {j : Nat} {e : GE} (h : es[j]? = some e) : recAt ends es j = ⟨ivE ends e.t, e.f, (j : Int)⟩ := by unfold recAt; rw [h]
theorem recsK_len (ends : List Int) (es : List GE) (k : Nat) : (recsK ends es k).length = k := by simp [recsK]
theorem recsK_step {ends : List Int} {es : List GE} {k : Nat} {e : GE} (h : es[k]? = some e) : recsK ends es (k + 1) = recsK ends es k ++ [⟨ivE ends e.t, e.f, (k : Int)⟩] := by
  unfold recsK
  rw [List.range_succ, List.map_append, List.map_cons, List.map_nil, recAt_some h]
def keOf (es : List GE) (r : GE) : KE := match es[r.w.toNat]? with
  | some e => ⟨e.f, e.t, e.w, r.w, 0⟩
  | none => zero5
theorem keOf_some {es : List GE} {j : Nat} {e : GE} (a b : Int) (h : es[j]? = some e) : keOf es ⟨a, b, (j : Int)⟩ = ⟨e.f, e.t, e.w, (j : Int), 0⟩ := by
  unfold keOf
  simp only [Int.toNat_natCast]
  rw [h]
def dealt (es L : List GE) (p : Int) : List KE := (L.filter (fun r => decide (r.f = p))).map (keOf es)
theorem dealt_yes {es L : List GE} {q : Nat} {r : GE} {p : Int} (h : L[q]? = some r) (hp : r.f = p) : dealt es (L.take (q + 1)) p = dealt es (L.take q) p ++ [keOf es r] := by
  unfold dealt
  rw [g_take L q r h, List.filter_append, List.map_append]
  simp [hp]
theorem dealt_no {es L : List GE} {q : Nat} {r : GE} {p : Int} (h : L[q]? = some r) (hp : r.f ≠ p) : dealt es (L.take (q + 1)) p = dealt es (L.take q) p := by
  unfold dealt
  rw [g_take L q r h, List.filter_append, List.map_append]
  simp [hp]
theorem dealt_len (es L : List GE) (p : Int) : (dealt es L p).length ≤ L.length := by
  unfold dealt
  rw [List.length_map]
  exact List.length_filter_le _ _
def sortedRecs (ends : List Int) (es : List GE) : List GE := sortR (recsK ends es es.length)
theorem sortedRecs_len (ends : List Int) (es : List GE) : (sortedRecs ends es).length = es.length := by
  unfold sortedRecs
  rw [(sortR_perm _).length_eq, recsK_len]
theorem sortedRecs_mem {ends : List Int} {es : List GE} {r : GE} (h : r ∈ sortedRecs ends es) : ∃ (j : Nat) (e : GE), es[j]? = some e ∧ r = ⟨ivE ends e.t, e.f, (j : Int)⟩ := by
  have h1 := (sortR_perm _).mem_iff.1 h
  unfold recsK at h1
  obtain ⟨j, hj, rfl⟩ := List.mem_map.1 h1
  have hj := List.mem_range.1 hj
  exact ⟨j, es[j], List.getElem?_eq_getElem hj, recAt_some (List.getElem?_eq_getElem hj)⟩
def shardAt (ends : List Int) (es L : List GE) (p : Nat) : SD := ((spanR ends (p : Int)).1, (spanR ends (p : Int)).2, dealt es L (p : Int))
def shardRow (ends : List Int) (es L : List GE) (n : Nat) : List SD := (List.range n).map (shardAt ends es L)
theorem shardRow_len (ends : List Int) (es L : List GE) (n : Nat) : (shardRow ends es L n).length = n := by simp [shardRow]
theorem shardRow_get {ends : List Int} {es L : List GE} {n p : Nat} (h : p < n) : (shardRow ends es L n)[p]? = some (shardAt ends es L p) := by simp [shardRow, h]
theorem shardRow_step (ends : List Int) (es L : List GE) (n : Nat) : shardRow ends es L (n + 1) = shardRow ends es L n ++ [shardAt ends es L n] := by simp [shardRow, List.range_succ]
def shardsR (N : Int) (es : List GE) (ends : List Int) (size : Int) : List SD := if graphB N es = true ∧ endsB N ends = true ∧ 1 ≤ size then shardRow ends es (sortedRecs ends es) ends.length else []
theorem shardsR_no {N : Int} {es : List GE} {ends : List Int} {size : Int} (h : graphB N es = false ∨ endsB N ends = false ∨ size < 1) : shardsR N es ends size = [] := by
  unfold shardsR
  rw [if_neg]
  rintro ⟨h1, h2, h3⟩
  rcases h with h | h | h
  · rw [h] at h1; cases h1
  · rw [h] at h2; cases h2
  · omega
theorem shardsR_yes {N : Int} {es : List GE} {ends : List Int} {size : Int} (h1 : graphB N es = true) (h2 : endsB N ends = true) (h3 : 1 ≤ size) : shardsR N es ends size = shardRow ends es (sortedRecs ends es) ends.length := if_pos ⟨h1, h2, h3⟩
theorem iv_range {xs : List Int} {v : Int} (h0 : 0 ≤ v) (h1 : v < lastE 0 xs) : 0 ≤ ivE xs v ∧ ivE xs v < xs.length := by
  have hne : xs ≠ [] := fun e => by subst e; simp [lastE] at h1; omega
  obtain ⟨k, hk⟩ : ∃ k, xs.length = k + 1 := ⟨xs.length - 1, by have := List.length_pos_iff.2 hne; omega⟩
  have hl := lastE_get xs 0 k hk
  have hv : ivE xs v = cntE v xs := by
    unfold ivE
    rw [if_neg]
    rintro (h | h | h)
    · omega
    · exact hne h
    · omega
  rw [hv]
  refine ⟨(cnt_bound v xs).1, ?_⟩
  unfold cntE
  have : (xs.filter fun e => decide (e ≤ v)).length < xs.length := List.length_filter_lt_length_iff_exists.2 ⟨lastE 0 xs, List.mem_of_getElem? hl, by simp; omega⟩
  omega
theorem rec_range {N : Int} {es : List GE} {ends : List Int} {r : GE} (h1 : graphB N es = true) (h2 : endsB N ends = true) (h : r ∈ sortedRecs ends es) : ∃ (p j : Nat) (e : GE), r = ⟨(p : Int), e.f, (j : Int)⟩ ∧ p < ends.length ∧ es[j]? = some e ∧ j < es.length ∧ (p : Int) = ivE ends e.t := by
  obtain ⟨j, e, he, rfl⟩ := sortedRecs_mem h
  have hed := edgeB_iff ((graphB_iff h1).2.2.2 e (List.mem_of_getElem? he))
  have hen := endsB_iff h2
  have hr := iv_range (xs := ends) (v := e.t) hed.2.2.1 (by rw [hen.2.2.2]; exact hed.2.2.2.1)
  exact ⟨(ivE ends e.t).toNat, j, e, by rw [Int.toNat_of_nonneg hr.1], by omega, he, (List.getElem?_eq_some_iff.1 he).1, Int.toNat_of_nonneg hr.1⟩
theorem pairs_span (ends : List Int) : pairsE 0 ends = (List.range ends.length).map (fun p : Nat => spanR ends (p : Int)) := by
  apply List.ext_getElem?
  intro p
  by_cases h : p < ends.length
  · have he : ends[p]? = some ends[p] := List.getElem?_eq_getElem h
    rw [pairsE_get ends 0 p _ he, List.getElem?_map, List.getElem?_range h, Option.map_some, span_yes he]
  · rw [List.getElem?_eq_none (by rw [pairsE_len]; omega), List.getElem?_eq_none (by simp; omega)]
theorem shardRow_nil (ends : List Int) (es : List GE) : shardRow ends es [] ends.length = (pairsE 0 ends).map (fun x => (x.1, x.2, [])) := by
  rw [pairs_span, List.map_map]
  rfl
/-- One record dealt. -/
theorem shardRow_deal {ends : List Int} {es L : List GE} {q p n : Nat} {r : GE} (h : L[q]? = some r) (hp : r.f = (p : Int)) : (shardRow ends es (L.take q) n).set p ((spanR ends (p : Int)).1, (spanR ends (p : Int)).2, dealt es (L.take q) (p : Int) ++ [keOf es r]) = shardRow ends es (L.take (q + 1)) n := by
  apply List.ext_getElem?
  intro i
  by_cases hi : i < n
  · rw [shardRow_get hi, List.getElem?_set]
    by_cases hpi : p = i
    · subst hpi
      rw [if_pos rfl, if_pos (by rw [shardRow_len]; exact hi)]
      unfold shardAt
      rw [dealt_yes h hp]
    · rw [if_neg hpi, shardRow_get hi]
      unfold shardAt
      rw [dealt_no h (by omega)]
  · rw [List.getElem?_eq_none (by rw [List.length_set, shardRow_len]; omega), List.getElem?_eq_none (by rw [shardRow_len]; omega)]
end Go.Proofs.Ytpgnappddddlpaa
namespace Go.Proofs.Ytpgnappddddlpaa
open Go.RowKit

/-! ### the greedy division -/
def cutGo (b : Int) : Int → Int → List Int → List Int
  | v, _, [] => [v]
  | v, s, d :: r => if b < s + d then v :: cutGo b (v + 1) d r else cutGo b (v + 1) (s + d) r
def cutFrom (b v : Int) : List Int → List Int
  | [] => []
  | d :: r => cutGo b (v + 1) d r
def cutR (N : Int) (es : List GE) (b : Int) : List Int := if graphB N es = true ∧ 1 ≤ b ∧ b ≤ 400 then cutFrom b 0 (degs GE.t N.toNat es) else []
theorem cutGo_end (b v s : Int) : cutGo b v s [] = [v] := rfl
theorem cutGo_new {b v s d : Int} (r : List Int) (h : b < s + d) : cutGo b v s (d :: r) = v :: cutFrom b v (d :: r) := by
  rw [cutGo, if_pos h]
  rfl
theorem cutGo_more {b v s d : Int} (r : List Int) (h : s + d ≤ b) : cutGo b v s (d :: r) = cutGo b (v + 1) (s + d) r := by rw [cutGo, if_neg (by omega)]
theorem cutGo_len : ∀ (l : List Int) (b v s : Int), (cutGo b v s l).length ≤ l.length + 1
  | [], _, _, _ => by simp [cutGo]
  | d :: r, b, v, s => by
    rw [cutGo]
    split
    · have := cutGo_len r b (v + 1) d
      simp only [List.length_cons]
      omega
    · have := cutGo_len r b (v + 1) (s + d)
      simp only [List.length_cons]
      omega
theorem cutFrom_len (b v : Int) : ∀ l : List Int, (cutFrom b v l).length ≤ l.length
  | [] => by simp [cutFrom]
  | d :: r => by
    have := cutGo_len r b (v + 1) d
    simp only [cutFrom, List.length_cons]
    omega
theorem cutR_len (N : Int) (es : List GE) (b : Int) : (cutR N es b).length ≤ 150 := by
  unfold cutR
  split
  · rename_i h
    have h1 := graphB_iff h.1
    have := cutFrom_len b 0 (degs GE.t N.toNat es)
    rw [degs_len] at this
    omega
  · simp

/-! ### what the intervals hold -/
theorem sum_set : ∀ (l : List Int) (i : Nat) (v : Int), i < l.length → (l.set i v).sum = l.sum - l.getD i 0 + v
  | [], _, _, h => by simp at h
  | x :: r, 0, v, _ => by simp; omega
  | x :: r, i + 1, v, h => by
    have := sum_set r i v (by simpa using h)
    simp only [List.set_cons_succ, List.sum_cons, List.getD_cons_succ]
    omega
def sumAt (ds : List Int) (lo hi : Int) : Int := ((ds.drop lo.toNat).take (hi - lo).toNat).sum
def holdsL (ds : List Int) (l : Int) (xs : List Int) : List Int := (pairsE l xs).map fun p => sumAt ds p.1 p.2
theorem holdsL_len (ds : List Int) (l : Int) (xs : List Int) : (holdsL ds l xs).length = xs.length := by simp [holdsL, pairsE_len]
theorem sumAt_out (ds : List Int) (t : Nat) {lo hi : Int} (h0 : 0 ≤ lo) (_hl : lo ≤ hi) (h : (t : Int) < lo ∨ hi ≤ (t : Int)) : sumAt (bump ds t) lo hi = sumAt ds lo hi := by
  unfold sumAt bump
  rw [List.drop_set]
  split
  · rfl
  · rename_i hh
    rw [List.take_set, List.set_eq_of_length_le]
    rw [List.length_take]
    omega
theorem sumAt_in (ds : List Int) (t : Nat) {lo hi : Int} (h0 : 0 ≤ lo) (h1 : lo ≤ (t : Int)) (h2 : (t : Int) < hi) (h3 : t < ds.length) : sumAt (bump ds t) lo hi = sumAt ds lo hi + 1 := by
  unfold sumAt bump
  rw [List.drop_set, if_neg (by omega), List.take_set, sum_set _ _ _ (by rw [List.length_take, List.length_drop]; omega)]
  have : ((ds.drop lo.toNat).take (hi - lo).toNat).getD (t - lo.toNat) 0 = ds.getD t 0 := by
    rw [List.getD_eq_getElem?_getD, List.getD_eq_getElem?_getD, List.getElem?_take, if_pos (by omega), List.getElem?_drop, show lo.toNat + (t - lo.toNat) = t by omega]
  rw [this]
  omega
theorem holds_out (ds : List Int) (t : Nat) : ∀ (xs : List Int) (l : Int), 0 ≤ l → ascB l xs = true → (t : Int) < l → holdsL (bump ds t) l xs = holdsL ds l xs
  | [], _, _, _, _ => rfl
  | e :: r, l, h0, ha, hl => by
    simp only [ascB, Bool.and_eq_true, decide_eq_true_eq] at ha
    have ih := holds_out ds t r e (by omega) ha.2 (by omega)
    simp only [holdsL, pairsE, List.map_cons] at ih ⊢
    rw [sumAt_out ds t h0 (by omega) (.inl hl), ih]
theorem cnt_none : ∀ (xs : List Int) (l t : Int), ascB l xs = true → t < l → cntE t xs = 0
  | [], _, _, _, _ => rfl
  | e :: r, l, t, ha, hl => by
    simp only [ascB, Bool.and_eq_true, decide_eq_true_eq] at ha
    have ih := cnt_none r e t ha.2 (by omega)
    unfold cntE at ih ⊢
    rw [List.filter_cons_of_neg (by simp; omega)]
    exact ih
theorem bump_succ (a : Int) (l : List Int) (i : Nat) : bump (a :: l) (i + 1) = a :: bump l i := by simp [bump]
theorem bump_nought (a : Int) (l : List Int) : bump (a :: l) 0 = (a + 1) :: l := by simp [bump]
theorem holds_bump (ds : List Int) (t : Nat) : ∀ (xs : List Int) (l : Int), 0 ≤ l → ascB l xs = true → l ≤ (t : Int) → (t : Int) < lastE l xs → lastE l xs ≤ ds.length → holdsL (bump ds t) l xs = bump (holdsL ds l xs) (cntE t xs).toNat
  | [], _, _, _, h1, h2, _ => by simp only [lastE] at h2; omega
  | e :: r, l, h0, ha, h1, h2, h3 => by
    simp only [ascB, Bool.and_eq_true, decide_eq_true_eq] at ha
    simp only [lastE] at h2 h3
    by_cases he : e ≤ (t : Int)
    · have ih := holds_bump ds t r e (by omega) ha.2 he h2 h3
      have hc : (cntE t (e :: r)).toNat = (cntE t r).toNat + 1 := by
        unfold cntE
        rw [List.filter_cons_of_pos (by simp; omega), List.length_cons]
        omega
      rw [hc]
      simp only [holdsL, pairsE, List.map_cons] at ih ⊢
      rw [bump_succ, sumAt_out ds t h0 (by omega) (.inr he), ih]
    · have hc : cntE t (e :: r) = 0 := by
        have := cnt_none r e t ha.2 (by omega)
        unfold cntE at this ⊢
        rw [List.filter_cons_of_neg (by simp; omega)]
        exact this
      have hlast := asc_last_ge r e ha.2
      have ho := holds_out ds t r e (by omega) ha.2 (by omega)
      rw [hc]
      simp only [holdsL, pairsE, List.map_cons, Int.toNat_zero] at ho ⊢
      rw [bump_nought, sumAt_in ds t h0 h1 (by omega) (by omega), ho]
theorem holds_zero (n : Nat) : ∀ (xs : List Int) (l : Int), holdsL (List.replicate n 0) l xs = List.replicate xs.length 0
  | [], _ => rfl
  | e :: r, l => by
    have ih := holds_zero n r e
    simp only [holdsL, pairsE, List.map_cons, List.length_cons, List.replicate_succ] at ih ⊢
    rw [ih]
    simp [sumAt, List.drop_replicate, List.take_replicate]
def holdsR (N : Int) (es : List GE) (xs : List Int) : List Int := if graphB N es = true ∧ endsB N xs = true then holdsL (degs GE.t N.toNat es) 0 xs else []
theorem holds_fold {N : Int} {xs : List Int} (he : endsB N xs = true) : ∀ (es : List GE) (ds : List Int), (∀ e ∈ es, edgeB N e = true) → ds.length = N.toNat →
    holdsL (es.foldl (fun l e => bump l e.t.toNat) ds) 0 xs = es.foldl (fun l e => bump l (ivE xs e.t).toNat) (holdsL ds 0 xs)
  | [], _, _, _ => rfl
  | e :: r, ds, hall, hl => by
    obtain ⟨h1, h2, h3, h4⟩ := endsB_iff he
    have hb := edgeB_iff (hall e (by simp))
    rw [List.foldl_cons, List.foldl_cons, holds_fold he r _ (fun x hx => hall x (by simp [hx])) (by rw [bump_len]; exact hl)]
    have hiv : ivE xs e.t = cntE e.t xs := by
      unfold ivE
      rw [if_neg]
      rintro (h | h | h)
      · omega
      · subst h; simp only [lastE] at h4; omega
      · omega
    have ht : ((e.t.toNat : Nat) : Int) = e.t := by omega
    have hx := holds_bump ds e.t.toNat xs 0 (by omega) h1 (by omega) (by omega) (by omega)
    rw [hx, hiv, ht]
theorem holds_degs {N : Int} {es : List GE} {xs : List Int} (hg : graphB N es = true) (he : endsB N xs = true) : holdsR N es xs = degs (fun e => ivE xs e.t) xs.length es := by
  obtain ⟨_, _, _, h4⟩ := graphB_iff hg
  unfold holdsR
  rw [if_pos ⟨hg, he⟩]
  unfold degs
  rw [holds_fold he es _ h4 (by simp), holds_zero]
theorem holdsR_len {N : Int} {es : List GE} {xs : List Int} : (holdsR N es xs).length ≤ xs.length := by
  unfold holdsR
  split
  · rw [holdsL_len]; exact Nat.le_refl _
  · simp

/-! ### the model's way to the greedy division: vertex by vertex -/
structure CutAt (b : Int) (ds : List Int) (k : Nat) (acc : List Int) (s : Int) : Prop where
  first : k = 0 → acc = [] ∧ s = 0
  more : 0 < k → acc ++ cutGo b k s (ds.drop k) = cutFrom b 0 ds
  lo : 0 ≤ s
  hi : s ≤ 400 * k
  len : acc.length ≤ k
theorem CutAt.start (b : Int) (ds : List Int) : CutAt b ds 0 [] 0 := ⟨fun _ => ⟨rfl, rfl⟩, fun h => by omega, by omega, by omega, by simp⟩
theorem CutAt.one {b : Int} {ds : List Int} {acc : List Int} {s d : Int} (_h : CutAt b ds 0 acc s) (hd : ds[0]? = some d) (h0 : 0 ≤ d) (h1 : d ≤ 400) : CutAt b ds 1 [] d :=
  ⟨fun h => by omega, fun _ => by
    match ds, hd with
    | x :: r, hd =>
      simp at hd
      subst hd
      simp [cutFrom], h0, by omega, by simp⟩
theorem CutAt.new {b : Int} {ds : List Int} {k : Nat} {acc : List Int} {s d : Int} (h : CutAt b ds k acc s) (hk : 0 < k) (hd : ds[k]? = some d) (h0 : 0 ≤ d) (h1 : d ≤ 400) (hb : b < s + d) : CutAt b ds (k + 1) (acc ++ [(k : Int)]) d :=
  ⟨fun h => by omega, fun _ => by
    have e := h.more hk
    rw [g_drop ds k d hd, cutGo_new _ hb] at e
    rw [List.append_assoc, ← e]
    simp only [cutFrom, List.singleton_append]
    rw [show (((k + 1 : Nat)) : Int) = (k : Int) + 1 by omega], h0, by omega, by have := h.len; simp; omega⟩
theorem CutAt.same {b : Int} {ds : List Int} {k : Nat} {acc : List Int} {s d : Int} (h : CutAt b ds k acc s) (hk : 0 < k) (hd : ds[k]? = some d) (h0 : 0 ≤ d) (h1 : d ≤ 400) (hb : s + d ≤ b) : CutAt b ds (k + 1) acc (s + d) :=
  ⟨fun h => by omega, fun _ => by
    have e := h.more hk
    rw [g_drop ds k d hd, cutGo_more _ hb] at e
    rw [show (((k + 1 : Nat)) : Int) = (k : Int) + 1 by omega]
    exact e, by have := h.lo; omega, by have := h.hi; omega, by have := h.len; omega⟩
theorem CutAt.done {b : Int} {ds : List Int} {k : Nat} {acc : List Int} {s : Int} (h : CutAt b ds k acc s) (hk : ds.length = k) : cutFrom b 0 ds = if k = 0 then acc else acc ++ [(k : Int)] := by
  split
  · rename_i h0
    subst h0
    obtain rfl : ds = [] := List.eq_nil_of_length_eq_zero hk
    rw [(h.first rfl).1]
    rfl
  · have e := h.more (by omega)
    rw [List.drop_eq_nil_of_le (by omega), cutGo_end] at e
    exact e.symm

/-! ### the program's way: interval by interval -/
structure CutTo (b : Int) (ds : List Int) (k : Nat) (acc : List Int) : Prop where
  all : acc ++ cutFrom b k (ds.drop k) = cutFrom b 0 ds
structure CutIn (b : Int) (ds : List Int) (k : Nat) (acc : List Int) (s : Int) : Prop where
  all : acc ++ cutGo b k s (ds.drop k) = cutFrom b 0 ds
  lo : 0 ≤ s
  hi : s ≤ 400 * k
theorem CutTo.start (b : Int) (ds : List Int) : CutTo b ds 0 [] := ⟨rfl⟩
theorem CutTo.go {b : Int} {ds : List Int} {k : Nat} {acc : List Int} {d : Int} (h : CutTo b ds k acc) (hd : ds[k]? = some d) (h0 : 0 ≤ d) (h1 : d ≤ 400) : CutIn b ds (k + 1) acc d :=
  ⟨by
    have e := h.all
    rw [g_drop ds k d hd] at e
    rw [show (((k + 1 : Nat)) : Int) = (k : Int) + 1 by omega]
    exact e, h0, by omega⟩
theorem CutIn.more {b : Int} {ds : List Int} {k : Nat} {acc : List Int} {s d : Int} (h : CutIn b ds k acc s) (hd : ds[k]? = some d) (h0 : 0 ≤ d) (h1 : d ≤ 400) (hb : s + d ≤ b) : CutIn b ds (k + 1) acc (s + d) :=
  ⟨by
    have e := h.all
    rw [g_drop ds k d hd, cutGo_more _ hb] at e
    rw [show (((k + 1 : Nat)) : Int) = (k : Int) + 1 by omega]
    exact e, by have := h.lo; omega, by have := h.hi; omega⟩
theorem CutIn.new {b : Int} {ds : List Int} {k : Nat} {acc : List Int} {s d : Int} (h : CutIn b ds k acc s) (hd : ds[k]? = some d) (hb : b < s + d) : CutTo b ds k (acc ++ [(k : Int)]) :=
  ⟨by
    have e := h.all
    rw [g_drop ds k d hd, cutGo_new _ hb] at e
    rw [g_drop ds k d hd, List.append_assoc]
    exact e⟩
theorem CutIn.last {b : Int} {ds : List Int} {k : Nat} {acc : List Int} {s : Int} (h : CutIn b ds k acc s) (hk : ds.length = k) : CutTo b ds k (acc ++ [(k : Int)]) :=
  ⟨by
    have e := h.all
    rw [List.drop_eq_nil_of_le (by omega), cutGo_end] at e
    rw [List.drop_eq_nil_of_le (by omega), ← e]
    simp [cutFrom]⟩
theorem CutTo.done {b : Int} {ds : List Int} {k : Nat} {acc : List Int} (h : CutTo b ds k acc) (hk : ds.length ≤ k) : acc = cutFrom b 0 ds := by
  have e := h.all
  rw [List.drop_eq_nil_of_le hk] at e
  simpa [cutFrom] using e
theorem CutTo.pre {b : Int} {ds : List Int} {k : Nat} {acc : List Int} (h : CutTo b ds k acc) : acc <+: cutFrom b 0 ds := ⟨_, h.all⟩
end Go.Proofs.Ytpgnappddddlpaa
namespace Go.Proofs.Ytpgnappddddlpaa
open Go.RowKit

theorem endTo (e : GE) (w : World) : Calls Try.prog 137 #[.agg #[.int .i64 e.f, .int .i64 e.t, .int .i64 e.w]] w (GNum w e.t) := by
  go_enter Try.func137, Try.ntmps137
  go_wp2
  go_ret
  exact ⟨rfl, below_a1 _ _⟩

set_option maxRecDepth 10000 in
set_option maxHeartbeats 4000000 in
theorem degsIn (N : Int) (A : Option Addr) (n c : Nat) (es : List GE) (w : World) (hr : SlG w A n es) (hn : n ≤ 1048576) :
    Calls Try.prog 136 #[.agg #[.int .i64 N, .slice A n c], .func (.func 137) #[] #[]] w (MadeI w (degsOf GE.t N es)) := by
  obtain ⟨i0, hi, hz0, hz1, hz2⟩ := info_parts Try.infoInt
  have HEL := Lib.hid hr.len
  have HR := Lib.hid hr
  have CG := Lib.hid (fun W (h : Below w.heap.size w W) => implGraphOk N A n c es W (hr.below h) hn)
  have CE := Lib.hid (fun e W => endTo e W)
  clear hr
  go_enter Try.func136, Try.ntmps136
  go_wp2_with fail
  refine (CG.out _ (below_a1 _ _)).mono ?_
  rintro e w1 ⟨rfl, hb1⟩
  have X1 := Lib.hid ((NBox.new w N A n c 58).below hb1)
  have HB1 := Lib.hid (g_chain (below_a1 w (.cells #[.int .i64 N, .slice A n c] 58)) hb1)
  clear hb1
  obtain ⟨l0, x0, x1⟩ := X1.out
  cases hv : graphB N es with
  | false =>
    have HD : Hid (degsOf GE.t N es = []) := Lib.hid (by unfold degsOf; rw [hv]; rfl)
    go_wp2
    go_ret
    rw [HD.out]
    exact ⟨none, 0, 0, rfl, World.ownsRow_nil _ _ _ _, HB1.out⟩
  | true =>
    have HD : Hid (degsOf GE.t N es = degs GE.t N.toNat es) := Lib.hid (by unfold degsOf; rw [hv]; rfl)
    obtain ⟨h1, h2, h3, h4⟩ := graphB_iff hv
    have H4 := Lib.hid h4
    rw [HEL.out] at h3
    clear hv h4
    obtain ⟨M, rfl⟩ : ∃ M : Nat, N = (M : Int) := ⟨N.toNat, by omega⟩
    rw [Int.toNat_natCast] at HD
    go_wp2_with (refine wpList_make_full _ rfl (.tmp 12) (.tmp 12) 23 rfl w1.heap.size 3 i0 (.int .i64 0) 1 Try.underlying23 hi hz0 hz1 .i64 .i64 _ _ M rfl rfl rfl rfl (by rw [hz2]; omega) (by unfold maxLen; omega) (Nat.le_refl _) ?_; intro w2 hown hg; have hb2 : Below w1.heap.size w1 w2 := (Below.refl _ _).grown hg (Nat.le_refl _) (by simp); have X2 := Lib.hid (X1.out.below hb2); have HB2 := Lib.hid (g_chain HB1.out hb2); rw [made_zero M GE.t es] at hown; have HO2 := Lib.hid hown; clear hown hg hb2 l0 x0 x1; obtain ⟨l0, x0, x1⟩ := X2.out)
    have hg1 : w.heap.size < w1.heap.size := X1.out.lt
    go_loopw [17] (fun i wr => ∃ k : Nat, k ≤ n ∧ i = .int .i64 k ∧ Hid (NBox wr w.heap.size M A n c) ∧ Hid (Below w.heap.size w wr) ∧ Hid (wr.ownsRow w1.heap.size 3 1 (.slice (some ⟨w1.heap.size, 0, none⟩) M M) M (vi (degs GE.t M (es.take k))))) (fun i _ => n - (intOf i).toNat)
    case atStart => exact ⟨0, Nat.zero_le _, rfl, X2, HB2, HO2⟩
    case round =>
      clear X2 HB2 HO2 l0 x0 x1
      obtain ⟨k, hk, rfl, hx, hbel, hown⟩ := hrel
      by_cases hlt : k < n
      · obtain ⟨b, off, e, rfl, hbw, he, c0, c1, c2⟩ := HR.out.at_ hlt
        have c0 := (hbel.out.cell (p := ⟨b, off + k * 3, none⟩) hbw).trans c0
        have c1 := (hbel.out.cell (p := ⟨b, off + k * 3 + 1, none⟩) hbw).trans c1
        have c2 := (hbel.out.cell (p := ⟨b, off + k * 3 + 2, none⟩) hbw).trans c2
        have hh := edgeB_iff (H4.out e (List.mem_of_getElem? he.out))
        obtain ⟨f, hf⟩ : ∃ f : Nat, e.t = (f : Int) := ⟨Int.toNat e.t, by omega⟩
        have hfM : f < M := by omega
        obtain ⟨x, hx1, hx2, hx3⟩ := degs_at (key := GE.t) (es := es.take k) hfM
        have hx4 : x ≤ 400 := by have := List.length_take_le k es; rw [HEL.out] at *; omega
        have HST := Lib.hid (degs_step (key := GE.t) (M := M) he.out (f := f) hf hx1)
        have HX1 := Lib.hid hx1
        have HA1 := Lib.hid (below_a1 wr (.cells #[.int .i64 e.f, .int .i64 e.t, .int .i64 e.w] 145))
        have HF := Lib.hid hf
        obtain ⟨l0, x0, x1⟩ := hx.out
        clear hx1 hx3 hf hh
        go_wp2_with (go_at_call 137; refine (CE.out e _).mono ?_; rintro e1 w3 ⟨rfl, hb3⟩; rw [HF.out]; have HB3 := Lib.hid (g_chain HA1.out hb3); have HOW := Lib.hid (own_below hown.out HB3.out); have hc0 : w3.cell? ⟨w1.heap.size, f, none⟩ = some (.int .i64 x) := (HOW.out.cellAt f (by omega)).trans (by rw [vi_get, HX1.out]; first | done | rfl); have hf0 := HOW.out.frozenAt f; have HS := Lib.hid (HOW.out.stored f (.int .i64 (x + 1))); rw [← HST.out] at HS; clear l0 x0 x1 c0 c1 c2)
        go_roundw
        case rel =>
          refine ⟨k + 1, by omega, by go_num, Lib.hid ?_, Lib.hid ?_, Lib.hid ?_⟩
          · exact (hx.out.below HB3.out).keep (by simp) (Below.heap_setCell w3 ⟨w1.heap.size, f, none⟩ (.int .i64 (x + 1)) w.heap.size (by show w.heap.size ≠ w1.heap.size; omega))
          · exact (g_chain hbel.out HB3.out).setCell (p := ⟨w1.heap.size, f, none⟩) (by show w.heap.size ≤ w1.heap.size; omega) _
          · exact HS.out.1
        case measure => simp [intOf]; omega
      · obtain rfl : k = n := by omega
        obtain ⟨l0, x0, x1⟩ := hx.out
        go_wp2
        go_ret
        rw [HD.out]
        have h := hown.out
        rw [List.take_of_length_le (by rw [HEL.out]; exact Nat.le_refl _)] at h
        exact ⟨_, _, _, rfl, own_monoG h (by omega), hbel.out⟩
theorem implIn (N : Int) (A : Option Addr) (n c : Nat) (es : List GE) (w : World) (hr : SlG w A n es) (hn : n ≤ 1048576) :
    Calls Try.prog 95 #[.agg #[.int .i64 N, .slice A n c]] w (MadeI w (degsOf GE.t N es)) := by
  have C := Lib.hid (fun W (h : Below w.heap.size w W) => degsIn N A n c es W (hr.below h) hn)
  clear hr
  go_enter Try.func95, Try.ntmps95
  go_wp2_with fail
  refine (C.out _ (below_a1 _ _)).mono ?_
  rintro e w1 ⟨A1, n1, c1, rfl, ho1, hb1⟩
  have HO := Lib.hid ho1
  have HB := Lib.hid hb1
  clear ho1 hb1
  go_wp2
  go_ret
  exact ⟨A1, n1, c1, rfl, own_monoG HO.out (by simp), g_chain (below_a1 _ _) HB.out⟩
end Go.Proofs.Ytpgnappddddlpaa
