/- Vertex programs as data (plain lemmas; no condition): a view of an edge, sums limited to Far, first values, the new value of a vertex and the new values of its edges; the most frequent label. // Farms as data: when one is valid, its graph, the values of its edges by their numbers (plain lemmas; no condition). // Writings in blocks of a set alone, and what a row of the call's own has for a block (plain lemmas over the model; no condition). // Shard edges and shards: what new ones are (no condition). // Lists of shards in memory: that read, that are the call's own (plain lemmas over the model; no condition). // Lists of shards in memory and their data (plain lemmas; no condition). // The contracts of the program's AddCap, isVertex, isValue and of the model's like ones. No condition. // The contract of the program's test for a number. // Plain mathematics of sorting records of three numbers: an order in full, insertion, what is sorted, cutting into batches (no condition). -/
import Derived.Test.YtpgnappddddlpaaCGB
import Derived.Test.YtpgnappddddlpaaCGA
namespace Go.Proofs.Ytpgnappddddlpaa

structure VE where
  i : Bool
  o : Bool
  w : Int
  v : Int
def capF (x : Int) : Int := min (max x 0) 1099511627776
def addC (a b : Int) : Int := min (min (max a 0) 1099511627776 + min (max b 0) 1099511627776) 1099511627776
theorem addC_cap (a b : Int) : capF (capF a + capF b) = addC a b := by unfold capF addC; omega
theorem capF_lim (x : Int) : 0 ≤ capF x ∧ capF x ≤ 1099511627776 := by unfold capF; omega
theorem addC_lim (a b : Int) : 0 ≤ addC a b ∧ addC a b ≤ 1099511627776 := by unfold addC; omega
theorem capF_in {x : Int} (h0 : 0 ≤ x) : capF x = min x 1099511627776 := by unfold capF; omega
theorem addC_in {a b : Int} (h0 : 0 ≤ a) (h1 : 0 ≤ b) : addC a b = capF (a + b) := by unfold capF addC; omega

def progB (p : Int) : Bool := decide (1 ≤ p ∧ p ≤ 4)
def jobB (n p s : Int) : Bool := progB p && (if p = 3 then decide (0 ≤ s ∧ s < n) else decide (s = 0))
def vtxB (v : Int) : Bool := decide (0 ≤ v ∧ v < 150)
def firstV (p s v : Int) : Int := if progB p && vtxB v then (if p = 1 then 1048576 else if p = 3 then (if v = s then 0 else 1099511627776) else v) else 0
def firstEB (p f t d : Int) : Bool := progB p && (vtxB f && vtxB t && decide (1 ≤ d ∧ d ≤ 400))
def firstE (p f t d : Int) : Int := if firstEB p f t d then (if p = 1 then Int.tdiv 1048576 d else if p = 4 then f * 1000 + t else 1099511627776) else 0

/-! ### the views -/
def valB (x : Int) : Bool := decide (0 ≤ x ∧ x ≤ 1099511627776)
def valsB (l : List Int) : Bool := l.all valB
def VE.ok (e : VE) : Bool := (e.i || e.o) && (decide (0 ≤ e.w ∧ e.w ≤ 1000) && valB e.v)
def viewsB (es : List VE) : Bool := decide (es.length ≤ 400) && es.all VE.ok
def updB (p v x : Int) (es : List VE) : Bool := progB p && (vtxB v && (valB x && viewsB es))
theorem VE.ok_lim {e : VE} (h : e.ok = true) : 0 ≤ e.w ∧ e.w ≤ 1000 ∧ 0 ≤ e.v ∧ e.v ≤ 1099511627776 ∧ (e.i = true ∨ e.o = true) := by
  unfold VE.ok valB at h
  simp at h
  exact ⟨h.2.1.1, h.2.1.2, h.2.2.1, h.2.2.2, h.1⟩
theorem updB_is {p v x : Int} {es : List VE} (h : updB p v x es = true) : (1 ≤ p ∧ p ≤ 4) ∧ (0 ≤ v ∧ v < 150) ∧ (0 ≤ x ∧ x ≤ 1099511627776) ∧ es.length ≤ 400 ∧ ∀ e ∈ es, e.ok = true := by
  unfold updB progB vtxB valB viewsB at h
  simp at h
  exact ⟨h.1, h.2.1, h.2.2.1, h.2.2.2.1, h.2.2.2.2⟩

/-! ### the new value -/
def rankStep (s : Int) (e : VE) : Int := if e.i then addC s e.v else s
def rankS (es : List VE) : Int := es.foldl rankStep 0
def newRank (es : List VE) : Int := addC 157286 (Int.tdiv (17 * rankS es) 20)
def minAll (x : Int) (es : List VE) : Int := es.foldl (fun x e => min x e.v) x
def pathStep (x : Int) (e : VE) : Int := if e.i then min x (addC e.v e.w) else x
def minPath (x : Int) (es : List VE) : Int := es.foldl pathStep x
def VE.labs (e : VE) : List Int := (if e.i then [Int.tdiv e.v 1000] else []) ++ (if e.o then [Int.tmod e.v 1000] else [])
def told (es : List VE) : List Int := es.flatMap VE.labs
def mostStep (T : List Int) (q : Int × Nat) (a : Int) : Int × Nat := if q.2 < T.count a ∨ (T.count a = q.2 ∧ a < q.1) then (a, T.count a) else q
def mostR (T : List Int) (x : Int) : Int := (T.foldl (mostStep T) (x, 0)).1
def newVal (p x : Int) (es : List VE) : Int := if p = 1 then newRank es else if p = 2 then minAll x es else if p = 3 then minPath x es else mostR (told es) x
def outsN (es : List VE) : Nat := es.foldl (fun n e => if e.o then n + 1 else n) 0
def newEdge (p x : Int) (n : Nat) (e : VE) : Int :=
  if p = 1 then (if e.o then Int.tdiv x (n : Int) else e.v)
  else if p = 2 then min x e.v
  else if p = 3 then (if e.o then x else e.v)
  else capF ((if e.o then x else Int.tdiv e.v 1000) * 1000 + (if e.i then x else Int.tmod e.v 1000))
def updV (p v x : Int) (es : List VE) : Int := if updB p v x es then newVal p x es else 0
def updE (p v x : Int) (es : List VE) : List Int := if updB p v x es then es.map (newEdge p (newVal p x es) (outsN es)) else []

section
variable {es : List VE} {k : Nat} {e : VE}
theorem take_snoc {α : Type} {es : List α} {k : Nat} {e : α} (h : es[k]? = some e) : es.take (k + 1) = es.take k ++ [e] := by
  obtain ⟨hk, rfl⟩ := List.getElem?_eq_some_iff.1 h
  rw [List.take_append_getElem]
theorem rankS_lim (es : List VE) : 0 ≤ rankS es ∧ rankS es ≤ 1099511627776 := by
  unfold rankS
  suffices H : ∀ (es : List VE) (s : Int), 0 ≤ s ∧ s ≤ 1099511627776 → 0 ≤ es.foldl rankStep s ∧ es.foldl rankStep s ≤ 1099511627776 from H es 0 (by omega)
  intro es
  induction es with
  | nil => intro s h; exact h
  | cons e r ih =>
    intro s h
    rw [List.foldl_cons]
    refine ih _ ?_
    unfold rankStep
    split
    · exact addC_lim _ _
    · exact h
theorem rankS_snoc (h : es[k]? = some e) : rankS (es.take (k + 1)) = rankStep (rankS (es.take k)) e := by
  rw [take_snoc h]; unfold rankS; rw [List.foldl_append]; rfl
theorem minAll_snoc (x : Int) (h : es[k]? = some e) : minAll x (es.take (k + 1)) = min (minAll x (es.take k)) e.v := by
  rw [take_snoc h]; unfold minAll; rw [List.foldl_append]; rfl
theorem minPath_snoc (x : Int) (h : es[k]? = some e) : minPath x (es.take (k + 1)) = pathStep (minPath x (es.take k)) e := by
  rw [take_snoc h]; unfold minPath; rw [List.foldl_append]; rfl
theorem told_snoc (h : es[k]? = some e) : told (es.take (k + 1)) = told (es.take k) ++ e.labs := by
  rw [take_snoc h]; unfold told; rw [List.flatMap_append]; simp
theorem outsN_snoc (h : es[k]? = some e) : outsN (es.take (k + 1)) = if e.o then outsN (es.take k) + 1 else outsN (es.take k) := by
  rw [take_snoc h]; unfold outsN; rw [List.foldl_append]; rfl
theorem labs_len (e : VE) : e.labs.length ≤ 2 := by unfold VE.labs; split <;> split <;> simp
theorem told_len (es : List VE) : (told es).length ≤ 2 * es.length := by
  unfold told
  induction es with
  | nil => simp
  | cons e r ih => rw [List.flatMap_cons, List.length_append, List.length_cons]; have := labs_len e; omega
theorem outsN_le : ∀ (es : List VE), outsN es ≤ es.length := by
  intro es
  unfold outsN
  suffices H : ∀ (es : List VE) (s : Nat), es.foldl (fun n e => if e.o then n + 1 else n) s ≤ s + es.length by have := H es 0; omega
  intro es
  induction es with
  | nil => intro s; simp
  | cons e r ih =>
    intro s
    rw [List.foldl_cons, List.length_cons]
    have := ih (if e.o then s + 1 else s)
    by_cases hq : e.o = true <;> simp [hq] at this ⊢ <;> omega
theorem outsN_pos {es : List VE} {e : VE} (h : e ∈ es) (ho : e.o = true) : 0 < outsN es := by
  unfold outsN
  have M : ∀ (es : List VE) (s : Nat), s ≤ es.foldl (fun n e => if e.o then n + 1 else n) s := by
    intro es
    induction es with
    | nil => intro s; simp
    | cons e r ih => intro s; rw [List.foldl_cons]; have := ih (if e.o then s + 1 else s); by_cases hq : e.o = true <;> simp [hq] at this ⊢ <;> omega
  suffices H : ∀ (es : List VE) (s : Nat), e ∈ es → s < es.foldl (fun n e => if e.o then n + 1 else n) s from H es 0 h
  intro es
  induction es with
  | nil => intro s h; simp at h
  | cons a r ih =>
    intro s h
    rw [List.foldl_cons]
    rcases List.mem_cons.1 h with rfl | h
    · rw [ho]; have := M r (s + 1); simp; omega
    · have := ih (if a.o then s + 1 else s) h
      by_cases hq : a.o = true <;> simp [hq] at this ⊢ <;> omega
theorem labs_lim {e : VE} (h : 0 ≤ e.v ∧ e.v ≤ 1099511627776) : ∀ a ∈ e.labs, 0 ≤ a ∧ a ≤ 1099511627776 := by
  intro a ha
  unfold VE.labs at ha
  rw [Int.tdiv_eq_ediv_of_nonneg h.1, Int.tmod_eq_emod_of_nonneg h.1] at ha
  rcases List.mem_append.1 ha with ha | ha
  · split at ha
    · rw [List.mem_singleton.1 ha]; omega
    · simp at ha
  · split at ha
    · rw [List.mem_singleton.1 ha]; omega
    · simp at ha
theorem told_lim {es : List VE} (h : ∀ e ∈ es, e.ok = true) : ∀ a ∈ told es, 0 ≤ a ∧ a ≤ 1099511627776 := by
  intro a ha
  obtain ⟨e, he, ha⟩ := List.mem_flatMap.1 ha
  have := VE.ok_lim (h e he)
  exact labs_lim (by omega) a ha
end

/-! ### the most frequent label -/
/-- b is the most frequent element of T, the smallest one in case of a tie; x if T is empty. -/
def IsMost (T : List Int) (x b : Int) : Prop := (T = [] ∧ b = x) ∨ (b ∈ T ∧ ∀ a ∈ T, T.count a < T.count b ∨ (T.count a = T.count b ∧ b ≤ a))
theorem IsMost.uniq {T : List Int} {x b c : Int} (h : IsMost T x b) (h' : IsMost T x c) : b = c := by
  rcases h with ⟨rfl, rfl⟩ | ⟨hb, h1⟩
  · rcases h' with ⟨_, rfl⟩ | ⟨hc, _⟩
    · rfl
    · simp at hc
  · rcases h' with ⟨rfl, _⟩ | ⟨hc, h2⟩
    · simp at hb
    · have e1 := h1 c hc
      have e2 := h2 b hb
      omega
theorem IsMost.perm {T S : List Int} {x b : Int} (h : IsMost T x b) (p : T.Perm S) : IsMost S x b := by
  rcases h with ⟨rfl, rfl⟩ | ⟨hb, h1⟩
  · exact .inl ⟨p.nil_eq.symm, rfl⟩
  · exact .inr ⟨p.mem_iff.1 hb, fun a ha => by have := h1 a (p.mem_iff.2 ha); rwa [p.count_eq, p.count_eq] at this⟩
/-- What stands behind a prefix P of T, the counts in T. -/
def MostIn (T P : List Int) (x : Int) (q : Int × Nat) : Prop := (P = [] ∧ q = (x, 0)) ∨ (q.1 ∈ P ∧ q.2 = T.count q.1 ∧ ∀ a ∈ P, T.count a < q.2 ∨ (T.count a = q.2 ∧ q.1 ≤ a))
theorem MostIn.step {T P : List Int} {x : Int} {q : Int × Nat} (h : MostIn T P x q) (a : Int) (ha : a ∈ T) : MostIn T (P ++ [a]) x (mostStep T q a) := by
  have hp : 0 < T.count a := List.count_pos_iff.2 ha
  right
  unfold mostStep
  rcases h with ⟨rfl, rfl⟩ | ⟨h1, h2, h3⟩
  · rw [if_pos (.inl hp)]
    simp
  · by_cases hc : q.2 < T.count a ∨ (T.count a = q.2 ∧ a < q.1)
    · rw [if_pos hc]
      refine ⟨by simp, rfl, fun b hb => ?_⟩
      rcases List.mem_append.1 hb with hb | hb
      · have := h3 b hb
        simp only
        omega
      · rw [List.mem_singleton.1 hb]
        simp
    · rw [if_neg hc]
      refine ⟨List.mem_append_left _ h1, h2, fun b hb => ?_⟩
      rcases List.mem_append.1 hb with hb | hb
      · exact h3 b hb
      · rw [List.mem_singleton.1 hb]
        omega
theorem mostR_in (T : List Int) (x : Int) : ∀ (R P : List Int) (q : Int × Nat), (∀ a ∈ R, a ∈ T) → MostIn T P x q → MostIn T (P ++ R) x (R.foldl (mostStep T) q)
  | [], P, q, _, h => by simpa using h
  | a :: R, P, q, hR, h => by
    rw [List.foldl_cons, show P ++ a :: R = (P ++ [a]) ++ R by simp]
    exact mostR_in T x R _ _ (fun b hb => hR b (List.mem_cons_of_mem _ hb)) (h.step a (hR a (List.mem_cons_self)))
theorem mostR_is (T : List Int) (x : Int) : IsMost T x (mostR T x) := by
  have h := mostR_in T x T [] (x, 0) (fun _ h => h) (.inl ⟨rfl, rfl⟩)
  rw [List.nil_append] at h
  unfold mostR
  rcases h with ⟨h1, h2⟩ | ⟨h1, h2, h3⟩
  · left
    exact ⟨h1, by rw [h2]⟩
  · right
    refine ⟨h1, fun a ha => ?_⟩
    rw [← h2]
    exact h3 a ha
theorem mostR_lim {T : List Int} {x : Int} (hT : ∀ a ∈ T, 0 ≤ a ∧ a ≤ 1099511627776) (hx : 0 ≤ x ∧ x ≤ 1099511627776) : 0 ≤ mostR T x ∧ mostR T x ≤ 1099511627776 := by
  rcases mostR_is T x with ⟨_, h⟩ | ⟨h, _⟩
  · rw [h]; exact hx
  · exact hT _ h

/-! ### the scan of a sorted list -/
/-- What stands behind a prefix P of a sorted list: best, most, count. -/
def Scan (P : List Int) (x b : Int) (m c : Nat) : Prop := (P = [] ∧ b = x ∧ m = 0 ∧ c = 0) ∨ (∃ y, P.getLast? = some y ∧ c = P.count y ∧ b ∈ P ∧ m = P.count b ∧ ∀ a ∈ P, P.count a < m ∨ (P.count a = m ∧ b ≤ a))
theorem Scan.is {P : List Int} {x b : Int} {m c : Nat} (h : Scan P x b m c) : IsMost P x b := by
  rcases h with ⟨h1, h2, _, _⟩ | ⟨y, _, _, h3, h4, h5⟩
  · exact .inl ⟨h1, h2⟩
  · right
    refine ⟨h3, fun a ha => ?_⟩
    rw [← h4]
    exact h5 a ha
theorem count_snoc (P : List Int) (a b : Int) : (P ++ [a]).count b = P.count b + if a = b then 1 else 0 := by
  rw [List.count_append, List.count_singleton]
  simp
theorem last_count {P : List Int} {y a : Int} (hs : (P ++ [a]).Pairwise (· ≤ ·)) (hl : P.getLast? = some y) (hne : y ≠ a) : P.count a = 0 := by
  rw [List.count_eq_zero]
  intro hm
  have hs' := List.pairwise_append.1 hs
  have h1 : y ∈ P := List.mem_of_getLast? hl
  have h2 := hs'.2.2 y h1 a (by simp)
  obtain ⟨Q, rfl⟩ : ∃ Q, P = Q ++ [y] := by
    obtain ⟨Q, hQ⟩ := List.getLast?_eq_some_iff.1 hl
    exact ⟨Q, hQ⟩
  rcases List.mem_append.1 hm with hm | hm
  · have h3 := (List.pairwise_append.1 hs'.1).2.2 a hm y (by simp)
    omega
  · simp at hm
    omega
/-- One more element; 'same': it is the last one again. -/
theorem Scan.step {P : List Int} {x b a : Int} {m c : Nat} (h : Scan P x b m c) (hs : (P ++ [a]).Pairwise (· ≤ ·)) (same : Bool) (hsame : same = true → P.getLast? = some a) (hdiff : same = false → P.getLast? ≠ some a) :
    Scan (P ++ [a]) x (if m < (if same then c else 0) + 1 then a else b) (if m < (if same then c else 0) + 1 then (if same then c else 0) + 1 else m) ((if same then c else 0) + 1) := by
  have hcnt : (if same then c else 0) = P.count a := by
    rcases h with ⟨rfl, _, _, rfl⟩ | ⟨y, h1, h2, _, _, _⟩
    · simp
    · cases hsm : same with
      | true => have := hsame hsm; rw [h1] at this; injection this with this; subst this; simpa using h2
      | false =>
        have := hdiff hsm
        rw [h1] at this
        rw [last_count hs h1 (fun e => this (by rw [e]))]
        rfl
  rw [hcnt]
  clear hcnt hsame hdiff
  right
  refine ⟨a, by simp, by rw [count_snoc]; simp, ?_⟩
  have hle : ∀ q ∈ P, q ≤ a := fun q hq => (List.pairwise_append.1 hs).2.2 q hq a (by simp)
  by_cases hc : m < P.count a + 1
  · rw [if_pos hc, if_pos hc]
    refine ⟨by simp, by rw [count_snoc]; simp, fun q hq => ?_⟩
    rw [count_snoc]
    rcases List.mem_append.1 hq with hq | hq
    · split
      · rename_i e; subst e; right; exact ⟨rfl, by omega⟩
      · rename_i e
        rcases h with ⟨rfl, _, _, _⟩ | ⟨y, _, _, _, _, h5⟩
        · simp at hq
        · have := h5 q hq
          left
          omega
    · rw [List.mem_singleton.1 hq]
      simp
  · rw [if_neg hc, if_neg hc]
    rcases h with ⟨rfl, _, rfl, _⟩ | ⟨y, _, _, h3, h4, h5⟩
    · simp at hc
    · have hba : a ≠ b := fun e => by subst e; omega
      refine ⟨List.mem_append_left _ h3, by rw [count_snoc, if_neg hba]; omega, fun q hq => ?_⟩
      rw [count_snoc]
      have hqa : ∀ (_ : a = q), P.count q + 1 < m ∨ (P.count q + 1 = m ∧ b ≤ q) := fun e => by
        subst e
        have := hle b h3
        omega
      split
      · rename_i e; exact hqa e
      · rename_i e
        rcases List.mem_append.1 hq with hq | hq
        · have := h5 q hq; omega
        · exact absurd (List.mem_singleton.1 hq).symm e
theorem Scan.most {S T : List Int} {x b : Int} {m c : Nat} (h : Scan S x b m c) (p : T.Perm S) : b = mostR T x := (h.is.perm p.symm).uniq (mostR_is T x)
theorem Scan.le {P : List Int} {x b : Int} {m c : Nat} (h : Scan P x b m c) : m ≤ P.length ∧ c ≤ P.length := by
  rcases h with ⟨rfl, _, rfl, rfl⟩ | ⟨y, _, h2, _, h4, _⟩
  · simp
  · rw [h2, h4]
    exact ⟨List.count_le_length, List.count_le_length⟩
end Go.Proofs.Ytpgnappddddlpaa
namespace Go.Proofs.Ytpgnappddddlpaa
open Go.RowKit

def farS (s : SD) : Bool := s.2.2.all (fun e => valB e.v)
def hiL (l : List SD) : List Int := l.map (fun s => s.2.1)
def farmB (N : Int) (E : List Int) (l : List SD) : Bool := decide (E = hiL l) && l.all farS && joinB N l
theorem hiL_len (l : List SD) : (hiL l).length = l.length := by simp [hiL]
theorem hiL_get {l : List SD} {k : Nat} {s : SD} (h : l[k]? = some s) : (hiL l)[k]? = some s.2.1 := by unfold hiL; rw [List.getElem?_map, h]; rfl
theorem farmB_iff {N : Int} {E : List Int} {l : List SD} (h : farmB N E l = true) : E = hiL l ∧ (∀ s ∈ l, farS s = true) ∧ joinB N l = true := by
  unfold farmB at h
  rw [Bool.and_eq_true, Bool.and_eq_true, decide_eq_true_eq, List.all_eq_true] at h
  exact ⟨h.1.1, h.1.2, h.2⟩
theorem farm_hi {N : Int} {E : List Int} {l : List SD} (h : E ≠ hiL l) : farmB N E l = false := by
  unfold farmB
  rw [decide_eq_false h]
  rfl
theorem farm_far {N : Int} {E : List Int} {l : List SD} {s : SD} (hs : s ∈ l) (h : farS s = false) : farmB N E l = false := by
  cases hf : farmB N E l with
  | false => rfl
  | true => have h1 := (farmB_iff hf).2.1 s hs; rw [h] at h1; cases h1
theorem farm_join {N : Int} {E : List Int} {l : List SD} (h1 : E = hiL l) (h2 : ∀ s ∈ l, farS s = true) : farmB N E l = joinB N l := by
  unfold farmB
  rw [decide_eq_true h1, List.all_eq_true.2 h2]
  rfl
theorem joinB_chain {N : Int} {l : List SD} (h : joinB N l = true) : chainB N 0 l = true := by
  unfold joinB at h
  rw [Bool.and_eq_true] at h
  exact h.1
theorem chain_asc {n : Int} : ∀ {l : List SD} {a : Int}, chainB n a l = true → ascB a (hiL l) = true ∧ lastE a (hiL l) = n
  | [], a, h => ⟨rfl, of_decide_eq_true h⟩
  | s :: r, a, h => by
    rw [chainB, Bool.and_eq_true, Bool.and_eq_true, decide_eq_true_eq] at h
    obtain ⟨h1, h2⟩ := chain_asc h.2
    have h3 := (shardB_iff h.1.1).2.1
    have h4 := h.1.2
    refine ⟨?_, h2⟩
    show (decide (a < s.2.1) && ascB s.2.1 (hiL r)) = true
    rw [h1, Bool.and_true, decide_eq_true_eq]
    omega
theorem chain_lo {n : Int} : ∀ {l : List SD} {a : Int} {k : Nat} {s : SD}, chainB n a l = true → l[k]? = some s → s.1 = lastE a ((hiL l).take k)
  | [], _, _, _, _, h => by simp at h
  | x :: r, a, 0, s, hc, h => by
    rw [chainB, Bool.and_eq_true, Bool.and_eq_true, decide_eq_true_eq] at hc
    have : x = s := by simpa using h
    subst this
    exact hc.1.2
  | x :: r, a, k + 1, s, hc, h => by
    rw [chainB, Bool.and_eq_true, Bool.and_eq_true, decide_eq_true_eq] at hc
    exact chain_lo (a := x.2.1) hc.2 (by simpa using h)
theorem farm_ends {N : Int} {E : List Int} {l : List SD} (h : farmB N E l = true) : endsB N E = true := by
  obtain ⟨h1, _, h3⟩ := farmB_iff h
  have hc := joinB_chain h3
  obtain ⟨h4, h5⟩ := chain_asc hc
  have h6 := chain_n hc (by omega) (by omega)
  subst h1
  rw [ends_yes h4, decide_eq_true_eq]
  exact ⟨h6.1, h6.2, h5⟩
theorem farm_span {N : Int} {E : List Int} {l : List SD} {k : Nat} {s : SD} (h : farmB N E l = true) (hk : l[k]? = some s) : spanR E (k : Int) = (s.1, s.2.1) := by
  obtain ⟨h1, _, h3⟩ := farmB_iff h
  subst h1
  rw [span_yes (hiL_get hk), ← chain_lo (joinB_chain h3) hk]
theorem farm_len {N : Int} {E : List Int} {l : List SD} (h : farmB N E l = true) : E.length = l.length := by
  rw [(farmB_iff h).1, hiL_len]
theorem farm_no_ends {N : Int} {E : List Int} {l : List SD} (h : endsB N E = false) : farmB N E l = false := by
  cases hf : farmB N E l with
  | false => rfl
  | true => rw [farm_ends hf] at h; cases h
theorem farm_no_len {N : Int} {E : List Int} {l : List SD} (h : E.length ≠ l.length) : farmB N E l = false := by
  cases hf : farmB N E l with
  | false => rfl
  | true => exact absurd (farm_len hf) h
theorem farm_no_span {N : Int} {E : List Int} {l : List SD} {k : Nat} {s : SD} (hk : l[k]? = some s) (h : s.1 ≠ (spanR E (k : Int)).1 ∨ s.2.1 ≠ (spanR E (k : Int)).2) : farmB N E l = false := by
  cases hf : farmB N E l with
  | false => rfl
  | true =>
    rw [farm_span hf hk] at h
    rcases h with h | h <;> exact absurd rfl h
theorem farm_no_val {N : Int} {E : List Int} {l : List SD} {s : SD} {e : KE} (hs : s ∈ l) (he : e ∈ s.2.2) (h : 1099511627776 < e.v) : farmB N E l = false :=
  farm_far hs (by
    unfold farS
    rw [List.all_eq_false]
    refine ⟨e, he, ?_⟩
    unfold valB
    rw [decide_eq_true_eq]
    omega)
/-- What the model asks, shard by shard. -/
theorem farm_spec {N : Int} {E : List Int} {l : List SD} (hlen : E.length = l.length) (hs : ∀ (k : Nat) (s : SD), l[k]? = some s → s.1 = (spanR E (k : Int)).1 ∧ s.2.1 = (spanR E (k : Int)).2) (hv : ∀ s ∈ l, ∀ e ∈ s.2.2, e.v ≤ 1099511627776) : farmB N E l = joinB N l := by
  have h1 : E = hiL l := by
    apply List.ext_getElem?
    intro k
    by_cases hk : k < l.length
    · have h2 : l[k]? = some l[k] := List.getElem?_eq_getElem hk
      have h3 : E[k]? = some (E[k]'(by omega)) := List.getElem?_eq_getElem (by omega)
      rw [hiL_get h2, (hs k _ h2).2, span_yes h3, h3]
    · rw [List.getElem?_eq_none (by omega), List.getElem?_eq_none (by rw [hiL_len]; omega)]
  cases hj : joinB N l with
  | false => unfold farmB; rw [hj, Bool.and_false]
  | true =>
    rw [farm_join h1 (fun s hm => ?_), hj]
    unfold farS
    rw [List.all_eq_true]
    intro e he
    have h2 := shardB_iff (chain_each (joinB_chain hj) s hm)
    have h3 := kedgeB_iff (runK_each h2.2.2.2.2 e he)
    have h4 := hv s hm e he
    unfold valB
    rw [decide_eq_true_eq]
    omega
/-! ### its graph -/
def farmN (N : Int) (E : List Int) (l : List SD) : Int := if farmB N E l = true then N else 0
def farmG (N : Int) (E : List Int) (l : List SD) : List GE := if farmB N E l = true then edgesJ (flatK l) else []
theorem farmG_no {N : Int} {E : List Int} {l : List SD} (h : farmB N E l = false) : farmN N E l = 0 ∧ farmG N E l = [] := by simp [farmN, farmG, h]
theorem farmG_yes {N : Int} {E : List Int} {l : List SD} (h : farmB N E l = true) : farmN N E l = N ∧ farmG N E l = edgesJ (flatK l) := by simp [farmN, farmG, h]
theorem farmG_join {N : Int} {E : List Int} {l : List SD} (h : farmB N E l = joinB N l) : farmN N E l = joinN N l ∧ farmG N E l = joinE N l := by simp [farmN, farmG, joinN, joinE, h]
theorem edgesJ_len (F : List KE) : (edgesJ F).length = F.length := by simp [edgesJ]
theorem join_inds {N : Int} {l : List SD} (h : joinB N l = true) : (flatK l).length ≤ 400 ∧ (∀ e ∈ flatK l, 0 ≤ e.i ∧ e.i < ((flatK l).length : Int) ∧ 0 ≤ e.f ∧ e.f < N) ∧ ((flatK l).map KE.i).Nodup := by
  have hc := joinB_chain h
  unfold joinB indsOk at h
  rw [Bool.and_eq_true, Bool.and_eq_true, Bool.and_eq_true] at h
  refine ⟨of_decide_eq_true h.2.1.1, fun e he => ?_, of_decide_eq_true h.2.2⟩
  have h1 := of_decide_eq_true (List.all_eq_true.1 h.2.1.2 e he)
  have h2 := flat_each hc e he
  exact ⟨h2.1, h1.1, h2.2.2, h1.2⟩
theorem farm_inds {N : Int} {E : List Int} {l : List SD} (h : farmB N E l = true) : (flatK l).length ≤ 400 ∧ (∀ e ∈ flatK l, 0 ≤ e.i ∧ e.i < ((flatK l).length : Int) ∧ 0 ≤ e.f ∧ e.f < N) ∧ ((flatK l).map KE.i).Nodup := join_inds (farmB_iff h).2.2
theorem farmG_len (N : Int) (E : List Int) (l : List SD) : (farmG N E l).length ≤ 400 := by
  unfold farmG
  split
  · rename_i h
    rw [edgesJ_len]
    exact (farm_inds h).1
  · simp
/-- A valid farm has at most 150 shards. -/
theorem chain_len {n : Int} : ∀ {l : List SD} {a : Int}, chainB n a l = true → 0 ≤ a → a + (l.length : Int) ≤ n
  | [], a, h, _ => by have := of_decide_eq_true h; simp; omega
  | s :: r, a, h, h0 => by
    rw [chainB, Bool.and_eq_true, Bool.and_eq_true, decide_eq_true_eq] at h
    have h3 := (shardB_iff h.1.1)
    have h4 := chain_len h.2 (by omega)
    have h5 := h.1.2
    rw [List.length_cons]
    omega
theorem farm_few {N : Int} {E : List Int} {l : List SD} (h : farmB N E l = true) : l.length ≤ 150 := by
  have hc := joinB_chain (farmB_iff h).2.2
  have h1 := chain_len hc (by omega)
  have h2 := chain_n hc (by omega) (by omega)
  omega
/-! ### its values -/
def valOf (F : List KE) (j : Nat) : Int := ((F.find? (fun e => decide (e.i = (j : Int)))).map KE.v).getD 0
def valRow (m : Nat) (F : List KE) : List Int := (List.range m).map (valOf F)
def farmV (N : Int) (E : List Int) (l : List SD) : List Int := if farmB N E l = true then valRow (flatK l).length (flatK l) else []
theorem valRow_len (m : Nat) (F : List KE) : (valRow m F).length = m := by simp [valRow]
theorem valRow_get {m : Nat} {F : List KE} {j : Nat} (h : j < m) : (valRow m F)[j]? = some (valOf F j) := by simp [valRow, h]
theorem valRow_nil (m : Nat) : valRow m [] = List.replicate m 0 := by
  apply List.ext_getElem?
  intro j
  by_cases h : j < m
  · rw [valRow_get h]
    simp [valOf, h]
  · rw [List.getElem?_eq_none (by rw [valRow_len]; omega), List.getElem?_eq_none (by simp; omega)]
theorem valOf_snoc_no {F : List KE} {e : KE} {j : Nat} (h : e.i ≠ (j : Int)) : valOf (F ++ [e]) j = valOf F j := by
  unfold valOf
  rw [List.find?_append]
  cases hf : F.find? (fun x => decide (x.i = (j : Int))) with
  | some a => rfl
  | none => simp [h]
theorem valOf_snoc_yes {F : List KE} {e : KE} {j : Nat} (h : e.i = (j : Int)) (hn : hadB F j = false) : valOf (F ++ [e]) j = e.v := by
  unfold valOf
  rw [List.find?_append]
  have : F.find? (fun x => decide (x.i = (j : Int))) = none := by
    rw [List.find?_eq_none]
    intro x hx hh
    unfold hadB at hn
    rw [List.any_eq_false] at hn
    exact hn x hx hh
  rw [this]
  simp [h]
theorem valRow_snoc {m j : Nat} {F : List KE} {e : KE} (hj : e.i = (j : Int)) (hn : hadB F j = false) : (valRow m F).set j e.v = valRow m (F ++ [e]) := by
  apply List.ext_getElem?
  intro q
  by_cases h : q < m
  · rw [valRow_get h, List.getElem?_set]
    by_cases hq : j = q
    · subst hq
      rw [if_pos rfl, if_pos (by rw [valRow_len]; exact h), valOf_snoc_yes hj hn]
    · rw [if_neg hq, valRow_get h, valOf_snoc_no (by omega)]
  · rw [List.getElem?_eq_none (by rw [List.length_set, valRow_len]; omega), List.getElem?_eq_none (by rw [valRow_len]; omega)]
/-- The number of an edge that stands behind a part of the whole list has not come up in that part. -/
theorem had_no {F G : List KE} {e : KE} {j : Nat} (hn : ((F ++ e :: G).map KE.i).Nodup) (hj : e.i = (j : Int)) : hadB F j = false := by
  cases h : hadB F j with
  | false => rfl
  | true => exact absurd hn (nodup_no hj h)
theorem farmV_no {N : Int} {E : List Int} {l : List SD} (h : farmB N E l = false) : farmV N E l = [] := by simp [farmV, h]
theorem farmV_yes {N : Int} {E : List Int} {l : List SD} (h : farmB N E l = true) : farmV N E l = valRow (flatK l).length (flatK l) := by simp [farmV, h]
theorem farmV_len (N : Int) (E : List Int) (l : List SD) : (farmV N E l).length ≤ 400 := by
  unfold farmV
  split
  · rename_i h
    rw [valRow_len]
    exact (farm_inds h).1
  · simp
end Go.Proofs.Ytpgnappddddlpaa
namespace Go.Proofs.Ytpgnappddddlpaa
open Go.RowKit

theorem bat_map_at {α β : Type} {f : α → β} {xs ys : List α} (h : xs.map f = ys.map f) {k : Nat} {x y : α} (hx : xs[k]? = some x) (hy : ys[k]? = some y) : f x = f y := by
  have := congrArg (fun l => l[k]?) h
  simp only [List.getElem?_map, hx, hy, Option.map_some, Option.some.injEq] at this
  exact this
theorem bat_cap {w : World} {lo e size n c : Nat} {A : Option Addr} {xs : List Value} (h : w.ownsRow lo e size (.slice A n c) n xs) : n ≤ c := by
  rcases h.2 with ⟨h, h0⟩ | ⟨g, cap, cur, h, _, _, h1, _⟩
  · injection h with _ e1 _
    omega
  · injection h with _ _ e3
    omega
/-- Nothing is written but in blocks of S, and new ones. -/
structure OnlyB (S : Nat → Prop) (w w' : World) : Prop where
  os : w'.os = w.os
  tape : w'.tape = w.tape
  output : w'.output = w.output
  size : w.heap.size ≤ w'.heap.size
  block : ∀ k, k < w.heap.size → ¬ S k → w'.heap[k]? = w.heap[k]?
theorem OnlyB.refl (S : Nat → Prop) (w : World) : OnlyB S w w := ⟨rfl, rfl, rfl, Nat.le_refl _, fun _ _ _ => rfl⟩
theorem OnlyB.trans {S : Nat → Prop} {a b c : World} (h : OnlyB S a b) (k : OnlyB S b c) : OnlyB S a c :=
  ⟨k.os.trans h.os, k.tape.trans h.tape, k.output.trans h.output, Nat.le_trans h.size k.size, fun i hi hn => (k.block i (Nat.lt_of_lt_of_le hi h.size) hn).trans (h.block i hi hn)⟩
theorem OnlyB.grown {S : Nat → Prop} {a b c : World} {row : Option Nat} (h : OnlyB S a b) (k : b.grownBy c row) (hr : ∀ i, row = some i → S i) : OnlyB S a c :=
  h.trans ⟨k.os, k.tape, k.output, k.size, fun i hi hn => k.block i hi (fun e => hn (hr i e.symm))⟩
theorem OnlyB.below {S : Nat → Prop} {a b c : World} (h : OnlyB S a b) (k : Below b.heap.size b c) : OnlyB S a c :=
  h.trans ⟨k.os, k.tape, k.output, k.size, fun i hi _ => k.block i hi⟩
theorem OnlyB.mono {S T : Nat → Prop} {a b : World} (h : OnlyB S a b) (hs : ∀ i, S i → T i) : OnlyB T a b :=
  ⟨h.os, h.tape, h.output, h.size, fun i hi hn => h.block i hi (fun e => hn (hs i e))⟩
theorem OnlyB.toBelow {S : Nat → Prop} {B : Nat} {w w' : World} (h : OnlyB S w w') (hB : B ≤ w.heap.size) (hs : ∀ k, S k → B ≤ k) : Below B w w' :=
  ⟨h.os, h.tape, h.output, h.size, fun k hk => h.block k (by omega) (fun e => by have := hs k e; omega)⟩
theorem OnlyB.own {S : Nat → Prop} {w w' : World} {lo e size n : Nat} {v : Value} {xs : List Value} (h : w.ownsRow lo e size v n xs) (k : OnlyB S w w') (hs : ∀ g, v.ownBlock = some g → ¬ S g) : w'.ownsRow lo e size v n xs := by
  refine ⟨h.1, ?_⟩
  rcases h.2 with hn | ⟨g, cap, cur, rfl, hb, hgg, rest⟩
  · exact .inl hn
  · refine .inr ⟨g, cap, cur, rfl, hb, ?_, rest⟩
    rw [k.block g (Array.getElem?_eq_some_iff.1 hgg).1 (hs g rfl)]
    exact hgg
theorem OnlyB.grown2 {S : Nat → Prop} {a b c : World} {row : Option Nat} (h : OnlyB S a b) (k : b.grownBy c row) (hr : ∀ i, row = some i → S i ∨ a.heap.size ≤ i) : OnlyB S a c :=
  ⟨k.os.trans h.os, k.tape.trans h.tape, k.output.trans h.output, Nat.le_trans h.size k.size, fun i hi hn => (k.block i (Nat.lt_of_lt_of_le hi h.size) (fun e => by
    rcases hr i e.symm with h1 | h1
    · exact hn h1
    · omega)).trans (h.block i hi hn)⟩
theorem bat_block {w : World} {lo e size g n c m : Nat} {xs : List Value} (h : w.ownsRow lo e size (.slice (some ⟨g, 0, none⟩) n c) m xs) : ∃ cur, w.heap[g]? = some (.cells cur e (0, 0)) := by
  rcases h.2 with ⟨h2, _⟩ | ⟨g', cap, cur, e, _, hg, _⟩
  · cases h2
  · injection e with e1 _ _
    injection e1 with e1
    injection e1 with e1
    subst e1
    exact ⟨cur, hg⟩
theorem ne_of_lt {v : Option Nat} {row : Option Nat} {P : Nat → Prop} (h : ∀ k, v = some k → P k) (hr : ∀ k, row = some k → ¬ P k) : v = none ∨ v ≠ row := by
  cases v with
  | none => exact .inl rfl
  | some k => exact .inr (fun e => hr k e.symm (h k rfl))
theorem mem_sum {ls : List Nat} {x : Nat} (h : x ∈ ls) : x ≤ ls.sum := by
  induction ls with
  | nil => cases h
  | cons a r ih =>
    rw [List.sum_cons]
    rcases List.mem_cons.1 h with rfl | h
    · omega
    · have := ih h; omega
end Go.Proofs.Ytpgnappddddlpaa
namespace Go.Proofs.Ytpgnappddddlpaa
open Go.RowKit

theorem Try.infoSEdge : (Try.prog.info? 40).map (fun i => (i.zero, i.size, i.bytes)) = some (some (.agg #[.int .i64 0, .int .i64 0, .int .i64 0, .int .i64 0, .int .i64 0]), 5, 40) := by kernel_rfl

/-- New shard edges. -/
def MadeKs (w : World) (es : List KE) (e : Ending) (w' : World) : Prop :=
  ∃ A c, e = .returned (.slice A es.length c) ∧ w'.ownsRow w.heap.size 40 5 (.slice A es.length c) es.length (es.flatMap KE.cells) ∧ Below w.heap.size w w'
/-- A new shard. -/
def MadeSh (w : World) (lo hi : Int) (es : List KE) (e : Ending) (w' : World) : Prop :=
  ∃ A c, e = .returned (.agg #[.int .i64 lo, .int .i64 hi, .slice A es.length c]) ∧ w'.ownsRow w.heap.size 40 5 (.slice A es.length c) es.length (es.flatMap KE.cells) ∧ Below w.heap.size w w'
/-- A block that holds a shard. -/
structure HBox (w : World) (b : Nat) (lo hi : Int) (A : Option Addr) (n c : Nat) : Prop where
  lt : b < w.heap.size
  c0 : w.cell? ⟨b, 0, none⟩ = some (.int .i64 lo)
  c1 : w.cell? ⟨b, 1, none⟩ = some (.int .i64 hi)
  c2 : w.cell? ⟨b, 2, none⟩ = some (.slice A n c)
section
variable {w w' : World} {b n c : Nat} {lo hi : Int} {A : Option Addr}
theorem HBox.keep (h : HBox w b lo hi A n c) (hs : w.heap.size ≤ w'.heap.size) (hk : w'.heap[b]? = w.heap[b]?) : HBox w' b lo hi A n c :=
  ⟨Nat.lt_of_lt_of_le h.lt hs, (World.cell?_of_block (a := ⟨b, 0, none⟩) hk).trans h.c0, (World.cell?_of_block (a := ⟨b, 1, none⟩) hk).trans h.c1, (World.cell?_of_block (a := ⟨b, 2, none⟩) hk).trans h.c2⟩
theorem HBox.below (h : HBox w b lo hi A n c) (hb : Below w.heap.size w w') : HBox w' b lo hi A n c := h.keep hb.size (hb.block b h.lt)
theorem HBox.new (w : World) (lo hi : Int) (A : Option Addr) (n c : Nat) (t : TypeId) : HBox (w.alloc (.cells #[.int .i64 lo, .int .i64 hi, .slice A n c] t)) w.heap.size lo hi A n c := ⟨by simp, by simp, by simp, by simp⟩
theorem HBox.alloc (h : HBox w b lo hi A n c) (o : Obj) : HBox (w.alloc o) b lo hi A n c := h.below (below_a1 w o)
theorem HBox.drew (h : HBox w b lo hi A n c) : HBox w.drew b lo hi A n c := ⟨h.lt, h.c0, h.c1, h.c2⟩
end
end Go.Proofs.Ytpgnappddddlpaa
namespace Go.Proofs.Ytpgnappddddlpaa
open Go.RowKit

/-- A shard. -/
structure HE where
  lo : Int
  hi : Int
  A : Option Addr
  n : Nat
  c : Nat
  es : List KE
def HE.v (e : HE) : Value := .slice e.A e.n e.c
def HE.w (e : HE) : Value := .agg #[.int .i64 e.lo, .int .i64 e.hi, .slice e.A e.n e.c]
def HE.cells (e : HE) : List Value := [.int .i64 e.lo, .int .i64 e.hi, .slice e.A e.n e.c]
/-- What it says, without where it lies. -/
def HE.sd (e : HE) : Int × Int × List KE := (e.lo, e.hi, e.es)
theorem HE.cells_len (e : HE) : e.cells.length = 3 := rfl
theorem HE.cells_one (e : HE) : ∀ u ∈ e.cells, u.oneCell' = true := by
  intro u hu
  simp only [HE.cells, List.mem_cons, List.not_mem_nil, or_false] at hu
  rcases hu with rfl | rfl | rfl <;> rfl
theorem he_one (hs : List HE) : ∀ u ∈ hs.flatMap HE.cells, u.oneCell' = true := fun u hu => by
  obtain ⟨e, _, he⟩ := List.mem_flatMap.1 hu
  exact e.cells_one u he
structure HE.Ok (w : World) (e : HE) : Prop where
  rd : SlK w e.A e.n e.es
  cap : e.n ≤ e.c
theorem HE.Ok.below {w w' : World} {e : HE} (h : e.Ok w) (hb : Below w.heap.size w w') : e.Ok w' := ⟨h.rd.below hb, h.cap⟩
/-- A slice of shards in memory. -/
structure SlH (w : World) (A : Option Addr) (n : Nat) (bs : List HE) : Prop where
  len : bs.length = n
  row : Row w 3 A n (bs.flatMap HE.cells)
  each : ∀ e ∈ bs, e.Ok w
def ApartH (a b : HE) : Prop := a.v.ownBlock = none ∨ a.v.ownBlock ≠ b.v.ownBlock
/-- Rows of shard edges of the call's own. -/
structure OwnHL (w : World) (lo : Nat) (l : List HE) : Prop where
  own : ∀ d ∈ l, w.ownsRow lo 40 5 d.v d.n (d.es.flatMap KE.cells)
  len : ∀ d ∈ l, d.es.length = d.n
  apart : l.Pairwise ApartH
section
variable {w w' : World} {lo : Nat} {l m : List HE}
theorem OwnHL.nil : OwnHL w lo [] := ⟨by simp, by simp, List.Pairwise.nil⟩
theorem OwnHL.kept {row : Option Nat} (h : OwnHL w lo l) (hg : w.grownBy w' row) (hne : ∀ d ∈ l, d.v.ownBlock = none ∨ d.v.ownBlock ≠ row) : OwnHL w' lo l :=
  ⟨fun d hd => (h.own d hd).kept hg (hne d hd), h.len, h.apart⟩
theorem OwnHL.below (h : OwnHL w lo l) (hb : Below w.heap.size w w') : OwnHL w' lo l :=
  ⟨fun d hd => own_below (h.own d hd) hb, h.len, h.apart⟩
theorem OwnHL.lt (h : OwnHL w lo l) {d : HE} (hd : d ∈ l) : ∀ k, d.v.ownBlock = some k → lo ≤ k ∧ k < w.heap.size := (h.own d hd).lt
theorem OwnHL.ok (h : OwnHL w lo l) : ∀ d ∈ l, d.Ok w := fun d hd => ⟨SlK.of_own (h.own d hd) (h.len d hd), bat_cap (h.own d hd)⟩
theorem OwnHL.far (h : OwnHL w lo l) {g : Nat} {cur : Array Value} {t : TypeId} {fr : Nat × Nat} (hg : w.heap[g]? = some (.cells cur t fr)) (ht : t ≠ 40) : ∀ d ∈ l, d.v.ownBlock = none ∨ d.v.ownBlock ≠ some g := fun d hd => by
  rcases (h.own d hd).2 with ⟨e, _⟩ | ⟨g', cap, cur', e, _, hg', _⟩
  · exact .inl (by rw [e]; rfl)
  · refine .inr (fun e2 => ?_)
    rw [e] at e2
    have e3 : g' = g := by simpa [Value.ownBlock] using e2
    subst e3
    rw [hg] at hg'
    injection hg' with hg'
    injection hg' with _ h2
    exact ht h2
theorem OwnHL.append (h : OwnHL w lo l) (k : OwnHL w lo m) (hx : ∀ a ∈ l, ∀ b ∈ m, ApartH a b) : OwnHL w lo (l ++ m) :=
  ⟨fun d hd => by rcases List.mem_append.1 hd with hd | hd; exact h.own d hd; exact k.own d hd,
   fun d hd => by rcases List.mem_append.1 hd with hd | hd; exact h.len d hd; exact k.len d hd,
   List.pairwise_append.2 ⟨h.apart, k.apart, hx⟩⟩
theorem apartH_of_time {B lo' : Nat} (h : OwnHL w lo l) (hB : w.heap.size ≤ B) (k : OwnHL w' lo' m) (hB' : B ≤ lo') : ∀ a ∈ l, ∀ b ∈ m, ApartH a b := fun a ha b hb => by
  cases e : a.v.ownBlock with
  | none => exact .inl e
  | some i =>
    refine .inr (fun e2 => ?_)
    rw [e] at e2
    have h1 := h.lt ha i e
    have h2 := k.lt hb i e2.symm
    omega
theorem OwnHL.one {d : HE} (h : w.ownsRow lo 40 5 d.v d.n (d.es.flatMap KE.cells)) (hs : d.es.length = d.n) : OwnHL w lo [d] :=
  ⟨fun e he => by simp at he; subst he; exact h, fun e he => by simp at he; subst he; exact hs, by simp⟩
theorem OwnHL.mono {lo' : Nat} (h : OwnHL w lo l) (hl : lo' ≤ lo) : OwnHL w lo' l := ⟨fun d hd => own_monoG (h.own d hd) hl, h.len, h.apart⟩
theorem OwnHL.setLow (h : OwnHL w lo l) {p : Addr} (hp : p.block < lo) (u : Value) : OwnHL (w.setCell p u) lo l := ⟨fun d hd => own_lowG (h.own d hd) hp u, h.len, h.apart⟩
theorem OwnHL.turn0 {d d' : HE} (h : OwnHL w lo (l ++ d :: m)) (hk : ∀ e ∈ l ++ m, w'.ownsRow lo 40 5 e.v e.n (e.es.flatMap KE.cells)) (ho : w'.ownsRow lo 40 5 d'.v d'.n (d'.es.flatMap KE.cells)) (hs : d'.es.length = d'.n)
    (hx : ∀ a ∈ l, ApartH a d') (hy : ∀ b ∈ m, ApartH d' b) : OwnHL w' lo (l ++ d' :: m) := by
  obtain ⟨a1, a2, a3⟩ := List.pairwise_append.1 h.apart
  obtain ⟨b1, b2⟩ := List.pairwise_cons.1 a2
  refine ⟨fun e he => ?_, fun e he => ?_, List.pairwise_append.2 ⟨a1, List.pairwise_cons.2 ⟨hy, b2⟩, fun e he f hf => ?_⟩⟩
  · rcases List.mem_append.1 he with he | he
    · exact hk e (List.mem_append_left _ he)
    · rcases List.mem_cons.1 he with rfl | he
      · exact ho
      · exact hk e (List.mem_append_right _ he)
  · rcases List.mem_append.1 he with he | he
    · exact h.len e (List.mem_append_left _ he)
    · rcases List.mem_cons.1 he with rfl | he
      · exact hs
      · exact h.len e (List.mem_append_right _ (by simp [he]))
  · rcases List.mem_cons.1 hf with rfl | hf
    · exact hx e he
    · exact a3 e he f (by simp [hf])
/-- One row is written, in its own block. -/
theorem OwnHL.turn {d d' : HE} (h : OwnHL w lo (l ++ d :: m)) (hg : w.grownBy w' d.v.ownBlock) (hb : d'.v.ownBlock = d.v.ownBlock) (ho : w'.ownsRow lo 40 5 d'.v d'.n (d'.es.flatMap KE.cells)) (hs : d'.es.length = d'.n) :
    OwnHL w' lo (l ++ d' :: m) := by
  obtain ⟨a1, a2, a3⟩ := List.pairwise_append.1 h.apart
  obtain ⟨b1, b2⟩ := List.pairwise_cons.1 a2
  refine h.turn0 (fun e he => ?_) ho hs (fun a ha => ?_) (fun b hb' => ?_)
  · rcases List.mem_append.1 he with he | he
    · exact (h.own e (List.mem_append_left _ he)).kept hg (a3 e he d (by simp))
    · refine (h.own e (List.mem_append_right _ (by simp [he]))).kept hg ?_
      rcases b1 e he with h1 | h1
      · rw [h1]
        cases e.v.ownBlock <;> simp
      · exact .inr (fun e2 => h1 e2.symm)
  · have := a3 a ha d (by simp)
    unfold ApartH at *
    rw [hb]
    exact this
  · have := b1 b hb'
    unfold ApartH at *
    rw [hb]
    exact this
end
/-- Shards of the call's own. -/
structure OwnH (w : World) (lo : Nat) (A : Option Addr) (n c : Nat) (bs : List HE) : Prop where
  row : w.ownsRow lo 85 3 (.slice A n c) n (bs.flatMap HE.cells)
  len : bs.length = n
  dat : OwnHL w lo bs
section
variable {w w' : World} {n c lo : Nat} {A : Option Addr} {bs : List HE}
theorem SlH.below (h : SlH w A n bs) (hb : Below w.heap.size w w') : SlH w' A n bs := ⟨h.len, h.row.keep hb.size hb.block, fun e he => (h.each e he).below hb⟩
theorem SlH.at_ {j : Nat} (h : SlH w A n bs) (hj : j < n) : ∃ (b off : Nat) (e : HE), A = some ⟨b, off, none⟩ ∧ b < w.heap.size ∧ Hid (bs[j]? = some e) ∧ Hid (e.Ok w) ∧ w.cell? ⟨b, off + j * 3, none⟩ = some (.int .i64 e.lo) ∧ w.cell? ⟨b, off + j * 3 + 1, none⟩ = some (.int .i64 e.hi) ∧ w.cell? ⟨b, off + j * 3 + 2, none⟩ = some (.slice e.A e.n e.c) := by
  obtain ⟨b, off, rfl, hb, hc⟩ := h.row.lies (by omega)
  have hl : j < bs.length := by have := h.len; omega
  have he : bs[j]? = some bs[j] := List.getElem?_eq_getElem hl
  refine ⟨b, off, bs[j], rfl, hb, he, h.each _ (List.getElem_mem hl), ?_, ?_, ?_⟩
  · exact hc (j * 3) _ (flat_get HE.cells 3 HE.cells_len bs j 0 _ he (by omega))
  · exact hc (j * 3 + 1) _ (flat_get HE.cells 3 HE.cells_len bs j 1 _ he (by omega))
  · exact hc (j * 3 + 2) _ (flat_get HE.cells 3 HE.cells_len bs j 2 _ he (by omega))
theorem OwnH.sl (h : OwnH w lo A n c bs) : SlH w A n bs := ⟨h.len, Row.of_own h.row, h.dat.ok⟩
theorem OwnH.below (h : OwnH w lo A n c bs) (hb : Below w.heap.size w w') : OwnH w' lo A n c bs := ⟨own_below h.row hb, h.len, h.dat.below hb⟩
theorem OwnH.mono {lo' : Nat} (h : OwnH w lo A n c bs) (hl : lo' ≤ lo) : OwnH w lo' A n c bs := ⟨own_monoG h.row hl, h.len, h.dat.mono hl⟩
/-- Where the blocks that are written were made elsewhere in time. -/
theorem OwnH.kept {row : Option Nat} (h : OwnH w lo A n c bs) (hg : w.grownBy w' row) (hne : ∀ k, row = some k → ¬ (lo ≤ k ∧ k < w.heap.size)) : OwnH w' lo A n c bs := by
  have hx : ∀ {e size m : Nat} {v : Value} {xs : List Value}, w.ownsRow lo e size v m xs → v.ownBlock = none ∨ v.ownBlock ≠ row := fun ho => by
    rename_i v _
    cases hv : v.ownBlock with
    | none => exact .inl rfl
    | some k => exact .inr (fun e => hne k e.symm (ho.lt k hv))
  exact ⟨h.row.kept hg (hx h.row), h.len, h.dat.kept hg (fun d hd => hx (h.dat.own d hd))⟩
end
theorem OwnHL.grow {w w' : World} {lo lo' e size n : Nat} {l : List HE} {v : Value} {xs : List Value} (h : OwnHL w lo l) (hv : w.ownsRow lo' e size v n xs) (hne : e ≠ 40) (hg : w.grownBy w' v.ownBlock) : OwnHL w' lo l := by
  rcases hv.2 with ⟨rfl, _⟩ | ⟨g, cap, cur, rfl, _, hcell, _⟩
  · exact h.kept hg (fun d _ => by cases d.v.ownBlock <;> simp [Value.ownBlock])
  · exact h.kept hg (h.far hcell hne)
theorem Try.infoShard : (Try.prog.info? 85).map (fun i => (i.zero, i.size, i.bytes)) = some (some (.agg #[.int .i64 0, .int .i64 0, .slice none 0 0]), 3, 40) := by kernel_rfl
/-- New shards with these data. -/
def MadeHs (w : World) (ls : List (Int × Int × List KE)) (e : Ending) (w' : World) : Prop :=
  ∃ A n c bs, e = .returned (.slice A n c) ∧ OwnH w' w.heap.size A n c bs ∧ bs.map HE.sd = ls ∧ Below w.heap.size w w'
end Go.Proofs.Ytpgnappddddlpaa
namespace Go.Proofs.Ytpgnappddddlpaa
open Go.RowKit

def sdL (bs : List HE) : List SD := bs.map HE.sd
theorem sdL_len (bs : List HE) : (sdL bs).length = bs.length := by simp [sdL]
theorem sdL_drop {bs : List HE} {k : Nat} {e : HE} (h : bs[k]? = some e) : (sdL bs).drop k = e.sd :: (sdL bs).drop (k + 1) := by
  unfold sdL
  exact g_drop _ k _ (by rw [List.getElem?_map, h]; rfl)
theorem sdL_take {bs : List HE} {k : Nat} {e : HE} (h : bs[k]? = some e) : (sdL bs).take (k + 1) = (sdL bs).take k ++ [e.sd] := by
  unfold sdL
  exact g_take _ k _ (by rw [List.getElem?_map, h]; rfl)
theorem chain_step {N a : Int} {bs : List HE} {k : Nat} {e : HE} (h : bs[k]? = some e) : chainB N a ((sdL bs).drop k) = (shardB e.lo e.hi e.es && decide (e.lo = a) && chainB N e.hi ((sdL bs).drop (k + 1))) := by
  rw [sdL_drop h, chainB]
  rfl
theorem flat_step {bs : List HE} {k : Nat} {e : HE} (h : bs[k]? = some e) : flatK ((sdL bs).take (k + 1)) = flatK ((sdL bs).take k) ++ e.es := by
  rw [sdL_take h, flatK_append]
  simp [flatK, HE.sd]
theorem flat_mid {bs : List HE} {k j : Nat} {e : HE} {x : KE} (h : bs[k]? = some e) (hx : e.es[j]? = some x) : ∃ G, flatK (sdL bs) = (flatK ((sdL bs).take k) ++ e.es.take j) ++ x :: G := by
  refine ⟨e.es.drop (j + 1) ++ flatK ((sdL bs).drop (k + 1)), ?_⟩
  have h1 : sdL bs = (sdL bs).take k ++ (e.sd :: (sdL bs).drop (k + 1)) := by rw [← sdL_drop h, List.take_append_drop]
  have h2 : e.es = e.es.take j ++ (x :: e.es.drop (j + 1)) := by rw [← g_drop e.es j x hx, List.take_append_drop]
  calc flatK (sdL bs) = flatK ((sdL bs).take k) ++ (e.es ++ flatK ((sdL bs).drop (k + 1))) := by
        conv => lhs; rw [h1]
        rw [flatK_append, flatK_cons]
        rfl
    _ = flatK ((sdL bs).take k) ++ ((e.es.take j ++ (x :: e.es.drop (j + 1))) ++ flatK ((sdL bs).drop (k + 1))) := by rw [← h2]
    _ = _ := by simp
theorem flat_all (bs : List HE) {k : Nat} (h : bs.length ≤ k) : flatK ((sdL bs).take k) = flatK (sdL bs) := by
  rw [List.take_of_length_le (by rw [sdL_len]; exact h)]
end Go.Proofs.Ytpgnappddddlpaa
namespace Go.Proofs.Ytpgnappddddlpaa
open Go.RowKit

theorem implIsValue (v : Int) (w : World) :
    Calls Try.prog 105 #[.int .i64 v] w (fun e w' => e = .returned (.bool (valB v)) ∧ w' = w) := by
  by_cases h : 0 ≤ v
  · have e1 : valB v = decide (v ≤ 1099511627776) := by unfold valB; simp [h]
    rw [e1]
    go_enter Try.func105, Try.ntmps105
    go_wp2
    go_ret
    exact ⟨rfl, rfl⟩
  · have e1 : valB v = false := by unfold valB; simp [h]
    rw [e1]
    go_enter Try.func105, Try.ntmps105
    go_wp2
    go_ret
    exact ⟨rfl, rfl⟩
end Go.Proofs.Ytpgnappddddlpaa
namespace Go.Proofs.Ytpgnappddddlpaa
open Go.RowKit

theorem implNum_yes (n : Int) (w : World) (h0 : 0 ≤ n) (h1 : n ≤ 281474976710655) : Calls Try.prog 107 #[.int .i64 n] w fun e w' => e = .returned (.bool true) ∧ w = w' := by
  go_enter Try.func107, Try.ntmps107
  go_wp2
  go_ret
  exact ⟨rfl, rfl⟩

theorem implNum_no (n : Int) (w : World) (h : n < 0 ∨ 281474976710655 < n) : Calls Try.prog 107 #[.int .i64 n] w fun e w' => e = .returned (.bool false) ∧ w = w' := by
  rcases h with h | h
  · go_enter Try.func107, Try.ntmps107
    go_wp2
    go_ret
    exact ⟨rfl, rfl⟩
  · have h0 : 0 ≤ n := by omega
    have h2 : decide (n ≤ 281474976710655) = false := by simpa using h
    go_enter Try.func107, Try.ntmps107
    go_wp2
    go_ret
    exact ⟨rfl, rfl⟩
end Go.Proofs.Ytpgnappddddlpaa
namespace Go.Proofs.Ytpgnappddddlpaa

/-- Field after field. -/
def lessR (x y : GE) : Bool := if x.f ≠ y.f then decide (x.f < y.f) else if x.t ≠ y.t then decide (x.t < y.t) else decide (x.w < y.w)
theorem lessR_iff (x y : GE) : lessR x y = true ↔ x.f < y.f ∨ (x.f = y.f ∧ (x.t < y.t ∨ (x.t = y.t ∧ x.w < y.w))) := by
  unfold lessR
  by_cases h1 : x.f = y.f
  · rw [if_neg (by simp [h1])]
    by_cases h2 : x.t = y.t
    · rw [if_neg (by simp [h2]), decide_eq_true_iff]; omega
    · rw [if_pos h2, decide_eq_true_iff]; omega
  · rw [if_pos h1, decide_eq_true_iff]; omega
theorem lessR_no (x y : GE) : lessR x y = false ↔ ¬ (x.f < y.f ∨ (x.f = y.f ∧ (x.t < y.t ∨ (x.t = y.t ∧ x.w < y.w)))) := by
  rw [← lessR_iff]; simp
def leR (x y : GE) : Prop := lessR y x = false
theorem leR_refl (x : GE) : leR x x := by unfold leR; rw [lessR_no]; omega
theorem leR_trans {x y z : GE} (h1 : leR x y) (h2 : leR y z) : leR x z := by
  unfold leR at *
  rw [lessR_no] at *
  omega
theorem leR_total (x y : GE) : leR x y ∨ leR y x := by
  unfold leR
  rw [lessR_no, lessR_no]
  omega
theorem leR_antisymm {x y : GE} (h1 : leR x y) (h2 : leR y x) : x = y := by
  unfold leR at *
  rw [lessR_no] at *
  obtain ⟨a, b, c⟩ := x
  obtain ⟨a', b', c'⟩ := y
  simp only at *
  have : a = a' ∧ b = b' ∧ c = c' := by omega
  obtain ⟨rfl, rfl, rfl⟩ := this
  rfl
theorem leR_of_less {x y : GE} (h : lessR x y = true) : leR x y := by
  unfold leR
  rw [lessR_no]
  rw [lessR_iff] at h
  omega
def SortedR (l : List GE) : Prop := l.Pairwise leR
/-- One record put in behind all that are not greater. -/
def insR (x : GE) : List GE → List GE
  | [] => [x]
  | y :: r => if lessR x y then x :: y :: r else y :: insR x r
def sortR (l : List GE) : List GE := l.foldl (fun out x => insR x out) []
theorem insR_perm (x : GE) : ∀ l, (insR x l).Perm (x :: l)
  | [] => List.Perm.refl _
  | y :: r => by
    unfold insR
    split
    · exact List.Perm.refl _
    · exact ((insR_perm x r).cons y).trans (List.Perm.swap x y r)
theorem insR_sorted (x : GE) : ∀ l, SortedR l → SortedR (insR x l)
  | [], _ => by simp [insR, SortedR]
  | y :: r, h => by
    unfold SortedR at h
    rw [List.pairwise_cons] at h
    unfold insR
    split
    · rename_i hl
      unfold SortedR
      rw [List.pairwise_cons]
      refine ⟨fun z hz => ?_, List.pairwise_cons.2 h⟩
      rcases List.mem_cons.1 hz with rfl | hz
      · exact leR_of_less hl
      · exact leR_trans (leR_of_less hl) (h.1 z hz)
    · rename_i hl
      unfold SortedR
      rw [List.pairwise_cons]
      refine ⟨fun z hz => ?_, insR_sorted x r h.2⟩
      rcases List.mem_cons.1 ((insR_perm x r).mem_iff.1 hz) with rfl | hz
      · unfold leR; simpa using hl
      · exact h.1 z hz
theorem fold_perm : ∀ (l out : List GE), (l.foldl (fun out x => insR x out) out).Perm (out ++ l)
  | [], out => by simp
  | x :: r, out => by
    rw [List.foldl_cons]
    refine (fold_perm r _).trans ?_
    refine ((insR_perm x out).append_right r).trans ?_
    rw [List.cons_append]
    exact (List.perm_middle).symm
theorem fold_sorted : ∀ (l out : List GE), SortedR out → SortedR (l.foldl (fun out x => insR x out) out)
  | [], _, h => h
  | x :: r, out, h => by rw [List.foldl_cons]; exact fold_sorted r _ (insR_sorted x out h)
theorem sortR_perm (l : List GE) : (sortR l).Perm l := by simpa [sortR] using fold_perm l []
theorem sortR_sorted (l : List GE) : SortedR (sortR l) := fold_sorted l [] (by simp [SortedR])
/-- Two sorted lists of the same records are the same. -/
theorem sorted_unique : ∀ (l m : List GE), SortedR l → SortedR m → l.Perm m → l = m
  | [], m, _, _, h => by simpa using h.symm
  | x :: r, [], _, _, h => by simp at h
  | x :: r, y :: s, hl, hm, h => by
    unfold SortedR at hl hm
    rw [List.pairwise_cons] at hl hm
    have hxy : x = y := by
      have hx : x ∈ y :: s := h.mem_iff.1 (by simp)
      have hy : y ∈ x :: r := h.mem_iff.2 (by simp)
      rcases List.mem_cons.1 hx with e | hx
      · exact e
      · rcases List.mem_cons.1 hy with e | hy
        · exact e.symm
        · exact leR_antisymm (hl.1 y hy) (hm.1 x hx)
    subst hxy
    rw [sorted_unique r s hl.2 hm.2 ((List.perm_cons x).1 h)]
theorem sorted_is {l m : List GE} (h : SortedR m) (hp : m.Perm l) : m = sortR l := sorted_unique _ _ h (sortR_sorted l) (hp.trans (sortR_perm l).symm)
/-- Neighbours alone are asked. -/
def sortedB : List GE → Bool
  | [] => true
  | [_] => true
  | x :: y :: r => !lessR y x && sortedB (y :: r)
theorem sortedB_iff : ∀ l, sortedB l = true ↔ SortedR l
  | [] => by simp [sortedB, SortedR]
  | [x] => by simp [sortedB, SortedR]
  | x :: y :: r => by
    have ih := sortedB_iff (y :: r)
    unfold sortedB
    rw [Bool.and_eq_true, ih]
    unfold SortedR
    rw [List.pairwise_cons (a := x)]
    constructor
    · rintro ⟨h1, h2⟩
      refine ⟨fun z hz => ?_, h2⟩
      have hxy : leR x y := by unfold leR; simpa using h1
      rcases List.mem_cons.1 hz with rfl | hz
      · exact hxy
      · exact leR_trans hxy ((List.pairwise_cons.1 h2).1 z hz)
    · rintro ⟨h1, h2⟩
      have := h1 y (by simp)
      unfold leR at this
      exact ⟨by rw [this]; rfl, h2⟩
theorem sortedB_at {l : List GE} (h : ∀ i x y, l[i]? = some x → l[i + 1]? = some y → lessR y x = false) : sortedB l = true := by
  induction l with
  | nil => rfl
  | cons x r ih =>
    cases r with
    | nil => rfl
    | cons y s =>
      unfold sortedB
      rw [h 0 x y rfl rfl, ih (fun i a b h1 h2 => h (i + 1) a b (by simpa using h1) (by simpa using h2))]
      rfl
theorem sortedB_no {l : List GE} {i : Nat} {x y : GE} (h1 : l[i]? = some x) (h2 : l[i + 1]? = some y) (h : lessR y x = true) : sortedB l = false := by
  cases hh : sortedB l with
  | false => rfl
  | true =>
    have hs := (sortedB_iff l).1 hh
    unfold SortedR at hs
    obtain ⟨g1, rfl⟩ := List.getElem?_eq_some_iff.1 h1
    obtain ⟨g2, rfl⟩ := List.getElem?_eq_some_iff.1 h2
    have := List.pairwise_iff_getElem.1 hs i (i + 1) g1 g2 (by omega)
    unfold leR at this
    rw [h] at this
    cases this
/-- Insertion at a place: behind all that are not greater. -/
theorem insR_at (x : GE) : ∀ (l : List GE) (k : Nat), (∀ y ∈ l.take k, lessR x y = false) → k ≤ l.length → (∀ y, l[k]? = some y → lessR x y = true) → insR x l = l.take k ++ x :: l.drop k
  | [], k, _, hk, _ => by simp at hk; subst hk; rfl
  | y :: r, 0, _, _, h => by
    have := h y rfl
    simp [insR, this]
  | y :: r, k + 1, h1, hk, h2 => by
    have hy := h1 y (by simp)
    unfold insR
    rw [if_neg (by rw [hy]; simp), insR_at x r k (fun z hz => h1 z (by simp [hz])) (by simpa using hk) (fun z hz => h2 z (by simpa using hz))]
    rfl
/-- Cut into batches of k. -/
def chunks (k : Nat) : Nat → List GE → List (List GE)
  | 0, _ => []
  | fuel + 1, l => if l = [] then [] else l.take k :: chunks k fuel (l.drop k)
end Go.Proofs.Ytpgnappddddlpaa
