/- Vertex programs as data (plain lemmas; no condition): a view of an edge, sums limited to Far, first values, the new value of a vertex and the new values of its edges; the most frequent label. -/
namespace Go.Proofs.YtlhcobkncceodaaGreatDoor

structure VE where
  i : Bool
  o : Bool
  w : Int
  v : Int
def capF (x : Int) : Int := min (max x 0) 1099511627776
def addC (a b : Int) : Int := min (min (max a 0) 1099511627776 + min (max b 0) 1099511627776) 1099511627776
theorem addC_cap (a b : Int) : capF (capF a + capF b) = addC a b := by unfold capF addC; omega
theorem capF_lim (x : Int) : 0 ≤ capF x ∧ capF x ≤ 1099511627776 := by unfold capF; omega
theorem addC_lim (a b : Int) : 0 ≤ addC a b ∧ addC a b ≤ 1099511627776 := by unfold addC; omega
theorem capF_in {x : Int} (h0 : 0 ≤ x) : capF x = min x 1099511627776 := by unfold capF; omega
theorem addC_in {a b : Int} (h0 : 0 ≤ a) (h1 : 0 ≤ b) : addC a b = capF (a + b) := by unfold capF addC; omega

def progB (p : Int) : Bool := decide (1 ≤ p ∧ p ≤ 4)
def jobB (n p s : Int) : Bool := progB p && (if p = 3 then decide (0 ≤ s ∧ s < n) else decide (s = 0))
def vtxB (v : Int) : Bool := decide (0 ≤ v ∧ v < 150)
def firstV (p s v : Int) : Int := if progB p && vtxB v then (if p = 1 then 1048576 else if p = 3 then (if v = s then 0 else 1099511627776) else v) else 0
def firstEB (p f t d : Int) : Bool := progB p && (vtxB f && vtxB t && decide (1 ≤ d ∧ d ≤ 400))
def firstE (p f t d : Int) : Int := if firstEB p f t d then (if p = 1 then Int.tdiv 1048576 d else if p = 4 then f * 1000 + t else 1099511627776) else 0

/-! ### the views -/
def valB (x : Int) : Bool := decide (0 ≤ x ∧ x ≤ 1099511627776)
def VE.ok (e : VE) : Bool := (e.i || e.o) && (decide (0 ≤ e.w ∧ e.w ≤ 1000) && valB e.v)
def viewsB (es : List VE) : Bool := decide (es.length ≤ 400) && es.all VE.ok
def updB (p v x : Int) (es : List VE) : Bool := progB p && (vtxB v && (valB x && viewsB es))
theorem VE.ok_lim {e : VE} (h : e.ok = true) : 0 ≤ e.w ∧ e.w ≤ 1000 ∧ 0 ≤ e.v ∧ e.v ≤ 1099511627776 ∧ (e.i = true ∨ e.o = true) := by
  unfold VE.ok valB at h
  simp at h
  exact ⟨h.2.1.1, h.2.1.2, h.2.2.1, h.2.2.2, h.1⟩
theorem updB_is {p v x : Int} {es : List VE} (h : updB p v x es = true) : (1 ≤ p ∧ p ≤ 4) ∧ (0 ≤ v ∧ v < 150) ∧ (0 ≤ x ∧ x ≤ 1099511627776) ∧ es.length ≤ 400 ∧ ∀ e ∈ es, e.ok = true := by
  unfold updB progB vtxB valB viewsB at h
  simp at h
  exact ⟨h.1, h.2.1, h.2.2.1, h.2.2.2.1, h.2.2.2.2⟩

/-! ### the new value -/
def rankStep (s : Int) (e : VE) : Int := if e.i then addC s e.v else s
def rankS (es : List VE) : Int := es.foldl rankStep 0
def newRank (es : List VE) : Int := addC 157286 (Int.tdiv (17 * rankS es) 20)
def minAll (x : Int) (es : List VE) : Int := es.foldl (fun x e => min x e.v) x
def pathStep (x : Int) (e : VE) : Int := if e.i then min x (addC e.v e.w) else x
def minPath (x : Int) (es : List VE) : Int := es.foldl pathStep x
def VE.labs (e : VE) : List Int := (if e.i then [Int.tdiv e.v 1000] else []) ++ (if e.o then [Int.tmod e.v 1000] else [])
def told (es : List VE) : List Int := es.flatMap VE.labs
def mostStep (T : List Int) (q : Int × Nat) (a : Int) : Int × Nat := if q.2 < T.count a ∨ (T.count a = q.2 ∧ a < q.1) then (a, T.count a) else q
def mostR (T : List Int) (x : Int) : Int := (T.foldl (mostStep T) (x, 0)).1
def newVal (p x : Int) (es : List VE) : Int := if p = 1 then newRank es else if p = 2 then minAll x es else if p = 3 then minPath x es else mostR (told es) x
def outsN (es : List VE) : Nat := es.foldl (fun n e => if e.o then n + 1 else n) 0
def newEdge (p x : Int) (n : Nat) (e : VE) : Int :=
  if p = 1 then (if e.o then Int.tdiv x (n : Int) else e.v)
  else if p = 2 then min x e.v
  else if p = 3 then (if e.o then x else e.v)
  else capF ((if e.o then x else Int.tdiv e.v 1000) * 1000 + (if e.i then x else Int.tmod e.v 1000))
def updV (p v x : Int) (es : List VE) : Int := if updB p v x es then newVal p x es else 0
def updE (p v x : Int) (es : List VE) : List Int := if updB p v x es then es.map (newEdge p (newVal p x es) (outsN es)) else []

section
variable {es : List VE} {k : Nat} {e : VE}
theorem take_snoc {α : Type} {es : List α} {k : Nat} {e : α} (h : es[k]? = some e) : es.take (k + 1) = es.take k ++ [e] := by
  obtain ⟨hk, rfl⟩ := List.getElem?_eq_some_iff.1 h
  rw [List.take_append_getElem]
theorem rankS_lim (es : List VE) : 0 ≤ rankS es ∧ rankS es ≤ 1099511627776 := by
  unfold rankS
  suffices H : ∀ (es : List VE) (s : Int), 0 ≤ s ∧ s ≤ 1099511627776 → 0 ≤ es.foldl rankStep s ∧ es.foldl rankStep s ≤ 1099511627776 from H es 0 (by omega)
  intro es
  induction es with
  | nil => intro s h; exact h
  | cons e r ih =>
    intro s h
    rw [List.foldl_cons]
    refine ih _ ?_
    unfold rankStep
    split
    · exact addC_lim _ _
    · exact h
theorem rankS_snoc (h : es[k]? = some e) : rankS (es.take (k + 1)) = rankStep (rankS (es.take k)) e := by
  rw [take_snoc h]; unfold rankS; rw [List.foldl_append]; rfl
theorem minAll_snoc (x : Int) (h : es[k]? = some e) : minAll x (es.take (k + 1)) = min (minAll x (es.take k)) e.v := by
  rw [take_snoc h]; unfold minAll; rw [List.foldl_append]; rfl
theorem minPath_snoc (x : Int) (h : es[k]? = some e) : minPath x (es.take (k + 1)) = pathStep (minPath x (es.take k)) e := by
  rw [take_snoc h]; unfold minPath; rw [List.foldl_append]; rfl
theorem told_snoc (h : es[k]? = some e) : told (es.take (k + 1)) = told (es.take k) ++ e.labs := by
  rw [take_snoc h]; unfold told; rw [List.flatMap_append]; simp
theorem outsN_snoc (h : es[k]? = some e) : outsN (es.take (k + 1)) = if e.o then outsN (es.take k) + 1 else outsN (es.take k) := by
  rw [take_snoc h]; unfold outsN; rw [List.foldl_append]; rfl
theorem labs_len (e : VE) : e.labs.length ≤ 2 := by unfold VE.labs; split <;> split <;> simp
theorem told_len (es : List VE) : (told es).length ≤ 2 * es.length := by
  unfold told
  induction es with
  | nil => simp
  | cons e r ih => rw [List.flatMap_cons, List.length_append, List.length_cons]; have := labs_len e; omega
theorem outsN_le : ∀ (es : List VE), outsN es ≤ es.length := by
  intro es
  unfold outsN
  suffices H : ∀ (es : List VE) (s : Nat), es.foldl (fun n e => if e.o then n + 1 else n) s ≤ s + es.length by have := H es 0; omega
  intro es
  induction es with
  | nil => intro s; simp
  | cons e r ih =>
    intro s
    rw [List.foldl_cons, List.length_cons]
    have := ih (if e.o then s + 1 else s)
    by_cases hq : e.o = true <;> simp [hq] at this ⊢ <;> omega
theorem outsN_pos {es : List VE} {e : VE} (h : e ∈ es) (ho : e.o = true) : 0 < outsN es := by
  unfold outsN
  have M : ∀ (es : List VE) (s : Nat), s ≤ es.foldl (fun n e => if e.o then n + 1 else n) s := by
    intro es
    induction es with
    | nil => intro s; simp
    | cons e r ih => intro s; rw [List.foldl_cons]; have := ih (if e.o then s + 1 else s); by_cases hq : e.o = true <;> simp [hq] at this ⊢ <;> omega
  suffices H : ∀ (es : List VE) (s : Nat), e ∈ es → s < es.foldl (fun n e => if e.o then n + 1 else n) s from H es 0 h
  intro es
  induction es with
  | nil => intro s h; simp at h
  | cons a r ih =>
    intro s h
    rw [List.foldl_cons]
    rcases List.mem_cons.1 h with rfl | h
    · rw [ho]; have := M r (s + 1); simp; omega
    · have := ih (if a.o then s + 1 else s) h
      by_cases hq : a.o = true <;> simp [hq] at this ⊢ <;> omega
theorem labs_lim {e : VE} (h : 0 ≤ e.v ∧ e.v ≤ 1099511627776) : ∀ a ∈ e.labs, 0 ≤ a ∧ a ≤ 1099511627776 := by
  intro a ha
  unfold VE.labs at ha
  rw [Int.tdiv_eq_ediv_of_nonneg h.1, Int.tmod_eq_emod_of_nonneg h.1] at ha
  rcases List.mem_append.1 ha with ha | ha
  · split at ha
    · rw [List.mem_singleton.1 ha]; omega
    · simp at ha
  · split at ha
    · rw [List.mem_singleton.1 ha]; omega
    · simp at ha
theorem told_lim {es : List VE} (h : ∀ e ∈ es, e.ok = true) : ∀ a ∈ told es, 0 ≤ a ∧ a ≤ 1099511627776 := by
  intro a ha
  obtain ⟨e, he, ha⟩ := List.mem_flatMap.1 ha
  have := VE.ok_lim (h e he)
  exact labs_lim (by omega) a ha
end

/-! ### the most frequent label -/
/-- b is the most frequent element of T, the smallest one in case of a tie; x if T is empty. -/
def IsMost (T : List Int) (x b : Int) : Prop := (T = [] ∧ b = x) ∨ (b ∈ T ∧ ∀ a ∈ T, T.count a < T.count b ∨ (T.count a = T.count b ∧ b ≤ a))
theorem IsMost.uniq {T : List Int} {x b c : Int} (h : IsMost T x b) (h' : IsMost T x c) : b = c := by
  rcases h with ⟨rfl, rfl⟩ | ⟨hb, h1⟩
  · rcases h' with ⟨_, rfl⟩ | ⟨hc, _⟩
    · rfl
    · simp at hc
  · rcases h' with ⟨rfl, _⟩ | ⟨hc, h2⟩
    · simp at hb
    · have e1 := h1 c hc
      have e2 := h2 b hb
      omega
theorem IsMost.perm {T S : List Int} {x b : Int} (h : IsMost T x b) (p : T.Perm S) : IsMost S x b := by
  rcases h with ⟨rfl, rfl⟩ | ⟨hb, h1⟩
  · exact .inl ⟨p.nil_eq.symm, rfl⟩
  · exact .inr ⟨p.mem_iff.1 hb, fun a ha => by have := h1 a (p.mem_iff.2 ha); rwa [p.count_eq, p.count_eq] at this⟩
/-- What stands behind a prefix P of T, the counts in T. -/
def MostIn (T P : List Int) (x : Int) (q : Int × Nat) : Prop := (P = [] ∧ q = (x, 0)) ∨ (q.1 ∈ P ∧ q.2 = T.count q.1 ∧ ∀ a ∈ P, T.count a < q.2 ∨ (T.count a = q.2 ∧ q.1 ≤ a))
theorem MostIn.step {T P : List Int} {x : Int} {q : Int × Nat} (h : MostIn T P x q) (a : Int) (ha : a ∈ T) : MostIn T (P ++ [a]) x (mostStep T q a) := by
  have hp : 0 < T.count a := List.count_pos_iff.2 ha
  right
  unfold mostStep
  rcases h with ⟨rfl, rfl⟩ | ⟨h1, h2, h3⟩
  · rw [if_pos (.inl hp)]
    simp
  · by_cases hc : q.2 < T.count a ∨ (T.count a = q.2 ∧ a < q.1)
    · rw [if_pos hc]
      refine ⟨by simp, rfl, fun b hb => ?_⟩
      rcases List.mem_append.1 hb with hb | hb
      · have := h3 b hb
        simp only
        omega
      · rw [List.mem_singleton.1 hb]
        simp
    · rw [if_neg hc]
      refine ⟨List.mem_append_left _ h1, h2, fun b hb => ?_⟩
      rcases List.mem_append.1 hb with hb | hb
      · exact h3 b hb
      · rw [List.mem_singleton.1 hb]
        omega
theorem mostR_in (T : List Int) (x : Int) : ∀ (R P : List Int) (q : Int × Nat), (∀ a ∈ R, a ∈ T) → MostIn T P x q → MostIn T (P ++ R) x (R.foldl (mostStep T) q)
  | [], P, q, _, h => by simpa using h
  | a :: R, P, q, hR, h => by
    rw [List.foldl_cons, show P ++ a :: R = (P ++ [a]) ++ R by simp]
    exact mostR_in T x R _ _ (fun b hb => hR b (List.mem_cons_of_mem _ hb)) (h.step a (hR a (List.mem_cons_self)))
theorem mostR_is (T : List Int) (x : Int) : IsMost T x (mostR T x) := by
  have h := mostR_in T x T [] (x, 0) (fun _ h => h) (.inl ⟨rfl, rfl⟩)
  rw [List.nil_append] at h
  unfold mostR
  rcases h with ⟨h1, h2⟩ | ⟨h1, h2, h3⟩
  · left
    exact ⟨h1, by rw [h2]⟩
  · right
    refine ⟨h1, fun a ha => ?_⟩
    rw [← h2]
    exact h3 a ha
theorem mostR_lim {T : List Int} {x : Int} (hT : ∀ a ∈ T, 0 ≤ a ∧ a ≤ 1099511627776) (hx : 0 ≤ x ∧ x ≤ 1099511627776) : 0 ≤ mostR T x ∧ mostR T x ≤ 1099511627776 := by
  rcases mostR_is T x with ⟨_, h⟩ | ⟨h, _⟩
  · rw [h]; exact hx
  · exact hT _ h

/-! ### the scan of a sorted list -/
/-- What stands behind a prefix P of a sorted list: best, most, count. -/
def Scan (P : List Int) (x b : Int) (m c : Nat) : Prop := (P = [] ∧ b = x ∧ m = 0 ∧ c = 0) ∨ (∃ y, P.getLast? = some y ∧ c = P.count y ∧ b ∈ P ∧ m = P.count b ∧ ∀ a ∈ P, P.count a < m ∨ (P.count a = m ∧ b ≤ a))
theorem Scan.is {P : List Int} {x b : Int} {m c : Nat} (h : Scan P x b m c) : IsMost P x b := by
  rcases h with ⟨h1, h2, _, _⟩ | ⟨y, _, _, h3, h4, h5⟩
  · exact .inl ⟨h1, h2⟩
  · right
    refine ⟨h3, fun a ha => ?_⟩
    rw [← h4]
    exact h5 a ha
theorem count_snoc (P : List Int) (a b : Int) : (P ++ [a]).count b = P.count b + if a = b then 1 else 0 := by
  rw [List.count_append, List.count_singleton]
  simp
theorem last_count {P : List Int} {y a : Int} (hs : (P ++ [a]).Pairwise (· ≤ ·)) (hl : P.getLast? = some y) (hne : y ≠ a) : P.count a = 0 := by
  rw [List.count_eq_zero]
  intro hm
  have hs' := List.pairwise_append.1 hs
  have h1 : y ∈ P := List.mem_of_getLast? hl
  have h2 := hs'.2.2 y h1 a (by simp)
  obtain ⟨Q, rfl⟩ : ∃ Q, P = Q ++ [y] := by
    obtain ⟨Q, hQ⟩ := List.getLast?_eq_some_iff.1 hl
    exact ⟨Q, hQ⟩
  rcases List.mem_append.1 hm with hm | hm
  · have h3 := (List.pairwise_append.1 hs'.1).2.2 a hm y (by simp)
    omega
  · simp at hm
    omega
/-- One more element; 'same': it is the last one again. -/
theorem Scan.step {P : List Int} {x b a : Int} {m c : Nat} (h : Scan P x b m c) (hs : (P ++ [a]).Pairwise (· ≤ ·)) (same : Bool) (hsame : same = true → P.getLast? = some a) (hdiff : same = false → P.getLast? ≠ some a) :
    Scan (P ++ [a]) x (if m < (if same then c else 0) + 1 then a else b) (if m < (if same then c else 0) + 1 then (if same then c else 0) + 1 else m) ((if same then c else 0) + 1) := by
  have hcnt : (if same then c else 0) = P.count a := by
    rcases h with ⟨rfl, _, _, rfl⟩ | ⟨y, h1, h2, _, _, _⟩
    · simp
    · cases hsm : same with
      | true => have := hsame hsm; rw [h1] at this; injection this with this; subst this; simpa using h2
      | false =>
        have := hdiff hsm
        rw [h1] at this
        rw [last_count hs h1 (fun e => this (by rw [e]))]
        rfl
  rw [hcnt]
  clear hcnt hsame hdiff
  right
  refine ⟨a, by simp, by rw [count_snoc]; simp, ?_⟩
  have hle : ∀ q ∈ P, q ≤ a := fun q hq => (List.pairwise_append.1 hs).2.2 q hq a (by simp)
  by_cases hc : m < P.count a + 1
  · rw [if_pos hc, if_pos hc]
    refine ⟨by simp, by rw [count_snoc]; simp, fun q hq => ?_⟩
    rw [count_snoc]
    rcases List.mem_append.1 hq with hq | hq
    · split
      · rename_i e; subst e; right; exact ⟨rfl, by omega⟩
      · rename_i e
        rcases h with ⟨rfl, _, _, _⟩ | ⟨y, _, _, _, _, h5⟩
        · simp at hq
        · have := h5 q hq
          left
          omega
    · rw [List.mem_singleton.1 hq]
      simp
  · rw [if_neg hc, if_neg hc]
    rcases h with ⟨rfl, _, rfl, _⟩ | ⟨y, _, _, h3, h4, h5⟩
    · simp at hc
    · have hba : a ≠ b := fun e => by subst e; omega
      refine ⟨List.mem_append_left _ h3, by rw [count_snoc, if_neg hba]; omega, fun q hq => ?_⟩
      rw [count_snoc]
      have hqa : ∀ (_ : a = q), P.count q + 1 < m ∨ (P.count q + 1 = m ∧ b ≤ q) := fun e => by
        subst e
        have := hle b h3
        omega
      split
      · rename_i e; exact hqa e
      · rename_i e
        rcases List.mem_append.1 hq with hq | hq
        · have := h5 q hq; omega
        · exact absurd (List.mem_singleton.1 hq).symm e
theorem Scan.most {S T : List Int} {x b : Int} {m c : Nat} (h : Scan S x b m c) (p : T.Perm S) : b = mostR T x := (h.is.perm p.symm).uniq (mostR_is T x)
theorem Scan.le {P : List Int} {x b : Int} {m c : Nat} (h : Scan P x b m c) : m ≤ P.length ∧ c ≤ P.length := by
  rcases h with ⟨rfl, _, rfl, rfl⟩ | ⟨y, _, h2, _, h4, _⟩
  · simp
  · rw [h2, h4]
    exact ⟨List.count_le_length, List.count_le_length⟩
end Go.Proofs.YtlhcobkncceodaaGreatDoor
