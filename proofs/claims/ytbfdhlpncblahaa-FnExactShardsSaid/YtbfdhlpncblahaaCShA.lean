/- Shards as data: valid ones (plain lemmas; no condition). // Joining shards, as data: the edges in the order of their numbers (plain lemmas; no condition). // Dealing out a graph's edges by intervals, as data (plain lemmas; no condition). -/
import Derived.Test.YtbfdhlpncblahaaKE
import Derived.Test.YtbfdhlpncblahaaEndsMath
import Derived.Test.YtbfdhlpncblahaaSortMath
import Derived.Test.YtbfdhlpncblahaaGraph
namespace Go.Proofs.Ytbfdhlpncblahaa
open Go.RowKit

def kedgeB (lo hi : Int) (e : KE) : Bool := decide (0 ≤ e.f ∧ e.f < 150 ∧ lo ≤ e.t ∧ e.t < hi ∧ 0 ≤ e.w ∧ e.w ≤ 1000 ∧ 0 ≤ e.i ∧ e.i < 400 ∧ 0 ≤ e.v ∧ e.v ≤ 281474976710655)
def afterB (p q : Int) (e : KE) : Bool := decide (p < e.f ∨ (p = e.f ∧ q < e.i))
def runK (lo hi : Int) : Int → Int → List KE → Bool
  | _, _, [] => true
  | p, q, e :: r => kedgeB lo hi e && afterB p q e && runK lo hi e.f e.i r
def shardB (lo hi : Int) (es : List KE) : Bool := decide (0 ≤ lo ∧ lo < hi ∧ hi ≤ 150 ∧ es.length ≤ 400) && runK lo hi (-1) 0 es

theorem kedgeB_iff {lo hi : Int} {e : KE} (h : kedgeB lo hi e = true) : 0 ≤ e.f ∧ e.f < 150 ∧ lo ≤ e.t ∧ e.t < hi ∧ 0 ≤ e.w ∧ e.w ≤ 1000 ∧ 0 ≤ e.i ∧ e.i < 400 ∧ 0 ≤ e.v ∧ e.v ≤ 281474976710655 := of_decide_eq_true h
theorem afterB_iff {p q : Int} {e : KE} (h : afterB p q e = true) : p < e.f ∨ (p = e.f ∧ q < e.i) := of_decide_eq_true h
theorem shardB_iff {lo hi : Int} {es : List KE} (h : shardB lo hi es = true) : 0 ≤ lo ∧ lo < hi ∧ hi ≤ 150 ∧ es.length ≤ 400 ∧ runK lo hi (-1) 0 es = true := by
  unfold shardB at h
  rw [Bool.and_eq_true, decide_eq_true_iff] at h
  exact ⟨h.1.1, h.1.2.1, h.1.2.2.1, h.1.2.2.2, h.2⟩
theorem shardB_yes {lo hi : Int} {es : List KE} (h0 : 0 ≤ lo) (h1 : lo < hi) (h2 : hi ≤ 150) (h3 : es.length ≤ 400) : shardB lo hi es = runK lo hi (-1) 0 es := by
  simp [shardB, h0, h1, h2, h3]
theorem runK_drop {lo hi p q : Int} {es : List KE} {k : Nat} {e : KE} (he : es[k]? = some e) (h : runK lo hi p q (es.drop k) = runK lo hi (-1) 0 es) : (kedgeB lo hi e && afterB p q e && runK lo hi e.f e.i (es.drop (k + 1))) = runK lo hi (-1) 0 es := by
  rw [← h, g_drop es k e he, runK]
theorem runK_each {lo hi : Int} : ∀ {es : List KE} {p q : Int}, runK lo hi p q es = true → ∀ e ∈ es, kedgeB lo hi e = true
  | [], _, _, _, e, he => by cases he
  | a :: r, p, q, h, e, he => by
    rw [runK, Bool.and_eq_true, Bool.and_eq_true] at h
    rcases List.mem_cons.1 he with rfl | he
    · exact h.1.1
    · exact runK_each h.2 e he
/-- The edges of a valid shard do not fall in From. -/
theorem runK_from {lo hi : Int} : ∀ {es : List KE} {p q : Int}, runK lo hi p q es = true → (∀ e ∈ es, p ≤ e.f) ∧ es.Pairwise (fun a b => a.f ≤ b.f)
  | [], _, _, _ => ⟨by simp, List.Pairwise.nil⟩
  | a :: r, p, q, h => by
    rw [runK, Bool.and_eq_true, Bool.and_eq_true] at h
    obtain ⟨h1, h2⟩ := runK_from h.2
    have h3 := afterB_iff h.1.2
    refine ⟨fun e he => ?_, List.pairwise_cons.2 ⟨h1, h2⟩⟩
    rcases List.mem_cons.1 he with rfl | he
    · omega
    · have := h1 e he; omega
theorem kedgeB_parts {lo hi : Int} {e : KE} (h : kedgeB lo hi e = false) : e.f < 0 ∨ (0 ≤ e.f ∧ 150 ≤ e.f) ∨ (0 ≤ e.f ∧ e.f < 150 ∧ e.t < lo) ∨ (0 ≤ e.f ∧ e.f < 150 ∧ lo ≤ e.t ∧ hi ≤ e.t) ∨ (0 ≤ e.f ∧ e.f < 150 ∧ lo ≤ e.t ∧ e.t < hi ∧ e.w < 0) ∨ (0 ≤ e.f ∧ e.f < 150 ∧ lo ≤ e.t ∧ e.t < hi ∧ 0 ≤ e.w ∧ 1000 < e.w) ∨
    (0 ≤ e.f ∧ e.f < 150 ∧ lo ≤ e.t ∧ e.t < hi ∧ 0 ≤ e.w ∧ e.w ≤ 1000 ∧ e.i < 0) ∨ (0 ≤ e.f ∧ e.f < 150 ∧ lo ≤ e.t ∧ e.t < hi ∧ 0 ≤ e.w ∧ e.w ≤ 1000 ∧ 0 ≤ e.i ∧ 400 ≤ e.i) ∨ (0 ≤ e.f ∧ e.f < 150 ∧ lo ≤ e.t ∧ e.t < hi ∧ 0 ≤ e.w ∧ e.w ≤ 1000 ∧ 0 ≤ e.i ∧ e.i < 400 ∧ ¬ (0 ≤ e.v ∧ e.v ≤ 281474976710655)) := by
  have h := of_decide_eq_false h
  rcases Int.lt_or_le e.f 0 with h1 | h1
  · exact .inl h1
  refine .inr ?_
  rcases Int.lt_or_le e.f 150 with h2 | h2
  case inr => exact .inl ⟨h1, h2⟩
  refine .inr ?_
  rcases Int.lt_or_le e.t lo with h3 | h3
  · exact .inl ⟨h1, h2, h3⟩
  refine .inr ?_
  rcases Int.lt_or_le e.t hi with h4 | h4
  case inr => exact .inl ⟨h1, h2, h3, h4⟩
  refine .inr ?_
  rcases Int.lt_or_le e.w 0 with h5 | h5
  · exact .inl ⟨h1, h2, h3, h4, h5⟩
  refine .inr ?_
  rcases Int.lt_or_le 1000 e.w with h6 | h6
  · exact .inl ⟨h1, h2, h3, h4, h5, h6⟩
  refine .inr ?_
  rcases Int.lt_or_le e.i 0 with h7 | h7
  · exact .inl ⟨h1, h2, h3, h4, h5, h6, h7⟩
  refine .inr ?_
  rcases Int.lt_or_le e.i 400 with h8 | h8
  case inr => exact .inl ⟨h1, h2, h3, h4, h5, h6, h7, h8⟩
  refine .inr ?_
  exact ⟨h1, h2, h3, h4, h5, h6, h7, h8, fun h9 => h ⟨h1, h2, h3, h4, h5, h6, h7, h8, h9⟩⟩
theorem prev_next {es : List KE} {k : Nat} {e : KE} (he : es[k]? = some e) : ∀ (j : Nat) (x : KE), k + 1 = j + 1 → es[j]? = some x → e.f = x.f ∧ e.i = x.i := fun j x hj hx => by
  obtain rfl : k = j := by omega
  rw [he] at hx
  injection hx with hx
  subst hx
  exact ⟨rfl, rfl⟩
end Go.Proofs.Ytbfdhlpncblahaa
namespace Go.Proofs.Ytbfdhlpncblahaa
open Go.RowKit

abbrev SD := Int × Int × List KE
def chainB (n : Int) : Int → List SD → Bool
  | a, [] => decide (a = n)
  | a, s :: r => shardB s.1 s.2.1 s.2.2 && decide (s.1 = a) && chainB n s.2.1 r
def flatK (l : List SD) : List KE := l.flatMap (fun s => s.2.2)
def indsOk (n : Int) (F : List KE) : Bool := decide (F.length ≤ 400) && F.all (fun e => decide (e.i < (F.length : Int) ∧ e.f < n)) && decide (F.map KE.i).Nodup
def KE.ge (e : KE) : GE := ⟨e.f, e.t, e.w⟩
def edgeOf (F : List KE) (j : Nat) : GE := ((F.find? (fun e => decide (e.i = (j : Int)))).map KE.ge).getD zeroG
def edgesJ (F : List KE) : List GE := (List.range F.length).map (edgeOf F)
def joinB (n : Int) (l : List SD) : Bool := chainB n 0 l && indsOk n (flatK l)

theorem perm_of_sub {α : Type} [DecidableEq α] : ∀ (A L : List α), A.Nodup → (∀ a ∈ A, a ∈ L) → L.length ≤ A.length → L.Perm A
  | [], L, _, _, h => by
    obtain rfl : L = [] := List.eq_nil_of_length_eq_zero (by simpa using h)
    exact List.Perm.refl _
  | a :: A, L, hn, hs, hl => by
    obtain ⟨h1, h2⟩ := List.nodup_cons.1 hn
    have ha : a ∈ L := hs a (by simp)
    have hp : L.Perm (a :: L.erase a) := List.perm_cons_erase ha
    have hle : (L.erase a).length = L.length - 1 := List.length_erase_of_mem ha
    have hpos : 0 < L.length := List.length_pos_of_mem ha
    have ih := perm_of_sub A (L.erase a) h2 (fun b hb => (List.mem_erase_of_ne (fun e => by subst e; exact h1 hb)).2 (hs b (by simp [hb]))) (by simp at hl; omega)
    exact hp.trans (ih.cons a)
def rangeI (n : Nat) : List Int := (List.range n).map (fun j : Nat => (j : Int))
theorem rangeI_len (n : Nat) : (rangeI n).length = n := by simp [rangeI]
theorem rangeI_nodup (n : Nat) : (rangeI n).Nodup := by
  unfold rangeI
  rw [List.Nodup, List.pairwise_map]
  exact List.nodup_range.imp (fun {a b} h e => h (by exact_mod_cast e))
theorem rangeI_mem {n : Nat} {x : Int} : x ∈ rangeI n ↔ 0 ≤ x ∧ x < n := by
  unfold rangeI
  rw [List.mem_map]
  constructor
  · rintro ⟨j, hj, rfl⟩
    have := List.mem_range.1 hj
    omega
  · rintro ⟨h1, h2⟩
    exact ⟨x.toNat, List.mem_range.2 (by omega), by omega⟩
/-- Every number below the count occurs: so each occurs once, and no other. -/
theorem inds_full {F : List KE} (h : ∀ j : Nat, j < F.length → ∃ e ∈ F, e.i = (j : Int)) : (F.map KE.i).Nodup ∧ ∀ e ∈ F, 0 ≤ e.i ∧ e.i < F.length := by
  have hp : (F.map KE.i).Perm (rangeI F.length) := perm_of_sub _ _ (rangeI_nodup _) (fun x hx => by
    obtain ⟨h1, h2⟩ := rangeI_mem.1 hx
    obtain ⟨e, he, hi⟩ := h x.toNat (by omega)
    exact List.mem_map.2 ⟨e, he, by omega⟩) (by rw [List.length_map, rangeI_len]; exact Nat.le_refl _)
  exact ⟨hp.nodup_iff.2 (rangeI_nodup _), fun e he => rangeI_mem.1 (hp.mem_iff.1 (List.mem_map_of_mem he))⟩
theorem inds_all {F : List KE} (h1 : (F.map KE.i).Nodup) (h2 : ∀ e ∈ F, 0 ≤ e.i ∧ e.i < F.length) : ∀ j : Nat, j < F.length → ∃ e ∈ F, e.i = (j : Int) := by
  intro j hj
  have hp : (rangeI F.length).Perm (F.map KE.i) := perm_of_sub _ _ h1 (fun x hx => by
    obtain ⟨e, he, rfl⟩ := List.mem_map.1 hx
    exact rangeI_mem.2 (h2 e he)) (by rw [List.length_map, rangeI_len]; exact Nat.le_refl _)
  obtain ⟨e, he, hi⟩ := List.mem_map.1 (hp.mem_iff.1 (rangeI_mem.2 ⟨by omega, by exact_mod_cast hj⟩ : (j : Int) ∈ rangeI F.length))
  exact ⟨e, he, hi⟩
theorem find_only {F : List KE} {e : KE} {j : Int} (hn : (F.map KE.i).Nodup) (he : e ∈ F) (hi : e.i = j) : F.find? (fun x => decide (x.i = j)) = some e := by
  induction F with
  | nil => cases he
  | cons a r ih =>
    rw [List.map_cons, List.nodup_cons] at hn
    rw [List.find?_cons]
    rcases List.mem_cons.1 he with rfl | he
    · simp [hi]
    · have : a.i ≠ j := fun e2 => hn.1 (by rw [e2, ← hi]; exact List.mem_map_of_mem he)
      simp only [this, decide_false]
      exact ih hn.2 he
theorem edgeOf_only {F : List KE} {e : KE} {j : Nat} (hn : (F.map KE.i).Nodup) (he : e ∈ F) (hi : e.i = (j : Int)) : edgeOf F j = e.ge := by
  unfold edgeOf
  rw [find_only hn he hi]
  rfl
theorem edgesJ_of {F : List KE} {out : List GE} (hl : out.length = F.length) (h : ∀ j : Nat, j < F.length → ∃ e ∈ F, e.i = (j : Int) ∧ out[j]? = some e.ge) : (F.map KE.i).Nodup ∧ (∀ e ∈ F, 0 ≤ e.i ∧ e.i < F.length) ∧ out = edgesJ F := by
  obtain ⟨h1, h2⟩ := inds_full (F := F) (fun j hj => by obtain ⟨e, a, b, _⟩ := h j hj; exact ⟨e, a, b⟩)
  refine ⟨h1, h2, List.ext_getElem? fun j => ?_⟩
  by_cases hj : j < F.length
  · obtain ⟨e, he, hi, ho⟩ := h j hj
    rw [ho]
    unfold edgesJ
    rw [List.getElem?_map, List.getElem?_range hj]
    simp [edgeOf_only h1 he hi]
  · rw [List.getElem?_eq_none (by omega), List.getElem?_eq_none (by simp [edgesJ]; omega)]

/-! ### one edge more -/
def hadB (F : List KE) (j : Nat) : Bool := F.any (fun e => decide (e.i = (j : Int)))
theorem edgeOf_snoc_no {F : List KE} {e : KE} {j : Nat} (h : e.i ≠ (j : Int)) : edgeOf (F ++ [e]) j = edgeOf F j := by
  unfold edgeOf
  rw [List.find?_append]
  cases hf : F.find? (fun x => decide (x.i = (j : Int))) with
  | some a => rfl
  | none => simp [h]
theorem edgeOf_snoc_yes {F : List KE} {e : KE} {j : Nat} (h : e.i = (j : Int)) (hn : hadB F j = false) : edgeOf (F ++ [e]) j = e.ge := by
  unfold edgeOf
  rw [List.find?_append]
  have : F.find? (fun x => decide (x.i = (j : Int))) = none := by
    rw [List.find?_eq_none]
    intro x hx hh
    unfold hadB at hn
    rw [List.any_eq_false] at hn
    exact hn x hx hh
  rw [this]
  simp [h]
theorem hadB_snoc {F : List KE} {e : KE} {j : Nat} : hadB (F ++ [e]) j = (hadB F j || decide (e.i = (j : Int))) := by simp [hadB]
def edgeRow (m : Nat) (F : List KE) : List GE := (List.range m).map (edgeOf F)
def hadRow (m : Nat) (F : List KE) : List Bool := (List.range m).map (hadB F)
theorem edgeRow_len (m : Nat) (F : List KE) : (edgeRow m F).length = m := by simp [edgeRow]
theorem hadRow_len (m : Nat) (F : List KE) : (hadRow m F).length = m := by simp [hadRow]
theorem edgeRow_get {m : Nat} {F : List KE} {j : Nat} (h : j < m) : (edgeRow m F)[j]? = some (edgeOf F j) := by simp [edgeRow, h]
theorem hadRow_get {m : Nat} {F : List KE} {j : Nat} (h : j < m) : (hadRow m F)[j]? = some (hadB F j) := by simp [hadRow, h]
theorem edgeRow_nil (m : Nat) : edgeRow m [] = List.replicate m zeroG := by
  apply List.ext_getElem?
  intro j
  by_cases h : j < m
  · rw [edgeRow_get h]
    simp [edgeOf, h]
  · rw [List.getElem?_eq_none (by rw [edgeRow_len]; omega), List.getElem?_eq_none (by simp; omega)]
theorem hadRow_nil (m : Nat) : hadRow m [] = List.replicate m false := by
  apply List.ext_getElem?
  intro j
  by_cases h : j < m
  · rw [hadRow_get h]
    simp [hadB, h]
  · rw [List.getElem?_eq_none (by rw [hadRow_len]; omega), List.getElem?_eq_none (by simp; omega)]
theorem edgeRow_snoc {m j : Nat} {F : List KE} {e : KE} (hj : e.i = (j : Int)) (hn : hadB F j = false) : (edgeRow m F).set j e.ge = edgeRow m (F ++ [e]) := by
  apply List.ext_getElem?
  intro q
  by_cases h : q < m
  · rw [edgeRow_get h, List.getElem?_set]
    by_cases hq : j = q
    · subst hq
      rw [if_pos rfl, if_pos (by rw [edgeRow_len]; exact h), edgeOf_snoc_yes hj hn]
    · rw [if_neg hq, edgeRow_get h, edgeOf_snoc_no (by omega)]
  · rw [List.getElem?_eq_none (by rw [List.length_set, edgeRow_len]; omega), List.getElem?_eq_none (by rw [edgeRow_len]; omega)]
theorem hadRow_snoc {m j : Nat} {F : List KE} {e : KE} (hj : e.i = (j : Int)) : (hadRow m F).set j true = hadRow m (F ++ [e]) := by
  apply List.ext_getElem?
  intro q
  by_cases h : q < m
  · rw [hadRow_get h, List.getElem?_set, hadB_snoc]
    by_cases hq : j = q
    · subst hq
      rw [if_pos rfl, if_pos (by rw [hadRow_len]; exact h)]
      simp [hj]
    · rw [if_neg hq, hadRow_get h]
      have : e.i ≠ (q : Int) := by omega
      simp [this]
  · rw [List.getElem?_eq_none (by rw [List.length_set, hadRow_len]; omega), List.getElem?_eq_none (by rw [hadRow_len]; omega)]
theorem hadB_iff {F : List KE} {j : Nat} : hadB F j = true ↔ ∃ e ∈ F, e.i = (j : Int) := by simp [hadB]
theorem nodup_snoc {F : List KE} {e : KE} {j : Nat} (h : (F.map KE.i).Nodup) (hj : e.i = (j : Int)) (hn : hadB F j = false) : ((F ++ [e]).map KE.i).Nodup := by
  rw [List.map_append, List.nodup_append]
  refine ⟨h, by simp, fun a ha b hb => ?_⟩
  simp at hb
  subst hb
  intro e2
  obtain ⟨x, hx, hxi⟩ := List.mem_map.1 ha
  have : hadB F j = true := hadB_iff.2 ⟨x, hx, by omega⟩
  rw [hn] at this
  cases this
theorem nodup_no {F G : List KE} {e : KE} {j : Nat} (hj : e.i = (j : Int)) (hn : hadB F j = true) : ¬ ((F ++ e :: G).map KE.i).Nodup := by
  intro h
  obtain ⟨x, hx, hxi⟩ := hadB_iff.1 hn
  rw [List.map_append, List.nodup_append] at h
  exact h.2.2 x.i (List.mem_map_of_mem hx) e.i (by simp) (by omega)
/-! ### chains -/
theorem chain_each {n : Int} : ∀ {l : List SD} {a : Int}, chainB n a l = true → ∀ s ∈ l, shardB s.1 s.2.1 s.2.2 = true
  | [], _, _, s, hs => by cases hs
  | x :: r, a, h, s, hs => by
    rw [chainB, Bool.and_eq_true, Bool.and_eq_true] at h
    rcases List.mem_cons.1 hs with rfl | hs
    · exact h.1.1
    · exact chain_each h.2 s hs
theorem chain_n {n : Int} : ∀ {l : List SD} {a : Int}, chainB n a l = true → 0 ≤ a → a ≤ 150 → 0 ≤ n ∧ n ≤ 150
  | [], a, h, h0, h1 => by
    have := of_decide_eq_true h
    omega
  | x :: r, a, h, h0, h1 => by
    rw [chainB, Bool.and_eq_true, Bool.and_eq_true] at h
    have h2 := shardB_iff h.1.1
    exact chain_n h.2 (by omega) (by omega)
theorem flat_each {n : Int} {l : List SD} {a : Int} (h : chainB n a l = true) : ∀ e ∈ flatK l, 0 ≤ e.i ∧ e.i < 400 ∧ 0 ≤ e.f := by
  intro e he
  obtain ⟨s, hs, hes⟩ := List.mem_flatMap.1 he
  have h1 := shardB_iff (chain_each h s hs)
  have h2 := kedgeB_iff (runK_each h1.2.2.2.2 e hes)
  omega
theorem flatK_append (a b : List SD) : flatK (a ++ b) = flatK a ++ flatK b := by simp [flatK]
theorem flatK_cons (s : SD) (r : List SD) : flatK (s :: r) = s.2.2 ++ flatK r := by simp [flatK]
/-! ### the answer -/
def joinN (N : Int) (l : List SD) : Int := if joinB N l = true then N else 0
def joinE (N : Int) (l : List SD) : List GE := if joinB N l = true then edgesJ (flatK l) else []
theorem join_none {N : Int} {l : List SD} (h : joinB N l = false) : joinN N l = 0 ∧ joinE N l = [] := by simp [joinN, joinE, h]
theorem join_some {N : Int} {l : List SD} (h : joinB N l = true) : joinN N l = N ∧ joinE N l = edgesJ (flatK l) := by simp [joinN, joinE, h]
theorem join_chain {N : Int} {l : List SD} (h : chainB N 0 l = false) : joinB N l = false := by simp [joinB, h]
theorem join_no1 {N : Int} {l : List SD} {e : KE} (he : e ∈ flatK l) (hf : ((flatK l).length : Int) ≤ e.i ∨ N ≤ e.f) : joinB N l = false := by
  cases h : joinB N l with
  | false => rfl
  | true =>
    unfold joinB indsOk at h
    rw [Bool.and_eq_true, Bool.and_eq_true, Bool.and_eq_true] at h
    have := of_decide_eq_true (List.all_eq_true.1 h.2.1.2 e he)
    omega
theorem join_no2 {N : Int} {l : List SD} (hc : chainB N 0 l = true) {j : Nat} (hj : j < (flatK l).length) (hn : ¬ ∃ e ∈ flatK l, e.i = (j : Int)) : joinB N l = false := by
  cases h : joinB N l with
  | false => rfl
  | true =>
    unfold joinB indsOk at h
    rw [Bool.and_eq_true, Bool.and_eq_true, Bool.and_eq_true] at h
    refine absurd (inds_all (of_decide_eq_true h.2.2) (fun e he => ?_) j hj) hn
    have h1 := of_decide_eq_true (List.all_eq_true.1 h.2.1.2 e he)
    have h2 := flat_each hc e he
    omega
theorem join_dup {N : Int} {l : List SD} (hd : ¬ ((flatK l).map KE.i).Nodup) : joinB N l = false := by
  unfold joinB indsOk
  rw [decide_eq_false hd]
  simp
theorem join_long {N : Int} {l : List SD} (hd : 400 < (flatK l).length) : joinB N l = false := by
  unfold joinB indsOk
  rw [decide_eq_false (by omega : ¬ (flatK l).length ≤ 400)]
  simp
theorem join_yes0 {N : Int} {l : List SD} (hc : chainB N 0 l = true) (hl : (flatK l).length ≤ 400) (hf : ∀ e ∈ flatK l, e.i < ((flatK l).length : Int) ∧ e.f < N) (hn : ((flatK l).map KE.i).Nodup) : joinB N l = true := by
  unfold joinB indsOk
  rw [hc, decide_eq_true hl, decide_eq_true hn, List.all_eq_true.2 (fun e he => decide_eq_true (hf e he))]
  rfl
theorem join_yes {N : Int} {l : List SD} {out : List GE} (hc : chainB N 0 l = true) (hf : ∀ e ∈ flatK l, e.f < N) (hl : out.length = (flatK l).length) (h : ∀ j : Nat, j < (flatK l).length → ∃ e ∈ flatK l, e.i = (j : Int) ∧ out[j]? = some e.ge) : joinB N l = true ∧ out = edgesJ (flatK l) := by
  obtain ⟨h1, h2, h3⟩ := edgesJ_of hl h
  refine ⟨join_yes0 hc ?_ (fun e he => ⟨(h2 e he).2, hf e he⟩) h1, h3⟩
  rcases Nat.eq_zero_or_pos (flatK l).length with h0 | h0
  · omega
  · obtain ⟨e, he, hi, _⟩ := h ((flatK l).length - 1) (by omega)
    have := flat_each hc e he
    omega
theorem wf_small {x : Int} (h0 : 0 ≤ x) (h1 : x ≤ 1000000) : (Lit.int .i64 x).wf = true := by
  unfold Lit.wf
  rw [Bool.and_eq_true, decide_eq_true_iff, decide_eq_true_iff]
  constructor
  · exact Int.le_trans (by decide) h0
  · exact Int.le_trans h1 (by decide)
end Go.Proofs.Ytbfdhlpncblahaa
namespace Go.Proofs.Ytbfdhlpncblahaa
open Go.RowKit

def recAt (ends : List Int) (es : List GE) (j : Nat) : GE := match es[j]? with
  | some e => ⟨ivE ends e.t, e.f, (j : Int)⟩
  | none => zeroG
def recsK (ends : List Int) (es : List GE) (k : Nat) : List GE := (List.range k).map (recAt ends es)
theorem recAt_some {ends : List Int} {es : List GE} {j : Nat} {e : GE} (h : es[j]? = some e) : recAt ends es j = ⟨ivE ends e.t, e.f, (j : Int)⟩ := by unfold recAt; rw [h]
theorem recsK_len (ends : List Int) (es : List GE) (k : Nat) : (recsK ends es k).length = k := by simp [recsK]
theorem recsK_step {ends : List Int} {es : List GE} {k : Nat} {e : GE} (h : es[k]? = some e) : recsK ends es (k + 1) = recsK ends es k ++ [⟨ivE ends e.t, e.f, (k : Int)⟩] := by
  unfold recsK
  rw [List.range_succ, List.map_append, List.map_cons, List.map_nil, recAt_some h]
def keOf (es : List GE) (r : GE) : KE := match es[r.w.toNat]? with
  | some e => ⟨e.f, e.t, e.w, r.w, 0⟩
  | none => zero5
theorem keOf_some {es : List GE} {j : Nat} {e : GE} (a b : Int) (h : es[j]? = some e) : keOf es ⟨a, b, (j : Int)⟩ = ⟨e.f, e.t, e.w, (j : Int), 0⟩ := by
  unfold keOf
  simp only [Int.toNat_natCast]
  rw [h]
def dealt (es L : List GE) (p : Int) : List KE := (L.filter (fun r => decide (r.f = p))).map (keOf es)
theorem dealt_yes {es L : List GE} {q : Nat} {r : GE} {p : Int} (h : L[q]? = some r) (hp : r.f = p) : dealt es (L.take (q + 1)) p = dealt es (L.take q) p ++ [keOf es r] := by
  unfold dealt
  rw [g_take L q r h, List.filter_append, List.map_append]
  simp [hp]
theorem dealt_no {es L : List GE} {q : Nat} {r : GE} {p : Int} (h : L[q]? = some r) (hp : r.f ≠ p) : dealt es (L.take (q + 1)) p = dealt es (L.take q) p := by
  unfold dealt
  rw [g_take L q r h, List.filter_append, List.map_append]
  simp [hp]
theorem dealt_len (es L : List GE) (p : Int) : (dealt es L p).length ≤ L.length := by
  unfold dealt
  rw [List.length_map]
  exact List.length_filter_le _ _
def sortedRecs (ends : List Int) (es : List GE) : List GE := sortR (recsK ends es es.length)
theorem sortedRecs_len (ends : List Int) (es : List GE) : (sortedRecs ends es).length = es.length := by
  unfold sortedRecs
  rw [(sortR_perm _).length_eq, recsK_len]
theorem sortedRecs_mem {ends : List Int} {es : List GE} {r : GE} (h : r ∈ sortedRecs ends es) : ∃ (j : Nat) (e : GE), es[j]? = some e ∧ r = ⟨ivE ends e.t, e.f, (j : Int)⟩ := by
  have h1 := (sortR_perm _).mem_iff.1 h
  unfold recsK at h1
  obtain ⟨j, hj, rfl⟩ := List.mem_map.1 h1
  have hj := List.mem_range.1 hj
  exact ⟨j, es[j], List.getElem?_eq_getElem hj, recAt_some (List.getElem?_eq_getElem hj)⟩
def shardAt (ends : List Int) (es L : List GE) (p : Nat) : SD := ((spanR ends (p : Int)).1, (spanR ends (p : Int)).2, dealt es L (p : Int))
def shardRow (ends : List Int) (es L : List GE) (n : Nat) : List SD := (List.range n).map (shardAt ends es L)
theorem shardRow_len (ends : List Int) (es L : List GE) (n : Nat) : (shardRow ends es L n).length = n := by simp [shardRow]
theorem shardRow_get {ends : List Int} {es L : List GE} {n p : Nat} (h : p < n) : (shardRow ends es L n)[p]? = some (shardAt ends es L p) := by simp [shardRow, h]
theorem shardRow_step (ends : List Int) (es L : List GE) (n : Nat) : shardRow ends es L (n + 1) = shardRow ends es L n ++ [shardAt ends es L n] := by simp [shardRow, List.range_succ]
def shardsR (N : Int) (es : List GE) (ends : List Int) (size : Int) : List SD := if graphB N es = true ∧ endsB N ends = true ∧ 1 ≤ size then shardRow ends es (sortedRecs ends es) ends.length else []
theorem shardsR_no {N : Int} {es : List GE} {ends : List Int} {size : Int} (h : graphB N es = false ∨ endsB N ends = false ∨ size < 1) : shardsR N es ends size = [] := by
  unfold shardsR
  rw [if_neg]
  rintro ⟨h1, h2, h3⟩
  rcases h with h | h | h
  · rw [h] at h1; cases h1
  · rw [h] at h2; cases h2
  · omega
theorem shardsR_yes {N : Int} {es : List GE} {ends : List Int} {size : Int} (h1 : graphB N es = true) (h2 : endsB N ends = true) (h3 : 1 ≤ size) : shardsR N es ends size = shardRow ends es (sortedRecs ends es) ends.length := if_pos ⟨h1, h2, h3⟩
theorem iv_range {xs : List Int} {v : Int} (h0 : 0 ≤ v) (h1 : v < lastE 0 xs) : 0 ≤ ivE xs v ∧ ivE xs v < xs.length := by
  have hne : xs ≠ [] := fun e => by subst e; simp [lastE] at h1; omega
  obtain ⟨k, hk⟩ : ∃ k, xs.length = k + 1 := ⟨xs.length - 1, by have := List.length_pos_iff.2 hne; omega⟩
  have hl := lastE_get xs 0 k hk
  have hv : ivE xs v = cntE v xs := by
    unfold ivE
    rw [if_neg]
    rintro (h | h | h)
    · omega
    · exact hne h
    · omega
  rw [hv]
  refine ⟨(cnt_bound v xs).1, ?_⟩
  unfold cntE
  have : (xs.filter fun e => decide (e ≤ v)).length < xs.length := List.length_filter_lt_length_iff_exists.2 ⟨lastE 0 xs, List.mem_of_getElem? hl, by simp; omega⟩
  omega
theorem rec_range {N : Int} {es : List GE} {ends : List Int} {r : GE} (h1 : graphB N es = true) (h2 : endsB N ends = true) (h : r ∈ sortedRecs ends es) : ∃ (p j : Nat) (e : GE), r = ⟨(p : Int), e.f, (j : Int)⟩ ∧ p < ends.length ∧ es[j]? = some e ∧ j < es.length ∧ (p : Int) = ivE ends e.t := by
  obtain ⟨j, e, he, rfl⟩ := sortedRecs_mem h
  have hed := edgeB_iff ((graphB_iff h1).2.2.2 e (List.mem_of_getElem? he))
  have hen := endsB_iff h2
  have hr := iv_range (xs := ends) (v := e.t) hed.2.2.1 (by rw [hen.2.2.2]; exact hed.2.2.2.1)
  exact ⟨(ivE ends e.t).toNat, j, e, by rw [Int.toNat_of_nonneg hr.1], by omega, he, (List.getElem?_eq_some_iff.1 he).1, Int.toNat_of_nonneg hr.1⟩
theorem pairs_span (ends : List Int) : pairsE 0 ends = (List.range ends.length).map (fun p : Nat => spanR ends (p : Int)) := by
  apply List.ext_getElem?
  intro p
  by_cases h : p < ends.length
  · have he : ends[p]? = some ends[p] := List.getElem?_eq_getElem h
    rw [pairsE_get ends 0 p _ he, List.getElem?_map, List.getElem?_range h, Option.map_some, span_yes he]
  · rw [List.getElem?_eq_none (by rw [pairsE_len]; omega), List.getElem?_eq_none (by simp; omega)]
theorem shardRow_nil (ends : List Int) (es : List GE) : shardRow ends es [] ends.length = (pairsE 0 ends).map (fun x => (x.1, x.2, [])) := by
  rw [pairs_span, List.map_map]
  rfl
/-- One record dealt. -/
theorem shardRow_deal {ends : List Int} {es L : List GE} {q p n : Nat} {r : GE} (h : L[q]? = some r) (hp : r.f = (p : Int)) : (shardRow ends es (L.take q) n).set p ((spanR ends (p : Int)).1, (spanR ends (p : Int)).2, dealt es (L.take q) (p : Int) ++ [keOf es r]) = shardRow ends es (L.take (q + 1)) n := by
  apply List.ext_getElem?
  intro i
  by_cases hi : i < n
  · rw [shardRow_get hi, List.getElem?_set]
    by_cases hpi : p = i
    · subst hpi
      rw [if_pos rfl, if_pos (by rw [shardRow_len]; exact hi)]
      unfold shardAt
      rw [dealt_yes h hp]
    · rw [if_neg hpi, shardRow_get hi]
      unfold shardAt
      rw [dealt_no h (by omega)]
  · rw [List.getElem?_eq_none (by rw [List.length_set, shardRow_len]; omega), List.getElem?_eq_none (by rw [shardRow_len]; omega)]
end Go.Proofs.Ytbfdhlpncblahaa
