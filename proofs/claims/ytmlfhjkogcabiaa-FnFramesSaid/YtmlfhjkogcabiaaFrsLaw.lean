/- Frames one behind the other, as data: what is read of them whole, of a beginning of them, and with one byte turned (no program; no condition). -/
import Derived.Test.YtmlfhjkogcabiaaCrcOne
import Derived.Test.YtmlfhjkogcabiaaFrsMath
import Derived.Test.YtmlfhjkogcabiaaFrMust
namespace Go.Proofs.Ytmlfhjkogcabiaa
open Go.RowKit

structure FrGood (f : Int × List Nat) : Prop where
  k1 : 1 ≤ f.1
  k3 : f.1 ≤ 3
  len : f.2.length ≤ 60000
  small : ∀ x ∈ f.2, x < 256
theorem FrGood.ok {f : Int × List Nat} (h : FrGood f) : frOk f.1 f.2.length = true := by
  unfold frOk
  simp only [Bool.and_eq_true, decide_eq_true_eq]
  exact ⟨⟨h.k1, h.k3⟩, h.len⟩
theorem fix_at (p r : List Nat) (m k : Nat) (hk : k = p.length) (hm : m < 281474976710656) : fixNat (p ++ (fixBytes m 6 ++ r)) k 6 = m := by
  subst hk
  unfold fixNat
  rw [List.drop_left, List.take_left' (fixBytes_length m 6), bytes_of_fix m hm]
theorem FrGood.enc {f : Int × List Nat} (h : FrGood f) : frB f.1 f.2 = [71, f.1.toNat] ++ (fixBytes f.2.length 6 ++ (fixBytes (crcV ([71, f.1.toNat] ++ fixBytes f.2.length 6)) 6 ++ (fixBytes (crcV f.2) 6 ++ f.2))) := by
  unfold frB
  rw [if_pos h.ok]
  simp only [List.append_assoc]
theorem FrGood.enc_len {f : Int × List Nat} (h : FrGood f) : (frB f.1 f.2).length = 20 + f.2.length := by
  rw [h.enc]
  simp [fixBytes_length]
  omega
structure EncAt (f : Int × List Nat) (rs : List Nat) : Prop where
  g0 : rs.getD 0 0 = 71
  g1 : rs.getD 1 0 = f.1.toNat
  sz : sizeR rs = f.2.length
  h : fixNat rs 8 6 = crcV (rs.take 8)
  d : fixNat rs 14 6 = crcV (dataR rs)
  dat : dataR rs = f.2
  l : 20 + sizeR rs ≤ rs.length
theorem FrGood.at {f : Int × List Nat} (h : FrGood f) (r : List Nat) : EncAt f (frB f.1 f.2 ++ r) := by
  have hc1 : crcV ([71, f.1.toNat] ++ fixBytes f.2.length 6) < 281474976710656 := by have := crcV_lt _ (head_small (k := f.1.toNat) (by have := h.k3; omega) f.2.length); omega
  have hc2 : crcV f.2 < 281474976710656 := by have := crcV_lt _ h.small; omega
  have hlen := h.len
  have e := h.enc
  have hl := h.enc_len
  generalize hrs : frB f.1 f.2 ++ r = rs
  have e2 : rs = [71, f.1.toNat] ++ (fixBytes f.2.length 6 ++ (fixBytes (crcV ([71, f.1.toNat] ++ fixBytes f.2.length 6)) 6 ++ (fixBytes (crcV f.2) 6 ++ (f.2 ++ r)))) := by
    rw [← hrs, e]
    simp only [List.append_assoc]
  have sz : sizeR rs = f.2.length := by
    unfold sizeR
    rw [e2]
    exact fix_at _ _ _ 2 rfl (by omega)
  have t8 : rs.take 8 = [71, f.1.toNat] ++ fixBytes f.2.length 6 := by
    rw [e2, ← List.append_assoc]
    exact List.take_left' (by simp [fixBytes_length])
  have dat : dataR rs = f.2 := by
    unfold dataR
    rw [sz, e2]
    have : [71, f.1.toNat] ++ (fixBytes f.2.length 6 ++ (fixBytes (crcV ([71, f.1.toNat] ++ fixBytes f.2.length 6)) 6 ++ (fixBytes (crcV f.2) 6 ++ (f.2 ++ r)))) = ([71, f.1.toNat] ++ fixBytes f.2.length 6 ++ fixBytes (crcV ([71, f.1.toNat] ++ fixBytes f.2.length 6)) 6 ++ fixBytes (crcV f.2) 6) ++ (f.2 ++ r) := by simp only [List.append_assoc]
    rw [this, List.drop_left' (by simp [fixBytes_length]), List.take_left]
  refine ⟨?_, ?_, sz, ?_, ?_, dat, ?_⟩
  · rw [e2]; rfl
  · rw [e2]; rfl
  · rw [t8, e2, ← List.append_assoc]
    exact fix_at _ _ _ 8 (by simp [fixBytes_length]) hc1
  · rw [dat, e2, ← List.append_assoc, ← List.append_assoc]
    exact fix_at _ _ _ 14 (by simp [fixBytes_length]) hc2
  · rw [sz, ← hrs, List.length_append, hl]
    omega
theorem EncAt.head {f : Int × List Nat} {rs : List Nat} (h : EncAt f rs) (g : FrGood f) : headB rs = true := by
  have := g.k1
  have := g.k3
  have h2 := h.sz
  have h3 := g.len
  unfold sizeR at h2
  unfold headB
  rw [decide_eq_true_eq, h.g0, h.g1, h2]
  exact ⟨rfl, by omega, by omega, by omega, h.h⟩
theorem frR_hit {xs : List Nat} {a : Nat} {f : Int × List Nat} {r : List Nat} (g : FrGood f) (ha : a ≤ xs.length) (h : xs.drop a = frB f.1 f.2 ++ r) : frR xs a = (f, (a : Int) + 20 + f.2.length, 0) := by
  have e := g.at r
  rw [← h] at e
  have hl := e.l
  have := g.k1
  rw [frR_0 ha (by omega) (e.head g) (by omega) e.d, e.g1, e.dat, e.sz]
  have : ((f.1.toNat : Nat) : Int) = f.1 := by omega
  rw [this]
theorem frR_ok {xs : List Nat} {a : Nat} (h : (frR xs a).2.2 = 0) : headB (xs.drop a) = true ∧ 20 + sizeR (xs.drop a) ≤ (xs.drop a).length ∧ fixNat (xs.drop a) 14 6 = crcV (dataR (xs.drop a)) := by
  have h0 := frR_next h
  by_cases ha : a ≤ xs.length
  · by_cases h1 : (xs.drop a).length < 14
    · rw [frR_2 ha h1] at h; simp at h
    · cases h2 : headB (xs.drop a) with
      | false => rw [frR_3 ha h1 h2] at h; simp at h
      | true =>
        by_cases h3 : (xs.drop a).length < 20 + sizeR (xs.drop a)
        · rw [frR_4 ha h1 h2 h3] at h; simp at h
        · by_cases h4 : fixNat (xs.drop a) 14 6 = crcV (dataR (xs.drop a))
          · exact ⟨rfl, by omega, h4⟩
          · rw [frR_5 ha h1 h2 h3 h4] at h; simp at h
  · rw [frR_1 (by omega)] at h; simp at h
theorem frR_short {xs : List Nat} {a j : Nat} {f : Int × List Nat} {r : List Nat} (g : FrGood f) (h : xs.drop a = (frB f.1 f.2 ++ r).take j) (hj : j < 20 + f.2.length) : (frR xs a).2.2 ≠ 0 := fun h0 => by
  obtain ⟨_, h2, _⟩ := frR_ok h0
  have e := g.at r
  have hl : (xs.drop a).length ≤ j := by rw [h, List.length_take]; omega
  have hs : sizeR (xs.drop a) = f.2.length := by
    rw [← e.sz, h]
    unfold sizeR fixNat
    rw [List.drop_take, List.take_take, Nat.min_eq_left (by omega)]
  omega
theorem frR_none {xs : List Nat} {a : Nat} (h : xs.drop a = []) : (frR xs a).2.2 ≠ 0 := fun h0 => by
  obtain ⟨_, h2, _⟩ := frR_ok h0
  rw [h] at h2
  simp at h2
theorem frR_bent {xs : List Nat} {a j x y : Nat} {f : Int × List Nat} {r : List Nat} (g : FrGood f) (hr : ∀ z ∈ r, z < 256) (h : xs.drop a = (frB f.1 f.2 ++ r).set j y) (hj : j < 20 + f.2.length) (hx : (frB f.1 f.2 ++ r)[j]? = some x) (hy : y < 256) (hne : y ≠ x) : (frR xs a).2.2 ≠ 0 := fun h0 => by
  obtain ⟨h1, h2, h3⟩ := frR_ok h0
  have e := g.at r
  have hs : ∀ z ∈ frB f.1 f.2 ++ r, z < 256 := fun z hz => by
    rcases List.mem_append.1 hz with hz | hz
    · exact frB_small _ _ g.small z hz
    · exact hr z hz
  rw [h] at h1 h2 h3
  have hss : ∀ z ∈ (frB f.1 f.2 ++ r).set j y, z < 256 := fun z hz => by
    rcases List.mem_or_eq_of_mem_set hz with hz | rfl
    · exact hs z hz
    · exact hy
  refine hne (FrHd.one ⟨hs, e.l, e.h, e.d⟩ (by rw [e.sz]; exact hj) hx hy ⟨hss, h2, ?_, h3⟩)
  exact (headB_iff h1).2.2.2.2

/-! ### many -/
def encAll (l : List (Int × List Nat)) : List Nat := l.flatMap fun f => frB f.1 f.2
theorem encAll_cons (f : Int × List Nat) (l : List (Int × List Nat)) : encAll (f :: l) = frB f.1 f.2 ++ encAll l := rfl
theorem encAll_append (l m : List (Int × List Nat)) : encAll (l ++ m) = encAll l ++ encAll m := by simp [encAll]
theorem encAll_small {l : List (Int × List Nat)} (h : ∀ f ∈ l, FrGood f) : ∀ x ∈ encAll l, x < 256 := fun x hx => by
  obtain ⟨f, hf, hx⟩ := List.mem_flatMap.1 hx
  exact frB_small _ _ (h f hf).small x hx
theorem frs_run {xs : List Nat} : ∀ (l : List (Int × List Nat)) (a fuel : Nat) (tail : List Nat), (∀ f ∈ l, FrGood f) → a ≤ xs.length → xs.drop a = encAll l ++ tail → l.length < fuel → (frR xs ((a + (encAll l).length : Nat) : Int)).2.2 ≠ 0 → frsR xs fuel a = (l, ((a + (encAll l).length : Nat) : Int))
  | [], a, fuel + 1, tail, _, _, _, _, hn => by
    have e : (encAll []).length = 0 := rfl
    rw [e, Nat.add_zero] at hn
    rw [frsR, if_neg hn, e, Nat.add_zero]
  | f :: l, a, fuel + 1, tail, hg, ha, hd, hf, hn => by
    have g := hg f (by simp)
    rw [encAll_cons, List.append_assoc] at hd
    have hl := g.enc_len
    have hhit := frR_hit g ha hd
    have hd2 : xs.drop (a + 20 + f.2.length) = encAll l ++ tail := by
      rw [show a + 20 + f.2.length = a + (frB f.1 f.2).length by omega, ← List.drop_drop, hd, List.drop_left]
    have ha2 : a + 20 + f.2.length ≤ xs.length := by
      have := congrArg List.length hd
      rw [List.length_drop, List.length_append] at this
      omega
    have hlen : a + (encAll (f :: l)).length = a + 20 + f.2.length + (encAll l).length := by rw [encAll_cons, List.length_append]; omega
    rw [hlen] at hn ⊢
    have ih := frs_run l (a + 20 + f.2.length) fuel tail (fun x hx => hg x (by simp [hx])) ha2 hd2 (by simpa using hf) hn
    rw [frsR, if_pos (by rw [hhit]), hhit]
    simp only
    have hc : (a : Int) + 20 + f.2.length = ((a + 20 + f.2.length : Nat) : Int) := by omega
    rw [hc, ih]
theorem encAll_le : ∀ (l : List (Int × List Nat)), (∀ f ∈ l, FrGood f) → l.length ≤ (encAll l).length
  | [], _ => by simp
  | f :: l, h => by
    have := encAll_le l (fun x hx => h x (by simp [hx]))
    have := (h f (by simp)).enc_len
    rw [encAll_cons, List.length_append, List.length_cons]
    omega
/-- What is read of frames with something behind them that is no frame. -/
theorem frs_all {l : List (Int × List Nat)} {tail : List Nat} (hg : ∀ f ∈ l, FrGood f) (hn : (frR (encAll l ++ tail) ((encAll l).length : Nat)).2.2 ≠ 0) : frsAll (encAll l ++ tail) = (l, (((encAll l).length : Nat) : Int)) := by
  unfold frsAll
  have h := frs_run (xs := encAll l ++ tail) l 0 ((encAll l ++ tail).length + 1) tail hg (by omega) rfl (by have := encAll_le l hg; rw [List.length_append]; omega) (by simpa using hn)
  simpa using h
def off (l : List (Int × List Nat)) (i : Nat) : Nat := (encAll (l.take i)).length
theorem off_zero (l : List (Int × List Nat)) : off l 0 = 0 := rfl
theorem off_succ {l : List (Int × List Nat)} {i : Nat} {f : Int × List Nat} (g : FrGood f) (h : l[i]? = some f) : off l (i + 1) = off l i + 20 + f.2.length := by
  obtain ⟨hi, rfl⟩ := List.getElem?_eq_some_iff.1 h
  unfold off
  rw [List.take_succ_eq_append_getElem hi, encAll_append, List.length_append]
  have := g.enc_len
  simp only [encAll, List.flatMap_cons, List.flatMap_nil, List.append_nil] at this ⊢
  omega
theorem off_mono (l : List (Int × List Nat)) {i j : Nat} (h : i ≤ j) : off l i ≤ off l j := by
  unfold off
  have : l.take j = l.take i ++ (l.take j).drop i := by
    have h2 : (l.take j).take i = l.take i := by rw [List.take_take, Nat.min_eq_left h]
    rw [← h2, List.take_append_drop]
  rw [this, encAll_append, List.length_append]
  omega
theorem off_all (l : List (Int × List Nat)) : off l l.length = (encAll l).length := by unfold off; rw [List.take_length]
theorem frs_whole {l : List (Int × List Nat)} (hg : ∀ f ∈ l, FrGood f) : frsAll (encAll l) = (l, (((encAll l).length : Nat) : Int)) := by
  have h := frs_all (tail := []) hg (by rw [List.append_nil]; exact frR_none (List.drop_length ..))
  rw [List.append_nil] at h
  exact h
theorem off_split (l : List (Int × List Nat)) (k : Nat) : ∀ n, n ≤ l.length → ∃ m, m ≤ n ∧ off l m ≤ k ∧ (m < n → k < off l (m + 1))
  | 0, _ => ⟨0, Nat.le_refl _, by rw [off_zero]; omega, fun h => by omega⟩
  | n + 1, h => by
    by_cases hk : off l (n + 1) ≤ k
    · exact ⟨n + 1, Nat.le_refl _, hk, fun h => by omega⟩
    · obtain ⟨m, h1, h2, h3⟩ := off_split l k n (by omega)
      refine ⟨m, by omega, h2, fun _ => ?_⟩
      rcases Nat.lt_or_ge m n with h4 | h4
      · exact h3 h4
      · obtain rfl : m = n := by omega
        omega
/-- Of a beginning: just those that are all there. -/
theorem frs_cut {l : List (Int × List Nat)} (hg : ∀ f ∈ l, FrGood f) (k : Nat) : ∃ m, m ≤ l.length ∧ frsAll ((encAll l).take k) = (l.take m, ((off l m : Nat) : Int)) ∧ ∀ i, i < l.length → (off l (i + 1) ≤ k ↔ i < m) := by
  obtain ⟨m, h1, h2, h3⟩ := off_split l k l.length (Nat.le_refl _)
  refine ⟨m, h1, ?_, fun i hi => ?_⟩
  · have e : (encAll l).take k = encAll (l.take m) ++ (encAll (l.drop m)).take (k - off l m) := by
      have e1 : encAll l = encAll (l.take m) ++ encAll (l.drop m) := by rw [← encAll_append, List.take_append_drop]
      rw [e1, List.take_append, List.take_of_length_le (show (encAll (l.take m)).length ≤ k from h2)]
      rfl
    rw [e]
    refine frs_all (fun f hf => hg f (List.mem_of_mem_take hf)) ?_
    have hd : (encAll (l.take m) ++ (encAll (l.drop m)).take (k - off l m)).drop (encAll (l.take m)).length = (encAll (l.drop m)).take (k - off l m) := List.drop_left
    rcases Nat.lt_or_ge m l.length with h4 | h4
    · have hget : l[m]? = some l[m] := List.getElem?_eq_getElem h4
      have g := hg _ (List.getElem_mem h4)
      have h5 := h3 h4
      rw [off_succ g hget] at h5
      rw [List.drop_eq_getElem_cons h4, encAll_cons] at hd ⊢
      exact frR_short g hd (by omega)
    · rw [List.drop_eq_nil_of_le h4] at hd ⊢
      exact frR_none (by rw [hd]; exact List.take_nil)
  · constructor
    · intro h
      rcases Nat.lt_or_ge i m with h4 | h4
      · exact h4
      · have := off_mono l (show m + 1 ≤ i + 1 by omega)
        have := h3 (by omega)
        omega
    · intro h
      have := off_mono l (show i + 1 ≤ m by omega)
      omega
/-- With one byte turned: those ahead of it. -/
theorem frs_bent {l : List (Int × List Nat)} (hg : ∀ f ∈ l, FrGood f) {i p x y : Nat} (hi : i < l.length) (h1 : off l i ≤ p) (h2 : p < off l (i + 1)) (hx : (encAll l)[p]? = some x) (hy : y < 256) (hne : y ≠ x) : frsAll ((encAll l).set p y) = (l.take i, ((off l i : Nat) : Int)) := by
  have hget : l[i]? = some l[i] := List.getElem?_eq_getElem hi
  have g := hg _ (List.getElem_mem hi)
  rw [off_succ g hget] at h2
  have e1 : encAll l = encAll (l.take i) ++ (frB l[i].1 l[i].2 ++ encAll (l.drop (i + 1))) := by rw [← encAll_cons, ← List.drop_eq_getElem_cons hi, ← encAll_append, List.take_append_drop]
  have hp : (encAll (l.take i)).length ≤ p := h1
  rw [e1] at hx ⊢
  rw [List.getElem?_append_right hp] at hx
  rw [List.set_append_right _ _ hp]
  refine frs_all (fun f hf => hg f (List.mem_of_mem_take hf)) ?_
  exact frR_bent g (encAll_small (fun f hf => hg f (List.mem_of_mem_drop hf))) List.drop_left (by unfold off at h2 h1; omega) hx hy hne
end Go.Proofs.Ytmlfhjkogcabiaa
