/- The greedy division of vertices, and the edges that the intervals hold, as data (no program; no condition). -/
import Derived.Test.YtpgnappddddlpaaEndsMath
namespace Go.Proofs.Ytpgnappddddlpaa
open Go.RowKit

/-! ### the greedy division -/
def cutGo (b : Int) : Int → Int → List Int → List Int
  | v, _, [] => [v]
  | v, s, d :: r => if b < s + d then v :: cutGo b (v + 1) d r else cutGo b (v + 1) (s + d) r
def cutFrom (b v : Int) : List Int → List Int
  | [] => []
  | d :: r => cutGo b (v + 1) d r
def cutR (N : Int) (es : List GE) (b : Int) : List Int := if graphB N es = true ∧ 1 ≤ b ∧ b ≤ 400 then cutFrom b 0 (degs GE.t N.toNat es) else []
theorem cutGo_end (b v s : Int) : cutGo b v s [] = [v] := rfl
theorem cutGo_new {b v s d : Int} (r : List Int) (h : b < s + d) : cutGo b v s (d :: r) = v :: cutFrom b v (d :: r) := by
  rw [cutGo, if_pos h]
  rfl
theorem cutGo_more {b v s d : Int} (r : List Int) (h : s + d ≤ b) : cutGo b v s (d :: r) = cutGo b (v + 1) (s + d) r := by rw [cutGo, if_neg (by omega)]
theorem cutGo_len : ∀ (l : List Int) (b v s : Int), (cutGo b v s l).length ≤ l.length + 1
  | [], _, _, _ => by simp [cutGo]
  | d :: r, b, v, s => by
    rw [cutGo]
    split
    · have := cutGo_len r b (v + 1) d
      simp only [List.length_cons]
      omega
    · have := cutGo_len r b (v + 1) (s + d)
      simp only [List.length_cons]
      omega
theorem cutFrom_len (b v : Int) : ∀ l : List Int, (cutFrom b v l).length ≤ l.length
  | [] => by simp [cutFrom]
  | d :: r => by
    have := cutGo_len r b (v + 1) d
    simp only [cutFrom, List.length_cons]
    omega
theorem cutR_len (N : Int) (es : List GE) (b : Int) : (cutR N es b).length ≤ 150 := by
  unfold cutR
  split
  · rename_i h
    have h1 := graphB_iff h.1
    have := cutFrom_len b 0 (degs GE.t N.toNat es)
    rw [degs_len] at this
    omega
  · simp

/-! ### what the intervals hold -/
theorem sum_set : ∀ (l : List Int) (i : Nat) (v : Int), i < l.length → (l.set i v).sum = l.sum - l.getD i 0 + v
  | [], _, _, h => by simp at h
  | x :: r, 0, v, _ => by simp; omega
  | x :: r, i + 1, v, h => by
    have := sum_set r i v (by simpa using h)
    simp only [List.set_cons_succ, List.sum_cons, List.getD_cons_succ]
    omega
def sumAt (ds : List Int) (lo hi : Int) : Int := ((ds.drop lo.toNat).take (hi - lo).toNat).sum
def holdsL (ds : List Int) (l : Int) (xs : List Int) : List Int := (pairsE l xs).map fun p => sumAt ds p.1 p.2
theorem holdsL_len (ds : List Int) (l : Int) (xs : List Int) : (holdsL ds l xs).length = xs.length := by simp [holdsL, pairsE_len]
theorem sumAt_out (ds : List Int) (t : Nat) {lo hi : Int} (h0 : 0 ≤ lo) (_hl : lo ≤ hi) (h : (t : Int) < lo ∨ hi ≤ (t : Int)) : sumAt (bump ds t) lo hi = sumAt ds lo hi := by
  unfold sumAt bump
  rw [List.drop_set]
  split
  · rfl
  · rename_i hh
    rw [List.take_set, List.set_eq_of_length_le]
    rw [List.length_take]
    omega
theorem sumAt_in (ds : List Int) (t : Nat) {lo hi : Int} (h0 : 0 ≤ lo) (h1 : lo ≤ (t : Int)) (h2 : (t : Int) < hi) (h3 : t < ds.length) : sumAt (bump ds t) lo hi = sumAt ds lo hi + 1 := by
  unfold sumAt bump
  rw [List.drop_set, if_neg (by omega), List.take_set, sum_set _ _ _ (by rw [List.length_take, List.length_drop]; omega)]
  have : ((ds.drop lo.toNat).take (hi - lo).toNat).getD (t - lo.toNat) 0 = ds.getD t 0 := by
    rw [List.getD_eq_getElem?_getD, List.getD_eq_getElem?_getD, List.getElem?_take, if_pos (by omega), List.getElem?_drop, show lo.toNat + (t - lo.toNat) = t by omega]
  rw [this]
  omega
theorem holds_out (ds : List Int) (t : Nat) : ∀ (xs : List Int) (l : Int), 0 ≤ l → ascB l xs = true → (t : Int) < l → holdsL (bump ds t) l xs = holdsL ds l xs
  | [], _, _, _, _ => rfl
  | e :: r, l, h0, ha, hl => by
    simp only [ascB, Bool.and_eq_true, decide_eq_true_eq] at ha
    have ih := holds_out ds t r e (by omega) ha.2 (by omega)
    simp only [holdsL, pairsE, List.map_cons] at ih ⊢
    rw [sumAt_out ds t h0 (by omega) (.inl hl), ih]
theorem cnt_none : ∀ (xs : List Int) (l t : Int), ascB l xs = true → t < l → cntE t xs = 0
  | [], _, _, _, _ => rfl
  | e :: r, l, t, ha, hl => by
    simp only [ascB, Bool.and_eq_true, decide_eq_true_eq] at ha
    have ih := cnt_none r e t ha.2 (by omega)
    unfold cntE at ih ⊢
    rw [List.filter_cons_of_neg (by simp; omega)]
    exact ih
theorem bump_succ (a : Int) (l : List Int) (i : Nat) : bump (a :: l) (i + 1) = a :: bump l i := by simp [bump]
theorem bump_nought (a : Int) (l : List Int) : bump (a :: l) 0 = (a + 1) :: l := by simp [bump]
theorem holds_bump (ds : List Int) (t : Nat) : ∀ (xs : List Int) (l : Int), 0 ≤ l → ascB l xs = true → l ≤ (t : Int) → (t : Int) < lastE l xs → lastE l xs ≤ ds.length → holdsL (bump ds t) l xs = bump (holdsL ds l xs) (cntE t xs).toNat
  | [], _, _, _, h1, h2, _ => by simp only [lastE] at h2; omega
  | e :: r, l, h0, ha, h1, h2, h3 => by
    simp only [ascB, Bool.and_eq_true, decide_eq_true_eq] at ha
    simp only [lastE] at h2 h3
    by_cases he : e ≤ (t : Int)
    · have ih := holds_bump ds t r e (by omega) ha.2 he h2 h3
      have hc : (cntE t (e :: r)).toNat = (cntE t r).toNat + 1 := by
        unfold cntE
        rw [List.filter_cons_of_pos (by simp; omega), List.length_cons]
        omega
      rw [hc]
      simp only [holdsL, pairsE, List.map_cons] at ih ⊢
      rw [bump_succ, sumAt_out ds t h0 (by omega) (.inr he), ih]
    · have hc : cntE t (e :: r) = 0 := by
        have := cnt_none r e t ha.2 (by omega)
        unfold cntE at this ⊢
        rw [List.filter_cons_of_neg (by simp; omega)]
        exact this
      have hlast := asc_last_ge r e ha.2
      have ho := holds_out ds t r e (by omega) ha.2 (by omega)
      rw [hc]
      simp only [holdsL, pairsE, List.map_cons, Int.toNat_zero] at ho ⊢
      rw [bump_nought, sumAt_in ds t h0 h1 (by omega) (by omega), ho]
theorem holds_zero (n : Nat) : ∀ (xs : List Int) (l : Int), holdsL (List.replicate n 0) l xs = List.replicate xs.length 0
  | [], _ => rfl
  | e :: r, l => by
    have ih := holds_zero n r e
    simp only [holdsL, pairsE, List.map_cons, List.length_cons, List.replicate_succ] at ih ⊢
    rw [ih]
    simp [sumAt, List.drop_replicate, List.take_replicate]
def holdsR (N : Int) (es : List GE) (xs : List Int) : List Int := if graphB N es = true ∧ endsB N xs = true then holdsL (degs GE.t N.toNat es) 0 xs else []
theorem holds_fold {N : Int} {xs : List Int} (he : endsB N xs = true) : ∀ (es : List GE) (ds : List Int), (∀ e ∈ es, edgeB N e = true) → ds.length = N.toNat →
    holdsL (es.foldl (fun l e => bump l e.t.toNat) ds) 0 xs = es.foldl (fun l e => bump l (ivE xs e.t).toNat) (holdsL ds 0 xs)
  | [], _, _, _ => rfl
  | e :: r, ds, hall, hl => by
    obtain ⟨h1, h2, h3, h4⟩ := endsB_iff he
    have hb := edgeB_iff (hall e (by simp))
    rw [List.foldl_cons, List.foldl_cons, holds_fold he r _ (fun x hx => hall x (by simp [hx])) (by rw [bump_len]; exact hl)]
    have hiv : ivE xs e.t = cntE e.t xs := by
      unfold ivE
      rw [if_neg]
      rintro (h | h | h)
      · omega
      · subst h; simp only [lastE] at h4; omega
      · omega
    have ht : ((e.t.toNat : Nat) : Int) = e.t := by omega
    have hx := holds_bump ds e.t.toNat xs 0 (by omega) h1 (by omega) (by omega) (by omega)
    rw [hx, hiv, ht]
theorem holds_degs {N : Int} {es : List GE} {xs : List Int} (hg : graphB N es = true) (he : endsB N xs = true) : holdsR N es xs = degs (fun e => ivE xs e.t) xs.length es := by
  obtain ⟨_, _, _, h4⟩ := graphB_iff hg
  unfold holdsR
  rw [if_pos ⟨hg, he⟩]
  unfold degs
  rw [holds_fold he es _ h4 (by simp), holds_zero]
theorem holdsR_len {N : Int} {es : List GE} {xs : List Int} : (holdsR N es xs).length ≤ xs.length := by
  unfold holdsR
  split
  · rw [holdsL_len]; exact Nat.le_refl _
  · simp

/-! ### the model's way to the greedy division: vertex by vertex -/
structure CutAt (b : Int) (ds : List Int) (k : Nat) (acc : List Int) (s : Int) : Prop where
  first : k = 0 → acc = [] ∧ s = 0
  more : 0 < k → acc ++ cutGo b k s (ds.drop k) = cutFrom b 0 ds
  lo : 0 ≤ s
  hi : s ≤ 400 * k
  len : acc.length ≤ k
theorem CutAt.start (b : Int) (ds : List Int) : CutAt b ds 0 [] 0 := ⟨fun _ => ⟨rfl, rfl⟩, fun h => by omega, by omega, by omega, by simp⟩
theorem CutAt.one {b : Int} {ds : List Int} {acc : List Int} {s d : Int} (_h : CutAt b ds 0 acc s) (hd : ds[0]? = some d) (h0 : 0 ≤ d) (h1 : d ≤ 400) : CutAt b ds 1 [] d :=
  ⟨fun h => by omega, fun _ => by
    match ds, hd with
    | x :: r, hd =>
      simp at hd
      subst hd
      simp [cutFrom], h0, by omega, by simp⟩
theorem CutAt.new {b : Int} {ds : List Int} {k : Nat} {acc : List Int} {s d : Int} (h : CutAt b ds k acc s) (hk : 0 < k) (hd : ds[k]? = some d) (h0 : 0 ≤ d) (h1 : d ≤ 400) (hb : b < s + d) : CutAt b ds (k + 1) (acc ++ [(k : Int)]) d :=
  ⟨fun h => by omega, fun _ => by
    have e := h.more hk
    rw [g_drop ds k d hd, cutGo_new _ hb] at e
    rw [List.append_assoc, ← e]
    simp only [cutFrom, List.singleton_append]
    rw [show (((k + 1 : Nat)) : Int) = (k : Int) + 1 by omega], h0, by omega, by have := h.len; simp; omega⟩
theorem CutAt.same {b : Int} {ds : List Int} {k : Nat} {acc : List Int} {s d : Int} (h : CutAt b ds k acc s) (hk : 0 < k) (hd : ds[k]? = some d) (h0 : 0 ≤ d) (h1 : d ≤ 400) (hb : s + d ≤ b) : CutAt b ds (k + 1) acc (s + d) :=
  ⟨fun h => by omega, fun _ => by
    have e := h.more hk
    rw [g_drop ds k d hd, cutGo_more _ hb] at e
    rw [show (((k + 1 : Nat)) : Int) = (k : Int) + 1 by omega]
    exact e, by have := h.lo; omega, by have := h.hi; omega, by have := h.len; omega⟩
theorem CutAt.done {b : Int} {ds : List Int} {k : Nat} {acc : List Int} {s : Int} (h : CutAt b ds k acc s) (hk : ds.length = k) : cutFrom b 0 ds = if k = 0 then acc else acc ++ [(k : Int)] := by
  split
  · rename_i h0
    subst h0
    obtain rfl : ds = [] := List.eq_nil_of_length_eq_zero hk
    rw [(h.first rfl).1]
    rfl
  · have e := h.more (by omega)
    rw [List.drop_eq_nil_of_le (by omega), cutGo_end] at e
    exact e.symm

/-! ### the program's way: interval by interval -/
structure CutTo (b : Int) (ds : List Int) (k : Nat) (acc : List Int) : Prop where
  all : acc ++ cutFrom b k (ds.drop k) = cutFrom b 0 ds
structure CutIn (b : Int) (ds : List Int) (k : Nat) (acc : List Int) (s : Int) : Prop where
  all : acc ++ cutGo b k s (ds.drop k) = cutFrom b 0 ds
  lo : 0 ≤ s
  hi : s ≤ 400 * k
theorem CutTo.start (b : Int) (ds : List Int) : CutTo b ds 0 [] := ⟨rfl⟩
theorem CutTo.go {b : Int} {ds : List Int} {k : Nat} {acc : List Int} {d : Int} (h : CutTo b ds k acc) (hd : ds[k]? = some d) (h0 : 0 ≤ d) (h1 : d ≤ 400) : CutIn b ds (k + 1) acc d :=
  ⟨by
    have e := h.all
    rw [g_drop ds k d hd] at e
    rw [show (((k + 1 : Nat)) : Int) = (k : Int) + 1 by omega]
    exact e, h0, by omega⟩
theorem CutIn.more {b : Int} {ds : List Int} {k : Nat} {acc : List Int} {s d : Int} (h : CutIn b ds k acc s) (hd : ds[k]? = some d) (h0 : 0 ≤ d) (h1 : d ≤ 400) (hb : s + d ≤ b) : CutIn b ds (k + 1) acc (s + d) :=
  ⟨by
    have e := h.all
    rw [g_drop ds k d hd, cutGo_more _ hb] at e
    rw [show (((k + 1 : Nat)) : Int) = (k : Int) + 1 by omega]
    exact e, by have := h.lo; omega, by have := h.hi; omega⟩
theorem CutIn.new {b : Int} {ds : List Int} {k : Nat} {acc : List Int} {s d : Int} (h : CutIn b ds k acc s) (hd : ds[k]? = some d) (hb : b < s + d) : CutTo b ds k (acc ++ [(k : Int)]) :=
  ⟨by
    have e := h.all
    rw [g_drop ds k d hd, cutGo_new _ hb] at e
    rw [g_drop ds k d hd, List.append_assoc]
    exact e⟩
theorem CutIn.last {b : Int} {ds : List Int} {k : Nat} {acc : List Int} {s : Int} (h : CutIn b ds k acc s) (hk : ds.length = k) : CutTo b ds k (acc ++ [(k : Int)]) :=
  ⟨by
    have e := h.all
    rw [List.drop_eq_nil_of_le (by omega), cutGo_end] at e
    rw [List.drop_eq_nil_of_le (by omega), ← e]
    simp [cutFrom]⟩
theorem CutTo.done {b : Int} {ds : List Int} {k : Nat} {acc : List Int} (h : CutTo b ds k acc) (hk : ds.length ≤ k) : acc = cutFrom b 0 ds := by
  have e := h.all
  rw [List.drop_eq_nil_of_le hk] at e
  simpa [cutFrom] using e
theorem CutTo.pre {b : Int} {ds : List Int} {k : Nat} {acc : List Int} (h : CutTo b ds k acc) : acc <+: cutFrom b 0 ds := ⟨_, h.all⟩
end Go.Proofs.Ytpgnappddddlpaa
