/- Lists of numbers and shards as bytes: what is written and what is read, as data (plain lemmas; no condition). -/
import Derived.Test.YtmbabbapcjphgaaPutFixMath
import Derived.Test.YtmbabbapcjphgaaGetZigMath
import Derived.Test.YtmbabbapcjphgaaZigMath
import Derived.Test.YtmbabbapcjphgaaGetFixMath
import Derived.Test.YtmbabbapcjphgaaShMath
namespace Go.Proofs.Ytmbabbapcjphgaa
open Go.RowKit

/-! ### a list -/
def listOk (l : List Int) : Bool := decide (l.length ≤ 400) && l.all numOk
def listY (l : List Int) : List Nat := if listOk l then digits 6 l.length ++ l.flatMap (fun x => putFix [] x) else []
theorem putVar_nil (m : Nat) (h : m ≤ 281474976710655) : putVar [] (m : Int) = digits 6 m := by
  have e1 : numOk (m : Int) = true := by simp only [numOk, decide_eq_true_eq]; omega
  simp [putVar, e1]
theorem putVar_onto (xs : List Nat) (n : Int) (h : numOk n = true) : putVar xs n = xs ++ putVar [] n := by simp [putVar, h]
theorem putZig_onto (xs : List Nat) (n : Int) (h : zigOk n = true) : putZig xs n = xs ++ putZig [] n := by simp [putZig, h, putVar, zig_num n h]
theorem putFix_onto (xs : List Nat) (n : Int) (h : numOk n = true) : putFix xs n = xs ++ putFix [] n := by simp [putFix, h]
theorem pk_flat_small {α : Type} (f : α → List Nat) (h : ∀ x, ∀ b ∈ f x, b < 256) (l : List α) : ∀ b ∈ l.flatMap f, b < 256 := fun b hb => by
  obtain ⟨x, _, hx⟩ := List.mem_flatMap.1 hb
  exact h x b hx
theorem pk_flat_len {α : Type} (f : α → List Nat) (m : Nat) (h : ∀ x, (f x).length ≤ m) : ∀ l : List α, (l.flatMap f).length ≤ m * l.length
  | [] => by simp
  | x :: r => by
    have h1 := h x
    have h2 := pk_flat_len f m h r
    rw [List.flatMap_cons, List.length_append, List.length_cons, Nat.mul_succ]
    omega
theorem listY_small (l : List Int) : ∀ b ∈ listY l, b < 256 := by
  unfold listY
  split
  · rename_i h
    intro b hb
    rcases List.mem_append.1 hb with hb | hb
    · have h2 : l.length ≤ 400 := by simp only [listOk, Bool.and_eq_true, decide_eq_true_eq] at h; exact h.1
      exact digits_bytes 6 _ (by omega) b hb
    · exact pk_flat_small _ (fun x => putFix_small [] x (by simp)) l b hb
  · simp
theorem listY_len (l : List Int) : (listY l).length ≤ 2807 := by
  unfold listY
  split
  · rename_i h
    have h2 : l.length ≤ 400 := by simp only [listOk, Bool.and_eq_true, decide_eq_true_eq] at h; exact h.1
    have h3 := digits_length 6 l.length
    have h4 := pk_flat_len (fun x : Int => putFix [] x) 7 (fun x => by have := putFix_length [] x; simpa using this) l
    rw [List.length_append]
    omega
  · simp
theorem pk_all_step (p : Int → Bool) (l : List Int) (k : Nat) (x : Int) (h : l[k]? = some x) : (l.take (k + 1)).all p = ((l.take k).all p && p x) := by
  obtain ⟨hl, he⟩ := List.getElem?_eq_some_iff.1 h
  rw [List.take_succ_eq_append_getElem hl, he]
  simp
theorem pk_flat_step (f : Int → List Nat) (l : List Int) (k : Nat) (x : Int) (h : l[k]? = some x) : (l.take (k + 1)).flatMap f = (l.take k).flatMap f ++ f x := by
  obtain ⟨hl, he⟩ := List.getElem?_eq_some_iff.1 h
  rw [List.take_succ_eq_append_getElem hl, he]
  simp

/-! ### a shard's bytes -/
def encE (d e : KE) : List Nat := putVar [] (e.f - d.f) ++ (putZig [] (e.t - d.t) ++ (putVar [] e.w ++ putZig [] (e.i - d.i)))
def encEs : KE → List KE → List Nat
  | _, [] => []
  | d, e :: r => encE d e ++ encEs e r
def lastK : KE → List KE → KE
  | d, [] => d
  | _, e :: r => lastK e r
theorem encEs_snoc : ∀ (l : List KE) (d e : KE), encEs d (l ++ [e]) = encEs d l ++ encE (lastK d l) e
  | [], d, e => by simp [encEs, lastK]
  | a :: r, d, e => by rw [List.cons_append, encEs, encEs_snoc r a e, encEs, lastK, List.append_assoc]
theorem lastK_snoc : ∀ (l : List KE) (d e : KE), lastK d (l ++ [e]) = e
  | [], _, _ => rfl
  | a :: r, d, e => by rw [List.cons_append, lastK, lastK_snoc r a e]
def headY (lo hi : Int) (n : Nat) : List Nat := putVar [] lo ++ (putVar [] hi ++ putVar [] (n : Int))
def shardY (lo hi : Int) (es : List KE) : List Nat := if shardB lo hi es then headY lo hi es.length ++ encEs ⟨0, lo, 0, 0, 0⟩ es else []
theorem putY_small (n : Int) : ∀ x ∈ putVar [] n, x < 256 := putVar_small [] n (by simp)
theorem putZ_small (n : Int) : ∀ x ∈ putZig [] n, x < 256 := putZig_small [] n (by simp)
theorem encE_small (d e : KE) : ∀ x ∈ encE d e, x < 256 := fun x hx => by
  unfold encE at hx
  simp only [List.mem_append] at hx
  rcases hx with hx | hx | hx | hx
  · exact putY_small _ x hx
  · exact putZ_small _ x hx
  · exact putY_small _ x hx
  · exact putZ_small _ x hx
theorem encEs_small : ∀ (l : List KE) (d : KE), ∀ x ∈ encEs d l, x < 256
  | [], _, x, hx => by cases hx
  | a :: r, d, x, hx => by
    rw [encEs] at hx
    rcases List.mem_append.1 hx with hx | hx
    · exact encE_small d a x hx
    · exact encEs_small r a x hx
theorem encE_len (d e : KE) : (encE d e).length ≤ 28 := by
  have h1 := putVar_length [] (e.f - d.f)
  have h2 := putZig_length [] (e.t - d.t)
  have h3 := putVar_length [] e.w
  have h4 := putZig_length [] (e.i - d.i)
  unfold encE
  simp only [List.length_append, List.length_nil] at *
  omega
theorem encEs_len : ∀ (l : List KE) (d : KE), (encEs d l).length ≤ 28 * l.length
  | [], _ => by simp [encEs]
  | a :: r, d => by
    have h1 := encE_len d a
    have h2 := encEs_len r a
    rw [encEs, List.length_append, List.length_cons]
    omega
theorem headY_small (lo hi : Int) (n : Nat) : ∀ x ∈ headY lo hi n, x < 256 := fun x hx => by
  unfold headY at hx
  simp only [List.mem_append] at hx
  rcases hx with hx | hx | hx
  all_goals exact putY_small _ x hx
theorem headY_len (lo hi : Int) (n : Nat) : (headY lo hi n).length ≤ 21 := by
  have h1 := putVar_length [] lo
  have h2 := putVar_length [] hi
  have h3 := putVar_length [] (n : Int)
  unfold headY
  simp only [List.length_append, List.length_nil] at *
  omega
theorem shardY_small (lo hi : Int) (es : List KE) : ∀ x ∈ shardY lo hi es, x < 256 := by
  unfold shardY
  split
  · intro x hx
    rcases List.mem_append.1 hx with hx | hx
    · exact headY_small _ _ _ x hx
    · exact encEs_small _ _ x hx
  · simp
theorem shardY_len (lo hi : Int) (es : List KE) : (shardY lo hi es).length ≤ 11221 := by
  unfold shardY
  split
  · rename_i h
    have h2 := (shardB_iff h).2.2.2.1
    have h3 := headY_len lo hi es.length
    have h4 := encEs_len es ⟨0, lo, 0, 0, 0⟩
    rw [List.length_append]
    omega
  · simp
/-- An edge from which the next one's differences are taken. -/
structure Nr (lo hi p : Int) (d : KE) : Prop where
  f0 : 0 ≤ d.f
  f1 : d.f ≤ 150
  fp : d.f ≤ p ∨ d.f = 0
  t0 : lo ≤ d.t
  t1 : d.t < hi
  i0 : 0 ≤ d.i
  i1 : d.i ≤ 400
/-- The differences of an edge of a valid shard. -/
structure Dif (d e : KE) : Prop where
  f0 : 0 ≤ e.f - d.f
  f1 : e.f - d.f ≤ 150
  t0 : -150 ≤ e.t - d.t
  t1 : e.t - d.t ≤ 150
  w0 : 0 ≤ e.w
  w1 : e.w ≤ 1000
  i0 : -400 ≤ e.i - d.i
  i1 : e.i - d.i ≤ 400
theorem nr_first {lo hi : Int} (h : lo < hi) : Nr lo hi (-1) ⟨0, lo, 0, 0, 0⟩ := ⟨by simp, by simp, .inr rfl, Int.le_refl _, h, by simp, by simp⟩
theorem nr_edge {lo hi : Int} {e : KE} (h : kedgeB lo hi e = true) : Nr lo hi e.f e := by
  obtain ⟨h1, h2, h3, h4, h5, h6, h7, h8, _⟩ := kedgeB_iff h
  exact ⟨h1, by omega, .inl (Int.le_refl _), h3, h4, h7, by omega⟩
theorem dif_edge {lo hi p q : Int} {d e : KE} (h0 : 0 ≤ lo) (hh : hi ≤ 150) (hd : Nr lo hi p d) (he : kedgeB lo hi e = true) (ha : afterB p q e = true) : Dif d e := by
  obtain ⟨h1, h2, h3, h4, h5, h6, h7, h8, _⟩ := kedgeB_iff he
  obtain ⟨d1, d2, d3, d4, d5, d6, d7⟩ := hd
  have h9 := afterB_iff ha
  exact ⟨by omega, by omega, by omega, by omega, by omega, by omega, by omega, by omega⟩
theorem dif_at {lo hi : Int} (h0 : 0 ≤ lo) (hh : hi ≤ 150) : ∀ (es : List KE) (p q : Int) (d : KE), runK lo hi p q es = true → Nr lo hi p d → ∀ (k : Nat) (e : KE), es[k]? = some e → Dif (lastK d (es.take k)) e ∧ kedgeB lo hi e = true
  | [], _, _, _, _, _, k, e, he => by simp at he
  | a :: r, p, q, d, h, hd, k, e, he => by
    rw [runK, Bool.and_eq_true, Bool.and_eq_true] at h
    cases k with
    | zero =>
      have h9 : a = e := by simpa using he
      subst h9
      exact ⟨dif_edge h0 hh hd h.1.1 h.1.2, h.1.1⟩
    | succ k =>
      rw [List.take_succ_cons, lastK]
      exact dif_at h0 hh r a.f a.i a h.2 (nr_edge h.1.1) k e (by simpa using he)

/-! ### reading -/
def nxV (xs : List Nat) (a : Int) (n : Nat) : Int := if gv xs a n then gvE xs a n else -1
def vZ (xs : List Nat) (a : Int) (n : Nat) : Int := if gv xs a n then unzig (gvN xs a n) else 0
def nxF (a : Int) (n : Nat) : Int := if fixOk a n then a + 6 else -1
def vF (xs : List Nat) (a : Int) (n : Nat) : Int := if fixOk a n then (fixNat xs a.toNat 6 : Nat) else 0
structure RS where
  a : Int
  f : Int
  t : Int
  w : Int
  i : Int
def RS.e (s : RS) : KE := ⟨s.f, s.t, s.w, s.i, 0⟩
def rdStep (xs : List Nat) (n : Nat) (s : RS) : RS :=
  ⟨nxV xs (nxV xs (nxV xs (nxV xs s.a n) n) n) n, IntKind.i64.wrap (s.f + gvN xs s.a n), IntKind.i64.wrap (s.t + vZ xs (nxV xs s.a n) n), gvN xs (nxV xs (nxV xs s.a n) n) n, IntKind.i64.wrap (s.i + vZ xs (nxV xs (nxV xs (nxV xs s.a n) n) n) n)⟩
def rdIt (xs : List Nat) (n : Nat) : Nat → RS → RS
  | 0, s => s
  | k + 1, s => rdIt xs n k (rdStep xs n s)
def esR (xs : List Nat) (n : Nat) : Nat → RS → List KE
  | 0, _ => []
  | k + 1, s => (rdStep xs n s).e :: esR xs n k (rdStep xs n s)
theorem rdIt_succ (xs : List Nat) (n : Nat) : ∀ (k : Nat) (s : RS), rdIt xs n (k + 1) s = rdStep xs n (rdIt xs n k s)
  | 0, _ => rfl
  | k + 1, s => by rw [rdIt, rdIt_succ xs n k, rdIt]
theorem esR_snoc (xs : List Nat) (n : Nat) : ∀ (k : Nat) (s : RS), esR xs n (k + 1) s = esR xs n k s ++ [(rdStep xs n (rdIt xs n k s)).e]
  | 0, _ => rfl
  | k + 1, s => by rw [esR, esR_snoc xs n k, esR, rdIt]; rfl
theorem esR_len (xs : List Nat) (n : Nat) : ∀ (k : Nat) (s : RS), (esR xs n k s).length = k
  | 0, _ => rfl
  | k + 1, s => by rw [esR, List.length_cons, esR_len xs n k]
theorem nxV_neg (xs : List Nat) (a : Int) (n : Nat) (h : a < 0) : nxV xs a n = -1 := by rw [nxV, gv_out xs a n (by omega), if_neg (by simp)]
theorem gvN_neg (xs : List Nat) (a : Int) (n : Nat) (h : a < 0) : gvN xs a n = 0 := by rw [gvN, gv_out xs a n (by omega), if_neg (by simp)]
theorem vZ_neg (xs : List Nat) (a : Int) (n : Nat) (h : a < 0) : vZ xs a n = 0 := by rw [vZ, gv_out xs a n (by omega), if_neg (by simp)]
theorem nxV_gv {xs : List Nat} {a : Int} {n : Nat} (h : 0 ≤ nxV xs a n) : gv xs a n = true := by
  cases h2 : gv xs a n with
  | true => rfl
  | false => rw [nxV, h2, if_neg (by simp)] at h; omega
theorem nxV_yes {xs : List Nat} {a : Int} {n : Nat} (h : gv xs a n = true) : nxV xs a n = gvE xs a n := by rw [nxV, h, if_pos rfl]
theorem gvE_facts {xs : List Nat} {a : Int} {n : Nat} (hl : xs.length = n) (h : gv xs a n = true) : 0 ≤ a ∧ a < gvE xs a n ∧ gvE xs a n ≤ n := by
  have h0 := h
  unfold gv at h0
  rw [Bool.and_eq_true, decide_eq_true_eq] at h0
  obtain ⟨h1, h2⟩ := h0
  unfold gvOk at h2
  rw [Bool.and_eq_true, decide_eq_true_eq, List.length_drop] at h2
  unfold gvE
  rw [h, if_pos rfl]
  omega
theorem nxV_facts {xs : List Nat} {a : Int} {n : Nat} (hl : xs.length = n) (h : 0 ≤ nxV xs a n) : 0 ≤ a ∧ a < nxV xs a n ∧ nxV xs a n ≤ n := by
  have hg := nxV_gv h
  rw [nxV_yes hg]
  exact gvE_facts hl hg
theorem nxV_or {xs : List Nat} {a : Int} {n : Nat} (hl : xs.length = n) : nxV xs a n = -1 ∨ 0 < nxV xs a n := by
  cases h : gv xs a n with
  | true => exact .inr (by rw [nxV_yes h]; have := gvE_facts hl h; omega)
  | false => exact .inl (by rw [nxV, h, if_neg (by simp)])
/-- The bytes from a to b. -/
def seg (xs : List Nat) (a b : Int) : List Nat := (xs.drop a.toNat).take (b - a).toNat
theorem seg_append (xs : List Nat) {a b c : Int} (h0 : 0 ≤ a) (h1 : a ≤ b) (h2 : b ≤ c) : seg xs a b ++ seg xs b c = seg xs a c := by
  unfold seg
  rw [show (c - a).toNat = (b - a).toNat + (c - b).toNat by omega, List.take_add, List.drop_drop, show a.toNat + (b - a).toNat = b.toNat by omega]
theorem seg_same (xs : List Nat) (a : Int) : seg xs a a = [] := by simp [seg]
theorem gvN_seg {xs : List Nat} {a : Int} {n : Nat} (hs : ∀ x ∈ xs, x < 256) (h : gv xs a n = true) : putVar [] (gvN xs a n) = seg xs a (gvE xs a n) := by
  have h0 := h
  unfold gv at h0
  rw [Bool.and_eq_true, decide_eq_true_eq] at h0
  obtain ⟨h1, h2⟩ := h0
  unfold gvOk at h2
  rw [Bool.and_eq_true, decide_eq_true_eq, List.length_drop] at h2
  obtain ⟨⟨h3, h4, h5⟩, h6⟩ := h2
  have hlt : scan (xs.drop a.toNat) < (xs.drop a.toNat).length := by rw [List.length_drop]; exact h4
  have h7 := (digits_val ((xs.drop a.toNat).take (scan (xs.drop a.toNat) + 1)) 6 (shape_take _ (fun x hx => hs x (List.mem_of_mem_drop hx)) hlt) (by rw [List.length_take]; omega)).2 h6
  unfold gvN gvE seg
  rw [h, if_pos rfl, if_pos rfl, putVar_nil _ h5, h7]
  congr 1
  omega
theorem zig_unzig (m : Int) (h : 0 ≤ m) : zig (unzig m) = m := by
  unfold unzig
  split
  · unfold zig
    rw [if_pos (by omega)]
    omega
  · unfold zig
    rw [if_neg (by omega)]
    omega
theorem zigOk_unzig (m : Int) (h : 0 ≤ m) (h2 : m ≤ 281474976710655) : zigOk (unzig m) = true := by
  unfold zigOk unzig
  rw [decide_eq_true_eq]
  split <;> omega
theorem vZ_bounds (xs : List Nat) (a : Int) (n : Nat) : -140737488355328 ≤ vZ xs a n ∧ vZ xs a n ≤ 140737488355327 := by
  obtain ⟨h1, h2⟩ := gvN_bounds xs a n
  unfold vZ
  split
  · have := zigOk_unzig _ h1 h2
    simpa only [zigOk, decide_eq_true_eq] using this
  · omega
theorem vZ_seg {xs : List Nat} {a : Int} {n : Nat} (hs : ∀ x ∈ xs, x < 256) (h : gv xs a n = true) : putZig [] (vZ xs a n) = seg xs a (gvE xs a n) := by
  obtain ⟨h1, h2⟩ := gvN_bounds xs a n
  unfold vZ
  rw [h, if_pos rfl, putZig, zigOk_unzig _ h1 h2, if_pos rfl, zig_unzig _ h1]
  exact gvN_seg hs h
theorem wrap_in (x : Int) (h0 : -9223372036854775808 ≤ x) (h1 : x ≤ 9223372036854775807) : IntKind.i64.wrap x = x := by
  rw [IntKind.wrap_i64]
  omega
theorem rdIt_neg (xs : List Nat) (n : Nat) : ∀ (k : Nat) (s : RS), s.a < 0 → (rdIt xs n k s).a < 0
  | 0, _, h => h
  | k + 1, s, h => by
    rw [rdIt]
    refine rdIt_neg xs n k _ ?_
    show nxV xs (nxV xs (nxV xs (nxV xs s.a n) n) n) n < 0
    rw [nxV_neg xs _ n h, nxV_neg xs (-1) n (by omega), nxV_neg xs (-1) n (by omega), nxV_neg xs (-1) n (by omega)]
    omega
theorem rdStep_facts {xs : List Nat} {n : Nat} {s : RS} (hl : xs.length = n) (h : 0 ≤ (rdStep xs n s).a) : 0 ≤ s.a ∧ s.a < nxV xs s.a n ∧ nxV xs s.a n < nxV xs (nxV xs s.a n) n ∧ nxV xs (nxV xs s.a n) n < nxV xs (nxV xs (nxV xs s.a n) n) n ∧ nxV xs (nxV xs (nxV xs s.a n) n) n < (rdStep xs n s).a := by
  obtain ⟨h1, h2, _⟩ := nxV_facts hl h
  obtain ⟨h3, h4, _⟩ := nxV_facts hl h1
  obtain ⟨h5, h6, _⟩ := nxV_facts hl h3
  obtain ⟨h7, h8, _⟩ := nxV_facts hl h5
  exact ⟨h7, h8, h6, h4, h2⟩
theorem rdIt_up {xs : List Nat} {n : Nat} (hl : xs.length = n) : ∀ (k : Nat) (s : RS), 0 ≤ (rdIt xs n k s).a → 0 ≤ s.a ∧ s.a ≤ (rdIt xs n k s).a
  | 0, _, h => ⟨h, Int.le_refl _⟩
  | k + 1, s, h => by
    rw [rdIt] at h
    obtain ⟨h1, h2⟩ := rdIt_up hl k _ h
    obtain ⟨h3, h4, h5, h6, h7⟩ := rdStep_facts hl h1
    rw [rdIt]
    exact ⟨h3, by omega⟩
/-- What was read is what would be written. -/
theorem enc_seg {xs : List Nat} {n : Nat} {lo hi : Int} (hl : xs.length = n) (hs : ∀ x ∈ xs, x < 256) (h0 : 0 ≤ lo) (hh : hi ≤ 150) : ∀ (k : Nat) (s : RS) (p q v : Int), runK lo hi p q (esR xs n k s) = true → Nr lo hi p ⟨s.f, s.t, s.w, s.i, v⟩ → 0 ≤ (rdIt xs n k s).a →
    encEs ⟨s.f, s.t, s.w, s.i, v⟩ (esR xs n k s) = seg xs s.a (rdIt xs n k s).a
  | 0, s, _, _, _, _, _, _ => by rw [esR, encEs, rdIt, seg_same]
  | k + 1, s, p, q, v, hr, hd, ha => by
    rw [esR, runK, Bool.and_eq_true, Bool.and_eq_true] at hr
    rw [rdIt] at ha
    obtain ⟨u1, u2⟩ := rdIt_up hl k _ ha
    obtain ⟨h3, h4, h5, h6, h7⟩ := rdStep_facts hl u1
    have ih := enc_seg hl hs h0 hh k (rdStep xs n s) _ _ 0 hr.2 (nr_edge hr.1.1) ha
    have hdf := dif_edge h0 hh hd hr.1.1 hr.1.2
    obtain ⟨d1, d2, d3, d4, d5, d6, d7⟩ := hd
    simp only at d1 d2 d3 d4 d5 d6 d7
    have g1 := nxV_gv (xs := xs) (a := s.a) (n := n) (by omega)
    have g2 := nxV_gv (xs := xs) (a := nxV xs s.a n) (n := n) (by omega)
    have g3 := nxV_gv (xs := xs) (a := nxV xs (nxV xs s.a n) n) (n := n) (by omega)
    have g4 := nxV_gv (xs := xs) (a := nxV xs (nxV xs (nxV xs s.a n) n) n) (n := n) (by have := u1; unfold rdStep at this; exact this)
    have b1 := gvN_bounds xs s.a n
    have b2 := vZ_bounds xs (nxV xs s.a n) n
    have b4 := vZ_bounds xs (nxV xs (nxV xs (nxV xs s.a n) n) n) n
    have e1 : (rdStep xs n s).e.f - s.f = gvN xs s.a n := by
      show IntKind.i64.wrap (s.f + gvN xs s.a n) - s.f = _
      rw [wrap_in _ (by omega) (by omega)]; omega
    have e2 : (rdStep xs n s).e.t - s.t = vZ xs (nxV xs s.a n) n := by
      show IntKind.i64.wrap (s.t + _) - s.t = _
      rw [wrap_in _ (by omega) (by omega)]; omega
    have e4 : (rdStep xs n s).e.i - s.i = vZ xs (nxV xs (nxV xs (nxV xs s.a n) n) n) n := by
      show IntKind.i64.wrap (s.i + _) - s.i = _
      rw [wrap_in _ (by omega) (by omega)]; omega
    have e3 : (rdStep xs n s).e.w = gvN xs (nxV xs (nxV xs s.a n) n) n := rfl
    have hE : encE ⟨s.f, s.t, s.w, s.i, v⟩ (rdStep xs n s).e = seg xs s.a (rdStep xs n s).a := by
      unfold encE
      show putVar [] ((rdStep xs n s).e.f - s.f) ++ (putZig [] ((rdStep xs n s).e.t - s.t) ++ (putVar [] (rdStep xs n s).e.w ++ putZig [] ((rdStep xs n s).e.i - s.i))) = _
      rw [e1, e2, e3, e4, gvN_seg hs g1, vZ_seg hs g2, gvN_seg hs g3, vZ_seg hs g4, ← nxV_yes g1, ← nxV_yes g2, ← nxV_yes g3, ← nxV_yes g4]
      have hz : nxV xs (nxV xs (nxV xs (nxV xs s.a n) n) n) n = (rdStep xs n s).a := rfl
      rw [hz, seg_append xs (by omega) (by omega) (by omega), seg_append xs (by omega) (by omega) (by omega), seg_append xs (by omega) (by omega) (by omega)]
    have ih2 : encEs (rdStep xs n s).e (esR xs n k (rdStep xs n s)) = seg xs (rdStep xs n s).a (rdIt xs n k (rdStep xs n s)).a := ih
    rw [esR, encEs, hE, ih2, rdIt, seg_append xs h3 (by omega) (by omega)]
/-- A shard as it is read: Lo, Hi, how many edges, and where the edges begin. -/
structure RH where
  lo : Int
  hi : Int
  m : Int
  s : RS
def rdHead (xs : List Nat) (a : Int) (n : Nat) : RH :=
  ⟨gvN xs a n, gvN xs (nxV xs a n) n, gvN xs (nxV xs (nxV xs a n) n) n, ⟨nxV xs (nxV xs (nxV xs a n) n) n, 0, gvN xs a n, 0, 0⟩⟩
def RH.es (h : RH) (xs : List Nat) (n : Nat) : List KE := esR xs n h.m.toNat h.s
def RH.z (h : RH) (xs : List Nat) (n : Nat) : Int := (rdIt xs n h.m.toNat h.s).a
def RH.ok (h : RH) (xs : List Nat) (n : Nat) : Bool := decide (h.m ≤ 400 ∧ 0 ≤ h.z xs n) && shardB h.lo h.hi (h.es xs n)
theorem shard_seg {xs : List Nat} {n : Nat} {a : Int} (hl : xs.length = n) (hs : ∀ x ∈ xs, x < 256) (hz : 0 ≤ (rdHead xs a n).z xs n) (hb : shardB (rdHead xs a n).lo (rdHead xs a n).hi ((rdHead xs a n).es xs n) = true) :
    shardY (rdHead xs a n).lo (rdHead xs a n).hi ((rdHead xs a n).es xs n) = seg xs a ((rdHead xs a n).z xs n) := by
  obtain ⟨h0, h1, h2, h3, hr⟩ := shardB_iff hb
  obtain ⟨u1, u2⟩ := rdIt_up hl _ _ hz
  have u3 : 0 ≤ nxV xs (nxV xs (nxV xs a n) n) n := u1
  obtain ⟨v1, v2, _⟩ := nxV_facts hl u3
  obtain ⟨v3, v4, _⟩ := nxV_facts hl v1
  obtain ⟨v5, v6, _⟩ := nxV_facts hl v3
  have g1 := nxV_gv (xs := xs) (a := a) (n := n) (by omega)
  have g2 := nxV_gv (xs := xs) (a := nxV xs a n) (n := n) (by omega)
  have g3 := nxV_gv u3
  have hE := enc_seg hl hs h0 h2 (rdHead xs a n).m.toNat (rdHead xs a n).s (-1) 0 0 hr (nr_first h1) hz
  have hm := gvN_bounds xs (nxV xs (nxV xs a n) n) n
  have hm2 : (((rdHead xs a n).es xs n).length : Int) = gvN xs (nxV xs (nxV xs a n) n) n := by
    unfold RH.es
    rw [esR_len]
    show ((gvN xs (nxV xs (nxV xs a n) n) n).toNat : Int) = _
    omega
  have hH : headY (rdHead xs a n).lo (rdHead xs a n).hi ((rdHead xs a n).es xs n).length = seg xs a (rdHead xs a n).s.a := by
    unfold headY
    rw [hm2]
    show putVar [] (gvN xs a n) ++ (putVar [] (gvN xs (nxV xs a n) n) ++ putVar [] (gvN xs (nxV xs (nxV xs a n) n) n)) = seg xs a (nxV xs (nxV xs (nxV xs a n) n) n)
    rw [gvN_seg hs g1, gvN_seg hs g2, gvN_seg hs g3, ← nxV_yes g1, ← nxV_yes g2, ← nxV_yes g3, seg_append xs (by omega) (by omega) (by omega), seg_append xs (by omega) (by omega) (by omega)]
  have hE2 : encEs ⟨0, (rdHead xs a n).lo, 0, 0, 0⟩ ((rdHead xs a n).es xs n) = seg xs (rdHead xs a n).s.a ((rdHead xs a n).z xs n) := hE
  have u4 : (rdHead xs a n).s.a ≤ (rdHead xs a n).z xs n := u2
  have u5 : (rdHead xs a n).s.a = nxV xs (nxV xs (nxV xs a n) n) n := rfl
  rw [shardY, hb, if_pos rfl, hH, hE2, seg_append xs (by omega) (by omega) u4]

/-! ### values -/
def valAt (vals : List Int) (i : Int) : Int := if 0 ≤ i then (vals[i.toNat]?).getD (-1) else -1
def KE.put (vals : List Int) (e : KE) : KE := ⟨e.f, e.t, e.w, e.i, valAt vals e.i⟩
def valsB (lo hi : Int) (es : List KE) (vals : List Int) : Bool := shardB lo hi es && es.all (fun e => numOk (valAt vals e.i))
end Go.Proofs.Ytmbabbapcjphgaa
