/- Lists of numbers and shards as bytes: what is written and what is read, as data (plain lemmas; no condition). // What the functions on encoded shards and lists return (no condition). // Words for the encoding of a shard: a block of one edge, the bytes so far (plain lemmas; no condition). // A shard with other values, as data; blocks of a shard in memory (plain lemmas; no condition). // The model's shard with other values. Condition: at most 2^20 edges and 2^20 values. // Words for the walks of laws whose function answers numbers: rows of numbers of a call's own, from call to call. -/
import Derived.Test.YtpgnappddddlpaaCGI
import Derived.Test.YtpgnappddddlpaaCGA
import Derived.Test.YtpgnappddddlpaaCGC
import Derived.Test.YtpgnappddddlpaaCGB
import Derived.Test.YtpgnappddddlpaaCGD
import Derived.Test.YtpgnappddddlpaaCGF
import Derived.Test.YtpgnappddddlpaaCGG
namespace Go.Proofs.Ytpgnappddddlpaa
open Go.RowKit

/-! ### a list -/
def listOk (l : List Int) : Bool := decide (l.length ≤ 400) && l.all numOk
def listY (l : List Int) : List Nat := if listOk l then digits 6 l.length ++ l.flatMap (fun x => putFix [] x) else []
theorem putVar_nil (m : Nat) (h : m ≤ 281474976710655) : putVar [] (m : Int) = digits 6 m := by
  have e1 : numOk (m : Int) = true := by simp only [numOk, decide_eq_true_eq]; omega
  simp [putVar, e1]
theorem putVar_onto (xs : List Nat) (n : Int) (h : numOk n = true) : putVar xs n = xs ++ putVar [] n := by simp [putVar, h]
theorem putZig_onto (xs : List Nat) (n : Int) (h : zigOk n = true) : putZig xs n = xs ++ putZig [] n := by simp [putZig, h, putVar, zig_num n h]
theorem putFix_onto (xs : List Nat) (n : Int) (h : numOk n = true) : putFix xs n = xs ++ putFix [] n := by simp [putFix, h]
theorem pk_flat_small {α : Type} (f : α → List Nat) (h : ∀ x, ∀ b ∈ f x, b < 256) (l : List α) : ∀ b ∈ l.flatMap f, b < 256 := fun b hb => by
  obtain ⟨x, _, hx⟩ := List.mem_flatMap.1 hb
  exact h x b hx
theorem pk_flat_len {α : Type} (f : α → List Nat) (m : Nat) (h : ∀ x, (f x).length ≤ m) : ∀ l : List α, (l.flatMap f).length ≤ m * l.length
  | [] => by simp
  | x :: r => by
    have h1 := h x
    have h2 := pk_flat_len f m h r
    rw [List.flatMap_cons, List.length_append, List.length_cons, Nat.mul_succ]
    omega
theorem listY_small (l : List Int) : ∀ b ∈ listY l, b < 256 := by
  unfold listY
  split
  · rename_i h
    intro b hb
    rcases List.mem_append.1 hb with hb | hb
    · have h2 : l.length ≤ 400 := by simp only [listOk, Bool.and_eq_true, decide_eq_true_eq] at h; exact h.1
      exact digits_bytes 6 _ (by omega) b hb
    · exact pk_flat_small _ (fun x => putFix_small [] x (by simp)) l b hb
  · simp
theorem listY_len (l : List Int) : (listY l).length ≤ 2807 := by
  unfold listY
  split
  · rename_i h
    have h2 : l.length ≤ 400 := by simp only [listOk, Bool.and_eq_true, decide_eq_true_eq] at h; exact h.1
    have h3 := digits_length 6 l.length
    have h4 := pk_flat_len (fun x : Int => putFix [] x) 7 (fun x => by have := putFix_length [] x; simpa using this) l
    rw [List.length_append]
    omega
  · simp
theorem pk_all_step (p : Int → Bool) (l : List Int) (k : Nat) (x : Int) (h : l[k]? = some x) : (l.take (k + 1)).all p = ((l.take k).all p && p x) := by
  obtain ⟨hl, he⟩ := List.getElem?_eq_some_iff.1 h
  rw [List.take_succ_eq_append_getElem hl, he]
  simp
theorem pk_flat_step (f : Int → List Nat) (l : List Int) (k : Nat) (x : Int) (h : l[k]? = some x) : (l.take (k + 1)).flatMap f = (l.take k).flatMap f ++ f x := by
  obtain ⟨hl, he⟩ := List.getElem?_eq_some_iff.1 h
  rw [List.take_succ_eq_append_getElem hl, he]
  simp

/-! ### a shard's bytes -/
def encE (d e : KE) : List Nat := putVar [] (e.f - d.f) ++ (putZig [] (e.t - d.t) ++ (putVar [] e.w ++ putZig [] (e.i - d.i)))
def encEs : KE → List KE → List Nat
  | _, [] => []
  | d, e :: r => encE d e ++ encEs e r
def lastK : KE → List KE → KE
  | d, [] => d
  | _, e :: r => lastK e r
theorem encEs_snoc : ∀ (l : List KE) (d e : KE), encEs d (l ++ [e]) = encEs d l ++ encE (lastK d l) e
  | [], d, e => by simp [encEs, lastK]
  | a :: r, d, e => by rw [List.cons_append, encEs, encEs_snoc r a e, encEs, lastK, List.append_assoc]
theorem lastK_snoc : ∀ (l : List KE) (d e : KE), lastK d (l ++ [e]) = e
  | [], _, _ => rfl
  | a :: r, d, e => by rw [List.cons_append, lastK, lastK_snoc r a e]
def headY (lo hi : Int) (n : Nat) : List Nat := putVar [] lo ++ (putVar [] hi ++ putVar [] (n : Int))
def shardY (lo hi : Int) (es : List KE) : List Nat := if shardB lo hi es then headY lo hi es.length ++ encEs ⟨0, lo, 0, 0, 0⟩ es else []
theorem putY_small (n : Int) : ∀ x ∈ putVar [] n, x < 256 := putVar_small [] n (by simp)
theorem putZ_small (n : Int) : ∀ x ∈ putZig [] n, x < 256 := putZig_small [] n (by simp)
theorem encE_small (d e : KE) : ∀ x ∈ encE d e, x < 256 := fun x hx => by
  unfold encE at hx
  simp only [List.mem_append] at hx
  rcases hx with hx | hx | hx | hx
  · exact putY_small _ x hx
  · exact putZ_small _ x hx
  · exact putY_small _ x hx
  · exact putZ_small _ x hx
theorem encEs_small : ∀ (l : List KE) (d : KE), ∀ x ∈ encEs d l, x < 256
  | [], _, x, hx => by cases hx
  | a :: r, d, x, hx => by
    rw [encEs] at hx
    rcases List.mem_append.1 hx with hx | hx
    · exact encE_small d a x hx
    · exact encEs_small r a x hx
theorem encE_len (d e : KE) : (encE d e).length ≤ 28 := by
  have h1 := putVar_length [] (e.f - d.f)
  have h2 := putZig_length [] (e.t - d.t)
  have h3 := putVar_length [] e.w
  have h4 := putZig_length [] (e.i - d.i)
  unfold encE
  simp only [List.length_append, List.length_nil] at *
  omega
theorem encEs_len : ∀ (l : List KE) (d : KE), (encEs d l).length ≤ 28 * l.length
  | [], _ => by simp [encEs]
  | a :: r, d => by
    have h1 := encE_len d a
    have h2 := encEs_len r a
    rw [encEs, List.length_append, List.length_cons]
    omega
theorem headY_small (lo hi : Int) (n : Nat) : ∀ x ∈ headY lo hi n, x < 256 := fun x hx => by
  unfold headY at hx
  simp only [List.mem_append] at hx
  rcases hx with hx | hx | hx
  all_goals exact putY_small _ x hx
theorem headY_len (lo hi : Int) (n : Nat) : (headY lo hi n).length ≤ 21 := by
  have h1 := putVar_length [] lo
  have h2 := putVar_length [] hi
  have h3 := putVar_length [] (n : Int)
  unfold headY
  simp only [List.length_append, List.length_nil] at *
  omega
theorem shardY_small (lo hi : Int) (es : List KE) : ∀ x ∈ shardY lo hi es, x < 256 := by
  unfold shardY
  split
  · intro x hx
    rcases List.mem_append.1 hx with hx | hx
    · exact headY_small _ _ _ x hx
    · exact encEs_small _ _ x hx
  · simp
theorem shardY_len (lo hi : Int) (es : List KE) : (shardY lo hi es).length ≤ 11221 := by
  unfold shardY
  split
  · rename_i h
    have h2 := (shardB_iff h).2.2.2.1
    have h3 := headY_len lo hi es.length
    have h4 := encEs_len es ⟨0, lo, 0, 0, 0⟩
    rw [List.length_append]
    omega
  · simp
/-- An edge from which the next one's differences are taken. -/
structure Nr (lo hi p : Int) (d : KE) : Prop where
  f0 : 0 ≤ d.f
  f1 : d.f ≤ 150
  fp : d.f ≤ p ∨ d.f = 0
  t0 : lo ≤ d.t
  t1 : d.t < hi
  i0 : 0 ≤ d.i
  i1 : d.i ≤ 400
/-- The differences of an edge of a valid shard. -/
structure Dif (d e : KE) : Prop where
  f0 : 0 ≤ e.f - d.f
  f1 : e.f - d.f ≤ 150
  t0 : -150 ≤ e.t - d.t
  t1 : e.t - d.t ≤ 150
  w0 : 0 ≤ e.w
  w1 : e.w ≤ 1000
  i0 : -400 ≤ e.i - d.i
  i1 : e.i - d.i ≤ 400
theorem nr_first {lo hi : Int} (h : lo < hi) : Nr lo hi (-1) ⟨0, lo, 0, 0, 0⟩ := ⟨by simp, by simp, .inr rfl, Int.le_refl _, h, by simp, by simp⟩
theorem nr_edge {lo hi : Int} {e : KE} (h : kedgeB lo hi e = true) : Nr lo hi e.f e := by
  obtain ⟨h1, h2, h3, h4, h5, h6, h7, h8, _⟩ := kedgeB_iff h
  exact ⟨h1, by omega, .inl (Int.le_refl _), h3, h4, h7, by omega⟩
theorem dif_edge {lo hi p q : Int} {d e : KE} (h0 : 0 ≤ lo) (hh : hi ≤ 150) (hd : Nr lo hi p d) (he : kedgeB lo hi e = true) (ha : afterB p q e = true) : Dif d e := by
  obtain ⟨h1, h2, h3, h4, h5, h6, h7, h8, _⟩ := kedgeB_iff he
  obtain ⟨d1, d2, d3, d4, d5, d6, d7⟩ := hd
  have h9 := afterB_iff ha
  exact ⟨by omega, by omega, by omega, by omega, by omega, by omega, by omega, by omega⟩
theorem dif_at {lo hi : Int} (h0 : 0 ≤ lo) (hh : hi ≤ 150) : ∀ (es : List KE) (p q : Int) (d : KE), runK lo hi p q es = true → Nr lo hi p d → ∀ (k : Nat) (e : KE), es[k]? = some e → Dif (lastK d (es.take k)) e ∧ kedgeB lo hi e = true
  | [], _, _, _, _, _, k, e, he => by simp at he
  | a :: r, p, q, d, h, hd, k, e, he => by
    rw [runK, Bool.and_eq_true, Bool.and_eq_true] at h
    cases k with
    | zero =>
      have h9 : a = e := by simpa using he
      subst h9
      exact ⟨dif_edge h0 hh hd h.1.1 h.1.2, h.1.1⟩
    | succ k =>
      rw [List.take_succ_cons, lastK]
      exact dif_at h0 hh r a.f a.i a h.2 (nr_edge h.1.1) k e (by simpa using he)

/-! ### reading -/
def nxV (xs : List Nat) (a : Int) (n : Nat) : Int := if gv xs a n then gvE xs a n else -1
def vZ (xs : List Nat) (a : Int) (n : Nat) : Int := if gv xs a n then unzig (gvN xs a n) else 0
def nxF (a : Int) (n : Nat) : Int := if fixOk a n then a + 6 else -1
def vF (xs : List Nat) (a : Int) (n : Nat) : Int := if fixOk a n then (fixNat xs a.toNat 6 : Nat) else 0
structure RS where
  a : Int
  f : Int
  t : Int
  w : Int
  i : Int
def RS.e (s : RS) : KE := ⟨s.f, s.t, s.w, s.i, 0⟩
def rdStep (xs : List Nat) (n : Nat) (s : RS) : RS :=
  ⟨nxV xs (nxV xs (nxV xs (nxV xs s.a n) n) n) n, IntKind.i64.wrap (s.f + gvN xs s.a n), IntKind.i64.wrap (s.t + vZ xs (nxV xs s.a n) n), gvN xs (nxV xs (nxV xs s.a n) n) n, IntKind.i64.wrap (s.i + vZ xs (nxV xs (nxV xs (nxV xs s.a n) n) n) n)⟩
def rdIt (xs : List Nat) (n : Nat) : Nat → RS → RS
  | 0, s => s
  | k + 1, s => rdIt xs n k (rdStep xs n s)
def esR (xs : List Nat) (n : Nat) : Nat → RS → List KE
  | 0, _ => []
  | k + 1, s => (rdStep xs n s).e :: esR xs n k (rdStep xs n s)
theorem rdIt_succ (xs : List Nat) (n : Nat) : ∀ (k : Nat) (s : RS), rdIt xs n (k + 1) s = rdStep xs n (rdIt xs n k s)
  | 0, _ => rfl
  | k + 1, s => by rw [rdIt, rdIt_succ xs n k, rdIt]
theorem esR_snoc (xs : List Nat) (n : Nat) : ∀ (k : Nat) (s : RS), esR xs n (k + 1) s = esR xs n k s ++ [(rdStep xs n (rdIt xs n k s)).e]
  | 0, _ => rfl
  | k + 1, s => by rw [esR, esR_snoc xs n k, esR, rdIt]; rfl
theorem esR_len (xs : List Nat) (n : Nat) : ∀ (k : Nat) (s : RS), (esR xs n k s).length = k
  | 0, _ => rfl
  | k + 1, s => by rw [esR, List.length_cons, esR_len xs n k]
theorem nxV_neg (xs : List Nat) (a : Int) (n : Nat) (h : a < 0) : nxV xs a n = -1 := by rw [nxV, gv_out xs a n (by omega), if_neg (by simp)]
theorem gvN_neg (xs : List Nat) (a : Int) (n : Nat) (h : a < 0) : gvN xs a n = 0 := by rw [gvN, gv_out xs a n (by omega), if_neg (by simp)]
theorem vZ_neg (xs : List Nat) (a : Int) (n : Nat) (h : a < 0) : vZ xs a n = 0 := by rw [vZ, gv_out xs a n (by omega), if_neg (by simp)]
theorem nxV_gv {xs : List Nat} {a : Int} {n : Nat} (h : 0 ≤ nxV xs a n) : gv xs a n = true := by
  cases h2 : gv xs a n with
  | true => rfl
  | false => rw [nxV, h2, if_neg (by simp)] at h; omega
theorem nxV_yes {xs : List Nat} {a : Int} {n : Nat} (h : gv xs a n = true) : nxV xs a n = gvE xs a n := by rw [nxV, h, if_pos rfl]
theorem gvE_facts {xs : List Nat} {a : Int} {n : Nat} (hl : xs.length = n) (h : gv xs a n = true) : 0 ≤ a ∧ a < gvE xs a n ∧ gvE xs a n ≤ n := by
  have h0 := h
  unfold gv at h0
  rw [Bool.and_eq_true, decide_eq_true_eq] at h0
  obtain ⟨h1, h2⟩ := h0
  unfold gvOk at h2
  rw [Bool.and_eq_true, decide_eq_true_eq, List.length_drop] at h2
  unfold gvE
  rw [h, if_pos rfl]
  omega
theorem nxV_facts {xs : List Nat} {a : Int} {n : Nat} (hl : xs.length = n) (h : 0 ≤ nxV xs a n) : 0 ≤ a ∧ a < nxV xs a n ∧ nxV xs a n ≤ n := by
  have hg := nxV_gv h
  rw [nxV_yes hg]
  exact gvE_facts hl hg
theorem nxV_or {xs : List Nat} {a : Int} {n : Nat} (hl : xs.length = n) : nxV xs a n = -1 ∨ 0 < nxV xs a n := by
  cases h : gv xs a n with
  | true => exact .inr (by rw [nxV_yes h]; have := gvE_facts hl h; omega)
  | false => exact .inl (by rw [nxV, h, if_neg (by simp)])
/-- The bytes from a to b. -/
def seg (xs : List Nat) (a b : Int) : List Nat := (xs.drop a.toNat).take (b - a).toNat
theorem seg_append (xs : List Nat) {a b c : Int} (h0 : 0 ≤ a) (h1 : a ≤ b) (h2 : b ≤ c) : seg xs a b ++ seg xs b c = seg xs a c := by
  unfold seg
  rw [show (c - a).toNat = (b - a).toNat + (c - b).toNat by omega, List.take_add, List.drop_drop, show a.toNat + (b - a).toNat = b.toNat by omega]
theorem seg_same (xs : List Nat) (a : Int) : seg xs a a = [] := by simp [seg]
theorem gvN_seg {xs : List Nat} {a : Int} {n : Nat} (hs : ∀ x ∈ xs, x < 256) (h : gv xs a n = true) : putVar [] (gvN xs a n) = seg xs a (gvE xs a n) := by
  have h0 := h
  unfold gv at h0
  rw [Bool.and_eq_true, decide_eq_true_eq] at h0
  obtain ⟨h1, h2⟩ := h0
  unfold gvOk at h2
  rw [Bool.and_eq_true, decide_eq_true_eq, List.length_drop] at h2
  obtain ⟨⟨h3, h4, h5⟩, h6⟩ := h2
  have hlt : scan (xs.drop a.toNat) < (xs.drop a.toNat).length := by rw [List.length_drop]; exact h4
  have h7 := (digits_val ((xs.drop a.toNat).take (scan (xs.drop a.toNat) + 1)) 6 (shape_take _ (fun x hx => hs x (List.mem_of_mem_drop hx)) hlt) (by rw [List.length_take]; omega)).2 h6
  unfold gvN gvE seg
  rw [h, if_pos rfl, if_pos rfl, putVar_nil _ h5, h7]
  congr 1
  omega
theorem zig_unzig (m : Int) (h : 0 ≤ m) : zig (unzig m) = m := by
  unfold unzig
  split
  · unfold zig
    rw [if_pos (by omega)]
    omega
  · unfold zig
    rw [if_neg (by omega)]
    omega
theorem zigOk_unzig (m : Int) (h : 0 ≤ m) (h2 : m ≤ 281474976710655) : zigOk (unzig m) = true := by
  unfold zigOk unzig
  rw [decide_eq_true_eq]
  split <;> omega
theorem vZ_bounds (xs : List Nat) (a : Int) (n : Nat) : -140737488355328 ≤ vZ xs a n ∧ vZ xs a n ≤ 140737488355327 := by
  obtain ⟨h1, h2⟩ := gvN_bounds xs a n
  unfold vZ
  split
  · have := zigOk_unzig _ h1 h2
    simpa only [zigOk, decide_eq_true_eq] using this
  · omega
theorem vZ_seg {xs : List Nat} {a : Int} {n : Nat} (hs : ∀ x ∈ xs, x < 256) (h : gv xs a n = true) : putZig [] (vZ xs a n) = seg xs a (gvE xs a n) := by
  obtain ⟨h1, h2⟩ := gvN_bounds xs a n
  unfold vZ
  rw [h, if_pos rfl, putZig, zigOk_unzig _ h1 h2, if_pos rfl, zig_unzig _ h1]
  exact gvN_seg hs h
theorem wrap_in (x : Int) (h0 : -9223372036854775808 ≤ x) (h1 : x ≤ 9223372036854775807) : IntKind.i64.wrap x = x := by
  rw [IntKind.wrap_i64]
  omega
theorem rdIt_neg (xs : List Nat) (n : Nat) : ∀ (k : Nat) (s : RS), s.a < 0 → (rdIt xs n k s).a < 0
  | 0, _, h => h
  | k + 1, s, h => by
    rw [rdIt]
    refine rdIt_neg xs n k _ ?_
    show nxV xs (nxV xs (nxV xs (nxV xs s.a n) n) n) n < 0
    rw [nxV_neg xs _ n h, nxV_neg xs (-1) n (by omega), nxV_neg xs (-1) n (by omega), nxV_neg xs (-1) n (by omega)]
    omega
theorem rdStep_facts {xs : List Nat} {n : Nat} {s : RS} (hl : xs.length = n) (h : 0 ≤ (rdStep xs n s).a) : 0 ≤ s.a ∧ s.a < nxV xs s.a n ∧ nxV xs s.a n < nxV xs (nxV xs s.a n) n ∧ nxV xs (nxV xs s.a n) n < nxV xs (nxV xs (nxV xs s.a n) n) n ∧ nxV xs (nxV xs (nxV xs s.a n) n) n < (rdStep xs n s).a := by
  obtain ⟨h1, h2, _⟩ := nxV_facts hl h
  obtain ⟨h3, h4, _⟩ := nxV_facts hl h1
  obtain ⟨h5, h6, _⟩ := nxV_facts hl h3
  obtain ⟨h7, h8, _⟩ := nxV_facts hl h5
  exact ⟨h7, h8, h6, h4, h2⟩
theorem rdIt_up {xs : List Nat} {n : Nat} (hl : xs.length = n) : ∀ (k : Nat) (s : RS), 0 ≤ (rdIt xs n k s).a → 0 ≤ s.a ∧ s.a ≤ (rdIt xs n k s).a
  | 0, _, h => ⟨h, Int.le_refl _⟩
  | k + 1, s, h => by
    rw [rdIt] at h
    obtain ⟨h1, h2⟩ := rdIt_up hl k _ h
    obtain ⟨h3, h4, h5, h6, h7⟩ := rdStep_facts hl h1
    rw [rdIt]
    exact ⟨h3, by omega⟩
/-- What was read is what would be written. -/
theorem enc_seg {xs : List Nat} {n : Nat} {lo hi : Int} (hl : xs.length = n) (hs : ∀ x ∈ xs, x < 256) (h0 : 0 ≤ lo) (hh : hi ≤ 150) : ∀ (k : Nat) (s : RS) (p q v : Int), runK lo hi p q (esR xs n k s) = true → Nr lo hi p ⟨s.f, s.t, s.w, s.i, v⟩ → 0 ≤ (rdIt xs n k s).a →
    encEs ⟨s.f, s.t, s.w, s.i, v⟩ (esR xs n k s) = seg xs s.a (rdIt xs n k s).a
  | 0, s, _, _, _, _, _, _ => by rw [esR, encEs, rdIt, seg_same]
  | k + 1, s, p, q, v, hr, hd, ha => by
    rw [esR, runK, Bool.and_eq_true, Bool.and_eq_true] at hr
    rw [rdIt] at ha
    obtain ⟨u1, u2⟩ := rdIt_up hl k _ ha
    obtain ⟨h3, h4, h5, h6, h7⟩ := rdStep_facts hl u1
    have ih := enc_seg hl hs h0 hh k (rdStep xs n s) _ _ 0 hr.2 (nr_edge hr.1.1) ha
    have hdf := dif_edge h0 hh hd hr.1.1 hr.1.2
    obtain ⟨d1, d2, d3, d4, d5, d6, d7⟩ := hd
    simp only at d1 d2 d3 d4 d5 d6 d7
    have g1 := nxV_gv (xs := xs) (a := s.a) (n := n) (by omega)
    have g2 := nxV_gv (xs := xs) (a := nxV xs s.a n) (n := n) (by omega)
    have g3 := nxV_gv (xs := xs) (a := nxV xs (nxV xs s.a n) n) (n := n) (by omega)
    have g4 := nxV_gv (xs := xs) (a := nxV xs (nxV xs (nxV xs s.a n) n) n) (n := n) (by have := u1; unfold rdStep at this; exact this)
    have b1 := gvN_bounds xs s.a n
    have b2 := vZ_bounds xs (nxV xs s.a n) n
    have b4 := vZ_bounds xs (nxV xs (nxV xs (nxV xs s.a n) n) n) n
    have e1 : (rdStep xs n s).e.f - s.f = gvN xs s.a n := by
      show IntKind.i64.wrap (s.f + gvN xs s.a n) - s.f = _
      rw [wrap_in _ (by omega) (by omega)]; omega
    have e2 : (rdStep xs n s).e.t - s.t = vZ xs (nxV xs s.a n) n := by
      show IntKind.i64.wrap (s.t + _) - s.t = _
      rw [wrap_in _ (by omega) (by omega)]; omega
    have e4 : (rdStep xs n s).e.i - s.i = vZ xs (nxV xs (nxV xs (nxV xs s.a n) n) n) n := by
      show IntKind.i64.wrap (s.i + _) - s.i = _
      rw [wrap_in _ (by omega) (by omega)]; omega
    have e3 : (rdStep xs n s).e.w = gvN xs (nxV xs (nxV xs s.a n) n) n := rfl
    have hE : encE ⟨s.f, s.t, s.w, s.i, v⟩ (rdStep xs n s).e = seg xs s.a (rdStep xs n s).a := by
      unfold encE
      show putVar [] ((rdStep xs n s).e.f - s.f) ++ (putZig [] ((rdStep xs n s).e.t - s.t) ++ (putVar [] (rdStep xs n s).e.w ++ putZig [] ((rdStep xs n s).e.i - s.i))) = _
      rw [e1, e2, e3, e4, gvN_seg hs g1, vZ_seg hs g2, gvN_seg hs g3, vZ_seg hs g4, ← nxV_yes g1, ← nxV_yes g2, ← nxV_yes g3, ← nxV_yes g4]
      have hz : nxV xs (nxV xs (nxV xs (nxV xs s.a n) n) n) n = (rdStep xs n s).a := rfl
      rw [hz, seg_append xs (by omega) (by omega) (by omega), seg_append xs (by omega) (by omega) (by omega), seg_append xs (by omega) (by omega) (by omega)]
    have ih2 : encEs (rdStep xs n s).e (esR xs n k (rdStep xs n s)) = seg xs (rdStep xs n s).a (rdIt xs n k (rdStep xs n s)).a := ih
    rw [esR, encEs, hE, ih2, rdIt, seg_append xs h3 (by omega) (by omega)]
/-- A shard as it is read: Lo, Hi, how many edges, and where the edges begin. -/
structure RH where
  lo : Int
  hi : Int
  m : Int
  s : RS
def rdHead (xs : List Nat) (a : Int) (n : Nat) : RH :=
  ⟨gvN xs a n, gvN xs (nxV xs a n) n, gvN xs (nxV xs (nxV xs a n) n) n, ⟨nxV xs (nxV xs (nxV xs a n) n) n, 0, gvN xs a n, 0, 0⟩⟩
def RH.es (h : RH) (xs : List Nat) (n : Nat) : List KE := esR xs n h.m.toNat h.s
def RH.z (h : RH) (xs : List Nat) (n : Nat) : Int := (rdIt xs n h.m.toNat h.s).a
def RH.ok (h : RH) (xs : List Nat) (n : Nat) : Bool := decide (h.m ≤ 400 ∧ 0 ≤ h.z xs n) && shardB h.lo h.hi (h.es xs n)
theorem shard_seg {xs : List Nat} {n : Nat} {a : Int} (hl : xs.length = n) (hs : ∀ x ∈ xs, x < 256) (hz : 0 ≤ (rdHead xs a n).z xs n) (hb : shardB (rdHead xs a n).lo (rdHead xs a n).hi ((rdHead xs a n).es xs n) = true) :
    shardY (rdHead xs a n).lo (rdHead xs a n).hi ((rdHead xs a n).es xs n) = seg xs a ((rdHead xs a n).z xs n) := by
  obtain ⟨h0, h1, h2, h3, hr⟩ := shardB_iff hb
  obtain ⟨u1, u2⟩ := rdIt_up hl _ _ hz
  have u3 : 0 ≤ nxV xs (nxV xs (nxV xs a n) n) n := u1
  obtain ⟨v1, v2, _⟩ := nxV_facts hl u3
  obtain ⟨v3, v4, _⟩ := nxV_facts hl v1
  obtain ⟨v5, v6, _⟩ := nxV_facts hl v3
  have g1 := nxV_gv (xs := xs) (a := a) (n := n) (by omega)
  have g2 := nxV_gv (xs := xs) (a := nxV xs a n) (n := n) (by omega)
  have g3 := nxV_gv u3
  have hE := enc_seg hl hs h0 h2 (rdHead xs a n).m.toNat (rdHead xs a n).s (-1) 0 0 hr (nr_first h1) hz
  have hm := gvN_bounds xs (nxV xs (nxV xs a n) n) n
  have hm2 : (((rdHead xs a n).es xs n).length : Int) = gvN xs (nxV xs (nxV xs a n) n) n := by
    unfold RH.es
    rw [esR_len]
    show ((gvN xs (nxV xs (nxV xs a n) n) n).toNat : Int) = _
    omega
  have hH : headY (rdHead xs a n).lo (rdHead xs a n).hi ((rdHead xs a n).es xs n).length = seg xs a (rdHead xs a n).s.a := by
    unfold headY
    rw [hm2]
    show putVar [] (gvN xs a n) ++ (putVar [] (gvN xs (nxV xs a n) n) ++ putVar [] (gvN xs (nxV xs (nxV xs a n) n) n)) = seg xs a (nxV xs (nxV xs (nxV xs a n) n) n)
    rw [gvN_seg hs g1, gvN_seg hs g2, gvN_seg hs g3, ← nxV_yes g1, ← nxV_yes g2, ← nxV_yes g3, seg_append xs (by omega) (by omega) (by omega), seg_append xs (by omega) (by omega) (by omega)]
  have hE2 : encEs ⟨0, (rdHead xs a n).lo, 0, 0, 0⟩ ((rdHead xs a n).es xs n) = seg xs (rdHead xs a n).s.a ((rdHead xs a n).z xs n) := hE
  have u4 : (rdHead xs a n).s.a ≤ (rdHead xs a n).z xs n := u2
  have u5 : (rdHead xs a n).s.a = nxV xs (nxV xs (nxV xs a n) n) n := rfl
  rw [shardY, hb, if_pos rfl, hH, hE2, seg_append xs (by omega) (by omega) u4]

/-! ### values -/
def valAt (vals : List Int) (i : Int) : Int := if 0 ≤ i then (vals[i.toNat]?).getD (-1) else -1
def KE.put (vals : List Int) (e : KE) : KE := ⟨e.f, e.t, e.w, e.i, valAt vals e.i⟩
def valsK (lo hi : Int) (es : List KE) (vals : List Int) : Bool := shardB lo hi es && es.all (fun e => numOk (valAt vals e.i))
end Go.Proofs.Ytpgnappddddlpaa
namespace Go.Proofs.Ytpgnappddddlpaa
open Go.RowKit

/-- A shard and whether there is one. -/
def MadeShB (w : World) (lo hi : Int) (es : List KE) (ok : Bool) (e : Ending) (w' : World) : Prop :=
  ∃ A c, e = .returned (.tuple #[.agg #[.int .i64 lo, .int .i64 hi, .slice A es.length c], .bool ok]) ∧ w'.ownsRow w.heap.size 40 5 (.slice A es.length c) es.length (es.flatMap KE.cells) ∧ Below w.heap.size w w'
/-- A shard, the offset behind it and whether there is one. -/
def MadeShP (w : World) (lo hi : Int) (es : List KE) (p : Int) (ok : Bool) (e : Ending) (w' : World) : Prop :=
  ∃ A c, e = .returned (.tuple #[.agg #[.int .i64 lo, .int .i64 hi, .slice A es.length c], .int .i64 p, .bool ok]) ∧ w'.ownsRow w.heap.size 40 5 (.slice A es.length c) es.length (es.flatMap KE.cells) ∧ Below w.heap.size w w'
/-- A list of numbers, the offset behind it and whether there is one. -/
def MadeNP (w : World) (xs : List Int) (p : Int) (ok : Bool) (e : Ending) (w' : World) : Prop :=
  ∃ A c, e = .returned (.tuple #[.slice A xs.length c, .int .i64 p, .bool ok]) ∧ OwI w' w.heap.size A xs.length c xs ∧ Below w.heap.size w w'
theorem MadeShB.no (w w' : World) (h : Below w.heap.size w w') : MadeShB w 0 0 [] false (.returned (.tuple #[.agg #[.int .i64 0, .int .i64 0, .slice none 0 0], .bool false])) w' := ⟨none, 0, rfl, World.ownsRow_nil _ _ _ _, h⟩
theorem MadeShP.no (w w' : World) (h : Below w.heap.size w w') : MadeShP w 0 0 [] 0 false (.returned (.tuple #[.agg #[.int .i64 0, .int .i64 0, .slice none 0 0], .int .i64 0, .bool false])) w' := ⟨none, 0, rfl, World.ownsRow_nil _ _ _ _, h⟩
theorem MadeNP.no (w w' : World) (h : Below w.heap.size w w') : MadeNP w [] 0 false (.returned (.tuple #[.slice none 0 0, .int .i64 0, .bool false])) w' := ⟨none, 0, rfl, World.ownsRow_nil _ _ _ _, h⟩
theorem PutRes.nope (w w' : World) (h : Below w.heap.size w w') : PutRes w false [] (.returned (.tuple #[.slice none 0 0, .bool false])) w' := ⟨none, 0, rfl, World.ownsRow_nil _ _ _ _, h⟩
end Go.Proofs.Ytpgnappddddlpaa
namespace Go.Proofs.Ytpgnappddddlpaa
open Go.RowKit

theorem ke_blk {w : World} {b : Nat} {e : KE} {t : TypeId} (h : Blk w b #[.int .i64 e.f, .int .i64 e.t, .int .i64 e.w, .int .i64 e.i, .int .i64 e.v] t) :
    w.cell? ⟨b, 0, none⟩ = some (.int .i64 e.f) ∧ w.cell? ⟨b, 1, none⟩ = some (.int .i64 e.t) ∧ w.cell? ⟨b, 2, none⟩ = some (.int .i64 e.w) ∧ w.cell? ⟨b, 3, none⟩ = some (.int .i64 e.i) ∧ w.cell? ⟨b, 4, none⟩ = some (.int .i64 e.v) :=
  ⟨h.cell (i := 0) rfl, h.cell (i := 1) rfl, h.cell (i := 2) rfl, h.cell (i := 3) rfl, h.cell (i := 4) rfl⟩
def KBlk (w : World) (b : Nat) (e : KE) : Prop := Blk w b #[.int .i64 e.f, .int .i64 e.t, .int .i64 e.w, .int .i64 e.i, .int .i64 e.v] 40
/-- Five cells written one behind the other. -/
theorem KBlk.lay {w : World} {b : Nat} {d : KE} (h : KBlk w b d) (e : KE) : KBlk (lay5 w b 0 e) b e :=
  ((((Blk.set h 0 (.int .i64 e.f)).set 1 (.int .i64 e.t)).set 2 (.int .i64 e.w)).set 3 (.int .i64 e.i)).set 4 (.int .i64 e.v)
theorem below_lay5 {w w' : World} {B b : Nat} (h : Below B w w') (hb : B ≤ b) (e : KE) : Below B w (lay5 w' b 0 e) :=
  ((((h.setCell (p := ⟨b, 0, none⟩) hb _).setCell (p := ⟨b, 1, none⟩) hb _).setCell (p := ⟨b, 2, none⟩) hb _).setCell (p := ⟨b, 3, none⟩) hb _).setCell (p := ⟨b, 4, none⟩) hb _
theorem Blk.lay5o {w : World} {b g : Nat} {cs : Array Value} {t : TypeId} (h : Blk w b cs t) (hne : b ≠ g) (e : KE) : Blk (lay5 w g 0 e) b cs t :=
  ((((h.other (p := ⟨g, 0, none⟩) hne _).other (p := ⟨g, 1, none⟩) hne _).other (p := ⟨g, 2, none⟩) hne _).other (p := ⟨g, 3, none⟩) hne _).other (p := ⟨g, 4, none⟩) hne _
/-- The differences have encodings. -/
theorem dif_ok {d e : KE} (h : Dif d e) : numOk (e.f - d.f) = true ∧ zigOk (e.t - d.t) = true ∧ numOk e.w = true ∧ zigOk (e.i - d.i) = true := by
  obtain ⟨h1, h2, h3, h4, h5, h6, h7, h8⟩ := h
  refine ⟨?_, ?_, ?_, ?_⟩
  · simp only [numOk, decide_eq_true_eq]; omega
  · simp only [zigOk, decide_eq_true_eq]; omega
  · simp only [numOk, decide_eq_true_eq]; omega
  · simp only [zigOk, decide_eq_true_eq]; omega
/-- The bytes so far, and those of one edge more. -/
def encTo (lo hi : Int) (es : List KE) (j : Nat) : List Nat := headY lo hi es.length ++ encEs ⟨0, lo, 0, 0, 0⟩ (es.take j)
theorem encTo_step (lo hi : Int) (es : List KE) (j : Nat) (e : KE) (h : es[j]? = some e) : encTo lo hi es (j + 1) = encTo lo hi es j ++ encE (lastK ⟨0, lo, 0, 0, 0⟩ (es.take j)) e := by
  unfold encTo
  rw [g_take es j e h, encEs_snoc, List.append_assoc]
theorem encTo_small (lo hi : Int) (es : List KE) (j : Nat) : ∀ x ∈ encTo lo hi es j, x < 256 := fun x hx => by
  rcases List.mem_append.1 hx with hx | hx
  · exact headY_small _ _ _ x hx
  · exact encEs_small _ _ x hx
theorem encTo_len (lo hi : Int) (es : List KE) (j : Nat) (h : es.length ≤ 400) : (encTo lo hi es j).length ≤ 11221 := by
  have h1 := headY_len lo hi es.length
  have h2 := encEs_len (es.take j) ⟨0, lo, 0, 0, 0⟩
  rw [List.length_take] at h2
  unfold encTo
  rw [List.length_append]
  omega
theorem own_apart {w : World} {lo e size n b i : Nat} {v u : Value} {xs : List Value} (h : w.ownsRow lo e size v n xs) (hne : v.ownBlock ≠ some b) : (w.setCell ⟨b, i, none⟩ u).ownsRow lo e size v n xs := by
  refine ⟨h.1, ?_⟩
  rcases h.2 with hn | ⟨g, cap, cur, rfl, hl, hgg, rest⟩
  · exact .inl hn
  · refine .inr ⟨g, cap, cur, rfl, hl, ?_, rest⟩
    rw [Below.heap_setCell w ⟨b, i, none⟩ u g (fun e => hne (by rw [e]; rfl))]
    exact hgg
theorem own_lay5 {w : World} {lo e size n b : Nat} {v : Value} {xs : List Value} (h : w.ownsRow lo e size v n xs) (hne : v.ownBlock ≠ some b) (k : KE) : (lay5 w b 0 k).ownsRow lo e size v n xs :=
  own_apart (own_apart (own_apart (own_apart (own_apart h hne) hne) hne) hne) hne
theorem own_type {w : World} {lo e size n b : Nat} {v : Value} {xs : List Value} {cs : Array Value} {t : TypeId} (h : w.ownsRow lo e size v n xs) (hb : Blk w b cs t) (ht : t ≠ e) : v.ownBlock ≠ some b := by
  rcases h.2 with ⟨rfl, _⟩ | ⟨g, cap, cur2, rfl, _, hcell, _⟩
  · simp [Value.ownBlock]
  · intro h
    have h' : some g = some b := h
    injection h' with h'
    subst h'
    have hb2 : w.heap[g]? = some (.cells cs t (0, 0)) := hb
    rw [hb2] at hcell
    injection hcell with hcell
    injection hcell with _ h2
    exact ht h2
theorem KBlk.new (w : World) (e : KE) : KBlk (w.alloc (.cells #[.int .i64 e.f, .int .i64 e.t, .int .i64 e.w, .int .i64 e.i, .int .i64 e.v] 40)) w.heap.size e := Blk.new _ _ _
theorem KBlk.below {w w' : World} {b : Nat} {e : KE} (h : KBlk w b e) (hb : Below w.heap.size w w') : KBlk w' b e := Blk.below h hb
theorem KBlk.cells {w : World} {b : Nat} {e : KE} (h : KBlk w b e) : w.cell? ⟨b, 0, none⟩ = some (.int .i64 e.f) ∧ w.cell? ⟨b, 1, none⟩ = some (.int .i64 e.t) ∧ w.cell? ⟨b, 2, none⟩ = some (.int .i64 e.w) ∧ w.cell? ⟨b, 3, none⟩ = some (.int .i64 e.i) ∧ w.cell? ⟨b, 4, none⟩ = some (.int .i64 e.v) := ke_blk h
theorem HBox.lay5 {w : World} {b g n c : Nat} {lo hi : Int} {A : Option Addr} (h : HBox w b lo hi A n c) (hne : b ≠ g) (e : KE) : HBox (lay5 w g 0 e) b lo hi A n c := by
  unfold Go.Proofs.Ytpgnappddddlpaa.lay5
  refine h.keep (by simp) ?_
  rw [Below.heap_setCell _ ⟨g, 0 + 4, none⟩ _ b hne, Below.heap_setCell _ ⟨g, 0 + 3, none⟩ _ b hne, Below.heap_setCell _ ⟨g, 0 + 2, none⟩ _ b hne, Below.heap_setCell _ ⟨g, 0 + 1, none⟩ _ b hne, Below.heap_setCell _ ⟨g, 0, none⟩ _ b hne]
end Go.Proofs.Ytpgnappddddlpaa
namespace Go.Proofs.Ytpgnappddddlpaa
open Go.RowKit

def valsLo (lo hi : Int) (es : List KE) (l : List Int) : Int := if valsK lo hi es l then lo else 0
def valsHi (lo hi : Int) (es : List KE) (l : List Int) : Int := if valsK lo hi es l then hi else 0
def valsR (lo hi : Int) (es : List KE) (l : List Int) : List KE := if valsK lo hi es l then es.map (KE.put l) else []
theorem valsR_len (lo hi : Int) (es : List KE) (l : List Int) : (valsR lo hi es l).length ≤ 400 := by
  unfold valsR
  split
  · rename_i h
    unfold valsK at h
    rw [Bool.and_eq_true] at h
    rw [List.length_map]
    exact (shardB_iff h.1).2.2.2.1
  · simp
theorem valsK_no {lo hi : Int} {es : List KE} {l : List Int} (h : valsK lo hi es l = false) : valsLo lo hi es l = 0 ∧ valsHi lo hi es l = 0 ∧ valsR lo hi es l = [] := by simp [valsLo, valsHi, valsR, h]
theorem valsK_yes {lo hi : Int} {es : List KE} {l : List Int} (h : valsK lo hi es l = true) : valsLo lo hi es l = lo ∧ valsHi lo hi es l = hi ∧ valsR lo hi es l = es.map (KE.put l) := by simp [valsLo, valsHi, valsR, h]
theorem vals_bad {lo hi : Int} {es : List KE} {l : List Int} {k : Nat} {e : KE} (h : es[k]? = some e) (hx : numOk (valAt l e.i) = false) : valsK lo hi es l = false := by
  unfold valsK
  rw [Bool.and_eq_false_iff]
  refine .inr ?_
  rw [List.all_eq_false]
  exact ⟨e, List.mem_of_getElem? h, by simp [hx]⟩
theorem vals_all {lo hi : Int} {es : List KE} {l : List Int} (h : shardB lo hi es = true) (hx : es.all (fun e => numOk (valAt l e.i)) = true) : valsK lo hi es l = true := by
  unfold valsK
  rw [h, hx]
  rfl
theorem valsK_step (l : List Int) (es : List KE) (k : Nat) (e : KE) (h : es[k]? = some e) : (es.take (k + 1)).all (fun e => numOk (valAt l e.i)) = ((es.take k).all (fun e => numOk (valAt l e.i)) && numOk (valAt l e.i)) := by
  rw [g_take es k e h]
  simp
theorem map_step (l : List Int) (es : List KE) (k : Nat) (e : KE) (h : es[k]? = some e) : (es.take (k + 1)).map (KE.put l) = (es.take k).map (KE.put l) ++ [e.put l] := by
  rw [g_take es k e h]
  simp
theorem valAt_in {l : List Int} {k : Nat} {x : Int} (h : l[k]? = some x) : valAt l (k : Int) = x := by
  unfold valAt
  rw [if_pos (by omega), Int.toNat_natCast, h]
  rfl
theorem valAt_out {l : List Int} {i : Int} (h : (l.length : Int) ≤ i) : numOk (valAt l i) = false := by
  unfold valAt
  rw [if_pos (by omega), List.getElem?_eq_none (by omega)]
  rfl
theorem ke_flat (l : List KE) (e : KE) : (l ++ [e]).flatMap KE.cells = l.flatMap KE.cells ++ [.int .i64 e.f, .int .i64 e.t, .int .i64 e.w, .int .i64 e.i, .int .i64 e.v] := by
  rw [List.flatMap_append]
  simp [KE.cells]
theorem five_reads (w : World) (e : KE) (t : TypeId) (g : Nat) (hg : g = w.heap.size) : Reads (w.alloc (.cells #[.int .i64 e.f, .int .i64 e.t, .int .i64 e.w, .int .i64 e.i, .int .i64 e.v] t)) (g + 1) 5 (some ⟨g, 0, none⟩) 1 [.int .i64 e.f, .int .i64 e.t, .int .i64 e.w, .int .i64 e.i, .int .i64 e.v] := by
  subst hg
  refine ⟨rfl, fun _ => ⟨_, rfl, by simp, fun j v hj => ?_⟩⟩
  match j, hj with
  | 0, hj => simp at hj; subst hj; simp [Addr.add]
  | 1, hj => simp at hj; subst hj; simp [Addr.add]
  | 2, hj => simp at hj; subst hj; simp [Addr.add]
  | 3, hj => simp at hj; subst hj; simp [Addr.add]
  | 4, hj => simp at hj; subst hj; simp [Addr.add]
theorem five_cells (e : KE) : ∀ u ∈ [Value.int .i64 e.f, .int .i64 e.t, .int .i64 e.w, .int .i64 e.i, .int .i64 e.v], u.oneCell' = true := e.cells_one
/-- A block that is a shard. -/
def SBlk (w : World) (b : Nat) (lo hi : Int) (A : Option Addr) (n c : Nat) : Prop := Blk w b #[.int .i64 lo, .int .i64 hi, .slice A n c] 85
theorem SBlk.new (w : World) (lo hi : Int) (A : Option Addr) (n c : Nat) : SBlk (w.alloc (.cells #[.int .i64 lo, .int .i64 hi, .slice A n c] 85)) w.heap.size lo hi A n c := Blk.new _ _ _
theorem SBlk.below {w w' : World} {b n c : Nat} {lo hi : Int} {A : Option Addr} (h : SBlk w b lo hi A n c) (hb : Below w.heap.size w w') : SBlk w' b lo hi A n c := Blk.below h hb
theorem SBlk.cells {w : World} {b n c : Nat} {lo hi : Int} {A : Option Addr} (h : SBlk w b lo hi A n c) : w.cell? ⟨b, 0, none⟩ = some (.int .i64 lo) ∧ w.cell? ⟨b, 1, none⟩ = some (.int .i64 hi) ∧ w.cell? ⟨b, 2, none⟩ = some (.slice A n c) :=
  ⟨Blk.cell h (i := 0) rfl, Blk.cell h (i := 1) rfl, Blk.cell h (i := 2) rfl⟩
theorem SBlk.edges {w : World} {b n c n' c' : Nat} {lo hi : Int} {A A' : Option Addr} (h : SBlk w b lo hi A n c) : SBlk (w.setCell ⟨b, 2, none⟩ (.slice A' n' c')) b lo hi A' n' c' := Blk.set h 2 _
theorem SBlk.hbox {w : World} {b n c : Nat} {lo hi : Int} {A : Option Addr} (h : SBlk w b lo hi A n c) : HBox w b lo hi A n c := ⟨Blk.lt h, h.cells.1, h.cells.2.1, h.cells.2.2⟩
theorem pk_form {w : World} {base e size n : Nat} {v : Value} {xs : List Value} (h : w.ownsRow base e size v n xs) : ∃ A c, v = .slice A n c := by
  rcases h.2 with ⟨rfl, rfl⟩ | ⟨g, cap, _, rfl, _⟩
  · exact ⟨_, _, rfl⟩
  · exact ⟨_, _, rfl⟩
end Go.Proofs.Ytpgnappddddlpaa
namespace Go.Proofs.Ytpgnappddddlpaa
open Go.RowKit

theorem built_ks (w : World) : (w.alloc (.cells #[] 40)).ownsRow w.heap.size 40 5 (.slice (some ⟨w.heap.size, 0, none⟩) 0 0) 0 [] :=
  World.ownsRow_lit w #[] 0 (Nat.le_refl _) (by unfold maxLen; omega) rfl
theorem SlK.reads {w : World} {A : Option Addr} {n : Nat} {es : List KE} (h : SlK w A n es) : Reads w w.heap.size 5 A n (es.flatMap KE.cells) := h.row.reads

set_option maxRecDepth 20000 in
set_option maxHeartbeats 4000000 in
theorem copySh_any (lo hi : Int) (A : Option Addr) (n c : Nat) (es : List KE) (w : World) (hr : SlK w A n es) (hn : n ≤ 1048576) :
    Calls Try.prog 130 #[.agg #[.int .i64 lo, .int .i64 hi, .slice A n c]] w (MadeSh w lo hi es) := by
  obtain ⟨i0, hi0, hz0, hz1, hz2⟩ := info_parts Try.infoSEdge
  have HS := Lib.hid hr
  have HL := Lib.hid hr.len
  have HO := Lib.hid (ke_one es)
  have B0 := Lib.hid ((SBlk.new w lo hi A n c).below (below_a1 _ (.cells #[.int .i64 0, .int .i64 0, .slice none 0 0] 85)))
  have Z0 : Hid (SBlk ((w.alloc (.cells #[.int .i64 lo, .int .i64 hi, .slice A n c] 85)).alloc (.cells #[.int .i64 0, .int .i64 0, .slice none 0 0] 85)) (w.heap.size + 1) 0 0 none 0 0) := Lib.hid (by
    have h := SBlk.new (w.alloc (.cells #[.int .i64 lo, .int .i64 hi, .slice A n c] 85)) 0 0 none 0 0
    simpa using h)
  have H0 := Lib.hid (below_a2 w (.cells #[.int .i64 lo, .int .i64 hi, .slice A n c] 85) (.cells #[.int .i64 0, .int .i64 0, .slice none 0 0] 85))
  have hz : w.heap.size + 1 < ((w.alloc (.cells #[.int .i64 lo, .int .i64 hi, .slice A n c] 85)).alloc (.cells #[.int .i64 0, .int .i64 0, .slice none 0 0] 85)).heap.size := Blk.lt Z0.out
  have R1 : Hid (Reads ((w.alloc (.cells #[.int .i64 lo, .int .i64 hi, .slice A n c] 85)).alloc (.cells #[.int .i64 0, .int .i64 0, .slice none 0 0] 85)) ((w.alloc (.cells #[.int .i64 lo, .int .i64 hi, .slice A n c] 85)).alloc (.cells #[.int .i64 0, .int .i64 0, .slice none 0 0] 85)).heap.size 5 A n (es.flatMap KE.cells)) := Lib.hid (HS.out.below H0.out).reads
  have HBK : Hid ((((w.alloc (.cells #[.int .i64 lo, .int .i64 hi, .slice A n c] 85)).alloc (.cells #[.int .i64 0, .int .i64 0, .slice none 0 0] 85)).alloc (.cells #[] 40)).ownsRow (w.heap.size + 1 + 1) 40 5 (.slice (some ⟨w.heap.size + 1 + 1, 0, none⟩) 0 0) 0 []) := Lib.hid (by have h := built_ks ((w.alloc (.cells #[.int .i64 lo, .int .i64 hi, .slice A n c] 85)).alloc (.cells #[.int .i64 0, .int .i64 0, .slice none 0 0] 85)); simpa using h)
  obtain ⟨bl, b0, b1, b2⟩ := B0.out.hbox
  clear hr
  go_enter Try.func130, Try.ntmps130
  go_wp2_with (at_builtin; refine wpList_append_any _ rfl (.tmp 3) (.tmp 5) _ rfl (w.heap.size + 1 + 1) 40 i0 _ 5 40 Try.underlying83 hi0 hz0 hz1 hz2 rfl (by omega) (.slice (some ⟨w.heap.size + 1 + 1, 0, none⟩) 0 0) 0 [] rfl HBK.out _ A n c (es.flatMap KE.cells) rfl (R1.out.alloc (Nat.le_refl _) _) HO.out (by simp only [maxLen]; omega) (by omega) (by simp) ?_)
  intro v1 w1 hown hg _
  try simp only [Nat.zero_add, List.nil_append] at hown
  obtain ⟨A1, c1, rfl⟩ := pk_form hown
  have HBA := Lib.hid (below_a1 ((w.alloc (.cells #[.int .i64 lo, .int .i64 hi, .slice A n c] 85)).alloc (.cells #[.int .i64 0, .int .i64 0, .slice none 0 0] 85)) (.cells #[] 40))
  have B1 : Hid (SBlk w1 w.heap.size lo hi A n c) := Lib.hid ((Blk.below B0.out HBA.out).grown hg (by simp [Value.ownBlock]; omega))
  have Z1 : Hid (SBlk w1 (w.heap.size + 1) 0 0 none 0 0) := Lib.hid ((Blk.below Z0.out HBA.out).grown hg (by simp [Value.ownBlock]))
  have G1 : Hid (Below w.heap.size w w1) := Lib.hid ((g_chain H0.out HBA.out).grown hg (by simp; omega) (fun q hq => by simp [Value.ownBlock] at hq; omega))
  have O1 := Lib.hid hown
  have N1 := Lib.hid (own_type hown B1.out (by decide))
  have N2 := Lib.hid (own_type hown Z1.out (by decide))
  clear b0 b1 b2 hown hg bl
  obtain ⟨b0, b1, b2⟩ := B1.out.cells
  obtain ⟨z0, z1, z2⟩ := Z1.out.cells
  have bf := Blk.frozen B1.out 2
  have f0 := Blk.frozen Z1.out 0
  have f1 := Blk.frozen Z1.out 1
  have f2 := Blk.frozen Z1.out 2
  go_wp2
  refine bodyPost_ret (v := .agg #[.int .i64 lo, .int .i64 hi, .slice A1 n c1]) (by simp [results, Try.results130, go_sem, z0, z1, z2]) rfl ?_
  have e := HL.out
  subst e
  exact ⟨A1, c1, rfl, own_apart (own_apart (own_apart (own_apart (own_monoG (lo' := w.heap.size) O1.out (by omega)) N1.out) N2.out) N2.out) N2.out, by repeat (first | exact G1.out | refine Below.setCell ?_ (by simp) _)⟩

def mixV (l : List Int) (es : List KE) (j : Nat) : List KE := (es.take j).map (KE.put l) ++ es.drop j
theorem mixV_len (l : List Int) (es : List KE) (j : Nat) : (mixV l es j).length = es.length := by
  unfold mixV
  rw [List.length_append, List.length_map, List.length_take, List.length_drop]
  omega
theorem mixV_zero (l : List Int) (es : List KE) : mixV l es 0 = es := by simp [mixV]
theorem mixV_full (l : List Int) (es : List KE) : mixV l es es.length = es.map (KE.put l) := by simp [mixV]
theorem mixV_cell {l : List Int} {es : List KE} {j : Nat} {e : KE} (he : es[j]? = some e) : (mixV l es j)[j]? = some e := by
  unfold mixV
  rw [g_drop es j e he]
  exact g_get _ _ _ _ (by rw [List.length_map, List.length_take]; have := (List.getElem?_eq_some_iff.1 he).1; omega)
theorem mixV_step {l : List Int} {es : List KE} {j : Nat} {e : KE} (he : es[j]? = some e) : ((mixV l es j).flatMap KE.cells).set (j * 5 + 4) (.int .i64 (valAt l e.i)) = (mixV l es (j + 1)).flatMap KE.cells := by
  have hj := (List.getElem?_eq_some_iff.1 he).1
  have hl : ((es.take j).map (KE.put l)).length = j := by rw [List.length_map, List.length_take]; omega
  unfold mixV
  rw [g_drop es j e he, g_take es j e he, List.map_append, List.append_assoc]
  have h := flat_set KE.cells 5 KE.cells_len ((es.take j).map (KE.put l) ++ e :: es.drop (j + 1)) j 4 e (e.put l) (.int .i64 (valAt l e.i)) (g_get _ _ _ _ hl) (by omega) rfl
  rw [g_set _ _ _ _ _ hl] at h
  rw [h]
  rfl

set_option maxRecDepth 20000 in
set_option maxHeartbeats 4000000 in
theorem specWithVals (lo hi : Int) (A : Option Addr) (n c : Nat) (es : List KE) (E : Option Addr) (m d : Nat) (l : List Int) (w : World) (hr : SlK w A n es) (hn : n ≤ 1048576) (h2 : SlI w E m l) (_hm : m ≤ 1048576) :
    Calls Try.prog 84 #[.agg #[.int .i64 lo, .int .i64 hi, .slice A n c], .slice E m d] w (MadeShB w (valsLo lo hi es l) (valsHi lo hi es l) (valsR lo hi es l) (valsK lo hi es l)) := by
  have HS := Lib.hid hr
  have HI := Lib.hid h2
  have HL := Lib.hid hr.len
  have HLL := Lib.hid h2.len
  have CO := Lib.hid (fun W (h : Below w.heap.size w W) => specShardOk lo hi A n c es W (hr.below h) hn)
  have CC := Lib.hid (fun W (h : Below w.heap.size w W) => copySh_any lo hi A n c es W (hr.below h) hn)
  have B0 := Lib.hid ((SBlk.new w lo hi A n c).below (below_a1 _ (.cells #[.int .i64 0, .int .i64 0, .slice none 0 0] 85)))
  have Z0 : Hid (SBlk ((w.alloc (.cells #[.int .i64 lo, .int .i64 hi, .slice A n c] 85)).alloc (.cells #[.int .i64 0, .int .i64 0, .slice none 0 0] 85)) (w.heap.size + 1) 0 0 none 0 0) := Lib.hid (by
    have h := SBlk.new (w.alloc (.cells #[.int .i64 lo, .int .i64 hi, .slice A n c] 85)) 0 0 none 0 0
    simpa using h)
  have H0 := Lib.hid (below_a2 w (.cells #[.int .i64 lo, .int .i64 hi, .slice A n c] 85) (.cells #[.int .i64 0, .int .i64 0, .slice none 0 0] 85))
  cases hv : shardB lo hi es with
  | false =>
    rw [hv] at CO
    have hno : valsK lo hi es l = false := by simp [valsK, hv]
    obtain ⟨e1, e2, e3⟩ := valsK_no hno
    rw [hno, e1, e2, e3]
    clear hr hv h2 hno e1 e2 e3
    go_enter Try.func84, Try.ntmps84
    go_wp2_with fail
    refine (CO.out _ H0.out).mono ?_
    rintro e w1 ⟨rfl, hb⟩
    have HB := Lib.hid (g_chain H0.out hb)
    obtain ⟨z0, z1, z2⟩ := (Z0.out.below hb).cells
    have f0 := Blk.frozen (Z0.out.below hb) 0
    have f1 := Blk.frozen (Z0.out.below hb) 1
    have f2 := Blk.frozen (Z0.out.below hb) 2
    clear hb
    go_wp2
    refine bodyPost_ret (v := .tuple #[.agg #[.int .i64 0, .int .i64 0, .slice none 0 0], .bool false]) (by simp [results, Try.results84, go_sem, z0, z1, z2]) rfl ?_
    exact MadeShB.no w _ (by repeat (first | exact HB.out | refine Below.setCell ?_ (by simp) _))
  | true =>
    rw [hv] at CO
    obtain ⟨l0, l1, l2, l3, hrun⟩ := shardB_iff hv
    have HD := Lib.hid (dif_at l0 l2 es (-1) 0 ⟨0, lo, 0, 0, 0⟩ hrun (nr_first l1))
    have HV := Lib.hid hv
    have hn4 : n ≤ 400 := by rw [← HL.out]; exact l3
    clear hr hv hrun h2 l3
    go_enter Try.func84, Try.ntmps84
    go_wp2_with fail
    refine (CO.out _ H0.out).mono ?_
    rintro e w1 ⟨rfl, hb⟩
    have B1 := Lib.hid (B0.out.below hb)
    have Z1 := Lib.hid (Z0.out.below hb)
    have H1 := Lib.hid (g_chain H0.out hb)
    clear hb
    obtain ⟨bl, b0, b1, b2⟩ := B1.out.hbox
    go_wp2_with fail
    clear bl b0 b1 b2
    refine (CC.out _ H1.out).mono ?_
    rintro e w2 ⟨A2, c2, rfl, ho, hb⟩
    have B2 := Lib.hid (B1.out.below hb)
    have Z2 := Lib.hid (Z1.out.below hb)
    have H2 := Lib.hid (g_chain H1.out hb)
    have O2 : Hid (w2.ownsRow w.heap.size 40 5 (.slice A2 n c2) n ((mixV l es 0).flatMap KE.cells)) := Lib.hid (by have h := own_monoG (lo' := w.heap.size) ho H1.out.size; rw [mixV_zero, ← HL.out]; exact h)
    have hw2 : w.heap.size + 1 < w2.heap.size := Blk.lt Z2.out
    clear ho hb
    have HLE := HL.out
    rw [HLE]
    obtain ⟨bl, b0, b1, b2⟩ := B2.out.hbox
    have HB3 := Lib.hid (below_a1 w2 (.cells #[.int .i64 lo, .int .i64 hi, .slice A2 n c2] 85))
    have S3 := Lib.hid (SBlk.new w2 lo hi A2 n c2)
    have Z3 := Lib.hid (Z2.out.below HB3.out)
    have H3 := Lib.hid (g_chain H2.out HB3.out)
    have O3 := Lib.hid (own_below O2.out HB3.out)
    clear HLE
    go_wp2
    clear bl b0 b1 b2
    go_loopw [7, 8, 18] (fun _ _ i wr => ∃ j : Nat, j ≤ n ∧ i = .int .i64 (j : Int) ∧ Hid ((es.take j).all (fun e => numOk (valAt l e.i)) = true) ∧ Hid (wr.ownsRow w.heap.size 40 5 (.slice A2 n c2) n ((mixV l es j).flatMap KE.cells)) ∧ Hid (SBlk wr w2.heap.size lo hi A2 n c2) ∧ Hid (SBlk wr (w.heap.size + 1) 0 0 none 0 0) ∧ Hid (Below w.heap.size w wr)) (fun _ _ i _ => n - (intOf i).toNat)
    case atStart => exact ⟨0, Nat.zero_le _, rfl, Lib.hid (by simp), O3, S3, Z3, H3⟩
    case round =>
      clear O3 S3 Z3 H3 HB3 O2 Z2 H2 B2 Z1 B1 H1
      obtain ⟨j, hj, rfl, hall, hown, hsb, hzb, hbel⟩ := hrel
      by_cases hlt : j < n
      · obtain ⟨b, off, e, rfl, hbw, he, c00, c01, c02, c03, c04⟩ := (HS.out.below hbel.out).at_ hlt
        have hke := kedgeB_iff (HD.out j e he.out).2
        have HBA := Lib.hid (below_a1 wr (.cells #[.int .i64 e.f, .int .i64 e.t, .int .i64 e.w, .int .i64 e.i, .int .i64 e.v] 40))
        have HSTM := Lib.hid (mixV_step (l := l) he.out)
        have HSTV := Lib.hid (valsK_step l es j e he.out)
        have HCE := Lib.hid (mixV_cell (l := l) he.out)
        have HBAD := Lib.hid (fun h => valsK_no (vals_bad (lo := lo) (hi := hi) (l := l) he.out h))
        have HBAD2 := Lib.hid (fun h => vals_bad (lo := lo) (hi := hi) (l := l) he.out h)
        have hzw : w.heap.size + 1 < wr.heap.size := Blk.lt hzb.out
        have hsw : w2.heap.size < wr.heap.size := Blk.lt hsb.out
        obtain ⟨k, hk⟩ : ∃ k : Nat, e.i = (k : Int) := ⟨e.i.toNat, by omega⟩
        have G1 := Lib.hid (g_chain hbel.out HBA.out)
        rw [hk] at c03 hke G1
        by_cases hkm : k < m
        · obtain ⟨vb0, voff, x, rfl, hvb, hx, hc⟩ := (HI.out.below hbel.out).at_ hkm
          have HVA : Hid (valAt l e.i = x) := Lib.hid (by rw [hk]; exact valAt_in hx.out)
          cases hq : numOk x with
          | false =>
            have HE := Lib.hid (HBAD.out (by rw [HVA.out]; exact hq))
            have HE2 := Lib.hid (HBAD2.out (by rw [HVA.out]; exact hq))
            have hqx : x < 0 ∨ 281474976710655 < x := by
              have := of_decide_eq_false hq
              omega
            have CN := Lib.hid (fun W => specNum_no x W hqx)
            obtain ⟨z0, z1, z2⟩ := hzb.out.cells
            have f0 := Blk.frozen hzb.out 0
            have f1 := Blk.frozen hzb.out 1
            have f2 := Blk.frozen hzb.out 2
            clear hq hqx hke hx he
            go_wp2_with (go_at_call 131; refine (CN.out _).mono ?_; rintro e w' ⟨rfl, rfl⟩)
            refine bodyPost_ret (v := .tuple #[.agg #[.int .i64 0, .int .i64 0, .slice none 0 0], .bool false]) (by simp [results, Try.results84, go_sem, z0, z1, z2, hzw]) rfl ?_
            rw [HE2.out, HE.out.1, HE.out.2.1, HE.out.2.2]
            exact MadeShB.no w _ (by repeat (first | exact hbel.out | refine Below.setCell ?_ (by simp) _ | refine Below.alloc ?_ (by simp; omega) _))
          | true =>
            have hqx : 0 ≤ x ∧ x ≤ 281474976710655 := of_decide_eq_true hq
            have CN := Lib.hid (fun W => specNum_yes x W hqx.1 hqx.2)
            have HALL : Hid ((es.take (j + 1)).all (fun e => numOk (valAt l e.i)) = true) := Lib.hid (by rw [HSTV.out, hall.out, HVA.out, hq]; rfl)
            obtain ⟨g, rfl⟩ := g_own_at hown.out (by omega)
            have hst := hown.out.stored (j * 5 + 4) (.int .i64 x)
            rw [← HVA.out, HSTM.out, HVA.out] at hst
            have hcg : wr.cell? ⟨g, j * 5 + 4, none⟩ = some (.int .i64 e.v) := (hown.out.cellAt (j * 5 + 4) (by omega)).trans (flat_get KE.cells 5 KE.cells_len _ j 4 e HCE.out (by omega))
            have hfg := hown.out.frozenAt (j * 5 + 4)
            have hgl : g < wr.heap.size := (hown.out.lt g rfl).2
            have hgb : w.heap.size ≤ g := (hown.out.lt g rfl).1
            have hgz : g ≠ w.heap.size + 1 := fun hh => own_type hown.out hzb.out (by decide) (by rw [← hh]; rfl)
            have hgs : g ≠ w2.heap.size := fun hh => own_type hown.out hsb.out (by decide) (by rw [← hh]; rfl)
            have BX := Lib.hid (below_a1 (wr.setCell ⟨g, j * 5 + 4, none⟩ (.int .i64 x)) (.cells #[.int .i64 e.f, .int .i64 e.t, .int .i64 e.w, .int .i64 (k : Int), .int .i64 e.v] 40))
            have O5 := Lib.hid (own_below hst.1 BX.out)
            have S5 : Hid (SBlk _ w2.heap.size lo hi _ n c2) := Lib.hid (Blk.below (Blk.other hsb.out (p := ⟨g, j * 5 + 4, none⟩) (fun hh => hgs hh.symm) (.int .i64 x)) BX.out)
            have Z5 : Hid (SBlk _ (w.heap.size + 1) 0 0 none 0 0) := Lib.hid (Blk.below (Blk.other hzb.out (p := ⟨g, j * 5 + 4, none⟩) (fun hh => hgz hh.symm) (.int .i64 x)) BX.out)
            have G5 := Lib.hid (g_chain (hbel.out.setCell (p := ⟨g, j * 5 + 4, none⟩) hgb (.int .i64 x)) BX.out)
            obtain ⟨s0, s1, s2⟩ := hsb.out.cells
            clear hq hqx hke hx he HBAD HBAD2 hst
            go_wp2_with (go_at_call 131; refine (CN.out _).mono ?_; rintro e' w' ⟨rfl, rfl⟩)
            go_region
            go_wp2
            go_roundw
            case rel => exact ⟨j + 1, by omega, by go_num, HALL, O5, S5, Z5, Lib.hid G5.out.drew⟩
            case measure => simp [intOf]; omega
        · have HE := Lib.hid (HBAD.out (valAt_out (by rw [HLL.out, hk]; omega)))
          have HE2 := Lib.hid (HBAD2.out (valAt_out (by rw [HLL.out, hk]; omega)))
          have hkm2 : (m : Int) ≤ (k : Int) := by omega
          obtain ⟨z0, z1, z2⟩ := hzb.out.cells
          have f0 := Blk.frozen hzb.out 0
          have f1 := Blk.frozen hzb.out 1
          have f2 := Blk.frozen hzb.out 2
          clear hke he
          go_wp2
          refine bodyPost_ret (v := .tuple #[.agg #[.int .i64 0, .int .i64 0, .slice none 0 0], .bool false]) (by simp [results, Try.results84, go_sem, z0, z1, z2, hzw]) rfl ?_
          rw [HE2.out, HE.out.1, HE.out.2.1, HE.out.2.2]
          exact MadeShB.no w _ (by repeat (first | exact hbel.out | refine Below.setCell ?_ (by simp) _ | refine Below.alloc ?_ (by simp; omega) _))
      · obtain rfl : j = n := by omega
        have hyes : valsK lo hi es l = true := vals_all HV.out (by have h := hall.out; rw [List.take_of_length_le (by rw [HL.out]; exact Nat.le_refl _)] at h; exact h)
        have HE := Lib.hid (valsK_yes hyes)
        have HE2 := Lib.hid hyes
        have HE3 : Hid (mixV l es j = es.map (KE.put l)) := Lib.hid (by rw [← HL.out, mixV_full])
        have HE4 : Hid ((es.map (KE.put l)).length = j) := Lib.hid (by rw [List.length_map, HL.out])
        obtain ⟨z0, z1, z2⟩ := hzb.out.cells
        obtain ⟨s0, s1, s2⟩ := hsb.out.cells
        have f0 := Blk.frozen hzb.out 0
        have f1 := Blk.frozen hzb.out 1
        have f2 := Blk.frozen hzb.out 2
        have O2 := Lib.hid (own_type hown.out hzb.out (by decide))
        clear hyes
        go_wp2
        refine bodyPost_ret (v := .tuple #[.agg #[.int .i64 lo, .int .i64 hi, .slice A2 j c2], .bool true]) (by simp [results, Try.results84, go_sem, z0, z1, z2]) rfl ?_
        rw [HE2.out, HE.out.1, HE.out.2.1, HE.out.2.2]
        refine ⟨A2, c2, by rw [HE4.out], ?_, by repeat (first | exact hbel.out | refine Below.setCell ?_ (by simp) _)⟩
        rw [HE4.out, ← HE3.out]
        exact own_apart (own_apart (own_apart hown.out O2.out) O2.out) O2.out
end Go.Proofs.Ytpgnappddddlpaa
namespace Go.Proofs.Ytpgnappddddlpaa
open Go.RowKit

section
variable {w w' : World} {lo n c : Nat} {A : Option Addr} {xs : List Int}
theorem OwI.cnt (h : OwI w lo A n c xs) : n = xs.length := by have := h.1; rw [vi_len] at this; omega
theorem OwI.below (h : OwI w lo A n c xs) (hb : Below w.heap.size w w') : OwI w' lo A n c xs := own_below h hb
theorem OwI.rd (h : OwI w lo A n c xs) : SlI w A n xs := SlI.of_own h
end
theorem degsOf_len (key : GE → Int) (N : Int) (es : List GE) : (degsOf key N es).length ≤ 150 := by
  unfold degsOf
  split
  · rename_i h
    have := graphB_iff h
    rw [degs_len]
    omega
  · simp
/-- The law's own graph: its box and its edges. -/
structure XBox (w : World) (lo b : Nat) (N : Int) (A : Option Addr) (n c : Nat) (es : List GE) : Prop where
  box : NBox w b N A n c
  own : w.ownsRow lo 145 3 (.slice A n c) n (es.flatMap GE.cells)
theorem XBox.below {w w' : World} {lo b n c : Nat} {N : Int} {A : Option Addr} {es : List GE} (h : XBox w lo b N A n c es) (hb : Below w.heap.size w w') : XBox w' lo b N A n c es := ⟨h.box.below hb, own_below h.own hb⟩
end Go.Proofs.Ytpgnappddddlpaa
