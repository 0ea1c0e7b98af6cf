/- Words for slices of shard edges in memory (plain lemmas over the model; no condition): 'SlK': a slice that reads as a list of records of five numbers; such a list laid record by record; marks in it. // Shards as data: valid ones (plain lemmas; no condition). // Joining shards, as data: the edges in the order of their numbers (plain lemmas; no condition). // Dealing out a graph's edges by intervals, as data (plain lemmas; no condition). // The greedy division of vertices, and the edges that the intervals hold, as data (no program; no condition). // The shards of a graph, as data: each is valid, joined they are the graph, each vertex lies where its interval says, and the degrees of an interval add up to its edges (plain lemmas; no condition). -/
import Derived.Test.YtmbabbapcjphgaaDoorCA1
import Derived.Test.YtmbabbapcjphgaaDoorCA2
namespace Go.Proofs.YtmbabbapcjphgaaDoor
open Go.RowKit

structure KE where
  f : Int
  t : Int
  w : Int
  i : Int
  v : Int
def KE.cells (e : KE) : List Value := [.int .i64 e.f, .int .i64 e.t, .int .i64 e.w, .int .i64 e.i, .int .i64 e.v]
theorem KE.cells_len (e : KE) : e.cells.length = 5 := rfl
theorem KE.cells_one (e : KE) : ∀ u ∈ e.cells, u.oneCell' = true := by
  intro u hu
  simp [KE.cells] at hu
  rcases hu with rfl | rfl | rfl | rfl | rfl <;> rfl
theorem ke_one (es : List KE) : ∀ u ∈ es.flatMap KE.cells, u.oneCell' = true := fun u hu => by
  obtain ⟨e, _, he⟩ := List.mem_flatMap.1 hu
  exact e.cells_one u he

/-- A slice of shard edges in memory. -/
structure SlK (w : World) (A : Option Addr) (n : Nat) (es : List KE) : Prop where
  len : es.length = n
  row : Row w 5 A n (es.flatMap KE.cells)
section
variable {w w' : World} {n c lo e : Nat} {A : Option Addr} {es : List KE}
theorem SlK.keep (h : SlK w A n es) (hs : w.heap.size ≤ w'.heap.size) (hk : ∀ i, i < w.heap.size → w'.heap[i]? = w.heap[i]?) : SlK w' A n es := ⟨h.len, h.row.keep hs hk⟩
theorem SlK.below (h : SlK w A n es) (hb : Below w.heap.size w w') : SlK w' A n es := h.keep hb.size hb.block
theorem SlK.drewN (h : SlK w A n es) (m : Nat) : SlK (w.drewN m) A n es := ⟨h.len, h.row.drewN m⟩
theorem SlK.nil : SlK w A 0 [] := ⟨rfl, Row.nil⟩
/-- The edge at place j, its five cells. -/
theorem SlK.at_ {j : Nat} (h : SlK w A n es) (hj : j < n) : ∃ (b off : Nat) (e : KE), A = some ⟨b, off, none⟩ ∧ b < w.heap.size ∧ Hid (es[j]? = some e) ∧
    w.cell? ⟨b, off + j * 5, none⟩ = some (.int .i64 e.f) ∧ w.cell? ⟨b, off + j * 5 + 1, none⟩ = some (.int .i64 e.t) ∧ w.cell? ⟨b, off + j * 5 + 2, none⟩ = some (.int .i64 e.w) ∧
    w.cell? ⟨b, off + j * 5 + 3, none⟩ = some (.int .i64 e.i) ∧ w.cell? ⟨b, off + j * 5 + 4, none⟩ = some (.int .i64 e.v) := by
  obtain ⟨b, off, rfl, hb, hc⟩ := h.row.lies (by omega)
  have hl : j < es.length := by have := h.len; omega
  have he : es[j]? = some es[j] := List.getElem?_eq_getElem hl
  refine ⟨b, off, es[j], rfl, hb, he, ?_, ?_, ?_, ?_, ?_⟩
  · exact hc (j * 5) _ (flat_get KE.cells 5 KE.cells_len es j 0 _ he (by omega))
  · exact hc (j * 5 + 1) _ (flat_get KE.cells 5 KE.cells_len es j 1 _ he (by omega))
  · exact hc (j * 5 + 2) _ (flat_get KE.cells 5 KE.cells_len es j 2 _ he (by omega))
  · exact hc (j * 5 + 3) _ (flat_get KE.cells 5 KE.cells_len es j 3 _ he (by omega))
  · exact hc (j * 5 + 4) _ (flat_get KE.cells 5 KE.cells_len es j 4 _ he (by omega))
theorem SlK.of_own (h : w.ownsRow lo e 5 (.slice A n c) n (es.flatMap KE.cells)) (hl : es.length = n) : SlK w A n es := ⟨hl, Row.of_own h⟩
end
/-- Five cells of one edge stored. -/
def lay5 (w : World) (g q : Nat) (e : KE) : World := ((((w.setCell ⟨g, q, none⟩ (.int .i64 e.f)).setCell ⟨g, q + 1, none⟩ (.int .i64 e.t)).setCell ⟨g, q + 2, none⟩ (.int .i64 e.w)).setCell ⟨g, q + 3, none⟩ (.int .i64 e.i)).setCell ⟨g, q + 4, none⟩ (.int .i64 e.v)
theorem k_lay {w : World} {lo ty g c n k : Nat} {made rest : List KE} {x e : KE} (h : w.ownsRow lo ty 5 (.slice (some ⟨g, 0, none⟩) n c) n ((made ++ x :: rest).flatMap KE.cells)) (hm : made.length = k) :
    (lay5 w g (k * 5) e).ownsRow lo ty 5 (.slice (some ⟨g, 0, none⟩) n c) n ((made ++ e :: rest).flatMap KE.cells) ∧ w.grownBy (lay5 w g (k * 5) e) (some g) := by
  have h1 := h.stored (k * 5) (.int .i64 e.f)
  have h2 := h1.1.stored (k * 5 + 1) (.int .i64 e.t)
  have h3 := h2.1.stored (k * 5 + 2) (.int .i64 e.w)
  have h4 := h3.1.stored (k * 5 + 3) (.int .i64 e.i)
  have h5 := h4.1.stored (k * 5 + 4) (.int .i64 e.v)
  have e1 := flat_set KE.cells 5 KE.cells_len (made ++ x :: rest) k 0 x ⟨e.f, x.t, x.w, x.i, x.v⟩ (.int .i64 e.f) (g_get _ _ _ _ hm) (by omega) rfl
  rw [Nat.add_zero, g_set _ _ _ _ _ hm] at e1
  have e2 := flat_set KE.cells 5 KE.cells_len (made ++ ⟨e.f, x.t, x.w, x.i, x.v⟩ :: rest) k 1 ⟨e.f, x.t, x.w, x.i, x.v⟩ ⟨e.f, e.t, x.w, x.i, x.v⟩ (.int .i64 e.t) (g_get _ _ _ _ hm) (by omega) rfl
  rw [g_set _ _ _ _ _ hm] at e2
  have e3 := flat_set KE.cells 5 KE.cells_len (made ++ ⟨e.f, e.t, x.w, x.i, x.v⟩ :: rest) k 2 ⟨e.f, e.t, x.w, x.i, x.v⟩ ⟨e.f, e.t, e.w, x.i, x.v⟩ (.int .i64 e.w) (g_get _ _ _ _ hm) (by omega) rfl
  rw [g_set _ _ _ _ _ hm] at e3
  have e4 := flat_set KE.cells 5 KE.cells_len (made ++ ⟨e.f, e.t, e.w, x.i, x.v⟩ :: rest) k 3 ⟨e.f, e.t, e.w, x.i, x.v⟩ ⟨e.f, e.t, e.w, e.i, x.v⟩ (.int .i64 e.i) (g_get _ _ _ _ hm) (by omega) rfl
  rw [g_set _ _ _ _ _ hm] at e4
  have e5 := flat_set KE.cells 5 KE.cells_len (made ++ ⟨e.f, e.t, e.w, e.i, x.v⟩ :: rest) k 4 ⟨e.f, e.t, e.w, e.i, x.v⟩ e (.int .i64 e.v) (g_get _ _ _ _ hm) (by omega) rfl
  rw [g_set _ _ _ _ _ hm] at e5
  rw [e1, e2, e3, e4, e5] at h5
  exact ⟨h5.1, (((h1.2.trans h2.2).trans h3.2).trans h4.2).trans h5.2⟩
def zero5 : KE := ⟨0, 0, 0, 0, 0⟩
theorem rep5_succ (n k : Nat) (h : k < n) : List.replicate (n - k) zero5 = zero5 :: List.replicate (n - (k + 1)) zero5 := by
  rw [show n - k = (n - (k + 1)) + 1 by omega, List.replicate_succ]

/-! ### marks -/
def mark5 (k : Nat) : List KE → List KE
  | [] => []
  | _ :: r => ⟨k, k + 1, k + 2, k + 3, k + 4⟩ :: mark5 (k + 5) r
theorem mark5_len : ∀ (es : List KE) (k : Nat), (mark5 k es).length = es.length
  | [], _ => rfl
  | _ :: r, k => by rw [mark5, List.length_cons, mark5_len r, List.length_cons]
theorem mark5_snoc : ∀ (es : List KE) (k : Nat) (e : KE), mark5 k (es ++ [e]) = mark5 k es ++ [⟨(k + 5 * es.length : Nat), (k + 5 * es.length : Nat) + 1, (k + 5 * es.length : Nat) + 2, (k + 5 * es.length : Nat) + 3, (k + 5 * es.length : Nat) + 4⟩]
  | [], k, _ => by simp [mark5]
  | _ :: r, k, e => by
    rw [List.cons_append, mark5, mark5_snoc r (k + 5) e, mark5, List.cons_append, List.length_cons, show k + 5 + 5 * r.length = k + 5 * (r.length + 1) by omega]
theorem mark5_get : ∀ (es : List KE) (k j : Nat), j < es.length → (mark5 k es)[j]? = some ⟨((k + 5 * j : Nat) : Int), ((k + 5 * j : Nat) : Int) + 1, ((k + 5 * j : Nat) : Int) + 2, ((k + 5 * j : Nat) : Int) + 3, ((k + 5 * j : Nat) : Int) + 4⟩
  | [], _, j, h => by simp at h
  | _ :: r, k, 0, _ => by simp [mark5]
  | _ :: r, k, j + 1, h => by
    rw [mark5, List.getElem?_cons_succ, mark5_get r (k + 5) j (by simpa using h), show k + 5 + 5 * j = k + 5 * (j + 1) by omega]
end Go.Proofs.YtmbabbapcjphgaaDoor
namespace Go.Proofs.YtmbabbapcjphgaaDoor
open Go.RowKit

def kedgeB (lo hi : Int) (e : KE) : Bool := decide (0 ≤ e.f ∧ e.f < 150 ∧ lo ≤ e.t ∧ e.t < hi ∧ 0 ≤ e.w ∧ e.w ≤ 1000 ∧ 0 ≤ e.i ∧ e.i < 400 ∧ 0 ≤ e.v ∧ e.v ≤ 281474976710655)
def afterB (p q : Int) (e : KE) : Bool := decide (p < e.f ∨ (p = e.f ∧ q < e.i))
def runK (lo hi : Int) : Int → Int → List KE → Bool
  | _, _, [] => true
  | p, q, e :: r => kedgeB lo hi e && afterB p q e && runK lo hi e.f e.i r
def shardB (lo hi : Int) (es : List KE) : Bool := decide (0 ≤ lo ∧ lo < hi ∧ hi ≤ 150 ∧ es.length ≤ 400) && runK lo hi (-1) 0 es

theorem kedgeB_iff {lo hi : Int} {e : KE} (h : kedgeB lo hi e = true) : 0 ≤ e.f ∧ e.f < 150 ∧ lo ≤ e.t ∧ e.t < hi ∧ 0 ≤ e.w ∧ e.w ≤ 1000 ∧ 0 ≤ e.i ∧ e.i < 400 ∧ 0 ≤ e.v ∧ e.v ≤ 281474976710655 := of_decide_eq_true h
theorem afterB_iff {p q : Int} {e : KE} (h : afterB p q e = true) : p < e.f ∨ (p = e.f ∧ q < e.i) := of_decide_eq_true h
theorem shardB_iff {lo hi : Int} {es : List KE} (h : shardB lo hi es = true) : 0 ≤ lo ∧ lo < hi ∧ hi ≤ 150 ∧ es.length ≤ 400 ∧ runK lo hi (-1) 0 es = true := by
  unfold shardB at h
  rw [Bool.and_eq_true, decide_eq_true_iff] at h
  exact ⟨h.1.1, h.1.2.1, h.1.2.2.1, h.1.2.2.2, h.2⟩
theorem shardB_yes {lo hi : Int} {es : List KE} (h0 : 0 ≤ lo) (h1 : lo < hi) (h2 : hi ≤ 150) (h3 : es.length ≤ 400) : shardB lo hi es = runK lo hi (-1) 0 es := by
  simp [shardB, h0, h1, h2, h3]
theorem runK_drop {lo hi p q : Int} {es : List KE} {k : Nat} {e : KE} (he : es[k]? = some e) (h : runK lo hi p q (es.drop k) = runK lo hi (-1) 0 es) : (kedgeB lo hi e && afterB p q e && runK lo hi e.f e.i (es.drop (k + 1))) = runK lo hi (-1) 0 es := by
  rw [← h, g_drop es k e he, runK]
theorem runK_each {lo hi : Int} : ∀ {es : List KE} {p q : Int}, runK lo hi p q es = true → ∀ e ∈ es, kedgeB lo hi e = true
  | [], _, _, _, e, he => by cases he
  | a :: r, p, q, h, e, he => by
    rw [runK, Bool.and_eq_true, Bool.and_eq_true] at h
    rcases List.mem_cons.1 he with rfl | he
    · exact h.1.1
    · exact runK_each h.2 e he
/-- The edges of a valid shard do not fall in From. -/
theorem runK_from {lo hi : Int} : ∀ {es : List KE} {p q : Int}, runK lo hi p q es = true → (∀ e ∈ es, p ≤ e.f) ∧ es.Pairwise (fun a b => a.f ≤ b.f)
  | [], _, _, _ => ⟨by simp, List.Pairwise.nil⟩
  | a :: r, p, q, h => by
    rw [runK, Bool.and_eq_true, Bool.and_eq_true] at h
    obtain ⟨h1, h2⟩ := runK_from h.2
    have h3 := afterB_iff h.1.2
    refine ⟨fun e he => ?_, List.pairwise_cons.2 ⟨h1, h2⟩⟩
    rcases List.mem_cons.1 he with rfl | he
    · omega
    · have := h1 e he; omega
theorem kedgeB_parts {lo hi : Int} {e : KE} (h : kedgeB lo hi e = false) : e.f < 0 ∨ (0 ≤ e.f ∧ 150 ≤ e.f) ∨ (0 ≤ e.f ∧ e.f < 150 ∧ e.t < lo) ∨ (0 ≤ e.f ∧ e.f < 150 ∧ lo ≤ e.t ∧ hi ≤ e.t) ∨ (0 ≤ e.f ∧ e.f < 150 ∧ lo ≤ e.t ∧ e.t < hi ∧ e.w < 0) ∨ (0 ≤ e.f ∧ e.f < 150 ∧ lo ≤ e.t ∧ e.t < hi ∧ 0 ≤ e.w ∧ 1000 < e.w) ∨
    (0 ≤ e.f ∧ e.f < 150 ∧ lo ≤ e.t ∧ e.t < hi ∧ 0 ≤ e.w ∧ e.w ≤ 1000 ∧ e.i < 0) ∨ (0 ≤ e.f ∧ e.f < 150 ∧ lo ≤ e.t ∧ e.t < hi ∧ 0 ≤ e.w ∧ e.w ≤ 1000 ∧ 0 ≤ e.i ∧ 400 ≤ e.i) ∨ (0 ≤ e.f ∧ e.f < 150 ∧ lo ≤ e.t ∧ e.t < hi ∧ 0 ≤ e.w ∧ e.w ≤ 1000 ∧ 0 ≤ e.i ∧ e.i < 400 ∧ ¬ (0 ≤ e.v ∧ e.v ≤ 281474976710655)) := by
  have h := of_decide_eq_false h
  rcases Int.lt_or_le e.f 0 with h1 | h1
  · exact .inl h1
  refine .inr ?_
  rcases Int.lt_or_le e.f 150 with h2 | h2
  case inr => exact .inl ⟨h1, h2⟩
  refine .inr ?_
  rcases Int.lt_or_le e.t lo with h3 | h3
  · exact .inl ⟨h1, h2, h3⟩
  refine .inr ?_
  rcases Int.lt_or_le e.t hi with h4 | h4
  case inr => exact .inl ⟨h1, h2, h3, h4⟩
  refine .inr ?_
  rcases Int.lt_or_le e.w 0 with h5 | h5
  · exact .inl ⟨h1, h2, h3, h4, h5⟩
  refine .inr ?_
  rcases Int.lt_or_le 1000 e.w with h6 | h6
  · exact .inl ⟨h1, h2, h3, h4, h5, h6⟩
  refine .inr ?_
  rcases Int.lt_or_le e.i 0 with h7 | h7
  · exact .inl ⟨h1, h2, h3, h4, h5, h6, h7⟩
  refine .inr ?_
  rcases Int.lt_or_le e.i 400 with h8 | h8
  case inr => exact .inl ⟨h1, h2, h3, h4, h5, h6, h7, h8⟩
  refine .inr ?_
  exact ⟨h1, h2, h3, h4, h5, h6, h7, h8, fun h9 => h ⟨h1, h2, h3, h4, h5, h6, h7, h8, h9⟩⟩
theorem prev_next {es : List KE} {k : Nat} {e : KE} (he : es[k]? = some e) : ∀ (j : Nat) (x : KE), k + 1 = j + 1 → es[j]? = some x → e.f = x.f ∧ e.i = x.i := fun j x hj hx => by
  obtain rfl : k = j := by omega
  rw [he] at hx
  injection hx with hx
  subst hx
  exact ⟨rfl, rfl⟩
end Go.Proofs.YtmbabbapcjphgaaDoor
namespace Go.Proofs.YtmbabbapcjphgaaDoor
open Go.RowKit

abbrev SD := Int × Int × List KE
def chainB (n : Int) : Int → List SD → Bool
  | a, [] => decide (a = n)
  | a, s :: r => shardB s.1 s.2.1 s.2.2 && decide (s.1 = a) && chainB n s.2.1 r
def flatK (l : List SD) : List KE := l.flatMap (fun s => s.2.2)
def indsOk (n : Int) (F : List KE) : Bool := decide (F.length ≤ 400) && F.all (fun e => decide (e.i < (F.length : Int) ∧ e.f < n)) && decide (F.map KE.i).Nodup
def KE.ge (e : KE) : GE := ⟨e.f, e.t, e.w⟩
def edgeOf (F : List KE) (j : Nat) : GE := ((F.find? (fun e => decide (e.i = (j : Int)))).map KE.ge).getD zeroG
def edgesJ (F : List KE) : List GE := (List.range F.length).map (edgeOf F)
def joinB (n : Int) (l : List SD) : Bool := chainB n 0 l && indsOk n (flatK l)

theorem perm_of_sub {α : Type} [DecidableEq α] : ∀ (A L : List α), A.Nodup → (∀ a ∈ A, a ∈ L) → L.length ≤ A.length → L.Perm A
  | [], L, _, _, h => by
    obtain rfl : L = [] := List.eq_nil_of_length_eq_zero (by simpa using h)
    exact List.Perm.refl _
  | a :: A, L, hn, hs, hl => by
    obtain ⟨h1, h2⟩ := List.nodup_cons.1 hn
    have ha : a ∈ L := hs a (by simp)
    have hp : L.Perm (a :: L.erase a) := List.perm_cons_erase ha
    have hle : (L.erase a).length = L.length - 1 := List.length_erase_of_mem ha
    have hpos : 0 < L.length := List.length_pos_of_mem ha
    have ih := perm_of_sub A (L.erase a) h2 (fun b hb => (List.mem_erase_of_ne (fun e => by subst e; exact h1 hb)).2 (hs b (by simp [hb]))) (by simp at hl; omega)
    exact hp.trans (ih.cons a)
def rangeI (n : Nat) : List Int := (List.range n).map (fun j : Nat => (j : Int))
theorem rangeI_len (n : Nat) : (rangeI n).length = n := by simp [rangeI]
theorem rangeI_nodup (n : Nat) : (rangeI n).Nodup := by
  unfold rangeI
  rw [List.Nodup, List.pairwise_map]
  exact List.nodup_range.imp (fun {a b} h e => h (by exact_mod_cast e))
theorem rangeI_mem {n : Nat} {x : Int} : x ∈ rangeI n ↔ 0 ≤ x ∧ x < n := by
  unfold rangeI
  rw [List.mem_map]
  constructor
  · rintro ⟨j, hj, rfl⟩
    have := List.mem_range.1 hj
    omega
  · rintro ⟨h1, h2⟩
    exact ⟨x.toNat, List.mem_range.2 (by omega), by omega⟩
/-- Every number below the count occurs: so each occurs once, and no other. -/
theorem inds_full {F : List KE} (h : ∀ j : Nat, j < F.length → ∃ e ∈ F, e.i = (j : Int)) : (F.map KE.i).Nodup ∧ ∀ e ∈ F, 0 ≤ e.i ∧ e.i < F.length := by
  have hp : (F.map KE.i).Perm (rangeI F.length) := perm_of_sub _ _ (rangeI_nodup _) (fun x hx => by
    obtain ⟨h1, h2⟩ := rangeI_mem.1 hx
    obtain ⟨e, he, hi⟩ := h x.toNat (by omega)
    exact List.mem_map.2 ⟨e, he, by omega⟩) (by rw [List.length_map, rangeI_len]; exact Nat.le_refl _)
  exact ⟨hp.nodup_iff.2 (rangeI_nodup _), fun e he => rangeI_mem.1 (hp.mem_iff.1 (List.mem_map_of_mem he))⟩
theorem inds_all {F : List KE} (h1 : (F.map KE.i).Nodup) (h2 : ∀ e ∈ F, 0 ≤ e.i ∧ e.i < F.length) : ∀ j : Nat, j < F.length → ∃ e ∈ F, e.i = (j : Int) := by
  intro j hj
  have hp : (rangeI F.length).Perm (F.map KE.i) := perm_of_sub _ _ h1 (fun x hx => by
    obtain ⟨e, he, rfl⟩ := List.mem_map.1 hx
    exact rangeI_mem.2 (h2 e he)) (by rw [List.length_map, rangeI_len]; exact Nat.le_refl _)
  obtain ⟨e, he, hi⟩ := List.mem_map.1 (hp.mem_iff.1 (rangeI_mem.2 ⟨by omega, by exact_mod_cast hj⟩ : (j : Int) ∈ rangeI F.length))
  exact ⟨e, he, hi⟩
theorem find_only {F : List KE} {e : KE} {j : Int} (hn : (F.map KE.i).Nodup) (he : e ∈ F) (hi : e.i = j) : F.find? (fun x => decide (x.i = j)) = some e := by
  induction F with
  | nil => cases he
  | cons a r ih =>
    rw [List.map_cons, List.nodup_cons] at hn
    rw [List.find?_cons]
    rcases List.mem_cons.1 he with rfl | he
    · simp [hi]
    · have : a.i ≠ j := fun e2 => hn.1 (by rw [e2, ← hi]; exact List.mem_map_of_mem he)
      simp only [this, decide_false]
      exact ih hn.2 he
theorem edgeOf_only {F : List KE} {e : KE} {j : Nat} (hn : (F.map KE.i).Nodup) (he : e ∈ F) (hi : e.i = (j : Int)) : edgeOf F j = e.ge := by
  unfold edgeOf
  rw [find_only hn he hi]
  rfl
theorem edgesJ_of {F : List KE} {out : List GE} (hl : out.length = F.length) (h : ∀ j : Nat, j < F.length → ∃ e ∈ F, e.i = (j : Int) ∧ out[j]? = some e.ge) : (F.map KE.i).Nodup ∧ (∀ e ∈ F, 0 ≤ e.i ∧ e.i < F.length) ∧ out = edgesJ F := by
  obtain ⟨h1, h2⟩ := inds_full (F := F) (fun j hj => by obtain ⟨e, a, b, _⟩ := h j hj; exact ⟨e, a, b⟩)
  refine ⟨h1, h2, List.ext_getElem? fun j => ?_⟩
  by_cases hj : j < F.length
  · obtain ⟨e, he, hi, ho⟩ := h j hj
    rw [ho]
    unfold edgesJ
    rw [List.getElem?_map, List.getElem?_range hj]
    simp [edgeOf_only h1 he hi]
  · rw [List.getElem?_eq_none (by omega), List.getElem?_eq_none (by simp [edgesJ]; omega)]

/-! ### one edge more -/
def hadB (F : List KE) (j : Nat) : Bool := F.any (fun e => decide (e.i = (j : Int)))
theorem edgeOf_snoc_no {F : List KE} {e : KE} {j : Nat} (h : e.i ≠ (j : Int)) : edgeOf (F ++ [e]) j = edgeOf F j := by
  unfold edgeOf
  rw [List.find?_append]
  cases hf : F.find? (fun x => decide (x.i = (j : Int))) with
  | some a => rfl
  | none => simp [h]
theorem edgeOf_snoc_yes {F : List KE} {e : KE} {j : Nat} (h : e.i = (j : Int)) (hn : hadB F j = false) : edgeOf (F ++ [e]) j = e.ge := by
  unfold edgeOf
  rw [List.find?_append]
  have : F.find? (fun x => decide (x.i = (j : Int))) = none := by
    rw [List.find?_eq_none]
    intro x hx hh
    unfold hadB at hn
    rw [List.any_eq_false] at hn
    exact hn x hx hh
  rw [this]
  simp [h]
theorem hadB_snoc {F : List KE} {e : KE} {j : Nat} : hadB (F ++ [e]) j = (hadB F j || decide (e.i = (j : Int))) := by simp [hadB]
def edgeRow (m : Nat) (F : List KE) : List GE := (List.range m).map (edgeOf F)
def hadRow (m : Nat) (F : List KE) : List Bool := (List.range m).map (hadB F)
theorem edgeRow_len (m : Nat) (F : List KE) : (edgeRow m F).length = m := by simp [edgeRow]
theorem hadRow_len (m : Nat) (F : List KE) : (hadRow m F).length = m := by simp [hadRow]
theorem edgeRow_get {m : Nat} {F : List KE} {j : Nat} (h : j < m) : (edgeRow m F)[j]? = some (edgeOf F j) := by simp [edgeRow, h]
theorem hadRow_get {m : Nat} {F : List KE} {j : Nat} (h : j < m) : (hadRow m F)[j]? = some (hadB F j) := by simp [hadRow, h]
theorem edgeRow_nil (m : Nat) : edgeRow m [] = List.replicate m zeroG := by
  apply List.ext_getElem?
  intro j
  by_cases h : j < m
  · rw [edgeRow_get h]
    simp [edgeOf, h]
  · rw [List.getElem?_eq_none (by rw [edgeRow_len]; omega), List.getElem?_eq_none (by simp; omega)]
theorem hadRow_nil (m : Nat) : hadRow m [] = List.replicate m false := by
  apply List.ext_getElem?
  intro j
  by_cases h : j < m
  · rw [hadRow_get h]
    simp [hadB, h]
  · rw [List.getElem?_eq_none (by rw [hadRow_len]; omega), List.getElem?_eq_none (by simp; omega)]
theorem edgeRow_snoc {m j : Nat} {F : List KE} {e : KE} (hj : e.i = (j : Int)) (hn : hadB F j = false) : (edgeRow m F).set j e.ge = edgeRow m (F ++ [e]) := by
  apply List.ext_getElem?
  intro q
  by_cases h : q < m
  · rw [edgeRow_get h, List.getElem?_set]
    by_cases hq : j = q
    · subst hq
      rw [if_pos rfl, if_pos (by rw [edgeRow_len]; exact h), edgeOf_snoc_yes hj hn]
    · rw [if_neg hq, edgeRow_get h, edgeOf_snoc_no (by omega)]
  · rw [List.getElem?_eq_none (by rw [List.length_set, edgeRow_len]; omega), List.getElem?_eq_none (by rw [edgeRow_len]; omega)]
theorem hadRow_snoc {m j : Nat} {F : List KE} {e : KE} (hj : e.i = (j : Int)) : (hadRow m F).set j true = hadRow m (F ++ [e]) := by
  apply List.ext_getElem?
  intro q
  by_cases h : q < m
  · rw [hadRow_get h, List.getElem?_set, hadB_snoc]
    by_cases hq : j = q
    · subst hq
      rw [if_pos rfl, if_pos (by rw [hadRow_len]; exact h)]
      simp [hj]
    · rw [if_neg hq, hadRow_get h]
      have : e.i ≠ (q : Int) := by omega
      simp [this]
  · rw [List.getElem?_eq_none (by rw [List.length_set, hadRow_len]; omega), List.getElem?_eq_none (by rw [hadRow_len]; omega)]
theorem hadB_iff {F : List KE} {j : Nat} : hadB F j = true ↔ ∃ e ∈ F, e.i = (j : Int) := by simp [hadB]
theorem nodup_snoc {F : List KE} {e : KE} {j : Nat} (h : (F.map KE.i).Nodup) (hj : e.i = (j : Int)) (hn : hadB F j = false) : ((F ++ [e]).map KE.i).Nodup := by
  rw [List.map_append, List.nodup_append]
  refine ⟨h, by simp, fun a ha b hb => ?_⟩
  simp at hb
  subst hb
  intro e2
  obtain ⟨x, hx, hxi⟩ := List.mem_map.1 ha
  have : hadB F j = true := hadB_iff.2 ⟨x, hx, by omega⟩
  rw [hn] at this
  cases this
theorem nodup_no {F G : List KE} {e : KE} {j : Nat} (hj : e.i = (j : Int)) (hn : hadB F j = true) : ¬ ((F ++ e :: G).map KE.i).Nodup := by
  intro h
  obtain ⟨x, hx, hxi⟩ := hadB_iff.1 hn
  rw [List.map_append, List.nodup_append] at h
  exact h.2.2 x.i (List.mem_map_of_mem hx) e.i (by simp) (by omega)
/-! ### chains -/
theorem chain_each {n : Int} : ∀ {l : List SD} {a : Int}, chainB n a l = true → ∀ s ∈ l, shardB s.1 s.2.1 s.2.2 = true
  | [], _, _, s, hs => by cases hs
  | x :: r, a, h, s, hs => by
    rw [chainB, Bool.and_eq_true, Bool.and_eq_true] at h
    rcases List.mem_cons.1 hs with rfl | hs
    · exact h.1.1
    · exact chain_each h.2 s hs
theorem chain_n {n : Int} : ∀ {l : List SD} {a : Int}, chainB n a l = true → 0 ≤ a → a ≤ 150 → 0 ≤ n ∧ n ≤ 150
  | [], a, h, h0, h1 => by
    have := of_decide_eq_true h
    omega
  | x :: r, a, h, h0, h1 => by
    rw [chainB, Bool.and_eq_true, Bool.and_eq_true] at h
    have h2 := shardB_iff h.1.1
    exact chain_n h.2 (by omega) (by omega)
theorem flat_each {n : Int} {l : List SD} {a : Int} (h : chainB n a l = true) : ∀ e ∈ flatK l, 0 ≤ e.i ∧ e.i < 400 ∧ 0 ≤ e.f := by
  intro e he
  obtain ⟨s, hs, hes⟩ := List.mem_flatMap.1 he
  have h1 := shardB_iff (chain_each h s hs)
  have h2 := kedgeB_iff (runK_each h1.2.2.2.2 e hes)
  omega
theorem flatK_append (a b : List SD) : flatK (a ++ b) = flatK a ++ flatK b := by simp [flatK]
theorem flatK_cons (s : SD) (r : List SD) : flatK (s :: r) = s.2.2 ++ flatK r := by simp [flatK]
/-! ### the answer -/
def joinN (N : Int) (l : List SD) : Int := if joinB N l = true then N else 0
def joinE (N : Int) (l : List SD) : List GE := if joinB N l = true then edgesJ (flatK l) else []
theorem join_none {N : Int} {l : List SD} (h : joinB N l = false) : joinN N l = 0 ∧ joinE N l = [] := by simp [joinN, joinE, h]
theorem join_some {N : Int} {l : List SD} (h : joinB N l = true) : joinN N l = N ∧ joinE N l = edgesJ (flatK l) := by simp [joinN, joinE, h]
theorem join_chain {N : Int} {l : List SD} (h : chainB N 0 l = false) : joinB N l = false := by simp [joinB, h]
theorem join_no1 {N : Int} {l : List SD} {e : KE} (he : e ∈ flatK l) (hf : ((flatK l).length : Int) ≤ e.i ∨ N ≤ e.f) : joinB N l = false := by
  cases h : joinB N l with
  | false => rfl
  | true =>
    unfold joinB indsOk at h
    rw [Bool.and_eq_true, Bool.and_eq_true, Bool.and_eq_true] at h
    have := of_decide_eq_true (List.all_eq_true.1 h.2.1.2 e he)
    omega
theorem join_no2 {N : Int} {l : List SD} (hc : chainB N 0 l = true) {j : Nat} (hj : j < (flatK l).length) (hn : ¬ ∃ e ∈ flatK l, e.i = (j : Int)) : joinB N l = false := by
  cases h : joinB N l with
  | false => rfl
  | true =>
    unfold joinB indsOk at h
    rw [Bool.and_eq_true, Bool.and_eq_true, Bool.and_eq_true] at h
    refine absurd (inds_all (of_decide_eq_true h.2.2) (fun e he => ?_) j hj) hn
    have h1 := of_decide_eq_true (List.all_eq_true.1 h.2.1.2 e he)
    have h2 := flat_each hc e he
    omega
theorem join_dup {N : Int} {l : List SD} (hd : ¬ ((flatK l).map KE.i).Nodup) : joinB N l = false := by
  unfold joinB indsOk
  rw [decide_eq_false hd]
  simp
theorem join_long {N : Int} {l : List SD} (hd : 400 < (flatK l).length) : joinB N l = false := by
  unfold joinB indsOk
  rw [decide_eq_false (by omega : ¬ (flatK l).length ≤ 400)]
  simp
theorem join_yes0 {N : Int} {l : List SD} (hc : chainB N 0 l = true) (hl : (flatK l).length ≤ 400) (hf : ∀ e ∈ flatK l, e.i < ((flatK l).length : Int) ∧ e.f < N) (hn : ((flatK l).map KE.i).Nodup) : joinB N l = true := by
  unfold joinB indsOk
  rw [hc, decide_eq_true hl, decide_eq_true hn, List.all_eq_true.2 (fun e he => decide_eq_true (hf e he))]
  rfl
theorem join_yes {N : Int} {l : List SD} {out : List GE} (hc : chainB N 0 l = true) (hf : ∀ e ∈ flatK l, e.f < N) (hl : out.length = (flatK l).length) (h : ∀ j : Nat, j < (flatK l).length → ∃ e ∈ flatK l, e.i = (j : Int) ∧ out[j]? = some e.ge) : joinB N l = true ∧ out = edgesJ (flatK l) := by
  obtain ⟨h1, h2, h3⟩ := edgesJ_of hl h
  refine ⟨join_yes0 hc ?_ (fun e he => ⟨(h2 e he).2, hf e he⟩) h1, h3⟩
  rcases Nat.eq_zero_or_pos (flatK l).length with h0 | h0
  · omega
  · obtain ⟨e, he, hi, _⟩ := h ((flatK l).length - 1) (by omega)
    have := flat_each hc e he
    omega
theorem wf_small {x : Int} (h0 : 0 ≤ x) (h1 : x ≤ 1000000) : (Lit.int .i64 x).wf = true := by
  unfold Lit.wf
  rw [Bool.and_eq_true, decide_eq_true_iff, decide_eq_true_iff]
  constructor
  · exact Int.le_trans (by decide) h0
  · exact Int.le_trans h1 (by decide)
end Go.Proofs.YtmbabbapcjphgaaDoor
namespace Go.Proofs.YtmbabbapcjphgaaDoor
open Go.RowKit

def recAt (ends : List Int) (es : List GE) (j : Nat) : GE := match es[j]? with
  | some e => ⟨ivE ends e.t, e.f, (j : Int)⟩
  | none => zeroG
def recsK (ends : List Int) (es : List GE) (k : Nat) : List GE := (List.range k).map (recAt ends es)
theorem recAt_some {ends : List Int} {es : List GE} {j : Nat} {e : GE} (h : es[j]? = some e) : recAt ends es j = ⟨ivE ends e.t, e.f, (j : Int)⟩ := by unfold recAt; rw [h]
theorem recsK_len (ends : List Int) (es : List GE) (k : Nat) : (recsK ends es k).length = k := by simp [recsK]
theorem recsK_step {ends : List Int} {es : List GE} {k : Nat} {e : GE} (h : es[k]? = some e) : recsK ends es (k + 1) = recsK ends es k ++ [⟨ivE ends e.t, e.f, (k : Int)⟩] := by
  unfold recsK
  rw [List.range_succ, List.map_append, List.map_cons, List.map_nil, recAt_some h]
def keOf (es : List GE) (r : GE) : KE := match es[r.w.toNat]? with
  | some e => ⟨e.f, e.t, e.w, r.w, 0⟩
  | none => zero5
theorem keOf_some {es : List GE} {j : Nat} {e : GE} (a b : Int) (h : es[j]? = some e) : keOf es ⟨a, b, (j : Int)⟩ = ⟨e.f, e.t, e.w, (j : Int), 0⟩ := by
  unfold keOf
  simp only [Int.toNat_natCast]
  rw [h]
def dealt (es L : List GE) (p : Int) : List KE := (L.filter (fun r => decide (r.f = p))).map (keOf es)
theorem dealt_yes {es L : List GE} {q : Nat} {r : GE} {p : Int} (h : L[q]? = some r) (hp : r.f = p) : dealt es (L.take (q + 1)) p = dealt es (L.take q) p ++ [keOf es r] := by
  unfold dealt
  rw [g_take L q r h, List.filter_append, List.map_append]
  simp [hp]
theorem dealt_no {es L : List GE} {q : Nat} {r : GE} {p : Int} (h : L[q]? = some r) (hp : r.f ≠ p) : dealt es (L.take (q + 1)) p = dealt es (L.take q) p := by
  unfold dealt
  rw [g_take L q r h, List.filter_append, List.map_append]
  simp [hp]
theorem dealt_len (es L : List GE) (p : Int) : (dealt es L p).length ≤ L.length := by
  unfold dealt
  rw [List.length_map]
  exact List.length_filter_le _ _
def sortedRecs (ends : List Int) (es : List GE) : List GE := sortR (recsK ends es es.length)
theorem sortedRecs_len (ends : List Int) (es : List GE) : (sortedRecs ends es).length = es.length := by
  unfold sortedRecs
  rw [(sortR_perm _).length_eq, recsK_len]
theorem sortedRecs_mem {ends : List Int} {es : List GE} {r : GE} (h : r ∈ sortedRecs ends es) : ∃ (j : Nat) (e : GE), es[j]? = some e ∧ r = ⟨ivE ends e.t, e.f, (j : Int)⟩ := by
  have h1 := (sortR_perm _).mem_iff.1 h
  unfold recsK at h1
  obtain ⟨j, hj, rfl⟩ := List.mem_map.1 h1
  have hj := List.mem_range.1 hj
  exact ⟨j, es[j], List.getElem?_eq_getElem hj, recAt_some (List.getElem?_eq_getElem hj)⟩
def shardAt (ends : List Int) (es L : List GE) (p : Nat) : SD := ((spanR ends (p : Int)).1, (spanR ends (p : Int)).2, dealt es L (p : Int))
def shardRow (ends : List Int) (es L : List GE) (n : Nat) : List SD := (List.range n).map (shardAt ends es L)
theorem shardRow_len (ends : List Int) (es L : List GE) (n : Nat) : (shardRow ends es L n).length = n := by simp [shardRow]
theorem shardRow_get {ends : List Int} {es L : List GE} {n p : Nat} (h : p < n) : (shardRow ends es L n)[p]? = some (shardAt ends es L p) := by simp [shardRow, h]
theorem shardRow_step (ends : List Int) (es L : List GE) (n : Nat) : shardRow ends es L (n + 1) = shardRow ends es L n ++ [shardAt ends es L n] := by simp [shardRow, List.range_succ]
def shardsR (N : Int) (es : List GE) (ends : List Int) (size : Int) : List SD := if graphB N es = true ∧ endsB N ends = true ∧ 1 ≤ size then shardRow ends es (sortedRecs ends es) ends.length else []
theorem shardsR_no {N : Int} {es : List GE} {ends : List Int} {size : Int} (h : graphB N es = false ∨ endsB N ends = false ∨ size < 1) : shardsR N es ends size = [] := by
  unfold shardsR
  rw [if_neg]
  rintro ⟨h1, h2, h3⟩
  rcases h with h | h | h
  · rw [h] at h1; cases h1
  · rw [h] at h2; cases h2
  · omega
theorem shardsR_yes {N : Int} {es : List GE} {ends : List Int} {size : Int} (h1 : graphB N es = true) (h2 : endsB N ends = true) (h3 : 1 ≤ size) : shardsR N es ends size = shardRow ends es (sortedRecs ends es) ends.length := if_pos ⟨h1, h2, h3⟩
theorem iv_range {xs : List Int} {v : Int} (h0 : 0 ≤ v) (h1 : v < lastE 0 xs) : 0 ≤ ivE xs v ∧ ivE xs v < xs.length := by
  have hne : xs ≠ [] := fun e => by subst e; simp [lastE] at h1; omega
  obtain ⟨k, hk⟩ : ∃ k, xs.length = k + 1 := ⟨xs.length - 1, by have := List.length_pos_iff.2 hne; omega⟩
  have hl := lastE_get xs 0 k hk
  have hv : ivE xs v = cntE v xs := by
    unfold ivE
    rw [if_neg]
    rintro (h | h | h)
    · omega
    · exact hne h
    · omega
  rw [hv]
  refine ⟨(cnt_bound v xs).1, ?_⟩
  unfold cntE
  have : (xs.filter fun e => decide (e ≤ v)).length < xs.length := List.length_filter_lt_length_iff_exists.2 ⟨lastE 0 xs, List.mem_of_getElem? hl, by simp; omega⟩
  omega
theorem rec_range {N : Int} {es : List GE} {ends : List Int} {r : GE} (h1 : graphB N es = true) (h2 : endsB N ends = true) (h : r ∈ sortedRecs ends es) : ∃ (p j : Nat) (e : GE), r = ⟨(p : Int), e.f, (j : Int)⟩ ∧ p < ends.length ∧ es[j]? = some e ∧ j < es.length ∧ (p : Int) = ivE ends e.t := by
  obtain ⟨j, e, he, rfl⟩ := sortedRecs_mem h
  have hed := edgeB_iff ((graphB_iff h1).2.2.2 e (List.mem_of_getElem? he))
  have hen := endsB_iff h2
  have hr := iv_range (xs := ends) (v := e.t) hed.2.2.1 (by rw [hen.2.2.2]; exact hed.2.2.2.1)
  exact ⟨(ivE ends e.t).toNat, j, e, by rw [Int.toNat_of_nonneg hr.1], by omega, he, (List.getElem?_eq_some_iff.1 he).1, Int.toNat_of_nonneg hr.1⟩
theorem pairs_span (ends : List Int) : pairsE 0 ends = (List.range ends.length).map (fun p : Nat => spanR ends (p : Int)) := by
  apply List.ext_getElem?
  intro p
  by_cases h : p < ends.length
  · have he : ends[p]? = some ends[p] := List.getElem?_eq_getElem h
    rw [pairsE_get ends 0 p _ he, List.getElem?_map, List.getElem?_range h, Option.map_some, span_yes he]
  · rw [List.getElem?_eq_none (by rw [pairsE_len]; omega), List.getElem?_eq_none (by simp; omega)]
theorem shardRow_nil (ends : List Int) (es : List GE) : shardRow ends es [] ends.length = (pairsE 0 ends).map (fun x => (x.1, x.2, [])) := by
  rw [pairs_span, List.map_map]
  rfl
/-- One record dealt. -/
theorem shardRow_deal {ends : List Int} {es L : List GE} {q p n : Nat} {r : GE} (h : L[q]? = some r) (hp : r.f = (p : Int)) : (shardRow ends es (L.take q) n).set p ((spanR ends (p : Int)).1, (spanR ends (p : Int)).2, dealt es (L.take q) (p : Int) ++ [keOf es r]) = shardRow ends es (L.take (q + 1)) n := by
  apply List.ext_getElem?
  intro i
  by_cases hi : i < n
  · rw [shardRow_get hi, List.getElem?_set]
    by_cases hpi : p = i
    · subst hpi
      rw [if_pos rfl, if_pos (by rw [shardRow_len]; exact hi)]
      unfold shardAt
      rw [dealt_yes h hp]
    · rw [if_neg hpi, shardRow_get hi]
      unfold shardAt
      rw [dealt_no h (by omega)]
  · rw [List.getElem?_eq_none (by rw [List.length_set, shardRow_len]; omega), List.getElem?_eq_none (by rw [shardRow_len]; omega)]
end Go.Proofs.YtmbabbapcjphgaaDoor
namespace Go.Proofs.YtmbabbapcjphgaaDoor
open Go.RowKit

/-! ### the greedy division -/
def cutGo (b : Int) : Int → Int → List Int → List Int
  | v, _, [] => [v]
  | v, s, d :: r => if b < s + d then v :: cutGo b (v + 1) d r else cutGo b (v + 1) (s + d) r
def cutFrom (b v : Int) : List Int → List Int
  | [] => []
  | d :: r => cutGo b (v + 1) d r
def cutR (N : Int) (es : List GE) (b : Int) : List Int := if graphB N es = true ∧ 1 ≤ b ∧ b ≤ 400 then cutFrom b 0 (degs GE.t N.toNat es) else []
theorem cutGo_end (b v s : Int) : cutGo b v s [] = [v] := rfl
theorem cutGo_new {b v s d : Int} (r : List Int) (h : b < s + d) : cutGo b v s (d :: r) = v :: cutFrom b v (d :: r) := by
  rw [cutGo, if_pos h]
  rfl
theorem cutGo_more {b v s d : Int} (r : List Int) (h : s + d ≤ b) : cutGo b v s (d :: r) = cutGo b (v + 1) (s + d) r := by rw [cutGo, if_neg (by omega)]
theorem cutGo_len : ∀ (l : List Int) (b v s : Int), (cutGo b v s l).length ≤ l.length + 1
  | [], _, _, _ => by simp [cutGo]
  | d :: r, b, v, s => by
    rw [cutGo]
    split
    · have := cutGo_len r b (v + 1) d
      simp only [List.length_cons]
      omega
    · have := cutGo_len r b (v + 1) (s + d)
      simp only [List.length_cons]
      omega
theorem cutFrom_len (b v : Int) : ∀ l : List Int, (cutFrom b v l).length ≤ l.length
  | [] => by simp [cutFrom]
  | d :: r => by
    have := cutGo_len r b (v + 1) d
    simp only [cutFrom, List.length_cons]
    omega
theorem cutR_len (N : Int) (es : List GE) (b : Int) : (cutR N es b).length ≤ 150 := by
  unfold cutR
  split
  · rename_i h
    have h1 := graphB_iff h.1
    have := cutFrom_len b 0 (degs GE.t N.toNat es)
    rw [degs_len] at this
    omega
  · simp

/-! ### what the intervals hold -/
theorem sum_set : ∀ (l : List Int) (i : Nat) (v : Int), i < l.length → (l.set i v).sum = l.sum - l.getD i 0 + v
  | [], _, _, h => by simp at h
  | x :: r, 0, v, _ => by simp; omega
  | x :: r, i + 1, v, h => by
    have := sum_set r i v (by simpa using h)
    simp only [List.set_cons_succ, List.sum_cons, List.getD_cons_succ]
    omega
def sumAt (ds : List Int) (lo hi : Int) : Int := ((ds.drop lo.toNat).take (hi - lo).toNat).sum
def holdsL (ds : List Int) (l : Int) (xs : List Int) : List Int := (pairsE l xs).map fun p => sumAt ds p.1 p.2
theorem holdsL_len (ds : List Int) (l : Int) (xs : List Int) : (holdsL ds l xs).length = xs.length := by simp [holdsL, pairsE_len]
theorem sumAt_out (ds : List Int) (t : Nat) {lo hi : Int} (h0 : 0 ≤ lo) (_hl : lo ≤ hi) (h : (t : Int) < lo ∨ hi ≤ (t : Int)) : sumAt (bump ds t) lo hi = sumAt ds lo hi := by
  unfold sumAt bump
  rw [List.drop_set]
  split
  · rfl
  · rename_i hh
    rw [List.take_set, List.set_eq_of_length_le]
    rw [List.length_take]
    omega
theorem sumAt_in (ds : List Int) (t : Nat) {lo hi : Int} (h0 : 0 ≤ lo) (h1 : lo ≤ (t : Int)) (h2 : (t : Int) < hi) (h3 : t < ds.length) : sumAt (bump ds t) lo hi = sumAt ds lo hi + 1 := by
  unfold sumAt bump
  rw [List.drop_set, if_neg (by omega), List.take_set, sum_set _ _ _ (by rw [List.length_take, List.length_drop]; omega)]
  have : ((ds.drop lo.toNat).take (hi - lo).toNat).getD (t - lo.toNat) 0 = ds.getD t 0 := by
    rw [List.getD_eq_getElem?_getD, List.getD_eq_getElem?_getD, List.getElem?_take, if_pos (by omega), List.getElem?_drop, show lo.toNat + (t - lo.toNat) = t by omega]
  rw [this]
  omega
theorem holds_out (ds : List Int) (t : Nat) : ∀ (xs : List Int) (l : Int), 0 ≤ l → ascB l xs = true → (t : Int) < l → holdsL (bump ds t) l xs = holdsL ds l xs
  | [], _, _, _, _ => rfl
  | e :: r, l, h0, ha, hl => by
    simp only [ascB, Bool.and_eq_true, decide_eq_true_eq] at ha
    have ih := holds_out ds t r e (by omega) ha.2 (by omega)
    simp only [holdsL, pairsE, List.map_cons] at ih ⊢
    rw [sumAt_out ds t h0 (by omega) (.inl hl), ih]
theorem cnt_none : ∀ (xs : List Int) (l t : Int), ascB l xs = true → t < l → cntE t xs = 0
  | [], _, _, _, _ => rfl
  | e :: r, l, t, ha, hl => by
    simp only [ascB, Bool.and_eq_true, decide_eq_true_eq] at ha
    have ih := cnt_none r e t ha.2 (by omega)
    unfold cntE at ih ⊢
    rw [List.filter_cons_of_neg (by simp; omega)]
    exact ih
theorem bump_succ (a : Int) (l : List Int) (i : Nat) : bump (a :: l) (i + 1) = a :: bump l i := by simp [bump]
theorem bump_nought (a : Int) (l : List Int) : bump (a :: l) 0 = (a + 1) :: l := by simp [bump]
theorem holds_bump (ds : List Int) (t : Nat) : ∀ (xs : List Int) (l : Int), 0 ≤ l → ascB l xs = true → l ≤ (t : Int) → (t : Int) < lastE l xs → lastE l xs ≤ ds.length → holdsL (bump ds t) l xs = bump (holdsL ds l xs) (cntE t xs).toNat
  | [], _, _, _, h1, h2, _ => by simp only [lastE] at h2; omega
  | e :: r, l, h0, ha, h1, h2, h3 => by
    simp only [ascB, Bool.and_eq_true, decide_eq_true_eq] at ha
    simp only [lastE] at h2 h3
    by_cases he : e ≤ (t : Int)
    · have ih := holds_bump ds t r e (by omega) ha.2 he h2 h3
      have hc : (cntE t (e :: r)).toNat = (cntE t r).toNat + 1 := by
        unfold cntE
        rw [List.filter_cons_of_pos (by simp; omega), List.length_cons]
        omega
      rw [hc]
      simp only [holdsL, pairsE, List.map_cons] at ih ⊢
      rw [bump_succ, sumAt_out ds t h0 (by omega) (.inr he), ih]
    · have hc : cntE t (e :: r) = 0 := by
        have := cnt_none r e t ha.2 (by omega)
        unfold cntE at this ⊢
        rw [List.filter_cons_of_neg (by simp; omega)]
        exact this
      have hlast := asc_last_ge r e ha.2
      have ho := holds_out ds t r e (by omega) ha.2 (by omega)
      rw [hc]
      simp only [holdsL, pairsE, List.map_cons, Int.toNat_zero] at ho ⊢
      rw [bump_nought, sumAt_in ds t h0 h1 (by omega) (by omega), ho]
theorem holds_zero (n : Nat) : ∀ (xs : List Int) (l : Int), holdsL (List.replicate n 0) l xs = List.replicate xs.length 0
  | [], _ => rfl
  | e :: r, l => by
    have ih := holds_zero n r e
    simp only [holdsL, pairsE, List.map_cons, List.length_cons, List.replicate_succ] at ih ⊢
    rw [ih]
    simp [sumAt, List.drop_replicate, List.take_replicate]
def holdsR (N : Int) (es : List GE) (xs : List Int) : List Int := if graphB N es = true ∧ endsB N xs = true then holdsL (degs GE.t N.toNat es) 0 xs else []
theorem holds_fold {N : Int} {xs : List Int} (he : endsB N xs = true) : ∀ (es : List GE) (ds : List Int), (∀ e ∈ es, edgeB N e = true) → ds.length = N.toNat →
    holdsL (es.foldl (fun l e => bump l e.t.toNat) ds) 0 xs = es.foldl (fun l e => bump l (ivE xs e.t).toNat) (holdsL ds 0 xs)
  | [], _, _, _ => rfl
  | e :: r, ds, hall, hl => by
    obtain ⟨h1, h2, h3, h4⟩ := endsB_iff he
    have hb := edgeB_iff (hall e (by simp))
    rw [List.foldl_cons, List.foldl_cons, holds_fold he r _ (fun x hx => hall x (by simp [hx])) (by rw [bump_len]; exact hl)]
    have hiv : ivE xs e.t = cntE e.t xs := by
      unfold ivE
      rw [if_neg]
      rintro (h | h | h)
      · omega
      · subst h; simp only [lastE] at h4; omega
      · omega
    have ht : ((e.t.toNat : Nat) : Int) = e.t := by omega
    have hx := holds_bump ds e.t.toNat xs 0 (by omega) h1 (by omega) (by omega) (by omega)
    rw [hx, hiv, ht]
theorem holds_degs {N : Int} {es : List GE} {xs : List Int} (hg : graphB N es = true) (he : endsB N xs = true) : holdsR N es xs = degs (fun e => ivE xs e.t) xs.length es := by
  obtain ⟨_, _, _, h4⟩ := graphB_iff hg
  unfold holdsR
  rw [if_pos ⟨hg, he⟩]
  unfold degs
  rw [holds_fold he es _ h4 (by simp), holds_zero]
theorem holdsR_len {N : Int} {es : List GE} {xs : List Int} : (holdsR N es xs).length ≤ xs.length := by
  unfold holdsR
  split
  · rw [holdsL_len]; exact Nat.le_refl _
  · simp

/-! ### the model's way to the greedy division: vertex by vertex -/
structure CutAt (b : Int) (ds : List Int) (k : Nat) (acc : List Int) (s : Int) : Prop where
  first : k = 0 → acc = [] ∧ s = 0
  more : 0 < k → acc ++ cutGo b k s (ds.drop k) = cutFrom b 0 ds
  lo : 0 ≤ s
  hi : s ≤ 400 * k
  len : acc.length ≤ k
theorem CutAt.start (b : Int) (ds : List Int) : CutAt b ds 0 [] 0 := ⟨fun _ => ⟨rfl, rfl⟩, fun h => by omega, by omega, by omega, by simp⟩
theorem CutAt.one {b : Int} {ds : List Int} {acc : List Int} {s d : Int} (_h : CutAt b ds 0 acc s) (hd : ds[0]? = some d) (h0 : 0 ≤ d) (h1 : d ≤ 400) : CutAt b ds 1 [] d :=
  ⟨fun h => by omega, fun _ => by
    match ds, hd with
    | x :: r, hd =>
      simp at hd
      subst hd
      simp [cutFrom], h0, by omega, by simp⟩
theorem CutAt.new {b : Int} {ds : List Int} {k : Nat} {acc : List Int} {s d : Int} (h : CutAt b ds k acc s) (hk : 0 < k) (hd : ds[k]? = some d) (h0 : 0 ≤ d) (h1 : d ≤ 400) (hb : b < s + d) : CutAt b ds (k + 1) (acc ++ [(k : Int)]) d :=
  ⟨fun h => by omega, fun _ => by
    have e := h.more hk
    rw [g_drop ds k d hd, cutGo_new _ hb] at e
    rw [List.append_assoc, ← e]
    simp only [cutFrom, List.singleton_append]
    rw [show (((k + 1 : Nat)) : Int) = (k : Int) + 1 by omega], h0, by omega, by have := h.len; simp; omega⟩
theorem CutAt.same {b : Int} {ds : List Int} {k : Nat} {acc : List Int} {s d : Int} (h : CutAt b ds k acc s) (hk : 0 < k) (hd : ds[k]? = some d) (h0 : 0 ≤ d) (h1 : d ≤ 400) (hb : s + d ≤ b) : CutAt b ds (k + 1) acc (s + d) :=
  ⟨fun h => by omega, fun _ => by
    have e := h.more hk
    rw [g_drop ds k d hd, cutGo_more _ hb] at e
    rw [show (((k + 1 : Nat)) : Int) = (k : Int) + 1 by omega]
    exact e, by have := h.lo; omega, by have := h.hi; omega, by have := h.len; omega⟩
theorem CutAt.done {b : Int} {ds : List Int} {k : Nat} {acc : List Int} {s : Int} (h : CutAt b ds k acc s) (hk : ds.length = k) : cutFrom b 0 ds = if k = 0 then acc else acc ++ [(k : Int)] := by
  split
  · rename_i h0
    subst h0
    obtain rfl : ds = [] := List.eq_nil_of_length_eq_zero hk
    rw [(h.first rfl).1]
    rfl
  · have e := h.more (by omega)
    rw [List.drop_eq_nil_of_le (by omega), cutGo_end] at e
    exact e.symm

/-! ### the program's way: interval by interval -/
structure CutTo (b : Int) (ds : List Int) (k : Nat) (acc : List Int) : Prop where
  all : acc ++ cutFrom b k (ds.drop k) = cutFrom b 0 ds
structure CutIn (b : Int) (ds : List Int) (k : Nat) (acc : List Int) (s : Int) : Prop where
  all : acc ++ cutGo b k s (ds.drop k) = cutFrom b 0 ds
  lo : 0 ≤ s
  hi : s ≤ 400 * k
theorem CutTo.start (b : Int) (ds : List Int) : CutTo b ds 0 [] := ⟨rfl⟩
theorem CutTo.go {b : Int} {ds : List Int} {k : Nat} {acc : List Int} {d : Int} (h : CutTo b ds k acc) (hd : ds[k]? = some d) (h0 : 0 ≤ d) (h1 : d ≤ 400) : CutIn b ds (k + 1) acc d :=
  ⟨by
    have e := h.all
    rw [g_drop ds k d hd] at e
    rw [show (((k + 1 : Nat)) : Int) = (k : Int) + 1 by omega]
    exact e, h0, by omega⟩
theorem CutIn.more {b : Int} {ds : List Int} {k : Nat} {acc : List Int} {s d : Int} (h : CutIn b ds k acc s) (hd : ds[k]? = some d) (h0 : 0 ≤ d) (h1 : d ≤ 400) (hb : s + d ≤ b) : CutIn b ds (k + 1) acc (s + d) :=
  ⟨by
    have e := h.all
    rw [g_drop ds k d hd, cutGo_more _ hb] at e
    rw [show (((k + 1 : Nat)) : Int) = (k : Int) + 1 by omega]
    exact e, by have := h.lo; omega, by have := h.hi; omega⟩
theorem CutIn.new {b : Int} {ds : List Int} {k : Nat} {acc : List Int} {s d : Int} (h : CutIn b ds k acc s) (hd : ds[k]? = some d) (hb : b < s + d) : CutTo b ds k (acc ++ [(k : Int)]) :=
  ⟨by
    have e := h.all
    rw [g_drop ds k d hd, cutGo_new _ hb] at e
    rw [g_drop ds k d hd, List.append_assoc]
    exact e⟩
theorem CutIn.last {b : Int} {ds : List Int} {k : Nat} {acc : List Int} {s : Int} (h : CutIn b ds k acc s) (hk : ds.length = k) : CutTo b ds k (acc ++ [(k : Int)]) :=
  ⟨by
    have e := h.all
    rw [List.drop_eq_nil_of_le (by omega), cutGo_end] at e
    rw [List.drop_eq_nil_of_le (by omega), ← e]
    simp [cutFrom]⟩
theorem CutTo.done {b : Int} {ds : List Int} {k : Nat} {acc : List Int} (h : CutTo b ds k acc) (hk : ds.length ≤ k) : acc = cutFrom b 0 ds := by
  have e := h.all
  rw [List.drop_eq_nil_of_le hk] at e
  simpa [cutFrom] using e
theorem CutTo.pre {b : Int} {ds : List Int} {k : Nat} {acc : List Int} (h : CutTo b ds k acc) : acc <+: cutFrom b 0 ds := ⟨_, h.all⟩
end Go.Proofs.YtmbabbapcjphgaaDoor
namespace Go.Proofs.YtmbabbapcjphgaaDoor
open Go.RowKit

/-! ### where a vertex lies -/
theorem asc_take {l : Int} {xs : List Int} (k : Nat) (ha : ascB l xs = true) : ascB l (xs.take k) = true := by
  rw [← List.take_append_drop k xs, ascB_append, Bool.and_eq_true] at ha
  exact ha.1
theorem asc_drop {l : Int} {xs : List Int} (k : Nat) (ha : ascB l xs = true) : ascB (lastE l (xs.take k)) (xs.drop k) = true := by
  rw [← List.take_append_drop k xs, ascB_append, Bool.and_eq_true] at ha
  exact ha.2
theorem cnt_append (v : Int) (xs ys : List Int) : cntE v (xs ++ ys) = cntE v xs + cntE v ys := by
  unfold cntE
  rw [List.filter_append, List.length_append]
  omega
theorem cnt_all : ∀ (xs : List Int) (l v : Int), ascB l xs = true → lastE l xs ≤ v → cntE v xs = xs.length
  | [], _, _, _, _ => rfl
  | x :: r, l, v, ha, hv => by
    simp only [ascB, Bool.and_eq_true, decide_eq_true_eq] at ha
    simp only [lastE] at hv
    have h1 := asc_last_ge r x ha.2
    have h2 := cnt_all r x v ha.2 hv
    have h3 : cntE v (x :: r) = cntE v [x] + cntE v r := cnt_append v [x] r
    have h4 : cntE v [x] = 1 := by unfold cntE; simp [show x ≤ v by omega]
    rw [h3, h4, h2, List.length_cons]
    omega
theorem iv_at {xs : List Int} {k : Nat} {e v : Int} (ha : ascB 0 xs = true) (he : xs[k]? = some e) (h0 : lastE 0 (xs.take k) ≤ v) (h1 : v < e) : ivE xs v = (k : Int) := by
  have hk := (List.getElem?_eq_some_iff.1 he).1
  have hb := asc_at he ha
  have hne : xs ≠ [] := fun e => by subst e; simp at hk
  have hv : ivE xs v = cntE v xs := by
    unfold ivE
    rw [if_neg]
    rintro (h | h | h)
    · omega
    · exact hne h
    · omega
  rw [hv, ← List.take_append_drop k xs, cnt_append, cnt_all _ 0 v (asc_take k ha) h0, List.length_take, Nat.min_eq_left (by omega)]
  have hd := asc_drop k ha
  rw [g_drop xs k e he] at hd ⊢
  simp only [ascB, Bool.and_eq_true, decide_eq_true_eq] at hd
  have h3 : cntE v (e :: xs.drop (k + 1)) = cntE v [e] + cntE v (xs.drop (k + 1)) := cnt_append v [e] _
  have h4 : cntE v [e] = 0 := by unfold cntE; simp [show ¬ e ≤ v by omega]
  have h5 := cnt_none (xs.drop (k + 1)) e v hd.2 h1
  omega
theorem span_ex : ∀ (xs : List Int) (l v : Int), ascB l xs = true → l ≤ v → v < lastE l xs → ∃ k e, xs[k]? = some e ∧ lastE l (xs.take k) ≤ v ∧ v < e
  | [], l, v, _, h0, h1 => by simp only [lastE] at h1; omega
  | x :: r, l, v, ha, h0, h1 => by
    simp only [ascB, Bool.and_eq_true, decide_eq_true_eq] at ha
    simp only [lastE] at h1
    rcases Int.lt_or_le v x with h | h
    · exact ⟨0, x, rfl, h0, h⟩
    · obtain ⟨k, e, h2, h3, h4⟩ := span_ex r x v ha.2 h h1
      exact ⟨k + 1, e, by simpa using h2, by simpa [lastE] using h3, h4⟩
theorem iv_back {xs : List Int} {k : Nat} {e v : Int} (ha : ascB 0 xs = true) (he : xs[k]? = some e) (h0 : 0 ≤ v) (h1 : v < lastE 0 xs) (hk : ivE xs v = (k : Int)) : lastE 0 (xs.take k) ≤ v ∧ v < e := by
  obtain ⟨q, f, h2, h3, h4⟩ := span_ex xs 0 v ha h0 h1
  have h5 := iv_at ha h2 h3 h4
  obtain rfl : q = k := by omega
  rw [he] at h2
  injection h2 with h2
  subst h2
  exact ⟨h3, h4⟩

/-! ### a shard is valid -/
theorem runK_of {lo hi : Int} : ∀ (es : List KE) (p q : Int), (∀ e ∈ es, kedgeB lo hi e = true) → es.Pairwise (fun a b => afterB a.f a.i b = true) → (∀ e ∈ es, afterB p q e = true) → runK lo hi p q es = true
  | [], _, _, _, _, _ => rfl
  | a :: r, p, q, h1, h2, h3 => by
    obtain ⟨h4, h5⟩ := List.pairwise_cons.1 h2
    rw [runK, Bool.and_eq_true, Bool.and_eq_true]
    exact ⟨⟨h1 a (by simp), h3 a (by simp)⟩, runK_of r a.f a.i (fun e he => h1 e (by simp [he])) h5 h4⟩
theorem recs_nodup (ends : List Int) (es : List GE) : ((sortedRecs ends es).map GE.w).Nodup := by
  have h := (sortR_perm (recsK ends es es.length)).map GE.w
  unfold sortedRecs
  refine h.nodup_iff.2 ?_
  have e : (recsK ends es es.length).map GE.w = rangeI es.length := by
    unfold recsK rangeI
    rw [List.map_map]
    refine List.map_congr_left fun j hj => ?_
    have hj := List.mem_range.1 hj
    show (recAt ends es j).w = (j : Int)
    rw [recAt_some (List.getElem?_eq_getElem hj)]
  rw [e]
  exact rangeI_nodup _
theorem dealt_mem {ends : List Int} {es : List GE} {N : Int} {p : Nat} {k : KE} (hg : graphB N es = true) (he : endsB N ends = true) (h : k ∈ dealt es (sortedRecs ends es) (p : Int)) : ∃ (j : Nat) (e : GE), es[j]? = some e ∧ k = ⟨e.f, e.t, e.w, (j : Int), 0⟩ ∧ ivE ends e.t = (p : Int) := by
  unfold dealt at h
  obtain ⟨r, hr, rfl⟩ := List.mem_map.1 h
  obtain ⟨hr, hp⟩ := List.mem_filter.1 hr
  obtain ⟨q, j, e, rfl, _, hj, _, hq⟩ := rec_range hg he hr
  have hp2 : (q : Int) = (p : Int) := by simpa using hp
  exact ⟨j, e, hj, keOf_some _ _ hj, by rw [← hq, hp2]⟩
theorem dealt_pair {ends : List Int} {es : List GE} {N : Int} {p : Nat} (hg : graphB N es = true) (he : endsB N ends = true) : (dealt es (sortedRecs ends es) (p : Int)).Pairwise (fun a b => afterB a.f a.i b = true) := by
  have h1 : (sortedRecs ends es).Pairwise (fun a b => leR a b ∧ a.w ≠ b.w) := by
    refine List.Pairwise.and ?_ ?_
    · exact sortR_sorted _
    · have := recs_nodup ends es
      rw [List.Nodup, List.pairwise_map] at this
      exact this
  unfold dealt
  rw [List.pairwise_map]
  have h2 := h1.filter (fun r => decide (r.f = (p : Int)))
  refine (List.pairwise_iff_forall_sublist.2 fun {a b} hs => ?_)
  have h3 := (List.pairwise_iff_forall_sublist.1 h2) hs
  have ha : a ∈ (sortedRecs ends es).filter (fun r => decide (r.f = (p : Int))) := hs.subset (by simp)
  have hb : b ∈ (sortedRecs ends es).filter (fun r => decide (r.f = (p : Int))) := hs.subset (by simp)
  obtain ⟨ha1, ha2⟩ := List.mem_filter.1 ha
  obtain ⟨hb1, hb2⟩ := List.mem_filter.1 hb
  obtain ⟨qa, ja, ea, rfl, _, hja, _, _⟩ := rec_range hg he ha1
  obtain ⟨qb, jb, eb, rfl, _, hjb, _, _⟩ := rec_range hg he hb1
  have ha3 : (qa : Int) = (p : Int) := by simpa using ha2
  have hb3 : (qb : Int) = (p : Int) := by simpa using hb2
  obtain ⟨h4, h5⟩ := h3
  unfold leR at h4
  rw [lessR_no] at h4
  simp only at h4 h5
  rw [keOf_some _ _ hja, keOf_some _ _ hjb]
  unfold afterB
  rw [decide_eq_true_eq]
  show ea.f < eb.f ∨ (ea.f = eb.f ∧ (ja : Int) < (jb : Int))
  omega
theorem shard_valid {ends : List Int} {es : List GE} {N : Int} {p : Nat} {e : Int} (hg : graphB N es = true) (he : endsB N ends = true) (hp : ends[p]? = some e) : shardB (lastE 0 (ends.take p)) e (dealt es (sortedRecs ends es) (p : Int)) = true := by
  obtain ⟨a1, a2, a3, a4⟩ := endsB_iff he
  obtain ⟨b1, b2, b3⟩ := asc_at hp a1
  obtain ⟨g1, g2, g3, g4⟩ := graphB_iff hg
  have hl := dealt_len es (sortedRecs ends es) (p : Int)
  rw [sortedRecs_len] at hl
  rw [shardB_yes b1 b2 (by omega) (by omega)]
  refine runK_of _ _ _ (fun k hk => ?_) (dealt_pair hg he) (fun k hk => ?_)
  · obtain ⟨j, x, hj, rfl, hv⟩ := dealt_mem hg he hk
    have hx := edgeB_iff (g4 x (List.mem_of_getElem? hj))
    have hjl := (List.getElem?_eq_some_iff.1 hj).1
    obtain ⟨v1, v2⟩ := iv_back a1 hp hx.2.2.1 (by rw [a4]; exact hx.2.2.2.1) hv
    unfold kedgeB
    rw [decide_eq_true_eq]
    refine ⟨hx.1, by have := hx.2.1; show x.f < 150; omega, v1, v2, hx.2.2.2.2.1, hx.2.2.2.2.2, by simp, by show (j : Int) < 400; omega, by simp, by simp⟩
  · obtain ⟨j, x, hj, rfl, hv⟩ := dealt_mem hg he hk
    have hx := edgeB_iff (g4 x (List.mem_of_getElem? hj))
    unfold afterB
    rw [decide_eq_true_eq]
    exact .inl (by have := hx.1; show (-1 : Int) < x.f; omega)

/-! ### joined, they are the graph -/
def rowFrom (D : Nat → List KE) : List Int → Int → Nat → List SD
  | [], _, _ => []
  | e :: r, l, k => (l, e, D k) :: rowFrom D r e (k + 1)
theorem rowFrom_len (D : Nat → List KE) : ∀ (xs : List Int) (l : Int) (k : Nat), (rowFrom D xs l k).length = xs.length
  | [], _, _ => rfl
  | e :: r, l, k => by rw [rowFrom, List.length_cons, rowFrom_len D r, List.length_cons]
theorem rowFrom_get (D : Nat → List KE) : ∀ (xs : List Int) (l : Int) (k p : Nat) (e : Int), xs[p]? = some e → (rowFrom D xs l k)[p]? = some (lastE l (xs.take p), e, D (k + p))
  | [], _, _, p, e, h => by simp at h
  | x :: r, l, k, 0, e, h => by
    have : x = e := by simpa using h
    subst this
    simp [rowFrom, lastE]
  | x :: r, l, k, p + 1, e, h => by
    rw [rowFrom, List.getElem?_cons_succ, rowFrom_get D r x (k + 1) p e (by simpa using h), List.take_succ_cons, lastE, show k + 1 + p = k + (p + 1) by omega]
theorem row_from (ends : List Int) (es L : List GE) : shardRow ends es L ends.length = rowFrom (fun p => dealt es L (p : Int)) ends 0 0 := by
  apply List.ext_getElem?
  intro p
  by_cases h : p < ends.length
  · have he : ends[p]? = some ends[p] := List.getElem?_eq_getElem h
    rw [shardRow_get h, rowFrom_get _ ends 0 0 p _ he, Nat.zero_add]
    unfold shardAt
    rw [span_yes he]
  · rw [List.getElem?_eq_none (by rw [shardRow_len]; omega), List.getElem?_eq_none (by rw [rowFrom_len]; omega)]
theorem chain_from {N : Int} (D : Nat → List KE) : ∀ (xs : List Int) (l : Int) (k : Nat), lastE l xs = N → (∀ p e, xs[p]? = some e → shardB (lastE l (xs.take p)) e (D (k + p)) = true) → chainB N l (rowFrom D xs l k) = true
  | [], l, k, h, _ => by simpa [rowFrom, chainB, lastE] using h
  | e :: r, l, k, h, hv => by
    rw [rowFrom, chainB, Bool.and_eq_true, Bool.and_eq_true, decide_eq_true_eq]
    refine ⟨⟨by simpa [lastE] using hv 0 e rfl, rfl⟩, ?_⟩
    refine chain_from D r e (k + 1) h (fun p f hp => ?_)
    have := hv (p + 1) f (by simpa using hp)
    rw [List.take_succ_cons, lastE] at this
    rw [show k + 1 + p = k + (p + 1) by omega]
    exact this
theorem shards_chain {ends : List Int} {es : List GE} {N : Int} (hg : graphB N es = true) (he : endsB N ends = true) : chainB N 0 (shardRow ends es (sortedRecs ends es) ends.length) = true := by
  rw [row_from]
  refine chain_from _ ends 0 0 (endsB_iff he).2.2.2 (fun p e hp => ?_)
  rw [Nat.zero_add]
  exact shard_valid hg he hp
theorem filt_split (L : List GE) (n : Nat) : (L.filter (fun r => decide (0 ≤ r.f ∧ r.f < ((n + 1 : Nat) : Int)))).length = (L.filter (fun r => decide (0 ≤ r.f ∧ r.f < (n : Int)))).length + (L.filter (fun r => decide (r.f = (n : Int)))).length := by
  induction L with
  | nil => rfl
  | cons r L ih =>
    simp only [List.filter_cons]
    by_cases h1 : 0 ≤ r.f ∧ r.f < (n : Int)
    · rw [if_pos (by rw [decide_eq_true_eq]; omega), if_pos (by rw [decide_eq_true_eq]; omega), if_neg (by rw [decide_eq_true_eq]; omega), List.length_cons, List.length_cons]
      omega
    · by_cases h2 : r.f = (n : Int)
      · rw [if_pos (by rw [decide_eq_true_eq]; omega), if_neg (by rw [decide_eq_true_eq]; omega), if_pos (by rw [decide_eq_true_eq]; omega), List.length_cons, List.length_cons]
        omega
      · rw [if_neg (by rw [decide_eq_true_eq]; omega), if_neg (by rw [decide_eq_true_eq]; omega), if_neg (by rw [decide_eq_true_eq]; omega)]
        exact ih
theorem flat_row_len (ends : List Int) (es L : List GE) : ∀ n : Nat, (flatK (shardRow ends es L n)).length = (L.filter (fun r => decide (0 ≤ r.f ∧ r.f < (n : Int)))).length
  | 0 => by
    have : L.filter (fun r => decide (0 ≤ r.f ∧ r.f < ((0 : Nat) : Int))) = [] := List.filter_eq_nil_iff.2 (fun r _ => by rw [decide_eq_true_eq]; omega)
    rw [this]
    simp [shardRow, flatK]
  | n + 1 => by
    rw [shardRow_step, flatK_append, List.length_append, flat_row_len ends es L n, filt_split]
    congr 1
    simp [flatK, shardAt, dealt]
theorem shards_joined {ends : List Int} {es : List GE} {N : Int} (hg : graphB N es = true) (he : endsB N ends = true) : joinB N (shardRow ends es (sortedRecs ends es) ends.length) = true ∧ es = edgesJ (flatK (shardRow ends es (sortedRecs ends es) ends.length)) := by
  have hlen : (flatK (shardRow ends es (sortedRecs ends es) ends.length)).length = es.length := by
    rw [flat_row_len]
    have : (sortedRecs ends es).filter (fun r => decide (0 ≤ r.f ∧ r.f < (ends.length : Int))) = sortedRecs ends es := List.filter_eq_self.2 (fun r hr => by
      obtain ⟨p, j, e, rfl, hp, _⟩ := rec_range hg he hr
      rw [decide_eq_true_eq]
      show 0 ≤ (p : Int) ∧ (p : Int) < (ends.length : Int)
      omega)
    rw [this, sortedRecs_len]
  have hin : ∀ (j : Nat) (e : GE), es[j]? = some e → (⟨e.f, e.t, e.w, (j : Int), 0⟩ : KE) ∈ flatK (shardRow ends es (sortedRecs ends es) ends.length) := fun j e hj => by
    have hm : (⟨ivE ends e.t, e.f, (j : Int)⟩ : GE) ∈ sortedRecs ends es := by
      unfold sortedRecs
      refine (sortR_perm _).mem_iff.2 ?_
      unfold recsK
      exact List.mem_map.2 ⟨j, List.mem_range.2 (List.getElem?_eq_some_iff.1 hj).1, recAt_some hj⟩
    obtain ⟨p, j2, e2, h1, hp, _, _, _⟩ := rec_range hg he hm
    have hpv : ivE ends e.t = (p : Int) := by injection h1
    refine List.mem_flatMap.2 ⟨shardAt ends es (sortedRecs ends es) p, List.mem_map.2 ⟨p, List.mem_range.2 hp, rfl⟩, ?_⟩
    show _ ∈ dealt es (sortedRecs ends es) (p : Int)
    unfold dealt
    refine List.mem_map.2 ⟨_, List.mem_filter.2 ⟨hm, by rw [decide_eq_true_eq]; exact hpv⟩, keOf_some _ _ hj⟩
  refine join_yes (shards_chain hg he) (fun k hk => ?_) hlen.symm (fun j hj => ?_)
  · obtain ⟨s, hs, hk⟩ := List.mem_flatMap.1 hk
    obtain ⟨p, _, rfl⟩ := List.mem_map.1 hs
    obtain ⟨j, x, hj, rfl, _⟩ := dealt_mem hg he (show k ∈ dealt es (sortedRecs ends es) (p : Int) from hk)
    exact (edgeB_iff ((graphB_iff hg).2.2.2 x (List.mem_of_getElem? hj))).2.1
  · rw [hlen] at hj
    exact ⟨⟨es[j].f, es[j].t, es[j].w, (j : Int), 0⟩, hin j es[j] (List.getElem?_eq_getElem hj), rfl, List.getElem?_eq_getElem hj⟩

/-! ### the degrees of an interval -/
theorem degs_count (key : GE → Int) (n p : Nat) (hp : p < n) (es : List GE) : (degs key n es)[p]? = some (((es.filter (fun e => decide ((key e).toNat = p))).length : Nat) : Int) := by
  have h : ∀ k : Nat, k ≤ es.length → (degs key n (es.take k))[p]? = some ((((es.take k).filter (fun e => decide ((key e).toNat = p))).length : Nat) : Int) := by
    intro k
    induction k with
    | zero => intro _; simp [degs, hp]
    | succ k ih =>
      intro hk
      have ih := ih (by omega)
      have hj : es[k]? = some es[k] := List.getElem?_eq_getElem (by omega)
      rw [g_take es k _ hj, degs_snoc, bump, List.filter_append, List.length_append]
      by_cases h : (key es[k]).toNat = p
      · rw [h, List.getElem?_set_self (by rw [degs_len]; exact hp), List.getD_eq_getElem?_getD, ih]
        simp [h]
      · rw [List.getElem?_set_ne h, ih]
        simp [h]
  have h9 := h es.length (Nat.le_refl _)
  rw [List.take_length] at h9
  exact h9
theorem dealt_count {ends : List Int} {es : List GE} {N : Int} {p : Nat} (hg : graphB N es = true) (he : endsB N ends = true) : (dealt es (sortedRecs ends es) (p : Int)).length = (es.filter (fun e => decide ((ivE ends e.t).toNat = p))).length := by
  unfold dealt
  rw [List.length_map]
  have h1 : ((sortedRecs ends es).filter (fun r => decide (r.f = (p : Int)))).length = ((recsK ends es es.length).filter (fun r => decide (r.f = (p : Int)))).length := ((sortR_perm _).filter _).length_eq
  rw [h1]
  have h2 : ∀ k : Nat, k ≤ es.length → ((recsK ends es k).filter (fun r => decide (r.f = (p : Int)))).length = ((es.take k).filter (fun e => decide ((ivE ends e.t).toNat = p))).length := by
    intro k
    induction k with
    | zero => intro _; simp [recsK]
    | succ k ih =>
      intro hk
      have hj : es[k]? = some es[k] := List.getElem?_eq_getElem (by omega)
      rw [recsK_step hj, g_take es k _ hj, List.filter_append, List.filter_append, List.length_append, List.length_append, ih (by omega)]
      congr 1
      have hx := edgeB_iff ((graphB_iff hg).2.2.2 es[k] (List.mem_of_getElem? hj))
      have hr := iv_range (xs := ends) (v := es[k].t) hx.2.2.1 (by rw [(endsB_iff he).2.2.2]; exact hx.2.2.2.1)
      by_cases h : ivE ends es[k].t = (p : Int)
      · have h' : (ivE ends es[k].t).toNat = p := by omega
        simp [h]
      · have h' : ¬ (ivE ends es[k].t).toNat = p := by omega
        simp [h, h']
  have h3 := h2 es.length (Nat.le_refl _)
  rw [List.take_length] at h3
  exact h3
theorem dealt_sum {ends : List Int} {es : List GE} {N : Int} {p : Nat} {e : Int} (hg : graphB N es = true) (he : endsB N ends = true) (hp : ends[p]? = some e) : sumAt (degs GE.t N.toNat es) (lastE 0 (ends.take p)) e = ((dealt es (sortedRecs ends es) (p : Int)).length : Int) := by
  have hpl := (List.getElem?_eq_some_iff.1 hp).1
  have h1 := holds_degs hg he
  have h2 : holdsR N es ends = holdsL (degs GE.t N.toNat es) 0 ends := by unfold holdsR; rw [if_pos ⟨hg, he⟩]
  have h3 : (holdsL (degs GE.t N.toNat es) 0 ends)[p]? = some (sumAt (degs GE.t N.toNat es) (lastE 0 (ends.take p)) e) := by
    unfold holdsL
    rw [List.getElem?_map, pairsE_get ends 0 p e hp]
    rfl
  rw [← h2, h1, degs_count _ _ _ hpl] at h3
  injection h3 with h3
  rw [dealt_count hg he, ← h3]

/-! ### the ends that the greedy division gives -/
theorem cutGo_ends : ∀ (l : List Int) (b v s l0 : Int), l0 < v → ascB l0 (cutGo b v s l) = true ∧ lastE l0 (cutGo b v s l) = v + l.length
  | [], b, v, s, l0, h => by simp [cutGo, ascB, lastE, h]
  | d :: r, b, v, s, l0, h => by
    rw [cutGo]
    split
    · obtain ⟨h1, h2⟩ := cutGo_ends r b (v + 1) d v (by omega)
      simp only [ascB, lastE, Bool.and_eq_true, decide_eq_true_eq]
      exact ⟨⟨h, h1⟩, by rw [h2, List.length_cons]; omega⟩
    · obtain ⟨h1, h2⟩ := cutGo_ends r b (v + 1) (s + d) l0 (by omega)
      exact ⟨h1, by rw [h2, List.length_cons]; omega⟩
theorem cut_ends {N : Int} {es : List GE} {b : Int} (hg : graphB N es = true) (h1 : 1 ≤ b) (h2 : b ≤ 400) : endsB N (cutR N es b) = true := by
  obtain ⟨g1, g2, _, _⟩ := graphB_iff hg
  have hd := degs_len GE.t N.toNat es
  unfold cutR
  rw [if_pos ⟨hg, h1, h2⟩]
  generalize degs GE.t N.toNat es = ds at hd
  have h : ascB 0 (cutFrom b 0 ds) = true ∧ lastE 0 (cutFrom b 0 ds) = ds.length := by
    cases ds with
    | nil => exact ⟨rfl, rfl⟩
    | cons d r =>
      obtain ⟨h3, h4⟩ := cutGo_ends r b (0 + 1) d 0 (by omega)
      exact ⟨h3, by rw [cutFrom, h4, List.length_cons]; omega⟩
  rw [ends_yes h.1, decide_eq_true_eq]
  exact ⟨g1, g2, by rw [h.2]; omega⟩
/-- What is so of the shard at place p. -/
structure ShAt (N : Int) (es : List GE) (ends ds : List Int) (p : Nat) (lo hi : Int) (D : List KE) : Prop where
  lo0 : 0 ≤ lo
  lt : lo < hi
  top : hi ≤ ds.length
  ok : shardB lo hi D = true
  sum : sumAt ds lo hi = (D.length : Int)
  iv : ∀ v : Int, lo ≤ v → v < hi → ivE ends v = (p : Int)
theorem shards_at {N : Int} {es : List GE} {ends : List Int} {size : Int} {p : Nat} (hg : graphB N es = true) (he : endsB N ends = true) (hs : 1 ≤ size) (hp : p < ends.length) : ∃ lo hi D, (shardsR N es ends size)[p]? = some (lo, hi, D) ∧ ShAt N es ends (degsOf GE.t N es) p lo hi D := by
  have hq : ends[p]? = some ends[p] := List.getElem?_eq_getElem hp
  obtain ⟨a1, a2, a3, a4⟩ := endsB_iff he
  obtain ⟨b1, b2, b3⟩ := asc_at hq a1
  have hd : degsOf GE.t N es = degs GE.t N.toNat es := if_pos hg
  refine ⟨lastE 0 (ends.take p), ends[p], dealt es (sortedRecs ends es) (p : Int), ?_, b1, b2, ?_, shard_valid hg he hq, ?_, fun v h1 h2 => iv_at a1 hq h1 h2⟩
  · rw [shardsR_yes hg he hs, shardRow_get hp]
    unfold shardAt
    rw [span_yes hq]
  · rw [hd, degs_len]; omega
  · rw [hd]; exact dealt_sum hg he hq
theorem shards_graph {N : Int} {es : List GE} {ends : List Int} {size : Int} (hg : graphB N es = true) (he : endsB N ends = true) (hs : 1 ≤ size) : joinB N (shardsR N es ends size) = true ∧ joinN N (shardsR N es ends size) = N ∧ joinE N (shardsR N es ends size) = es ∧ (shardsR N es ends size).length = ends.length := by
  have h := shards_joined hg he
  rw [← shardsR_yes hg he hs] at h
  obtain ⟨j1, j2⟩ := join_some h.1
  exact ⟨h.1, j1, by rw [j2, ← h.2], by rw [shardsR_yes hg he hs, shardRow_len]⟩
end Go.Proofs.YtmbabbapcjphgaaDoor
