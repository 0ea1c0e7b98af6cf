/- Plain mathematics of sorting records of three numbers: an order in full, insertion, what is sorted, cutting into batches (no condition). // The contracts of cmp.Compare, cmp.Or and of the program's comparison of two records (no condition). // Words for records in memory (no condition). // Words for rows of records that a call makes (plain lemmas over the model; no condition). // The contracts of slices.Clone and slices.SortFunc over records and of the program's SortOne. Condition: at most 2^21 records. -/
import Derived.Test.YtpgnappddddlpaaCOA
import Derived.StillTailTactics
import Derived.Sort.Grow
import Derived.Test.YtpgnappddddlpaaShelfRec
import Derived.Shelf.SlSortCmp.WholeK
import Derived.Shelf.SlSortCmp.NoneTotal
import Derived.Lib.SliceRun
namespace Go.Proofs.Ytpgnappddddlpaa

/-- Field after field. -/
def lessR (x y : GE) : Bool := if x.f ≠ y.f then decide (x.f < y.f) else if x.t ≠ y.t then decide (x.t < y.t) else decide (x.w < y.w)
theorem lessR_iff (x y : GE) : lessR x y = true ↔ x.f < y.f ∨ (x.f = y.f ∧ (x.t < y.t ∨ (x.t = y.t ∧ x.w < y.w))) := by
  unfold lessR
  by_cases h1 : x.f = y.f
  · rw [if_neg (by simp [h1])]
    by_cases h2 : x.t = y.t
    · rw [if_neg (by simp [h2]), decide_eq_true_iff]; omega
    · rw [if_pos h2, decide_eq_true_iff]; omega
  · rw [if_pos h1, decide_eq_true_iff]; omega
theorem lessR_no (x y : GE) : lessR x y = false ↔ ¬ (x.f < y.f ∨ (x.f = y.f ∧ (x.t < y.t ∨ (x.t = y.t ∧ x.w < y.w)))) := by
  rw [← lessR_iff]; simp
def leR (x y : GE) : Prop := lessR y x = false
theorem leR_refl (x : GE) : leR x x := by unfold leR; rw [lessR_no]; omega
theorem leR_trans {x y z : GE} (h1 : leR x y) (h2 : leR y z) : leR x z := by
  unfold leR at *
  rw [lessR_no] at *
  omega
theorem leR_total (x y : GE) : leR x y ∨ leR y x := by
  unfold leR
  rw [lessR_no, lessR_no]
  omega
theorem leR_antisymm {x y : GE} (h1 : leR x y) (h2 : leR y x) : x = y := by
  unfold leR at *
  rw [lessR_no] at *
  obtain ⟨a, b, c⟩ := x
  obtain ⟨a', b', c'⟩ := y
  simp only at *
  have : a = a' ∧ b = b' ∧ c = c' := by omega
  obtain ⟨rfl, rfl, rfl⟩ := this
  rfl
theorem leR_of_less {x y : GE} (h : lessR x y = true) : leR x y := by
  unfold leR
  rw [lessR_no]
  rw [lessR_iff] at h
  omega
def SortedR (l : List GE) : Prop := l.Pairwise leR
/-- One record put in behind all that are not greater. -/
def insR (x : GE) : List GE → List GE
  | [] => [x]
  | y :: r => if lessR x y then x :: y :: r else y :: insR x r
def sortR (l : List GE) : List GE := l.foldl (fun out x => insR x out) []
theorem insR_perm (x : GE) : ∀ l, (insR x l).Perm (x :: l)
  | [] => List.Perm.refl _
  | y :: r => by
    unfold insR
    split
    · exact List.Perm.refl _
    · exact ((insR_perm x r).cons y).trans (List.Perm.swap x y r)
theorem insR_sorted (x : GE) : ∀ l, SortedR l → SortedR (insR x l)
  | [], _ => by simp [insR, SortedR]
  | y :: r, h => by
    unfold SortedR at h
    rw [List.pairwise_cons] at h
    unfold insR
    split
    · rename_i hl
      unfold SortedR
      rw [List.pairwise_cons]
      refine ⟨fun z hz => ?_, List.pairwise_cons.2 h⟩
      rcases List.mem_cons.1 hz with rfl | hz
      · exact leR_of_less hl
      · exact leR_trans (leR_of_less hl) (h.1 z hz)
    · rename_i hl
      unfold SortedR
      rw [List.pairwise_cons]
      refine ⟨fun z hz => ?_, insR_sorted x r h.2⟩
      rcases List.mem_cons.1 ((insR_perm x r).mem_iff.1 hz) with rfl | hz
      · unfold leR; simpa using hl
      · exact h.1 z hz
theorem fold_perm : ∀ (l out : List GE), (l.foldl (fun out x => insR x out) out).Perm (out ++ l)
  | [], out => by simp
  | x :: r, out => by
    rw [List.foldl_cons]
    refine (fold_perm r _).trans ?_
    refine ((insR_perm x out).append_right r).trans ?_
    rw [List.cons_append]
    exact (List.perm_middle).symm
theorem fold_sorted : ∀ (l out : List GE), SortedR out → SortedR (l.foldl (fun out x => insR x out) out)
  | [], _, h => h
  | x :: r, out, h => by rw [List.foldl_cons]; exact fold_sorted r _ (insR_sorted x out h)
theorem sortR_perm (l : List GE) : (sortR l).Perm l := by simpa [sortR] using fold_perm l []
theorem sortR_sorted (l : List GE) : SortedR (sortR l) := fold_sorted l [] (by simp [SortedR])
/-- Two sorted lists of the same records are the same. -/
theorem sorted_unique : ∀ (l m : List GE), SortedR l → SortedR m → l.Perm m → l = m
  | [], m, _, _, h => by simpa using h.symm
  | x :: r, [], _, _, h => by simp at h
  | x :: r, y :: s, hl, hm, h => by
    unfold SortedR at hl hm
    rw [List.pairwise_cons] at hl hm
    have hxy : x = y := by
      have hx : x ∈ y :: s := h.mem_iff.1 (by simp)
      have hy : y ∈ x :: r := h.mem_iff.2 (by simp)
      rcases List.mem_cons.1 hx with e | hx
      · exact e
      · rcases List.mem_cons.1 hy with e | hy
        · exact e.symm
        · exact leR_antisymm (hl.1 y hy) (hm.1 x hx)
    subst hxy
    rw [sorted_unique r s hl.2 hm.2 ((List.perm_cons x).1 h)]
theorem sorted_is {l m : List GE} (h : SortedR m) (hp : m.Perm l) : m = sortR l := sorted_unique _ _ h (sortR_sorted l) (hp.trans (sortR_perm l).symm)
/-- Neighbours alone are asked. -/
def sortedB : List GE → Bool
  | [] => true
  | [_] => true
  | x :: y :: r => !lessR y x && sortedB (y :: r)
theorem sortedB_iff : ∀ l, sortedB l = true ↔ SortedR l
  | [] => by simp [sortedB, SortedR]
  | [x] => by simp [sortedB, SortedR]
  | x :: y :: r => by
    have ih := sortedB_iff (y :: r)
    unfold sortedB
    rw [Bool.and_eq_true, ih]
    unfold SortedR
    rw [List.pairwise_cons (a := x)]
    constructor
    · rintro ⟨h1, h2⟩
      refine ⟨fun z hz => ?_, h2⟩
      have hxy : leR x y := by unfold leR; simpa using h1
      rcases List.mem_cons.1 hz with rfl | hz
      · exact hxy
      · exact leR_trans hxy ((List.pairwise_cons.1 h2).1 z hz)
    · rintro ⟨h1, h2⟩
      have := h1 y (by simp)
      unfold leR at this
      exact ⟨by rw [this]; rfl, h2⟩
theorem sortedB_at {l : List GE} (h : ∀ i x y, l[i]? = some x → l[i + 1]? = some y → lessR y x = false) : sortedB l = true := by
  induction l with
  | nil => rfl
  | cons x r ih =>
    cases r with
    | nil => rfl
    | cons y s =>
      unfold sortedB
      rw [h 0 x y rfl rfl, ih (fun i a b h1 h2 => h (i + 1) a b (by simpa using h1) (by simpa using h2))]
      rfl
theorem sortedB_no {l : List GE} {i : Nat} {x y : GE} (h1 : l[i]? = some x) (h2 : l[i + 1]? = some y) (h : lessR y x = true) : sortedB l = false := by
  cases hh : sortedB l with
  | false => rfl
  | true =>
    have hs := (sortedB_iff l).1 hh
    unfold SortedR at hs
    obtain ⟨g1, rfl⟩ := List.getElem?_eq_some_iff.1 h1
    obtain ⟨g2, rfl⟩ := List.getElem?_eq_some_iff.1 h2
    have := List.pairwise_iff_getElem.1 hs i (i + 1) g1 g2 (by omega)
    unfold leR at this
    rw [h] at this
    cases this
/-- Insertion at a place: behind all that are not greater. -/
theorem insR_at (x : GE) : ∀ (l : List GE) (k : Nat), (∀ y ∈ l.take k, lessR x y = false) → k ≤ l.length → (∀ y, l[k]? = some y → lessR x y = true) → insR x l = l.take k ++ x :: l.drop k
  | [], k, _, hk, _ => by simp at hk; subst hk; rfl
  | y :: r, 0, _, _, h => by
    have := h y rfl
    simp [insR, this]
  | y :: r, k + 1, h1, hk, h2 => by
    have hy := h1 y (by simp)
    unfold insR
    rw [if_neg (by rw [hy]; simp), insR_at x r k (fun z hz => h1 z (by simp [hz])) (by simpa using hk) (fun z hz => h2 z (by simpa using hz))]
    rfl
/-- Cut into batches of k. -/
def chunks (k : Nat) : Nat → List GE → List (List GE)
  | 0, _ => []
  | fuel + 1, l => if l = [] then [] else l.take k :: chunks k fuel (l.drop k)
end Go.Proofs.Ytpgnappddddlpaa
namespace Go.Proofs.Ytpgnappddddlpaa
open Go.RowKit Go.Sort

def cmpI (a b : Int) : Int := if a < b then -1 else if b < a then 1 else 0
def orI : List Int → Int
  | [] => 0
  | x :: r => if x = 0 then orI r else x
def cmpR (x y : GE) : Int := orI [cmpI x.f y.f, cmpI x.t y.t, cmpI x.w y.w]
theorem cmpI_lt (a b : Int) : cmpI a b < 0 ↔ a < b := by unfold cmpI; split <;> (try split) <;> omega
theorem cmpI_eq (a b : Int) : cmpI a b = 0 ↔ a = b := by unfold cmpI; split <;> (try split) <;> omega
theorem cmpR_lt (x y : GE) : cmpR x y < 0 ↔ lessR x y = true := by
  rw [lessR_iff]
  unfold cmpR orI orI orI orI
  have h1 := cmpI_lt x.f y.f
  have h2 := cmpI_lt x.t y.t
  have h3 := cmpI_lt x.w y.w
  have e1 := cmpI_eq x.f y.f
  have e2 := cmpI_eq x.t y.t
  have e3 := cmpI_eq x.w y.w
  split
  · split
    · split <;> omega
    · omega
  · omega
theorem cmpR_less (x y : GE) : decide (cmpR x y < 0) = lessR x y := by
  rw [Bool.eq_iff_iff, decide_eq_true_iff]
  exact cmpR_lt x y

theorem nan_any (a : Int) (w : World) : Calls Try.prog 175 #[.int .i64 a] w fun e w' => e = .returned (.bool false) ∧ w' = w := by
  have h : (a != a) = false := by simp
  go_enter Try.func175, Try.ntmps175
  go_wp2
  go_ret
  exact ⟨by simp, rfl⟩
theorem cmpI_any (a b : Int) (w : World) : Calls Try.prog 168 #[.int .i64 a, .int .i64 b] w fun e w' => e = .returned (.int .i64 (cmpI a b)) ∧ w' = w := by
  obtain ⟨r, hr⟩ : ∃ r, cmpI a b = r := ⟨_, rfl⟩
  have HR := Lib.hid hr
  rw [hr]
  clear hr
  by_cases h1 : a < b
  · have hr : r = -1 := by rw [← HR.out]; unfold cmpI; rw [if_pos h1]
    subst hr
    go_enter Try.func168, Try.ntmps168
    go_wp2_with (go_at_call 175; refine (nan_any _ _).mono ?_; rintro e w' ⟨rfl, rfl⟩)
    go_ret
    exact ⟨rfl, rfl⟩
  · by_cases h2 : b < a
    · have hr : r = 1 := by rw [← HR.out]; unfold cmpI; rw [if_neg h1, if_pos h2]
      subst hr
      go_enter Try.func168, Try.ntmps168
      go_wp2_with (go_at_call 175; refine (nan_any _ _).mono ?_; rintro e w' ⟨rfl, rfl⟩)
      go_ret
      exact ⟨rfl, rfl⟩
    · have hr : r = 0 := by rw [← HR.out]; unfold cmpI; rw [if_neg h1, if_neg h2]
      subst hr
      go_enter Try.func168, Try.ntmps168
      go_wp2_with (go_at_call 175; refine (nan_any _ _).mono ?_; rintro e w' ⟨rfl, rfl⟩)
      go_ret
      exact ⟨rfl, rfl⟩

theorem orI_skip {xs : List Int} {k : Nat} (h : xs[k]? = some 0) (e : orI (xs.drop k) = orI xs) : orI (xs.drop (k + 1)) = orI xs := by
  obtain ⟨hk, hx⟩ := List.getElem?_eq_some_iff.1 h
  rw [List.drop_eq_getElem_cons hk, hx, orI, if_pos rfl] at e
  exact e
theorem orI_hit {xs : List Int} {k : Nat} {x : Int} (h : xs[k]? = some x) (h0 : ¬ x = 0) (e : orI (xs.drop k) = orI xs) : orI xs = x := by
  obtain ⟨hk, hx⟩ := List.getElem?_eq_some_iff.1 h
  rw [List.drop_eq_getElem_cons hk, hx, orI, if_neg h0] at e
  exact e.symm
theorem orI_end {xs : List Int} {k : Nat} (h : xs.length ≤ k) (e : orI (xs.drop k) = orI xs) : orI xs = 0 := by
  rw [List.drop_eq_nil_of_le h] at e
  exact e.symm
theorem orI_any (A : Option Addr) (n c : Nat) (xs : List Int) (w : World) (hr : SlI w A n xs) (hn : n ≤ 1000) :
    Calls Try.prog 167 #[.slice A n c] w fun e w' => e = .returned (.int .i64 (orI xs)) ∧ w' = w := by
  have HR := Lib.hid hr
  have HL := Lib.hid hr.len
  clear hr
  go_enter Try.func167, Try.ntmps167
  go_wp2
  go_loop [8] (fun i => ∃ k : Nat, k ≤ n ∧ i = .int .i64 k ∧ Hid (orI (xs.drop k) = orI xs)) (fun i => n - (intOf i).toNat)
  case atStart => exact ⟨0, Nat.zero_le _, rfl, Lib.hid rfl⟩
  case round =>
    obtain ⟨k, hk, rfl, hd⟩ := hrel
    by_cases hlt : k < n
    · obtain ⟨b, off, x, rfl, hbw, he, c0⟩ := HR.out.at_ hlt
      by_cases hx : x = 0
      · subst hx
        have HD := Lib.hid (orI_skip he.out hd.out)
        go_wp2
        go_round
        case rel => exact ⟨k + 1, by omega, by go_num, HD⟩
        case measure => simp [intOf]; omega
      · have HD := Lib.hid (orI_hit he.out hx hd.out)
        have hx1 : (x == 0) = false := by simpa using hx
        have hx2 : (x != 0) = true := by simpa using hx
        go_wp2
        go_ret
        exact ⟨g_int HD.out.symm, rfl⟩
    · have HD := Lib.hid (orI_end (k := k) (by rw [HL.out]; omega) hd.out)
      go_wp2
      go_ret
      exact ⟨g_int HD.out.symm, rfl⟩

theorem three_lies (W : World) (r1 r2 r3 : Int) (t : TypeId) : SlI (W.alloc (.cells #[.int .i64 r1, .int .i64 r2, .int .i64 r3] t)) (some ⟨W.heap.size, 0, none⟩) 3 [r1, r2, r3] := by
  refine ⟨rfl, rfl, fun _ => ⟨_, _, rfl, by simp, fun j v hj => ?_⟩⟩
  match j, hj with
  | 0, hj => simp [vi] at hj; subst hj; simp
  | 1, hj => simp [vi] at hj; subst hj; simp
  | 2, hj => simp [vi] at hj; subst hj; simp

set_option maxRecDepth 100000 in
set_option maxHeartbeats 1000000 in
theorem cmpR_any (x y : GE) (w : World) :
    Calls Try.prog 159 #[.agg #[.int .i64 x.f, .int .i64 x.t, .int .i64 x.w], .agg #[.int .i64 y.f, .int .i64 y.t, .int .i64 y.w]] w fun e w' => e = .returned (.int .i64 (cmpR x y)) ∧ ∃ q os, w' = grow (w.drewN q) os := by
  have HC := Lib.hid (fun w' (h : SlI w' (some ⟨w.heap.size + 1 + 1, 0, none⟩) 3 [cmpI x.f y.f, cmpI x.t y.t, cmpI x.w y.w]) => orI_any (some ⟨w.heap.size + 1 + 1, 0, none⟩) 3 3 _ w' h (by omega))
  have HR : Hid (orI [cmpI x.f y.f, cmpI x.t y.t, cmpI x.w y.w] = cmpR x y) := Lib.hid rfl
  have K1 := Lib.hid (fun W => cmpI_any x.f y.f W)
  have K2 := Lib.hid (fun W => cmpI_any x.t y.t W)
  have K3 := Lib.hid (fun W => cmpI_any x.w y.w W)
  generalize cmpI x.f y.f = r1 at *
  generalize cmpI x.t y.t = r2 at *
  generalize cmpI x.w y.w = r3 at *
  go_enter Try.func159, Try.ntmps159
  go_wp2_with fail
  obtain ⟨W, hW⟩ : ∃ W : World, W = ((w.alloc (.cells #[.int .i64 x.f, .int .i64 x.t, .int .i64 x.w] 150)).alloc (.cells #[.int .i64 y.f, .int .i64 y.t, .int .i64 y.w] 150)).drew := ⟨_, rfl⟩
  have a0 : W.cell? ⟨w.heap.size, 0, none⟩ = some (.int .i64 x.f) := by rw [hW]; simp
  have a1 : W.cell? ⟨w.heap.size, 1, none⟩ = some (.int .i64 x.t) := by rw [hW]; simp
  have a2 : W.cell? ⟨w.heap.size, 2, none⟩ = some (.int .i64 x.w) := by rw [hW]; simp
  have b0 : W.cell? ⟨w.heap.size + 1, 0, none⟩ = some (.int .i64 y.f) := by rw [hW]; simp
  have b1 : W.cell? ⟨w.heap.size + 1, 1, none⟩ = some (.int .i64 y.t) := by rw [hW]; simp
  have b2 : W.cell? ⟨w.heap.size + 1, 2, none⟩ = some (.int .i64 y.w) := by rw [hW]; simp
  have hz : Hid (W.heap.size = w.heap.size + 1 + 1) := Lib.hid (by rw [hW]; simp)
  refine wp_region_still_tail 15 (by kernel_rfl) (by kernel_rfl) ?_
  simp only [List.take_succ_cons, List.take_zero, List.drop_succ_cons, List.drop_zero]
  change wpStill _ _ (World.drew _) _ _ _
  rw [← hW]
  change wpStill _ _ _ (fun a' => wpList _ _ _ _ a' (World.drew _)) _ _
  rw [← hW]
  have HW := Lib.hid hW
  clear hW
  repeat still_step
  still_call (K1.out _)
  repeat still_step
  still_call (K2.out _)
  repeat still_step
  still_call (K3.out _)
  refine wpStill_nil ?_
  rw [← hz.out] at HC
  have HL := Lib.hid (three_lies W r1 r2 r3 3)
  go_wp2_with (go_at_call 167; refine (HC.out _ HL.out).mono ?_; rintro e w' ⟨rfl, rfl⟩)
  go_ret
  refine ⟨g_int HR.out, 1, #[.cells #[.int .i64 x.f, .int .i64 x.t, .int .i64 x.w] 150, .cells #[.int .i64 y.f, .int .i64 y.t, .int .i64 y.w] 150, .cells #[.int .i64 r1, .int .i64 r2, .int .i64 r3] 3], ?_⟩
  rw [HW.out]
  simp only [alloc_eq_grow, drew_grow, grow_grow]
  rfl

theorem below_grow (w : World) (q : Nat) (os : Array Obj) : Below w.heap.size w (grow (w.drewN q) os) :=
  ⟨rfl, rfl, rfl, by rw [size_grow]; show w.heap.size ≤ w.heap.size + _; omega, fun k hk => heap_grow_old (w.drewN q) os hk⟩
theorem cmpR_num (x y : GE) (w : World) :
    Calls Try.prog 159 #[.agg #[.int .i64 x.f, .int .i64 x.t, .int .i64 x.w], .agg #[.int .i64 y.f, .int .i64 y.t, .int .i64 y.w]] w (GNum w (cmpR x y)) :=
  (cmpR_any x y w).mono fun _ _ ⟨he, q, os, hw⟩ => ⟨he, by rw [hw]; exact below_grow w q os⟩

set_option maxHeartbeats 400000 in
theorem implLess (x y : GE) (w : World) :
    Calls Try.prog 145 #[.agg #[.int .i64 x.f, .int .i64 x.t, .int .i64 x.w], .agg #[.int .i64 y.f, .int .i64 y.t, .int .i64 y.w]] w (GTell w (lessR x y)) := by
  have HC := Lib.hid (fun W => cmpR_num x y W)
  have HL := Lib.hid (cmpR_less x y)
  generalize cmpR x y = r at *
  go_enter Try.func145, Try.ntmps145
  go_wp2_with fail
  refine (HC.out _).mono ?_
  rintro e w1 ⟨rfl, hb⟩
  have HB := Lib.hid hb
  clear hb
  go_wp2
  go_ret
  exact ⟨g_bool HL.out, g_chain (below_a2 _ _ _) HB.out⟩

/-- No record from k on comes before its predecessor. -/
def upFrom (es : List GE) (k : Nat) : Prop := ∀ j, k ≤ j → ∀ x y, es[j]? = some x → es[j + 1]? = some y → lessR y x = false

end Go.Proofs.Ytpgnappddddlpaa
namespace Go.Proofs.Ytpgnappddddlpaa
open Go.RowKit

theorem Try.infoRec : (Try.prog.info? 150).map (fun i => (i.zero, i.size, i.bytes)) = some (some (.agg #[.int .i64 0, .int .i64 0, .int .i64 0]), 3, 24) := by kernel_rfl
/-- New edges. -/
def MadeRc (w : World) (es : List GE) (e : Ending) (w' : World) : Prop :=
  ∃ A c, e = .returned (.slice A es.length c) ∧ w'.ownsRow w.heap.size 150 3 (.slice A es.length c) es.length (es.flatMap GE.cells) ∧ Below w.heap.size w w'
end Go.Proofs.Ytpgnappddddlpaa
namespace Go.Proofs.Ytpgnappddddlpaa
open Go.RowKit

theorem rec_form {w : World} {base e size n : Nat} {v : Value} {xs : List Value} (h : w.ownsRow base e size v n xs) : ∃ A c, v = .slice A n c := by
  rcases h.2 with ⟨rfl, rfl⟩ | ⟨g, cap, _, rfl, _⟩
  · exact ⟨_, _, rfl⟩
  · exact ⟨_, _, rfl⟩
theorem rec_built (w : World) : (w.alloc (.cells #[] 150)).ownsRow w.heap.size 150 3 (.slice (some ⟨w.heap.size, 0, none⟩) 0 0) 0 [] :=
  World.ownsRow_lit w #[] 0 (Nat.le_refl _) (by unfold maxLen; omega) rfl
theorem rec_below {w w1 : World} {o : Obj} {k c : Nat} (hg : (w.alloc o).grownBy w1 (Value.slice (some ⟨w.heap.size, 0, none⟩) k c).ownBlock) : Below w.heap.size w w1 :=
  ((Below.refl _ _).alloc (Nat.le_refl _) o).grown hg (by simp) (fun j hj => by simp [Value.ownBlock] at hj; omega)
/-- A new row of records. -/
def RowRc (w : World) (n : Nat) (es : List GE) (e : Ending) (w' : World) : Prop :=
  ∃ A c, e = .returned (.slice A n c) ∧ w'.ownsRow w.heap.size 150 3 (.slice A n c) n (es.flatMap GE.cells) ∧ Below w.heap.size w w'
theorem rec_one (es : List GE) : ∀ u ∈ es.flatMap GE.cells, u.oneCell' = true := fun u hu => by
  obtain ⟨e, _, he⟩ := List.mem_flatMap.1 hu
  simp only [GE.cells, List.mem_cons, List.not_mem_nil, or_false] at he
  rcases he with rfl | rfl | rfl <;> rfl
theorem rec_reads (w : World) (e : GE) (t : TypeId) (g : Nat) (hg : g = w.heap.size) : Reads (w.alloc (.cells #[.int .i64 e.f, .int .i64 e.t, .int .i64 e.w] t)) (g + 1) 3 (some ⟨g, 0, none⟩) 1 (GE.cells e) := by
  subst hg
  refine ⟨rfl, fun _ => ⟨_, rfl, by simp, fun j x hj => ?_⟩⟩
  match j, hj with
  | 0, hj => simp [GE.cells] at hj; subst hj; simp [Addr.add]
  | 1, hj => simp [GE.cells] at hj; subst hj; simp [Addr.add]
  | 2, hj => simp [GE.cells] at hj; subst hj; simp [Addr.add]
/-- A block that holds one record. -/
structure RBox (w : World) (b : Nat) (e : GE) : Prop where
  lt : b < w.heap.size
  c0 : w.cell? ⟨b, 0, none⟩ = some (.int .i64 e.f)
  c1 : w.cell? ⟨b, 1, none⟩ = some (.int .i64 e.t)
  c2 : w.cell? ⟨b, 2, none⟩ = some (.int .i64 e.w)
theorem RBox.below {w w' : World} {b : Nat} {e : GE} (h : RBox w b e) (hb : Below w.heap.size w w') : RBox w' b e :=
  ⟨Nat.lt_of_lt_of_le h.lt hb.size, (hb.cell (p := ⟨b, 0, none⟩) h.lt).trans h.c0, (hb.cell (p := ⟨b, 1, none⟩) h.lt).trans h.c1, (hb.cell (p := ⟨b, 2, none⟩) h.lt).trans h.c2⟩
theorem RBox.drew {w : World} {b : Nat} {e : GE} (h : RBox w b e) : RBox w.drew b e := ⟨h.lt, h.c0, h.c1, h.c2⟩
theorem RowRc.made {w : World} {n : Nat} {es : List GE} {e : Ending} {w' : World} (h : RowRc w n es e w') (hl : es.length = n) : MadeRc w es e w' := by
  subst hl
  exact h
end Go.Proofs.Ytpgnappddddlpaa
namespace Go.Proofs.Ytpgnappddddlpaa
open Go.RowKit Go.Sort Go.Shelf

instance : Inhabited GE := ⟨zeroG⟩
theorem rec_get! (d : List GE) (i : Nat) (h : i < d.length) : d.toArray[i]! = d[i] := by
  rw [getElem!_pos d.toArray i (by simpa using h)]
  simp
theorem flatK_is (d : List GE) : (flatK GE.cells 3 d.toArray).toList = d.flatMap GE.cells := by
  apply List.ext_getElem?
  intro t
  by_cases h : t < d.length * 3
  · have hd : t / 3 < d.length := by omega
    have e := flat_get GE.cells 3 GE.cells_len d (t / 3) (t % 3) d[t / 3] (List.getElem?_eq_getElem hd) (by omega)
    rw [show t / 3 * 3 + t % 3 = t by omega] at e
    have hz : t < (flatK GE.cells 3 d.toArray).size := by simpa using h
    rw [e, Array.getElem?_toList, Array.getElem?_eq_getElem hz, ← getElem!_pos (flatK GE.cells 3 d.toArray) t hz, get_flatK _ _ _ _ (by simpa using h), rec_get! d _ hd]
    have hr : t % 3 < (GE.cells d[t / 3]).length := by rw [GE.cells_len]; omega
    rw [List.getElem?_eq_getElem hr, getElem!_pos (GE.cells d[t / 3]) (t % 3) hr]
  · rw [List.getElem?_eq_none (by simp; omega), List.getElem?_eq_none (by rw [flat_len GE.cells 3 GE.cells_len]; omega)]

theorem ltOf_is (x y : GE) : ltOf cmpR x y = lessR x y := by
  unfold ltOf
  exact cmpR_less x y
theorem swo_cmp : SWO (ltOf cmpR) where
  irrefl x := by rw [ltOf_is, lessR_no]; omega
  trans x y z h1 h2 := by rw [ltOf_is, lessR_iff] at *; omega
  ntrans x y z h1 h2 := by rw [ltOf_is, lessR_no] at *; omega
theorem sort_is (l : List GE) (d' : Array GE) (hp : PermIn 0 l.toArray.size l.toArray d') (hs : SortedIn (ltOf cmpR) 0 l.toArray.size d') : d'.toList = sortR l := by
  obtain ⟨h1, _, h3⟩ := hp
  have hsz : d'.size = l.length := by simpa using h1
  have e1 : d'.extract 0 l.toArray.size = d' := by rw [← h1]; simp
  have e2 : l.toArray.extract 0 l.toArray.size = l.toArray := by simp
  rw [e1, e2] at h3
  refine sorted_is ?_ h3
  unfold SortedR
  rw [List.pairwise_iff_getElem]
  intro i j hi hj hij
  unfold leR
  have hi' : i < d'.size := by simpa using hi
  have hj' : j < d'.size := by simpa using hj
  have h := hs i j (Nat.zero_le _) hij (by rw [← h1]; exact hj')
  rw [ltOf_is, getElem!_pos d' i hi', getElem!_pos d' j hj'] at h
  simpa using h

/-! ### the row behind the sort -/
theorem heap_putV {w : World} {g n : Nat} {os : Array Obj} {cur : Array Value} {e : TypeId} {fr : Nat × Nat} (d : Array Value) (hb : w.heap[g]? = some (.cells cur e fr)) :
    (grow (putRow id (Sort.ahead w n) g 0 d) os).heap[g]? = some (.cells (putCells id 0 d cur) e fr) := by
  have hg : g < w.heap.size := (Array.getElem?_eq_some_iff.1 hb).1
  rw [heap_grow_old _ _ (by simpa using hg)]
  simp [putRow, mapBlock, Sort.ahead, Array.getElem?_modify, hb, onCells]
theorem grownBy_putV {w : World} {g n : Nat} {os : Array Obj} (d : Array Value) : w.grownBy (grow (putRow id (Sort.ahead w n) g 0 d) os) (some g) := by
  refine ⟨rfl, rfl, rfl, by simp, fun k hk hne => ?_⟩
  rw [heap_grow_old _ _ (by simpa using hk)]
  have : g ≠ k := fun e => hne (by rw [e])
  simp [putRow, mapBlock, Sort.ahead, Array.getElem?_modify, this]
theorem take_putV (cur : Array Value) (ts : Array Value) (h : ts.size ≤ cur.size) : (putCells id 0 ts cur).toList.take ts.size = ts.toList := by
  apply List.ext_getElem?
  intro j
  by_cases hj : j < ts.size
  · rw [List.getElem?_take_of_lt hj, Array.getElem?_toList]
    simp [putCells, hj, show j < cur.size by omega]
  · rw [List.getElem?_take_eq_none (by omega), List.getElem?_eq_none (by simp; omega)]

def SortedBy (w : World) (lo g n c : Nat) (es : List GE) (e : Ending) (w' : World) : Prop :=
  e = .returned (.tuple #[]) ∧ w'.ownsRow lo 150 3 (.slice (some ⟨g, 0, none⟩) n c) n ((sortR es).flatMap GE.cells) ∧ w.grownBy w' (some g)
theorem isAggRec (w : World) : (isAgg 150).run Try.prog w = .ok true w := by kernel_rfl
theorem sizeRec (w : World) : (Go.sizeOf 150).run Try.prog w = .ok 3 w := by kernel_rfl
theorem cmp_lays (blk off size : Nat) (w : World) : CmpLays Try.prog 159 #[] GE.cells 3 cmpR blk off size w :=
  fun _ _ _ _ x y => cmpR_any x y _
theorem cells_one (x : GE) : ∀ v ∈ GE.cells x, v.oneCell' = true := by
  intro v hv
  simp only [GE.cells, List.mem_cons, List.not_mem_nil, or_false] at hv
  rcases hv with rfl | rfl | rfl <;> rfl
theorem sortFunc_any (lo g n c : Nat) (es : List GE) (w : World) (ho : w.ownsRow lo 150 3 (.slice (some ⟨g, 0, none⟩) n c) n (es.flatMap GE.cells)) (hl : es.length = n) (hn : n ≤ 2097152) :
    Calls Try.prog 174 #[.slice (some ⟨g, 0, none⟩) n c, .func (.func 159) #[] #[]] w (SortedBy w lo g n c es) := by
  subst hl
  have hcs := ho.1
  rcases ho.2 with ⟨h, _⟩ | ⟨g', cap, cur, hv, hbase, hb, h1, h2, h3, h4⟩
  · cases h
  · injection hv with e1 _ e3
    injection e1 with e1
    injection e1 with e1
    subst e1 e3
    have hg : g < w.heap.size := (Array.getElem?_eq_some_iff.1 hb).1
    have hH : HoldsK GE.cells 3 w g 0 es.toArray := by
      intro t ht
      have ht' : t < es.length * 3 := by simpa using ht
      refine ⟨?_, by simp [World.frozen?, hb]⟩
      have e5 : (cur.toList.take (es.length * 3))[t]? = (es.flatMap GE.cells)[t]? := by rw [h4]
      rw [List.getElem?_take_of_lt ht', ← flatK_is, Array.getElem?_toList, Array.getElem?_toList] at e5
      simp only [World.cell?, hb, Nat.zero_add, Option.isSome_none, Bool.false_eq_true, if_false]
      rw [e5, Array.getElem?_eq_getElem ht, getElem!_pos (flatK GE.cells 3 es.toArray) t ht]
      rfl
    have eg : ∀ args w, (callFunc 159 args).run Try.prog w = .ok (.enter 159 args) w := enters_of Try.func159 (by kernel_rfl) rfl
    have hcon := AnyQ.slices_SortFunc Try.sortR 3 isAggRec sizeRec GE.cells GE.cells_len cells_one cmpR swo_cmp 159 #[] g 0 c es.toArray w eg (cmp_lays g 0 es.toArray.size w) hH hg (by simp; omega)
    refine hcon.mono ?_
    rintro e w' ⟨rfl, d', m, os, hp, hs, rfl⟩
    have hd := sort_is es d' hp hs
    have hsz : d'.size = es.length := by have := hp.1; simpa using this
    have hda : d' = (sortR es).toArray := by rw [← hd]
    refine ⟨rfl, ⟨?_, .inr ⟨g, c, _, rfl, hbase, heap_putV _ hb, h1, h2, ?_, ?_⟩⟩, grownBy_putV _⟩
    · rw [flat_len GE.cells 3 GE.cells_len, ← hd]
      simp [hsz]
    · simp [putCells, h3]
    · have hf : (flatK GE.cells 3 d').size = es.length * 3 := by rw [size_flatK, hsz]
      rw [← hf, take_putV _ _ (by rw [hf, h3]; omega), hda, flatK_is]

set_option maxRecDepth 10000 in
theorem cloneR (A : Option Addr) (n c : Nat) (es : List GE) (w : World) (hr : SlG w A n es) (hn : n ≤ 2097152) :
    Calls Try.prog 173 #[.slice A n c] w (RowRc w n es) := by
  obtain ⟨i0, hi, hz0, hz1, hz2⟩ := info_parts Try.infoRec
  have HONE := Lib.hid (rec_one es)
  rcases A with _ | a
  · obtain rfl : n = 0 := by
      rcases Nat.eq_zero_or_pos n with h | h
      · exact h
      · obtain ⟨_, _, h, _⟩ := hr.row.lies h
        cases h
    obtain rfl : es = [] := List.eq_nil_of_length_eq_zero hr.len
    have e1 := fun w : World => Lib.run_eql_slice_nil (P := Try.prog) w 148 150 none 0 c 0 0 Try.underlying148
    go_enter Try.func173, Try.ntmps173
    go_wp2
    go_ret
    exact ⟨none, 0, rfl, World.ownsRow_nil _ _ _ _, Below.refl _ _⟩
  · have e1 := fun w : World => Lib.run_eql_slice_nil (P := Try.prog) w 148 150 (some a) n c 0 0 Try.underlying148
    go_enter Try.func173, Try.ntmps173
    go_wp2_with (at_builtin; refine wpList_append_any _ rfl (.tmp 5) (.tmp 6) _ rfl w.heap.size 150 i0 _ 3 24 Try.underlying148 hi hz0 hz1 hz2 rfl (by omega) (.slice (some ⟨w.heap.size, 0, none⟩) 0 0) 0 [] rfl (rec_built w) w.heap.size (some a) n c (es.flatMap GE.cells) rfl (hr.row.reads.alloc (Nat.le_refl _) _) HONE.out (by simp only [maxLen]; omega) (by omega) (by simp) ?_; intro v1 w1 hown1 hg1 hat1)
    obtain ⟨A1, c1, rfl⟩ := rec_form hown1
    go_ret
    exact ⟨A1, c1, by simp, by simpa using hown1, rec_below hg1⟩

theorem sortR_nil : sortR [] = [] := rfl
set_option maxRecDepth 10000 in
theorem implSortOne (A : Option Addr) (n c : Nat) (es : List GE) (w : World) (hr : SlG w A n es) (hn : n ≤ 2097152) :
    Calls Try.prog 166 #[.slice A n c] w (RowRc w n (sortR es)) := by
  have HC := Lib.hid (cloneR A n c es w hr hn)
  have HL := Lib.hid hr.len
  clear hr
  rcases Nat.eq_zero_or_pos n with rfl | hpos
  · have HS := Lib.hid (fun (p : Option Addr) (q : Nat) (W : World) => AnyF.slices_SortFunc_none (P := Try.prog) (ρ := Try.sortR_ren) { Try.sortR with } p q (.func (.func 159) #[] #[]) W)
    have HE : Hid (es = []) := Lib.hid (List.eq_nil_of_length_eq_zero HL.out)
    go_enter Try.func166, Try.ntmps166
    go_wp2_with fail
    refine HC.out.mono ?_
    rintro e w1 ⟨A1, c1, rfl, ho1, hb1⟩
    have HO := Lib.hid ho1
    have HB := Lib.hid hb1
    clear ho1 hb1
    go_wp2_with fail
    refine (HS.out A1 c1 _).mono ?_
    rintro e w2 ⟨rfl, rfl⟩
    go_wp2
    go_ret
    exact ⟨A1, c1, rfl, by rw [HE.out, sortR_nil, ← HE.out]; exact HO.out, HB.out⟩
  · go_enter Try.func166, Try.ntmps166
    go_wp2_with fail
    refine HC.out.mono ?_
    rintro e w1 ⟨A1, c1, rfl, ho1, hb1⟩
    obtain ⟨g, rfl⟩ := g_own_at ho1 hpos
    have HB := Lib.hid hb1
    have HG := Lib.hid ((ho1.lt g rfl).1)
    have HS := Lib.hid (sortFunc_any w.heap.size g n c1 es w1 ho1 HL.out hn)
    clear ho1 hb1
    go_wp2_with fail
    refine HS.out.mono ?_
    rintro e w2 ⟨rfl, ho2, hg2⟩
    have HO := Lib.hid ho2
    have HB2 := Lib.hid (HB.out.grown hg2 HB.out.size (fun j hj => by injection hj with hj; rw [← hj]; exact HG.out))
    clear ho2 hg2
    go_wp2
    go_ret
    exact ⟨_, c1, rfl, HO.out, HB2.out⟩
end Go.Proofs.Ytpgnappddddlpaa
