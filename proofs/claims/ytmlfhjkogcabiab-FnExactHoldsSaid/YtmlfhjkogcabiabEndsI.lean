/- The contracts of the program's EndsOk and Span: loops over its iterator. Condition: at most 2^20 ends. -/
import Derived.Test.YtmlfhjkogcabiabSpans
namespace Go.Proofs.Ytmlfhjkogcabiab
open Go.RowKit Go.Shelf
attribute [local go_sem] Oper.semAt_some

theorem box_own {W W' : World} {row : Option Nat} {B : Nat} {t : TypeId} {v : Value} (h : Boxed W B t v) (hg : W.grownBy W' row) (hr : ∀ r, row = some r → ∃ o : Obj, W.heap[r]? = some o ∧ o.isCells = false) : Boxed W' B t v :=
  h.kept hg (fun e => by
    obtain ⟨o, ho, hc⟩ := hr B e.symm
    rw [show W.heap[B]? = _ from h] at ho
    cases ho
    cases hc)

set_option maxRecDepth 100000 in
set_option maxHeartbeats 2000000 in
theorem implEndsOk_in (F : Fence) (m : Nat) (h1 : F.fn 10) (h2 : F.fn 26) (h3 : F.fn 37) (hro : F.round = none) (hm : 3 ≤ m) (N : Int) (A : Option Addr) (n c : Nat) (es : List Int) (w : World) (hI : SlI w A n es) (hn : n ≤ 1048576) :
    CallsIn F m Try.prog 10 #[.int .i64 N, .slice A n c] w (GTell w (endsB N es)) := by
  have hm1 : 1 ≤ m := by omega
  have HL := Lib.hid hI.len
  have HI := Lib.hid hI
  clear hI
  refine callsIn_of_wp_marks Try.func10 rfl h1 ?_ hro
  simp only [Try.ntmps10, List.size_toArray, List.length_cons, List.length_nil, Nat.reduceAdd, Nat.reduceSub, Array.replicate_succ, Array.replicate_zero, List.push_toArray, List.append_toArray, List.nil_append, List.cons_append]
  gi_wp2_with (gi_at_call 26; refine (spans_in F (m - 1) h2 hro _ _ _ _).mono ?_; rintro e w' ⟨rfl, rfl⟩)
  have bR := (Boxed.new w 4 (.bool false)).alloc (.cells #[.int .i64 0] 3)
  have bL := Boxed.new (w.alloc (.cells #[.bool false] 4)) 3 (.int .i64 0)
  have bN := Boxed.new ((w.alloc (.cells #[.bool false] 4)).alloc (.cells #[.int .i64 0] 3)) 22 (.slice A n c)
  rw [World.size_alloc] at bL bN
  rw [World.size_alloc] at bN
  have hB0 : Below w.heap.size w (((w.alloc (.cells #[.bool false] 4)).alloc (.cells #[.int .i64 0] 3)).alloc (.cells #[.slice A n c] 22)) := below_a3 _ _ _ _
  refine wpIn_rangeFunc_ownG hro hm1 (gf := 37) (lb := #[.pointer (some ⟨w.heap.size + 1 + 1, 0, none⟩)]) rfl h3 (enters_of Try.func37 (by kernel_rfl) rfl)
    (spans_stops id (pairsE 0 es) F (m - 1) h3 hro (by omega) (w.heap.size + 1 + 1) A n c es (List.map_id _) w HI.out hn _ hB0 (by simp) bN.cell) belowK_t (belowK_b (by simp; omega)) (Below.refl _ _) (fun _ => rfl)
    (fun pre W => (Boxed W w.heap.size 4 (.bool false) ∧ upP pre ∧ Boxed W (w.heap.size + 1) 3 (.int .i64 (lastP pre))) ∧ Below w.heap.size w W)
    (fun c pre W => (c = .ret ∧ dnP pre ∧ Boxed W w.heap.size 4 (.bool false)) ∧ Below w.heap.size w W)
    (OwnFrom.and (Own.from (fun s A B row hs hg hr => ⟨box_own hs.1 hg hr, hs.2.1, box_own hs.2.2 hg hr⟩) _) (ownFrom_below (Nat.le_refl _) (by simp; omega)))
    (fun c => OwnFrom.and (Own.from (fun s A B row hs hg hr => ⟨hs.1, hs.2.1, box_own hs.2.2 hg hr⟩) _) (ownFrom_below (Nat.le_refl _) (by simp; omega)))
    ⟨⟨bR.alloc _, by intro p hp; simp at hp, bL.alloc _⟩, hB0⟩
    (fun x => { tmps := #[.int .i64 N, .slice A n c, undef, undef, .pointer (some ⟨w.heap.size, 0, none⟩), .pointer (some ⟨w.heap.size + 1, 0, none⟩), .int .i64 x.1, .int .i64 x.2, .slice A n c, .func (.func 37) #[] #[.pointer (some ⟨w.heap.size + 1 + 1, 0, none⟩)], .int .i64 x.1, .int .i64 x.2, undef, undef, undef, undef, undef, undef, undef, undef, undef, undef, undef, undef, undef, undef, undef], defers := [] }) ?assign ?body ?done ?stop
  case assign =>
    intro l x W K hK
    gi_wp2
    exact hK
  case body =>
    rintro l pre ⟨lo, hi⟩ W ⟨⟨bR, hall, bL⟩, hB⟩ _
    have hc := bL.cell
    have hf := bL.frozen
    have hd := bR.cell
    have hg := bR.frozen
    by_cases hx : hi ≤ lo
    · gi_wp2
      exact ⟨(KeepsOthers.setCell _ _ _).from _, ⟨rfl, dnP_snoc hx, bR.set _⟩, hB.setCell (p := ⟨w.heap.size, 0, none⟩) (Nat.le_refl _) _⟩
    · gi_wp2
      exact ⟨(KeepsOthers.setCell _ _ _).from _, (Below.refl w.heap.size W).setCell (p := ⟨w.heap.size + 1, 0, none⟩) (by simp) _, ⟨bR.other (by omega) _, upP_snoc hall (by omega), by rw [lastP_snoc]; exact bL.set _⟩, hB.setCell (p := ⟨w.heap.size + 1, 0, none⟩) (by simp) _⟩
  case done =>
    rintro D ys W hD rfl ⟨⟨bR, hall, bL⟩, hB⟩ hK
    have HV := Lib.hid (ends_yes (n := N) (asc_pairs es 0 hall))
    rw [lastP_pairs] at bL
    clear hall
    generalize lastE 0 es = q at HV bL
    have hc := bL.cell
    have hd := bR.cell
    have hf := bR.frozen
    have fin : ∀ (W' : World) (b : Bool), W'.heap[D]? = some (.deferred (some [])) → Boxed W' w.heap.size 4 (.bool b) → (W'.putObj D (.deferred none)).cell? ⟨w.heap.size, 0, none⟩ = some (.bool b) := fun W' b h1 h2 =>
      cell_kept h2.cell (grownBy_putObj' _ D (.deferred none)) (fun r e => by cases e; exact ⟨_, h1, rfl⟩)
    have hBT := hB.setCell (p := ⟨w.heap.size, 0, none⟩) (Nat.le_refl _) (.bool true)
    have hBF := hB.setCell (p := ⟨w.heap.size, 0, none⟩) (Nat.le_refl _) (.bool false)
    have hKT := (KeepsOthers.setCell W ⟨w.heap.size, 0, none⟩ (.bool true)).same D _ hK rfl
    have hKF := (KeepsOthers.setCell W ⟨w.heap.size, 0, none⟩ (.bool false)).same D _ hK rfl
    by_cases h1 : 0 ≤ N
    · by_cases h2 : N ≤ 150
      · by_cases h3 : q = N
        · have HW : Hid (endsB N es = true) := Lib.hid (by rw [HV.out]; simp; omega)
          gi_wp2
          refine ⟨by simp, .inl ⟨_, _, rfl, run_takeDeferred hKT, ?_⟩⟩
          have hc5 := fin _ true hKT (bR.set _)
          exact ⟨.bool true, by simp [results, Try.f10, go_sem, hc5], by rw [HW.out], hBT.trans (belowK_b (w := w) (Nat.le_refl _) _ D _ _ (by simp at hD; omega) hKT rfl rfl)⟩
        · have HW : Hid (endsB N es = false) := Lib.hid (by rw [HV.out]; simp; omega)
          have h4 : (q == N) = false := by simp; omega
          gi_wp2
          refine ⟨by simp, .inl ⟨_, _, rfl, run_takeDeferred hKF, ?_⟩⟩
          have hc5 := fin _ false hKF (bR.set _)
          exact ⟨.bool false, by simp [results, Try.f10, go_sem, hc5], by rw [HW.out], hBF.trans (belowK_b (w := w) (Nat.le_refl _) _ D _ _ (by simp at hD; omega) hKF rfl rfl)⟩
      · have HW : Hid (endsB N es = false) := Lib.hid (by rw [HV.out]; simp; omega)
        gi_wp2
        refine ⟨by simp, .inl ⟨_, _, rfl, run_takeDeferred hKF, ?_⟩⟩
        have hc5 := fin _ false hKF (bR.set _)
        exact ⟨.bool false, by simp [results, Try.f10, go_sem, hc5], by rw [HW.out], hBF.trans (belowK_b (w := w) (Nat.le_refl _) _ D _ _ (by simp at hD; omega) hKF rfl rfl)⟩
    · have HW : Hid (endsB N es = false) := Lib.hid (by rw [HV.out]; simp; omega)
      gi_wp2
      refine ⟨by simp, .inl ⟨_, _, rfl, run_takeDeferred hKF, ?_⟩⟩
      have hc5 := fin _ false hKF (bR.set _)
      exact ⟨.bool false, by simp [results, Try.f10, go_sem, hc5], by rw [HW.out], hBF.trans (belowK_b (w := w) (Nat.le_refl _) _ D _ _ (by simp at hD; omega) hKF rfl rfl)⟩
  case stop =>
    rintro D c pre W hD ⟨k, _, rfl⟩ ⟨⟨rfl, ⟨p, hp1, hp2⟩, bR⟩, hB⟩ hK
    have hE : endsB N es = false := by
      rw [pairsE_take] at hp1
      unfold endsB
      rw [asc_no (asc_pairs_no _ _ p hp1 hp2)]
      rfl
    gi_wp2
    refine ⟨by simp, .inl ⟨_, _, rfl, run_takeDeferred hK, ?_⟩⟩
    have hc5 := cell_kept bR.cell (grownBy_putObj' _ D (.deferred none)) (fun r e => by cases e; exact ⟨_, hK, rfl⟩)
    exact ⟨.bool false, by simp [results, Try.f10, go_sem, hc5], by rw [hE], hB.trans (belowK_b (w := w) (Nat.le_refl _) W D _ _ (by simp at hD; omega) hK rfl rfl)⟩
theorem implEndsOk (N : Int) (A : Option Addr) (n c : Nat) (es : List Int) (w : World) (hI : SlI w A n es) (hn : n ≤ 1048576) :
    Calls Try.prog 10 #[.int .i64 N, .slice A n c] w (GTell w (endsB N es)) :=
  callsIn_wide.1 (implEndsOk_in Fence.wide 3 trivial trivial trivial rfl (Nat.le_refl _) N A n c es w hI hn)

def noP (p : Int) (ps : List (Int × Int)) : Prop := ∀ j : Nat, j < ps.length → (j : Int) ≠ p
def atP (p : Int) (x : Int × Int) (ps : List (Int × Int)) : Prop := ∃ k : Nat, p = (k : Int) ∧ ps[k]? = some x
theorem noP_snoc {p : Int} {ps : List (Int × Int)} {x : Int × Int} (h : noP p ps) (hx : (ps.length : Int) ≠ p) : noP p (ps ++ [x]) := fun j hj => by
  rw [List.length_append] at hj
  simp at hj
  rcases Nat.lt_or_ge j ps.length with h1 | h1
  · exact h j h1
  · obtain rfl : j = ps.length := by omega
    exact hx
theorem atP_snoc {p : Int} {ps : List (Int × Int)} {x : Int × Int} (hx : (ps.length : Int) = p) : atP p x (ps ++ [x]) := ⟨ps.length, hx.symm, by simp⟩
theorem noP_span {p : Int} {es : List Int} (h : noP p (pairsE 0 es)) : spanR es p = (0, 0) := by
  refine span_no ?_
  by_cases h1 : p < 0
  · exact .inl h1
  · refine .inr ?_
    by_cases h2 : p < es.length
    · exact absurd (by omega) (h p.toNat (by rw [pairsE_len]; omega))
    · omega
theorem atP_span {p : Int} {x : Int × Int} {es : List Int} {k : Nat} (h : atP p x ((pairsE 0 es).take k)) : spanR es p = x := by
  obtain ⟨j, rfl, h⟩ := h
  rw [List.getElem?_take] at h
  split at h
  · have hj := (List.getElem?_eq_some_iff.1 h).1
    rw [pairsE_len] at hj
    have he : es[j]? = some es[j] := List.getElem?_eq_getElem hj
    rw [pairsE_get es 0 j _ he] at h
    injection h with h
    rw [span_yes he, h]
  · cases h

def TwoP (w : World) (r : Int × Int) (e : Ending) (w' : World) : Prop := e = .returned (.tuple #[.int .i64 r.1, .int .i64 r.2]) ∧ Below w.heap.size w w'

set_option maxRecDepth 100000 in
set_option maxHeartbeats 2000000 in
theorem implSpan_in (F : Fence) (m : Nat) (h1 : F.fn 25) (h2 : F.fn 26) (h3 : F.fn 37) (hro : F.round = none) (hm : 3 ≤ m) (A : Option Addr) (n c : Nat) (es : List Int) (p : Int) (w : World) (hI : SlI w A n es) (hn : n ≤ 1048576) :
    CallsIn F m Try.prog 25 #[.slice A n c, .int .i64 p] w (TwoP w (spanR es p)) := by
  have hm1 : 1 ≤ m := by omega
  have HL := Lib.hid hI.len
  have HI := Lib.hid hI
  clear hI
  refine callsIn_of_wp_marks Try.func25 rfl h1 ?_ hro
  simp only [Try.ntmps25, List.size_toArray, List.length_cons, List.length_nil, Nat.reduceAdd, Nat.reduceSub, Array.replicate_succ, Array.replicate_zero, List.push_toArray, List.append_toArray, List.nil_append, List.cons_append]
  gi_wp2_with (gi_at_call 26; refine (spans_in F (m - 1) h2 hro _ _ _ _).mono ?_; rintro e w' ⟨rfl, rfl⟩)
  have bP := (Boxed.new w 3 (.int .i64 p)).alloc (.cells #[.int .i64 0] 3)
  have b1 := Boxed.new (w.alloc (.cells #[.int .i64 p] 3)) 3 (.int .i64 0)
  have b2 := Boxed.new ((w.alloc (.cells #[.int .i64 p] 3)).alloc (.cells #[.int .i64 0] 3)) 3 (.int .i64 0)
  have bA := Boxed.new (((w.alloc (.cells #[.int .i64 p] 3)).alloc (.cells #[.int .i64 0] 3)).alloc (.cells #[.int .i64 0] 3)) 3 (.int .i64 0)
  have bN := Boxed.new ((((w.alloc (.cells #[.int .i64 p] 3)).alloc (.cells #[.int .i64 0] 3)).alloc (.cells #[.int .i64 0] 3)).alloc (.cells #[.int .i64 0] 3)) 22 (.slice A n c)
  simp only [World.size_alloc] at b1 b2 bA bN
  have bP := ((bP.alloc (.cells #[.int .i64 0] 3)).alloc (.cells #[.int .i64 0] 3)).alloc (.cells #[.slice A n c] 22)
  have b1 := ((b1.alloc (.cells #[.int .i64 0] 3)).alloc (.cells #[.int .i64 0] 3)).alloc (.cells #[.slice A n c] 22)
  have b2 := (b2.alloc (.cells #[.int .i64 0] 3)).alloc (.cells #[.slice A n c] 22)
  have bA := bA.alloc (.cells #[.slice A n c] 22)
  have hB0 : Below w.heap.size w (((((w.alloc (.cells #[.int .i64 p] 3)).alloc (.cells #[.int .i64 0] 3)).alloc (.cells #[.int .i64 0] 3)).alloc (.cells #[.int .i64 0] 3)).alloc (.cells #[.slice A n c] 22)) := ((below_a3 _ _ _ _).alloc (by simp; omega) _).alloc (by simp; omega) _
  refine wpIn_rangeFunc_ownG hro hm1 (gf := 37) (lb := #[.pointer (some ⟨w.heap.size + 1 + 1 + 1 + 1, 0, none⟩)]) rfl h3 (enters_of Try.func37 (by kernel_rfl) rfl)
    (spans_stops id (pairsE 0 es) F (m - 1) h3 hro (by omega) (w.heap.size + 1 + 1 + 1 + 1) A n c es (List.map_id _) w HI.out hn _ hB0 (by simp) bN.cell) belowK_t (belowK_b (by simp; omega)) (Below.refl _ _) (fun _ => rfl)
    (fun pre W => (Boxed W w.heap.size 3 (.int .i64 p) ∧ noP p pre ∧ Boxed W (w.heap.size + 1) 3 (.int .i64 0) ∧ Boxed W (w.heap.size + 1 + 1) 3 (.int .i64 0) ∧ Boxed W (w.heap.size + 1 + 1 + 1) 3 (.int .i64 (pre.length : Nat))) ∧ Below w.heap.size w W)
    (fun c pre W => (c = .ret ∧ ∃ x : Int × Int, atP p x pre ∧ Boxed W (w.heap.size + 1) 3 (.int .i64 x.1) ∧ Boxed W (w.heap.size + 1 + 1) 3 (.int .i64 x.2)) ∧ Below w.heap.size w W)
    (OwnFrom.and (Own.from (fun s A B row hs hg hr => ⟨box_own hs.1 hg hr, hs.2.1, box_own hs.2.2.1 hg hr, box_own hs.2.2.2.1 hg hr, box_own hs.2.2.2.2 hg hr⟩) _) (ownFrom_below (Nat.le_refl _) (by simp; omega)))
    (fun c => OwnFrom.and (Own.from (fun s A B row hs hg hr => by obtain ⟨e1, x, e2, e3, e4⟩ := hs; exact ⟨e1, x, e2, box_own e3 hg hr, box_own e4 hg hr⟩) _) (ownFrom_below (Nat.le_refl _) (by simp; omega)))
    ⟨⟨bP, by intro j hj; simp at hj, b1, b2, bA⟩, hB0⟩
    (fun x => { tmps := #[.slice A n c, .int .i64 p, undef, .pointer (some ⟨w.heap.size, 0, none⟩), .pointer (some ⟨w.heap.size + 1, 0, none⟩), .pointer (some ⟨w.heap.size + 1 + 1, 0, none⟩), .pointer (some ⟨w.heap.size + 1 + 1 + 1, 0, none⟩), .int .i64 x.1, .int .i64 x.2, .slice A n c, .func (.func 37) #[] #[.pointer (some ⟨w.heap.size + 1 + 1 + 1 + 1, 0, none⟩)], .int .i64 x.1, .int .i64 x.2, undef, undef, undef, undef, undef, undef, undef], defers := [] }) ?assign ?body ?done ?stop
  case assign =>
    intro l x W K hK
    gi_wp2
    exact hK
  case body =>
    rintro l pre ⟨lo, hi⟩ W ⟨⟨bP, hno, b1, b2, bA⟩, hB⟩ hlt
    have hlt2 : pre.length < 1048576 := by omega
    have cP := bP.cell
    have c1 := b1.cell
    have f1 := b1.frozen
    have c2 := b2.cell
    have f2 := b2.frozen
    have cA := bA.cell
    have fA := bA.frozen
    have HNO := Lib.hid hno
    clear hno
    by_cases hx : (pre.length : Int) = p
    · have hq : ((pre.length : Int) == p) = true := by simp; omega
      gi_wp2
      exact ⟨((KeepsOthers.setCell _ _ _).trans (KeepsOthers.setCell _ _ _)).from _, ⟨rfl, (lo, hi), atP_snoc hx, (b1.set _).other (by omega) _, (b2.other (by omega) _).set _⟩, (hB.setCell (p := ⟨w.heap.size + 1, 0, none⟩) (by simp) _).setCell (p := ⟨w.heap.size + 1 + 1, 0, none⟩) (by simp; omega) _⟩
    · have hq : ((pre.length : Int) == p) = false := by simp; omega
      gi_wp2
      refine ⟨(KeepsOthers.setCell _ _ _).from _, (Below.refl w.heap.size W).setCell (p := ⟨w.heap.size + 1 + 1 + 1, 0, none⟩) (by simp; omega) _, ⟨bP.other (by omega) _, noP_snoc HNO.out hx, b1.other (by omega) _, b2.other (by omega) _, ?_⟩, hB.setCell (p := ⟨w.heap.size + 1 + 1 + 1, 0, none⟩) (by simp; omega) _⟩
      have := bA.set (.int .i64 ((pre.length : Int) + 1))
      simpa using this
  case done =>
    rintro D ys W hD rfl ⟨⟨bP, hno, b1, b2, bA⟩, hB⟩ hK
    have c1 := b1.cell
    have f1 := b1.frozen
    have c2 := b2.cell
    have f2 := b2.frozen
    have HV := Lib.hid (noP_span hno)
    rw [HV.out]
    clear hno
    have hK' := (KeepsOthers.setCell (W.setCell ⟨w.heap.size + 1, 0, none⟩ (.int .i64 0)) ⟨w.heap.size + 1 + 1, 0, none⟩ (.int .i64 0)).same D _ ((KeepsOthers.setCell W ⟨w.heap.size + 1, 0, none⟩ (.int .i64 0)).same D _ hK rfl) rfl
    have hBB := (hB.setCell (p := ⟨w.heap.size + 1, 0, none⟩) (by simp) (.int .i64 0)).setCell (p := ⟨w.heap.size + 1 + 1, 0, none⟩) (by simp; omega) (.int .i64 0)
    have d1 := cell_kept ((b1.set (.int .i64 0)).other (B' := w.heap.size + 1 + 1) (by omega) (.int .i64 0)).cell (grownBy_putObj' _ D (.deferred none)) (fun r e => by cases e; exact ⟨_, hK', rfl⟩)
    have d2 := cell_kept ((b2.other (B' := w.heap.size + 1) (by omega) (.int .i64 0)).set (.int .i64 0)).cell (grownBy_putObj' _ D (.deferred none)) (fun r e => by cases e; exact ⟨_, hK', rfl⟩)
    gi_wp2
    refine ⟨by simp, .inl ⟨_, _, rfl, run_takeDeferred hK', ?_⟩⟩
    exact ⟨.tuple #[.int .i64 0, .int .i64 0], by simp [results, Try.f25, go_sem, d1, d2], by rw [HV.out], hBB.trans (belowK_b (w := w) (Nat.le_refl _) _ D _ _ (by simp at hD; omega) hK' rfl rfl)⟩
  case stop =>
    rintro D c pre W hD ⟨k, _, rfl⟩ ⟨⟨rfl, x, hat, b1, b2⟩, hB⟩ hK
    have HV := Lib.hid (atP_span hat)
    have d1 := cell_kept b1.cell (grownBy_putObj' _ D (.deferred none)) (fun r e => by cases e; exact ⟨_, hK, rfl⟩)
    have d2 := cell_kept b2.cell (grownBy_putObj' _ D (.deferred none)) (fun r e => by cases e; exact ⟨_, hK, rfl⟩)
    gi_wp2
    refine ⟨by simp, .inl ⟨_, _, rfl, run_takeDeferred hK, ?_⟩⟩
    exact ⟨.tuple #[.int .i64 x.1, .int .i64 x.2], by simp [results, Try.f25, go_sem, d1, d2], by rw [HV.out], hB.trans (belowK_b (w := w) (Nat.le_refl _) W D _ _ (by simp at hD; omega) hK rfl rfl)⟩
theorem implSpan (A : Option Addr) (n c : Nat) (es : List Int) (p : Int) (w : World) (hI : SlI w A n es) (hn : n ≤ 1048576) :
    Calls Try.prog 25 #[.slice A n c, .int .i64 p] w (TwoP w (spanR es p)) :=
  callsIn_wide.1 (implSpan_in Fence.wide 3 trivial trivial trivial rfl (Nat.le_refl _) A n c es p w hI hn)
end Go.Proofs.Ytmlfhjkogcabiab
