/- The program's iterator over the intervals of ends: a closure that reads the slice between two rounds; its contract for whatever loop body. Condition: at most 2^20 ends. // The contracts of the program's EndsOk and Span: loops over its iterator. Condition: at most 2^20 ends. -/
import Derived.RangeFuncNested
import Derived.RangeFuncBound
import Derived.RangeFuncCalls
import Derived.RangeFuncLeaves
import Derived.RangeFuncBox
import Derived.Shelf.Abstract
import Derived.Shelf.RegionOpen
import Derived.WalkKit
import Derived.OwnWalkIn
import Derived.TacticsInMore
import Derived.LoopNIn
import Derived.LoopIn
import Derived.Test.YtbfdhlpncblahaaEndsMath
namespace Go.Proofs.Ytbfdhlpncblahaa
open Go.RowKit Go.Shelf
attribute [local go_sem] Oper.semAt_some

set_option maxRecDepth 100000 in
set_option maxHeartbeats 2000000 in
theorem spans1_in {α : Type} (f : α → Int × Int) (ps : List α) (F : Fence) (m : Nat) (hf : F.fn 108) (hro : F.round = none) (hm : 1 ≤ m) (l Bs : Nat) (A : Option Addr) (n c : Nat) (es : List Int) (hps : ps.map f = pairsE 0 es) (w0 : World) (hI : SlI w0 A n es) (hn : n ≤ 1048576) (J Jx : List α → World → Prop)
    (hY : ∀ pre x W, J pre W → pre.length < n → YieldAt F (m - 1) Try.prog l #[.int .i64 (f x).1, .int .i64 (f x).2] W fun e W' =>
      (e = .returned (.bool true) ∧ J (pre ++ [x]) W' ∧ Below w0.heap.size W W') ∨ (e = .returned (.bool false) ∧ Jx (pre ++ [x]) W'))
    (W : World) (hW : Below w0.heap.size w0 W) (hBs : W.cell? ⟨Bs, 0, none⟩ = some (.slice A n c)) (h0 : J [] W) :
    CallsIn F m Try.prog 108 #[.func (.yield l) #[] #[], .pointer (some ⟨Bs, 0, none⟩)] W fun e W' => (∃ v, e = .returned v) ∧
      ((∃ ys, ys = ps ∧ J ys W') ∨ (∃ pre, (∃ k, k ≤ n ∧ pre = ps.take k) ∧ Jx pre W')) := by
  have hpl : ps.length = n := by have := congrArg List.length hps; rw [List.length_map, pairsE_len, hI.len] at this; exact this
  refine callsIn_of_wp Try.func108 rfl hf ?_ hro
  simp only [Try.ntmps108, List.size_toArray, List.length_cons, List.length_nil, Nat.reduceAdd, Nat.reduceSub, Array.replicate_succ, Array.replicate_zero, List.push_toArray, List.append_toArray, List.nil_append, List.cons_append]
  gi_wp2
  gi_loopw [3, 8] (fun v i wr => ∃ k : Nat, k ≤ n ∧ i = .int .i64 k ∧ v = .int .i64 (lastE 0 (es.take k)) ∧ J (ps.take k) wr ∧ Below w0.heap.size w0 wr)
    (fun _ i _ => n - (intOf i).toNat)
  case atStart => exact ⟨0, Nat.zero_le _, rfl, rfl, h0, hW⟩
  case round =>
    obtain ⟨k, hk, rfl, rfl, hJs, hnx⟩ := hrel
    by_cases hlt : k < n
    · obtain ⟨b, off, x, rfl, hbw, hx, hcx⟩ := hI.at_ hlt
      have hcx := (hnx.cell (p := ⟨b, off + k, none⟩) hbw).trans hcx
      have hpk : ps[k]? = some (ps[k]'(by omega)) := List.getElem?_eq_getElem (by omega)
      generalize ps[k]'(by omega) = y at hpk
      have hfy : f y = (lastE 0 (es.take k), x) := by
        have h1 : (ps.map f)[k]? = some (f y) := by rw [List.getElem?_map, hpk]; rfl
        rw [hps, pairsE_get es 0 k x hx.out] at h1
        injection h1 with h1
        exact h1.symm
      obtain ⟨fn, tmps, assign, body, hy, hR⟩ := hY _ y wr hJs (by rw [List.length_take]; omega)
      rw [hfy] at hy
      dsimp only at hy
      have hs : ps.take (k + 1) = ps.take k ++ [y] := g_take ps k y hpk
      have hl2 : lastE 0 (es.take (k + 1)) = x := last_step hx.out
      clear hx
      gi_wp2
      refine hR.mono ?_
      rintro e W3 (⟨rfl, hJ3, hk3⟩ | ⟨rfl, hJx3⟩)
      · gi_wp2
        go_roundw
        case rel => exact ⟨k + 1, by omega, by simp, by rw [hl2], by rw [hs]; exact hJ3, hnx.trans hk3⟩
        case measure => simp [intOf]; omega
      · gi_wp2
        refine bodyPost_ret (results_none rfl _ _ _) rfl ?_
        exact ⟨⟨_, rfl⟩, .inr ⟨_, ⟨k + 1, by omega, hs.symm⟩, hJx3⟩⟩
    · obtain rfl : k = n := by omega
      have he : ps.take k = ps := List.take_of_length_le (by omega)
      rw [he] at hJs
      gi_wp2
      go_end0
      exact ⟨⟨_, rfl⟩, .inl ⟨_, rfl, hJs⟩⟩

set_option maxHeartbeats 1000000 in
/-- The slice is boxed; the function value captures the box. -/
theorem spans_in (F : Fence) (m : Nat) (hf : F.fn 93) (hro : F.round = none) (A : Option Addr) (n c : Nat) (w : World) :
    CallsIn F m Try.prog 93 #[.slice A n c] w fun e w' => e = .returned (.func (.func 108) #[] #[.pointer (some ⟨w.heap.size, 0, none⟩)]) ∧ w' = w.alloc (.cells #[.slice A n c] 36) := by
  refine callsIn_of_wp Try.func93 rfl hf ?_ hro
  simp only [Try.ntmps93, List.size_toArray, List.length_cons, List.length_nil, Nat.reduceAdd, Nat.reduceSub, Array.replicate_succ, Array.replicate_zero, List.push_toArray, List.append_toArray, List.nil_append, List.cons_append]
  gi_wp2
  go_ret
  exact ⟨rfl, rfl⟩

theorem spans_stops {α : Type} (f : α → Int × Int) (ps : List α) (F : Fence) (m : Nat) (hf : F.fn 108) (hro : F.round = none) (hm : 1 ≤ m) (Bs : Nat) (A : Option Addr) (n c : Nat) (es : List Int) (hps : ps.map f = pairsE 0 es) (w0 : World) (hI : SlI w0 A n es) (hn : n ≤ 1048576) (w : World) (hw : Below w0.heap.size w0 w) (hBs : Bs < w.heap.size)
    (hc : w.cell? ⟨Bs, 0, none⟩ = some (.slice A n c)) :
    SeqStopsK F m Try.prog 108 #[.pointer (some ⟨Bs, 0, none⟩)] (fun x : α => #[Value.int .i64 (f x).1, Value.int .i64 (f x).2]) (Below w0.heap.size) (fun ys => ys = ps)
      (fun pre => ∃ k, k ≤ n ∧ pre = ps.take k) n w := fun l J Jx W hW _ _ hY h0 =>
  spans1_in f ps F m hf hro hm l Bs A n c es hps w0 hI hn J Jx hY W (hw.trans (hW.mono hw.size)) ((hW.cell (p := ⟨Bs, 0, none⟩) hBs).trans hc) h0

/-! ### what the pairs tell of the ends -/
theorem asc_pairs : ∀ (xs : List Int) (l : Int), (∀ p ∈ pairsE l xs, p.1 < p.2) → ascB l xs = true
  | [], _, _ => rfl
  | e :: r, l, h => by
    have h1 := h (l, e) (by simp [pairsE])
    have h2 := asc_pairs r e (fun p hp => h p (by simp [pairsE, hp]))
    simp only [ascB, Bool.and_eq_true, decide_eq_true_eq]
    exact ⟨h1, h2⟩
theorem asc_pairs_no : ∀ (xs : List Int) (l : Int) (p : Int × Int), p ∈ pairsE l xs → p.2 ≤ p.1 → ascB l xs = false
  | [], _, _, h, _ => by simp [pairsE] at h
  | e :: r, l, p, h, hp => by
    simp only [pairsE, List.mem_cons] at h
    simp only [ascB, Bool.and_eq_false_iff, decide_eq_false_iff_not]
    rcases h with rfl | h
    · exact .inl (by simp only at hp; omega)
    · exact .inr (asc_pairs_no r e p h hp)
def upP (ps : List (Int × Int)) : Prop := ∀ p ∈ ps, p.1 < p.2
def dnP (ps : List (Int × Int)) : Prop := ∃ p ∈ ps, p.2 ≤ p.1
theorem upP_snoc {ps : List (Int × Int)} {lo hi : Int} (h : upP ps) (hx : lo < hi) : upP (ps ++ [(lo, hi)]) := fun p hp => (List.mem_append.1 hp).elim (h p) (fun e => by simp at e; subst e; exact hx)
theorem dnP_snoc {ps : List (Int × Int)} {lo hi : Int} (hx : hi ≤ lo) : dnP (ps ++ [(lo, hi)]) := ⟨(lo, hi), by simp, hx⟩
def lastP (ps : List (Int × Int)) : Int := ((ps.getLast?).map Prod.snd).getD 0
theorem lastP_snoc (ps : List (Int × Int)) (p : Int × Int) : lastP (ps ++ [p]) = p.2 := by simp [lastP]
theorem lastP_pairs : ∀ (xs : List Int), lastP (pairsE 0 xs) = lastE 0 xs := by
  intro xs
  rcases List.eq_nil_or_concat xs with rfl | ⟨r, e, rfl⟩
  · rfl
  · rw [List.concat_eq_append, pairsE_snoc, lastP_snoc, lastE_snoc]
end Go.Proofs.Ytbfdhlpncblahaa
namespace Go.Proofs.Ytbfdhlpncblahaa
open Go.RowKit Go.Shelf
attribute [local go_sem] Oper.semAt_some

theorem box_own {W W' : World} {row : Option Nat} {B : Nat} {t : TypeId} {v : Value} (h : Boxed W B t v) (hg : W.grownBy W' row) (hr : ∀ r, row = some r → ∃ o : Obj, W.heap[r]? = some o ∧ o.isCells = false) : Boxed W' B t v :=
  h.kept hg (fun e => by
    obtain ⟨o, ho, hc⟩ := hr B e.symm
    rw [show W.heap[B]? = _ from h] at ho
    cases ho
    cases hc)

set_option maxRecDepth 100000 in
set_option maxHeartbeats 2000000 in
theorem implEndsOk_in (F : Fence) (m : Nat) (h1 : F.fn 65) (h2 : F.fn 93) (h3 : F.fn 108) (hro : F.round = none) (hm : 3 ≤ m) (N : Int) (A : Option Addr) (n c : Nat) (es : List Int) (w : World) (hI : SlI w A n es) (hn : n ≤ 1048576) :
    CallsIn F m Try.prog 65 #[.int .i64 N, .slice A n c] w (GTell w (endsB N es)) := by
  have hm1 : 1 ≤ m := by omega
  have HL := Lib.hid hI.len
  have HI := Lib.hid hI
  clear hI
  refine callsIn_of_wp_marks Try.func65 rfl h1 ?_ hro
  simp only [Try.ntmps65, List.size_toArray, List.length_cons, List.length_nil, Nat.reduceAdd, Nat.reduceSub, Array.replicate_succ, Array.replicate_zero, List.push_toArray, List.append_toArray, List.nil_append, List.cons_append]
  gi_wp2_with (gi_at_call 93; refine (spans_in F (m - 1) h2 hro _ _ _ _).mono ?_; rintro e w' ⟨rfl, rfl⟩)
  have bR := (Boxed.new w 4 (.bool false)).alloc (.cells #[.int .i64 0] 3)
  have bL := Boxed.new (w.alloc (.cells #[.bool false] 4)) 3 (.int .i64 0)
  have bN := Boxed.new ((w.alloc (.cells #[.bool false] 4)).alloc (.cells #[.int .i64 0] 3)) 36 (.slice A n c)
  rw [World.size_alloc] at bL bN
  rw [World.size_alloc] at bN
  have hB0 : Below w.heap.size w (((w.alloc (.cells #[.bool false] 4)).alloc (.cells #[.int .i64 0] 3)).alloc (.cells #[.slice A n c] 36)) := below_a3 _ _ _ _
  refine wpIn_rangeFunc_ownG hro hm1 (gf := 108) (lb := #[.pointer (some ⟨w.heap.size + 1 + 1, 0, none⟩)]) rfl h3 (enters_of Try.func108 (by kernel_rfl) rfl)
    (spans_stops id (pairsE 0 es) F (m - 1) h3 hro (by omega) (w.heap.size + 1 + 1) A n c es (List.map_id _) w HI.out hn _ hB0 (by simp) bN.cell) belowK_t (belowK_b (by simp; omega)) (Below.refl _ _) (fun _ => rfl)
    (fun pre W => (Boxed W w.heap.size 4 (.bool false) ∧ upP pre ∧ Boxed W (w.heap.size + 1) 3 (.int .i64 (lastP pre))) ∧ Below w.heap.size w W)
    (fun c pre W => (c = .ret ∧ dnP pre ∧ Boxed W w.heap.size 4 (.bool false)) ∧ Below w.heap.size w W)
    (OwnFrom.and (Own.from (fun s A B row hs hg hr => ⟨box_own hs.1 hg hr, hs.2.1, box_own hs.2.2 hg hr⟩) _) (ownFrom_below (Nat.le_refl _) (by simp; omega)))
    (fun c => OwnFrom.and (Own.from (fun s A B row hs hg hr => ⟨hs.1, hs.2.1, box_own hs.2.2 hg hr⟩) _) (ownFrom_below (Nat.le_refl _) (by simp; omega)))
    ⟨⟨bR.alloc _, by intro p hp; simp at hp, bL.alloc _⟩, hB0⟩
    (fun x => { tmps := #[.int .i64 N, .slice A n c, undef, undef, .pointer (some ⟨w.heap.size, 0, none⟩), .pointer (some ⟨w.heap.size + 1, 0, none⟩), .int .i64 x.1, .int .i64 x.2, .slice A n c, .func (.func 108) #[] #[.pointer (some ⟨w.heap.size + 1 + 1, 0, none⟩)], .int .i64 x.1, .int .i64 x.2, undef, undef, undef, undef, undef, undef, undef, undef, undef, undef, undef, undef, undef, undef, undef], defers := [] }) ?assign ?body ?done ?stop
  case assign =>
    intro l x W K hK
    gi_wp2
    exact hK
  case body =>
    rintro l pre ⟨lo, hi⟩ W ⟨⟨bR, hall, bL⟩, hB⟩ _
    have hc := bL.cell
    have hf := bL.frozen
    have hd := bR.cell
    have hg := bR.frozen
    by_cases hx : hi ≤ lo
    · gi_wp2
      exact ⟨(KeepsOthers.setCell _ _ _).from _, ⟨rfl, dnP_snoc hx, bR.set _⟩, hB.setCell (p := ⟨w.heap.size, 0, none⟩) (Nat.le_refl _) _⟩
    · gi_wp2
      exact ⟨(KeepsOthers.setCell _ _ _).from _, (Below.refl w.heap.size W).setCell (p := ⟨w.heap.size + 1, 0, none⟩) (by simp) _, ⟨bR.other (by omega) _, upP_snoc hall (by omega), by rw [lastP_snoc]; exact bL.set _⟩, hB.setCell (p := ⟨w.heap.size + 1, 0, none⟩) (by simp) _⟩
  case done =>
    rintro D ys W hD rfl ⟨⟨bR, hall, bL⟩, hB⟩ hK
    have HV := Lib.hid (ends_yes (n := N) (asc_pairs es 0 hall))
    rw [lastP_pairs] at bL
    clear hall
    generalize lastE 0 es = q at HV bL
    have hc := bL.cell
    have hd := bR.cell
    have hf := bR.frozen
    have fin : ∀ (W' : World) (b : Bool), W'.heap[D]? = some (.deferred (some [])) → Boxed W' w.heap.size 4 (.bool b) → (W'.putObj D (.deferred none)).cell? ⟨w.heap.size, 0, none⟩ = some (.bool b) := fun W' b h1 h2 =>
      cell_kept h2.cell (grownBy_putObj' _ D (.deferred none)) (fun r e => by cases e; exact ⟨_, h1, rfl⟩)
    have hBT := hB.setCell (p := ⟨w.heap.size, 0, none⟩) (Nat.le_refl _) (.bool true)
    have hBF := hB.setCell (p := ⟨w.heap.size, 0, none⟩) (Nat.le_refl _) (.bool false)
    have hKT := (KeepsOthers.setCell W ⟨w.heap.size, 0, none⟩ (.bool true)).same D _ hK rfl
    have hKF := (KeepsOthers.setCell W ⟨w.heap.size, 0, none⟩ (.bool false)).same D _ hK rfl
    by_cases h1 : 0 ≤ N
    · by_cases h2 : N ≤ 150
      · by_cases h3 : q = N
        · have HW : Hid (endsB N es = true) := Lib.hid (by rw [HV.out]; simp; omega)
          gi_wp2
          refine ⟨by simp, .inl ⟨_, _, rfl, run_takeDeferred hKT, ?_⟩⟩
          have hc5 := fin _ true hKT (bR.set _)
          exact ⟨.bool true, by simp [results, Try.f65, go_sem, hc5], by rw [HW.out], hBT.trans (belowK_b (w := w) (Nat.le_refl _) _ D _ _ (by simp at hD; omega) hKT rfl rfl)⟩
        · have HW : Hid (endsB N es = false) := Lib.hid (by rw [HV.out]; simp; omega)
          have h4 : (q == N) = false := by simp; omega
          gi_wp2
          refine ⟨by simp, .inl ⟨_, _, rfl, run_takeDeferred hKF, ?_⟩⟩
          have hc5 := fin _ false hKF (bR.set _)
          exact ⟨.bool false, by simp [results, Try.f65, go_sem, hc5], by rw [HW.out], hBF.trans (belowK_b (w := w) (Nat.le_refl _) _ D _ _ (by simp at hD; omega) hKF rfl rfl)⟩
      · have HW : Hid (endsB N es = false) := Lib.hid (by rw [HV.out]; simp; omega)
        gi_wp2
        refine ⟨by simp, .inl ⟨_, _, rfl, run_takeDeferred hKF, ?_⟩⟩
        have hc5 := fin _ false hKF (bR.set _)
        exact ⟨.bool false, by simp [results, Try.f65, go_sem, hc5], by rw [HW.out], hBF.trans (belowK_b (w := w) (Nat.le_refl _) _ D _ _ (by simp at hD; omega) hKF rfl rfl)⟩
    · have HW : Hid (endsB N es = false) := Lib.hid (by rw [HV.out]; simp; omega)
      gi_wp2
      refine ⟨by simp, .inl ⟨_, _, rfl, run_takeDeferred hKF, ?_⟩⟩
      have hc5 := fin _ false hKF (bR.set _)
      exact ⟨.bool false, by simp [results, Try.f65, go_sem, hc5], by rw [HW.out], hBF.trans (belowK_b (w := w) (Nat.le_refl _) _ D _ _ (by simp at hD; omega) hKF rfl rfl)⟩
  case stop =>
    rintro D c pre W hD ⟨k, _, rfl⟩ ⟨⟨rfl, ⟨p, hp1, hp2⟩, bR⟩, hB⟩ hK
    have hE : endsB N es = false := by
      rw [pairsE_take] at hp1
      unfold endsB
      rw [asc_no (asc_pairs_no _ _ p hp1 hp2)]
      rfl
    gi_wp2
    refine ⟨by simp, .inl ⟨_, _, rfl, run_takeDeferred hK, ?_⟩⟩
    have hc5 := cell_kept bR.cell (grownBy_putObj' _ D (.deferred none)) (fun r e => by cases e; exact ⟨_, hK, rfl⟩)
    exact ⟨.bool false, by simp [results, Try.f65, go_sem, hc5], by rw [hE], hB.trans (belowK_b (w := w) (Nat.le_refl _) W D _ _ (by simp at hD; omega) hK rfl rfl)⟩
theorem implEndsOk (N : Int) (A : Option Addr) (n c : Nat) (es : List Int) (w : World) (hI : SlI w A n es) (hn : n ≤ 1048576) :
    Calls Try.prog 65 #[.int .i64 N, .slice A n c] w (GTell w (endsB N es)) :=
  callsIn_wide.1 (implEndsOk_in Fence.wide 3 trivial trivial trivial rfl (Nat.le_refl _) N A n c es w hI hn)

def noP (p : Int) (ps : List (Int × Int)) : Prop := ∀ j : Nat, j < ps.length → (j : Int) ≠ p
def atP (p : Int) (x : Int × Int) (ps : List (Int × Int)) : Prop := ∃ k : Nat, p = (k : Int) ∧ ps[k]? = some x
theorem noP_snoc {p : Int} {ps : List (Int × Int)} {x : Int × Int} (h : noP p ps) (hx : (ps.length : Int) ≠ p) : noP p (ps ++ [x]) := fun j hj => by
  rw [List.length_append] at hj
  simp at hj
  rcases Nat.lt_or_ge j ps.length with h1 | h1
  · exact h j h1
  · obtain rfl : j = ps.length := by omega
    exact hx
theorem atP_snoc {p : Int} {ps : List (Int × Int)} {x : Int × Int} (hx : (ps.length : Int) = p) : atP p x (ps ++ [x]) := ⟨ps.length, hx.symm, by simp⟩
theorem noP_span {p : Int} {es : List Int} (h : noP p (pairsE 0 es)) : spanR es p = (0, 0) := by
  refine span_no ?_
  by_cases h1 : p < 0
  · exact .inl h1
  · refine .inr ?_
    by_cases h2 : p < es.length
    · exact absurd (by omega) (h p.toNat (by rw [pairsE_len]; omega))
    · omega
theorem atP_span {p : Int} {x : Int × Int} {es : List Int} {k : Nat} (h : atP p x ((pairsE 0 es).take k)) : spanR es p = x := by
  obtain ⟨j, rfl, h⟩ := h
  rw [List.getElem?_take] at h
  split at h
  · have hj := (List.getElem?_eq_some_iff.1 h).1
    rw [pairsE_len] at hj
    have he : es[j]? = some es[j] := List.getElem?_eq_getElem hj
    rw [pairsE_get es 0 j _ he] at h
    injection h with h
    rw [span_yes he, h]
  · cases h

def TwoP (w : World) (r : Int × Int) (e : Ending) (w' : World) : Prop := e = .returned (.tuple #[.int .i64 r.1, .int .i64 r.2]) ∧ Below w.heap.size w w'

end Go.Proofs.Ytbfdhlpncblahaa
