/- The contract of the model's function that asks whether a graph is valid. Condition: at most 2^20 edges. // The numbers of edges at the vertices, as data; the contracts of the model's and the program's functions that count them. // Ends of intervals, as data: ascending lists, the pairs of neighbours, counts, the greedy division (no program; no condition). // Plain mathematics of sorting records of three numbers: an order in full, insertion, what is sorted, cutting into batches (no condition). -/
import Derived.Test.YtmbabbapcjphgaaDoorCA1
namespace Go.Proofs.YtmbabbapcjphgaaDoor
open Go.RowKit

theorem edgeB_parts {n : Int} {e : GE} (h : edgeB n e = false) : e.f < 0 ∨ (0 ≤ e.f ∧ n ≤ e.f) ∨ (0 ≤ e.f ∧ e.f < n ∧ e.t < 0) ∨ (0 ≤ e.f ∧ e.f < n ∧ 0 ≤ e.t ∧ n ≤ e.t) ∨ (0 ≤ e.f ∧ e.f < n ∧ 0 ≤ e.t ∧ e.t < n ∧ e.w < 0) ∨ (0 ≤ e.f ∧ e.f < n ∧ 0 ≤ e.t ∧ e.t < n ∧ 0 ≤ e.w ∧ 1000 < e.w) := by
  have h := of_decide_eq_false h
  omega

set_option maxRecDepth 10000 in
set_option maxHeartbeats 4000000 in
theorem specGraphOk (N : Int) (A : Option Addr) (n c : Nat) (es : List GE) (w : World) (hr : SlG w A n es) (hn : n ≤ 1048576) :
    Calls Tryd.prog 36 #[.agg #[.int .i64 N, .slice A n c]] w (GTell w (graphB N es)) := by
  have HEL := Lib.hid hr.len
  have HR := Lib.hid hr
  clear hr
  go_enter Tryd.func36, Tryd.ntmps36
  go_wp2
  have X0 := Lib.hid (NBox.new w N A n c 25)
  have HB0 := Lib.hid (below_a1 w (.cells #[.int .i64 N, .slice A n c] 25))
  go_loopw [8] (fun i wr => ∃ k : Nat, k ≤ n ∧ i = .int .i64 k ∧ Hid (NBox wr w.heap.size N A n c) ∧ Hid (Below w.heap.size w wr) ∧ Hid (∀ x ∈ es.take k, edgeB N x = true)) (fun i _ => n - (intOf i).toNat)
  case atStart => exact ⟨0, Nat.zero_le _, rfl, X0, HB0, Lib.hid (by simp)⟩
  case round =>
    clear X0 HB0
    obtain ⟨k, hk, rfl, hx, hbel, hall⟩ := hrel
    obtain ⟨l0, x0, x1⟩ := hx.out
    by_cases hlt : k < n
    · obtain ⟨b, off, e, rfl, hbw, he, c0, c1, c2⟩ := HR.out.at_ hlt
      have c0 := (hbel.out.cell (p := ⟨b, off + k * 3, none⟩) hbw).trans c0
      have c1 := (hbel.out.cell (p := ⟨b, off + k * 3 + 1, none⟩) hbw).trans c1
      have c2 := (hbel.out.cell (p := ⟨b, off + k * 3 + 2, none⟩) hbw).trans c2
      have HB1 := Lib.hid (below_a1 wr (.cells #[.int .i64 e.f, .int .i64 e.t, .int .i64 e.w] 45))
      cases hv : edgeB N e with
      | true =>
        obtain ⟨h1, h2, h3, h4, h5, h6⟩ := edgeB_iff hv
        go_wp2
        go_roundw
        case rel => exact ⟨k + 1, by omega, by go_num, Lib.hid (hx.out.below HB1.out), Lib.hid (g_chain hbel.out HB1.out), Lib.hid (all_step he.out hall.out hv)⟩
        case measure => simp [intOf]; omega
      | false =>
        have HV := Lib.hid (graphB_no he.out hv)
        have hp := edgeB_parts hv
        clear hv
        rcases hp with h1 | ⟨h1, h2⟩ | ⟨h1, h2, h3⟩ | ⟨h1, h2, h3, h4⟩ | ⟨h1, h2, h3, h4, h5⟩ | ⟨h1, h2, h3, h4, h5, h6⟩
        all_goals
          go_wp2
          go_ret
          rw [HV.out]
          exact ⟨g_bool (by first | rfl | (simp <;> omega)), g_chain hbel.out HB1.out⟩
    · obtain rfl : k = n := by omega
      have HG : Hid (graphB N es = decide (0 ≤ N ∧ N ≤ 150 ∧ k ≤ 400)) := Lib.hid (by
        have h1 : es.all (edgeB N) = true := List.all_eq_true.2 (fun x hx => hall.out x (by rw [List.take_of_length_le (by rw [HEL.out]; exact Nat.le_refl _)]; exact hx))
        unfold graphB
        rw [h1, Bool.and_true, HEL.out])
      by_cases h1 : 0 ≤ N
      · by_cases h2 : N ≤ 150
        · by_cases h3 : k ≤ 400
          · have HV : Hid (graphB N es = true) := Lib.hid (by rw [HG.out]; simp [h1, h2, h3])
            go_wp2
            go_ret
            rw [HV.out]
            exact ⟨g_bool (by first | rfl | (simp <;> omega)), hbel.out⟩
          · have HV : Hid (graphB N es = false) := Lib.hid (by rw [HG.out]; simp [h3])
            go_wp2
            go_ret
            rw [HV.out]
            exact ⟨g_bool (by first | rfl | (simp <;> omega)), hbel.out⟩
        · have HV : Hid (graphB N es = false) := Lib.hid (by rw [HG.out]; simp [h2])
          go_wp2
          go_ret
          rw [HV.out]
          exact ⟨g_bool (by first | rfl | (simp <;> omega)), hbel.out⟩
      · have HV : Hid (graphB N es = false) := Lib.hid (by rw [HG.out]; simp [h1])
        go_wp2
        go_ret
        rw [HV.out]
        exact ⟨g_bool (by first | rfl | (simp <;> omega)), hbel.out⟩
end Go.Proofs.YtmbabbapcjphgaaDoor
namespace Go.Proofs.YtmbabbapcjphgaaDoor
open Go.RowKit

set_option maxRecDepth 10000 in
set_option maxHeartbeats 4000000 in
theorem specIn (N : Int) (A : Option Addr) (n c : Nat) (es : List GE) (w : World) (hr : SlG w A n es) (hn : n ≤ 1048576) :
    Calls Tryd.prog 13 #[.agg #[.int .i64 N, .slice A n c]] w (MadeI w (degsOf GE.t N es)) := by
  obtain ⟨i0, hi, hz0, hz1, hz2⟩ := info_parts Tryd.infoInt
  have HEL := Lib.hid hr.len
  have HR := Lib.hid hr
  have CG := Lib.hid (fun W (h : Below w.heap.size w W) => specGraphOk N A n c es W (hr.below h) hn)
  clear hr
  go_enter Tryd.func13, Tryd.ntmps13
  go_wp2_with fail
  refine (CG.out _ (below_a1 _ _)).mono ?_
  rintro e w1 ⟨rfl, hb1⟩
  have X1 := Lib.hid ((NBox.new w N A n c 25).below hb1)
  have HB1 := Lib.hid (g_chain (below_a1 w (.cells #[.int .i64 N, .slice A n c] 25)) hb1)
  clear hb1
  obtain ⟨l0, x0, x1⟩ := X1.out
  cases hv : graphB N es with
  | false =>
    have HD : Hid (degsOf GE.t N es = []) := Lib.hid (by unfold degsOf; rw [hv]; rfl)
    go_wp2
    go_ret
    rw [HD.out]
    exact ⟨none, 0, 0, rfl, World.ownsRow_nil _ _ _ _, HB1.out⟩
  | true =>
    have HD : Hid (degsOf GE.t N es = degs GE.t N.toNat es) := Lib.hid (by unfold degsOf; rw [hv]; rfl)
    obtain ⟨h1, h2, h3, h4⟩ := graphB_iff hv
    have H4 := Lib.hid h4
    rw [HEL.out] at h3
    clear hv h4
    obtain ⟨M, rfl⟩ : ∃ M : Nat, N = (M : Int) := ⟨N.toNat, by omega⟩
    rw [Int.toNat_natCast] at HD
    go_wp2_with (refine wpList_make_full _ rfl (.tmp 10) (.tmp 10) 27 rfl w1.heap.size 3 i0 (.int .i64 0) 1 Tryd.underlying27 hi hz0 hz1 .i64 .i64 _ _ M rfl rfl rfl rfl (by rw [hz2]; omega) (by unfold maxLen; omega) (Nat.le_refl _) ?_; intro w2 hown hg; have hb2 : Below w1.heap.size w1 w2 := (Below.refl _ _).grown hg (Nat.le_refl _) (by simp); have X2 := Lib.hid (X1.out.below hb2); have HB2 := Lib.hid (g_chain HB1.out hb2); rw [made_zero M GE.t es] at hown; have HO2 := Lib.hid hown; clear hown hg hb2 l0 x0 x1; obtain ⟨l0, x0, x1⟩ := X2.out)
    have hg1 : w.heap.size < w1.heap.size := X1.out.lt
    go_loopw [15] (fun i wr => ∃ k : Nat, k ≤ n ∧ i = .int .i64 k ∧ Hid (NBox wr w.heap.size M A n c) ∧ Hid (Below w.heap.size w wr) ∧ Hid (wr.ownsRow w1.heap.size 3 1 (.slice (some ⟨w1.heap.size, 0, none⟩) M M) M (vi (degs GE.t M (es.take k))))) (fun i _ => n - (intOf i).toNat)
    case atStart => exact ⟨0, Nat.zero_le _, rfl, X2, HB2, HO2⟩
    case round =>
      clear X2 HB2 HO2 l0 x0 x1
      obtain ⟨k, hk, rfl, hx, hbel, hown⟩ := hrel
      by_cases hlt : k < n
      · obtain ⟨b, off, e, rfl, hbw, he, c0, c1, c2⟩ := HR.out.at_ hlt
        have c0 := (hbel.out.cell (p := ⟨b, off + k * 3, none⟩) hbw).trans c0
        have c1 := (hbel.out.cell (p := ⟨b, off + k * 3 + 1, none⟩) hbw).trans c1
        have c2 := (hbel.out.cell (p := ⟨b, off + k * 3 + 2, none⟩) hbw).trans c2
        have hh := edgeB_iff (H4.out e (List.mem_of_getElem? he.out))
        obtain ⟨F, T, W0⟩ := e
        simp only at hh c0 c1 c2
        obtain ⟨f, rfl⟩ : ∃ f : Nat, T = (f : Int) := ⟨Int.toNat T, by omega⟩
        have hfM : f < M := by omega
        obtain ⟨x, hx1, hx2, hx3⟩ := degs_at (key := GE.t) (es := es.take k) hfM
        have hx4 : x ≤ 400 := by have := List.length_take_le k es; rw [HEL.out] at *; omega
        have HST := Lib.hid (degs_step (key := GE.t) (M := M) he.out (f := f) rfl hx1)
        have HX1 := Lib.hid hx1
        have HA1 := Lib.hid (below_a1 wr (.cells #[.int .i64 F, .int .i64 (f : Int), .int .i64 W0] 45))
        have HOW := Lib.hid (own_below hown.out HA1.out)
        obtain ⟨l0, x0, x1⟩ := hx.out
        have hc0 : (wr.alloc (.cells #[.int .i64 F, .int .i64 (f : Int), .int .i64 W0] 45)).cell? ⟨w1.heap.size, f, none⟩ = some (.int .i64 x) := (HOW.out.cellAt f (by omega)).trans (by rw [vi_get, HX1.out]; first | done | rfl)
        have hf0 := HOW.out.frozenAt f
        have HS := Lib.hid (hown.out.stored f (.int .i64 (x + 1)))
        rw [← HST.out] at HS
        have hgl : w1.heap.size < wr.heap.size := (hown.out.lt w1.heap.size rfl).2
        have hgl2 : ¬ w1.heap.size = wr.heap.size := by omega
        clear hx1 hx3
        go_wp2
        go_roundw
        case rel =>
          refine ⟨k + 1, by omega, by go_num, Lib.hid ?_, Lib.hid ?_, Lib.hid ?_⟩
          · exact (hx.out.keep (by simp) (Below.heap_setCell wr ⟨w1.heap.size, f, none⟩ (.int .i64 (x + 1)) w.heap.size (by show w.heap.size ≠ w1.heap.size; omega))).alloc _
          · exact (hbel.out.setCell (p := ⟨w1.heap.size, f, none⟩) (by show w.heap.size ≤ w1.heap.size; omega) _).alloc (by simp; omega) _
          · exact own_below HS.out.1 (below_a1 _ _)
        case measure => simp [intOf]; omega
      · obtain rfl : k = n := by omega
        obtain ⟨l0, x0, x1⟩ := hx.out
        go_wp2
        go_ret
        rw [HD.out]
        have h := hown.out
        rw [List.take_of_length_le (by rw [HEL.out]; exact Nat.le_refl _)] at h
        exact ⟨_, _, _, rfl, own_monoG h (by omega), hbel.out⟩
end Go.Proofs.YtmbabbapcjphgaaDoor
namespace Go.Proofs.YtmbabbapcjphgaaDoor
open Go.RowKit

/-- From l on the list ascends. -/
def ascB (l : Int) : List Int → Bool
  | [] => true
  | e :: r => decide (l < e) && ascB e r
def lastE (l : Int) : List Int → Int
  | [] => l
  | e :: r => lastE e r
def pairsE (l : Int) : List Int → List (Int × Int)
  | [] => []
  | e :: r => (l, e) :: pairsE e r
def endsB (n : Int) (es : List Int) : Bool := ascB 0 es && decide (0 ≤ n ∧ n ≤ 150 ∧ lastE 0 es = n)
theorem ascB_append : ∀ (xs ys : List Int) (l : Int), ascB l (xs ++ ys) = (ascB l xs && ascB (lastE l xs) ys)
  | [], _, _ => by simp [ascB, lastE]
  | x :: r, ys, l => by simp [ascB, lastE, ascB_append r ys x, Bool.and_assoc]
theorem lastE_snoc : ∀ (xs : List Int) (l e : Int), lastE l (xs ++ [e]) = e
  | [], _, _ => rfl
  | x :: r, _, e => by simp [lastE, lastE_snoc r x e]
theorem pairsE_len : ∀ (xs : List Int) (l : Int), (pairsE l xs).length = xs.length
  | [], _ => rfl
  | x :: r, _ => by simp [pairsE, pairsE_len r x]
theorem pairsE_snoc : ∀ (xs : List Int) (l e : Int), pairsE l (xs ++ [e]) = pairsE l xs ++ [(lastE l xs, e)]
  | [], _, _ => rfl
  | x :: r, _, e => by simp [pairsE, lastE, pairsE_snoc r x e]
theorem pairsE_take : ∀ (xs : List Int) (l : Int) (k : Nat), (pairsE l xs).take k = pairsE l (xs.take k)
  | [], _, k => by simp [pairsE]
  | x :: r, _, 0 => rfl
  | x :: r, _, k + 1 => by simp [pairsE, pairsE_take r x k]
theorem pairsE_get : ∀ (xs : List Int) (l : Int) (k : Nat) (e : Int), xs[k]? = some e → (pairsE l xs)[k]? = some (lastE l (xs.take k), e)
  | [], _, _, _, h => by simp at h
  | x :: r, l, 0, e, h => by simp at h; simp [pairsE, lastE, h]
  | x :: r, l, k + 1, e, h => by
    simp only [List.getElem?_cons_succ] at h
    simp only [pairsE, List.getElem?_cons_succ, List.take_succ_cons, lastE]
    exact pairsE_get r x k e h
theorem asc_step {l e : Int} {xs : List Int} {k : Nat} (h : xs[k]? = some e) (ha : ascB l (xs.take k) = true) : ascB l (xs.take (k + 1)) = decide (lastE l (xs.take k) < e) := by
  rw [g_take xs k e h, ascB_append, ha]
  simp [ascB]
theorem last_step {l e : Int} {xs : List Int} {k : Nat} (h : xs[k]? = some e) : lastE l (xs.take (k + 1)) = e := by rw [g_take xs k e h, lastE_snoc]
theorem asc_no {l : Int} {xs : List Int} {k : Nat} (h : ascB l (xs.take k) = false) : ascB l xs = false := by
  rw [← List.take_append_drop k xs, ascB_append, h]
  rfl
theorem ends_no {n l : Int} {xs : List Int} {k : Nat} {e : Int} (hl : l = 0) (h : xs[k]? = some e) (ha : ascB l (xs.take k) = true) (hn : e ≤ lastE l (xs.take k)) : endsB n xs = false := by
  subst hl
  unfold endsB
  rw [asc_no (k := k + 1) (by rw [asc_step h ha]; simp; omega)]
  rfl
theorem ends_yes {n : Int} {xs : List Int} (ha : ascB 0 xs = true) : endsB n xs = decide (0 ≤ n ∧ n ≤ 150 ∧ lastE 0 xs = n) := by
  unfold endsB
  rw [ha]
  rfl
theorem endsB_iff {n : Int} {xs : List Int} (h : endsB n xs = true) : ascB 0 xs = true ∧ 0 ≤ n ∧ n ≤ 150 ∧ lastE 0 xs = n := by
  unfold endsB at h
  simp only [Bool.and_eq_true, decide_eq_true_eq] at h
  exact h
theorem asc_last_ge : ∀ (xs : List Int) (l : Int), ascB l xs = true → l ≤ lastE l xs
  | [], _, _ => Int.le_refl _
  | x :: r, l, h => by
    simp only [ascB, Bool.and_eq_true, decide_eq_true_eq] at h
    have := asc_last_ge r x h.2
    simp only [lastE]
    omega
/-- An ascending list, cut at place k. -/
theorem asc_at {l e : Int} {xs : List Int} {k : Nat} (h : xs[k]? = some e) (ha : ascB l xs = true) : l ≤ lastE l (xs.take k) ∧ lastE l (xs.take k) < e ∧ e ≤ lastE l xs := by
  have h1 := ha
  rw [← List.take_append_drop k xs, ascB_append] at h1
  simp only [Bool.and_eq_true] at h1
  obtain ⟨h1, h2⟩ := h1
  have h3 : lastE l xs = lastE (lastE l (xs.take k)) (xs.drop k) := by
    have : ∀ (a b : List Int) (l : Int), lastE l (a ++ b) = lastE (lastE l a) b := by
      intro a
      induction a with
      | nil => intro b l; rfl
      | cons x r ih => intro b l; simp [lastE, ih]
    conv => lhs; rw [← List.take_append_drop k xs]
    exact this _ _ _
  rw [h3]
  rw [g_drop xs k e h] at h2 ⊢
  simp only [ascB, Bool.and_eq_true, decide_eq_true_eq] at h2
  have h4 := asc_last_ge _ _ h2.2
  simp only [lastE]
  exact ⟨asc_last_ge _ _ h1, h2.1, h4⟩

/-- How many ends are at most v. -/
def cntE (v : Int) (xs : List Int) : Int := ((xs.filter fun e => decide (e ≤ v)).length : Nat)
theorem cnt_nil (v : Int) : cntE v [] = 0 := rfl
theorem cnt_step {v e : Int} {xs : List Int} {k : Nat} (h : xs[k]? = some e) : cntE v (xs.take (k + 1)) = cntE v (xs.take k) + (if e ≤ v then 1 else 0) := by
  rw [g_take xs k e h]
  unfold cntE
  rw [List.filter_append, List.length_append]
  by_cases hv : e ≤ v <;> simp [hv]
theorem cnt_bound (v : Int) (xs : List Int) : 0 ≤ cntE v xs ∧ cntE v xs ≤ xs.length := by
  have := List.length_filter_le (fun e => decide (e ≤ v)) xs
  unfold cntE
  omega
def ivE (xs : List Int) (v : Int) : Int := if v < 0 ∨ xs = [] ∨ lastE 0 xs ≤ v then -1 else cntE v xs
theorem lastE_get : ∀ (xs : List Int) (l : Int) (k : Nat), xs.length = k + 1 → xs[k]? = some (lastE l xs)
  | [x], _, 0, _ => rfl
  | x :: y :: r, _, 0, h => by simp at h
  | [], _, _, h => by simp at h
  | x :: r, _, k + 1, h => by
    rw [List.getElem?_cons_succ]
    exact lastE_get r x k (by simpa using h)

/-! ### a pair of ends -/
def spanR (xs : List Int) (p : Int) : Int × Int := if p < 0 ∨ (xs.length : Int) ≤ p then (0, 0) else (lastE 0 (xs.take p.toNat), xs.getD p.toNat 0)
theorem span_no {xs : List Int} {p : Int} (h : p < 0 ∨ (xs.length : Int) ≤ p) : spanR xs p = (0, 0) := if_pos h
theorem span_yes {xs : List Int} {k : Nat} {e : Int} (h : xs[k]? = some e) : spanR xs (k : Int) = (lastE 0 (xs.take k), e) := by
  have hk := (List.getElem?_eq_some_iff.1 h).1
  unfold spanR
  rw [if_neg (by omega), Int.toNat_natCast, List.getD_eq_getElem?_getD, h]
  rfl
theorem lastE_take_succ {xs : List Int} {k : Nat} {e l : Int} (h : xs[k]? = some e) : lastE l (xs.take (k + 1)) = e := last_step h
end Go.Proofs.YtmbabbapcjphgaaDoor
namespace Go.Proofs.YtmbabbapcjphgaaDoor

/-- Field after field. -/
def lessR (x y : GE) : Bool := if x.f ≠ y.f then decide (x.f < y.f) else if x.t ≠ y.t then decide (x.t < y.t) else decide (x.w < y.w)
theorem lessR_iff (x y : GE) : lessR x y = true ↔ x.f < y.f ∨ (x.f = y.f ∧ (x.t < y.t ∨ (x.t = y.t ∧ x.w < y.w))) := by
  unfold lessR
  by_cases h1 : x.f = y.f
  · rw [if_neg (by simp [h1])]
    by_cases h2 : x.t = y.t
    · rw [if_neg (by simp [h2]), decide_eq_true_iff]; omega
    · rw [if_pos h2, decide_eq_true_iff]; omega
  · rw [if_pos h1, decide_eq_true_iff]; omega
theorem lessR_no (x y : GE) : lessR x y = false ↔ ¬ (x.f < y.f ∨ (x.f = y.f ∧ (x.t < y.t ∨ (x.t = y.t ∧ x.w < y.w)))) := by
  rw [← lessR_iff]; simp
def leR (x y : GE) : Prop := lessR y x = false
theorem leR_refl (x : GE) : leR x x := by unfold leR; rw [lessR_no]; omega
theorem leR_trans {x y z : GE} (h1 : leR x y) (h2 : leR y z) : leR x z := by
  unfold leR at *
  rw [lessR_no] at *
  omega
theorem leR_total (x y : GE) : leR x y ∨ leR y x := by
  unfold leR
  rw [lessR_no, lessR_no]
  omega
theorem leR_antisymm {x y : GE} (h1 : leR x y) (h2 : leR y x) : x = y := by
  unfold leR at *
  rw [lessR_no] at *
  obtain ⟨a, b, c⟩ := x
  obtain ⟨a', b', c'⟩ := y
  simp only at *
  have : a = a' ∧ b = b' ∧ c = c' := by omega
  obtain ⟨rfl, rfl, rfl⟩ := this
  rfl
theorem leR_of_less {x y : GE} (h : lessR x y = true) : leR x y := by
  unfold leR
  rw [lessR_no]
  rw [lessR_iff] at h
  omega
def SortedR (l : List GE) : Prop := l.Pairwise leR
/-- One record put in behind all that are not greater. -/
def insR (x : GE) : List GE → List GE
  | [] => [x]
  | y :: r => if lessR x y then x :: y :: r else y :: insR x r
def sortR (l : List GE) : List GE := l.foldl (fun out x => insR x out) []
theorem insR_perm (x : GE) : ∀ l, (insR x l).Perm (x :: l)
  | [] => List.Perm.refl _
  | y :: r => by
    unfold insR
    split
    · exact List.Perm.refl _
    · exact ((insR_perm x r).cons y).trans (List.Perm.swap x y r)
theorem insR_sorted (x : GE) : ∀ l, SortedR l → SortedR (insR x l)
  | [], _ => by simp [insR, SortedR]
  | y :: r, h => by
    unfold SortedR at h
    rw [List.pairwise_cons] at h
    unfold insR
    split
    · rename_i hl
      unfold SortedR
      rw [List.pairwise_cons]
      refine ⟨fun z hz => ?_, List.pairwise_cons.2 h⟩
      rcases List.mem_cons.1 hz with rfl | hz
      · exact leR_of_less hl
      · exact leR_trans (leR_of_less hl) (h.1 z hz)
    · rename_i hl
      unfold SortedR
      rw [List.pairwise_cons]
      refine ⟨fun z hz => ?_, insR_sorted x r h.2⟩
      rcases List.mem_cons.1 ((insR_perm x r).mem_iff.1 hz) with rfl | hz
      · unfold leR; simpa using hl
      · exact h.1 z hz
theorem fold_perm : ∀ (l out : List GE), (l.foldl (fun out x => insR x out) out).Perm (out ++ l)
  | [], out => by simp
  | x :: r, out => by
    rw [List.foldl_cons]
    refine (fold_perm r _).trans ?_
    refine ((insR_perm x out).append_right r).trans ?_
    rw [List.cons_append]
    exact (List.perm_middle).symm
theorem fold_sorted : ∀ (l out : List GE), SortedR out → SortedR (l.foldl (fun out x => insR x out) out)
  | [], _, h => h
  | x :: r, out, h => by rw [List.foldl_cons]; exact fold_sorted r _ (insR_sorted x out h)
theorem sortR_perm (l : List GE) : (sortR l).Perm l := by simpa [sortR] using fold_perm l []
theorem sortR_sorted (l : List GE) : SortedR (sortR l) := fold_sorted l [] (by simp [SortedR])
/-- Two sorted lists of the same records are the same. -/
theorem sorted_unique : ∀ (l m : List GE), SortedR l → SortedR m → l.Perm m → l = m
  | [], m, _, _, h => by simpa using h.symm
  | x :: r, [], _, _, h => by simp at h
  | x :: r, y :: s, hl, hm, h => by
    unfold SortedR at hl hm
    rw [List.pairwise_cons] at hl hm
    have hxy : x = y := by
      have hx : x ∈ y :: s := h.mem_iff.1 (by simp)
      have hy : y ∈ x :: r := h.mem_iff.2 (by simp)
      rcases List.mem_cons.1 hx with e | hx
      · exact e
      · rcases List.mem_cons.1 hy with e | hy
        · exact e.symm
        · exact leR_antisymm (hl.1 y hy) (hm.1 x hx)
    subst hxy
    rw [sorted_unique r s hl.2 hm.2 ((List.perm_cons x).1 h)]
theorem sorted_is {l m : List GE} (h : SortedR m) (hp : m.Perm l) : m = sortR l := sorted_unique _ _ h (sortR_sorted l) (hp.trans (sortR_perm l).symm)
/-- Neighbours alone are asked. -/
def sortedB : List GE → Bool
  | [] => true
  | [_] => true
  | x :: y :: r => !lessR y x && sortedB (y :: r)
theorem sortedB_iff : ∀ l, sortedB l = true ↔ SortedR l
  | [] => by simp [sortedB, SortedR]
  | [x] => by simp [sortedB, SortedR]
  | x :: y :: r => by
    have ih := sortedB_iff (y :: r)
    unfold sortedB
    rw [Bool.and_eq_true, ih]
    unfold SortedR
    rw [List.pairwise_cons (a := x)]
    constructor
    · rintro ⟨h1, h2⟩
      refine ⟨fun z hz => ?_, h2⟩
      have hxy : leR x y := by unfold leR; simpa using h1
      rcases List.mem_cons.1 hz with rfl | hz
      · exact hxy
      · exact leR_trans hxy ((List.pairwise_cons.1 h2).1 z hz)
    · rintro ⟨h1, h2⟩
      have := h1 y (by simp)
      unfold leR at this
      exact ⟨by rw [this]; rfl, h2⟩
theorem sortedB_at {l : List GE} (h : ∀ i x y, l[i]? = some x → l[i + 1]? = some y → lessR y x = false) : sortedB l = true := by
  induction l with
  | nil => rfl
  | cons x r ih =>
    cases r with
    | nil => rfl
    | cons y s =>
      unfold sortedB
      rw [h 0 x y rfl rfl, ih (fun i a b h1 h2 => h (i + 1) a b (by simpa using h1) (by simpa using h2))]
      rfl
theorem sortedB_no {l : List GE} {i : Nat} {x y : GE} (h1 : l[i]? = some x) (h2 : l[i + 1]? = some y) (h : lessR y x = true) : sortedB l = false := by
  cases hh : sortedB l with
  | false => rfl
  | true =>
    have hs := (sortedB_iff l).1 hh
    unfold SortedR at hs
    obtain ⟨g1, rfl⟩ := List.getElem?_eq_some_iff.1 h1
    obtain ⟨g2, rfl⟩ := List.getElem?_eq_some_iff.1 h2
    have := List.pairwise_iff_getElem.1 hs i (i + 1) g1 g2 (by omega)
    unfold leR at this
    rw [h] at this
    cases this
/-- Insertion at a place: behind all that are not greater. -/
theorem insR_at (x : GE) : ∀ (l : List GE) (k : Nat), (∀ y ∈ l.take k, lessR x y = false) → k ≤ l.length → (∀ y, l[k]? = some y → lessR x y = true) → insR x l = l.take k ++ x :: l.drop k
  | [], k, _, hk, _ => by simp at hk; subst hk; rfl
  | y :: r, 0, _, _, h => by
    have := h y rfl
    simp [insR, this]
  | y :: r, k + 1, h1, hk, h2 => by
    have hy := h1 y (by simp)
    unfold insR
    rw [if_neg (by rw [hy]; simp), insR_at x r k (fun z hz => h1 z (by simp [hz])) (by simpa using hk) (fun z hz => h2 z (by simpa using hz))]
    rfl
/-- Cut into batches of k. -/
def chunks (k : Nat) : Nat → List GE → List (List GE)
  | 0, _ => []
  | fuel + 1, l => if l = [] then [] else l.take k :: chunks k fuel (l.drop k)
end Go.Proofs.YtmbabbapcjphgaaDoor
