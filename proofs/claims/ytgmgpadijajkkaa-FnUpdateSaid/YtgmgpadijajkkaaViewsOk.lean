/- The contracts of the test of views: the program's viewOk and viewsOk, the model's l10Views. Condition: at most 2^21 views. -/
import Derived.Test.YtgmgpadijajkkaaEdgeV
namespace Go.Proofs.Ytgmgpadijajkkaa
open Go.RowKit

theorem ok_parts (i o : Bool) (ww v : Int) : VE.ok ⟨i, o, ww, v⟩ = ((i || o) && (decide (0 ≤ ww) && (decide (ww ≤ 1000) && valB v))) := by
  unfold VE.ok
  rw [Bool.decide_and, Bool.and_assoc]
theorem viewsB_no {es : List VE} {e : VE} (h : e ∈ es) (hk : e.ok = false) : viewsB es = false := by
  unfold viewsB
  rw [Bool.and_eq_false_iff]
  right
  rw [List.all_eq_false]
  exact ⟨e, h, by simp [hk]⟩
theorem viewsB_yes {es : List VE} (hn : es.length ≤ 400) (h : ∀ e ∈ es, e.ok = true) : viewsB es = true := by
  unfold viewsB
  simp [hn]
  exact h
theorem viewsB_long {es : List VE} (hn : 400 < es.length) : viewsB es = false := by
  unfold viewsB
  simp
  intro h
  omega
theorem ok_snoc {es : List VE} {k : Nat} {e : VE} (he : es[k]? = some e) (h : ∀ e ∈ es.take k, e.ok = true) (hk : e.ok = true) : ∀ e ∈ es.take (k + 1), e.ok = true := by
  intro a ha
  rw [take_snoc he] at ha
  rcases List.mem_append.1 ha with ha | ha
  · exact h a ha
  · rw [List.mem_singleton.1 ha]; exact hk
theorem mem_at {es : List VE} {k : Nat} {e : VE} (he : es[k]? = some e) : e ∈ es := List.mem_of_getElem? he

set_option maxHeartbeats 1000000 in
theorem implViewOk (e : VE) (w : World) : Calls Try.prog 61 #[e.val] w (GTell w e.ok) := by
  have CV := Lib.hid (fun W => implIsValue e.v W)
  obtain ⟨i, o, ww, v⟩ := e
  rw [ok_parts]
  unfold VE.val
  simp only at CV ⊢
  by_cases hw0 : 0 ≤ ww
  · by_cases hw1 : ww ≤ 1000
    · generalize valB v = b at CV ⊢
      cases i with
      | true =>
        have hz : (((true || o) && (decide (0 ≤ ww) && (decide (ww ≤ 1000) && b)))) = b := by simp [hw0, hw1]
        rw [hz]
        clear hz
        go_enter Try.func61, Try.ntmps61
        go_wp2_with fail
        refine (CV.out _).mono ?_
        rintro e w1 ⟨rfl, rfl⟩
        go_wp2
        go_ret
        exact ⟨rfl, below_a1 _ _⟩
      | false =>
        cases o with
        | true =>
          have hz : (((false || true) && (decide (0 ≤ ww) && (decide (ww ≤ 1000) && b)))) = b := by simp [hw0, hw1]
          rw [hz]
          clear hz
          go_enter Try.func61, Try.ntmps61
          go_wp2_with fail
          refine (CV.out _).mono ?_
          rintro e w1 ⟨rfl, rfl⟩
          go_wp2
          go_ret
          exact ⟨rfl, below_a1 _ _⟩
        | false =>
          have hz : (((false || false) && (decide (0 ≤ ww) && (decide (ww ≤ 1000) && b)))) = false := by simp
          rw [hz]
          clear hz
          go_enter Try.func61, Try.ntmps61
          go_wp2
          go_ret
          exact ⟨rfl, below_a1 _ _⟩
    · have hz : ((i || o) && (decide (0 ≤ ww) && (decide (ww ≤ 1000) && valB v))) = false := by simp [hw1]
      rw [hz]
      clear hz
      cases i with
      | true =>
        go_enter Try.func61, Try.ntmps61
        go_wp2
        go_ret
        exact ⟨rfl, below_a1 _ _⟩
      | false =>
        cases o with
        | true =>
          go_enter Try.func61, Try.ntmps61
          go_wp2
          go_ret
          exact ⟨rfl, below_a1 _ _⟩
        | false =>
          go_enter Try.func61, Try.ntmps61
          go_wp2
          go_ret
          exact ⟨rfl, below_a1 _ _⟩
  · have hz : ((i || o) && (decide (0 ≤ ww) && (decide (ww ≤ 1000) && valB v))) = false := by simp [hw0]
    rw [hz]
    clear hz
    cases i with
    | true =>
      go_enter Try.func61, Try.ntmps61
      go_wp2
      go_ret
      exact ⟨rfl, below_a1 _ _⟩
    | false =>
      cases o with
      | true =>
        go_enter Try.func61, Try.ntmps61
        go_wp2
        go_ret
        exact ⟨rfl, below_a1 _ _⟩
      | false =>
        go_enter Try.func61, Try.ntmps61
        go_wp2
        go_ret
        exact ⟨rfl, below_a1 _ _⟩

set_option maxRecDepth 10000 in
set_option maxHeartbeats 1000000 in
theorem implViewsOk (A : Option Addr) (n c : Nat) (es : List VE) (w : World) (hr : SlV w A n es) (hn : n ≤ 2097152) :
    Calls Try.prog 35 #[.slice A n c] w (GTell w (viewsB es)) := by
  have HR := Lib.hid hr
  have HL := Lib.hid hr.len
  clear hr
  have CO := Lib.hid (fun e W => implViewOk e W)
  unfold VE.val at CO
  by_cases h4 : 400 < n
  · rw [viewsB_long (by rw [HL.out]; exact h4)]
    go_enter Try.func35, Try.ntmps35
    go_wp2
    go_ret
    exact ⟨rfl, Below.refl _ _⟩
  · go_enter Try.func35, Try.ntmps35
    go_wp2
    go_loopw [10] (fun i wr => ∃ k : Nat, k ≤ n ∧ i = .int .i64 (k : Int) ∧ Hid (∀ e ∈ es.take k, e.ok = true) ∧ Hid (Below w.heap.size w wr)) (fun i _ => n - (intOf i).toNat)
    case atStart => exact ⟨0, Nat.zero_le _, rfl, Lib.hid (by simp), Lib.hid (Below.refl _ _)⟩
    case round =>
      obtain ⟨k, hk, rfl, hok, hbel⟩ := hrel
      by_cases hlt : k < n
      · skip
        obtain ⟨b, off, e, rfl, hbw, he, c0, c1, c2, c3⟩ := HR.out.at_ hlt
        have c0 := (hbel.out.cell (p := ⟨b, off + k * 4, none⟩) hbw).trans c0
        have c1 := (hbel.out.cell (p := ⟨b, off + k * 4 + 1, none⟩) hbw).trans c1
        have c2 := (hbel.out.cell (p := ⟨b, off + k * 4 + 2, none⟩) hbw).trans c2
        have c3 := (hbel.out.cell (p := ⟨b, off + k * 4 + 3, none⟩) hbw).trans c3
        cases hv : e.ok with
        | true =>
          have C := Lib.hid (fun W => CO.out e W)
          rw [hv] at C
          have HOK := Lib.hid (ok_snoc he.out hok.out hv)
          clear hv
          go_wp2_with fail
          refine (C.out _).mono ?_
          rintro e1 w1 ⟨rfl, hb1⟩
          have HB := Lib.hid (g_chain (g_chain hbel.out (below_a1 _ _)) hb1)
          clear hb1
          go_wp2
          go_roundw
          case rel => exact ⟨k + 1, by omega, by go_num, HOK, HB⟩
          case measure => simp [intOf]; omega
        | false =>
          have C := Lib.hid (fun W => CO.out e W)
          rw [hv] at C
          have HNO := Lib.hid (viewsB_no (mem_at he.out) hv)
          clear hv
          rw [HNO.out]
          go_wp2_with fail
          refine (C.out _).mono ?_
          rintro e1 w1 ⟨rfl, hb1⟩
          have HB := Lib.hid (g_chain (g_chain hbel.out (below_a1 _ _)) hb1)
          clear hb1
          go_wp2
          go_ret
          exact ⟨rfl, HB.out⟩
      · obtain rfl : k = n := by omega
        have HYES := Lib.hid (viewsB_yes (es := es) (by rw [HL.out]; omega) (by have := hok.out; rwa [List.take_of_length_le (by rw [HL.out]; exact Nat.le_refl _)] at this))
        go_wp2
        go_ret
        exact ⟨g_bool (by rw [HYES.out]), hbel.out⟩

set_option maxRecDepth 10000 in
set_option maxHeartbeats 4000000 in
theorem specViews (A : Option Addr) (n c : Nat) (es : List VE) (w : World) (hr : SlV w A n es) (hn : n ≤ 2097152) :
    Calls Try.prog 38 #[.slice A n c] w (GTell w (viewsB es)) := by
  have HR := Lib.hid hr
  have HL := Lib.hid hr.len
  clear hr
  go_enter Try.func38, Try.ntmps38
  go_wp2
  go_loopw [7] (fun i wr => ∃ k : Nat, k ≤ n ∧ i = .int .i64 (k : Int) ∧ Hid (∀ e ∈ es.take k, e.ok = true) ∧ Hid (Below w.heap.size w wr)) (fun i _ => n - (intOf i).toNat)
  case atStart => exact ⟨0, Nat.zero_le _, rfl, Lib.hid (by simp), Lib.hid (Below.refl _ _)⟩
  case round =>
    obtain ⟨k, hk, rfl, hok, hbel⟩ := hrel
    by_cases hlt : k < n
    · skip
      obtain ⟨b, off, e, rfl, hbw, he, c0, c1, c2, c3⟩ := HR.out.at_ hlt
      have c0 := (hbel.out.cell (p := ⟨b, off + k * 4, none⟩) hbw).trans c0
      have c1 := (hbel.out.cell (p := ⟨b, off + k * 4 + 1, none⟩) hbw).trans c1
      have c2 := (hbel.out.cell (p := ⟨b, off + k * 4 + 2, none⟩) hbw).trans c2
      have c3 := (hbel.out.cell (p := ⟨b, off + k * 4 + 3, none⟩) hbw).trans c3
      obtain ⟨i, o, ww, v⟩ := e
      simp only at c0 c1 c2 c3
      have HP := Lib.hid (ok_parts i o ww v)
      by_cases hw0 : ww < 0
      · have hv : VE.ok ⟨i, o, ww, v⟩ = false := by rw [HP.out]; simp; intros; omega
        cases i <;> cases o
        all_goals
          have HNO := Lib.hid (viewsB_no (mem_at he.out) hv)
          clear hv
          rw [HNO.out]
          go_wp2
          go_ret
          exact ⟨rfl, g_chain hbel.out (below_a1 _ _)⟩
      by_cases hw1 : 1000 < ww
      · have hv : VE.ok ⟨i, o, ww, v⟩ = false := by rw [HP.out]; simp; intros; omega
        cases i <;> cases o
        all_goals
          have HNO := Lib.hid (viewsB_no (mem_at he.out) hv)
          clear hv
          rw [HNO.out]
          go_wp2
          go_ret
          exact ⟨rfl, g_chain hbel.out (below_a1 _ _)⟩
      by_cases hv0 : v < 0
      · have hv : VE.ok ⟨i, o, ww, v⟩ = false := by rw [HP.out]; unfold valB; simp; intros; omega
        cases i <;> cases o
        all_goals
          have HNO := Lib.hid (viewsB_no (mem_at he.out) hv)
          clear hv
          rw [HNO.out]
          go_wp2
          go_ret
          exact ⟨rfl, g_chain hbel.out (below_a1 _ _)⟩
      by_cases hv1 : 1099511627776 < v
      · have hv : VE.ok ⟨i, o, ww, v⟩ = false := by rw [HP.out]; unfold valB; simp; intros; omega
        cases i <;> cases o
        all_goals
          have HNO := Lib.hid (viewsB_no (mem_at he.out) hv)
          clear hv
          rw [HNO.out]
          go_wp2
          go_ret
          exact ⟨rfl, g_chain hbel.out (below_a1 _ _)⟩
      have hx0 : 0 ≤ ww := by omega
      have hx1 : ww ≤ 1000 := by omega
      have hx2 : 0 ≤ v := by omega
      have hx3 : v ≤ 1099511627776 := by omega
      cases i with
      | true =>
        have hv : VE.ok ⟨true, o, ww, v⟩ = true := by rw [HP.out]; unfold valB; simp; omega
        clear hx0 hx1 hx2 hx3
        have HOK := Lib.hid (ok_snoc he.out hok.out hv)
        clear hv
        go_wp2
        go_roundw
        case rel => exact ⟨k + 1, by omega, by go_num, HOK, Lib.hid (g_chain hbel.out (below_a1 _ _))⟩
        case measure => simp [intOf]; omega
      | false =>
        cases o with
        | true =>
          have hv : VE.ok ⟨false, true, ww, v⟩ = true := by rw [HP.out]; unfold valB; simp; omega
          clear hx0 hx1 hx2 hx3
          have HOK := Lib.hid (ok_snoc he.out hok.out hv)
          clear hv
          go_wp2
          go_roundw
          case rel => exact ⟨k + 1, by omega, by go_num, HOK, Lib.hid (g_chain hbel.out (below_a1 _ _))⟩
          case measure => simp [intOf]; omega
        | false =>
          have hv : VE.ok ⟨false, false, ww, v⟩ = false := by rw [HP.out]; simp
          clear hx0 hx1 hx2 hx3
          have HNO := Lib.hid (viewsB_no (mem_at he.out) hv)
          clear hv
          rw [HNO.out]
          go_wp2
          go_ret
          exact ⟨rfl, g_chain hbel.out (below_a1 _ _)⟩
    · obtain rfl : k = n := by omega
      by_cases h4 : 400 < k
      · have HNO := Lib.hid (viewsB_long (es := es) (by rw [HL.out]; omega))
        go_wp2
        go_ret
        exact ⟨g_bool (by rw [HNO.out]; simp; omega), hbel.out⟩
      · have h5 : k ≤ 400 := by omega
        have HYES := Lib.hid (viewsB_yes (es := es) (by rw [HL.out]; omega) (by have := hok.out; rwa [List.take_of_length_le (by rw [HL.out]; exact Nat.le_refl _)] at this))
        clear h5
        go_wp2
        go_ret
        exact ⟨g_bool (by rw [HYES.out]; simp; omega), hbel.out⟩

end Go.Proofs.Ytgmgpadijajkkaa
