/- The contracts of the new value of an edge: the program's four functions and the model's one. Conditions: the values lie in their limits; where an Out edge divides, there is one. // The contracts of the test of views: the program's viewOk and viewsOk, the model's l10Views. Condition: at most 2^21 views. // The contracts of slices.Sort at []int (the library's own, laid here) on a row of a call's own, and of the program's mostFrequent. Condition: at most 2^21 numbers. // The contract of the program's mostFrequent: the most frequent label, the smallest in case of a tie; it sorts the list it is given. Condition: at most 2^21 labels. // The contract of the program's newLabel: the most frequent of the labels that the views tell. Conditions: at most 2^20 views, their values in their limits. // The contract of the program's function that copies a set: new bytes. -/
import Derived.Test.YtpgnappddddlpaaGreatDoorCGF
import Derived.Deep.QuietTactic
import Derived.BigQuiet
import Derived.Test.YtpgnappddddlpaaGreatDoorCGE
import Derived.Test.YtpgnappddddlpaaGreatDoorCGA
import Derived.Test.YtpgnappddddlpaaGreatDoorShelfInts
import Derived.Sort.OwnSortedInts
import Derived.Test.YtpgnappddddlpaaGreatDoorCGD
import Derived.Laws.CopyOwn
namespace Go.Proofs.YtpgnappddddlpaaGreatDoor
open Go.RowKit

def VE.val (e : VE) : Value := .agg #[.bool e.i, .bool e.o, .int .i64 e.w, .int .i64 e.v]
theorem tdiv_le {x : Int} {n : Nat} (h : 0 ≤ x ∧ x ≤ 1099511627776) : 0 ≤ Int.tdiv x (n : Int) ∧ Int.tdiv x (n : Int) ≤ 1099511627776 := by
  rw [Int.tdiv_eq_ediv_of_nonneg h.1]
  have h1 := Int.ediv_nonneg (a := x) (b := (n : Int)) h.1 (by omega)
  have h2 := Int.ediv_le_self (a := x) (n : Int) h.1
  omega
set_option maxHeartbeats 1000000 in
theorem edgeI_1 (e : VE) (x : Int) (n : Nat) (w : World) (hx : 0 ≤ x ∧ x ≤ 1099511627776) (hn : e.o = true → 0 < n) :
    Calls Tryz.prog 96 #[e.val, .int .i64 x, .int .i64 (n : Int)] w (fun r w' => r = .returned (.int .i64 (newEdge 1 x n e)) ∧ Below w.heap.size w w') := by
  obtain ⟨i, o, ww, v⟩ := e
  unfold VE.val newEdge
  cases o with
  | true =>
    have h0 := hn rfl
    have h1 : ((n : Int) == 0) = false := by simp; omega
    have h2 : IntKind.i64.wrap (Int.tdiv x (n : Int)) = Int.tdiv x (n : Int) := IntWalk.i64_in _ (by have := tdiv_le (n := n) hx; omega)
    have h3 : ¬ n = 0 := by omega
    clear hn
    go_enter Tryz.func96, Tryz.ntmps96
    go_wp2
    go_ret
    exact ⟨by simp, below_a1 _ _⟩
  | false =>
    clear hn
    go_enter Tryz.func96, Tryz.ntmps96
    go_wp2
    go_ret
    exact ⟨by simp, below_a1 _ _⟩
theorem edgeI_2 (e : VE) (x : Int) (n : Nat) (w : World) :
    Calls Tryz.prog 100 #[e.val, .int .i64 x, .int .i64 (n : Int)] w (fun r w' => r = .returned (.int .i64 (newEdge 2 x n e)) ∧ Below w.heap.size w w') := by
  obtain ⟨i, o, ww, v⟩ := e
  unfold VE.val
  have hq : newEdge 2 x n ⟨i, o, ww, v⟩ = min v x := by unfold newEdge; simp; omega
  rw [hq]
  clear hq
  obtain ⟨z, hz⟩ : ∃ z, min v x = z := ⟨_, rfl⟩
  have HZ := Lib.hid hz
  go_enter Tryz.func100, Tryz.ntmps100
  go_wp2
  all_goals
    go_ret
    exact ⟨g_int (by first | rfl | (have := HZ.out; omega)), below_a1 _ _⟩
theorem edgeI_3 (e : VE) (x : Int) (n : Nat) (w : World) :
    Calls Tryz.prog 104 #[e.val, .int .i64 x, .int .i64 (n : Int)] w (fun r w' => r = .returned (.int .i64 (newEdge 3 x n e)) ∧ Below w.heap.size w w') := by
  obtain ⟨i, o, ww, v⟩ := e
  unfold VE.val newEdge
  cases o with
  | true =>
    go_enter Tryz.func104, Tryz.ntmps104
    go_wp2
    go_ret
    exact ⟨by simp, below_a1 _ _⟩
  | false =>
    go_enter Tryz.func104, Tryz.ntmps104
    go_wp2
    go_ret
    exact ⟨by simp, below_a1 _ _⟩
theorem lab_parts {v : Int} (h : 0 ≤ v ∧ v ≤ 1099511627776) : ∃ q r : Int, Int.tdiv v 1000 = q ∧ Int.tmod v 1000 = r ∧ (0 ≤ q ∧ q ≤ 1099511627776) ∧ (0 ≤ r ∧ r ≤ 1099511627776) :=
  ⟨_, _, rfl, rfl, by rw [Int.tdiv_eq_ediv_of_nonneg h.1]; omega, by rw [Int.tmod_eq_emod_of_nonneg h.1]; omega⟩

set_option maxHeartbeats 1000000 in
theorem edgeI_4 (e : VE) (x : Int) (n : Nat) (w : World) (hx : 0 ≤ x ∧ x ≤ 1099511627776) (hv : 0 ≤ e.v ∧ e.v ≤ 1099511627776) :
    Calls Tryz.prog 107 #[e.val, .int .i64 x, .int .i64 (n : Int)] w (fun r w' => r = .returned (.int .i64 (newEdge 4 x n e)) ∧ Below w.heap.size w w') := by
  have CA := Lib.hid (fun a b W => implAddCap a b W)
  obtain ⟨i, o, ww, v⟩ := e
  unfold VE.val
  simp only at hv
  obtain ⟨q, r, hq, hr, hq1, hr1⟩ := lab_parts hv
  have hq2 : IntKind.i64.wrap q = q := IntWalk.i64_in _ (by omega)
  have hq3 : IntKind.i64.wrap (q * 1000) = q * 1000 := IntWalk.i64_in _ (by omega)
  have hx3 : IntKind.i64.wrap (x * 1000) = x * 1000 := IntWalk.i64_in _ (by omega)
  have hd : IntKind.i64.wrap (Int.tdiv v 1000) = q := by rw [hq]; exact hq2
  by_cases hctt : o = true ∧ i = true
  · obtain ⟨rfl, rfl⟩ := hctt
    have HD : Hid (newEdge 4 x n ⟨true, true, ww, v⟩ = addC (x * 1000) x) := Lib.hid (by rw [addC_in (by omega) (by omega)]; unfold newEdge; simp)
    rw [HD.out]
    clear HD
    have C := Lib.hid (fun W => CA.out (x * 1000) x W)
    generalize addC (x * 1000) x = z at C ⊢
    clear CA
    go_enter Tryz.func107, Tryz.ntmps107
    go_wp2
    go_quiet (fail)
    rename Nat => kq
    have HB := Lib.hid (below_drewN (Below.refl (w.alloc (.cells #[.bool true, .bool true, .int .i64 ww, .int .i64 v] 94)).heap.size (w.alloc (.cells #[.bool true, .bool true, .int .i64 ww, .int .i64 v] 94))) kq)
    obtain ⟨hc, hf⟩ := bcell HB.out
    have hz : w.heap.size + 1 ≤ (World.drewN (w.alloc (.cells #[.bool true, .bool true, .int .i64 ww, .int .i64 v] 94)) kq).heap.size := by have := HB.out.size; simp
    generalize World.drewN _ kq = wq at *
    go_wp2_with fail
    refine (C.out _).mono ?_
    rintro e w1 ⟨rfl, rfl⟩
    go_wp2
    go_ret
    exact ⟨rfl, g_chain (below_a1 _ _) HB.out⟩
  by_cases hctf : o = true ∧ i = false
  · obtain ⟨rfl, rfl⟩ := hctf
    have HD : Hid (newEdge 4 x n ⟨false, true, ww, v⟩ = addC (x * 1000) r) := Lib.hid (by rw [addC_in (by omega) (by omega)]; unfold newEdge; simp [hr])
    rw [HD.out]
    clear HD
    have C := Lib.hid (fun W => CA.out (x * 1000) r W)
    generalize addC (x * 1000) r = z at C ⊢
    clear CA
    go_enter Tryz.func107, Tryz.ntmps107
    go_wp2
    go_quiet (fail)
    rename Nat => kq
    have HB := Lib.hid (below_drewN (Below.refl (w.alloc (.cells #[.bool false, .bool true, .int .i64 ww, .int .i64 v] 94)).heap.size (w.alloc (.cells #[.bool false, .bool true, .int .i64 ww, .int .i64 v] 94))) kq)
    obtain ⟨hc, hf⟩ := bcell HB.out
    have hz : w.heap.size + 1 ≤ (World.drewN (w.alloc (.cells #[.bool false, .bool true, .int .i64 ww, .int .i64 v] 94)) kq).heap.size := by have := HB.out.size; simp
    generalize World.drewN _ kq = wq at *
    go_wp2_with fail
    refine (C.out _).mono ?_
    rintro e w1 ⟨rfl, rfl⟩
    go_wp2
    go_ret
    exact ⟨rfl, g_chain (below_a1 _ _) HB.out⟩
  by_cases hcft : o = false ∧ i = true
  · obtain ⟨rfl, rfl⟩ := hcft
    have HD : Hid (newEdge 4 x n ⟨true, false, ww, v⟩ = addC (q * 1000) x) := Lib.hid (by rw [addC_in (by omega) (by omega)]; unfold newEdge; simp [hq])
    rw [HD.out]
    clear HD
    have C := Lib.hid (fun W => CA.out (q * 1000) x W)
    generalize addC (q * 1000) x = z at C ⊢
    clear CA
    go_enter Tryz.func107, Tryz.ntmps107
    go_wp2
    go_quiet (fail)
    rename Nat => kq
    have HB := Lib.hid (below_drewN (Below.refl (w.alloc (.cells #[.bool true, .bool false, .int .i64 ww, .int .i64 v] 94)).heap.size (w.alloc (.cells #[.bool true, .bool false, .int .i64 ww, .int .i64 v] 94))) kq)
    obtain ⟨hc, hf⟩ := bcell HB.out
    have hz : w.heap.size + 1 ≤ (World.drewN (w.alloc (.cells #[.bool true, .bool false, .int .i64 ww, .int .i64 v] 94)) kq).heap.size := by have := HB.out.size; simp
    generalize World.drewN _ kq = wq at *
    go_wp2_with fail
    refine (C.out _).mono ?_
    rintro e w1 ⟨rfl, rfl⟩
    go_wp2
    go_ret
    exact ⟨rfl, g_chain (below_a1 _ _) HB.out⟩
  by_cases hcff : o = false ∧ i = false
  · obtain ⟨rfl, rfl⟩ := hcff
    have HD : Hid (newEdge 4 x n ⟨false, false, ww, v⟩ = addC (q * 1000) r) := Lib.hid (by rw [addC_in (by omega) (by omega)]; unfold newEdge; simp [hq, hr])
    rw [HD.out]
    clear HD
    have C := Lib.hid (fun W => CA.out (q * 1000) r W)
    generalize addC (q * 1000) r = z at C ⊢
    clear CA
    go_enter Tryz.func107, Tryz.ntmps107
    go_wp2
    go_quiet (fail)
    rename Nat => kq
    have HB := Lib.hid (below_drewN (Below.refl (w.alloc (.cells #[.bool false, .bool false, .int .i64 ww, .int .i64 v] 94)).heap.size (w.alloc (.cells #[.bool false, .bool false, .int .i64 ww, .int .i64 v] 94))) kq)
    obtain ⟨hc, hf⟩ := bcell HB.out
    have hz : w.heap.size + 1 ≤ (World.drewN (w.alloc (.cells #[.bool false, .bool false, .int .i64 ww, .int .i64 v] 94)) kq).heap.size := by have := HB.out.size; simp
    generalize World.drewN _ kq = wq at *
    go_wp2_with fail
    refine (C.out _).mono ?_
    rintro e w1 ⟨rfl, rfl⟩
    go_wp2
    go_ret
    exact ⟨rfl, g_chain (below_a1 _ _) HB.out⟩
  cases o <;> cases i <;> simp_all
set_option maxHeartbeats 2000000 in
theorem edgeS (p s : Int) (e : VE) (x : Int) (n : Nat) (w : World) (hp : 1 ≤ p ∧ p ≤ 4) (hx : 0 ≤ x ∧ x ≤ 1099511627776) (hv : 0 ≤ e.v ∧ e.v ≤ 1099511627776) (hn : e.o = true → 0 < n) :
    Calls Tryz.prog 72 #[.agg #[.int .i64 p, .int .i64 s], .int .i64 x, .int .i64 (n : Int), e.val] w (fun r w' => r = .returned (.int .i64 (newEdge p x n e)) ∧ Below w.heap.size w w') := by
  have CC := Lib.hid (fun v W => specCap v W)
  have CM := Lib.hid (fun a b W => specMin a b W)
  obtain ⟨i, o, ww, v⟩ := e
  unfold VE.val
  simp only at hv hn
  have hp4 : p = 1 ∨ p = 2 ∨ p = 3 ∨ p = 4 := by omega
  clear hp
  rcases hp4 with rfl | rfl | rfl | rfl
  · unfold newEdge
    cases o with
    | true =>
      have h0 := hn rfl
      have h1 : ((n : Int) == 0) = false := by simp; omega
      have h2 : IntKind.i64.wrap (Int.tdiv x (n : Int)) = Int.tdiv x (n : Int) := IntWalk.i64_in _ (by have := tdiv_le (n := n) hx; omega)
      have h3 : ¬ n = 0 := by omega
      clear hn
      go_enter Tryz.func72, Tryz.ntmps72
      go_wp2
      go_ret
      exact ⟨by simp, below_a2 _ _ _⟩
    | false =>
      clear hn
      go_enter Tryz.func72, Tryz.ntmps72
      go_wp2
      go_ret
      exact ⟨by simp, below_a2 _ _ _⟩
  · have hq : newEdge 2 x n ⟨i, o, ww, v⟩ = min x v := by unfold newEdge; simp
    rw [hq]
    have C := Lib.hid (fun W => CM.out x v W)
    generalize min x v = z at C ⊢
    clear hq hn CM CC
    go_enter Tryz.func72, Tryz.ntmps72
    go_wp2_with fail
    refine (C.out _).mono ?_
    rintro e w1 ⟨rfl, rfl⟩
    go_wp2
    go_ret
    exact ⟨rfl, below_a2 _ _ _⟩
  · unfold newEdge
    cases o with
    | true =>
      clear hn
      go_enter Tryz.func72, Tryz.ntmps72
      go_wp2
      go_ret
      exact ⟨by simp, below_a2 _ _ _⟩
    | false =>
      clear hn
      go_enter Tryz.func72, Tryz.ntmps72
      go_wp2
      go_ret
      exact ⟨by simp, below_a2 _ _ _⟩
  · obtain ⟨q, r, hq, hr, hq1, hr1⟩ := lab_parts hv
    have hq2 : IntKind.i64.wrap q = q := IntWalk.i64_in _ (by omega)
    have hq3 : IntKind.i64.wrap (q * 1000) = q * 1000 := IntWalk.i64_in _ (by omega)
    have hx3 : IntKind.i64.wrap (x * 1000) = x * 1000 := IntWalk.i64_in _ (by omega)
    have hd : IntKind.i64.wrap (Int.tdiv v 1000) = q := by rw [hq]; exact hq2
    clear hn CM
    by_cases hctt : o = true ∧ i = true
    · obtain ⟨rfl, rfl⟩ := hctt
      have HD : Hid (newEdge 4 x n ⟨true, true, ww, v⟩ = capF (x * 1000 + x)) := Lib.hid (by unfold newEdge; simp)
      rw [HD.out]
      clear HD
      have hs : IntKind.i64.wrap (x * 1000 + x) = x * 1000 + x := IntWalk.i64_in _ (by omega)
      have C := Lib.hid (fun W => CC.out (x * 1000 + x) W)
      generalize capF (x * 1000 + x) = z at C ⊢
      clear CC
      go_enter Tryz.func72, Tryz.ntmps72
      go_wp2_with fail
      refine (C.out _).mono ?_
      rintro e w1 ⟨rfl, rfl⟩
      go_wp2
      go_ret
      exact ⟨rfl, below_a2 _ _ _⟩
    by_cases hctf : o = true ∧ i = false
    · obtain ⟨rfl, rfl⟩ := hctf
      have HD : Hid (newEdge 4 x n ⟨false, true, ww, v⟩ = capF (x * 1000 + r)) := Lib.hid (by unfold newEdge; simp [hr])
      rw [HD.out]
      clear HD
      have hs : IntKind.i64.wrap (x * 1000 + r) = x * 1000 + r := IntWalk.i64_in _ (by omega)
      have C := Lib.hid (fun W => CC.out (x * 1000 + r) W)
      generalize capF (x * 1000 + r) = z at C ⊢
      clear CC
      go_enter Tryz.func72, Tryz.ntmps72
      go_wp2_with fail
      refine (C.out _).mono ?_
      rintro e w1 ⟨rfl, rfl⟩
      go_wp2
      go_ret
      exact ⟨rfl, below_a2 _ _ _⟩
    by_cases hcft : o = false ∧ i = true
    · obtain ⟨rfl, rfl⟩ := hcft
      have HD : Hid (newEdge 4 x n ⟨true, false, ww, v⟩ = capF (q * 1000 + x)) := Lib.hid (by unfold newEdge; simp [hq])
      rw [HD.out]
      clear HD
      have hs : IntKind.i64.wrap (q * 1000 + x) = q * 1000 + x := IntWalk.i64_in _ (by omega)
      have C := Lib.hid (fun W => CC.out (q * 1000 + x) W)
      generalize capF (q * 1000 + x) = z at C ⊢
      clear CC
      go_enter Tryz.func72, Tryz.ntmps72
      go_wp2_with fail
      refine (C.out _).mono ?_
      rintro e w1 ⟨rfl, rfl⟩
      go_wp2
      go_ret
      exact ⟨rfl, below_a2 _ _ _⟩
    by_cases hcff : o = false ∧ i = false
    · obtain ⟨rfl, rfl⟩ := hcff
      have HD : Hid (newEdge 4 x n ⟨false, false, ww, v⟩ = capF (q * 1000 + r)) := Lib.hid (by unfold newEdge; simp [hq, hr])
      rw [HD.out]
      clear HD
      have hs : IntKind.i64.wrap (q * 1000 + r) = q * 1000 + r := IntWalk.i64_in _ (by omega)
      have C := Lib.hid (fun W => CC.out (q * 1000 + r) W)
      generalize capF (q * 1000 + r) = z at C ⊢
      clear CC
      go_enter Tryz.func72, Tryz.ntmps72
      go_wp2_with fail
      refine (C.out _).mono ?_
      rintro e w1 ⟨rfl, rfl⟩
      go_wp2
      go_ret
      exact ⟨rfl, below_a2 _ _ _⟩
    cases o <;> cases i <;> simp_all
end Go.Proofs.YtpgnappddddlpaaGreatDoor
namespace Go.Proofs.YtpgnappddddlpaaGreatDoor
open Go.RowKit

theorem ok_parts (i o : Bool) (ww v : Int) : VE.ok ⟨i, o, ww, v⟩ = ((i || o) && (decide (0 ≤ ww) && (decide (ww ≤ 1000) && valB v))) := by
  unfold VE.ok
  rw [Bool.decide_and, Bool.and_assoc]
theorem viewsB_no {es : List VE} {e : VE} (h : e ∈ es) (hk : e.ok = false) : viewsB es = false := by
  unfold viewsB
  rw [Bool.and_eq_false_iff]
  right
  rw [List.all_eq_false]
  exact ⟨e, h, by simp [hk]⟩
theorem viewsB_yes {es : List VE} (hn : es.length ≤ 400) (h : ∀ e ∈ es, e.ok = true) : viewsB es = true := by
  unfold viewsB
  simp [hn]
  exact h
theorem viewsB_long {es : List VE} (hn : 400 < es.length) : viewsB es = false := by
  unfold viewsB
  simp
  intro h
  omega
theorem ok_snoc {es : List VE} {k : Nat} {e : VE} (he : es[k]? = some e) (h : ∀ e ∈ es.take k, e.ok = true) (hk : e.ok = true) : ∀ e ∈ es.take (k + 1), e.ok = true := by
  intro a ha
  rw [take_snoc he] at ha
  rcases List.mem_append.1 ha with ha | ha
  · exact h a ha
  · rw [List.mem_singleton.1 ha]; exact hk
theorem mem_at {es : List VE} {k : Nat} {e : VE} (he : es[k]? = some e) : e ∈ es := List.mem_of_getElem? he

set_option maxHeartbeats 1000000 in
theorem implViewOk (e : VE) (w : World) : Calls Tryz.prog 110 #[e.val] w (GTell w e.ok) := by
  have CV := Lib.hid (fun W => implIsValue e.v W)
  obtain ⟨i, o, ww, v⟩ := e
  rw [ok_parts]
  unfold VE.val
  simp only at CV ⊢
  by_cases hw0 : 0 ≤ ww
  · by_cases hw1 : ww ≤ 1000
    · generalize valB v = b at CV ⊢
      cases i with
      | true =>
        have hz : (((true || o) && (decide (0 ≤ ww) && (decide (ww ≤ 1000) && b)))) = b := by simp [hw0, hw1]
        rw [hz]
        clear hz
        go_enter Tryz.func110, Tryz.ntmps110
        go_wp2_with fail
        refine (CV.out _).mono ?_
        rintro e w1 ⟨rfl, rfl⟩
        go_wp2
        go_ret
        exact ⟨rfl, below_a1 _ _⟩
      | false =>
        cases o with
        | true =>
          have hz : (((false || true) && (decide (0 ≤ ww) && (decide (ww ≤ 1000) && b)))) = b := by simp [hw0, hw1]
          rw [hz]
          clear hz
          go_enter Tryz.func110, Tryz.ntmps110
          go_wp2_with fail
          refine (CV.out _).mono ?_
          rintro e w1 ⟨rfl, rfl⟩
          go_wp2
          go_ret
          exact ⟨rfl, below_a1 _ _⟩
        | false =>
          have hz : (((false || false) && (decide (0 ≤ ww) && (decide (ww ≤ 1000) && b)))) = false := by simp
          rw [hz]
          clear hz
          go_enter Tryz.func110, Tryz.ntmps110
          go_wp2
          go_ret
          exact ⟨rfl, below_a1 _ _⟩
    · have hz : ((i || o) && (decide (0 ≤ ww) && (decide (ww ≤ 1000) && valB v))) = false := by simp [hw1]
      rw [hz]
      clear hz
      cases i with
      | true =>
        go_enter Tryz.func110, Tryz.ntmps110
        go_wp2
        go_ret
        exact ⟨rfl, below_a1 _ _⟩
      | false =>
        cases o with
        | true =>
          go_enter Tryz.func110, Tryz.ntmps110
          go_wp2
          go_ret
          exact ⟨rfl, below_a1 _ _⟩
        | false =>
          go_enter Tryz.func110, Tryz.ntmps110
          go_wp2
          go_ret
          exact ⟨rfl, below_a1 _ _⟩
  · have hz : ((i || o) && (decide (0 ≤ ww) && (decide (ww ≤ 1000) && valB v))) = false := by simp [hw0]
    rw [hz]
    clear hz
    cases i with
    | true =>
      go_enter Tryz.func110, Tryz.ntmps110
      go_wp2
      go_ret
      exact ⟨rfl, below_a1 _ _⟩
    | false =>
      cases o with
      | true =>
        go_enter Tryz.func110, Tryz.ntmps110
        go_wp2
        go_ret
        exact ⟨rfl, below_a1 _ _⟩
      | false =>
        go_enter Tryz.func110, Tryz.ntmps110
        go_wp2
        go_ret
        exact ⟨rfl, below_a1 _ _⟩

set_option maxRecDepth 10000 in
set_option maxHeartbeats 1000000 in
theorem implViewsOk (A : Option Addr) (n c : Nat) (es : List VE) (w : World) (hr : SlV w A n es) (hn : n ≤ 2097152) :
    Calls Tryz.prog 83 #[.slice A n c] w (GTell w (viewsB es)) := by
  have HR := Lib.hid hr
  have HL := Lib.hid hr.len
  clear hr
  have CO := Lib.hid (fun e W => implViewOk e W)
  unfold VE.val at CO
  by_cases h4 : 400 < n
  · rw [viewsB_long (by rw [HL.out]; exact h4)]
    go_enter Tryz.func83, Tryz.ntmps83
    go_wp2
    go_ret
    exact ⟨rfl, Below.refl _ _⟩
  · go_enter Tryz.func83, Tryz.ntmps83
    go_wp2
    go_loopw [10] (fun i wr => ∃ k : Nat, k ≤ n ∧ i = .int .i64 (k : Int) ∧ Hid (∀ e ∈ es.take k, e.ok = true) ∧ Hid (Below w.heap.size w wr)) (fun i _ => n - (intOf i).toNat)
    case atStart => exact ⟨0, Nat.zero_le _, rfl, Lib.hid (by simp), Lib.hid (Below.refl _ _)⟩
    case round =>
      obtain ⟨k, hk, rfl, hok, hbel⟩ := hrel
      by_cases hlt : k < n
      · skip
        obtain ⟨b, off, e, rfl, hbw, he, c0, c1, c2, c3⟩ := HR.out.at_ hlt
        have c0 := (hbel.out.cell (p := ⟨b, off + k * 4, none⟩) hbw).trans c0
        have c1 := (hbel.out.cell (p := ⟨b, off + k * 4 + 1, none⟩) hbw).trans c1
        have c2 := (hbel.out.cell (p := ⟨b, off + k * 4 + 2, none⟩) hbw).trans c2
        have c3 := (hbel.out.cell (p := ⟨b, off + k * 4 + 3, none⟩) hbw).trans c3
        cases hv : e.ok with
        | true =>
          have C := Lib.hid (fun W => CO.out e W)
          rw [hv] at C
          have HOK := Lib.hid (ok_snoc he.out hok.out hv)
          clear hv
          go_wp2_with fail
          refine (C.out _).mono ?_
          rintro e1 w1 ⟨rfl, hb1⟩
          have HB := Lib.hid (g_chain (g_chain hbel.out (below_a1 _ _)) hb1)
          clear hb1
          go_wp2
          go_roundw
          case rel => exact ⟨k + 1, by omega, by go_num, HOK, HB⟩
          case measure => simp [intOf]; omega
        | false =>
          have C := Lib.hid (fun W => CO.out e W)
          rw [hv] at C
          have HNO := Lib.hid (viewsB_no (mem_at he.out) hv)
          clear hv
          rw [HNO.out]
          go_wp2_with fail
          refine (C.out _).mono ?_
          rintro e1 w1 ⟨rfl, hb1⟩
          have HB := Lib.hid (g_chain (g_chain hbel.out (below_a1 _ _)) hb1)
          clear hb1
          go_wp2
          go_ret
          exact ⟨rfl, HB.out⟩
      · obtain rfl : k = n := by omega
        have HYES := Lib.hid (viewsB_yes (es := es) (by rw [HL.out]; omega) (by have := hok.out; rwa [List.take_of_length_le (by rw [HL.out]; exact Nat.le_refl _)] at this))
        go_wp2
        go_ret
        exact ⟨g_bool (by rw [HYES.out]), hbel.out⟩

set_option maxRecDepth 10000 in
set_option maxHeartbeats 4000000 in
theorem specViews (A : Option Addr) (n c : Nat) (es : List VE) (w : World) (hr : SlV w A n es) (hn : n ≤ 2097152) :
    Calls Tryz.prog 70 #[.slice A n c] w (GTell w (viewsB es)) := by
  have HR := Lib.hid hr
  have HL := Lib.hid hr.len
  clear hr
  go_enter Tryz.func70, Tryz.ntmps70
  go_wp2
  go_loopw [7] (fun i wr => ∃ k : Nat, k ≤ n ∧ i = .int .i64 (k : Int) ∧ Hid (∀ e ∈ es.take k, e.ok = true) ∧ Hid (Below w.heap.size w wr)) (fun i _ => n - (intOf i).toNat)
  case atStart => exact ⟨0, Nat.zero_le _, rfl, Lib.hid (by simp), Lib.hid (Below.refl _ _)⟩
  case round =>
    obtain ⟨k, hk, rfl, hok, hbel⟩ := hrel
    by_cases hlt : k < n
    · skip
      obtain ⟨b, off, e, rfl, hbw, he, c0, c1, c2, c3⟩ := HR.out.at_ hlt
      have c0 := (hbel.out.cell (p := ⟨b, off + k * 4, none⟩) hbw).trans c0
      have c1 := (hbel.out.cell (p := ⟨b, off + k * 4 + 1, none⟩) hbw).trans c1
      have c2 := (hbel.out.cell (p := ⟨b, off + k * 4 + 2, none⟩) hbw).trans c2
      have c3 := (hbel.out.cell (p := ⟨b, off + k * 4 + 3, none⟩) hbw).trans c3
      obtain ⟨i, o, ww, v⟩ := e
      simp only at c0 c1 c2 c3
      have HP := Lib.hid (ok_parts i o ww v)
      by_cases hw0 : ww < 0
      · have hv : VE.ok ⟨i, o, ww, v⟩ = false := by rw [HP.out]; simp; intros; omega
        cases i <;> cases o
        all_goals
          have HNO := Lib.hid (viewsB_no (mem_at he.out) hv)
          clear hv
          rw [HNO.out]
          go_wp2
          go_ret
          exact ⟨rfl, g_chain hbel.out (below_a1 _ _)⟩
      by_cases hw1 : 1000 < ww
      · have hv : VE.ok ⟨i, o, ww, v⟩ = false := by rw [HP.out]; simp; intros; omega
        cases i <;> cases o
        all_goals
          have HNO := Lib.hid (viewsB_no (mem_at he.out) hv)
          clear hv
          rw [HNO.out]
          go_wp2
          go_ret
          exact ⟨rfl, g_chain hbel.out (below_a1 _ _)⟩
      by_cases hv0 : v < 0
      · have hv : VE.ok ⟨i, o, ww, v⟩ = false := by rw [HP.out]; unfold valB; simp; intros; omega
        cases i <;> cases o
        all_goals
          have HNO := Lib.hid (viewsB_no (mem_at he.out) hv)
          clear hv
          rw [HNO.out]
          go_wp2
          go_ret
          exact ⟨rfl, g_chain hbel.out (below_a1 _ _)⟩
      by_cases hv1 : 1099511627776 < v
      · have hv : VE.ok ⟨i, o, ww, v⟩ = false := by rw [HP.out]; unfold valB; simp; intros; omega
        cases i <;> cases o
        all_goals
          have HNO := Lib.hid (viewsB_no (mem_at he.out) hv)
          clear hv
          rw [HNO.out]
          go_wp2
          go_ret
          exact ⟨rfl, g_chain hbel.out (below_a1 _ _)⟩
      have hx0 : 0 ≤ ww := by omega
      have hx1 : ww ≤ 1000 := by omega
      have hx2 : 0 ≤ v := by omega
      have hx3 : v ≤ 1099511627776 := by omega
      cases i with
      | true =>
        have hv : VE.ok ⟨true, o, ww, v⟩ = true := by rw [HP.out]; unfold valB; simp; omega
        clear hx0 hx1 hx2 hx3
        have HOK := Lib.hid (ok_snoc he.out hok.out hv)
        clear hv
        go_wp2
        go_roundw
        case rel => exact ⟨k + 1, by omega, by go_num, HOK, Lib.hid (g_chain hbel.out (below_a1 _ _))⟩
        case measure => simp [intOf]; omega
      | false =>
        cases o with
        | true =>
          have hv : VE.ok ⟨false, true, ww, v⟩ = true := by rw [HP.out]; unfold valB; simp; omega
          clear hx0 hx1 hx2 hx3
          have HOK := Lib.hid (ok_snoc he.out hok.out hv)
          clear hv
          go_wp2
          go_roundw
          case rel => exact ⟨k + 1, by omega, by go_num, HOK, Lib.hid (g_chain hbel.out (below_a1 _ _))⟩
          case measure => simp [intOf]; omega
        | false =>
          have hv : VE.ok ⟨false, false, ww, v⟩ = false := by rw [HP.out]; simp
          clear hx0 hx1 hx2 hx3
          have HNO := Lib.hid (viewsB_no (mem_at he.out) hv)
          clear hv
          rw [HNO.out]
          go_wp2
          go_ret
          exact ⟨rfl, g_chain hbel.out (below_a1 _ _)⟩
    · obtain rfl : k = n := by omega
      by_cases h4 : 400 < k
      · have HNO := Lib.hid (viewsB_long (es := es) (by rw [HL.out]; omega))
        go_wp2
        go_ret
        exact ⟨g_bool (by rw [HNO.out]; simp; omega), hbel.out⟩
      · have h5 : k ≤ 400 := by omega
        have HYES := Lib.hid (viewsB_yes (es := es) (by rw [HL.out]; omega) (by have := hok.out; rwa [List.take_of_length_le (by rw [HL.out]; exact Nat.le_refl _)] at this))
        clear h5
        go_wp2
        go_ret
        exact ⟨g_bool (by rw [HYES.out]; simp; omega), hbel.out⟩

end Go.Proofs.YtpgnappddddlpaaGreatDoor
namespace Go.Proofs.YtpgnappddddlpaaGreatDoor
open Go.RowKit Go.Sort Go.Shelf

theorem sort_perm (zs : List Int) : zs.Perm (zs.mergeSort fun x y => decide (x ≤ y)) := (List.mergeSort_perm zs _).symm
theorem sort_le (zs : List Int) : (zs.mergeSort fun x y => decide (x ≤ y)).Pairwise (· ≤ ·) := by
  have h := List.pairwise_mergeSort (le := fun x y : Int => decide (x ≤ y)) (by intro a b c h1 h2; simp at h1 h2 ⊢; omega) (by intro a b; simp; omega) zs
  exact h.imp (fun h => by simpa using h)
def SortedZ (w : World) (lo g n c : Nat) (zs : List Int) (e : Ending) (w' : World) : Prop :=
  ∃ ys : List Int, e = .returned (.tuple #[]) ∧ zs.Perm ys ∧ ys.Pairwise (· ≤ ·) ∧ w'.ownsRow lo 3 1 (.slice (some ⟨g, 0, none⟩) n c) n (vi ys) ∧ w.grownBy w' (some g)
theorem sortInts_any (lo g n c : Nat) (zs : List Int) (w : World) (ho : w.ownsRow lo 3 1 (.slice (some ⟨g, 0, none⟩) n c) n (vi zs)) (hl : zs.length = n) (hn : n ≤ 2097152) :
    Calls Tryz.prog 114 #[.slice (some ⟨g, 0, none⟩) n c] w (SortedZ w lo g n c zs) := by
  subst hl
  rcases ho.2 with ⟨h, _⟩ | ⟨g', cap, cur, hv, hbase, hb, h1, h2, h3, h4⟩
  · cases h
  · injection hv with e1 _ e3
    injection e1 with e1
    injection e1 with e1
    subst e1 e3
    have hg : g < w.heap.size := (Array.getElem?_eq_some_iff.1 hb).1
    rw [Nat.mul_one] at h4
    have hH := holds_of_blockI hb h4
    refine (Any.slices_Sort_int Tryz.sortZ g 0 c zs w hH hg (by omega)).mono ?_
    rintro e w' ⟨rfl, m, os, rfl⟩
    refine ⟨zs.mergeSort fun x y => decide (x ≤ y), rfl, sort_perm zs, sort_le zs, ?_, grownBy_sortedI _⟩
    exact ownsRow_sortedI (List.length_mergeSort zs) hbase hb h1 h2 h3
theorem sortNone_any (p : Option Addr) (c : Nat) (w : World) :
    Calls Tryz.prog 114 #[.slice p 0 c] w (fun e w' => e = .returned (.tuple #[]) ∧ w' = w) := Any.slices_Sort_int_none Tryz.sortZ p c w
end Go.Proofs.YtpgnappddddlpaaGreatDoor
namespace Go.Proofs.YtpgnappddddlpaaGreatDoor
open Go.RowKit

theorem scan_start (x : Int) (ys : List Int) : Scan (ys.take 0) x x 0 0 := .inl ⟨by simp, rfl, rfl, rfl⟩
theorem scan_pos {P : List Int} {x b : Int} {m c : Nat} (h : Scan P x b m c) (hp : P ≠ []) : 1 ≤ m := by
  rcases h with ⟨h1, _⟩ | ⟨y, _, _, h3, h4, _⟩
  · exact absurd h1 hp
  · rw [h4]
    exact List.count_pos_iff.2 h3
theorem scan_zero {P : List Int} {x b : Int} {m c : Nat} (h : Scan P x b m c) (hp : P = []) : c = 0 := by
  rcases h with ⟨_, _, _, h4⟩ | ⟨y, h1, _⟩
  · exact h4
  · rw [hp] at h1; simp at h1
/-- The scan's next step, as the program takes it: with the count kept, or begun anew. -/
theorem scan_keep {ys : List Int} {x b y : Int} {k m c : Nat} (h : Scan (ys.take k) x b m c) (hs : ys.Pairwise (· ≤ ·)) (hy : ys[k]? = some y) (hp : k = 0 ∨ ∃ q, q + 1 = k ∧ ys[q]? = some y) :
    Scan (ys.take (k + 1)) x (if m < c + 1 then y else b) (if m < c + 1 then c + 1 else m) (c + 1) := by
  rw [take_snoc hy]
  have hs2 : (ys.take k ++ [y]).Pairwise (· ≤ ·) := by rw [← take_snoc hy]; exact hs.sublist (List.take_sublist _ _)
  rcases hp with rfl | ⟨q, rfl, hq⟩
  · have hc := scan_zero h (by simp)
    subst hc
    have h9 := h.step hs2 false (by simp) (by simp)
    simpa using h9
  · have h9 := h.step hs2 true (fun _ => by rw [take_snoc hq]; simp) (by simp)
    simpa using h9
theorem scan_new {ys : List Int} {x b y z : Int} {k q m c : Nat} (h : Scan (ys.take k) x b m c) (hs : ys.Pairwise (· ≤ ·)) (hy : ys[k]? = some y) (hq1 : q + 1 = k) (hq : ys[q]? = some z) (hne : z ≠ y) :
    Scan (ys.take (k + 1)) x b m 1 := by
  have hm : 1 ≤ m := scan_pos h (by rw [← hq1, take_snoc hq]; simp)
  rw [take_snoc hy]
  have hs2 : (ys.take k ++ [y]).Pairwise (· ≤ ·) := by rw [← take_snoc hy]; exact hs.sublist (List.take_sublist _ _)
  have h9 := h.step hs2 false (by simp) (fun _ => by rw [← hq1, take_snoc hq]; simp; exact hne)
  simp at h9
  rwa [if_neg (by omega), if_neg (by omega)] at h9
def MostF (w : World) (A : Option Addr) (n c : Nat) (zs : List Int) (x : Int) (e : Ending) (w' : World) : Prop :=
  e = .returned (.int .i64 (mostR zs x)) ∧ w.grownBy w' (Value.slice A n c).ownBlock

set_option maxRecDepth 10000 in
set_option maxHeartbeats 4000000 in
theorem implMost (lo : Nat) (A : Option Addr) (n c : Nat) (zs : List Int) (x : Int) (w : World) (ho : w.ownsRow lo 3 1 (.slice A n c) n (vi zs)) (hl : zs.length = n) (hn : n ≤ 2097152) :
    Calls Tryz.prog 113 #[.slice A n c, .int .i64 x] w (MostF w A n c zs x) := by
  rcases Nat.eq_zero_or_pos n with rfl | hpos
  · obtain rfl : zs = [] := List.eq_nil_of_length_eq_zero hl
    have C := Lib.hid (fun W => sortNone_any A c W)
    clear ho hl
    go_enter Tryz.func113, Tryz.ntmps113
    go_wp2_with fail
    refine (C.out _).mono ?_
    rintro e w1 ⟨rfl, rfl⟩
    go_wp2
    go_loopw [5, 6, 7, 15] (fun b m q i wr => i = .int .i64 0 ∧ b = .int .i64 x ∧ wr = w1) (fun _ _ _ _ _ => 0)
    case atStart => exact ⟨rfl, rfl, rfl⟩
    case round =>
      obtain ⟨rfl, rfl, rfl⟩ := hrel
      go_wp2
      go_ret
      exact ⟨rfl, World.grownBy.refl _ _⟩
  · obtain ⟨g, rfl⟩ := g_own_at ho hpos
    have C := Lib.hid (sortInts_any lo g n c zs w ho hl hn)
    have HLZ := Lib.hid hl
    clear ho hl
    go_enter Tryz.func113, Tryz.ntmps113
    go_wp2_with fail
    refine C.out.mono ?_
    rintro e w1 ⟨ys, rfl, hperm, hsort, ho1, hg1⟩
    have HP := Lib.hid hperm
    have HSO := Lib.hid hsort
    have HO := Lib.hid ho1
    have HG := Lib.hid hg1
    have HLY : Hid (ys.length = n) := Lib.hid (by rw [← HP.out.length_eq]; exact HLZ.out)
    clear hperm hsort ho1 hg1 C
    go_wp2
    go_loopw [5, 6, 7, 15] (fun b5 m6 c7 i wr => ∃ (k : Nat) (b : Int) (m cnt : Nat), k ≤ n ∧ i = .int .i64 (k : Int) ∧ b5 = .int .i64 b ∧ m6 = .int .i64 (m : Int) ∧ c7 = .int .i64 (cnt : Int) ∧ wr = w1 ∧ Hid (Scan (ys.take k) x b m cnt)) (fun _ _ _ i _ => n - (intOf i).toNat)
    case atStart => exact ⟨0, x, 0, 0, Nat.zero_le _, rfl, rfl, rfl, rfl, rfl, Lib.hid (scan_start x ys)⟩
    case round =>
      obtain ⟨k, b, m, cnt, hk, rfl, rfl, rfl, rfl, rfl, hsc⟩ := hrel
      have hle := hsc.out.le
      rw [List.length_take] at hle
      have hm2 : m ≤ 2097152 := by omega
      have hc2 : cnt ≤ 2097152 := by omega
      clear hle
      by_cases hlt : k < n
      · obtain ⟨y, hy⟩ : ∃ y, Hid (ys[k]? = some y) := ⟨ys[k]'(by rw [HLY.out]; exact hlt), Lib.hid (List.getElem?_eq_getElem _)⟩
        have hcy : wr.cell? ⟨g, k, none⟩ = some (.int .i64 y) := by
          have h1 := HO.out.cellAt k (by omega)
          rw [vi_get, hy.out] at h1
          exact h1
        by_cases hk0 : k = 0
        · have hd0 : decide ((0 : Int) < (k : Int)) = false := by simp; omega
          have hk1 : ¬ 0 < k := by omega
          have HK0 := Lib.hid hk0
          clear hk0
          have HSC := Lib.hid (scan_keep hsc.out HSO.out hy.out (.inl HK0.out))
          obtain ⟨ci, hci⟩ : ∃ ci : Int, ci = (cnt : Int) := ⟨_, rfl⟩
          obtain ⟨mi, hmi⟩ : ∃ mi : Int, mi = (m : Int) := ⟨_, rfl⟩
          obtain ⟨z1, hz1⟩ : ∃ z1 : Int, z1 = ci + 1 := ⟨_, rfl⟩
          have hw1 : IntKind.i64.wrap (ci + 1) = z1 := by rw [hz1]; exact IntWalk.i64_in _ (by omega)
          have HCI := Lib.hid hci
          have HMI := Lib.hid hmi
          have HZ1 := Lib.hid hz1
          by_cases hg : mi < z1
          · have hg2 : m < cnt + 1 := by omega
            rw [if_pos hg2, if_pos hg2] at HSC
            simp only [← hci, ← hmi]
            clear hci hmi hz1 hg2
            go_wp2
            go_roundw
            case rel => exact ⟨k + 1, y, cnt + 1, cnt + 1, by omega, by go_num, rfl, g_val (by have := HCI.out; have := HZ1.out; omega), g_val (by have := HCI.out; have := HZ1.out; omega), by first | rfl | trivial, Lib.hid HSC.out⟩
            case measure => simp [intOf]; omega
          · have hg2 : ¬ m < cnt + 1 := by omega
            rw [if_neg hg2, if_neg hg2] at HSC
            simp only [← hci, ← hmi]
            clear hci hmi hz1 hg2
            go_wp2
            go_roundw
            case rel => exact ⟨k + 1, b, m, cnt + 1, by omega, by go_num, rfl, g_val HMI.out, g_val (by have := HCI.out; have := HZ1.out; omega), by first | rfl | trivial, Lib.hid HSC.out⟩
            case measure => simp [intOf]; omega
        · obtain ⟨q, HQ⟩ : ∃ q, Hid (q + 1 = k) := ⟨k - 1, Lib.hid (by omega)⟩
          have hd0 : decide ((0 : Int) < (k : Int)) = true := by simp; omega
          have hk1 : 0 < k := by omega
          have hq1 : (k : Int) - 1 = (q : Int) := by have := HQ.out; omega
          have hq2 : IntKind.i64.wrap (q : Int) = (q : Int) := IntWalk.i64_in _ (by have := HQ.out; omega)
          have hq3 : q < n := by have := HQ.out; omega
          obtain ⟨z, hz⟩ : ∃ z, Hid (ys[q]? = some z) := ⟨ys[q]'(by rw [HLY.out]; exact hq3), Lib.hid (List.getElem?_eq_getElem _)⟩
          have hcz : wr.cell? ⟨g, q, none⟩ = some (.int .i64 z) := by
            have h1 := HO.out.cellAt q (by omega)
            rw [vi_get, hz.out] at h1
            exact h1
          by_cases hzy : z = y
          · have hz2 : Hid (ys[q]? = some y) := Lib.hid (by rw [hz.out, hzy])
            rw [hzy] at hcz
            clear hzy hz
            have HSC := Lib.hid (scan_keep hsc.out HSO.out hy.out (.inr ⟨q, HQ.out, hz2.out⟩))
            obtain ⟨ci, hci⟩ : ∃ ci : Int, ci = (cnt : Int) := ⟨_, rfl⟩
            obtain ⟨mi, hmi⟩ : ∃ mi : Int, mi = (m : Int) := ⟨_, rfl⟩
            obtain ⟨z1, hz1⟩ : ∃ z1 : Int, z1 = ci + 1 := ⟨_, rfl⟩
            have hw1 : IntKind.i64.wrap (ci + 1) = z1 := by rw [hz1]; exact IntWalk.i64_in _ (by omega)
            have HCI := Lib.hid hci
            have HMI := Lib.hid hmi
            have HZ1 := Lib.hid hz1
            by_cases hg : mi < z1
            · have hg2 : m < cnt + 1 := by omega
              rw [if_pos hg2, if_pos hg2] at HSC
              simp only [← hci, ← hmi]
              clear hci hmi hz1 hg2
              go_wp2
              go_roundw
              case rel => exact ⟨k + 1, y, cnt + 1, cnt + 1, by omega, by go_num, rfl, g_val (by have := HCI.out; have := HZ1.out; omega), g_val (by have := HCI.out; have := HZ1.out; omega), by first | rfl | trivial, Lib.hid HSC.out⟩
              case measure => simp [intOf]; omega
            · have hg2 : ¬ m < cnt + 1 := by omega
              rw [if_neg hg2, if_neg hg2] at HSC
              simp only [← hci, ← hmi]
              clear hci hmi hz1 hg2
              go_wp2
              go_roundw
              case rel => exact ⟨k + 1, b, m, cnt + 1, by omega, by go_num, rfl, g_val HMI.out, g_val (by have := HCI.out; have := HZ1.out; omega), by first | rfl | trivial, Lib.hid HSC.out⟩
              case measure => simp [intOf]; omega
          · have hne : (z == y) = false := by simp [hzy]
            have HSC := Lib.hid (scan_new hsc.out HSO.out hy.out HQ.out hz.out hzy)
            have HPOS := scan_pos hsc.out (by rw [← HQ.out, take_snoc hz.out]; simp)
            obtain ⟨mi, hmi⟩ : ∃ mi : Int, mi = (m : Int) := ⟨_, rfl⟩
            have hg1 : ¬ mi < 1 := by omega
            have hg2 : decide (mi < 1) = false := by simp; omega
            have hg3 : ¬ mi ≤ 0 := by omega
            have HMI := Lib.hid hmi
            simp only [← hmi]
            clear hmi HPOS
            go_wp2
            go_roundw
            case rel => exact ⟨k + 1, b, m, 1, by omega, by go_num, rfl, g_val HMI.out, by first | rfl | trivial, by first | rfl | trivial, Lib.hid HSC.out⟩
            case measure => simp [intOf]; omega
      · obtain rfl : k = n := by omega
        have HM := Lib.hid (hsc.out)
        go_wp2
        go_ret
        refine ⟨g_int ?_, HG.out⟩
        have h1 := HM.out
        rw [List.take_of_length_le (by rw [HLY.out]; exact Nat.le_refl _)] at h1
        exact h1.most HP.out
end Go.Proofs.YtpgnappddddlpaaGreatDoor
namespace Go.Proofs.YtpgnappddddlpaaGreatDoor
open Go.RowKit

set_option maxRecDepth 10000 in
set_option maxHeartbeats 4000000 in
theorem implNewLabel (x : Int) (A : Option Addr) (n c : Nat) (es : List VE) (w : World) (hr : SlV w A n es) (hn : n ≤ 1048576) (hv : ∀ e ∈ es, 0 ≤ e.v ∧ e.v ≤ 1099511627776) :
    Calls Tryz.prog 106 #[.int .i64 x, .slice A n c] w (fun e w' => e = .returned (.int .i64 (mostR (told es) x)) ∧ Below w.heap.size w w') := by
  obtain ⟨i0, hi, hz0, hz1, hz2⟩ := info_parts Tryz.infoInt
  have HR := Lib.hid hr
  have HL := Lib.hid hr.len
  have HV := Lib.hid hv
  clear hr hv
  go_enter Tryz.func106, Tryz.ntmps106
  go_wp2
  go_loopw [5, 10] (fun o i wr => ∃ (k : Nat) (A1 : Option Addr) (c1 : Nat), k ≤ n ∧ i = .int .i64 (k : Int) ∧ o = .slice A1 (told (es.take k)).length c1 ∧ Hid (wr.ownsRow w.heap.size 3 1 (.slice A1 (told (es.take k)).length c1) (told (es.take k)).length (vi (told (es.take k)))) ∧ Hid (Below w.heap.size w wr)) (fun _ i _ => n - (intOf i).toNat)
  case atStart => exact ⟨0, none, 0, Nat.zero_le _, rfl, rfl, Lib.hid (World.ownsRow_nil _ _ _ _), Lib.hid (Below.refl _ _)⟩
  case round =>
    obtain ⟨k, A1, c1, hk, rfl, rfl, hown, hbel⟩ := hrel
    have hlen := told_len (es.take k)
    rw [List.length_take] at hlen
    obtain ⟨ms, HMS⟩ : ∃ ms, Hid (told (es.take k) = ms) := ⟨_, Lib.hid rfl⟩
    rw [HMS.out] at hown hlen
    rw [HMS.out]
    by_cases hlt : k < n
    · have hml : ms.length ≤ 2097152 := by omega
      clear hlen
      obtain ⟨b, off, e, rfl, hbw, he, c0, c1', c2, c3⟩ := HR.out.at_ hlt
      have c0 := (hbel.out.cell (p := ⟨b, off + k * 4, none⟩) hbw).trans c0
      have c1' := (hbel.out.cell (p := ⟨b, off + k * 4 + 1, none⟩) hbw).trans c1'
      have c2 := (hbel.out.cell (p := ⟨b, off + k * 4 + 2, none⟩) hbw).trans c2
      have c3 := (hbel.out.cell (p := ⟨b, off + k * 4 + 3, none⟩) hbw).trans c3
      have HN := Lib.hid (told_snoc he.out)
      obtain ⟨q, r, hq, hr, hq1, hr1⟩ := lab_parts (HV.out e (List.mem_of_getElem? he.out))
      have hq2 : IntKind.i64.wrap q = q := IntWalk.i64_in _ (by omega)
      have hd : IntKind.i64.wrap (Int.tdiv e.v 1000) = q := by rw [hq]; exact hq2
      cases hi9 : e.i with
      | true =>
        cases ho9 : e.o with
        | true =>
          rw [hi9] at c0
          rw [ho9] at c1'
          have HE : Hid (told (es.take (k + 1)) = ms ++ [q] ++ [r]) := Lib.hid (by rw [HN.out]; unfold VE.labs; rw [hi9, ho9, hq, hr]; simp only [HMS.out]; simp)
          have OV := Lib.hid (own_below hown.out (below_a1 wr (.cells #[.bool true, .bool true, .int .i64 e.w, .int .i64 e.v] 94)))
          have BV := Lib.hid (g_chain hbel.out (below_a1 wr (.cells #[.bool true, .bool true, .int .i64 e.w, .int .i64 e.v] 94)))
          have XV := Lib.hid (Blk.new wr #[.bool true, .bool true, .int .i64 e.w, .int .i64 e.v] 94)
          have hlo := hbel.out.size
          clear hi9 ho9
          have Opx := Lib.hid (OV.out.alloc (.cells #[.int .i64 q] 3))
          go_wp2_with (at_builtin; refine wpList_append_any _ rfl (.tmp 16) (.tmp 20) _ rfl w.heap.size 3 i0 _ 1 8 Tryz.underlying27 hi hz0 hz1 hz2 rfl (by omega) (.slice A1 ms.length c1) ms.length (vi ms) rfl Opx.out ((wr.heap.size + 1) + 1) (some ⟨(wr.heap.size + 1), 0, none⟩) 1 1 [.int .i64 q] rfl (lab_reads _ _ _ _ (by simp)) (lab_one _) (by simp only [maxLen]; omega) (by omega) (by simp; omega) ?_)
          intro vp wp hownp hgp _
          obtain ⟨A1p, c1p, rfl⟩ := lab_form hownp
          obtain ⟨msp, HMp⟩ : ∃ l, Hid (l = ms ++ [q]) := ⟨_, Lib.hid rfl⟩
          have hlep : ms.length + 1 = msp.length := by rw [HMp.out]; simp
          have Op : Hid (wp.ownsRow w.heap.size 3 1 (.slice A1p msp.length c1p) msp.length (vi msp)) := Lib.hid (by rw [HMp.out, lab_snoc, List.length_append]; exact hownp)
          have Bp : Hid (Below w.heap.size w wp) := Lib.hid (lab_below (g_chain BV.out (below_a1 _ _)) Opx.out (by have := (BV.out).size; simp; omega) hgp)
          have hlop := Bp.out.size
          have XP := Lib.hid ((XV.out.alloc (.cells #[.int .i64 q] 3)).grown hgp (lab_ne hown.out (Nat.le_refl _)))
          have hx1 := XP.out.cell (i := 1) rfl
          have hx3 := XP.out.cell (i := 3) rfl
          clear hownp hgp OV BV
          rw [hlep]
          have Ozx := Lib.hid (Op.out.alloc (.cells #[.int .i64 r] 3))
          go_wp2_with (at_builtin; refine wpList_append_any _ rfl (.tmp 24) (.tmp 28) _ rfl w.heap.size 3 i0 _ 1 8 Tryz.underlying27 hi hz0 hz1 hz2 rfl (by omega) (.slice A1p msp.length c1p) msp.length (vi msp) rfl Ozx.out (wp.heap.size + 1) (some ⟨wp.heap.size, 0, none⟩) 1 1 [.int .i64 r] rfl (lab_reads _ _ _ _ (by simp)) (lab_one _) (by simp only [maxLen]; omega) (by omega) (by simp; omega) ?_)
          intro vz wz hownz hgz _
          obtain ⟨A1z, c1z, rfl⟩ := lab_form hownz
          obtain ⟨msz, HMz⟩ : ∃ l, Hid (l = msp ++ [r]) := ⟨_, Lib.hid rfl⟩
          have hlez : msp.length + 1 = msz.length := by rw [HMz.out]; simp
          have Oz : Hid (wz.ownsRow w.heap.size 3 1 (.slice A1z msz.length c1z) msz.length (vi msz)) := Lib.hid (by rw [HMz.out, lab_snoc, List.length_append]; exact hownz)
          have Bz : Hid (Below w.heap.size w wz) := Lib.hid (lab_below (g_chain Bp.out (below_a1 _ _)) Ozx.out (by have := (Bp.out).size; simp; omega) hgz)
          have hloz := Bz.out.size
          clear hownz hgz
          rw [hlez]
          go_wp2
          go_roundw
          case rel => exact ⟨k + 1, A1z, c1z, by omega, by go_num, by rw [HE.out, ← HMp.out, ← HMz.out], Lib.hid (by rw [HE.out, ← HMp.out, ← HMz.out]; exact Oz.out), Bz⟩
          case measure => simp [intOf]; omega
        | false =>
          rw [hi9] at c0
          rw [ho9] at c1'
          have HE : Hid (told (es.take (k + 1)) = ms ++ [q]) := Lib.hid (by rw [HN.out]; unfold VE.labs; rw [hi9, ho9, hq, hr]; simp only [HMS.out]; simp)
          have OV := Lib.hid (own_below hown.out (below_a1 wr (.cells #[.bool true, .bool false, .int .i64 e.w, .int .i64 e.v] 94)))
          have BV := Lib.hid (g_chain hbel.out (below_a1 wr (.cells #[.bool true, .bool false, .int .i64 e.w, .int .i64 e.v] 94)))
          have XV := Lib.hid (Blk.new wr #[.bool true, .bool false, .int .i64 e.w, .int .i64 e.v] 94)
          have hlo := hbel.out.size
          clear hi9 ho9
          have Opx := Lib.hid (OV.out.alloc (.cells #[.int .i64 q] 3))
          go_wp2_with (at_builtin; refine wpList_append_any _ rfl (.tmp 16) (.tmp 20) _ rfl w.heap.size 3 i0 _ 1 8 Tryz.underlying27 hi hz0 hz1 hz2 rfl (by omega) (.slice A1 ms.length c1) ms.length (vi ms) rfl Opx.out ((wr.heap.size + 1) + 1) (some ⟨(wr.heap.size + 1), 0, none⟩) 1 1 [.int .i64 q] rfl (lab_reads _ _ _ _ (by simp)) (lab_one _) (by simp only [maxLen]; omega) (by omega) (by simp; omega) ?_)
          intro vp wp hownp hgp _
          obtain ⟨A1p, c1p, rfl⟩ := lab_form hownp
          obtain ⟨msp, HMp⟩ : ∃ l, Hid (l = ms ++ [q]) := ⟨_, Lib.hid rfl⟩
          have hlep : ms.length + 1 = msp.length := by rw [HMp.out]; simp
          have Op : Hid (wp.ownsRow w.heap.size 3 1 (.slice A1p msp.length c1p) msp.length (vi msp)) := Lib.hid (by rw [HMp.out, lab_snoc, List.length_append]; exact hownp)
          have Bp : Hid (Below w.heap.size w wp) := Lib.hid (lab_below (g_chain BV.out (below_a1 _ _)) Opx.out (by have := (BV.out).size; simp; omega) hgp)
          have hlop := Bp.out.size
          have XP := Lib.hid ((XV.out.alloc (.cells #[.int .i64 q] 3)).grown hgp (lab_ne hown.out (Nat.le_refl _)))
          have hx1 := XP.out.cell (i := 1) rfl
          have hx3 := XP.out.cell (i := 3) rfl
          clear hownp hgp OV BV
          rw [hlep]
          go_wp2
          go_roundw
          case rel => exact ⟨k + 1, A1p, c1p, by omega, by go_num, by rw [HE.out, ← HMp.out], Lib.hid (by rw [HE.out, ← HMp.out]; exact Op.out), Bp⟩
          case measure => simp [intOf]; omega
      | false =>
        cases ho9 : e.o with
        | true =>
          rw [hi9] at c0
          rw [ho9] at c1'
          have HE : Hid (told (es.take (k + 1)) = ms ++ [r]) := Lib.hid (by rw [HN.out]; unfold VE.labs; rw [hi9, ho9, hq, hr]; simp only [HMS.out]; simp)
          have OV := Lib.hid (own_below hown.out (below_a1 wr (.cells #[.bool false, .bool true, .int .i64 e.w, .int .i64 e.v] 94)))
          have BV := Lib.hid (g_chain hbel.out (below_a1 wr (.cells #[.bool false, .bool true, .int .i64 e.w, .int .i64 e.v] 94)))
          have XV := Lib.hid (Blk.new wr #[.bool false, .bool true, .int .i64 e.w, .int .i64 e.v] 94)
          have hlo := hbel.out.size
          clear hi9 ho9
          have Ozx := Lib.hid (OV.out.alloc (.cells #[.int .i64 r] 3))
          go_wp2_with (at_builtin; refine wpList_append_any _ rfl (.tmp 24) (.tmp 28) _ rfl w.heap.size 3 i0 _ 1 8 Tryz.underlying27 hi hz0 hz1 hz2 rfl (by omega) (.slice A1 ms.length c1) ms.length (vi ms) rfl Ozx.out ((wr.heap.size + 1) + 1) (some ⟨(wr.heap.size + 1), 0, none⟩) 1 1 [.int .i64 r] rfl (lab_reads _ _ _ _ (by simp)) (lab_one _) (by simp only [maxLen]; omega) (by omega) (by simp; omega) ?_)
          intro vz wz hownz hgz _
          obtain ⟨A1z, c1z, rfl⟩ := lab_form hownz
          obtain ⟨msz, HMz⟩ : ∃ l, Hid (l = ms ++ [r]) := ⟨_, Lib.hid rfl⟩
          have hlez : ms.length + 1 = msz.length := by rw [HMz.out]; simp
          have Oz : Hid (wz.ownsRow w.heap.size 3 1 (.slice A1z msz.length c1z) msz.length (vi msz)) := Lib.hid (by rw [HMz.out, lab_snoc, List.length_append]; exact hownz)
          have Bz : Hid (Below w.heap.size w wz) := Lib.hid (lab_below (g_chain BV.out (below_a1 _ _)) Ozx.out (by have := (BV.out).size; simp; omega) hgz)
          have hloz := Bz.out.size
          clear hownz hgz
          rw [hlez]
          go_wp2
          go_roundw
          case rel => exact ⟨k + 1, A1z, c1z, by omega, by go_num, by rw [HE.out, ← HMz.out], Lib.hid (by rw [HE.out, ← HMz.out]; exact Oz.out), Bz⟩
          case measure => simp [intOf]; omega
        | false =>
          rw [hi9] at c0
          rw [ho9] at c1'
          have HE : Hid (told (es.take (k + 1)) = ms) := Lib.hid (by rw [HN.out]; unfold VE.labs; rw [hi9, ho9, hq, hr]; simp only [HMS.out]; simp)
          have OV := Lib.hid (own_below hown.out (below_a1 wr (.cells #[.bool false, .bool false, .int .i64 e.w, .int .i64 e.v] 94)))
          have BV := Lib.hid (g_chain hbel.out (below_a1 wr (.cells #[.bool false, .bool false, .int .i64 e.w, .int .i64 e.v] 94)))
          have XV := Lib.hid (Blk.new wr #[.bool false, .bool false, .int .i64 e.w, .int .i64 e.v] 94)
          have hlo := hbel.out.size
          clear hi9 ho9
          go_wp2
          go_roundw
          case rel => exact ⟨k + 1, A1, c1, by omega, by go_num, by rw [HE.out], Lib.hid (by rw [HE.out]; exact OV.out), BV⟩
          case measure => simp [intOf]; omega
    · obtain rfl : k = n := by omega
      have HT : Hid (ms = told es) := Lib.hid (by rw [← HMS.out, List.take_of_length_le (by rw [HL.out]; exact Nat.le_refl _)])
      have C := Lib.hid (implMost w.heap.size A1 ms.length c1 ms x wr hown.out rfl (by omega))
      go_wp2_with fail
      refine C.out.mono ?_
      rintro e w1 ⟨rfl, hg1⟩
      have HB := Lib.hid (lab_below hbel.out hown.out hbel.out.size hg1)
      clear hg1
      go_wp2
      go_ret
      exact ⟨g_int (by rw [HT.out]), HB.out⟩
end Go.Proofs.YtpgnappddddlpaaGreatDoor
namespace Go.Proofs.YtpgnappddddlpaaGreatDoor
open Go.RowKit
set_option linter.unusedVariables false

theorem row_blk {w : World} {base e n g : Nat} {xs : List Value} (h : w.ownsRow base e 1 (.slice (some ⟨g, 0, none⟩) n n) n xs) : w.heap[g]? = some (.cells xs.toArray e (0, 0)) := by
  obtain ⟨hl, h2⟩ := h
  rcases h2 with ⟨h2, _⟩ | ⟨g', cap, cur, e1, _, hg, _, _, hs, ht⟩
  · cases h2
  · injection e1 with e1 _ e3
    injection e1 with e1
    injection e1 with e1
    subst e1 e3
    rw [List.take_of_length_le (by simp; omega)] at ht
    subst ht
    simpa using hg
theorem blk_row {w : World} {base e n g : Nat} {xs : List Value} (h : w.heap[g]? = some (.cells xs.toArray e (0, 0))) (hb : base ≤ g) (hl : xs.length = n) (hn : n ≤ maxLen) : w.ownsRow base e 1 (.slice (some ⟨g, 0, none⟩) n n) n xs :=
  ⟨by omega, .inr ⟨g, n, xs.toArray, rfl, hb, h, Nat.le_refl _, hn, by simp [hl], by rw [Nat.mul_one]; exact List.take_of_length_le (by show xs.length ≤ n; omega)⟩⟩
theorem Rd.src {w : World} {A : Option Addr} {n : Nat} {xs : List Nat} (h : Rd w A n xs) (hn : 0 < n) : ∃ ad, A = some ad ∧ ∀ j v, (vb xs)[j]? = some v → w.cell? (ad.add j) = some v := by
  obtain ⟨b, off, e, _, hc⟩ := h.lies hn
  refine ⟨⟨b, off, none⟩, e, fun j v hv => ?_⟩
  rw [vb_get] at hv
  obtain ⟨x, hx, rfl⟩ := Option.map_eq_some_iff.1 hv
  have hx2 : ((⟨b, off, none⟩ : Addr).add j) = ⟨b, off + j, none⟩ := by unfold Addr.add; split <;> simp_all
  rw [hx2]
  exact hc j x hx
theorem grownBy_none {w w' : World} (h : w.grownBy w' none) : Below w.heap.size w w' := ⟨h.os, h.tape, h.output, h.size, fun k hk => h.block k hk (by simp)⟩
set_option maxRecDepth 10000 in
set_option maxHeartbeats 8000000 in
theorem implCopySet (N : Int) (A : Option Addr) (n c : Nat) (xs : List Nat) (w : World) (hr : Rd w A n xs) (hn : n ≤ 2097152) :
    Calls Tryz.prog 36 #[.agg #[.int .i64 N, .slice A n c]] w (MadeS w N xs) := by
  obtain ⟨i0, hi, hz0, hz1, hz2⟩ := info_parts Tryz.infoByte
  have HL := Lib.hid hr.len
  have HR := Lib.hid hr
  clear hr
  have HB0 := Lib.hid ((SBx.new w N A n c).below (below_a1 _ (.cells #[.int .i64 0, .slice none 0 0] 37)))
  have HB1 := Lib.hid (SBx.new1 w (.cells #[.int .i64 N, .slice A n c] 37) 0 none 0 0)
  have HSZ : Hid ((Tryz.prog.info? 5).map (·.size) = some 1) := Lib.hid (by rw [hi]; simp [hz1])
  have HLV : Hid ((vb xs).length = Nat.min n n) := Lib.hid (by rw [vb_length, HL.out]; exact (Nat.min_self n).symm)
  have HRF := Lib.hid (fun W (h : Below w.heap.size w W) (h0 : 0 < (vb xs).length) => (HR.out.below h).src (by rw [vb_length, HL.out] at h0; exact h0))
  go_enter Tryz.func36, Tryz.ntmps36
  go_wp2_with (first
    | (refine wpList_make_full _ rfl (.tmp 6) (.tmp 6) 28 rfl (w.heap.size + 2) 5 i0 (.int .u8 0) 1 Tryz.underlying28 hi hz0 hz1 .i64 .i64 _ _ n rfl rfl rfl rfl (by rw [hz2]; omega) (by unfold maxLen; omega) (by simp) ?_; intro w1 hown hg; have BL1 := Lib.hid (grownBy_none hg); have HBW := Lib.hid (s_chain (below_a2 _ _ _) BL1.out); have X0 := Lib.hid (HB0.out.below BL1.out); have X1 := Lib.hid (HB1.out.below BL1.out); obtain ⟨l0, c00, c01, f00, f01⟩ := X0.out.parts; obtain ⟨l1, c10, c11, f10, f11⟩ := X1.out.parts; generalize (madeCells (Value.int IntKind.u8 0).cells (n * 1)).toList = zs at hown; have HZL := Lib.hid hown.1; have HOW : Hid (w1.heap[w.heap.size + 1 + 1]? = some (.cells zs.toArray 5 (0, 0))) := Lib.hid (by have h9 := row_blk hown; simpa using h9); clear hown hg)
    | (with_reducible refine wpList_copy_splice rfl (.tmp 8) (.tmp 10) 28 28 rfl 5 Tryz.underlying28 HSZ.out _ _ _ _ _ _ rfl rfl (w.heap.size + 1 + 1) 0 zs 5 HOW.out (vb xs) HLV.out (fun h => ⟨rfl, HRF.out _ HBW.out h⟩) ?fit (vb_oneCell xs) (w.heap.size + 2) w1 (Below.refl _ _) (by omega) ?_; (case fit => have h8 := HZL.out; have h9 := HLV.out; simp only [Nat.min_self] at h9; omega); intro w2 HG2 hb2; have HB2 := Lib.hid hb2; have Y0 := Lib.hid (X0.out.keep (hb2.block _ (by omega))); have Y1 := Lib.hid (X1.out.keep (hb2.block _ (by omega))); clear l0 c00 c01 l1 c10 c11 f00 f01 f10 f11 hb2; obtain ⟨l0, c00, c01, f00, f01⟩ := Y0.out.parts; obtain ⟨l1, c10, c11, f10, f11⟩ := Y1.out.parts))
  refine bodyPost_ret (v := .agg #[.int .i64 N, .slice (some ⟨w.heap.size + 1 + 1, 0, none⟩) n n]) (by simp [results, Tryz.results36, go_sem, c10, c11]) rfl ?_
  have HSP : splice zs 0 (vb xs) = vb xs := by
    have h1 := HZL.out
    have h2 := HL.out
    unfold splice
    rw [List.take_zero, List.nil_append, List.drop_eq_nil_of_le (by rw [vb_length]; omega), List.append_nil]
  have hrow := HG2.out
  rw [HSP] at hrow
  have e := HL.out
  subst e
  refine ⟨_, _, rfl, ?_, below_set2 (HBW.out.trans (HB2.out.mono (by omega))) (by omega) _ _⟩
  exact own_monoG (own_set2 (lo := w.heap.size + 2) (blk_row hrow (by omega) (vb_length xs) (by unfold maxLen; omega)) (by omega) _ _) (by omega)
end Go.Proofs.YtpgnappddddlpaaGreatDoor
