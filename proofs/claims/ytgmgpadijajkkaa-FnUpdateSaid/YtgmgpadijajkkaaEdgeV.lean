/- The contracts of the new value of an edge: the program's four functions and the model's one. Conditions: the values lie in their limits; where an Out edge divides, there is one. -/
import Derived.Test.YtgmgpadijajkkaaNewS
import Derived.Deep.QuietTactic
import Derived.BigQuiet
namespace Go.Proofs.Ytgmgpadijajkkaa
open Go.RowKit

def VE.val (e : VE) : Value := .agg #[.bool e.i, .bool e.o, .int .i64 e.w, .int .i64 e.v]
theorem tdiv_le {x : Int} {n : Nat} (h : 0 ≤ x ∧ x ≤ 1099511627776) : 0 ≤ Int.tdiv x (n : Int) ∧ Int.tdiv x (n : Int) ≤ 1099511627776 := by
  rw [Int.tdiv_eq_ediv_of_nonneg h.1]
  have h1 := Int.ediv_nonneg (a := x) (b := (n : Int)) h.1 (by omega)
  have h2 := Int.ediv_le_self (a := x) (n : Int) h.1
  omega
set_option maxHeartbeats 1000000 in
theorem edgeI_1 (e : VE) (x : Int) (n : Nat) (w : World) (hx : 0 ≤ x ∧ x ≤ 1099511627776) (hn : e.o = true → 0 < n) :
    Calls Try.prog 49 #[e.val, .int .i64 x, .int .i64 (n : Int)] w (fun r w' => r = .returned (.int .i64 (newEdge 1 x n e)) ∧ Below w.heap.size w w') := by
  obtain ⟨i, o, ww, v⟩ := e
  unfold VE.val newEdge
  cases o with
  | true =>
    have h0 := hn rfl
    have h1 : ((n : Int) == 0) = false := by simp; omega
    have h2 : IntKind.i64.wrap (Int.tdiv x (n : Int)) = Int.tdiv x (n : Int) := IntWalk.i64_in _ (by have := tdiv_le (n := n) hx; omega)
    have h3 : ¬ n = 0 := by omega
    clear hn
    go_enter Try.func49, Try.ntmps49
    go_wp2
    go_ret
    exact ⟨by simp, below_a1 _ _⟩
  | false =>
    clear hn
    go_enter Try.func49, Try.ntmps49
    go_wp2
    go_ret
    exact ⟨by simp, below_a1 _ _⟩
theorem edgeI_2 (e : VE) (x : Int) (n : Nat) (w : World) :
    Calls Try.prog 53 #[e.val, .int .i64 x, .int .i64 (n : Int)] w (fun r w' => r = .returned (.int .i64 (newEdge 2 x n e)) ∧ Below w.heap.size w w') := by
  obtain ⟨i, o, ww, v⟩ := e
  unfold VE.val
  have hq : newEdge 2 x n ⟨i, o, ww, v⟩ = min v x := by unfold newEdge; simp; omega
  rw [hq]
  clear hq
  obtain ⟨z, hz⟩ : ∃ z, min v x = z := ⟨_, rfl⟩
  have HZ := Lib.hid hz
  go_enter Try.func53, Try.ntmps53
  go_wp2
  all_goals
    go_ret
    exact ⟨g_int (by first | rfl | (have := HZ.out; omega)), below_a1 _ _⟩
theorem edgeI_3 (e : VE) (x : Int) (n : Nat) (w : World) :
    Calls Try.prog 57 #[e.val, .int .i64 x, .int .i64 (n : Int)] w (fun r w' => r = .returned (.int .i64 (newEdge 3 x n e)) ∧ Below w.heap.size w w') := by
  obtain ⟨i, o, ww, v⟩ := e
  unfold VE.val newEdge
  cases o with
  | true =>
    go_enter Try.func57, Try.ntmps57
    go_wp2
    go_ret
    exact ⟨by simp, below_a1 _ _⟩
  | false =>
    go_enter Try.func57, Try.ntmps57
    go_wp2
    go_ret
    exact ⟨by simp, below_a1 _ _⟩
theorem lab_parts {v : Int} (h : 0 ≤ v ∧ v ≤ 1099511627776) : ∃ q r : Int, Int.tdiv v 1000 = q ∧ Int.tmod v 1000 = r ∧ (0 ≤ q ∧ q ≤ 1099511627776) ∧ (0 ≤ r ∧ r ≤ 1099511627776) :=
  ⟨_, _, rfl, rfl, by rw [Int.tdiv_eq_ediv_of_nonneg h.1]; omega, by rw [Int.tmod_eq_emod_of_nonneg h.1]; omega⟩

set_option maxHeartbeats 1000000 in
theorem edgeI_4 (e : VE) (x : Int) (n : Nat) (w : World) (hx : 0 ≤ x ∧ x ≤ 1099511627776) (hv : 0 ≤ e.v ∧ e.v ≤ 1099511627776) :
    Calls Try.prog 60 #[e.val, .int .i64 x, .int .i64 (n : Int)] w (fun r w' => r = .returned (.int .i64 (newEdge 4 x n e)) ∧ Below w.heap.size w w') := by
  have CA := Lib.hid (fun a b W => implAddCap a b W)
  obtain ⟨i, o, ww, v⟩ := e
  unfold VE.val
  simp only at hv
  obtain ⟨q, r, hq, hr, hq1, hr1⟩ := lab_parts hv
  have hq2 : IntKind.i64.wrap q = q := IntWalk.i64_in _ (by omega)
  have hq3 : IntKind.i64.wrap (q * 1000) = q * 1000 := IntWalk.i64_in _ (by omega)
  have hx3 : IntKind.i64.wrap (x * 1000) = x * 1000 := IntWalk.i64_in _ (by omega)
  have hd : IntKind.i64.wrap (Int.tdiv v 1000) = q := by rw [hq]; exact hq2
  by_cases hctt : o = true ∧ i = true
  · obtain ⟨rfl, rfl⟩ := hctt
    have HD : Hid (newEdge 4 x n ⟨true, true, ww, v⟩ = addC (x * 1000) x) := Lib.hid (by rw [addC_in (by omega) (by omega)]; unfold newEdge; simp)
    rw [HD.out]
    clear HD
    have C := Lib.hid (fun W => CA.out (x * 1000) x W)
    generalize addC (x * 1000) x = z at C ⊢
    clear CA
    go_enter Try.func60, Try.ntmps60
    go_wp2
    go_quiet (fail)
    rename Nat => kq
    have HB := Lib.hid (below_drewN (Below.refl (w.alloc (.cells #[.bool true, .bool true, .int .i64 ww, .int .i64 v] 32)).heap.size (w.alloc (.cells #[.bool true, .bool true, .int .i64 ww, .int .i64 v] 32))) kq)
    obtain ⟨hc, hf⟩ := bcell HB.out
    have hz : w.heap.size + 1 ≤ (World.drewN (w.alloc (.cells #[.bool true, .bool true, .int .i64 ww, .int .i64 v] 32)) kq).heap.size := by have := HB.out.size; simp
    generalize World.drewN _ kq = wq at *
    go_wp2_with fail
    refine (C.out _).mono ?_
    rintro e w1 ⟨rfl, rfl⟩
    go_wp2
    go_ret
    exact ⟨rfl, g_chain (below_a1 _ _) HB.out⟩
  by_cases hctf : o = true ∧ i = false
  · obtain ⟨rfl, rfl⟩ := hctf
    have HD : Hid (newEdge 4 x n ⟨false, true, ww, v⟩ = addC (x * 1000) r) := Lib.hid (by rw [addC_in (by omega) (by omega)]; unfold newEdge; simp [hr])
    rw [HD.out]
    clear HD
    have C := Lib.hid (fun W => CA.out (x * 1000) r W)
    generalize addC (x * 1000) r = z at C ⊢
    clear CA
    go_enter Try.func60, Try.ntmps60
    go_wp2
    go_quiet (fail)
    rename Nat => kq
    have HB := Lib.hid (below_drewN (Below.refl (w.alloc (.cells #[.bool false, .bool true, .int .i64 ww, .int .i64 v] 32)).heap.size (w.alloc (.cells #[.bool false, .bool true, .int .i64 ww, .int .i64 v] 32))) kq)
    obtain ⟨hc, hf⟩ := bcell HB.out
    have hz : w.heap.size + 1 ≤ (World.drewN (w.alloc (.cells #[.bool false, .bool true, .int .i64 ww, .int .i64 v] 32)) kq).heap.size := by have := HB.out.size; simp
    generalize World.drewN _ kq = wq at *
    go_wp2_with fail
    refine (C.out _).mono ?_
    rintro e w1 ⟨rfl, rfl⟩
    go_wp2
    go_ret
    exact ⟨rfl, g_chain (below_a1 _ _) HB.out⟩
  by_cases hcft : o = false ∧ i = true
  · obtain ⟨rfl, rfl⟩ := hcft
    have HD : Hid (newEdge 4 x n ⟨true, false, ww, v⟩ = addC (q * 1000) x) := Lib.hid (by rw [addC_in (by omega) (by omega)]; unfold newEdge; simp [hq])
    rw [HD.out]
    clear HD
    have C := Lib.hid (fun W => CA.out (q * 1000) x W)
    generalize addC (q * 1000) x = z at C ⊢
    clear CA
    go_enter Try.func60, Try.ntmps60
    go_wp2
    go_quiet (fail)
    rename Nat => kq
    have HB := Lib.hid (below_drewN (Below.refl (w.alloc (.cells #[.bool true, .bool false, .int .i64 ww, .int .i64 v] 32)).heap.size (w.alloc (.cells #[.bool true, .bool false, .int .i64 ww, .int .i64 v] 32))) kq)
    obtain ⟨hc, hf⟩ := bcell HB.out
    have hz : w.heap.size + 1 ≤ (World.drewN (w.alloc (.cells #[.bool true, .bool false, .int .i64 ww, .int .i64 v] 32)) kq).heap.size := by have := HB.out.size; simp
    generalize World.drewN _ kq = wq at *
    go_wp2_with fail
    refine (C.out _).mono ?_
    rintro e w1 ⟨rfl, rfl⟩
    go_wp2
    go_ret
    exact ⟨rfl, g_chain (below_a1 _ _) HB.out⟩
  by_cases hcff : o = false ∧ i = false
  · obtain ⟨rfl, rfl⟩ := hcff
    have HD : Hid (newEdge 4 x n ⟨false, false, ww, v⟩ = addC (q * 1000) r) := Lib.hid (by rw [addC_in (by omega) (by omega)]; unfold newEdge; simp [hq, hr])
    rw [HD.out]
    clear HD
    have C := Lib.hid (fun W => CA.out (q * 1000) r W)
    generalize addC (q * 1000) r = z at C ⊢
    clear CA
    go_enter Try.func60, Try.ntmps60
    go_wp2
    go_quiet (fail)
    rename Nat => kq
    have HB := Lib.hid (below_drewN (Below.refl (w.alloc (.cells #[.bool false, .bool false, .int .i64 ww, .int .i64 v] 32)).heap.size (w.alloc (.cells #[.bool false, .bool false, .int .i64 ww, .int .i64 v] 32))) kq)
    obtain ⟨hc, hf⟩ := bcell HB.out
    have hz : w.heap.size + 1 ≤ (World.drewN (w.alloc (.cells #[.bool false, .bool false, .int .i64 ww, .int .i64 v] 32)) kq).heap.size := by have := HB.out.size; simp
    generalize World.drewN _ kq = wq at *
    go_wp2_with fail
    refine (C.out _).mono ?_
    rintro e w1 ⟨rfl, rfl⟩
    go_wp2
    go_ret
    exact ⟨rfl, g_chain (below_a1 _ _) HB.out⟩
  cases o <;> cases i <;> simp_all
set_option maxHeartbeats 2000000 in
theorem edgeS (p s : Int) (e : VE) (x : Int) (n : Nat) (w : World) (hp : 1 ≤ p ∧ p ≤ 4) (hx : 0 ≤ x ∧ x ≤ 1099511627776) (hv : 0 ≤ e.v ∧ e.v ≤ 1099511627776) (hn : e.o = true → 0 < n) :
    Calls Try.prog 40 #[.agg #[.int .i64 p, .int .i64 s], .int .i64 x, .int .i64 (n : Int), e.val] w (fun r w' => r = .returned (.int .i64 (newEdge p x n e)) ∧ Below w.heap.size w w') := by
  have CC := Lib.hid (fun v W => specCap v W)
  have CM := Lib.hid (fun a b W => specMin a b W)
  obtain ⟨i, o, ww, v⟩ := e
  unfold VE.val
  simp only at hv hn
  have hp4 : p = 1 ∨ p = 2 ∨ p = 3 ∨ p = 4 := by omega
  clear hp
  rcases hp4 with rfl | rfl | rfl | rfl
  · unfold newEdge
    cases o with
    | true =>
      have h0 := hn rfl
      have h1 : ((n : Int) == 0) = false := by simp; omega
      have h2 : IntKind.i64.wrap (Int.tdiv x (n : Int)) = Int.tdiv x (n : Int) := IntWalk.i64_in _ (by have := tdiv_le (n := n) hx; omega)
      have h3 : ¬ n = 0 := by omega
      clear hn
      go_enter Try.func40, Try.ntmps40
      go_wp2
      go_ret
      exact ⟨by simp, below_a2 _ _ _⟩
    | false =>
      clear hn
      go_enter Try.func40, Try.ntmps40
      go_wp2
      go_ret
      exact ⟨by simp, below_a2 _ _ _⟩
  · have hq : newEdge 2 x n ⟨i, o, ww, v⟩ = min x v := by unfold newEdge; simp
    rw [hq]
    have C := Lib.hid (fun W => CM.out x v W)
    generalize min x v = z at C ⊢
    clear hq hn CM CC
    go_enter Try.func40, Try.ntmps40
    go_wp2_with fail
    refine (C.out _).mono ?_
    rintro e w1 ⟨rfl, rfl⟩
    go_wp2
    go_ret
    exact ⟨rfl, below_a2 _ _ _⟩
  · unfold newEdge
    cases o with
    | true =>
      clear hn
      go_enter Try.func40, Try.ntmps40
      go_wp2
      go_ret
      exact ⟨by simp, below_a2 _ _ _⟩
    | false =>
      clear hn
      go_enter Try.func40, Try.ntmps40
      go_wp2
      go_ret
      exact ⟨by simp, below_a2 _ _ _⟩
  · obtain ⟨q, r, hq, hr, hq1, hr1⟩ := lab_parts hv
    have hq2 : IntKind.i64.wrap q = q := IntWalk.i64_in _ (by omega)
    have hq3 : IntKind.i64.wrap (q * 1000) = q * 1000 := IntWalk.i64_in _ (by omega)
    have hx3 : IntKind.i64.wrap (x * 1000) = x * 1000 := IntWalk.i64_in _ (by omega)
    have hd : IntKind.i64.wrap (Int.tdiv v 1000) = q := by rw [hq]; exact hq2
    clear hn CM
    by_cases hctt : o = true ∧ i = true
    · obtain ⟨rfl, rfl⟩ := hctt
      have HD : Hid (newEdge 4 x n ⟨true, true, ww, v⟩ = capF (x * 1000 + x)) := Lib.hid (by unfold newEdge; simp)
      rw [HD.out]
      clear HD
      have hs : IntKind.i64.wrap (x * 1000 + x) = x * 1000 + x := IntWalk.i64_in _ (by omega)
      have C := Lib.hid (fun W => CC.out (x * 1000 + x) W)
      generalize capF (x * 1000 + x) = z at C ⊢
      clear CC
      go_enter Try.func40, Try.ntmps40
      go_wp2_with fail
      refine (C.out _).mono ?_
      rintro e w1 ⟨rfl, rfl⟩
      go_wp2
      go_ret
      exact ⟨rfl, below_a2 _ _ _⟩
    by_cases hctf : o = true ∧ i = false
    · obtain ⟨rfl, rfl⟩ := hctf
      have HD : Hid (newEdge 4 x n ⟨false, true, ww, v⟩ = capF (x * 1000 + r)) := Lib.hid (by unfold newEdge; simp [hr])
      rw [HD.out]
      clear HD
      have hs : IntKind.i64.wrap (x * 1000 + r) = x * 1000 + r := IntWalk.i64_in _ (by omega)
      have C := Lib.hid (fun W => CC.out (x * 1000 + r) W)
      generalize capF (x * 1000 + r) = z at C ⊢
      clear CC
      go_enter Try.func40, Try.ntmps40
      go_wp2_with fail
      refine (C.out _).mono ?_
      rintro e w1 ⟨rfl, rfl⟩
      go_wp2
      go_ret
      exact ⟨rfl, below_a2 _ _ _⟩
    by_cases hcft : o = false ∧ i = true
    · obtain ⟨rfl, rfl⟩ := hcft
      have HD : Hid (newEdge 4 x n ⟨true, false, ww, v⟩ = capF (q * 1000 + x)) := Lib.hid (by unfold newEdge; simp [hq])
      rw [HD.out]
      clear HD
      have hs : IntKind.i64.wrap (q * 1000 + x) = q * 1000 + x := IntWalk.i64_in _ (by omega)
      have C := Lib.hid (fun W => CC.out (q * 1000 + x) W)
      generalize capF (q * 1000 + x) = z at C ⊢
      clear CC
      go_enter Try.func40, Try.ntmps40
      go_wp2_with fail
      refine (C.out _).mono ?_
      rintro e w1 ⟨rfl, rfl⟩
      go_wp2
      go_ret
      exact ⟨rfl, below_a2 _ _ _⟩
    by_cases hcff : o = false ∧ i = false
    · obtain ⟨rfl, rfl⟩ := hcff
      have HD : Hid (newEdge 4 x n ⟨false, false, ww, v⟩ = capF (q * 1000 + r)) := Lib.hid (by unfold newEdge; simp [hq, hr])
      rw [HD.out]
      clear HD
      have hs : IntKind.i64.wrap (q * 1000 + r) = q * 1000 + r := IntWalk.i64_in _ (by omega)
      have C := Lib.hid (fun W => CC.out (q * 1000 + r) W)
      generalize capF (q * 1000 + r) = z at C ⊢
      clear CC
      go_enter Try.func40, Try.ntmps40
      go_wp2_with fail
      refine (C.out _).mono ?_
      rintro e w1 ⟨rfl, rfl⟩
      go_wp2
      go_ret
      exact ⟨rfl, below_a2 _ _ _⟩
    cases o <;> cases i <;> simp_all
end Go.Proofs.Ytgmgpadijajkkaa
