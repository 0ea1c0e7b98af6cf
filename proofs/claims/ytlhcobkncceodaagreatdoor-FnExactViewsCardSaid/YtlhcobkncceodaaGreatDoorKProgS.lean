/- The contracts of the model's JobOk, FirstVal and FirstEdge. Condition: a divisor is not 0 (paid by the test). -/
import Derived.Test.YtlhcobkncceodaaGreatDoorKProgJ
namespace Go.Proofs.YtlhcobkncceodaaGreatDoor
open Go.RowKit

theorem specJobOk (n p s : Int) (w : World) :
    Calls Tryz.prog 87 #[.int .i64 n, .agg #[.int .i64 p, .int .i64 s]] w (fun e w' => e = .returned (.bool (jobB n p s)) ∧ Below w.heap.size w w') := by
  rcases prog_cases p with h | rfl | rfl | rfl | rfl
  · have hj : jobB n p s = false := by unfold jobB; rw [progB_no h]; rfl
    rw [hj]
    clear hj
    by_cases h1 : p < 1
    · clear h
      go_enter Tryz.func87, Tryz.ntmps87
      go_wp2
      go_ret
      exact ⟨rfl, below_a1 _ _⟩
    · have h2 : 4 < p := by omega
      clear h
      go_enter Tryz.func87, Tryz.ntmps87
      go_wp2
      go_ret
      exact ⟨rfl, below_a1 _ _⟩
  · have hj : jobB n 1 s = decide (s = 0) := by unfold jobB progB; simp
    rw [hj]
    clear hj
    go_enter Tryz.func87, Tryz.ntmps87
    go_wp2
    go_ret
    exact ⟨rfl, below_a1 _ _⟩
  · have hj : jobB n 2 s = decide (s = 0) := by unfold jobB progB; simp
    rw [hj]
    clear hj
    go_enter Tryz.func87, Tryz.ntmps87
    go_wp2
    go_ret
    exact ⟨rfl, below_a1 _ _⟩
  · have hj : jobB n 3 s = (decide (0 ≤ s) && decide (s < n)) := by unfold jobB progB; simp
    rw [hj]
    clear hj
    by_cases h1 : 0 ≤ s
    · have e1 : (decide (0 ≤ s) && decide (s < n)) = decide (s < n) := by simp [h1]
      rw [e1]
      go_enter Tryz.func87, Tryz.ntmps87
      go_wp2
      go_ret
      exact ⟨rfl, below_a1 _ _⟩
    · have e1 : (decide (0 ≤ s) && decide (s < n)) = false := by simp [h1]
      rw [e1]
      go_enter Tryz.func87, Tryz.ntmps87
      go_wp2
      go_ret
      exact ⟨rfl, below_a1 _ _⟩
  · have hj : jobB n 4 s = decide (s = 0) := by unfold jobB progB; simp
    rw [hj]
    clear hj
    go_enter Tryz.func87, Tryz.ntmps87
    go_wp2
    go_ret
    exact ⟨rfl, below_a1 _ _⟩
set_option maxHeartbeats 1000000 in
theorem specFirstVal (p s v : Int) (w : World) :
    Calls Tryz.prog 105 #[.agg #[.int .i64 p, .int .i64 s], .int .i64 v] w (fun e w' => e = .returned (.int .i64 (firstV p s v)) ∧ Below w.heap.size w w') := by
  have CV := Lib.hid (fun W => specVertex v W)
  cases hv : vtxB v with
  | false =>
    have hj : firstV p s v = 0 := by unfold firstV; rw [hv]; simp
    rw [hj]
    rw [hv] at CV
    clear hj hv
    go_enter Tryz.func105, Tryz.ntmps105
    go_wp2_with fail
    refine (CV.out _).mono ?_
    rintro e w2 ⟨rfl, rfl⟩
    go_wp2
    go_ret
    exact ⟨rfl, below_a1 _ _⟩
  | true =>
    rw [hv] at CV
    rcases prog_cases p with h | rfl | rfl | rfl | rfl
    · have hj : firstV p s v = 0 := by unfold firstV; rw [progB_no h]; rfl
      rw [hj]
      have h1 : (p == 1) = false := by simp; omega
      have h2 : (p == 2) = false := by simp; omega
      have h3 : (p == 3) = false := by simp; omega
      have h4 : (p == 4) = false := by simp; omega
      clear hj hv h
      go_enter Tryz.func105, Tryz.ntmps105
      go_wp2_with fail
      refine (CV.out _).mono ?_
      rintro e w2 ⟨rfl, rfl⟩
      go_wp2
      go_ret
      exact ⟨rfl, below_a1 _ _⟩
    · have hj : firstV 1 s v = 1048576 := by unfold firstV progB; rw [hv]; simp
      rw [hj]
      clear hj hv
      go_enter Tryz.func105, Tryz.ntmps105
      go_wp2_with fail
      refine (CV.out _).mono ?_
      rintro e w2 ⟨rfl, rfl⟩
      go_wp2
      go_ret
      exact ⟨rfl, below_a1 _ _⟩
    · have hj : firstV 2 s v = v := by unfold firstV progB; rw [hv]; simp
      rw [hj]
      clear hj hv
      go_enter Tryz.func105, Tryz.ntmps105
      go_wp2_with fail
      refine (CV.out _).mono ?_
      rintro e w2 ⟨rfl, rfl⟩
      go_wp2
      go_ret
      exact ⟨rfl, below_a1 _ _⟩
    · by_cases hs : v = s
      · have hj : firstV 3 s v = 0 := by unfold firstV progB; rw [hv]; simp [hs]
        rw [hj]
        subst hs
        clear hj hv
        go_enter Tryz.func105, Tryz.ntmps105
        go_wp2_with fail
        refine (CV.out _).mono ?_
        rintro e w2 ⟨rfl, rfl⟩
        go_wp2
        go_ret
        exact ⟨rfl, below_a1 _ _⟩
      · have hj : firstV 3 s v = 1099511627776 := by unfold firstV progB; rw [hv]; simp [hs]
        rw [hj]
        have h2 : (v == s) = false := by simp [hs]
        clear hj hv
        go_enter Tryz.func105, Tryz.ntmps105
        go_wp2_with fail
        refine (CV.out _).mono ?_
        rintro e w2 ⟨rfl, rfl⟩
        go_wp2
        go_ret
        exact ⟨rfl, below_a1 _ _⟩
    · have hj : firstV 4 s v = v := by unfold firstV progB; rw [hv]; simp
      rw [hj]
      clear hj hv
      go_enter Tryz.func105, Tryz.ntmps105
      go_wp2_with fail
      refine (CV.out _).mono ?_
      rintro e w2 ⟨rfl, rfl⟩
      go_wp2
      go_ret
      exact ⟨rfl, below_a1 _ _⟩
set_option maxHeartbeats 1000000 in
theorem specFirstEdge (p s f t d : Int) (w : World) :
    Calls Tryz.prog 107 #[.agg #[.int .i64 p, .int .i64 s], .int .i64 f, .int .i64 t, .int .i64 d] w (fun e w' => e = .returned (.int .i64 (firstE p f t d)) ∧ Below w.heap.size w w') := by
  have CF := Lib.hid (fun W => specVertex f W)
  have CT := Lib.hid (fun W => specVertex t W)
  by_cases hf1 : vtxB f = false
  · have hj : firstE p f t d = 0 := by unfold firstE firstEB; rw [hf1]; simp
    rw [hj]
    rw [hf1] at CF
    clear hj hf1
    go_enter Tryz.func107, Tryz.ntmps107
    go_wp2_with fail
    refine (CF.out _).mono ?_
    rintro e w2 ⟨rfl, rfl⟩
    go_wp2
    go_ret
    exact ⟨rfl, below_a1 _ _⟩
  by_cases ht1 : vtxB t = false
  · have hj : firstE p f t d = 0 := by unfold firstE firstEB; rw [ht1]; simp
    rw [hj]
    rw [tt_of hf1] at CF
    rw [ht1] at CT
    clear hj hf1 ht1
    go_enter Tryz.func107, Tryz.ntmps107
    go_wp2_with fail
    refine (CF.out _).mono ?_
    rintro e w2 ⟨rfl, rfl⟩
    go_wp2_with fail
    refine (CT.out _).mono ?_
    rintro e w3 ⟨rfl, rfl⟩
    go_wp2
    go_ret
    exact ⟨rfl, below_a1 _ _⟩
  rw [tt_of hf1] at CF
  rw [tt_of ht1] at CT
  have hf2 := tt_of hf1
  have ht2 := tt_of ht1
  clear hf1 ht1
  by_cases hd1 : d < 1
  · have hj : firstE p f t d = 0 := by unfold firstE firstEB; rw [if_neg (by simp; omega)]
    rw [hj]
    clear hj hf2 ht2
    go_enter Tryz.func107, Tryz.ntmps107
    go_wp2_with fail
    refine (CF.out _).mono ?_
    rintro e w2 ⟨rfl, rfl⟩
    go_wp2_with fail
    refine (CT.out _).mono ?_
    rintro e w3 ⟨rfl, rfl⟩
    go_wp2
    go_ret
    exact ⟨rfl, below_a1 _ _⟩
  by_cases hd2 : 400 < d
  · have hj : firstE p f t d = 0 := by unfold firstE firstEB; rw [if_neg (by simp; omega)]
    rw [hj]
    clear hj hf2 ht2
    go_enter Tryz.func107, Tryz.ntmps107
    go_wp2_with fail
    refine (CF.out _).mono ?_
    rintro e w2 ⟨rfl, rfl⟩
    go_wp2_with fail
    refine (CT.out _).mono ?_
    rintro e w3 ⟨rfl, rfl⟩
    go_wp2
    go_ret
    exact ⟨rfl, below_a1 _ _⟩
  have HF := vtx_is hf2
  have HT := vtx_is ht2
  have hdd : decide (1 ≤ d ∧ d ≤ 400) = true := by simp; omega
  rcases prog_cases p with h | rfl | rfl | rfl | rfl
  · have hj : firstE p f t d = 0 := by unfold firstE firstEB; rw [progB_no h]; rfl
    rw [hj]
    have h1 : (p == 1) = false := by simp; omega
    have h2 : (p == 2) = false := by simp; omega
    have h3 : (p == 3) = false := by simp; omega
    have h4 : (p == 4) = false := by simp; omega
    clear hj hf2 ht2 h HF HT hdd
    go_enter Tryz.func107, Tryz.ntmps107
    go_wp2_with fail
    refine (CF.out _).mono ?_
    rintro e w2 ⟨rfl, rfl⟩
    go_wp2_with fail
    refine (CT.out _).mono ?_
    rintro e w3 ⟨rfl, rfl⟩
    go_wp2
    go_ret
    exact ⟨rfl, below_a1 _ _⟩
  · have hj : firstE 1 f t d = Int.tdiv 1048576 d := by unfold firstE firstEB progB; rw [hf2, ht2, hdd]; simp
    rw [hj]
    have h0 : d ≠ 0 := by omega
    have h1 : (d == 0) = false := by simp [h0]
    have h2 : IntKind.i64.wrap (Int.tdiv 1048576 d) = Int.tdiv 1048576 d := IntWalk.i64_in _ (by rw [Int.tdiv_eq_ediv_of_nonneg (by omega)]; have := Int.ediv_nonneg (a := 1048576) (b := d) (by omega) (by omega); have := Int.ediv_le_self (a := 1048576) d (by omega); omega)
    clear hj hf2 ht2 HF HT hdd
    go_enter Tryz.func107, Tryz.ntmps107
    go_wp2_with fail
    refine (CF.out _).mono ?_
    rintro e w2 ⟨rfl, rfl⟩
    go_wp2_with fail
    refine (CT.out _).mono ?_
    rintro e w3 ⟨rfl, rfl⟩
    go_wp2
    go_ret
    exact ⟨rfl, below_a1 _ _⟩
  · have hj : firstE 2 f t d = 1099511627776 := by unfold firstE firstEB progB; rw [hf2, ht2, hdd]; simp
    rw [hj]
    clear hj hf2 ht2 HF HT hdd
    go_enter Tryz.func107, Tryz.ntmps107
    go_wp2_with fail
    refine (CF.out _).mono ?_
    rintro e w2 ⟨rfl, rfl⟩
    go_wp2_with fail
    refine (CT.out _).mono ?_
    rintro e w3 ⟨rfl, rfl⟩
    go_wp2
    go_ret
    exact ⟨rfl, below_a1 _ _⟩
  · have hj : firstE 3 f t d = 1099511627776 := by unfold firstE firstEB progB; rw [hf2, ht2, hdd]; simp
    rw [hj]
    clear hj hf2 ht2 HF HT hdd
    go_enter Tryz.func107, Tryz.ntmps107
    go_wp2_with fail
    refine (CF.out _).mono ?_
    rintro e w2 ⟨rfl, rfl⟩
    go_wp2_with fail
    refine (CT.out _).mono ?_
    rintro e w3 ⟨rfl, rfl⟩
    go_wp2
    go_ret
    exact ⟨rfl, below_a1 _ _⟩
  · have hj : firstE 4 f t d = f * 1000 + t := by unfold firstE firstEB progB; rw [hf2, ht2, hdd]; simp
    rw [hj]
    have h1 : IntKind.i64.wrap (f * 1000) = f * 1000 := IntWalk.i64_in _ (by omega)
    have h2 : IntKind.i64.wrap (f * 1000 + t) = f * 1000 + t := IntWalk.i64_in _ (by omega)
    clear hj hf2 ht2 HF HT hdd
    go_enter Tryz.func107, Tryz.ntmps107
    go_wp2_with fail
    refine (CF.out _).mono ?_
    rintro e w2 ⟨rfl, rfl⟩
    go_wp2_with fail
    refine (CT.out _).mono ?_
    rintro e w3 ⟨rfl, rfl⟩
    go_wp2
    go_ret
    exact ⟨rfl, below_a1 _ _⟩
end Go.Proofs.YtlhcobkncceodaaGreatDoor
