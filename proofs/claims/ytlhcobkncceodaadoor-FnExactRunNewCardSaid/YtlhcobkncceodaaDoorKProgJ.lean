/- The contracts of the program's JobOk, FirstVal and FirstEdge. Condition: the arguments are numbers of 64 bits. -/
import Derived.Test.YtlhcobkncceodaaDoorCGD
namespace Go.Proofs.YtlhcobkncceodaaDoor
open Go.RowKit

theorem prog_cases (p : Int) : (p < 1 ∨ 4 < p) ∨ p = 1 ∨ p = 2 ∨ p = 3 ∨ p = 4 := by omega
theorem tt_of {b : Bool} (h : ¬ b = false) : b = true := by cases b <;> simp_all
theorem progB_no {p : Int} (h : p < 1 ∨ 4 < p) : progB p = false := by unfold progB; simp; omega

set_option maxHeartbeats 1000000 in
theorem implJobOk (n p s : Int) (w : World) :
    Calls Tryd.prog 31 #[.int .i64 n, .agg #[.int .i64 p, .int .i64 s]] w (fun e w' => e = .returned (.bool (jobB n p s)) ∧ Below w.heap.size w w') := by
  rcases prog_cases p with h | rfl | rfl | rfl | rfl
  · have hj : jobB n p s = false := by unfold jobB; rw [progB_no h]; rfl
    rw [hj]
    have C := Lib.hid (fun W => progOf_no p h W)
    clear h hj
    unfold GivesP prog0 at C
    go_enter Tryd.func31, Tryd.ntmps31
    go_wp2_with fail
    refine (C.out _).mono ?_
    rintro e w1 ⟨rfl, hb⟩
    have HB := Lib.hid (g_chain (below_a1 w _) hb)
    clear hb
    go_wp2
    go_ret
    exact ⟨rfl, g_chain HB.out (below_a1 _ _)⟩
  · have hj : jobB n 1 s = (decide (s = 0)) := by unfold jobB progB; simp
    rw [hj]
    have C := Lib.hid (fun W => progOf_1 W)
    have CS := Lib.hid (fun W => src_no n s W)
    clear hj
    unfold GivesP prog1 at C
    go_enter Tryd.func31, Tryd.ntmps31
    go_wp2_with fail
    refine (C.out _).mono ?_
    rintro e w1 ⟨rfl, hb⟩
    have HB := Lib.hid (g_chain (below_a1 w _) hb)
    obtain ⟨hc, hf⟩ := bcell hb
    have hz : w.heap.size < w1.heap.size := by have := hb.size; simp at this; omega
    clear hb
    go_wp2_with fail
    refine (CS.out _).mono ?_
    rintro e w2 ⟨rfl, rfl⟩
    go_wp2
    go_ret
    exact ⟨rfl, g_chain HB.out (below_a1 _ _)⟩
  · have hj : jobB n 2 s = (decide (s = 0)) := by unfold jobB progB; simp
    rw [hj]
    have C := Lib.hid (fun W => progOf_2 W)
    have CS := Lib.hid (fun W => src_no n s W)
    clear hj
    unfold GivesP prog2 at C
    go_enter Tryd.func31, Tryd.ntmps31
    go_wp2_with fail
    refine (C.out _).mono ?_
    rintro e w1 ⟨rfl, hb⟩
    have HB := Lib.hid (g_chain (below_a1 w _) hb)
    obtain ⟨hc, hf⟩ := bcell hb
    have hz : w.heap.size < w1.heap.size := by have := hb.size; simp at this; omega
    clear hb
    go_wp2_with fail
    refine (CS.out _).mono ?_
    rintro e w2 ⟨rfl, rfl⟩
    go_wp2
    go_ret
    exact ⟨rfl, g_chain HB.out (below_a1 _ _)⟩
  · have hj : jobB n 3 s = (decide (0 ≤ s) && decide (s < n)) := by unfold jobB progB; simp
    rw [hj]
    have C := Lib.hid (fun W => progOf_3 W)
    have CS := Lib.hid (fun W => src_3 n s W)
    clear hj
    unfold GivesP prog3 at C
    go_enter Tryd.func31, Tryd.ntmps31
    go_wp2_with fail
    refine (C.out _).mono ?_
    rintro e w1 ⟨rfl, hb⟩
    have HB := Lib.hid (g_chain (below_a1 w _) hb)
    obtain ⟨hc, hf⟩ := bcell hb
    have hz : w.heap.size < w1.heap.size := by have := hb.size; simp at this; omega
    clear hb
    go_wp2_with fail
    refine (CS.out _).mono ?_
    rintro e w2 ⟨rfl, rfl⟩
    go_wp2
    go_ret
    exact ⟨rfl, g_chain HB.out (below_a1 _ _)⟩
  · have hj : jobB n 4 s = (decide (s = 0)) := by unfold jobB progB; simp
    rw [hj]
    have C := Lib.hid (fun W => progOf_4 W)
    have CS := Lib.hid (fun W => src_no n s W)
    clear hj
    unfold GivesP prog4 at C
    go_enter Tryd.func31, Tryd.ntmps31
    go_wp2_with fail
    refine (C.out _).mono ?_
    rintro e w1 ⟨rfl, hb⟩
    have HB := Lib.hid (g_chain (below_a1 w _) hb)
    obtain ⟨hc, hf⟩ := bcell hb
    have hz : w.heap.size < w1.heap.size := by have := hb.size; simp at this; omega
    clear hb
    go_wp2_with fail
    refine (CS.out _).mono ?_
    rintro e w2 ⟨rfl, rfl⟩
    go_wp2
    go_ret
    exact ⟨rfl, g_chain HB.out (below_a1 _ _)⟩
set_option maxHeartbeats 1000000 in
theorem implFirstVal (p s v : Int) (w : World) :
    Calls Tryd.prog 43 #[.agg #[.int .i64 p, .int .i64 s], .int .i64 v] w (fun e w' => e = .returned (.int .i64 (firstV p s v)) ∧ Below w.heap.size w w') := by
  rcases prog_cases p with h | rfl | rfl | rfl | rfl
  · have hj : firstV p s v = 0 := by unfold firstV; rw [progB_no h]; rfl
    rw [hj]
    have C := Lib.hid (fun W => progOf_no p h W)
    clear h hj
    unfold GivesP prog0 at C
    go_enter Tryd.func43, Tryd.ntmps43
    go_wp2_with fail
    refine (C.out _).mono ?_
    rintro e w1 ⟨rfl, hb⟩
    have HB := Lib.hid (g_chain (below_a1 w _) hb)
    clear hb
    go_wp2
    go_ret
    exact ⟨rfl, g_chain HB.out (below_a1 _ _)⟩
  · have CV := Lib.hid (fun W => implIsVertex v W)
    have C := Lib.hid (fun W => progOf_1 W)
    have CS := Lib.hid (fun W => val_1 s v W)
    unfold GivesP prog1 at C
    cases hv : vtxB v with
    | false =>
      have hj : firstV 1 s v = 0 := by unfold firstV progB; rw [hv]; simp
      rw [hj]
      rw [hv] at CV
      clear hj hv CS
      go_enter Tryd.func43, Tryd.ntmps43
      go_wp2_with fail
      refine (C.out _).mono ?_
      rintro e w1 ⟨rfl, hb⟩
      have HB := Lib.hid (g_chain (below_a1 w _) hb)
      clear hb
      go_wp2_with fail
      refine (CV.out _).mono ?_
      rintro e w2 ⟨rfl, rfl⟩
      go_wp2
      go_ret
      exact ⟨rfl, g_chain HB.out (below_a1 _ _)⟩
    | true =>
      have hj : firstV 1 s v = 1048576 := by unfold firstV progB; rw [hv]; simp
      rw [hj]
      rw [hv] at CV
      clear hj hv
      go_enter Tryd.func43, Tryd.ntmps43
      go_wp2_with fail
      refine (C.out _).mono ?_
      rintro e w1 ⟨rfl, hb⟩
      have HB := Lib.hid (g_chain (below_a1 w _) hb)
      obtain ⟨hc, hf⟩ := bcell hb
      have hz : w.heap.size < w1.heap.size := by have := hb.size; simp at this; omega
      clear hb
      go_wp2_with fail
      refine (CV.out _).mono ?_
      rintro e w2 ⟨rfl, rfl⟩
      go_wp2_with fail
      refine (CS.out _).mono ?_
      rintro e w3 ⟨rfl, rfl⟩
      go_wp2
      go_ret
      exact ⟨rfl, g_chain HB.out (below_a1 _ _)⟩
  · have CV := Lib.hid (fun W => implIsVertex v W)
    have C := Lib.hid (fun W => progOf_2 W)
    have CS := Lib.hid (fun W => val_24 s v W)
    unfold GivesP prog2 at C
    cases hv : vtxB v with
    | false =>
      have hj : firstV 2 s v = 0 := by unfold firstV progB; rw [hv]; simp
      rw [hj]
      rw [hv] at CV
      clear hj hv CS
      go_enter Tryd.func43, Tryd.ntmps43
      go_wp2_with fail
      refine (C.out _).mono ?_
      rintro e w1 ⟨rfl, hb⟩
      have HB := Lib.hid (g_chain (below_a1 w _) hb)
      clear hb
      go_wp2_with fail
      refine (CV.out _).mono ?_
      rintro e w2 ⟨rfl, rfl⟩
      go_wp2
      go_ret
      exact ⟨rfl, g_chain HB.out (below_a1 _ _)⟩
    | true =>
      have hj : firstV 2 s v = v := by unfold firstV progB; rw [hv]; simp
      rw [hj]
      rw [hv] at CV
      clear hj hv
      go_enter Tryd.func43, Tryd.ntmps43
      go_wp2_with fail
      refine (C.out _).mono ?_
      rintro e w1 ⟨rfl, hb⟩
      have HB := Lib.hid (g_chain (below_a1 w _) hb)
      obtain ⟨hc, hf⟩ := bcell hb
      have hz : w.heap.size < w1.heap.size := by have := hb.size; simp at this; omega
      clear hb
      go_wp2_with fail
      refine (CV.out _).mono ?_
      rintro e w2 ⟨rfl, rfl⟩
      go_wp2_with fail
      refine (CS.out _).mono ?_
      rintro e w3 ⟨rfl, rfl⟩
      go_wp2
      go_ret
      exact ⟨rfl, g_chain HB.out (below_a1 _ _)⟩
  · have CV := Lib.hid (fun W => implIsVertex v W)
    have C := Lib.hid (fun W => progOf_3 W)
    have CS := Lib.hid (fun W => val_3 s v W)
    unfold GivesP prog3 at C
    cases hv : vtxB v with
    | false =>
      have hj : firstV 3 s v = 0 := by unfold firstV progB; rw [hv]; simp
      rw [hj]
      rw [hv] at CV
      clear hj hv CS
      go_enter Tryd.func43, Tryd.ntmps43
      go_wp2_with fail
      refine (C.out _).mono ?_
      rintro e w1 ⟨rfl, hb⟩
      have HB := Lib.hid (g_chain (below_a1 w _) hb)
      clear hb
      go_wp2_with fail
      refine (CV.out _).mono ?_
      rintro e w2 ⟨rfl, rfl⟩
      go_wp2
      go_ret
      exact ⟨rfl, g_chain HB.out (below_a1 _ _)⟩
    | true =>
      have hj : firstV 3 s v = if v = s then 0 else 1099511627776 := by unfold firstV progB; rw [hv]; simp
      rw [hj]
      rw [hv] at CV
      clear hj hv
      generalize (if v = s then (0 : Int) else 1099511627776) = z at CS ⊢
      go_enter Tryd.func43, Tryd.ntmps43
      go_wp2_with fail
      refine (C.out _).mono ?_
      rintro e w1 ⟨rfl, hb⟩
      have HB := Lib.hid (g_chain (below_a1 w _) hb)
      obtain ⟨hc, hf⟩ := bcell hb
      have hz : w.heap.size < w1.heap.size := by have := hb.size; simp at this; omega
      clear hb
      go_wp2_with fail
      refine (CV.out _).mono ?_
      rintro e w2 ⟨rfl, rfl⟩
      go_wp2_with fail
      refine (CS.out _).mono ?_
      rintro e w3 ⟨rfl, rfl⟩
      go_wp2
      go_ret
      exact ⟨rfl, g_chain HB.out (below_a1 _ _)⟩
  · have CV := Lib.hid (fun W => implIsVertex v W)
    have C := Lib.hid (fun W => progOf_4 W)
    have CS := Lib.hid (fun W => val_24 s v W)
    unfold GivesP prog4 at C
    cases hv : vtxB v with
    | false =>
      have hj : firstV 4 s v = 0 := by unfold firstV progB; rw [hv]; simp
      rw [hj]
      rw [hv] at CV
      clear hj hv CS
      go_enter Tryd.func43, Tryd.ntmps43
      go_wp2_with fail
      refine (C.out _).mono ?_
      rintro e w1 ⟨rfl, hb⟩
      have HB := Lib.hid (g_chain (below_a1 w _) hb)
      clear hb
      go_wp2_with fail
      refine (CV.out _).mono ?_
      rintro e w2 ⟨rfl, rfl⟩
      go_wp2
      go_ret
      exact ⟨rfl, g_chain HB.out (below_a1 _ _)⟩
    | true =>
      have hj : firstV 4 s v = v := by unfold firstV progB; rw [hv]; simp
      rw [hj]
      rw [hv] at CV
      clear hj hv
      go_enter Tryd.func43, Tryd.ntmps43
      go_wp2_with fail
      refine (C.out _).mono ?_
      rintro e w1 ⟨rfl, hb⟩
      have HB := Lib.hid (g_chain (below_a1 w _) hb)
      obtain ⟨hc, hf⟩ := bcell hb
      have hz : w.heap.size < w1.heap.size := by have := hb.size; simp at this; omega
      clear hb
      go_wp2_with fail
      refine (CV.out _).mono ?_
      rintro e w2 ⟨rfl, rfl⟩
      go_wp2_with fail
      refine (CS.out _).mono ?_
      rintro e w3 ⟨rfl, rfl⟩
      go_wp2
      go_ret
      exact ⟨rfl, g_chain HB.out (below_a1 _ _)⟩
theorem vtx_is {v : Int} (h : vtxB v = true) : 0 ≤ v ∧ v < 150 := by unfold vtxB at h; simpa using h
set_option maxHeartbeats 1000000 in
theorem implFirstEdge (p s f t d : Int) (w : World) :
    Calls Tryd.prog 45 #[.agg #[.int .i64 p, .int .i64 s], .int .i64 f, .int .i64 t, .int .i64 d] w (fun e w' => e = .returned (.int .i64 (firstE p f t d)) ∧ Below w.heap.size w w') := by
  rcases prog_cases p with h | rfl | rfl | rfl | rfl
  · have hj : firstE p f t d = 0 := by unfold firstE firstEB; rw [progB_no h]; rfl
    rw [hj]
    have C := Lib.hid (fun W => progOf_no p h W)
    clear h hj
    unfold GivesP prog0 at C
    go_enter Tryd.func45, Tryd.ntmps45
    go_wp2_with fail
    refine (C.out _).mono ?_
    rintro e w1 ⟨rfl, hb⟩
    have HB := Lib.hid (g_chain (below_a1 w _) hb)
    clear hb
    go_wp2
    go_ret
    exact ⟨rfl, g_chain HB.out (below_a1 _ _)⟩
  · have CF := Lib.hid (fun W => implIsVertex f W)
    have CT := Lib.hid (fun W => implIsVertex t W)
    have C := Lib.hid (fun W => progOf_1 W)
    unfold GivesP prog1 at C
    by_cases hf1 : vtxB f = false
    · have hj : firstE 1 f t d = 0 := by unfold firstE firstEB progB; rw [hf1]; simp
      rw [hj]
      rw [hf1] at CF
      clear hj hf1
      go_enter Tryd.func45, Tryd.ntmps45
      go_wp2_with fail
      refine (C.out _).mono ?_
      rintro e w1 ⟨rfl, hb⟩
      have HB := Lib.hid (g_chain (below_a1 w _) hb)
      obtain ⟨hc, hf⟩ := bcell hb
      have hz : w.heap.size < w1.heap.size := by have := hb.size; simp at this; omega
      clear hb
      go_wp2_with fail
      refine (CF.out _).mono ?_
      rintro e w2 ⟨rfl, rfl⟩
      go_wp2
      go_ret
      exact ⟨rfl, g_chain HB.out (below_a1 _ _)⟩
    by_cases ht1 : vtxB t = false
    · have hj : firstE 1 f t d = 0 := by unfold firstE firstEB progB; rw [ht1]; simp
      rw [hj]
      rw [tt_of hf1] at CF
      rw [ht1] at CT
      clear hj hf1 ht1
      go_enter Tryd.func45, Tryd.ntmps45
      go_wp2_with fail
      refine (C.out _).mono ?_
      rintro e w1 ⟨rfl, hb⟩
      have HB := Lib.hid (g_chain (below_a1 w _) hb)
      obtain ⟨hc, hf⟩ := bcell hb
      have hz : w.heap.size < w1.heap.size := by have := hb.size; simp at this; omega
      clear hb
      go_wp2_with fail
      refine (CF.out _).mono ?_
      rintro e w2 ⟨rfl, rfl⟩
      go_wp2_with fail
      refine (CT.out _).mono ?_
      rintro e w3 ⟨rfl, rfl⟩
      go_wp2
      go_ret
      exact ⟨rfl, g_chain HB.out (below_a1 _ _)⟩
    by_cases hd1 : d < 1
    · have hj : firstE 1 f t d = 0 := by unfold firstE firstEB progB; rw [if_neg (by simp; omega)]
      rw [hj]
      rw [tt_of hf1] at CF
      rw [tt_of ht1] at CT
      clear hj hf1 ht1
      go_enter Tryd.func45, Tryd.ntmps45
      go_wp2_with fail
      refine (C.out _).mono ?_
      rintro e w1 ⟨rfl, hb⟩
      have HB := Lib.hid (g_chain (below_a1 w _) hb)
      obtain ⟨hc, hf⟩ := bcell hb
      have hz : w.heap.size < w1.heap.size := by have := hb.size; simp at this; omega
      clear hb
      go_wp2_with fail
      refine (CF.out _).mono ?_
      rintro e w2 ⟨rfl, rfl⟩
      go_wp2_with fail
      refine (CT.out _).mono ?_
      rintro e w3 ⟨rfl, rfl⟩
      go_wp2
      go_ret
      exact ⟨rfl, g_chain HB.out (below_a1 _ _)⟩
    by_cases hd2 : 400 < d
    · have hj : firstE 1 f t d = 0 := by unfold firstE firstEB progB; rw [if_neg (by simp; omega)]
      rw [hj]
      rw [tt_of hf1] at CF
      rw [tt_of ht1] at CT
      clear hj hf1 ht1
      go_enter Tryd.func45, Tryd.ntmps45
      go_wp2_with fail
      refine (C.out _).mono ?_
      rintro e w1 ⟨rfl, hb⟩
      have HB := Lib.hid (g_chain (below_a1 w _) hb)
      obtain ⟨hc, hf⟩ := bcell hb
      have hz : w.heap.size < w1.heap.size := by have := hb.size; simp at this; omega
      clear hb
      go_wp2_with fail
      refine (CF.out _).mono ?_
      rintro e w2 ⟨rfl, rfl⟩
      go_wp2_with fail
      refine (CT.out _).mono ?_
      rintro e w3 ⟨rfl, rfl⟩
      go_wp2
      go_ret
      exact ⟨rfl, g_chain HB.out (below_a1 _ _)⟩
    · have hf2 := tt_of hf1
      have ht2 := tt_of ht1
      have hj : firstE 1 f t d = Int.tdiv 1048576 d := by unfold firstE firstEB progB; rw [hf2, ht2, if_pos (by simp; omega)]; simp
      have HF := Lib.hid (vtx_is hf2)
      have HT := Lib.hid (vtx_is ht2)
      have HD : Hid (1 ≤ d ∧ d ≤ 400) := Lib.hid (by omega)
      have CS := Lib.hid (fun W => edge_1 f t d W HD.out.1)
      rw [hj]
      rw [hf2] at CF
      rw [ht2] at CT
      clear hj hf1 ht1 hf2 ht2
      go_enter Tryd.func45, Tryd.ntmps45
      go_wp2_with fail
      refine (C.out _).mono ?_
      rintro e w1 ⟨rfl, hb⟩
      have HB := Lib.hid (g_chain (below_a1 w _) hb)
      obtain ⟨hc, hf⟩ := bcell hb
      have hz : w.heap.size < w1.heap.size := by have := hb.size; simp at this; omega
      clear hb
      go_wp2_with fail
      refine (CF.out _).mono ?_
      rintro e w2 ⟨rfl, rfl⟩
      go_wp2_with fail
      refine (CT.out _).mono ?_
      rintro e w3 ⟨rfl, rfl⟩
      go_wp2_with fail
      refine (CS.out _).mono ?_
      rintro e w4 ⟨rfl, rfl⟩
      go_wp2
      go_ret
      exact ⟨rfl, g_chain HB.out (below_a1 _ _)⟩
  · have CF := Lib.hid (fun W => implIsVertex f W)
    have CT := Lib.hid (fun W => implIsVertex t W)
    have C := Lib.hid (fun W => progOf_2 W)
    unfold GivesP prog2 at C
    by_cases hf1 : vtxB f = false
    · have hj : firstE 2 f t d = 0 := by unfold firstE firstEB progB; rw [hf1]; simp
      rw [hj]
      rw [hf1] at CF
      clear hj hf1
      go_enter Tryd.func45, Tryd.ntmps45
      go_wp2_with fail
      refine (C.out _).mono ?_
      rintro e w1 ⟨rfl, hb⟩
      have HB := Lib.hid (g_chain (below_a1 w _) hb)
      obtain ⟨hc, hf⟩ := bcell hb
      have hz : w.heap.size < w1.heap.size := by have := hb.size; simp at this; omega
      clear hb
      go_wp2_with fail
      refine (CF.out _).mono ?_
      rintro e w2 ⟨rfl, rfl⟩
      go_wp2
      go_ret
      exact ⟨rfl, g_chain HB.out (below_a1 _ _)⟩
    by_cases ht1 : vtxB t = false
    · have hj : firstE 2 f t d = 0 := by unfold firstE firstEB progB; rw [ht1]; simp
      rw [hj]
      rw [tt_of hf1] at CF
      rw [ht1] at CT
      clear hj hf1 ht1
      go_enter Tryd.func45, Tryd.ntmps45
      go_wp2_with fail
      refine (C.out _).mono ?_
      rintro e w1 ⟨rfl, hb⟩
      have HB := Lib.hid (g_chain (below_a1 w _) hb)
      obtain ⟨hc, hf⟩ := bcell hb
      have hz : w.heap.size < w1.heap.size := by have := hb.size; simp at this; omega
      clear hb
      go_wp2_with fail
      refine (CF.out _).mono ?_
      rintro e w2 ⟨rfl, rfl⟩
      go_wp2_with fail
      refine (CT.out _).mono ?_
      rintro e w3 ⟨rfl, rfl⟩
      go_wp2
      go_ret
      exact ⟨rfl, g_chain HB.out (below_a1 _ _)⟩
    by_cases hd1 : d < 1
    · have hj : firstE 2 f t d = 0 := by unfold firstE firstEB progB; rw [if_neg (by simp; omega)]
      rw [hj]
      rw [tt_of hf1] at CF
      rw [tt_of ht1] at CT
      clear hj hf1 ht1
      go_enter Tryd.func45, Tryd.ntmps45
      go_wp2_with fail
      refine (C.out _).mono ?_
      rintro e w1 ⟨rfl, hb⟩
      have HB := Lib.hid (g_chain (below_a1 w _) hb)
      obtain ⟨hc, hf⟩ := bcell hb
      have hz : w.heap.size < w1.heap.size := by have := hb.size; simp at this; omega
      clear hb
      go_wp2_with fail
      refine (CF.out _).mono ?_
      rintro e w2 ⟨rfl, rfl⟩
      go_wp2_with fail
      refine (CT.out _).mono ?_
      rintro e w3 ⟨rfl, rfl⟩
      go_wp2
      go_ret
      exact ⟨rfl, g_chain HB.out (below_a1 _ _)⟩
    by_cases hd2 : 400 < d
    · have hj : firstE 2 f t d = 0 := by unfold firstE firstEB progB; rw [if_neg (by simp; omega)]
      rw [hj]
      rw [tt_of hf1] at CF
      rw [tt_of ht1] at CT
      clear hj hf1 ht1
      go_enter Tryd.func45, Tryd.ntmps45
      go_wp2_with fail
      refine (C.out _).mono ?_
      rintro e w1 ⟨rfl, hb⟩
      have HB := Lib.hid (g_chain (below_a1 w _) hb)
      obtain ⟨hc, hf⟩ := bcell hb
      have hz : w.heap.size < w1.heap.size := by have := hb.size; simp at this; omega
      clear hb
      go_wp2_with fail
      refine (CF.out _).mono ?_
      rintro e w2 ⟨rfl, rfl⟩
      go_wp2_with fail
      refine (CT.out _).mono ?_
      rintro e w3 ⟨rfl, rfl⟩
      go_wp2
      go_ret
      exact ⟨rfl, g_chain HB.out (below_a1 _ _)⟩
    · have hf2 := tt_of hf1
      have ht2 := tt_of ht1
      have hj : firstE 2 f t d = 1099511627776 := by unfold firstE firstEB progB; rw [hf2, ht2, if_pos (by simp; omega)]; simp
      have HF := Lib.hid (vtx_is hf2)
      have HT := Lib.hid (vtx_is ht2)
      have HD : Hid (1 ≤ d ∧ d ≤ 400) := Lib.hid (by omega)
      have CS := Lib.hid (fun W => edge_23 f t d W)
      rw [hj]
      rw [hf2] at CF
      rw [ht2] at CT
      clear hj hf1 ht1 hf2 ht2
      go_enter Tryd.func45, Tryd.ntmps45
      go_wp2_with fail
      refine (C.out _).mono ?_
      rintro e w1 ⟨rfl, hb⟩
      have HB := Lib.hid (g_chain (below_a1 w _) hb)
      obtain ⟨hc, hf⟩ := bcell hb
      have hz : w.heap.size < w1.heap.size := by have := hb.size; simp at this; omega
      clear hb
      go_wp2_with fail
      refine (CF.out _).mono ?_
      rintro e w2 ⟨rfl, rfl⟩
      go_wp2_with fail
      refine (CT.out _).mono ?_
      rintro e w3 ⟨rfl, rfl⟩
      go_wp2_with fail
      refine (CS.out _).mono ?_
      rintro e w4 ⟨rfl, rfl⟩
      go_wp2
      go_ret
      exact ⟨rfl, g_chain HB.out (below_a1 _ _)⟩
  · have CF := Lib.hid (fun W => implIsVertex f W)
    have CT := Lib.hid (fun W => implIsVertex t W)
    have C := Lib.hid (fun W => progOf_3 W)
    unfold GivesP prog3 at C
    by_cases hf1 : vtxB f = false
    · have hj : firstE 3 f t d = 0 := by unfold firstE firstEB progB; rw [hf1]; simp
      rw [hj]
      rw [hf1] at CF
      clear hj hf1
      go_enter Tryd.func45, Tryd.ntmps45
      go_wp2_with fail
      refine (C.out _).mono ?_
      rintro e w1 ⟨rfl, hb⟩
      have HB := Lib.hid (g_chain (below_a1 w _) hb)
      obtain ⟨hc, hf⟩ := bcell hb
      have hz : w.heap.size < w1.heap.size := by have := hb.size; simp at this; omega
      clear hb
      go_wp2_with fail
      refine (CF.out _).mono ?_
      rintro e w2 ⟨rfl, rfl⟩
      go_wp2
      go_ret
      exact ⟨rfl, g_chain HB.out (below_a1 _ _)⟩
    by_cases ht1 : vtxB t = false
    · have hj : firstE 3 f t d = 0 := by unfold firstE firstEB progB; rw [ht1]; simp
      rw [hj]
      rw [tt_of hf1] at CF
      rw [ht1] at CT
      clear hj hf1 ht1
      go_enter Tryd.func45, Tryd.ntmps45
      go_wp2_with fail
      refine (C.out _).mono ?_
      rintro e w1 ⟨rfl, hb⟩
      have HB := Lib.hid (g_chain (below_a1 w _) hb)
      obtain ⟨hc, hf⟩ := bcell hb
      have hz : w.heap.size < w1.heap.size := by have := hb.size; simp at this; omega
      clear hb
      go_wp2_with fail
      refine (CF.out _).mono ?_
      rintro e w2 ⟨rfl, rfl⟩
      go_wp2_with fail
      refine (CT.out _).mono ?_
      rintro e w3 ⟨rfl, rfl⟩
      go_wp2
      go_ret
      exact ⟨rfl, g_chain HB.out (below_a1 _ _)⟩
    by_cases hd1 : d < 1
    · have hj : firstE 3 f t d = 0 := by unfold firstE firstEB progB; rw [if_neg (by simp; omega)]
      rw [hj]
      rw [tt_of hf1] at CF
      rw [tt_of ht1] at CT
      clear hj hf1 ht1
      go_enter Tryd.func45, Tryd.ntmps45
      go_wp2_with fail
      refine (C.out _).mono ?_
      rintro e w1 ⟨rfl, hb⟩
      have HB := Lib.hid (g_chain (below_a1 w _) hb)
      obtain ⟨hc, hf⟩ := bcell hb
      have hz : w.heap.size < w1.heap.size := by have := hb.size; simp at this; omega
      clear hb
      go_wp2_with fail
      refine (CF.out _).mono ?_
      rintro e w2 ⟨rfl, rfl⟩
      go_wp2_with fail
      refine (CT.out _).mono ?_
      rintro e w3 ⟨rfl, rfl⟩
      go_wp2
      go_ret
      exact ⟨rfl, g_chain HB.out (below_a1 _ _)⟩
    by_cases hd2 : 400 < d
    · have hj : firstE 3 f t d = 0 := by unfold firstE firstEB progB; rw [if_neg (by simp; omega)]
      rw [hj]
      rw [tt_of hf1] at CF
      rw [tt_of ht1] at CT
      clear hj hf1 ht1
      go_enter Tryd.func45, Tryd.ntmps45
      go_wp2_with fail
      refine (C.out _).mono ?_
      rintro e w1 ⟨rfl, hb⟩
      have HB := Lib.hid (g_chain (below_a1 w _) hb)
      obtain ⟨hc, hf⟩ := bcell hb
      have hz : w.heap.size < w1.heap.size := by have := hb.size; simp at this; omega
      clear hb
      go_wp2_with fail
      refine (CF.out _).mono ?_
      rintro e w2 ⟨rfl, rfl⟩
      go_wp2_with fail
      refine (CT.out _).mono ?_
      rintro e w3 ⟨rfl, rfl⟩
      go_wp2
      go_ret
      exact ⟨rfl, g_chain HB.out (below_a1 _ _)⟩
    · have hf2 := tt_of hf1
      have ht2 := tt_of ht1
      have hj : firstE 3 f t d = 1099511627776 := by unfold firstE firstEB progB; rw [hf2, ht2, if_pos (by simp; omega)]; simp
      have HF := Lib.hid (vtx_is hf2)
      have HT := Lib.hid (vtx_is ht2)
      have HD : Hid (1 ≤ d ∧ d ≤ 400) := Lib.hid (by omega)
      have CS := Lib.hid (fun W => edge_23 f t d W)
      rw [hj]
      rw [hf2] at CF
      rw [ht2] at CT
      clear hj hf1 ht1 hf2 ht2
      go_enter Tryd.func45, Tryd.ntmps45
      go_wp2_with fail
      refine (C.out _).mono ?_
      rintro e w1 ⟨rfl, hb⟩
      have HB := Lib.hid (g_chain (below_a1 w _) hb)
      obtain ⟨hc, hf⟩ := bcell hb
      have hz : w.heap.size < w1.heap.size := by have := hb.size; simp at this; omega
      clear hb
      go_wp2_with fail
      refine (CF.out _).mono ?_
      rintro e w2 ⟨rfl, rfl⟩
      go_wp2_with fail
      refine (CT.out _).mono ?_
      rintro e w3 ⟨rfl, rfl⟩
      go_wp2_with fail
      refine (CS.out _).mono ?_
      rintro e w4 ⟨rfl, rfl⟩
      go_wp2
      go_ret
      exact ⟨rfl, g_chain HB.out (below_a1 _ _)⟩
  · have CF := Lib.hid (fun W => implIsVertex f W)
    have CT := Lib.hid (fun W => implIsVertex t W)
    have C := Lib.hid (fun W => progOf_4 W)
    unfold GivesP prog4 at C
    by_cases hf1 : vtxB f = false
    · have hj : firstE 4 f t d = 0 := by unfold firstE firstEB progB; rw [hf1]; simp
      rw [hj]
      rw [hf1] at CF
      clear hj hf1
      go_enter Tryd.func45, Tryd.ntmps45
      go_wp2_with fail
      refine (C.out _).mono ?_
      rintro e w1 ⟨rfl, hb⟩
      have HB := Lib.hid (g_chain (below_a1 w _) hb)
      obtain ⟨hc, hf⟩ := bcell hb
      have hz : w.heap.size < w1.heap.size := by have := hb.size; simp at this; omega
      clear hb
      go_wp2_with fail
      refine (CF.out _).mono ?_
      rintro e w2 ⟨rfl, rfl⟩
      go_wp2
      go_ret
      exact ⟨rfl, g_chain HB.out (below_a1 _ _)⟩
    by_cases ht1 : vtxB t = false
    · have hj : firstE 4 f t d = 0 := by unfold firstE firstEB progB; rw [ht1]; simp
      rw [hj]
      rw [tt_of hf1] at CF
      rw [ht1] at CT
      clear hj hf1 ht1
      go_enter Tryd.func45, Tryd.ntmps45
      go_wp2_with fail
      refine (C.out _).mono ?_
      rintro e w1 ⟨rfl, hb⟩
      have HB := Lib.hid (g_chain (below_a1 w _) hb)
      obtain ⟨hc, hf⟩ := bcell hb
      have hz : w.heap.size < w1.heap.size := by have := hb.size; simp at this; omega
      clear hb
      go_wp2_with fail
      refine (CF.out _).mono ?_
      rintro e w2 ⟨rfl, rfl⟩
      go_wp2_with fail
      refine (CT.out _).mono ?_
      rintro e w3 ⟨rfl, rfl⟩
      go_wp2
      go_ret
      exact ⟨rfl, g_chain HB.out (below_a1 _ _)⟩
    by_cases hd1 : d < 1
    · have hj : firstE 4 f t d = 0 := by unfold firstE firstEB progB; rw [if_neg (by simp; omega)]
      rw [hj]
      rw [tt_of hf1] at CF
      rw [tt_of ht1] at CT
      clear hj hf1 ht1
      go_enter Tryd.func45, Tryd.ntmps45
      go_wp2_with fail
      refine (C.out _).mono ?_
      rintro e w1 ⟨rfl, hb⟩
      have HB := Lib.hid (g_chain (below_a1 w _) hb)
      obtain ⟨hc, hf⟩ := bcell hb
      have hz : w.heap.size < w1.heap.size := by have := hb.size; simp at this; omega
      clear hb
      go_wp2_with fail
      refine (CF.out _).mono ?_
      rintro e w2 ⟨rfl, rfl⟩
      go_wp2_with fail
      refine (CT.out _).mono ?_
      rintro e w3 ⟨rfl, rfl⟩
      go_wp2
      go_ret
      exact ⟨rfl, g_chain HB.out (below_a1 _ _)⟩
    by_cases hd2 : 400 < d
    · have hj : firstE 4 f t d = 0 := by unfold firstE firstEB progB; rw [if_neg (by simp; omega)]
      rw [hj]
      rw [tt_of hf1] at CF
      rw [tt_of ht1] at CT
      clear hj hf1 ht1
      go_enter Tryd.func45, Tryd.ntmps45
      go_wp2_with fail
      refine (C.out _).mono ?_
      rintro e w1 ⟨rfl, hb⟩
      have HB := Lib.hid (g_chain (below_a1 w _) hb)
      obtain ⟨hc, hf⟩ := bcell hb
      have hz : w.heap.size < w1.heap.size := by have := hb.size; simp at this; omega
      clear hb
      go_wp2_with fail
      refine (CF.out _).mono ?_
      rintro e w2 ⟨rfl, rfl⟩
      go_wp2_with fail
      refine (CT.out _).mono ?_
      rintro e w3 ⟨rfl, rfl⟩
      go_wp2
      go_ret
      exact ⟨rfl, g_chain HB.out (below_a1 _ _)⟩
    · have hf2 := tt_of hf1
      have ht2 := tt_of ht1
      have hj : firstE 4 f t d = f * 1000 + t := by unfold firstE firstEB progB; rw [hf2, ht2, if_pos (by simp; omega)]; simp
      have HF := Lib.hid (vtx_is hf2)
      have HT := Lib.hid (vtx_is ht2)
      have HD : Hid (1 ≤ d ∧ d ≤ 400) := Lib.hid (by omega)
      have CS := Lib.hid (fun W => edge_4 f t d W HF.out HT.out)
      rw [hj]
      rw [hf2] at CF
      rw [ht2] at CT
      clear hj hf1 ht1 hf2 ht2
      go_enter Tryd.func45, Tryd.ntmps45
      go_wp2_with fail
      refine (C.out _).mono ?_
      rintro e w1 ⟨rfl, hb⟩
      have HB := Lib.hid (g_chain (below_a1 w _) hb)
      obtain ⟨hc, hf⟩ := bcell hb
      have hz : w.heap.size < w1.heap.size := by have := hb.size; simp at this; omega
      clear hb
      go_wp2_with fail
      refine (CF.out _).mono ?_
      rintro e w2 ⟨rfl, rfl⟩
      go_wp2_with fail
      refine (CT.out _).mono ?_
      rintro e w3 ⟨rfl, rfl⟩
      go_wp2_with fail
      refine (CS.out _).mono ?_
      rintro e w4 ⟨rfl, rfl⟩
      go_wp2
      go_ret
      exact ⟨rfl, g_chain HB.out (below_a1 _ _)⟩
end Go.Proofs.YtlhcobkncceodaaDoor
