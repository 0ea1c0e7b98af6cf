/- The contracts of the program's JobOk, FirstVal and FirstEdge. Condition: the arguments are numbers of 64 bits. -/
import Derived.Test.YtlhcobkncceodaaGreatDoorKProgI
namespace Go.Proofs.YtlhcobkncceodaaGreatDoor
open Go.RowKit

theorem prog_cases (p : Int) : (p < 1 ∨ 4 < p) ∨ p = 1 ∨ p = 2 ∨ p = 3 ∨ p = 4 := by omega
theorem tt_of {b : Bool} (h : ¬ b = false) : b = true := by cases b <;> simp_all
theorem progB_no {p : Int} (h : p < 1 ∨ 4 < p) : progB p = false := by unfold progB; simp; omega

set_option maxHeartbeats 1000000 in
theorem implJobOk (n p s : Int) (w : World) :
    Calls Tryz.prog 50 #[.int .i64 n, .agg #[.int .i64 p, .int .i64 s]] w (fun e w' => e = .returned (.bool (jobB n p s)) ∧ Below w.heap.size w w') := by
  rcases prog_cases p with h | rfl | rfl | rfl | rfl
  · have hj : jobB n p s = false := by unfold jobB; rw [progB_no h]; rfl
    rw [hj]
    have C := Lib.hid (fun W => progOf_no p h W)
    clear h hj
    unfold GivesP prog0 at C
    go_enter Tryz.func50, Tryz.ntmps50
    go_wp2_with fail
    refine (C.out _).mono ?_
    rintro e w1 ⟨rfl, hb⟩
    have HB := Lib.hid (g_chain (below_a1 w _) hb)
    clear hb
    go_wp2
    go_ret
    exact ⟨rfl, g_chain HB.out (below_a1 _ _)⟩
  · have hj : jobB n 1 s = (decide (s = 0)) := by unfold jobB progB; simp
    rw [hj]
    have C := Lib.hid (fun W => progOf_1 W)
    have CS := Lib.hid (fun W => src_no n s W)
    clear hj
    unfold GivesP prog1 at C
    go_enter Tryz.func50, Tryz.ntmps50
    go_wp2_with fail
    refine (C.out _).mono ?_
    rintro e w1 ⟨rfl, hb⟩
    have HB := Lib.hid (g_chain (below_a1 w _) hb)
    obtain ⟨hc, hf⟩ := bcell hb
    have hz : w.heap.size < w1.heap.size := by have := hb.size; simp at this; omega
    clear hb
    go_wp2_with fail
    refine (CS.out _).mono ?_
    rintro e w2 ⟨rfl, rfl⟩
    go_wp2
    go_ret
    exact ⟨rfl, g_chain HB.out (below_a1 _ _)⟩
  · have hj : jobB n 2 s = (decide (s = 0)) := by unfold jobB progB; simp
    rw [hj]
    have C := Lib.hid (fun W => progOf_2 W)
    have CS := Lib.hid (fun W => src_no n s W)
    clear hj
    unfold GivesP prog2 at C
    go_enter Tryz.func50, Tryz.ntmps50
    go_wp2_with fail
    refine (C.out _).mono ?_
    rintro e w1 ⟨rfl, hb⟩
    have HB := Lib.hid (g_chain (below_a1 w _) hb)
    obtain ⟨hc, hf⟩ := bcell hb
    have hz : w.heap.size < w1.heap.size := by have := hb.size; simp at this; omega
    clear hb
    go_wp2_with fail
    refine (CS.out _).mono ?_
    rintro e w2 ⟨rfl, rfl⟩
    go_wp2
    go_ret
    exact ⟨rfl, g_chain HB.out (below_a1 _ _)⟩
  · have hj : jobB n 3 s = (decide (0 ≤ s) && decide (s < n)) := by unfold jobB progB; simp
    rw [hj]
    have C := Lib.hid (fun W => progOf_3 W)
    have CS := Lib.hid (fun W => src_3 n s W)
    clear hj
    unfold GivesP prog3 at C
    go_enter Tryz.func50, Tryz.ntmps50
    go_wp2_with fail
    refine (C.out _).mono ?_
    rintro e w1 ⟨rfl, hb⟩
    have HB := Lib.hid (g_chain (below_a1 w _) hb)
    obtain ⟨hc, hf⟩ := bcell hb
    have hz : w.heap.size < w1.heap.size := by have := hb.size; simp at this; omega
    clear hb
    go_wp2_with fail
    refine (CS.out _).mono ?_
    rintro e w2 ⟨rfl, rfl⟩
    go_wp2
    go_ret
    exact ⟨rfl, g_chain HB.out (below_a1 _ _)⟩
  · have hj : jobB n 4 s = (decide (s = 0)) := by unfold jobB progB; simp
    rw [hj]
    have C := Lib.hid (fun W => progOf_4 W)
    have CS := Lib.hid (fun W => src_no n s W)
    clear hj
    unfold GivesP prog4 at C
    go_enter Tryz.func50, Tryz.ntmps50
    go_wp2_with fail
    refine (C.out _).mono ?_
    rintro e w1 ⟨rfl, hb⟩
    have HB := Lib.hid (g_chain (below_a1 w _) hb)
    obtain ⟨hc, hf⟩ := bcell hb
    have hz : w.heap.size < w1.heap.size := by have := hb.size; simp at this; omega
    clear hb
    go_wp2_with fail
    refine (CS.out _).mono ?_
    rintro e w2 ⟨rfl, rfl⟩
    go_wp2
    go_ret
    exact ⟨rfl, g_chain HB.out (below_a1 _ _)⟩
theorem vtx_is {v : Int} (h : vtxB v = true) : 0 ≤ v ∧ v < 150 := by unfold vtxB at h; simpa using h
end Go.Proofs.YtlhcobkncceodaaGreatDoor
