/- The contract of the model's function that asks whether a graph is valid. Condition: at most 2^20 edges. -/
import Derived.Test.YtpgnappddddlpaaGraph
namespace Go.Proofs.Ytpgnappddddlpaa
open Go.RowKit

theorem edgeB_parts {n : Int} {e : GE} (h : edgeB n e = false) : e.f < 0 ∨ (0 ≤ e.f ∧ n ≤ e.f) ∨ (0 ≤ e.f ∧ e.f < n ∧ e.t < 0) ∨ (0 ≤ e.f ∧ e.f < n ∧ 0 ≤ e.t ∧ n ≤ e.t) ∨ (0 ≤ e.f ∧ e.f < n ∧ 0 ≤ e.t ∧ e.t < n ∧ e.w < 0) ∨ (0 ≤ e.f ∧ e.f < n ∧ 0 ≤ e.t ∧ e.t < n ∧ 0 ≤ e.w ∧ 1000 < e.w) := by
  have h := of_decide_eq_false h
  omega

set_option maxRecDepth 10000 in
set_option maxHeartbeats 4000000 in
theorem specGraphOk (N : Int) (A : Option Addr) (n c : Nat) (es : List GE) (w : World) (hr : SlG w A n es) (hn : n ≤ 1048576) :
    Calls Try.prog 71 #[.agg #[.int .i64 N, .slice A n c]] w (GTell w (graphB N es)) := by
  have HEL := Lib.hid hr.len
  have HR := Lib.hid hr
  clear hr
  go_enter Try.func71, Try.ntmps71
  go_wp2
  have X0 := Lib.hid (NBox.new w N A n c 58)
  have HB0 := Lib.hid (below_a1 w (.cells #[.int .i64 N, .slice A n c] 58))
  go_loopw [8] (fun i wr => ∃ k : Nat, k ≤ n ∧ i = .int .i64 k ∧ Hid (NBox wr w.heap.size N A n c) ∧ Hid (Below w.heap.size w wr) ∧ Hid (∀ x ∈ es.take k, edgeB N x = true)) (fun i _ => n - (intOf i).toNat)
  case atStart => exact ⟨0, Nat.zero_le _, rfl, X0, HB0, Lib.hid (by simp)⟩
  case round =>
    clear X0 HB0
    obtain ⟨k, hk, rfl, hx, hbel, hall⟩ := hrel
    obtain ⟨l0, x0, x1⟩ := hx.out
    by_cases hlt : k < n
    · obtain ⟨b, off, e, rfl, hbw, he, c0, c1, c2⟩ := HR.out.at_ hlt
      have c0 := (hbel.out.cell (p := ⟨b, off + k * 3, none⟩) hbw).trans c0
      have c1 := (hbel.out.cell (p := ⟨b, off + k * 3 + 1, none⟩) hbw).trans c1
      have c2 := (hbel.out.cell (p := ⟨b, off + k * 3 + 2, none⟩) hbw).trans c2
      have HB1 := Lib.hid (below_a1 wr (.cells #[.int .i64 e.f, .int .i64 e.t, .int .i64 e.w] 145))
      cases hv : edgeB N e with
      | true =>
        obtain ⟨h1, h2, h3, h4, h5, h6⟩ := edgeB_iff hv
        go_wp2
        go_roundw
        case rel => exact ⟨k + 1, by omega, by go_num, Lib.hid (hx.out.below HB1.out), Lib.hid (g_chain hbel.out HB1.out), Lib.hid (all_step he.out hall.out hv)⟩
        case measure => simp [intOf]; omega
      | false =>
        have HV := Lib.hid (graphB_no he.out hv)
        have hp := edgeB_parts hv
        clear hv
        rcases hp with h1 | ⟨h1, h2⟩ | ⟨h1, h2, h3⟩ | ⟨h1, h2, h3, h4⟩ | ⟨h1, h2, h3, h4, h5⟩ | ⟨h1, h2, h3, h4, h5, h6⟩
        all_goals
          go_wp2
          go_ret
          rw [HV.out]
          exact ⟨g_bool (by first | rfl | (simp <;> omega)), g_chain hbel.out HB1.out⟩
    · obtain rfl : k = n := by omega
      have HG : Hid (graphB N es = decide (0 ≤ N ∧ N ≤ 150 ∧ k ≤ 400)) := Lib.hid (by
        have h1 : es.all (edgeB N) = true := List.all_eq_true.2 (fun x hx => hall.out x (by rw [List.take_of_length_le (by rw [HEL.out]; exact Nat.le_refl _)]; exact hx))
        unfold graphB
        rw [h1, Bool.and_true, HEL.out])
      by_cases h1 : 0 ≤ N
      · by_cases h2 : N ≤ 150
        · by_cases h3 : k ≤ 400
          · have HV : Hid (graphB N es = true) := Lib.hid (by rw [HG.out]; simp [h1, h2, h3])
            go_wp2
            go_ret
            rw [HV.out]
            exact ⟨g_bool (by first | rfl | (simp <;> omega)), hbel.out⟩
          · have HV : Hid (graphB N es = false) := Lib.hid (by rw [HG.out]; simp [h3])
            go_wp2
            go_ret
            rw [HV.out]
            exact ⟨g_bool (by first | rfl | (simp <;> omega)), hbel.out⟩
        · have HV : Hid (graphB N es = false) := Lib.hid (by rw [HG.out]; simp [h2])
          go_wp2
          go_ret
          rw [HV.out]
          exact ⟨g_bool (by first | rfl | (simp <;> omega)), hbel.out⟩
      · have HV : Hid (graphB N es = false) := Lib.hid (by rw [HG.out]; simp [h1])
        go_wp2
        go_ret
        rw [HV.out]
        exact ⟨g_bool (by first | rfl | (simp <;> omega)), hbel.out⟩
end Go.Proofs.Ytpgnappddddlpaa
