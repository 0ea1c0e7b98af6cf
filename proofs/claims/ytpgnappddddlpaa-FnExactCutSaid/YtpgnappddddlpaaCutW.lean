/- The contract of the program's Cut, whole. Condition: at most 2^20 edges. -/
import Derived.Test.YtpgnappddddlpaaCutI
import Derived.Test.YtpgnappddddlpaaDegsI
namespace Go.Proofs.Ytpgnappddddlpaa
open Go.RowKit

/-- The program's isBudget. -/
theorem isBudget_any (b : Int) (w : World) : Calls Try.prog 75 #[.int .i64 b] w fun e w' => e = .returned (.bool (decide (1 ≤ b ∧ b ≤ 400))) ∧ w = w' := by
  by_cases h1 : 1 ≤ b
  · by_cases h2 : b ≤ 400
    · rw [decide_eq_true (⟨h1, h2⟩ : 1 ≤ b ∧ b ≤ 400)]
      go_enter Try.func75, Try.ntmps75
      go_wp2
      go_ret
      exact ⟨rfl, rfl⟩
    · rw [decide_eq_false (fun h : 1 ≤ b ∧ b ≤ 400 => h2 h.2)]
      go_enter Try.func75, Try.ntmps75
      go_wp2
      go_ret
      exact ⟨rfl, rfl⟩
  · rw [decide_eq_false (fun h : 1 ≤ b ∧ b ≤ 400 => h1 h.1)]
    go_enter Try.func75, Try.ntmps75
    go_wp2
    go_ret
    exact ⟨rfl, rfl⟩
set_option maxRecDepth 10000 in
set_option maxHeartbeats 4000000 in
theorem implCut (N : Int) (A : Option Addr) (n c : Nat) (es : List GE) (b : Int) (w : World) (hr : SlG w A n es) (hn : n ≤ 1048576) :
    Calls Try.prog 51 #[.agg #[.int .i64 N, .slice A n c], .int .i64 b] w (MadeI w (cutR N es b)) := by
  have CG := Lib.hid (fun W (h : Below w.heap.size w W) => implGraphOk N A n c es W (hr.below h) hn)
  have CD := Lib.hid (fun W (h : Below w.heap.size w W) => implIn N A n c es W (hr.below h) hn)
  have CB := Lib.hid (fun W => isBudget_any b W)
  have HEL := Lib.hid hr.len
  obtain ⟨R, hR⟩ : ∃ R, cutR N es b = R := ⟨_, rfl⟩
  rw [hR]
  clear hr
  go_enter Try.func51, Try.ntmps51
  go_wp2_with fail
  refine (CG.out _ (below_a1 _ _)).mono ?_
  rintro e w1 ⟨rfl, hb1⟩
  have X1 := Lib.hid ((NBox.new w N A n c 58).below hb1)
  have HB1 := Lib.hid (g_chain (below_a1 w (.cells #[.int .i64 N, .slice A n c] 58)) hb1)
  clear hb1
  obtain ⟨l0, x0, x1⟩ := X1.out
  cases hv : graphB N es with
  | false =>
    have HD := Lib.hid (hR.symm.trans (cutR_no (.inl hv)))
    go_wp2
    go_ret
    rw [HD.out]
    exact ⟨none, 0, 0, rfl, World.ownsRow_nil _ _ _ _, HB1.out⟩
  | true =>
    by_cases hb1 : b < 1
    · have HD := Lib.hid (hR.symm.trans (cutR_no (.inr (.inl hb1))))
      rw [decide_eq_false (fun h : 1 ≤ b ∧ b ≤ 400 => absurd h.1 (by omega))] at CB
      go_wp2_with fail
      refine (CB.out _).mono ?_
      rintro e9 w9 ⟨rfl, rfl⟩
      go_wp2
      go_ret
      rw [HD.out]
      exact ⟨none, 0, 0, rfl, World.ownsRow_nil _ _ _ _, HB1.out⟩
    · by_cases hb2 : 400 < b
      · have HD := Lib.hid (hR.symm.trans (cutR_no (.inr (.inr hb2))))
        rw [decide_eq_false (fun h : 1 ≤ b ∧ b ≤ 400 => absurd h.2 (by omega))] at CB
        go_wp2_with fail
        refine (CB.out _).mono ?_
        rintro e9 w9 ⟨rfl, rfl⟩
        go_wp2
        go_ret
        rw [HD.out]
        exact ⟨none, 0, 0, rfl, World.ownsRow_nil _ _ _ _, HB1.out⟩
      · have HD := Lib.hid (hR.symm.trans (cutR_yes hv (b := b) (by omega) (by omega)))
        obtain ⟨g1, g2, g3, _⟩ := graphB_iff hv
        have hdl : (degsOf GE.t N es).length ≤ 150 := by unfold degsOf; rw [if_pos hv, degs_len]; omega
        have HBD : Hid (∀ x ∈ degsOf GE.t N es, 0 ≤ x ∧ x ≤ 400) := Lib.hid (fun x hx => by
          unfold degsOf at hx
          rw [if_pos hv] at hx
          have := degs_bound GE.t N.toNat es x hx
          omega)
        generalize degsOf GE.t N es = ds at CD hdl HBD HD
        clear hv g1 g2 g3 CG hR
        rw [decide_eq_true (⟨by omega, by omega⟩ : 1 ≤ b ∧ b ≤ 400)] at CB
        go_wp2_with fail
        refine (CB.out _).mono ?_
        rintro e9 w9 ⟨rfl, hsame⟩
        obtain rfl := hsame
        go_wp2_with fail
        refine (CD.out _ HB1.out).mono ?_
        rintro e w2 ⟨A2, m2, c2, rfl, hod, hb2'⟩
        obtain rfl := hod.cnt
        have HB2 := Lib.hid (g_chain HB1.out hb2')
        have D2 := Lib.hid hod.rd
        clear hod hb2' l0 x0 x1
        go_wp2_with fail
        refine (greedy_any _ _ _ _ _).mono ?_
        rintro e w3 ⟨rfl, rfl⟩
        have HG : Hid (GrdIn ((w2.alloc (.cells #[.slice A2 ds.length c2] 23)).alloc (.cells #[.int .i64 b] 3)) w2.heap.size (w2.heap.size + 1) A2 ds.length c2 ds b) := Lib.hid ⟨D2.out.below (below_a2 _ _ _), hdl, by omega, by omega, HBD.out, by simp; omega, by simp, by simp, by simp⟩
        have HB3 := Lib.hid (g_chain HB2.out (below_a2 w2 (.cells #[.slice A2 ds.length c2] 23) (.cells #[.int .i64 b] 3)))
        go_wp2_with fail
        refine (collect_any _ _ _ _ _ _ _ _ HG.out).mono ?_
        rintro e w4 ⟨v, rfl, ho, hb4⟩
        obtain ⟨A5, c5, rfl⟩ := i_form ho
        have HO := Lib.hid ho
        have HB4 := Lib.hid (g_chain HB3.out hb4)
        clear ho hb4
        go_wp2
        go_ret
        rw [HD.out]
        exact ⟨A5, _, c5, rfl, own_monoG HO.out HB3.out.size, HB4.out⟩
end Go.Proofs.Ytpgnappddddlpaa
