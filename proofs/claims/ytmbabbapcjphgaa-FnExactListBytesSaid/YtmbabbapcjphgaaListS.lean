/- The model's encoding of a list of numbers. Condition: at most 2^20 numbers. -/
import Derived.Test.YtmbabbapcjphgaaPackRes
import Derived.Test.YtmbabbapcjphgaaPutVarSpec
import Derived.Test.YtmbabbapcjphgaaPutFixSpec
namespace Go.Proofs.Ytmbabbapcjphgaa
open Go.RowKit

theorem list_bad {l : List Int} {k : Nat} {x : Int} (h : l[k]? = some x) (hx : numOk x = false) : listOk l = false := by
  unfold listOk
  rw [Bool.and_eq_false_iff]
  refine .inr ?_
  rw [List.all_eq_false]
  exact ⟨x, List.mem_of_getElem? h, by simp [hx]⟩

set_option maxRecDepth 10000 in
set_option maxHeartbeats 2000000 in
theorem specListBytes (E : Option Addr) (m d : Nat) (l : List Int) (w : World) (h2 : SlI w E m l) (hm : m ≤ 1048576) :
    Calls Try.prog 40 #[.slice E m d] w (PutRes w (listOk l) (listY l)) := by
  have HI := Lib.hid h2
  have HL := Lib.hid h2.len
  by_cases hb : m ≤ 400
  · have CP := Lib.hid (specPutVar none 0 0 (m : Int) [] w Rd.nil (by omega))
    have hok : numOk (m : Int) = true := by simp only [numOk, decide_eq_true_eq]; omega
    have hyl0 : (putVar [] (m : Int)).length ≤ 7 := by have := putVar_length [] (m : Int); simpa using this
    have HYS := Lib.hid (putVar_small [] (m : Int) (by simp))
    have HY : Hid (listOk l = true → listY l = putVar [] (m : Int) ++ l.flatMap (fun x => putFix [] x)) := Lib.hid (fun h => by rw [listY, h, if_pos rfl, HL.out, putVar_nil m (by omega)])
    have HALL : Hid (l.all numOk = true → listOk l = true) := Lib.hid (fun h => by unfold listOk; rw [HL.out, decide_eq_true hb, h]; rfl)
    rw [hok] at CP
    generalize putVar [] (m : Int) = y0 at CP HY hyl0 HYS
    clear h2 hok
    go_enter Try.func40, Try.ntmps40
    go_wp2_with fail
    refine CP.out.mono ?_
    rintro e w1 ⟨A1, c1, rfl, ho1, hb1⟩
    have HO0 : Hid (w1.ownsRow w.heap.size 5 1 (.slice A1 y0.length c1) y0.length (vb y0)) := Lib.hid ho1
    have HB0 := Lib.hid hb1
    clear ho1 hb1
    go_wp2
    go_loopw [4, 7, 8, 9, 21] (fun b _ _ _ i wr => ∃ (j : Nat) (A : Option Addr) (c : Nat) (ys : List Nat), j ≤ m ∧ i = .int .i64 (j : Int) ∧ b = .slice A ys.length c ∧ Hid (ys = y0 ++ (l.take j).flatMap (fun x => putFix [] x)) ∧ Hid ((l.take j).all numOk = true) ∧ Hid (wr.ownsRow w.heap.size 5 1 (.slice A ys.length c) ys.length (vb ys)) ∧ Hid (Below w.heap.size w wr)) (fun _ _ _ _ i _ => m - (intOf i).toNat)
    case atStart => exact ⟨0, A1, c1, y0, Nat.zero_le _, rfl, rfl, Lib.hid (by simp), Lib.hid (by simp), HO0, HB0⟩
    case round =>
      clear HO0 HB0
      obtain ⟨j, A, c, ys, hj, rfl, rfl, hys, hall, hown, hbel⟩ := hrel
      by_cases hlt : j < m
      · obtain ⟨b, off, x, rfl, hbw, hxs, hc0⟩ := (HI.out.below hbel.out).at_ hlt
        have hsm : ∀ z ∈ ys, z < 256 := by
          rw [hys.out]
          intro z hz
          rcases List.mem_append.1 hz with hz | hz
          · exact HYS.out z hz
          · exact pk_flat_small _ (fun x => putFix_small [] x (by simp)) _ z hz
        have hyl : ys.length ≤ 1048600 := by
          rw [hys.out, List.length_append]
          have h4 := pk_flat_len (fun x : Int => putFix [] x) 7 (fun x => by have := putFix_length [] x; simpa using this) (l.take j)
          rw [List.length_take] at h4
          omega
        have CF := Lib.hid (specPutFix A ys.length c x ys wr (Rd.of_own hown.out hsm) hyl)
        have HXS := Lib.hid hxs.out
        cases hq : numOk x with
        | true =>
          have hon : putFix ys x = ys ++ putFix [] x := putFix_onto ys x hq
          rw [hq, hon] at CF
          have HT : Hid (ys ++ putFix [] x = y0 ++ (l.take (j + 1)).flatMap (fun x => putFix [] x)) := Lib.hid (by rw [pk_flat_step _ l j x HXS.out, ← List.append_assoc, hys.out])
          have HT2 : Hid ((l.take (j + 1)).all numOk = true) := Lib.hid (by rw [pk_all_step numOk l j x HXS.out, hall.out, hq]; rfl)
          generalize ys ++ putFix [] x = zs at CF HT
          clear hsm hxs hq hon
          go_wp2_with fail
          refine CF.out.mono ?_
          rintro e w2 ⟨A2, c2, rfl, ho2, hb2⟩
          have HO2 : Hid (w2.ownsRow w.heap.size 5 1 (.slice A2 zs.length c2) zs.length (vb zs)) := Lib.hid (own_monoG ho2 hbel.out.size)
          have HB2 := Lib.hid (g_chain hbel.out hb2)
          clear ho2 hb2
          go_wp2
          go_roundw
          case rel => exact ⟨j + 1, A2, c2, zs, by omega, by go_num, rfl, HT, HT2, HO2, HB2⟩
          case measure => simp [intOf]; omega
        | false =>
          have hno : listOk l = false := list_bad HXS.out hq
          have hon : putFix ys x = [] := by simp [putFix, hq]
          rw [hq, hon] at CF
          rw [listY, hno]
          clear hsm hxs hq hon
          go_wp2_with fail
          refine CF.out.mono ?_
          rintro e w2 ⟨A2, c2, rfl, ho2, hb2⟩
          have HB2 := Lib.hid (g_chain hbel.out hb2)
          clear ho2 hb2
          go_wp2
          go_ret2
          exact PutRes.nope w _ HB2.out
      · obtain rfl : j = m := by omega
        go_wp2
        go_ret2
        have h1 := hall.out
        rw [List.take_of_length_le (by rw [HL.out]; exact Nat.le_refl _)] at h1
        have h3 := hys.out
        rw [List.take_of_length_le (by rw [HL.out]; exact Nat.le_refl _), ← HY.out (HALL.out h1)] at h3
        rw [HALL.out h1, ← h3]
        exact ⟨A, c, rfl, hown.out, hbel.out⟩
  · have hb2 : (400 : Int) < (m : Int) := by omega
    have hno : listOk l = false := by unfold listOk; rw [HL.out, decide_eq_false hb, Bool.false_and]
    clear h2 hb
    rw [listY, hno]
    go_enter Try.func40, Try.ntmps40
    go_wp2
    go_ret2
    exact PutRes.no w
end Go.Proofs.Ytmbabbapcjphgaa
