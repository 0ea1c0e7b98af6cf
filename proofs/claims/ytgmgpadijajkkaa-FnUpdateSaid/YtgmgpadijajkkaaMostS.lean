/- The contract of the model's l10Most. Condition: at most 2^21 labels. -/
import Derived.Test.YtgmgpadijajkkaaNewI
import Derived.Test.YtgmgpadijajkkaaGrEq
namespace Go.Proofs.Ytgmgpadijajkkaa
open Go.RowKit

def mostQ (T : List Int) (x : Int) (k : Nat) : Int × Nat := (T.take k).foldl (mostStep T) (x, 0)
theorem mostQ_next {T : List Int} {x a : Int} {k : Nat} (h : T[k]? = some a) : mostQ T x (k + 1) = mostStep T (mostQ T x k) a := by
  unfold mostQ
  rw [take_snoc h, List.foldl_append]
  rfl
theorem mostQ_all (T : List Int) (x : Int) : (mostQ T x T.length).1 = mostR T x := by
  unfold mostQ mostR
  rw [List.take_length]
theorem mostQ_le (T : List Int) (x : Int) (k : Nat) : (mostQ T x k).2 ≤ T.length := by
  unfold mostQ
  suffices H : ∀ (R : List Int) (q : Int × Nat), q.2 ≤ T.length → (R.foldl (mostStep T) q).2 ≤ T.length from H _ _ (by simp)
  intro R
  induction R with
  | nil => intro q h; exact h
  | cons a R ih =>
    intro q h
    rw [List.foldl_cons]
    refine ih _ ?_
    unfold mostStep
    split
    · exact List.count_le_length
    · exact h
theorem count_next {T : List Int} {a z : Int} {j : Nat} (h : T[j]? = some z) : (T.take (j + 1)).count a = (T.take j).count a + if a = z then 1 else 0 := by
  rw [take_snoc h, count_snoc]
  by_cases hz : z = a
  · rw [if_pos hz, if_pos hz.symm]
  · rw [if_neg hz, if_neg (fun e => hz e.symm)]
set_option maxRecDepth 10000 in
set_option maxHeartbeats 4000000 in
theorem specMost (A : Option Addr) (n c : Nat) (zs : List Int) (x : Int) (w : World) (hr : SlI w A n zs) (hn : n ≤ 2097152) :
    Calls Try.prog 63 #[.slice A n c, .int .i64 x] w (fun e w' => e = .returned (.int .i64 (mostR zs x)) ∧ w' = w) := by
  have HR := Lib.hid hr
  have HL := Lib.hid hr.len
  clear hr
  go_enter Try.func63, Try.ntmps63
  go_wp2
  go_loopw [5, 6, 15] (fun b5 m6 i wr => ∃ k : Nat, k ≤ n ∧ i = .int .i64 (k : Int) ∧ b5 = .int .i64 (mostQ zs x k).1 ∧ m6 = .int .i64 ((mostQ zs x k).2 : Int) ∧ wr = w) (fun _ _ i _ => n - (intOf i).toNat)
  case atStart => exact ⟨0, Nat.zero_le _, rfl, rfl, rfl, rfl⟩
  case round =>
    obtain ⟨k, hk, rfl, rfl, rfl, rfl⟩ := hrel
    by_cases hlt : k < n
    · obtain ⟨b, off, a, rfl, hbw, ha, hca⟩ := HR.out.at_ hlt
      have HN := Lib.hid (mostQ_next (x := x) ha)
      have HLE := Lib.hid (mostQ_le zs x k)
      obtain ⟨q1, hq1⟩ : ∃ q1, q1 = (mostQ zs x k).1 := ⟨_, rfl⟩
      obtain ⟨m, hm⟩ : ∃ m, m = (mostQ zs x k).2 := ⟨_, rfl⟩
      obtain ⟨mi, hmi⟩ : ∃ mi : Int, mi = (m : Int) := ⟨_, rfl⟩
      simp only [← hq1, ← hm, ← hmi]
      have HQ1 := Lib.hid hq1
      have HM := Lib.hid hm
      have HMI := Lib.hid hmi
      clear hq1 hm hmi ha
      go_wp2
      go_loopw [9, 21] (fun c9 i wq => ∃ j : Nat, j ≤ n ∧ i = .int .i64 (j : Int) ∧ c9 = .int .i64 ((zs.take j).count a : Int) ∧ wq = wr) (fun _ i _ => n - (intOf i).toNat)
      case atStart => exact ⟨0, Nat.zero_le _, rfl, rfl, rfl⟩
      case round =>
        obtain ⟨j, hj, rfl, rfl, rfl⟩ := hrel
        have HCL := List.count_le_length (l := zs.take j) (a := a)
        rw [List.length_take] at HCL
        obtain ⟨cnt, hcnt⟩ : ∃ cnt, cnt = (zs.take j).count a := ⟨_, rfl⟩
        rw [← hcnt] at HCL
        obtain ⟨ci, hci⟩ : ∃ ci : Int, ci = (cnt : Int) := ⟨_, rfl⟩
        simp only [← hcnt, ← hci]
        have HCN := Lib.hid hcnt
        have HCI := Lib.hid hci
        have hcb : cnt ≤ 2097152 := by omega
        clear hcnt HCL
        by_cases hlj : j < n
        · obtain ⟨b', off', z, hb', hbw', hz, hcz⟩ := HR.out.at_ hlj
          injection hb' with hb'
          injection hb' with hb1 hb2
          subst hb1
          subst hb2
          have HZ := Lib.hid (count_next (a := a) hz)
          have hwc : IntKind.i64.wrap (ci + 1) = ci + 1 := IntWalk.i64_in _ (by omega)
          clear hci hz hbw'
          by_cases haz : a = z
          · have hcz2 := hcz
            rw [← haz] at hcz2
            have HAZ := Lib.hid haz
            clear hcz haz
            go_wp2
            go_roundw
            case rel => exact ⟨j + 1, by omega, by go_num, g_val (by rw [HZ.out, if_pos HAZ.out, ← HCN.out]; have := HCI.out; omega), by first | rfl | trivial⟩
            case measure => simp [intOf]; omega
          · have hne : (a == z) = false := by simp [haz]
            have HAZ := Lib.hid haz
            go_wp2
            go_roundw
            case rel => exact ⟨j + 1, by omega, by go_num, g_val (by rw [HZ.out, if_neg HAZ.out, ← HCN.out]; have := HCI.out; omega), by first | rfl | trivial⟩
            case measure => simp [intOf]; omega
        · have HJ : Hid (j = n) := Lib.hid (by omega)
          have HCT : Hid (zs.count a = cnt) := Lib.hid (by rw [HCN.out, List.take_of_length_le (by rw [HL.out, HJ.out]; exact Nat.le_refl _)])
          have hm2 : mi = (m : Int) := HMI.out
          by_cases hg : mi < ci
          · have hg2 : decide (mi < ci) = true := by simp [hg]
            have HST : Hid (mostQ zs x (k + 1) = (a, cnt)) := Lib.hid (by rw [HN.out]; unfold mostStep; rw [if_pos (.inl (by rw [HCT.out, ← HM.out]; omega)), HCT.out])
            clear hci hm2
            go_wp2
            go_roundw
            case rel => exact ⟨k + 1, by omega, by go_num, g_val (by rw [HST.out]), g_val (by rw [HST.out]; exact HCI.out), by first | rfl | trivial⟩
            case measure => simp [intOf]; omega
          · have hg2 : decide (mi < ci) = false := by simp; omega
            by_cases he : ci = mi
            · have he2 : (ci == mi) = true := by simp [he]
              by_cases hl : a < q1
              · have HST : Hid (mostQ zs x (k + 1) = (a, cnt)) := Lib.hid (by rw [HN.out]; unfold mostStep; rw [if_pos (.inr (by rw [HCT.out, ← HM.out, ← HQ1.out]; omega)), HCT.out])
                have HE := Lib.hid he
                clear hci hm2 he hg
                go_wp2
                go_roundw
                case rel => exact ⟨k + 1, by omega, by go_num, g_val (by rw [HST.out]), g_val (by rw [HST.out]; exact HCI.out), by first | rfl | trivial⟩
                case measure => simp [intOf]; omega
              · have HST : Hid (mostQ zs x (k + 1) = mostQ zs x k) := Lib.hid (by rw [HN.out]; unfold mostStep; rw [if_neg (by rw [HCT.out, ← HM.out, ← HQ1.out]; omega)])
                have hl2 : decide (a < q1) = false := by simp; omega
                clear hci hm2 he hg
                go_wp2
                go_roundw
                case rel => exact ⟨k + 1, by omega, by go_num, g_val (by rw [HST.out]; exact HQ1.out), g_val (by rw [HST.out, ← HM.out]; exact HMI.out), by first | rfl | trivial⟩
                case measure => simp [intOf]; omega
            · have he2 : (ci == mi) = false := by simp [he]
              have HST : Hid (mostQ zs x (k + 1) = mostQ zs x k) := Lib.hid (by rw [HN.out]; unfold mostStep; rw [if_neg (by rw [HCT.out, ← HM.out, ← HQ1.out]; omega)])
              clear hci hm2
              go_wp2
              go_roundw
              case rel => exact ⟨k + 1, by omega, by go_num, g_val (by rw [HST.out]; exact HQ1.out), g_val (by rw [HST.out, ← HM.out]; exact HMI.out), by first | rfl | trivial⟩
              case measure => simp [intOf]; omega
    · obtain rfl : k = n := by omega
      go_wp2
      go_ret
      exact ⟨g_int (by rw [← HL.out, mostQ_all]), rfl⟩
end Go.Proofs.Ytgmgpadijajkkaa
