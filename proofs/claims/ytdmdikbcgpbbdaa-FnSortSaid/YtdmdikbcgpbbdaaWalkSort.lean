/- The walk of the law FnSort: it returns true and writes nothing that was there. -/
import Derived.Test.YtdmdikbcgpbbdaaSortAll
import Derived.Test.YtdmdikbcgpbbdaaSortS
import Derived.Test.YtdmdikbcgpbbdaaDrawR
import Derived.Test.YtdmdikbcgpbbdaaCount
import Derived.Test.YtdmdikbcgpbbdaaRecLaw
namespace Go.Proofs.Ytdmdikbcgpbbdaa
open Go.RowKit

theorem rbox_new (w : World) (e : GE) : RBox (w.alloc (.cells #[.int .i64 e.f, .int .i64 e.t, .int .i64 e.w] 30)) w.heap.size e :=
  ⟨by simp, by simp, by simp, by simp⟩

set_option maxRecDepth 20000 in
set_option maxHeartbeats 8000000 in
theorem walkSort (A : Option Addr) (n c : Nat) (xs : List Nat) (w : World) (hr : Rd w A n xs) (_hnc : n ≤ c) (_hcm : c ≤ maxLen) :
    Calls Try.prog 3 #[.slice A n c] w fun e w' => e = .returned (.bool true) ∧ Below w.heap.size w w' := by
  unfold maxLen at _hcm
  by_cases hbig : n ≤ 1048576
  · have CM := Lib.hid (makeRecs A n c xs w hr hbig)
    have CN : Hid (∀ W, Below w.heap.size w W → Calls Try.prog 13 #[.slice A n c, .int .i64 6] W fun e w' => ∃ x : Nat, x < 6 ∧ e = .returned (.int .i64 (x : Int)) ∧ Below W.heap.size W w') := Lib.hid (fun W h => makeNumR A n c 6 xs W (hr.below h) hbig (by omega) (by omega))
    clear hr
    go_enter Try.func3, Try.ntmps3
    go_wp2_with fail
    refine CM.out.mono ?_
    rintro e w1 ⟨es, B, d, hl, rfl, hsl, hcap, hb1⟩
    obtain ⟨k, hk⟩ : ∃ k, k = es.length := ⟨_, rfl⟩
    rw [← hk] at hl hsl hcap ⊢
    have HK := Lib.hid hk
    have L1 := Lib.hid hsl
    have HB1 := Lib.hid hb1
    have CA : Hid (∀ (x : Nat) W, x < 6 → SlG W B k es → Calls Try.prog 12 #[.slice B k d, .int .i64 (1 + (x : Int))] W (RowRc W k (sortR es))) := Lib.hid (fun x W hx h => (implSortAll B k d es (1 + (x : Int)) W h (by omega) hcap (by omega)).mono (fun e w' hh => by
      rw [merge_batches (by omega)] at hh
      obtain ⟨A', c', e1, e2, e3⟩ := hh
      have e4 : (sortR es).length = k := by rw [sortR_len, hk]
      rw [e4] at e1 e2
      exact ⟨A', c', e1, e2, e3⟩))
    have CO := Lib.hid (fun W (h : SlG W B k es) => implSortOne B k d es W h (by omega))
    have hsz : sortedB (sortR es) = true := (sortedB_iff _).2 (sortR_sorted es)
    have CS := Lib.hid (fun A' c' W (h : SlG W A' k (sortR es)) => implSorted A' k c' (sortR es) W h (by omega))
    rw [hsz] at CS
    have HP := Lib.hid (fun x => cntR_perm (x := x) (sortR_perm es))
    have HQ := Lib.hid (sortR_len es)
    generalize sortR es = ss at CA CO CS HP HQ
    clear hsl hb1 hk hcap CM hsz
    go_wp2_with fail
    refine (CN.out _ HB1.out).mono ?_
    rintro e w2 ⟨x, hx, rfl, hb2⟩
    have L2 := Lib.hid (L1.out.below hb2)
    have HB2 := Lib.hid (g_chain HB1.out hb2)
    clear hb2 L1 HB1
    go_wp2_with fail
    refine (CA.out x _ hx L2.out).mono ?_
    rintro e w3 ⟨A3, c3, rfl, ho3, hb3⟩
    have L3 := Lib.hid (L2.out.below hb3)
    have S3 := Lib.hid (SlG.of_own ho3 (HQ.out.trans HK.out.symm))
    have HB3 := Lib.hid (g_chain HB2.out hb3)
    clear hb3 ho3 L2 HB2
    go_wp2_with fail
    refine (CO.out _ L3.out).mono ?_
    rintro e w4 ⟨A4, c4, rfl, ho4, hb4⟩
    have L4 := Lib.hid (L3.out.below hb4)
    have S4 := Lib.hid (S3.out.below hb4)
    have T4 := Lib.hid (SlG.of_own ho4 (HQ.out.trans HK.out.symm))
    have HB4 := Lib.hid (g_chain HB3.out hb4)
    clear hb4 ho4 L3 HB3 S3
    go_wp2_with fail
    refine (CS.out _ _ _ S4.out).mono ?_
    rintro e w5 ⟨rfl, hb5⟩
    have L5 := Lib.hid (L4.out.below hb5)
    have S5 := Lib.hid (S4.out.below hb5)
    have T5 := Lib.hid (T4.out.below hb5)
    have HB5 := Lib.hid (g_chain HB4.out hb5)
    clear hb5 L4 HB4 S4 T4
    go_wp2_with fail
    refine (CS.out _ _ _ T5.out).mono ?_
    rintro e w6 ⟨rfl, hb6⟩
    have L6 := Lib.hid (L5.out.below hb6)
    have S6 := Lib.hid (S5.out.below hb6)
    have T6 := Lib.hid (T5.out.below hb6)
    have HB6 := Lib.hid (g_chain HB5.out hb6)
    clear hb6 L5 HB5 S5 T5 CA CO CS CN
    go_wp2
    go_loopw [50] (fun i wv => ∃ (p q : Nat), p ≤ k ∧ i = .int .i64 p ∧ wv = w6.drewN q) (fun i _ => k - (intOf i).toNat)
    case atStart => exact ⟨0, 0, by omega, rfl, rfl⟩
    case round =>
      obtain ⟨p, q, hp, rfl, rfl⟩ := hrel
      by_cases hlt : p < k
      · obtain ⟨b, off, e, rfl, hbw, he, u0, u1, u2⟩ := S6.out.at_ hlt
        obtain ⟨b', off', e', rfl, hbw', he', v0, v1, v2⟩ := T6.out.at_ hlt
        obtain rfl : e = e' := by have := he.out.symm.trans he'.out; injection this
        clear he he'
        go_wp2
        go_quiet (fail)
        go_wp2
        go_roundw
        case rel => exact ⟨p + 1, _, by omega, by go_num, rfl⟩
        case measure => simp [intOf]; omega
      · obtain rfl : p = k := by omega
        have L7 := Lib.hid (L6.out.drewN q)
        have S7 := Lib.hid (S6.out.drewN q)
        have HB7 := Lib.hid (below_drewN HB6.out q)
        clear L6 S6 T6 HB6
        generalize w6.drewN q = w7 at L7 S7 HB7 ⊢
        clear hp hlt
        go_wp2
        go_loopw [65] (fun i wr => ∃ (m : Nat), m ≤ p ∧ i = .int .i64 m ∧ Hid (Below w7.heap.size w7 wr)) (fun i _ => p - (intOf i).toNat)
        case atStart => exact ⟨0, by omega, rfl, Lib.hid (Below.refl _ _)⟩
        case round =>
          obtain ⟨m, hm, rfl, HR⟩ := hrel
          rename World => W8
          by_cases hlt : m < p
          · have L8 := Lib.hid (L7.out.below HR.out)
            obtain ⟨b, off, e, rfl, hbw, he, u0, u1, u2⟩ := L8.out.at_ hlt
            clear he
            have B8 := Lib.hid (rbox_new W8 e)
            have HR8 := Lib.hid (g_chain HR.out (below_a1 W8 (.cells #[.int .i64 e.f, .int .i64 e.t, .int .i64 e.w] 30)))
            go_wp2
            go_loopw [9, 71] (fun nv i W => ∃ (j : Nat), j ≤ p ∧ i = .int .i64 j ∧ nv = .int .i64 (cntR e (es.take j) : Nat) ∧ Hid (Below (W8.alloc (.cells #[.int .i64 e.f, .int .i64 e.t, .int .i64 e.w] 30)).heap.size (W8.alloc (.cells #[.int .i64 e.f, .int .i64 e.t, .int .i64 e.w] 30)) W)) (fun _ i _ => p - (intOf i).toNat)
            case atStart => exact ⟨0, by omega, rfl, by rw [cntR_zero]; rfl, Lib.hid (Below.refl _ _)⟩
            case round =>
              obtain ⟨j, hj, rfl, rfl, HI⟩ := hrel
              by_cases hlj : j < p
              · have hcb : cntR e (es.take j) ≤ 16 := by
                  have h1 := cntR_le e (es.take j)
                  rw [List.length_take] at h1
                  omega
                have LW := Lib.hid ((L8.out.below (below_a1 W8 (.cells #[.int .i64 e.f, .int .i64 e.t, .int .i64 e.w] 30))).below HI.out)
                have BW := Lib.hid (B8.out.below HI.out)
                obtain ⟨b', off', y, hA, hbw', hy, v0, v1, v2⟩ := LW.out.at_ hlj
                obtain ⟨rfl, rfl⟩ : b = b' ∧ off = off' := by injection hA with hA; injection hA with h1 h2; exact ⟨h1, h2⟩
                obtain ⟨_, x0, x1, x2⟩ := BW.out
                obtain ⟨_, y0, y1, y2⟩ := BW.out.below (below_a1 wr (.cells #[.int .i64 y.f, .int .i64 y.t, .int .i64 y.w] 30))
                have HI2 := Lib.hid (HI.out.trans ((below_a1 wr (.cells #[.int .i64 y.f, .int .i64 y.t, .int .i64 y.w] 30)).mono HI.out.size))
                have hyj := hy.out
                clear hA HI hy
                by_cases hxy : e = y
                · subst hxy
                  have HC := Lib.hid (cntR_yes hyj)
                  generalize cntR e (es.take j) = q at HC hcb ⊢
                  clear hyj
                  go_wp2
                  go_roundw
                  case rel => exact ⟨j + 1, by omega, by go_num, by rw [HC.out]; go_num, HI2⟩
                  case measure => simp [intOf]; omega
                · have HC := Lib.hid (cntR_no hyj hxy)
                  have hne := GE.ne_of hxy
                  generalize cntR e (es.take j) = q at HC hcb ⊢
                  clear hyj hxy
                  rcases hne with hne | hne | hne
                  all_goals
                    go_wp2
                    go_roundw
                    case rel => exact ⟨j + 1, by omega, by go_num, by rw [HC.out], HI2⟩
                    case measure => simp [intOf]; omega
              · obtain rfl : j = p := by omega
                have HT : Hid ((cntR e (es.take j) : Int) - (cntR e (ss.take j) : Nat) = 0) := Lib.hid (by
                  rw [List.take_of_length_le (by rw [L8.out.len]; exact Nat.le_refl _), List.take_of_length_le (by rw [S7.out.len]; exact Nat.le_refl _), HP.out e]
                  omega)
                have hT : cntR e (es.take j) ≤ 16 := by
                  have h1 := cntR_le e (es.take j)
                  rw [List.length_take] at h1
                  omega
                have B9 := Lib.hid (B8.out.below HI.out)
                have S9 := Lib.hid ((S7.out.below HR8.out).below HI.out)
                have HR9 := Lib.hid (g_chain HR8.out HI.out)
                rename World => W9
                generalize cntR e (es.take j) = T at HT hT ⊢
                clear HI B8 HR8 hlj u0 u1 u2 hbw
                go_wp2
                go_loopw [9, 83] (fun nv i W => ∃ (q : Nat), q ≤ j ∧ i = .int .i64 q ∧ nv = .int .i64 ((T : Int) - (cntR e (ss.take q) : Nat)) ∧ Hid (Below W9.heap.size W9 W)) (fun _ i _ => j - (intOf i).toNat)
                case atStart => exact ⟨0, by omega, rfl, by rw [cntR_zero]; simp, Lib.hid (Below.refl _ _)⟩
                case round =>
                  obtain ⟨q, hq, rfl, rfl, HI⟩ := hrel
                  by_cases hlq : q < j
                  · have hcb : cntR e (ss.take q) ≤ 16 := by
                      have h1 := cntR_le e (ss.take q)
                      rw [List.length_take] at h1
                      omega
                    obtain ⟨b', off', y, hA, hbw', hy, v0, v1, v2⟩ := (S9.out.below HI.out).at_ hlq
                    subst hA
                    obtain ⟨_, x0, x1, x2⟩ := B9.out.below HI.out
                    obtain ⟨_, y0, y1, y2⟩ := (B9.out.below HI.out).below (below_a1 wr (.cells #[.int .i64 y.f, .int .i64 y.t, .int .i64 y.w] 30))
                    have HI2 := Lib.hid (HI.out.trans ((below_a1 wr (.cells #[.int .i64 y.f, .int .i64 y.t, .int .i64 y.w] 30)).mono HI.out.size))
                    have hyj := hy.out
                    clear HI hy
                    by_cases hxy : e = y
                    · subst hxy
                      have HC := Lib.hid (cntR_yes hyj)
                      generalize cntR e (ss.take q) = r at HC hcb ⊢
                      clear hyj
                      go_wp2
                      go_roundw
                      case rel => exact ⟨q + 1, by omega, by go_num, by rw [HC.out]; go_num, HI2⟩
                      case measure => simp [intOf]; omega
                    · have HC := Lib.hid (cntR_no hyj hxy)
                      have hne := GE.ne_of hxy
                      generalize cntR e (ss.take q) = r at HC hcb ⊢
                      clear hyj hxy
                      rcases hne with hne | hne | hne
                      all_goals
                        go_wp2
                        go_roundw
                        case rel => exact ⟨q + 1, by omega, by go_num, by rw [HC.out], HI2⟩
                        case measure => simp [intOf]; omega
                  · obtain rfl : q = j := by omega
                    rw [HT.out]
                    go_wp2
                    go_roundw
                    case rel => exact ⟨m + 1, by omega, by go_num, Lib.hid (g_chain HR9.out HI.out)⟩
                    case measure => simp [intOf]; omega
          · obtain rfl : m = p := by omega
            go_wp2
            go_ret
            exact ⟨rfl, g_chain HB7.out HR.out⟩
  · clear hr
    go_enter Try.func3, Try.ntmps3
    go_wp2
    go_ret
    exact ⟨rfl, Below.refl _ _⟩
end Go.Proofs.Ytdmdikbcgpbbdaa
