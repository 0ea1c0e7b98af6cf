/- The contract of the model's function that unites two sets. -/
import Derived.Test.YtbkchmkhaapmaaaDoorSetTurnS
import Derived.Test.YtbkchmkhaapmaaaDoorSetMemS
namespace Go.Proofs.YtbkchmkhaapmaaaDoor
open Go.RowKit
set_option linter.unusedVariables false

set_option maxRecDepth 10000 in
set_option maxHeartbeats 8000000 in
theorem specEither (N M : Int) (A B : Option Addr) (n c m d : Nat) (xs ys : List Nat) (w : World) (hr : Rd w A n xs) (hr2 : Rd w B m ys) (hn : n ≤ 2097152) (hm : m ≤ 2097152) :
    Calls Tryd.prog 36 #[.agg #[.int .i64 N, .slice A n c], .agg #[.int .i64 M, .slice B m d]] w (MadeSB w (eitherN N M xs ys) (eitherX N M xs ys) (eitherB N M xs ys)) := by
  have HR := Lib.hid hr
  have HR2 := Lib.hid hr2
  have HL := Lib.hid hr.len
  have HL2 := Lib.hid hr2.len
  clear hr hr2
  have C1 := Lib.hid (fun W (h : Below w.heap.size w W) => specSetOk N A n c xs W (HR.out.below h) hn)
  have C2 := Lib.hid (fun W (h : Below w.heap.size w W) => specSetOk M B m d ys W (HR2.out.below h) hm)
  have C3 := Lib.hid (fun W (h : Below w.heap.size w W) => by have h9 := specCopySet N A n c xs W (HR.out.below h) hn; unfold MadeS at h9; rw [HL.out] at h9; exact h9)
  have C4 := Lib.hid (fun W (h : Below w.heap.size w W) => specMembers M B m d ys W (HR2.out.below h) hm)
  have HB0 := Lib.hid ((SBx.new w N A n c).below (below_a2 _ (.cells #[.int .i64 M, .slice B m d] 24) (.cells #[.int .i64 0, .slice none 0 0] 24)))
  have HB1 := Lib.hid ((SBx.new1 w (.cells #[.int .i64 N, .slice A n c] 24) M B m d).below (below_a1 _ (.cells #[.int .i64 0, .slice none 0 0] 24)))
  have HB2 := Lib.hid (SBx.new2 w (.cells #[.int .i64 N, .slice A n c] 24) (.cells #[.int .i64 M, .slice B m d] 24) 0 none 0 0)
  unfold eitherN eitherX
  cases hok : setB N xs with
  | false =>
    rw [hok] at C1
    have he : eitherB N M xs ys = false := by unfold eitherB; rw [hok]; rfl
    rw [he, if_neg (by simp), if_neg (by simp)]
    clear he
    go_enter Tryd.func36, Tryd.ntmps36
    go_wp2_with fail
    refine (C1.out _ (below_a3 _ _ _ _)).mono ?_
    rintro e w1 ⟨rfl, hb1⟩
    have X2 := Lib.hid (HB2.out.below hb1)
    have HBW := Lib.hid (s_chain (below_a3 _ _ _ _) hb1)
    clear hb1 HB0 HB1 HB2
    obtain ⟨l2, c20, c21, f20, f21⟩ := X2.out.parts
    go_wp2
    refine bodyPost_ret (v := .tuple #[.agg #[.int .i64 0, .slice none 0 0], .bool false]) (by simp [results, Tryd.results36, go_sem, c20, c21]) rfl ?_
    exact ⟨none, 0, rfl, own_nil _ _, below_set2 HBW.out (by omega) _ _⟩
  | true =>
    rw [hok] at C1
    cases hok2 : setB M ys with
    | false =>
      rw [hok2] at C2
      have he : eitherB N M xs ys = false := by unfold eitherB; rw [hok, hok2]; rfl
      rw [he, if_neg (by simp), if_neg (by simp)]
      clear he
      go_enter Tryd.func36, Tryd.ntmps36
      go_wp2_with fail
      refine (C1.out _ (below_a3 _ _ _ _)).mono ?_
      rintro e w1 ⟨rfl, hb1⟩
      have X1 := Lib.hid (HB1.out.below hb1)
      have X2 := Lib.hid (HB2.out.below hb1)
      have HBV := Lib.hid (s_chain (below_a3 _ _ _ _) hb1)
      clear hb1 HB0 HB1 HB2
      obtain ⟨l1, c10, c11, f10, f11⟩ := X1.out.parts
      go_wp2_with fail
      refine (C2.out _ HBV.out).mono ?_
      rintro e w2 ⟨rfl, hb2⟩
      have Y2 := Lib.hid (X2.out.below hb2)
      have HBW := Lib.hid (s_chain HBV.out hb2)
      clear hb2 l1 c10 c11 f10 f11
      obtain ⟨l2, c20, c21, f20, f21⟩ := Y2.out.parts
      go_wp2
      refine bodyPost_ret (v := .tuple #[.agg #[.int .i64 0, .slice none 0 0], .bool false]) (by simp [results, Tryd.results36, go_sem, c20, c21]) rfl ?_
      exact ⟨none, 0, rfl, own_nil _ _, below_set2 HBW.out (by omega) _ _⟩
    | true =>
      rw [hok2] at C2
      have hdim := setB_dim hok
      have hdim2 := setB_dim hok2
      obtain ⟨N, rfl⟩ : ∃ k : Nat, N = (k : Int) := ⟨N.toNat, by omega⟩
      obtain ⟨M, rfl⟩ : ∃ k : Nat, M = (k : Int) := ⟨M.toNat, by omega⟩
      have hN : N ≤ 150 := by omega
      have hM : M ≤ 150 := by omega
      have HD1 : Hid (n = bytesN N) := Lib.hid (by have := hdim.2.2; rw [Int.toNat_natCast, HL.out] at this; exact this)
      have HD2 : Hid (m = bytesN M) := Lib.hid (by have := hdim2.2.2; rw [Int.toNat_natCast, HL2.out] at this; exact this)
      clear hdim hdim2
      by_cases hNM : N = M
      · subst hNM
        have he : eitherB (N : Int) (N : Int) xs ys = true := by unfold eitherB; rw [hok, hok2]; simp
        rw [he, if_pos rfl, if_pos rfl]
        have hmn : m = n := by rw [HD1.out, HD2.out]
        subst hmn
        have HXY : Hid (xs.length = ys.length) := Lib.hid (HL.out.trans HL2.out.symm)
        have HXS := Lib.hid HR.out.small
        have hm20 : m ≤ 20 := by rw [HD1.out]; unfold bytesN; omega
        have HOK1 := Lib.hid hok
        have HOK2 := Lib.hid hok2
        have HYS := Lib.hid HR2.out.small
        have EM : memsB (N : Int) ys = (memsN ys N).map fun v : Nat => (v : Int) := by unfold memsB; rw [hok2, if_pos rfl, Int.toNat_natCast]; rfl
        rw [EM] at C4
        have HML := Lib.hid (fun v (h : v ∈ memsN ys N) => (memsN_lt h).1)
        have HMO : Hid ((memsN ys N).foldl addV xs = orX xs ys) := Lib.hid (by have h9 := fold_or hok hok2 HXS.out HYS.out; rwa [Int.toNat_natCast] at h9)
        rw [← HMO.out]
        have hmlen : (memsN ys N).length ≤ 150 := by unfold memsN; exact Nat.le_trans (List.length_filter_le _ _) (by rw [List.length_range]; exact hN)
        generalize memsN ys N = ms at C4 HML HMO hmlen ⊢
        clear he hok hok2 EM
        go_enter Tryd.func36, Tryd.ntmps36
        go_wp2_with fail
        refine (C1.out _ (below_a3 _ _ _ _)).mono ?_
        rintro e w1 ⟨rfl, hb1⟩
        have X0 := Lib.hid (HB0.out.below hb1)
        have X1 := Lib.hid (HB1.out.below hb1)
        have X2 := Lib.hid (HB2.out.below hb1)
        have HBV := Lib.hid (s_chain (below_a3 _ _ _ _) hb1)
        clear hb1 HB0 HB1 HB2
        obtain ⟨l1, c10, c11, f10, f11⟩ := X1.out.parts
        go_wp2_with fail
        refine (C2.out _ HBV.out).mono ?_
        rintro e w2 ⟨rfl, hb2⟩
        have Y0 := Lib.hid (X0.out.below hb2)
        have Y1 := Lib.hid (X1.out.below hb2)
        have Y2 := Lib.hid (X2.out.below hb2)
        have HBW := Lib.hid (s_chain HBV.out hb2)
        clear hb2 l1 c10 c11 f10 f11
        obtain ⟨l0, c00, c01, f00, f01⟩ := Y0.out.parts
        obtain ⟨l1, c10, c11, f10, f11⟩ := Y1.out.parts
        go_wp2_with fail
        refine (C3.out _ HBW.out).mono ?_
        rintro e w3 ⟨A3, c3, rfl, ho3, hb3⟩
        have hsz2 := Y2.out.parts.1
        have Z1 := Lib.hid ((Y1.out.below hb3).below (below_a1 _ (.cells #[.int .i64 (N : Int), .slice A3 m c3] 24)))
        have Z2 := Lib.hid ((Y2.out.below hb3).below (below_a1 _ (.cells #[.int .i64 (N : Int), .slice A3 m c3] 24)))
        have Z3 := Lib.hid (SBx.new w3 (N : Int) A3 m c3)
        have HBX := Lib.hid (s_chain (s_chain HBW.out hb3) (below_a1 _ (.cells #[.int .i64 (N : Int), .slice A3 m c3] 24)))
        have O3 : Hid (((w3.alloc (.cells #[.int .i64 (N : Int), .slice A3 m c3] 24))).ownsRow (w.heap.size + 3) 5 1 (.slice A3 m c3) m (vb (orTo xs ys 0))) := Lib.hid (by rw [orTo_zero]; exact own_monoG (own_below ho3 (below_a1 _ _)) (by omega))
        have hs3 := hb3.size
        clear hb3 ho3 l0 c00 c01 f00 f01 l1 c10 c11 f10 f11
        obtain ⟨l1, c10, c11, f10, f11⟩ := Z1.out.parts
        go_wp2_with fail
        refine (C4.out _ HBX.out).mono ?_
        rintro e w4 ⟨AM, cM, rfl, hoM, hb4⟩
        have hml : (List.map (fun v : Nat => (v : Int)) ms).length = ms.length := by simp
        rw [hml, World.size_alloc] at hoM
        have R4 := Lib.hid hoM
        have Q2 := Lib.hid (Z2.out.below hb4)
        have Q3 := Lib.hid (Z3.out.below hb4)
        have HB4 := Lib.hid (s_chain HBX.out hb4)
        have O4 := Lib.hid (own_below O3.out hb4)
        have hs4 := hb4.size
        rw [World.size_alloc] at hs4
        clear hb4 hoM l1 c10 c11 f10 f11 Z1 Z2 Z3 HBX O3
        clear hml
        rw [orTo_zero] at O4
        go_wp2
        go_loopw [30] (fun i wr => ∃ (k : Nat) (A1 : Option Addr) (c1 : Nat), k ≤ ms.length ∧ i = .int .i64 (k : Int) ∧ Hid (wr.ownsRow (w.heap.size + 3) 5 1 (.slice A1 m c1) m (vb ((ms.take k).foldl addV xs))) ∧ Hid (SBx wr (w.heap.size + 2) 0 none 0 0) ∧ Hid (SBx wr w3.heap.size (N : Int) A1 m c1) ∧ Hid (wr.ownsRow (w3.heap.size + 1) 3 1 (.slice AM ms.length cM) ms.length (vi (List.map (fun v : Nat => (v : Int)) ms))) ∧ Hid (Below w.heap.size w wr)) (fun i _ => ms.length - (intOf i).toNat)
        case atStart => exact ⟨0, A3, c3, Nat.zero_le _, rfl, by rw [List.take_zero]; exact O4, Q2, Q3, R4, HB4⟩
        case round =>
          clear R4 Q2 Q3 HB4 O4
          obtain ⟨k, A1, c1, hk, rfl, hown, hb2, hb3, hro, hbel⟩ := hrel
          obtain ⟨l2, c20, c21, f20, f21⟩ := hb2.out.parts
          obtain ⟨l3, c30, c31, f30, f31⟩ := hb3.out.parts
          by_cases hlt : k < ms.length
          · obtain ⟨bm, om, v9, hAM, hbw, hv9, hcv⟩ := (SlI.of_own hro.out).at_ hlt
            have HA := Lib.hid hAM
            obtain ⟨v, hv⟩ : ∃ v, ms[k]? = some v := ⟨_, List.getElem?_eq_getElem hlt⟩
            obtain rfl : v9 = (v : Int) := by have h9 := hv9.out; rw [List.getElem?_map, hv] at h9; injection h9 with h9; exact h9.symm
            have hvN := HML.out v (List.mem_of_getElem? hv)
            have HTK : Hid ((ms.take (k + 1)).foldl addV xs = addV ((ms.take k).foldl addV xs) v) := Lib.hid (by
              rw [List.take_succ_eq_append_getElem hlt, List.foldl_append]
              have h9 := (List.getElem?_eq_some_iff.1 hv).2
              rw [h9]
              rfl)
            have hsm := foldAdd_small (ms.take k) HXS.out
            have hln : ((ms.take k).foldl addV xs).length = m := by rw [foldAdd_len]; exact HL.out
            have hst9 : setB (N : Int) ((ms.take k).foldl addV xs) = true := setB_fold _ HOK1.out (fun u hu => by rw [Int.toNat_natCast]; exact HML.out u (List.mem_of_mem_take hu))
            have CW := Lib.hid (specWith (N : Int) (v : Int) A1 m c1 ((ms.take k).foldl addV xs) wr (Rd.of_own hown.out hsm) (by omega) (WalkArith.wf_i64 (by omega)))
            have E1 : withN (N : Int) ((ms.take k).foldl addV xs) = (N : Int) := by unfold withN; rw [hst9, if_pos rfl]
            have E2 : withX (N : Int) ((ms.take k).foldl addV xs) (v : Int) = (ms.take (k + 1)).foldl addV xs := by unfold withX; rw [hst9, if_pos rfl, if_pos ⟨by omega, by omega⟩, Int.toNat_natCast, HTK.out]
            have hln2 : ((ms.take (k + 1)).foldl addV xs).length = m := by rw [foldAdd_len]; exact HL.out
            rw [E1, E2] at CW
            unfold MadeS at CW
            rw [hln2] at CW
            clear E1 E2 hln hln2 hst9 hsm hv hv9 hAM
            subst AM
            go_wp2_with fail
            refine CW.out.mono ?_
            rintro e w5 ⟨A5, c5, rfl, ho5, hb5⟩
            have hs5 := hb5.size
            have Z2 := Lib.hid (hb2.out.below hb5)
            have Z3 := Lib.hid (hb3.out.below hb5)
            have ZB := Lib.hid (s_chain hbel.out hb5)
            have ZR := Lib.hid (own_below hro.out hb5)
            have ZO := Lib.hid ho5
            clear ho5 hb5 l2 c20 c21 f20 f21 c30 c31 f30 f31
            obtain ⟨l5, c50, c51, f50, f51⟩ := Z3.out.parts
            go_wp2
            go_roundw
            case rel => exact ⟨k + 1, A5, c5, by omega, by go_num, Lib.hid (own_monoG (own_set2 ZO.out (by omega) _ _) (by omega)), Lib.hid (Blk.other (Blk.other Z2.out (p := ⟨w3.heap.size, 0, none⟩) (by show w.heap.size + 2 ≠ w3.heap.size; omega) _) (p := ⟨w3.heap.size, 1, none⟩) (by show w.heap.size + 2 ≠ w3.heap.size; omega) _), Lib.hid (Z3.out.set _ _ _ _), Lib.hid (own_set2 ZR.out (by omega) _ _), Lib.hid (below_set2 ZB.out (by omega) _ _)⟩
            case measure => simp [intOf]; omega
          · obtain rfl : k = ms.length := by omega
            have hlen : (ms.foldl addV xs).length = m := by rw [foldAdd_len]; exact HL.out
            rw [List.take_length] at hown
            have HLEN := Lib.hid hlen
            clear hlen
            go_wp2
            refine bodyPost_ret (v := .tuple #[.agg #[.int .i64 (N : Int), .slice A1 m c1], .bool true]) (by simp [results, Tryd.results36, go_sem, c20, c21]) rfl ?_
            refine ⟨A1, c1, by rw [HLEN.out], ?_, below_set2 hbel.out (by omega) _ _⟩
            rw [HLEN.out]
            exact own_monoG (own_set2 hown.out (by omega) _ _) (by omega)
      · have he : eitherB (N : Int) (M : Int) xs ys = false := by unfold eitherB; rw [hok, hok2]; simp; omega
        have dne : ((N : Int) == (M : Int)) = false := by simp; omega
        have dne2 : ((N : Int) != (M : Int)) = true := by simp; omega
        rw [he, if_neg (by simp), if_neg (by simp)]
        clear he
        go_enter Tryd.func36, Tryd.ntmps36
        go_wp2_with fail
        refine (C1.out _ (below_a3 _ _ _ _)).mono ?_
        rintro e w1 ⟨rfl, hb1⟩
        have X0 := Lib.hid (HB0.out.below hb1)
        have X1 := Lib.hid (HB1.out.below hb1)
        have X2 := Lib.hid (HB2.out.below hb1)
        have HBV := Lib.hid (s_chain (below_a3 _ _ _ _) hb1)
        clear hb1 HB0 HB1 HB2
        obtain ⟨l1, c10, c11, f10, f11⟩ := X1.out.parts
        go_wp2_with fail
        refine (C2.out _ HBV.out).mono ?_
        rintro e w2 ⟨rfl, hb2⟩
        have Y0 := Lib.hid (X0.out.below hb2)
        have Y1 := Lib.hid (X1.out.below hb2)
        have Y2 := Lib.hid (X2.out.below hb2)
        have HBW := Lib.hid (s_chain HBV.out hb2)
        clear hb2 l1 c10 c11 f10 f11
        obtain ⟨l0, c00, c01, f00, f01⟩ := Y0.out.parts
        obtain ⟨l1, c10, c11, f10, f11⟩ := Y1.out.parts
        obtain ⟨l2, c20, c21, f20, f21⟩ := Y2.out.parts
        go_wp2
        refine bodyPost_ret (v := .tuple #[.agg #[.int .i64 0, .slice none 0 0], .bool false]) (by simp [results, Tryd.results36, go_sem, c20, c21]) rfl ?_
        exact ⟨none, 0, rfl, own_nil _ _, below_set2 HBW.out (by omega) _ _⟩
end Go.Proofs.YtbkchmkhaapmaaaDoor
