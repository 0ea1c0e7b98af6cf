/- The contract of the program's reader of numbers of variable length. Condition: at most 2^21 bytes. -/
import Derived.Test.YtmbabbapcjphgaaGetVarMath
import Derived.Test.YtmbabbapcjphgaaNumImpl
namespace Go.Proofs.Ytmbabbapcjphgaa
open Go.RowKit

set_option maxRecDepth 10000 in
set_option maxHeartbeats 400000 in
theorem implGetVar_out (A : Option Addr) (n c : Nat) (a : Int) (w : World) (hn : n ≤ 2097152) (h : a < 0 ∨ n ≤ a) :
    Calls Try.prog 78 #[.slice A n c, .int .i64 a] w fun e w' => e = .returned (.tuple #[.int .i64 0, .int .i64 0, .bool false]) ∧ w = w' := by
  rcases h with h | h
  · go_enter Try.func78, Try.ntmps78
    go_wp2
    go_ret3
    exact ⟨rfl, rfl⟩
  · go_enter Try.func78, Try.ntmps78
    go_wp2
    go_ret3
    exact ⟨rfl, rfl⟩

set_option maxRecDepth 10000 in
set_option maxHeartbeats 1000000 in
theorem implGetVar_in (A : Option Addr) (n c p : Nat) (xs : List Nat) (w : World) (hr : Rd w A n xs) (hn : n ≤ 2097152) (hp : p < n) :
    Calls Try.prog 78 #[.slice A n c, .int .i64 (p : Int)] w fun e w' => e = .returned (gvVal xs p n) ∧ w = w' := by
  have HL := Lib.hid hr.len
  obtain ⟨ds, hds⟩ : ∃ ds, ds = xs.drop p := ⟨_, rfl⟩
  have HD := Lib.hid hds
  have hdl : ds.length = n - p := by rw [hds, List.length_drop, HL.out]
  have HDL := Lib.hid hdl
  obtain ⟨K, hK⟩ : ∃ K, K = scan ds := ⟨_, rfl⟩
  have hKl : K ≤ n - p := by rw [hK, ← hdl]; exact scan_le ds
  have HK := Lib.hid hK
  have HV : Hid (gv xs p n = gvOk ds) := by rw [hds]; exact gv_in xs p n hp
  clear hdl hK hds
  obtain ⟨L, hL7, hLn, hLL⟩ : ∃ L : Nat, L ≤ 7 ∧ L ≤ n - p ∧ (L < 7 → n - p ≤ L) := ⟨min (n - p) 7, by omega, by omega, by omega⟩
  rcases Nat.lt_or_ge 7 (n - p) with h7 | h7
  all_goals
    go_enter Try.func78, Try.ntmps78
    go_wp2
    go_loop [7, 8, 9, 23] (fun t _ _ i => ∃ j : Nat, j ≤ L ∧ j ≤ K ∧ i = .int .i64 (j : Int) ∧ t = .int .i64 (val (ds.take j) : Nat)) (fun _ _ _ i => 7 - (intOf i).toNat)
    case atStart => exact ⟨0, by omega, by omega, rfl, rfl⟩
    case round =>
      obtain ⟨j, hj7, hjK, rfl, rfl⟩ := hrel
      by_cases hlt : j < L
      · obtain ⟨b, off, x, rfl, hbw, hx, hxs, hc⟩ := hr.at_ (k := p + j) (by omega)
        have hdx : Hid (ds[j]? = some x) := by rw [HD.out, List.getElem?_drop]; exact hxs
        obtain ⟨v, hv⟩ : ∃ v, v = val (ds.take j) := ⟨_, rfl⟩
        obtain ⟨q, hq⟩ : ∃ q, q = val (ds.take (j + 1)) := ⟨_, rfl⟩
        have hq2 : q < 562949953421312 := by rw [hq]; exact Nat.lt_of_lt_of_le (val_take_lt _ _) (Nat.pow_le_pow_right (n := 128) (j := 7) (by omega) (by omega))
        have hbits : bits .or .i64 (v : Int) (wrap64 ((x : Int) % 128 * 2 ^ (7 * j))) = (q : Int) := by rw [hq, hv, val_take_succ ds j x hdx.out]; exact shl_or _ x j (by omega) (val_take_lt _ _)
        have HQ := Lib.hid hq
        rw [← hv]
        clear hv hq
        by_cases hK2 : j < K
        · have hx2 : 128 ≤ x := by
            obtain ⟨y, hy, hy2⟩ := scan_lt ds j (by rw [← HK.out]; exact hK2)
            have := hdx.out.symm.trans hy
            injection this with this
            omega
          go_wp2
          go_round
          case rel => exact ⟨j + 1, by omega, by omega, by go_num, by rw [HQ.out]⟩
          case measure => simp [intOf]; omega
        · obtain rfl : j = K := by omega
          have hsl : scan ds < ds.length := by rw [← HK.out, HDL.out]; omega
          have hx2 : x < 128 := by
            obtain ⟨y, hy, hy2⟩ := scan_at ds hsl
            rw [← HK.out] at hy
            have := hdx.out.symm.trans hy
            injection this with this
            omega
          have HSL := Lib.hid hsl
          have hds2 : Hid (ds[scan ds]? = some x) := by rw [← HK.out]; exact hdx
          clear hsl
          by_cases h00 : 0 < j ∧ x = 0
          · obtain ⟨h01, rfl⟩ := h00
            have hno := Lib.hid (gvVal_no xs p n (by rw [HV.out]; exact gvOk_short ds 0 HSL.out hds2.out (by rw [← HK.out]; exact h01) rfl))
            go_wp2
            go_ret3
            exact ⟨by rw [hno.out]; rfl, rfl⟩
          · by_cases hq3 : q ≤ 281474976710655
            · have hyes : gv xs p n = true := by rw [HV.out]; exact gvOk_yes ds x (by rw [← HK.out]; omega) HSL.out hds2.out (by rw [← HK.out]; omega) (by rw [← HK.out, ← HQ.out]; exact hq3)
              have hval : Hid (gvVal xs p n = .tuple #[.int .i64 (q : Int), .int .i64 ((p : Int) + j + 1), .bool true]) := by
                show gvVal xs p n = _
                unfold gvVal gvN gvE
                rw [hyes, if_pos rfl, if_pos rfl, HQ.out, HK.out, HD.out]
                rfl
              clear hyes
              by_cases h0 : j = 0
              · have h01 : j ≤ 0 := by omega
                clear h0
                go_wp2_with (go_at_call 87; refine (implNum_yes _ _ (by omega) (by omega)).mono ?_; rintro e w' ⟨rfl, rfl⟩)
                go_ret3
                exact ⟨by rw [hval.out]; rfl, rfl⟩
              · have h01 : 0 < j := by omega
                have hx0 : 0 < x := by omega
                go_wp2_with (go_at_call 87; refine (implNum_yes _ _ (by omega) (by omega)).mono ?_; rintro e w' ⟨rfl, rfl⟩)
                go_ret3
                exact ⟨by rw [hval.out]; rfl, rfl⟩
            · have hno := Lib.hid (gvVal_no xs p n (by rw [HV.out]; exact gvOk_big ds (by rw [← HK.out, ← HQ.out]; omega)))
              by_cases h0 : j = 0
              · have h01 : j ≤ 0 := by omega
                clear h0
                go_wp2_with (go_at_call 87; refine (implNum_no _ _ (by omega)).mono ?_; rintro e w' ⟨rfl, rfl⟩)
                go_ret3
                exact ⟨by rw [hno.out]; rfl, rfl⟩
              · have h01 : 0 < j := by omega
                have hx0 : 0 < x := by omega
                go_wp2_with (go_at_call 87; refine (implNum_no _ _ (by omega)).mono ?_; rintro e w' ⟨rfl, rfl⟩)
                go_ret3
                exact ⟨by rw [hno.out]; rfl, rfl⟩
      · have hno := Lib.hid (gvVal_no xs p n (by rw [HV.out]; exact gvOk_no ds (by rw [← HK.out, HDL.out]; omega)))
        go_wp2
        go_ret3
        exact ⟨by rw [hno.out]; rfl, rfl⟩

theorem implGetVar (A : Option Addr) (n c : Nat) (a : Int) (xs : List Nat) (w : World) (hr : Rd w A n xs) (hn : n ≤ 2097152) :
    Calls Try.prog 78 #[.slice A n c, .int .i64 a] w fun e w' => e = .returned (gvVal xs a n) ∧ w = w' := by
  by_cases h : 0 ≤ a ∧ a < n
  · obtain ⟨p, rfl⟩ : ∃ p : Nat, a = p := ⟨a.toNat, by omega⟩
    exact implGetVar_in A n c p xs w hr hn (by omega)
  · rw [gvVal_no xs a n (gv_out xs a n h)]
    exact implGetVar_out A n c a w hn (by omega)
end Go.Proofs.Ytmbabbapcjphgaa
