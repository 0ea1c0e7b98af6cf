/- The contract of the model's reader of numbers of variable length: the same answer as the program's. Condition: at most 2^21 bytes. -/
import Derived.Test.YtmbabbapcjphgaaGetVarMath
import Derived.Test.YtmbabbapcjphgaaPutVarSpec
import Derived.Test.YtmbabbapcjphgaaConv
namespace Go.Proofs.Ytmbabbapcjphgaa
open Go.RowKit

set_option maxRecDepth 10000 in
set_option maxHeartbeats 400000 in
theorem specGetVar_out (A : Option Addr) (n c : Nat) (a : Int) (w : World) (hn : n ≤ 2097152) (h : a < 0 ∨ n ≤ a) :
    Calls Try.prog 82 #[.slice A n c, .int .i64 a] w fun e w' => e = .returned (.tuple #[.int .i64 0, .int .i64 0, .bool false]) ∧ w = w' := by
  rcases h with h | h
  · go_enter Try.func82, Try.ntmps82
    go_wp2
    go_ret3
    exact ⟨rfl, rfl⟩
  · go_enter Try.func82, Try.ntmps82
    go_wp2
    go_ret3
    exact ⟨rfl, rfl⟩

theorem val_drop (l : List Nat) (q x : Nat) (h : l[q]? = some x) : val (l.drop q) = val (l.drop (q + 1)) * 128 + x % 128 := by
  obtain ⟨hl, he⟩ := List.getElem?_eq_some_iff.1 h
  rw [List.drop_eq_getElem_cons hl, he]
  simp only [val]
  omega

set_option maxRecDepth 10000 in
set_option maxHeartbeats 2000000 in
theorem specGetVar_in (A : Option Addr) (n c p : Nat) (xs : List Nat) (w : World) (hr : Rd w A n xs) (hn : n ≤ 2097152) (hnc : n ≤ c) (hp : p < n) :
    Calls Try.prog 82 #[.slice A n c, .int .i64 (p : Int)] w fun e w' => e = .returned (gvVal xs p n) ∧ Below w.heap.size w w' := by
  have HL := Lib.hid hr.len
  obtain ⟨ds, hds⟩ : ∃ ds, ds = xs.drop p := ⟨_, rfl⟩
  have HD := Lib.hid hds
  have hdl : ds.length = n - p := by rw [hds, List.length_drop, HL.out]
  have HDL := Lib.hid hdl
  obtain ⟨K, hK⟩ : ∃ K, K = scan ds := ⟨_, rfl⟩
  have hKl : K ≤ n - p := by rw [hK, ← hdl]; exact scan_le ds
  have HK := Lib.hid hK
  have HV : Hid (gv xs p n = gvOk ds) := by rw [hds]; exact gv_in xs p n hp
  clear hdl hK hds
  obtain ⟨T, hT7, hTK, hTT⟩ : ∃ T : Nat, T ≤ 7 ∧ T ≤ K ∧ (T < 7 → K ≤ T) := ⟨min K 7, by omega, by omega, by omega⟩
  go_enter Try.func82, Try.ntmps82
  go_wp2
  go_loop [7] (fun t => ∃ j : Nat, j ≤ T ∧ t = .int .i64 ((p : Int) + j)) (fun t => p + 7 - (intOf t).toNat)
  case atStart => exact ⟨0, by omega, by go_num⟩
  case round =>
    obtain ⟨j, hjT, rfl⟩ := hrel
    by_cases hlt : j < T
    · obtain ⟨b, off, x, rfl, hbw, hx, hxs, hc⟩ := hr.at_ (k := p + j) (by omega)
      have hdx : Hid (ds[j]? = some x) := by rw [HD.out, List.getElem?_drop]; exact hxs
      have hx2 : 128 ≤ x := by
        obtain ⟨y, hy, hy2⟩ := scan_lt ds j (by rw [← HK.out]; omega)
        have := hdx.out.symm.trans hy
        injection this with this
        omega
      go_wp2
      go_round
      case rel => exact ⟨j + 1, by omega, by go_num⟩
      case measure => simp [intOf]; omega
    · obtain rfl : j = T := by omega
      by_cases hend : j = 7 ∨ K = n - p
      · have hno := Lib.hid (gvVal_no xs p n (by rw [HV.out]; exact gvOk_no ds (by rw [← HK.out, HDL.out]; omega)))
        by_cases hpn : p + j = n
        · have hq1 : ((p : Int) + (j : Int) == (n : Int)) = true := by rw [beq_iff_eq]; omega
          have hge : (n : Int) ≤ (p : Int) + j := by omega
          clear hpn hend
          go_wp2
          go_ret3
          exact ⟨by rw [hno.out]; rfl, Below.refl _ _⟩
        · have hj7 : 7 ≤ j := by omega
          have hq1 : ((p : Int) + (j : Int) == (n : Int)) = false := beq_eq_false_iff_ne.mpr (by omega)
          have hq2 : ((p : Int) + (j : Int) == (p : Int) + 7) = true := by rw [beq_iff_eq]; omega
          have hlt2 : (p : Int) + j < n := by omega
          clear hpn hend
          go_wp2
          go_ret3
          exact ⟨by rw [hno.out]; rfl, Below.refl _ _⟩
      · have hj7 : j < 7 := by omega
        have hKn : K < n - p := by omega
        obtain rfl : j = K := by omega
        have hsl : scan ds < ds.length := by rw [← HK.out, HDL.out]; omega
        obtain ⟨b, off, x, rfl, hbw, hx, hxs, hc⟩ := hr.at_ (k := p + j) (by omega)
        have hdx : Hid (ds[j]? = some x) := by rw [HD.out, List.getElem?_drop]; exact hxs
        have hx2 : x < 128 := by
          obtain ⟨y, hy, hy2⟩ := scan_at ds hsl
          rw [← HK.out] at hy
          have := hdx.out.symm.trans hy
          injection this with this
          omega
        have HSL := Lib.hid hsl
        clear hsl hend
        have hq1 : ((p : Int) + (j : Int) == (n : Int)) = false := beq_eq_false_iff_ne.mpr (by omega)
        have hq2 : ((p : Int) + (j : Int) == (p : Int) + 7) = false := beq_eq_false_iff_ne.mpr (by omega)
        obtain ⟨l, hl⟩ : ∃ l, l = ds.take (j + 1) := ⟨_, rfl⟩
        have hll : l.length = j + 1 := by rw [hl, List.length_take, Nat.min_eq_left]; have := HSL.out; rw [← HK.out] at this; omega
        have HLL := Lib.hid hll
        have HLE := Lib.hid hl
        clear hl hll
        go_wp2
        clear hq1 hq2
        go_loop [8, 9] (fun t i => ∃ z : Int, (p : Int) - 1 ≤ z ∧ z ≤ p + j ∧ i = .int .i64 z ∧ t = .int .i64 (val (l.drop (z - p + 1).toNat) : Nat)) (fun _ i => (intOf i - p + 1).toNat)
        case atStart => exact ⟨p + j, by omega, by omega, rfl, by rw [List.drop_of_length_le (by rw [HLL.out]; omega)]; rfl⟩
        case round =>
          obtain ⟨z, hz1, hz2, rfl, rfl⟩ := hrel
          by_cases hz : p ≤ z
          · obtain ⟨s, rfl⟩ : ∃ s : Nat, z = (p : Int) + s := ⟨(z - p).toNat, by omega⟩
            obtain ⟨b', off', y, hA', hbw', hy, hys, hcy⟩ := hr.at_ (k := p + s) (by omega)
            obtain ⟨rfl, rfl⟩ : b = b' ∧ off = off' := by injection hA' with h; injection h with h1 h2; exact ⟨h1, h2⟩
            have hly : Hid (l[s]? = some y) := by rw [HLE.out, List.getElem?_take, if_pos (by omega), HD.out, List.getElem?_drop]; exact hys
            have hst := Lib.hid (val_drop l s y hly.out)
            have e1 : ((p : Int) + s - p + 1).toNat = s + 1 := by omega
            have e2 : Hid (((p : Int) + s - 1 - p + 1).toNat = s) := by show _ = _; omega
            rw [e1]
            obtain ⟨v, hv⟩ : ∃ v, v = val (l.drop (s + 1)) := ⟨_, rfl⟩
            have hvb : v < 4398046511104 := by rw [hv]; exact Nat.lt_of_lt_of_le (val_lt _) (Nat.pow_le_pow_right (n := 128) (j := 6) (by omega) (by rw [List.length_drop, HLL.out]; omega))
            rw [← hv] at hst ⊢
            clear hv e1 hA'
            go_wp2
            go_round
            case rel => exact ⟨(p : Int) + s - 1, by omega, by omega, rfl, by rw [e2.out, hst.out]; go_num⟩
            case measure => simp [intOf]; omega
          · obtain rfl : z = p - 1 := by omega
            have e1 : ((p : Int) - 1 - p + 1).toNat = 0 := by omega
            rw [e1, List.drop_zero]
            obtain ⟨v, hv⟩ : ∃ v, v = val l := ⟨_, rfl⟩
            have hvb : v < 562949953421312 := by rw [hv]; exact Nat.lt_of_lt_of_le (val_lt _) (Nat.pow_le_pow_right (n := 128) (j := 7) (by omega) (by rw [HLL.out]; omega))
            have HVL := Lib.hid hv
            rw [← hv]
            clear hv e1
            have hshape : Hid (shape l) := by rw [HLE.out, HK.out]; exact shape_take ds (by intro x hx; rw [HD.out] at hx; exact hr.small x (List.mem_of_mem_drop hx)) HSL.out
            have hdv : Hid (digits 6 v = l ↔ shortest l = true) := by rw [HVL.out]; exact digits_val l 6 hshape.out (by rw [HLL.out]; omega)
            have hds2 : Hid (ds[scan ds]? = some x) := by rw [← HK.out]; exact hdx
            by_cases hvN : v ≤ 281474976710655
            · obtain ⟨ys, hys⟩ : ∃ ys, ys = digits 6 v := ⟨_, rfl⟩
              have C := Lib.hid (specPutVar_yes none 0 0 v [] w Rd.nil (by omega) hvN)
              rw [List.nil_append, ← hys] at C
              have hysm : Hid (∀ x ∈ ys, x < 256) := by rw [hys]; exact digits_bytes 6 v (by omega)
              rw [← hys] at hdv
              have hysl : ys.length ≤ 7 := by rw [hys]; exact digits_length 6 v
              clear hys
              go_wp2_with fail
              refine C.out.mono ?_
              rintro e wb ⟨A2, c2, rfl, ho2, hb2⟩
              have R2 := Lib.hid (Rd.of_own ho2 hysm.out)
              have Rl : Hid (Rd wb (some ⟨b, off + p, none⟩) (p + j + 1 - p) l) := by rw [show p + j + 1 - p = j + 1 by omega, HLE.out, HD.out]; exact (hr.below hb2).cut (by omega)
              have cv1 := fun k => conv_rd c2 (R2.out.drewN k)
              have cv2 := fun k => conv_rd (c - p) (Rl.out.drewN k)
              have cv10 := conv_rd c2 R2.out
              have cv20 := conv_rd (c - p) Rl.out
              have hw1 : IntKind.i64.wrap ((p : Int) + (j : Int) + 1) = (p : Int) + j + 1 := IntWalk.i64_in _ (by omega)
              have hbq := Lib.hid (strB_beq ys l hysm.out Rl.out.small)
              generalize strB ys = S1 at cv1 cv10 hbq
              generalize strB l = S2 at cv2 cv20 hbq
              by_cases hsame : ys = l
              · have hb3 : (S1.toList == S2.toList) = true := by rw [hbq.out]; exact decide_eq_true hsame
                have hyes : gv xs p n = true := by rw [HV.out]; exact gvOk_yes ds x (by rw [← HK.out]; omega) HSL.out hds2.out ((shortest_take ds HSL.out x hds2.out).1 (by rw [← HK.out, ← HLE.out]; exact hdv.out.1 hsame)) (by rw [← HK.out, ← HLE.out, ← HVL.out]; exact hvN)
                have hval : Hid (gvVal xs p n = .tuple #[.int .i64 (v : Int), .int .i64 ((p : Int) + j + 1), .bool true]) := by
                  show gvVal xs p n = _
                  unfold gvVal gvN gvE
                  rw [hyes, if_pos rfl, if_pos rfl, HVL.out, HLE.out, HK.out, HD.out]
                  rfl
                clear hyes hsame
                go_wp2
                go_quiet (fail)
                go_wp2
                go_ret3
                exact ⟨by rw [hval.out]; rfl, below_drewN hb2 _⟩
              · have hb3 : (S1.toList == S2.toList) = false := by rw [hbq.out]; exact decide_eq_false hsame
                have hno := Lib.hid (gvVal_no xs p n (by
                  rw [HV.out]
                  unfold gvOk
                  have : shortest (ds.take (scan ds + 1)) = false := by rw [Bool.eq_false_iff, ← HK.out, ← HLE.out]; exact fun hc => hsame (hdv.out.2 hc)
                  rw [this, Bool.and_false]))
                clear hsame
                go_wp2
                go_quiet (fail)
                go_wp2
                go_ret3
                exact ⟨by rw [hno.out]; rfl, below_drewN hb2 _⟩
            · have C := Lib.hid (specPutVar_no none 0 0 (v : Int) w (by omega))
              have hno := Lib.hid (gvVal_no xs p n (by rw [HV.out]; exact gvOk_big ds (by rw [← HK.out, ← HLE.out, ← HVL.out]; omega)))
              go_wp2_with fail
              refine C.out.mono ?_
              rintro e wb ⟨A2, c2, rfl, ho2, hb2⟩
              go_wp2
              go_quiet (fail)
              go_wp2
              go_ret3
              exact ⟨by rw [hno.out]; rfl, below_drewN hb2 _⟩
theorem specGetVar (A : Option Addr) (n c : Nat) (a : Int) (xs : List Nat) (w : World) (hr : Rd w A n xs) (hn : n ≤ 2097152) (hnc : n ≤ c) :
    Calls Try.prog 82 #[.slice A n c, .int .i64 a] w fun e w' => e = .returned (gvVal xs a n) ∧ Below w.heap.size w w' := by
  by_cases h : 0 ≤ a ∧ a < n
  · obtain ⟨p, rfl⟩ : ∃ p : Nat, a = p := ⟨a.toNat, by omega⟩
    exact specGetVar_in A n c p xs w hr hn hnc (by omega)
  · rw [gvVal_no xs a n (gv_out xs a n h)]
    refine (specGetVar_out A n c a w hn (by omega)).mono ?_
    rintro e w' ⟨rfl, rfl⟩
    exact ⟨rfl, Below.refl _ _⟩
end Go.Proofs.Ytmbabbapcjphgaa
