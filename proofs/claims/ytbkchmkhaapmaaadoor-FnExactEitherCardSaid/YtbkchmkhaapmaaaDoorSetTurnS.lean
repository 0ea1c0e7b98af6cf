/- The contract of the model's function that sets or clears a vertex's bit, and of the two that call it. -/
import Derived.Test.YtbkchmkhaapmaaaDoorSetHasS
import Derived.Test.YtbkchmkhaapmaaaDoorSetCopyS
namespace Go.Proofs.YtbkchmkhaapmaaaDoor
open Go.RowKit
set_option linter.unusedVariables false

theorem and255_all : ∀ x : Fin 256, bits .and .i64 (x.val : Int) 255 = (x.val : Int) := by decide +kernel
theorem and255 {y : Nat} (h : y < 256) : bits .and .i64 (y : Int) 255 = (y : Int) := and255_all ⟨y, h⟩
set_option maxRecDepth 10000 in
set_option maxHeartbeats 8000000 in
theorem specTurnOn (N v : Int) (A : Option Addr) (n c : Nat) (xs : List Nat) (w : World) (hr : Rd w A n xs) (hn : n ≤ 2097152) (hv : (Lit.int .i64 v).wf = true) :
    Calls Tryd.prog 56 #[.agg #[.int .i64 N, .slice A n c], .int .i64 v, .bool true] w (MadeS w (withN N xs) (withX N xs v)) := by
  have HL := Lib.hid hr.len
  have HR := Lib.hid hr
  have HSM := Lib.hid hr.small
  clear hr
  obtain ⟨hv1, hv2⟩ := bounds_i64 hv
  have C1 := Lib.hid (fun W (h : Below w.heap.size w W) => specSetOk N A n c xs W (HR.out.below h) hn)
  have C2 := Lib.hid (fun W (h : Below w.heap.size w W) => by have h9 := specCopySet N A n c xs W (HR.out.below h) hn; unfold MadeS at h9; rw [HL.out] at h9; exact h9)
  have C3 := Lib.hid (fun W (h : Below w.heap.size w W) => specHas N v A n c xs W (HR.out.below h) hn hv)
  have HB0 := Lib.hid ((SBx.new w N A n c).below (below_a1 _ (.cells #[.int .i64 0, .slice none 0 0] 24)))
  have HB1 := Lib.hid (SBx.new1 w (.cells #[.int .i64 N, .slice A n c] 24) 0 none 0 0)
  cases hok : setB N xs with
  | false =>
    have H1 : Hid (withN N xs = 0 ∧ withX N xs v = []) := Lib.hid (by unfold withN withX; rw [hok]; exact ⟨rfl, rfl⟩)
    rw [H1.out.1, H1.out.2]
    rw [hok] at C1
    go_enter Tryd.func56, Tryd.ntmps56
    go_wp2_with fail
    refine (C1.out _ (below_a2 _ _ _)).mono ?_
    rintro e w1 ⟨rfl, hb1⟩
    have X1 := Lib.hid (HB1.out.below hb1)
    have HBW := Lib.hid (s_chain (below_a2 _ _ _) hb1)
    clear hb1 HB0 HB1
    obtain ⟨l1, c10, c11, f10, f11⟩ := X1.out.parts
    go_wp2
    refine bodyPost_ret (v := .agg #[.int .i64 0, .slice none 0 0]) (by simp [results, Tryd.results56, go_sem, c10, c11]) rfl ?_
    exact ⟨none, 0, rfl, own_nil _ _, below_set2 HBW.out (by omega) _ _⟩
  | true =>
    have hdim := setB_dim hok
    obtain ⟨N, rfl⟩ : ∃ k : Nat, N = (k : Int) := ⟨N.toNat, by omega⟩
    rw [hok] at C1
    have hN : N ≤ 150 := by omega
    have HLN : Hid (n = bytesN N) := Lib.hid (by have := hdim.2.2; rw [Int.toNat_natCast, HL.out] at this; exact this)
    have H1 : Hid (withN (N : Int) xs = (N : Int)) := Lib.hid (by unfold withN; rw [hok]; rfl)
    rw [H1.out]
    clear hdim
    by_cases hin : 0 ≤ v ∧ v < (N : Int)
    · obtain ⟨v, rfl⟩ : ∃ k : Nat, v = (k : Int) := ⟨v.toNat, by omega⟩
      have H2 : Hid (withX (N : Int) xs (v : Int) = addV xs v) := Lib.hid (by unfold withX; rw [hok, if_pos rfl, if_pos hin, Int.toNat_natCast])
      rw [H2.out]
      have H3 : hasB (N : Int) xs (v : Int) = bitN xs v := by unfold hasB; rw [hok, Int.toNat_natCast, decide_eq_true hin.1, decide_eq_true hin.2]; rfl
      rw [H3] at C3
      clear H3
      have d1 : decide ((v : Int) < (0 : Int)) = false := by simp
      have d2 : decide ((N : Int) ≤ (v : Int)) = false := by simp; omega
      have d3 : decide (N ≤ v) = false := by simp; omega
      have hvl : v / 8 < n := by rw [HLN.out]; exact lt_bytes (by omega)
      obtain ⟨x, hxs⟩ : ∃ x, xs[v / 8]? = some x := ⟨_, List.getElem?_eq_getElem (by rw [HL.out]; exact hvl)⟩
      have hx256 : x < 256 := HSM.out x (List.mem_of_getElem? hxs)
      have hbt : bitN xs v = x.testBit (v % 8) := by unfold bitN; rw [List.getD_eq_getElem?_getD, hxs]; rfl
      have hadd : addV xs v = xs.set (v / 8) (onN x (v % 8)) := by unfold addV; rw [List.getD_eq_getElem?_getD, hxs]; rfl
      have hvN : v < N := by omega
      clear hok hin
      cases ht : x.testBit (v % 8) with
      | true =>
        rw [hbt, ht] at C3
        have HSAME : Hid (addV xs v = xs) := Lib.hid (by
          rw [hadd, (on_yes hx256 (by omega) ht).1]
          exact List.ext_getElem? fun i => by
            rw [List.getElem?_set]
            by_cases hi : v / 8 = i
            · subst hi; rw [if_pos rfl, if_pos (by rw [HL.out]; exact hvl), hxs]
            · rw [if_neg hi])
        rw [HSAME.out]
        clear hadd hbt ht hxs hvl
        go_enter Tryd.func56, Tryd.ntmps56
        go_wp2_with fail
        refine (C1.out _ (below_a2 _ _ _)).mono ?_
        rintro e w1 ⟨rfl, hb1⟩
        have X0 := Lib.hid (HB0.out.below hb1)
        have X1 := Lib.hid (HB1.out.below hb1)
        have HBW := Lib.hid (s_chain (below_a2 _ _ _) hb1)
        clear hb1 HB0 HB1
        obtain ⟨l0, c00, c01, f00, f01⟩ := X0.out.parts
        go_wp2_with fail
        refine (C2.out _ HBW.out).mono ?_
        rintro e w2 ⟨A2, c2, rfl, ho2, hb2⟩
        have Y0 := Lib.hid ((X0.out.below hb2).below (below_a1 _ (.cells #[.int .i64 (N : Int), .slice A2 n c2] 24)))
        have Y1 := Lib.hid ((X1.out.below hb2).below (below_a1 _ (.cells #[.int .i64 (N : Int), .slice A2 n c2] 24)))
        have Y2 := Lib.hid (SBx.new w2 (N : Int) A2 n c2)
        have HBW2 := Lib.hid (s_chain (s_chain HBW.out hb2) (below_a1 _ (.cells #[.int .i64 (N : Int), .slice A2 n c2] 24)))
        have O2 := Lib.hid (own_below ho2 (below_a1 _ (.cells #[.int .i64 (N : Int), .slice A2 n c2] 24)))
        have HRG := Lib.hid ho2.lt
        have hsz := X1.out.parts.1
        have hsz2 := hb2.size
        clear hb2 ho2 l0 c00 c01 f00 f01
        obtain ⟨l0, c00, c01, f00, f01⟩ := Y0.out.parts
        go_wp2_with fail
        refine (C3.out _ HBW2.out).mono ?_
        rintro e w3 ⟨rfl, hb3⟩
        have O3 := Lib.hid (own_below O2.out hb3)
        have Z1 := Lib.hid (Y1.out.below hb3)
        have Z2 := Lib.hid (Y2.out.below hb3)
        have HBW3 := Lib.hid (s_chain HBW2.out hb3)
        clear hb3 l0 c00 c01 f00 f01
        obtain ⟨l1, c10, c11, f10, f11⟩ := Z1.out.parts
        obtain ⟨l2, c20, c21, f20, f21⟩ := Z2.out.parts
        go_wp2
        refine bodyPost_ret (v := .agg #[.int .i64 (N : Int), .slice A2 n c2]) (by simp [results, Tryd.results56, go_sem, c10, c11]) rfl ?_
        refine ⟨A2, c2, by rw [HL.out], ?_, below_set2 HBW3.out (by omega) _ _⟩
        rw [HL.out]
        exact own_monoG (own_set2 O3.out (by omega) _ _) (by omega)
      | false =>
        rw [hbt, ht] at C3
        have CB := Lib.hid (fun W => specBit v W (by omega))
        obtain ⟨b, off, x', rfl, hbw, hx', hxs', hc⟩ := HR.out.at_ hvl
        obtain rfl : x' = x := by have h9 := hxs'.out.symm.trans hxs; injection h9
        have HADD := Lib.hid hadd
        rw [(on_no hx256 (by omega) ht).1] at HADD
        obtain ⟨hq1, hq2⟩ := pow8 (k := v % 8) (by omega)
        have hle : x' + 2 ^ (v % 8) < 256 := (on_no hx256 (by omega) ht).2.1
        generalize 2 ^ (v % 8) = p at CB HADD hq1 hq2 hle
        have hdv := s_div v
        have hdb : v / 8 ≤ 150 := by omega
        have hle2 : (x' + p) < 256 := by omega
        have HLEN : Hid ((addV xs v).length = n) := Lib.hid ((addV_len xs v).trans HL.out)
        have hand := and255 hle2
        have hval : (x' : Int) + (p : Int) = (((x' + p) : Nat) : Int) := by omega
        generalize (x' + p) = y at HADD hand hval hle2
        generalize v / 8 = d at hdv hvl hdb HADD hc
        have hwd : IntKind.i64.wrap (d : Int) = (d : Int) := IntWalk.i64_in _ (by omega)
        generalize addV xs v = ys at HADD HLEN ⊢
        clear hadd hbt ht hxs hxs'
        go_enter Tryd.func56, Tryd.ntmps56
        go_wp2_with fail
        refine (C1.out _ (below_a2 _ _ _)).mono ?_
        rintro e w1 ⟨rfl, hb1⟩
        have X0 := Lib.hid (HB0.out.below hb1)
        have X1 := Lib.hid (HB1.out.below hb1)
        have HBW := Lib.hid (s_chain (below_a2 _ _ _) hb1)
        clear hb1 HB0 HB1
        obtain ⟨l0, c00, c01, f00, f01⟩ := X0.out.parts
        go_wp2_with fail
        refine (C2.out _ HBW.out).mono ?_
        rintro e w2 ⟨A2, c2, rfl, ho2, hb2⟩
        have Y0 := Lib.hid ((X0.out.below hb2).below (below_a1 _ (.cells #[.int .i64 (N : Int), .slice A2 n c2] 24)))
        have Y1 := Lib.hid ((X1.out.below hb2).below (below_a1 _ (.cells #[.int .i64 (N : Int), .slice A2 n c2] 24)))
        have Y2 := Lib.hid (SBx.new w2 (N : Int) A2 n c2)
        have HBW2 := Lib.hid (s_chain (s_chain HBW.out hb2) (below_a1 _ (.cells #[.int .i64 (N : Int), .slice A2 n c2] 24)))
        have O2 := Lib.hid (own_below ho2 (below_a1 _ (.cells #[.int .i64 (N : Int), .slice A2 n c2] 24)))
        have HRG := Lib.hid ho2.lt
        have hsz := X1.out.parts.1
        have hsz2 := hb2.size
        clear hb2 ho2 l0 c00 c01 f00 f01
        obtain ⟨l0, c00, c01, f00, f01⟩ := Y0.out.parts
        go_wp2_with fail
        refine (C3.out _ HBW2.out).mono ?_
        rintro e w3 ⟨rfl, hb3⟩
        have O3 := Lib.hid (own_below O2.out hb3)
        have Z0 := Lib.hid (Y0.out.below hb3)
        have Z1 := Lib.hid (Y1.out.below hb3)
        have Z2 := Lib.hid (Y2.out.below hb3)
        have HBW3 := Lib.hid (s_chain HBW2.out hb3)
        clear hb3 l0 c00 c01 f00 f01
        obtain ⟨l0, c00, c01, f00, f01⟩ := Z0.out.parts
        obtain ⟨l1, c10, c11, f10, f11⟩ := Z1.out.parts
        obtain ⟨l2, c20, c21, f20, f21⟩ := Z2.out.parts
        have hcx := (HBW3.out.cell (p := ⟨b, off + d, none⟩) hbw).trans hc
        obtain ⟨g, cap, hvv, hbase, hglt⟩ := O3.out.form (by omega)
        obtain ⟨rfl, -, rfl⟩ : A2 = some ⟨g, 0, none⟩ ∧ n = n ∧ c2 = cap := by injection hvv with e1 e2 e3; exact ⟨e1, e2, e3⟩
        clear hvv
        have hgw := HRG.out g rfl
        have hcg : ∃ u, w3.cell? ⟨g, d, none⟩ = some u := by
          have h9 := O3.out.cellAt d (by omega)
          have hl9 : d < (vb xs).length := by rw [vb_length, HL.out]; exact hvl
          rw [List.getElem?_eq_getElem hl9] at h9
          exact ⟨_, h9⟩
        obtain ⟨u, hcg⟩ := hcg
        have hfg := O3.out.frozenAt d
        have hst := O3.out.stored d (.int .u8 (y : Int))
        rw [show (vb xs).set d (.int .u8 (y : Int)) = vb ys by rw [HADD.out]; simp [vb, List.map_set]] at hst
        have HS := Lib.hid hst
        have P1 := Lib.hid (Z1.out.grown HS.out.2 (by show some g ≠ some _; intro e; injection e with e; omega))
        have P2 := Lib.hid (Z2.out.grown HS.out.2 (by show some g ≠ some _; intro e; injection e with e; omega))
        have PB := Lib.hid (HBW3.out.grown HS.out.2 HBW3.out.size (fun k hk => by have hk2 : some g = some k := hk; injection hk2 with hk2; omega))
        clear hst
        go_wp2_with fail
        refine (CB.out _).mono ?_
        rintro e w4 ⟨rfl, rfl⟩
        have q1 := P1.out.parts
        obtain ⟨m1, k10, k11, g10, g11⟩ := q1
        obtain ⟨m2, k20, k21, g20, g21⟩ := P2.out.parts
        go_wp2
        refine bodyPost_ret (v := .agg #[.int .i64 (N : Int), .slice (some ⟨g, 0, none⟩) n c2]) (by simp [results, Tryd.results56, go_sem, k10, k11]) rfl ?_
        refine ⟨some ⟨g, 0, none⟩, c2, by rw [HLEN.out], ?_, below_set2 PB.out (by omega) _ _⟩
        rw [HLEN.out]
        exact own_monoG (own_set2 HS.out.1 (by omega) _ _) (by omega)
    · have H2 : Hid (withX (N : Int) xs v = xs) := Lib.hid (by unfold withX; rw [hok, if_pos rfl, if_neg hin])
      rw [H2.out]
      clear hok
      have hg : v < 0 ∨ (0 ≤ v ∧ (N : Int) ≤ v) := by omega
      clear hin
      go_enter Tryd.func56, Tryd.ntmps56
      go_wp2_with fail
      refine (C1.out _ (below_a2 _ _ _)).mono ?_
      rintro e w1 ⟨rfl, hb1⟩
      have X0 := Lib.hid (HB0.out.below hb1)
      have X1 := Lib.hid (HB1.out.below hb1)
      have HBW := Lib.hid (s_chain (below_a2 _ _ _) hb1)
      clear hb1 HB0 HB1
      obtain ⟨l0, c00, c01, f00, f01⟩ := X0.out.parts
      go_wp2_with fail
      refine (C2.out _ HBW.out).mono ?_
      rintro e w2 ⟨A2, c2, rfl, ho2, hb2⟩
      have Y0 := Lib.hid ((X0.out.below hb2).below (below_a1 _ (.cells #[.int .i64 (N : Int), .slice A2 n c2] 24)))
      have Y1 := Lib.hid ((X1.out.below hb2).below (below_a1 _ (.cells #[.int .i64 (N : Int), .slice A2 n c2] 24)))
      have Y2 := Lib.hid (SBx.new w2 (N : Int) A2 n c2)
      have HBW2 := Lib.hid (s_chain (s_chain HBW.out hb2) (below_a1 _ (.cells #[.int .i64 (N : Int), .slice A2 n c2] 24)))
      have O2 := Lib.hid (own_below ho2 (below_a1 _ (.cells #[.int .i64 (N : Int), .slice A2 n c2] 24)))
      have HRG := Lib.hid ho2.lt
      have hsz := X1.out.parts.1
      have hsz2 := hb2.size
      clear hb2 ho2 l0 c00 c01 f00 f01
      obtain ⟨l0, c00, c01, f00, f01⟩ := Y0.out.parts
      obtain ⟨l1, c10, c11, f10, f11⟩ := Y1.out.parts
      obtain ⟨l2, c20, c21, f20, f21⟩ := Y2.out.parts
      rcases hg with hg | ⟨hg1, hg2⟩
      · have d1 : decide (v < 0) = true := by simp; omega
        go_wp2
        refine bodyPost_ret (v := .agg #[.int .i64 (N : Int), .slice A2 n c2]) (by simp [results, Tryd.results56, go_sem, c10, c11]) rfl ?_
        refine ⟨A2, c2, by rw [HL.out], ?_, below_set2 HBW2.out (by omega) _ _⟩
        rw [HL.out]
        exact own_monoG (own_set2 O2.out (by omega) _ _) (by omega)
      · have d1 : decide (v < 0) = false := by simp; omega
        have d2 : decide ((N : Int) ≤ v) = true := by simp; omega
        go_wp2
        refine bodyPost_ret (v := .agg #[.int .i64 (N : Int), .slice A2 n c2]) (by simp [results, Tryd.results56, go_sem, c10, c11]) rfl ?_
        refine ⟨A2, c2, by rw [HL.out], ?_, below_set2 HBW2.out (by omega) _ _⟩
        rw [HL.out]
        exact own_monoG (own_set2 O2.out (by omega) _ _) (by omega)
set_option maxRecDepth 10000 in
set_option maxHeartbeats 8000000 in
theorem specTurnOff (N v : Int) (A : Option Addr) (n c : Nat) (xs : List Nat) (w : World) (hr : Rd w A n xs) (hn : n ≤ 2097152) (hv : (Lit.int .i64 v).wf = true) :
    Calls Tryd.prog 56 #[.agg #[.int .i64 N, .slice A n c], .int .i64 v, .bool false] w (MadeS w (withN N xs) (wipeX N xs v)) := by
  have HL := Lib.hid hr.len
  have HR := Lib.hid hr
  have HSM := Lib.hid hr.small
  clear hr
  obtain ⟨hv1, hv2⟩ := bounds_i64 hv
  have C1 := Lib.hid (fun W (h : Below w.heap.size w W) => specSetOk N A n c xs W (HR.out.below h) hn)
  have C2 := Lib.hid (fun W (h : Below w.heap.size w W) => by have h9 := specCopySet N A n c xs W (HR.out.below h) hn; unfold MadeS at h9; rw [HL.out] at h9; exact h9)
  have C3 := Lib.hid (fun W (h : Below w.heap.size w W) => specHas N v A n c xs W (HR.out.below h) hn hv)
  have HB0 := Lib.hid ((SBx.new w N A n c).below (below_a1 _ (.cells #[.int .i64 0, .slice none 0 0] 24)))
  have HB1 := Lib.hid (SBx.new1 w (.cells #[.int .i64 N, .slice A n c] 24) 0 none 0 0)
  cases hok : setB N xs with
  | false =>
    have H1 : Hid (withN N xs = 0 ∧ wipeX N xs v = []) := Lib.hid (by unfold withN wipeX; rw [hok]; exact ⟨rfl, rfl⟩)
    rw [H1.out.1, H1.out.2]
    rw [hok] at C1
    go_enter Tryd.func56, Tryd.ntmps56
    go_wp2_with fail
    refine (C1.out _ (below_a2 _ _ _)).mono ?_
    rintro e w1 ⟨rfl, hb1⟩
    have X1 := Lib.hid (HB1.out.below hb1)
    have HBW := Lib.hid (s_chain (below_a2 _ _ _) hb1)
    clear hb1 HB0 HB1
    obtain ⟨l1, c10, c11, f10, f11⟩ := X1.out.parts
    go_wp2
    refine bodyPost_ret (v := .agg #[.int .i64 0, .slice none 0 0]) (by simp [results, Tryd.results56, go_sem, c10, c11]) rfl ?_
    exact ⟨none, 0, rfl, own_nil _ _, below_set2 HBW.out (by omega) _ _⟩
  | true =>
    have hdim := setB_dim hok
    obtain ⟨N, rfl⟩ : ∃ k : Nat, N = (k : Int) := ⟨N.toNat, by omega⟩
    rw [hok] at C1
    have hN : N ≤ 150 := by omega
    have HLN : Hid (n = bytesN N) := Lib.hid (by have := hdim.2.2; rw [Int.toNat_natCast, HL.out] at this; exact this)
    have H1 : Hid (withN (N : Int) xs = (N : Int)) := Lib.hid (by unfold withN; rw [hok]; rfl)
    rw [H1.out]
    clear hdim
    by_cases hin : 0 ≤ v ∧ v < (N : Int)
    · obtain ⟨v, rfl⟩ : ∃ k : Nat, v = (k : Int) := ⟨v.toNat, by omega⟩
      have H2 : Hid (wipeX (N : Int) xs (v : Int) = delV xs v) := Lib.hid (by unfold wipeX; rw [hok, if_pos rfl, if_pos hin, Int.toNat_natCast])
      rw [H2.out]
      have H3 : hasB (N : Int) xs (v : Int) = bitN xs v := by unfold hasB; rw [hok, Int.toNat_natCast, decide_eq_true hin.1, decide_eq_true hin.2]; rfl
      rw [H3] at C3
      clear H3
      have d1 : decide ((v : Int) < (0 : Int)) = false := by simp
      have d2 : decide ((N : Int) ≤ (v : Int)) = false := by simp; omega
      have d3 : decide (N ≤ v) = false := by simp; omega
      have hvl : v / 8 < n := by rw [HLN.out]; exact lt_bytes (by omega)
      obtain ⟨x, hxs⟩ : ∃ x, xs[v / 8]? = some x := ⟨_, List.getElem?_eq_getElem (by rw [HL.out]; exact hvl)⟩
      have hx256 : x < 256 := HSM.out x (List.mem_of_getElem? hxs)
      have hbt : bitN xs v = x.testBit (v % 8) := by unfold bitN; rw [List.getD_eq_getElem?_getD, hxs]; rfl
      have hadd : delV xs v = xs.set (v / 8) (offN x (v % 8)) := by unfold delV; rw [List.getD_eq_getElem?_getD, hxs]; rfl
      have hvN : v < N := by omega
      clear hok hin
      cases ht : x.testBit (v % 8) with
      | false =>
        rw [hbt, ht] at C3
        have HSAME : Hid (delV xs v = xs) := Lib.hid (by
          rw [hadd, (on_no hx256 (by omega) ht).2.2]
          exact List.ext_getElem? fun i => by
            rw [List.getElem?_set]
            by_cases hi : v / 8 = i
            · subst hi; rw [if_pos rfl, if_pos (by rw [HL.out]; exact hvl), hxs]
            · rw [if_neg hi])
        rw [HSAME.out]
        clear hadd hbt ht hxs hvl
        go_enter Tryd.func56, Tryd.ntmps56
        go_wp2_with fail
        refine (C1.out _ (below_a2 _ _ _)).mono ?_
        rintro e w1 ⟨rfl, hb1⟩
        have X0 := Lib.hid (HB0.out.below hb1)
        have X1 := Lib.hid (HB1.out.below hb1)
        have HBW := Lib.hid (s_chain (below_a2 _ _ _) hb1)
        clear hb1 HB0 HB1
        obtain ⟨l0, c00, c01, f00, f01⟩ := X0.out.parts
        go_wp2_with fail
        refine (C2.out _ HBW.out).mono ?_
        rintro e w2 ⟨A2, c2, rfl, ho2, hb2⟩
        have Y0 := Lib.hid ((X0.out.below hb2).below (below_a1 _ (.cells #[.int .i64 (N : Int), .slice A2 n c2] 24)))
        have Y1 := Lib.hid ((X1.out.below hb2).below (below_a1 _ (.cells #[.int .i64 (N : Int), .slice A2 n c2] 24)))
        have Y2 := Lib.hid (SBx.new w2 (N : Int) A2 n c2)
        have HBW2 := Lib.hid (s_chain (s_chain HBW.out hb2) (below_a1 _ (.cells #[.int .i64 (N : Int), .slice A2 n c2] 24)))
        have O2 := Lib.hid (own_below ho2 (below_a1 _ (.cells #[.int .i64 (N : Int), .slice A2 n c2] 24)))
        have HRG := Lib.hid ho2.lt
        have hsz := X1.out.parts.1
        have hsz2 := hb2.size
        clear hb2 ho2 l0 c00 c01 f00 f01
        obtain ⟨l0, c00, c01, f00, f01⟩ := Y0.out.parts
        go_wp2_with fail
        refine (C3.out _ HBW2.out).mono ?_
        rintro e w3 ⟨rfl, hb3⟩
        have O3 := Lib.hid (own_below O2.out hb3)
        have Z1 := Lib.hid (Y1.out.below hb3)
        have Z2 := Lib.hid (Y2.out.below hb3)
        have HBW3 := Lib.hid (s_chain HBW2.out hb3)
        clear hb3 l0 c00 c01 f00 f01
        obtain ⟨l1, c10, c11, f10, f11⟩ := Z1.out.parts
        obtain ⟨l2, c20, c21, f20, f21⟩ := Z2.out.parts
        go_wp2
        refine bodyPost_ret (v := .agg #[.int .i64 (N : Int), .slice A2 n c2]) (by simp [results, Tryd.results56, go_sem, c10, c11]) rfl ?_
        refine ⟨A2, c2, by rw [HL.out], ?_, below_set2 HBW3.out (by omega) _ _⟩
        rw [HL.out]
        exact own_monoG (own_set2 O3.out (by omega) _ _) (by omega)
      | true =>
        rw [hbt, ht] at C3
        have CB := Lib.hid (fun W => specBit v W (by omega))
        obtain ⟨b, off, x', rfl, hbw, hx', hxs', hc⟩ := HR.out.at_ hvl
        obtain rfl : x' = x := by have h9 := hxs'.out.symm.trans hxs; injection h9
        have HADD := Lib.hid hadd
        rw [(on_yes hx256 (by omega) ht).2.1] at HADD
        obtain ⟨hq1, hq2⟩ := pow8 (k := v % 8) (by omega)
        have hle : 2 ^ (v % 8) ≤ x' := (on_yes hx256 (by omega) ht).2.2
        generalize 2 ^ (v % 8) = p at CB HADD hq1 hq2 hle
        have hdv := s_div v
        have hdb : v / 8 ≤ 150 := by omega
        have hle2 : (x' - p) < 256 := by omega
        have HLEN : Hid ((delV xs v).length = n) := Lib.hid ((delV_len xs v).trans HL.out)
        have hand := and255 hle2
        have hval : (x' : Int) - (p : Int) = (((x' - p) : Nat) : Int) := by omega
        generalize (x' - p) = y at HADD hand hval hle2
        generalize v / 8 = d at hdv hvl hdb HADD hc
        have hwd : IntKind.i64.wrap (d : Int) = (d : Int) := IntWalk.i64_in _ (by omega)
        generalize delV xs v = ys at HADD HLEN ⊢
        clear hadd hbt ht hxs hxs'
        go_enter Tryd.func56, Tryd.ntmps56
        go_wp2_with fail
        refine (C1.out _ (below_a2 _ _ _)).mono ?_
        rintro e w1 ⟨rfl, hb1⟩
        have X0 := Lib.hid (HB0.out.below hb1)
        have X1 := Lib.hid (HB1.out.below hb1)
        have HBW := Lib.hid (s_chain (below_a2 _ _ _) hb1)
        clear hb1 HB0 HB1
        obtain ⟨l0, c00, c01, f00, f01⟩ := X0.out.parts
        go_wp2_with fail
        refine (C2.out _ HBW.out).mono ?_
        rintro e w2 ⟨A2, c2, rfl, ho2, hb2⟩
        have Y0 := Lib.hid ((X0.out.below hb2).below (below_a1 _ (.cells #[.int .i64 (N : Int), .slice A2 n c2] 24)))
        have Y1 := Lib.hid ((X1.out.below hb2).below (below_a1 _ (.cells #[.int .i64 (N : Int), .slice A2 n c2] 24)))
        have Y2 := Lib.hid (SBx.new w2 (N : Int) A2 n c2)
        have HBW2 := Lib.hid (s_chain (s_chain HBW.out hb2) (below_a1 _ (.cells #[.int .i64 (N : Int), .slice A2 n c2] 24)))
        have O2 := Lib.hid (own_below ho2 (below_a1 _ (.cells #[.int .i64 (N : Int), .slice A2 n c2] 24)))
        have HRG := Lib.hid ho2.lt
        have hsz := X1.out.parts.1
        have hsz2 := hb2.size
        clear hb2 ho2 l0 c00 c01 f00 f01
        obtain ⟨l0, c00, c01, f00, f01⟩ := Y0.out.parts
        go_wp2_with fail
        refine (C3.out _ HBW2.out).mono ?_
        rintro e w3 ⟨rfl, hb3⟩
        have O3 := Lib.hid (own_below O2.out hb3)
        have Z0 := Lib.hid (Y0.out.below hb3)
        have Z1 := Lib.hid (Y1.out.below hb3)
        have Z2 := Lib.hid (Y2.out.below hb3)
        have HBW3 := Lib.hid (s_chain HBW2.out hb3)
        clear hb3 l0 c00 c01 f00 f01
        obtain ⟨l0, c00, c01, f00, f01⟩ := Z0.out.parts
        obtain ⟨l1, c10, c11, f10, f11⟩ := Z1.out.parts
        obtain ⟨l2, c20, c21, f20, f21⟩ := Z2.out.parts
        have hcx := (HBW3.out.cell (p := ⟨b, off + d, none⟩) hbw).trans hc
        obtain ⟨g, cap, hvv, hbase, hglt⟩ := O3.out.form (by omega)
        obtain ⟨rfl, -, rfl⟩ : A2 = some ⟨g, 0, none⟩ ∧ n = n ∧ c2 = cap := by injection hvv with e1 e2 e3; exact ⟨e1, e2, e3⟩
        clear hvv
        have hgw := HRG.out g rfl
        have hcg : ∃ u, w3.cell? ⟨g, d, none⟩ = some u := by
          have h9 := O3.out.cellAt d (by omega)
          have hl9 : d < (vb xs).length := by rw [vb_length, HL.out]; exact hvl
          rw [List.getElem?_eq_getElem hl9] at h9
          exact ⟨_, h9⟩
        obtain ⟨u, hcg⟩ := hcg
        have hfg := O3.out.frozenAt d
        have hst := O3.out.stored d (.int .u8 (y : Int))
        rw [show (vb xs).set d (.int .u8 (y : Int)) = vb ys by rw [HADD.out]; simp [vb, List.map_set]] at hst
        have HS := Lib.hid hst
        have P1 := Lib.hid (Z1.out.grown HS.out.2 (by show some g ≠ some _; intro e; injection e with e; omega))
        have P2 := Lib.hid (Z2.out.grown HS.out.2 (by show some g ≠ some _; intro e; injection e with e; omega))
        have PB := Lib.hid (HBW3.out.grown HS.out.2 HBW3.out.size (fun k hk => by have hk2 : some g = some k := hk; injection hk2 with hk2; omega))
        clear hst
        go_wp2_with fail
        refine (CB.out _).mono ?_
        rintro e w4 ⟨rfl, rfl⟩
        have q1 := P1.out.parts
        obtain ⟨m1, k10, k11, g10, g11⟩ := q1
        obtain ⟨m2, k20, k21, g20, g21⟩ := P2.out.parts
        go_wp2
        refine bodyPost_ret (v := .agg #[.int .i64 (N : Int), .slice (some ⟨g, 0, none⟩) n c2]) (by simp [results, Tryd.results56, go_sem, k10, k11]) rfl ?_
        refine ⟨some ⟨g, 0, none⟩, c2, by rw [HLEN.out], ?_, below_set2 PB.out (by omega) _ _⟩
        rw [HLEN.out]
        exact own_monoG (own_set2 HS.out.1 (by omega) _ _) (by omega)
    · have H2 : Hid (wipeX (N : Int) xs v = xs) := Lib.hid (by unfold wipeX; rw [hok, if_pos rfl, if_neg hin])
      rw [H2.out]
      clear hok
      have hg : v < 0 ∨ (0 ≤ v ∧ (N : Int) ≤ v) := by omega
      clear hin
      go_enter Tryd.func56, Tryd.ntmps56
      go_wp2_with fail
      refine (C1.out _ (below_a2 _ _ _)).mono ?_
      rintro e w1 ⟨rfl, hb1⟩
      have X0 := Lib.hid (HB0.out.below hb1)
      have X1 := Lib.hid (HB1.out.below hb1)
      have HBW := Lib.hid (s_chain (below_a2 _ _ _) hb1)
      clear hb1 HB0 HB1
      obtain ⟨l0, c00, c01, f00, f01⟩ := X0.out.parts
      go_wp2_with fail
      refine (C2.out _ HBW.out).mono ?_
      rintro e w2 ⟨A2, c2, rfl, ho2, hb2⟩
      have Y0 := Lib.hid ((X0.out.below hb2).below (below_a1 _ (.cells #[.int .i64 (N : Int), .slice A2 n c2] 24)))
      have Y1 := Lib.hid ((X1.out.below hb2).below (below_a1 _ (.cells #[.int .i64 (N : Int), .slice A2 n c2] 24)))
      have Y2 := Lib.hid (SBx.new w2 (N : Int) A2 n c2)
      have HBW2 := Lib.hid (s_chain (s_chain HBW.out hb2) (below_a1 _ (.cells #[.int .i64 (N : Int), .slice A2 n c2] 24)))
      have O2 := Lib.hid (own_below ho2 (below_a1 _ (.cells #[.int .i64 (N : Int), .slice A2 n c2] 24)))
      have HRG := Lib.hid ho2.lt
      have hsz := X1.out.parts.1
      have hsz2 := hb2.size
      clear hb2 ho2 l0 c00 c01 f00 f01
      obtain ⟨l0, c00, c01, f00, f01⟩ := Y0.out.parts
      obtain ⟨l1, c10, c11, f10, f11⟩ := Y1.out.parts
      obtain ⟨l2, c20, c21, f20, f21⟩ := Y2.out.parts
      rcases hg with hg | ⟨hg1, hg2⟩
      · have d1 : decide (v < 0) = true := by simp; omega
        go_wp2
        refine bodyPost_ret (v := .agg #[.int .i64 (N : Int), .slice A2 n c2]) (by simp [results, Tryd.results56, go_sem, c10, c11]) rfl ?_
        refine ⟨A2, c2, by rw [HL.out], ?_, below_set2 HBW2.out (by omega) _ _⟩
        rw [HL.out]
        exact own_monoG (own_set2 O2.out (by omega) _ _) (by omega)
      · have d1 : decide (v < 0) = false := by simp; omega
        have d2 : decide ((N : Int) ≤ v) = true := by simp; omega
        go_wp2
        refine bodyPost_ret (v := .agg #[.int .i64 (N : Int), .slice A2 n c2]) (by simp [results, Tryd.results56, go_sem, c10, c11]) rfl ?_
        refine ⟨A2, c2, by rw [HL.out], ?_, below_set2 HBW2.out (by omega) _ _⟩
        rw [HL.out]
        exact own_monoG (own_set2 O2.out (by omega) _ _) (by omega)
set_option maxHeartbeats 4000000 in
theorem specWith (N v : Int) (A : Option Addr) (n c : Nat) (xs : List Nat) (w : World) (hr : Rd w A n xs) (hn : n ≤ 2097152) (hv : (Lit.int .i64 v).wf = true) :
    Calls Tryd.prog 31 #[.agg #[.int .i64 N, .slice A n c], .int .i64 v] w (MadeS w (withN N xs) (withX N xs v)) := by
  have C1 := Lib.hid (fun W (h : Below w.heap.size w W) => specTurnOn N v A n c xs W (hr.below h) hn hv)
  have HB1 := Lib.hid (SBx.new1 w (.cells #[.int .i64 N, .slice A n c] 24) 0 none 0 0)
  clear hr
  generalize withN N xs = M at C1 ⊢
  generalize withX N xs v = ys at C1 ⊢
  go_enter Tryd.func31, Tryd.ntmps31
  go_wp2_with fail
  refine (C1.out _ (below_a2 _ _ _)).mono ?_
  rintro e w1 ⟨A1, c1, rfl, ho1, hb1⟩
  have X1 := Lib.hid (HB1.out.below hb1)
  have HBW := Lib.hid (s_chain (below_a2 _ _ _) hb1)
  have hsz := hb1.size
  simp only [World.size_alloc] at hsz ho1
  have O1 := Lib.hid ho1
  clear hb1 ho1 HB1
  obtain ⟨l1, c10, c11, f10, f11⟩ := X1.out.parts
  go_wp2
  refine bodyPost_ret (v := .agg #[.int .i64 M, .slice A1 ys.length c1]) (by simp [results, Tryd.results31, go_sem, c10, c11]) rfl ?_
  refine ⟨A1, c1, rfl, ?_, below_set2 HBW.out (by omega) _ _⟩
  exact own_monoG (own_set2 O1.out (by omega) _ _) (by omega)
set_option maxHeartbeats 4000000 in
theorem specWithout (N v : Int) (A : Option Addr) (n c : Nat) (xs : List Nat) (w : World) (hr : Rd w A n xs) (hn : n ≤ 2097152) (hv : (Lit.int .i64 v).wf = true) :
    Calls Tryd.prog 32 #[.agg #[.int .i64 N, .slice A n c], .int .i64 v] w (MadeS w (withN N xs) (wipeX N xs v)) := by
  have C1 := Lib.hid (fun W (h : Below w.heap.size w W) => specTurnOff N v A n c xs W (hr.below h) hn hv)
  have HB1 := Lib.hid (SBx.new1 w (.cells #[.int .i64 N, .slice A n c] 24) 0 none 0 0)
  clear hr
  generalize withN N xs = M at C1 ⊢
  generalize wipeX N xs v = ys at C1 ⊢
  go_enter Tryd.func32, Tryd.ntmps32
  go_wp2_with fail
  refine (C1.out _ (below_a2 _ _ _)).mono ?_
  rintro e w1 ⟨A1, c1, rfl, ho1, hb1⟩
  have X1 := Lib.hid (HB1.out.below hb1)
  have HBW := Lib.hid (s_chain (below_a2 _ _ _) hb1)
  have hsz := hb1.size
  simp only [World.size_alloc] at hsz ho1
  have O1 := Lib.hid ho1
  clear hb1 ho1 HB1
  obtain ⟨l1, c10, c11, f10, f11⟩ := X1.out.parts
  go_wp2
  refine bodyPost_ret (v := .agg #[.int .i64 M, .slice A1 ys.length c1]) (by simp [results, Tryd.results32, go_sem, c10, c11]) rfl ?_
  refine ⟨A1, c1, rfl, ?_, below_set2 HBW.out (by omega) _ _⟩
  exact own_monoG (own_set2 O1.out (by omega) _ _) (by omega)
end Go.Proofs.YtbkchmkhaapmaaaDoor
