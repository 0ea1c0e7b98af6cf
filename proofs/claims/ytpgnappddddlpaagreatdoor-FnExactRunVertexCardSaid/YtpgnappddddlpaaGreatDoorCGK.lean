/- The contract of the model's function that sets or clears a vertex's bit, and of the two that call it. // The contracts of the model's JobOk, FirstVal and FirstEdge. Condition: a divisor is not 0 (paid by the test). // The contract of the model's function that asks whether a graph is valid. Condition: at most 2^20 edges. // The contract of the model's function that lists the members of a set. // Copies of runs, the model's: l11Copy. Condition: at most 2^21 numbers or bytes. -/
import Derived.Test.YtpgnappddddlpaaGreatDoorKSetHasS
import Derived.Test.YtpgnappddddlpaaGreatDoorCGJ
import Derived.Test.YtpgnappddddlpaaGreatDoorCGF
import Derived.Test.YtpgnappddddlpaaGreatDoorCGB
import Derived.Test.YtpgnappddddlpaaGreatDoorCGH
import Derived.Test.YtpgnappddddlpaaGreatDoorCGC
import Derived.Test.YtpgnappddddlpaaGreatDoorCGE
import Derived.Test.YtpgnappddddlpaaGreatDoorCGD
namespace Go.Proofs.YtpgnappddddlpaaGreatDoor
open Go.RowKit
set_option linter.unusedVariables false

theorem and255_all : ∀ x : Fin 256, bits .and .i64 (x.val : Int) 255 = (x.val : Int) := by decide +kernel
theorem and255 {y : Nat} (h : y < 256) : bits .and .i64 (y : Int) 255 = (y : Int) := and255_all ⟨y, h⟩
set_option maxRecDepth 10000 in
set_option maxHeartbeats 8000000 in
theorem specTurnOn (N v : Int) (A : Option Addr) (n c : Nat) (xs : List Nat) (w : World) (hr : Rd w A n xs) (hn : n ≤ 2097152) (hv : (Lit.int .i64 v).wf = true) :
    Calls Tryz.prog 73 #[.agg #[.int .i64 N, .slice A n c], .int .i64 v, .bool true] w (MadeS w (withN N xs) (withX N xs v)) := by
  have HL := Lib.hid hr.len
  have HR := Lib.hid hr
  have HSM := Lib.hid hr.small
  clear hr
  obtain ⟨hv1, hv2⟩ := bounds_i64 hv
  have C1 := Lib.hid (fun W (h : Below w.heap.size w W) => specSetOk N A n c xs W (HR.out.below h) hn)
  have C2 := Lib.hid (fun W (h : Below w.heap.size w W) => by have h9 := specCopySet N A n c xs W (HR.out.below h) hn; unfold MadeS at h9; rw [HL.out] at h9; exact h9)
  have C3 := Lib.hid (fun W (h : Below w.heap.size w W) => specHas N v A n c xs W (HR.out.below h) hn hv)
  have HB0 := Lib.hid ((SBx.new w N A n c).below (below_a1 _ (.cells #[.int .i64 0, .slice none 0 0] 37)))
  have HB1 := Lib.hid (SBx.new1 w (.cells #[.int .i64 N, .slice A n c] 37) 0 none 0 0)
  cases hok : setB N xs with
  | false =>
    have H1 : Hid (withN N xs = 0 ∧ withX N xs v = []) := Lib.hid (by unfold withN withX; rw [hok]; exact ⟨rfl, rfl⟩)
    rw [H1.out.1, H1.out.2]
    rw [hok] at C1
    go_enter Tryz.func73, Tryz.ntmps73
    go_wp2_with fail
    refine (C1.out _ (below_a2 _ _ _)).mono ?_
    rintro e w1 ⟨rfl, hb1⟩
    have X1 := Lib.hid (HB1.out.below hb1)
    have HBW := Lib.hid (s_chain (below_a2 _ _ _) hb1)
    clear hb1 HB0 HB1
    obtain ⟨l1, c10, c11, f10, f11⟩ := X1.out.parts
    go_wp2
    refine bodyPost_ret (v := .agg #[.int .i64 0, .slice none 0 0]) (by simp [results, Tryz.results73, go_sem, c10, c11]) rfl ?_
    exact ⟨none, 0, rfl, own_nil _ _, below_set2 HBW.out (by omega) _ _⟩
  | true =>
    have hdim := setB_dim hok
    obtain ⟨N, rfl⟩ : ∃ k : Nat, N = (k : Int) := ⟨N.toNat, by omega⟩
    rw [hok] at C1
    have hN : N ≤ 150 := by omega
    have HLN : Hid (n = bytesN N) := Lib.hid (by have := hdim.2.2; rw [Int.toNat_natCast, HL.out] at this; exact this)
    have H1 : Hid (withN (N : Int) xs = (N : Int)) := Lib.hid (by unfold withN; rw [hok]; rfl)
    rw [H1.out]
    clear hdim
    by_cases hin : 0 ≤ v ∧ v < (N : Int)
    · obtain ⟨v, rfl⟩ : ∃ k : Nat, v = (k : Int) := ⟨v.toNat, by omega⟩
      have H2 : Hid (withX (N : Int) xs (v : Int) = addV xs v) := Lib.hid (by unfold withX; rw [hok, if_pos rfl, if_pos hin, Int.toNat_natCast])
      rw [H2.out]
      have H3 : hasB (N : Int) xs (v : Int) = bitN xs v := by unfold hasB; rw [hok, Int.toNat_natCast, decide_eq_true hin.1, decide_eq_true hin.2]; rfl
      rw [H3] at C3
      clear H3
      have d1 : decide ((v : Int) < (0 : Int)) = false := by simp
      have d2 : decide ((N : Int) ≤ (v : Int)) = false := by simp; omega
      have d3 : decide (N ≤ v) = false := by simp; omega
      have hvl : v / 8 < n := by rw [HLN.out]; exact lt_bytes (by omega)
      obtain ⟨x, hxs⟩ : ∃ x, xs[v / 8]? = some x := ⟨_, List.getElem?_eq_getElem (by rw [HL.out]; exact hvl)⟩
      have hx256 : x < 256 := HSM.out x (List.mem_of_getElem? hxs)
      have hbt : bitN xs v = x.testBit (v % 8) := by unfold bitN; rw [List.getD_eq_getElem?_getD, hxs]; rfl
      have hadd : addV xs v = xs.set (v / 8) (onN x (v % 8)) := by unfold addV; rw [List.getD_eq_getElem?_getD, hxs]; rfl
      have hvN : v < N := by omega
      clear hok hin
      cases ht : x.testBit (v % 8) with
      | true =>
        rw [hbt, ht] at C3
        have HSAME : Hid (addV xs v = xs) := Lib.hid (by
          rw [hadd, (on_yes hx256 (by omega) ht).1]
          exact List.ext_getElem? fun i => by
            rw [List.getElem?_set]
            by_cases hi : v / 8 = i
            · subst hi; rw [if_pos rfl, if_pos (by rw [HL.out]; exact hvl), hxs]
            · rw [if_neg hi])
        rw [HSAME.out]
        clear hadd hbt ht hxs hvl
        go_enter Tryz.func73, Tryz.ntmps73
        go_wp2_with fail
        refine (C1.out _ (below_a2 _ _ _)).mono ?_
        rintro e w1 ⟨rfl, hb1⟩
        have X0 := Lib.hid (HB0.out.below hb1)
        have X1 := Lib.hid (HB1.out.below hb1)
        have HBW := Lib.hid (s_chain (below_a2 _ _ _) hb1)
        clear hb1 HB0 HB1
        obtain ⟨l0, c00, c01, f00, f01⟩ := X0.out.parts
        go_wp2_with fail
        refine (C2.out _ HBW.out).mono ?_
        rintro e w2 ⟨A2, c2, rfl, ho2, hb2⟩
        have Y0 := Lib.hid ((X0.out.below hb2).below (below_a1 _ (.cells #[.int .i64 (N : Int), .slice A2 n c2] 37)))
        have Y1 := Lib.hid ((X1.out.below hb2).below (below_a1 _ (.cells #[.int .i64 (N : Int), .slice A2 n c2] 37)))
        have Y2 := Lib.hid (SBx.new w2 (N : Int) A2 n c2)
        have HBW2 := Lib.hid (s_chain (s_chain HBW.out hb2) (below_a1 _ (.cells #[.int .i64 (N : Int), .slice A2 n c2] 37)))
        have O2 := Lib.hid (own_below ho2 (below_a1 _ (.cells #[.int .i64 (N : Int), .slice A2 n c2] 37)))
        have HRG := Lib.hid ho2.lt
        have hsz := X1.out.parts.1
        have hsz2 := hb2.size
        clear hb2 ho2 l0 c00 c01 f00 f01
        obtain ⟨l0, c00, c01, f00, f01⟩ := Y0.out.parts
        go_wp2_with fail
        refine (C3.out _ HBW2.out).mono ?_
        rintro e w3 ⟨rfl, hb3⟩
        have O3 := Lib.hid (own_below O2.out hb3)
        have Z1 := Lib.hid (Y1.out.below hb3)
        have Z2 := Lib.hid (Y2.out.below hb3)
        have HBW3 := Lib.hid (s_chain HBW2.out hb3)
        clear hb3 l0 c00 c01 f00 f01
        obtain ⟨l1, c10, c11, f10, f11⟩ := Z1.out.parts
        obtain ⟨l2, c20, c21, f20, f21⟩ := Z2.out.parts
        go_wp2
        refine bodyPost_ret (v := .agg #[.int .i64 (N : Int), .slice A2 n c2]) (by simp [results, Tryz.results73, go_sem, c10, c11]) rfl ?_
        refine ⟨A2, c2, by rw [HL.out], ?_, below_set2 HBW3.out (by omega) _ _⟩
        rw [HL.out]
        exact own_monoG (own_set2 O3.out (by omega) _ _) (by omega)
      | false =>
        rw [hbt, ht] at C3
        have CB := Lib.hid (fun W => specBit v W (by omega))
        obtain ⟨b, off, x', rfl, hbw, hx', hxs', hc⟩ := HR.out.at_ hvl
        obtain rfl : x' = x := by have h9 := hxs'.out.symm.trans hxs; injection h9
        have HADD := Lib.hid hadd
        rw [(on_no hx256 (by omega) ht).1] at HADD
        obtain ⟨hq1, hq2⟩ := pow8 (k := v % 8) (by omega)
        have hle : x' + 2 ^ (v % 8) < 256 := (on_no hx256 (by omega) ht).2.1
        generalize 2 ^ (v % 8) = p at CB HADD hq1 hq2 hle
        have hdv := s_div v
        have hdb : v / 8 ≤ 150 := by omega
        have hle2 : (x' + p) < 256 := by omega
        have HLEN : Hid ((addV xs v).length = n) := Lib.hid ((addV_len xs v).trans HL.out)
        have hand := and255 hle2
        have hval : (x' : Int) + (p : Int) = (((x' + p) : Nat) : Int) := by omega
        generalize (x' + p) = y at HADD hand hval hle2
        generalize v / 8 = d at hdv hvl hdb HADD hc
        have hwd : IntKind.i64.wrap (d : Int) = (d : Int) := IntWalk.i64_in _ (by omega)
        generalize addV xs v = ys at HADD HLEN ⊢
        clear hadd hbt ht hxs hxs'
        go_enter Tryz.func73, Tryz.ntmps73
        go_wp2_with fail
        refine (C1.out _ (below_a2 _ _ _)).mono ?_
        rintro e w1 ⟨rfl, hb1⟩
        have X0 := Lib.hid (HB0.out.below hb1)
        have X1 := Lib.hid (HB1.out.below hb1)
        have HBW := Lib.hid (s_chain (below_a2 _ _ _) hb1)
        clear hb1 HB0 HB1
        obtain ⟨l0, c00, c01, f00, f01⟩ := X0.out.parts
        go_wp2_with fail
        refine (C2.out _ HBW.out).mono ?_
        rintro e w2 ⟨A2, c2, rfl, ho2, hb2⟩
        have Y0 := Lib.hid ((X0.out.below hb2).below (below_a1 _ (.cells #[.int .i64 (N : Int), .slice A2 n c2] 37)))
        have Y1 := Lib.hid ((X1.out.below hb2).below (below_a1 _ (.cells #[.int .i64 (N : Int), .slice A2 n c2] 37)))
        have Y2 := Lib.hid (SBx.new w2 (N : Int) A2 n c2)
        have HBW2 := Lib.hid (s_chain (s_chain HBW.out hb2) (below_a1 _ (.cells #[.int .i64 (N : Int), .slice A2 n c2] 37)))
        have O2 := Lib.hid (own_below ho2 (below_a1 _ (.cells #[.int .i64 (N : Int), .slice A2 n c2] 37)))
        have HRG := Lib.hid ho2.lt
        have hsz := X1.out.parts.1
        have hsz2 := hb2.size
        clear hb2 ho2 l0 c00 c01 f00 f01
        obtain ⟨l0, c00, c01, f00, f01⟩ := Y0.out.parts
        go_wp2_with fail
        refine (C3.out _ HBW2.out).mono ?_
        rintro e w3 ⟨rfl, hb3⟩
        have O3 := Lib.hid (own_below O2.out hb3)
        have Z0 := Lib.hid (Y0.out.below hb3)
        have Z1 := Lib.hid (Y1.out.below hb3)
        have Z2 := Lib.hid (Y2.out.below hb3)
        have HBW3 := Lib.hid (s_chain HBW2.out hb3)
        clear hb3 l0 c00 c01 f00 f01
        obtain ⟨l0, c00, c01, f00, f01⟩ := Z0.out.parts
        obtain ⟨l1, c10, c11, f10, f11⟩ := Z1.out.parts
        obtain ⟨l2, c20, c21, f20, f21⟩ := Z2.out.parts
        have hcx := (HBW3.out.cell (p := ⟨b, off + d, none⟩) hbw).trans hc
        obtain ⟨g, cap, hvv, hbase, hglt⟩ := O3.out.form (by omega)
        obtain ⟨rfl, -, rfl⟩ : A2 = some ⟨g, 0, none⟩ ∧ n = n ∧ c2 = cap := by injection hvv with e1 e2 e3; exact ⟨e1, e2, e3⟩
        clear hvv
        have hgw := HRG.out g rfl
        have hcg : ∃ u, w3.cell? ⟨g, d, none⟩ = some u := by
          have h9 := O3.out.cellAt d (by omega)
          have hl9 : d < (vb xs).length := by rw [vb_length, HL.out]; exact hvl
          rw [List.getElem?_eq_getElem hl9] at h9
          exact ⟨_, h9⟩
        obtain ⟨u, hcg⟩ := hcg
        have hfg := O3.out.frozenAt d
        have hst := O3.out.stored d (.int .u8 (y : Int))
        rw [show (vb xs).set d (.int .u8 (y : Int)) = vb ys by rw [HADD.out]; simp [vb, List.map_set]] at hst
        have HS := Lib.hid hst
        have P1 := Lib.hid (Z1.out.grown HS.out.2 (by show some g ≠ some _; intro e; injection e with e; omega))
        have P2 := Lib.hid (Z2.out.grown HS.out.2 (by show some g ≠ some _; intro e; injection e with e; omega))
        have PB := Lib.hid (HBW3.out.grown HS.out.2 HBW3.out.size (fun k hk => by have hk2 : some g = some k := hk; injection hk2 with hk2; omega))
        clear hst
        go_wp2_with fail
        refine (CB.out _).mono ?_
        rintro e w4 ⟨rfl, rfl⟩
        have q1 := P1.out.parts
        obtain ⟨m1, k10, k11, g10, g11⟩ := q1
        obtain ⟨m2, k20, k21, g20, g21⟩ := P2.out.parts
        go_wp2
        refine bodyPost_ret (v := .agg #[.int .i64 (N : Int), .slice (some ⟨g, 0, none⟩) n c2]) (by simp [results, Tryz.results73, go_sem, k10, k11]) rfl ?_
        refine ⟨some ⟨g, 0, none⟩, c2, by rw [HLEN.out], ?_, below_set2 PB.out (by omega) _ _⟩
        rw [HLEN.out]
        exact own_monoG (own_set2 HS.out.1 (by omega) _ _) (by omega)
    · have H2 : Hid (withX (N : Int) xs v = xs) := Lib.hid (by unfold withX; rw [hok, if_pos rfl, if_neg hin])
      rw [H2.out]
      clear hok
      have hg : v < 0 ∨ (0 ≤ v ∧ (N : Int) ≤ v) := by omega
      clear hin
      go_enter Tryz.func73, Tryz.ntmps73
      go_wp2_with fail
      refine (C1.out _ (below_a2 _ _ _)).mono ?_
      rintro e w1 ⟨rfl, hb1⟩
      have X0 := Lib.hid (HB0.out.below hb1)
      have X1 := Lib.hid (HB1.out.below hb1)
      have HBW := Lib.hid (s_chain (below_a2 _ _ _) hb1)
      clear hb1 HB0 HB1
      obtain ⟨l0, c00, c01, f00, f01⟩ := X0.out.parts
      go_wp2_with fail
      refine (C2.out _ HBW.out).mono ?_
      rintro e w2 ⟨A2, c2, rfl, ho2, hb2⟩
      have Y0 := Lib.hid ((X0.out.below hb2).below (below_a1 _ (.cells #[.int .i64 (N : Int), .slice A2 n c2] 37)))
      have Y1 := Lib.hid ((X1.out.below hb2).below (below_a1 _ (.cells #[.int .i64 (N : Int), .slice A2 n c2] 37)))
      have Y2 := Lib.hid (SBx.new w2 (N : Int) A2 n c2)
      have HBW2 := Lib.hid (s_chain (s_chain HBW.out hb2) (below_a1 _ (.cells #[.int .i64 (N : Int), .slice A2 n c2] 37)))
      have O2 := Lib.hid (own_below ho2 (below_a1 _ (.cells #[.int .i64 (N : Int), .slice A2 n c2] 37)))
      have HRG := Lib.hid ho2.lt
      have hsz := X1.out.parts.1
      have hsz2 := hb2.size
      clear hb2 ho2 l0 c00 c01 f00 f01
      obtain ⟨l0, c00, c01, f00, f01⟩ := Y0.out.parts
      obtain ⟨l1, c10, c11, f10, f11⟩ := Y1.out.parts
      obtain ⟨l2, c20, c21, f20, f21⟩ := Y2.out.parts
      rcases hg with hg | ⟨hg1, hg2⟩
      · have d1 : decide (v < 0) = true := by simp; omega
        go_wp2
        refine bodyPost_ret (v := .agg #[.int .i64 (N : Int), .slice A2 n c2]) (by simp [results, Tryz.results73, go_sem, c10, c11]) rfl ?_
        refine ⟨A2, c2, by rw [HL.out], ?_, below_set2 HBW2.out (by omega) _ _⟩
        rw [HL.out]
        exact own_monoG (own_set2 O2.out (by omega) _ _) (by omega)
      · have d1 : decide (v < 0) = false := by simp; omega
        have d2 : decide ((N : Int) ≤ v) = true := by simp; omega
        go_wp2
        refine bodyPost_ret (v := .agg #[.int .i64 (N : Int), .slice A2 n c2]) (by simp [results, Tryz.results73, go_sem, c10, c11]) rfl ?_
        refine ⟨A2, c2, by rw [HL.out], ?_, below_set2 HBW2.out (by omega) _ _⟩
        rw [HL.out]
        exact own_monoG (own_set2 O2.out (by omega) _ _) (by omega)
set_option maxHeartbeats 4000000 in
theorem specWith (N v : Int) (A : Option Addr) (n c : Nat) (xs : List Nat) (w : World) (hr : Rd w A n xs) (hn : n ≤ 2097152) (hv : (Lit.int .i64 v).wf = true) :
    Calls Tryz.prog 55 #[.agg #[.int .i64 N, .slice A n c], .int .i64 v] w (MadeS w (withN N xs) (withX N xs v)) := by
  have C1 := Lib.hid (fun W (h : Below w.heap.size w W) => specTurnOn N v A n c xs W (hr.below h) hn hv)
  have HB1 := Lib.hid (SBx.new1 w (.cells #[.int .i64 N, .slice A n c] 37) 0 none 0 0)
  clear hr
  generalize withN N xs = M at C1 ⊢
  generalize withX N xs v = ys at C1 ⊢
  go_enter Tryz.func55, Tryz.ntmps55
  go_wp2_with fail
  refine (C1.out _ (below_a2 _ _ _)).mono ?_
  rintro e w1 ⟨A1, c1, rfl, ho1, hb1⟩
  have X1 := Lib.hid (HB1.out.below hb1)
  have HBW := Lib.hid (s_chain (below_a2 _ _ _) hb1)
  have hsz := hb1.size
  simp only [World.size_alloc] at hsz ho1
  have O1 := Lib.hid ho1
  clear hb1 ho1 HB1
  obtain ⟨l1, c10, c11, f10, f11⟩ := X1.out.parts
  go_wp2
  refine bodyPost_ret (v := .agg #[.int .i64 M, .slice A1 ys.length c1]) (by simp [results, Tryz.results55, go_sem, c10, c11]) rfl ?_
  refine ⟨A1, c1, rfl, ?_, below_set2 HBW.out (by omega) _ _⟩
  exact own_monoG (own_set2 O1.out (by omega) _ _) (by omega)
end Go.Proofs.YtpgnappddddlpaaGreatDoor
namespace Go.Proofs.YtpgnappddddlpaaGreatDoor
open Go.RowKit

theorem specJobOk (n p s : Int) (w : World) :
    Calls Tryz.prog 48 #[.int .i64 n, .agg #[.int .i64 p, .int .i64 s]] w (fun e w' => e = .returned (.bool (jobB n p s)) ∧ Below w.heap.size w w') := by
  rcases prog_cases p with h | rfl | rfl | rfl | rfl
  · have hj : jobB n p s = false := by unfold jobB; rw [progB_no h]; rfl
    rw [hj]
    clear hj
    by_cases h1 : p < 1
    · clear h
      go_enter Tryz.func48, Tryz.ntmps48
      go_wp2
      go_ret
      exact ⟨rfl, below_a1 _ _⟩
    · have h2 : 4 < p := by omega
      clear h
      go_enter Tryz.func48, Tryz.ntmps48
      go_wp2
      go_ret
      exact ⟨rfl, below_a1 _ _⟩
  · have hj : jobB n 1 s = decide (s = 0) := by unfold jobB progB; simp
    rw [hj]
    clear hj
    go_enter Tryz.func48, Tryz.ntmps48
    go_wp2
    go_ret
    exact ⟨rfl, below_a1 _ _⟩
  · have hj : jobB n 2 s = decide (s = 0) := by unfold jobB progB; simp
    rw [hj]
    clear hj
    go_enter Tryz.func48, Tryz.ntmps48
    go_wp2
    go_ret
    exact ⟨rfl, below_a1 _ _⟩
  · have hj : jobB n 3 s = (decide (0 ≤ s) && decide (s < n)) := by unfold jobB progB; simp
    rw [hj]
    clear hj
    by_cases h1 : 0 ≤ s
    · have e1 : (decide (0 ≤ s) && decide (s < n)) = decide (s < n) := by simp [h1]
      rw [e1]
      go_enter Tryz.func48, Tryz.ntmps48
      go_wp2
      go_ret
      exact ⟨rfl, below_a1 _ _⟩
    · have e1 : (decide (0 ≤ s) && decide (s < n)) = false := by simp [h1]
      rw [e1]
      go_enter Tryz.func48, Tryz.ntmps48
      go_wp2
      go_ret
      exact ⟨rfl, below_a1 _ _⟩
  · have hj : jobB n 4 s = decide (s = 0) := by unfold jobB progB; simp
    rw [hj]
    clear hj
    go_enter Tryz.func48, Tryz.ntmps48
    go_wp2
    go_ret
    exact ⟨rfl, below_a1 _ _⟩
end Go.Proofs.YtpgnappddddlpaaGreatDoor
namespace Go.Proofs.YtpgnappddddlpaaGreatDoor
open Go.RowKit

theorem edgeB_parts {n : Int} {e : GE} (h : edgeB n e = false) : e.f < 0 ∨ (0 ≤ e.f ∧ n ≤ e.f) ∨ (0 ≤ e.f ∧ e.f < n ∧ e.t < 0) ∨ (0 ≤ e.f ∧ e.f < n ∧ 0 ≤ e.t ∧ n ≤ e.t) ∨ (0 ≤ e.f ∧ e.f < n ∧ 0 ≤ e.t ∧ e.t < n ∧ e.w < 0) ∨ (0 ≤ e.f ∧ e.f < n ∧ 0 ≤ e.t ∧ e.t < n ∧ 0 ≤ e.w ∧ 1000 < e.w) := by
  have h := of_decide_eq_false h
  omega

set_option maxRecDepth 10000 in
set_option maxHeartbeats 4000000 in
theorem specGraphOk (N : Int) (A : Option Addr) (n c : Nat) (es : List GE) (w : World) (hr : SlG w A n es) (hn : n ≤ 1048576) :
    Calls Tryz.prog 47 #[.agg #[.int .i64 N, .slice A n c]] w (GTell w (graphB N es)) := by
  have HEL := Lib.hid hr.len
  have HR := Lib.hid hr
  clear hr
  go_enter Tryz.func47, Tryz.ntmps47
  go_wp2
  have X0 := Lib.hid (NBox.new w N A n c 44)
  have HB0 := Lib.hid (below_a1 w (.cells #[.int .i64 N, .slice A n c] 44))
  go_loopw [8] (fun i wr => ∃ k : Nat, k ≤ n ∧ i = .int .i64 k ∧ Hid (NBox wr w.heap.size N A n c) ∧ Hid (Below w.heap.size w wr) ∧ Hid (∀ x ∈ es.take k, edgeB N x = true)) (fun i _ => n - (intOf i).toNat)
  case atStart => exact ⟨0, Nat.zero_le _, rfl, X0, HB0, Lib.hid (by simp)⟩
  case round =>
    clear X0 HB0
    obtain ⟨k, hk, rfl, hx, hbel, hall⟩ := hrel
    obtain ⟨l0, x0, x1⟩ := hx.out
    by_cases hlt : k < n
    · obtain ⟨b, off, e, rfl, hbw, he, c0, c1, c2⟩ := HR.out.at_ hlt
      have c0 := (hbel.out.cell (p := ⟨b, off + k * 3, none⟩) hbw).trans c0
      have c1 := (hbel.out.cell (p := ⟨b, off + k * 3 + 1, none⟩) hbw).trans c1
      have c2 := (hbel.out.cell (p := ⟨b, off + k * 3 + 2, none⟩) hbw).trans c2
      have HB1 := Lib.hid (below_a1 wr (.cells #[.int .i64 e.f, .int .i64 e.t, .int .i64 e.w] 86))
      cases hv : edgeB N e with
      | true =>
        obtain ⟨h1, h2, h3, h4, h5, h6⟩ := edgeB_iff hv
        go_wp2
        go_roundw
        case rel => exact ⟨k + 1, by omega, by go_num, Lib.hid (hx.out.below HB1.out), Lib.hid (g_chain hbel.out HB1.out), Lib.hid (all_step he.out hall.out hv)⟩
        case measure => simp [intOf]; omega
      | false =>
        have HV := Lib.hid (graphB_no he.out hv)
        have hp := edgeB_parts hv
        clear hv
        rcases hp with h1 | ⟨h1, h2⟩ | ⟨h1, h2, h3⟩ | ⟨h1, h2, h3, h4⟩ | ⟨h1, h2, h3, h4, h5⟩ | ⟨h1, h2, h3, h4, h5, h6⟩
        all_goals
          go_wp2
          go_ret
          rw [HV.out]
          exact ⟨g_bool (by first | rfl | (simp <;> omega)), g_chain hbel.out HB1.out⟩
    · obtain rfl : k = n := by omega
      have HG : Hid (graphB N es = decide (0 ≤ N ∧ N ≤ 150 ∧ k ≤ 400)) := Lib.hid (by
        have h1 : es.all (edgeB N) = true := List.all_eq_true.2 (fun x hx => hall.out x (by rw [List.take_of_length_le (by rw [HEL.out]; exact Nat.le_refl _)]; exact hx))
        unfold graphB
        rw [h1, Bool.and_true, HEL.out])
      by_cases h1 : 0 ≤ N
      · by_cases h2 : N ≤ 150
        · by_cases h3 : k ≤ 400
          · have HV : Hid (graphB N es = true) := Lib.hid (by rw [HG.out]; simp [h1, h2, h3])
            go_wp2
            go_ret
            rw [HV.out]
            exact ⟨g_bool (by first | rfl | (simp <;> omega)), hbel.out⟩
          · have HV : Hid (graphB N es = false) := Lib.hid (by rw [HG.out]; simp [h3])
            go_wp2
            go_ret
            rw [HV.out]
            exact ⟨g_bool (by first | rfl | (simp <;> omega)), hbel.out⟩
        · have HV : Hid (graphB N es = false) := Lib.hid (by rw [HG.out]; simp [h2])
          go_wp2
          go_ret
          rw [HV.out]
          exact ⟨g_bool (by first | rfl | (simp <;> omega)), hbel.out⟩
      · have HV : Hid (graphB N es = false) := Lib.hid (by rw [HG.out]; simp [h1])
        go_wp2
        go_ret
        rw [HV.out]
        exact ⟨g_bool (by first | rfl | (simp <;> omega)), hbel.out⟩
end Go.Proofs.YtpgnappddddlpaaGreatDoor
namespace Go.Proofs.YtpgnappddddlpaaGreatDoor
open Go.RowKit
set_option linter.unusedVariables false

theorem built_ints (w : World) : (w.alloc (.cells #[] 3)).ownsRow w.heap.size 3 1 (.slice (some ⟨w.heap.size, 0, none⟩) 0 0) 0 [] :=
  World.ownsRow_lit w #[] 0 (Nat.le_refl _) (by unfold maxLen; omega) rfl
theorem built_ints1 (w : World) (o : Obj) : ((w.alloc o).alloc (.cells #[] 3)).ownsRow (w.heap.size + 1) 3 1 (.slice (some ⟨w.heap.size + 1, 0, none⟩) 0 0) 0 [] := by
  have h := built_ints (w.alloc o)
  rw [World.size_alloc] at h
  exact h
theorem has_in {N k : Nat} {xs : List Nat} (hok : setB (N : Int) xs = true) (hk : k < N) : hasB (N : Int) xs (k : Int) = bitN xs k := by
  unfold hasB
  rw [hok, decide_eq_true (by omega : (0 : Int) ≤ (k : Int)), decide_eq_true (by omega : (k : Int) < (N : Int)), Int.toNat_natCast]
  rfl
set_option maxRecDepth 10000 in
set_option maxHeartbeats 8000000 in
theorem specMembers (N : Int) (A : Option Addr) (n c : Nat) (xs : List Nat) (w : World) (hr : Rd w A n xs) (hn : n ≤ 2097152) :
    Calls Tryz.prog 50 #[.agg #[.int .i64 N, .slice A n c]] w (MadeMs w (memsB N xs)) := by
  obtain ⟨i0, hi, hz0, hz1, hz2⟩ := info_parts Tryz.infoInt
  have HR := Lib.hid hr
  have HL := Lib.hid hr.len
  clear hr
  have C1 := Lib.hid (fun W (h : Below w.heap.size w W) => specSetOk N A n c xs W (HR.out.below h) hn)
  have HB0 := Lib.hid ((SBx.new w N A n c).below (below_a1 _ (.cells #[] 3)))
  have HOW := Lib.hid (built_ints1 w (.cells #[.int .i64 N, .slice A n c] 37))
  have HBA := Lib.hid (below_a2 w (.cells #[.int .i64 N, .slice A n c] 37) (.cells #[] 3))
  obtain ⟨l0, c00, c01, f00, f01⟩ := HB0.out.parts
  unfold memsB
  cases hok : setB N xs with
  | false =>
    rw [hok] at C1
    rw [if_neg (by simp)]
    by_cases h0 : 0 < N
    · have d1 : decide (0 < N) = true := by simp; omega
      go_enter Tryz.func50, Tryz.ntmps50
      go_wp2
      refine wp_loop_rounds 1 ?_
      rw [rounds_succ]
      go_wp2_with fail
      refine (C1.out _ HBA.out).mono ?_
      rintro e w1 ⟨rfl, hb1⟩
      have HO := Lib.hid (own_below HOW.out hb1)
      have HBW := Lib.hid (s_chain HBA.out hb1)
      clear hb1 l0 c00 c01 f00 f01
      go_wp2
      go_ret
      exact ⟨some ⟨w.heap.size + 1, 0, none⟩, 0, rfl, own_monoG (lo' := w.heap.size) HO.out (by omega), HBW.out⟩
    · have d1 : decide (0 < N) = false := by simp; omega
      go_enter Tryz.func50, Tryz.ntmps50
      go_wp2
      refine wp_loop_rounds 1 ?_
      rw [rounds_succ]
      go_wp2
      go_ret
      exact ⟨some ⟨w.heap.size + 1, 0, none⟩, 0, rfl, own_monoG (lo' := w.heap.size) HOW.out (by omega), HBA.out⟩
  | true =>
    rw [hok] at C1
    rw [if_pos rfl]
    have hdim := setB_dim hok
    obtain ⟨N, rfl⟩ : ∃ k : Nat, N = (k : Int) := ⟨N.toNat, by omega⟩
    have hN : N ≤ 150 := by omega
    have HOK := Lib.hid hok
    rw [Int.toNat_natCast]
    clear hdim hok
    go_enter Tryz.func50, Tryz.ntmps50
    go_wp2
    go_loopw [3, 4] (fun o i wr => ∃ (k : Nat) (A1 : Option Addr) (c1 : Nat), k ≤ N ∧ i = .int .i64 (k : Int) ∧ o = .slice A1 (memsR xs k).length c1 ∧ Hid (wr.ownsRow (w.heap.size + 1) 3 1 (.slice A1 (memsR xs k).length c1) (memsR xs k).length (vi (memsR xs k))) ∧ Hid (SBx wr w.heap.size (N : Int) A n c) ∧ Hid (Below w.heap.size w wr)) (fun _ i _ => N - (intOf i).toNat)
    case atStart => exact ⟨0, some ⟨w.heap.size + 1, 0, none⟩, 0, Nat.zero_le _, rfl, rfl, HOW, HB0, HBA⟩
    case round =>
      clear HOW HB0 HBA l0 c00 c01 f00 f01
      obtain ⟨k, A1, c1, hk, rfl, rfl, hown, hbx, hbel⟩ := hrel
      have hlen := mems_len xs k
      obtain ⟨l0, c00, c01, f00, f01⟩ := hbx.out.parts
      by_cases hlt : k < N
      · have C2 := Lib.hid (fun W (h : Below w.heap.size w W) => specHas (N : Int) (k : Int) A n c xs W (HR.out.below h) hn (WalkArith.wf_i64 (by omega)))
        rw [has_in HOK.out hlt] at C2
        have HST := Lib.hid (mems_step xs k)
        go_wp2_with fail
        refine (C1.out _ hbel.out).mono ?_
        rintro e w1 ⟨rfl, hb1⟩
        have O1 := Lib.hid (own_below hown.out hb1)
        have B1 := Lib.hid (s_chain hbel.out hb1)
        have Y1 := Lib.hid (hbx.out.below hb1)
        clear hb1 l0 c00 c01 f00 f01 hown hbel hbx
        obtain ⟨l0, c00, c01, f00, f01⟩ := Y1.out.parts
        go_wp2_with fail
        refine (C2.out _ B1.out).mono ?_
        rintro e w2 ⟨rfl, hb2⟩
        have O2 := Lib.hid (own_below O1.out hb2)
        have B2 := Lib.hid (s_chain B1.out hb2)
        have Y2 := Lib.hid (Y1.out.below hb2)
        clear hb2 l0 c00 c01 f00 f01 O1 B1 Y1
        obtain ⟨l0, c00, c01, f00, f01⟩ := Y2.out.parts
        cases hbt : bitN xs k with
        | true =>
          rw [hbt, if_pos rfl] at HST
          obtain ⟨ns, hns⟩ : ∃ ns, Hid (memsR xs (k + 1) = ns) := ⟨_, Lib.hid rfl⟩
          rw [hns.out] at HST
          generalize memsR xs k = ms at O2 hlen HST ⊢
          clear hbt
          go_wp2_with (at_builtin; refine wpList_append_any _ rfl (.tmp 19) (.tmp 21) _ rfl (w.heap.size + 1) 3 i0 _ 1 8 Tryz.underlying27 hi hz0 hz1 hz2 rfl (by omega) (.slice A1 ms.length c1) ms.length (vi ms) rfl (O2.out.alloc _) (w2.heap.size + 1) (some ⟨w2.heap.size, 0, none⟩) 1 1 [.int .i64 (k : Int)] rfl (mem_reads _ _) (mem_one _) (by simp only [maxLen]; omega) (by omega) (by simp; omega) ?_)
          intro v4 w4 hown4 hg4 _
          obtain ⟨A4, c4, rfl⟩ := own_form hown4
          have hle : ms.length + 1 = ns.length := by rw [HST.out]; simp
          have HO4 : Hid (w4.ownsRow (w.heap.size + 1) 3 1 (.slice A4 ns.length c4) ns.length (vi ns)) := Lib.hid (by rw [HST.out, mem_snoc, List.length_append]; exact hown4)
          have HY4 := Lib.hid ((Y2.out.below (below_a1 _ (.cells #[.int .i64 (k : Int)] 3))).grown hg4 (mem_ge O2.out (by omega)))
          have HB4 : Hid (Below w.heap.size w w4) := Lib.hid ((B2.out.alloc B2.out.size _).grown hg4 (by have := B2.out.size; simp; omega) (fun k hk => by have := (O2.out.lt k hk).1; omega))
          clear hown4 hg4 O2 B2 Y2 l0 c00 c01 f00 f01
          rw [hle]
          go_wp2
          go_roundw
          case rel => exact ⟨k + 1, A4, c4, by omega, by go_num, by rw [hns.out], Lib.hid (by rw [hns.out]; exact HO4.out), HY4, HB4⟩
          case measure => simp [intOf]; omega
        | false =>
          rw [hbt, if_neg (by simp)] at HST
          go_wp2
          go_roundw
          case rel => exact ⟨k + 1, A1, c1, by omega, by go_num, by rw [HST.out], Lib.hid (by rw [HST.out]; exact O2.out), Y2, B2⟩
          case measure => simp [intOf]; omega
      · obtain rfl : k = N := by omega
        have d1 : decide (k < k) = false := by simp
        go_wp2
        go_ret
        exact ⟨A1, c1, rfl, own_monoG (lo' := w.heap.size) hown.out (by omega), hbel.out⟩
end Go.Proofs.YtpgnappddddlpaaGreatDoor
namespace Go.Proofs.YtpgnappddddlpaaGreatDoor
open Go.RowKit
set_option linter.unusedVariables false

set_option maxRecDepth 10000 in
set_option maxHeartbeats 2000000 in
theorem specCopyRun (p s it : Int) (dn : Bool) (A : Option Addr) (n c : Nat) (B : Option Addr) (m d : Nat) (nn : Int) (C : Option Addr) (j k : Nat) (vs ev : List Int) (nx : List Nat) (w : World) (hv : SlI w A n vs) (he : SlI w B m ev) (hx : Rd w C j nx) (hn : n ≤ 2097152) (hm : m ≤ 2097152) (hj : j ≤ 2097152) :
    Calls Tryz.prog 26 #[.agg #[.int .i64 p, .int .i64 s, .int .i64 it, .bool dn, .slice A n c, .slice B m d, .int .i64 nn, .slice C j k]] w (MadeR w p s it dn n m nn j vs ev nx) := by
  obtain ⟨i0, hi, hz0, hz1, hz2⟩ := info_parts Tryz.infoInt
  have RV := Lib.hid (fun W (h : Below w.heap.size w W) => (hv.below h).row.reads)
  have RE := Lib.hid (fun W (h : Below w.heap.size w W) => (he.below h).row.reads)
  have LV := Lib.hid hv.len
  have LE := Lib.hid he.len
  have CX := Lib.hid (fun W (h : Below w.heap.size w W) => specCopySet nn C j k nx W (hx.below h) hj)
  have HJ : Hid (nx.length = j) := Lib.hid hx.len
  unfold MadeS at CX
  rw [HJ.out] at CX
  clear hv he hx
  have H_1 := Lib.hid (g_chain (g_chain (Below.refl w.heap.size w) (below_a1 w (.cells #[.int .i64 p, .int .i64 s, .int .i64 it, .bool dn, .slice A n c, .slice B m d, .int .i64 nn, .slice C j k] 39))) (below_a1 (w.alloc (.cells #[.int .i64 p, .int .i64 s, .int .i64 it, .bool dn, .slice A n c, .slice B m d, .int .i64 nn, .slice C j k] 39)) (.cells #[.int .i64 0, .int .i64 0, .int .i64 0, .bool false, .slice none 0 0, .slice none 0 0, .int .i64 0, .slice none 0 0] 39)))
  have BX_2 : Hid (Blk ((w.alloc (.cells #[.int .i64 p, .int .i64 s, .int .i64 it, .bool dn, .slice A n c, .slice B m d, .int .i64 nn, .slice C j k] 39)).alloc (.cells #[.int .i64 0, .int .i64 0, .int .i64 0, .bool false, .slice none 0 0, .slice none 0 0, .int .i64 0, .slice none 0 0] 39)) (w.heap.size) #[.int .i64 p, .int .i64 s, .int .i64 it, .bool dn, .slice A n c, .slice B m d, .int .i64 nn, .slice C j k] 39) := Lib.hid (by have h := (Blk.new w #[.int .i64 p, .int .i64 s, .int .i64 it, .bool dn, .slice A n c, .slice B m d, .int .i64 nn, .slice C j k] 39).alloc (.cells #[.int .i64 0, .int .i64 0, .int .i64 0, .bool false, .slice none 0 0, .slice none 0 0, .int .i64 0, .slice none 0 0] 39); simpa [Nat.add_assoc] using h)
  have BZ_3 : Hid (Blk ((w.alloc (.cells #[.int .i64 p, .int .i64 s, .int .i64 it, .bool dn, .slice A n c, .slice B m d, .int .i64 nn, .slice C j k] 39)).alloc (.cells #[.int .i64 0, .int .i64 0, .int .i64 0, .bool false, .slice none 0 0, .slice none 0 0, .int .i64 0, .slice none 0 0] 39)) (w.heap.size + 1) #[.int .i64 0, .int .i64 0, .int .i64 0, .bool false, .slice none 0 0, .slice none 0 0, .int .i64 0, .slice none 0 0] 39) := Lib.hid (by have h := Blk.new (w.alloc (.cells #[.int .i64 p, .int .i64 s, .int .i64 it, .bool dn, .slice A n c, .slice B m d, .int .i64 nn, .slice C j k] 39)) #[.int .i64 0, .int .i64 0, .int .i64 0, .bool false, .slice none 0 0, .slice none 0 0, .int .i64 0, .slice none 0 0] 39; simpa [Nat.add_assoc] using h)
  have sz0 : Hid (w.heap.size + 2 ≤ ((w.alloc (.cells #[.int .i64 p, .int .i64 s, .int .i64 it, .bool dn, .slice A n c, .slice B m d, .int .i64 nn, .slice C j k] 39)).alloc (.cells #[.int .i64 0, .int .i64 0, .int .i64 0, .bool false, .slice none 0 0, .slice none 0 0, .int .i64 0, .slice none 0 0] 39)).heap.size) := Lib.hid (by simp)
  go_enter Tryz.func26, Tryz.ntmps26
  have x_4 := BX_2.out.cell (i := 0) rfl
  have x_5 := BX_2.out.cell (i := 1) rfl
  have x_6 := BX_2.out.cell (i := 2) rfl
  have x_7 := BX_2.out.cell (i := 3) rfl
  have x_8 := BX_2.out.cell (i := 4) rfl
  have x_9 := BX_2.out.cell (i := 5) rfl
  have x_10 := BX_2.out.cell (i := 6) rfl
  have x_11 := BX_2.out.cell (i := 7) rfl
  have fz_12 := fun i => BX_2.out.frozen i
  have lt_13 := BX_2.out.lt
  have HLB := Lib.hid (lab_built ((w.alloc (.cells #[.int .i64 p, .int .i64 s, .int .i64 it, .bool dn, .slice A n c, .slice B m d, .int .i64 nn, .slice C j k] 39)).alloc (.cells #[.int .i64 0, .int .i64 0, .int .i64 0, .bool false, .slice none 0 0, .slice none 0 0, .int .i64 0, .slice none 0 0] 39)))
  have hb_14 := below_a1 ((w.alloc (.cells #[.int .i64 p, .int .i64 s, .int .i64 it, .bool dn, .slice A n c, .slice B m d, .int .i64 nn, .slice C j k] 39)).alloc (.cells #[.int .i64 0, .int .i64 0, .int .i64 0, .bool false, .slice none 0 0, .slice none 0 0, .int .i64 0, .slice none 0 0] 39)) (.cells #[] 3)
  have sz_15 : Hid (((w.alloc (.cells #[.int .i64 p, .int .i64 s, .int .i64 it, .bool dn, .slice A n c, .slice B m d, .int .i64 nn, .slice C j k] 39)).alloc (.cells #[.int .i64 0, .int .i64 0, .int .i64 0, .bool false, .slice none 0 0, .slice none 0 0, .int .i64 0, .slice none 0 0] 39)).heap.size = w.heap.size + 1 + 1) := Lib.hid (by simp)
  have sz_16 := Lib.hid BX_2.out.lt
  have sz_17 := Lib.hid BZ_3.out.lt
  have H_18 := Lib.hid (g_chain H_1.out hb_14)
  clear H_1
  have BX_19 := Lib.hid (BX_2.out.below hb_14)
  clear BX_2
  have BZ_20 := Lib.hid (BZ_3.out.below hb_14)
  clear BZ_3
  have sz_21 := Lib.hid (Below.size hb_14)
  clear hb_14
  have sz_22 : Hid (w.heap.size + 1 + 1 + 1 ≤ (((w.alloc (.cells #[.int .i64 p, .int .i64 s, .int .i64 it, .bool dn, .slice A n c, .slice B m d, .int .i64 nn, .slice C j k] 39)).alloc (.cells #[.int .i64 0, .int .i64 0, .int .i64 0, .bool false, .slice none 0 0, .slice none 0 0, .int .i64 0, .slice none 0 0] 39)).alloc (.cells #[] 3)).heap.size) := Lib.hid (by simp)
  go_wp2_with (at_builtin; refine wpList_append_any _ rfl (.tmp 3) (.tmp 5) 27 rfl (w.heap.size + 1 + 1) 3 i0 _ 1 8 Tryz.underlying27 hi hz0 hz1 hz2 rfl (by omega) (.slice (some ⟨w.heap.size + 1 + 1, 0, none⟩) 0 0) 0 [] rfl (by have h := HLB.out; simpa using h) _ A n c (vi vs) rfl (RV.out _ H_18.out) (vi_one vs) (by simp only [maxLen]; omega) (by omega) (by simp) ?_)
  intro vv wv hown hg hat
  have HGG := Lib.hid hg
  have HOW := Lib.hid hown
  obtain ⟨Av, cv, rfl⟩ := lab_form hown
  clear x_4 x_5 x_6 x_7 x_8 x_9 x_10 x_11 fz_12 lt_13 hown hg hat
  have H_23 := Lib.hid (H_18.out.grown HGG.out H_18.out.size (fun k hk => by have hk2 : some (w.heap.size + 1 + 1) = some k := hk; injection hk2 with hk2; have := sz0.out; have := sz_15.out; have := sz_16.out; have := sz_17.out; have := sz_21.out; have := sz_22.out; omega))
  clear H_18
  have BX_24 := Lib.hid (BX_19.out.grown HGG.out (by show some (w.heap.size + 1 + 1) ≠ some _; intro e; injection e with e; have := sz0.out; have := sz_15.out; have := sz_16.out; have := sz_17.out; have := sz_21.out; have := sz_22.out; omega))
  clear BX_19
  have BZ_25 := Lib.hid (BZ_20.out.grown HGG.out (by show some (w.heap.size + 1 + 1) ≠ some _; intro e; injection e with e; have := sz0.out; have := sz_15.out; have := sz_16.out; have := sz_17.out; have := sz_21.out; have := sz_22.out; omega))
  clear BZ_20
  have sz_26 := Lib.hid (World.grownBy.size HGG.out)
  have Ov_27 := Lib.hid ((by have h := HOW.out; simpa using h : wv.ownsRow (w.heap.size + 1 + 1) 3 1 (.slice Av n cv) n (vi vs)))
  clear HGG HOW HLB
  have x_28 := BX_24.out.cell (i := 0) rfl
  have x_29 := BX_24.out.cell (i := 1) rfl
  have x_30 := BX_24.out.cell (i := 2) rfl
  have x_31 := BX_24.out.cell (i := 3) rfl
  have x_32 := BX_24.out.cell (i := 4) rfl
  have x_33 := BX_24.out.cell (i := 5) rfl
  have x_34 := BX_24.out.cell (i := 6) rfl
  have x_35 := BX_24.out.cell (i := 7) rfl
  have fz_36 := fun i => BX_24.out.frozen i
  have lt_37 := BX_24.out.lt
  have hg_38 := grown_cell wv (w.heap.size) 4 (.slice Av n cv)
  have H_39 := Lib.hid (H_23.out.grown hg_38 H_23.out.size (fun j hj => by injection hj with hj; have := sz0.out; have := sz_15.out; have := sz_16.out; have := sz_17.out; have := sz_21.out; have := sz_22.out; have := sz_26.out; omega))
  clear H_23
  have BZ_40 := Lib.hid (BZ_25.out.grown hg_38 (by intro e; injection e with e; have := sz0.out; have := sz_15.out; have := sz_16.out; have := sz_17.out; have := sz_21.out; have := sz_22.out; have := sz_26.out; omega))
  clear BZ_25
  have Ov_41 := Lib.hid (own_kept Ov_27.out hg_38 (own_kind Ov_27.out BX_24.out (by decide)))
  clear Ov_27
  have BX_42 : Hid (Blk (wv.setCell ⟨w.heap.size, 4, none⟩ (.slice Av n cv)) (w.heap.size) #[.int .i64 p, .int .i64 s, .int .i64 it, .bool dn, .slice Av n cv, .slice B m d, .int .i64 nn, .slice C j k] 39) := Lib.hid (Blk.set (BX_24.out) 4 (.slice Av n cv))
  clear BX_24
  have sz_43 := Lib.hid (World.grownBy.size hg_38)
  clear hg_38
  have LTV := Lib.hid Ov_41.out.lt
  have HLB := Lib.hid (lab_built (wv.setCell ⟨w.heap.size, 4, none⟩ (.slice Av n cv)))
  have hb_44 := below_a1 (wv.setCell ⟨w.heap.size, 4, none⟩ (.slice Av n cv)) (.cells #[] 3)
  have sz_45 : Hid ((wv.setCell ⟨w.heap.size, 4, none⟩ (.slice Av n cv)).heap.size = wv.heap.size) := Lib.hid (by simp)
  have sz_46 := Lib.hid BX_42.out.lt
  have sz_47 := Lib.hid BZ_40.out.lt
  have LT_48 := Lib.hid Ov_41.out.lt
  have H_49 := Lib.hid (g_chain H_39.out hb_44)
  clear H_39
  have BX_50 := Lib.hid (BX_42.out.below hb_44)
  clear BX_42
  have BZ_51 := Lib.hid (BZ_40.out.below hb_44)
  clear BZ_40
  have Ov_52 := Lib.hid (own_below Ov_41.out hb_44)
  clear Ov_41
  have sz_53 := Lib.hid (Below.size hb_44)
  clear hb_44
  have sz_54 : Hid (wv.heap.size + 1 ≤ ((wv.setCell ⟨w.heap.size, 4, none⟩ (.slice Av n cv)).alloc (.cells #[] 3)).heap.size) := Lib.hid (by simp)
  go_wp2_with (at_builtin; refine wpList_append_any _ rfl (.tmp 8) (.tmp 10) 27 rfl (wv.heap.size) 3 i0 _ 1 8 Tryz.underlying27 hi hz0 hz1 hz2 rfl (by omega) (.slice (some ⟨wv.heap.size, 0, none⟩) 0 0) 0 [] rfl (by have h := HLB.out; simpa using h) _ B m d (vi ev) rfl (RE.out _ H_49.out) (vi_one ev) (by simp only [maxLen]; omega) (by omega) (by simp) ?_)
  intro ve we hown hg hat
  have HGG := Lib.hid hg
  have HOW := Lib.hid hown
  obtain ⟨Ae, ce, rfl⟩ := lab_form hown
  clear x_28 x_29 x_30 x_31 x_32 x_33 x_34 x_35 fz_36 lt_37 hown hg hat
  have H_55 := Lib.hid (H_49.out.grown HGG.out H_49.out.size (fun k hk => by have hk2 : some (wv.heap.size) = some k := hk; injection hk2 with hk2; have := sz0.out; have := sz_15.out; have := sz_16.out; have := sz_17.out; have := sz_21.out; have := sz_22.out; have := sz_26.out; have := sz_43.out; have := sz_45.out; have := sz_46.out; have := sz_47.out; have := sz_53.out; have := sz_54.out; omega))
  clear H_49
  have BX_56 := Lib.hid (BX_50.out.grown HGG.out (by show some (wv.heap.size) ≠ some _; intro e; injection e with e; have := sz0.out; have := sz_15.out; have := sz_16.out; have := sz_17.out; have := sz_21.out; have := sz_22.out; have := sz_26.out; have := sz_43.out; have := sz_45.out; have := sz_46.out; have := sz_47.out; have := sz_53.out; have := sz_54.out; omega))
  clear BX_50
  have BZ_57 := Lib.hid (BZ_51.out.grown HGG.out (by show some (wv.heap.size) ≠ some _; intro e; injection e with e; have := sz0.out; have := sz_15.out; have := sz_16.out; have := sz_17.out; have := sz_21.out; have := sz_22.out; have := sz_26.out; have := sz_43.out; have := sz_45.out; have := sz_46.out; have := sz_47.out; have := sz_53.out; have := sz_54.out; omega))
  clear BZ_51
  have Ov_58 := Lib.hid (Ov_52.out.kept HGG.out (own_old (g := wv.heap.size) LT_48.out (by have := sz0.out; have := sz_15.out; have := sz_16.out; have := sz_17.out; have := sz_21.out; have := sz_22.out; have := sz_26.out; have := sz_43.out; have := sz_45.out; have := sz_46.out; have := sz_47.out; have := sz_53.out; have := sz_54.out; omega)))
  clear Ov_52
  have sz_59 := Lib.hid (World.grownBy.size HGG.out)
  have Oe_60 := Lib.hid ((by have h := HOW.out; simpa using h : we.ownsRow (wv.heap.size) 3 1 (.slice Ae m ce) m (vi ev)))
  have AP := Lib.hid (own_time LTV.out Oe_60.out (by have := sz0.out; have := sz_15.out; have := sz_16.out; have := sz_17.out; have := sz_21.out; have := sz_22.out; have := sz_26.out; have := sz_43.out; have := sz_45.out; have := sz_46.out; have := sz_47.out; have := sz_53.out; have := sz_54.out; have := sz_59.out; omega))
  clear HGG HOW HLB
  have x_61 := BX_56.out.cell (i := 0) rfl
  have x_62 := BX_56.out.cell (i := 1) rfl
  have x_63 := BX_56.out.cell (i := 2) rfl
  have x_64 := BX_56.out.cell (i := 3) rfl
  have x_65 := BX_56.out.cell (i := 4) rfl
  have x_66 := BX_56.out.cell (i := 5) rfl
  have x_67 := BX_56.out.cell (i := 6) rfl
  have x_68 := BX_56.out.cell (i := 7) rfl
  have fz_69 := fun i => BX_56.out.frozen i
  have lt_70 := BX_56.out.lt
  have hg_71 := grown_cell we (w.heap.size) 5 (.slice Ae m ce)
  have H_72 := Lib.hid (H_55.out.grown hg_71 H_55.out.size (fun j hj => by injection hj with hj; have := sz0.out; have := sz_15.out; have := sz_16.out; have := sz_17.out; have := sz_21.out; have := sz_22.out; have := sz_26.out; have := sz_43.out; have := sz_45.out; have := sz_46.out; have := sz_47.out; have := sz_53.out; have := sz_54.out; have := sz_59.out; omega))
  clear H_55
  have BZ_73 := Lib.hid (BZ_57.out.grown hg_71 (by intro e; injection e with e; have := sz0.out; have := sz_15.out; have := sz_16.out; have := sz_17.out; have := sz_21.out; have := sz_22.out; have := sz_26.out; have := sz_43.out; have := sz_45.out; have := sz_46.out; have := sz_47.out; have := sz_53.out; have := sz_54.out; have := sz_59.out; omega))
  clear BZ_57
  have Ov_74 := Lib.hid (own_kept Ov_58.out hg_71 (own_kind Ov_58.out BX_56.out (by decide)))
  clear Ov_58
  have Oe_75 := Lib.hid (own_kept Oe_60.out hg_71 (own_kind Oe_60.out BX_56.out (by decide)))
  clear Oe_60
  have BX_76 : Hid (Blk (we.setCell ⟨w.heap.size, 5, none⟩ (.slice Ae m ce)) (w.heap.size) #[.int .i64 p, .int .i64 s, .int .i64 it, .bool dn, .slice Av n cv, .slice Ae m ce, .int .i64 nn, .slice C j k] 39) := Lib.hid (Blk.set (BX_56.out) 5 (.slice Ae m ce))
  clear BX_56
  have sz_77 := Lib.hid (World.grownBy.size hg_71)
  clear hg_71
  go_wp2_with fail
  refine (CX.out _ H_72.out).mono ?_
  rintro e w1 ⟨Ax, cx, rfl, ho, hb⟩
  clear x_61
  clear x_62
  clear x_63
  clear x_64
  clear x_65
  clear x_66
  clear x_67
  clear x_68
  clear fz_69
  clear lt_70
  have H_78 := Lib.hid (g_chain H_72.out hb)
  clear H_72
  have BX_79 := Lib.hid (BX_76.out.below hb)
  clear BX_76
  have BZ_80 := Lib.hid (BZ_73.out.below hb)
  clear BZ_73
  have Ov_81 := Lib.hid (own_below Ov_74.out hb)
  clear Ov_74
  have Oe_82 := Lib.hid (own_below Oe_75.out hb)
  clear Oe_75
  have sz_83 := Lib.hid (Below.size hb)
  have Ox_84 := Lib.hid (ho)
  clear ho hb
  have x_85 := BX_79.out.cell (i := 0) rfl
  have x_86 := BX_79.out.cell (i := 1) rfl
  have x_87 := BX_79.out.cell (i := 2) rfl
  have x_88 := BX_79.out.cell (i := 3) rfl
  have x_89 := BX_79.out.cell (i := 4) rfl
  have x_90 := BX_79.out.cell (i := 5) rfl
  have x_91 := BX_79.out.cell (i := 6) rfl
  have x_92 := BX_79.out.cell (i := 7) rfl
  have fz_93 := fun i => BX_79.out.frozen i
  have lt_94 := BX_79.out.lt
  have x_95 := BZ_80.out.cell (i := 0) rfl
  have x_96 := BZ_80.out.cell (i := 1) rfl
  have x_97 := BZ_80.out.cell (i := 2) rfl
  have x_98 := BZ_80.out.cell (i := 3) rfl
  have x_99 := BZ_80.out.cell (i := 4) rfl
  have x_100 := BZ_80.out.cell (i := 5) rfl
  have x_101 := BZ_80.out.cell (i := 6) rfl
  have x_102 := BZ_80.out.cell (i := 7) rfl
  have fz_103 := fun i => BZ_80.out.frozen i
  have lt_104 := BZ_80.out.lt
  go_wp2
  have hg_105 := (grown_cell w1 (w.heap.size) 6 (.int .i64 nn)).trans (grown_cell (w1.setCell ⟨w.heap.size, 6, none⟩ (.int .i64 nn)) (w.heap.size) 7 (.slice Ax j cx))
  have H_106 := Lib.hid (H_78.out.grown hg_105 H_78.out.size (fun j hj => by injection hj with hj; have := sz0.out; have := sz_15.out; have := sz_16.out; have := sz_17.out; have := sz_21.out; have := sz_22.out; have := sz_26.out; have := sz_43.out; have := sz_45.out; have := sz_46.out; have := sz_47.out; have := sz_53.out; have := sz_54.out; have := sz_59.out; have := sz_77.out; have := sz_83.out; omega))
  clear H_78
  have BZ_107 := Lib.hid (BZ_80.out.grown hg_105 (by intro e; injection e with e; have := sz0.out; have := sz_15.out; have := sz_16.out; have := sz_17.out; have := sz_21.out; have := sz_22.out; have := sz_26.out; have := sz_43.out; have := sz_45.out; have := sz_46.out; have := sz_47.out; have := sz_53.out; have := sz_54.out; have := sz_59.out; have := sz_77.out; have := sz_83.out; omega))
  clear BZ_80
  have Ov_108 := Lib.hid (own_kept Ov_81.out hg_105 (own_kind Ov_81.out BX_79.out (by decide)))
  clear Ov_81
  have Oe_109 := Lib.hid (own_kept Oe_82.out hg_105 (own_kind Oe_82.out BX_79.out (by decide)))
  clear Oe_82
  have Ox_110 := Lib.hid (own_kept Ox_84.out hg_105 (own_kind Ox_84.out BX_79.out (by decide)))
  clear Ox_84
  have BX_111 : Hid (Blk ((w1.setCell ⟨w.heap.size, 6, none⟩ (.int .i64 nn)).setCell ⟨w.heap.size, 7, none⟩ (.slice Ax j cx)) (w.heap.size) #[.int .i64 p, .int .i64 s, .int .i64 it, .bool dn, .slice Av n cv, .slice Ae m ce, .int .i64 nn, .slice Ax j cx] 39) := Lib.hid (Blk.set (Blk.set (BX_79.out) 6 (.int .i64 nn)) 7 (.slice Ax j cx))
  clear BX_79
  have sz_112 := Lib.hid (World.grownBy.size hg_105)
  clear hg_105
  have hg_113 := (((((((grown_cell ((w1.setCell ⟨w.heap.size, 6, none⟩ (.int .i64 nn)).setCell ⟨w.heap.size, 7, none⟩ (.slice Ax j cx)) (w.heap.size + 1) 0 (.int .i64 p)).trans (grown_cell (((w1.setCell ⟨w.heap.size, 6, none⟩ (.int .i64 nn)).setCell ⟨w.heap.size, 7, none⟩ (.slice Ax j cx)).setCell ⟨w.heap.size + 1, 0, none⟩ (.int .i64 p)) (w.heap.size + 1) 1 (.int .i64 s))).trans (grown_cell ((((w1.setCell ⟨w.heap.size, 6, none⟩ (.int .i64 nn)).setCell ⟨w.heap.size, 7, none⟩ (.slice Ax j cx)).setCell ⟨w.heap.size + 1, 0, none⟩ (.int .i64 p)).setCell ⟨w.heap.size + 1, 1, none⟩ (.int .i64 s)) (w.heap.size + 1) 2 (.int .i64 it))).trans (grown_cell (((((w1.setCell ⟨w.heap.size, 6, none⟩ (.int .i64 nn)).setCell ⟨w.heap.size, 7, none⟩ (.slice Ax j cx)).setCell ⟨w.heap.size + 1, 0, none⟩ (.int .i64 p)).setCell ⟨w.heap.size + 1, 1, none⟩ (.int .i64 s)).setCell ⟨w.heap.size + 1, 2, none⟩ (.int .i64 it)) (w.heap.size + 1) 3 (.bool dn))).trans (grown_cell ((((((w1.setCell ⟨w.heap.size, 6, none⟩ (.int .i64 nn)).setCell ⟨w.heap.size, 7, none⟩ (.slice Ax j cx)).setCell ⟨w.heap.size + 1, 0, none⟩ (.int .i64 p)).setCell ⟨w.heap.size + 1, 1, none⟩ (.int .i64 s)).setCell ⟨w.heap.size + 1, 2, none⟩ (.int .i64 it)).setCell ⟨w.heap.size + 1, 3, none⟩ (.bool dn)) (w.heap.size + 1) 4 (.slice Av n cv))).trans (grown_cell (((((((w1.setCell ⟨w.heap.size, 6, none⟩ (.int .i64 nn)).setCell ⟨w.heap.size, 7, none⟩ (.slice Ax j cx)).setCell ⟨w.heap.size + 1, 0, none⟩ (.int .i64 p)).setCell ⟨w.heap.size + 1, 1, none⟩ (.int .i64 s)).setCell ⟨w.heap.size + 1, 2, none⟩ (.int .i64 it)).setCell ⟨w.heap.size + 1, 3, none⟩ (.bool dn)).setCell ⟨w.heap.size + 1, 4, none⟩ (.slice Av n cv)) (w.heap.size + 1) 5 (.slice Ae m ce))).trans (grown_cell ((((((((w1.setCell ⟨w.heap.size, 6, none⟩ (.int .i64 nn)).setCell ⟨w.heap.size, 7, none⟩ (.slice Ax j cx)).setCell ⟨w.heap.size + 1, 0, none⟩ (.int .i64 p)).setCell ⟨w.heap.size + 1, 1, none⟩ (.int .i64 s)).setCell ⟨w.heap.size + 1, 2, none⟩ (.int .i64 it)).setCell ⟨w.heap.size + 1, 3, none⟩ (.bool dn)).setCell ⟨w.heap.size + 1, 4, none⟩ (.slice Av n cv)).setCell ⟨w.heap.size + 1, 5, none⟩ (.slice Ae m ce)) (w.heap.size + 1) 6 (.int .i64 nn))).trans (grown_cell (((((((((w1.setCell ⟨w.heap.size, 6, none⟩ (.int .i64 nn)).setCell ⟨w.heap.size, 7, none⟩ (.slice Ax j cx)).setCell ⟨w.heap.size + 1, 0, none⟩ (.int .i64 p)).setCell ⟨w.heap.size + 1, 1, none⟩ (.int .i64 s)).setCell ⟨w.heap.size + 1, 2, none⟩ (.int .i64 it)).setCell ⟨w.heap.size + 1, 3, none⟩ (.bool dn)).setCell ⟨w.heap.size + 1, 4, none⟩ (.slice Av n cv)).setCell ⟨w.heap.size + 1, 5, none⟩ (.slice Ae m ce)).setCell ⟨w.heap.size + 1, 6, none⟩ (.int .i64 nn)) (w.heap.size + 1) 7 (.slice Ax j cx))
  have H_114 := Lib.hid (H_106.out.grown hg_113 H_106.out.size (fun j hj => by injection hj with hj; have := sz0.out; have := sz_15.out; have := sz_16.out; have := sz_17.out; have := sz_21.out; have := sz_22.out; have := sz_26.out; have := sz_43.out; have := sz_45.out; have := sz_46.out; have := sz_47.out; have := sz_53.out; have := sz_54.out; have := sz_59.out; have := sz_77.out; have := sz_83.out; have := sz_112.out; omega))
  clear H_106
  have BX_115 := Lib.hid (BX_111.out.grown hg_113 (by intro e; injection e with e; have := sz0.out; have := sz_15.out; have := sz_16.out; have := sz_17.out; have := sz_21.out; have := sz_22.out; have := sz_26.out; have := sz_43.out; have := sz_45.out; have := sz_46.out; have := sz_47.out; have := sz_53.out; have := sz_54.out; have := sz_59.out; have := sz_77.out; have := sz_83.out; have := sz_112.out; omega))
  clear BX_111
  have Ov_116 := Lib.hid (own_kept Ov_108.out hg_113 (own_kind Ov_108.out BZ_107.out (by decide)))
  clear Ov_108
  have Oe_117 := Lib.hid (own_kept Oe_109.out hg_113 (own_kind Oe_109.out BZ_107.out (by decide)))
  clear Oe_109
  have Ox_118 := Lib.hid (own_kept Ox_110.out hg_113 (own_kind Ox_110.out BZ_107.out (by decide)))
  clear Ox_110
  have BZ_119 : Hid (Blk ((((((((((w1.setCell ⟨w.heap.size, 6, none⟩ (.int .i64 nn)).setCell ⟨w.heap.size, 7, none⟩ (.slice Ax j cx)).setCell ⟨w.heap.size + 1, 0, none⟩ (.int .i64 p)).setCell ⟨w.heap.size + 1, 1, none⟩ (.int .i64 s)).setCell ⟨w.heap.size + 1, 2, none⟩ (.int .i64 it)).setCell ⟨w.heap.size + 1, 3, none⟩ (.bool dn)).setCell ⟨w.heap.size + 1, 4, none⟩ (.slice Av n cv)).setCell ⟨w.heap.size + 1, 5, none⟩ (.slice Ae m ce)).setCell ⟨w.heap.size + 1, 6, none⟩ (.int .i64 nn)).setCell ⟨w.heap.size + 1, 7, none⟩ (.slice Ax j cx)) (w.heap.size + 1) #[.int .i64 p, .int .i64 s, .int .i64 it, .bool dn, .slice Av n cv, .slice Ae m ce, .int .i64 nn, .slice Ax j cx] 39) := Lib.hid (Blk.set (Blk.set (Blk.set (Blk.set (Blk.set (Blk.set (Blk.set (Blk.set (BZ_107.out) 0 (.int .i64 p)) 1 (.int .i64 s)) 2 (.int .i64 it)) 3 (.bool dn)) 4 (.slice Av n cv)) 5 (.slice Ae m ce)) 6 (.int .i64 nn)) 7 (.slice Ax j cx))
  clear BZ_107
  have sz_120 := Lib.hid (World.grownBy.size hg_113)
  clear hg_113
  refine bodyPost_ret (v := .agg #[.int .i64 p, .int .i64 s, .int .i64 it, .bool dn, .slice Av n cv, .slice Ae m ce, .int .i64 nn, .slice Ax j cx]) (by simp [results, Tryz.results26, go_sem, x_95, x_96, x_97, x_98, x_99, x_100, x_101, x_102]) rfl ?_
  exact ⟨Av, cv, Ae, ce, Ax, cx, rfl, ⟨own_monoG Ov_116.out (by have := sz0.out; have := sz_15.out; have := sz_16.out; have := sz_17.out; have := sz_21.out; have := sz_22.out; have := sz_26.out; have := sz_43.out; have := sz_45.out; have := sz_46.out; have := sz_47.out; have := sz_53.out; have := sz_54.out; have := sz_59.out; have := sz_77.out; have := sz_83.out; have := sz_112.out; have := sz_120.out; omega), own_monoG Oe_117.out (by have := sz0.out; have := sz_15.out; have := sz_16.out; have := sz_17.out; have := sz_21.out; have := sz_22.out; have := sz_26.out; have := sz_43.out; have := sz_45.out; have := sz_46.out; have := sz_47.out; have := sz_53.out; have := sz_54.out; have := sz_59.out; have := sz_77.out; have := sz_83.out; have := sz_112.out; have := sz_120.out; omega), own_monoG Ox_118.out (by have := sz0.out; have := sz_15.out; have := sz_16.out; have := sz_17.out; have := sz_21.out; have := sz_22.out; have := sz_26.out; have := sz_43.out; have := sz_45.out; have := sz_46.out; have := sz_47.out; have := sz_53.out; have := sz_54.out; have := sz_59.out; have := sz_77.out; have := sz_83.out; have := sz_112.out; have := sz_120.out; omega), AP.out⟩, H_114.out⟩
end Go.Proofs.YtpgnappddddlpaaGreatDoor
