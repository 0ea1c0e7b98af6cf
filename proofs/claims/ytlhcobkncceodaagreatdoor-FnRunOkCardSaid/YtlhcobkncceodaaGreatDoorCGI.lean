/- The contract of the model's function that sets or clears a vertex's bit, and of the two that call it. // The contracts of the model's JobOk, FirstVal and FirstEdge. Condition: a divisor is not 0 (paid by the test). // The contract of the model's function that asks whether a graph is valid. Condition: at most 2^20 edges. // Lists of members in memory: what a call that makes one leaves (plain lemmas over the model; no condition). // The contract of the model's function that lists the members of a set. // The contract of the model's function that makes a set. // What stands while a new run is made, and what it is, as data (plain lemmas; no condition). // The numbers of edges at the vertices, as data; the contracts of the model's and the program's functions that count them. // Parted from YtlhcobkncceodaaGreatDoorDegs: the contracts of the functions that only their own laws reach. -/
import Derived.Test.YtlhcobkncceodaaGreatDoorKSetHasS
import Derived.Test.YtlhcobkncceodaaGreatDoorCGH
import Derived.Test.YtlhcobkncceodaaGreatDoorCGE
import Derived.Test.YtlhcobkncceodaaGreatDoorCGB
import Derived.Test.YtlhcobkncceodaaGreatDoorCGC
import Derived.Test.YtlhcobkncceodaaGreatDoorCGA
import Derived.Test.YtlhcobkncceodaaGreatDoorCGD
namespace Go.Proofs.YtlhcobkncceodaaGreatDoor
open Go.RowKit
set_option linter.unusedVariables false

theorem and255_all : ∀ x : Fin 256, bits .and .i64 (x.val : Int) 255 = (x.val : Int) := by decide +kernel
theorem and255 {y : Nat} (h : y < 256) : bits .and .i64 (y : Int) 255 = (y : Int) := and255_all ⟨y, h⟩
set_option maxRecDepth 10000 in
set_option maxHeartbeats 8000000 in
theorem specTurnOn (N v : Int) (A : Option Addr) (n c : Nat) (xs : List Nat) (w : World) (hr : Rd w A n xs) (hn : n ≤ 2097152) (hv : (Lit.int .i64 v).wf = true) :
    Calls Tryz.prog 96 #[.agg #[.int .i64 N, .slice A n c], .int .i64 v, .bool true] w (MadeS w (withN N xs) (withX N xs v)) := by
  have HL := Lib.hid hr.len
  have HR := Lib.hid hr
  have HSM := Lib.hid hr.small
  clear hr
  obtain ⟨hv1, hv2⟩ := bounds_i64 hv
  have C1 := Lib.hid (fun W (h : Below w.heap.size w W) => specSetOk N A n c xs W (HR.out.below h) hn)
  have C2 := Lib.hid (fun W (h : Below w.heap.size w W) => by have h9 := specCopySet N A n c xs W (HR.out.below h) hn; unfold MadeS at h9; rw [HL.out] at h9; exact h9)
  have C3 := Lib.hid (fun W (h : Below w.heap.size w W) => specHas N v A n c xs W (HR.out.below h) hn hv)
  have HB0 := Lib.hid ((SBx.new w N A n c).below (below_a1 _ (.cells #[.int .i64 0, .slice none 0 0] 30)))
  have HB1 := Lib.hid (SBx.new1 w (.cells #[.int .i64 N, .slice A n c] 30) 0 none 0 0)
  cases hok : setB N xs with
  | false =>
    have H1 : Hid (withN N xs = 0 ∧ withX N xs v = []) := Lib.hid (by unfold withN withX; rw [hok]; exact ⟨rfl, rfl⟩)
    rw [H1.out.1, H1.out.2]
    rw [hok] at C1
    go_enter Tryz.func96, Tryz.ntmps96
    go_wp2_with fail
    refine (C1.out _ (below_a2 _ _ _)).mono ?_
    rintro e w1 ⟨rfl, hb1⟩
    have X1 := Lib.hid (HB1.out.below hb1)
    have HBW := Lib.hid (s_chain (below_a2 _ _ _) hb1)
    clear hb1 HB0 HB1
    obtain ⟨l1, c10, c11, f10, f11⟩ := X1.out.parts
    go_wp2
    refine bodyPost_ret (v := .agg #[.int .i64 0, .slice none 0 0]) (by simp [results, Tryz.results96, go_sem, c10, c11]) rfl ?_
    exact ⟨none, 0, rfl, own_nil _ _, below_set2 HBW.out (by omega) _ _⟩
  | true =>
    have hdim := setB_dim hok
    obtain ⟨N, rfl⟩ : ∃ k : Nat, N = (k : Int) := ⟨N.toNat, by omega⟩
    rw [hok] at C1
    have hN : N ≤ 150 := by omega
    have HLN : Hid (n = bytesN N) := Lib.hid (by have := hdim.2.2; rw [Int.toNat_natCast, HL.out] at this; exact this)
    have H1 : Hid (withN (N : Int) xs = (N : Int)) := Lib.hid (by unfold withN; rw [hok]; rfl)
    rw [H1.out]
    clear hdim
    by_cases hin : 0 ≤ v ∧ v < (N : Int)
    · obtain ⟨v, rfl⟩ : ∃ k : Nat, v = (k : Int) := ⟨v.toNat, by omega⟩
      have H2 : Hid (withX (N : Int) xs (v : Int) = addV xs v) := Lib.hid (by unfold withX; rw [hok, if_pos rfl, if_pos hin, Int.toNat_natCast])
      rw [H2.out]
      have H3 : hasB (N : Int) xs (v : Int) = bitN xs v := by unfold hasB; rw [hok, Int.toNat_natCast, decide_eq_true hin.1, decide_eq_true hin.2]; rfl
      rw [H3] at C3
      clear H3
      have d1 : decide ((v : Int) < (0 : Int)) = false := by simp
      have d2 : decide ((N : Int) ≤ (v : Int)) = false := by simp; omega
      have d3 : decide (N ≤ v) = false := by simp; omega
      have hvl : v / 8 < n := by rw [HLN.out]; exact lt_bytes (by omega)
      obtain ⟨x, hxs⟩ : ∃ x, xs[v / 8]? = some x := ⟨_, List.getElem?_eq_getElem (by rw [HL.out]; exact hvl)⟩
      have hx256 : x < 256 := HSM.out x (List.mem_of_getElem? hxs)
      have hbt : bitN xs v = x.testBit (v % 8) := by unfold bitN; rw [List.getD_eq_getElem?_getD, hxs]; rfl
      have hadd : addV xs v = xs.set (v / 8) (onN x (v % 8)) := by unfold addV; rw [List.getD_eq_getElem?_getD, hxs]; rfl
      have hvN : v < N := by omega
      clear hok hin
      cases ht : x.testBit (v % 8) with
      | true =>
        rw [hbt, ht] at C3
        have HSAME : Hid (addV xs v = xs) := Lib.hid (by
          rw [hadd, (on_yes hx256 (by omega) ht).1]
          exact List.ext_getElem? fun i => by
            rw [List.getElem?_set]
            by_cases hi : v / 8 = i
            · subst hi; rw [if_pos rfl, if_pos (by rw [HL.out]; exact hvl), hxs]
            · rw [if_neg hi])
        rw [HSAME.out]
        clear hadd hbt ht hxs hvl
        go_enter Tryz.func96, Tryz.ntmps96
        go_wp2_with fail
        refine (C1.out _ (below_a2 _ _ _)).mono ?_
        rintro e w1 ⟨rfl, hb1⟩
        have X0 := Lib.hid (HB0.out.below hb1)
        have X1 := Lib.hid (HB1.out.below hb1)
        have HBW := Lib.hid (s_chain (below_a2 _ _ _) hb1)
        clear hb1 HB0 HB1
        obtain ⟨l0, c00, c01, f00, f01⟩ := X0.out.parts
        go_wp2_with fail
        refine (C2.out _ HBW.out).mono ?_
        rintro e w2 ⟨A2, c2, rfl, ho2, hb2⟩
        have Y0 := Lib.hid ((X0.out.below hb2).below (below_a1 _ (.cells #[.int .i64 (N : Int), .slice A2 n c2] 30)))
        have Y1 := Lib.hid ((X1.out.below hb2).below (below_a1 _ (.cells #[.int .i64 (N : Int), .slice A2 n c2] 30)))
        have Y2 := Lib.hid (SBx.new w2 (N : Int) A2 n c2)
        have HBW2 := Lib.hid (s_chain (s_chain HBW.out hb2) (below_a1 _ (.cells #[.int .i64 (N : Int), .slice A2 n c2] 30)))
        have O2 := Lib.hid (own_below ho2 (below_a1 _ (.cells #[.int .i64 (N : Int), .slice A2 n c2] 30)))
        have HRG := Lib.hid ho2.lt
        have hsz := X1.out.parts.1
        have hsz2 := hb2.size
        clear hb2 ho2 l0 c00 c01 f00 f01
        obtain ⟨l0, c00, c01, f00, f01⟩ := Y0.out.parts
        go_wp2_with fail
        refine (C3.out _ HBW2.out).mono ?_
        rintro e w3 ⟨rfl, hb3⟩
        have O3 := Lib.hid (own_below O2.out hb3)
        have Z1 := Lib.hid (Y1.out.below hb3)
        have Z2 := Lib.hid (Y2.out.below hb3)
        have HBW3 := Lib.hid (s_chain HBW2.out hb3)
        clear hb3 l0 c00 c01 f00 f01
        obtain ⟨l1, c10, c11, f10, f11⟩ := Z1.out.parts
        obtain ⟨l2, c20, c21, f20, f21⟩ := Z2.out.parts
        go_wp2
        refine bodyPost_ret (v := .agg #[.int .i64 (N : Int), .slice A2 n c2]) (by simp [results, Tryz.results96, go_sem, c10, c11]) rfl ?_
        refine ⟨A2, c2, by rw [HL.out], ?_, below_set2 HBW3.out (by omega) _ _⟩
        rw [HL.out]
        exact own_monoG (own_set2 O3.out (by omega) _ _) (by omega)
      | false =>
        rw [hbt, ht] at C3
        have CB := Lib.hid (fun W => specBit v W (by omega))
        obtain ⟨b, off, x', rfl, hbw, hx', hxs', hc⟩ := HR.out.at_ hvl
        obtain rfl : x' = x := by have h9 := hxs'.out.symm.trans hxs; injection h9
        have HADD := Lib.hid hadd
        rw [(on_no hx256 (by omega) ht).1] at HADD
        obtain ⟨hq1, hq2⟩ := pow8 (k := v % 8) (by omega)
        have hle : x' + 2 ^ (v % 8) < 256 := (on_no hx256 (by omega) ht).2.1
        generalize 2 ^ (v % 8) = p at CB HADD hq1 hq2 hle
        have hdv := s_div v
        have hdb : v / 8 ≤ 150 := by omega
        have hle2 : (x' + p) < 256 := by omega
        have HLEN : Hid ((addV xs v).length = n) := Lib.hid ((addV_len xs v).trans HL.out)
        have hand := and255 hle2
        have hval : (x' : Int) + (p : Int) = (((x' + p) : Nat) : Int) := by omega
        generalize (x' + p) = y at HADD hand hval hle2
        generalize v / 8 = d at hdv hvl hdb HADD hc
        have hwd : IntKind.i64.wrap (d : Int) = (d : Int) := IntWalk.i64_in _ (by omega)
        generalize addV xs v = ys at HADD HLEN ⊢
        clear hadd hbt ht hxs hxs'
        go_enter Tryz.func96, Tryz.ntmps96
        go_wp2_with fail
        refine (C1.out _ (below_a2 _ _ _)).mono ?_
        rintro e w1 ⟨rfl, hb1⟩
        have X0 := Lib.hid (HB0.out.below hb1)
        have X1 := Lib.hid (HB1.out.below hb1)
        have HBW := Lib.hid (s_chain (below_a2 _ _ _) hb1)
        clear hb1 HB0 HB1
        obtain ⟨l0, c00, c01, f00, f01⟩ := X0.out.parts
        go_wp2_with fail
        refine (C2.out _ HBW.out).mono ?_
        rintro e w2 ⟨A2, c2, rfl, ho2, hb2⟩
        have Y0 := Lib.hid ((X0.out.below hb2).below (below_a1 _ (.cells #[.int .i64 (N : Int), .slice A2 n c2] 30)))
        have Y1 := Lib.hid ((X1.out.below hb2).below (below_a1 _ (.cells #[.int .i64 (N : Int), .slice A2 n c2] 30)))
        have Y2 := Lib.hid (SBx.new w2 (N : Int) A2 n c2)
        have HBW2 := Lib.hid (s_chain (s_chain HBW.out hb2) (below_a1 _ (.cells #[.int .i64 (N : Int), .slice A2 n c2] 30)))
        have O2 := Lib.hid (own_below ho2 (below_a1 _ (.cells #[.int .i64 (N : Int), .slice A2 n c2] 30)))
        have HRG := Lib.hid ho2.lt
        have hsz := X1.out.parts.1
        have hsz2 := hb2.size
        clear hb2 ho2 l0 c00 c01 f00 f01
        obtain ⟨l0, c00, c01, f00, f01⟩ := Y0.out.parts
        go_wp2_with fail
        refine (C3.out _ HBW2.out).mono ?_
        rintro e w3 ⟨rfl, hb3⟩
        have O3 := Lib.hid (own_below O2.out hb3)
        have Z0 := Lib.hid (Y0.out.below hb3)
        have Z1 := Lib.hid (Y1.out.below hb3)
        have Z2 := Lib.hid (Y2.out.below hb3)
        have HBW3 := Lib.hid (s_chain HBW2.out hb3)
        clear hb3 l0 c00 c01 f00 f01
        obtain ⟨l0, c00, c01, f00, f01⟩ := Z0.out.parts
        obtain ⟨l1, c10, c11, f10, f11⟩ := Z1.out.parts
        obtain ⟨l2, c20, c21, f20, f21⟩ := Z2.out.parts
        have hcx := (HBW3.out.cell (p := ⟨b, off + d, none⟩) hbw).trans hc
        obtain ⟨g, cap, hvv, hbase, hglt⟩ := O3.out.form (by omega)
        obtain ⟨rfl, -, rfl⟩ : A2 = some ⟨g, 0, none⟩ ∧ n = n ∧ c2 = cap := by injection hvv with e1 e2 e3; exact ⟨e1, e2, e3⟩
        clear hvv
        have hgw := HRG.out g rfl
        have hcg : ∃ u, w3.cell? ⟨g, d, none⟩ = some u := by
          have h9 := O3.out.cellAt d (by omega)
          have hl9 : d < (vb xs).length := by rw [vb_length, HL.out]; exact hvl
          rw [List.getElem?_eq_getElem hl9] at h9
          exact ⟨_, h9⟩
        obtain ⟨u, hcg⟩ := hcg
        have hfg := O3.out.frozenAt d
        have hst := O3.out.stored d (.int .u8 (y : Int))
        rw [show (vb xs).set d (.int .u8 (y : Int)) = vb ys by rw [HADD.out]; simp [vb, List.map_set]] at hst
        have HS := Lib.hid hst
        have P1 := Lib.hid (Z1.out.grown HS.out.2 (by show some g ≠ some _; intro e; injection e with e; omega))
        have P2 := Lib.hid (Z2.out.grown HS.out.2 (by show some g ≠ some _; intro e; injection e with e; omega))
        have PB := Lib.hid (HBW3.out.grown HS.out.2 HBW3.out.size (fun k hk => by have hk2 : some g = some k := hk; injection hk2 with hk2; omega))
        clear hst
        go_wp2_with fail
        refine (CB.out _).mono ?_
        rintro e w4 ⟨rfl, rfl⟩
        have q1 := P1.out.parts
        obtain ⟨m1, k10, k11, g10, g11⟩ := q1
        obtain ⟨m2, k20, k21, g20, g21⟩ := P2.out.parts
        go_wp2
        refine bodyPost_ret (v := .agg #[.int .i64 (N : Int), .slice (some ⟨g, 0, none⟩) n c2]) (by simp [results, Tryz.results96, go_sem, k10, k11]) rfl ?_
        refine ⟨some ⟨g, 0, none⟩, c2, by rw [HLEN.out], ?_, below_set2 PB.out (by omega) _ _⟩
        rw [HLEN.out]
        exact own_monoG (own_set2 HS.out.1 (by omega) _ _) (by omega)
    · have H2 : Hid (withX (N : Int) xs v = xs) := Lib.hid (by unfold withX; rw [hok, if_pos rfl, if_neg hin])
      rw [H2.out]
      clear hok
      have hg : v < 0 ∨ (0 ≤ v ∧ (N : Int) ≤ v) := by omega
      clear hin
      go_enter Tryz.func96, Tryz.ntmps96
      go_wp2_with fail
      refine (C1.out _ (below_a2 _ _ _)).mono ?_
      rintro e w1 ⟨rfl, hb1⟩
      have X0 := Lib.hid (HB0.out.below hb1)
      have X1 := Lib.hid (HB1.out.below hb1)
      have HBW := Lib.hid (s_chain (below_a2 _ _ _) hb1)
      clear hb1 HB0 HB1
      obtain ⟨l0, c00, c01, f00, f01⟩ := X0.out.parts
      go_wp2_with fail
      refine (C2.out _ HBW.out).mono ?_
      rintro e w2 ⟨A2, c2, rfl, ho2, hb2⟩
      have Y0 := Lib.hid ((X0.out.below hb2).below (below_a1 _ (.cells #[.int .i64 (N : Int), .slice A2 n c2] 30)))
      have Y1 := Lib.hid ((X1.out.below hb2).below (below_a1 _ (.cells #[.int .i64 (N : Int), .slice A2 n c2] 30)))
      have Y2 := Lib.hid (SBx.new w2 (N : Int) A2 n c2)
      have HBW2 := Lib.hid (s_chain (s_chain HBW.out hb2) (below_a1 _ (.cells #[.int .i64 (N : Int), .slice A2 n c2] 30)))
      have O2 := Lib.hid (own_below ho2 (below_a1 _ (.cells #[.int .i64 (N : Int), .slice A2 n c2] 30)))
      have HRG := Lib.hid ho2.lt
      have hsz := X1.out.parts.1
      have hsz2 := hb2.size
      clear hb2 ho2 l0 c00 c01 f00 f01
      obtain ⟨l0, c00, c01, f00, f01⟩ := Y0.out.parts
      obtain ⟨l1, c10, c11, f10, f11⟩ := Y1.out.parts
      obtain ⟨l2, c20, c21, f20, f21⟩ := Y2.out.parts
      rcases hg with hg | ⟨hg1, hg2⟩
      · have d1 : decide (v < 0) = true := by simp; omega
        go_wp2
        refine bodyPost_ret (v := .agg #[.int .i64 (N : Int), .slice A2 n c2]) (by simp [results, Tryz.results96, go_sem, c10, c11]) rfl ?_
        refine ⟨A2, c2, by rw [HL.out], ?_, below_set2 HBW2.out (by omega) _ _⟩
        rw [HL.out]
        exact own_monoG (own_set2 O2.out (by omega) _ _) (by omega)
      · have d1 : decide (v < 0) = false := by simp; omega
        have d2 : decide ((N : Int) ≤ v) = true := by simp; omega
        go_wp2
        refine bodyPost_ret (v := .agg #[.int .i64 (N : Int), .slice A2 n c2]) (by simp [results, Tryz.results96, go_sem, c10, c11]) rfl ?_
        refine ⟨A2, c2, by rw [HL.out], ?_, below_set2 HBW2.out (by omega) _ _⟩
        rw [HL.out]
        exact own_monoG (own_set2 O2.out (by omega) _ _) (by omega)
set_option maxHeartbeats 4000000 in
theorem specWith (N v : Int) (A : Option Addr) (n c : Nat) (xs : List Nat) (w : World) (hr : Rd w A n xs) (hn : n ≤ 2097152) (hv : (Lit.int .i64 v).wf = true) :
    Calls Tryz.prog 54 #[.agg #[.int .i64 N, .slice A n c], .int .i64 v] w (MadeS w (withN N xs) (withX N xs v)) := by
  have C1 := Lib.hid (fun W (h : Below w.heap.size w W) => specTurnOn N v A n c xs W (hr.below h) hn hv)
  have HB1 := Lib.hid (SBx.new1 w (.cells #[.int .i64 N, .slice A n c] 30) 0 none 0 0)
  clear hr
  generalize withN N xs = M at C1 ⊢
  generalize withX N xs v = ys at C1 ⊢
  go_enter Tryz.func54, Tryz.ntmps54
  go_wp2_with fail
  refine (C1.out _ (below_a2 _ _ _)).mono ?_
  rintro e w1 ⟨A1, c1, rfl, ho1, hb1⟩
  have X1 := Lib.hid (HB1.out.below hb1)
  have HBW := Lib.hid (s_chain (below_a2 _ _ _) hb1)
  have hsz := hb1.size
  simp only [World.size_alloc] at hsz ho1
  have O1 := Lib.hid ho1
  clear hb1 ho1 HB1
  obtain ⟨l1, c10, c11, f10, f11⟩ := X1.out.parts
  go_wp2
  refine bodyPost_ret (v := .agg #[.int .i64 M, .slice A1 ys.length c1]) (by simp [results, Tryz.results54, go_sem, c10, c11]) rfl ?_
  refine ⟨A1, c1, rfl, ?_, below_set2 HBW.out (by omega) _ _⟩
  exact own_monoG (own_set2 O1.out (by omega) _ _) (by omega)
end Go.Proofs.YtlhcobkncceodaaGreatDoor
namespace Go.Proofs.YtlhcobkncceodaaGreatDoor
open Go.RowKit

theorem specJobOk (n p s : Int) (w : World) :
    Calls Tryz.prog 87 #[.int .i64 n, .agg #[.int .i64 p, .int .i64 s]] w (fun e w' => e = .returned (.bool (jobB n p s)) ∧ Below w.heap.size w w') := by
  rcases prog_cases p with h | rfl | rfl | rfl | rfl
  · have hj : jobB n p s = false := by unfold jobB; rw [progB_no h]; rfl
    rw [hj]
    clear hj
    by_cases h1 : p < 1
    · clear h
      go_enter Tryz.func87, Tryz.ntmps87
      go_wp2
      go_ret
      exact ⟨rfl, below_a1 _ _⟩
    · have h2 : 4 < p := by omega
      clear h
      go_enter Tryz.func87, Tryz.ntmps87
      go_wp2
      go_ret
      exact ⟨rfl, below_a1 _ _⟩
  · have hj : jobB n 1 s = decide (s = 0) := by unfold jobB progB; simp
    rw [hj]
    clear hj
    go_enter Tryz.func87, Tryz.ntmps87
    go_wp2
    go_ret
    exact ⟨rfl, below_a1 _ _⟩
  · have hj : jobB n 2 s = decide (s = 0) := by unfold jobB progB; simp
    rw [hj]
    clear hj
    go_enter Tryz.func87, Tryz.ntmps87
    go_wp2
    go_ret
    exact ⟨rfl, below_a1 _ _⟩
  · have hj : jobB n 3 s = (decide (0 ≤ s) && decide (s < n)) := by unfold jobB progB; simp
    rw [hj]
    clear hj
    by_cases h1 : 0 ≤ s
    · have e1 : (decide (0 ≤ s) && decide (s < n)) = decide (s < n) := by simp [h1]
      rw [e1]
      go_enter Tryz.func87, Tryz.ntmps87
      go_wp2
      go_ret
      exact ⟨rfl, below_a1 _ _⟩
    · have e1 : (decide (0 ≤ s) && decide (s < n)) = false := by simp [h1]
      rw [e1]
      go_enter Tryz.func87, Tryz.ntmps87
      go_wp2
      go_ret
      exact ⟨rfl, below_a1 _ _⟩
  · have hj : jobB n 4 s = decide (s = 0) := by unfold jobB progB; simp
    rw [hj]
    clear hj
    go_enter Tryz.func87, Tryz.ntmps87
    go_wp2
    go_ret
    exact ⟨rfl, below_a1 _ _⟩
set_option maxHeartbeats 1000000 in
theorem specFirstVal (p s v : Int) (w : World) :
    Calls Tryz.prog 105 #[.agg #[.int .i64 p, .int .i64 s], .int .i64 v] w (fun e w' => e = .returned (.int .i64 (firstV p s v)) ∧ Below w.heap.size w w') := by
  have CV := Lib.hid (fun W => specVertex v W)
  cases hv : vtxB v with
  | false =>
    have hj : firstV p s v = 0 := by unfold firstV; rw [hv]; simp
    rw [hj]
    rw [hv] at CV
    clear hj hv
    go_enter Tryz.func105, Tryz.ntmps105
    go_wp2_with fail
    refine (CV.out _).mono ?_
    rintro e w2 ⟨rfl, rfl⟩
    go_wp2
    go_ret
    exact ⟨rfl, below_a1 _ _⟩
  | true =>
    rw [hv] at CV
    rcases prog_cases p with h | rfl | rfl | rfl | rfl
    · have hj : firstV p s v = 0 := by unfold firstV; rw [progB_no h]; rfl
      rw [hj]
      have h1 : (p == 1) = false := by simp; omega
      have h2 : (p == 2) = false := by simp; omega
      have h3 : (p == 3) = false := by simp; omega
      have h4 : (p == 4) = false := by simp; omega
      clear hj hv h
      go_enter Tryz.func105, Tryz.ntmps105
      go_wp2_with fail
      refine (CV.out _).mono ?_
      rintro e w2 ⟨rfl, rfl⟩
      go_wp2
      go_ret
      exact ⟨rfl, below_a1 _ _⟩
    · have hj : firstV 1 s v = 1048576 := by unfold firstV progB; rw [hv]; simp
      rw [hj]
      clear hj hv
      go_enter Tryz.func105, Tryz.ntmps105
      go_wp2_with fail
      refine (CV.out _).mono ?_
      rintro e w2 ⟨rfl, rfl⟩
      go_wp2
      go_ret
      exact ⟨rfl, below_a1 _ _⟩
    · have hj : firstV 2 s v = v := by unfold firstV progB; rw [hv]; simp
      rw [hj]
      clear hj hv
      go_enter Tryz.func105, Tryz.ntmps105
      go_wp2_with fail
      refine (CV.out _).mono ?_
      rintro e w2 ⟨rfl, rfl⟩
      go_wp2
      go_ret
      exact ⟨rfl, below_a1 _ _⟩
    · by_cases hs : v = s
      · have hj : firstV 3 s v = 0 := by unfold firstV progB; rw [hv]; simp [hs]
        rw [hj]
        subst hs
        clear hj hv
        go_enter Tryz.func105, Tryz.ntmps105
        go_wp2_with fail
        refine (CV.out _).mono ?_
        rintro e w2 ⟨rfl, rfl⟩
        go_wp2
        go_ret
        exact ⟨rfl, below_a1 _ _⟩
      · have hj : firstV 3 s v = 1099511627776 := by unfold firstV progB; rw [hv]; simp [hs]
        rw [hj]
        have h2 : (v == s) = false := by simp [hs]
        clear hj hv
        go_enter Tryz.func105, Tryz.ntmps105
        go_wp2_with fail
        refine (CV.out _).mono ?_
        rintro e w2 ⟨rfl, rfl⟩
        go_wp2
        go_ret
        exact ⟨rfl, below_a1 _ _⟩
    · have hj : firstV 4 s v = v := by unfold firstV progB; rw [hv]; simp
      rw [hj]
      clear hj hv
      go_enter Tryz.func105, Tryz.ntmps105
      go_wp2_with fail
      refine (CV.out _).mono ?_
      rintro e w2 ⟨rfl, rfl⟩
      go_wp2
      go_ret
      exact ⟨rfl, below_a1 _ _⟩
set_option maxHeartbeats 1000000 in
theorem specFirstEdge (p s f t d : Int) (w : World) :
    Calls Tryz.prog 107 #[.agg #[.int .i64 p, .int .i64 s], .int .i64 f, .int .i64 t, .int .i64 d] w (fun e w' => e = .returned (.int .i64 (firstE p f t d)) ∧ Below w.heap.size w w') := by
  have CF := Lib.hid (fun W => specVertex f W)
  have CT := Lib.hid (fun W => specVertex t W)
  by_cases hf1 : vtxB f = false
  · have hj : firstE p f t d = 0 := by unfold firstE firstEB; rw [hf1]; simp
    rw [hj]
    rw [hf1] at CF
    clear hj hf1
    go_enter Tryz.func107, Tryz.ntmps107
    go_wp2_with fail
    refine (CF.out _).mono ?_
    rintro e w2 ⟨rfl, rfl⟩
    go_wp2
    go_ret
    exact ⟨rfl, below_a1 _ _⟩
  by_cases ht1 : vtxB t = false
  · have hj : firstE p f t d = 0 := by unfold firstE firstEB; rw [ht1]; simp
    rw [hj]
    rw [tt_of hf1] at CF
    rw [ht1] at CT
    clear hj hf1 ht1
    go_enter Tryz.func107, Tryz.ntmps107
    go_wp2_with fail
    refine (CF.out _).mono ?_
    rintro e w2 ⟨rfl, rfl⟩
    go_wp2_with fail
    refine (CT.out _).mono ?_
    rintro e w3 ⟨rfl, rfl⟩
    go_wp2
    go_ret
    exact ⟨rfl, below_a1 _ _⟩
  rw [tt_of hf1] at CF
  rw [tt_of ht1] at CT
  have hf2 := tt_of hf1
  have ht2 := tt_of ht1
  clear hf1 ht1
  by_cases hd1 : d < 1
  · have hj : firstE p f t d = 0 := by unfold firstE firstEB; rw [if_neg (by simp; omega)]
    rw [hj]
    clear hj hf2 ht2
    go_enter Tryz.func107, Tryz.ntmps107
    go_wp2_with fail
    refine (CF.out _).mono ?_
    rintro e w2 ⟨rfl, rfl⟩
    go_wp2_with fail
    refine (CT.out _).mono ?_
    rintro e w3 ⟨rfl, rfl⟩
    go_wp2
    go_ret
    exact ⟨rfl, below_a1 _ _⟩
  by_cases hd2 : 400 < d
  · have hj : firstE p f t d = 0 := by unfold firstE firstEB; rw [if_neg (by simp; omega)]
    rw [hj]
    clear hj hf2 ht2
    go_enter Tryz.func107, Tryz.ntmps107
    go_wp2_with fail
    refine (CF.out _).mono ?_
    rintro e w2 ⟨rfl, rfl⟩
    go_wp2_with fail
    refine (CT.out _).mono ?_
    rintro e w3 ⟨rfl, rfl⟩
    go_wp2
    go_ret
    exact ⟨rfl, below_a1 _ _⟩
  have HF := vtx_is hf2
  have HT := vtx_is ht2
  have hdd : decide (1 ≤ d ∧ d ≤ 400) = true := by simp; omega
  rcases prog_cases p with h | rfl | rfl | rfl | rfl
  · have hj : firstE p f t d = 0 := by unfold firstE firstEB; rw [progB_no h]; rfl
    rw [hj]
    have h1 : (p == 1) = false := by simp; omega
    have h2 : (p == 2) = false := by simp; omega
    have h3 : (p == 3) = false := by simp; omega
    have h4 : (p == 4) = false := by simp; omega
    clear hj hf2 ht2 h HF HT hdd
    go_enter Tryz.func107, Tryz.ntmps107
    go_wp2_with fail
    refine (CF.out _).mono ?_
    rintro e w2 ⟨rfl, rfl⟩
    go_wp2_with fail
    refine (CT.out _).mono ?_
    rintro e w3 ⟨rfl, rfl⟩
    go_wp2
    go_ret
    exact ⟨rfl, below_a1 _ _⟩
  · have hj : firstE 1 f t d = Int.tdiv 1048576 d := by unfold firstE firstEB progB; rw [hf2, ht2, hdd]; simp
    rw [hj]
    have h0 : d ≠ 0 := by omega
    have h1 : (d == 0) = false := by simp [h0]
    have h2 : IntKind.i64.wrap (Int.tdiv 1048576 d) = Int.tdiv 1048576 d := IntWalk.i64_in _ (by rw [Int.tdiv_eq_ediv_of_nonneg (by omega)]; have := Int.ediv_nonneg (a := 1048576) (b := d) (by omega) (by omega); have := Int.ediv_le_self (a := 1048576) d (by omega); omega)
    clear hj hf2 ht2 HF HT hdd
    go_enter Tryz.func107, Tryz.ntmps107
    go_wp2_with fail
    refine (CF.out _).mono ?_
    rintro e w2 ⟨rfl, rfl⟩
    go_wp2_with fail
    refine (CT.out _).mono ?_
    rintro e w3 ⟨rfl, rfl⟩
    go_wp2
    go_ret
    exact ⟨rfl, below_a1 _ _⟩
  · have hj : firstE 2 f t d = 1099511627776 := by unfold firstE firstEB progB; rw [hf2, ht2, hdd]; simp
    rw [hj]
    clear hj hf2 ht2 HF HT hdd
    go_enter Tryz.func107, Tryz.ntmps107
    go_wp2_with fail
    refine (CF.out _).mono ?_
    rintro e w2 ⟨rfl, rfl⟩
    go_wp2_with fail
    refine (CT.out _).mono ?_
    rintro e w3 ⟨rfl, rfl⟩
    go_wp2
    go_ret
    exact ⟨rfl, below_a1 _ _⟩
  · have hj : firstE 3 f t d = 1099511627776 := by unfold firstE firstEB progB; rw [hf2, ht2, hdd]; simp
    rw [hj]
    clear hj hf2 ht2 HF HT hdd
    go_enter Tryz.func107, Tryz.ntmps107
    go_wp2_with fail
    refine (CF.out _).mono ?_
    rintro e w2 ⟨rfl, rfl⟩
    go_wp2_with fail
    refine (CT.out _).mono ?_
    rintro e w3 ⟨rfl, rfl⟩
    go_wp2
    go_ret
    exact ⟨rfl, below_a1 _ _⟩
  · have hj : firstE 4 f t d = f * 1000 + t := by unfold firstE firstEB progB; rw [hf2, ht2, hdd]; simp
    rw [hj]
    have h1 : IntKind.i64.wrap (f * 1000) = f * 1000 := IntWalk.i64_in _ (by omega)
    have h2 : IntKind.i64.wrap (f * 1000 + t) = f * 1000 + t := IntWalk.i64_in _ (by omega)
    clear hj hf2 ht2 HF HT hdd
    go_enter Tryz.func107, Tryz.ntmps107
    go_wp2_with fail
    refine (CF.out _).mono ?_
    rintro e w2 ⟨rfl, rfl⟩
    go_wp2_with fail
    refine (CT.out _).mono ?_
    rintro e w3 ⟨rfl, rfl⟩
    go_wp2
    go_ret
    exact ⟨rfl, below_a1 _ _⟩
end Go.Proofs.YtlhcobkncceodaaGreatDoor
namespace Go.Proofs.YtlhcobkncceodaaGreatDoor
open Go.RowKit

theorem edgeB_parts {n : Int} {e : GE} (h : edgeB n e = false) : e.f < 0 ∨ (0 ≤ e.f ∧ n ≤ e.f) ∨ (0 ≤ e.f ∧ e.f < n ∧ e.t < 0) ∨ (0 ≤ e.f ∧ e.f < n ∧ 0 ≤ e.t ∧ n ≤ e.t) ∨ (0 ≤ e.f ∧ e.f < n ∧ 0 ≤ e.t ∧ e.t < n ∧ e.w < 0) ∨ (0 ≤ e.f ∧ e.f < n ∧ 0 ≤ e.t ∧ e.t < n ∧ 0 ≤ e.w ∧ 1000 < e.w) := by
  have h := of_decide_eq_false h
  omega

set_option maxRecDepth 10000 in
set_option maxHeartbeats 4000000 in
theorem specGraphOk (N : Int) (A : Option Addr) (n c : Nat) (es : List GE) (w : World) (hr : SlG w A n es) (hn : n ≤ 1048576) :
    Calls Tryz.prog 86 #[.agg #[.int .i64 N, .slice A n c]] w (GTell w (graphB N es)) := by
  have HEL := Lib.hid hr.len
  have HR := Lib.hid hr
  clear hr
  go_enter Tryz.func86, Tryz.ntmps86
  go_wp2
  have X0 := Lib.hid (NBox.new w N A n c 25)
  have HB0 := Lib.hid (below_a1 w (.cells #[.int .i64 N, .slice A n c] 25))
  go_loopw [8] (fun i wr => ∃ k : Nat, k ≤ n ∧ i = .int .i64 k ∧ Hid (NBox wr w.heap.size N A n c) ∧ Hid (Below w.heap.size w wr) ∧ Hid (∀ x ∈ es.take k, edgeB N x = true)) (fun i _ => n - (intOf i).toNat)
  case atStart => exact ⟨0, Nat.zero_le _, rfl, X0, HB0, Lib.hid (by simp)⟩
  case round =>
    clear X0 HB0
    obtain ⟨k, hk, rfl, hx, hbel, hall⟩ := hrel
    obtain ⟨l0, x0, x1⟩ := hx.out
    by_cases hlt : k < n
    · obtain ⟨b, off, e, rfl, hbw, he, c0, c1, c2⟩ := HR.out.at_ hlt
      have c0 := (hbel.out.cell (p := ⟨b, off + k * 3, none⟩) hbw).trans c0
      have c1 := (hbel.out.cell (p := ⟨b, off + k * 3 + 1, none⟩) hbw).trans c1
      have c2 := (hbel.out.cell (p := ⟨b, off + k * 3 + 2, none⟩) hbw).trans c2
      have HB1 := Lib.hid (below_a1 wr (.cells #[.int .i64 e.f, .int .i64 e.t, .int .i64 e.w] 113))
      cases hv : edgeB N e with
      | true =>
        obtain ⟨h1, h2, h3, h4, h5, h6⟩ := edgeB_iff hv
        go_wp2
        go_roundw
        case rel => exact ⟨k + 1, by omega, by go_num, Lib.hid (hx.out.below HB1.out), Lib.hid (g_chain hbel.out HB1.out), Lib.hid (all_step he.out hall.out hv)⟩
        case measure => simp [intOf]; omega
      | false =>
        have HV := Lib.hid (graphB_no he.out hv)
        have hp := edgeB_parts hv
        clear hv
        rcases hp with h1 | ⟨h1, h2⟩ | ⟨h1, h2, h3⟩ | ⟨h1, h2, h3, h4⟩ | ⟨h1, h2, h3, h4, h5⟩ | ⟨h1, h2, h3, h4, h5, h6⟩
        all_goals
          go_wp2
          go_ret
          rw [HV.out]
          exact ⟨g_bool (by first | rfl | (simp <;> omega)), g_chain hbel.out HB1.out⟩
    · obtain rfl : k = n := by omega
      have HG : Hid (graphB N es = decide (0 ≤ N ∧ N ≤ 150 ∧ k ≤ 400)) := Lib.hid (by
        have h1 : es.all (edgeB N) = true := List.all_eq_true.2 (fun x hx => hall.out x (by rw [List.take_of_length_le (by rw [HEL.out]; exact Nat.le_refl _)]; exact hx))
        unfold graphB
        rw [h1, Bool.and_true, HEL.out])
      by_cases h1 : 0 ≤ N
      · by_cases h2 : N ≤ 150
        · by_cases h3 : k ≤ 400
          · have HV : Hid (graphB N es = true) := Lib.hid (by rw [HG.out]; simp [h1, h2, h3])
            go_wp2
            go_ret
            rw [HV.out]
            exact ⟨g_bool (by first | rfl | (simp <;> omega)), hbel.out⟩
          · have HV : Hid (graphB N es = false) := Lib.hid (by rw [HG.out]; simp [h3])
            go_wp2
            go_ret
            rw [HV.out]
            exact ⟨g_bool (by first | rfl | (simp <;> omega)), hbel.out⟩
        · have HV : Hid (graphB N es = false) := Lib.hid (by rw [HG.out]; simp [h2])
          go_wp2
          go_ret
          rw [HV.out]
          exact ⟨g_bool (by first | rfl | (simp <;> omega)), hbel.out⟩
      · have HV : Hid (graphB N es = false) := Lib.hid (by rw [HG.out]; simp [h1])
        go_wp2
        go_ret
        rw [HV.out]
        exact ⟨g_bool (by first | rfl | (simp <;> omega)), hbel.out⟩
end Go.Proofs.YtlhcobkncceodaaGreatDoor
namespace Go.Proofs.YtlhcobkncceodaaGreatDoor
open Go.RowKit
set_option linter.unusedVariables false

def MadeMs (w : World) (rs : List Int) (e : Ending) (w' : World) : Prop :=
  ∃ A c, e = .returned (.slice A rs.length c) ∧ w'.ownsRow w.heap.size 3 1 (.slice A rs.length c) rs.length (vi rs) ∧ Below w.heap.size w w'
theorem mem_reads (w : World) (u : Value) : Reads (w.alloc (.cells #[u] 3)) (w.heap.size + 1) 1 (some ⟨w.heap.size, 0, none⟩) 1 [u] := by
  refine ⟨rfl, fun _ => ⟨_, rfl, by simp, fun j v hj => ?_⟩⟩
  match j, hj with
  | 0, hj => simp at hj; subst hj; simp [Addr.add]
theorem mem_one (x : Int) : ∀ u ∈ [Value.int .i64 x], u.oneCell' = true := by intro u hu; simp at hu; subst hu; rfl
theorem mem_snoc (xs : List Int) (x : Int) : vi (xs ++ [x]) = vi xs ++ [.int .i64 x] := by rw [vi_append]; rfl
theorem mem_ge {w : World} {lo e size n b : Nat} {v : Value} {xs : List Value} (h : w.ownsRow lo e size v n xs) (hb : b < lo) : v.ownBlock ≠ some b := fun e => by have := (h.lt b e).1; omega
end Go.Proofs.YtlhcobkncceodaaGreatDoor
namespace Go.Proofs.YtlhcobkncceodaaGreatDoor
open Go.RowKit
set_option linter.unusedVariables false

theorem built_ints (w : World) : (w.alloc (.cells #[] 3)).ownsRow w.heap.size 3 1 (.slice (some ⟨w.heap.size, 0, none⟩) 0 0) 0 [] :=
  World.ownsRow_lit w #[] 0 (Nat.le_refl _) (by unfold maxLen; omega) rfl
theorem built_ints1 (w : World) (o : Obj) : ((w.alloc o).alloc (.cells #[] 3)).ownsRow (w.heap.size + 1) 3 1 (.slice (some ⟨w.heap.size + 1, 0, none⟩) 0 0) 0 [] := by
  have h := built_ints (w.alloc o)
  rw [World.size_alloc] at h
  exact h
theorem has_in {N k : Nat} {xs : List Nat} (hok : setB (N : Int) xs = true) (hk : k < N) : hasB (N : Int) xs (k : Int) = bitN xs k := by
  unfold hasB
  rw [hok, decide_eq_true (by omega : (0 : Int) ≤ (k : Int)), decide_eq_true (by omega : (k : Int) < (N : Int)), Int.toNat_natCast]
  rfl
set_option maxRecDepth 10000 in
set_option maxHeartbeats 8000000 in
theorem specMembers (N : Int) (A : Option Addr) (n c : Nat) (xs : List Nat) (w : World) (hr : Rd w A n xs) (hn : n ≤ 2097152) :
    Calls Tryz.prog 78 #[.agg #[.int .i64 N, .slice A n c]] w (MadeMs w (memsB N xs)) := by
  obtain ⟨i0, hi, hz0, hz1, hz2⟩ := info_parts Tryz.infoInt
  have HR := Lib.hid hr
  have HL := Lib.hid hr.len
  clear hr
  have C1 := Lib.hid (fun W (h : Below w.heap.size w W) => specSetOk N A n c xs W (HR.out.below h) hn)
  have HB0 := Lib.hid ((SBx.new w N A n c).below (below_a1 _ (.cells #[] 3)))
  have HOW := Lib.hid (built_ints1 w (.cells #[.int .i64 N, .slice A n c] 30))
  have HBA := Lib.hid (below_a2 w (.cells #[.int .i64 N, .slice A n c] 30) (.cells #[] 3))
  obtain ⟨l0, c00, c01, f00, f01⟩ := HB0.out.parts
  unfold memsB
  cases hok : setB N xs with
  | false =>
    rw [hok] at C1
    rw [if_neg (by simp)]
    by_cases h0 : 0 < N
    · have d1 : decide (0 < N) = true := by simp; omega
      go_enter Tryz.func78, Tryz.ntmps78
      go_wp2
      refine wp_loop_rounds 1 ?_
      rw [rounds_succ]
      go_wp2_with fail
      refine (C1.out _ HBA.out).mono ?_
      rintro e w1 ⟨rfl, hb1⟩
      have HO := Lib.hid (own_below HOW.out hb1)
      have HBW := Lib.hid (s_chain HBA.out hb1)
      clear hb1 l0 c00 c01 f00 f01
      go_wp2
      go_ret
      exact ⟨some ⟨w.heap.size + 1, 0, none⟩, 0, rfl, own_monoG (lo' := w.heap.size) HO.out (by omega), HBW.out⟩
    · have d1 : decide (0 < N) = false := by simp; omega
      go_enter Tryz.func78, Tryz.ntmps78
      go_wp2
      refine wp_loop_rounds 1 ?_
      rw [rounds_succ]
      go_wp2
      go_ret
      exact ⟨some ⟨w.heap.size + 1, 0, none⟩, 0, rfl, own_monoG (lo' := w.heap.size) HOW.out (by omega), HBA.out⟩
  | true =>
    rw [hok] at C1
    rw [if_pos rfl]
    have hdim := setB_dim hok
    obtain ⟨N, rfl⟩ : ∃ k : Nat, N = (k : Int) := ⟨N.toNat, by omega⟩
    have hN : N ≤ 150 := by omega
    have HOK := Lib.hid hok
    rw [Int.toNat_natCast]
    clear hdim hok
    go_enter Tryz.func78, Tryz.ntmps78
    go_wp2
    go_loopw [3, 4] (fun o i wr => ∃ (k : Nat) (A1 : Option Addr) (c1 : Nat), k ≤ N ∧ i = .int .i64 (k : Int) ∧ o = .slice A1 (memsR xs k).length c1 ∧ Hid (wr.ownsRow (w.heap.size + 1) 3 1 (.slice A1 (memsR xs k).length c1) (memsR xs k).length (vi (memsR xs k))) ∧ Hid (SBx wr w.heap.size (N : Int) A n c) ∧ Hid (Below w.heap.size w wr)) (fun _ i _ => N - (intOf i).toNat)
    case atStart => exact ⟨0, some ⟨w.heap.size + 1, 0, none⟩, 0, Nat.zero_le _, rfl, rfl, HOW, HB0, HBA⟩
    case round =>
      clear HOW HB0 HBA l0 c00 c01 f00 f01
      obtain ⟨k, A1, c1, hk, rfl, rfl, hown, hbx, hbel⟩ := hrel
      have hlen := mems_len xs k
      obtain ⟨l0, c00, c01, f00, f01⟩ := hbx.out.parts
      by_cases hlt : k < N
      · have C2 := Lib.hid (fun W (h : Below w.heap.size w W) => specHas (N : Int) (k : Int) A n c xs W (HR.out.below h) hn (WalkArith.wf_i64 (by omega)))
        rw [has_in HOK.out hlt] at C2
        have HST := Lib.hid (mems_step xs k)
        go_wp2_with fail
        refine (C1.out _ hbel.out).mono ?_
        rintro e w1 ⟨rfl, hb1⟩
        have O1 := Lib.hid (own_below hown.out hb1)
        have B1 := Lib.hid (s_chain hbel.out hb1)
        have Y1 := Lib.hid (hbx.out.below hb1)
        clear hb1 l0 c00 c01 f00 f01 hown hbel hbx
        obtain ⟨l0, c00, c01, f00, f01⟩ := Y1.out.parts
        go_wp2_with fail
        refine (C2.out _ B1.out).mono ?_
        rintro e w2 ⟨rfl, hb2⟩
        have O2 := Lib.hid (own_below O1.out hb2)
        have B2 := Lib.hid (s_chain B1.out hb2)
        have Y2 := Lib.hid (Y1.out.below hb2)
        clear hb2 l0 c00 c01 f00 f01 O1 B1 Y1
        obtain ⟨l0, c00, c01, f00, f01⟩ := Y2.out.parts
        cases hbt : bitN xs k with
        | true =>
          rw [hbt, if_pos rfl] at HST
          obtain ⟨ns, hns⟩ : ∃ ns, Hid (memsR xs (k + 1) = ns) := ⟨_, Lib.hid rfl⟩
          rw [hns.out] at HST
          generalize memsR xs k = ms at O2 hlen HST ⊢
          clear hbt
          go_wp2_with (at_builtin; refine wpList_append_any _ rfl (.tmp 19) (.tmp 21) _ rfl (w.heap.size + 1) 3 i0 _ 1 8 Tryz.underlying28 hi hz0 hz1 hz2 rfl (by omega) (.slice A1 ms.length c1) ms.length (vi ms) rfl (O2.out.alloc _) (w2.heap.size + 1) (some ⟨w2.heap.size, 0, none⟩) 1 1 [.int .i64 (k : Int)] rfl (mem_reads _ _) (mem_one _) (by simp only [maxLen]; omega) (by omega) (by simp; omega) ?_)
          intro v4 w4 hown4 hg4 _
          obtain ⟨A4, c4, rfl⟩ := own_form hown4
          have hle : ms.length + 1 = ns.length := by rw [HST.out]; simp
          have HO4 : Hid (w4.ownsRow (w.heap.size + 1) 3 1 (.slice A4 ns.length c4) ns.length (vi ns)) := Lib.hid (by rw [HST.out, mem_snoc, List.length_append]; exact hown4)
          have HY4 := Lib.hid ((Y2.out.below (below_a1 _ (.cells #[.int .i64 (k : Int)] 3))).grown hg4 (mem_ge O2.out (by omega)))
          have HB4 : Hid (Below w.heap.size w w4) := Lib.hid ((B2.out.alloc B2.out.size _).grown hg4 (by have := B2.out.size; simp; omega) (fun k hk => by have := (O2.out.lt k hk).1; omega))
          clear hown4 hg4 O2 B2 Y2 l0 c00 c01 f00 f01
          rw [hle]
          go_wp2
          go_roundw
          case rel => exact ⟨k + 1, A4, c4, by omega, by go_num, by rw [hns.out], Lib.hid (by rw [hns.out]; exact HO4.out), HY4, HB4⟩
          case measure => simp [intOf]; omega
        | false =>
          rw [hbt, if_neg (by simp)] at HST
          go_wp2
          go_roundw
          case rel => exact ⟨k + 1, A1, c1, by omega, by go_num, by rw [HST.out], Lib.hid (by rw [HST.out]; exact O2.out), Y2, B2⟩
          case measure => simp [intOf]; omega
      · obtain rfl : k = N := by omega
        have d1 : decide (k < k) = false := by simp
        go_wp2
        go_ret
        exact ⟨A1, c1, rfl, own_monoG (lo' := w.heap.size) hown.out (by omega), hbel.out⟩
end Go.Proofs.YtlhcobkncceodaaGreatDoor
namespace Go.Proofs.YtlhcobkncceodaaGreatDoor
open Go.RowKit
set_option linter.unusedVariables false

theorem new_zerosS (n : Nat) : (madeCells (Value.int IntKind.u8 0).cells (n * 1)).toList = vb (fillV n 0) := by
  rw [show (Value.int IntKind.u8 0).cells = #[.int .u8 0] from rfl, toList_madeCells_one, Nat.mul_one]
  simp [vb, fillV]
theorem below_noneS {w w' : World} (h : w.grownBy w' none) : Below w.heap.size w w' := ⟨h.os, h.tape, h.output, h.size, fun k hk => h.block k hk (by simp)⟩
set_option maxRecDepth 10000 in
set_option maxHeartbeats 8000000 in
theorem specSetNew (N : Int) (all : Bool) (w : World) (hN : (Lit.int .i64 N).wf = true) :
    Calls Tryz.prog 14 #[.int .i64 N, .bool all] w (MadeSB w (newN N) (newX N all) (newB N)) := by
  obtain ⟨i0, hi, hz0, hz1, hz2⟩ := info_parts Tryz.infoByte
  obtain ⟨hv1, hv2⟩ := bounds_i64 hN
  have HB0 := Lib.hid (SBx.new w 0 none 0 0)
  unfold newN newX
  by_cases hb : 0 ≤ N ∧ N ≤ 150
  · have he : newB N = true := by unfold newB; simp; omega
    rw [he, if_pos rfl, if_pos rfl]
    obtain ⟨N, rfl⟩ : ∃ k : Nat, N = (k : Int) := ⟨N.toNat, by omega⟩
    have hN150 : N ≤ 150 := by omega
    have d1 : decide ((N : Int) < 0) = false := by simp
    have d2 : decide ((150 : Int) < (N : Int)) = false := by simp; omega
    have hb1 : ((N : Int) + 7).tdiv 8 = ((bytesN N : Nat) : Int) := by rw [Int.tdiv_eq_ediv_of_nonneg (by omega)]; unfold bytesN; omega
    have HFI : Hid (∀ k, k ≤ N → setB (N : Int) (fillV (bytesN N) k) = true) := Lib.hid (fun k hk => setB_fill hN150 hk)
    rw [Int.toNat_natCast]
    have HBN : Hid (∀ v, v < N → v / 8 < bytesN N) := Lib.hid (fun v hv => lt_bytes hv)
    have hbn : bytesN N ≤ 20 := by unfold bytesN; omega
    generalize bytesN N = q at hb1 HBN hbn HFI ⊢
    clear he hb
    cases all with
    | false =>
      rw [if_neg (by simp)]
      go_enter Tryz.func14, Tryz.ntmps14
      go_wp2_with (first
        | (refine wpList_make_full _ rfl (.tmp 18) (.tmp 18) 22 rfl (w.heap.size + 1) 5 i0 (.int .u8 0) 1 Tryz.underlying22 hi hz0 hz1 .i64 .i64 _ _ q rfl rfl rfl rfl (by rw [hz2]; omega) (by unfold maxLen; omega) (by simp) ?_; intro w1 hown hg; have BL1 := Lib.hid (below_noneS hg); have HBW := Lib.hid (s_chain (below_a1 _ _) BL1.out); have X0 := Lib.hid (HB0.out.below BL1.out); rw [new_zerosS] at hown; simp only [World.size_alloc] at hown; have HO := Lib.hid (own_below hown (below_a1 w1 (.cells #[.int .i64 (N : Int), .slice (some ⟨w.heap.size + 1, 0, none⟩) q q] 30))); have Y0 := Lib.hid (X0.out.below (below_a1 w1 (.cells #[.int .i64 (N : Int), .slice (some ⟨w.heap.size + 1, 0, none⟩) q q] 30))); have YN := Lib.hid (SBx.new w1 (N : Int) (some ⟨w.heap.size + 1, 0, none⟩) q q); have HBX := Lib.hid (s_chain HBW.out (below_a1 w1 (.cells #[.int .i64 (N : Int), .slice (some ⟨w.heap.size + 1, 0, none⟩) q q] 30))); have hs1 : w.heap.size + 1 < w1.heap.size := (hown.lt _ rfl).2; obtain ⟨l0, c00, c01, f00, f01⟩ := Y0.out.parts; obtain ⟨l1, c10, c11, f10, f11⟩ := YN.out.parts; clear hown hg))
      refine wp_loop_rounds 1 ?_
      rw [rounds_succ]
      go_wp2
      all_goals
        refine bodyPost_ret (v := .tuple #[.agg #[.int .i64 (N : Int), .slice (some ⟨w.heap.size + 1, 0, none⟩) q q], .bool true]) (by simp [results, Tryz.results14, go_sem, c00, c01]) rfl ?_
        have hfl := fill_len q 0
        refine ⟨some ⟨w.heap.size + 1, 0, none⟩, q, by rw [hfl], ?_, below_set2 HBX.out (Nat.le_refl _) _ _⟩
        rw [hfl]
        exact own_monoG (own_set2 HO.out (by omega) _ _) (by omega)
    | true =>
      rw [if_pos rfl]
      go_enter Tryz.func14, Tryz.ntmps14
      go_wp2_with (first
        | (refine wpList_make_full _ rfl (.tmp 18) (.tmp 18) 22 rfl (w.heap.size + 1) 5 i0 (.int .u8 0) 1 Tryz.underlying22 hi hz0 hz1 .i64 .i64 _ _ q rfl rfl rfl rfl (by rw [hz2]; omega) (by unfold maxLen; omega) (by simp) ?_; intro w1 hown hg; have BL1 := Lib.hid (below_noneS hg); have HBW := Lib.hid (s_chain (below_a1 _ _) BL1.out); have X0 := Lib.hid (HB0.out.below BL1.out); rw [new_zerosS] at hown; simp only [World.size_alloc] at hown; have HO := Lib.hid (own_below hown (below_a1 w1 (.cells #[.int .i64 (N : Int), .slice (some ⟨w.heap.size + 1, 0, none⟩) q q] 30))); have Y0 := Lib.hid (X0.out.below (below_a1 w1 (.cells #[.int .i64 (N : Int), .slice (some ⟨w.heap.size + 1, 0, none⟩) q q] 30))); have YN := Lib.hid (SBx.new w1 (N : Int) (some ⟨w.heap.size + 1, 0, none⟩) q q); have HBX := Lib.hid (s_chain HBW.out (below_a1 w1 (.cells #[.int .i64 (N : Int), .slice (some ⟨w.heap.size + 1, 0, none⟩) q q] 30))); have hs1 : w.heap.size + 1 < w1.heap.size := (hown.lt _ rfl).2; obtain ⟨l0, c00, c01, f00, f01⟩ := Y0.out.parts; obtain ⟨l1, c10, c11, f10, f11⟩ := YN.out.parts; clear hown hg))
      have hq9 : Hid (Below w.heap.size w (w1.alloc (.cells #[.int .i64 (N : Int), .slice (some ⟨w.heap.size + 1, 0, none⟩) q q] 30))) := HBX
      clear l0 c00 c01 f00 f01 l1 c10 c11 f10 f11
      go_loopw [7] (fun i wr => ∃ (k : Nat) (A1 : Option Addr) (c1 : Nat), k ≤ N ∧ i = .int .i64 (k : Int) ∧ Hid (wr.ownsRow (w.heap.size + 1) 5 1 (.slice A1 q c1) q (vb (fillV q k))) ∧ Hid (SBx wr w.heap.size 0 none 0 0) ∧ Hid (SBx wr w1.heap.size (N : Int) A1 q c1) ∧ Hid (Below w.heap.size w wr)) (fun i _ => N - (intOf i).toNat)
      case atStart => exact ⟨0, some ⟨w.heap.size + 1, 0, none⟩, q, Nat.zero_le _, rfl, HO, Y0, YN, HBX⟩
      case round =>
        clear HO Y0 YN HBX hq9
        obtain ⟨k, A1, c1, hk, rfl, hown, hb0, hb1, hbel⟩ := hrel
        obtain ⟨l0, c00, c01, f00, f01⟩ := hb0.out.parts
        obtain ⟨l1, c10, c11, f10, f11⟩ := hb1.out.parts
        by_cases hlt : k < N
        · have CW := Lib.hid (specWith (N : Int) (k : Int) A1 q c1 (fillV q k) wr (Rd.of_own hown.out (fill_small q k)) (by omega) (WalkArith.wf_i64 (by omega)))
          have E1 : withN (N : Int) (fillV q k) = (N : Int) := by unfold withN; rw [HFI.out k (by omega), if_pos rfl]
          have E2 : withX (N : Int) (fillV q k) (k : Int) = fillV q (k + 1) := by unfold withX; rw [HFI.out k (by omega), if_pos rfl, if_pos ⟨by omega, by omega⟩, Int.toNat_natCast, fill_step]
          rw [E1, E2] at CW
          unfold MadeS at CW
          rw [fill_len] at CW
          clear E1 E2
          go_wp2_with fail
          refine CW.out.mono ?_
          rintro e w2 ⟨A2, c2, rfl, ho2, hb2⟩
          have hs2 := hb2.size
          have Z0 := Lib.hid (hb0.out.below hb2)
          have Z1 := Lib.hid (hb1.out.below hb2)
          have ZB := Lib.hid (s_chain hbel.out hb2)
          have HO2 := Lib.hid ho2
          clear ho2 hb2 l0 c00 c01 f00 f01 l1 c10 c11 f10 f11
          have hl9 := hb1.out.parts.1
          obtain ⟨l1, c10, c11, f10, f11⟩ := Z1.out.parts
          go_wp2
          go_roundw
          case rel => exact ⟨k + 1, A2, c2, by omega, by go_num, Lib.hid (own_monoG (own_set2 HO2.out (by omega) _ _) (by omega)), Lib.hid (Blk.other (Blk.other Z0.out (p := ⟨w1.heap.size, 0, none⟩) (by show w.heap.size ≠ w1.heap.size; omega) _) (p := ⟨w1.heap.size, 1, none⟩) (by show w.heap.size ≠ w1.heap.size; omega) _), Lib.hid (Z1.out.set _ _ _ _), Lib.hid (below_set2 ZB.out (by omega) _ _)⟩
          case measure => simp [intOf]; omega
        · obtain rfl : k = N := by omega
          have hfl := Lib.hid (fill_len q k)
          go_wp2
          refine bodyPost_ret (v := .tuple #[.agg #[.int .i64 (k : Int), .slice A1 q c1], .bool true]) (by simp [results, Tryz.results14, go_sem, c00, c01]) rfl ?_
          refine ⟨A1, c1, by rw [hfl.out], ?_, below_set2 hbel.out (Nat.le_refl _) _ _⟩
          rw [hfl.out]
          exact own_monoG (own_set2 hown.out (by omega) _ _) (by omega)
  · have he : newB N = false := by unfold newB; simp; omega
    rw [he, if_neg (by simp), if_neg (by simp)]
    obtain ⟨l0, c00, c01, f00, f01⟩ := HB0.out.parts
    have hg : N < 0 ∨ (0 ≤ N ∧ 150 < N) := by omega
    clear hb he
    rcases hg with hg | ⟨hg1, hg2⟩
    · have d1 : decide (N < 0) = true := by simp; omega
      go_enter Tryz.func14, Tryz.ntmps14
      go_wp2
      refine bodyPost_ret (v := .tuple #[.agg #[.int .i64 0, .slice none 0 0], .bool false]) (by simp [results, Tryz.results14, go_sem]) rfl ?_
      exact ⟨none, 0, rfl, own_nil _ _, below_a1 _ _⟩
    · have d1 : decide (N < 0) = false := by simp; omega
      have d2 : decide (150 < N) = true := by simp; omega
      go_enter Tryz.func14, Tryz.ntmps14
      go_wp2
      refine bodyPost_ret (v := .tuple #[.agg #[.int .i64 0, .slice none 0 0], .bool false]) (by simp [results, Tryz.results14, go_sem]) rfl ?_
      exact ⟨none, 0, rfl, own_nil _ _, below_a1 _ _⟩
end Go.Proofs.YtlhcobkncceodaaGreatDoor
namespace Go.Proofs.YtlhcobkncceodaaGreatDoor
open Go.RowKit
set_option linter.unusedVariables false

def newB' (N : Int) (G : List GE) (p s : Int) : Bool := graphB N G && jobB N p s
def newO (N : Int) (G : List GE) (p s : Int) : RD := if newB' N G p s then newR N G p s else noRun
def valsK (p s : Int) (k : Nat) : List Int := (List.range k).map (fun v : Nat => firstV p s (v : Int))
def edgesK (p : Int) (N : Nat) (G : List GE) (k : Nat) : List Int := (G.take k).map (fun e => firstE p e.f e.t ((degs GE.f N G).getD e.f.toNat 0))
theorem valsK_step (p s : Int) (k : Nat) : valsK p s (k + 1) = valsK p s k ++ [firstV p s (k : Int)] := by
  unfold valsK
  rw [List.range_succ, List.map_append]
  rfl
theorem edgesK_step (p : Int) (N : Nat) (G : List GE) {k f : Nat} {e : GE} {x : Int} (he : G[k]? = some e) (hf : e.f = (f : Int)) (hx : (degs GE.f N G)[f]? = some x) : edgesK p N G (k + 1) = edgesK p N G k ++ [firstE p (f : Int) e.t x] := by
  unfold edgesK
  rw [g_take _ _ _ he, List.map_append]
  simp [hf, List.getD_eq_getElem?_getD, hx]
theorem new_is {N : Nat} {G : List GE} {p s : Int} : newR (N : Int) G p s = ⟨p, s, 0, decide ((N : Int) = 0), valsK p s N, edgesK p N G G.length, (N : Int), newX (N : Int) true⟩ := by
  unfold newR valsK edgesK
  rw [List.take_length, Int.toNat_natCast]
theorem valsK_len (p s : Int) (k : Nat) : (valsK p s k).length = k := by simp [valsK]
theorem edgesK_len (p : Int) (N : Nat) (G : List GE) {k : Nat} (hk : k ≤ G.length) : (edgesK p N G k).length = k := by simp [edgesK]; omega
/-- Rows of two times. -/
theorem rows_far {v1 v2 : Value} {L : Nat} (h1 : ∀ g, v1.ownBlock = some g → g < L) (h2 : ∀ g, v2.ownBlock = some g → L ≤ g) : v1.ownBlock = none ∨ v1.ownBlock ≠ v2.ownBlock := by
  cases h : v1.ownBlock with
  | none => exact .inl rfl
  | some g => exact .inr (fun e => by have := h1 g h; have := h2 g e.symm; omega)
theorem rows_ap {v1 v2 : Value} {L : Nat} (h1 : ∀ g, v1.ownBlock = some g → g < L) (h2 : ∀ g, v2.ownBlock = some g → L ≤ g) : v1.ownBlock = none ∨ v2.ownBlock ≠ v1.ownBlock :=
  (rows_far h1 h2).imp id fun h e => h e.symm
end Go.Proofs.YtlhcobkncceodaaGreatDoor
namespace Go.Proofs.YtlhcobkncceodaaGreatDoor
open Go.RowKit

end Go.Proofs.YtlhcobkncceodaaGreatDoor
namespace Go.Proofs.YtlhcobkncceodaaGreatDoor
open Go.RowKit

set_option maxRecDepth 10000 in
set_option maxHeartbeats 4000000 in
theorem specOut (N : Int) (A : Option Addr) (n c : Nat) (es : List GE) (w : World) (hr : SlG w A n es) (hn : n ≤ 1048576) :
    Calls Tryz.prog 106 #[.agg #[.int .i64 N, .slice A n c]] w (MadeI w (degsOf GE.f N es)) := by
  obtain ⟨i0, hi, hz0, hz1, hz2⟩ := info_parts Tryz.infoInt
  have HEL := Lib.hid hr.len
  have HR := Lib.hid hr
  have CG := Lib.hid (fun W (h : Below w.heap.size w W) => specGraphOk N A n c es W (hr.below h) hn)
  clear hr
  go_enter Tryz.func106, Tryz.ntmps106
  go_wp2_with fail
  refine (CG.out _ (below_a1 _ _)).mono ?_
  rintro e w1 ⟨rfl, hb1⟩
  have X1 := Lib.hid ((NBox.new w N A n c 25).below hb1)
  have HB1 := Lib.hid (g_chain (below_a1 w (.cells #[.int .i64 N, .slice A n c] 25)) hb1)
  clear hb1
  obtain ⟨l0, x0, x1⟩ := X1.out
  cases hv : graphB N es with
  | false =>
    have HD : Hid (degsOf GE.f N es = []) := Lib.hid (by unfold degsOf; rw [hv]; rfl)
    go_wp2
    go_ret
    rw [HD.out]
    exact ⟨none, 0, 0, rfl, World.ownsRow_nil _ _ _ _, HB1.out⟩
  | true =>
    have HD : Hid (degsOf GE.f N es = degs GE.f N.toNat es) := Lib.hid (by unfold degsOf; rw [hv]; rfl)
    obtain ⟨h1, h2, h3, h4⟩ := graphB_iff hv
    have H4 := Lib.hid h4
    rw [HEL.out] at h3
    clear hv h4
    obtain ⟨M, rfl⟩ : ∃ M : Nat, N = (M : Int) := ⟨N.toNat, by omega⟩
    rw [Int.toNat_natCast] at HD
    go_wp2_with (refine wpList_make_full _ rfl (.tmp 10) (.tmp 10) 28 rfl w1.heap.size 3 i0 (.int .i64 0) 1 Tryz.underlying28 hi hz0 hz1 .i64 .i64 _ _ M rfl rfl rfl rfl (by rw [hz2]; omega) (by unfold maxLen; omega) (Nat.le_refl _) ?_; intro w2 hown hg; have hb2 : Below w1.heap.size w1 w2 := (Below.refl _ _).grown hg (Nat.le_refl _) (by simp); have X2 := Lib.hid (X1.out.below hb2); have HB2 := Lib.hid (g_chain HB1.out hb2); rw [made_zero M GE.f es] at hown; have HO2 := Lib.hid hown; clear hown hg hb2 l0 x0 x1; obtain ⟨l0, x0, x1⟩ := X2.out)
    have hg1 : w.heap.size < w1.heap.size := X1.out.lt
    go_loopw [15] (fun i wr => ∃ k : Nat, k ≤ n ∧ i = .int .i64 k ∧ Hid (NBox wr w.heap.size M A n c) ∧ Hid (Below w.heap.size w wr) ∧ Hid (wr.ownsRow w1.heap.size 3 1 (.slice (some ⟨w1.heap.size, 0, none⟩) M M) M (vi (degs GE.f M (es.take k))))) (fun i _ => n - (intOf i).toNat)
    case atStart => exact ⟨0, Nat.zero_le _, rfl, X2, HB2, HO2⟩
    case round =>
      clear X2 HB2 HO2 l0 x0 x1
      obtain ⟨k, hk, rfl, hx, hbel, hown⟩ := hrel
      by_cases hlt : k < n
      · obtain ⟨b, off, e, rfl, hbw, he, c0, c1, c2⟩ := HR.out.at_ hlt
        have c0 := (hbel.out.cell (p := ⟨b, off + k * 3, none⟩) hbw).trans c0
        have c1 := (hbel.out.cell (p := ⟨b, off + k * 3 + 1, none⟩) hbw).trans c1
        have c2 := (hbel.out.cell (p := ⟨b, off + k * 3 + 2, none⟩) hbw).trans c2
        have hh := edgeB_iff (H4.out e (List.mem_of_getElem? he.out))
        obtain ⟨F, T, W0⟩ := e
        simp only at hh c0 c1 c2
        obtain ⟨f, rfl⟩ : ∃ f : Nat, F = (f : Int) := ⟨Int.toNat F, by omega⟩
        have hfM : f < M := by omega
        obtain ⟨x, hx1, hx2, hx3⟩ := degs_at (key := GE.f) (es := es.take k) hfM
        have hx4 : x ≤ 400 := by have := List.length_take_le k es; rw [HEL.out] at *; omega
        have HST := Lib.hid (degs_step (key := GE.f) (M := M) he.out (f := f) rfl hx1)
        have HX1 := Lib.hid hx1
        have HA1 := Lib.hid (below_a1 wr (.cells #[.int .i64 (f : Int), .int .i64 T, .int .i64 W0] 113))
        have HOW := Lib.hid (own_below hown.out HA1.out)
        obtain ⟨l0, x0, x1⟩ := hx.out
        have hc0 : (wr.alloc (.cells #[.int .i64 (f : Int), .int .i64 T, .int .i64 W0] 113)).cell? ⟨w1.heap.size, f, none⟩ = some (.int .i64 x) := (HOW.out.cellAt f (by omega)).trans (by rw [vi_get, HX1.out]; first | done | rfl)
        have hf0 := HOW.out.frozenAt f
        have HS := Lib.hid (hown.out.stored f (.int .i64 (x + 1)))
        rw [← HST.out] at HS
        have hgl : w1.heap.size < wr.heap.size := (hown.out.lt w1.heap.size rfl).2
        have hgl2 : ¬ w1.heap.size = wr.heap.size := by omega
        clear hx1 hx3
        go_wp2
        go_roundw
        case rel =>
          refine ⟨k + 1, by omega, by go_num, Lib.hid ?_, Lib.hid ?_, Lib.hid ?_⟩
          · exact (hx.out.keep (by simp) (Below.heap_setCell wr ⟨w1.heap.size, f, none⟩ (.int .i64 (x + 1)) w.heap.size (by show w.heap.size ≠ w1.heap.size; omega))).alloc _
          · exact (hbel.out.setCell (p := ⟨w1.heap.size, f, none⟩) (by show w.heap.size ≤ w1.heap.size; omega) _).alloc (by simp; omega) _
          · exact own_below HS.out.1 (below_a1 _ _)
        case measure => simp [intOf]; omega
      · obtain rfl : k = n := by omega
        obtain ⟨l0, x0, x1⟩ := hx.out
        go_wp2
        go_ret
        rw [HD.out]
        have h := hown.out
        rw [List.take_of_length_le (by rw [HEL.out]; exact Nat.le_refl _)] at h
        exact ⟨_, _, _, rfl, own_monoG h (by omega), hbel.out⟩

end Go.Proofs.YtlhcobkncceodaaGreatDoor
