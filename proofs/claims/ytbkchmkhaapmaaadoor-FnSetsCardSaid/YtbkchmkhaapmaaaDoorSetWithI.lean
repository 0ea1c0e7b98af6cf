/- The contracts of the program's functions that put a vertex into a set and take one out. -/
import Derived.Test.YtbkchmkhaapmaaaDoorSetOkI
import Derived.Test.YtbkchmkhaapmaaaDoorSetCopyI
namespace Go.Proofs.YtbkchmkhaapmaaaDoor
open Go.RowKit
set_option linter.unusedVariables false

set_option maxRecDepth 10000 in
set_option maxHeartbeats 8000000 in
theorem implChanged_mark (N v : Int) (A : Option Addr) (n c : Nat) (xs : List Nat) (w : World) (hw : Wts w) (hr : Rd w A n xs) (hn : n ≤ 2097152) (hv : (Lit.int .i64 v).wf = true) :
    Calls Tryd.prog 41 #[.agg #[.int .i64 N, .slice A n c], .int .i64 v, .func (.func 42) #[] #[]] w (MadeS w (withN N xs) (withX N xs v)) := by
  have HW := Lib.hid hw
  have HL := Lib.hid hr.len
  have HR := Lib.hid hr
  have HSM := Lib.hid hr.small
  clear hr hw
  obtain ⟨hv1, hv2⟩ := bounds_i64 hv
  have C1 := Lib.hid (fun W (h : Below w.heap.size w W) => implSetOk N A n c xs W (HW.out.below h) (HR.out.below h) hn)
  have C2 := Lib.hid (fun W (h : Below w.heap.size w W) => implCopySet N A n c xs W (HR.out.below h) hn)
  have HB0 := Lib.hid ((SBx.new w N A n c).below (below_a1 _ (.cells #[.int .i64 0, .slice none 0 0] 24)))
  have HB1 := Lib.hid (SBx.new1 w (.cells #[.int .i64 N, .slice A n c] 24) 0 none 0 0)
  cases hok : setB N xs with
  | false =>
    have H1 : Hid (withN N xs = 0 ∧ withX N xs v = []) := Lib.hid (by unfold withN withX; rw [hok]; exact ⟨rfl, rfl⟩)
    rw [H1.out.1, H1.out.2]
    rw [hok] at C1
    go_enter Tryd.func41, Tryd.ntmps41
    go_wp2_with fail
    refine (C1.out _ (below_a2 _ _ _)).mono ?_
    rintro e w1 ⟨rfl, hb1⟩
    have X0 := Lib.hid (HB0.out.below hb1)
    have X1 := Lib.hid (HB1.out.below hb1)
    have HBW := Lib.hid (s_chain (below_a2 _ _ _) hb1)
    clear hb1 HB0 HB1
    obtain ⟨l0, c00, c01, f00, f01⟩ := X0.out.parts
    obtain ⟨l1, c10, c11, f10, f11⟩ := X1.out.parts
    go_wp2
    refine bodyPost_ret (v := .agg #[.int .i64 0, .slice none 0 0]) (by simp [results, Tryd.results41, go_sem, c10, c11]) rfl ?_
    exact ⟨none, 0, rfl, own_nil _ _, below_set2 HBW.out (by omega) _ _⟩
  | true =>
    have hdim := setB_dim hok
    obtain ⟨N, rfl⟩ : ∃ k : Nat, N = (k : Int) := ⟨N.toNat, by omega⟩
    rw [hok] at C1
    have hN : N ≤ 150 := by omega
    have HLN : Hid (xs.length = bytesN N) := Lib.hid (by have := hdim.2.2; rwa [Int.toNat_natCast] at this)
    have H1 : Hid (withN (N : Int) xs = (N : Int)) := Lib.hid (by unfold withN; rw [hok]; rfl)
    rw [H1.out]
    clear hdim
    by_cases hin : 0 ≤ v ∧ v < (N : Int)
    · obtain ⟨v, rfl⟩ : ∃ k : Nat, v = (k : Int) := ⟨v.toNat, by omega⟩
      have H2 : Hid (withX (N : Int) xs (v : Int) = addV xs v) := Lib.hid (by unfold withX; rw [hok, if_pos rfl, if_pos hin, Int.toNat_natCast])
      rw [H2.out]
      have d1 : decide ((0 : Int) ≤ (v : Int)) = true := by simp
      have d2 : decide ((v : Int) < (N : Int)) = true := by simp; omega
      have hvl : v / 8 < xs.length := by rw [HLN.out]; exact lt_bytes (by omega)
      have C3 := Lib.hid (fun W A c lo (h : Below w.heap.size w W) (ho : W.ownsRow lo 5 1 (.slice A xs.length c) xs.length (vb xs)) => mark_anyS (N : Int) A xs.length c lo v xs W (HW.out.below h) ho HSM.out hvl (by omega))
      have hlen : (addV xs v).length = xs.length := addV_len xs v
      have HLEN := Lib.hid hlen
      clear hlen hvl hok
      generalize addV xs v = ys at C3 HLEN ⊢
      go_enter Tryd.func41, Tryd.ntmps41
      go_wp2_with fail
      refine (C1.out _ (below_a2 _ _ _)).mono ?_
      rintro e w1 ⟨rfl, hb1⟩
      have X0 := Lib.hid (HB0.out.below hb1)
      have X1 := Lib.hid (HB1.out.below hb1)
      have HBW := Lib.hid (s_chain (below_a2 _ _ _) hb1)
      clear hb1 HB0 HB1
      obtain ⟨l0, c00, c01, f00, f01⟩ := X0.out.parts
      go_wp2_with fail
      refine (C2.out _ HBW.out).mono ?_
      rintro e w2 ⟨A2, c2, rfl, ho2, hb2⟩
      have Y0 := Lib.hid ((X0.out.below hb2).below (below_a1 _ (.cells #[.int .i64 (N : Int), .slice A2 xs.length c2] 24)))
      have Y1 := Lib.hid ((X1.out.below hb2).below (below_a1 _ (.cells #[.int .i64 (N : Int), .slice A2 xs.length c2] 24)))
      have Y2 := Lib.hid (SBx.new w2 (N : Int) A2 xs.length c2)
      have HBW2 := Lib.hid (s_chain (s_chain HBW.out hb2) (below_a1 _ (.cells #[.int .i64 (N : Int), .slice A2 xs.length c2] 24)))
      have O2 := Lib.hid (own_below ho2 (below_a1 _ (.cells #[.int .i64 (N : Int), .slice A2 xs.length c2] 24)))
      have HRG := Lib.hid ho2.lt
      have hsz := X1.out.parts.1
      clear hb2 ho2 l0 c00 c01 f00 f01
      obtain ⟨l0, c00, c01, f00, f01⟩ := Y0.out.parts
      obtain ⟨l2, c20, c21, f20, f21⟩ := Y2.out.parts
      go_wp2_with fail
      refine (C3.out _ _ _ _ HBW2.out O2.out).mono ?_
      rintro e w3 ⟨rfl, ho3, hg3⟩
      have O3 := Lib.hid ho3
      have Z1 := Lib.hid (Y1.out.grown hg3 (fun e => by have := HRG.out _ e; omega))
      have Z2 := Lib.hid (Y2.out.grown hg3 (fun e => by have := HRG.out _ e; omega))
      have HBW3 := Lib.hid (HBW2.out.grown hg3 HBW2.out.size (fun k hk => by have := HRG.out _ hk; omega))
      clear l0 c00 c01 f00 f01 l2 c20 c21 f20 f21 ho3 hg3
      obtain ⟨l1, c10, c11, f10, f11⟩ := Z1.out.parts
      obtain ⟨l2, c20, c21, f20, f21⟩ := Z2.out.parts
      go_wp2
      refine bodyPost_ret (v := .agg #[.int .i64 (N : Int), .slice A2 xs.length c2]) (by simp [results, Tryd.results41, go_sem, c10, c11]) rfl ?_
      rw [← HLEN.out] at O3
      refine ⟨A2, c2, by rw [HLEN.out], ?_, below_set2 HBW3.out (by omega) _ _⟩
      exact own_monoG (own_set2 O3.out (by omega) _ _) (by omega)
    · have H2 : Hid (withX (N : Int) xs v = xs) := Lib.hid (by unfold withX; rw [hok, if_pos rfl, if_neg hin])
      rw [H2.out]
      clear hok
      have hg : v < 0 ∨ (0 ≤ v ∧ (N : Int) ≤ v) := by omega
      clear hin
      go_enter Tryd.func41, Tryd.ntmps41
      go_wp2_with fail
      refine (C1.out _ (below_a2 _ _ _)).mono ?_
      rintro e w1 ⟨rfl, hb1⟩
      have X0 := Lib.hid (HB0.out.below hb1)
      have X1 := Lib.hid (HB1.out.below hb1)
      have HBW := Lib.hid (s_chain (below_a2 _ _ _) hb1)
      clear hb1 HB0 HB1
      obtain ⟨l0, c00, c01, f00, f01⟩ := X0.out.parts
      go_wp2_with fail
      refine (C2.out _ HBW.out).mono ?_
      rintro e w2 ⟨A2, c2, rfl, ho2, hb2⟩
      have Y0 := Lib.hid ((X0.out.below hb2).below (below_a1 _ (.cells #[.int .i64 (N : Int), .slice A2 xs.length c2] 24)))
      have Y1 := Lib.hid ((X1.out.below hb2).below (below_a1 _ (.cells #[.int .i64 (N : Int), .slice A2 xs.length c2] 24)))
      have Y2 := Lib.hid (SBx.new w2 (N : Int) A2 xs.length c2)
      have HBW2 := Lib.hid (s_chain (s_chain HBW.out hb2) (below_a1 _ (.cells #[.int .i64 (N : Int), .slice A2 xs.length c2] 24)))
      have O2 := Lib.hid (own_below ho2 (below_a1 _ (.cells #[.int .i64 (N : Int), .slice A2 xs.length c2] 24)))
      have hsz := X1.out.parts.1
      clear hb2 ho2 l0 c00 c01 f00 f01
      obtain ⟨l0, c00, c01, f00, f01⟩ := Y0.out.parts
      obtain ⟨l1, c10, c11, f10, f11⟩ := Y1.out.parts
      obtain ⟨l2, c20, c21, f20, f21⟩ := Y2.out.parts
      rcases hg with hg | ⟨hg1, hg2⟩
      · have d1 : decide (0 ≤ v) = false := by simp; omega
        go_wp2
        refine bodyPost_ret (v := .agg #[.int .i64 (N : Int), .slice A2 xs.length c2]) (by simp [results, Tryd.results41, go_sem, c10, c11]) rfl ?_
        refine ⟨A2, c2, rfl, ?_, below_set2 HBW2.out (by omega) _ _⟩
        exact own_monoG (own_set2 O2.out (by omega) _ _) (by omega)
      · have d1 : decide (0 ≤ v) = true := by simp; omega
        have d2 : decide (v < (N : Int)) = false := by simp; omega
        go_wp2
        refine bodyPost_ret (v := .agg #[.int .i64 (N : Int), .slice A2 xs.length c2]) (by simp [results, Tryd.results41, go_sem, c10, c11]) rfl ?_
        refine ⟨A2, c2, rfl, ?_, below_set2 HBW2.out (by omega) _ _⟩
        exact own_monoG (own_set2 O2.out (by omega) _ _) (by omega)
set_option maxHeartbeats 4000000 in
theorem implWith (N v : Int) (A : Option Addr) (n c : Nat) (xs : List Nat) (w : World) (hw : Wts w) (hr : Rd w A n xs) (hn : n ≤ 2097152) (hv : (Lit.int .i64 v).wf = true) :
    Calls Tryd.prog 14 #[.agg #[.int .i64 N, .slice A n c], .int .i64 v] w (MadeS w (withN N xs) (withX N xs v)) := by
  have C1 := Lib.hid (fun W (h : Below w.heap.size w W) => implChanged_mark N v A n c xs W (hw.below h) (hr.below h) hn hv)
  have HB1 := Lib.hid (SBx.new1 w (.cells #[.int .i64 N, .slice A n c] 24) 0 none 0 0)
  clear hr hw
  generalize withN N xs = M at C1 ⊢
  generalize withX N xs v = ys at C1 ⊢
  go_enter Tryd.func14, Tryd.ntmps14
  go_wp2_with fail
  refine (C1.out _ (below_a2 _ _ _)).mono ?_
  rintro e w1 ⟨A1, c1, rfl, ho1, hb1⟩
  have X1 := Lib.hid (HB1.out.below hb1)
  have HBW := Lib.hid (s_chain (below_a2 _ _ _) hb1)
  have hsz := hb1.size
  simp only [World.size_alloc] at hsz ho1
  have O1 := Lib.hid ho1
  clear hb1 ho1 HB1
  obtain ⟨l1, c10, c11, f10, f11⟩ := X1.out.parts
  go_wp2
  refine bodyPost_ret (v := .agg #[.int .i64 M, .slice A1 ys.length c1]) (by simp [results, Tryd.results14, go_sem, c10, c11]) rfl ?_
  refine ⟨A1, c1, rfl, ?_, below_set2 HBW.out (by omega) _ _⟩
  exact own_monoG (own_set2 O1.out (by omega) _ _) (by omega)
set_option maxRecDepth 10000 in
set_option maxHeartbeats 8000000 in
theorem implChanged_unmark (N v : Int) (A : Option Addr) (n c : Nat) (xs : List Nat) (w : World) (hw : Wts w) (hr : Rd w A n xs) (hn : n ≤ 2097152) (hv : (Lit.int .i64 v).wf = true) :
    Calls Tryd.prog 41 #[.agg #[.int .i64 N, .slice A n c], .int .i64 v, .func (.func 43) #[] #[]] w (MadeS w (withN N xs) (wipeX N xs v)) := by
  have HW := Lib.hid hw
  have HL := Lib.hid hr.len
  have HR := Lib.hid hr
  have HSM := Lib.hid hr.small
  clear hr hw
  obtain ⟨hv1, hv2⟩ := bounds_i64 hv
  have C1 := Lib.hid (fun W (h : Below w.heap.size w W) => implSetOk N A n c xs W (HW.out.below h) (HR.out.below h) hn)
  have C2 := Lib.hid (fun W (h : Below w.heap.size w W) => implCopySet N A n c xs W (HR.out.below h) hn)
  have HB0 := Lib.hid ((SBx.new w N A n c).below (below_a1 _ (.cells #[.int .i64 0, .slice none 0 0] 24)))
  have HB1 := Lib.hid (SBx.new1 w (.cells #[.int .i64 N, .slice A n c] 24) 0 none 0 0)
  cases hok : setB N xs with
  | false =>
    have H1 : Hid (withN N xs = 0 ∧ wipeX N xs v = []) := Lib.hid (by unfold withN wipeX; rw [hok]; exact ⟨rfl, rfl⟩)
    rw [H1.out.1, H1.out.2]
    rw [hok] at C1
    go_enter Tryd.func41, Tryd.ntmps41
    go_wp2_with fail
    refine (C1.out _ (below_a2 _ _ _)).mono ?_
    rintro e w1 ⟨rfl, hb1⟩
    have X0 := Lib.hid (HB0.out.below hb1)
    have X1 := Lib.hid (HB1.out.below hb1)
    have HBW := Lib.hid (s_chain (below_a2 _ _ _) hb1)
    clear hb1 HB0 HB1
    obtain ⟨l0, c00, c01, f00, f01⟩ := X0.out.parts
    obtain ⟨l1, c10, c11, f10, f11⟩ := X1.out.parts
    go_wp2
    refine bodyPost_ret (v := .agg #[.int .i64 0, .slice none 0 0]) (by simp [results, Tryd.results41, go_sem, c10, c11]) rfl ?_
    exact ⟨none, 0, rfl, own_nil _ _, below_set2 HBW.out (by omega) _ _⟩
  | true =>
    have hdim := setB_dim hok
    obtain ⟨N, rfl⟩ : ∃ k : Nat, N = (k : Int) := ⟨N.toNat, by omega⟩
    rw [hok] at C1
    have hN : N ≤ 150 := by omega
    have HLN : Hid (xs.length = bytesN N) := Lib.hid (by have := hdim.2.2; rwa [Int.toNat_natCast] at this)
    have H1 : Hid (withN (N : Int) xs = (N : Int)) := Lib.hid (by unfold withN; rw [hok]; rfl)
    rw [H1.out]
    clear hdim
    by_cases hin : 0 ≤ v ∧ v < (N : Int)
    · obtain ⟨v, rfl⟩ : ∃ k : Nat, v = (k : Int) := ⟨v.toNat, by omega⟩
      have H2 : Hid (wipeX (N : Int) xs (v : Int) = delV xs v) := Lib.hid (by unfold wipeX; rw [hok, if_pos rfl, if_pos hin, Int.toNat_natCast])
      rw [H2.out]
      have d1 : decide ((0 : Int) ≤ (v : Int)) = true := by simp
      have d2 : decide ((v : Int) < (N : Int)) = true := by simp; omega
      have hvl : v / 8 < xs.length := by rw [HLN.out]; exact lt_bytes (by omega)
      have C3 := Lib.hid (fun W A c lo (h : Below w.heap.size w W) (ho : W.ownsRow lo 5 1 (.slice A xs.length c) xs.length (vb xs)) => unmark_anyS (N : Int) A xs.length c lo v xs W (HW.out.below h) ho HSM.out hvl (by omega))
      have hlen : (delV xs v).length = xs.length := delV_len xs v
      have HLEN := Lib.hid hlen
      clear hlen hvl hok
      generalize delV xs v = ys at C3 HLEN ⊢
      go_enter Tryd.func41, Tryd.ntmps41
      go_wp2_with fail
      refine (C1.out _ (below_a2 _ _ _)).mono ?_
      rintro e w1 ⟨rfl, hb1⟩
      have X0 := Lib.hid (HB0.out.below hb1)
      have X1 := Lib.hid (HB1.out.below hb1)
      have HBW := Lib.hid (s_chain (below_a2 _ _ _) hb1)
      clear hb1 HB0 HB1
      obtain ⟨l0, c00, c01, f00, f01⟩ := X0.out.parts
      go_wp2_with fail
      refine (C2.out _ HBW.out).mono ?_
      rintro e w2 ⟨A2, c2, rfl, ho2, hb2⟩
      have Y0 := Lib.hid ((X0.out.below hb2).below (below_a1 _ (.cells #[.int .i64 (N : Int), .slice A2 xs.length c2] 24)))
      have Y1 := Lib.hid ((X1.out.below hb2).below (below_a1 _ (.cells #[.int .i64 (N : Int), .slice A2 xs.length c2] 24)))
      have Y2 := Lib.hid (SBx.new w2 (N : Int) A2 xs.length c2)
      have HBW2 := Lib.hid (s_chain (s_chain HBW.out hb2) (below_a1 _ (.cells #[.int .i64 (N : Int), .slice A2 xs.length c2] 24)))
      have O2 := Lib.hid (own_below ho2 (below_a1 _ (.cells #[.int .i64 (N : Int), .slice A2 xs.length c2] 24)))
      have HRG := Lib.hid ho2.lt
      have hsz := X1.out.parts.1
      clear hb2 ho2 l0 c00 c01 f00 f01
      obtain ⟨l0, c00, c01, f00, f01⟩ := Y0.out.parts
      obtain ⟨l2, c20, c21, f20, f21⟩ := Y2.out.parts
      go_wp2_with fail
      refine (C3.out _ _ _ _ HBW2.out O2.out).mono ?_
      rintro e w3 ⟨rfl, ho3, hg3⟩
      have O3 := Lib.hid ho3
      have Z1 := Lib.hid (Y1.out.grown hg3 (fun e => by have := HRG.out _ e; omega))
      have Z2 := Lib.hid (Y2.out.grown hg3 (fun e => by have := HRG.out _ e; omega))
      have HBW3 := Lib.hid (HBW2.out.grown hg3 HBW2.out.size (fun k hk => by have := HRG.out _ hk; omega))
      clear l0 c00 c01 f00 f01 l2 c20 c21 f20 f21 ho3 hg3
      obtain ⟨l1, c10, c11, f10, f11⟩ := Z1.out.parts
      obtain ⟨l2, c20, c21, f20, f21⟩ := Z2.out.parts
      go_wp2
      refine bodyPost_ret (v := .agg #[.int .i64 (N : Int), .slice A2 xs.length c2]) (by simp [results, Tryd.results41, go_sem, c10, c11]) rfl ?_
      rw [← HLEN.out] at O3
      refine ⟨A2, c2, by rw [HLEN.out], ?_, below_set2 HBW3.out (by omega) _ _⟩
      exact own_monoG (own_set2 O3.out (by omega) _ _) (by omega)
    · have H2 : Hid (wipeX (N : Int) xs v = xs) := Lib.hid (by unfold wipeX; rw [hok, if_pos rfl, if_neg hin])
      rw [H2.out]
      clear hok
      have hg : v < 0 ∨ (0 ≤ v ∧ (N : Int) ≤ v) := by omega
      clear hin
      go_enter Tryd.func41, Tryd.ntmps41
      go_wp2_with fail
      refine (C1.out _ (below_a2 _ _ _)).mono ?_
      rintro e w1 ⟨rfl, hb1⟩
      have X0 := Lib.hid (HB0.out.below hb1)
      have X1 := Lib.hid (HB1.out.below hb1)
      have HBW := Lib.hid (s_chain (below_a2 _ _ _) hb1)
      clear hb1 HB0 HB1
      obtain ⟨l0, c00, c01, f00, f01⟩ := X0.out.parts
      go_wp2_with fail
      refine (C2.out _ HBW.out).mono ?_
      rintro e w2 ⟨A2, c2, rfl, ho2, hb2⟩
      have Y0 := Lib.hid ((X0.out.below hb2).below (below_a1 _ (.cells #[.int .i64 (N : Int), .slice A2 xs.length c2] 24)))
      have Y1 := Lib.hid ((X1.out.below hb2).below (below_a1 _ (.cells #[.int .i64 (N : Int), .slice A2 xs.length c2] 24)))
      have Y2 := Lib.hid (SBx.new w2 (N : Int) A2 xs.length c2)
      have HBW2 := Lib.hid (s_chain (s_chain HBW.out hb2) (below_a1 _ (.cells #[.int .i64 (N : Int), .slice A2 xs.length c2] 24)))
      have O2 := Lib.hid (own_below ho2 (below_a1 _ (.cells #[.int .i64 (N : Int), .slice A2 xs.length c2] 24)))
      have hsz := X1.out.parts.1
      clear hb2 ho2 l0 c00 c01 f00 f01
      obtain ⟨l0, c00, c01, f00, f01⟩ := Y0.out.parts
      obtain ⟨l1, c10, c11, f10, f11⟩ := Y1.out.parts
      obtain ⟨l2, c20, c21, f20, f21⟩ := Y2.out.parts
      rcases hg with hg | ⟨hg1, hg2⟩
      · have d1 : decide (0 ≤ v) = false := by simp; omega
        go_wp2
        refine bodyPost_ret (v := .agg #[.int .i64 (N : Int), .slice A2 xs.length c2]) (by simp [results, Tryd.results41, go_sem, c10, c11]) rfl ?_
        refine ⟨A2, c2, rfl, ?_, below_set2 HBW2.out (by omega) _ _⟩
        exact own_monoG (own_set2 O2.out (by omega) _ _) (by omega)
      · have d1 : decide (0 ≤ v) = true := by simp; omega
        have d2 : decide (v < (N : Int)) = false := by simp; omega
        go_wp2
        refine bodyPost_ret (v := .agg #[.int .i64 (N : Int), .slice A2 xs.length c2]) (by simp [results, Tryd.results41, go_sem, c10, c11]) rfl ?_
        refine ⟨A2, c2, rfl, ?_, below_set2 HBW2.out (by omega) _ _⟩
        exact own_monoG (own_set2 O2.out (by omega) _ _) (by omega)
set_option maxHeartbeats 4000000 in
theorem implWithout (N v : Int) (A : Option Addr) (n c : Nat) (xs : List Nat) (w : World) (hw : Wts w) (hr : Rd w A n xs) (hn : n ≤ 2097152) (hv : (Lit.int .i64 v).wf = true) :
    Calls Tryd.prog 15 #[.agg #[.int .i64 N, .slice A n c], .int .i64 v] w (MadeS w (withN N xs) (wipeX N xs v)) := by
  have C1 := Lib.hid (fun W (h : Below w.heap.size w W) => implChanged_unmark N v A n c xs W (hw.below h) (hr.below h) hn hv)
  have HB1 := Lib.hid (SBx.new1 w (.cells #[.int .i64 N, .slice A n c] 24) 0 none 0 0)
  clear hr hw
  generalize withN N xs = M at C1 ⊢
  generalize wipeX N xs v = ys at C1 ⊢
  go_enter Tryd.func15, Tryd.ntmps15
  go_wp2_with fail
  refine (C1.out _ (below_a2 _ _ _)).mono ?_
  rintro e w1 ⟨A1, c1, rfl, ho1, hb1⟩
  have X1 := Lib.hid (HB1.out.below hb1)
  have HBW := Lib.hid (s_chain (below_a2 _ _ _) hb1)
  have hsz := hb1.size
  simp only [World.size_alloc] at hsz ho1
  have O1 := Lib.hid ho1
  clear hb1 ho1 HB1
  obtain ⟨l1, c10, c11, f10, f11⟩ := X1.out.parts
  go_wp2
  refine bodyPost_ret (v := .agg #[.int .i64 M, .slice A1 ys.length c1]) (by simp [results, Tryd.results15, go_sem, c10, c11]) rfl ?_
  refine ⟨A1, c1, rfl, ?_, below_set2 HBW.out (by omega) _ _⟩
  exact own_monoG (own_set2 O1.out (by omega) _ _) (by omega)
end Go.Proofs.YtbkchmkhaapmaaaDoor
