/- The contracts of the model's functions that draw a set for a law. Condition: at most 2^20 bytes. -/
import Derived.Test.YtbkchmkhaapmaaaDoorSetNewS
import Derived.Test.YtbkchmkhaapmaaaDoorDrawKeep
import Derived.Test.YtbkchmkhaapmaaaDoorSetApart
import Derived.Deep.RegionHeld3
namespace Go.Proofs.YtbkchmkhaapmaaaDoor
open Go.RowKit
set_option linter.unusedVariables false

/-- What a call leaves that draws a set of N vertices. -/
def DrawnS (w : World) (g N : Nat) (A : Option Addr) (n c : Nat) (xs : List Nat) (e : Ending) (w' : World) : Prop :=
  ∃ (ys : List Nat) (B : Option Addr) (d : Nat), setB (N : Int) ys = true ∧ (∀ x ∈ ys, x < 256) ∧ e = .returned (.agg #[.int .i64 (N : Int), .slice B ys.length d]) ∧ w'.ownsRow w.heap.size 5 1 (.slice B ys.length d) ys.length (vb ys) ∧ Cur w' g A n c xs ∧ w.grownBy w' (some g)
theorem own_set2n {w : World} {lo n : Nat} {v : Value} {xs : List Value} {b m c : Nat} {N : Int} {A : Option Addr} (h : w.ownsRow lo 5 1 v n xs) (hb : SBx w b N A m c) (u u' : Value) : ((w.setCell ⟨b, 0, none⟩ u).setCell ⟨b, 1, none⟩ u').ownsRow lo 5 1 v n xs := own_part2 h (set_kind h hb) u u'
theorem grown_set2 (w : World) (b : Nat) (u v : Value) : w.grownBy ((w.setCell ⟨b, 0, none⟩ u).setCell ⟨b, 1, none⟩ v) (some b) := grown_setAt (grown_setAt (World.grownBy.refl _ _) 0 u) 1 v
theorem drop_in {N v : Nat} {ys : List Nat} (h : setB (N : Int) ys = true) (hv : v ≤ N) : setB (N : Int) (withX (N : Int) ys (v : Int)) = true ∧ withN (N : Int) ys = (N : Int) := by
  have h9 := setB_dim h
  unfold withX withN
  rw [h, if_pos rfl, if_pos rfl]
  refine ⟨?_, rfl⟩
  split
  · rename_i h2
    rw [Int.toNat_natCast]
    exact setB_add h (by rw [Int.toNat_natCast]; omega)
  · exact h
theorem new_in {N : Nat} (hN : N ≤ 150) (all : Bool) : setB (N : Int) (newX (N : Int) all) = true ∧ newN (N : Int) = (N : Int) ∧ newB (N : Int) = true := by
  have h1 : newB (N : Int) = true := by unfold newB; simp; omega
  refine ⟨?_, by unfold newN; rw [h1, if_pos rfl], h1⟩
  unfold newX
  rw [h1, if_pos rfl, Int.toNat_natCast]
  exact setB_fill hN (by split <;> omega)
set_option maxRecDepth 10000 in
set_option maxHeartbeats 8000000 in
theorem drawSet (g N : Nat) (A : Option Addr) (n c : Nat) (xs : List Nat) (w : World) (hcur : Cur w g A n c xs) (hg : g < w.heap.size) (hN : N ≤ 30) (hA : 0 < n → ∀ b off sp, A = some ⟨b, off, sp⟩ → b < w.heap.size) :
    Calls Tryd.prog 39 #[.pointer (some ⟨g, 0, none⟩), .int .i64 (N : Int)] w (DrawnS w g N A n c xs) := by
  have HA := Lib.hid hA
  have C4 := Lib.hid (fun W (h : Cur W g A n c xs) => drawBelow g A n c 4 xs W h (by omega) (by omega))
  have C6 := Lib.hid (fun W (h : Cur W g A n c xs) => drawBelow g A n c 6 xs W h (by omega) (by omega))
  have CN := Lib.hid (fun W (h : Cur W g A n c xs) => drawBelow g A n c (N + 1) xs W h (by omega) (by omega))
  have e1 : ((N + 1 : Nat) : Int) = (N : Int) + 1 := by omega
  rw [e1] at CN
  have hwN : IntKind.i64.wrap ((N : Int) + 1) = (N : Int) + 1 := IntWalk.i64_in _ (by omega)
  clear e1
  have CS := Lib.hid (fun W (all : Bool) => specSetNew (N : Int) all W (WalkArith.wf_i64 (by omega)))
  have hcur1 := Lib.hid (hcur.grow (below_a1 w (.cells #[.int .i64 0, .slice none 0 0] 24)))
  have HR0 := Lib.hid (SBx.new w 0 none 0 0)
  have HG0 := Lib.hid (grownBy_of_below (below_a1 w (.cells #[.int .i64 0, .slice none 0 0] 24)) (some g))
  clear hcur hA
  go_enter Tryd.func39, Tryd.ntmps39
  go_wp2_with fail
  refine (C4.out _ hcur1.out).mono ?_
  rintro e w1 ⟨k1, hk1, rfl, hcu1, hgr1⟩
  have X0 := Lib.hid (HR0.out.grown hgr1 (by intro e; injection e with e; omega))
  have HC1 := Lib.hid hcu1
  have HG1 := Lib.hid (grownBy_trans HG0.out hgr1)
  have hs1 := hgr1.size
  rw [World.size_alloc] at hs1
  clear hcu1 hgr1 HR0 HG0 hcur1
  obtain ⟨all, hall⟩ : ∃ all : Bool, ((k1 : Int) == 0) = all := ⟨_, rfl⟩
  have hall2 : (k1 == 0) = all := by rw [← hall, Bool.eq_iff_iff]; simp
  have CS2 := Lib.hid (CS.out w1 all)
  have HIN := Lib.hid (new_in (N := N) (by omega) all)
  have HSM := Lib.hid (newX_small (N : Int) all)
  have hlen := newX_len (N : Int) all
  rw [HIN.out.2.1, HIN.out.2.2] at CS2
  have HOK := Lib.hid HIN.out.1
  clear HIN
  generalize newX (N : Int) all = ys at CS2 HSM hlen HOK
  unfold MadeSB at CS2
  go_wp2_with fail
  refine CS2.out.mono ?_
  rintro e w2 ⟨A2, c2, rfl, ho2, hb2⟩
  have Y0 := Lib.hid ((X0.out.below hb2).below (below_a1 w2 (.cells #[.int .i64 (N : Int), .slice A2 ys.length c2] 24)))
  have Y1 := Lib.hid (SBx.new w2 (N : Int) A2 ys.length c2)
  have O2 : Hid ((w2.alloc (.cells #[.int .i64 (N : Int), .slice A2 ys.length c2] 24)).ownsRow w.heap.size 5 1 (.slice A2 ys.length c2) ys.length (vb ys)) := Lib.hid (own_monoG (own_below ho2 (below_a1 w2 _)) (by omega))
  have HB2 := Lib.hid (s_chain hb2 (below_a1 w2 (.cells #[.int .i64 (N : Int), .slice A2 ys.length c2] 24)))
  have HC2 := Lib.hid (HC1.out.grow HB2.out)
  have HG2 := Lib.hid (grownBy_trans HG1.out (grownBy_of_below HB2.out (some g)))
  have hs2 := hb2.size
  have hx0 := X0.out.parts.1
  clear ho2 hb2 HC1 HG1 HB2 X0
  go_wp2_with fail
  refine (C6.out _ HC2.out).mono ?_
  rintro e w3 ⟨k, hk, rfl, hcu3, hgr3⟩
  have Z0 := Lib.hid (Y0.out.grown hgr3 (by intro e; injection e with e; omega))
  have Z1 := Lib.hid (Y1.out.grown hgr3 (by intro e; injection e with e; omega))
  have O3 := Lib.hid (own_keepG O2.out hgr3 hg)
  have HG3 := Lib.hid (grownBy_trans HG2.out hgr3)
  have HC3 := Lib.hid hcu3
  clear hcu3 hgr3 Y0 Y1 O2 HG2 HC2
  go_wp2
  go_loopw [7] (fun i wr => ∃ (k : Nat) (ys : List Nat) (A1 : Option Addr) (c1 : Nat), k < 6 ∧ i = .int .i64 (k : Int) ∧ Hid (setB (N : Int) ys = true) ∧ Hid (∀ x ∈ ys, x < 256) ∧ Hid (wr.ownsRow w.heap.size 5 1 (.slice A1 ys.length c1) ys.length (vb ys)) ∧ Hid (SBx wr w.heap.size 0 none 0 0) ∧ Hid (SBx wr w2.heap.size (N : Int) A1 ys.length c1) ∧ Hid (Cur wr g A n c xs) ∧ Hid (w.grownBy wr (some g))) (fun i _ => (intOf i).toNat)
  case atStart => exact ⟨k, ys, A2, c2, hk, rfl, HOK, HSM, O3, Z0, Z1, HC3, HG3⟩
  case round =>
    clear HOK HSM O3 Z0 Z1 HC3 HG3 hlen CS2 hall hall2 hk hk1
    obtain ⟨k, ys, A1, c1, hk, rfl, hok, hsm, hown, hb0, hb1, hcu, hgr⟩ := hrel
    have hl150 : ys.length ≤ 20 := by have h9 := (setB_dim hok.out).2.2; rw [Int.toNat_natCast] at h9; unfold bytesN at h9; omega
    obtain ⟨l0, c00, c01, f00, f01⟩ := hb0.out.parts
    obtain ⟨l1, c10, c11, f10, f11⟩ := hb1.out.parts
    by_cases hlt : 0 < k
    · have d1 : decide ((0 : Int) < (k : Int)) = true := by simp; omega
      go_wp2
      have hcd := Lib.hid (show Cur wr.drew g A n c xs from hcu.out.grow (Below.refl _ _).drew)
      have hgd := Lib.hid (grownBy_trans hgr.out (grownBy_of_below (Below.refl wr.heap.size wr).drew (some g)))
      have hod := Lib.hid (own_below hown.out (Below.refl _ _).drew)
      have h0d := Lib.hid (hb0.out.below (Below.refl _ _).drew)
      have h1d := Lib.hid (hb1.out.below (Below.refl _ _).drew)
      refine wp_region_any (by kernel_rfl) ?_
      change wpAny _ _ _ _ _ _ _ (World.drew _)
      generalize World.drew wr = wd at *
      refine wpAny_take (i := 1) (oi := ⟨_, _, _, _, _, _⟩) (v := .pointer (some ⟨g, 0, none⟩)) rfl (by kernel_rfl) (by kernel_rfl) (by kernel_rfl) (fun _ _ _ h => h) (Or.inl ⟨by kernel_rfl, fun W => by go_simp⟩) ?_
      (try simp only [Act.put, List.setIfInBounds_toArray, List.set_cons_zero, List.set_cons_succ])
      refine wpAny_take (i := 2) (oi := ⟨_, _, _, _, _, _⟩) (v := .int .i64 (N : Int)) rfl (by kernel_rfl) (by kernel_rfl) (by kernel_rfl) (fun _ _ _ h => h) (Or.inl ⟨by kernel_rfl, fun W => by go_simp⟩) ?_
      (try simp only [Act.put, List.setIfInBounds_toArray, List.set_cons_zero, List.set_cons_succ])
      refine wpAny_take (i := 3) (oi := ⟨_, _, _, _, _, _⟩) (v := .int .i64 ((N : Int) + 1)) rfl (by kernel_rfl) (by kernel_rfl) (by kernel_rfl) (fun _ _ _ h => h) (Or.inl ⟨by kernel_rfl, fun W => by go_simp⟩) ?_
      (try simp only [Act.put, List.setIfInBounds_toArray, List.set_cons_zero, List.set_cons_succ])
      refine wpAny_ready (rs := [0, 4]) (by kernel_rfl) (by simp) (AllReady.cons rfl (fun K hK => ?_) (AllReady.cons rfl (fun K hK => ?_) AllReady.nil))
      · skip
        obtain ⟨e1l, e10, e11, e1f, e1g⟩ := h1d.out.parts
        go_simp
        refine hK _ _ ?_
        clear hK K e1l e10 e11 e1f e1g
        (try simp only [Act.put, List.setIfInBounds_toArray, List.set_cons_zero, List.set_cons_succ])
        refine wpAny_ready (rs := [4]) (by kernel_rfl) (by simp) (AllReady.cons rfl (fun K hK => ?_) AllReady.nil)
        go_simp
        go_at_call 40
        refine (CN.out _ hcd.out).mono ?_
        rintro e w4 ⟨u, hu, rfl, hcu4, hgr4⟩
        have V0 := Lib.hid (h0d.out.grown hgr4 (by intro e; injection e with e; omega))
        have V1 := Lib.hid (h1d.out.grown hgr4 (by intro e; injection e with e; omega))
        have O4 := Lib.hid (own_keepG hod.out hgr4 hg)
        have G4 := Lib.hid (grownBy_trans hgd.out hgr4)
        have Q4 := Lib.hid hcu4
        clear hcu4 hgr4
        dsimp only
        refine hK _ _ ?_
        clear hK K
        (try simp only [Act.put, List.setIfInBounds_toArray, List.set_cons_zero, List.set_cons_succ])
        have CW := Lib.hid (specWith (N : Int) (u : Int) A1 ys.length c1 ys w4 (Rd.of_own O4.out hsm.out) (by omega) (WalkArith.wf_i64 (by omega)))
        have HD := Lib.hid (drop_in (N := N) (v := u) hok.out (by omega))
        rw [HD.out.2] at CW
        have HZK := Lib.hid HD.out.1
        have HZS := Lib.hid (withX_small (N := (N : Int)) hsm.out (u : Int))
        clear HD
        generalize withX (N : Int) ys (u : Int) = zs at CW HZK HZS
        refine wpAny_ready (rs := [5]) (by kernel_rfl) (by simp) (AllReady.cons rfl (fun K hK => ?_) AllReady.nil)
        go_simp
        go_at_call 31
        refine CW.out.mono ?_
        rintro e w5 ⟨A5, c5, rfl, ho5, hb5⟩
        have U0 := Lib.hid (V0.out.below hb5)
        have U1 := Lib.hid (V1.out.below hb5)
        have O5 : Hid (w5.ownsRow w.heap.size 5 1 (.slice A5 zs.length c5) zs.length (vb zs)) := Lib.hid (own_monoG ho5 (by have := V1.out.parts.1; omega))
        have G5 := Lib.hid (grownBy_trans G4.out (grownBy_of_below hb5 (some g)))
        have Q5 := Lib.hid (Q4.out.grow hb5)
        clear ho5 hb5
        dsimp only
        refine hK _ _ ?_
        clear hK K
        (try simp only [Act.put, List.setIfInBounds_toArray, List.set_cons_zero, List.set_cons_succ])
        clear l0 c00 c01 f00 f01 l1 c10 c11 f10 f11
        have O6 := Lib.hid (own_part2 O5.out (set_kind O5.out U1.out) (.int .i64 (N : Int)) (.slice A5 zs.length c5))
        have P1 := Lib.hid (U1.out.set (N : Int) A5 zs.length c5)
        have P0 := Lib.hid (show SBx ((w5.setCell ⟨w2.heap.size, 0, none⟩ (.int .i64 (N : Int))).setCell ⟨w2.heap.size, 1, none⟩ (.slice A5 zs.length c5)) w.heap.size 0 none 0 0 from Blk.other (Blk.other U0.out (p := ⟨w2.heap.size, 0, none⟩) (by show w.heap.size ≠ w2.heap.size; omega) _) (p := ⟨w2.heap.size, 1, none⟩) (by show w.heap.size ≠ w2.heap.size; omega) _)
        have Q6 := Lib.hid (Q5.out.far (grown_set2 w5 w2.heap.size (.int .i64 (N : Int)) (.slice A5 zs.length c5)) (B := w.heap.size) (fun q hq => by injection hq with hq; omega) hg HA.out)
        have G6 := Lib.hid (grownBy_far G5.out (grown_set2 w5 w2.heap.size (.int .i64 (N : Int)) (.slice A5 zs.length c5)) (fun q hq => by injection hq with hq; omega))
        refine wpAny_ready (rs := [6]) (by kernel_rfl) (by simp) (AllReady.cons rfl (fun K hK => ?_) AllReady.nil)
        obtain ⟨m1, k10, k11, g10, g11⟩ := U1.out.parts
        go_simp
        refine hK _ _ ?_
        clear hK K m1 k10 k11 g10 g11
        (try simp only [Act.put, List.setIfInBounds_toArray, List.set_cons_zero, List.set_cons_succ])
        refine wpAny_done (by kernel_rfl) ?_ _
        go_wp2
        go_roundw
        case rel => exact ⟨k - 1, zs, A5, c5, by omega, by go_num, HZK, HZS, O6, P0, P1, Q6, G6⟩
        case measure => simp [intOf]; omega
      · skip
        go_simp
        go_at_call 40
        refine (CN.out _ hcd.out).mono ?_
        rintro e w4 ⟨u, hu, rfl, hcu4, hgr4⟩
        have V0 := Lib.hid (h0d.out.grown hgr4 (by intro e; injection e with e; omega))
        have V1 := Lib.hid (h1d.out.grown hgr4 (by intro e; injection e with e; omega))
        have O4 := Lib.hid (own_keepG hod.out hgr4 hg)
        have G4 := Lib.hid (grownBy_trans hgd.out hgr4)
        have Q4 := Lib.hid hcu4
        clear hcu4 hgr4
        dsimp only
        refine hK _ _ ?_
        clear hK K
        (try simp only [Act.put, List.setIfInBounds_toArray, List.set_cons_zero, List.set_cons_succ])
        refine wpAny_ready (rs := [0]) (by kernel_rfl) (by simp) (AllReady.cons rfl (fun K hK => ?_) AllReady.nil)
        obtain ⟨e1l, e10, e11, e1f, e1g⟩ := V1.out.parts
        go_simp
        refine hK _ _ ?_
        clear hK K e1l e10 e11 e1f e1g
        (try simp only [Act.put, List.setIfInBounds_toArray, List.set_cons_zero, List.set_cons_succ])
        have CW := Lib.hid (specWith (N : Int) (u : Int) A1 ys.length c1 ys w4 (Rd.of_own O4.out hsm.out) (by omega) (WalkArith.wf_i64 (by omega)))
        have HD := Lib.hid (drop_in (N := N) (v := u) hok.out (by omega))
        rw [HD.out.2] at CW
        have HZK := Lib.hid HD.out.1
        have HZS := Lib.hid (withX_small (N := (N : Int)) hsm.out (u : Int))
        clear HD
        generalize withX (N : Int) ys (u : Int) = zs at CW HZK HZS
        refine wpAny_ready (rs := [5]) (by kernel_rfl) (by simp) (AllReady.cons rfl (fun K hK => ?_) AllReady.nil)
        go_simp
        go_at_call 31
        refine CW.out.mono ?_
        rintro e w5 ⟨A5, c5, rfl, ho5, hb5⟩
        have U0 := Lib.hid (V0.out.below hb5)
        have U1 := Lib.hid (V1.out.below hb5)
        have O5 : Hid (w5.ownsRow w.heap.size 5 1 (.slice A5 zs.length c5) zs.length (vb zs)) := Lib.hid (own_monoG ho5 (by have := V1.out.parts.1; omega))
        have G5 := Lib.hid (grownBy_trans G4.out (grownBy_of_below hb5 (some g)))
        have Q5 := Lib.hid (Q4.out.grow hb5)
        clear ho5 hb5
        dsimp only
        refine hK _ _ ?_
        clear hK K
        (try simp only [Act.put, List.setIfInBounds_toArray, List.set_cons_zero, List.set_cons_succ])
        clear l0 c00 c01 f00 f01 l1 c10 c11 f10 f11
        have O6 := Lib.hid (own_part2 O5.out (set_kind O5.out U1.out) (.int .i64 (N : Int)) (.slice A5 zs.length c5))
        have P1 := Lib.hid (U1.out.set (N : Int) A5 zs.length c5)
        have P0 := Lib.hid (show SBx ((w5.setCell ⟨w2.heap.size, 0, none⟩ (.int .i64 (N : Int))).setCell ⟨w2.heap.size, 1, none⟩ (.slice A5 zs.length c5)) w.heap.size 0 none 0 0 from Blk.other (Blk.other U0.out (p := ⟨w2.heap.size, 0, none⟩) (by show w.heap.size ≠ w2.heap.size; omega) _) (p := ⟨w2.heap.size, 1, none⟩) (by show w.heap.size ≠ w2.heap.size; omega) _)
        have Q6 := Lib.hid (Q5.out.far (grown_set2 w5 w2.heap.size (.int .i64 (N : Int)) (.slice A5 zs.length c5)) (B := w.heap.size) (fun q hq => by injection hq with hq; omega) hg HA.out)
        have G6 := Lib.hid (grownBy_far G5.out (grown_set2 w5 w2.heap.size (.int .i64 (N : Int)) (.slice A5 zs.length c5)) (fun q hq => by injection hq with hq; omega))
        refine wpAny_ready (rs := [6]) (by kernel_rfl) (by simp) (AllReady.cons rfl (fun K hK => ?_) AllReady.nil)
        obtain ⟨m1, k10, k11, g10, g11⟩ := U1.out.parts
        go_simp
        refine hK _ _ ?_
        clear hK K m1 k10 k11 g10 g11
        (try simp only [Act.put, List.setIfInBounds_toArray, List.set_cons_zero, List.set_cons_succ])
        refine wpAny_done (by kernel_rfl) ?_ _
        go_wp2
        go_roundw
        case rel => exact ⟨k - 1, zs, A5, c5, by omega, by go_num, HZK, HZS, O6, P0, P1, Q6, G6⟩
        case measure => simp [intOf]; omega
    · obtain rfl : k = 0 := by omega
      go_wp2
      refine bodyPost_ret (v := .agg #[.int .i64 (N : Int), .slice A1 ys.length c1]) (by simp [results, Tryd.results39, go_sem, c00, c01]) rfl ?_
      exact ⟨ys, A1, c1, hok.out, hsm.out, rfl, own_set2n hown.out hb0.out _ _, hcu.out.far (grown_set2 _ _ _ _) (fun q hq => by injection hq with hq; exact Nat.le_of_eq hq) hg HA.out, grownBy_far hgr.out (grown_set2 _ _ _ _) (fun q hq => by injection hq with hq; exact Nat.le_of_eq hq)⟩
end Go.Proofs.YtbkchmkhaapmaaaDoor
