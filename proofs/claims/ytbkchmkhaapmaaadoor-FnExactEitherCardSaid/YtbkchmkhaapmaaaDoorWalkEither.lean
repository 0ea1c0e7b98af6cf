/- The walk of the law FnExactEither: it returns true and writes nothing that was there. -/
import Derived.Test.YtbkchmkhaapmaaaDoorSetArg
import Derived.Test.YtbkchmkhaapmaaaDoorSetEitherI
import Derived.Test.YtbkchmkhaapmaaaDoorSetEitherS
import Derived.Deep.RegionHeld3
import Derived.Deep.DeepCutAuto
namespace Go.Proofs.YtbkchmkhaapmaaaDoor
open Go.RowKit
set_option linter.unusedVariables false

set_option maxRecDepth 20000 in
set_option maxHeartbeats 16000000 in
theorem walkEither (N0 : Int) (A0 : Option Addr) (c0 : Nat) (xs0 : List Nat) (N1 : Int) (A1 : Option Addr) (c1 : Nat) (xs1 : List Nat) (w : World) (hin0 : SetIn w N0 A0 c0 xs0) (hin1 : SetIn w N1 A1 c1 xs1) (hw : Wts w) :
    Calls Tryd.prog 10 #[.agg #[.int .i64 N0, .slice A0 xs0.length c0], .agg #[.int .i64 N1, .slice A1 xs1.length c1]] w fun e w' => e = .returned (.bool true) ∧ Below w.heap.size w w' := by
  have CZ0 := Lib.hid (fun W => szSet_any N0 A0 xs0.length c0 1048576 W hin0.l (by omega) (by omega))
  by_cases hb0 : (xs0.length : Int) ≤ 1048576
  · skip
    rw [leftN_pos hb0] at CZ0
    have hp0 : (0 : Int) ≤ 1048576 - (xs0.length : Int) := by omega
    have hp1 : (1048576 : Int) - (xs0.length : Int) ≤ 1048576 := by omega
    generalize (1048576 : Int) - (xs0.length : Int) = q0 at CZ0 hp0 hp1
    have CZ1 := Lib.hid (fun W => szSet_any N1 A1 xs1.length c1 q0 W hin1.l hp0 hp1)
    by_cases hb1 : (xs1.length : Int) ≤ q0
    · skip
      rw [leftN_pos hb1] at CZ1
      have hp2 : (0 : Int) ≤ q0 - (xs1.length : Int) := by omega
      have hx0 : xs0.length ≤ 1048576 := by omega
      have hx1 : xs1.length ≤ 1048576 := by omega
      generalize q0 - (xs1.length : Int) = q1 at CZ1 hp2
      have HS0 := Lib.hid hin0.g.small
      have CT0 := Lib.hid (fun W (h : Below w.heap.size w W) => toSet_is N0 A0 c0 xs0 W (hin0.g.below h) hin0.cap (by omega))
      have CE0 := Lib.hid (fun W b b' A A' c c' (h1 : W.ownsRow b 5 1 (.slice A xs0.length c) xs0.length (vb xs0)) (h2 : W.ownsRow b' 5 1 (.slice A' xs0.length c') xs0.length (vb xs0)) => eqSet_is N0 A A' c c' xs0 W (Rd.of_own h1 HS0.out) (Rd.of_own h2 HS0.out) (own_cap h1) (own_cap h2) (by omega))
      have HS1 := Lib.hid hin1.g.small
      have CT1 := Lib.hid (fun W (h : Below w.heap.size w W) => toSet_is N1 A1 c1 xs1 W (hin1.g.below h) hin1.cap (by omega))
      have CE1 := Lib.hid (fun W b b' A A' c c' (h1 : W.ownsRow b 5 1 (.slice A xs1.length c) xs1.length (vb xs1)) (h2 : W.ownsRow b' 5 1 (.slice A' xs1.length c') xs1.length (vb xs1)) => eqSet_is N1 A A' c c' xs1 W (Rd.of_own h1 HS1.out) (Rd.of_own h2 HS1.out) (own_cap h1) (own_cap h2) (by omega))
      have CM0 := Lib.hid (fun W b A c (h : W.ownsRow b 5 1 (.slice A xs0.length c) xs0.length (vb xs0)) => markSet_is N0 A c b 1 xs0 W h (by omega) (by omega))
      have CM1 := Lib.hid (fun W b A c (h : W.ownsRow b 5 1 (.slice A xs1.length c) xs1.length (vb xs1)) => markSet_is N1 A c b (1 + xs0.length) xs1 W h (by omega) (by omega))
      have CS := Lib.hid (fun W (h0 : Below w.heap.size w W) b b' A A' c c' (h1 : W.ownsRow b 5 1 (.slice A xs0.length c) xs0.length (vb xs0)) (h2 : W.ownsRow b' 5 1 (.slice A' xs1.length c') xs1.length (vb xs1)) => specEither N0 N1 A A' xs0.length c xs1.length c' xs0 xs1 W (Rd.of_own h1 HS0.out) (Rd.of_own h2 HS1.out) (by omega) (by omega))
      have CI := Lib.hid (fun W (h0 : Below w.heap.size w W) b b' A A' c c' (h1 : W.ownsRow b 5 1 (.slice A xs0.length c) xs0.length (vb xs0)) (h2 : W.ownsRow b' 5 1 (.slice A' xs1.length c') xs1.length (vb xs1)) => implEither N0 N1 A A' xs0.length c xs1.length c' xs0 xs1 W (hw.below h0) (Rd.of_own h1 HS0.out) (Rd.of_own h2 HS1.out) (by omega) (by omega))
      have HRS := Lib.hid (eitherX_small (N := N0) (M := N1) HS0.out HS1.out)
      have hrl := eitherX_len N0 N1 xs0 xs1
      generalize eitherN N0 N1 xs0 xs1 = rN at CS CI
      generalize eitherB N0 N1 xs0 xs1 = rb at CS CI
      generalize eitherX N0 N1 xs0 xs1 = rx at CS CI HRS hrl
      have CV := Lib.hid (fun W b b' A A' c c' (h1 : W.ownsRow b 5 1 (.slice A rx.length c) rx.length (vb rx)) (h2 : W.ownsRow b' 5 1 (.slice A' rx.length c') rx.length (vb rx)) => eqSet_is rN A A' c c' rx W (Rd.of_own h1 HRS.out) (Rd.of_own h2 HRS.out) (own_cap h1) (own_cap h2) (by omega))
      have CN := Lib.hid (fun W b A c (h : W.ownsRow b 5 1 (.slice A rx.length c) rx.length (vb rx)) => markSet_is rN A c b 1 rx W h (by omega) (by omega))
      have CH := Lib.hid (fun W b A c (h : W.ownsRow b 5 1 (.slice A rx.length c) rx.length (vb (marksK 1 rx.length))) => heldSet_is rN A rx.length c W (Rd.of_own h (marksK_small _ _)) (by omega))
      have hk3 : (0 : Int) ≤ ((1 + rx.length : Nat) : Int) := by omega
      unfold MarkedZ at CN
      generalize ((1 + rx.length : Nat) : Int) = kz at CN CH hk3
      have hrb : (rb == rb) = true := by simp
      have hrb2 : (rb != rb) = false := by simp
      have hk5 : (0 : Int) ≤ ((1 + xs0.length : Nat) : Int) := by omega
      have hk6 : (0 : Int) ≤ ((1 + xs0.length + xs1.length : Nat) : Int) := by omega
      unfold MarkedZ at CM0 CM1
      generalize ((1 + xs0.length + xs1.length : Nat) : Int) = kb at CM1 hk6
      generalize ((1 + xs0.length : Nat) : Int) = ka at CM0 CM1 hk5
      clear hin0 hin1 hb0 hb1
      have BB0 := Lib.hid ((Box2.new w (.int .i64 N0) (.slice A0 xs0.length c0) 36).below (below_a1 _ (.cells #[.int .i64 N1, .slice A1 xs1.length c1] 36)))
      have BB1 := Lib.hid (Box2.new1 w (.cells #[.int .i64 N0, .slice A0 xs0.length c0] 36) (.int .i64 N1) (.slice A1 xs1.length c1) 36)
      go_enter Tryd.func10, Tryd.ntmps10
      go_wp2_with fail
      refine (CZ0.out _).mono ?_
      rintro e w1 ⟨rfl, hb⟩
      have B0_1 := Lib.hid (BB0.out.below hb)
      have B1_2 := Lib.hid (BB1.out.below hb)
      have H_3 := Lib.hid (s_chain (below_a2 w _ _) hb)
      have sz_4 : Hid (w.heap.size + 2 ≤ w1.heap.size) := Lib.hid (by have := hb.size; simpa using this)
      clear hb BB0 BB1
      obtain ⟨l_5, l_5a, l_5b⟩ := B1_2.out
      go_wp2_with fail
      refine (CZ1.out _).mono ?_
      rintro e w2 ⟨rfl, hb⟩
      clear l_5 l_5a l_5b
      have B0_6 := Lib.hid (B0_1.out.below hb)
      clear B0_1
      have B1_7 := Lib.hid (B1_2.out.below hb)
      clear B1_2
      have H_8 := Lib.hid (s_chain H_3.out hb)
      clear H_3
      have sz_9 := Lib.hid (Below.size hb)
      clear hb
      go_upto_region 8 with fail
      go_cut [6, 7] (fun (sa sb : Value) (wx : World) => ∃ (q : Nat) (Aw : Option Addr) (cw : Nat), sa = .pointer (some ⟨q, 0, none⟩) ∧ sb = .bool rb ∧ Hid (Below w2.heap.size w2 wx) ∧ Hid (Box2 wx q (.int .i64 rN) (.slice Aw rx.length cw)) ∧ Hid (wx.ownsRow w2.heap.size 5 1 (.slice Aw rx.length cw) rx.length (vb rx)) ∧ Hid (w2.heap.size ≤ q ∧ q < wx.heap.size))
      case first =>
        have szq8 : Hid (w.heap.size + 2 ≤ w2.heap.size) := Lib.hid (by have := sz_4.out; have := sz_9.out; omega)
        have hb : Below w2.heap.size w2 w2.drew := (Below.refl _ _).drew
        have R_10 := Lib.hid (Below.refl w2.heap.size w2)
        have B0_11 := Lib.hid (B0_6.out.below hb)
        clear B0_6
        have B1_12 := Lib.hid (B1_7.out.below hb)
        clear B1_7
        have H_13 := Lib.hid (s_chain H_8.out hb)
        clear H_8
        have R_14 := Lib.hid (s_chain R_10.out hb)
        clear R_10
        have sz_15 := Lib.hid (Below.size hb)
        clear hb
        refine wp_region_any (by kernel_rfl) ?_
        change wpAny _ _ _ _ _ _ _ (World.drew _)
        refine wpAny_of_held (S := fun W => W.cell? ⟨w.heap.size, 0, none⟩ = some (.int .i64 N0) ∧ W.cell? ⟨w.heap.size, 1, none⟩ = some (.slice A0 xs0.length c0) ∧ W.cell? ⟨w.heap.size + 1, 0, none⟩ = some (.int .i64 N1) ∧ W.cell? ⟨w.heap.size + 1, 1, none⟩ = some (.slice A1 xs1.length c1)) _ _ _ _ ?_
        generalize hDD : World.drew w2 = wd8 at B0_11 B1_12 H_13 R_14 sz_15 ⊢
        clear hDD
        refine wpAnyH_take (i := 0) (oi := ⟨_, _, _, _, _, _⟩) (v := .agg #[.int .i64 N0, .slice A0 xs0.length c0]) rfl (by kernel_rfl) (by kernel_rfl) (by kernel_rfl) (fun _ _ _ h => h) (Or.inl ⟨by kernel_rfl, fun W hS => by (obtain ⟨s0, s1, s2, s3⟩ := hS); go_simp⟩) ⟨(B0_11.out).c0, (B0_11.out).c1, (B1_12.out).c0, (B1_12.out).c1⟩ ?_
        (try simp only [Act.put, List.setIfInBounds_toArray, List.set_cons_zero, List.set_cons_succ])
        refine wpAnyH_take (i := 2) (oi := ⟨_, _, _, _, _, _⟩) (v := .agg #[.int .i64 N1, .slice A1 xs1.length c1]) rfl (by kernel_rfl) (by kernel_rfl) (by kernel_rfl) (fun _ _ _ h => h) (Or.inl ⟨by kernel_rfl, fun W hS => by (obtain ⟨s0, s1, s2, s3⟩ := hS); go_simp⟩) ⟨(B0_11.out).c0, (B0_11.out).c1, (B1_12.out).c0, (B1_12.out).c1⟩ ?_
        (try simp only [Act.put, List.setIfInBounds_toArray, List.set_cons_zero, List.set_cons_succ])
        refine wpAnyH_ready (rs := [1, 8]) (by kernel_rfl) (by simp) (AllReadyH.cons rfl (fun K hK => ?_) (AllReadyH.cons rfl (fun K hK => ?_) AllReadyH.nil))
        · skip
          go_simp
          go_at_call 25
          refine (CT0.out _ H_13.out).mono ?_
          rintro e w3 ⟨Ad0, cd0, rfl, ho, hb⟩
          have B0_16 := Lib.hid (B0_11.out.below hb)
          clear B0_11
          have B1_17 := Lib.hid (B1_12.out.below hb)
          clear B1_12
          have H_18 := Lib.hid (s_chain H_13.out hb)
          clear H_13
          have R_19 := Lib.hid (s_chain R_14.out hb)
          clear R_14
          have sz_20 := Lib.hid (Below.size hb)
          have D0_21 := Lib.hid (ho)
          dsimp only
          clear ho hb
          refine hK.out _ _ ⟨(B0_16.out).c0, (B0_16.out).c1, (B1_17.out).c0, (B1_17.out).c1⟩ (fun _ => ?_)
          clear hK K
          (try simp only [Act.put, List.setIfInBounds_toArray, List.set_cons_zero, List.set_cons_succ])
          refine wpAnyH_ready (rs := [3, 8]) (by kernel_rfl) (by simp) (AllReadyH.cons rfl (fun K hK => ?_) (AllReadyH.cons rfl (fun K hK => ?_) AllReadyH.nil))
          · skip
            go_simp
            go_at_call 25
            refine (CT1.out _ H_18.out).mono ?_
            rintro e w4 ⟨Ad1, cd1, rfl, ho, hb⟩
            have B0_22 := Lib.hid (B0_16.out.below hb)
            clear B0_16
            have B1_23 := Lib.hid (B1_17.out.below hb)
            clear B1_17
            have H_24 := Lib.hid (s_chain H_18.out hb)
            clear H_18
            have R_25 := Lib.hid (s_chain R_19.out hb)
            clear R_19
            have D0_26 := Lib.hid (own_below D0_21.out hb)
            clear D0_21
            have sz_27 := Lib.hid (Below.size hb)
            have D1_28 := Lib.hid (ho)
            dsimp only
            clear ho hb
            refine hK.out _ _ ⟨(B0_22.out).c0, (B0_22.out).c1, (B1_23.out).c0, (B1_23.out).c1⟩ (fun _ => ?_)
            clear hK K
            (try simp only [Act.put, List.setIfInBounds_toArray, List.set_cons_zero, List.set_cons_succ])
            refine wpAnyH_ready (rs := [4, 8]) (by kernel_rfl) (by simp) (AllReadyH.cons rfl (fun K hK => ?_) (AllReadyH.cons rfl (fun K hK => ?_) AllReadyH.nil))
            · skip
              go_simp
              go_at_call 36
              refine (CS.out _ H_24.out _ _ _ _ _ _ D0_26.out D1_28.out).mono ?_
              rintro e w5 ⟨Aw, cw, rfl, ho, hb⟩
              have sz_29 := Lib.hid (hb.size)
              have B0_30 := Lib.hid (B0_22.out.below hb)
              clear B0_22
              have B1_31 := Lib.hid (B1_23.out.below hb)
              clear B1_23
              have H_32 := Lib.hid (s_chain H_24.out hb)
              clear H_24
              have R_33 := Lib.hid (s_chain R_25.out hb)
              clear R_25
              have D0_34 := Lib.hid (own_below D0_26.out hb)
              clear D0_26
              have D1_35 := Lib.hid (own_below D1_28.out hb)
              clear D1_28
              have sz_36 := Lib.hid (Below.size hb)
              have O_37 := Lib.hid (own_monoG (lo' := w2.heap.size) ho (by have := szq8.out; have := sz_15.out; have := sz_20.out; have := sz_27.out; have := sz_29.out; have := sz_36.out; omega))
              dsimp only
              clear ho hb
              refine hK.out _ _ ⟨(B0_30.out).c0, (B0_30.out).c1, (B1_31.out).c0, (B1_31.out).c1⟩ (fun _ => ?_)
              clear hK K
              (try simp only [Act.put, List.setIfInBounds_toArray, List.set_cons_zero, List.set_cons_succ])
              refine wpAnyH_take (i := 5) (oi := ⟨_, _, _, _, _, _⟩) (v := .tuple #[.agg #[.int .i64 rN, .slice Aw rx.length cw], .bool rb]) rfl (by kernel_rfl) (by kernel_rfl) (by kernel_rfl) (fun _ _ _ h => h) (Or.inl ⟨by kernel_rfl, fun W hS => by (obtain ⟨s0, s1, s2, s3⟩ := hS); go_simp⟩) ⟨(B0_30.out).c0, (B0_30.out).c1, (B1_31.out).c0, (B1_31.out).c1⟩ ?_
              (try simp only [Act.put, List.setIfInBounds_toArray, List.set_cons_zero, List.set_cons_succ])
              refine wpAnyH_take (i := 6) (oi := ⟨_, _, _, _, _, _⟩) (v := .agg #[.int .i64 rN, .slice Aw rx.length cw]) rfl (by kernel_rfl) (by kernel_rfl) (by kernel_rfl) (fun _ _ _ h => h) (Or.inl ⟨by kernel_rfl, fun W hS => by (obtain ⟨s0, s1, s2, s3⟩ := hS); go_simp⟩) ⟨(B0_30.out).c0, (B0_30.out).c1, (B1_31.out).c0, (B1_31.out).c1⟩ ?_
              (try simp only [Act.put, List.setIfInBounds_toArray, List.set_cons_zero, List.set_cons_succ])
              refine wpAnyH_take (i := 7) (oi := ⟨_, _, _, _, _, _⟩) (v := .bool rb) rfl (by kernel_rfl) (by kernel_rfl) (by kernel_rfl) (fun _ _ _ h => h) (Or.inl ⟨by kernel_rfl, fun W hS => by (obtain ⟨s0, s1, s2, s3⟩ := hS); go_simp⟩) ⟨(B0_30.out).c0, (B0_30.out).c1, (B1_31.out).c0, (B1_31.out).c1⟩ ?_
              (try simp only [Act.put, List.setIfInBounds_toArray, List.set_cons_zero, List.set_cons_succ])
              refine wpAnyH_ready (rs := [8]) (by kernel_rfl) (by simp) (AllReadyH.cons rfl (fun K hK => ?_) AllReadyH.nil)
              go_simp
              have hb := below_a1 w5 (.cells #[.int .i64 0, .slice none 0 0] 24)
              have B0_38 := Lib.hid (B0_30.out.below hb)
              clear B0_30
              have B1_39 := Lib.hid (B1_31.out.below hb)
              clear B1_31
              have H_40 := Lib.hid (s_chain H_32.out hb)
              clear H_32
              have R_41 := Lib.hid (s_chain R_33.out hb)
              clear R_33
              have D0_42 := Lib.hid (own_below D0_34.out hb)
              clear D0_34
              have D1_43 := Lib.hid (own_below D1_35.out hb)
              clear D1_35
              have O_44 := Lib.hid (own_below O_37.out hb)
              clear O_37
              have sz_45 := Lib.hid (Below.size hb)
              have Z_46 := Lib.hid (SBx.new w5 0 none 0 0)
              have sz_47 : Hid (w5.heap.size + 1 ≤ (w5.alloc (.cells #[.int .i64 0, .slice none 0 0] 24)).heap.size) := Lib.hid (by simp)
              have hq := Lib.hid (rfl : w5.heap.size = w5.heap.size)
              clear hb hq
              generalize hZZ : w5.alloc (.cells #[.int .i64 0, .slice none 0 0] 24) = w6 at B0_38 B1_39 H_40 R_41 D0_42 D1_43 O_44 Z_46 sz_45 sz_47 ⊢
              clear hZZ
              refine hK.out _ _ ⟨(B0_38.out).c0, (B0_38.out).c1, (B1_39.out).c0, (B1_39.out).c1⟩ (fun _ => ?_)
              clear hK K
              (try simp only [Act.put, List.setIfInBounds_toArray, List.set_cons_zero, List.set_cons_succ])
              refine wpAnyH_ready (rs := [9]) (by kernel_rfl) (by simp) (AllReadyH.cons rfl (fun K hK => ?_) AllReadyH.nil)
              obtain ⟨z0, z1, z2, z3, z4⟩ := SBx.parts (Z_46.out)
              go_simp
              have hqq : w.heap.size + 2 ≤ w5.heap.size := by have := szq8.out; have := sz_15.out; have := sz_20.out; have := sz_27.out; have := sz_29.out; have := sz_36.out; have := sz_45.out; have := sz_47.out; omega
              have E0 : Box2 ((w6.setCell ⟨w5.heap.size, 0, none⟩ (.int .i64 rN)).setCell ⟨w5.heap.size, 1, none⟩ (.slice Aw rx.length cw)) w.heap.size (.int .i64 N0) (.slice A0 xs0.length c0) := box_set2 (B0_38.out) (by omega) _ _
              have E1 : Box2 ((w6.setCell ⟨w5.heap.size, 0, none⟩ (.int .i64 rN)).setCell ⟨w5.heap.size, 1, none⟩ (.slice Aw rx.length cw)) (w.heap.size + 1) (.int .i64 N1) (.slice A1 xs1.length c1) := box_set2 (B1_39.out) (by omega) _ _
              refine hK.out _ _ ⟨E0.c0, E0.c1, E1.c0, E1.c1⟩ (fun _ => ?_)
              clear hK K
              (try simp only [Act.put, List.setIfInBounds_toArray, List.set_cons_zero, List.set_cons_succ])
              refine wpAnyH_take (i := 10) (oi := ⟨_, _, _, _, _, _⟩) (v := .bool rb) rfl (by kernel_rfl) (by kernel_rfl) (by kernel_rfl) (fun _ _ _ h => h) (Or.inl ⟨by kernel_rfl, fun W hS => by go_simp⟩) ⟨E0.c0, E0.c1, E1.c0, E1.c1⟩ ?_
              (try simp only [Act.put, List.setIfInBounds_toArray, List.set_cons_zero, List.set_cons_succ])
              refine wpAnyH_done (by kernel_rfl) ?_ _
              go_wp2_with fail
              go_meet
              exact ⟨w5.heap.size, Aw, cw, rfl, rfl, Lib.hid (below_set2 (R_41.out) (by have := szq8.out; have := sz_15.out; have := sz_20.out; have := sz_27.out; have := sz_29.out; have := sz_36.out; have := sz_45.out; have := sz_47.out; omega) _ _), Lib.hid (SBx.box ((Z_46.out).set rN Aw rx.length cw)), Lib.hid (own_apart2 (O_44.out) (set_type (O_44.out) (Z_46.out)) _ _), Lib.hid ⟨(by have := szq8.out; have := sz_15.out; have := sz_20.out; have := sz_27.out; have := sz_29.out; have := sz_36.out; have := sz_45.out; have := sz_47.out; omega), by simp; exact z0⟩⟩
            · skip
              go_simp
              have hb := below_a1 w4 (.cells #[.int .i64 0, .slice none 0 0] 24)
              have B0_48 := Lib.hid (B0_22.out.below hb)
              clear B0_22
              have B1_49 := Lib.hid (B1_23.out.below hb)
              clear B1_23
              have H_50 := Lib.hid (s_chain H_24.out hb)
              clear H_24
              have R_51 := Lib.hid (s_chain R_25.out hb)
              clear R_25
              have D0_52 := Lib.hid (own_below D0_26.out hb)
              clear D0_26
              have D1_53 := Lib.hid (own_below D1_28.out hb)
              clear D1_28
              have sz_54 := Lib.hid (Below.size hb)
              have Z_55 := Lib.hid (SBx.new w4 0 none 0 0)
              have sz_56 : Hid (w4.heap.size + 1 ≤ (w4.alloc (.cells #[.int .i64 0, .slice none 0 0] 24)).heap.size) := Lib.hid (by simp)
              have hq := Lib.hid (rfl : w4.heap.size = w4.heap.size)
              clear hb hq
              generalize hZZ : w4.alloc (.cells #[.int .i64 0, .slice none 0 0] 24) = w7 at B0_48 B1_49 H_50 R_51 D0_52 D1_53 Z_55 sz_54 sz_56 ⊢
              clear hZZ
              refine hK.out _ _ ⟨(B0_48.out).c0, (B0_48.out).c1, (B1_49.out).c0, (B1_49.out).c1⟩ (fun _ => ?_)
              clear hK K
              (try simp only [Act.put, List.setIfInBounds_toArray, List.set_cons_zero, List.set_cons_succ])
              refine wpAnyH_ready (rs := [4]) (by kernel_rfl) (by simp) (AllReadyH.cons rfl (fun K hK => ?_) AllReadyH.nil)
              go_simp
              go_at_call 36
              refine (CS.out _ H_50.out _ _ _ _ _ _ D0_52.out D1_53.out).mono ?_
              rintro e w8 ⟨Aw, cw, rfl, ho, hb⟩
              have sz_57 := Lib.hid (hb.size)
              have B0_58 := Lib.hid (B0_48.out.below hb)
              clear B0_48
              have B1_59 := Lib.hid (B1_49.out.below hb)
              clear B1_49
              have H_60 := Lib.hid (s_chain H_50.out hb)
              clear H_50
              have R_61 := Lib.hid (s_chain R_51.out hb)
              clear R_51
              have D0_62 := Lib.hid (own_below D0_52.out hb)
              clear D0_52
              have D1_63 := Lib.hid (own_below D1_53.out hb)
              clear D1_53
              have Z_64 := Lib.hid (Z_55.out.below hb)
              clear Z_55
              have sz_65 := Lib.hid (Below.size hb)
              have O_66 := Lib.hid (own_monoG (lo' := w2.heap.size) ho (by have := szq8.out; have := sz_15.out; have := sz_20.out; have := sz_27.out; have := sz_54.out; have := sz_56.out; have := sz_57.out; have := sz_65.out; omega))
              dsimp only
              clear ho hb
              refine hK.out _ _ ⟨(B0_58.out).c0, (B0_58.out).c1, (B1_59.out).c0, (B1_59.out).c1⟩ (fun _ => ?_)
              clear hK K
              (try simp only [Act.put, List.setIfInBounds_toArray, List.set_cons_zero, List.set_cons_succ])
              refine wpAnyH_take (i := 5) (oi := ⟨_, _, _, _, _, _⟩) (v := .tuple #[.agg #[.int .i64 rN, .slice Aw rx.length cw], .bool rb]) rfl (by kernel_rfl) (by kernel_rfl) (by kernel_rfl) (fun _ _ _ h => h) (Or.inl ⟨by kernel_rfl, fun W hS => by (obtain ⟨s0, s1, s2, s3⟩ := hS); go_simp⟩) ⟨(B0_58.out).c0, (B0_58.out).c1, (B1_59.out).c0, (B1_59.out).c1⟩ ?_
              (try simp only [Act.put, List.setIfInBounds_toArray, List.set_cons_zero, List.set_cons_succ])
              refine wpAnyH_take (i := 6) (oi := ⟨_, _, _, _, _, _⟩) (v := .agg #[.int .i64 rN, .slice Aw rx.length cw]) rfl (by kernel_rfl) (by kernel_rfl) (by kernel_rfl) (fun _ _ _ h => h) (Or.inl ⟨by kernel_rfl, fun W hS => by (obtain ⟨s0, s1, s2, s3⟩ := hS); go_simp⟩) ⟨(B0_58.out).c0, (B0_58.out).c1, (B1_59.out).c0, (B1_59.out).c1⟩ ?_
              (try simp only [Act.put, List.setIfInBounds_toArray, List.set_cons_zero, List.set_cons_succ])
              refine wpAnyH_take (i := 7) (oi := ⟨_, _, _, _, _, _⟩) (v := .bool rb) rfl (by kernel_rfl) (by kernel_rfl) (by kernel_rfl) (fun _ _ _ h => h) (Or.inl ⟨by kernel_rfl, fun W hS => by (obtain ⟨s0, s1, s2, s3⟩ := hS); go_simp⟩) ⟨(B0_58.out).c0, (B0_58.out).c1, (B1_59.out).c0, (B1_59.out).c1⟩ ?_
              (try simp only [Act.put, List.setIfInBounds_toArray, List.set_cons_zero, List.set_cons_succ])
              refine wpAnyH_ready (rs := [9]) (by kernel_rfl) (by simp) (AllReadyH.cons rfl (fun K hK => ?_) AllReadyH.nil)
              obtain ⟨z0, z1, z2, z3, z4⟩ := SBx.parts (Z_64.out)
              go_simp
              have hqq : w.heap.size + 2 ≤ w4.heap.size := by have := szq8.out; have := sz_15.out; have := sz_20.out; have := sz_27.out; have := sz_54.out; have := sz_56.out; have := sz_57.out; have := sz_65.out; omega
              have E0 : Box2 ((w8.setCell ⟨w4.heap.size, 0, none⟩ (.int .i64 rN)).setCell ⟨w4.heap.size, 1, none⟩ (.slice Aw rx.length cw)) w.heap.size (.int .i64 N0) (.slice A0 xs0.length c0) := box_set2 (B0_58.out) (by omega) _ _
              have E1 : Box2 ((w8.setCell ⟨w4.heap.size, 0, none⟩ (.int .i64 rN)).setCell ⟨w4.heap.size, 1, none⟩ (.slice Aw rx.length cw)) (w.heap.size + 1) (.int .i64 N1) (.slice A1 xs1.length c1) := box_set2 (B1_59.out) (by omega) _ _
              refine hK.out _ _ ⟨E0.c0, E0.c1, E1.c0, E1.c1⟩ (fun _ => ?_)
              clear hK K
              (try simp only [Act.put, List.setIfInBounds_toArray, List.set_cons_zero, List.set_cons_succ])
              refine wpAnyH_take (i := 10) (oi := ⟨_, _, _, _, _, _⟩) (v := .bool rb) rfl (by kernel_rfl) (by kernel_rfl) (by kernel_rfl) (fun _ _ _ h => h) (Or.inl ⟨by kernel_rfl, fun W hS => by go_simp⟩) ⟨E0.c0, E0.c1, E1.c0, E1.c1⟩ ?_
              (try simp only [Act.put, List.setIfInBounds_toArray, List.set_cons_zero, List.set_cons_succ])
              refine wpAnyH_done (by kernel_rfl) ?_ _
              go_wp2_with fail
              go_meet
              exact ⟨w4.heap.size, Aw, cw, rfl, rfl, Lib.hid (below_set2 (R_61.out) (by have := szq8.out; have := sz_15.out; have := sz_20.out; have := sz_27.out; have := sz_54.out; have := sz_56.out; have := sz_57.out; have := sz_65.out; omega) _ _), Lib.hid (SBx.box ((Z_64.out).set rN Aw rx.length cw)), Lib.hid (own_apart2 (O_66.out) (set_type (O_66.out) (Z_64.out)) _ _), Lib.hid ⟨(by have := szq8.out; have := sz_15.out; have := sz_20.out; have := sz_27.out; have := sz_54.out; have := sz_56.out; have := sz_57.out; have := sz_65.out; omega), by simp; exact z0⟩⟩
          · skip
            go_simp
            have hb := below_a1 w3 (.cells #[.int .i64 0, .slice none 0 0] 24)
            have B0_67 := Lib.hid (B0_16.out.below hb)
            clear B0_16
            have B1_68 := Lib.hid (B1_17.out.below hb)
            clear B1_17
            have H_69 := Lib.hid (s_chain H_18.out hb)
            clear H_18
            have R_70 := Lib.hid (s_chain R_19.out hb)
            clear R_19
            have D0_71 := Lib.hid (own_below D0_21.out hb)
            clear D0_21
            have sz_72 := Lib.hid (Below.size hb)
            have Z_73 := Lib.hid (SBx.new w3 0 none 0 0)
            have sz_74 : Hid (w3.heap.size + 1 ≤ (w3.alloc (.cells #[.int .i64 0, .slice none 0 0] 24)).heap.size) := Lib.hid (by simp)
            have hq := Lib.hid (rfl : w3.heap.size = w3.heap.size)
            clear hb hq
            generalize hZZ : w3.alloc (.cells #[.int .i64 0, .slice none 0 0] 24) = w9 at B0_67 B1_68 H_69 R_70 D0_71 Z_73 sz_72 sz_74 ⊢
            clear hZZ
            refine hK.out _ _ ⟨(B0_67.out).c0, (B0_67.out).c1, (B1_68.out).c0, (B1_68.out).c1⟩ (fun _ => ?_)
            clear hK K
            (try simp only [Act.put, List.setIfInBounds_toArray, List.set_cons_zero, List.set_cons_succ])
            refine wpAnyH_ready (rs := [3]) (by kernel_rfl) (by simp) (AllReadyH.cons rfl (fun K hK => ?_) AllReadyH.nil)
            go_simp
            go_at_call 25
            refine (CT1.out _ H_69.out).mono ?_
            rintro e w10 ⟨Ad1, cd1, rfl, ho, hb⟩
            have B0_75 := Lib.hid (B0_67.out.below hb)
            clear B0_67
            have B1_76 := Lib.hid (B1_68.out.below hb)
            clear B1_68
            have H_77 := Lib.hid (s_chain H_69.out hb)
            clear H_69
            have R_78 := Lib.hid (s_chain R_70.out hb)
            clear R_70
            have D0_79 := Lib.hid (own_below D0_71.out hb)
            clear D0_71
            have Z_80 := Lib.hid (Z_73.out.below hb)
            clear Z_73
            have sz_81 := Lib.hid (Below.size hb)
            have D1_82 := Lib.hid (ho)
            dsimp only
            clear ho hb
            refine hK.out _ _ ⟨(B0_75.out).c0, (B0_75.out).c1, (B1_76.out).c0, (B1_76.out).c1⟩ (fun _ => ?_)
            clear hK K
            (try simp only [Act.put, List.setIfInBounds_toArray, List.set_cons_zero, List.set_cons_succ])
            refine wpAnyH_ready (rs := [4]) (by kernel_rfl) (by simp) (AllReadyH.cons rfl (fun K hK => ?_) AllReadyH.nil)
            go_simp
            go_at_call 36
            refine (CS.out _ H_77.out _ _ _ _ _ _ D0_79.out D1_82.out).mono ?_
            rintro e w11 ⟨Aw, cw, rfl, ho, hb⟩
            have sz_83 := Lib.hid (hb.size)
            have B0_84 := Lib.hid (B0_75.out.below hb)
            clear B0_75
            have B1_85 := Lib.hid (B1_76.out.below hb)
            clear B1_76
            have H_86 := Lib.hid (s_chain H_77.out hb)
            clear H_77
            have R_87 := Lib.hid (s_chain R_78.out hb)
            clear R_78
            have D0_88 := Lib.hid (own_below D0_79.out hb)
            clear D0_79
            have Z_89 := Lib.hid (Z_80.out.below hb)
            clear Z_80
            have D1_90 := Lib.hid (own_below D1_82.out hb)
            clear D1_82
            have sz_91 := Lib.hid (Below.size hb)
            have O_92 := Lib.hid (own_monoG (lo' := w2.heap.size) ho (by have := szq8.out; have := sz_15.out; have := sz_20.out; have := sz_72.out; have := sz_74.out; have := sz_81.out; have := sz_83.out; have := sz_91.out; omega))
            dsimp only
            clear ho hb
            refine hK.out _ _ ⟨(B0_84.out).c0, (B0_84.out).c1, (B1_85.out).c0, (B1_85.out).c1⟩ (fun _ => ?_)
            clear hK K
            (try simp only [Act.put, List.setIfInBounds_toArray, List.set_cons_zero, List.set_cons_succ])
            refine wpAnyH_take (i := 5) (oi := ⟨_, _, _, _, _, _⟩) (v := .tuple #[.agg #[.int .i64 rN, .slice Aw rx.length cw], .bool rb]) rfl (by kernel_rfl) (by kernel_rfl) (by kernel_rfl) (fun _ _ _ h => h) (Or.inl ⟨by kernel_rfl, fun W hS => by (obtain ⟨s0, s1, s2, s3⟩ := hS); go_simp⟩) ⟨(B0_84.out).c0, (B0_84.out).c1, (B1_85.out).c0, (B1_85.out).c1⟩ ?_
            (try simp only [Act.put, List.setIfInBounds_toArray, List.set_cons_zero, List.set_cons_succ])
            refine wpAnyH_take (i := 6) (oi := ⟨_, _, _, _, _, _⟩) (v := .agg #[.int .i64 rN, .slice Aw rx.length cw]) rfl (by kernel_rfl) (by kernel_rfl) (by kernel_rfl) (fun _ _ _ h => h) (Or.inl ⟨by kernel_rfl, fun W hS => by (obtain ⟨s0, s1, s2, s3⟩ := hS); go_simp⟩) ⟨(B0_84.out).c0, (B0_84.out).c1, (B1_85.out).c0, (B1_85.out).c1⟩ ?_
            (try simp only [Act.put, List.setIfInBounds_toArray, List.set_cons_zero, List.set_cons_succ])
            refine wpAnyH_take (i := 7) (oi := ⟨_, _, _, _, _, _⟩) (v := .bool rb) rfl (by kernel_rfl) (by kernel_rfl) (by kernel_rfl) (fun _ _ _ h => h) (Or.inl ⟨by kernel_rfl, fun W hS => by (obtain ⟨s0, s1, s2, s3⟩ := hS); go_simp⟩) ⟨(B0_84.out).c0, (B0_84.out).c1, (B1_85.out).c0, (B1_85.out).c1⟩ ?_
            (try simp only [Act.put, List.setIfInBounds_toArray, List.set_cons_zero, List.set_cons_succ])
            refine wpAnyH_ready (rs := [9]) (by kernel_rfl) (by simp) (AllReadyH.cons rfl (fun K hK => ?_) AllReadyH.nil)
            obtain ⟨z0, z1, z2, z3, z4⟩ := SBx.parts (Z_89.out)
            go_simp
            have hqq : w.heap.size + 2 ≤ w3.heap.size := by have := szq8.out; have := sz_15.out; have := sz_20.out; have := sz_72.out; have := sz_74.out; have := sz_81.out; have := sz_83.out; have := sz_91.out; omega
            have E0 : Box2 ((w11.setCell ⟨w3.heap.size, 0, none⟩ (.int .i64 rN)).setCell ⟨w3.heap.size, 1, none⟩ (.slice Aw rx.length cw)) w.heap.size (.int .i64 N0) (.slice A0 xs0.length c0) := box_set2 (B0_84.out) (by omega) _ _
            have E1 : Box2 ((w11.setCell ⟨w3.heap.size, 0, none⟩ (.int .i64 rN)).setCell ⟨w3.heap.size, 1, none⟩ (.slice Aw rx.length cw)) (w.heap.size + 1) (.int .i64 N1) (.slice A1 xs1.length c1) := box_set2 (B1_85.out) (by omega) _ _
            refine hK.out _ _ ⟨E0.c0, E0.c1, E1.c0, E1.c1⟩ (fun _ => ?_)
            clear hK K
            (try simp only [Act.put, List.setIfInBounds_toArray, List.set_cons_zero, List.set_cons_succ])
            refine wpAnyH_take (i := 10) (oi := ⟨_, _, _, _, _, _⟩) (v := .bool rb) rfl (by kernel_rfl) (by kernel_rfl) (by kernel_rfl) (fun _ _ _ h => h) (Or.inl ⟨by kernel_rfl, fun W hS => by go_simp⟩) ⟨E0.c0, E0.c1, E1.c0, E1.c1⟩ ?_
            (try simp only [Act.put, List.setIfInBounds_toArray, List.set_cons_zero, List.set_cons_succ])
            refine wpAnyH_done (by kernel_rfl) ?_ _
            go_wp2_with fail
            go_meet
            exact ⟨w3.heap.size, Aw, cw, rfl, rfl, Lib.hid (below_set2 (R_87.out) (by have := szq8.out; have := sz_15.out; have := sz_20.out; have := sz_72.out; have := sz_74.out; have := sz_81.out; have := sz_83.out; have := sz_91.out; omega) _ _), Lib.hid (SBx.box ((Z_89.out).set rN Aw rx.length cw)), Lib.hid (own_apart2 (O_92.out) (set_type (O_92.out) (Z_89.out)) _ _), Lib.hid ⟨(by have := szq8.out; have := sz_15.out; have := sz_20.out; have := sz_72.out; have := sz_74.out; have := sz_81.out; have := sz_83.out; have := sz_91.out; omega), by simp; exact z0⟩⟩
        · skip
          go_simp
          have hb := below_a1 wd8 (.cells #[.int .i64 0, .slice none 0 0] 24)
          have B0_93 := Lib.hid (B0_11.out.below hb)
          clear B0_11
          have B1_94 := Lib.hid (B1_12.out.below hb)
          clear B1_12
          have H_95 := Lib.hid (s_chain H_13.out hb)
          clear H_13
          have R_96 := Lib.hid (s_chain R_14.out hb)
          clear R_14
          have sz_97 := Lib.hid (Below.size hb)
          have Z_98 := Lib.hid (SBx.new wd8 0 none 0 0)
          have sz_99 : Hid (wd8.heap.size + 1 ≤ (wd8.alloc (.cells #[.int .i64 0, .slice none 0 0] 24)).heap.size) := Lib.hid (by simp)
          have hq := Lib.hid (rfl : wd8.heap.size = wd8.heap.size)
          clear hb hq
          generalize hZZ : wd8.alloc (.cells #[.int .i64 0, .slice none 0 0] 24) = w12 at B0_93 B1_94 H_95 R_96 Z_98 sz_97 sz_99 ⊢
          clear hZZ
          refine hK.out _ _ ⟨(B0_93.out).c0, (B0_93.out).c1, (B1_94.out).c0, (B1_94.out).c1⟩ (fun _ => ?_)
          clear hK K
          (try simp only [Act.put, List.setIfInBounds_toArray, List.set_cons_zero, List.set_cons_succ])
          refine wpAnyH_ready (rs := [1]) (by kernel_rfl) (by simp) (AllReadyH.cons rfl (fun K hK => ?_) AllReadyH.nil)
          go_simp
          go_at_call 25
          refine (CT0.out _ H_95.out).mono ?_
          rintro e w13 ⟨Ad0, cd0, rfl, ho, hb⟩
          have B0_100 := Lib.hid (B0_93.out.below hb)
          clear B0_93
          have B1_101 := Lib.hid (B1_94.out.below hb)
          clear B1_94
          have H_102 := Lib.hid (s_chain H_95.out hb)
          clear H_95
          have R_103 := Lib.hid (s_chain R_96.out hb)
          clear R_96
          have Z_104 := Lib.hid (Z_98.out.below hb)
          clear Z_98
          have sz_105 := Lib.hid (Below.size hb)
          have D0_106 := Lib.hid (ho)
          dsimp only
          clear ho hb
          refine hK.out _ _ ⟨(B0_100.out).c0, (B0_100.out).c1, (B1_101.out).c0, (B1_101.out).c1⟩ (fun _ => ?_)
          clear hK K
          (try simp only [Act.put, List.setIfInBounds_toArray, List.set_cons_zero, List.set_cons_succ])
          refine wpAnyH_ready (rs := [3]) (by kernel_rfl) (by simp) (AllReadyH.cons rfl (fun K hK => ?_) AllReadyH.nil)
          go_simp
          go_at_call 25
          refine (CT1.out _ H_102.out).mono ?_
          rintro e w14 ⟨Ad1, cd1, rfl, ho, hb⟩
          have B0_107 := Lib.hid (B0_100.out.below hb)
          clear B0_100
          have B1_108 := Lib.hid (B1_101.out.below hb)
          clear B1_101
          have H_109 := Lib.hid (s_chain H_102.out hb)
          clear H_102
          have R_110 := Lib.hid (s_chain R_103.out hb)
          clear R_103
          have Z_111 := Lib.hid (Z_104.out.below hb)
          clear Z_104
          have D0_112 := Lib.hid (own_below D0_106.out hb)
          clear D0_106
          have sz_113 := Lib.hid (Below.size hb)
          have D1_114 := Lib.hid (ho)
          dsimp only
          clear ho hb
          refine hK.out _ _ ⟨(B0_107.out).c0, (B0_107.out).c1, (B1_108.out).c0, (B1_108.out).c1⟩ (fun _ => ?_)
          clear hK K
          (try simp only [Act.put, List.setIfInBounds_toArray, List.set_cons_zero, List.set_cons_succ])
          refine wpAnyH_ready (rs := [4]) (by kernel_rfl) (by simp) (AllReadyH.cons rfl (fun K hK => ?_) AllReadyH.nil)
          go_simp
          go_at_call 36
          refine (CS.out _ H_109.out _ _ _ _ _ _ D0_112.out D1_114.out).mono ?_
          rintro e w15 ⟨Aw, cw, rfl, ho, hb⟩
          have sz_115 := Lib.hid (hb.size)
          have B0_116 := Lib.hid (B0_107.out.below hb)
          clear B0_107
          have B1_117 := Lib.hid (B1_108.out.below hb)
          clear B1_108
          have H_118 := Lib.hid (s_chain H_109.out hb)
          clear H_109
          have R_119 := Lib.hid (s_chain R_110.out hb)
          clear R_110
          have Z_120 := Lib.hid (Z_111.out.below hb)
          clear Z_111
          have D0_121 := Lib.hid (own_below D0_112.out hb)
          clear D0_112
          have D1_122 := Lib.hid (own_below D1_114.out hb)
          clear D1_114
          have sz_123 := Lib.hid (Below.size hb)
          have O_124 := Lib.hid (own_monoG (lo' := w2.heap.size) ho (by have := szq8.out; have := sz_15.out; have := sz_97.out; have := sz_99.out; have := sz_105.out; have := sz_113.out; have := sz_115.out; have := sz_123.out; omega))
          dsimp only
          clear ho hb
          refine hK.out _ _ ⟨(B0_116.out).c0, (B0_116.out).c1, (B1_117.out).c0, (B1_117.out).c1⟩ (fun _ => ?_)
          clear hK K
          (try simp only [Act.put, List.setIfInBounds_toArray, List.set_cons_zero, List.set_cons_succ])
          refine wpAnyH_take (i := 5) (oi := ⟨_, _, _, _, _, _⟩) (v := .tuple #[.agg #[.int .i64 rN, .slice Aw rx.length cw], .bool rb]) rfl (by kernel_rfl) (by kernel_rfl) (by kernel_rfl) (fun _ _ _ h => h) (Or.inl ⟨by kernel_rfl, fun W hS => by (obtain ⟨s0, s1, s2, s3⟩ := hS); go_simp⟩) ⟨(B0_116.out).c0, (B0_116.out).c1, (B1_117.out).c0, (B1_117.out).c1⟩ ?_
          (try simp only [Act.put, List.setIfInBounds_toArray, List.set_cons_zero, List.set_cons_succ])
          refine wpAnyH_take (i := 6) (oi := ⟨_, _, _, _, _, _⟩) (v := .agg #[.int .i64 rN, .slice Aw rx.length cw]) rfl (by kernel_rfl) (by kernel_rfl) (by kernel_rfl) (fun _ _ _ h => h) (Or.inl ⟨by kernel_rfl, fun W hS => by (obtain ⟨s0, s1, s2, s3⟩ := hS); go_simp⟩) ⟨(B0_116.out).c0, (B0_116.out).c1, (B1_117.out).c0, (B1_117.out).c1⟩ ?_
          (try simp only [Act.put, List.setIfInBounds_toArray, List.set_cons_zero, List.set_cons_succ])
          refine wpAnyH_take (i := 7) (oi := ⟨_, _, _, _, _, _⟩) (v := .bool rb) rfl (by kernel_rfl) (by kernel_rfl) (by kernel_rfl) (fun _ _ _ h => h) (Or.inl ⟨by kernel_rfl, fun W hS => by (obtain ⟨s0, s1, s2, s3⟩ := hS); go_simp⟩) ⟨(B0_116.out).c0, (B0_116.out).c1, (B1_117.out).c0, (B1_117.out).c1⟩ ?_
          (try simp only [Act.put, List.setIfInBounds_toArray, List.set_cons_zero, List.set_cons_succ])
          refine wpAnyH_ready (rs := [9]) (by kernel_rfl) (by simp) (AllReadyH.cons rfl (fun K hK => ?_) AllReadyH.nil)
          obtain ⟨z0, z1, z2, z3, z4⟩ := SBx.parts (Z_120.out)
          go_simp
          have hqq : w.heap.size + 2 ≤ wd8.heap.size := by have := szq8.out; have := sz_15.out; have := sz_97.out; have := sz_99.out; have := sz_105.out; have := sz_113.out; have := sz_115.out; have := sz_123.out; omega
          have E0 : Box2 ((w15.setCell ⟨wd8.heap.size, 0, none⟩ (.int .i64 rN)).setCell ⟨wd8.heap.size, 1, none⟩ (.slice Aw rx.length cw)) w.heap.size (.int .i64 N0) (.slice A0 xs0.length c0) := box_set2 (B0_116.out) (by omega) _ _
          have E1 : Box2 ((w15.setCell ⟨wd8.heap.size, 0, none⟩ (.int .i64 rN)).setCell ⟨wd8.heap.size, 1, none⟩ (.slice Aw rx.length cw)) (w.heap.size + 1) (.int .i64 N1) (.slice A1 xs1.length c1) := box_set2 (B1_117.out) (by omega) _ _
          refine hK.out _ _ ⟨E0.c0, E0.c1, E1.c0, E1.c1⟩ (fun _ => ?_)
          clear hK K
          (try simp only [Act.put, List.setIfInBounds_toArray, List.set_cons_zero, List.set_cons_succ])
          refine wpAnyH_take (i := 10) (oi := ⟨_, _, _, _, _, _⟩) (v := .bool rb) rfl (by kernel_rfl) (by kernel_rfl) (by kernel_rfl) (fun _ _ _ h => h) (Or.inl ⟨by kernel_rfl, fun W hS => by go_simp⟩) ⟨E0.c0, E0.c1, E1.c0, E1.c1⟩ ?_
          (try simp only [Act.put, List.setIfInBounds_toArray, List.set_cons_zero, List.set_cons_succ])
          refine wpAnyH_done (by kernel_rfl) ?_ _
          go_wp2_with fail
          go_meet
          exact ⟨wd8.heap.size, Aw, cw, rfl, rfl, Lib.hid (below_set2 (R_119.out) (by have := szq8.out; have := sz_15.out; have := sz_97.out; have := sz_99.out; have := sz_105.out; have := sz_113.out; have := sz_115.out; have := sz_123.out; omega) _ _), Lib.hid (SBx.box ((Z_120.out).set rN Aw rx.length cw)), Lib.hid (own_apart2 (O_124.out) (set_type (O_124.out) (Z_120.out)) _ _), Lib.hid ⟨(by have := szq8.out; have := sz_15.out; have := sz_97.out; have := sz_99.out; have := sz_105.out; have := sz_113.out; have := sz_115.out; have := sz_123.out; omega), by simp; exact z0⟩⟩
      case rest =>
        rename World => w16
        obtain ⟨qw, Aw, cw, rfl, rfl, hb, hx, ho, hq⟩ := hcut
        have B0_125 := Lib.hid (B0_6.out.below hb.out)
        clear B0_6
        have B1_126 := Lib.hid (B1_7.out.below hb.out)
        clear B1_7
        have H_127 := Lib.hid (s_chain H_8.out hb.out)
        clear H_8
        have sz_128 := Lib.hid (Below.size hb.out)
        have RG_129 := Lib.hid ho.out.lt
        have Gw_130 := Lib.hid (ho.out)
        have GBw_131 := Lib.hid (hx.out)
        have sz_132 := Lib.hid (hq.out.1)
        have sz_133 := Lib.hid (hq.out.2)
        clear hb hx ho hq
        obtain ⟨l_134, l_134a, l_134b⟩ := B0_125.out
        go_wp2_with fail
        refine (CT0.out _ H_127.out).mono ?_
        rintro e w17 ⟨Ax0, cx0, rfl, ho, hb⟩
        clear l_134 l_134a l_134b
        have B0_135 := Lib.hid (B0_125.out.below hb)
        clear B0_125
        have B1_136 := Lib.hid (B1_126.out.below hb)
        clear B1_126
        have H_137 := Lib.hid (s_chain H_127.out hb)
        clear H_127
        have Gw_138 := Lib.hid (own_below Gw_130.out hb)
        clear Gw_130
        have GBw_139 := Lib.hid (GBw_131.out.below hb)
        clear GBw_131
        have sz_140 := Lib.hid (Below.size hb)
        have RG_141 := Lib.hid (ho).lt
        have X0_142 := Lib.hid (ho)
        clear ho hb
        have hb := below_a1 w17 (.cells #[.int .i64 N0, .slice Ax0 xs0.length cx0] 24)
        have B0_143 := Lib.hid (B0_135.out.below hb)
        clear B0_135
        have B1_144 := Lib.hid (B1_136.out.below hb)
        clear B1_136
        have H_145 := Lib.hid (s_chain H_137.out hb)
        clear H_137
        have Gw_146 := Lib.hid (own_below Gw_138.out hb)
        clear Gw_138
        have GBw_147 := Lib.hid (GBw_139.out.below hb)
        clear GBw_139
        have X0_148 := Lib.hid (own_below X0_142.out hb)
        clear X0_142
        have sz_149 := Lib.hid (Below.size hb)
        have XB0_150 := Lib.hid (Box2.new w17 (.int .i64 N0) (.slice Ax0 xs0.length cx0) 24)
        have sz_151 : Hid (w17.heap.size + 1 ≤ (w17.alloc (.cells #[.int .i64 N0, .slice Ax0 xs0.length cx0] 24)).heap.size) := Lib.hid (by simp)
        clear hb
        obtain ⟨l_152, l_152a, l_152b⟩ := B1_144.out
        go_wp2_with fail
        refine (CT1.out _ H_145.out).mono ?_
        rintro e w18 ⟨Ax1, cx1, rfl, ho, hb⟩
        clear l_152 l_152a l_152b
        have B0_153 := Lib.hid (B0_143.out.below hb)
        clear B0_143
        have B1_154 := Lib.hid (B1_144.out.below hb)
        clear B1_144
        have H_155 := Lib.hid (s_chain H_145.out hb)
        clear H_145
        have Gw_156 := Lib.hid (own_below Gw_146.out hb)
        clear Gw_146
        have GBw_157 := Lib.hid (GBw_147.out.below hb)
        clear GBw_147
        have X0_158 := Lib.hid (own_below X0_148.out hb)
        clear X0_148
        have XB0_159 := Lib.hid (XB0_150.out.below hb)
        clear XB0_150
        have sz_160 := Lib.hid (Below.size hb)
        have RG_161 := Lib.hid (ho).lt
        have X1_162 := Lib.hid (ho)
        clear ho hb
        have hb := below_a1 w18 (.cells #[.int .i64 N1, .slice Ax1 xs1.length cx1] 24)
        have B0_163 := Lib.hid (B0_153.out.below hb)
        clear B0_153
        have B1_164 := Lib.hid (B1_154.out.below hb)
        clear B1_154
        have H_165 := Lib.hid (s_chain H_155.out hb)
        clear H_155
        have Gw_166 := Lib.hid (own_below Gw_156.out hb)
        clear Gw_156
        have GBw_167 := Lib.hid (GBw_157.out.below hb)
        clear GBw_157
        have X0_168 := Lib.hid (own_below X0_158.out hb)
        clear X0_158
        have XB0_169 := Lib.hid (XB0_159.out.below hb)
        clear XB0_159
        have X1_170 := Lib.hid (own_below X1_162.out hb)
        clear X1_162
        have sz_171 := Lib.hid (Below.size hb)
        have XB1_172 := Lib.hid (Box2.new w18 (.int .i64 N1) (.slice Ax1 xs1.length cx1) 24)
        have sz_173 : Hid (w18.heap.size + 1 ≤ (w18.alloc (.cells #[.int .i64 N1, .slice Ax1 xs1.length cx1] 24)).heap.size) := Lib.hid (by simp)
        clear hb
        obtain ⟨l_174, l_174a, l_174b⟩ := XB0_169.out
        obtain ⟨l_175, l_175a, l_175b⟩ := XB1_172.out
        go_wp2_with fail
        refine (CI.out _ H_165.out _ _ _ _ _ _ X0_168.out X1_170.out).mono ?_
        rintro e w19 ⟨Ag, cg, rfl, ho, hb⟩
        clear l_174 l_174a l_174b
        clear l_175 l_175a l_175b
        have B0_176 := Lib.hid (B0_163.out.below hb)
        clear B0_163
        have B1_177 := Lib.hid (B1_164.out.below hb)
        clear B1_164
        have H_178 := Lib.hid (s_chain H_165.out hb)
        clear H_165
        have Gw_179 := Lib.hid (own_below Gw_166.out hb)
        clear Gw_166
        have GBw_180 := Lib.hid (GBw_167.out.below hb)
        clear GBw_167
        have X0_181 := Lib.hid (own_below X0_168.out hb)
        clear X0_168
        have XB0_182 := Lib.hid (XB0_169.out.below hb)
        clear XB0_169
        have X1_183 := Lib.hid (own_below X1_170.out hb)
        clear X1_170
        have XB1_184 := Lib.hid (XB1_172.out.below hb)
        clear XB1_172
        have sz_185 := Lib.hid (Below.size hb)
        have RG_186 := Lib.hid (ho).lt
        have Gg_187 := Lib.hid (ho)
        clear ho hb
        have hb := below_a1 w19 (.cells #[.int .i64 rN, .slice Ag rx.length cg] 24)
        have B0_188 := Lib.hid (B0_176.out.below hb)
        clear B0_176
        have B1_189 := Lib.hid (B1_177.out.below hb)
        clear B1_177
        have H_190 := Lib.hid (s_chain H_178.out hb)
        clear H_178
        have Gw_191 := Lib.hid (own_below Gw_179.out hb)
        clear Gw_179
        have GBw_192 := Lib.hid (GBw_180.out.below hb)
        clear GBw_180
        have X0_193 := Lib.hid (own_below X0_181.out hb)
        clear X0_181
        have XB0_194 := Lib.hid (XB0_182.out.below hb)
        clear XB0_182
        have X1_195 := Lib.hid (own_below X1_183.out hb)
        clear X1_183
        have XB1_196 := Lib.hid (XB1_184.out.below hb)
        clear XB1_184
        have Gg_197 := Lib.hid (own_below Gg_187.out hb)
        clear Gg_187
        have sz_198 := Lib.hid (Below.size hb)
        have GBg_199 := Lib.hid (Box2.new w19 (.int .i64 rN) (.slice Ag rx.length cg) 24)
        have sz_200 : Hid (w19.heap.size + 1 ≤ (w19.alloc (.cells #[.int .i64 rN, .slice Ag rx.length cg] 24)).heap.size) := Lib.hid (by simp)
        clear hb
        obtain ⟨l_201, l_201a, l_201b⟩ := GBg_199.out
        obtain ⟨l_202, l_202a, l_202b⟩ := GBw_192.out
        go_wp2_with fail
        refine (CV.out _ _ _ _ _ _ _ Gg_197.out Gw_191.out).mono ?_
        rintro e w20 ⟨rfl, hb⟩
        clear l_201 l_201a l_201b
        clear l_202 l_202a l_202b
        have B0_203 := Lib.hid (B0_188.out.below hb)
        clear B0_188
        have B1_204 := Lib.hid (B1_189.out.below hb)
        clear B1_189
        have H_205 := Lib.hid (s_chain H_190.out hb)
        clear H_190
        have Gw_206 := Lib.hid (own_below Gw_191.out hb)
        clear Gw_191
        have GBw_207 := Lib.hid (GBw_192.out.below hb)
        clear GBw_192
        have X0_208 := Lib.hid (own_below X0_193.out hb)
        clear X0_193
        have XB0_209 := Lib.hid (XB0_194.out.below hb)
        clear XB0_194
        have X1_210 := Lib.hid (own_below X1_195.out hb)
        clear X1_195
        have XB1_211 := Lib.hid (XB1_196.out.below hb)
        clear XB1_196
        have Gg_212 := Lib.hid (own_below Gg_197.out hb)
        clear Gg_197
        have GBg_213 := Lib.hid (GBg_199.out.below hb)
        clear GBg_199
        have sz_214 := Lib.hid (Below.size hb)
        clear hb
        obtain ⟨l_215, l_215a, l_215b⟩ := B0_203.out
        obtain ⟨l_216, l_216a, l_216b⟩ := XB0_209.out
        go_upto_region 14 with fail
        go_cut [58] (fun (sa : Value) (wx : World) => sa = .bool false ∧ Hid (Below w20.heap.size w20 wx))
        case first =>
          go_region_with (first
            | (go_at_call 25; ((with_reducible refine (CT0.out _ (by first | exact H_205.out | exact H_205.out.drew | exact H_205.out.drew.drew)).mono ?_)); rintro e w21 ⟨A3, c3, rfl, ho3, hbg⟩; have HBG : Hid (Below w20.heap.size w20 w21) := Lib.hid (by first | exact hbg | exact ⟨hbg.os, hbg.tape, hbg.output, hbg.size, hbg.block⟩); obtain ⟨l2, c20, c21⟩ := (XB0_209.out.below HBG.out); have D5 := Lib.hid (own_below X0_208.out HBG.out); have D6 := Lib.hid ho3)
            | (go_at_call 26; ((with_reducible refine (CE0.out _ _ _ _ _ _ _ D5.out D6.out).mono ?_)); rintro e w22 ⟨rfl, hbh⟩))
          all_goals (go_wp2; go_meet; exact ⟨rfl, Lib.hid (s_chain HBG.out hbh)⟩)
        case rest =>
          rename World => w22
          obtain ⟨rfl, hb⟩ := hcut
          have B0_217 := Lib.hid (B0_203.out.below hb.out)
          clear B0_203
          have B1_218 := Lib.hid (B1_204.out.below hb.out)
          clear B1_204
          have H_219 := Lib.hid (s_chain H_205.out hb.out)
          clear H_205
          have Gw_220 := Lib.hid (own_below Gw_206.out hb.out)
          clear Gw_206
          have GBw_221 := Lib.hid (GBw_207.out.below hb.out)
          clear GBw_207
          have X0_222 := Lib.hid (own_below X0_208.out hb.out)
          clear X0_208
          have XB0_223 := Lib.hid (XB0_209.out.below hb.out)
          clear XB0_209
          have X1_224 := Lib.hid (own_below X1_210.out hb.out)
          clear X1_210
          have XB1_225 := Lib.hid (XB1_211.out.below hb.out)
          clear XB1_211
          have Gg_226 := Lib.hid (own_below Gg_212.out hb.out)
          clear Gg_212
          have GBg_227 := Lib.hid (GBg_213.out.below hb.out)
          clear GBg_213
          have sz_228 := Lib.hid (Below.size hb.out)
          clear l_215 l_215a l_215b
          clear l_216 l_216a l_216b
          clear hb
          obtain ⟨l_229, l_229a, l_229b⟩ := B1_218.out
          obtain ⟨l_230, l_230a, l_230b⟩ := XB1_225.out
          go_upto_region 16 with fail
          go_cut [63] (fun (sa : Value) (wx : World) => sa = .bool false ∧ Hid (Below w22.heap.size w22 wx))
          case first =>
            go_region_with (first
              | (go_at_call 25; ((with_reducible refine (CT1.out _ (by first | exact H_219.out | exact H_219.out.drew | exact H_219.out.drew.drew)).mono ?_)); rintro e w23 ⟨A3, c3, rfl, ho3, hbg⟩; have HBG : Hid (Below w22.heap.size w22 w23) := Lib.hid (by first | exact hbg | exact ⟨hbg.os, hbg.tape, hbg.output, hbg.size, hbg.block⟩); obtain ⟨l2, c20, c21⟩ := (XB1_225.out.below HBG.out); have D5 := Lib.hid (own_below X1_224.out HBG.out); have D6 := Lib.hid ho3)
              | (go_at_call 26; ((with_reducible refine (CE1.out _ _ _ _ _ _ _ D5.out D6.out).mono ?_)); rintro e w24 ⟨rfl, hbh⟩))
            all_goals (go_wp2; go_meet; exact ⟨rfl, Lib.hid (s_chain HBG.out hbh)⟩)
          case rest =>
            rename World => w24
            obtain ⟨rfl, hb⟩ := hcut
            have B0_231 := Lib.hid (B0_217.out.below hb.out)
            clear B0_217
            have B1_232 := Lib.hid (B1_218.out.below hb.out)
            clear B1_218
            have H_233 := Lib.hid (s_chain H_219.out hb.out)
            clear H_219
            have Gw_234 := Lib.hid (own_below Gw_220.out hb.out)
            clear Gw_220
            have GBw_235 := Lib.hid (GBw_221.out.below hb.out)
            clear GBw_221
            have X0_236 := Lib.hid (own_below X0_222.out hb.out)
            clear X0_222
            have XB0_237 := Lib.hid (XB0_223.out.below hb.out)
            clear XB0_223
            have X1_238 := Lib.hid (own_below X1_224.out hb.out)
            clear X1_224
            have XB1_239 := Lib.hid (XB1_225.out.below hb.out)
            clear XB1_225
            have Gg_240 := Lib.hid (own_below Gg_226.out hb.out)
            clear Gg_226
            have GBg_241 := Lib.hid (GBg_227.out.below hb.out)
            clear GBg_227
            have sz_242 := Lib.hid (Below.size hb.out)
            clear l_229 l_229a l_229b
            clear l_230 l_230a l_230b
            clear hb
            obtain ⟨l_243, l_243a, l_243b⟩ := XB0_237.out
            go_wp2_with fail
            refine (CM0.out _ _ _ _ X0_236.out).mono ?_
            rintro e w25 ⟨rfl, -, hg⟩
            clear l_243 l_243a l_243b
            have B0_244 := Lib.hid (B0_231.out.far hg RG_141.out (by have := sz_4.out; have := sz_9.out; have := sz_128.out; have := sz_132.out; have := sz_133.out; have := sz_140.out; have := sz_149.out; have := sz_151.out; have := sz_160.out; have := sz_171.out; have := sz_173.out; have := sz_185.out; have := sz_198.out; have := sz_200.out; have := sz_214.out; have := sz_228.out; have := sz_242.out; omega))
            clear B0_231
            have B1_245 := Lib.hid (B1_232.out.far hg RG_141.out (by have := sz_4.out; have := sz_9.out; have := sz_128.out; have := sz_132.out; have := sz_133.out; have := sz_140.out; have := sz_149.out; have := sz_151.out; have := sz_160.out; have := sz_171.out; have := sz_173.out; have := sz_185.out; have := sz_198.out; have := sz_200.out; have := sz_214.out; have := sz_228.out; have := sz_242.out; omega))
            clear B1_232
            have H_246 := Lib.hid (H_233.out.grown hg H_233.out.size (fun j hj => by have := RG_141.out j hj; have := sz_4.out; have := sz_9.out; have := sz_128.out; have := sz_132.out; have := sz_133.out; have := sz_140.out; have := sz_149.out; have := sz_151.out; have := sz_160.out; have := sz_171.out; have := sz_173.out; have := sz_185.out; have := sz_198.out; have := sz_200.out; have := sz_214.out; have := sz_228.out; have := sz_242.out; omega))
            clear H_233
            have Gw_247 := Lib.hid (own_far Gw_234.out hg RG_129.out RG_141.out (by have := sz_4.out; have := sz_9.out; have := sz_128.out; have := sz_132.out; have := sz_133.out; have := sz_140.out; have := sz_149.out; have := sz_151.out; have := sz_160.out; have := sz_171.out; have := sz_173.out; have := sz_185.out; have := sz_198.out; have := sz_200.out; have := sz_214.out; have := sz_228.out; have := sz_242.out; omega))
            clear Gw_234
            have GBw_248 := Lib.hid (GBw_235.out.far hg RG_141.out (by have := sz_4.out; have := sz_9.out; have := sz_128.out; have := sz_132.out; have := sz_133.out; have := sz_140.out; have := sz_149.out; have := sz_151.out; have := sz_160.out; have := sz_171.out; have := sz_173.out; have := sz_185.out; have := sz_198.out; have := sz_200.out; have := sz_214.out; have := sz_228.out; have := sz_242.out; omega))
            clear GBw_235
            have XB0_249 := Lib.hid (XB0_237.out.far hg RG_141.out (by have := sz_4.out; have := sz_9.out; have := sz_128.out; have := sz_132.out; have := sz_133.out; have := sz_140.out; have := sz_149.out; have := sz_151.out; have := sz_160.out; have := sz_171.out; have := sz_173.out; have := sz_185.out; have := sz_198.out; have := sz_200.out; have := sz_214.out; have := sz_228.out; have := sz_242.out; omega))
            clear XB0_237
            have X1_250 := Lib.hid (own_far X1_238.out hg RG_161.out RG_141.out (by have := sz_4.out; have := sz_9.out; have := sz_128.out; have := sz_132.out; have := sz_133.out; have := sz_140.out; have := sz_149.out; have := sz_151.out; have := sz_160.out; have := sz_171.out; have := sz_173.out; have := sz_185.out; have := sz_198.out; have := sz_200.out; have := sz_214.out; have := sz_228.out; have := sz_242.out; omega))
            clear X1_238
            have XB1_251 := Lib.hid (XB1_239.out.far hg RG_141.out (by have := sz_4.out; have := sz_9.out; have := sz_128.out; have := sz_132.out; have := sz_133.out; have := sz_140.out; have := sz_149.out; have := sz_151.out; have := sz_160.out; have := sz_171.out; have := sz_173.out; have := sz_185.out; have := sz_198.out; have := sz_200.out; have := sz_214.out; have := sz_228.out; have := sz_242.out; omega))
            clear XB1_239
            have Gg_252 := Lib.hid (own_far Gg_240.out hg RG_186.out RG_141.out (by have := sz_4.out; have := sz_9.out; have := sz_128.out; have := sz_132.out; have := sz_133.out; have := sz_140.out; have := sz_149.out; have := sz_151.out; have := sz_160.out; have := sz_171.out; have := sz_173.out; have := sz_185.out; have := sz_198.out; have := sz_200.out; have := sz_214.out; have := sz_228.out; have := sz_242.out; omega))
            clear Gg_240
            have GBg_253 := Lib.hid (GBg_241.out.far hg RG_141.out (by have := sz_4.out; have := sz_9.out; have := sz_128.out; have := sz_132.out; have := sz_133.out; have := sz_140.out; have := sz_149.out; have := sz_151.out; have := sz_160.out; have := sz_171.out; have := sz_173.out; have := sz_185.out; have := sz_198.out; have := sz_200.out; have := sz_214.out; have := sz_228.out; have := sz_242.out; omega))
            clear GBg_241
            have sz_254 := Lib.hid (World.grownBy.size hg)
            clear hg
            obtain ⟨l_255, l_255a, l_255b⟩ := XB1_251.out
            go_wp2_with fail
            refine (CM1.out _ _ _ _ X1_250.out).mono ?_
            rintro e w26 ⟨rfl, -, hg⟩
            clear l_255 l_255a l_255b
            have B0_256 := Lib.hid (B0_244.out.far hg RG_161.out (by have := sz_4.out; have := sz_9.out; have := sz_128.out; have := sz_132.out; have := sz_133.out; have := sz_140.out; have := sz_149.out; have := sz_151.out; have := sz_160.out; have := sz_171.out; have := sz_173.out; have := sz_185.out; have := sz_198.out; have := sz_200.out; have := sz_214.out; have := sz_228.out; have := sz_242.out; have := sz_254.out; omega))
            clear B0_244
            have B1_257 := Lib.hid (B1_245.out.far hg RG_161.out (by have := sz_4.out; have := sz_9.out; have := sz_128.out; have := sz_132.out; have := sz_133.out; have := sz_140.out; have := sz_149.out; have := sz_151.out; have := sz_160.out; have := sz_171.out; have := sz_173.out; have := sz_185.out; have := sz_198.out; have := sz_200.out; have := sz_214.out; have := sz_228.out; have := sz_242.out; have := sz_254.out; omega))
            clear B1_245
            have H_258 := Lib.hid (H_246.out.grown hg H_246.out.size (fun j hj => by have := RG_161.out j hj; have := sz_4.out; have := sz_9.out; have := sz_128.out; have := sz_132.out; have := sz_133.out; have := sz_140.out; have := sz_149.out; have := sz_151.out; have := sz_160.out; have := sz_171.out; have := sz_173.out; have := sz_185.out; have := sz_198.out; have := sz_200.out; have := sz_214.out; have := sz_228.out; have := sz_242.out; have := sz_254.out; omega))
            clear H_246
            have Gw_259 := Lib.hid (own_far Gw_247.out hg RG_129.out RG_161.out (by have := sz_4.out; have := sz_9.out; have := sz_128.out; have := sz_132.out; have := sz_133.out; have := sz_140.out; have := sz_149.out; have := sz_151.out; have := sz_160.out; have := sz_171.out; have := sz_173.out; have := sz_185.out; have := sz_198.out; have := sz_200.out; have := sz_214.out; have := sz_228.out; have := sz_242.out; have := sz_254.out; omega))
            clear Gw_247
            have GBw_260 := Lib.hid (GBw_248.out.far hg RG_161.out (by have := sz_4.out; have := sz_9.out; have := sz_128.out; have := sz_132.out; have := sz_133.out; have := sz_140.out; have := sz_149.out; have := sz_151.out; have := sz_160.out; have := sz_171.out; have := sz_173.out; have := sz_185.out; have := sz_198.out; have := sz_200.out; have := sz_214.out; have := sz_228.out; have := sz_242.out; have := sz_254.out; omega))
            clear GBw_248
            have XB1_261 := Lib.hid (XB1_251.out.far hg RG_161.out (by have := sz_4.out; have := sz_9.out; have := sz_128.out; have := sz_132.out; have := sz_133.out; have := sz_140.out; have := sz_149.out; have := sz_151.out; have := sz_160.out; have := sz_171.out; have := sz_173.out; have := sz_185.out; have := sz_198.out; have := sz_200.out; have := sz_214.out; have := sz_228.out; have := sz_242.out; have := sz_254.out; omega))
            clear XB1_251
            have Gg_262 := Lib.hid (own_far Gg_252.out hg RG_186.out RG_161.out (by have := sz_4.out; have := sz_9.out; have := sz_128.out; have := sz_132.out; have := sz_133.out; have := sz_140.out; have := sz_149.out; have := sz_151.out; have := sz_160.out; have := sz_171.out; have := sz_173.out; have := sz_185.out; have := sz_198.out; have := sz_200.out; have := sz_214.out; have := sz_228.out; have := sz_242.out; have := sz_254.out; omega))
            clear Gg_252
            have GBg_263 := Lib.hid (GBg_253.out.far hg RG_161.out (by have := sz_4.out; have := sz_9.out; have := sz_128.out; have := sz_132.out; have := sz_133.out; have := sz_140.out; have := sz_149.out; have := sz_151.out; have := sz_160.out; have := sz_171.out; have := sz_173.out; have := sz_185.out; have := sz_198.out; have := sz_200.out; have := sz_214.out; have := sz_228.out; have := sz_242.out; have := sz_254.out; omega))
            clear GBg_253
            have sz_264 := Lib.hid (World.grownBy.size hg)
            clear hg
            obtain ⟨l_265, l_265a, l_265b⟩ := GBg_263.out
            obtain ⟨l_266, l_266a, l_266b⟩ := GBw_260.out
            go_wp2_with fail
            refine (CV.out _ _ _ _ _ _ _ Gg_262.out Gw_259.out).mono ?_
            rintro e w27 ⟨rfl, hb⟩
            clear l_265 l_265a l_265b
            clear l_266 l_266a l_266b
            have B0_267 := Lib.hid (B0_256.out.below hb)
            clear B0_256
            have B1_268 := Lib.hid (B1_257.out.below hb)
            clear B1_257
            have H_269 := Lib.hid (s_chain H_258.out hb)
            clear H_258
            have Gw_270 := Lib.hid (own_below Gw_259.out hb)
            clear Gw_259
            have GBw_271 := Lib.hid (GBw_260.out.below hb)
            clear GBw_260
            have Gg_272 := Lib.hid (own_below Gg_262.out hb)
            clear Gg_262
            have GBg_273 := Lib.hid (GBg_263.out.below hb)
            clear GBg_263
            have sz_274 := Lib.hid (Below.size hb)
            clear hb
            obtain ⟨l_275, l_275a, l_275b⟩ := GBg_273.out
            go_wp2_with fail
            refine (CN.out _ _ _ _ Gg_272.out).mono ?_
            rintro e w28 ⟨rfl, hmk, hg⟩
            clear l_275 l_275a l_275b
            have B0_276 := Lib.hid (B0_267.out.far hg RG_186.out (by have := sz_4.out; have := sz_9.out; have := sz_128.out; have := sz_132.out; have := sz_133.out; have := sz_140.out; have := sz_149.out; have := sz_151.out; have := sz_160.out; have := sz_171.out; have := sz_173.out; have := sz_185.out; have := sz_198.out; have := sz_200.out; have := sz_214.out; have := sz_228.out; have := sz_242.out; have := sz_254.out; have := sz_264.out; have := sz_274.out; omega))
            clear B0_267
            have B1_277 := Lib.hid (B1_268.out.far hg RG_186.out (by have := sz_4.out; have := sz_9.out; have := sz_128.out; have := sz_132.out; have := sz_133.out; have := sz_140.out; have := sz_149.out; have := sz_151.out; have := sz_160.out; have := sz_171.out; have := sz_173.out; have := sz_185.out; have := sz_198.out; have := sz_200.out; have := sz_214.out; have := sz_228.out; have := sz_242.out; have := sz_254.out; have := sz_264.out; have := sz_274.out; omega))
            clear B1_268
            have H_278 := Lib.hid (H_269.out.grown hg H_269.out.size (fun j hj => by have := RG_186.out j hj; have := sz_4.out; have := sz_9.out; have := sz_128.out; have := sz_132.out; have := sz_133.out; have := sz_140.out; have := sz_149.out; have := sz_151.out; have := sz_160.out; have := sz_171.out; have := sz_173.out; have := sz_185.out; have := sz_198.out; have := sz_200.out; have := sz_214.out; have := sz_228.out; have := sz_242.out; have := sz_254.out; have := sz_264.out; have := sz_274.out; omega))
            clear H_269
            have Gw_279 := Lib.hid (own_far Gw_270.out hg RG_129.out RG_186.out (by have := sz_4.out; have := sz_9.out; have := sz_128.out; have := sz_132.out; have := sz_133.out; have := sz_140.out; have := sz_149.out; have := sz_151.out; have := sz_160.out; have := sz_171.out; have := sz_173.out; have := sz_185.out; have := sz_198.out; have := sz_200.out; have := sz_214.out; have := sz_228.out; have := sz_242.out; have := sz_254.out; have := sz_264.out; have := sz_274.out; omega))
            clear Gw_270
            have GBw_280 := Lib.hid (GBw_271.out.far hg RG_186.out (by have := sz_4.out; have := sz_9.out; have := sz_128.out; have := sz_132.out; have := sz_133.out; have := sz_140.out; have := sz_149.out; have := sz_151.out; have := sz_160.out; have := sz_171.out; have := sz_173.out; have := sz_185.out; have := sz_198.out; have := sz_200.out; have := sz_214.out; have := sz_228.out; have := sz_242.out; have := sz_254.out; have := sz_264.out; have := sz_274.out; omega))
            clear GBw_271
            have GBg_281 := Lib.hid (GBg_273.out.far hg RG_186.out (by have := sz_4.out; have := sz_9.out; have := sz_128.out; have := sz_132.out; have := sz_133.out; have := sz_140.out; have := sz_149.out; have := sz_151.out; have := sz_160.out; have := sz_171.out; have := sz_173.out; have := sz_185.out; have := sz_198.out; have := sz_200.out; have := sz_214.out; have := sz_228.out; have := sz_242.out; have := sz_254.out; have := sz_264.out; have := sz_274.out; omega))
            clear GBg_273
            have sz_282 := Lib.hid (World.grownBy.size hg)
            have RG_283 := Lib.hid (hmk).lt
            have M_284 := Lib.hid (hmk)
            clear hg hmk
            obtain ⟨l_285, l_285a, l_285b⟩ := GBg_281.out
            go_wp2_with fail
            refine (CH.out _ _ _ _ M_284.out).mono ?_
            rintro e w29 ⟨rfl, hb⟩
            clear l_285 l_285a l_285b
            have B0_286 := Lib.hid (B0_276.out.below hb)
            clear B0_276
            have B1_287 := Lib.hid (B1_277.out.below hb)
            clear B1_277
            have H_288 := Lib.hid (s_chain H_278.out hb)
            clear H_278
            have Gw_289 := Lib.hid (own_below Gw_279.out hb)
            clear Gw_279
            have GBw_290 := Lib.hid (GBw_280.out.below hb)
            clear GBw_280
            have GBg_291 := Lib.hid (GBg_281.out.below hb)
            clear GBg_281
            have M_292 := Lib.hid (own_below M_284.out hb)
            clear M_284
            have sz_293 := Lib.hid (Below.size hb)
            clear hb
            go_upto_region 31 with fail
            go_cut [15, 16] (fun (sa sb : Value) (wx : World) => ∃ (q : Nat) (Aw : Option Addr) (cw : Nat), sa = .pointer (some ⟨q, 0, none⟩) ∧ sb = .bool rb ∧ Hid (Below w29.heap.size w29 wx) ∧ Hid (Box2 wx q (.int .i64 rN) (.slice Aw rx.length cw)) ∧ Hid (wx.ownsRow w29.heap.size 5 1 (.slice Aw rx.length cw) rx.length (vb rx)) ∧ Hid (w29.heap.size ≤ q ∧ q < wx.heap.size))
            case first =>
              have szq31 : Hid (w.heap.size + 2 ≤ w29.heap.size) := Lib.hid (by have := sz_4.out; have := sz_9.out; have := sz_128.out; have := sz_132.out; have := sz_133.out; have := sz_140.out; have := sz_149.out; have := sz_151.out; have := sz_160.out; have := sz_171.out; have := sz_173.out; have := sz_185.out; have := sz_198.out; have := sz_200.out; have := sz_214.out; have := sz_228.out; have := sz_242.out; have := sz_254.out; have := sz_264.out; have := sz_274.out; have := sz_282.out; have := sz_293.out; omega)
              have hb : Below w29.heap.size w29 w29.drew := (Below.refl _ _).drew
              have R_294 := Lib.hid (Below.refl w29.heap.size w29)
              have B0_295 := Lib.hid (B0_286.out.below hb)
              clear B0_286
              have B1_296 := Lib.hid (B1_287.out.below hb)
              clear B1_287
              have H_297 := Lib.hid (s_chain H_288.out hb)
              clear H_288
              have R_298 := Lib.hid (s_chain R_294.out hb)
              clear R_294
              have sz_299 := Lib.hid (Below.size hb)
              clear hb
              refine wp_region_any (by kernel_rfl) ?_
              change wpAny _ _ _ _ _ _ _ (World.drew _)
              refine wpAny_of_held (S := fun W => W.cell? ⟨w.heap.size, 0, none⟩ = some (.int .i64 N0) ∧ W.cell? ⟨w.heap.size, 1, none⟩ = some (.slice A0 xs0.length c0) ∧ W.cell? ⟨w.heap.size + 1, 0, none⟩ = some (.int .i64 N1) ∧ W.cell? ⟨w.heap.size + 1, 1, none⟩ = some (.slice A1 xs1.length c1)) _ _ _ _ ?_
              generalize hDD : World.drew w29 = wd31 at B0_295 B1_296 H_297 R_298 sz_299 ⊢
              clear hDD
              refine wpAnyH_take (i := 0) (oi := ⟨_, _, _, _, _, _⟩) (v := .agg #[.int .i64 N0, .slice A0 xs0.length c0]) rfl (by kernel_rfl) (by kernel_rfl) (by kernel_rfl) (fun _ _ _ h => h) (Or.inl ⟨by kernel_rfl, fun W hS => by (obtain ⟨s0, s1, s2, s3⟩ := hS); go_simp⟩) ⟨(B0_295.out).c0, (B0_295.out).c1, (B1_296.out).c0, (B1_296.out).c1⟩ ?_
              (try simp only [Act.put, List.setIfInBounds_toArray, List.set_cons_zero, List.set_cons_succ])
              refine wpAnyH_take (i := 2) (oi := ⟨_, _, _, _, _, _⟩) (v := .agg #[.int .i64 N1, .slice A1 xs1.length c1]) rfl (by kernel_rfl) (by kernel_rfl) (by kernel_rfl) (fun _ _ _ h => h) (Or.inl ⟨by kernel_rfl, fun W hS => by (obtain ⟨s0, s1, s2, s3⟩ := hS); go_simp⟩) ⟨(B0_295.out).c0, (B0_295.out).c1, (B1_296.out).c0, (B1_296.out).c1⟩ ?_
              (try simp only [Act.put, List.setIfInBounds_toArray, List.set_cons_zero, List.set_cons_succ])
              refine wpAnyH_ready (rs := [1, 8]) (by kernel_rfl) (by simp) (AllReadyH.cons rfl (fun K hK => ?_) (AllReadyH.cons rfl (fun K hK => ?_) AllReadyH.nil))
              · skip
                go_simp
                go_at_call 25
                refine (CT0.out _ H_297.out).mono ?_
                rintro e w30 ⟨Ad0, cd0, rfl, ho, hb⟩
                have B0_300 := Lib.hid (B0_295.out.below hb)
                clear B0_295
                have B1_301 := Lib.hid (B1_296.out.below hb)
                clear B1_296
                have H_302 := Lib.hid (s_chain H_297.out hb)
                clear H_297
                have R_303 := Lib.hid (s_chain R_298.out hb)
                clear R_298
                have sz_304 := Lib.hid (Below.size hb)
                have D0_305 := Lib.hid (ho)
                dsimp only
                clear ho hb
                refine hK.out _ _ ⟨(B0_300.out).c0, (B0_300.out).c1, (B1_301.out).c0, (B1_301.out).c1⟩ (fun _ => ?_)
                clear hK K
                (try simp only [Act.put, List.setIfInBounds_toArray, List.set_cons_zero, List.set_cons_succ])
                refine wpAnyH_ready (rs := [3, 8]) (by kernel_rfl) (by simp) (AllReadyH.cons rfl (fun K hK => ?_) (AllReadyH.cons rfl (fun K hK => ?_) AllReadyH.nil))
                · skip
                  go_simp
                  go_at_call 25
                  refine (CT1.out _ H_302.out).mono ?_
                  rintro e w31 ⟨Ad1, cd1, rfl, ho, hb⟩
                  have B0_306 := Lib.hid (B0_300.out.below hb)
                  clear B0_300
                  have B1_307 := Lib.hid (B1_301.out.below hb)
                  clear B1_301
                  have H_308 := Lib.hid (s_chain H_302.out hb)
                  clear H_302
                  have R_309 := Lib.hid (s_chain R_303.out hb)
                  clear R_303
                  have D0_310 := Lib.hid (own_below D0_305.out hb)
                  clear D0_305
                  have sz_311 := Lib.hid (Below.size hb)
                  have D1_312 := Lib.hid (ho)
                  dsimp only
                  clear ho hb
                  refine hK.out _ _ ⟨(B0_306.out).c0, (B0_306.out).c1, (B1_307.out).c0, (B1_307.out).c1⟩ (fun _ => ?_)
                  clear hK K
                  (try simp only [Act.put, List.setIfInBounds_toArray, List.set_cons_zero, List.set_cons_succ])
                  refine wpAnyH_ready (rs := [4, 8]) (by kernel_rfl) (by simp) (AllReadyH.cons rfl (fun K hK => ?_) (AllReadyH.cons rfl (fun K hK => ?_) AllReadyH.nil))
                  · skip
                    go_simp
                    go_at_call 18
                    refine (CI.out _ H_308.out _ _ _ _ _ _ D0_310.out D1_312.out).mono ?_
                    rintro e w32 ⟨Aw, cw, rfl, ho, hb⟩
                    have sz_313 := Lib.hid (hb.size)
                    have B0_314 := Lib.hid (B0_306.out.below hb)
                    clear B0_306
                    have B1_315 := Lib.hid (B1_307.out.below hb)
                    clear B1_307
                    have H_316 := Lib.hid (s_chain H_308.out hb)
                    clear H_308
                    have R_317 := Lib.hid (s_chain R_309.out hb)
                    clear R_309
                    have D0_318 := Lib.hid (own_below D0_310.out hb)
                    clear D0_310
                    have D1_319 := Lib.hid (own_below D1_312.out hb)
                    clear D1_312
                    have sz_320 := Lib.hid (Below.size hb)
                    have O_321 := Lib.hid (own_monoG (lo' := w29.heap.size) ho (by have := szq31.out; have := sz_299.out; have := sz_304.out; have := sz_311.out; have := sz_313.out; have := sz_320.out; omega))
                    dsimp only
                    clear ho hb
                    refine hK.out _ _ ⟨(B0_314.out).c0, (B0_314.out).c1, (B1_315.out).c0, (B1_315.out).c1⟩ (fun _ => ?_)
                    clear hK K
                    (try simp only [Act.put, List.setIfInBounds_toArray, List.set_cons_zero, List.set_cons_succ])
                    refine wpAnyH_take (i := 5) (oi := ⟨_, _, _, _, _, _⟩) (v := .tuple #[.agg #[.int .i64 rN, .slice Aw rx.length cw], .bool rb]) rfl (by kernel_rfl) (by kernel_rfl) (by kernel_rfl) (fun _ _ _ h => h) (Or.inl ⟨by kernel_rfl, fun W hS => by (obtain ⟨s0, s1, s2, s3⟩ := hS); go_simp⟩) ⟨(B0_314.out).c0, (B0_314.out).c1, (B1_315.out).c0, (B1_315.out).c1⟩ ?_
                    (try simp only [Act.put, List.setIfInBounds_toArray, List.set_cons_zero, List.set_cons_succ])
                    refine wpAnyH_take (i := 6) (oi := ⟨_, _, _, _, _, _⟩) (v := .agg #[.int .i64 rN, .slice Aw rx.length cw]) rfl (by kernel_rfl) (by kernel_rfl) (by kernel_rfl) (fun _ _ _ h => h) (Or.inl ⟨by kernel_rfl, fun W hS => by (obtain ⟨s0, s1, s2, s3⟩ := hS); go_simp⟩) ⟨(B0_314.out).c0, (B0_314.out).c1, (B1_315.out).c0, (B1_315.out).c1⟩ ?_
                    (try simp only [Act.put, List.setIfInBounds_toArray, List.set_cons_zero, List.set_cons_succ])
                    refine wpAnyH_take (i := 7) (oi := ⟨_, _, _, _, _, _⟩) (v := .bool rb) rfl (by kernel_rfl) (by kernel_rfl) (by kernel_rfl) (fun _ _ _ h => h) (Or.inl ⟨by kernel_rfl, fun W hS => by (obtain ⟨s0, s1, s2, s3⟩ := hS); go_simp⟩) ⟨(B0_314.out).c0, (B0_314.out).c1, (B1_315.out).c0, (B1_315.out).c1⟩ ?_
                    (try simp only [Act.put, List.setIfInBounds_toArray, List.set_cons_zero, List.set_cons_succ])
                    refine wpAnyH_ready (rs := [8]) (by kernel_rfl) (by simp) (AllReadyH.cons rfl (fun K hK => ?_) AllReadyH.nil)
                    go_simp
                    have hb := below_a1 w32 (.cells #[.int .i64 0, .slice none 0 0] 24)
                    have B0_322 := Lib.hid (B0_314.out.below hb)
                    clear B0_314
                    have B1_323 := Lib.hid (B1_315.out.below hb)
                    clear B1_315
                    have H_324 := Lib.hid (s_chain H_316.out hb)
                    clear H_316
                    have R_325 := Lib.hid (s_chain R_317.out hb)
                    clear R_317
                    have D0_326 := Lib.hid (own_below D0_318.out hb)
                    clear D0_318
                    have D1_327 := Lib.hid (own_below D1_319.out hb)
                    clear D1_319
                    have O_328 := Lib.hid (own_below O_321.out hb)
                    clear O_321
                    have sz_329 := Lib.hid (Below.size hb)
                    have Z_330 := Lib.hid (SBx.new w32 0 none 0 0)
                    have sz_331 : Hid (w32.heap.size + 1 ≤ (w32.alloc (.cells #[.int .i64 0, .slice none 0 0] 24)).heap.size) := Lib.hid (by simp)
                    have hq := Lib.hid (rfl : w32.heap.size = w32.heap.size)
                    clear hb hq
                    generalize hZZ : w32.alloc (.cells #[.int .i64 0, .slice none 0 0] 24) = w33 at B0_322 B1_323 H_324 R_325 D0_326 D1_327 O_328 Z_330 sz_329 sz_331 ⊢
                    clear hZZ
                    refine hK.out _ _ ⟨(B0_322.out).c0, (B0_322.out).c1, (B1_323.out).c0, (B1_323.out).c1⟩ (fun _ => ?_)
                    clear hK K
                    (try simp only [Act.put, List.setIfInBounds_toArray, List.set_cons_zero, List.set_cons_succ])
                    refine wpAnyH_ready (rs := [9]) (by kernel_rfl) (by simp) (AllReadyH.cons rfl (fun K hK => ?_) AllReadyH.nil)
                    obtain ⟨z0, z1, z2, z3, z4⟩ := SBx.parts (Z_330.out)
                    go_simp
                    have hqq : w.heap.size + 2 ≤ w32.heap.size := by have := szq31.out; have := sz_299.out; have := sz_304.out; have := sz_311.out; have := sz_313.out; have := sz_320.out; have := sz_329.out; have := sz_331.out; omega
                    have E0 : Box2 ((w33.setCell ⟨w32.heap.size, 0, none⟩ (.int .i64 rN)).setCell ⟨w32.heap.size, 1, none⟩ (.slice Aw rx.length cw)) w.heap.size (.int .i64 N0) (.slice A0 xs0.length c0) := box_set2 (B0_322.out) (by omega) _ _
                    have E1 : Box2 ((w33.setCell ⟨w32.heap.size, 0, none⟩ (.int .i64 rN)).setCell ⟨w32.heap.size, 1, none⟩ (.slice Aw rx.length cw)) (w.heap.size + 1) (.int .i64 N1) (.slice A1 xs1.length c1) := box_set2 (B1_323.out) (by omega) _ _
                    refine hK.out _ _ ⟨E0.c0, E0.c1, E1.c0, E1.c1⟩ (fun _ => ?_)
                    clear hK K
                    (try simp only [Act.put, List.setIfInBounds_toArray, List.set_cons_zero, List.set_cons_succ])
                    refine wpAnyH_take (i := 10) (oi := ⟨_, _, _, _, _, _⟩) (v := .bool rb) rfl (by kernel_rfl) (by kernel_rfl) (by kernel_rfl) (fun _ _ _ h => h) (Or.inl ⟨by kernel_rfl, fun W hS => by go_simp⟩) ⟨E0.c0, E0.c1, E1.c0, E1.c1⟩ ?_
                    (try simp only [Act.put, List.setIfInBounds_toArray, List.set_cons_zero, List.set_cons_succ])
                    refine wpAnyH_done (by kernel_rfl) ?_ _
                    go_wp2_with fail
                    go_meet
                    exact ⟨w32.heap.size, Aw, cw, rfl, rfl, Lib.hid (below_set2 (R_325.out) (by have := szq31.out; have := sz_299.out; have := sz_304.out; have := sz_311.out; have := sz_313.out; have := sz_320.out; have := sz_329.out; have := sz_331.out; omega) _ _), Lib.hid (SBx.box ((Z_330.out).set rN Aw rx.length cw)), Lib.hid (own_apart2 (O_328.out) (set_type (O_328.out) (Z_330.out)) _ _), Lib.hid ⟨(by have := szq31.out; have := sz_299.out; have := sz_304.out; have := sz_311.out; have := sz_313.out; have := sz_320.out; have := sz_329.out; have := sz_331.out; omega), by simp; exact z0⟩⟩
                  · skip
                    go_simp
                    have hb := below_a1 w31 (.cells #[.int .i64 0, .slice none 0 0] 24)
                    have B0_332 := Lib.hid (B0_306.out.below hb)
                    clear B0_306
                    have B1_333 := Lib.hid (B1_307.out.below hb)
                    clear B1_307
                    have H_334 := Lib.hid (s_chain H_308.out hb)
                    clear H_308
                    have R_335 := Lib.hid (s_chain R_309.out hb)
                    clear R_309
                    have D0_336 := Lib.hid (own_below D0_310.out hb)
                    clear D0_310
                    have D1_337 := Lib.hid (own_below D1_312.out hb)
                    clear D1_312
                    have sz_338 := Lib.hid (Below.size hb)
                    have Z_339 := Lib.hid (SBx.new w31 0 none 0 0)
                    have sz_340 : Hid (w31.heap.size + 1 ≤ (w31.alloc (.cells #[.int .i64 0, .slice none 0 0] 24)).heap.size) := Lib.hid (by simp)
                    have hq := Lib.hid (rfl : w31.heap.size = w31.heap.size)
                    clear hb hq
                    generalize hZZ : w31.alloc (.cells #[.int .i64 0, .slice none 0 0] 24) = w34 at B0_332 B1_333 H_334 R_335 D0_336 D1_337 Z_339 sz_338 sz_340 ⊢
                    clear hZZ
                    refine hK.out _ _ ⟨(B0_332.out).c0, (B0_332.out).c1, (B1_333.out).c0, (B1_333.out).c1⟩ (fun _ => ?_)
                    clear hK K
                    (try simp only [Act.put, List.setIfInBounds_toArray, List.set_cons_zero, List.set_cons_succ])
                    refine wpAnyH_ready (rs := [4]) (by kernel_rfl) (by simp) (AllReadyH.cons rfl (fun K hK => ?_) AllReadyH.nil)
                    go_simp
                    go_at_call 18
                    refine (CI.out _ H_334.out _ _ _ _ _ _ D0_336.out D1_337.out).mono ?_
                    rintro e w35 ⟨Aw, cw, rfl, ho, hb⟩
                    have sz_341 := Lib.hid (hb.size)
                    have B0_342 := Lib.hid (B0_332.out.below hb)
                    clear B0_332
                    have B1_343 := Lib.hid (B1_333.out.below hb)
                    clear B1_333
                    have H_344 := Lib.hid (s_chain H_334.out hb)
                    clear H_334
                    have R_345 := Lib.hid (s_chain R_335.out hb)
                    clear R_335
                    have D0_346 := Lib.hid (own_below D0_336.out hb)
                    clear D0_336
                    have D1_347 := Lib.hid (own_below D1_337.out hb)
                    clear D1_337
                    have Z_348 := Lib.hid (Z_339.out.below hb)
                    clear Z_339
                    have sz_349 := Lib.hid (Below.size hb)
                    have O_350 := Lib.hid (own_monoG (lo' := w29.heap.size) ho (by have := szq31.out; have := sz_299.out; have := sz_304.out; have := sz_311.out; have := sz_338.out; have := sz_340.out; have := sz_341.out; have := sz_349.out; omega))
                    dsimp only
                    clear ho hb
                    refine hK.out _ _ ⟨(B0_342.out).c0, (B0_342.out).c1, (B1_343.out).c0, (B1_343.out).c1⟩ (fun _ => ?_)
                    clear hK K
                    (try simp only [Act.put, List.setIfInBounds_toArray, List.set_cons_zero, List.set_cons_succ])
                    refine wpAnyH_take (i := 5) (oi := ⟨_, _, _, _, _, _⟩) (v := .tuple #[.agg #[.int .i64 rN, .slice Aw rx.length cw], .bool rb]) rfl (by kernel_rfl) (by kernel_rfl) (by kernel_rfl) (fun _ _ _ h => h) (Or.inl ⟨by kernel_rfl, fun W hS => by (obtain ⟨s0, s1, s2, s3⟩ := hS); go_simp⟩) ⟨(B0_342.out).c0, (B0_342.out).c1, (B1_343.out).c0, (B1_343.out).c1⟩ ?_
                    (try simp only [Act.put, List.setIfInBounds_toArray, List.set_cons_zero, List.set_cons_succ])
                    refine wpAnyH_take (i := 6) (oi := ⟨_, _, _, _, _, _⟩) (v := .agg #[.int .i64 rN, .slice Aw rx.length cw]) rfl (by kernel_rfl) (by kernel_rfl) (by kernel_rfl) (fun _ _ _ h => h) (Or.inl ⟨by kernel_rfl, fun W hS => by (obtain ⟨s0, s1, s2, s3⟩ := hS); go_simp⟩) ⟨(B0_342.out).c0, (B0_342.out).c1, (B1_343.out).c0, (B1_343.out).c1⟩ ?_
                    (try simp only [Act.put, List.setIfInBounds_toArray, List.set_cons_zero, List.set_cons_succ])
                    refine wpAnyH_take (i := 7) (oi := ⟨_, _, _, _, _, _⟩) (v := .bool rb) rfl (by kernel_rfl) (by kernel_rfl) (by kernel_rfl) (fun _ _ _ h => h) (Or.inl ⟨by kernel_rfl, fun W hS => by (obtain ⟨s0, s1, s2, s3⟩ := hS); go_simp⟩) ⟨(B0_342.out).c0, (B0_342.out).c1, (B1_343.out).c0, (B1_343.out).c1⟩ ?_
                    (try simp only [Act.put, List.setIfInBounds_toArray, List.set_cons_zero, List.set_cons_succ])
                    refine wpAnyH_ready (rs := [9]) (by kernel_rfl) (by simp) (AllReadyH.cons rfl (fun K hK => ?_) AllReadyH.nil)
                    obtain ⟨z0, z1, z2, z3, z4⟩ := SBx.parts (Z_348.out)
                    go_simp
                    have hqq : w.heap.size + 2 ≤ w31.heap.size := by have := szq31.out; have := sz_299.out; have := sz_304.out; have := sz_311.out; have := sz_338.out; have := sz_340.out; have := sz_341.out; have := sz_349.out; omega
                    have E0 : Box2 ((w35.setCell ⟨w31.heap.size, 0, none⟩ (.int .i64 rN)).setCell ⟨w31.heap.size, 1, none⟩ (.slice Aw rx.length cw)) w.heap.size (.int .i64 N0) (.slice A0 xs0.length c0) := box_set2 (B0_342.out) (by omega) _ _
                    have E1 : Box2 ((w35.setCell ⟨w31.heap.size, 0, none⟩ (.int .i64 rN)).setCell ⟨w31.heap.size, 1, none⟩ (.slice Aw rx.length cw)) (w.heap.size + 1) (.int .i64 N1) (.slice A1 xs1.length c1) := box_set2 (B1_343.out) (by omega) _ _
                    refine hK.out _ _ ⟨E0.c0, E0.c1, E1.c0, E1.c1⟩ (fun _ => ?_)
                    clear hK K
                    (try simp only [Act.put, List.setIfInBounds_toArray, List.set_cons_zero, List.set_cons_succ])
                    refine wpAnyH_take (i := 10) (oi := ⟨_, _, _, _, _, _⟩) (v := .bool rb) rfl (by kernel_rfl) (by kernel_rfl) (by kernel_rfl) (fun _ _ _ h => h) (Or.inl ⟨by kernel_rfl, fun W hS => by go_simp⟩) ⟨E0.c0, E0.c1, E1.c0, E1.c1⟩ ?_
                    (try simp only [Act.put, List.setIfInBounds_toArray, List.set_cons_zero, List.set_cons_succ])
                    refine wpAnyH_done (by kernel_rfl) ?_ _
                    go_wp2_with fail
                    go_meet
                    exact ⟨w31.heap.size, Aw, cw, rfl, rfl, Lib.hid (below_set2 (R_345.out) (by have := szq31.out; have := sz_299.out; have := sz_304.out; have := sz_311.out; have := sz_338.out; have := sz_340.out; have := sz_341.out; have := sz_349.out; omega) _ _), Lib.hid (SBx.box ((Z_348.out).set rN Aw rx.length cw)), Lib.hid (own_apart2 (O_350.out) (set_type (O_350.out) (Z_348.out)) _ _), Lib.hid ⟨(by have := szq31.out; have := sz_299.out; have := sz_304.out; have := sz_311.out; have := sz_338.out; have := sz_340.out; have := sz_341.out; have := sz_349.out; omega), by simp; exact z0⟩⟩
                · skip
                  go_simp
                  have hb := below_a1 w30 (.cells #[.int .i64 0, .slice none 0 0] 24)
                  have B0_351 := Lib.hid (B0_300.out.below hb)
                  clear B0_300
                  have B1_352 := Lib.hid (B1_301.out.below hb)
                  clear B1_301
                  have H_353 := Lib.hid (s_chain H_302.out hb)
                  clear H_302
                  have R_354 := Lib.hid (s_chain R_303.out hb)
                  clear R_303
                  have D0_355 := Lib.hid (own_below D0_305.out hb)
                  clear D0_305
                  have sz_356 := Lib.hid (Below.size hb)
                  have Z_357 := Lib.hid (SBx.new w30 0 none 0 0)
                  have sz_358 : Hid (w30.heap.size + 1 ≤ (w30.alloc (.cells #[.int .i64 0, .slice none 0 0] 24)).heap.size) := Lib.hid (by simp)
                  have hq := Lib.hid (rfl : w30.heap.size = w30.heap.size)
                  clear hb hq
                  generalize hZZ : w30.alloc (.cells #[.int .i64 0, .slice none 0 0] 24) = w36 at B0_351 B1_352 H_353 R_354 D0_355 Z_357 sz_356 sz_358 ⊢
                  clear hZZ
                  refine hK.out _ _ ⟨(B0_351.out).c0, (B0_351.out).c1, (B1_352.out).c0, (B1_352.out).c1⟩ (fun _ => ?_)
                  clear hK K
                  (try simp only [Act.put, List.setIfInBounds_toArray, List.set_cons_zero, List.set_cons_succ])
                  refine wpAnyH_ready (rs := [3]) (by kernel_rfl) (by simp) (AllReadyH.cons rfl (fun K hK => ?_) AllReadyH.nil)
                  go_simp
                  go_at_call 25
                  refine (CT1.out _ H_353.out).mono ?_
                  rintro e w37 ⟨Ad1, cd1, rfl, ho, hb⟩
                  have B0_359 := Lib.hid (B0_351.out.below hb)
                  clear B0_351
                  have B1_360 := Lib.hid (B1_352.out.below hb)
                  clear B1_352
                  have H_361 := Lib.hid (s_chain H_353.out hb)
                  clear H_353
                  have R_362 := Lib.hid (s_chain R_354.out hb)
                  clear R_354
                  have D0_363 := Lib.hid (own_below D0_355.out hb)
                  clear D0_355
                  have Z_364 := Lib.hid (Z_357.out.below hb)
                  clear Z_357
                  have sz_365 := Lib.hid (Below.size hb)
                  have D1_366 := Lib.hid (ho)
                  dsimp only
                  clear ho hb
                  refine hK.out _ _ ⟨(B0_359.out).c0, (B0_359.out).c1, (B1_360.out).c0, (B1_360.out).c1⟩ (fun _ => ?_)
                  clear hK K
                  (try simp only [Act.put, List.setIfInBounds_toArray, List.set_cons_zero, List.set_cons_succ])
                  refine wpAnyH_ready (rs := [4]) (by kernel_rfl) (by simp) (AllReadyH.cons rfl (fun K hK => ?_) AllReadyH.nil)
                  go_simp
                  go_at_call 18
                  refine (CI.out _ H_361.out _ _ _ _ _ _ D0_363.out D1_366.out).mono ?_
                  rintro e w38 ⟨Aw, cw, rfl, ho, hb⟩
                  have sz_367 := Lib.hid (hb.size)
                  have B0_368 := Lib.hid (B0_359.out.below hb)
                  clear B0_359
                  have B1_369 := Lib.hid (B1_360.out.below hb)
                  clear B1_360
                  have H_370 := Lib.hid (s_chain H_361.out hb)
                  clear H_361
                  have R_371 := Lib.hid (s_chain R_362.out hb)
                  clear R_362
                  have D0_372 := Lib.hid (own_below D0_363.out hb)
                  clear D0_363
                  have Z_373 := Lib.hid (Z_364.out.below hb)
                  clear Z_364
                  have D1_374 := Lib.hid (own_below D1_366.out hb)
                  clear D1_366
                  have sz_375 := Lib.hid (Below.size hb)
                  have O_376 := Lib.hid (own_monoG (lo' := w29.heap.size) ho (by have := szq31.out; have := sz_299.out; have := sz_304.out; have := sz_356.out; have := sz_358.out; have := sz_365.out; have := sz_367.out; have := sz_375.out; omega))
                  dsimp only
                  clear ho hb
                  refine hK.out _ _ ⟨(B0_368.out).c0, (B0_368.out).c1, (B1_369.out).c0, (B1_369.out).c1⟩ (fun _ => ?_)
                  clear hK K
                  (try simp only [Act.put, List.setIfInBounds_toArray, List.set_cons_zero, List.set_cons_succ])
                  refine wpAnyH_take (i := 5) (oi := ⟨_, _, _, _, _, _⟩) (v := .tuple #[.agg #[.int .i64 rN, .slice Aw rx.length cw], .bool rb]) rfl (by kernel_rfl) (by kernel_rfl) (by kernel_rfl) (fun _ _ _ h => h) (Or.inl ⟨by kernel_rfl, fun W hS => by (obtain ⟨s0, s1, s2, s3⟩ := hS); go_simp⟩) ⟨(B0_368.out).c0, (B0_368.out).c1, (B1_369.out).c0, (B1_369.out).c1⟩ ?_
                  (try simp only [Act.put, List.setIfInBounds_toArray, List.set_cons_zero, List.set_cons_succ])
                  refine wpAnyH_take (i := 6) (oi := ⟨_, _, _, _, _, _⟩) (v := .agg #[.int .i64 rN, .slice Aw rx.length cw]) rfl (by kernel_rfl) (by kernel_rfl) (by kernel_rfl) (fun _ _ _ h => h) (Or.inl ⟨by kernel_rfl, fun W hS => by (obtain ⟨s0, s1, s2, s3⟩ := hS); go_simp⟩) ⟨(B0_368.out).c0, (B0_368.out).c1, (B1_369.out).c0, (B1_369.out).c1⟩ ?_
                  (try simp only [Act.put, List.setIfInBounds_toArray, List.set_cons_zero, List.set_cons_succ])
                  refine wpAnyH_take (i := 7) (oi := ⟨_, _, _, _, _, _⟩) (v := .bool rb) rfl (by kernel_rfl) (by kernel_rfl) (by kernel_rfl) (fun _ _ _ h => h) (Or.inl ⟨by kernel_rfl, fun W hS => by (obtain ⟨s0, s1, s2, s3⟩ := hS); go_simp⟩) ⟨(B0_368.out).c0, (B0_368.out).c1, (B1_369.out).c0, (B1_369.out).c1⟩ ?_
                  (try simp only [Act.put, List.setIfInBounds_toArray, List.set_cons_zero, List.set_cons_succ])
                  refine wpAnyH_ready (rs := [9]) (by kernel_rfl) (by simp) (AllReadyH.cons rfl (fun K hK => ?_) AllReadyH.nil)
                  obtain ⟨z0, z1, z2, z3, z4⟩ := SBx.parts (Z_373.out)
                  go_simp
                  have hqq : w.heap.size + 2 ≤ w30.heap.size := by have := szq31.out; have := sz_299.out; have := sz_304.out; have := sz_356.out; have := sz_358.out; have := sz_365.out; have := sz_367.out; have := sz_375.out; omega
                  have E0 : Box2 ((w38.setCell ⟨w30.heap.size, 0, none⟩ (.int .i64 rN)).setCell ⟨w30.heap.size, 1, none⟩ (.slice Aw rx.length cw)) w.heap.size (.int .i64 N0) (.slice A0 xs0.length c0) := box_set2 (B0_368.out) (by omega) _ _
                  have E1 : Box2 ((w38.setCell ⟨w30.heap.size, 0, none⟩ (.int .i64 rN)).setCell ⟨w30.heap.size, 1, none⟩ (.slice Aw rx.length cw)) (w.heap.size + 1) (.int .i64 N1) (.slice A1 xs1.length c1) := box_set2 (B1_369.out) (by omega) _ _
                  refine hK.out _ _ ⟨E0.c0, E0.c1, E1.c0, E1.c1⟩ (fun _ => ?_)
                  clear hK K
                  (try simp only [Act.put, List.setIfInBounds_toArray, List.set_cons_zero, List.set_cons_succ])
                  refine wpAnyH_take (i := 10) (oi := ⟨_, _, _, _, _, _⟩) (v := .bool rb) rfl (by kernel_rfl) (by kernel_rfl) (by kernel_rfl) (fun _ _ _ h => h) (Or.inl ⟨by kernel_rfl, fun W hS => by go_simp⟩) ⟨E0.c0, E0.c1, E1.c0, E1.c1⟩ ?_
                  (try simp only [Act.put, List.setIfInBounds_toArray, List.set_cons_zero, List.set_cons_succ])
                  refine wpAnyH_done (by kernel_rfl) ?_ _
                  go_wp2_with fail
                  go_meet
                  exact ⟨w30.heap.size, Aw, cw, rfl, rfl, Lib.hid (below_set2 (R_371.out) (by have := szq31.out; have := sz_299.out; have := sz_304.out; have := sz_356.out; have := sz_358.out; have := sz_365.out; have := sz_367.out; have := sz_375.out; omega) _ _), Lib.hid (SBx.box ((Z_373.out).set rN Aw rx.length cw)), Lib.hid (own_apart2 (O_376.out) (set_type (O_376.out) (Z_373.out)) _ _), Lib.hid ⟨(by have := szq31.out; have := sz_299.out; have := sz_304.out; have := sz_356.out; have := sz_358.out; have := sz_365.out; have := sz_367.out; have := sz_375.out; omega), by simp; exact z0⟩⟩
              · skip
                go_simp
                have hb := below_a1 wd31 (.cells #[.int .i64 0, .slice none 0 0] 24)
                have B0_377 := Lib.hid (B0_295.out.below hb)
                clear B0_295
                have B1_378 := Lib.hid (B1_296.out.below hb)
                clear B1_296
                have H_379 := Lib.hid (s_chain H_297.out hb)
                clear H_297
                have R_380 := Lib.hid (s_chain R_298.out hb)
                clear R_298
                have sz_381 := Lib.hid (Below.size hb)
                have Z_382 := Lib.hid (SBx.new wd31 0 none 0 0)
                have sz_383 : Hid (wd31.heap.size + 1 ≤ (wd31.alloc (.cells #[.int .i64 0, .slice none 0 0] 24)).heap.size) := Lib.hid (by simp)
                have hq := Lib.hid (rfl : wd31.heap.size = wd31.heap.size)
                clear hb hq
                generalize hZZ : wd31.alloc (.cells #[.int .i64 0, .slice none 0 0] 24) = w39 at B0_377 B1_378 H_379 R_380 Z_382 sz_381 sz_383 ⊢
                clear hZZ
                refine hK.out _ _ ⟨(B0_377.out).c0, (B0_377.out).c1, (B1_378.out).c0, (B1_378.out).c1⟩ (fun _ => ?_)
                clear hK K
                (try simp only [Act.put, List.setIfInBounds_toArray, List.set_cons_zero, List.set_cons_succ])
                refine wpAnyH_ready (rs := [1]) (by kernel_rfl) (by simp) (AllReadyH.cons rfl (fun K hK => ?_) AllReadyH.nil)
                go_simp
                go_at_call 25
                refine (CT0.out _ H_379.out).mono ?_
                rintro e w40 ⟨Ad0, cd0, rfl, ho, hb⟩
                have B0_384 := Lib.hid (B0_377.out.below hb)
                clear B0_377
                have B1_385 := Lib.hid (B1_378.out.below hb)
                clear B1_378
                have H_386 := Lib.hid (s_chain H_379.out hb)
                clear H_379
                have R_387 := Lib.hid (s_chain R_380.out hb)
                clear R_380
                have Z_388 := Lib.hid (Z_382.out.below hb)
                clear Z_382
                have sz_389 := Lib.hid (Below.size hb)
                have D0_390 := Lib.hid (ho)
                dsimp only
                clear ho hb
                refine hK.out _ _ ⟨(B0_384.out).c0, (B0_384.out).c1, (B1_385.out).c0, (B1_385.out).c1⟩ (fun _ => ?_)
                clear hK K
                (try simp only [Act.put, List.setIfInBounds_toArray, List.set_cons_zero, List.set_cons_succ])
                refine wpAnyH_ready (rs := [3]) (by kernel_rfl) (by simp) (AllReadyH.cons rfl (fun K hK => ?_) AllReadyH.nil)
                go_simp
                go_at_call 25
                refine (CT1.out _ H_386.out).mono ?_
                rintro e w41 ⟨Ad1, cd1, rfl, ho, hb⟩
                have B0_391 := Lib.hid (B0_384.out.below hb)
                clear B0_384
                have B1_392 := Lib.hid (B1_385.out.below hb)
                clear B1_385
                have H_393 := Lib.hid (s_chain H_386.out hb)
                clear H_386
                have R_394 := Lib.hid (s_chain R_387.out hb)
                clear R_387
                have Z_395 := Lib.hid (Z_388.out.below hb)
                clear Z_388
                have D0_396 := Lib.hid (own_below D0_390.out hb)
                clear D0_390
                have sz_397 := Lib.hid (Below.size hb)
                have D1_398 := Lib.hid (ho)
                dsimp only
                clear ho hb
                refine hK.out _ _ ⟨(B0_391.out).c0, (B0_391.out).c1, (B1_392.out).c0, (B1_392.out).c1⟩ (fun _ => ?_)
                clear hK K
                (try simp only [Act.put, List.setIfInBounds_toArray, List.set_cons_zero, List.set_cons_succ])
                refine wpAnyH_ready (rs := [4]) (by kernel_rfl) (by simp) (AllReadyH.cons rfl (fun K hK => ?_) AllReadyH.nil)
                go_simp
                go_at_call 18
                refine (CI.out _ H_393.out _ _ _ _ _ _ D0_396.out D1_398.out).mono ?_
                rintro e w42 ⟨Aw, cw, rfl, ho, hb⟩
                have sz_399 := Lib.hid (hb.size)
                have B0_400 := Lib.hid (B0_391.out.below hb)
                clear B0_391
                have B1_401 := Lib.hid (B1_392.out.below hb)
                clear B1_392
                have H_402 := Lib.hid (s_chain H_393.out hb)
                clear H_393
                have R_403 := Lib.hid (s_chain R_394.out hb)
                clear R_394
                have Z_404 := Lib.hid (Z_395.out.below hb)
                clear Z_395
                have D0_405 := Lib.hid (own_below D0_396.out hb)
                clear D0_396
                have D1_406 := Lib.hid (own_below D1_398.out hb)
                clear D1_398
                have sz_407 := Lib.hid (Below.size hb)
                have O_408 := Lib.hid (own_monoG (lo' := w29.heap.size) ho (by have := szq31.out; have := sz_299.out; have := sz_381.out; have := sz_383.out; have := sz_389.out; have := sz_397.out; have := sz_399.out; have := sz_407.out; omega))
                dsimp only
                clear ho hb
                refine hK.out _ _ ⟨(B0_400.out).c0, (B0_400.out).c1, (B1_401.out).c0, (B1_401.out).c1⟩ (fun _ => ?_)
                clear hK K
                (try simp only [Act.put, List.setIfInBounds_toArray, List.set_cons_zero, List.set_cons_succ])
                refine wpAnyH_take (i := 5) (oi := ⟨_, _, _, _, _, _⟩) (v := .tuple #[.agg #[.int .i64 rN, .slice Aw rx.length cw], .bool rb]) rfl (by kernel_rfl) (by kernel_rfl) (by kernel_rfl) (fun _ _ _ h => h) (Or.inl ⟨by kernel_rfl, fun W hS => by (obtain ⟨s0, s1, s2, s3⟩ := hS); go_simp⟩) ⟨(B0_400.out).c0, (B0_400.out).c1, (B1_401.out).c0, (B1_401.out).c1⟩ ?_
                (try simp only [Act.put, List.setIfInBounds_toArray, List.set_cons_zero, List.set_cons_succ])
                refine wpAnyH_take (i := 6) (oi := ⟨_, _, _, _, _, _⟩) (v := .agg #[.int .i64 rN, .slice Aw rx.length cw]) rfl (by kernel_rfl) (by kernel_rfl) (by kernel_rfl) (fun _ _ _ h => h) (Or.inl ⟨by kernel_rfl, fun W hS => by (obtain ⟨s0, s1, s2, s3⟩ := hS); go_simp⟩) ⟨(B0_400.out).c0, (B0_400.out).c1, (B1_401.out).c0, (B1_401.out).c1⟩ ?_
                (try simp only [Act.put, List.setIfInBounds_toArray, List.set_cons_zero, List.set_cons_succ])
                refine wpAnyH_take (i := 7) (oi := ⟨_, _, _, _, _, _⟩) (v := .bool rb) rfl (by kernel_rfl) (by kernel_rfl) (by kernel_rfl) (fun _ _ _ h => h) (Or.inl ⟨by kernel_rfl, fun W hS => by (obtain ⟨s0, s1, s2, s3⟩ := hS); go_simp⟩) ⟨(B0_400.out).c0, (B0_400.out).c1, (B1_401.out).c0, (B1_401.out).c1⟩ ?_
                (try simp only [Act.put, List.setIfInBounds_toArray, List.set_cons_zero, List.set_cons_succ])
                refine wpAnyH_ready (rs := [9]) (by kernel_rfl) (by simp) (AllReadyH.cons rfl (fun K hK => ?_) AllReadyH.nil)
                obtain ⟨z0, z1, z2, z3, z4⟩ := SBx.parts (Z_404.out)
                go_simp
                have hqq : w.heap.size + 2 ≤ wd31.heap.size := by have := szq31.out; have := sz_299.out; have := sz_381.out; have := sz_383.out; have := sz_389.out; have := sz_397.out; have := sz_399.out; have := sz_407.out; omega
                have E0 : Box2 ((w42.setCell ⟨wd31.heap.size, 0, none⟩ (.int .i64 rN)).setCell ⟨wd31.heap.size, 1, none⟩ (.slice Aw rx.length cw)) w.heap.size (.int .i64 N0) (.slice A0 xs0.length c0) := box_set2 (B0_400.out) (by omega) _ _
                have E1 : Box2 ((w42.setCell ⟨wd31.heap.size, 0, none⟩ (.int .i64 rN)).setCell ⟨wd31.heap.size, 1, none⟩ (.slice Aw rx.length cw)) (w.heap.size + 1) (.int .i64 N1) (.slice A1 xs1.length c1) := box_set2 (B1_401.out) (by omega) _ _
                refine hK.out _ _ ⟨E0.c0, E0.c1, E1.c0, E1.c1⟩ (fun _ => ?_)
                clear hK K
                (try simp only [Act.put, List.setIfInBounds_toArray, List.set_cons_zero, List.set_cons_succ])
                refine wpAnyH_take (i := 10) (oi := ⟨_, _, _, _, _, _⟩) (v := .bool rb) rfl (by kernel_rfl) (by kernel_rfl) (by kernel_rfl) (fun _ _ _ h => h) (Or.inl ⟨by kernel_rfl, fun W hS => by go_simp⟩) ⟨E0.c0, E0.c1, E1.c0, E1.c1⟩ ?_
                (try simp only [Act.put, List.setIfInBounds_toArray, List.set_cons_zero, List.set_cons_succ])
                refine wpAnyH_done (by kernel_rfl) ?_ _
                go_wp2_with fail
                go_meet
                exact ⟨wd31.heap.size, Aw, cw, rfl, rfl, Lib.hid (below_set2 (R_403.out) (by have := szq31.out; have := sz_299.out; have := sz_381.out; have := sz_383.out; have := sz_389.out; have := sz_397.out; have := sz_399.out; have := sz_407.out; omega) _ _), Lib.hid (SBx.box ((Z_404.out).set rN Aw rx.length cw)), Lib.hid (own_apart2 (O_408.out) (set_type (O_408.out) (Z_404.out)) _ _), Lib.hid ⟨(by have := szq31.out; have := sz_299.out; have := sz_381.out; have := sz_383.out; have := sz_389.out; have := sz_397.out; have := sz_399.out; have := sz_407.out; omega), by simp; exact z0⟩⟩
            case rest =>
              rename World => w43
              obtain ⟨qh, Ah, ch, rfl, rfl, hb, hx, ho, hq⟩ := hcut
              have B0_409 := Lib.hid (B0_286.out.below hb.out)
              clear B0_286
              have B1_410 := Lib.hid (B1_287.out.below hb.out)
              clear B1_287
              have H_411 := Lib.hid (s_chain H_288.out hb.out)
              clear H_288
              have Gw_412 := Lib.hid (own_below Gw_289.out hb.out)
              clear Gw_289
              have GBw_413 := Lib.hid (GBw_290.out.below hb.out)
              clear GBw_290
              have GBg_414 := Lib.hid (GBg_291.out.below hb.out)
              clear GBg_291
              have M_415 := Lib.hid (own_below M_292.out hb.out)
              clear M_292
              have sz_416 := Lib.hid (Below.size hb.out)
              have RG_417 := Lib.hid ho.out.lt
              have Gh_418 := Lib.hid (ho.out)
              have GBh_419 := Lib.hid (hx.out)
              have sz_420 := Lib.hid (hq.out.1)
              have sz_421 := Lib.hid (hq.out.2)
              clear hb hx ho hq
              obtain ⟨l_422, l_422a, l_422b⟩ := GBh_419.out
              obtain ⟨l_423, l_423a, l_423b⟩ := GBw_413.out
              go_wp2_with fail
              refine (CV.out _ _ _ _ _ _ _ Gh_418.out Gw_412.out).mono ?_
              rintro e w44 ⟨rfl, hb⟩
              clear l_422 l_422a l_422b
              clear l_423 l_423a l_423b
              have B0_424 := Lib.hid (B0_409.out.below hb)
              clear B0_409
              have B1_425 := Lib.hid (B1_410.out.below hb)
              clear B1_410
              have H_426 := Lib.hid (s_chain H_411.out hb)
              clear H_411
              have Gw_427 := Lib.hid (own_below Gw_412.out hb)
              clear Gw_412
              have GBw_428 := Lib.hid (GBw_413.out.below hb)
              clear GBw_413
              have GBg_429 := Lib.hid (GBg_414.out.below hb)
              clear GBg_414
              have M_430 := Lib.hid (own_below M_415.out hb)
              clear M_415
              have Gh_431 := Lib.hid (own_below Gh_418.out hb)
              clear Gh_418
              have GBh_432 := Lib.hid (GBh_419.out.below hb)
              clear GBh_419
              have sz_433 := Lib.hid (Below.size hb)
              clear hb
              obtain ⟨l_434, l_434a, l_434b⟩ := GBg_429.out
              go_wp2_with fail
              refine (CH.out _ _ _ _ M_430.out).mono ?_
              rintro e w45 ⟨rfl, hb⟩
              clear l_434 l_434a l_434b
              have B0_435 := Lib.hid (B0_424.out.below hb)
              clear B0_424
              have B1_436 := Lib.hid (B1_425.out.below hb)
              clear B1_425
              have H_437 := Lib.hid (s_chain H_426.out hb)
              clear H_426
              have Gw_438 := Lib.hid (own_below Gw_427.out hb)
              clear Gw_427
              have GBw_439 := Lib.hid (GBw_428.out.below hb)
              clear GBw_428
              have GBg_440 := Lib.hid (GBg_429.out.below hb)
              clear GBg_429
              have M_441 := Lib.hid (own_below M_430.out hb)
              clear M_430
              have Gh_442 := Lib.hid (own_below Gh_431.out hb)
              clear Gh_431
              have GBh_443 := Lib.hid (GBh_432.out.below hb)
              clear GBh_432
              have sz_444 := Lib.hid (Below.size hb)
              clear hb
              go_wp2
              go_ret
              exact ⟨rfl, H_437.out⟩
    · rw [leftN_neg (by omega)] at CZ1
      clear hin0 hin1 hb0 hb1 hw
      have BB1 := Lib.hid (Box2.new1 w (.cells #[.int .i64 N0, .slice A0 xs0.length c0] 36) (.int .i64 N1) (.slice A1 xs1.length c1) 36)
      go_enter Tryd.func10, Tryd.ntmps10
      go_wp2_with fail
      refine (CZ0.out _).mono ?_
      rintro e wa ⟨rfl, hba⟩
      have BC1 := Lib.hid (BB1.out.below hba)
      have HBA := Lib.hid (s_chain (below_a2 w _ _) hba)
      clear hba
      obtain ⟨l1, l1a, l1b⟩ := BC1.out
      go_wp2_with fail
      refine (CZ1.out _).mono ?_
      rintro e wb ⟨rfl, hbb⟩
      go_wp2
      go_ret
      exact ⟨rfl, s_chain HBA.out hbb⟩
  · rw [leftN_neg (by omega)] at CZ0
    clear hin0 hin1 hb0 hw
    go_enter Tryd.func10, Tryd.ntmps10
    go_wp2_with fail
    refine (CZ0.out _).mono ?_
    rintro e wa ⟨rfl, hba⟩
    go_wp2
    go_ret
    exact ⟨rfl, s_chain (below_a2 w _ _) hba⟩
end Go.Proofs.YtbkchmkhaapmaaaDoor
