/- The model's farm of a graph. Condition: at most 2^20 edges. // The contract of the model's test for a number. // The contracts of FarmOf, the model's and the program's, as the law's walk takes them. Condition: at most 2^20 edges. // The walk of the law FnExactFarmOf: it returns true and writes nothing that was there. -/
import Derived.Test.YtpgnappddddlpaaCOG
import Derived.Test.YtpgnappddddlpaaCOC
import Derived.Test.YtpgnappddddlpaaCOM
import Derived.Deep.DeepCutAuto
import Derived.Deep.RegionHeld3
import Derived.Deep.RegionWith
import Derived.Test.YtpgnappddddlpaaCOA
import Derived.Test.YtpgnappddddlpaaCOE
import Derived.Test.YtpgnappddddlpaaCOD
import Derived.Deep.Cut
namespace Go.Proofs.Ytpgnappddddlpaa
open Go.RowKit
set_option linter.unusedVariables false

theorem held_nameFs {P : Program} {md : Region.Mode} {ops : Array Oper} {Q : Exit → Act → World → Prop} {S : World → Prop} {fuel : Nat} {listed : Array Bool} {a : Act} {w : World} (hS : S w) (h : S w → wpAnyH P md ops Q S fuel listed a w) : wpAnyH P md ops Q S fuel listed a w := h hS
set_option maxRecDepth 20000 in
set_option maxHeartbeats 8000000 in
theorem specFarmOf (N : Int) (A : Option Addr) (n c : Nat) (G : List GE) (b s : Int) (w : World) (hr : SlG w A n G) (hn : n ≤ 1048576) (hs : s ≤ 9223372036854775807) :
    Calls Try.prog 27 #[.agg #[.int .i64 N, .slice A n c], .int .i64 b, .int .i64 s] w (MadeFB w (foN N G b s) (foE N G b s) (foL N G b s) (foB N G b s)) := by
  have CG := Lib.hid (fun W (h : Below w.heap.size w W) => specGraphOk N A n c G W (hr.below h) hn)
  have CC := Lib.hid (fun W (h : Below w.heap.size w W) => specCut N A n c G b W (hr.below h) hn)
  have CS := Lib.hid (fun W E m d ends (h : Below w.heap.size w W) (hI : SlI W E m ends) (hm : m ≤ 1048576) => specShards N A n c G E m d ends s W (hr.below h) hn hI hm)
  unfold MadeI at CC
  unfold MadeHs at CS
  clear hr
  have H_1 := Lib.hid (g_chain (g_chain (Below.refl w.heap.size w) (below_a1 w (.cells #[.int .i64 N, .slice A n c] 58))) (below_a1 (w.alloc (.cells #[.int .i64 N, .slice A n c] 58)) (.cells #[.int .i64 0, .slice none 0 0, .slice none 0 0] 26)))
  have BX_2 : Hid (Blk ((w.alloc (.cells #[.int .i64 N, .slice A n c] 58)).alloc (.cells #[.int .i64 0, .slice none 0 0, .slice none 0 0] 26)) (w.heap.size) #[.int .i64 N, .slice A n c] 58) := Lib.hid (by have h := (Blk.new w #[.int .i64 N, .slice A n c] 58).alloc (.cells #[.int .i64 0, .slice none 0 0, .slice none 0 0] 26); simpa [Nat.add_assoc] using h)
  have BZ_3 : Hid (Blk ((w.alloc (.cells #[.int .i64 N, .slice A n c] 58)).alloc (.cells #[.int .i64 0, .slice none 0 0, .slice none 0 0] 26)) (w.heap.size + 1) #[.int .i64 0, .slice none 0 0, .slice none 0 0] 26) := Lib.hid (by have h := Blk.new (w.alloc (.cells #[.int .i64 N, .slice A n c] 58)) #[.int .i64 0, .slice none 0 0, .slice none 0 0] 26; simpa [Nat.add_assoc] using h)
  have sz0 : Hid (w.heap.size + 2 ≤ ((w.alloc (.cells #[.int .i64 N, .slice A n c] 58)).alloc (.cells #[.int .i64 0, .slice none 0 0, .slice none 0 0] 26)).heap.size) := Lib.hid (by simp)
  cases hv : graphB N G with
  | false =>
    rw [hv] at CG
    have HNO := Lib.hid (foB_no1 (b := b) (s := s) hv)
    clear hv
    go_enter Try.func27, Try.ntmps27
    go_wp2_with fail
    refine (CG.out _ H_1.out).mono ?_
    rintro e w1 ⟨rfl, hb⟩
    have H_4 := Lib.hid (g_chain H_1.out hb)
    clear H_1
    have BX_5 := Lib.hid (BX_2.out.below hb)
    clear BX_2
    have BZ_6 := Lib.hid (BZ_3.out.below hb)
    clear BZ_3
    have sz_7 := Lib.hid (Below.size hb)
    clear hb
    have x_8 := BZ_6.out.cell (i := 0) rfl
    have x_9 := BZ_6.out.cell (i := 1) rfl
    have x_10 := BZ_6.out.cell (i := 2) rfl
    have fz_11 := fun i => BZ_6.out.frozen i
    have lt_12 := BZ_6.out.lt
    go_wp2
    refine bodyPost_ret (v := .tuple #[.agg #[.int .i64 0, .slice none 0 0, .slice none 0 0], .bool false]) (by simp [results, Try.results27, go_sem, x_8, x_9, x_10]) rfl ?_
    rw [HNO.out, (fo_no HNO.out).1, (fo_no HNO.out).2.1, (fo_no HNO.out).2.2]
    exact ⟨none, 0, none, 0, rfl, ⟨World.ownsRow_nil _ _ _ _, ⟨[], ⟨World.ownsRow_nil _ _ _ _, rfl, OwnHL.nil⟩, rfl, fun g hg => by rcases hg with hg | ⟨x, hx, _⟩; cases hg; cases hx⟩, fun g hg => by cases hg⟩, by repeat (first | exact H_4.out | refine Below.setCell ?_ (by simp) _ | refine g_chain ?_ (below_a1 _ _))⟩
  | true =>
    rw [hv] at CG
    by_cases hb1 : 1 ≤ b
    rotate_left
    · skip
      have HNO := Lib.hid (foB_no2 (N := N) (G := G) (b := b) (s := s) (fun h => hb1 h.1))
      clear hv
      have hb1' : b < 1 := by omega
      clear hb1
      go_enter Try.func27, Try.ntmps27
      go_wp2_with fail
      refine (CG.out _ H_1.out).mono ?_
      rintro e w1 ⟨rfl, hb⟩
      have H_13 := Lib.hid (g_chain H_1.out hb)
      clear H_1
      have BX_14 := Lib.hid (BX_2.out.below hb)
      clear BX_2
      have BZ_15 := Lib.hid (BZ_3.out.below hb)
      clear BZ_3
      have sz_16 := Lib.hid (Below.size hb)
      clear hb
      have x_17 := BZ_15.out.cell (i := 0) rfl
      have x_18 := BZ_15.out.cell (i := 1) rfl
      have x_19 := BZ_15.out.cell (i := 2) rfl
      have fz_20 := fun i => BZ_15.out.frozen i
      have lt_21 := BZ_15.out.lt
      go_wp2
      refine bodyPost_ret (v := .tuple #[.agg #[.int .i64 0, .slice none 0 0, .slice none 0 0], .bool false]) (by simp [results, Try.results27, go_sem, x_17, x_18, x_19]) rfl ?_
      rw [HNO.out, (fo_no HNO.out).1, (fo_no HNO.out).2.1, (fo_no HNO.out).2.2]
      exact ⟨none, 0, none, 0, rfl, ⟨World.ownsRow_nil _ _ _ _, ⟨[], ⟨World.ownsRow_nil _ _ _ _, rfl, OwnHL.nil⟩, rfl, fun g hg => by rcases hg with hg | ⟨x, hx, _⟩; cases hg; cases hx⟩, fun g hg => by cases hg⟩, by repeat (first | exact H_13.out | refine Below.setCell ?_ (by simp) _ | refine g_chain ?_ (below_a1 _ _))⟩
    by_cases hb2 : b ≤ 400
    rotate_left
    · skip
      have HNO := Lib.hid (foB_no2 (N := N) (G := G) (b := b) (s := s) (fun h => hb2 h.2.1))
      clear hv
      have hb2' : 400 < b := by omega
      clear hb2
      go_enter Try.func27, Try.ntmps27
      go_wp2_with fail
      refine (CG.out _ H_1.out).mono ?_
      rintro e w1 ⟨rfl, hb⟩
      have H_22 := Lib.hid (g_chain H_1.out hb)
      clear H_1
      have BX_23 := Lib.hid (BX_2.out.below hb)
      clear BX_2
      have BZ_24 := Lib.hid (BZ_3.out.below hb)
      clear BZ_3
      have sz_25 := Lib.hid (Below.size hb)
      clear hb
      have x_26 := BZ_24.out.cell (i := 0) rfl
      have x_27 := BZ_24.out.cell (i := 1) rfl
      have x_28 := BZ_24.out.cell (i := 2) rfl
      have fz_29 := fun i => BZ_24.out.frozen i
      have lt_30 := BZ_24.out.lt
      go_wp2
      refine bodyPost_ret (v := .tuple #[.agg #[.int .i64 0, .slice none 0 0, .slice none 0 0], .bool false]) (by simp [results, Try.results27, go_sem, x_26, x_27, x_28]) rfl ?_
      rw [HNO.out, (fo_no HNO.out).1, (fo_no HNO.out).2.1, (fo_no HNO.out).2.2]
      exact ⟨none, 0, none, 0, rfl, ⟨World.ownsRow_nil _ _ _ _, ⟨[], ⟨World.ownsRow_nil _ _ _ _, rfl, OwnHL.nil⟩, rfl, fun g hg => by rcases hg with hg | ⟨x, hx, _⟩; cases hg; cases hx⟩, fun g hg => by cases hg⟩, by repeat (first | exact H_22.out | refine Below.setCell ?_ (by simp) _ | refine g_chain ?_ (below_a1 _ _))⟩
    by_cases hb3 : 1 ≤ s
    rotate_left
    · skip
      have HNO := Lib.hid (foB_no2 (N := N) (G := G) (b := b) (s := s) (fun h => hb3 h.2.2))
      have hb3' : s < 1 := by omega
      clear hv hb3
      go_enter Try.func27, Try.ntmps27
      go_wp2_with fail
      refine (CG.out _ H_1.out).mono ?_
      rintro e w1 ⟨rfl, hb⟩
      have H_31 := Lib.hid (g_chain H_1.out hb)
      clear H_1
      have BX_32 := Lib.hid (BX_2.out.below hb)
      clear BX_2
      have BZ_33 := Lib.hid (BZ_3.out.below hb)
      clear BZ_3
      have sz_34 := Lib.hid (Below.size hb)
      clear hb
      have x_35 := BZ_33.out.cell (i := 0) rfl
      have x_36 := BZ_33.out.cell (i := 1) rfl
      have x_37 := BZ_33.out.cell (i := 2) rfl
      have fz_38 := fun i => BZ_33.out.frozen i
      have lt_39 := BZ_33.out.lt
      go_wp2
      refine bodyPost_ret (v := .tuple #[.agg #[.int .i64 0, .slice none 0 0, .slice none 0 0], .bool false]) (by simp [results, Try.results27, go_sem, x_35, x_36, x_37]) rfl ?_
      rw [HNO.out, (fo_no HNO.out).1, (fo_no HNO.out).2.1, (fo_no HNO.out).2.2]
      exact ⟨none, 0, none, 0, rfl, ⟨World.ownsRow_nil _ _ _ _, ⟨[], ⟨World.ownsRow_nil _ _ _ _, rfl, OwnHL.nil⟩, rfl, fun g hg => by rcases hg with hg | ⟨x, hx, _⟩; cases hg; cases hx⟩, fun g hg => by cases hg⟩, by repeat (first | exact H_31.out | refine Below.setCell ?_ (by simp) _ | refine g_chain ?_ (below_a1 _ _))⟩
    have HYES := Lib.hid (foB_yes hv hb1 hb2 hb3)
    clear hv
    go_enter Try.func27, Try.ntmps27
    go_wp2_with fail
    refine (CG.out _ H_1.out).mono ?_
    rintro e w1 ⟨rfl, hb⟩
    have H_40 := Lib.hid (g_chain H_1.out hb)
    clear H_1
    have BX_41 := Lib.hid (BX_2.out.below hb)
    clear BX_2
    have BZ_42 := Lib.hid (BZ_3.out.below hb)
    clear BZ_3
    have sz_43 := Lib.hid (Below.size hb)
    clear hb
    have x_44 := BX_41.out.cell (i := 0) rfl
    have x_45 := BX_41.out.cell (i := 1) rfl
    go_wp2_with fail
    refine (CC.out _ H_40.out).mono ?_
    rintro e w2 ⟨A2, n2, c2, rfl, ho, hb⟩
    clear x_44
    clear x_45
    have H_46 := Lib.hid (g_chain H_40.out hb)
    clear H_40
    have BX_47 := Lib.hid (BX_41.out.below hb)
    clear BX_41
    have BZ_48 := Lib.hid (BZ_42.out.below hb)
    clear BZ_42
    have sz_49 := Lib.hid (Below.size hb)
    have HCL := Lib.hid (show n2 = (cutR N G b).length by have := ho.1; rw [vi_len] at this; omega)
    have hn2 : n2 ≤ 150 := by rw [HCL.out]; exact cut_few N G b
    have LW := Lib.hid H_46.out.size
    have LOE := Lib.hid ho.lt
    have OE_50 := Lib.hid (ho)
    skip
    clear ho hb
    go_upto_region 4 with fail
    refine wp_region_any (by kernel_rfl) ?_
    change wpAny _ _ _ _ _ _ _ (World.drew _)
    have hb : Below w2.heap.size w2 (World.drew w2) := (Below.refl _ _).drew
    have H_51 := Lib.hid (g_chain H_46.out hb)
    clear H_46
    have BX_52 := Lib.hid (BX_47.out.below hb)
    clear BX_47
    have BZ_53 := Lib.hid (BZ_48.out.below hb)
    clear BZ_48
    have OE_54 := Lib.hid (own_below OE_50.out hb)
    clear OE_50
    have sz_55 := Lib.hid (Below.size hb)
    clear hb
    generalize hDD : World.drew w2 = w3 at H_51 BX_52 BZ_53 OE_54 sz_55 ⊢
    clear hDD
    refine wpAny_of_held (S := fun W => W.cell? ⟨w.heap.size, 0, none⟩ = some (.int .i64 N) ∧ W.cell? ⟨w.heap.size, 1, none⟩ = some (.slice A n c)) _ _ _ _ ?_
    have LBZ : Hid (w.heap.size + 1 < w3.heap.size) := Lib.hid BZ_53.out.lt
    refine held_nameFs ⟨BX_52.out.cell (i := 0) rfl, BX_52.out.cell (i := 1) rfl⟩ (fun hS => ?_)
    refine wpAnyH_take (i := 0) (oi := ⟨_, _, _, _, _, _⟩) (v := .pointer (some ⟨w.heap.size, 0, none⟩)) rfl (by kernel_rfl) (by kernel_rfl) (by kernel_rfl) (fun _ _ _ h => h) (Or.inl ⟨by kernel_rfl, fun W hS => by (obtain ⟨s0, s1⟩ := hS); go_simp⟩) hS ?_
    (try simp only [Act.put, List.setIfInBounds_toArray, List.set_cons_zero, List.set_cons_succ])
    refine wpAnyH_take (i := 1) (oi := ⟨_, _, _, _, _, _⟩) (v := .int .i64 N) rfl (by kernel_rfl) (by kernel_rfl) (by kernel_rfl) (fun _ _ _ h => h) (Or.inl ⟨by kernel_rfl, fun W hS => by (obtain ⟨s0, s1⟩ := hS); go_simp⟩) hS ?_
    (try simp only [Act.put, List.setIfInBounds_toArray, List.set_cons_zero, List.set_cons_succ])
    refine wpAnyH_take (i := 2) (oi := ⟨_, _, _, _, _, _⟩) (v := .slice A2 n2 c2) rfl (by kernel_rfl) (by kernel_rfl) (by kernel_rfl) (fun _ _ _ h => h) (Or.inl ⟨by kernel_rfl, fun W hS => by (obtain ⟨s0, s1⟩ := hS); go_simp⟩) hS ?_
    (try simp only [Act.put, List.setIfInBounds_toArray, List.set_cons_zero, List.set_cons_succ])
    refine wpAnyH_take (i := 3) (oi := ⟨_, _, _, _, _, _⟩) (v := .agg #[.int .i64 N, .slice A n c]) rfl (by kernel_rfl) (by kernel_rfl) (by kernel_rfl) (fun _ _ _ h => h) (Or.inl ⟨by kernel_rfl, fun W hS => by (obtain ⟨s0, s1⟩ := hS); go_simp⟩) hS ?_
    (try simp only [Act.put, List.setIfInBounds_toArray, List.set_cons_zero, List.set_cons_succ])
    refine wpAnyH_take (i := 4) (oi := ⟨_, _, _, _, _, _⟩) (v := .slice A2 n2 c2) rfl (by kernel_rfl) (by kernel_rfl) (by kernel_rfl) (fun _ _ _ h => h) (Or.inl ⟨by kernel_rfl, fun W hS => by (obtain ⟨s0, s1⟩ := hS); go_simp⟩) hS ?_
    (try simp only [Act.put, List.setIfInBounds_toArray, List.set_cons_zero, List.set_cons_succ])
    refine wpAnyH_take (i := 5) (oi := ⟨_, _, _, _, _, _⟩) (v := .int .i64 s) rfl (by kernel_rfl) (by kernel_rfl) (by kernel_rfl) (fun _ _ _ h => h) (Or.inl ⟨by kernel_rfl, fun W hS => by (obtain ⟨s0, s1⟩ := hS); go_simp⟩) hS ?_
    (try simp only [Act.put, List.setIfInBounds_toArray, List.set_cons_zero, List.set_cons_succ])
    refine wpAnyH_ready (rs := [6]) (by kernel_rfl) (by simp) (AllReadyH.cons rfl (fun K hK => ?_) AllReadyH.nil)
    go_simp
    go_at_call 72
    refine (CS.out _ _ _ _ _ H_51.out (SlI.of_own OE_54.out) (by omega)).mono ?_
    rintro e1 w4 ⟨A3, n3, c3, bs3, rfl, ho, hx, hb⟩
    have HO3 := Lib.hid (HOwn.of ho hx)
    have LSZ := Lib.hid (Below.size hb)
    have H_56 := Lib.hid (g_chain H_51.out hb)
    clear H_51
    have BX_57 := Lib.hid (BX_52.out.below hb)
    clear BX_52
    have BZ_58 := Lib.hid (BZ_53.out.below hb)
    clear BZ_53
    have OE_59 := Lib.hid (own_below OE_54.out hb)
    clear OE_54
    have sz_60 := Lib.hid (Below.size hb)
    clear ho hx hb
    dsimp only
    refine hK.out _ _ ⟨BX_57.out.cell (i := 0) rfl, BX_57.out.cell (i := 1) rfl⟩ (fun hS => ?_)
    clear hK K
    (try simp only [Act.put, List.setIfInBounds_toArray, List.set_cons_zero, List.set_cons_succ])
    refine wpAnyH_take (i := 7) (oi := ⟨_, _, _, _, _, _⟩) (v := .agg #[.int .i64 N, .slice A2 n2 c2, .slice A3 n3 c3]) rfl (by kernel_rfl) (by kernel_rfl) (by kernel_rfl) (fun _ _ _ h => h) (Or.inl ⟨by kernel_rfl, fun W hS => by (obtain ⟨s0, s1⟩ := hS); go_simp⟩) hS ?_
    (try simp only [Act.put, List.setIfInBounds_toArray, List.set_cons_zero, List.set_cons_succ])
    refine wpAnyH_ready (rs := [8]) (by kernel_rfl) (by simp) (AllReadyH.cons rfl (fun K hK => ?_) AllReadyH.nil)
    have z0 := BZ_58.out.cell (i := 0) rfl
    have f0 := BZ_58.out.frozen 0
    have z1 := BZ_58.out.cell (i := 1) rfl
    have f1 := BZ_58.out.frozen 1
    have z2 := BZ_58.out.cell (i := 2) rfl
    have f2 := BZ_58.out.frozen 2
    go_simp
    clear z0 f0 z1 f1 z2 f2
    have hgr := ((grown_cell w4 (w.heap.size + 1) 0 (.int .i64 N)).trans (grown_cell (w4.setCell ⟨w.heap.size + 1, 0, none⟩ (.int .i64 N)) (w.heap.size + 1) 1 (.slice A2 n2 c2))).trans (grown_cell ((w4.setCell ⟨w.heap.size + 1, 0, none⟩ (.int .i64 N)).setCell ⟨w.heap.size + 1, 1, none⟩ (.slice A2 n2 c2)) (w.heap.size + 1) 2 (.slice A3 n3 c3))
    have hop : OnlyB (fun g => g = w.heap.size + 1) w4 (((w4.setCell ⟨w.heap.size + 1, 0, none⟩ (.int .i64 N)).setCell ⟨w.heap.size + 1, 1, none⟩ (.slice A2 n2 c2)).setCell ⟨w.heap.size + 1, 2, none⟩ (.slice A3 n3 c3)) := (OnlyB.refl _ _).grown hgr (fun i hi => by injection hi with hi; exact hi.symm)
    have HO4 : Hid (HOwn (((w4.setCell ⟨w.heap.size + 1, 0, none⟩ (.int .i64 N)).setCell ⟨w.heap.size + 1, 1, none⟩ (.slice A2 n2 c2)).setCell ⟨w.heap.size + 1, 2, none⟩ (.slice A3 n3 c3)) w.heap.size w.heap.size (((w4.setCell ⟨w.heap.size + 1, 0, none⟩ (.int .i64 N)).setCell ⟨w.heap.size + 1, 1, none⟩ (.slice A2 n2 c2)).setCell ⟨w.heap.size + 1, 2, none⟩ (.slice A3 n3 c3)).heap.size A3 n3 c3 (shardsR N G (cutR N G b) s)) := Lib.hid (by
      obtain ⟨b3, k1, k2, k3⟩ := HO3.out
      have k4 := fun g hg => k1.blk (k := g) hg
      have hw1 := hgr.size
      refine ⟨b3, (k1.but hop (fun g hg hh => by have h3 := k3 g hg; have h4 := BZ_58.out.lt; have h5 := LBZ.out; omega)).mono (by have h5 := LBZ.out; omega), k2, fun g hg => ?_⟩
      have h3 := k3 g hg
      have h5 := LBZ.out
      omega)
    have OE_61 := Lib.hid (own_kept OE_59.out hgr (own_kind OE_59.out BZ_58.out (by decide)))
    have H_62 := Lib.hid (H_56.out.grown hgr H_56.out.size (fun j hj => by injection hj with hj; omega))
    have BX_63 := Lib.hid (BX_57.out.grown hgr (by intro e; injection e with e; omega))
    have BZ9 : Hid (Blk (((w4.setCell ⟨w.heap.size + 1, 0, none⟩ (.int .i64 N)).setCell ⟨w.heap.size + 1, 1, none⟩ (.slice A2 n2 c2)).setCell ⟨w.heap.size + 1, 2, none⟩ (.slice A3 n3 c3)) (w.heap.size + 1) #[.int .i64 N, .slice A2 n2 c2, .slice A3 n3 c3] 26) := Lib.hid (Blk.set (Blk.set (Blk.set (BZ_58.out) 0 (.int .i64 N)) 1 (.slice A2 n2 c2)) 2 (.slice A3 n3 c3))
    have SZ9 := Lib.hid hgr.size
    clear hgr hop
    refine hK.out _ _ ⟨BX_63.out.cell (i := 0) rfl, BX_63.out.cell (i := 1) rfl⟩ (fun hS => ?_)
    clear hK K
    (try simp only [Act.put, List.setIfInBounds_toArray, List.set_cons_zero, List.set_cons_succ])
    refine wpAnyH_take (i := 9) (oi := ⟨_, _, _, _, _, _⟩) (v := .bool true) rfl (by kernel_rfl) (by kernel_rfl) (by kernel_rfl) (fun _ _ _ h => h) (Or.inl ⟨by kernel_rfl, fun W hS => by (obtain ⟨s0, s1⟩ := hS); go_simp⟩) hS ?_
    (try simp only [Act.put, List.setIfInBounds_toArray, List.set_cons_zero, List.set_cons_succ])
    refine wpAnyH_done (by kernel_rfl) ?_ _
    have x_64 := BZ9.out.cell (i := 0) rfl
    have x_65 := BZ9.out.cell (i := 1) rfl
    have x_66 := BZ9.out.cell (i := 2) rfl
    have fz_67 := fun i => BZ9.out.frozen i
    have lt_68 := BZ9.out.lt
    go_wp2
    refine bodyPost_ret (v := .tuple #[.agg #[.int .i64 N, .slice A2 n2 c2, .slice A3 n3 c3], .bool true]) (by simp [results, Try.results27, go_sem, x_64, x_65, x_66]) rfl ?_
    rw [HYES.out, (fo_yes HYES.out).1, (fo_yes HYES.out).2.1, (fo_yes HYES.out).2.2]
    have e2 := HO4.out.len
    unfold MadeFB
    rw [← HCL.out, ← e2]
    exact ⟨A2, c2, A3, c3, rfl, ⟨own_monoG OE_61.out (by have := sz0.out; have := sz0.out; have := sz_43.out; have := sz_49.out; have := sz_55.out; have := sz_60.out; omega), HO4.out, fun g hg => (by have h3 := LOE.out g hg; have := SZ9.out; have := sz0.out; have := sz_43.out; have := sz_49.out; have := sz_55.out; have := sz_60.out; omega)⟩, H_62.out⟩
end Go.Proofs.Ytpgnappddddlpaa
namespace Go.Proofs.Ytpgnappddddlpaa
open Go.RowKit

theorem specNum_yes (n : Int) (w : World) (h0 : 0 ≤ n) (h1 : n ≤ 281474976710655) : Calls Try.prog 131 #[.int .i64 n] w fun e w' => e = .returned (.bool true) ∧ w = w' := by
  go_enter Try.func131, Try.ntmps131
  go_wp2
  go_ret
  exact ⟨rfl, rfl⟩

theorem specNum_no (n : Int) (w : World) (h : n < 0 ∨ 281474976710655 < n) : Calls Try.prog 131 #[.int .i64 n] w fun e w' => e = .returned (.bool false) ∧ w = w' := by
  rcases h with h | h
  · go_enter Try.func131, Try.ntmps131
    go_wp2
    go_ret
    exact ⟨rfl, rfl⟩
  · have h0 : 0 ≤ n := by omega
    have h2 : decide (n ≤ 281474976710655) = false := by simpa using h
    go_enter Try.func131, Try.ntmps131
    go_wp2
    go_ret
    exact ⟨rfl, rfl⟩
end Go.Proofs.Ytpgnappddddlpaa
namespace Go.Proofs.Ytpgnappddddlpaa
open Go.RowKit
set_option linter.unusedVariables false

section
variable (N : Int) (A : Option Addr) (n c : Nat) (G : List GE) (b s : Int) (w : World) (h : SlG w A n G) (hn : n ≤ 1048576) (hs : (Lit.int .i64 s).wf = true)
include h hn hs
theorem implFarmOf_k : Calls Try.prog 29 #[.agg #[.int .i64 N, .slice A n c], .int .i64 b, .int .i64 s] w (MadeFB w (foN N G b s) (foE N G b s) (foL N G b s) (foB N G b s)) :=
  implFarmOf N A n c G b s w h hn (bounds_i64 hs).2
theorem specFarmOf_k : Calls Try.prog 27 #[.agg #[.int .i64 N, .slice A n c], .int .i64 b, .int .i64 s] w (MadeFB w (foN N G b s) (foE N G b s) (foL N G b s) (foB N G b s)) :=
  specFarmOf N A n c G b s w h hn (bounds_i64 hs).2
end
end Go.Proofs.Ytpgnappddddlpaa
namespace Go.Proofs.Ytpgnappddddlpaa
open Go.RowKit
set_option linter.unusedVariables false

theorem held_nameK {P : Program} {md : Region.Mode} {ops : Array Oper} {Q : Exit → Act → World → Prop} {S : World → Prop} {fuel : Nat} {listed : Array Bool} {a : Act} {w : World} (hS : S w) (h : S w → wpAnyH P md ops Q S fuel listed a w) : wpAnyH P md ops Q S fuel listed a w := h hS
set_option maxRecDepth 20000 in
set_option maxHeartbeats 16000000 in
theorem walkFarmOf (N : Int) (AG : Option Addr) (nG cG : Nat) (G : List GE) (budget : Int) (size : Int) (w : World) (hg : GrIn w N AG nG G) (wfbudget : (Lit.int .i64 budget).wf = true) (wfsize : (Lit.int .i64 size).wf = true) :
    Calls Try.prog 5 #[.agg #[.int .i64 N, .slice AG nG cG], .int .i64 budget, .int .i64 size] w fun e w' => e = .returned (.bool true) ∧ Below w.heap.size w w' := by
  obtain rfl := hg.g.len
  have B0H : Hid (Below w.heap.size w (w.alloc (.cells #[.int .i64 N, .slice AG G.length cG] 53))) := Lib.hid (below_a1 _ _)
  have B00 : Hid (Blk (w.alloc (.cells #[.int .i64 N, .slice AG G.length cG] 53)) (w.heap.size) #[.int .i64 N, .slice AG G.length cG] 53) := Lib.hid (by have h := Blk.new w #[.int .i64 N, .slice AG G.length cG] 53; simpa using h)
  have CZ0 : Hid (∀ W, Below w.heap.size w W → Calls _ _ _ W _) := Lib.hid (fun W h => szGraph_any N AG G.length cG 1048576 W hg.l (by omega) (by omega))
  by_cases hb0 : ((G.length : Nat) : Int) ≤ 1048576
  rotate_left
  · skip
    rw [leftG_neg (by omega)] at CZ0
    clear hg wfbudget wfsize hb0
    go_enter Try.func5, Try.ntmps5
    have y0_0 := B00.out.cell (i := 0) rfl
    have y0_1 := B00.out.cell (i := 1) rfl
    go_wp2_with fail
    refine (CZ0.out _ B0H.out).mono ?_
    rintro e wz0 ⟨rfl, hba⟩
    have HA0 := Lib.hid (g_chain B0H.out hba)
    clear hba y0_0 y0_1
    go_wp2
    go_ret
    exact ⟨rfl, HA0.out⟩
  rw [leftG_pos hb0] at CZ0
  have hp0 : (0 : Int) ≤ 1048576 - ((G.length : Nat) : Int) := by omega
  have hq0 : 1048576 - ((G.length : Nat) : Int) ≤ 1048576 := by omega
  have hgl : G.length ≤ 1048576 := by omega
  have CTG := Lib.hid (fun W (h : Below w.heap.size w W) => toGraph_any N AG G.length cG G W (hg.g.below h) (by omega))
  unfold MadeGr at CTG
  generalize (1048576 : Int) - ((G.length : Nat) : Int) = q0 at CZ0 hp0
  have CEGraph := Lib.hid (fun W lo l h (Ag1 : Option Addr) (cg1 : Nat) lo' l' h' (Ag2 : Option Addr) (cg2 : Nat) (h1 : GOwn W lo l h Ag1 G.length cg1 G) (h2 : GOwn W lo' l' h' Ag2 G.length cg2 G) => eqGraph_any N Ag1 Ag2 G.length cg1 cg2 G W (SlG.of_own h1.e rfl) (SlG.of_own h2.e rfl) (by omega))
  have CMGraph := Lib.hid (fun W lo l h (Ag1 : Option Addr) (cg1 : Nat) (h1 : GOwn W lo l h Ag1 G.length cg1 G) => markG_k N Ag1 G.length cg1 lo l h 1 G W h1 rfl (by omega) (by omega))
  have CS := Lib.hid (fun W lo1 l1 h1 (Ag1 : Option Addr) (cg1 : Nat) (hk1 : GOwn W lo1 l1 h1 Ag1 G.length cg1 G) => specFarmOf_k N Ag1 G.length cg1 G budget size W (SlG.of_own hk1.e rfl) (by omega) wfsize)
  have CI := Lib.hid (fun W lo1 l1 h1 (Ag1 : Option Addr) (cg1 : Nat) (hk1 : GOwn W lo1 l1 h1 Ag1 G.length cg1 G) => implFarmOf_k N Ag1 G.length cg1 G budget size W (SlG.of_own hk1.e rfl) (by omega) wfsize)
  unfold MadeFB at CS CI
  have hre : (foE N G budget size).length ≤ 1048576 := (by have := @fo_few N G budget size; omega)
  have hrl : (foL N G budget size).length + (flatK (foL N G budget size)).length ≤ 1048576 := (by have := @fo_few N G budget size; omega)
  generalize foN N G budget size = rN at CS CI
  generalize foE N G budget size = rE at CS CI hre
  generalize foL N G budget size = rL at CS CI hrl
  generalize foB N G budget size = rb at CS CI
  have HSR := Lib.hid hrl
  have CER := Lib.hid (fun W lo l h (Af1 : Option Addr) (cf1 : Nat) (Bf1 : Option Addr) (df1 : Nat) lo' l' h' (Af2 : Option Addr) (cf2 : Nat) (Bf2 : Option Addr) (df2 : Nat) (h1 : FOwn W lo l h Af1 rE.length cf1 Bf1 rL.length df1 rE rL) (h2 : FOwn W lo' l' h' Af2 rE.length cf2 Bf2 rL.length df2 rE rL) => eqFarm_any rN Af1 rE.length cf1 Bf1 rL.length df1 Af2 cf2 Bf2 df2 rE rL W h1.rd h2.rd (by omega) HSR.out)
  have CMR := Lib.hid (fun W lo l h (Af1 : Option Addr) (cf1 : Nat) (Bf1 : Option Addr) (df1 : Nat) (h1 : FOwn W lo l h Af1 rE.length cf1 Bf1 rL.length df1 rE rL) => markFarm_any rN Af1 rE.length cf1 Bf1 rL.length df1 lo l h 1 rE rL W h1 (by omega) HSR.out (by omega))
  unfold MarkedF at CMR
  have HKK : Hid (rE.length ≤ 1048576) := Lib.hid (by omega)
  have hkr0 : endFm 1 rE rL ≤ 16777216 := by have := HSR.out; unfold endFm; omega
  obtain ⟨kr, hkr⟩ : ∃ kr, kr = endFm 1 rE rL := ⟨_, rfl⟩
  rw [← hkr] at CMR hkr0
  clear hkr
  have CHR := Lib.hid (fun W (Af1 : Option Addr) (cf1 : Nat) (Bf1 : Option Addr) (df1 : Nat) (h1 : FMk W 1 Af1 rE.length Bf1 rL.length kr) => heldFarm_any rN Af1 rE.length cf1 Bf1 rL.length df1 1 kr W h1 (by omega) (by have := HSR.out; omega) (by omega) hkr0)
  have hkk : (0 : Int) ≤ (kr : Int) := by omega
  have hrb : (rb == rb) = true := by simp
  have hrb2 : (rb != rb) = false := by simp
  have hka0 : (0 : Int) ≤ (((1 + 3 * G.length) : Nat) : Int) := by omega
  generalize 1 + 3 * G.length = ka0 at CMGraph hka0
  clear hg hb0 hq0
  have H_1 := Lib.hid (B0H.out)
  have Bgraph_2 := Lib.hid (B00.out)
  clear B0H B00
  have sz_3 : Hid (w.heap.size + 1 ≤ (w.alloc (.cells #[.int .i64 N, .slice AG G.length cG] 53)).heap.size) := Lib.hid (by simp)
  go_enter Try.func5, Try.ntmps5
  have x_4 := Bgraph_2.out.cell (i := 0) rfl
  have x_5 := Bgraph_2.out.cell (i := 1) rfl
  have lt_6 := Bgraph_2.out.lt
  go_wp2_with fail
  refine (CZ0.out _ H_1.out).mono ?_
  rintro e w1 ⟨rfl, hb⟩
  clear x_4 x_5 lt_6
  have H_7 := Lib.hid (g_chain H_1.out hb)
  clear H_1
  have Bgraph_8 := Lib.hid (Bgraph_2.out.below hb)
  clear Bgraph_2
  have sz_9 := Lib.hid (Below.size hb)
  clear hb
  have x_10 := Bgraph_8.out.cell (i := 0) rfl
  have x_11 := Bgraph_8.out.cell (i := 1) rfl
  have lt_12 := Bgraph_8.out.lt
  go_wp2_with fail
  refine (CTG.out _ H_7.out).mono ?_
  rintro e w2 ⟨Agp, cgp, rfl, ho, hb⟩
  clear x_10 x_11 lt_12
  have H_13 := Lib.hid (g_chain H_7.out hb)
  clear H_7
  have Bgraph_14 := Lib.hid (Bgraph_8.out.below hb)
  clear Bgraph_8
  have sz_15 := Lib.hid (Below.size hb)
  have graphp_16 := Lib.hid (GOwn.of ho)
  clear hb
  clear ho
  go_wp2_with fail
  refine (CS.out _ _ _ _ _ _ graphp_16.out).mono ?_
  rintro e w3 ⟨Afw, cfw, Bfw, dfw, rfl, ho, hb⟩
  have H_17 := Lib.hid (g_chain H_13.out hb)
  clear H_13
  have Bgraph_18 := Lib.hid (Bgraph_14.out.below hb)
  clear Bgraph_14
  have graphp_19 := Lib.hid (graphp_16.out.below hb)
  clear graphp_16
  have sz_20 := Lib.hid (Below.size hb)
  have Rw_21 := Lib.hid (ho)
  clear hb
  clear ho
  have hb := below_a1 w3 (.cells #[.int .i64 rN, .slice Afw rE.length cfw, .slice Bfw rL.length dfw] 26)
  have sz_22 := Lib.hid (Blk.lt Bgraph_18.out)
  have H_23 := Lib.hid (g_chain H_17.out hb)
  clear H_17
  have Bgraph_24 := Lib.hid (Bgraph_18.out.below hb)
  clear Bgraph_18
  have graphp_25 := Lib.hid (graphp_19.out.below hb)
  clear graphp_19
  have Rw_26 := Lib.hid (Rw_21.out.below hb)
  clear Rw_21
  have sz_27 := Lib.hid (Below.size hb)
  clear hb
  have Bw_28 := Lib.hid (Blk.new w3 #[.int .i64 rN, .slice Afw rE.length cfw, .slice Bfw rL.length dfw] 26)
  have sz_29 : Hid (w3.heap.size + 1 ≤ (w3.alloc (.cells #[.int .i64 rN, .slice Afw rE.length cfw, .slice Bfw rL.length dfw] 26)).heap.size) := Lib.hid (by simp)
  clear graphp_25
  have x_30 := Bgraph_24.out.cell (i := 0) rfl
  have x_31 := Bgraph_24.out.cell (i := 1) rfl
  have lt_32 := Bgraph_24.out.lt
  go_wp2_with fail
  refine (CTG.out _ H_23.out).mono ?_
  rintro e w4 ⟨Agx, cgx, rfl, ho, hb⟩
  clear x_30 x_31 lt_32
  have H_33 := Lib.hid (g_chain H_23.out hb)
  clear H_23
  have Bgraph_34 := Lib.hid (Bgraph_24.out.below hb)
  clear Bgraph_24
  have Rw_35 := Lib.hid (Rw_26.out.below hb)
  clear Rw_26
  have Bw_36 := Lib.hid (Bw_28.out.below hb)
  clear Bw_28
  have sz_37 := Lib.hid (Below.size hb)
  have graphx_38 := Lib.hid (GOwn.of ho)
  clear hb
  clear ho
  have hb := below_a1 w4 (.cells #[.int .i64 N, .slice Agx G.length cgx] 58)
  have sz_39 := Lib.hid (Blk.lt Bgraph_34.out)
  have sz_40 := Lib.hid (Blk.lt Bw_36.out)
  have H_41 := Lib.hid (g_chain H_33.out hb)
  clear H_33
  have Bgraph_42 := Lib.hid (Bgraph_34.out.below hb)
  clear Bgraph_34
  have Rw_43 := Lib.hid (Rw_35.out.below hb)
  clear Rw_35
  have Bw_44 := Lib.hid (Bw_36.out.below hb)
  clear Bw_36
  have graphx_45 := Lib.hid (graphx_38.out.below hb)
  clear graphx_38
  have sz_46 := Lib.hid (Below.size hb)
  clear hb
  have Xgraph_47 := Lib.hid (Blk.new w4 #[.int .i64 N, .slice Agx G.length cgx] 58)
  have sz_48 : Hid (w4.heap.size + 1 ≤ (w4.alloc (.cells #[.int .i64 N, .slice Agx G.length cgx] 58)).heap.size) := Lib.hid (by simp)
  have x_49 := Xgraph_47.out.cell (i := 0) rfl
  have x_50 := Xgraph_47.out.cell (i := 1) rfl
  have lt_51 := Xgraph_47.out.lt
  go_wp2_with fail
  refine (CI.out _ _ _ _ _ _ graphx_45.out).mono ?_
  rintro e w5 ⟨Afg, cfg, Bfg, dfg, rfl, ho, hb⟩
  clear x_49 x_50 lt_51
  have H_52 := Lib.hid (g_chain H_41.out hb)
  clear H_41
  have Bgraph_53 := Lib.hid (Bgraph_42.out.below hb)
  clear Bgraph_42
  have Rw_54 := Lib.hid (Rw_43.out.below hb)
  clear Rw_43
  have Bw_55 := Lib.hid (Bw_44.out.below hb)
  clear Bw_44
  have graphx_56 := Lib.hid (graphx_45.out.below hb)
  clear graphx_45
  have Xgraph_57 := Lib.hid (Xgraph_47.out.below hb)
  clear Xgraph_47
  have sz_58 := Lib.hid (Below.size hb)
  have Rg_59 := Lib.hid (ho)
  clear hb
  clear ho
  have hb := below_a1 w5 (.cells #[.int .i64 rN, .slice Afg rE.length cfg, .slice Bfg rL.length dfg] 26)
  have sz_60 := Lib.hid (Blk.lt Bgraph_53.out)
  have sz_61 := Lib.hid (Blk.lt Bw_55.out)
  have sz_62 := Lib.hid (Blk.lt Xgraph_57.out)
  have H_63 := Lib.hid (g_chain H_52.out hb)
  clear H_52
  have Bgraph_64 := Lib.hid (Bgraph_53.out.below hb)
  clear Bgraph_53
  have Rw_65 := Lib.hid (Rw_54.out.below hb)
  clear Rw_54
  have Bw_66 := Lib.hid (Bw_55.out.below hb)
  clear Bw_55
  have graphx_67 := Lib.hid (graphx_56.out.below hb)
  clear graphx_56
  have Xgraph_68 := Lib.hid (Xgraph_57.out.below hb)
  clear Xgraph_57
  have Rg_69 := Lib.hid (Rg_59.out.below hb)
  clear Rg_59
  have sz_70 := Lib.hid (Below.size hb)
  clear hb
  have Bg_71 := Lib.hid (Blk.new w5 #[.int .i64 rN, .slice Afg rE.length cfg, .slice Bfg rL.length dfg] 26)
  have sz_72 : Hid (w5.heap.size + 1 ≤ (w5.alloc (.cells #[.int .i64 rN, .slice Afg rE.length cfg, .slice Bfg rL.length dfg] 26)).heap.size) := Lib.hid (by simp)
  have x_73 := Bg_71.out.cell (i := 0) rfl
  have x_74 := Bg_71.out.cell (i := 1) rfl
  have x_75 := Bg_71.out.cell (i := 2) rfl
  have lt_76 := Bg_71.out.lt
  have x_77 := Bw_66.out.cell (i := 0) rfl
  have x_78 := Bw_66.out.cell (i := 1) rfl
  have x_79 := Bw_66.out.cell (i := 2) rfl
  have lt_80 := Bw_66.out.lt
  go_wp2_with fail
  refine (CER.out _ _ _ _ _ _ _ _ _ _ _ _ _ _ _ Rg_69.out Rw_65.out).mono ?_
  rintro e w6 ⟨rfl, hb⟩
  clear x_73 x_74 x_75 lt_76 x_77 x_78 x_79 lt_80
  have H_81 := Lib.hid (g_chain H_63.out hb)
  clear H_63
  have Bgraph_82 := Lib.hid (Bgraph_64.out.below hb)
  clear Bgraph_64
  have Rw_83 := Lib.hid (Rw_65.out.below hb)
  clear Rw_65
  have Bw_84 := Lib.hid (Bw_66.out.below hb)
  clear Bw_66
  have graphx_85 := Lib.hid (graphx_67.out.below hb)
  clear graphx_67
  have Xgraph_86 := Lib.hid (Xgraph_68.out.below hb)
  clear Xgraph_68
  have Rg_87 := Lib.hid (Rg_69.out.below hb)
  clear Rg_69
  have Bg_88 := Lib.hid (Bg_71.out.below hb)
  clear Bg_71
  have sz_89 := Lib.hid (Below.size hb)
  clear hb
  go_upto_region 10 with fail
  refine wp_region_any (by kernel_rfl) ?_
  change wpAny _ _ _ _ _ _ _ (World.drew _)
  have hb : Below w6.heap.size w6 (World.drew w6) := (Below.refl _ _).drew
  have H_90 := Lib.hid (g_chain H_81.out hb)
  clear H_81
  have Bgraph_91 := Lib.hid (Bgraph_82.out.below hb)
  clear Bgraph_82
  have Rw_92 := Lib.hid (Rw_83.out.below hb)
  clear Rw_83
  have Bw_93 := Lib.hid (Bw_84.out.below hb)
  clear Bw_84
  have graphx_94 := Lib.hid (graphx_85.out.below hb)
  clear graphx_85
  have Xgraph_95 := Lib.hid (Xgraph_86.out.below hb)
  clear Xgraph_86
  have Rg_96 := Lib.hid (Rg_87.out.below hb)
  clear Rg_87
  have Bg_97 := Lib.hid (Bg_88.out.below hb)
  clear Bg_88
  have sz_98 := Lib.hid (Below.size hb)
  clear hb
  generalize hDD : World.drew w6 = w7 at H_90 Bgraph_91 Rw_92 Bw_93 graphx_94 Xgraph_95 Rg_96 Bg_97 sz_98 ⊢
  clear hDD
  refine wpAny_of_held (S := fun W => W.cell? ⟨w.heap.size, 0, none⟩ = some (.int .i64 N) ∧ W.cell? ⟨w.heap.size, 1, none⟩ = some (.slice AG G.length cG) ∧ W.cell? ⟨w4.heap.size, 0, none⟩ = some (.int .i64 N) ∧ W.cell? ⟨w4.heap.size, 1, none⟩ = some (.slice Agx G.length cgx)) _ _ _ _ ?_
  refine held_nameK ⟨Bgraph_91.out.cell (i := 0) rfl, Bgraph_91.out.cell (i := 1) rfl, Xgraph_95.out.cell (i := 0) rfl, Xgraph_95.out.cell (i := 1) rfl⟩ (fun hS => ?_)
  refine wpAnyH_take (i := 0) (oi := ⟨_, _, _, _, _, _⟩) (v := .agg #[.int .i64 N, .slice Agx G.length cgx]) rfl (by kernel_rfl) (by kernel_rfl) (by kernel_rfl) (fun _ _ _ h => h) (Or.inl ⟨by kernel_rfl, fun W hS => by (obtain ⟨s0, s1, s2, s3⟩ := hS); go_simp⟩) hS ?_
  (try simp only [Act.put, List.setIfInBounds_toArray, List.set_cons_zero, List.set_cons_succ])
  refine wpAnyH_take (i := 1) (oi := ⟨_, _, _, _, _, _⟩) (v := .agg #[.int .i64 N, .slice AG G.length cG]) rfl (by kernel_rfl) (by kernel_rfl) (by kernel_rfl) (fun _ _ _ h => h) (Or.inl ⟨by kernel_rfl, fun W hS => by (obtain ⟨s0, s1, s2, s3⟩ := hS); go_simp⟩) hS ?_
  (try simp only [Act.put, List.setIfInBounds_toArray, List.set_cons_zero, List.set_cons_succ])
  refine wpAnyH_ready (rs := [2]) (by kernel_rfl) (by simp) (AllReadyH.cons rfl (fun K hK => ?_) AllReadyH.nil)
  go_simp
  go_at_call 28
  refine (CTG.out _ H_90.out).mono ?_
  rintro e w8 ⟨Agq, cgq, rfl, ho, hb⟩
  have H_99 := Lib.hid (g_chain H_90.out hb)
  clear H_90
  have Bgraph_100 := Lib.hid (Bgraph_91.out.below hb)
  clear Bgraph_91
  have Rw_101 := Lib.hid (Rw_92.out.below hb)
  clear Rw_92
  have Bw_102 := Lib.hid (Bw_93.out.below hb)
  clear Bw_93
  have graphx_103 := Lib.hid (graphx_94.out.below hb)
  clear graphx_94
  have Xgraph_104 := Lib.hid (Xgraph_95.out.below hb)
  clear Xgraph_95
  have Rg_105 := Lib.hid (Rg_96.out.below hb)
  clear Rg_96
  have Bg_106 := Lib.hid (Bg_97.out.below hb)
  clear Bg_97
  have sz_107 := Lib.hid (Below.size hb)
  have graphq_108 := Lib.hid (GOwn.of ho)
  clear ho hb
  dsimp only
  refine hK.out _ _ ⟨Bgraph_100.out.cell (i := 0) rfl, Bgraph_100.out.cell (i := 1) rfl, Xgraph_104.out.cell (i := 0) rfl, Xgraph_104.out.cell (i := 1) rfl⟩ (fun hS => ?_)
  clear hK K
  (try simp only [Act.put, List.setIfInBounds_toArray, List.set_cons_zero, List.set_cons_succ])
  refine wpAnyH_ready (rs := [3]) (by kernel_rfl) (by simp) (AllReadyH.cons rfl (fun K hK => ?_) AllReadyH.nil)
  go_simp
  go_at_call 30
  refine (CEGraph.out _ _ _ _ _ _ _ _ _ _ _ graphx_103.out graphq_108.out).mono ?_
  rintro e w9 ⟨rfl, hb⟩
  have H_109 := Lib.hid (g_chain H_99.out hb)
  clear H_99
  have Bgraph_110 := Lib.hid (Bgraph_100.out.below hb)
  clear Bgraph_100
  have Rw_111 := Lib.hid (Rw_101.out.below hb)
  clear Rw_101
  have Bw_112 := Lib.hid (Bw_102.out.below hb)
  clear Bw_102
  have graphx_113 := Lib.hid (graphx_103.out.below hb)
  clear graphx_103
  have Xgraph_114 := Lib.hid (Xgraph_104.out.below hb)
  clear Xgraph_104
  have Rg_115 := Lib.hid (Rg_105.out.below hb)
  clear Rg_105
  have Bg_116 := Lib.hid (Bg_106.out.below hb)
  clear Bg_106
  have graphq_117 := Lib.hid (graphq_108.out.below hb)
  clear graphq_108
  have sz_118 := Lib.hid (Below.size hb)
  clear hb
  dsimp only
  refine hK.out _ _ ⟨Bgraph_110.out.cell (i := 0) rfl, Bgraph_110.out.cell (i := 1) rfl, Xgraph_114.out.cell (i := 0) rfl, Xgraph_114.out.cell (i := 1) rfl⟩ (fun hS => ?_)
  clear hK K
  (try simp only [Act.put, List.setIfInBounds_toArray, List.set_cons_zero, List.set_cons_succ])
  refine wpAnyH_take (i := 4) (oi := ⟨_, _, _, _, _, _⟩) (v := .bool false) rfl (by kernel_rfl) (by kernel_rfl) (by kernel_rfl) (fun _ _ _ h => h) (Or.inl ⟨by kernel_rfl, fun W hS => by (obtain ⟨s0, s1, s2, s3⟩ := hS); go_simp⟩) hS ?_
  (try simp only [Act.put, List.setIfInBounds_toArray, List.set_cons_zero, List.set_cons_succ])
  refine wpAnyH_done (by kernel_rfl) ?_ _
  clear graphq_117
  have x_119 := Xgraph_114.out.cell (i := 0) rfl
  have x_120 := Xgraph_114.out.cell (i := 1) rfl
  have lt_121 := Xgraph_114.out.lt
  go_wp2_with fail
  refine (CMGraph.out _ _ _ _ _ _ graphx_113.out).mono ?_
  rintro e w10 ⟨rfl, hm, hwr⟩
  clear x_119 x_120 lt_121
  have zz0 := sz_3.out
  have zz1 := sz_9.out
  have zz2 := sz_15.out
  have zz3 := sz_20.out
  have zz4 := sz_22.out
  have zz5 := sz_27.out
  have zz6 := sz_29.out
  have zz7 := sz_37.out
  have zz8 := sz_39.out
  have zz9 := sz_40.out
  have zz10 := sz_46.out
  have zz11 := sz_48.out
  have zz12 := sz_58.out
  have zz13 := sz_60.out
  have zz14 := sz_61.out
  have zz15 := sz_62.out
  have zz16 := sz_70.out
  have zz17 := sz_72.out
  have zz18 := sz_89.out
  have zz19 := sz_98.out
  have zz20 := sz_107.out
  have zz21 := sz_118.out
  have H_122 := Lib.hid (Wr.orig hwr H_109.out (by omega) (by omega))
  clear H_109
  have Bgraph_123 := Lib.hid (Wr.blk hwr Bgraph_110.out (by omega))
  clear Bgraph_110
  have Rw_124 := Lib.hid (FOwn.wr hwr Rw_111.out (by omega))
  clear Rw_111
  have Bw_125 := Lib.hid (Wr.blk hwr Bw_112.out (by omega))
  clear Bw_112
  have Xgraph_126 := Lib.hid (Wr.blk hwr Xgraph_114.out (by omega))
  clear Xgraph_114
  have Rg_127 := Lib.hid (FOwn.wr hwr Rg_115.out (by omega))
  clear Rg_115
  have Bg_128 := Lib.hid (Wr.blk hwr Bg_116.out (by omega))
  clear Bg_116
  clear zz0 zz1 zz2 zz3 zz4 zz5 zz6 zz7 zz8 zz9 zz10 zz11 zz12 zz13 zz14 zz15 zz16 zz17 zz18 zz19 zz20 zz21
  have sz_129 := Lib.hid (Wr.size hwr)
  clear hwr
  clear hm
  clear Xgraph_126
  have x_130 := Bg_128.out.cell (i := 0) rfl
  have x_131 := Bg_128.out.cell (i := 1) rfl
  have x_132 := Bg_128.out.cell (i := 2) rfl
  have lt_133 := Bg_128.out.lt
  have x_134 := Bw_125.out.cell (i := 0) rfl
  have x_135 := Bw_125.out.cell (i := 1) rfl
  have x_136 := Bw_125.out.cell (i := 2) rfl
  have lt_137 := Bw_125.out.lt
  go_wp2_with fail
  refine (CER.out _ _ _ _ _ _ _ _ _ _ _ _ _ _ _ Rg_127.out Rw_124.out).mono ?_
  rintro e w11 ⟨rfl, hb⟩
  clear x_130 x_131 x_132 lt_133 x_134 x_135 x_136 lt_137
  have H_138 := Lib.hid (g_chain H_122.out hb)
  clear H_122
  have Bgraph_139 := Lib.hid (Bgraph_123.out.below hb)
  clear Bgraph_123
  have Rw_140 := Lib.hid (Rw_124.out.below hb)
  clear Rw_124
  have Bw_141 := Lib.hid (Bw_125.out.below hb)
  clear Bw_125
  have Rg_142 := Lib.hid (Rg_127.out.below hb)
  clear Rg_127
  have Bg_143 := Lib.hid (Bg_128.out.below hb)
  clear Bg_128
  have sz_144 := Lib.hid (Below.size hb)
  clear hb
  have x_145 := Bg_143.out.cell (i := 0) rfl
  have x_146 := Bg_143.out.cell (i := 1) rfl
  have x_147 := Bg_143.out.cell (i := 2) rfl
  have lt_148 := Bg_143.out.lt
  go_wp2_with fail
  refine (CMR.out _ _ _ _ _ _ _ _ Rg_142.out).mono ?_
  rintro e w12 ⟨rfl, hm, hwr⟩
  clear x_145 x_146 x_147 lt_148
  have zz0 := sz_3.out
  have zz1 := sz_9.out
  have zz2 := sz_15.out
  have zz3 := sz_20.out
  have zz4 := sz_22.out
  have zz5 := sz_27.out
  have zz6 := sz_29.out
  have zz7 := sz_37.out
  have zz8 := sz_39.out
  have zz9 := sz_40.out
  have zz10 := sz_46.out
  have zz11 := sz_48.out
  have zz12 := sz_58.out
  have zz13 := sz_60.out
  have zz14 := sz_61.out
  have zz15 := sz_62.out
  have zz16 := sz_70.out
  have zz17 := sz_72.out
  have zz18 := sz_89.out
  have zz19 := sz_98.out
  have zz20 := sz_107.out
  have zz21 := sz_118.out
  have zz22 := sz_129.out
  have zz23 := sz_144.out
  have H_149 := Lib.hid (Wr.orig hwr H_138.out (by omega) (by omega))
  clear H_138
  have Bgraph_150 := Lib.hid (Wr.blk hwr Bgraph_139.out (by omega))
  clear Bgraph_139
  have Rw_151 := Lib.hid (FOwn.wr hwr Rw_140.out (by omega))
  clear Rw_140
  have Bw_152 := Lib.hid (Wr.blk hwr Bw_141.out (by omega))
  clear Bw_141
  have Bg_153 := Lib.hid (Wr.blk hwr Bg_143.out (by omega))
  clear Bg_143
  clear zz0 zz1 zz2 zz3 zz4 zz5 zz6 zz7 zz8 zz9 zz10 zz11 zz12 zz13 zz14 zz15 zz16 zz17 zz18 zz19 zz20 zz21 zz22 zz23
  have sz_154 := Lib.hid (Wr.size hwr)
  clear hwr
  have M_155 := Lib.hid (hm)
  clear hm
  have x_156 := Bg_153.out.cell (i := 0) rfl
  have x_157 := Bg_153.out.cell (i := 1) rfl
  have x_158 := Bg_153.out.cell (i := 2) rfl
  have lt_159 := Bg_153.out.lt
  go_wp2_with fail
  refine (CHR.out _ _ _ _ _ M_155.out).mono ?_
  rintro e w13 ⟨rfl, hb⟩
  clear x_156 x_157 x_158 lt_159
  have H_160 := Lib.hid (g_chain H_149.out hb)
  clear H_149
  have Bgraph_161 := Lib.hid (Bgraph_150.out.below hb)
  clear Bgraph_150
  have Rw_162 := Lib.hid (Rw_151.out.below hb)
  clear Rw_151
  have Bw_163 := Lib.hid (Bw_152.out.below hb)
  clear Bw_152
  have Bg_164 := Lib.hid (Bg_153.out.below hb)
  clear Bg_153
  have M_165 := Lib.hid (M_155.out.below hb)
  clear M_155
  have sz_166 := Lib.hid (Below.size hb)
  clear hb
  have x_167 := Bgraph_161.out.cell (i := 0) rfl
  have x_168 := Bgraph_161.out.cell (i := 1) rfl
  have lt_169 := Bgraph_161.out.lt
  go_wp2_with fail
  refine (CTG.out _ H_160.out).mono ?_
  rintro e w14 ⟨Agy, cgy, rfl, ho, hb⟩
  clear x_167 x_168 lt_169
  have H_170 := Lib.hid (g_chain H_160.out hb)
  clear H_160
  have Bgraph_171 := Lib.hid (Bgraph_161.out.below hb)
  clear Bgraph_161
  have Rw_172 := Lib.hid (Rw_162.out.below hb)
  clear Rw_162
  have Bw_173 := Lib.hid (Bw_163.out.below hb)
  clear Bw_163
  have Bg_174 := Lib.hid (Bg_164.out.below hb)
  clear Bg_164
  have M_175 := Lib.hid (M_165.out.below hb)
  clear M_165
  have sz_176 := Lib.hid (Below.size hb)
  have graphy_177 := Lib.hid (GOwn.of ho)
  clear hb
  clear ho
  go_wp2_with fail
  refine (CI.out _ _ _ _ _ _ graphy_177.out).mono ?_
  rintro e w15 ⟨Afh, cfh, Bfh, dfh, rfl, ho, hb⟩
  have H_178 := Lib.hid (g_chain H_170.out hb)
  clear H_170
  have Bgraph_179 := Lib.hid (Bgraph_171.out.below hb)
  clear Bgraph_171
  have Rw_180 := Lib.hid (Rw_172.out.below hb)
  clear Rw_172
  have Bw_181 := Lib.hid (Bw_173.out.below hb)
  clear Bw_173
  have Bg_182 := Lib.hid (Bg_174.out.below hb)
  clear Bg_174
  have M_183 := Lib.hid (M_175.out.below hb)
  clear M_175
  have graphy_184 := Lib.hid (graphy_177.out.below hb)
  clear graphy_177
  have sz_185 := Lib.hid (Below.size hb)
  have Rh_186 := Lib.hid (ho)
  clear hb
  clear ho
  have hb := below_a1 w15 (.cells #[.int .i64 rN, .slice Afh rE.length cfh, .slice Bfh rL.length dfh] 26)
  have sz_187 := Lib.hid (Blk.lt Bgraph_179.out)
  have sz_188 := Lib.hid (Blk.lt Bw_181.out)
  have sz_189 := Lib.hid (Blk.lt Bg_182.out)
  have H_190 := Lib.hid (g_chain H_178.out hb)
  clear H_178
  have Bgraph_191 := Lib.hid (Bgraph_179.out.below hb)
  clear Bgraph_179
  have Rw_192 := Lib.hid (Rw_180.out.below hb)
  clear Rw_180
  have Bw_193 := Lib.hid (Bw_181.out.below hb)
  clear Bw_181
  have Bg_194 := Lib.hid (Bg_182.out.below hb)
  clear Bg_182
  have M_195 := Lib.hid (M_183.out.below hb)
  clear M_183
  have graphy_196 := Lib.hid (graphy_184.out.below hb)
  clear graphy_184
  have Rh_197 := Lib.hid (Rh_186.out.below hb)
  clear Rh_186
  have sz_198 := Lib.hid (Below.size hb)
  clear hb
  have Bh_199 := Lib.hid (Blk.new w15 #[.int .i64 rN, .slice Afh rE.length cfh, .slice Bfh rL.length dfh] 26)
  have sz_200 : Hid (w15.heap.size + 1 ≤ (w15.alloc (.cells #[.int .i64 rN, .slice Afh rE.length cfh, .slice Bfh rL.length dfh] 26)).heap.size) := Lib.hid (by simp)
  clear graphy_196
  have x_201 := Bh_199.out.cell (i := 0) rfl
  have x_202 := Bh_199.out.cell (i := 1) rfl
  have x_203 := Bh_199.out.cell (i := 2) rfl
  have lt_204 := Bh_199.out.lt
  have x_205 := Bw_193.out.cell (i := 0) rfl
  have x_206 := Bw_193.out.cell (i := 1) rfl
  have x_207 := Bw_193.out.cell (i := 2) rfl
  have lt_208 := Bw_193.out.lt
  go_wp2_with fail
  refine (CER.out _ _ _ _ _ _ _ _ _ _ _ _ _ _ _ Rh_197.out Rw_192.out).mono ?_
  rintro e w16 ⟨rfl, hb⟩
  clear x_201 x_202 x_203 lt_204 x_205 x_206 x_207 lt_208
  have H_209 := Lib.hid (g_chain H_190.out hb)
  clear H_190
  have Bgraph_210 := Lib.hid (Bgraph_191.out.below hb)
  clear Bgraph_191
  have Rw_211 := Lib.hid (Rw_192.out.below hb)
  clear Rw_192
  have Bw_212 := Lib.hid (Bw_193.out.below hb)
  clear Bw_193
  have Bg_213 := Lib.hid (Bg_194.out.below hb)
  clear Bg_194
  have M_214 := Lib.hid (M_195.out.below hb)
  clear M_195
  have Rh_215 := Lib.hid (Rh_197.out.below hb)
  clear Rh_197
  have Bh_216 := Lib.hid (Bh_199.out.below hb)
  clear Bh_199
  have sz_217 := Lib.hid (Below.size hb)
  clear hb
  have x_218 := Bg_213.out.cell (i := 0) rfl
  have x_219 := Bg_213.out.cell (i := 1) rfl
  have x_220 := Bg_213.out.cell (i := 2) rfl
  have lt_221 := Bg_213.out.lt
  go_wp2_with fail
  refine (CHR.out _ _ _ _ _ M_214.out).mono ?_
  rintro e w17 ⟨rfl, hb⟩
  clear x_218 x_219 x_220 lt_221
  have H_222 := Lib.hid (g_chain H_209.out hb)
  clear H_209
  have Bgraph_223 := Lib.hid (Bgraph_210.out.below hb)
  clear Bgraph_210
  have Rw_224 := Lib.hid (Rw_211.out.below hb)
  clear Rw_211
  have Bw_225 := Lib.hid (Bw_212.out.below hb)
  clear Bw_212
  have Bg_226 := Lib.hid (Bg_213.out.below hb)
  clear Bg_213
  have M_227 := Lib.hid (M_214.out.below hb)
  clear M_214
  have Rh_228 := Lib.hid (Rh_215.out.below hb)
  clear Rh_215
  have Bh_229 := Lib.hid (Bh_216.out.below hb)
  clear Bh_216
  have sz_230 := Lib.hid (Below.size hb)
  clear hb
  go_wp2
  go_ret
  exact ⟨rfl, H_222.out⟩
end Go.Proofs.Ytpgnappddddlpaa
