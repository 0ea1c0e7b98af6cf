/- The program's farm of a graph. Condition: at most 2^20 edges. // The contract of the model's Shards. Condition: at most 2^20 edges and ends. -/
import Derived.Test.YtpgnappddddlpaaCOG
import Derived.Test.YtpgnappddddlpaaCOC
import Derived.Test.YtpgnappddddlpaaCOH
import Derived.Test.YtpgnappddddlpaaKDealI
import Derived.Deep.DeepCutAuto
import Derived.Deep.RegionHeld3
import Derived.Deep.RegionWith
import Derived.Test.YtpgnappddddlpaaCOF
import Derived.Test.YtpgnappddddlpaaCOE
import Derived.Test.YtpgnappddddlpaaCOL
import Derived.Test.YtpgnappddddlpaaCOB
import Derived.Test.YtpgnappddddlpaaCOJ
import Derived.Deep.RegionLaw
namespace Go.Proofs.Ytpgnappddddlpaa
open Go.RowKit
set_option linter.unusedVariables false

theorem held_nameFi {P : Program} {md : Region.Mode} {ops : Array Oper} {Q : Exit → Act → World → Prop} {S : World → Prop} {fuel : Nat} {listed : Array Bool} {a : Act} {w : World} (hS : S w) (h : S w → wpAnyH P md ops Q S fuel listed a w) : wpAnyH P md ops Q S fuel listed a w := h hS
set_option maxRecDepth 20000 in
set_option maxHeartbeats 8000000 in
theorem implFarmOf (N : Int) (A : Option Addr) (n c : Nat) (G : List GE) (b s : Int) (w : World) (hr : SlG w A n G) (hn : n ≤ 1048576) (hs : s ≤ 9223372036854775807) :
    Calls Try.prog 29 #[.agg #[.int .i64 N, .slice A n c], .int .i64 b, .int .i64 s] w (MadeFB w (foN N G b s) (foE N G b s) (foL N G b s) (foB N G b s)) := by
  have CG := Lib.hid (fun W (h : Below w.heap.size w W) => implGraphOk N A n c G W (hr.below h) hn)
  have CC := Lib.hid (fun W (h : Below w.heap.size w W) => implCut N A n c G b W (hr.below h) hn)
  have CS := Lib.hid (fun W E m d ends (h : Below w.heap.size w W) (hI : SlI W E m ends) (hm : m ≤ 1048576) => implShards N A n c G E m d ends s W (hr.below h) hn hI hm hs)
  unfold MadeI at CC
  unfold MadeHs at CS
  clear hr
  have CB := Lib.hid (fun W => isBudget_any b W)
  have H_1 := Lib.hid (g_chain (g_chain (Below.refl w.heap.size w) (below_a1 w (.cells #[.int .i64 N, .slice A n c] 58))) (below_a1 (w.alloc (.cells #[.int .i64 N, .slice A n c] 58)) (.cells #[.int .i64 0, .slice none 0 0, .slice none 0 0] 26)))
  have BX_2 : Hid (Blk ((w.alloc (.cells #[.int .i64 N, .slice A n c] 58)).alloc (.cells #[.int .i64 0, .slice none 0 0, .slice none 0 0] 26)) (w.heap.size) #[.int .i64 N, .slice A n c] 58) := Lib.hid (by have h := (Blk.new w #[.int .i64 N, .slice A n c] 58).alloc (.cells #[.int .i64 0, .slice none 0 0, .slice none 0 0] 26); simpa [Nat.add_assoc] using h)
  have BZ_3 : Hid (Blk ((w.alloc (.cells #[.int .i64 N, .slice A n c] 58)).alloc (.cells #[.int .i64 0, .slice none 0 0, .slice none 0 0] 26)) (w.heap.size + 1) #[.int .i64 0, .slice none 0 0, .slice none 0 0] 26) := Lib.hid (by have h := Blk.new (w.alloc (.cells #[.int .i64 N, .slice A n c] 58)) #[.int .i64 0, .slice none 0 0, .slice none 0 0] 26; simpa [Nat.add_assoc] using h)
  have sz0 : Hid (w.heap.size + 2 ≤ ((w.alloc (.cells #[.int .i64 N, .slice A n c] 58)).alloc (.cells #[.int .i64 0, .slice none 0 0, .slice none 0 0] 26)).heap.size) := Lib.hid (by simp)
  cases hv : graphB N G with
  | false =>
    rw [hv] at CG
    have HNO := Lib.hid (foB_no1 (b := b) (s := s) hv)
    clear hv
    go_enter Try.func29, Try.ntmps29
    go_wp2_with fail
    refine (CG.out _ H_1.out).mono ?_
    rintro e w1 ⟨rfl, hb⟩
    have H_4 := Lib.hid (g_chain H_1.out hb)
    clear H_1
    have BX_5 := Lib.hid (BX_2.out.below hb)
    clear BX_2
    have BZ_6 := Lib.hid (BZ_3.out.below hb)
    clear BZ_3
    have sz_7 := Lib.hid (Below.size hb)
    clear hb
    have x_8 := BZ_6.out.cell (i := 0) rfl
    have x_9 := BZ_6.out.cell (i := 1) rfl
    have x_10 := BZ_6.out.cell (i := 2) rfl
    have fz_11 := fun i => BZ_6.out.frozen i
    have lt_12 := BZ_6.out.lt
    go_wp2
    refine bodyPost_ret (v := .tuple #[.agg #[.int .i64 0, .slice none 0 0, .slice none 0 0], .bool false]) (by simp [results, Try.results29, go_sem, x_8, x_9, x_10]) rfl ?_
    rw [HNO.out, (fo_no HNO.out).1, (fo_no HNO.out).2.1, (fo_no HNO.out).2.2]
    exact ⟨none, 0, none, 0, rfl, ⟨World.ownsRow_nil _ _ _ _, ⟨[], ⟨World.ownsRow_nil _ _ _ _, rfl, OwnHL.nil⟩, rfl, fun g hg => by rcases hg with hg | ⟨x, hx, _⟩; cases hg; cases hx⟩, fun g hg => by cases hg⟩, by repeat (first | exact H_4.out | refine Below.setCell ?_ (by simp) _ | refine g_chain ?_ (below_a1 _ _))⟩
  | true =>
    rw [hv] at CG
    by_cases hb1 : 1 ≤ b
    rotate_left
    · skip
      have HNO := Lib.hid (foB_no2 (N := N) (G := G) (b := b) (s := s) (fun h => hb1 h.1))
      clear hv
      rw [decide_eq_false (fun h : 1 ≤ b ∧ b ≤ 400 => hb1 h.1)] at CB
      clear hb1
      go_enter Try.func29, Try.ntmps29
      go_wp2_with fail
      refine (CG.out _ H_1.out).mono ?_
      rintro e w1 ⟨rfl, hb⟩
      have H_13 := Lib.hid (g_chain H_1.out hb)
      clear H_1
      have BX_14 := Lib.hid (BX_2.out.below hb)
      clear BX_2
      have BZ_15 := Lib.hid (BZ_3.out.below hb)
      clear BZ_3
      have sz_16 := Lib.hid (Below.size hb)
      clear hb
      go_wp2_with fail
      refine (CB.out _).mono ?_
      rintro e9 w9 ⟨rfl, hsame⟩
      obtain rfl := hsame
      have x_17 := BZ_15.out.cell (i := 0) rfl
      have x_18 := BZ_15.out.cell (i := 1) rfl
      have x_19 := BZ_15.out.cell (i := 2) rfl
      have fz_20 := fun i => BZ_15.out.frozen i
      have lt_21 := BZ_15.out.lt
      go_wp2
      refine bodyPost_ret (v := .tuple #[.agg #[.int .i64 0, .slice none 0 0, .slice none 0 0], .bool false]) (by simp [results, Try.results29, go_sem, x_17, x_18, x_19]) rfl ?_
      rw [HNO.out, (fo_no HNO.out).1, (fo_no HNO.out).2.1, (fo_no HNO.out).2.2]
      exact ⟨none, 0, none, 0, rfl, ⟨World.ownsRow_nil _ _ _ _, ⟨[], ⟨World.ownsRow_nil _ _ _ _, rfl, OwnHL.nil⟩, rfl, fun g hg => by rcases hg with hg | ⟨x, hx, _⟩; cases hg; cases hx⟩, fun g hg => by cases hg⟩, by repeat (first | exact H_13.out | refine Below.setCell ?_ (by simp) _ | refine g_chain ?_ (below_a1 _ _))⟩
    by_cases hb2 : b ≤ 400
    rotate_left
    · skip
      have HNO := Lib.hid (foB_no2 (N := N) (G := G) (b := b) (s := s) (fun h => hb2 h.2.1))
      clear hv
      rw [decide_eq_false (fun h : 1 ≤ b ∧ b ≤ 400 => hb2 h.2)] at CB
      clear hb1 hb2
      go_enter Try.func29, Try.ntmps29
      go_wp2_with fail
      refine (CG.out _ H_1.out).mono ?_
      rintro e w1 ⟨rfl, hb⟩
      have H_22 := Lib.hid (g_chain H_1.out hb)
      clear H_1
      have BX_23 := Lib.hid (BX_2.out.below hb)
      clear BX_2
      have BZ_24 := Lib.hid (BZ_3.out.below hb)
      clear BZ_3
      have sz_25 := Lib.hid (Below.size hb)
      clear hb
      go_wp2_with fail
      refine (CB.out _).mono ?_
      rintro e9 w9 ⟨rfl, hsame⟩
      obtain rfl := hsame
      have x_26 := BZ_24.out.cell (i := 0) rfl
      have x_27 := BZ_24.out.cell (i := 1) rfl
      have x_28 := BZ_24.out.cell (i := 2) rfl
      have fz_29 := fun i => BZ_24.out.frozen i
      have lt_30 := BZ_24.out.lt
      go_wp2
      refine bodyPost_ret (v := .tuple #[.agg #[.int .i64 0, .slice none 0 0, .slice none 0 0], .bool false]) (by simp [results, Try.results29, go_sem, x_26, x_27, x_28]) rfl ?_
      rw [HNO.out, (fo_no HNO.out).1, (fo_no HNO.out).2.1, (fo_no HNO.out).2.2]
      exact ⟨none, 0, none, 0, rfl, ⟨World.ownsRow_nil _ _ _ _, ⟨[], ⟨World.ownsRow_nil _ _ _ _, rfl, OwnHL.nil⟩, rfl, fun g hg => by rcases hg with hg | ⟨x, hx, _⟩; cases hg; cases hx⟩, fun g hg => by cases hg⟩, by repeat (first | exact H_22.out | refine Below.setCell ?_ (by simp) _ | refine g_chain ?_ (below_a1 _ _))⟩
    rw [decide_eq_true (⟨hb1, hb2⟩ : 1 ≤ b ∧ b ≤ 400)] at CB
    by_cases hb3 : 1 ≤ s
    rotate_left
    · skip
      have HNO := Lib.hid (foB_no2 (N := N) (G := G) (b := b) (s := s) (fun h => hb3 h.2.2))
      have hb3' : s < 1 := by omega
      clear hv hb3
      go_enter Try.func29, Try.ntmps29
      go_wp2_with fail
      refine (CG.out _ H_1.out).mono ?_
      rintro e w1 ⟨rfl, hb⟩
      have H_31 := Lib.hid (g_chain H_1.out hb)
      clear H_1
      have BX_32 := Lib.hid (BX_2.out.below hb)
      clear BX_2
      have BZ_33 := Lib.hid (BZ_3.out.below hb)
      clear BZ_3
      have sz_34 := Lib.hid (Below.size hb)
      clear hb
      go_wp2_with fail
      refine (CB.out _).mono ?_
      rintro e9 w9 ⟨rfl, hsame⟩
      obtain rfl := hsame
      have x_35 := BZ_33.out.cell (i := 0) rfl
      have x_36 := BZ_33.out.cell (i := 1) rfl
      have x_37 := BZ_33.out.cell (i := 2) rfl
      have fz_38 := fun i => BZ_33.out.frozen i
      have lt_39 := BZ_33.out.lt
      go_wp2
      refine bodyPost_ret (v := .tuple #[.agg #[.int .i64 0, .slice none 0 0, .slice none 0 0], .bool false]) (by simp [results, Try.results29, go_sem, x_35, x_36, x_37]) rfl ?_
      rw [HNO.out, (fo_no HNO.out).1, (fo_no HNO.out).2.1, (fo_no HNO.out).2.2]
      exact ⟨none, 0, none, 0, rfl, ⟨World.ownsRow_nil _ _ _ _, ⟨[], ⟨World.ownsRow_nil _ _ _ _, rfl, OwnHL.nil⟩, rfl, fun g hg => by rcases hg with hg | ⟨x, hx, _⟩; cases hg; cases hx⟩, fun g hg => by cases hg⟩, by repeat (first | exact H_31.out | refine Below.setCell ?_ (by simp) _ | refine g_chain ?_ (below_a1 _ _))⟩
    have HYES := Lib.hid (foB_yes hv hb1 hb2 hb3)
    clear hv
    go_enter Try.func29, Try.ntmps29
    go_wp2_with fail
    refine (CG.out _ H_1.out).mono ?_
    rintro e w1 ⟨rfl, hb⟩
    have H_40 := Lib.hid (g_chain H_1.out hb)
    clear H_1
    have BX_41 := Lib.hid (BX_2.out.below hb)
    clear BX_2
    have BZ_42 := Lib.hid (BZ_3.out.below hb)
    clear BZ_3
    have sz_43 := Lib.hid (Below.size hb)
    clear hb
    go_wp2_with fail
    refine (CB.out _).mono ?_
    rintro e9 w9 ⟨rfl, hsame⟩
    obtain rfl := hsame
    have x_44 := BX_41.out.cell (i := 0) rfl
    have x_45 := BX_41.out.cell (i := 1) rfl
    go_wp2_with fail
    refine (CC.out _ H_40.out).mono ?_
    rintro e w2 ⟨A2, n2, c2, rfl, ho, hb⟩
    clear x_44
    clear x_45
    have H_46 := Lib.hid (g_chain H_40.out hb)
    clear H_40
    have BX_47 := Lib.hid (BX_41.out.below hb)
    clear BX_41
    have BZ_48 := Lib.hid (BZ_42.out.below hb)
    clear BZ_42
    have sz_49 := Lib.hid (Below.size hb)
    have HCL := Lib.hid (show n2 = (cutR N G b).length by have := ho.1; rw [vi_len] at this; omega)
    have hn2 : n2 ≤ 150 := by rw [HCL.out]; exact cut_few N G b
    have LW := Lib.hid H_46.out.size
    have LOE := Lib.hid ho.lt
    have OE_50 := Lib.hid (ho)
    skip
    clear ho hb
    go_upto_region 4 with fail
    refine wp_region_any (by kernel_rfl) ?_
    change wpAny _ _ _ _ _ _ _ (World.drew _)
    have hb : Below w2.heap.size w2 (World.drew w2) := (Below.refl _ _).drew
    have H_51 := Lib.hid (g_chain H_46.out hb)
    clear H_46
    have BX_52 := Lib.hid (BX_47.out.below hb)
    clear BX_47
    have BZ_53 := Lib.hid (BZ_48.out.below hb)
    clear BZ_48
    have OE_54 := Lib.hid (own_below OE_50.out hb)
    clear OE_50
    have sz_55 := Lib.hid (Below.size hb)
    clear hb
    generalize hDD : World.drew w2 = w3 at H_51 BX_52 BZ_53 OE_54 sz_55 ⊢
    clear hDD
    refine wpAny_of_held (S := fun W => W.cell? ⟨w.heap.size, 0, none⟩ = some (.int .i64 N) ∧ W.cell? ⟨w.heap.size, 1, none⟩ = some (.slice A n c)) _ _ _ _ ?_
    have LBZ : Hid (w.heap.size + 1 < w3.heap.size) := Lib.hid BZ_53.out.lt
    refine held_nameFi ⟨BX_52.out.cell (i := 0) rfl, BX_52.out.cell (i := 1) rfl⟩ (fun hS => ?_)
    refine wpAnyH_take (i := 0) (oi := ⟨_, _, _, _, _, _⟩) (v := .pointer (some ⟨w.heap.size, 0, none⟩)) rfl (by kernel_rfl) (by kernel_rfl) (by kernel_rfl) (fun _ _ _ h => h) (Or.inl ⟨by kernel_rfl, fun W hS => by (obtain ⟨s0, s1⟩ := hS); go_simp⟩) hS ?_
    (try simp only [Act.put, List.setIfInBounds_toArray, List.set_cons_zero, List.set_cons_succ])
    refine wpAnyH_take (i := 1) (oi := ⟨_, _, _, _, _, _⟩) (v := .int .i64 N) rfl (by kernel_rfl) (by kernel_rfl) (by kernel_rfl) (fun _ _ _ h => h) (Or.inl ⟨by kernel_rfl, fun W hS => by (obtain ⟨s0, s1⟩ := hS); go_simp⟩) hS ?_
    (try simp only [Act.put, List.setIfInBounds_toArray, List.set_cons_zero, List.set_cons_succ])
    refine wpAnyH_take (i := 2) (oi := ⟨_, _, _, _, _, _⟩) (v := .slice A2 n2 c2) rfl (by kernel_rfl) (by kernel_rfl) (by kernel_rfl) (fun _ _ _ h => h) (Or.inl ⟨by kernel_rfl, fun W hS => by (obtain ⟨s0, s1⟩ := hS); go_simp⟩) hS ?_
    (try simp only [Act.put, List.setIfInBounds_toArray, List.set_cons_zero, List.set_cons_succ])
    refine wpAnyH_take (i := 3) (oi := ⟨_, _, _, _, _, _⟩) (v := .agg #[.int .i64 N, .slice A n c]) rfl (by kernel_rfl) (by kernel_rfl) (by kernel_rfl) (fun _ _ _ h => h) (Or.inl ⟨by kernel_rfl, fun W hS => by (obtain ⟨s0, s1⟩ := hS); go_simp⟩) hS ?_
    (try simp only [Act.put, List.setIfInBounds_toArray, List.set_cons_zero, List.set_cons_succ])
    refine wpAnyH_take (i := 4) (oi := ⟨_, _, _, _, _, _⟩) (v := .slice A2 n2 c2) rfl (by kernel_rfl) (by kernel_rfl) (by kernel_rfl) (fun _ _ _ h => h) (Or.inl ⟨by kernel_rfl, fun W hS => by (obtain ⟨s0, s1⟩ := hS); go_simp⟩) hS ?_
    (try simp only [Act.put, List.setIfInBounds_toArray, List.set_cons_zero, List.set_cons_succ])
    refine wpAnyH_take (i := 5) (oi := ⟨_, _, _, _, _, _⟩) (v := .int .i64 s) rfl (by kernel_rfl) (by kernel_rfl) (by kernel_rfl) (fun _ _ _ h => h) (Or.inl ⟨by kernel_rfl, fun W hS => by (obtain ⟨s0, s1⟩ := hS); go_simp⟩) hS ?_
    (try simp only [Act.put, List.setIfInBounds_toArray, List.set_cons_zero, List.set_cons_succ])
    refine wpAnyH_ready (rs := [6]) (by kernel_rfl) (by simp) (AllReadyH.cons rfl (fun K hK => ?_) AllReadyH.nil)
    go_simp
    go_at_call 76
    refine (CS.out _ _ _ _ _ H_51.out (SlI.of_own OE_54.out) (by omega)).mono ?_
    rintro e1 w4 ⟨A3, n3, c3, bs3, rfl, ho, hx, hb⟩
    have HO3 := Lib.hid (HOwn.of ho hx)
    have LSZ := Lib.hid (Below.size hb)
    have H_56 := Lib.hid (g_chain H_51.out hb)
    clear H_51
    have BX_57 := Lib.hid (BX_52.out.below hb)
    clear BX_52
    have BZ_58 := Lib.hid (BZ_53.out.below hb)
    clear BZ_53
    have OE_59 := Lib.hid (own_below OE_54.out hb)
    clear OE_54
    have sz_60 := Lib.hid (Below.size hb)
    clear ho hx hb
    dsimp only
    refine hK.out _ _ ⟨BX_57.out.cell (i := 0) rfl, BX_57.out.cell (i := 1) rfl⟩ (fun hS => ?_)
    clear hK K
    (try simp only [Act.put, List.setIfInBounds_toArray, List.set_cons_zero, List.set_cons_succ])
    refine wpAnyH_take (i := 7) (oi := ⟨_, _, _, _, _, _⟩) (v := .agg #[.int .i64 N, .slice A2 n2 c2, .slice A3 n3 c3]) rfl (by kernel_rfl) (by kernel_rfl) (by kernel_rfl) (fun _ _ _ h => h) (Or.inl ⟨by kernel_rfl, fun W hS => by (obtain ⟨s0, s1⟩ := hS); go_simp⟩) hS ?_
    (try simp only [Act.put, List.setIfInBounds_toArray, List.set_cons_zero, List.set_cons_succ])
    refine wpAnyH_ready (rs := [8]) (by kernel_rfl) (by simp) (AllReadyH.cons rfl (fun K hK => ?_) AllReadyH.nil)
    have z0 := BZ_58.out.cell (i := 0) rfl
    have f0 := BZ_58.out.frozen 0
    have z1 := BZ_58.out.cell (i := 1) rfl
    have f1 := BZ_58.out.frozen 1
    have z2 := BZ_58.out.cell (i := 2) rfl
    have f2 := BZ_58.out.frozen 2
    go_simp
    clear z0 f0 z1 f1 z2 f2
    have hgr := ((grown_cell w4 (w.heap.size + 1) 0 (.int .i64 N)).trans (grown_cell (w4.setCell ⟨w.heap.size + 1, 0, none⟩ (.int .i64 N)) (w.heap.size + 1) 1 (.slice A2 n2 c2))).trans (grown_cell ((w4.setCell ⟨w.heap.size + 1, 0, none⟩ (.int .i64 N)).setCell ⟨w.heap.size + 1, 1, none⟩ (.slice A2 n2 c2)) (w.heap.size + 1) 2 (.slice A3 n3 c3))
    have hop : OnlyB (fun g => g = w.heap.size + 1) w4 (((w4.setCell ⟨w.heap.size + 1, 0, none⟩ (.int .i64 N)).setCell ⟨w.heap.size + 1, 1, none⟩ (.slice A2 n2 c2)).setCell ⟨w.heap.size + 1, 2, none⟩ (.slice A3 n3 c3)) := (OnlyB.refl _ _).grown hgr (fun i hi => by injection hi with hi; exact hi.symm)
    have HO4 : Hid (HOwn (((w4.setCell ⟨w.heap.size + 1, 0, none⟩ (.int .i64 N)).setCell ⟨w.heap.size + 1, 1, none⟩ (.slice A2 n2 c2)).setCell ⟨w.heap.size + 1, 2, none⟩ (.slice A3 n3 c3)) w.heap.size w.heap.size (((w4.setCell ⟨w.heap.size + 1, 0, none⟩ (.int .i64 N)).setCell ⟨w.heap.size + 1, 1, none⟩ (.slice A2 n2 c2)).setCell ⟨w.heap.size + 1, 2, none⟩ (.slice A3 n3 c3)).heap.size A3 n3 c3 (shardsR N G (cutR N G b) s)) := Lib.hid (by
      obtain ⟨b3, k1, k2, k3⟩ := HO3.out
      have k4 := fun g hg => k1.blk (k := g) hg
      have hw1 := hgr.size
      refine ⟨b3, (k1.but hop (fun g hg hh => by have h3 := k3 g hg; have h4 := BZ_58.out.lt; have h5 := LBZ.out; omega)).mono (by have h5 := LBZ.out; omega), k2, fun g hg => ?_⟩
      have h3 := k3 g hg
      have h5 := LBZ.out
      omega)
    have OE_61 := Lib.hid (own_kept OE_59.out hgr (own_kind OE_59.out BZ_58.out (by decide)))
    have H_62 := Lib.hid (H_56.out.grown hgr H_56.out.size (fun j hj => by injection hj with hj; omega))
    have BX_63 := Lib.hid (BX_57.out.grown hgr (by intro e; injection e with e; omega))
    have BZ9 : Hid (Blk (((w4.setCell ⟨w.heap.size + 1, 0, none⟩ (.int .i64 N)).setCell ⟨w.heap.size + 1, 1, none⟩ (.slice A2 n2 c2)).setCell ⟨w.heap.size + 1, 2, none⟩ (.slice A3 n3 c3)) (w.heap.size + 1) #[.int .i64 N, .slice A2 n2 c2, .slice A3 n3 c3] 26) := Lib.hid (Blk.set (Blk.set (Blk.set (BZ_58.out) 0 (.int .i64 N)) 1 (.slice A2 n2 c2)) 2 (.slice A3 n3 c3))
    have SZ9 := Lib.hid hgr.size
    clear hgr hop
    refine hK.out _ _ ⟨BX_63.out.cell (i := 0) rfl, BX_63.out.cell (i := 1) rfl⟩ (fun hS => ?_)
    clear hK K
    (try simp only [Act.put, List.setIfInBounds_toArray, List.set_cons_zero, List.set_cons_succ])
    refine wpAnyH_take (i := 9) (oi := ⟨_, _, _, _, _, _⟩) (v := .bool true) rfl (by kernel_rfl) (by kernel_rfl) (by kernel_rfl) (fun _ _ _ h => h) (Or.inl ⟨by kernel_rfl, fun W hS => by (obtain ⟨s0, s1⟩ := hS); go_simp⟩) hS ?_
    (try simp only [Act.put, List.setIfInBounds_toArray, List.set_cons_zero, List.set_cons_succ])
    refine wpAnyH_done (by kernel_rfl) ?_ _
    have x_64 := BZ9.out.cell (i := 0) rfl
    have x_65 := BZ9.out.cell (i := 1) rfl
    have x_66 := BZ9.out.cell (i := 2) rfl
    have fz_67 := fun i => BZ9.out.frozen i
    have lt_68 := BZ9.out.lt
    go_wp2
    refine bodyPost_ret (v := .tuple #[.agg #[.int .i64 N, .slice A2 n2 c2, .slice A3 n3 c3], .bool true]) (by simp [results, Try.results29, go_sem, x_64, x_65, x_66]) rfl ?_
    rw [HYES.out, (fo_yes HYES.out).1, (fo_yes HYES.out).2.1, (fo_yes HYES.out).2.2]
    have e2 := HO4.out.len
    unfold MadeFB
    rw [← HCL.out, ← e2]
    exact ⟨A2, c2, A3, c3, rfl, ⟨own_monoG OE_61.out (by have := sz0.out; have := sz0.out; have := sz_43.out; have := sz_49.out; have := sz_55.out; have := sz_60.out; omega), HO4.out, fun g hg => (by have h3 := LOE.out g hg; have := SZ9.out; have := sz0.out; have := sz_43.out; have := sz_49.out; have := sz_55.out; have := sz_60.out; omega)⟩, H_62.out⟩
end Go.Proofs.Ytpgnappddddlpaa
namespace Go.Proofs.Ytpgnappddddlpaa
open Go.RowKit

set_option maxRecDepth 20000 in
set_option maxHeartbeats 8000000 in
theorem specShards (N : Int) (A : Option Addr) (n c : Nat) (es : List GE) (E : Option Addr) (m d : Nat) (ends : List Int) (size : Int) (w : World) (hr : SlG w A n es) (hn : n ≤ 1048576) (hI : SlI w E m ends) (hm : m ≤ 1048576) :
    Calls Try.prog 72 #[.agg #[.int .i64 N, .slice A n c], .slice E m d, .int .i64 size] w (MadeHs w (shardsR N es ends size)) := by
  obtain ⟨i0, hi, hz0, hz1, hz2⟩ := info_parts Try.infoRec
  have HEL := Lib.hid hr.len
  have HIL := Lib.hid hI.len
  have HR := Lib.hid hr
  have HI := Lib.hid hI
  have CG := Lib.hid (fun W (h : Below w.heap.size w W) => specGraphOk N A n c es W (hr.below h) hn)
  have CN := Lib.hid (fun W (h : Below w.heap.size w W) => specEndsOk N E m d ends W (hI.below h) hm)
  have HB0 := Lib.hid (below_a1 w (.cells #[.int .i64 N, .slice A n c] 58))
  clear hr hI
  cases hg : graphB N es with
  | false =>
    rw [shardsR_no (.inl hg)]
    rw [hg] at CG
    clear hg
    go_enter Try.func72, Try.ntmps72
    go_wp2_with fail
    refine (CG.out _ HB0.out).mono ?_
    rintro e w1 ⟨rfl, hb1⟩
    go_wp2
    go_ret
    exact hs_none _ _ (g_chain HB0.out hb1)
  | true =>
    cases hen : endsB N ends with
    | false =>
      rw [shardsR_no (.inr (.inl hen))]
      rw [hg] at CG
      rw [hen] at CN
      clear hg hen
      go_enter Try.func72, Try.ntmps72
      go_wp2_with fail
      refine (CG.out _ HB0.out).mono ?_
      rintro e w1 ⟨rfl, hb1⟩
      have HB1 := Lib.hid (g_chain HB0.out hb1)
      obtain ⟨l0, x0, x1⟩ := (NBox.new w N A n c 58).below hb1
      clear hb1
      go_wp2_with fail
      refine (CN.out _ HB1.out).mono ?_
      rintro e w2 ⟨rfl, hb2⟩
      go_wp2
      go_ret
      exact hs_none _ _ (g_chain HB1.out hb2)
    | true =>
      by_cases hsz : 1 ≤ size
      · have HG := Lib.hid hg
        have HN := Lib.hid hen
        have hn4 : n ≤ 400 := by have := (graphB_iff hg).2.2.1; have := HEL.out; omega
        rw [shardsR_yes hg hen hsz]
        rw [hg] at CG
        rw [hen] at CN
        clear hg hen
        go_enter Try.func72, Try.ntmps72
        go_wp2_with fail
        refine (CG.out _ HB0.out).mono ?_
        rintro e w1 ⟨rfl, hb1⟩
        have HB1 := Lib.hid (g_chain HB0.out hb1)
        have X1 := Lib.hid ((NBox.new w N A n c 58).below hb1)
        obtain ⟨l0, x0, x1⟩ := X1.out
        clear hb1
        go_wp2_with fail
        refine (CN.out _ HB1.out).mono ?_
        rintro e w2 ⟨rfl, hb2⟩
        have HB2 := Lib.hid (g_chain HB1.out hb2)
        have X2 := Lib.hid (X1.out.below hb2)
        have hw2 : w.heap.size < w2.heap.size := X2.out.lt
        clear hb2 l0 x0 x1 X1 HB1 CG CN
        obtain ⟨l0, x0, x1⟩ := X2.out
        go_wp2
        have O3 : Hid ((w2.alloc (.cells #[] 150)).ownsRow w2.heap.size 150 3 (.slice (some ⟨w2.heap.size, 0, none⟩) 0 0) 0 ((recsK ends es 0).flatMap GE.cells)) := Lib.hid (rec_built w2)
        have X3 := Lib.hid (X2.out.below (below_a1 w2 (.cells #[] 150)))
        have HB3 := Lib.hid (g_chain HB2.out (below_a1 w2 (.cells #[] 150)))
        clear l0 x0 x1
        go_loopw [7, 36] (fun u i wr => ∃ (k : Nat) (P : Option Addr) (cP : Nat), k ≤ n ∧ i = .int .i64 k ∧ u = .slice P k cP ∧ Hid (wr.ownsRow w2.heap.size 150 3 (.slice P k cP) k ((recsK ends es k).flatMap GE.cells)) ∧ Hid (NBox wr w.heap.size N A n c) ∧ w2.heap.size ≤ wr.heap.size ∧ Hid (Below w.heap.size w wr)) (fun _ i _ => n - (intOf i).toNat)
        case atStart => exact ⟨0, _, _, Nat.zero_le _, rfl, rfl, O3, X3, by simp, HB3⟩
        case round =>
          rename World => W3
          clear O3 X3 HB3
          obtain ⟨k, P, cP, hk, rfl, rfl, hown, hx, hw23, hbel⟩ := hrel
          by_cases hlt : k < n
          · obtain ⟨b, off, e, rfl, hbw, he, c0, c1, c2⟩ := HR.out.at_ hlt
            have c0 := (hbel.out.cell (p := ⟨b, off + k * 3, none⟩) hbw).trans c0
            have c1 := (hbel.out.cell (p := ⟨b, off + k * 3 + 1, none⟩) hbw).trans c1
            have c2 := (hbel.out.cell (p := ⟨b, off + k * 3 + 2, none⟩) hbw).trans c2
            have HST := Lib.hid (recsK_step (ends := ends) he.out)
            have CI := Lib.hid (fun W (h : Below w.heap.size w W) => specIv E m d ends e.t W (HI.out.below h) hm)
            generalize ivE ends e.t = iv at CI HST
            have HBA := Lib.hid (below_a1 W3 (.cells #[.int .i64 e.f, .int .i64 e.t, .int .i64 e.w] 145))
            have EB : Hid (RBox (W3.alloc (.cells #[.int .i64 e.f, .int .i64 e.t, .int .i64 e.w] 145)) W3.heap.size e) := Lib.hid ⟨by simp, by simp, by simp, by simp⟩
            have hown1 := Lib.hid (own_below hown.out HBA.out)
            have hx1 := Lib.hid (hx.out.below HBA.out)
            have hbel1 := Lib.hid (g_chain hbel.out HBA.out)
            have hON := Lib.hid (GE.cells_one ⟨iv, e.f, (k : Int)⟩)
            obtain ⟨eb, eb0, eb1, eb2⟩ := EB.out
            go_wp2
            clear c0 c1 c2 hown hx
            have hw34 : w2.heap.size ≤ (W3.alloc (.cells #[.int .i64 e.f, .int .i64 e.t, .int .i64 e.w] 145)).heap.size := by simp; omega
            generalize W3.alloc (.cells #[.int .i64 e.f, .int .i64 e.t, .int .i64 e.w] 145) = W4 at *
            go_region_law (first
              | (refine step_append_any _ rfl (.tmp 41) (.tmp 50) _ rfl w2.heap.size 150 i0 _ 3 24 Try.underlying148 hi hz0 hz1 hz2 rfl (by omega) (.slice P k cP) k ((recsK ends es k).flatMap GE.cells) rfl (by first | exact hown5.out.alloc _ | exact own_drewN (hown5.out.alloc _) 1 | exact (own_drewN hown5.out 1).alloc _) (w5.heap.size + 1) (some ⟨w5.heap.size, 0, none⟩) 1 1 [.int .i64 iv, .int .i64 e.f, .int .i64 (k : Int)] rfl (by first | exact three_reads _ _ _ _ _ _ rfl) hON.out (by simp only [maxLen]; omega) (by omega) (by have := HB5.out.size; simp; omega) ?_; intro v6 w6 hown6 hg6 hat6; obtain ⟨P6, c6, rfl, -⟩ := own_formG hown6)
              | (go_simp; go_at_call 118; ((with_reducible refine (CI.out _ (by first | exact hbel1.out | exact hbel1.out.drew)).mono ?_)); rintro e1 w5 ⟨rfl, hb5⟩; have HB5 : Hid (Below W4.heap.size W4 w5) := Lib.hid (by first | exact (below_drewN (Below.refl _ W4) 1).trans hb5 | exact hb5); obtain ⟨el, e0, e1x, e2⟩ := EB.out.below HB5.out; have hown5 := Lib.hid (own_below hown1.out HB5.out)))
            all_goals
              have HOW := Lib.hid hown6
              have hnb : ∀ q, (Value.slice P k cP).ownBlock = some q → w2.heap.size ≤ q := fun q hq => (hown1.out.lt q hq).1
              have HX6 := Lib.hid (((hx1.out.below HB5.out).alloc (.cells #[.int .i64 iv, .int .i64 e.f, .int .i64 (k : Int)] 150)).keep hg6.size (hg6.block _ ((hx1.out.below HB5.out).alloc _).lt (fun hh => by have := hnb _ hh.symm; omega)))
              have HB6 := Lib.hid ((g_chain (g_chain hbel1.out HB5.out) (below_a1 w5 (.cells #[.int .i64 iv, .int .i64 e.f, .int .i64 (k : Int)] 150))).grown hg6 (by have := hbel1.out.size; have := HB5.out.size; simp; omega) (fun q hq => by have := hnb q hq; omega))
              have hw6 : w2.heap.size ≤ w6.heap.size := by have h1 := hg6.size; have h2 := HB5.out.size; simp at h1; omega
              clear hown6 hg6 hat6 hnb hb5 el e0 e1x e2
              go_wp2
              go_roundw
              case rel => exact ⟨k + 1, P6, c6, by omega, by go_num, rfl, Lib.hid (by rw [HST.out, List.flatMap_append]; simpa [GE.cells] using HOW.out), HX6, hw6, HB6⟩
              case measure => simp [intOf]; omega
          · obtain rfl : k = n := by omega
            have hL := merge_batches hsz (recsK ends es k)
            have hrl : (recsK ends es k).length = k := recsK_len ends es k
            have CSO := Lib.hid (specSortAll P k cP (recsK ends es k) size W3 (SlG.of_own hown.out hrl) (by omega) (bat_cap hown.out))
            rw [hL] at CSO
            have hLL : sortR (recsK ends es k) = sortedRecs ends es := by unfold sortedRecs; rw [HEL.out]
            rw [hLL] at CSO
            clear hL hLL hrl
            have HRG := Lib.hid (fun r (h : r ∈ sortedRecs ends es) => rec_range HG.out HN.out h)
            have hlen : (sortedRecs ends es).length = k := by rw [sortedRecs_len, HEL.out]
            have HSL := Lib.hid hlen
            generalize hLs : sortedRecs ends es = L at CSO HRG HSL
            have hlen2 : L.length = k := HSL.out
            unfold MadeRc at CSO
            have HLS := Lib.hid hLs
            clear hLs hlen
            go_wp2_with fail
            refine CSO.out.mono ?_
            rintro e1 w6 ⟨A7, c7, rfl, ho7, hb7⟩
            have D7 := Lib.hid (SlG.of_own ho7 rfl)
            have HB7 := Lib.hid (g_chain hbel.out hb7)
            have X7 := Lib.hid (hx.out.below hb7)
            have hw6 : w.heap.size < w6.heap.size := X7.out.lt
            clear ho7 hb7 CSO hown hx
            obtain ⟨j0, hj, jz0, jz1, jz2⟩ := info_parts Try.infoSEdge
            obtain ⟨k0, hk0, kz0, kz1, kz2⟩ := info_parts Try.infoShard
            have O8 : Hid (OwnH (w6.alloc (.cells #[] 85)) w6.heap.size (some ⟨w6.heap.size, 0, none⟩) 0 0 []) := Lib.hid ⟨he_built w6, rfl, OwnHL.nil⟩
            have HB8 := Lib.hid (below_a1 w6 (.cells #[] 85))
            have CSP := Lib.hid (fun (p : Int) W (h : Below w.heap.size w W) => specSpan E m d ends p W (HI.out.below h) hm)
            go_wp2
            go_loopw [10, 59] (fun u i wr => ∃ (p : Nat) (P : Option Addr) (cP : Nat) (bs : List HE), p ≤ m ∧ i = .int .i64 p ∧ u = .slice P p cP ∧ Hid (bs.map HE.sd = shardRow ends es L p) ∧ Hid (OwnH wr w6.heap.size P p cP bs) ∧ Hid (Below w6.heap.size w6 wr)) (fun _ i _ => m - (intOf i).toNat)
            case atStart => exact ⟨0, _, _, [], Nat.zero_le _, rfl, rfl, Lib.hid rfl, O8, HB8⟩
            case round =>
              rename World => W7
              clear O8 HB8
              obtain ⟨p, Q, cQ, bs, hp, rfl, rfl, hbs, hout, hbel6⟩ := hrel
              by_cases hlp : p < m
              · have HBW := Lib.hid (HB7.out.trans (hbel6.out.mono (Nat.le_of_lt hw6)))
                have HSA : Hid (shardAt ends es L p = ((spanR ends (p : Int)).1, (spanR ends (p : Int)).2, dealt es L (p : Int))) := Lib.hid rfl
                have CS1 := Lib.hid (CSP.out (p : Int) W7 HBW.out)
                generalize (spanR ends (p : Int)).1 = slo at CS1 HSA
                generalize (spanR ends (p : Int)).2 = shi at CS1 HSA
                go_wp2_with fail
                refine CS1.out.mono ?_
                rintro e2 w8 ⟨rfl, hb8⟩
                have hout8 := Lib.hid (hout.out.below hb8)
                have HB8 := Lib.hid (g_chain hbel6.out hb8)
                have hw68 : w6.heap.size ≤ w8.heap.size := HB8.out.size
                clear hb8 hout hbel6 CS1 HBW
                have S9 := Lib.hid (Blk.new w8 #[.int .i64 slo, .int .i64 shi, .slice none 0 0] 85)
                have hw9 : (w8.alloc (.cells #[.int .i64 slo, .int .i64 shi, .slice none 0 0] 85)).heap.size = w8.heap.size + 1 := by simp
                have HW9 := Lib.hid hw9
                clear hw9
                have hout9 := Lib.hid (hout8.out.below (below_a1 w8 (.cells #[.int .i64 slo, .int .i64 shi, .slice none 0 0] 85)))
                have HB9 := Lib.hid (g_chain HB8.out (below_a1 w8 (.cells #[.int .i64 slo, .int .i64 shi, .slice none 0 0] 85)))
                go_wp2
                generalize w8.alloc (.cells #[.int .i64 slo, .int .i64 shi, .slice none 0 0] 85) = W9 at *
                have hw9 : w8.heap.size < W9.heap.size := by rw [HW9.out]; omega
                go_loopw [73] (fun i wr => ∃ (q : Nat) (P : Option Addr) (cP : Nat), q ≤ L.length ∧ i = .int .i64 q ∧ Hid (Blk wr w8.heap.size #[.int .i64 slo, .int .i64 shi, .slice P (dealt es (L.take q) (p : Int)).length cP] 85) ∧ Hid (wr.ownsRow (w8.heap.size + 1) 40 5 (.slice P (dealt es (L.take q) (p : Int)).length cP) (dealt es (L.take q) (p : Int)).length ((dealt es (L.take q) (p : Int)).flatMap KE.cells)) ∧ Hid (W9.grownBy wr (some w8.heap.size))) (fun i _ => L.length - (intOf i).toNat)
                case atStart => exact ⟨0, none, 0, Nat.zero_le _, rfl, S9, Lib.hid (World.ownsRow_nil _ _ _ _), Lib.hid (World.grownBy.refl _ _)⟩
                case round =>
                  rename World => W10
                  clear S9
                  obtain ⟨q, PS, cS, hq, rfl, hS, hrow, hgr⟩ := hrel
                  have hdl := dealt_len es (L.take q) (p : Int)
                  have hdl2 : (dealt es (L.take q) (p : Int)).length ≤ 400 := by rw [List.length_take] at hdl; omega
                  by_cases hlq : q < L.length
                  · obtain ⟨b7, off7, r, rfl, hb7w, hr7, d0, d1, d2⟩ := D7.out.at_ hlq
                    have hB10 := HB9.out.grown hgr.out HB9.out.size (fun i hi => by injection hi with hi; omega)
                    have HB10 := Lib.hid hB10
                    have HLR := Lib.hid hr7.out
                    obtain ⟨pp, j, e, hre, hpp, hej, hjn, -⟩ := HRG.out r (List.mem_of_getElem? hr7.out)
                    subst hre
                    have d0 : W10.cell? ⟨b7, off7 + q * 3, none⟩ = some (.int .i64 (pp : Int)) := (hB10.cell (p := ⟨b7, off7 + q * 3, none⟩) hb7w).trans d0
                    have d1 : W10.cell? ⟨b7, off7 + q * 3 + 1, none⟩ = some (.int .i64 e.f) := (hB10.cell (p := ⟨b7, off7 + q * 3 + 1, none⟩) hb7w).trans d1
                    have d2 : W10.cell? ⟨b7, off7 + q * 3 + 2, none⟩ = some (.int .i64 (j : Int)) := (hB10.cell (p := ⟨b7, off7 + q * 3 + 2, none⟩) hb7w).trans d2
                    have HW10 := Lib.hid (HB7.out.trans (hB10.mono (Nat.le_of_lt hw6)))
                    have hlS := hS.out.lt
                    by_cases hpe : pp = p
                    · subst hpe
                      obtain ⟨bg, og, e', rfl, hbg, he', c0, c1, c2⟩ := HR.out.at_ (j := j) (by have := HEL.out; omega)
                      obtain rfl : e' = e := by have h9 := he'.out; rw [hej] at h9; injection h9 with h9; exact h9.symm
                      have c0 := (HW10.out.cell (p := ⟨bg, og + j * 3, none⟩) hbg).trans c0
                      have c1 := (HW10.out.cell (p := ⟨bg, og + j * 3 + 1, none⟩) hbg).trans c1
                      have c2 := (HW10.out.cell (p := ⟨bg, og + j * 3 + 2, none⟩) hbg).trans c2
                      have hjk : j < k := by have := HEL.out; omega
                      have hbg2 : bg < W10.heap.size := by omega
                      have HDY : Hid (dealt es (L.take (q + 1)) (pp : Int) = dealt es (L.take q) (pp : Int) ++ [⟨e'.f, e'.t, e'.w, (j : Int), 0⟩]) := Lib.hid (by rw [dealt_yes (es := es) (p := (pp : Int)) hr7.out rfl, keOf_some _ _ hej])
                      have X10 := X7.out.below HB10.out
                      obtain ⟨lx, x0, x1⟩ := X10
                      generalize dealt es (L.take q) (pp : Int) = dl at *
                      have HAL := Lib.hid (below_a3 W10 (.cells #[.int .i64 (pp : Int), .int .i64 e'.f, .int .i64 (j : Int)] 150) (.cells #[.int .i64 e'.f, .int .i64 e'.t, .int .i64 e'.w] 145) (.cells #[.int .i64 e'.f, .int .i64 e'.t, .int .i64 e'.w, .int .i64 (j : Int), .int .i64 0] 40))
                      have S11 := Lib.hid (hS.out.below HAL.out)
                      have R11 := Lib.hid (own_below hrow.out HAL.out)
                      have G11 := Lib.hid (grown_below hgr.out HAL.out)
                      have s0 := hS.out.cell (i := 0) rfl
                      have s1 := hS.out.cell (i := 1) rfl
                      have s2 := hS.out.cell (i := 2) rfl
                      have HON := Lib.hid (KE.cells_one ⟨e'.f, e'.t, e'.w, (j : Int), 0⟩)
                      have HNB : Hid ((Value.slice PS dl.length cS).ownBlock ≠ some w8.heap.size) := Lib.hid (fun hh => by have := (hrow.out.lt _ hh).1; omega)
                      clear hr7 hej hB10 he' hdl
                      go_wp2_with (at_builtin; refine wpList_append_any _ rfl (.tmp 88) (.tmp 98) 83 rfl (w8.heap.size + 1) 40 j0 _ 5 40 Try.underlying83 hj jz0 jz1 jz2 rfl (by omega) _ dl.length (dl.flatMap KE.cells) rfl R11.out (W10.heap.size + 1 + 1 + 1) (some ⟨W10.heap.size + 1 + 1, 0, none⟩) 1 1 (KE.cells ⟨e'.f, e'.t, e'.w, (j : Int), 0⟩) rfl (five_reads _ ⟨e'.f, e'.t, e'.w, (j : Int), 0⟩ _ _ (by simp)) HON.out (by simp only [maxLen]; omega) (by omega) (by simp; omega) ?_; intro v3 w12 hown3 hg3 hat3; obtain ⟨P3, c3, rfl, -⟩ := own_formG hown3; have S12 := Lib.hid (S11.out.grown hg3 HNB.out); have f2 := S12.out.frozen 2; have z2 := S12.out.cell (i := 2) rfl)
                      have S13 := Lib.hid (S12.out.set 2 (.slice P3 (dl.length + 1) c3))
                      have R13 := Lib.hid (own_lowG hown3 (p := ⟨w8.heap.size, 2, none⟩) (by show w8.heap.size < w8.heap.size + 1; omega) (.slice P3 (dl.length + 1) c3))
                      have G13 := Lib.hid (grown_set (i := 2) (grown_up G11.out hg3 (fun i hi => by have := (hrow.out.lt i hi).1; have := HW9.out; omega)) (.slice P3 (dl.length + 1) c3))
                      clear hown3 hg3 hat3 f2 z2
                      go_wp2
                      go_roundw
                      case rel =>
                        refine ⟨q + 1, P3, c3, by omega, by go_num, Lib.hid ?_, Lib.hid ?_, G13⟩
                        · rw [HDY.out, List.length_append]; exact S13.out
                        · rw [HDY.out, List.length_append, List.flatMap_append]; simpa using R13.out
                      case measure => simp [intOf]; omega
                    · have HDN := Lib.hid (dealt_no (es := es) (p := (p : Int)) hr7.out (by show (pp : Int) ≠ (p : Int); omega))
                      have hpe2 : ((pp : Int) == (p : Int)) = false := by simp; omega
                      have HAL := Lib.hid (below_a1 W10 (.cells #[.int .i64 (pp : Int), .int .i64 e.f, .int .i64 (j : Int)] 150))
                      have S11 := Lib.hid (hS.out.below HAL.out)
                      have R11 := Lib.hid (own_below hrow.out HAL.out)
                      have G11 := Lib.hid (grown_below hgr.out HAL.out)
                      clear hr7 hej hB10
                      go_wp2
                      go_roundw
                      case rel => exact ⟨q + 1, PS, cS, by omega, by go_num, by rw [HDN.out]; exact S11, by rw [HDN.out]; exact R11, G11⟩
                      case measure => simp [intOf]; omega
                  · obtain rfl : q = L.length := by omega
                    rw [List.take_length] at hS hrow hdl2
                    have hB10 := HB9.out.grown hgr.out HB9.out.size (fun i hi => by injection hi with hi; omega)
                    have hO10 := hout9.out.other hout8.out hgr.out (fun i hi => by injection hi with hi; omega)
                    have hone : OwnHL W10 (w8.heap.size + 1) [⟨slo, shi, PS, (dealt es L (p : Int)).length, cS, dealt es L (p : Int)⟩] := OwnHL.one (d := ⟨slo, shi, PS, (dealt es L (p : Int)).length, cS, dealt es L (p : Int)⟩) hrow.out rfl
                    have hall := hO10.dat.append (hone.mono (by omega)) (apartH_of_time hout8.out.dat (Nat.le_refl _) hone (Nat.le_succ _))
                    have hs0 := hS.out.cell (i := 0) rfl
                    have hs1 := hS.out.cell (i := 1) rfl
                    have hs2 := hS.out.cell (i := 2) rfl
                    have HALL := Lib.hid hall
                    have HO10 := Lib.hid hO10
                    have HB10 := Lib.hid hB10
                    have HBL := Lib.hid hbs.out
                    have hlS := hS.out.lt
                    clear hS hrow hgr hall hone hO10 hB10 hdl hbs
                    generalize dealt es L (p : Int) = dl at *
                    have R11 := Lib.hid (own_below HO10.out.row (below_a1 W10 (.cells #[.int .i64 slo, .int .i64 shi, .slice PS dl.length cS] 85)))
                    have A11 := Lib.hid (HALL.out.below (below_a1 W10 (.cells #[.int .i64 slo, .int .i64 shi, .slice PS dl.length cS] 85)))
                    have HONE := Lib.hid (HE.cells_one ⟨slo, shi, PS, dl.length, cS, dl⟩)
                    have h610 : w6.heap.size ≤ W10.heap.size := HB10.out.size
                    go_wp2_with (at_builtin; refine wpList_append_any _ rfl (.tmp 102) (.tmp 104) 24 rfl w6.heap.size 85 k0 _ 3 40 Try.underlying24 hk0 kz0 kz1 kz2 rfl (by omega) _ p (bs.flatMap HE.cells) rfl R11.out (W10.heap.size + 1) (some ⟨W10.heap.size, 0, none⟩) 1 1 (HE.cells ⟨slo, shi, PS, dl.length, cS, dl⟩) rfl (he_reads _ ⟨slo, shi, PS, dl.length, cS, dl⟩ _ _ rfl) HONE.out (by simp only [maxLen]; omega) (by omega) (by simp; omega) ?_; intro v3 w13 hown3 hg3 hat3; obtain ⟨P3, c3, rfl, -⟩ := own_formG hown3)
                    have A13 := Lib.hid (A11.out.grow R11.out (by decide) hg3)
                    have R13 := Lib.hid hown3
                    have HB13 := Lib.hid ((g_chain HB10.out (below_a1 W10 (.cells #[.int .i64 slo, .int .i64 shi, .slice PS dl.length cS] 85))).grown hg3 (by simp; omega) (fun i hi => (R11.out.lt i hi).1))
                    have HLB : Hid (bs.length = p) := Lib.hid (by have := congrArg List.length HBL.out; rw [List.length_map, shardRow_len] at this; exact this)
                    clear hown3 hg3 hat3
                    go_wp2
                    go_roundw
                    case rel =>
                      refine ⟨p + 1, P3, c3, bs ++ [⟨slo, shi, PS, dl.length, cS, dl⟩], by omega, by go_num, rfl, Lib.hid ?_, Lib.hid ⟨?_, ?_, A13.out⟩, HB13⟩
                      · rw [List.map_append, HBL.out, shardRow_step, HSA.out]; rfl
                      · rw [List.flatMap_append]; simpa using R13.out
                      · rw [List.length_append, HLB.out]; rfl
                    case measure => simp [intOf]; omega
              · obtain rfl : p = m := by omega
                have HML : Hid (shardRow ends es (sortedRecs ends es) ends.length = shardRow ends es L p) := Lib.hid (by rw [HIL.out, HLS.out])
                go_wp2
                go_ret
                rw [HML.out]
                exact ⟨Q, p, cQ, bs, rfl, hout.out.mono (Nat.le_of_lt hw6), hbs.out, HB7.out.trans (hbel6.out.mono (Nat.le_of_lt hw6))⟩
      · rw [shardsR_no (.inr (.inr (by omega)))]
        rw [hg] at CG
        rw [hen] at CN
        clear hg hen
        go_enter Try.func72, Try.ntmps72
        go_wp2_with fail
        refine (CG.out _ HB0.out).mono ?_
        rintro e w1 ⟨rfl, hb1⟩
        have HB1 := Lib.hid (g_chain HB0.out hb1)
        obtain ⟨l0, x0, x1⟩ := (NBox.new w N A n c 58).below hb1
        clear hb1
        go_wp2_with fail
        refine (CN.out _ HB1.out).mono ?_
        rintro e w2 ⟨rfl, hb2⟩
        go_wp2
        go_ret
        exact hs_none _ _ (g_chain HB1.out hb2)
end Go.Proofs.Ytpgnappddddlpaa
