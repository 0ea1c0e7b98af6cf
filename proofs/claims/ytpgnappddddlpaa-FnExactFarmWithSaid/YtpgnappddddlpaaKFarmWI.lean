/- The program's farm with other values. Condition: at most 2^20 ends, shards, edges of a shard and values. -/
import Derived.Test.YtpgnappddddlpaaCGK
import Derived.Test.YtpgnappddddlpaaCGE
import Derived.Test.YtpgnappddddlpaaCGL
import Derived.Deep.DeepCutAuto
import Derived.Deep.RegionHeld3
import Derived.Deep.RegionWith
namespace Go.Proofs.Ytpgnappddddlpaa
open Go.RowKit
set_option linter.unusedVariables false

theorem held_nameD {P : Program} {md : Region.Mode} {ops : Array Oper} {Q : Exit → Act → World → Prop} {S : World → Prop} {fuel : Nat} {listed : Array Bool} {a : Act} {w : World} (hS : S w) (h : S w → wpAnyH P md ops Q S fuel listed a w) : wpAnyH P md ops Q S fuel listed a w := h hS
set_option maxRecDepth 20000 in
set_option maxHeartbeats 8000000 in
theorem implFarmWith (N : Int) (A : Option Addr) (n c : Nat) (E : List Int) (B : Option Addr) (m d : Nat) (bs : List HE) (V : Option Addr) (q eV : Nat) (vs : List Int) (w : World) (hA : SlI w A n E) (hB : SlH w B m bs) (hn : n ≤ 1048576) (hm : m ≤ 1048576) (hs : ∀ e ∈ bs, e.n ≤ 1048576) (hV : SlI w V q vs) (hq : q ≤ 1048576) :
    Calls Try.prog 15 #[.agg #[.int .i64 N, .slice A n c, .slice B m d], .slice V q eV] w (MadeFB w (fwN N E (sdL bs) vs) (fwE N E (sdL bs) vs) (fwL N E (sdL bs) vs) (withB N E (sdL bs) vs)) := by
  obtain ⟨j0, hj, hy0, hy1, hy2⟩ := info_parts Try.infoShard
  have C := Lib.hid (fun W (h : Below w.heap.size w W) => implGraphOf N A n c E B m d bs W (hA.below h) (hB.below h) hn hm hs)
  have CA := Lib.hid (fun W cnt (h : Below w.heap.size w W) => areValues_any V q eV vs cnt W (hV.below h) (by omega))
  have CC := Lib.hid (fun W (h : Below w.heap.size w W) => cloneI A n c E W (hA.below h) hn)
  unfold RowR at CC
  have HB := Lib.hid hB
  have HV := Lib.hid hV
  have HL := Lib.hid hB.len
  have HLE := Lib.hid hA.len
  have HLV := Lib.hid hV.len
  have HS := Lib.hid hs
  clear hA hB hs hV
  have H_1 := Lib.hid (g_chain (g_chain (Below.refl w.heap.size w) (below_a1 w (.cells #[.int .i64 N, .slice A n c, .slice B m d] 26))) (below_a1 (w.alloc (.cells #[.int .i64 N, .slice A n c, .slice B m d] 26)) (.cells #[.int .i64 0, .slice none 0 0, .slice none 0 0] 26)))
  have BX_2 : Hid (Blk ((w.alloc (.cells #[.int .i64 N, .slice A n c, .slice B m d] 26)).alloc (.cells #[.int .i64 0, .slice none 0 0, .slice none 0 0] 26)) (w.heap.size) #[.int .i64 N, .slice A n c, .slice B m d] 26) := Lib.hid (by have h := (Blk.new w #[.int .i64 N, .slice A n c, .slice B m d] 26).alloc (.cells #[.int .i64 0, .slice none 0 0, .slice none 0 0] 26); simpa [Nat.add_assoc] using h)
  have BZ_3 : Hid (Blk ((w.alloc (.cells #[.int .i64 N, .slice A n c, .slice B m d] 26)).alloc (.cells #[.int .i64 0, .slice none 0 0, .slice none 0 0] 26)) (w.heap.size + 1) #[.int .i64 0, .slice none 0 0, .slice none 0 0] 26) := Lib.hid (by have h := Blk.new (w.alloc (.cells #[.int .i64 N, .slice A n c, .slice B m d] 26)) #[.int .i64 0, .slice none 0 0, .slice none 0 0] 26; simpa [Nat.add_assoc] using h)
  have sz0 : Hid (w.heap.size + 2 ≤ ((w.alloc (.cells #[.int .i64 N, .slice A n c, .slice B m d] 26)).alloc (.cells #[.int .i64 0, .slice none 0 0, .slice none 0 0] 26)).heap.size) := Lib.hid (by simp)
  cases hv : farmB N E (sdL bs) with
  | false =>
    rw [hv] at C
    have HNO := Lib.hid (with_no1 (vals := vs) hv)
    generalize farmN N E (sdL bs) = rn at C
    generalize farmG N E (sdL bs) = rg at C
    clear hv
    go_enter Try.func15, Try.ntmps15
    go_wp2_with fail
    refine (C.out _ H_1.out).mono ?_
    rintro e w1 ⟨A1, c1, rfl, ho, hb⟩
    have H_4 := Lib.hid (g_chain H_1.out hb)
    clear H_1
    have BX_5 := Lib.hid (BX_2.out.below hb)
    clear BX_2
    have BZ_6 := Lib.hid (BZ_3.out.below hb)
    clear BZ_3
    have sz_7 := Lib.hid (Below.size hb)
    clear hb ho
    have x_8 := BZ_6.out.cell (i := 0) rfl
    have x_9 := BZ_6.out.cell (i := 1) rfl
    have x_10 := BZ_6.out.cell (i := 2) rfl
    have fz_11 := fun i => BZ_6.out.frozen i
    have lt_12 := BZ_6.out.lt
    go_wp2
    refine bodyPost_ret (v := .tuple #[.agg #[.int .i64 0, .slice none 0 0, .slice none 0 0], .bool false]) (by simp [results, Try.results15, go_sem, x_8, x_9, x_10, lt_12]) rfl ?_
    rw [HNO.out, (fw_no HNO.out).1, (fw_no HNO.out).2.1, (fw_no HNO.out).2.2]
    exact ⟨none, 0, none, 0, rfl, ⟨World.ownsRow_nil _ _ _ _, ⟨[], ⟨World.ownsRow_nil _ _ _ _, rfl, OwnHL.nil⟩, rfl, fun g hg => by rcases hg with hg | ⟨x, hx, _⟩; cases hg; cases hx⟩, fun g hg => by cases hg⟩, by repeat (first | exact H_4.out | refine Below.setCell ?_ (by simp) _ | refine g_chain ?_ (below_a1 _ _))⟩
  | true =>
    have HM : Hid ((farmG N E (sdL bs)).length = (flatK (sdL bs)).length) := Lib.hid (by rw [(farmG_yes hv).2, edgesJ_len])
    have HFB := Lib.hid hv
    rw [hv] at C
    generalize farmN N E (sdL bs) = rn at C
    generalize farmG N E (sdL bs) = rg at C HM
    have CA1 := Lib.hid (fun W h => CA.out W (rg.length : Int) h)
    have HD : Hid ((decide ((q : Int) = (rg.length : Int)) && valsB vs) = (decide (vs.length = (flatK (sdL bs)).length) && valsB vs)) := Lib.hid (by rw [HM.out, HLV.out]; congr 1; rw [decide_eq_decide]; omega)
    rw [HD.out] at CA1
    cases hb2 : (decide (vs.length = (flatK (sdL bs)).length) && valsB vs) with
    | false =>
      rw [hb2] at CA1
      have HNO := Lib.hid (with_no2 (N := N) (E := E) (l := sdL bs) (vals := vs) hb2)
      clear hb2 hv
      go_enter Try.func15, Try.ntmps15
      go_wp2_with fail
      refine (C.out _ H_1.out).mono ?_
      rintro e w1 ⟨A1, c1, rfl, ho, hb⟩
      have H_13 := Lib.hid (g_chain H_1.out hb)
      clear H_1
      have BX_14 := Lib.hid (BX_2.out.below hb)
      clear BX_2
      have BZ_15 := Lib.hid (BZ_3.out.below hb)
      clear BZ_3
      have sz_16 := Lib.hid (Below.size hb)
      clear hb ho
      have HBZ := BZ_15
      go_wp2_with fail
      refine (CA1.out _ (g_chain H_13.out (below_a1 _ _))).mono ?_
      rintro e9 w9 ⟨rfl, rfl⟩
      have x_17 := BZ_15.out.cell (i := 0) rfl
      have x_18 := BZ_15.out.cell (i := 1) rfl
      have x_19 := BZ_15.out.cell (i := 2) rfl
      have fz_20 := fun i => BZ_15.out.frozen i
      have lt_21 := BZ_15.out.lt
      go_wp2
      refine bodyPost_ret (v := .tuple #[.agg #[.int .i64 0, .slice none 0 0, .slice none 0 0], .bool false]) (by simp [results, Try.results15, go_sem, x_17, x_18, x_19, lt_21]) rfl ?_
      rw [HNO.out, (fw_no HNO.out).1, (fw_no HNO.out).2.1, (fw_no HNO.out).2.2]
      exact ⟨none, 0, none, 0, rfl, ⟨World.ownsRow_nil _ _ _ _, ⟨[], ⟨World.ownsRow_nil _ _ _ _, rfl, OwnHL.nil⟩, rfl, fun g hg => by rcases hg with hg | ⟨x, hx, _⟩; cases hg; cases hx⟩, fun g hg => by cases hg⟩, by repeat (first | exact H_13.out | refine Below.setCell ?_ (by simp) _ | refine g_chain ?_ (below_a1 _ _))⟩
    | true =>
      rw [hb2] at CA1
      have HYES := Lib.hid (with_yes (N := N) (E := E) (l := sdL bs) (vals := vs) hv hb2)
      clear hb2 hv
      have HEACH := Lib.hid (fun s hs => with_each (N := N) (E := E) (l := sdL bs) (vals := vs) HYES.out (s := s) hs)
      have hm150 : m ≤ 150 := by have h1 := farm_few (withB_iff HYES.out).1; rw [sdL_len, HL.out] at h1; exact h1
      go_enter Try.func15, Try.ntmps15
      go_wp2_with fail
      refine (C.out _ H_1.out).mono ?_
      rintro e w1 ⟨A1, c1, rfl, ho, hb⟩
      have H_22 := Lib.hid (g_chain H_1.out hb)
      clear H_1
      have BX_23 := Lib.hid (BX_2.out.below hb)
      clear BX_2
      have BZ_24 := Lib.hid (BZ_3.out.below hb)
      clear BZ_3
      have sz_25 := Lib.hid (Below.size hb)
      clear hb ho
      have hb_26 := below_a1 w1 (.cells #[.int .i64 rn, .slice A1 rg.length c1] 58)
      have sz_27 := Lib.hid BX_23.out.lt
      have sz_28 := Lib.hid BZ_24.out.lt
      have H_29 := Lib.hid (g_chain H_22.out hb_26)
      clear H_22
      have BX_30 := Lib.hid (BX_23.out.below hb_26)
      clear BX_23
      have BZ_31 := Lib.hid (BZ_24.out.below hb_26)
      clear BZ_24
      have sz_32 := Lib.hid (Below.size hb_26)
      clear hb_26
      have BG_33 : Hid (Blk (w1.alloc (.cells #[.int .i64 rn, .slice A1 rg.length c1] 58)) (w1.heap.size) #[.int .i64 rn, .slice A1 rg.length c1] 58) := Lib.hid (by have h := Blk.new w1 #[.int .i64 rn, .slice A1 rg.length c1] 58; simpa using h)
      have sz_34 : Hid (w1.heap.size + 1 ≤ (w1.alloc (.cells #[.int .i64 rn, .slice A1 rg.length c1] 58)).heap.size) := Lib.hid (by simp)
      go_wp2_with fail
      refine (CA1.out _ H_29.out).mono ?_
      rintro e9 w9 ⟨rfl, hsame⟩
      obtain rfl := hsame
      generalize hWW : (w1.alloc (.cells #[.int .i64 rn, .slice A1 rg.length c1] 58)) = w2 at H_29 BX_30 BZ_31 BG_33 sz_25 sz_27 sz_28 sz_32 sz_34 ⊢
      clear hWW
      go_upto_region 4 with fail
      go_cut [8] (fun (sa : Value) (wx : World) => ∃ (q : Nat) (A2 : Option Addr) (c2 : Nat), sa = .pointer (some ⟨q, 0, none⟩) ∧ Hid (Below w2.heap.size w2 wx) ∧ Hid (Blk wx q #[.int .i64 N, .slice A2 n c2, .slice none 0 0] 26) ∧ Hid (wx.ownsRow w2.heap.size 3 1 (.slice A2 n c2) n (vi E)) ∧ Hid (w2.heap.size ≤ q ∧ q < wx.heap.size))
      case first =>
        have HSF : ∀ W, Hid (Below w2.heap.size w2 W) → (W.cell? ⟨w.heap.size, 0, none⟩ = some (.int .i64 N) ∧ W.cell? ⟨w.heap.size, 1, none⟩ = some (.slice A n c) ∧ W.cell? ⟨w.heap.size, 2, none⟩ = some (.slice B m d)) := fun W HR => ⟨(BX_30.out.below HR.out).cell (i := 0) rfl, (BX_30.out.below HR.out).cell (i := 1) rfl, (BX_30.out.below HR.out).cell (i := 2) rfl⟩
        have HR : Hid (Below w2.heap.size w2 w2.drew) := Lib.hid (Below.refl _ _).drew
        refine wp_region_any (by kernel_rfl) ?_
        change wpAny _ _ _ _ _ _ _ (World.drew _)
        refine wpAny_of_held (S := fun W => W.cell? ⟨w.heap.size, 0, none⟩ = some (.int .i64 N) ∧ W.cell? ⟨w.heap.size, 1, none⟩ = some (.slice A n c) ∧ W.cell? ⟨w.heap.size, 2, none⟩ = some (.slice B m d)) _ _ _ _ ?_
        generalize hDD : World.drew w2 = W at HR ⊢
        clear hDD
        refine wpAnyH_take (i := 0) (oi := ⟨_, _, _, _, _, _⟩) (v := .pointer (some ⟨w.heap.size, 0, none⟩)) rfl (by kernel_rfl) (by kernel_rfl) (by kernel_rfl) (fun _ _ _ h => h) (Or.inl ⟨by kernel_rfl, fun W hS => by (obtain ⟨s0, s1, s2⟩ := hS); go_simp⟩) (HSF _ HR) ?_
        (try simp only [Act.put, List.setIfInBounds_toArray, List.set_cons_zero, List.set_cons_succ])
        refine wpAnyH_take (i := 1) (oi := ⟨_, _, _, _, _, _⟩) (v := .int .i64 N) rfl (by kernel_rfl) (by kernel_rfl) (by kernel_rfl) (fun _ _ _ h => h) (Or.inl ⟨by kernel_rfl, fun W hS => by (obtain ⟨s0, s1, s2⟩ := hS); go_simp⟩) (HSF _ HR) ?_
        (try simp only [Act.put, List.setIfInBounds_toArray, List.set_cons_zero, List.set_cons_succ])
        refine wpAnyH_take (i := 2) (oi := ⟨_, _, _, _, _, _⟩) (v := .pointer (some ⟨w.heap.size, 1, none⟩)) rfl (by kernel_rfl) (by kernel_rfl) (by kernel_rfl) (fun _ _ _ h => h) (Or.inl ⟨by kernel_rfl, fun W hS => by (obtain ⟨s0, s1, s2⟩ := hS); go_simp⟩) (HSF _ HR) ?_
        (try simp only [Act.put, List.setIfInBounds_toArray, List.set_cons_zero, List.set_cons_succ])
        refine wpAnyH_take (i := 3) (oi := ⟨_, _, _, _, _, _⟩) (v := .slice A n c) rfl (by kernel_rfl) (by kernel_rfl) (by kernel_rfl) (fun _ _ _ h => h) (Or.inl ⟨by kernel_rfl, fun W hS => by (obtain ⟨s0, s1, s2⟩ := hS); go_simp⟩) (HSF _ HR) ?_
        (try simp only [Act.put, List.setIfInBounds_toArray, List.set_cons_zero, List.set_cons_succ])
        refine (fun (Gr4o_1_1 : ∀ (W : World) (A2 : Option Addr) (c2 : Nat) (q : Nat), Hid (Below w2.heap.size w2 W) → Hid (W.ownsRow w2.heap.size 3 1 (.slice A2 n c2) n (vi E)) → Hid (Blk W q #[.int .i64 0, .slice none 0 0, .slice none 0 0] 26) → Hid (w2.heap.size ≤ q) → (?Xr4o_1_1 : World → (Option Addr) → Nat → Nat → Prop) W A2 c2 q) => ?_) ?_
        rotate_left
        refine (fun (Gr4o_1_0 : ∀ (W : World) (A2 : Option Addr) (c2 : Nat), Hid (Below w2.heap.size w2 W) → Hid (W.ownsRow w2.heap.size 3 1 (.slice A2 n c2) n (vi E)) → (?Xr4o_1_0 : World → (Option Addr) → Nat → Prop) W A2 c2) => ?_) ?_
        rotate_left
        refine (fun (Gr4o_0_1 : ∀ (W : World) (q : Nat), Hid (Below w2.heap.size w2 W) → Hid (Blk W q #[.int .i64 0, .slice none 0 0, .slice none 0 0] 26) → Hid (w2.heap.size ≤ q) → (?Xr4o_0_1 : World → Nat → Prop) W q) => ?_) ?_
        rotate_left
        change wpAnyH _ _ _ _ _ _ #[true, true, true, true, false, false, false, false] _ _
        refine wpAnyH_ready (rs := [4, 6]) (by kernel_rfl) (by simp) (AllReadyH.cons rfl (fun K hK => ?_) (AllReadyH.cons rfl (fun K hK => ?_) AllReadyH.nil))
        · skip
          go_simp
          go_at_call 57
          refine (CC.out W (g_chain H_29.out HR.out)).mono ?_
          rintro e W2 ⟨A2, c2, rfl, ho, hb⟩
          have OE : Hid (W2.ownsRow w2.heap.size 3 1 (.slice A2 n c2) n (vi E)) := Lib.hid (own_monoG ho (Below.size HR.out))
          have HR := Lib.hid (g_chain HR.out hb)
          clear hb
          dsimp only
          refine hK.out _ _ (HSF _ HR) (fun _ => ?_)
          clear hK K
          (try simp only [List.setIfInBounds_toArray, List.set_cons_zero, List.set_cons_succ])
          refine wpAnyH_take (i := 5) (oi := ⟨_, _, _, _, _, _⟩) (v := .agg #[.int .i64 N, .slice A2 n c2, .slice none 0 0]) rfl (by kernel_rfl) (by kernel_rfl) (by kernel_rfl) (fun _ _ _ h => h) (Or.inl ⟨by kernel_rfl, fun W hS => by go_simp⟩) (HSF _ HR) ?_
          (try simp only [Act.put, List.setIfInBounds_toArray, List.set_cons_zero, List.set_cons_succ])
          change wpAnyH _ _ _ _ _ _ #[true, true, true, true, true, true, false, false] _ _
          exact Gr4o_1_0 W2 A2 c2 HR OE
        · skip
          go_simp
          have hb := below_a1 W (.cells #[.int .i64 0, .slice none 0 0, .slice none 0 0] 26)
          have Zq : Hid (Blk (W.alloc (.cells #[.int .i64 0, .slice none 0 0, .slice none 0 0] 26)) W.heap.size #[.int .i64 0, .slice none 0 0, .slice none 0 0] 26) := Lib.hid (Blk.new W #[.int .i64 0, .slice none 0 0, .slice none 0 0] 26)
          have HQq : Hid (w2.heap.size ≤ W.heap.size) := Lib.hid (Below.size HR.out)
          have HR := Lib.hid (g_chain HR.out hb)
          clear hb
          refine hK.out _ _ (HSF _ HR) (fun _ => ?_)
          clear hK K
          (try simp only [List.setIfInBounds_toArray, List.set_cons_zero, List.set_cons_succ])
          generalize hZ : W.alloc (.cells #[.int .i64 0, .slice none 0 0, .slice none 0 0] 26) = W2 at Zq HR ⊢
          clear hZ
          generalize hZ : W.heap.size = q at Zq HQq ⊢
          clear hZ
          change wpAnyH _ _ _ _ _ _ #[true, true, true, true, false, false, true, false] _ _
          exact Gr4o_0_1 W2 q HR Zq HQq
        · intro W q HR Zq HQq
          change wpAnyH _ _ _ _ _ _ #[true, true, true, true, false, false, true, false] _ _
          refine wpAnyH_ready (rs := [4]) (by kernel_rfl) (by simp) (AllReadyH.cons rfl (fun K hK => ?_) AllReadyH.nil)
          · skip
            go_simp
            go_at_call 57
            refine (CC.out W (g_chain H_29.out HR.out)).mono ?_
            rintro e W2 ⟨A2, c2, rfl, ho, hb⟩
            have Zq : Hid (Blk W2 q #[.int .i64 0, .slice none 0 0, .slice none 0 0] 26) := Lib.hid (Zq.out.below hb)
            have HQq : Hid (w2.heap.size ≤ q) := Lib.hid (HQq.out)
            have OE : Hid (W2.ownsRow w2.heap.size 3 1 (.slice A2 n c2) n (vi E)) := Lib.hid (own_monoG ho (Below.size HR.out))
            have HR := Lib.hid (g_chain HR.out hb)
            clear hb
            dsimp only
            refine hK.out _ _ (HSF _ HR) (fun _ => ?_)
            clear hK K
            (try simp only [List.setIfInBounds_toArray, List.set_cons_zero, List.set_cons_succ])
            refine wpAnyH_take (i := 5) (oi := ⟨_, _, _, _, _, _⟩) (v := .agg #[.int .i64 N, .slice A2 n c2, .slice none 0 0]) rfl (by kernel_rfl) (by kernel_rfl) (by kernel_rfl) (fun _ _ _ h => h) (Or.inl ⟨by kernel_rfl, fun W hS => by go_simp⟩) (HSF _ HR) ?_
            (try simp only [Act.put, List.setIfInBounds_toArray, List.set_cons_zero, List.set_cons_succ])
            change wpAnyH _ _ _ _ _ _ #[true, true, true, true, true, true, true, false] _ _
            exact Gr4o_1_1 W2 A2 c2 q HR OE Zq HQq
        · intro W A2 c2 HR OE
          change wpAnyH _ _ _ _ _ _ #[true, true, true, true, true, true, false, false] _ _
          refine wpAnyH_ready (rs := [6]) (by kernel_rfl) (by simp) (AllReadyH.cons rfl (fun K hK => ?_) AllReadyH.nil)
          · skip
            go_simp
            have hb := below_a1 W (.cells #[.int .i64 0, .slice none 0 0, .slice none 0 0] 26)
            have OE : Hid ((W.alloc (.cells #[.int .i64 0, .slice none 0 0, .slice none 0 0] 26)).ownsRow w2.heap.size 3 1 (.slice A2 n c2) n (vi E)) := Lib.hid (own_below OE.out hb)
            have Zq : Hid (Blk (W.alloc (.cells #[.int .i64 0, .slice none 0 0, .slice none 0 0] 26)) W.heap.size #[.int .i64 0, .slice none 0 0, .slice none 0 0] 26) := Lib.hid (Blk.new W #[.int .i64 0, .slice none 0 0, .slice none 0 0] 26)
            have HQq : Hid (w2.heap.size ≤ W.heap.size) := Lib.hid (Below.size HR.out)
            have HR := Lib.hid (g_chain HR.out hb)
            clear hb
            refine hK.out _ _ (HSF _ HR) (fun _ => ?_)
            clear hK K
            (try simp only [List.setIfInBounds_toArray, List.set_cons_zero, List.set_cons_succ])
            generalize hZ : W.alloc (.cells #[.int .i64 0, .slice none 0 0, .slice none 0 0] 26) = W2 at OE Zq HR ⊢
            clear hZ
            generalize hZ : W.heap.size = q at Zq HQq ⊢
            clear hZ
            change wpAnyH _ _ _ _ _ _ #[true, true, true, true, true, true, true, false] _ _
            exact Gr4o_1_1 W2 A2 c2 q HR OE Zq HQq
        · intro W A2 c2 q HR OE Zq HQq
          change wpAnyH _ _ _ _ _ _ #[true, true, true, true, true, true, true, false] _ _
          refine wpAnyH_ready (rs := [7]) (by kernel_rfl) (by simp) (AllReadyH.cons rfl (fun K hK => ?_) AllReadyH.nil)
          have z0 := Zq.out.cell (i := 0) rfl
          have f0 := Zq.out.frozen 0
          have z1 := Zq.out.cell (i := 1) rfl
          have f1 := Zq.out.frozen 1
          have z2 := Zq.out.cell (i := 2) rfl
          have f2 := Zq.out.frozen 2
          have zl := Zq.out.lt
          go_simp
          clear z0 f0 z1 f1 z2 f2
          have hgr := ((grown_cell W q 0 (.int .i64 N)).trans (grown_cell (W.setCell ⟨q, 0, none⟩ (.int .i64 N)) q 1 (.slice A2 n c2))).trans (grown_cell ((W.setCell ⟨q, 0, none⟩ (.int .i64 N)).setCell ⟨q, 1, none⟩ (.slice A2 n c2)) q 2 (.slice none 0 0))
          have EBX := Lib.hid ((BX_30.out.below HR.out).grown hgr (by intro e; injection e with e; have h1 := HQq.out; have h2 := BX_30.out.lt; omega))
          refine hK.out _ _ ⟨EBX.out.cell (i := 0) rfl, EBX.out.cell (i := 1) rfl, EBX.out.cell (i := 2) rfl⟩ (fun _ => ?_)
          clear hK K
          (try simp only [List.setIfInBounds_toArray, List.set_cons_zero, List.set_cons_succ])
          refine wpAnyH_done (by kernel_rfl) ?_ _
          go_wp2_with fail
          go_meet
          have ZB : Blk (((W.setCell ⟨q, 0, none⟩ (.int .i64 N)).setCell ⟨q, 1, none⟩ (.slice A2 n c2)).setCell ⟨q, 2, none⟩ (.slice none 0 0)) q #[.int .i64 N, .slice A2 n c2, .slice none 0 0] 26 := Blk.set (Blk.set (Blk.set (Zq.out) 0 (.int .i64 N)) 1 (.slice A2 n c2)) 2 (.slice none 0 0)
          exact ⟨q, A2, c2, rfl, Lib.hid (HR.out.grown hgr (Below.size HR.out) (fun j hj => by injection hj with hj; have h1 := HQq.out; omega)), Lib.hid ZB, Lib.hid (own_kept OE.out hgr (own_kind OE.out Zq.out (by decide))), Lib.hid ⟨HQq.out, ZB.lt⟩⟩
      case rest =>
        rename World => w3
        obtain ⟨qo, A2, c2, rfl, hb, hx, ho0, hq⟩ := hcut
        have H_35 := Lib.hid (g_chain H_29.out hb.out)
        clear H_29
        have BX_36 := Lib.hid (BX_30.out.below hb.out)
        clear BX_30
        have BZ_37 := Lib.hid (BZ_31.out.below hb.out)
        clear BZ_31
        have sz_38 := Lib.hid (Below.size hb.out)
        have sz_39 := Lib.hid (hq.out.1)
        have sz_40 := Lib.hid (hq.out.2)
        have OE_41 := Lib.hid (ho0.out)
        have OUTo_42 := Lib.hid (hx.out)
        clear hb hx hq ho0
        have HOE := Lib.hid (own_monoG (lo' := w.heap.size) OE_41.out (by have := sz0.out; have := sz_25.out; have := sz_27.out; have := sz_28.out; have := sz_32.out; have := sz_34.out; have := sz_38.out; have := sz_39.out; have := sz_40.out; omega))
        have hqo : w.heap.size + 1 < qo := by have := BZ_37.out.lt; have := sz0.out; have := sz_25.out; have := sz_27.out; have := sz_28.out; have := sz_32.out; have := sz_34.out; have := sz_38.out; have := sz_39.out; have := sz_40.out; omega
        have x_43 := BX_36.out.cell (i := 0) rfl
        have x_44 := BX_36.out.cell (i := 1) rfl
        have x_45 := BX_36.out.cell (i := 2) rfl
        have fz_46 := fun i => BX_36.out.frozen i
        have lt_47 := BX_36.out.lt
        go_wp2
        clear x_43 x_44 x_45 fz_46 lt_47
        go_loopw [38] (fun i wr => ∃ (k : Nat) (P : Option Addr) (cP : Nat) (made : List HE), k ≤ m ∧ i = .int .i64 (k : Int) ∧ Hid (HGrow wr w.heap.size P k cP made) ∧ Hid (made.map HE.sd = ((sdL bs).take k).map (withS vs)) ∧ Hid (Blk wr w.heap.size #[.int .i64 N, .slice A n c, .slice B m d] 26) ∧ Hid (Blk wr (w.heap.size + 1) #[.int .i64 0, .slice none 0 0, .slice none 0 0] 26) ∧ Hid (Blk wr qo #[.int .i64 N, .slice A2 n c2, .slice P k cP] 26) ∧ Hid (wr.ownsRow w.heap.size 3 1 (.slice A2 n c2) n (vi E)) ∧ Hid (Below w.heap.size w wr)) (fun i _ => m - (intOf i).toNat)
        case atStart => exact ⟨0, none, 0, [], Nat.zero_le _, rfl, Lib.hid (HGrow.nil _ _), Lib.hid rfl, BX_36, BZ_37, OUTo_42, HOE, H_35⟩
        case round =>
          clear BX_36 BZ_37 OUTo_42 H_35 OE_41 HOE
          obtain ⟨k, P, cP, made, hk, rfl, hgr, hmap, hbx, hbz, hbo, hoe, hbel⟩ := hrel
          by_cases hlt : k < m
          · obtain ⟨b, off, e, rfl, hbw, he, hok, c0, c1', c2'⟩ := HB.out.at_ hlt
            obtain ⟨elo, ehi, eA, en, ec, ees⟩ := e
            have c0 : wr.cell? ⟨b, off + k * 3, none⟩ = some (.int .i64 elo) := (hbel.out.cell (p := ⟨b, off + k * 3, none⟩) hbw).trans c0
            have c1' : wr.cell? ⟨b, off + k * 3 + 1, none⟩ = some (.int .i64 ehi) := (hbel.out.cell (p := ⟨b, off + k * 3 + 1, none⟩) hbw).trans c1'
            have c2' : wr.cell? ⟨b, off + k * 3 + 2, none⟩ = some (.slice eA en ec) := (hbel.out.cell (p := ⟨b, off + k * 3 + 2, none⟩) hbw).trans c2'
            have HTK : Hid (((sdL bs).take (k + 1)).map (withS vs) = ((sdL bs).take k).map (withS vs) ++ [(elo, ehi, ees.map (KE.put vs))]) := Lib.hid (by rw [sdL_take he.out, List.map_append]; rfl)
            have HEL : Hid ((ees.map (KE.put vs)).length = en) := Lib.hid (by rw [List.length_map]; exact hok.out.rd.len)
            have hen : en ≤ 1048576 := HS.out _ (List.mem_of_getElem? he.out)
            have HYE : Hid (valsK elo ehi ees vs = true) := Lib.hid (HEACH.out (elo, ehi, ees) (List.mem_of_getElem? (sdL_get he.out)))
            have CW := Lib.hid (fun W (h : Below w.heap.size w W) => implWithVals elo ehi eA en ec ees V q eV vs W (hok.out.rd.below h) hen (HV.out.below h) hq)
            rw [HYE.out, (valsK_yes HYE.out).1, (valsK_yes HYE.out).2.1, (valsK_yes HYE.out).2.2] at CW
            unfold MadeShB at CW
            rw [HEL.out] at CW
            have HA := Lib.hid (below_a1 wr (.cells #[.int .i64 elo, .int .i64 ehi, .slice eA en ec] 85))
            have G1 := Lib.hid (hgr.out.below HA.out)
            have B1 := Lib.hid (hbx.out.below HA.out)
            have Z1 := Lib.hid (hbz.out.below HA.out)
            have Q1 := Lib.hid (hbo.out.below HA.out)
            have E1 := Lib.hid (own_below hoe.out HA.out)
            have H1 := Lib.hid (g_chain hbel.out HA.out)
            have LT := Lib.hid hgr.out.dat
            have hws : wr.heap.size ≤ (wr.alloc (.cells #[.int .i64 elo, .int .i64 ehi, .slice eA en ec] 85)).heap.size := by simp
            clear hok he hgr hbx hbz hbo hoe hbel HA
            go_wp2_with fail
            refine (CW.out _ H1.out).mono ?_
            rintro e1 w2 ⟨A3, c3, rfl, ho, hb⟩
            have AP := Lib.hid (apartH_of_time LT.out hws (OwnHL.one (d := (⟨elo, ehi, A3, en, c3, ees.map (KE.put vs)⟩ : HE)) ho HEL.out) (Nat.le_refl _))
            have O2 := Lib.hid ho
            have G2 := Lib.hid (G1.out.below hb)
            have B2 := Lib.hid (B1.out.below hb)
            have Z2 := Lib.hid (Z1.out.below hb)
            have Q2 := Lib.hid (Q1.out.below hb)
            have E2 := Lib.hid (own_below E1.out hb)
            have hsz2 : w.heap.size ≤ (wr.alloc (.cells #[.int .i64 elo, .int .i64 ehi, .slice eA en ec] 85)).heap.size := H1.out.size
            have H2 := Lib.hid (g_chain H1.out hb)
            clear ho hb c0 c1' c2' G1 B1 Z1 Q1 E1 H1 LT CW
            have HX := Lib.hid (below_a2 w2 (.cells #[.int .i64 elo, .int .i64 ehi, .slice A3 en c3] 85) (.cells #[.int .i64 elo, .int .i64 ehi, .slice A3 en c3] 85))
            have G3 := Lib.hid (G2.out.below HX.out)
            have B3 := Lib.hid (B2.out.below HX.out)
            have Z3 := Lib.hid (Z2.out.below HX.out)
            have Q3 := Lib.hid (Q2.out.below HX.out)
            have E3 := Lib.hid (own_below E2.out HX.out)
            have O3 := Lib.hid (own_below O2.out HX.out)
            have H3 := Lib.hid (g_chain H2.out HX.out)
            have RD : Hid (Reads ((w2.alloc (.cells #[.int .i64 elo, .int .i64 ehi, .slice A3 en c3] 85)).alloc (.cells #[.int .i64 elo, .int .i64 ehi, .slice A3 en c3] 85)) (w2.heap.size + 1 + 1) 3 (some ⟨w2.heap.size + 1, 0, none⟩) 1 (HE.cells (⟨elo, ehi, A3, en, c3, ees.map (KE.put vs)⟩ : HE))) := Lib.hid (he_reads (w2.alloc (.cells #[.int .i64 elo, .int .i64 ehi, .slice A3 en c3] 85)) (⟨elo, ehi, A3, en, c3, ees.map (KE.put vs)⟩ : HE) 85 (w2.heap.size + 1) (by simp))
            have ON := Lib.hid (HE.cells_one (⟨elo, ehi, A3, en, c3, ees.map (KE.put vs)⟩ : HE))
            have hq2 : qo < w2.heap.size := Q2.out.lt
            have y2 := Q2.out.cell (i := 2) rfl
            go_wp2_with (at_builtin; refine wpList_append_any _ rfl (.tmp 49) (.tmp 51) _ rfl w.heap.size 85 j0 _ 3 40 Try.underlying24 hj hy0 hy1 hy2 rfl (by omega) (.slice P k cP) k (made.flatMap HE.cells) rfl G3.out.row _ (some ⟨w2.heap.size + 1, 0, none⟩) 1 1 (HE.cells (⟨elo, ehi, A3, en, c3, ees.map (KE.put vs)⟩ : HE)) rfl RD.out ON.out (by simp only [maxLen]; omega) (by omega) H3.out.size ?_)
            intro v4 w4 hown4 hg4 _
            obtain ⟨P4, c4, rfl⟩ := pk_form hown4
            have G4 : Hid (HGrow w4 w.heap.size P4 (k + 1) c4 (made ++ [(⟨elo, ehi, A3, en, c3, ees.map (KE.put vs)⟩ : HE)])) := Lib.hid ⟨by rw [he_flat]; exact hown4, ownHL_snoc (e := (⟨elo, ehi, A3, en, c3, ees.map (KE.put vs)⟩ : HE)) G3.out.dat O3.out HEL.out hsz2 (fun a ha => AP.out a ha _ (by simp)) G3.out.row hg4, by rw [List.length_append, G3.out.len]; rfl⟩
            have B4 := Lib.hid (B3.out.grown hg4 (own_kind G3.out.row B3.out (by decide)))
            have Z4 := Lib.hid (Z3.out.grown hg4 (own_kind G3.out.row Z3.out (by decide)))
            have Q4 := Lib.hid (Q3.out.grown hg4 (own_kind G3.out.row Q3.out (by decide)))
            have E4 := Lib.hid (E3.out.kept hg4 ((own_types E3.out G3.out.row (by decide)).imp id fun h e => h e.symm))
            have H4 := Lib.hid (H3.out.grown hg4 H3.out.size (fun q hq => (G3.out.row.lt q hq).1))
            have M4 : Hid ((made ++ [(⟨elo, ehi, A3, en, c3, ees.map (KE.put vs)⟩ : HE)]).map HE.sd = ((sdL bs).take (k + 1)).map (withS vs)) := Lib.hid (by rw [HTK.out, List.map_append, hmap.out]; rfl)
            have G5 := Lib.hid (G4.out.box (i := 2) Q4.out (by decide) (by decide) (.slice P4 (k + 1) c4))
            have B5 := Lib.hid (B4.out.other (p := ⟨qo, 2, none⟩) (by show w.heap.size ≠ qo; omega) (.slice P4 (k + 1) c4))
            have Z5 := Lib.hid (Z4.out.other (p := ⟨qo, 2, none⟩) (by show w.heap.size + 1 ≠ qo; omega) (.slice P4 (k + 1) c4))
            have Q5 : Hid (Blk (w4.setCell ⟨qo, 2, none⟩ (.slice P4 (k + 1) c4)) qo #[.int .i64 N, .slice A2 n c2, .slice P4 (k + 1) c4] 26) := Lib.hid (Q4.out.set 2 (.slice P4 (k + 1) c4))
            have E5 := Lib.hid (own_kept E4.out (grown_cell w4 qo 2 (.slice P4 (k + 1) c4)) (own_kind E4.out Q4.out (by decide)))
            have H5 := Lib.hid (H4.out.setCell (p := ⟨qo, 2, none⟩) (by show w.heap.size ≤ qo; omega) (.slice P4 (k + 1) c4))
            have y2' := Q4.out.cell (i := 2) rfl
            have yf := Q4.out.frozen 2
            have yl := Q4.out.lt
            clear hown4 hg4 G3 B3 Z3 Q3 E3 O3 H3 G2 B2 Z2 Q2 E2 O2 H2 HX RD ON AP y2 G4 B4 Z4 Q4 E4 H4
            go_wp2
            go_roundw
            case rel => exact ⟨k + 1, P4, c4, _, by omega, by go_num, G5, M4, B5, Z5, Q5, E5, H5⟩
            case measure => simp [intOf]; omega
          · obtain rfl : k = m := by omega
            skip
            have HGR := Lib.hid hgr.out
            have RE := Lib.hid (hoe.out.lt)
            have zl := hbz.out.lt
            have x_901 := hbo.out.cell (i := 0) rfl
            have x_902 := hbo.out.cell (i := 1) rfl
            have x_903 := hbo.out.cell (i := 2) rfl
            have fz_904 := fun i => hbo.out.frozen i
            have lt_905 := hbo.out.lt
            have x_906 := hbz.out.cell (i := 0) rfl
            have x_907 := hbz.out.cell (i := 1) rfl
            have x_908 := hbz.out.cell (i := 2) rfl
            have fz_909 := fun i => hbz.out.frozen i
            have lt_910 := hbz.out.lt
            go_wp2
            have hg_911 := ((grown_cell wr (w.heap.size + 1) 0 (.int .i64 N)).trans (grown_cell (wr.setCell ⟨w.heap.size + 1, 0, none⟩ (.int .i64 N)) (w.heap.size + 1) 1 (.slice A2 n c2))).trans (grown_cell ((wr.setCell ⟨w.heap.size + 1, 0, none⟩ (.int .i64 N)).setCell ⟨w.heap.size + 1, 1, none⟩ (.slice A2 n c2)) (w.heap.size + 1) 2 (.slice P k cP))
            have BX_912 := Lib.hid (hbx.out.grown hg_911 (by intro e; injection e with e; omega))
            have BO_913 := Lib.hid (hbo.out.grown hg_911 (by intro e; injection e with e; omega))
            have H_914 := Lib.hid (hbel.out.grown hg_911 hbel.out.size (fun j hj => by injection hj with hj; omega))
            clear hbel
            have OE_915 := Lib.hid (own_kept hoe.out hg_911 (own_kind hoe.out hbz.out (by decide)))
            have BZ_916 : Hid (Blk (((wr.setCell ⟨w.heap.size + 1, 0, none⟩ (.int .i64 N)).setCell ⟨w.heap.size + 1, 1, none⟩ (.slice A2 n c2)).setCell ⟨w.heap.size + 1, 2, none⟩ (.slice P k cP)) (w.heap.size + 1) #[.int .i64 N, .slice A2 n c2, .slice P k cP] 26) := Lib.hid (Blk.set (Blk.set (Blk.set (hbz.out) 0 (.int .i64 N)) 1 (.slice A2 n c2)) 2 (.slice P k cP))
            have sz_917 := Lib.hid (World.grownBy.size hg_911)
            clear hg_911
            refine bodyPost_ret (v := .tuple #[.agg #[.int .i64 N, .slice A2 n c2, .slice P k cP], .bool true]) (by simp [results, Try.results15, go_sem, x_906, x_907, x_908]) rfl ?_
            have G9 : Hid (HOwn (((wr.setCell ⟨w.heap.size + 1, 0, none⟩ (.int .i64 N)).setCell ⟨w.heap.size + 1, 1, none⟩ (.slice A2 n c2)).setCell ⟨w.heap.size + 1, 2, none⟩ (.slice P k cP)) w.heap.size w.heap.size ((((wr.setCell ⟨w.heap.size + 1, 0, none⟩ (.int .i64 N)).setCell ⟨w.heap.size + 1, 1, none⟩ (.slice A2 n c2)).setCell ⟨w.heap.size + 1, 2, none⟩ (.slice P k cP))).heap.size P k cP ((sdL bs).map (withS vs))) := Lib.hid (by
              have h1 := HGR.out.own
              have hw : OnlyB (fun g => g = w.heap.size + 1) wr (((wr.setCell ⟨w.heap.size + 1, 0, none⟩ (.int .i64 N)).setCell ⟨w.heap.size + 1, 1, none⟩ (.slice A2 n c2)).setCell ⟨w.heap.size + 1, 2, none⟩ (.slice P k cP)) := by
                repeat (first | exact OnlyB.refl _ _ | refine OnlyB.grown ?_ (grown_cell _ _ _ _) (fun i hi => by injection hi with hi; omega))
              have h2 := h1.but hw (fun g hg hh => by
                subst hh
                rcases hg with hg | ⟨dd, hd, hg⟩
                · exact own_kind h1.row hbz.out (by decide) hg
                · exact own_kind (h1.dat.own dd hd) hbz.out (by decide) hg)
              exact HOwn.of h2 (by rw [hmap.out, List.take_of_length_le (by rw [sdL_len, HL.out]; exact Nat.le_refl _)]))
            have e1 := HLE.out
            have e2 : ((sdL bs).map (withS vs)).length = k := by rw [List.length_map, sdL_len, HL.out]
            rw [HYES.out, (fw_yes HYES.out).1, (fw_yes HYES.out).2.1, (fw_yes HYES.out).2.2]
            unfold MadeFB
            rw [e1, e2]
            exact ⟨A2, c2, P, cP, rfl, ⟨OE_915.out, G9.out, fun g hg => (show w.heap.size ≤ g ∧ g < ((((wr.setCell ⟨w.heap.size + 1, 0, none⟩ (.int .i64 N)).setCell ⟨w.heap.size + 1, 1, none⟩ (.slice A2 n c2)).setCell ⟨w.heap.size + 1, 2, none⟩ (.slice P k cP))).heap.size by have h3 := RE.out g hg; have := sz_917.out; omega)⟩, H_914.out⟩
end Go.Proofs.Ytpgnappddddlpaa
