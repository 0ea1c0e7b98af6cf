/- The model's farm with other values. Condition: at most 2^20 ends, shards, edges and values. -/
import Derived.Test.YtpgnappddddlpaaCGK
import Derived.Test.YtpgnappddddlpaaCGF
import Derived.Test.YtpgnappddddlpaaKFarmV
import Derived.Test.YtpgnappddddlpaaCGL
import Derived.Test.YtpgnappddddlpaaCGH
import Derived.Deep.DeepCutAuto
import Derived.Deep.RegionHeld3
import Derived.Deep.RegionWith
namespace Go.Proofs.Ytpgnappddddlpaa
open Go.RowKit
set_option linter.unusedVariables false

theorem held_nameE {P : Program} {md : Region.Mode} {ops : Array Oper} {Q : Exit → Act → World → Prop} {S : World → Prop} {fuel : Nat} {listed : Array Bool} {a : Act} {w : World} (hS : S w) (h : S w → wpAnyH P md ops Q S fuel listed a w) : wpAnyH P md ops Q S fuel listed a w := h hS
/-- One row of edges is replaced by a newer one. -/
theorem OwnHL.fresh {w w' : World} {lo lo1 : Nat} {l m : List HE} {x d' : HE} (h : OwnHL w lo (l ++ x :: m)) (hb : Below w.heap.size w w') (ho : w'.ownsRow lo1 40 5 d'.v d'.n (d'.es.flatMap KE.cells)) (hs : d'.es.length = d'.n) (hlo : w.heap.size ≤ lo1) (hl : lo ≤ lo1) : OwnHL w' lo (l ++ d' :: m) := by
  have hfar : ∀ a ∈ l ++ x :: m, ∀ i j, a.v.ownBlock = some i → d'.v.ownBlock = some j → i ≠ j := fun a ha i j hi hj => by
    have h1 := (h.lt ha i hi).2
    have h2 := (ho.lt j hj).1
    omega
  refine h.turn0 (fun e he => own_below (h.own e (by rcases List.mem_append.1 he with he | he; exact List.mem_append_left _ he; exact List.mem_append_right _ (by simp [he]))) hb) (own_monoG ho hl) hs (fun a ha => ?_) (fun b hb' => ?_)
  · cases hv : a.v.ownBlock with
    | none => exact .inl hv
    | some i => exact .inr (fun e => hfar a (List.mem_append_left _ ha) i i hv (e ▸ hv) rfl)
  · cases hv : d'.v.ownBlock with
    | none => exact .inl hv
    | some j => exact .inr (fun e => hfar b (List.mem_append_right _ (by simp [hb'])) j j (e ▸ hv) hv rfl)
set_option maxRecDepth 20000 in
set_option maxHeartbeats 8000000 in
theorem specFarmWith (N : Int) (A : Option Addr) (n c : Nat) (E : List Int) (B : Option Addr) (m d : Nat) (bs : List HE) (V : Option Addr) (q eV : Nat) (vs : List Int) (w : World) (hA : SlI w A n E) (hB : SlH w B m bs) (hn : n ≤ 1048576) (hm : m ≤ 1048576) (hs : ∀ e ∈ bs, e.n ≤ 1048576) (hz : sumH bs ≤ 1048576) (hV : SlI w V q vs) (hq : q ≤ 1048576) :
    Calls Try.prog 40 #[.agg #[.int .i64 N, .slice A n c, .slice B m d], .slice V q eV] w (MadeFB w (fwN N E (sdL bs) vs) (fwE N E (sdL bs) vs) (fwL N E (sdL bs) vs) (withB N E (sdL bs) vs)) := by
  have C := Lib.hid (fun W (h : Below w.heap.size w W) => specFarmOk N A n c E B m d bs W (hA.below h) (hB.below h) hn hm hs)
  have CN := Lib.hid (fun W (h : Below w.heap.size w W) => specCount N A n c B m d bs W (hB.below h) hm hz)
  have CA := Lib.hid (fun W (h : Below w.heap.size w W) => specVals V q eV vs W (hV.below h) (by omega))
  have CC := Lib.hid (fun W (h : Below w.heap.size w W) => specCopyFarm N A n c E B m d bs W (hA.below h) (hB.below h) hn hm hs)
  unfold MadeF at CC
  have HB := Lib.hid hB
  have HV := Lib.hid hV
  have HL := Lib.hid hB.len
  have HLE := Lib.hid hA.len
  have HLV := Lib.hid hV.len
  have HS := Lib.hid hs
  clear hA hB hs hV
  have H_1 := Lib.hid (g_chain (g_chain (Below.refl w.heap.size w) (below_a1 w (.cells #[.int .i64 N, .slice A n c, .slice B m d] 26))) (below_a1 (w.alloc (.cells #[.int .i64 N, .slice A n c, .slice B m d] 26)) (.cells #[.int .i64 0, .slice none 0 0, .slice none 0 0] 26)))
  have BX_2 : Hid (Blk ((w.alloc (.cells #[.int .i64 N, .slice A n c, .slice B m d] 26)).alloc (.cells #[.int .i64 0, .slice none 0 0, .slice none 0 0] 26)) (w.heap.size) #[.int .i64 N, .slice A n c, .slice B m d] 26) := Lib.hid (by have h := (Blk.new w #[.int .i64 N, .slice A n c, .slice B m d] 26).alloc (.cells #[.int .i64 0, .slice none 0 0, .slice none 0 0] 26); simpa [Nat.add_assoc] using h)
  have BZ_3 : Hid (Blk ((w.alloc (.cells #[.int .i64 N, .slice A n c, .slice B m d] 26)).alloc (.cells #[.int .i64 0, .slice none 0 0, .slice none 0 0] 26)) (w.heap.size + 1) #[.int .i64 0, .slice none 0 0, .slice none 0 0] 26) := Lib.hid (by have h := Blk.new (w.alloc (.cells #[.int .i64 N, .slice A n c, .slice B m d] 26)) #[.int .i64 0, .slice none 0 0, .slice none 0 0] 26; simpa [Nat.add_assoc] using h)
  have sz0 : Hid (w.heap.size + 2 ≤ ((w.alloc (.cells #[.int .i64 N, .slice A n c, .slice B m d] 26)).alloc (.cells #[.int .i64 0, .slice none 0 0, .slice none 0 0] 26)).heap.size) := Lib.hid (by simp)
  cases hv : farmB N E (sdL bs) with
  | false =>
    rw [hv] at C
    have HNO := Lib.hid (with_no1 (vals := vs) hv)
    clear hv
    go_enter Try.func40, Try.ntmps40
    go_wp2_with fail
    refine (C.out _ H_1.out).mono ?_
    rintro e w1 ⟨rfl, hb⟩
    have H_4 := Lib.hid (g_chain H_1.out hb)
    clear H_1
    have BX_5 := Lib.hid (BX_2.out.below hb)
    clear BX_2
    have BZ_6 := Lib.hid (BZ_3.out.below hb)
    clear BZ_3
    have sz_7 := Lib.hid (Below.size hb)
    clear hb
    have x_8 := BZ_6.out.cell (i := 0) rfl
    have x_9 := BZ_6.out.cell (i := 1) rfl
    have x_10 := BZ_6.out.cell (i := 2) rfl
    have fz_11 := fun i => BZ_6.out.frozen i
    have lt_12 := BZ_6.out.lt
    go_wp2
    refine bodyPost_ret (v := .tuple #[.agg #[.int .i64 0, .slice none 0 0, .slice none 0 0], .bool false]) (by simp [results, Try.results40, go_sem, x_8, x_9, x_10]) rfl ?_
    rw [HNO.out, (fw_no HNO.out).1, (fw_no HNO.out).2.1, (fw_no HNO.out).2.2]
    exact ⟨none, 0, none, 0, rfl, ⟨World.ownsRow_nil _ _ _ _, ⟨[], ⟨World.ownsRow_nil _ _ _ _, rfl, OwnHL.nil⟩, rfl, fun g hg => by rcases hg with hg | ⟨x, hx, _⟩; cases hg; cases hx⟩, fun g hg => by cases hg⟩, by repeat (first | exact H_4.out | refine Below.setCell ?_ (by simp) _ | refine g_chain ?_ (below_a1 _ _))⟩
  | true =>
    rw [hv] at C
    have HFB := Lib.hid hv
    clear hv
    by_cases hqm : q = (flatK (sdL bs)).length
    rotate_left
    · skip
      have HNO := Lib.hid (with_no2 (N := N) (E := E) (l := sdL bs) (vals := vs) (by rw [decide_eq_false (by rw [HLV.out]; exact hqm)]; rfl))
      have hqm2 : ((q : Int) == (((flatK (sdL bs)).length : Nat) : Int)) = false := by simp; omega
      have hqm3 : ((q : Int) != (((flatK (sdL bs)).length : Nat) : Int)) = true := by simp; omega
      generalize (((flatK (sdL bs)).length : Nat) : Int) = M at CN hqm2 hqm3
      clear hqm
      go_enter Try.func40, Try.ntmps40
      go_wp2_with fail
      refine (C.out _ H_1.out).mono ?_
      rintro e w1 ⟨rfl, hb⟩
      have H_13 := Lib.hid (g_chain H_1.out hb)
      clear H_1
      have BX_14 := Lib.hid (BX_2.out.below hb)
      clear BX_2
      have BZ_15 := Lib.hid (BZ_3.out.below hb)
      clear BZ_3
      have sz_16 := Lib.hid (Below.size hb)
      clear hb
      have x_17 := BX_14.out.cell (i := 0) rfl
      have x_18 := BX_14.out.cell (i := 1) rfl
      have x_19 := BX_14.out.cell (i := 2) rfl
      go_wp2_with fail
      refine (CN.out _ H_13.out).mono ?_
      rintro e w2 ⟨rfl, hb⟩
      clear x_17
      clear x_18
      clear x_19
      have H_20 := Lib.hid (g_chain H_13.out hb)
      clear H_13
      have BX_21 := Lib.hid (BX_14.out.below hb)
      clear BX_14
      have BZ_22 := Lib.hid (BZ_15.out.below hb)
      clear BZ_15
      have sz_23 := Lib.hid (Below.size hb)
      clear hb
      have x_24 := BZ_22.out.cell (i := 0) rfl
      have x_25 := BZ_22.out.cell (i := 1) rfl
      have x_26 := BZ_22.out.cell (i := 2) rfl
      have fz_27 := fun i => BZ_22.out.frozen i
      have lt_28 := BZ_22.out.lt
      go_wp2
      refine bodyPost_ret (v := .tuple #[.agg #[.int .i64 0, .slice none 0 0, .slice none 0 0], .bool false]) (by simp [results, Try.results40, go_sem, x_24, x_25, x_26]) rfl ?_
      rw [HNO.out, (fw_no HNO.out).1, (fw_no HNO.out).2.1, (fw_no HNO.out).2.2]
      exact ⟨none, 0, none, 0, rfl, ⟨World.ownsRow_nil _ _ _ _, ⟨[], ⟨World.ownsRow_nil _ _ _ _, rfl, OwnHL.nil⟩, rfl, fun g hg => by rcases hg with hg | ⟨x, hx, _⟩; cases hg; cases hx⟩, fun g hg => by cases hg⟩, by repeat (first | exact H_20.out | refine Below.setCell ?_ (by simp) _ | refine g_chain ?_ (below_a1 _ _))⟩
    have HQM := Lib.hid hqm
    rw [← hqm] at CN
    clear hqm
    cases hb2 : valsB vs with
    | false =>
      rw [hb2] at CA
      have HNO := Lib.hid (with_no2 (N := N) (E := E) (l := sdL bs) (vals := vs) (by rw [hb2, Bool.and_false]))
      clear hb2
      go_enter Try.func40, Try.ntmps40
      go_wp2_with fail
      refine (C.out _ H_1.out).mono ?_
      rintro e w1 ⟨rfl, hb⟩
      have H_29 := Lib.hid (g_chain H_1.out hb)
      clear H_1
      have BX_30 := Lib.hid (BX_2.out.below hb)
      clear BX_2
      have BZ_31 := Lib.hid (BZ_3.out.below hb)
      clear BZ_3
      have sz_32 := Lib.hid (Below.size hb)
      clear hb
      have x_33 := BX_30.out.cell (i := 0) rfl
      have x_34 := BX_30.out.cell (i := 1) rfl
      have x_35 := BX_30.out.cell (i := 2) rfl
      go_wp2_with fail
      refine (CN.out _ H_29.out).mono ?_
      rintro e w2 ⟨rfl, hb⟩
      clear x_33
      clear x_34
      clear x_35
      have H_36 := Lib.hid (g_chain H_29.out hb)
      clear H_29
      have BX_37 := Lib.hid (BX_30.out.below hb)
      clear BX_30
      have BZ_38 := Lib.hid (BZ_31.out.below hb)
      clear BZ_31
      have sz_39 := Lib.hid (Below.size hb)
      clear hb
      go_wp2_with fail
      refine (CA.out _ H_36.out).mono ?_
      rintro e9 w9 ⟨rfl, hsame⟩
      obtain rfl := hsame
      have x_40 := BZ_38.out.cell (i := 0) rfl
      have x_41 := BZ_38.out.cell (i := 1) rfl
      have x_42 := BZ_38.out.cell (i := 2) rfl
      have fz_43 := fun i => BZ_38.out.frozen i
      have lt_44 := BZ_38.out.lt
      go_wp2
      refine bodyPost_ret (v := .tuple #[.agg #[.int .i64 0, .slice none 0 0, .slice none 0 0], .bool false]) (by simp [results, Try.results40, go_sem, x_40, x_41, x_42]) rfl ?_
      rw [HNO.out, (fw_no HNO.out).1, (fw_no HNO.out).2.1, (fw_no HNO.out).2.2]
      exact ⟨none, 0, none, 0, rfl, ⟨World.ownsRow_nil _ _ _ _, ⟨[], ⟨World.ownsRow_nil _ _ _ _, rfl, OwnHL.nil⟩, rfl, fun g hg => by rcases hg with hg | ⟨x, hx, _⟩; cases hg; cases hx⟩, fun g hg => by cases hg⟩, by repeat (first | exact H_36.out | refine Below.setCell ?_ (by simp) _ | refine g_chain ?_ (below_a1 _ _))⟩
    | true =>
      rw [hb2] at CA
      have HYES := Lib.hid (with_yes (N := N) (E := E) (l := sdL bs) (vals := vs) HFB.out (by rw [hb2, decide_eq_true (by rw [HLV.out, ← HQM.out]), Bool.and_true]))
      clear hb2
      have HEACH := Lib.hid (fun s hs => with_each (N := N) (E := E) (l := sdL bs) (vals := vs) HYES.out (s := s) hs)
      go_enter Try.func40, Try.ntmps40
      go_wp2_with fail
      refine (C.out _ H_1.out).mono ?_
      rintro e w1 ⟨rfl, hb⟩
      have H_45 := Lib.hid (g_chain H_1.out hb)
      clear H_1
      have BX_46 := Lib.hid (BX_2.out.below hb)
      clear BX_2
      have BZ_47 := Lib.hid (BZ_3.out.below hb)
      clear BZ_3
      have sz_48 := Lib.hid (Below.size hb)
      clear hb
      have x_49 := BX_46.out.cell (i := 0) rfl
      have x_50 := BX_46.out.cell (i := 1) rfl
      have x_51 := BX_46.out.cell (i := 2) rfl
      go_wp2_with fail
      refine (CN.out _ H_45.out).mono ?_
      rintro e w2 ⟨rfl, hb⟩
      clear x_49
      clear x_50
      clear x_51
      have H_52 := Lib.hid (g_chain H_45.out hb)
      clear H_45
      have BX_53 := Lib.hid (BX_46.out.below hb)
      clear BX_46
      have BZ_54 := Lib.hid (BZ_47.out.below hb)
      clear BZ_47
      have sz_55 := Lib.hid (Below.size hb)
      clear hb
      go_wp2_with fail
      refine (CA.out _ H_52.out).mono ?_
      rintro e9 w9 ⟨rfl, hsame⟩
      obtain rfl := hsame
      have x_56 := BX_53.out.cell (i := 0) rfl
      have x_57 := BX_53.out.cell (i := 1) rfl
      have x_58 := BX_53.out.cell (i := 2) rfl
      have hlw0 : w.heap.size ≤ w2.heap.size := H_52.out.size
      go_wp2_with fail
      refine (CC.out _ H_52.out).mono ?_
      rintro e w3 ⟨A2, c2, B2, d2, rfl, ho, hb⟩
      clear x_56
      clear x_57
      clear x_58
      have H_59 := Lib.hid (g_chain H_52.out hb)
      clear H_52
      have BX_60 := Lib.hid (BX_53.out.below hb)
      clear BX_53
      have BZ_61 := Lib.hid (BZ_54.out.below hb)
      clear BZ_54
      have sz_62 := Lib.hid (Below.size hb)
      obtain ⟨oe, ⟨cps, os, ox, -⟩, oer⟩ := ho
      have LW0 := Lib.hid (H_59.out.size)
      have e1 := HLE.out
      have e2 : (sdL bs).length = m := by rw [sdL_len, HL.out]
      rw [e1] at oe oer ⊢
      rw [e2] at os ⊢
      clear e1 e2
      have OE0 := Lib.hid oe
      have OS0 := Lib.hid os
      have OX := Lib.hid ox
      clear hb oe os ox oer
      have hb_63 := below_a1 w3 (.cells #[.int .i64 N, .slice A2 n c2, .slice B2 m d2] 26)
      have sz_64 := Lib.hid BX_60.out.lt
      have sz_65 := Lib.hid BZ_61.out.lt
      have H_66 := Lib.hid (g_chain H_59.out hb_63)
      clear H_59
      have BX_67 := Lib.hid (BX_60.out.below hb_63)
      clear BX_60
      have BZ_68 := Lib.hid (BZ_61.out.below hb_63)
      clear BZ_61
      have sz_69 := Lib.hid (Below.size hb_63)
      clear hb_63
      have OUT_70 : Hid (Blk (w3.alloc (.cells #[.int .i64 N, .slice A2 n c2, .slice B2 m d2] 26)) (w3.heap.size) #[.int .i64 N, .slice A2 n c2, .slice B2 m d2] 26) := Lib.hid (by have h := Blk.new w3 #[.int .i64 N, .slice A2 n c2, .slice B2 m d2] 26; simpa using h)
      have sz_71 : Hid (w3.heap.size + 1 ≤ (w3.alloc (.cells #[.int .i64 N, .slice A2 n c2, .slice B2 m d2] 26)).heap.size) := Lib.hid (by simp)
      have hqo : w.heap.size + 1 < w3.heap.size := by have := sz0.out; have := sz_48.out; have := sz_55.out; have := sz_62.out; have := sz_64.out; have := sz_65.out; have := sz_69.out; have := sz_71.out; omega
      have LT0 := Lib.hid (fun (h : (Value.slice A2 n c2).ownBlock = some w3.heap.size) => (by have := (OE0.out.lt _ h).2; omega : False))
      have HOE := Lib.hid (own_monoG (lo' := w.heap.size) (own_below OE0.out (below_a1 w3 (.cells #[.int .i64 N, .slice A2 n c2, .slice B2 m d2] 26))) (by omega))
      have HOS := Lib.hid ((OS0.out.below (below_a1 w3 (.cells #[.int .i64 N, .slice A2 n c2, .slice B2 m d2] 26))).mono (lo' := w.heap.size) (by omega))
      clear OE0 OS0
      have x_72 := BX_67.out.cell (i := 0) rfl
      have x_73 := BX_67.out.cell (i := 1) rfl
      have x_74 := BX_67.out.cell (i := 2) rfl
      have fz_75 := fun i => BX_67.out.frozen i
      have lt_76 := BX_67.out.lt
      go_wp2
      clear x_72 x_73 x_74 fz_75 lt_76
      go_loopw [30] (fun i wr => ∃ (k : Nat) (made : List HE), k ≤ m ∧ i = .int .i64 (k : Int) ∧ Hid (OwnH wr w.heap.size B2 m d2 (made ++ cps.drop k)) ∧ Hid (made.length = k) ∧ Hid (made.map HE.sd = ((sdL bs).take k).map (withS vs)) ∧ Hid (Blk wr w.heap.size #[.int .i64 N, .slice A n c, .slice B m d] 26) ∧ Hid (Blk wr (w.heap.size + 1) #[.int .i64 0, .slice none 0 0, .slice none 0 0] 26) ∧ Hid (Blk wr w3.heap.size #[.int .i64 N, .slice A2 n c2, .slice B2 m d2] 26) ∧ Hid (wr.ownsRow w.heap.size 3 1 (.slice A2 n c2) n (vi E)) ∧ Hid (Below w.heap.size w wr)) (fun i _ => m - (intOf i).toNat)
      case atStart => exact ⟨0, [], Nat.zero_le _, rfl, HOS, Lib.hid rfl, Lib.hid rfl, BX_67, BZ_68, OUT_70, HOE, H_66⟩
      case round =>
        clear BX_67 BZ_68 OUT_70 H_66 HOE HOS
        obtain ⟨k, made, hk, rfl, hgr, hml, hmap, hbx, hbz, hbo, hoe, hbel⟩ := hrel
        by_cases hlt : k < m
        · skip
          obtain ⟨b, off, e, hBB, hbw, he, hok, c0, c1', c2'⟩ := HB.out.at_ hlt
          obtain ⟨elo, ehi, eA, en, ec, ees⟩ := e
          obtain ⟨x, hx⟩ : ∃ x, cps[k]? = some x := ⟨cps[k]'(by have h1 := congrArg List.length OX.out; rw [List.length_map, sdL_len, HL.out] at h1; omega), List.getElem?_eq_getElem _⟩
          have hgr1 := hgr.out
          rw [g_drop cps k x hx] at hgr1
          obtain ⟨g, hg⟩ := g_own_at hgr1.row (by omega)
          subst hg
          subst hBB
          have c0 : wr.cell? ⟨b, off + k * 3, none⟩ = some (.int .i64 elo) := (hbel.out.cell (p := ⟨b, off + k * 3, none⟩) hbw).trans c0
          have c1' : wr.cell? ⟨b, off + k * 3 + 1, none⟩ = some (.int .i64 ehi) := (hbel.out.cell (p := ⟨b, off + k * 3 + 1, none⟩) hbw).trans c1'
          have c2' : wr.cell? ⟨b, off + k * 3 + 2, none⟩ = some (.slice eA en ec) := (hbel.out.cell (p := ⟨b, off + k * 3 + 2, none⟩) hbw).trans c2'
          have HTK : Hid (((sdL bs).take (k + 1)).map (withS vs) = ((sdL bs).take k).map (withS vs) ++ [(elo, ehi, ees.map (KE.put vs))]) := Lib.hid (by rw [sdL_take he.out, List.map_append]; rfl)
          have HEL : Hid ((ees.map (KE.put vs)).length = en) := Lib.hid (by rw [List.length_map]; exact hok.out.rd.len)
          have hen : en ≤ 1048576 := HS.out _ (List.mem_of_getElem? he.out)
          have HYE : Hid (valsK elo ehi ees vs = true) := Lib.hid (HEACH.out (elo, ehi, ees) (List.mem_of_getElem? (sdL_get2 he.out)))
          have CW := Lib.hid (fun W (h : Below w.heap.size w W) => specWithVals elo ehi eA en ec ees V q eV vs W (hok.out.rd.below h) hen (HV.out.below h) hq)
          rw [HYE.out, (valsK_yes HYE.out).1, (valsK_yes HYE.out).2.1, (valsK_yes HYE.out).2.2] at CW
          unfold MadeShB at CW
          rw [HEL.out] at CW
          have HX := Lib.hid hx
          have GR := Lib.hid hgr1
          have hkm : (k : Int) < (m : Int) := by omega
          clear hok he hx hgr1 hgr
          have HWS := Lib.hid (hbo.out.lt)
          have hqw : w3.heap.size < wr.heap.size := HWS.out
          have hgw := Lib.hid (GR.out.row.lt g rfl)
          have hgw1 : w.heap.size ≤ g := hgw.out.1
          have hgw2 : g < wr.heap.size := hgw.out.2
          have hgo : g ≠ w3.heap.size := fun e => own_kind GR.out.row hbo.out (by decide) (by rw [← e]; rfl)
          have hgx : g ≠ w.heap.size := fun e => own_kind GR.out.row hbx.out (by decide) (by rw [← e]; rfl)
          have hgz : g ≠ w.heap.size + 1 := fun e => own_kind GR.out.row hbz.out (by decide) (by rw [← e]; rfl)
          have hb := below_a1 wr (.cells #[.int .i64 elo, .int .i64 ehi, .slice eA en ec] 85)
          have GR_501 := Lib.hid (GR.out.below hb)
          have BX_502 := Lib.hid (hbx.out.below hb)
          have BZ_503 := Lib.hid (hbz.out.below hb)
          have BO_504 := Lib.hid (hbo.out.below hb)
          have OE_505 := Lib.hid (own_below hoe.out hb)
          have H_506 := Lib.hid (g_chain hbel.out hb)
          have sz_507 := Lib.hid (Below.size hb)
          have BS := Lib.hid (Blk.new wr #[.int .i64 elo, .int .i64 ehi, .slice eA en ec] 85)
          clear hb
          go_upto_region 7 with fail
          refine wp_region_any (by kernel_rfl) ?_
          change wpAny _ _ _ _ _ _ _ (World.drew _)
          have hb : Below (wr.alloc (.cells #[.int .i64 elo, .int .i64 ehi, .slice eA en ec] 85)).heap.size (wr.alloc (.cells #[.int .i64 elo, .int .i64 ehi, .slice eA en ec] 85)) (World.drew (wr.alloc (.cells #[.int .i64 elo, .int .i64 ehi, .slice eA en ec] 85))) := (Below.refl _ _).drew
          have GR_508 := Lib.hid (GR_501.out.below hb)
          clear GR_501
          have BX_509 := Lib.hid (BX_502.out.below hb)
          clear BX_502
          have BZ_510 := Lib.hid (BZ_503.out.below hb)
          clear BZ_503
          have BO_511 := Lib.hid (BO_504.out.below hb)
          clear BO_504
          have OE_512 := Lib.hid (own_below OE_505.out hb)
          clear OE_505
          have H_513 := Lib.hid (g_chain H_506.out hb)
          clear H_506
          have BS_514 := Lib.hid (BS.out.below hb)
          clear BS
          have sz_515 := Lib.hid (Below.size hb)
          clear hb
          generalize hDD : World.drew (wr.alloc (.cells #[.int .i64 elo, .int .i64 ehi, .slice eA en ec] 85)) = W5 at GR_508 BX_509 BZ_510 BO_511 OE_512 H_513 BS_514 sz_515 ⊢
          clear hDD
          refine wpAny_of_held (S := fun W => W.cell? ⟨w3.heap.size, 0, none⟩ = some (.int .i64 N) ∧ W.cell? ⟨w3.heap.size, 1, none⟩ = some (.slice A2 n c2) ∧ W.cell? ⟨w3.heap.size, 2, none⟩ = some (.slice (some ⟨g, 0, none⟩) m d2) ∧ W.cell? ⟨wr.heap.size, 0, none⟩ = some (.int .i64 elo) ∧ W.cell? ⟨wr.heap.size, 1, none⟩ = some (.int .i64 ehi) ∧ W.cell? ⟨wr.heap.size, 2, none⟩ = some (.slice eA en ec)) _ _ _ _ ?_
          refine held_nameE ⟨BO_511.out.cell (i := 0) rfl, BO_511.out.cell (i := 1) rfl, BO_511.out.cell (i := 2) rfl, BS_514.out.cell (i := 0) rfl, BS_514.out.cell (i := 1) rfl, BS_514.out.cell (i := 2) rfl⟩ (fun hS => ?_)
          refine wpAnyH_take (i := 0) (oi := ⟨_, _, _, _, _, _⟩) (v := .pointer (some ⟨w3.heap.size, 2, none⟩)) rfl (by kernel_rfl) (by kernel_rfl) (by kernel_rfl) (fun _ _ _ h => h) (Or.inl ⟨by kernel_rfl, fun W hS => by (obtain ⟨s0, s1, s2, s3, s4, s5⟩ := hS); go_simp⟩) hS ?_
          (try simp only [Act.put, List.setIfInBounds_toArray, List.set_cons_zero, List.set_cons_succ])
          refine wpAnyH_take (i := 1) (oi := ⟨_, _, _, _, _, _⟩) (v := .slice (some ⟨g, 0, none⟩) m d2) rfl (by kernel_rfl) (by kernel_rfl) (by kernel_rfl) (fun _ _ _ h => h) (Or.inl ⟨by kernel_rfl, fun W hS => by (obtain ⟨s0, s1, s2, s3, s4, s5⟩ := hS); go_simp⟩) hS ?_
          (try simp only [Act.put, List.setIfInBounds_toArray, List.set_cons_zero, List.set_cons_succ])
          refine wpAnyH_take (i := 2) (oi := ⟨_, _, _, _, _, _⟩) (v := .int .i64 (k : Int)) rfl (by kernel_rfl) (by kernel_rfl) (by kernel_rfl) (fun _ _ _ h => h) (Or.inl ⟨by kernel_rfl, fun W hS => by (obtain ⟨s0, s1, s2, s3, s4, s5⟩ := hS); go_simp⟩) hS ?_
          (try simp only [Act.put, List.setIfInBounds_toArray, List.set_cons_zero, List.set_cons_succ])
          refine wpAnyH_take (i := 3) (oi := ⟨_, _, _, _, _, _⟩) (v := .agg #[.int .i64 elo, .int .i64 ehi, .slice eA en ec]) rfl (by kernel_rfl) (by kernel_rfl) (by kernel_rfl) (fun _ _ _ h => h) (Or.inl ⟨by kernel_rfl, fun W hS => by (obtain ⟨s0, s1, s2, s3, s4, s5⟩ := hS); go_simp⟩) hS ?_
          (try simp only [Act.put, List.setIfInBounds_toArray, List.set_cons_zero, List.set_cons_succ])
          refine wpAnyH_take (i := 4) (oi := ⟨_, _, _, _, _, _⟩) (v := .slice V q eV) rfl (by kernel_rfl) (by kernel_rfl) (by kernel_rfl) (fun _ _ _ h => h) (Or.inl ⟨by kernel_rfl, fun W hS => by (obtain ⟨s0, s1, s2, s3, s4, s5⟩ := hS); go_simp⟩) hS ?_
          (try simp only [Act.put, List.setIfInBounds_toArray, List.set_cons_zero, List.set_cons_succ])
          refine wpAnyH_ready (rs := [5]) (by kernel_rfl) (by simp) (AllReadyH.cons rfl (fun K hK => ?_) AllReadyH.nil)
          go_simp
          go_at_call 84
          refine (CW.out _ H_513.out).mono ?_
          rintro e1 W6 ⟨A3, c3, rfl, ho, hb⟩
          have D6 : Hid (OwnHL W6 w.heap.size (made ++ (⟨elo, ehi, A3, en, c3, ees.map (KE.put vs)⟩ : HE) :: cps.drop (k + 1))) := Lib.hid (OwnHL.fresh (d' := ⟨elo, ehi, A3, en, c3, ees.map (KE.put vs)⟩) GR_508.out.dat hb ho HEL.out (Nat.le_refl _) H_513.out.size)
          have GR_516 := Lib.hid (GR_508.out.below hb)
          clear GR_508
          have BX_517 := Lib.hid (BX_509.out.below hb)
          clear BX_509
          have BZ_518 := Lib.hid (BZ_510.out.below hb)
          clear BZ_510
          have BO_519 := Lib.hid (BO_511.out.below hb)
          clear BO_511
          have OE_520 := Lib.hid (own_below OE_512.out hb)
          clear OE_512
          have H_521 := Lib.hid (g_chain H_513.out hb)
          clear H_513
          have BS_522 := Lib.hid (BS_514.out.below hb)
          clear BS_514
          have sz_523 := Lib.hid (Below.size hb)
          clear ho hb
          dsimp only
          refine hK.out _ _ ⟨BO_519.out.cell (i := 0) rfl, BO_519.out.cell (i := 1) rfl, BO_519.out.cell (i := 2) rfl, BS_522.out.cell (i := 0) rfl, BS_522.out.cell (i := 1) rfl, BS_522.out.cell (i := 2) rfl⟩ (fun hS => ?_)
          clear hK K
          (try simp only [Act.put, List.setIfInBounds_toArray, List.set_cons_zero, List.set_cons_succ])
          refine wpAnyH_take (i := 6) (oi := ⟨_, _, _, _, _, _⟩) (v := .tuple #[.agg #[.int .i64 elo, .int .i64 ehi, .slice A3 en c3], .bool true]) rfl (by kernel_rfl) (by kernel_rfl) (by kernel_rfl) (fun _ _ _ h => h) (Or.inl ⟨by kernel_rfl, fun W hS => by (obtain ⟨s0, s1, s2, s3, s4, s5⟩ := hS); go_simp⟩) hS ?_
          (try simp only [Act.put, List.setIfInBounds_toArray, List.set_cons_zero, List.set_cons_succ])
          refine wpAnyH_take (i := 7) (oi := ⟨_, _, _, _, _, _⟩) (v := .agg #[.int .i64 elo, .int .i64 ehi, .slice A3 en c3]) rfl (by kernel_rfl) (by kernel_rfl) (by kernel_rfl) (fun _ _ _ h => h) (Or.inl ⟨by kernel_rfl, fun W hS => by (obtain ⟨s0, s1, s2, s3, s4, s5⟩ := hS); go_simp⟩) hS ?_
          (try simp only [Act.put, List.setIfInBounds_toArray, List.set_cons_zero, List.set_cons_succ])
          refine wpAnyH_take (i := 8) (oi := ⟨_, _, _, _, _, _⟩) (v := .bool true) rfl (by kernel_rfl) (by kernel_rfl) (by kernel_rfl) (fun _ _ _ h => h) (Or.inl ⟨by kernel_rfl, fun W hS => by (obtain ⟨s0, s1, s2, s3, s4, s5⟩ := hS); go_simp⟩) hS ?_
          (try simp only [Act.put, List.setIfInBounds_toArray, List.set_cons_zero, List.set_cons_succ])
          refine wpAnyH_take (i := 9) (oi := ⟨_, _, _, _, _, _⟩) (v := .pointer (some ⟨g, k * 3, none⟩)) rfl (by kernel_rfl) (by kernel_rfl) (by kernel_rfl) (fun _ _ _ h => h) (Or.inl ⟨by kernel_rfl, fun W hS => by (obtain ⟨s0, s1, s2, s3, s4, s5⟩ := hS); go_simp⟩) hS ?_
          (try simp only [Act.put, List.setIfInBounds_toArray, List.set_cons_zero, List.set_cons_succ])
          refine wpAnyH_ready (rs := [10]) (by kernel_rfl) (by simp) (AllReadyH.cons rfl (fun K hK => ?_) AllReadyH.nil)
          have hlay := he_lay3 (e := (⟨elo, ehi, A3, en, c3, ees.map (KE.put vs)⟩ : HE)) GR_516.out.row hml.out
          have hqq := fun i (hi : i < 3) => (GR_516.out.row.cellAt (k * 3 + i) (by omega)).trans (flat_get HE.cells 3 HE.cells_len _ k i x (g_get made (cps.drop (k + 1)) x k hml.out) hi)
          have hc0 : W6.cell? ⟨g, k * 3, none⟩ = some (.int .i64 x.lo) := hqq 0 (by omega)
          have hc1 : W6.cell? ⟨g, k * 3 + 1, none⟩ = some (.int .i64 x.hi) := hqq 1 (by omega)
          have hc2 : W6.cell? ⟨g, k * 3 + 2, none⟩ = some (.slice x.A x.n x.c) := hqq 2 (by omega)
          have hf0 := GR_516.out.row.frozenAt (k * 3)
          have hf1 := GR_516.out.row.frozenAt (k * 3 + 1)
          have hf2 := GR_516.out.row.frozenAt (k * 3 + 2)
          obtain ⟨cur, hg0⟩ := bat_block GR_516.out.row
          have D7 := Lib.hid (D6.out.kept hlay.2 (D6.out.far hg0 (by decide)))
          have R7 := Lib.hid hlay.1
          have HGB := Lib.hid hlay.2
          clear hlay hg0 hqq
          go_simp
          clear hc0 hc1 hc2 hf0 hf1 hf2
          have BX_524 := Lib.hid (BX_517.out.grown HGB.out (fun e => by injection e with e; exact absurd e (by omega)))
          have BZ_525 := Lib.hid (BZ_518.out.grown HGB.out (fun e => by injection e with e; exact absurd e (by omega)))
          have BO_526 := Lib.hid (BO_519.out.grown HGB.out (fun e => by injection e with e; exact absurd e (by omega)))
          have BS_527 := Lib.hid (BS_522.out.grown HGB.out (fun e => by injection e with e; exact absurd e (by (have := hgw2; omega))))
          have OE_528 := Lib.hid (OE_520.out.kept HGB.out ((own_types OE_520.out GR_516.out.row (by decide)).imp id fun h e => h e.symm))
          have H_529 := Lib.hid (H_521.out.grown HGB.out H_521.out.size (fun j hj => by injection hj with hj; omega))
          refine hK.out _ _ ⟨BO_526.out.cell (i := 0) rfl, BO_526.out.cell (i := 1) rfl, BO_526.out.cell (i := 2) rfl, BS_527.out.cell (i := 0) rfl, BS_527.out.cell (i := 1) rfl, BS_527.out.cell (i := 2) rfl⟩ (fun hS => ?_)
          clear hK K
          (try simp only [Act.put, List.setIfInBounds_toArray, List.set_cons_zero, List.set_cons_succ])
          refine wpAnyH_done (by kernel_rfl) ?_ _
          go_wp2
          go_roundw
          case rel => exact ⟨k + 1, made ++ [(⟨elo, ehi, A3, en, c3, ees.map (KE.put vs)⟩ : HE)], by omega, by go_num, Lib.hid ⟨by rw [List.append_assoc]; exact R7.out, by rw [List.append_assoc]; have h1 := GR_516.out.len; simpa using h1, by rw [List.append_assoc]; exact D7.out⟩, Lib.hid (by rw [List.length_append, hml.out]; rfl), Lib.hid (by rw [HTK.out, List.map_append, hmap.out]; rfl), BX_524, BZ_525, BO_526, OE_528, H_529⟩
          case measure => simp [intOf]; omega
        · obtain rfl : k = m := by omega
          skip
          have HGR := Lib.hid hgr.out
          have RE := Lib.hid (hoe.out.lt)
          have zl := hbz.out.lt
          have hcl : cps.drop k = [] := List.drop_eq_nil_of_le (by have h1 := congrArg List.length OX.out; rw [List.length_map, sdL_len, HL.out] at h1; omega)
          have x_901 := hbo.out.cell (i := 0) rfl
          have x_902 := hbo.out.cell (i := 1) rfl
          have x_903 := hbo.out.cell (i := 2) rfl
          have fz_904 := fun i => hbo.out.frozen i
          have lt_905 := hbo.out.lt
          have x_906 := hbz.out.cell (i := 0) rfl
          have x_907 := hbz.out.cell (i := 1) rfl
          have x_908 := hbz.out.cell (i := 2) rfl
          have fz_909 := fun i => hbz.out.frozen i
          have lt_910 := hbz.out.lt
          go_wp2
          have hg_911 := ((grown_cell wr (w.heap.size + 1) 0 (.int .i64 N)).trans (grown_cell (wr.setCell ⟨w.heap.size + 1, 0, none⟩ (.int .i64 N)) (w.heap.size + 1) 1 (.slice A2 n c2))).trans (grown_cell ((wr.setCell ⟨w.heap.size + 1, 0, none⟩ (.int .i64 N)).setCell ⟨w.heap.size + 1, 1, none⟩ (.slice A2 n c2)) (w.heap.size + 1) 2 (.slice B2 k d2))
          have BX_912 := Lib.hid (hbx.out.grown hg_911 (by intro e; injection e with e; omega))
          have BO_913 := Lib.hid (hbo.out.grown hg_911 (by intro e; injection e with e; omega))
          have H_914 := Lib.hid (hbel.out.grown hg_911 hbel.out.size (fun j hj => by injection hj with hj; omega))
          have OE_915 := Lib.hid (own_kept hoe.out hg_911 (own_kind hoe.out hbz.out (by decide)))
          have BZ_916 : Hid (Blk (((wr.setCell ⟨w.heap.size + 1, 0, none⟩ (.int .i64 N)).setCell ⟨w.heap.size + 1, 1, none⟩ (.slice A2 n c2)).setCell ⟨w.heap.size + 1, 2, none⟩ (.slice B2 k d2)) (w.heap.size + 1) #[.int .i64 N, .slice A2 n c2, .slice B2 k d2] 26) := Lib.hid (Blk.set (Blk.set (Blk.set (hbz.out) 0 (.int .i64 N)) 1 (.slice A2 n c2)) 2 (.slice B2 k d2))
          have sz_917 := Lib.hid (World.grownBy.size hg_911)
          clear hg_911
          refine bodyPost_ret (v := .tuple #[.agg #[.int .i64 N, .slice A2 n c2, .slice B2 k d2], .bool true]) (by simp [results, Try.results40, go_sem, x_906, x_907, x_908]) rfl ?_
          have G9 : Hid (HOwn (((wr.setCell ⟨w.heap.size + 1, 0, none⟩ (.int .i64 N)).setCell ⟨w.heap.size + 1, 1, none⟩ (.slice A2 n c2)).setCell ⟨w.heap.size + 1, 2, none⟩ (.slice B2 k d2)) w.heap.size w.heap.size ((((wr.setCell ⟨w.heap.size + 1, 0, none⟩ (.int .i64 N)).setCell ⟨w.heap.size + 1, 1, none⟩ (.slice A2 n c2)).setCell ⟨w.heap.size + 1, 2, none⟩ (.slice B2 k d2))).heap.size B2 k d2 ((sdL bs).map (withS vs))) := Lib.hid (by
            have h1 := HGR.out
            rw [hcl, List.append_nil] at h1
            have hw : OnlyB (fun g => g = w.heap.size + 1) wr (((wr.setCell ⟨w.heap.size + 1, 0, none⟩ (.int .i64 N)).setCell ⟨w.heap.size + 1, 1, none⟩ (.slice A2 n c2)).setCell ⟨w.heap.size + 1, 2, none⟩ (.slice B2 k d2)) := by
              repeat (first | exact OnlyB.refl _ _ | refine OnlyB.grown ?_ (grown_cell _ _ _ _) (fun i hi => by injection hi with hi; omega))
            have h2 := h1.but hw (fun g hg hh => by
              subst hh
              rcases hg with hg | ⟨dd, hd, hg⟩
              · exact own_kind h1.row hbz.out (by decide) hg
              · exact own_kind (h1.dat.own dd hd) hbz.out (by decide) hg)
            exact HOwn.of h2 (by rw [hmap.out, List.take_of_length_le (by rw [sdL_len, HL.out]; exact Nat.le_refl _)]))
          have e1 := HLE.out
          have e2 : ((sdL bs).map (withS vs)).length = k := by rw [List.length_map, sdL_len, HL.out]
          rw [HYES.out, (fw_yes HYES.out).1, (fw_yes HYES.out).2.1, (fw_yes HYES.out).2.2]
          unfold MadeFB
          rw [e1, e2]
          exact ⟨A2, c2, B2, d2, rfl, ⟨OE_915.out, G9.out, fun g hg => (show w.heap.size ≤ g ∧ g < ((((wr.setCell ⟨w.heap.size + 1, 0, none⟩ (.int .i64 N)).setCell ⟨w.heap.size + 1, 1, none⟩ (.slice A2 n c2)).setCell ⟨w.heap.size + 1, 2, none⟩ (.slice B2 k d2))).heap.size by have h3 := RE.out g hg; have := sz_917.out; omega)⟩, H_914.out⟩
end Go.Proofs.Ytpgnappddddlpaa
