/- The contract of the model's function that does an operation, with the capacity of what it gives. -/
import Derived.Test.YtejibpajjoaldaaC11
import Derived.Test.YtejibpajjoaldaaKSeeC
namespace Go.Proofs.Ytejibpajjoaldaa
open Go.RowKit Go.Maps

set_option maxRecDepth 10000 in
set_option maxHeartbeats 8000000 in
theorem specDoC (r : DD) (o : OpE) (A : Option Addr) (n c : Nat) (B : Option Addr) (m d : Nat) (es : List Ent) (os : List OpE) (w : World) (h : Meant w r A n B m es os) (hc : m ≤ d) (ho : o.d.Ok w) (hos : o.nm.size ≤ 1048576 ∧ o.to.size ≤ 1048576 ∧ o.d.n ≤ 1048576) :
    Calls Try.prog 11 #[.agg #[.int .i64 r.room, .int .i64 r.fuse, .slice A n c, .slice B m d], .agg #[.int .i64 o.kind, .string o.nm, .string o.to, .slice o.d.A o.d.n o.d.c]] w (SeeC w (doA r o.op).1 (.int .i64 (doA r o.op).2)) := by
  obtain ⟨i0, hi, hz0, hz1, hz2⟩ := info_parts Try.infoOp
  obtain ⟨j0, hj, hy0, hy1, hy2⟩ := info_parts Try.infoByte
  have C1 := Lib.hid (fun W (hb : Below w.heap.size w W) => (h.below hb).specOk c d)
  have C2 := Lib.hid (fun W => specOpOk o.kind o.nm o.to o.d.A o.d.n o.d.c W (by omega) (by omega) (by omega))
  have CC := Lib.hid (fun W (hb : Below w.heap.size w W) => (h.below hb).specCopy c d)
  have CS := Lib.hid (fun W (hb : Below w.heap.size w W) => specSeen r A n c B m d es os W (h.below hb) hc)
  have HOK := Lib.hid ho
  have hxl : o.op.2.2.2.length = o.d.n := ho.rd.len
  have HXL := Lib.hid hxl
  have HOO : Hid (opOkF o.op = opOkB o.kind o.nm o.to o.d.n) := Lib.hid (by unfold opOkF; rw [hxl]; rfl)
  have hmm : r.ops.length = m := by rw [← h.ho, List.length_map]; exact h.o.len
  have HMM := Lib.hid hmm
  have hml := h.modest.ol
  have HT := Lib.hid (DD.seen_tot (r := r))
  have HRX := Lib.hid (ho.rd.small)
  have F0 := Lib.hid (((FBox.new w (.int .i64 r.room) (.int .i64 r.fuse) (.slice A n c) (.slice B m d) 26).alloc (.cells #[.int .i64 o.kind, .string o.nm, .string o.to, .slice o.d.A o.d.n o.d.c] 30)).alloc (.cells #[.int .i64 0, .int .i64 0, .slice none 0 0, .slice none 0 0] 26))
  have F1 := Lib.hid ((FBox.second w (.cells #[.int .i64 r.room, .int .i64 r.fuse, .slice A n c, .slice B m d] 26) (.int .i64 o.kind) (.string o.nm) (.string o.to) (.slice o.d.A o.d.n o.d.c) 30).alloc (.cells #[.int .i64 0, .int .i64 0, .slice none 0 0, .slice none 0 0] 26))
  have F2 := Lib.hid (FBox.third w (.cells #[.int .i64 r.room, .int .i64 r.fuse, .slice A n c, .slice B m d] 26) (.cells #[.int .i64 o.kind, .string o.nm, .string o.to, .slice o.d.A o.d.n o.d.c] 30) (.int .i64 0) (.int .i64 0) (.slice none 0 0) (.slice none 0 0) 26)
  have P0 := Lib.hid ((OBox.second (kind := o.kind) (nm := o.nm) (tn := o.to) (A := o.d.A) (n := o.d.n) (c := o.d.c) w (.cells #[.int .i64 r.room, .int .i64 r.fuse, .slice A n c, .slice B m d] 26) 30).below (below_a1 _ (.cells #[.int .i64 0, .int .i64 0, .slice none 0 0, .slice none 0 0] 26)))
  clear h hmm hxl ho
  go_enter Try.func11, Try.ntmps11
  go_wp2_with fail
  refine (C1.out _ (below_a3 _ _ _ _)).mono ?_
  rintro e w1 ⟨rfl, hb1⟩
  have HB1 := Lib.hid (below_chain (below_a3 w _ _ _) hb1)
  have G0 := Lib.hid (F0.out.below hb1)
  have G1 := Lib.hid (F1.out.below hb1)
  have G2 := Lib.hid (F2.out.below hb1)
  have P1 := Lib.hid (P0.out.below hb1)
  clear hb1 F0 F1 F2 P0
  obtain ⟨⟨l0, x00, x01, x02, x03⟩, fr0⟩ := G0.out
  have fr00 := fr0 0
  have fr01 := fr0 1
  have fr02 := fr0 2
  have fr03 := fr0 3
  clear fr0
  obtain ⟨⟨l1, x10, x11, x12, x13⟩, fr1⟩ := G1.out
  have fr10 := fr1 0
  have fr11 := fr1 1
  have fr12 := fr1 2
  have fr13 := fr1 3
  clear fr1
  obtain ⟨⟨l2, x20, x21, x22, x23⟩, fr2⟩ := G2.out
  have fr20 := fr2 0
  have fr21 := fr2 1
  have fr22 := fr2 2
  have fr23 := fr2 3
  clear fr2
  cases hr : r.ok with
  | false =>
    have HE2 : Hid (doA r o.op = (DD.zero, 1)) := Lib.hid (doA_bad (fun hh => by rw [hr] at hh; cases hh.1))
    go_wp2
    refine bodyPost_ret (v := .tuple #[.agg #[.int .i64 0, .int .i64 0, .slice none 0 0, .slice none 0 0], .int .i64 1]) (by simp [results, Try.results11, go_sem, x20, x21, x22, x23]) rfl ?_
    rw [HE2.out]
    exact ⟨none, 0, 0, none, 0, 0, [], [], rfl, rfl, rfl, SlF.nil, SlO.nil, Nat.le_refl _, below_out4 HB1.out (by omega) _ _ _ _⟩
  | true =>
    have hbad : Hid (¬ opOkB o.kind o.nm o.to o.d.n = true → doA r o.op = (DD.zero, 1)) := Lib.hid (fun hh => doA_bad (fun h2 => hh (by rw [← HOO.out]; exact h2.2)))
    go_wp2_with fail
    refine (C2.out _).mono ?_
    rintro e w2 ⟨rfl, hb2⟩
    have HB2 := Lib.hid (below_chain HB1.out hb2)
    have J0 := Lib.hid (G0.out.below hb2)
    have J1 := Lib.hid (G1.out.below hb2)
    have J2 := Lib.hid (G2.out.below hb2)
    have P2 := Lib.hid (P1.out.below hb2)
    clear l0 x00 x01 x02 x03 fr00 fr01 fr02 fr03 l1 x10 x11 x12 x13 fr10 fr11 fr12 fr13 l2 x20 x21 x22 x23 fr20 fr21 fr22 fr23
    clear hb2 G0 G1 G2 P1
    obtain ⟨⟨l0, x00, x01, x02, x03⟩, fr0⟩ := J0.out
    have fr00 := fr0 0
    have fr01 := fr0 1
    have fr02 := fr0 2
    have fr03 := fr0 3
    clear fr0
    obtain ⟨⟨l1, x10, x11, x12, x13⟩, fr1⟩ := J1.out
    have fr10 := fr1 0
    have fr11 := fr1 1
    have fr12 := fr1 2
    have fr13 := fr1 3
    clear fr1
    obtain ⟨⟨l2, x20, x21, x22, x23⟩, fr2⟩ := J2.out
    have fr20 := fr2 0
    have fr21 := fr2 1
    have fr22 := fr2 2
    have fr23 := fr2 3
    clear fr2
    cases hop : opOkB o.kind o.nm o.to o.d.n with
    | false =>
      have HE2 : Hid (doA r o.op = (DD.zero, 1)) := Lib.hid (hbad.out (by rw [hop]; simp))
      go_wp2
      refine bodyPost_ret (v := .tuple #[.agg #[.int .i64 0, .int .i64 0, .slice none 0 0, .slice none 0 0], .int .i64 1]) (by simp [results, Try.results11, go_sem, x20, x21, x22, x23]) rfl ?_
      rw [HE2.out]
      exact ⟨none, 0, 0, none, 0, 0, [], [], rfl, rfl, rfl, SlF.nil, SlO.nil, Nat.le_refl _, below_out4 HB2.out (by omega) _ _ _ _⟩
    | true =>
      have hopF : opOkF o.op = true := by rw [HOO.out]; exact hop
      have HOPF := Lib.hid hopF
      have HRK := Lib.hid hr
      have hlim := DD.ok_lim hr
      have hlf := leftD_eq hr
      clear hbad hopF
      go_wp2_with fail
      refine (CC.out _ HB2.out).mono ?_
      rintro e w3 ⟨A1, c1, B1, d1, es1, os1, rfl, hf1, ho1, hd1, hb3⟩
      have HB3 := Lib.hid (below_chain HB2.out hb3)
      have hlo : w.heap.size + 1 + 1 < w2.heap.size := l2
      have hw23 : w2.heap.size ≤ w3.heap.size := hb3.size
      have K0 := Lib.hid ((J0.out.below hb3).alloc (.cells #[.int .i64 r.room, .int .i64 r.fuse, .slice A1 es1.length c1, .slice B1 os1.length d1] 26))
      have K1 := Lib.hid ((J1.out.below hb3).alloc (.cells #[.int .i64 r.room, .int .i64 r.fuse, .slice A1 es1.length c1, .slice B1 os1.length d1] 26))
      have K2 := Lib.hid ((J2.out.below hb3).alloc (.cells #[.int .i64 r.room, .int .i64 r.fuse, .slice A1 es1.length c1, .slice B1 os1.length d1] 26))
      have K3 := Lib.hid (FBox.new w3 (.int .i64 r.room) (.int .i64 r.fuse) (.slice A1 es1.length c1) (.slice B1 os1.length d1) 26)
      have KD := Lib.hid (hd1.below (below_a1 w3 (.cells #[.int .i64 r.room, .int .i64 r.fuse, .slice A1 es1.length c1, .slice B1 os1.length d1] 26)))
      have P3 := Lib.hid ((P2.out.below hb3).below (below_a1 w3 (.cells #[.int .i64 r.room, .int .i64 r.fuse, .slice A1 es1.length c1, .slice B1 os1.length d1] 26)))
      have KQ := Lib.hid (QBox.new w3 (.int .i64 r.room) (.int .i64 r.fuse) (.slice A1 es1.length c1) (.slice B1 os1.length d1) 26 (quiet_int _) (quiet_int _) (quiet_sl _ _ _) (quiet_sl _ _ _))
      have KT := Lib.hid (TBox.new w3 #[.int .i64 r.room, .int .i64 r.fuse, .slice A1 es1.length c1, .slice B1 os1.length d1] 26)
      have HD3 := Lib.hid hd1
      have HF1 := Lib.hid hf1
      have HO1 := Lib.hid ho1
      have HBA := Lib.hid (HB3.out.alloc HB3.out.size (.cells #[.int .i64 r.room, .int .i64 r.fuse, .slice A1 es1.length c1, .slice B1 os1.length d1] 26))
      clear l0 x00 x01 x02 x03 fr00 fr01 fr02 fr03 l1 x10 x11 x12 x13 fr10 fr11 fr12 fr13 l2 x20 x21 x22 x23 fr20 fr21 fr22 fr23
      clear hb3 hf1 ho1 hd1 J0 J1 J2 P2
      obtain ⟨⟨l0, x00, x01, x02, x03⟩, fr0⟩ := K0.out
      clear fr0
      go_wp2_with fail
      refine (CS.out _ HBA.out).mono ?_
      rintro e w4 ⟨A4, c4, es4, rfl, hf4, hs4, hb4⟩
      have HB4 := Lib.hid (below_chain HBA.out hb4)
      have M0 := Lib.hid (K0.out.below hb4)
      have M1 := Lib.hid (K1.out.below hb4)
      have M2 := Lib.hid (K2.out.below hb4)
      have M3 := Lib.hid (K3.out.below hb4)
      have MD := Lib.hid (KD.out.below hb4)
      have P4 := Lib.hid (P3.out.below hb4)
      have MQ := Lib.hid (KQ.out.below hb4)
      have MT := Lib.hid (KT.out.below hb4)
      have W34 := Lib.hid (below_chain (below_a1 w3 (.cells #[.int .i64 r.room, .int .i64 r.fuse, .slice A1 es1.length c1, .slice B1 os1.length d1] 26)) hb4)
      have HF4 := Lib.hid hf4
      have HS4 := Lib.hid hs4
      have hw34 : w3.heap.size < w4.heap.size := M3.out.box.lt
      clear hb4 hf4 hs4 K0 K1 K2 K3 KD P3 KQ KT l0 x00 x01 x02 x03
      obtain ⟨⟨l0, x00, x01, x02, x03⟩, fr0⟩ := M0.out
      have fr00 := fr0 0
      have fr01 := fr0 1
      have fr02 := fr0 2
      have fr03 := fr0 3
      clear fr0
      obtain ⟨⟨l1, x10, x11, x12, x13⟩, fr1⟩ := M1.out
      have fr10 := fr1 0
      have fr11 := fr1 1
      have fr12 := fr1 2
      have fr13 := fr1 3
      clear fr1
      obtain ⟨⟨l2, x20, x21, x22, x23⟩, fr2⟩ := M2.out
      have fr20 := fr2 0
      have fr21 := fr2 1
      have fr22 := fr2 2
      have fr23 := fr2 3
      clear fr2
      obtain ⟨⟨l3, x30, x31, x32, x33⟩, fr3⟩ := M3.out
      have fr30 := fr3 0
      have fr31 := fr3 1
      have fr32 := fr3 2
      have fr33 := fr3 3
      clear fr3
      by_cases hf0 : r.fuse = 0
      · have HE2 := Lib.hid (doA_2 (o := o.op) HRK.out HOPF.out hf0)
        have hd0 : (r.fuse == 0) = true := by simp [hf0]
        clear hf0
        go_wp2
        refine bodyPost_ret (v := .tuple #[.agg #[.int .i64 r.room, .int .i64 r.fuse, .slice A1 es1.length c1, .slice B1 os1.length d1], .int .i64 2]) (by simp [results, Try.results11, go_sem, x20, x21, x22, x23]) rfl ?_
        rw [HE2.out]
        exact seeC_own (r := r) (MD.out.out4 hlo _ _ _ _) HF1.out HO1.out (below_out4 HB4.out (by omega) _ _ _ _)
      · have hd0 : (r.fuse == 0) = false := by simp [hf0]
        have HNZ := Lib.hid hf0
        clear hf0
        have hl4 : es4.length ≤ 12 := by have h9 := congrArg List.length HF4.out; rw [List.length_map] at h9; have := HT.out.1; omega
        have CF := Lib.hid (specFits A4 es4.length c4 es4 o w4 HS4.out (by omega))
        rw [HF4.out] at CF
        go_wp2_with fail
        refine CF.out.mono ?_
        rintro e w5 ⟨rfl, hb5⟩
        have HB5 := Lib.hid (below_chain HB4.out hb5)
        have N0 := Lib.hid (M0.out.below hb5)
        have N1 := Lib.hid (M1.out.below hb5)
        have N2 := Lib.hid (M2.out.below hb5)
        have N3 := Lib.hid (M3.out.below hb5)
        have ND := Lib.hid (MD.out.below hb5)
        have HS5 := Lib.hid (HS4.out.below hb5)
        have P5 := Lib.hid (P4.out.below hb5)
        have NQ := Lib.hid (MQ.out.below hb5)
        have NT := Lib.hid (MT.out.below hb5)
        have W35 := Lib.hid (below_chain W34.out hb5)
        clear l0 x00 x01 x02 x03 fr00 fr01 fr02 fr03 l1 x10 x11 x12 x13 fr10 fr11 fr12 fr13 l2 x20 x21 x22 x23 fr20 fr21 fr22 fr23 l3 x30 x31 x32 x33 fr30 fr31 fr32 fr33
        clear hb5 M0 M1 M2 M3 MD P4 MQ W34 MT
        obtain ⟨⟨l0, x00, x01, x02, x03⟩, fr0⟩ := N0.out
        have fr00 := fr0 0
        have fr01 := fr0 1
        have fr02 := fr0 2
        have fr03 := fr0 3
        clear fr0
        obtain ⟨⟨l1, x10, x11, x12, x13⟩, fr1⟩ := N1.out
        have fr10 := fr1 0
        have fr11 := fr1 1
        have fr12 := fr1 2
        have fr13 := fr1 3
        clear fr1
        obtain ⟨⟨l2, x20, x21, x22, x23⟩, fr2⟩ := N2.out
        have fr20 := fr2 0
        have fr21 := fr2 1
        have fr22 := fr2 2
        have fr23 := fr2 3
        clear fr2
        obtain ⟨⟨l3, x30, x31, x32, x33⟩, fr3⟩ := N3.out
        have fr30 := fr3 0
        have fr31 := fr3 1
        have fr32 := fr3 2
        have fr33 := fr3 3
        clear fr3
        cases hfit : fitsF r.seen o.op with
        | false =>
          have HE2 := Lib.hid (doA_3 (o := o.op) HRK.out HOPF.out HNZ.out hfit)
          go_wp2
          refine bodyPost_ret (v := .tuple #[.agg #[.int .i64 r.room, .int .i64 r.fuse, .slice A1 es1.length c1, .slice B1 os1.length d1], .int .i64 3]) (by simp [results, Try.results11, go_sem, x20, x21, x22, x23]) rfl ?_
          rw [HE2.out]
          exact seeC_own (r := r) (ND.out.out4 hlo _ _ _ _) HF1.out HO1.out (below_out4 HB5.out (by omega) _ _ _ _)
        | true =>
          by_cases hl60 : m = 60
          · have HE2 := Lib.hid (doA_4 (o := o.op) HRK.out HOPF.out HNZ.out hfit (by rw [HMM.out]; exact hl60))
            subst hl60
            go_wp2
            refine bodyPost_ret (v := .tuple #[.agg #[.int .i64 r.room, .int .i64 r.fuse, .slice A1 es1.length c1, .slice B1 os1.length d1], .int .i64 4]) (by simp [results, Try.results11, go_sem, x20, x21, x22, x23]) rfl ?_
            rw [HE2.out]
            exact seeC_own (r := r) (ND.out.out4 hlo _ _ _ _) HF1.out HO1.out (below_out4 HB5.out (by omega) _ _ _ _)
          · have HE2 := Lib.hid (doA_go (o := o.op) HRK.out HOPF.out HNZ.out hfit (by rw [HMM.out]; exact hl60))
            have hd60 : ((m : Int) == 60) = false := by simp; omega
            have hd60' : (m == 60) = false := by simp [hl60]
            have hb3w : w.heap.size + 1 + 1 < w3.heap.size := by omega
            go_upto_if 39 with fail
            go_cut [] (fun wx => Hid (FBox wx w3.heap.size (.int .i64 r.room) (.int .i64 (burnF r.fuse)) (.slice A1 es1.length c1) (.slice B1 os1.length d1)) ∧ Hid (FBox wx w.heap.size (.int .i64 r.room) (.int .i64 r.fuse) (.slice A n c) (.slice B m d)) ∧ Hid (FBox wx (w.heap.size + 1) (.int .i64 o.kind) (.string o.nm) (.string o.to) (.slice o.d.A o.d.n o.d.c)) ∧ Hid (FBox wx (w.heap.size + 1 + 1) (.int .i64 0) (.int .i64 0) (.slice none 0 0) (.slice none 0 0)) ∧ Hid (OBox wx (w.heap.size + 1) o.kind o.nm o.to o.d.A o.d.n o.d.c) ∧ Hid (QBox wx w3.heap.size) ∧ Hid (SlF wx A4 es4.length es4) ∧ Hid (TBox wx w3.heap.size 26) ∧ Hid (Below w3.heap.size w3 wx) ∧ Hid (Below w.heap.size w wx))
            case first =>
              by_cases hpos : 0 < r.fuse
              · have HBU : Hid (burnF r.fuse = r.fuse - 1) := Lib.hid (by unfold burnF; rw [if_pos hpos])
                have T3 := Lib.hid (N3.out.set1 (.int .i64 (r.fuse - 1)))
                have T0 := Lib.hid (N0.out.far (p := ⟨w3.heap.size, 1, none⟩) (by show w.heap.size ≠ w3.heap.size; omega) (.int .i64 (r.fuse - 1)))
                have T1 := Lib.hid (N1.out.far (p := ⟨w3.heap.size, 1, none⟩) (by show w.heap.size + 1 ≠ w3.heap.size; omega) (.int .i64 (r.fuse - 1)))
                have T2 := Lib.hid (N2.out.far (p := ⟨w3.heap.size, 1, none⟩) (by show w.heap.size + 1 + 1 ≠ w3.heap.size; omega) (.int .i64 (r.fuse - 1)))
                have T4 := Lib.hid (P5.out.keep (Below.heap_setCell w5 ⟨w3.heap.size, 1, none⟩ (.int .i64 (r.fuse - 1)) _ (by show w.heap.size + 1 ≠ w3.heap.size; omega)))
                have T5 := Lib.hid (NQ.out.set 1 (quiet_int (r.fuse - 1)))
                have T6 := Lib.hid (HS5.out.off NQ.out (OffB.one w5 w3.heap.size 1 (.int .i64 (r.fuse - 1))))
                have TT := Lib.hid (NT.out.set 1 (.int .i64 (r.fuse - 1)))
                have T7 := Lib.hid (W35.out.setCell (p := ⟨w3.heap.size, 1, none⟩) (Nat.le_refl _) (.int .i64 (r.fuse - 1)))
                have T8 := Lib.hid (HB5.out.setCell (p := ⟨w3.heap.size, 1, none⟩) (by show w.heap.size ≤ w3.heap.size; omega) (.int .i64 (r.fuse - 1)))
                go_wp2_with fail
                go_meet
                rw [HBU.out]
                exact ⟨T3, T0, T1, T2, T4, T5, T6, TT, T7, T8⟩
              · have HBU : Hid (burnF r.fuse = r.fuse) := Lib.hid (by unfold burnF; rw [if_neg hpos])
                go_wp2_with fail
                go_meet
                rw [HBU.out]
                exact ⟨N3, N0, N1, N2, P5, NQ, HS5, NT, W35, HB5⟩
            case rest =>
              rename World => wq
              obtain ⟨R3, R0, R1, R2, RP, RQ, RS, RT, RW, RB⟩ := hcut
              clear l0 x00 x01 x02 x03 fr00 fr01 fr02 fr03 l1 x10 x11 x12 x13 fr10 fr11 fr12 fr13 l2 x20 x21 x22 x23 fr20 fr21 fr22 fr23 l3 x30 x31 x32 x33 fr30 fr31 fr32 fr33
              clear N0 N1 N2 N3 ND HS5 P5 NQ NT W35 HB5
              have hwc : w3.heap.size < wq.heap.size := R3.out.box.lt
              have hon : o.d.n ≤ 1048576 := hos.2.2
              obtain ⟨⟨l1, x10, x11, x12, x13⟩, fr1⟩ := R1.out
              have fr13 := fr1 3
              clear fr1
              go_upto_region 15 with (at_builtin; refine wpList_append_any _ rfl (.tmp 44) (.tmp 46) _ rfl wq.heap.size 5 j0 _ 1 1 Try.underlying22 hj hy0 hy1 hy2 rfl (by omega) (.slice (some ⟨wq.heap.size, 0, none⟩) 0 0) 0 [] rfl (built_none wq) wq.heap.size o.d.A o.d.n o.d.c (vb o.d.xs) rfl ((HOK.out.below RB.out).rd.reads.alloc (Nat.le_refl _) (.cells #[] 5)) (vb_oneCell _) (by simp only [maxLen]; omega) (by omega) (by simp) ?_; intro v1 w6 hown1 hg1 hat1; simp only [Nat.zero_add, List.nil_append] at hown1; obtain ⟨A2, cc2, hv1⟩ := own_form hown1; subst hv1; have B6 := Lib.hid ((below_a1 wq (.cells #[] 5)).grown hg1 (by simp) (fun j hj => by simp [Value.ownBlock] at hj; omega)); have HO6 := Lib.hid hown1; obtain ⟨⟨f, f0, f1, f2, f3⟩, ffr⟩ := R1.out.below B6.out; have fr3 := ffr 3; clear ffr hown1 hg1 hat1)
              have hz6 : wq.heap.size ≤ w6.heap.size := B6.out.size
              have Z0 := Lib.hid ((R0.out.below B6.out).far (p := ⟨w.heap.size + 1, 3, none⟩) (by show w.heap.size ≠ w.heap.size + 1; omega) (.slice A2 o.d.n cc2))
              have Z1 := Lib.hid ((R1.out.below B6.out).set3 (.slice A2 o.d.n cc2))
              have Z2 := Lib.hid ((R2.out.below B6.out).far (p := ⟨w.heap.size + 1, 3, none⟩) (by show w.heap.size + 1 + 1 ≠ w.heap.size + 1; omega) (.slice A2 o.d.n cc2))
              have Z3 := Lib.hid ((R3.out.below B6.out).far (p := ⟨w.heap.size + 1, 3, none⟩) (by show w3.heap.size ≠ w.heap.size + 1; omega) (.slice A2 o.d.n cc2))
              have ZT := Lib.hid ((RT.out.below B6.out).keep (Below.heap_setCell w6 ⟨w.heap.size + 1, 3, none⟩ (.slice A2 o.d.n cc2) _ (by show w3.heap.size ≠ w.heap.size + 1; omega)))
              have ZO := Lib.hid (own_set_low HO6.out (p := ⟨w.heap.size + 1, 3, none⟩) (by show w.heap.size + 1 < wq.heap.size; omega) (.slice A2 o.d.n cc2))
              have ZB := Lib.hid ((below_chain RB.out B6.out).setCell (p := ⟨w.heap.size + 1, 3, none⟩) (by show w.heap.size ≤ w.heap.size + 1; omega) (.slice A2 o.d.n cc2))
              have ZD := Lib.hid (((HD3.out.below RW.out).below B6.out).lows (Lows.set (Lows.refl _ _) (p := ⟨w.heap.size + 1, 3, none⟩) (by show w.heap.size + 1 < w2.heap.size; omega) (.slice A2 o.d.n cc2)))
              have ZK : Hid (Dat.Ok (w6.setCell ⟨w.heap.size + 1, 3, none⟩ (.slice A2 o.d.n cc2)) ⟨A2, o.d.n, cc2, o.d.xs⟩) := Lib.hid ⟨Rd.of_own ZO.out HRX.out, own_cap ZO.out⟩
              obtain ⟨es5, hs5, hfs5⟩ := (RS.out.below B6.out).swap (RP.out.below B6.out) (OffB.one w6 (w.heap.size + 1) 3 (.slice A2 o.d.n cc2)) ((RP.out.below B6.out).set A2 o.d.n cc2) ((HOK.out.below RB.out).below B6.out).rd ZK.out
              have HS6 := Lib.hid hs5
              have HF6 := Lib.hid hfs5
              clear hs5 hfs5
              clear l1 x10 x11 x12 x13 fr13 f f0 f1 f2 f3 fr3 R0 R1 R2 R3 RP RQ RS RT ZK HO6
              have hz7 : wq.heap.size ≤ (w6.setCell ⟨w.heap.size + 1, 3, none⟩ (.slice A2 o.d.n cc2)).heap.size := by rw [World.size_setCell]; exact hz6
              clear B6 hz6
              generalize (w6.setCell ⟨w.heap.size + 1, 3, none⟩ (.slice A2 o.d.n cc2)) = wy at Z0 Z1 Z2 Z3 ZT ZO ZB ZD HS6 hz7 ⊢
              have hTE : totE es5 = totF r.seen := by rw [totE_file es5 HS6.out.each, HF6.out, HF4.out]
              have hTL := HT.out.2
              have CB := Lib.hid (fun W (hs : SlF W A4 es4.length es5) => specBytes A4 es4.length c4 es5 W hs (by omega) (by rw [hTE]; omega))
              rw [hTE] at CB
              clear hTE hTL
              generalize totF r.seen = tt at CB hlf
              obtain ⟨hlf1, hlf2⟩ := hlf
              have htt : (tt : Int) = r.room - (leftD r : Int) := by omega
              have HTT := Lib.hid htt
              clear htt
              obtain ⟨⟨l0, x00, x01, x02, x03⟩, fr0⟩ := Z0.out
              clear fr0
              go_cut [9] (fun s9 wx => s9 = .int .i64 (leftD r : Int) ∧ Hid (FBox wx w.heap.size (.int .i64 r.room) (.int .i64 r.fuse) (.slice A n c) (.slice B m d)) ∧ Hid (FBox wx (w.heap.size + 1) (.int .i64 o.kind) (.string o.nm) (.string o.to) (.slice A2 o.d.n cc2)) ∧ Hid (FBox wx (w.heap.size + 1 + 1) (.int .i64 0) (.int .i64 0) (.slice none 0 0) (.slice none 0 0)) ∧ Hid (FBox wx w3.heap.size (.int .i64 r.room) (.int .i64 (burnF r.fuse)) (.slice A1 es1.length c1) (.slice B1 os1.length d1)) ∧ Hid (TBox wx w3.heap.size 26) ∧ Hid (World.ownsRow wx wq.heap.size 5 1 (.slice A2 o.d.n cc2) o.d.n (vb o.d.xs)) ∧ Hid (Below w.heap.size w wx) ∧ Hid (OwnD wx w2.heap.size A1 c1 B1 d1 es1 os1))
              case first =>
                have hlf3 := hlf1
                clear hlf1
                go_region_held3 (fun W => W.cell? ⟨w.heap.size, 0, none⟩ = some (.int .i64 r.room))
                  (first
                    | go_keep
                    | (exact (HB7.out.cell (p := ⟨w.heap.size, 0, none⟩) l0).trans (by first | exact x00 | simp [*])))
                  (first
                    | (go_at_call 53; ((with_reducible refine (CB.out _ (by first | exact HS6.out | exact HS6.out.drewN 1 | exact HS6.out.drew)).mono ?_)); rintro e1 w7 ⟨rfl, hb7⟩; have HB7 : Hid (Below wy.heap.size wy w7) := Lib.hid (by first | exact hb7 | exact ⟨hb7.os, hb7.tape, hb7.output, hb7.size, hb7.block⟩)))
                all_goals
                  go_wp2_with fail
                  go_meet
                  refine ⟨?_, Lib.hid (Z0.out.below HB7.out), Lib.hid (Z1.out.below HB7.out), Lib.hid (Z2.out.below HB7.out), Lib.hid (Z3.out.below HB7.out), Lib.hid (ZT.out.below HB7.out), Lib.hid (own_below ZO.out HB7.out), Lib.hid (below_chain ZB.out HB7.out), Lib.hid (ZD.out.below HB7.out)⟩
                  first
                    | go_num
                    | (exact congrArg (Value.int .i64) (by rw [IntKind.wrap_i64]; omega))
              case rest =>
                obtain ⟨rfl, V0, V1, V2, V3, VT, VO, VB, VD⟩ := hcut
                clear Z0 Z1 Z2 Z3 ZT ZO ZB ZD HS6 HF6 l0 x00 x01 x02 x03 CB HTT hlf1
                have hol : os1.length ≤ 1048576 := by have h9 := congrArg List.length HO1.out; rw [List.length_map, HMM.out] at h9; omega
                have htk : o.op.2.2.2.take o.d.n = o.op.2.2.2 := List.take_of_length_le (by rw [HXL.out]; exact Nat.le_refl _)
                have HCK : Hid (cutO o.op o.d.n = o.op) := Lib.hid (by unfold cutO; rw [htk])
                clear htk
                by_cases hk2 : o.kind = 2
                · have hdk : (o.kind == 2) = true := by simp [hk2]
                  clear hk2
                  by_cases hct : leftD r < o.d.n
                  · have hdc : decide ((leftD r : Int) < (o.d.n : Int)) = true := by simp; omega
                    obtain ⟨g, cap, hv, _, _⟩ := VO.out.form (show 0 < o.d.n by omega)
                    obtain rfl : A2 = some ⟨g, 0, none⟩ := by injection hv
                    clear hv
                    have hcc : o.d.n ≤ cc2 := own_cap VO.out
                    have hlc : leftD r ≤ cc2 := by omega
                    obtain ⟨⟨l1, x10, x11, x12, x13⟩, fr1⟩ := V1.out
                    have fr10 := fr1 0
                    have fr11 := fr1 1
                    have fr12 := fr1 2
                    have fr13 := fr1 3
                    clear fr1
                    have hsz : w3.heap.size < wc.heap.size := V3.out.box.lt
                    have U1 := Lib.hid (V1.out.set3 (.slice (some ⟨g, 0, none⟩) (leftD r) cc2))
                    have U2 := Lib.hid (V2.out.far (p := ⟨w.heap.size + 1, 3, none⟩) (by show w.heap.size + 1 + 1 ≠ w.heap.size + 1; omega) (.slice (some ⟨g, 0, none⟩) (leftD r) cc2))
                    have U3 := Lib.hid (V3.out.far (p := ⟨w.heap.size + 1, 3, none⟩) (by show w3.heap.size ≠ w.heap.size + 1; omega) (.slice (some ⟨g, 0, none⟩) (leftD r) cc2))
                    have UT := Lib.hid (VT.out.keep (Below.heap_setCell wc ⟨w.heap.size + 1, 3, none⟩ (.slice (some ⟨g, 0, none⟩) (leftD r) cc2) _ (by show w3.heap.size ≠ w.heap.size + 1; omega)))
                    have UO := Lib.hid (own_set_low VO.out (p := ⟨w.heap.size + 1, 3, none⟩) (by show w.heap.size + 1 < wq.heap.size; omega) (.slice (some ⟨g, 0, none⟩) (leftD r) cc2))
                    have UB := Lib.hid (VB.out.setCell (p := ⟨w.heap.size + 1, 3, none⟩) (by show w.heap.size ≤ w.heap.size + 1; omega) (.slice (some ⟨g, 0, none⟩) (leftD r) cc2))
                    have UD := Lib.hid (VD.out.lows (Lows.set (Lows.refl _ _) (p := ⟨w.heap.size + 1, 3, none⟩) (by show w.heap.size + 1 < w2.heap.size; omega) (.slice (some ⟨g, 0, none⟩) (leftD r) cc2)))
                    go_upto_region 19 with fail
                    clear l1 x10 x11 x12 x13 fr10 fr11 fr12 fr13 V0 V1 V2 V3 VT VO VB VD hsz
                    generalize wc.setCell ⟨w.heap.size + 1, 3, none⟩ (.slice (some ⟨g, 0, none⟩) (leftD r) cc2) = wz at U1 U2 U3 UT UO UB UD ⊢
                    have V1 := U1
                    have V2 := U2
                    have V3 := U3
                    have VT := UT
                    have VO := UO
                    have VB := UB
                    have VD := UD
                    clear U1 U2 U3 UT UO UB UD
                    by_cases hl0 : leftD r = 0
                    · have HE3 : Hid (doA r o.op = (⟨r.room, burnF r.fuse, r.fs, r.ops⟩, 5)) := Lib.hid (by rw [HE2.out]; unfold doOps; rw [HXL.out, if_pos hct, if_pos hct, if_pos hl0])
                      have hdl : ¬ 0 < leftD r := by omega
                      clear hl0
                      obtain ⟨⟨l2, x20, x21, x22, x23⟩, fr2⟩ := V2.out
                      have fr20 := fr2 0
                      have fr21 := fr2 1
                      have fr22 := fr2 2
                      have fr23 := fr2 3
                      clear fr2
                      obtain ⟨⟨l3, x30, x31, x32, x33⟩, fr3⟩ := V3.out
                      have fr30 := fr3 0
                      have fr31 := fr3 1
                      have fr32 := fr3 2
                      have fr33 := fr3 3
                      clear fr3
                      go_wp2
                      refine bodyPost_ret (v := .tuple #[.agg #[.int .i64 r.room, .int .i64 (burnF r.fuse), .slice A1 es1.length c1, .slice B1 os1.length d1], .int .i64 5]) (by simp [results, Try.results11, go_sem, x20, x21, x22, x23]) rfl ?_
                      rw [HE3.out]
                      exact seeC_own (r := ⟨r.room, burnF r.fuse, r.fs, r.ops⟩) (VD.out.out4 hlo _ _ _ _) HF1.out HO1.out (below_out4 VB.out (by omega) _ _ _ _)
                    · have HE3 : Hid (doA r o.op = (⟨r.room, burnF r.fuse, r.fs, r.ops ++ [cutO o.op (leftD r)]⟩, 5)) := Lib.hid (by rw [HE2.out]; unfold doOps; rw [HXL.out, if_pos hct, if_pos hct, if_neg hl0])
                      have hdl : 0 < leftD r := by omega
                      obtain ⟨⟨l1, x10, x11, x12, x13⟩, fr1⟩ := V1.out
                      have fr10 := fr1 0
                      have fr11 := fr1 1
                      have fr12 := fr1 2
                      have fr13 := fr1 3
                      clear fr1
                      obtain ⟨⟨l2, x20, x21, x22, x23⟩, fr2⟩ := V2.out
                      have fr20 := fr2 0
                      have fr21 := fr2 1
                      have fr22 := fr2 2
                      have fr23 := fr2 3
                      clear fr2
                      obtain ⟨⟨l3, x30, x31, x32, x33⟩, fr3⟩ := V3.out
                      have fr30 := fr3 0
                      have fr31 := fr3 1
                      have fr32 := fr3 2
                      have fr33 := fr3 3
                      clear fr3
                      go_wp2_with (at_builtin; refine wpList_append_any _ rfl (.tmp 76) (.tmp 78) _ rfl w2.heap.size 30 i0 _ 4 64 Try.underlying24 hi hz0 hz1 hz2 rfl (by omega) (.slice B1 os1.length d1) os1.length (os1.flatMap OpE.cells) rfl (VD.out.o.row.alloc _) (wz.heap.size + 1) (some ⟨wz.heap.size, 0, none⟩) 1 1 (OpE.cells (((⟨o.kind, o.nm, o.to, ⟨(some ⟨g, 0, none⟩), o.d.n, cc2, o.d.xs⟩⟩ : OpE)).cut ((leftD r)))) rfl (four_reads _ _ _ _ _ _ _ (by simp)) (OpE.cells_one _) (by simp only [maxLen]; omega) (by omega) (by simp; omega) ?_; intro v2 w8 hown2 hg2 hat2; obtain ⟨B2, d2, hv2⟩ := own_formK hown2; subst hv2; have hrow := VD.out.o.row.alloc (.cells #[.int .i64 o.kind, .string o.nm, .string o.to, .slice (some ⟨g, 0, none⟩) (leftD r) cc2] 30); have hone : OwnB wz wq.heap.size [⟨(some ⟨g, 0, none⟩), o.d.n, cc2, o.d.xs⟩] := OwnB.one (d := ⟨(some ⟨g, 0, none⟩), o.d.n, cc2, o.d.xs⟩) VO.out HRX.out; have hold := HD3.out.f.dat.append HD3.out.o.dat HD3.out.x; have HALL := Lib.hid (((((VD.out.f.dat.append VD.out.o.dat VD.out.x).append (hone.mono (by omega)) (apart_of_time hold (Nat.le_refl _) hone (by omega))).below (below_a1 _ (.cells #[.int .i64 o.kind, .string o.nm, .string o.to, .slice (some ⟨g, 0, none⟩) (leftD r) cc2] 30))).grow hrow (by decide) hg2)); have HF8 := Lib.hid (own_grow (VD.out.f.row.alloc (.cells #[.int .i64 o.kind, .string o.nm, .string o.to, .slice (some ⟨g, 0, none⟩) (leftD r) cc2] 30)) hrow (by decide) hg2); have hap := (VT.out.below (below_a1 _ (.cells #[.int .i64 o.kind, .string o.nm, .string o.to, .slice (some ⟨g, 0, none⟩) (leftD r) cc2] 30))).apart hrow (by decide); have hfar : ∀ g, g < w2.heap.size → (Value.slice B1 os1.length d1).ownBlock ≠ some g := fun g hg hh => (by have := (hrow.lt g hh).1; omega); have X2 := Lib.hid ((V2.out.alloc (.cells #[.int .i64 o.kind, .string o.nm, .string o.to, .slice (some ⟨g, 0, none⟩) (leftD r) cc2] 30)).grown hg2 (hfar _ (by omega))); have X3 := Lib.hid ((V3.out.alloc (.cells #[.int .i64 o.kind, .string o.nm, .string o.to, .slice (some ⟨g, 0, none⟩) (leftD r) cc2] 30)).grown hg2 hap); have XT := Lib.hid ((VT.out.below (below_a1 _ (.cells #[.int .i64 o.kind, .string o.nm, .string o.to, .slice (some ⟨g, 0, none⟩) (leftD r) cc2] 30))).keep (hg2.block _ (V3.out.alloc (.cells #[.int .i64 o.kind, .string o.nm, .string o.to, .slice (some ⟨g, 0, none⟩) (leftD r) cc2] 30)).box.lt (fun e => hap e.symm))); have XB := Lib.hid ((below_chain VB.out (below_a1 _ (.cells #[.int .i64 o.kind, .string o.nm, .string o.to, .slice (some ⟨g, 0, none⟩) (leftD r) cc2] 30))).grown hg2 (by simp; omega) (fun j hj => by have := (hrow.lt j hj).1; omega)); have HO8 : Hid (w8.ownsRow w2.heap.size 30 4 (.slice B2 (os1 ++ [(((⟨o.kind, o.nm, o.to, ⟨(some ⟨g, 0, none⟩), o.d.n, cc2, o.d.xs⟩⟩ : OpE)).cut ((leftD r)))]).length d2) (os1 ++ [(((⟨o.kind, o.nm, o.to, ⟨(some ⟨g, 0, none⟩), o.d.n, cc2, o.d.xs⟩⟩ : OpE)).cut ((leftD r)))]).length ((os1 ++ [(((⟨o.kind, o.nm, o.to, ⟨(some ⟨g, 0, none⟩), o.d.n, cc2, o.d.xs⟩⟩ : OpE)).cut ((leftD r)))]).flatMap OpE.cells)) := Lib.hid (by rw [flat_snoc, List.length_append]; exact hown2); clear hrow hone hold hap hfar hown2 hg2 hat2; clear l1 x10 x11 x12 x13 fr10 fr11 fr12 fr13 l2 x20 x21 x22 x23 fr20 fr21 fr22 fr23 l3 x30 x31 x32 x33 fr30 fr31 fr32 fr33; obtain ⟨⟨l2, x20, x21, x22, x23⟩, fr2⟩ := X2.out; have fr20 := fr2 0; have fr21 := fr2 1; have fr22 := fr2 2; have fr23 := fr2 3; clear fr2; obtain ⟨⟨l3, x30, x31, x32, x33⟩, fr3⟩ := X3.out; have fr30 := fr3 0; have fr31 := fr3 1; have fr32 := fr3 2; have fr33 := fr3 3; clear fr3)
                      refine bodyPost_ret (v := .tuple #[.agg #[.int .i64 r.room, .int .i64 (burnF r.fuse), .slice A1 es1.length c1, .slice B2 (os1.length + 1) d2], .int .i64 5]) (by simp [results, Try.results11, go_sem, x20, x21, x22, x23]) rfl ?_
                      rw [HE3.out]
                      have h9 := seeC_app (w := w) (r := ⟨r.room, burnF r.fuse, r.fs, r.ops ++ [cutO o.op ((leftD r))]⟩) (x := .int .i64 5) (u := .slice B2 (os1.length + 1) d2) (u0 := .int .i64 r.room) (u1 := .int .i64 (burnF r.fuse)) (u2 := .slice A1 es1.length c1) (u3 := .slice B2 (os1.length + 1) d2) (b2 := w.heap.size + 1 + 1) (b3 := w3.heap.size) (f := ⟨o.kind, o.nm, o.to, ⟨(some ⟨g, 0, none⟩), o.d.n, cc2, o.d.xs⟩⟩) (K := (leftD r)) HF8.out HO8.out HALL.out XT.out (by omega) (by omega) (by omega) XB.out (by first | exact Nat.le_refl _ | (show _ ≤ o.d.n; omega)) HF1.out (by rw [List.map_append, HO1.out]; rfl)
                      rw [List.length_append] at h9
                      exact h9
                  · have hdc : decide ((leftD r : Int) < (o.d.n : Int)) = false := by simp; omega
                    have HE3 : Hid (doA r o.op = (⟨r.room, burnF r.fuse, r.fs, r.ops ++ [cutO o.op o.d.n]⟩, 0)) := Lib.hid (by rw [HCK.out, HE2.out]; unfold doOps; rw [HXL.out, if_neg hct, if_neg hct])
                    obtain ⟨⟨l1, x10, x11, x12, x13⟩, fr1⟩ := V1.out
                    have fr10 := fr1 0
                    have fr11 := fr1 1
                    have fr12 := fr1 2
                    have fr13 := fr1 3
                    clear fr1
                    obtain ⟨⟨l2, x20, x21, x22, x23⟩, fr2⟩ := V2.out
                    have fr20 := fr2 0
                    have fr21 := fr2 1
                    have fr22 := fr2 2
                    have fr23 := fr2 3
                    clear fr2
                    obtain ⟨⟨l3, x30, x31, x32, x33⟩, fr3⟩ := V3.out
                    have fr30 := fr3 0
                    have fr31 := fr3 1
                    have fr32 := fr3 2
                    have fr33 := fr3 3
                    clear fr3
                    go_wp2_with (at_builtin; refine wpList_append_any _ rfl (.tmp 76) (.tmp 78) _ rfl w2.heap.size 30 i0 _ 4 64 Try.underlying24 hi hz0 hz1 hz2 rfl (by omega) (.slice B1 os1.length d1) os1.length (os1.flatMap OpE.cells) rfl (VD.out.o.row.alloc _) (wc.heap.size + 1) (some ⟨wc.heap.size, 0, none⟩) 1 1 (OpE.cells (((⟨o.kind, o.nm, o.to, ⟨A2, o.d.n, cc2, o.d.xs⟩⟩ : OpE)).cut (o.d.n))) rfl (four_reads _ _ _ _ _ _ _ (by simp)) (OpE.cells_one _) (by simp only [maxLen]; omega) (by omega) (by simp; omega) ?_; intro v2 w8 hown2 hg2 hat2; obtain ⟨B2, d2, hv2⟩ := own_formK hown2; subst hv2; have hrow := VD.out.o.row.alloc (.cells #[.int .i64 o.kind, .string o.nm, .string o.to, .slice A2 o.d.n cc2] 30); have hone : OwnB wc wq.heap.size [⟨A2, o.d.n, cc2, o.d.xs⟩] := OwnB.one (d := ⟨A2, o.d.n, cc2, o.d.xs⟩) VO.out HRX.out; have hold := HD3.out.f.dat.append HD3.out.o.dat HD3.out.x; have HALL := Lib.hid (((((VD.out.f.dat.append VD.out.o.dat VD.out.x).append (hone.mono (by omega)) (apart_of_time hold (Nat.le_refl _) hone (by omega))).below (below_a1 _ (.cells #[.int .i64 o.kind, .string o.nm, .string o.to, .slice A2 o.d.n cc2] 30))).grow hrow (by decide) hg2)); have HF8 := Lib.hid (own_grow (VD.out.f.row.alloc (.cells #[.int .i64 o.kind, .string o.nm, .string o.to, .slice A2 o.d.n cc2] 30)) hrow (by decide) hg2); have hap := (VT.out.below (below_a1 _ (.cells #[.int .i64 o.kind, .string o.nm, .string o.to, .slice A2 o.d.n cc2] 30))).apart hrow (by decide); have hfar : ∀ g, g < w2.heap.size → (Value.slice B1 os1.length d1).ownBlock ≠ some g := fun g hg hh => (by have := (hrow.lt g hh).1; omega); have X2 := Lib.hid ((V2.out.alloc (.cells #[.int .i64 o.kind, .string o.nm, .string o.to, .slice A2 o.d.n cc2] 30)).grown hg2 (hfar _ (by omega))); have X3 := Lib.hid ((V3.out.alloc (.cells #[.int .i64 o.kind, .string o.nm, .string o.to, .slice A2 o.d.n cc2] 30)).grown hg2 hap); have XT := Lib.hid ((VT.out.below (below_a1 _ (.cells #[.int .i64 o.kind, .string o.nm, .string o.to, .slice A2 o.d.n cc2] 30))).keep (hg2.block _ (V3.out.alloc (.cells #[.int .i64 o.kind, .string o.nm, .string o.to, .slice A2 o.d.n cc2] 30)).box.lt (fun e => hap e.symm))); have XB := Lib.hid ((below_chain VB.out (below_a1 _ (.cells #[.int .i64 o.kind, .string o.nm, .string o.to, .slice A2 o.d.n cc2] 30))).grown hg2 (by simp; omega) (fun j hj => by have := (hrow.lt j hj).1; omega)); have HO8 : Hid (w8.ownsRow w2.heap.size 30 4 (.slice B2 (os1 ++ [(((⟨o.kind, o.nm, o.to, ⟨A2, o.d.n, cc2, o.d.xs⟩⟩ : OpE)).cut (o.d.n))]).length d2) (os1 ++ [(((⟨o.kind, o.nm, o.to, ⟨A2, o.d.n, cc2, o.d.xs⟩⟩ : OpE)).cut (o.d.n))]).length ((os1 ++ [(((⟨o.kind, o.nm, o.to, ⟨A2, o.d.n, cc2, o.d.xs⟩⟩ : OpE)).cut (o.d.n))]).flatMap OpE.cells)) := Lib.hid (by rw [flat_snoc, List.length_append]; exact hown2); clear hrow hone hold hap hfar hown2 hg2 hat2; clear l1 x10 x11 x12 x13 fr10 fr11 fr12 fr13 l2 x20 x21 x22 x23 fr20 fr21 fr22 fr23 l3 x30 x31 x32 x33 fr30 fr31 fr32 fr33; obtain ⟨⟨l2, x20, x21, x22, x23⟩, fr2⟩ := X2.out; have fr20 := fr2 0; have fr21 := fr2 1; have fr22 := fr2 2; have fr23 := fr2 3; clear fr2; obtain ⟨⟨l3, x30, x31, x32, x33⟩, fr3⟩ := X3.out; have fr30 := fr3 0; have fr31 := fr3 1; have fr32 := fr3 2; have fr33 := fr3 3; clear fr3)
                    refine bodyPost_ret (v := .tuple #[.agg #[.int .i64 r.room, .int .i64 (burnF r.fuse), .slice A1 es1.length c1, .slice B2 (os1.length + 1) d2], .int .i64 0]) (by simp [results, Try.results11, go_sem, x20, x21, x22, x23]) rfl ?_
                    rw [HE3.out]
                    have h9 := seeC_app (w := w) (r := ⟨r.room, burnF r.fuse, r.fs, r.ops ++ [cutO o.op (o.d.n)]⟩) (x := .int .i64 0) (u := .slice B2 (os1.length + 1) d2) (u0 := .int .i64 r.room) (u1 := .int .i64 (burnF r.fuse)) (u2 := .slice A1 es1.length c1) (u3 := .slice B2 (os1.length + 1) d2) (b2 := w.heap.size + 1 + 1) (b3 := w3.heap.size) (f := ⟨o.kind, o.nm, o.to, ⟨A2, o.d.n, cc2, o.d.xs⟩⟩) (K := o.d.n) HF8.out HO8.out HALL.out XT.out (by omega) (by omega) (by omega) XB.out (by first | exact Nat.le_refl _ | (show _ ≤ o.d.n; omega)) HF1.out (by rw [List.map_append, HO1.out]; rfl)
                    rw [List.length_append] at h9
                    exact h9
                · have hdk : (o.kind == 2) = false := by simp [hk2]
                  have hn0 : o.d.n = 0 := by have h9 := opOkF_data HOPF.out; rw [HXL.out] at h9; exact h9.resolve_left hk2
                  have HE3 : Hid (doA r o.op = (⟨r.room, burnF r.fuse, r.fs, r.ops ++ [cutO o.op o.d.n]⟩, 0)) := Lib.hid (by rw [HCK.out, HE2.out]; unfold doOps; rw [HXL.out, if_neg (by omega), if_neg (by omega)])
                  clear hn0
                  obtain ⟨⟨l1, x10, x11, x12, x13⟩, fr1⟩ := V1.out
                  have fr10 := fr1 0
                  have fr11 := fr1 1
                  have fr12 := fr1 2
                  have fr13 := fr1 3
                  clear fr1
                  obtain ⟨⟨l2, x20, x21, x22, x23⟩, fr2⟩ := V2.out
                  have fr20 := fr2 0
                  have fr21 := fr2 1
                  have fr22 := fr2 2
                  have fr23 := fr2 3
                  clear fr2
                  obtain ⟨⟨l3, x30, x31, x32, x33⟩, fr3⟩ := V3.out
                  have fr30 := fr3 0
                  have fr31 := fr3 1
                  have fr32 := fr3 2
                  have fr33 := fr3 3
                  clear fr3
                  go_wp2_with (at_builtin; refine wpList_append_any _ rfl (.tmp 76) (.tmp 78) _ rfl w2.heap.size 30 i0 _ 4 64 Try.underlying24 hi hz0 hz1 hz2 rfl (by omega) (.slice B1 os1.length d1) os1.length (os1.flatMap OpE.cells) rfl (VD.out.o.row.alloc _) (wc.heap.size + 1) (some ⟨wc.heap.size, 0, none⟩) 1 1 (OpE.cells (((⟨o.kind, o.nm, o.to, ⟨A2, o.d.n, cc2, o.d.xs⟩⟩ : OpE)).cut (o.d.n))) rfl (four_reads _ _ _ _ _ _ _ (by simp)) (OpE.cells_one _) (by simp only [maxLen]; omega) (by omega) (by simp; omega) ?_; intro v2 w8 hown2 hg2 hat2; obtain ⟨B2, d2, hv2⟩ := own_formK hown2; subst hv2; have hrow := VD.out.o.row.alloc (.cells #[.int .i64 o.kind, .string o.nm, .string o.to, .slice A2 o.d.n cc2] 30); have hone : OwnB wc wq.heap.size [⟨A2, o.d.n, cc2, o.d.xs⟩] := OwnB.one (d := ⟨A2, o.d.n, cc2, o.d.xs⟩) VO.out HRX.out; have hold := HD3.out.f.dat.append HD3.out.o.dat HD3.out.x; have HALL := Lib.hid (((((VD.out.f.dat.append VD.out.o.dat VD.out.x).append (hone.mono (by omega)) (apart_of_time hold (Nat.le_refl _) hone (by omega))).below (below_a1 _ (.cells #[.int .i64 o.kind, .string o.nm, .string o.to, .slice A2 o.d.n cc2] 30))).grow hrow (by decide) hg2)); have HF8 := Lib.hid (own_grow (VD.out.f.row.alloc (.cells #[.int .i64 o.kind, .string o.nm, .string o.to, .slice A2 o.d.n cc2] 30)) hrow (by decide) hg2); have hap := (VT.out.below (below_a1 _ (.cells #[.int .i64 o.kind, .string o.nm, .string o.to, .slice A2 o.d.n cc2] 30))).apart hrow (by decide); have hfar : ∀ g, g < w2.heap.size → (Value.slice B1 os1.length d1).ownBlock ≠ some g := fun g hg hh => (by have := (hrow.lt g hh).1; omega); have X2 := Lib.hid ((V2.out.alloc (.cells #[.int .i64 o.kind, .string o.nm, .string o.to, .slice A2 o.d.n cc2] 30)).grown hg2 (hfar _ (by omega))); have X3 := Lib.hid ((V3.out.alloc (.cells #[.int .i64 o.kind, .string o.nm, .string o.to, .slice A2 o.d.n cc2] 30)).grown hg2 hap); have XT := Lib.hid ((VT.out.below (below_a1 _ (.cells #[.int .i64 o.kind, .string o.nm, .string o.to, .slice A2 o.d.n cc2] 30))).keep (hg2.block _ (V3.out.alloc (.cells #[.int .i64 o.kind, .string o.nm, .string o.to, .slice A2 o.d.n cc2] 30)).box.lt (fun e => hap e.symm))); have XB := Lib.hid ((below_chain VB.out (below_a1 _ (.cells #[.int .i64 o.kind, .string o.nm, .string o.to, .slice A2 o.d.n cc2] 30))).grown hg2 (by simp; omega) (fun j hj => by have := (hrow.lt j hj).1; omega)); have HO8 : Hid (w8.ownsRow w2.heap.size 30 4 (.slice B2 (os1 ++ [(((⟨o.kind, o.nm, o.to, ⟨A2, o.d.n, cc2, o.d.xs⟩⟩ : OpE)).cut (o.d.n))]).length d2) (os1 ++ [(((⟨o.kind, o.nm, o.to, ⟨A2, o.d.n, cc2, o.d.xs⟩⟩ : OpE)).cut (o.d.n))]).length ((os1 ++ [(((⟨o.kind, o.nm, o.to, ⟨A2, o.d.n, cc2, o.d.xs⟩⟩ : OpE)).cut (o.d.n))]).flatMap OpE.cells)) := Lib.hid (by rw [flat_snoc, List.length_append]; exact hown2); clear hrow hone hold hap hfar hown2 hg2 hat2; clear l1 x10 x11 x12 x13 fr10 fr11 fr12 fr13 l2 x20 x21 x22 x23 fr20 fr21 fr22 fr23 l3 x30 x31 x32 x33 fr30 fr31 fr32 fr33; obtain ⟨⟨l2, x20, x21, x22, x23⟩, fr2⟩ := X2.out; have fr20 := fr2 0; have fr21 := fr2 1; have fr22 := fr2 2; have fr23 := fr2 3; clear fr2; obtain ⟨⟨l3, x30, x31, x32, x33⟩, fr3⟩ := X3.out; have fr30 := fr3 0; have fr31 := fr3 1; have fr32 := fr3 2; have fr33 := fr3 3; clear fr3)
                  refine bodyPost_ret (v := .tuple #[.agg #[.int .i64 r.room, .int .i64 (burnF r.fuse), .slice A1 es1.length c1, .slice B2 (os1.length + 1) d2], .int .i64 0]) (by simp [results, Try.results11, go_sem, x20, x21, x22, x23]) rfl ?_
                  rw [HE3.out]
                  have h9 := seeC_app (w := w) (r := ⟨r.room, burnF r.fuse, r.fs, r.ops ++ [cutO o.op (o.d.n)]⟩) (x := .int .i64 0) (u := .slice B2 (os1.length + 1) d2) (u0 := .int .i64 r.room) (u1 := .int .i64 (burnF r.fuse)) (u2 := .slice A1 es1.length c1) (u3 := .slice B2 (os1.length + 1) d2) (b2 := w.heap.size + 1 + 1) (b3 := w3.heap.size) (f := ⟨o.kind, o.nm, o.to, ⟨A2, o.d.n, cc2, o.d.xs⟩⟩) (K := o.d.n) HF8.out HO8.out HALL.out XT.out (by omega) (by omega) (by omega) XB.out (by first | exact Nat.le_refl _ | (show _ ≤ o.d.n; omega)) HF1.out (by rw [List.map_append, HO1.out]; rfl)
                  rw [List.length_append] at h9
                  exact h9
end Go.Proofs.Ytejibpajjoaldaa
