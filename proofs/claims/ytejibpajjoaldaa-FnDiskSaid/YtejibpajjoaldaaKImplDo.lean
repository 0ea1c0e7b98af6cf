/- The contract of the program's function that does an operation. -/
import Derived.Test.YtejibpajjoaldaaKSpecDo
import Derived.Test.YtejibpajjoaldaaC1
namespace Go.Proofs.Ytejibpajjoaldaa
open Go.RowKit Go.Maps

/-- The answer: the copied files, the copied operations and a new one behind them, all in new memory. -/
theorem resD_app {w w8 : World} {lo b2 b3 c1 d2 : Nat} {A1 B2 : Option Addr} {es : List Ent} {os : List OpE} {f : OpE} {r : DD} {x u u0 u1 u2 u3 : Value}
    (hf : w8.ownsRow lo 87 2 (.slice A1 es.length c1) es.length (es.flatMap Ent.cells))
    (ho : w8.ownsRow lo 30 4 (.slice B2 (os ++ [f]).length d2) (os ++ [f]).length ((os ++ [f]).flatMap OpE.cells))
    (hd : OwnB w8 lo (es.map Ent.d ++ os.map OpE.d ++ [f.d])) (ht : TBox w8 b3 26) (hb2 : b2 < lo) (hw2 : w.heap.size ≤ b2) (hw3 : w.heap.size ≤ b3) (hB : Below w.heap.size w w8)
    (h1 : es.map Ent.file = r.fs) (h2 : (os ++ [f]).map OpE.op = r.ops) :
    ResD w r x (.returned (.tuple #[.agg #[.int .i64 r.room, .int .i64 r.fuse, .slice A1 es.length c1, .slice B2 (os ++ [f]).length d2], x])) (((((w8.setCell ⟨b3, 3, none⟩ u).setCell ⟨b2, 0, none⟩ u0).setCell ⟨b2, 1, none⟩ u1).setCell ⟨b2, 2, none⟩ u2).setCell ⟨b2, 3, none⟩ u3) := by
  have hL : Lows lo (w8.setCell ⟨b3, 3, none⟩ u) (((((w8.setCell ⟨b3, 3, none⟩ u).setCell ⟨b2, 0, none⟩ u0).setCell ⟨b2, 1, none⟩ u1).setCell ⟨b2, 2, none⟩ u2).setCell ⟨b2, 3, none⟩ u3) :=
    Lows.set (Lows.set (Lows.set (Lows.set (Lows.refl _ _) hb2 _) hb2 _) hb2 _) hb2 _
  have hf9 := own_keep (own_set_type hf (p := ⟨b3, 3, none⟩) ht (by decide) u) (fun k hk _ => hL k hk)
  have ho9 := own_keep (own_set_type ho (p := ⟨b3, 3, none⟩) ht (by decide) u) (fun k hk _ => hL k hk)
  have hd9 := (hd.set_type (p := ⟨b3, 3, none⟩) ht (by decide) u).keep (fun k hk _ => hL k hk)
  have hx : ∀ a ∈ es.map Ent.d, ∀ b ∈ (os ++ [f]).map OpE.d, Apart a b := by
    have h9 := hd9.apart
    rw [List.append_assoc] at h9
    intro a ha b hb
    exact (List.pairwise_append.1 h9).2.2 a ha b (by rw [List.map_append] at hb; exact hb)
  have hod : OwnD (((((w8.setCell ⟨b3, 3, none⟩ u).setCell ⟨b2, 0, none⟩ u0).setCell ⟨b2, 1, none⟩ u1).setCell ⟨b2, 2, none⟩ u2).setCell ⟨b2, 3, none⟩ u3) lo A1 c1 B2 d2 es (os ++ [f]) :=
    ⟨⟨hf9, hd9.left.left⟩, ⟨ho9, by rw [List.map_append]; rw [List.append_assoc] at hd9; exact hd9.right⟩, hx⟩
  exact resD_own hod (by omega) h1 h2 (below_out4 (hB.setCell hw3 u) hw2 u0 u1 u2 u3)
theorem minWrap {n K : Nat} {x : Int} (h0 : 0 ≤ x) (h1 : x ≤ 200000) (h : min (n : Int) x = (K : Int)) : min (n : Int) (IntKind.i64.wrap x) = (K : Int) := by
  have e : IntKind.i64.wrap x = x := by rw [IntKind.wrap_i64]; omega
  rw [e]
  exact h
theorem minK {n : Nat} {l : Nat} {q : Int} (h : q = (l : Int)) : min (n : Int) q = ((min n l : Nat) : Int) := by subst h; omega

set_option maxRecDepth 10000 in
set_option maxHeartbeats 2000000 in
theorem implDo (r : DD) (o : OpE) (A : Option Addr) (n c : Nat) (B : Option Addr) (m d : Nat) (es : List Ent) (os : List OpE) (w : World) (h : Meant w r A n B m es os) (ho : o.d.Ok w) (hos : o.nm.size ≤ 1048576 ∧ o.to.size ≤ 1048576 ∧ o.d.n ≤ 1048576) :
    Calls Try.prog 10 #[.agg #[.int .i64 r.room, .int .i64 r.fuse, .slice A n c, .slice B m d], .agg #[.int .i64 o.kind, .string o.nm, .string o.to, .slice o.d.A o.d.n o.d.c]] w (ResD w (doA r o.op).1 (.int .i64 (doA r o.op).2)) := by
  obtain ⟨i0, hi, hz0, hz1, hz2⟩ := info_parts Try.infoOp
  have CV := Lib.hid (fun W (hb : Below w.heap.size w W) => (h.below hb).vis c d)
  have C2 := Lib.hid (fun W => implOpOk o.kind o.nm o.to o.d.A o.d.n o.d.c W (by omega) (by omega) (by omega))
  have CC := Lib.hid (fun W (hb : Below w.heap.size w W) => (h.below hb).implCopy c d)
  have HOK := Lib.hid ho
  have hxl : o.op.2.2.2.length = o.d.n := ho.rd.len
  have HXL := Lib.hid hxl
  have HOO : Hid (opOkF o.op = opOkB o.kind o.nm o.to o.d.n) := Lib.hid (by unfold opOkF; rw [hxl]; rfl)
  have hmm : r.ops.length = m := by rw [← h.ho, List.length_map]; exact h.o.len
  have HMM := Lib.hid hmm
  have hml := h.modest.ol
  have HT := Lib.hid (DD.seen_tot (r := r))
  have HRX := Lib.hid (ho.rd.small)
  have HWT := Lib.hid h.wt
  have F0 := Lib.hid (((FBox.new w (.int .i64 r.room) (.int .i64 r.fuse) (.slice A n c) (.slice B m d) 26).alloc (.cells #[.int .i64 o.kind, .string o.nm, .string o.to, .slice o.d.A o.d.n o.d.c] 30)).alloc (.cells #[.int .i64 0, .int .i64 0, .slice none 0 0, .slice none 0 0] 26))
  have F1 := Lib.hid ((FBox.second w (.cells #[.int .i64 r.room, .int .i64 r.fuse, .slice A n c, .slice B m d] 26) (.int .i64 o.kind) (.string o.nm) (.string o.to) (.slice o.d.A o.d.n o.d.c) 30).alloc (.cells #[.int .i64 0, .int .i64 0, .slice none 0 0, .slice none 0 0] 26))
  have F2 := Lib.hid (FBox.third w (.cells #[.int .i64 r.room, .int .i64 r.fuse, .slice A n c, .slice B m d] 26) (.cells #[.int .i64 o.kind, .string o.nm, .string o.to, .slice o.d.A o.d.n o.d.c] 30) (.int .i64 0) (.int .i64 0) (.slice none 0 0) (.slice none 0 0) 26)
  clear h hmm hxl ho
  go_enter Try.func10, Try.ntmps10
  go_wp2_with fail
  refine (CV.out _ (below_a3 _ _ _ _)).mono ?_
  rintro e w1 (⟨hok, rfl, hb1⟩ | ⟨hok, mb, esm, rfl, hf1, hm1, hb1⟩)
  · have HB1 := Lib.hid (below_chain (below_a3 w _ _ _) hb1)
    have G2 := Lib.hid (F2.out.below hb1)
    have HE2 : Hid (doA r o.op = (DD.zero, 1)) := Lib.hid (doA_bad (fun hh => by rw [hok] at hh; cases hh.1))
    clear hb1 F0 F1 F2 hok
    obtain ⟨⟨l2, x20, x21, x22, x23⟩, fr2⟩ := G2.out
    have fr20 := fr2 0
    have fr21 := fr2 1
    have fr22 := fr2 2
    have fr23 := fr2 3
    clear fr2
    go_wp2
    refine bodyPost_ret (v := .tuple #[.agg #[.int .i64 0, .int .i64 0, .slice none 0 0, .slice none 0 0], .int .i64 1]) (by simp [results, Try.results10, go_sem, x20, x21, x22, x23]) rfl ?_
    rw [HE2.out]
    exact ⟨none, 0, 0, none, 0, 0, [], [], rfl, rfl, rfl, rfl, rfl, OwnD.nil, below_out4 HB1.out (by omega) _ _ _ _⟩
  · have HB1 := Lib.hid (below_chain (below_a3 w _ _ _) hb1)
    have G0 := Lib.hid (F0.out.below hb1)
    have G1 := Lib.hid (F1.out.below hb1)
    have G2 := Lib.hid (F2.out.below hb1)
    have HRK := Lib.hid hok
    have HF1 := Lib.hid hf1
    have HM1 := Lib.hid hm1
    have hfine := (hm1.fine hf1 HWT.out).1
    have hlim := DD.ok_lim hok
    have hlf := leftD_eq hok
    have hbad : Hid (¬ opOkB o.kind o.nm o.to o.d.n = true → doA r o.op = (DD.zero, 1)) := Lib.hid (fun hh => doA_bad (fun h2 => hh (by rw [← HOO.out]; exact h2.2)))
    clear hb1 F0 F1 F2 hok hf1 hm1
    obtain ⟨⟨l0, x00, x01, x02, x03⟩, fr0⟩ := G0.out
    have fr00 := fr0 0
    have fr01 := fr0 1
    have fr02 := fr0 2
    have fr03 := fr0 3
    clear fr0
    obtain ⟨⟨l1, x10, x11, x12, x13⟩, fr1⟩ := G1.out
    have fr10 := fr1 0
    have fr11 := fr1 1
    have fr12 := fr1 2
    have fr13 := fr1 3
    clear fr1
    obtain ⟨⟨l2, x20, x21, x22, x23⟩, fr2⟩ := G2.out
    have fr20 := fr2 0
    have fr21 := fr2 1
    have fr22 := fr2 2
    have fr23 := fr2 3
    clear fr2
    go_wp2_with fail
    refine (C2.out _).mono ?_
    rintro e w2 ⟨rfl, hb2⟩
    have HB2 := Lib.hid (below_chain HB1.out hb2)
    have J0 := Lib.hid (G0.out.below hb2)
    have J1 := Lib.hid (G1.out.below hb2)
    have J2 := Lib.hid (G2.out.below hb2)
    have HM2 := Lib.hid (HM1.out.below hb2)
    clear l0 x00 x01 x02 x03 fr00 fr01 fr02 fr03 l1 x10 x11 x12 x13 fr10 fr11 fr12 fr13 l2 x20 x21 x22 x23 fr20 fr21 fr22 fr23
    clear hb2 G0 G1 G2 HM1
    obtain ⟨⟨l0, x00, x01, x02, x03⟩, fr0⟩ := J0.out
    have fr00 := fr0 0
    have fr01 := fr0 1
    have fr02 := fr0 2
    have fr03 := fr0 3
    clear fr0
    obtain ⟨⟨l1, x10, x11, x12, x13⟩, fr1⟩ := J1.out
    have fr10 := fr1 0
    have fr11 := fr1 1
    have fr12 := fr1 2
    have fr13 := fr1 3
    clear fr1
    obtain ⟨⟨l2, x20, x21, x22, x23⟩, fr2⟩ := J2.out
    have fr20 := fr2 0
    have fr21 := fr2 1
    have fr22 := fr2 2
    have fr23 := fr2 3
    clear fr2
    cases hop : opOkB o.kind o.nm o.to o.d.n with
    | false =>
      have HE2 : Hid (doA r o.op = (DD.zero, 1)) := Lib.hid (hbad.out (by rw [hop]; simp))
      go_wp2
      refine bodyPost_ret (v := .tuple #[.agg #[.int .i64 0, .int .i64 0, .slice none 0 0, .slice none 0 0], .int .i64 1]) (by simp [results, Try.results10, go_sem, x20, x21, x22, x23]) rfl ?_
      rw [HE2.out]
      exact ⟨none, 0, 0, none, 0, 0, [], [], rfl, rfl, rfl, rfl, rfl, OwnD.nil, below_out4 HB2.out (by omega) _ _ _ _⟩
    | true =>
      have HOPF : Hid (opOkF o.op = true) := Lib.hid (by rw [HOO.out]; exact hop)
      clear hbad
      go_wp2_with fail
      refine (CC.out _ HB2.out).mono ?_
      rintro e w3 ⟨A1, c1, B1, d1, es1, os1, rfl, hf1, ho1, hd1, hb3⟩
      have HB3 := Lib.hid (below_chain HB2.out hb3)
      have hlo : w.heap.size + 1 + 1 < w2.heap.size := l2
      have hw23 : w2.heap.size ≤ w3.heap.size := hb3.size
      have K0 := Lib.hid ((J0.out.below hb3).alloc (.cells #[.int .i64 r.room, .int .i64 r.fuse, .slice A1 es1.length c1, .slice B1 os1.length d1] 26))
      have K1 := Lib.hid ((J1.out.below hb3).alloc (.cells #[.int .i64 r.room, .int .i64 r.fuse, .slice A1 es1.length c1, .slice B1 os1.length d1] 26))
      have K2 := Lib.hid ((J2.out.below hb3).alloc (.cells #[.int .i64 r.room, .int .i64 r.fuse, .slice A1 es1.length c1, .slice B1 os1.length d1] 26))
      have K3 := Lib.hid (FBox.new w3 (.int .i64 r.room) (.int .i64 r.fuse) (.slice A1 es1.length c1) (.slice B1 os1.length d1) 26)
      have KT := Lib.hid (TBox.new w3 #[.int .i64 r.room, .int .i64 r.fuse, .slice A1 es1.length c1, .slice B1 os1.length d1] 26)
      have KD := Lib.hid (hd1.below (below_a1 w3 (.cells #[.int .i64 r.room, .int .i64 r.fuse, .slice A1 es1.length c1, .slice B1 os1.length d1] 26)))
      have HM3 := Lib.hid ((HM2.out.below hb3).below (below_a1 w3 (.cells #[.int .i64 r.room, .int .i64 r.fuse, .slice A1 es1.length c1, .slice B1 os1.length d1] 26)))
      have HMB := Lib.hid (HM2.out.below hb3)
      have HD3 := Lib.hid hd1
      have HF3 := Lib.hid hf1
      have HO3 := Lib.hid ho1
      have HBA := Lib.hid (HB3.out.alloc HB3.out.size (.cells #[.int .i64 r.room, .int .i64 r.fuse, .slice A1 es1.length c1, .slice B1 os1.length d1] 26))
      have W3 := Lib.hid (below_a1 w3 (.cells #[.int .i64 r.room, .int .i64 r.fuse, .slice A1 es1.length c1, .slice B1 os1.length d1] 26))
      clear l0 x00 x01 x02 x03 fr00 fr01 fr02 fr03 l1 x10 x11 x12 x13 fr10 fr11 fr12 fr13 l2 x20 x21 x22 x23 fr20 fr21 fr22 fr23
      clear hb3 hf1 ho1 hd1 J0 J1 J2 HM2
      obtain ⟨⟨l0, x00, x01, x02, x03⟩, fr0⟩ := K0.out
      have fr00 := fr0 0
      have fr01 := fr0 1
      have fr02 := fr0 2
      have fr03 := fr0 3
      clear fr0
      obtain ⟨⟨l1, x10, x11, x12, x13⟩, fr1⟩ := K1.out
      have fr10 := fr1 0
      have fr11 := fr1 1
      have fr12 := fr1 2
      have fr13 := fr1 3
      clear fr1
      obtain ⟨⟨l2, x20, x21, x22, x23⟩, fr2⟩ := K2.out
      have fr20 := fr2 0
      have fr21 := fr2 1
      have fr22 := fr2 2
      have fr23 := fr2 3
      clear fr2
      obtain ⟨⟨l3, x30, x31, x32, x33⟩, fr3⟩ := K3.out
      have fr30 := fr3 0
      have fr31 := fr3 1
      have fr32 := fr3 2
      have fr33 := fr3 3
      clear fr3
      by_cases hf0 : r.fuse = 0
      · have HE2 := Lib.hid (doA_2 (o := o.op) HRK.out HOPF.out hf0)
        have hd0 : (r.fuse == 0) = true := by simp [hf0]
        clear hf0
        go_wp2
        refine bodyPost_ret (v := .tuple #[.agg #[.int .i64 r.room, .int .i64 r.fuse, .slice A1 es1.length c1, .slice B1 os1.length d1], .int .i64 2]) (by simp [results, Try.results10, go_sem, x20, x21, x22, x23]) rfl ?_
        rw [HE2.out]
        exact resD_own (r := r) (KD.out.out4 hlo _ _ _ _) (by omega) HF3.out HO3.out (below_out4 HBA.out (by omega) _ _ _ _)
      · have hd0 : (r.fuse == 0) = false := by simp [hf0]
        have HNZ := Lib.hid hf0
        clear hf0
        have CF := Lib.hid (fun W hm => implApp (w.heap.size + 1 + 1 + 1) mb esm o W hm (by omega) (by omega))
        rw [HF1.out] at CF
        go_wp2_with fail
        refine (CF.out _ (by first | exact HM3.out | exact HM3.out.mono (by simp))).mono ?_
        rintro e w5 ⟨rfl, hb5⟩
        have HB5 := Lib.hid (below_chain HBA.out hb5)
        have N0 := Lib.hid (K0.out.below hb5)
        have N1 := Lib.hid (K1.out.below hb5)
        have N2 := Lib.hid (K2.out.below hb5)
        have N3 := Lib.hid (K3.out.below hb5)
        have NT := Lib.hid (KT.out.below hb5)
        have ND := Lib.hid (KD.out.below hb5)
        have W5 := Lib.hid (below_chain W3.out hb5)
        clear l0 x00 x01 x02 x03 fr00 fr01 fr02 fr03 l1 x10 x11 x12 x13 fr10 fr11 fr12 fr13 l2 x20 x21 x22 x23 fr20 fr21 fr22 fr23 l3 x30 x31 x32 x33 fr30 fr31 fr32 fr33
        clear hb5 K0 K1 K2 K3 KT KD HM3 HBA W3
        obtain ⟨⟨l0, x00, x01, x02, x03⟩, fr0⟩ := N0.out
        have fr00 := fr0 0
        have fr01 := fr0 1
        have fr02 := fr0 2
        have fr03 := fr0 3
        clear fr0
        obtain ⟨⟨l1, x10, x11, x12, x13⟩, fr1⟩ := N1.out
        have fr10 := fr1 0
        have fr11 := fr1 1
        have fr12 := fr1 2
        have fr13 := fr1 3
        clear fr1
        obtain ⟨⟨l2, x20, x21, x22, x23⟩, fr2⟩ := N2.out
        have fr20 := fr2 0
        have fr21 := fr2 1
        have fr22 := fr2 2
        have fr23 := fr2 3
        clear fr2
        obtain ⟨⟨l3, x30, x31, x32, x33⟩, fr3⟩ := N3.out
        have fr30 := fr3 0
        have fr31 := fr3 1
        have fr32 := fr3 2
        have fr33 := fr3 3
        clear fr3
        cases hfit : fitsF r.seen o.op with
        | false =>
          have HE2 := Lib.hid (doA_3 (o := o.op) HRK.out HOPF.out HNZ.out hfit)
          go_wp2
          refine bodyPost_ret (v := .tuple #[.agg #[.int .i64 r.room, .int .i64 r.fuse, .slice A1 es1.length c1, .slice B1 os1.length d1], .int .i64 3]) (by simp [results, Try.results10, go_sem, x20, x21, x22, x23]) rfl ?_
          rw [HE2.out]
          exact resD_own (r := r) (ND.out.out4 hlo _ _ _ _) (by omega) HF3.out HO3.out (below_out4 HB5.out (by omega) _ _ _ _)
        | true =>
          by_cases hl60 : m = 60
          · have HE2 := Lib.hid (doA_4 (o := o.op) HRK.out HOPF.out HNZ.out hfit (by rw [HMM.out]; exact hl60))
            subst hl60
            go_wp2
            refine bodyPost_ret (v := .tuple #[.agg #[.int .i64 r.room, .int .i64 r.fuse, .slice A1 es1.length c1, .slice B1 os1.length d1], .int .i64 4]) (by simp [results, Try.results10, go_sem, x20, x21, x22, x23]) rfl ?_
            rw [HE2.out]
            exact resD_own (r := r) (ND.out.out4 hlo _ _ _ _) (by omega) HF3.out HO3.out (below_out4 HB5.out (by omega) _ _ _ _)
          · have HE2 := Lib.hid (doA_go (o := o.op) HRK.out HOPF.out HNZ.out hfit (by rw [HMM.out]; exact hl60))
            have hd60 : ((m : Int) == 60) = false := by simp; omega
            have hd60' : (m == 60) = false := by simp [hl60]
            have hb3w : w.heap.size + 1 + 1 < w3.heap.size := by omega
            have CB := Lib.hid (fun W => burnt_any r.fuse W (by omega) (by omega))
            obtain ⟨bf, hbf⟩ : ∃ bf, bf = burnF r.fuse := ⟨_, rfl⟩
            rw [← hbf] at CB HE2
            clear hbf
            go_wp2_with fail
            refine (CB.out _).mono ?_
            rintro e w6 ⟨rfl, rfl⟩
            have T3 := Lib.hid (N3.out.set1 (.int .i64 bf))
            have T0 := Lib.hid (N0.out.far (p := ⟨w3.heap.size, 1, none⟩) (by show w.heap.size ≠ w3.heap.size; omega) (.int .i64 bf))
            have T1 := Lib.hid (N1.out.far (p := ⟨w3.heap.size, 1, none⟩) (by show w.heap.size + 1 ≠ w3.heap.size; omega) (.int .i64 bf))
            have T2 := Lib.hid (N2.out.far (p := ⟨w3.heap.size, 1, none⟩) (by show w.heap.size + 1 + 1 ≠ w3.heap.size; omega) (.int .i64 bf))
            have TT := Lib.hid (NT.out.set 1 (.int .i64 bf))
            have T7 := Lib.hid (W5.out.setCell (p := ⟨w3.heap.size, 1, none⟩) (Nat.le_refl _) (.int .i64 bf))
            have T8 := Lib.hid (HB5.out.setCell (p := ⟨w3.heap.size, 1, none⟩) (by show w.heap.size ≤ w3.heap.size; omega) (.int .i64 bf))
            have hlf1 := hlf.1
            have HLF := Lib.hid hlf
            have hon : o.d.n ≤ 1048576 := hos.2.2
            have HTE : Hid (totE esm = totF r.seen) := Lib.hid (by rw [HMB.out.tot, HF1.out])
            have CTT := Lib.hid (fun W (hb : Below w3.heap.size w3 W) => implTotal _ mb esm W (HMB.out.below hb) (by rw [HTE.out]; have := HT.out.2; omega))
            rw [HTE.out] at CTT
            have hLQ : totF r.seen ≤ 200000 := HT.out.2
            have HKM : Hid (min (o.d.n : Int) (r.room - (totF r.seen : Int)) = ((min o.d.n (leftD r) : Nat) : Int)) := Lib.hid (minK hlf1)
            obtain ⟨K, hK⟩ : ∃ K, K = min o.d.n (leftD r) := ⟨_, rfl⟩
            have HKN : Hid (min (o.d.n : Int) (leftD r : Int) = (K : Int)) := Lib.hid (by rw [hK]; exact minK rfl)
            rw [← hK] at HKM
            have HK := Lib.hid hK
            have hKn : K ≤ o.d.n := by omega
            generalize totF r.seen = tt at CTT HKM hlf1 hLQ
            clear hK hlf
            go_upto_region 12 with fail
            clear l0 x00 x01 x02 x03 fr00 fr01 fr02 fr03 l1 x10 x11 x12 x13 fr10 fr11 fr12 fr13 l2 x20 x21 x22 x23 fr20 fr21 fr22 fr23 l3 x30 x31 x32 x33 fr30 fr31 fr32 fr33
            clear N0 N1 N2 N3 NT W5 HB5
            obtain ⟨⟨l0, x00, x01, x02, x03⟩, fr0⟩ := T0.out
            clear fr0
            obtain ⟨⟨l1, x10, x11, x12, x13⟩, fr1⟩ := T1.out
            clear fr1
            generalize w5.setCell ⟨w3.heap.size, 1, none⟩ (.int .i64 bf) = wy at T0 T1 T2 T3 TT T7 T8 l0 x00 x01 x02 x03 l1 x10 x11 x12 x13 ⊢
            go_cut [9] (fun s9 wx => s9 = .int .i64 (K : Int) ∧ Hid (FBox wx w.heap.size (.int .i64 r.room) (.int .i64 r.fuse) (.slice A n c) (.slice B m d)) ∧ Hid (FBox wx (w.heap.size + 1) (.int .i64 o.kind) (.string o.nm) (.string o.to) (.slice o.d.A o.d.n o.d.c)) ∧ Hid (FBox wx (w.heap.size + 1 + 1) (.int .i64 0) (.int .i64 0) (.slice none 0 0) (.slice none 0 0)) ∧ Hid (FBox wx w3.heap.size (.int .i64 r.room) (.int .i64 bf) (.slice A1 es1.length c1) (.slice B1 os1.length d1)) ∧ Hid (TBox wx w3.heap.size 26) ∧ Hid (Below w.heap.size w wx) ∧ Hid (Below w3.heap.size w3 wx))
            case first =>
              go_region_held3 (fun W => W.cell? ⟨w.heap.size, 0, none⟩ = some (.int .i64 r.room) ∧ W.cell? ⟨w.heap.size + 1, 3, none⟩ = some (.slice o.d.A o.d.n o.d.c))
                (first
                  | go_keep
                  | (exact ⟨(HB7.out.cell (p := ⟨w.heap.size, 0, none⟩) l0).trans (by first | exact x00 | simp [*]), (HB7.out.cell (p := ⟨w.heap.size + 1, 3, none⟩) l1).trans (by first | exact x13 | simp [*])⟩))
                (first
                  | (go_at_call 47; ((with_reducible refine (CTT.out _ (by first | exact T7.out | exact T7.out.drew | exact below_drewN T7.out _)).mono ?_)); rintro e1 w7 ⟨rfl, hb7⟩; have HB7 : Hid (Below wy.heap.size wy w7) := Lib.hid (by first | exact hb7 | exact ⟨hb7.os, hb7.tape, hb7.output, hb7.size, hb7.block⟩)))
              all_goals
                go_wp2_with fail
                go_meet
                refine ⟨?_, Lib.hid (T0.out.below HB7.out), Lib.hid (T1.out.below HB7.out), Lib.hid (T2.out.below HB7.out), Lib.hid (T3.out.below HB7.out), Lib.hid (TT.out.below HB7.out), Lib.hid (below_chain T8.out HB7.out), Lib.hid (below_chain T7.out HB7.out)⟩
                have := HKM.out
                first
                  | exact congrArg (Value.int .i64) this
                  | exact congrArg (Value.int .i64) HKN.out
                  | exact congrArg (Value.int .i64) (minWrap (by omega) (by omega) HKN.out)
                  | exact congrArg (Value.int .i64) (minWrap (by omega) (by omega) this)
            case rest =>
              rename World => wq
              obtain ⟨rfl, V0, V1, V2, V3, VT, VB, VW⟩ := hcut
              clear T0 T1 T2 T3 TT T7 T8 l0 x00 x01 x02 x03 l1 x10 x11 x12 x13 CTT HKM hlf1 hLQ CV CC CF CB C2
              have VD := Lib.hid (HD3.out.below VW.out)
              have hol : os1.length ≤ 1048576 := by have h9 := congrArg List.length HO3.out; rw [List.length_map, HMM.out] at h9; omega
              have HRXK : Hid (∀ x ∈ o.d.xs.take K, x < 256) := Lib.hid (fun x hx => HRX.out x (List.mem_of_mem_take hx))
              have hwc : w3.heap.size < wq.heap.size := V3.out.box.lt
              have hcap : o.d.n ≤ o.d.c := HOK.out.cap
              have hKc : K ≤ o.d.c := by omega
              have CCL := Lib.hid (fun W (hb : Below w.heap.size w W) => clone_any o.d.A K o.d.c (o.d.xs.take K) W ((HOK.out.below hb).rd.take hKn) (by omega))
              by_cases hct : leftD r < o.d.n
              · have hKl : K = leftD r := by have := HK.out; omega
                have HKL := Lib.hid hKl
                have dfl : decide ((K : Int) < (o.d.n : Int)) = true := by simp; omega
                have dfl' : decide (K < o.d.n) = true := by simp; omega
                by_cases hl0 : K = 0
                · have HE3 : Hid (doA r o.op = (⟨r.room, bf, r.fs, r.ops⟩, 5)) := Lib.hid (by rw [HE2.out]; unfold doOps; rw [HXL.out, if_pos hct, if_pos hct, if_pos (by omega)])
                  have hdl : ¬ 0 < K := by omega
                  clear hl0 hKl
                  obtain ⟨⟨l1, x10, x11, x12, x13⟩, fr1⟩ := V1.out
                  have fr10 := fr1 0
                  have fr11 := fr1 1
                  have fr12 := fr1 2
                  have fr13 := fr1 3
                  clear fr1
                  obtain ⟨⟨l2, x20, x21, x22, x23⟩, fr2⟩ := V2.out
                  have fr20 := fr2 0
                  have fr21 := fr2 1
                  have fr22 := fr2 2
                  have fr23 := fr2 3
                  clear fr2
                  obtain ⟨⟨l3, x30, x31, x32, x33⟩, fr3⟩ := V3.out
                  have fr30 := fr3 0
                  have fr31 := fr3 1
                  have fr32 := fr3 2
                  have fr33 := fr3 3
                  clear fr3
                  go_wp2
                  refine bodyPost_ret (v := .tuple #[.agg #[.int .i64 r.room, .int .i64 bf, .slice A1 es1.length c1, .slice B1 os1.length d1], .int .i64 5]) (by simp [results, Try.results10, go_sem, x20, x21, x22, x23]) rfl ?_
                  rw [HE3.out]
                  exact resD_own (r := ⟨r.room, bf, r.fs, r.ops⟩) (VD.out.out4 hlo _ _ _ _) (by omega) HF3.out HO3.out (below_out4 VB.out (by omega) _ _ _ _)
                · have HE3 : Hid (doA r o.op = (⟨r.room, bf, r.fs, r.ops ++ [cutO o.op K]⟩, 5)) := Lib.hid (by rw [HE2.out]; unfold doOps; rw [HXL.out, if_pos hct, if_pos hct, if_neg (by omega), HKL.out])
                  have hdl : 0 < K := by omega
                  clear hl0 hKl
                  obtain ⟨⟨l1, x10, x11, x12, x13⟩, fr1⟩ := V1.out
                  have fr10 := fr1 0
                  have fr11 := fr1 1
                  have fr12 := fr1 2
                  have fr13 := fr1 3
                  clear fr1
                  go_wp2_with fail
                  refine (CCL.out _ VB.out).mono ?_
                  rintro e w6 ⟨A2, cc2, rfl, hown6, hb6⟩
                  have hz6 : wq.heap.size ≤ w6.heap.size := hb6.size
                  have Z0 := Lib.hid ((V0.out.below hb6).far (p := ⟨w.heap.size + 1, 3, none⟩) (by show w.heap.size ≠ w.heap.size + 1; omega) (.slice A2 K cc2))
                  have Z1 := Lib.hid ((V1.out.below hb6).set3 (.slice A2 K cc2))
                  have Z2 := Lib.hid ((V2.out.below hb6).far (p := ⟨w.heap.size + 1, 3, none⟩) (by show w.heap.size + 1 + 1 ≠ w.heap.size + 1; omega) (.slice A2 K cc2))
                  have Z3 := Lib.hid ((V3.out.below hb6).far (p := ⟨w.heap.size + 1, 3, none⟩) (by show w3.heap.size ≠ w.heap.size + 1; omega) (.slice A2 K cc2))
                  have ZT := Lib.hid ((VT.out.below hb6).keep (Below.heap_setCell w6 ⟨w.heap.size + 1, 3, none⟩ (.slice A2 K cc2) _ (by show w3.heap.size ≠ w.heap.size + 1; omega)))
                  have ZO := Lib.hid (own_set_low hown6 (p := ⟨w.heap.size + 1, 3, none⟩) (by show w.heap.size + 1 < wq.heap.size; omega) (.slice A2 K cc2))
                  have ZB := Lib.hid ((below_chain VB.out hb6).setCell (p := ⟨w.heap.size + 1, 3, none⟩) (by show w.heap.size ≤ w.heap.size + 1; omega) (.slice A2 K cc2))
                  have ZD := Lib.hid ((VD.out.below hb6).lows (Lows.set (Lows.refl _ _) (p := ⟨w.heap.size + 1, 3, none⟩) (by show w.heap.size + 1 < w2.heap.size; omega) (.slice A2 K cc2)))
                  have Y0 := Lib.hid (V0.out.below hb6)
                  have Y1 := Lib.hid (V1.out.below hb6)
                  have Y2 := Lib.hid (V2.out.below hb6)
                  have Y3 := Lib.hid (V3.out.below hb6)
                  clear hown6 hb6 V0 V1 V2 V3 VT VB VD VW
                  clear l1 x10 x11 x12 x13 fr10 fr11 fr12 fr13
                  obtain ⟨⟨l1, x10, x11, x12, x13⟩, fr1⟩ := Y1.out
                  have fr10 := fr1 0
                  have fr11 := fr1 1
                  have fr12 := fr1 2
                  have fr13 := fr1 3
                  clear fr1
                  go_upto_region 16 with fail
                  clear l1 x10 x11 x12 x13 fr10 fr11 fr12 fr13 Y0 Y1 Y2 Y3
                  generalize w6.setCell ⟨w.heap.size + 1, 3, none⟩ (.slice A2 K cc2) = wz at Z0 Z1 Z2 Z3 ZT ZO ZB ZD ⊢
                  have V1 := Z1
                  have V2 := Z2
                  have V3 := Z3
                  have VT := ZT
                  have VO := ZO
                  have VB := ZB
                  have VD := ZD
                  clear Z0 Z1 Z2 Z3 ZT ZO ZB ZD
                  obtain ⟨⟨l1, x10, x11, x12, x13⟩, fr1⟩ := V1.out
                  have fr10 := fr1 0
                  have fr11 := fr1 1
                  have fr12 := fr1 2
                  have fr13 := fr1 3
                  clear fr1
                  obtain ⟨⟨l2, x20, x21, x22, x23⟩, fr2⟩ := V2.out
                  have fr20 := fr2 0
                  have fr21 := fr2 1
                  have fr22 := fr2 2
                  have fr23 := fr2 3
                  clear fr2
                  obtain ⟨⟨l3, x30, x31, x32, x33⟩, fr3⟩ := V3.out
                  have fr30 := fr3 0
                  have fr31 := fr3 1
                  have fr32 := fr3 2
                  have fr33 := fr3 3
                  clear fr3
                  go_wp2_with (at_builtin; refine wpList_append_any _ rfl (.tmp 74) (.tmp 76) _ rfl w2.heap.size 30 i0 _ 4 64 Try.underlying24 hi hz0 hz1 hz2 rfl (by omega) (.slice B1 os1.length d1) os1.length (os1.flatMap OpE.cells) rfl (VD.out.o.row.alloc _) (wz.heap.size + 1) (some ⟨wz.heap.size, 0, none⟩) 1 1 (OpE.cells (⟨o.kind, o.nm, o.to, ⟨A2, K, cc2, o.d.xs.take K⟩⟩ : OpE)) rfl (four_reads _ _ _ _ _ _ _ (by simp)) (OpE.cells_one _) (by simp only [maxLen]; omega) (by omega) (by simp; omega) ?_; intro v2 w8 hown2 hg2 hat2; obtain ⟨B2, d2, hv2⟩ := own_formK hown2; subst hv2; have hrow := VD.out.o.row.alloc (.cells #[.int .i64 o.kind, .string o.nm, .string o.to, .slice A2 K cc2] 30); have hone : OwnB wz wq.heap.size [⟨A2, K, cc2, o.d.xs.take K⟩] := OwnB.one (d := ⟨A2, K, cc2, o.d.xs.take K⟩) VO.out HRXK.out; have hold := HD3.out.f.dat.append HD3.out.o.dat HD3.out.x; have HALL := Lib.hid (((((VD.out.f.dat.append VD.out.o.dat VD.out.x).append (hone.mono (by omega)) (apart_of_time hold (Nat.le_refl _) hone (by omega))).below (below_a1 _ (.cells #[.int .i64 o.kind, .string o.nm, .string o.to, .slice A2 K cc2] 30))).grow hrow (by decide) hg2)); have HF8 := Lib.hid (own_grow (VD.out.f.row.alloc (.cells #[.int .i64 o.kind, .string o.nm, .string o.to, .slice A2 K cc2] 30)) hrow (by decide) hg2); have hap := (VT.out.below (below_a1 _ (.cells #[.int .i64 o.kind, .string o.nm, .string o.to, .slice A2 K cc2] 30))).apart hrow (by decide); have hfar : ∀ g, g < w2.heap.size → (Value.slice B1 os1.length d1).ownBlock ≠ some g := fun g hg hh => (by have := (hrow.lt g hh).1; omega); have X2 := Lib.hid ((V2.out.alloc (.cells #[.int .i64 o.kind, .string o.nm, .string o.to, .slice A2 K cc2] 30)).grown hg2 (hfar _ (by omega))); have X3 := Lib.hid ((V3.out.alloc (.cells #[.int .i64 o.kind, .string o.nm, .string o.to, .slice A2 K cc2] 30)).grown hg2 hap); have XT := Lib.hid ((VT.out.below (below_a1 _ (.cells #[.int .i64 o.kind, .string o.nm, .string o.to, .slice A2 K cc2] 30))).keep (hg2.block _ (V3.out.alloc (.cells #[.int .i64 o.kind, .string o.nm, .string o.to, .slice A2 K cc2] 30)).box.lt (fun e => hap e.symm))); have XB := Lib.hid ((below_chain VB.out (below_a1 _ (.cells #[.int .i64 o.kind, .string o.nm, .string o.to, .slice A2 K cc2] 30))).grown hg2 (by simp; omega) (fun j hj => by have := (hrow.lt j hj).1; omega)); have HO8 : Hid (w8.ownsRow w2.heap.size 30 4 (.slice B2 (os1 ++ [(⟨o.kind, o.nm, o.to, ⟨A2, K, cc2, o.d.xs.take K⟩⟩ : OpE)]).length d2) (os1 ++ [(⟨o.kind, o.nm, o.to, ⟨A2, K, cc2, o.d.xs.take K⟩⟩ : OpE)]).length ((os1 ++ [(⟨o.kind, o.nm, o.to, ⟨A2, K, cc2, o.d.xs.take K⟩⟩ : OpE)]).flatMap OpE.cells)) := Lib.hid (by rw [flat_snoc, List.length_append]; exact hown2); clear hrow hone hold hap hfar hown2 hg2 hat2; clear l1 x10 x11 x12 x13 fr10 fr11 fr12 fr13 l2 x20 x21 x22 x23 fr20 fr21 fr22 fr23 l3 x30 x31 x32 x33 fr30 fr31 fr32 fr33; obtain ⟨⟨l2, x20, x21, x22, x23⟩, fr2⟩ := X2.out; have fr20 := fr2 0; have fr21 := fr2 1; have fr22 := fr2 2; have fr23 := fr2 3; clear fr2; obtain ⟨⟨l3, x30, x31, x32, x33⟩, fr3⟩ := X3.out; have fr30 := fr3 0; have fr31 := fr3 1; have fr32 := fr3 2; have fr33 := fr3 3; clear fr3)
                  refine bodyPost_ret (v := .tuple #[.agg #[.int .i64 r.room, .int .i64 bf, .slice A1 es1.length c1, .slice B2 (os1.length + 1) d2], .int .i64 5]) (by simp [results, Try.results10, go_sem, x20, x21, x22, x23]) rfl ?_
                  rw [HE3.out]
                  have h9 := resD_app (w := w) (r := ⟨r.room, bf, r.fs, r.ops ++ [cutO o.op K]⟩) (x := .int .i64 5) (u := .slice B2 (os1.length + 1) d2) (u0 := .int .i64 r.room) (u1 := .int .i64 bf) (u2 := .slice A1 es1.length c1) (u3 := .slice B2 (os1.length + 1) d2) (b2 := w.heap.size + 1 + 1) (b3 := w3.heap.size) (f := ⟨o.kind, o.nm, o.to, ⟨A2, K, cc2, o.d.xs.take K⟩⟩) HF8.out HO8.out HALL.out XT.out (by omega) (by omega) (by omega) XB.out HF3.out (by rw [List.map_append, HO3.out]; rfl)
                  rw [List.length_append] at h9
                  exact h9
              · have hKl : K = o.d.n := by have := HK.out; omega
                have HKL := Lib.hid hKl
                have dfl : decide ((K : Int) < (o.d.n : Int)) = false := by simp; omega
                have dfl' : decide (K < o.d.n) = false := by simp; omega
                have HE3 : Hid (doA r o.op = (⟨r.room, bf, r.fs, r.ops ++ [cutO o.op K]⟩, 0)) := Lib.hid (by rw [cutO_full o.op (by rw [HXL.out]; omega), HE2.out]; unfold doOps; rw [HXL.out, if_neg hct, if_neg hct])
                clear hKl
                obtain ⟨⟨l1, x10, x11, x12, x13⟩, fr1⟩ := V1.out
                have fr10 := fr1 0
                have fr11 := fr1 1
                have fr12 := fr1 2
                have fr13 := fr1 3
                clear fr1
                go_wp2_with fail
                refine (CCL.out _ VB.out).mono ?_
                rintro e w6 ⟨A2, cc2, rfl, hown6, hb6⟩
                have hz6 : wq.heap.size ≤ w6.heap.size := hb6.size
                have Z0 := Lib.hid ((V0.out.below hb6).far (p := ⟨w.heap.size + 1, 3, none⟩) (by show w.heap.size ≠ w.heap.size + 1; omega) (.slice A2 K cc2))
                have Z1 := Lib.hid ((V1.out.below hb6).set3 (.slice A2 K cc2))
                have Z2 := Lib.hid ((V2.out.below hb6).far (p := ⟨w.heap.size + 1, 3, none⟩) (by show w.heap.size + 1 + 1 ≠ w.heap.size + 1; omega) (.slice A2 K cc2))
                have Z3 := Lib.hid ((V3.out.below hb6).far (p := ⟨w.heap.size + 1, 3, none⟩) (by show w3.heap.size ≠ w.heap.size + 1; omega) (.slice A2 K cc2))
                have ZT := Lib.hid ((VT.out.below hb6).keep (Below.heap_setCell w6 ⟨w.heap.size + 1, 3, none⟩ (.slice A2 K cc2) _ (by show w3.heap.size ≠ w.heap.size + 1; omega)))
                have ZO := Lib.hid (own_set_low hown6 (p := ⟨w.heap.size + 1, 3, none⟩) (by show w.heap.size + 1 < wq.heap.size; omega) (.slice A2 K cc2))
                have ZB := Lib.hid ((below_chain VB.out hb6).setCell (p := ⟨w.heap.size + 1, 3, none⟩) (by show w.heap.size ≤ w.heap.size + 1; omega) (.slice A2 K cc2))
                have ZD := Lib.hid ((VD.out.below hb6).lows (Lows.set (Lows.refl _ _) (p := ⟨w.heap.size + 1, 3, none⟩) (by show w.heap.size + 1 < w2.heap.size; omega) (.slice A2 K cc2)))
                have Y0 := Lib.hid (V0.out.below hb6)
                have Y1 := Lib.hid (V1.out.below hb6)
                have Y2 := Lib.hid (V2.out.below hb6)
                have Y3 := Lib.hid (V3.out.below hb6)
                clear hown6 hb6 V0 V1 V2 V3 VT VB VD VW
                clear l1 x10 x11 x12 x13 fr10 fr11 fr12 fr13
                obtain ⟨⟨l1, x10, x11, x12, x13⟩, fr1⟩ := Y1.out
                have fr10 := fr1 0
                have fr11 := fr1 1
                have fr12 := fr1 2
                have fr13 := fr1 3
                clear fr1
                go_upto_region 16 with fail
                clear l1 x10 x11 x12 x13 fr10 fr11 fr12 fr13 Y0 Y1 Y2 Y3
                generalize w6.setCell ⟨w.heap.size + 1, 3, none⟩ (.slice A2 K cc2) = wz at Z0 Z1 Z2 Z3 ZT ZO ZB ZD ⊢
                have V1 := Z1
                have V2 := Z2
                have V3 := Z3
                have VT := ZT
                have VO := ZO
                have VB := ZB
                have VD := ZD
                clear Z0 Z1 Z2 Z3 ZT ZO ZB ZD
                obtain ⟨⟨l1, x10, x11, x12, x13⟩, fr1⟩ := V1.out
                have fr10 := fr1 0
                have fr11 := fr1 1
                have fr12 := fr1 2
                have fr13 := fr1 3
                clear fr1
                obtain ⟨⟨l2, x20, x21, x22, x23⟩, fr2⟩ := V2.out
                have fr20 := fr2 0
                have fr21 := fr2 1
                have fr22 := fr2 2
                have fr23 := fr2 3
                clear fr2
                obtain ⟨⟨l3, x30, x31, x32, x33⟩, fr3⟩ := V3.out
                have fr30 := fr3 0
                have fr31 := fr3 1
                have fr32 := fr3 2
                have fr33 := fr3 3
                clear fr3
                go_wp2_with (at_builtin; refine wpList_append_any _ rfl (.tmp 74) (.tmp 76) _ rfl w2.heap.size 30 i0 _ 4 64 Try.underlying24 hi hz0 hz1 hz2 rfl (by omega) (.slice B1 os1.length d1) os1.length (os1.flatMap OpE.cells) rfl (VD.out.o.row.alloc _) (wz.heap.size + 1) (some ⟨wz.heap.size, 0, none⟩) 1 1 (OpE.cells (⟨o.kind, o.nm, o.to, ⟨A2, K, cc2, o.d.xs.take K⟩⟩ : OpE)) rfl (four_reads _ _ _ _ _ _ _ (by simp)) (OpE.cells_one _) (by simp only [maxLen]; omega) (by omega) (by simp; omega) ?_; intro v2 w8 hown2 hg2 hat2; obtain ⟨B2, d2, hv2⟩ := own_formK hown2; subst hv2; have hrow := VD.out.o.row.alloc (.cells #[.int .i64 o.kind, .string o.nm, .string o.to, .slice A2 K cc2] 30); have hone : OwnB wz wq.heap.size [⟨A2, K, cc2, o.d.xs.take K⟩] := OwnB.one (d := ⟨A2, K, cc2, o.d.xs.take K⟩) VO.out HRXK.out; have hold := HD3.out.f.dat.append HD3.out.o.dat HD3.out.x; have HALL := Lib.hid (((((VD.out.f.dat.append VD.out.o.dat VD.out.x).append (hone.mono (by omega)) (apart_of_time hold (Nat.le_refl _) hone (by omega))).below (below_a1 _ (.cells #[.int .i64 o.kind, .string o.nm, .string o.to, .slice A2 K cc2] 30))).grow hrow (by decide) hg2)); have HF8 := Lib.hid (own_grow (VD.out.f.row.alloc (.cells #[.int .i64 o.kind, .string o.nm, .string o.to, .slice A2 K cc2] 30)) hrow (by decide) hg2); have hap := (VT.out.below (below_a1 _ (.cells #[.int .i64 o.kind, .string o.nm, .string o.to, .slice A2 K cc2] 30))).apart hrow (by decide); have hfar : ∀ g, g < w2.heap.size → (Value.slice B1 os1.length d1).ownBlock ≠ some g := fun g hg hh => (by have := (hrow.lt g hh).1; omega); have X2 := Lib.hid ((V2.out.alloc (.cells #[.int .i64 o.kind, .string o.nm, .string o.to, .slice A2 K cc2] 30)).grown hg2 (hfar _ (by omega))); have X3 := Lib.hid ((V3.out.alloc (.cells #[.int .i64 o.kind, .string o.nm, .string o.to, .slice A2 K cc2] 30)).grown hg2 hap); have XT := Lib.hid ((VT.out.below (below_a1 _ (.cells #[.int .i64 o.kind, .string o.nm, .string o.to, .slice A2 K cc2] 30))).keep (hg2.block _ (V3.out.alloc (.cells #[.int .i64 o.kind, .string o.nm, .string o.to, .slice A2 K cc2] 30)).box.lt (fun e => hap e.symm))); have XB := Lib.hid ((below_chain VB.out (below_a1 _ (.cells #[.int .i64 o.kind, .string o.nm, .string o.to, .slice A2 K cc2] 30))).grown hg2 (by simp; omega) (fun j hj => by have := (hrow.lt j hj).1; omega)); have HO8 : Hid (w8.ownsRow w2.heap.size 30 4 (.slice B2 (os1 ++ [(⟨o.kind, o.nm, o.to, ⟨A2, K, cc2, o.d.xs.take K⟩⟩ : OpE)]).length d2) (os1 ++ [(⟨o.kind, o.nm, o.to, ⟨A2, K, cc2, o.d.xs.take K⟩⟩ : OpE)]).length ((os1 ++ [(⟨o.kind, o.nm, o.to, ⟨A2, K, cc2, o.d.xs.take K⟩⟩ : OpE)]).flatMap OpE.cells)) := Lib.hid (by rw [flat_snoc, List.length_append]; exact hown2); clear hrow hone hold hap hfar hown2 hg2 hat2; clear l1 x10 x11 x12 x13 fr10 fr11 fr12 fr13 l2 x20 x21 x22 x23 fr20 fr21 fr22 fr23 l3 x30 x31 x32 x33 fr30 fr31 fr32 fr33; obtain ⟨⟨l2, x20, x21, x22, x23⟩, fr2⟩ := X2.out; have fr20 := fr2 0; have fr21 := fr2 1; have fr22 := fr2 2; have fr23 := fr2 3; clear fr2; obtain ⟨⟨l3, x30, x31, x32, x33⟩, fr3⟩ := X3.out; have fr30 := fr3 0; have fr31 := fr3 1; have fr32 := fr3 2; have fr33 := fr3 3; clear fr3)
                refine bodyPost_ret (v := .tuple #[.agg #[.int .i64 r.room, .int .i64 bf, .slice A1 es1.length c1, .slice B2 (os1.length + 1) d2], .int .i64 0]) (by simp [results, Try.results10, go_sem, x20, x21, x22, x23]) rfl ?_
                rw [HE3.out]
                have h9 := resD_app (w := w) (r := ⟨r.room, bf, r.fs, r.ops ++ [cutO o.op K]⟩) (x := .int .i64 0) (u := .slice B2 (os1.length + 1) d2) (u0 := .int .i64 r.room) (u1 := .int .i64 bf) (u2 := .slice A1 es1.length c1) (u3 := .slice B2 (os1.length + 1) d2) (b2 := w.heap.size + 1 + 1) (b3 := w3.heap.size) (f := ⟨o.kind, o.nm, o.to, ⟨A2, K, cc2, o.d.xs.take K⟩⟩) HF8.out HO8.out HALL.out XT.out (by omega) (by omega) (by omega) XB.out HF3.out (by rw [List.map_append, HO3.out]; rfl)
                rw [List.length_append] at h9
                exact h9
end Go.Proofs.Ytejibpajjoaldaa
