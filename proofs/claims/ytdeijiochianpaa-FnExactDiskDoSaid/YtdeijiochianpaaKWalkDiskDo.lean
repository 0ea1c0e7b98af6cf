/- The walk of the law FnExactDiskDo: it returns true and writes nothing that was there. -/
import Derived.Test.YtdeijiochianpaaKLawOp
namespace Go.Proofs.Ytdeijiochianpaa
open Go.RowKit Go.Maps

set_option maxRecDepth 20000 in
set_option maxHeartbeats 60000000 in
theorem walkDiskDo (room fuse : Int) (A : Option Addr) (n c : Nat) (B : Option Addr) (m d : Nat) (es : List Ent) (os : List OpE) (o : OpE) (w : World) (hin : DiskIn w room fuse A n B m es os) (ho : OpIn w o) :
    Calls Try.prog 4 #[.agg #[.int .i64 room, .int .i64 fuse, .slice A n c, .slice B m d], .agg #[.int .i64 o.kind, .string o.nm, .string o.to, .slice o.d.A o.d.n o.d.c]] w fun e w' => e = .returned (.bool true) ∧ Below w.heap.size w w' := by
  obtain ⟨hok, hs, ht, hn, _⟩ := ho
  have CZ := Lib.hid (fun o1 o2 => hin.sz (below_a2 w o1 o2) c d 1048576 (by omega) (by omega))
  by_cases hb : (((ddOf room fuse es os).weight : Nat) : Int) ≤ 1048576
  · have HWT : (ddOf room fuse es os).weight ≤ 1048576 := by omega
    rw [szI_pos hb] at CZ
    have hp : (0 : Int) ≤ 1048576 - (((ddOf room fuse es os).weight : Nat) : Int) := by omega
    have hp1 : 1048576 - (((ddOf room fuse es os).weight : Nat) : Int) ≤ 1048576 := by omega
    generalize (1048576 : Int) - (((ddOf room fuse es os).weight : Nat) : Int) = q at CZ hp hp1
    have CY := Lib.hid (fun W => szOp_any o.kind o.nm o.to o.d.A o.d.n o.d.c q W hs ht hn hp hp1)
    by_cases hb2 : ((o.nm.size + o.to.size + o.d.n : Nat) : Int) ≤ q
    · rw [szI_pos hb2] at CY
      have hp2 : (0 : Int) ≤ q - ((o.nm.size + o.to.size + o.d.n : Nat) : Int) := by omega
      generalize q - ((o.nm.size + o.to.size + o.d.n : Nat) : Int) = q2 at CY hp2
      have MM := Lib.hid (hin.meant HWT)
      obtain ⟨r, hr⟩ : ∃ r, r = ddOf room fuse es os := ⟨_, rfl⟩
      have e1 : room = r.room := by rw [hr]; rfl
      have e2 : fuse = r.fuse := by rw [hr]; rfl
      rw [← hr] at MM
      subst e1 e2
      have CT := Lib.hid (fun W (h : Below w.heap.size w W) => (MM.out.below h).copy c d)
      have CO := Lib.hid (fun W (h : Below w.heap.size w W) => toOp_any o.kind o.nm o.to o.d W (hok.below h) (by omega))
      have hxl : o.d.n = o.d.xs.length := hok.rd.len.symm
      have HSM := Lib.hid hok.rd.small
      have hos : o.nm.size ≤ 1048576 ∧ o.to.size ≤ 1048576 ∧ o.d.xs.length ≤ 1048576 := by omega
      have CS := Lib.hid (fun W A n c B m d es os (h : Meant W r A n B m es os) (hc : m ≤ d) A' c' (ho : (⟨A', o.d.xs.length, c', o.d.xs⟩ : Dat).Ok W) => specDo r ⟨o.kind, o.nm, o.to, ⟨A', o.d.xs.length, c', o.d.xs⟩⟩ A n c B m d es os W h hc ho hos)
      have CI := Lib.hid (fun W A n c B m d es os (h : Meant W r A n B m es os) A' c' (ho : (⟨A', o.d.xs.length, c', o.d.xs⟩ : Dat).Ok W) => implDo r ⟨o.kind, o.nm, o.to, ⟨A', o.d.xs.length, c', o.d.xs⟩⟩ A n c B m d es os W h ho hos)
      have CE := Lib.hid (fun W A c A' c' (h1 : (⟨A, o.d.xs.length, c, o.d.xs⟩ : Dat).Ok W) (h2 : (⟨A', o.d.xs.length, c', o.d.xs⟩ : Dat).Ok W) => eqOp_any o.kind o.nm o.to ⟨A, o.d.xs.length, c, o.d.xs⟩ ⟨A', o.d.xs.length, c', o.d.xs⟩ W h1 h2 rfl (by show o.d.xs.length ≤ 2097152; omega))
      have CM := Lib.hid (fun W lo k A c (h : W.ownsRow lo 5 1 (.slice A o.d.xs.length c) o.d.xs.length (vb o.d.xs)) (hk : k ≤ 8388608) => markFsOp_any o.kind o.nm o.to A o.d.xs.length c lo k o.d.xs W h (by omega) hk)
      have HW := Lib.hid MM.out.wt
      have HU := Lib.hid (doA_bulk (o := (o.kind, o.nm, o.to, o.d.xs)) MM.out.wt)
      have HOPE : Hid (∀ A' c', (⟨o.kind, o.nm, o.to, ⟨A', o.d.xs.length, c', o.d.xs⟩⟩ : OpE).op = (o.kind, o.nm, o.to, o.d.xs)) := Lib.hid (fun _ _ => rfl)
      simp only [HOPE.out] at CS CI
      generalize doA r (o.kind, o.nm, o.to, o.d.xs) = an at CS CI HU
      obtain ⟨ans, x⟩ := an
      simp only at CS CI HU
      obtain ⟨kind, nm, to', A0, n0, c0, xs⟩ := o
      simp only at *
      clear hs ht hn hb hb2 hin hr HWT hxl hok HOPE
      go_enter Try.func4, Try.ntmps4
      go_wp2_with fail
      refine (CZ.out _ _).mono ?_
      rintro e wa ⟨rfl, hba⟩
      have B0 := Lib.hid (((ABox.first w r.room r.fuse A n c B m d 45).below (below_a1 _ (.cells #[.int .i64 kind, .string nm, .string to', .slice A0 n0 c0] 46))).below hba)
      have P0 : Hid (Box4 wa (w.heap.size + 1) (.int .i64 kind) (.string nm) (.string to') (.slice A0 n0 c0)) := Lib.hid (by
        have h := Box4.new (w.alloc (.cells #[.int .i64 r.room, .int .i64 r.fuse, .slice A n c, .slice B m d] 45)) (.int .i64 kind) (.string nm) (.string to') (.slice A0 n0 c0) 46
        rw [World.size_alloc] at h
        exact h.below hba)
      obtain ⟨l0, c00, c01, c02, c03⟩ := P0.out
      clear hba
      go_wp2_with fail
      refine (CY.out _).mono ?_
      rintro e wb ⟨rfl, hbb⟩
      have B1 := Lib.hid (B0.out.below hbb)
      have P1 := Lib.hid (P0.out.below hbb)
      clear hbb l0 c00 c01 c02 c03 B0 P0
      go_upto_region 8 with fail
      go_cut [6, 7] (fun (s6 s7 : Value) (wx : World) => ∃ (p : Nat) (Aw : Option Addr) (nw cw : Nat) (Bw : Option Addr) (mw dw : Nat) (esw : List Ent) (osw : List OpE), s6 = .pointer (some ⟨p, 0, none⟩) ∧ s7 = .int .i64 x ∧ Hid (VBox wx wx p ans Aw nw cw Bw mw dw esw osw) ∧ wb.heap.size ≤ p ∧ Hid (Below wb.heap.size wb wx))
      case first =>
        obtain ⟨l0, c00, c01, c02, c03⟩ := B1.out.box
        obtain ⟨l1, c10, c11, c12, c13⟩ := P1.out
        go_region_held3 (fun W => W.cell? ⟨w.heap.size, 0, none⟩ = some (.int .i64 r.room) ∧ W.cell? ⟨w.heap.size, 1, none⟩ = some (.int .i64 r.fuse) ∧ W.cell? ⟨w.heap.size, 2, none⟩ = some (.slice A n c) ∧ W.cell? ⟨w.heap.size, 3, none⟩ = some (.slice B m d) ∧ W.cell? ⟨w.heap.size + 1, 0, none⟩ = some (.int .i64 kind) ∧ W.cell? ⟨w.heap.size + 1, 1, none⟩ = some (.string nm) ∧ W.cell? ⟨w.heap.size + 1, 2, none⟩ = some (.string to') ∧ W.cell? ⟨w.heap.size + 1, 3, none⟩ = some (.slice A0 n0 c0))
          (first
            | (exact ⟨x00, x01, x02, x03, x0, x1, x2, x3⟩)
            | (exact ⟨z00, z01, z02, z03, z0, z1, z2, z3⟩)
            | (exact ⟨y00, y01, y02, y03, y0, y1, y2, y3⟩)
            | (exact ⟨ZQ.out.c0, ZQ.out.c1, ZQ.out.c2, ZQ.out.c3, ZP.out.c0, ZP.out.c1, ZP.out.c2, ZP.out.c3⟩)
            | go_keep)
          (first
            | (go_at_call 22; ((with_reducible refine (CT.out _ (by first | exact B1.out.keep | exact B1.out.keep.drew | exact below_drewN B1.out.keep _)).mono ?_)); rintro e1 wd ⟨A2, c2, B2, d2, es2, os2, rfl, hf2, ho2, hd2, hbd⟩; have HBD : Hid (Below wb.heap.size wb wd) := Lib.hid (by first | exact hbd | exact ⟨hbd.os, hbd.tape, hbd.output, hbd.size, hbd.block⟩); have M3 := Lib.hid (meant_made hd2 hf2 ho2 HW.out); have K3 := Lib.hid (own_capK hd2.o.row); obtain ⟨l2, y0, y1, y2, y3⟩ := P1.out.below HBD.out; obtain ⟨l5, y00, y01, y02, y03⟩ := B1.out.box.below HBD.out; have B2' := Lib.hid (below_chain B1.out.keep HBD.out))
            | (go_at_call 22; ((with_reducible refine (CT.out _ (by first | exact (B1.out.keep.alloc B1.out.keep.size (.cells #[.int .i64 0, .int .i64 0, .slice none 0 0, .slice none 0 0] 26)) | exact (B1.out.keep.alloc B1.out.keep.size (.cells #[.int .i64 0, .int .i64 0, .slice none 0 0, .slice none 0 0] 26)).drew)).mono ?_)); rintro e1 wd ⟨A2, c2, B2, d2, es2, os2, rfl, hf2, ho2, hd2, hbd⟩; have HB8 : Hid (Below (wb.alloc (.cells #[.int .i64 0, .int .i64 0, .slice none 0 0, .slice none 0 0] 26)).heap.size (wb.alloc (.cells #[.int .i64 0, .int .i64 0, .slice none 0 0, .slice none 0 0] 26)) wd) := Lib.hid (by first | exact hbd | exact ⟨hbd.os, hbd.tape, hbd.output, hbd.size, hbd.block⟩); have HBD : Hid (Below wb.heap.size wb wd) := Lib.hid (below_chain (below_a1 wb _) HB8.out); have ZN1 := Lib.hid ((FBox.new wb (.int .i64 0) (.int .i64 0) (.slice none 0 0) (.slice none 0 0) 26).below HB8.out); have QN1 := Lib.hid ((QBox.new wb (.int .i64 0) (.int .i64 0) (.slice none 0 0) (.slice none 0 0) 26 (quiet_int _) (quiet_int _) (quiet_sl _ _ _) (quiet_sl _ _ _)).below HB8.out); have M3 := Lib.hid (meant_made hd2 hf2 ho2 HW.out); have K3 := Lib.hid (own_capK hd2.o.row); obtain ⟨l2, y0, y1, y2, y3⟩ := P1.out.below HBD.out; obtain ⟨l5, y00, y01, y02, y03⟩ := B1.out.box.below HBD.out; have B2' := Lib.hid (below_chain B1.out.keep HBD.out))
            | (go_at_call 23; ((with_reducible refine (CO.out _ (by first | exact B2'.out | exact B2'.out.drew | exact below_drewN B2'.out _)).mono ?_)); rintro e1 wo ⟨A3, c3, rfl, hown3, hbo⟩; have HBO : Hid (Below wd.heap.size wd wo) := Lib.hid (by first | exact hbo | exact ⟨hbo.os, hbo.tape, hbo.output, hbo.size, hbo.block⟩); have M4 := Lib.hid (M3.out.below HBO.out); have D4 : Hid ((⟨A3, xs.length, c3, xs⟩ : Dat).Ok wo) := Lib.hid ⟨Rd.of_own hown3 HSM.out, own_cap hown3⟩; obtain ⟨l3, z0, z1, z2, z3⟩ := (P1.out.below HBD.out).below HBO.out; obtain ⟨l6, z00, z01, z02, z03⟩ := (B1.out.box.below HBD.out).below HBO.out; first | (have ZN2 := Lib.hid (ZN1.out.below HBO.out); have QN2 := Lib.hid (QN1.out.below HBO.out)) | skip)
            | (go_at_call 23; ((with_reducible refine (CO.out _ (by first | exact (B2'.out.alloc B2'.out.size (.cells #[.int .i64 0, .int .i64 0, .slice none 0 0, .slice none 0 0] 26)) | exact (B2'.out.alloc B2'.out.size (.cells #[.int .i64 0, .int .i64 0, .slice none 0 0, .slice none 0 0] 26)).drew)).mono ?_)); rintro e1 wo ⟨A3, c3, rfl, hown3, hbo⟩; have HB7 : Hid (Below (wd.alloc (.cells #[.int .i64 0, .int .i64 0, .slice none 0 0, .slice none 0 0] 26)).heap.size (wd.alloc (.cells #[.int .i64 0, .int .i64 0, .slice none 0 0, .slice none 0 0] 26)) wo) := Lib.hid (by first | exact hbo | exact ⟨hbo.os, hbo.tape, hbo.output, hbo.size, hbo.block⟩); have HBO : Hid (Below wd.heap.size wd wo) := Lib.hid (below_chain (below_a1 wd _) HB7.out); have ZN2 := Lib.hid ((FBox.new wd (.int .i64 0) (.int .i64 0) (.slice none 0 0) (.slice none 0 0) 26).below HB7.out); have QN2 := Lib.hid ((QBox.new wd (.int .i64 0) (.int .i64 0) (.slice none 0 0) (.slice none 0 0) 26 (quiet_int _) (quiet_int _) (quiet_sl _ _ _) (quiet_sl _ _ _)).below HB7.out); have M4 := Lib.hid (M3.out.below HBO.out); have D4 : Hid ((⟨A3, xs.length, c3, xs⟩ : Dat).Ok wo) := Lib.hid ⟨Rd.of_own hown3 HSM.out, own_cap hown3⟩; obtain ⟨l3, z0, z1, z2, z3⟩ := (P1.out.below HBD.out).below HBO.out; obtain ⟨l6, z00, z01, z02, z03⟩ := (B1.out.box.below HBD.out).below HBO.out)
            | (go_at_call 12; (with_reducible refine (CS.out _ _ _ _ _ _ _ _ _ (M4.out.below (by first | exact Below.refl _ _ | exact (Below.refl _ _).drew)) K3.out _ _ (D4.out.below (by first | exact Below.refl _ _ | exact (Below.refl _ _).drew))).mono ?_); rintro e1 wc ⟨Aw, nw, cw, Bw, mw, dw, esw, osw, rfl, hfw, how, slw, sow, hbc⟩; have HBC : Hid (Below wo.heap.size wo wc) := Lib.hid (by first | exact hbc | exact ⟨hbc.os, hbc.tape, hbc.output, hbc.size, hbc.block⟩); obtain ⟨l4, x0, x1, x2, x3⟩ := ((P1.out.below HBD.out).below HBO.out).below HBC.out; obtain ⟨l7, x00, x01, x02, x03⟩ := ((B1.out.box.below HBD.out).below HBO.out).below HBC.out; first | (have ZN5 := Lib.hid (ZN2.out.below HBC.out); have QN5 := Lib.hid (QN2.out.below HBC.out); obtain ⟨⟨m0, v00, v01, v02, v03⟩, hr0⟩ := ZN5.out; have hr00 := hr0 0; have hr01 := hr0 1; have hr02 := hr0 2; have hr03 := hr0 3; clear hr0; have hs1 := HBD.out.size; have hs2 := HBO.out.size; have hs3 := P1.out.lt; have ZP := Lib.hid (ZN5.out.spare (((P1.out.below HBD.out).below HBO.out).below HBC.out) (by omega) (.int .i64 ans.room) (.int .i64 ans.fuse) (.slice Aw nw cw) (.slice Bw mw dw)); have ZQ := Lib.hid (ZN5.out.spare (((B1.out.box.below HBD.out).below HBO.out).below HBC.out) (by omega) (.int .i64 ans.room) (.int .i64 ans.fuse) (.slice Aw nw cw) (.slice Bw mw dw))) | skip)
            | (go_at_call 12; (with_reducible refine (CS.out _ _ _ _ _ _ _ _ _ (M4.out.below (by first | exact (below_a1 wo (.cells #[.int .i64 0, .int .i64 0, .slice none 0 0, .slice none 0 0] 26)) | exact (below_a1 wo (.cells #[.int .i64 0, .int .i64 0, .slice none 0 0, .slice none 0 0] 26)).drew)) K3.out _ _ (D4.out.below (by first | exact (below_a1 wo (.cells #[.int .i64 0, .int .i64 0, .slice none 0 0, .slice none 0 0] 26)) | exact (below_a1 wo (.cells #[.int .i64 0, .int .i64 0, .slice none 0 0, .slice none 0 0] 26)).drew))).mono ?_); rintro e1 wc ⟨Aw, nw, cw, Bw, mw, dw, esw, osw, rfl, hfw, how, slw, sow, hbc⟩; have HB6 : Hid (Below (wo.alloc (.cells #[.int .i64 0, .int .i64 0, .slice none 0 0, .slice none 0 0] 26)).heap.size (wo.alloc (.cells #[.int .i64 0, .int .i64 0, .slice none 0 0, .slice none 0 0] 26)) wc) := Lib.hid (by first | exact hbc | exact ⟨hbc.os, hbc.tape, hbc.output, hbc.size, hbc.block⟩); have HBC : Hid (Below wo.heap.size wo wc) := Lib.hid (below_chain (below_a1 wo _) HB6.out); have ZN5 := Lib.hid ((FBox.new wo (.int .i64 0) (.int .i64 0) (.slice none 0 0) (.slice none 0 0) 26).below HB6.out); have QN5 := Lib.hid ((QBox.new wo (.int .i64 0) (.int .i64 0) (.slice none 0 0) (.slice none 0 0) 26 (quiet_int _) (quiet_int _) (quiet_sl _ _ _) (quiet_sl _ _ _)).below HB6.out); obtain ⟨l4, x0, x1, x2, x3⟩ := ((P1.out.below HBD.out).below HBO.out).below HBC.out; obtain ⟨l7, x00, x01, x02, x03⟩ := ((B1.out.box.below HBD.out).below HBO.out).below HBC.out; obtain ⟨⟨m0, v00, v01, v02, v03⟩, hr0⟩ := ZN5.out; have hr00 := hr0 0; have hr01 := hr0 1; have hr02 := hr0 2; have hr03 := hr0 3; clear hr0; have hs1 := HBD.out.size; have hs2 := HBO.out.size; have ZP := Lib.hid ((((P1.out.below HBD.out).below HBO.out).below HBC.out).far4 (p := wo.heap.size) (by have := P1.out.lt; omega) (.int .i64 ans.room) (.int .i64 ans.fuse) (.slice Aw nw cw) (.slice Bw mw dw)); have ZQ := Lib.hid ((((B1.out.box.below HBD.out).below HBO.out).below HBC.out).far4 (p := wo.heap.size) (by have := P1.out.lt; omega) (.int .i64 ans.room) (.int .i64 ans.fuse) (.slice Aw nw cw) (.slice Bw mw dw))))
        all_goals
          go_wp2_with fail
          go_meet
          have hs1 := HBD.out.size
          have hs2 := HBO.out.size
          have hs3 := HBC.out.size
          first
            | exact ⟨wc.heap.size, Aw, nw, cw, Bw, mw, dw, esw, osw, rfl, rfl, Lib.hid ⟨Box4.new wc _ _ _ _ _, Below.refl _ _, slw.below (below_a1 wc _), sow.below (below_a1 wc _), hfw, how⟩, by omega, Lib.hid (below_chain (below_chain (below_chain HBD.out HBO.out) HBC.out) (below_a1 wc _))⟩
            | exact ⟨wo.heap.size, Aw, nw, cw, Bw, mw, dw, esw, osw, rfl, rfl, Lib.hid ⟨(ZN5.out.out4 _ _ _ _).box, Below.refl _ _, slw.off QN5.out (OffB.out4 wc _ _ _ _ _), sow.off QN5.out (OffB.out4 wc _ _ _ _ _), hfw, how⟩, by omega, Lib.hid (below_out4 (below_chain (below_chain HBD.out HBO.out) HBC.out) (by omega) _ _ _ _)⟩
            | exact ⟨wd.heap.size, Aw, nw, cw, Bw, mw, dw, esw, osw, rfl, rfl, Lib.hid ⟨(ZN5.out.out4 _ _ _ _).box, Below.refl _ _, slw.off QN5.out (OffB.out4 wc _ _ _ _ _), sow.off QN5.out (OffB.out4 wc _ _ _ _ _), hfw, how⟩, by omega, Lib.hid (below_out4 (below_chain (below_chain HBD.out HBO.out) HBC.out) (by omega) _ _ _ _)⟩
            | exact ⟨_, Aw, nw, cw, Bw, mw, dw, esw, osw, rfl, rfl, Lib.hid ⟨(ZN5.out.out4 _ _ _ _).box, Below.refl _ _, slw.off QN5.out (OffB.out4 wc _ _ _ _ _), sow.off QN5.out (OffB.out4 wc _ _ _ _ _), hfw, how⟩, by omega, Lib.hid (below_out4 (below_chain (below_chain HBD.out HBO.out) HBC.out) (by omega) _ _ _ _)⟩
      case rest =>
        rename World => wv
        obtain ⟨p, Aw, nw, cw, Bw, mw, dw, esw, osw, rfl, rfl, hv, hpb, hbel⟩ := hcut
        have W2 := hv
        have Q2 := Lib.hid (B1.out.below hbel.out)
        have P2 := Lib.hid (P1.out.below hbel.out)
        have hwv : w.heap.size + 1 < wv.heap.size := P2.out.lt
        clear B1 P1 hbel hv hpb
        obtain ⟨l0, c00, c01, c02, c03⟩ := Q2.out.box
        go_wp2_with fail
        refine (CT.out _ Q2.out.keep).mono ?_
        rintro e wd ⟨A2, c2, B2, d2, es2, os2, rfl, hf2, ho2, hd2, hbd⟩
        have X3 := Lib.hid (GBox.first (r := r) hd2 rfl rfl hf2 ho2 26)
        have FX := Lib.hid ((meant_made hd2 hf2 ho2 HW.out).fits)
        have M3 := Lib.hid ((meant_made hd2 hf2 ho2 HW.out).below (below_a1 wd (.cells #[.int .i64 r.room, .int .i64 r.fuse, .slice A2 es2.length c2, .slice B2 os2.length d2] 26)))
        have W3 := Lib.hid ((W2.out.below hbd).below (below_a1 wd (.cells #[.int .i64 r.room, .int .i64 r.fuse, .slice A2 es2.length c2, .slice B2 os2.length d2] 26)))
        have Q3 := Lib.hid ((Q2.out.below hbd).below (below_a1 wd (.cells #[.int .i64 r.room, .int .i64 r.fuse, .slice A2 es2.length c2, .slice B2 os2.length d2] 26)))
        have P3 := Lib.hid ((P2.out.below hbd).below (below_a1 wd (.cells #[.int .i64 r.room, .int .i64 r.fuse, .slice A2 es2.length c2, .slice B2 os2.length d2] 26)))
        have hlx : wv.heap.size ≤ wd.heap.size := hbd.size
        clear hbd hd2 hf2 ho2 c00 c01 c02 c03 l0
        obtain ⟨l0, c00, c01, c02, c03⟩ := P3.out
        go_wp2_with fail
        refine (CO.out _ Q3.out.keep).mono ?_
        rintro e wo ⟨A3, c3, rfl, hown3, hbo⟩
        have Y4 : Hid (YBox (wo.alloc (.cells #[.int .i64 kind, .string nm, .string to', .slice A3 xs.length c3] 30)) (wd.alloc (.cells #[.int .i64 r.room, .int .i64 r.fuse, .slice A2 es2.length c2, .slice B2 os2.length d2] 26)).heap.size wo.heap.size kind nm to' A3 xs.length c3 xs) := Lib.hid ⟨Box4.new wo _ _ _ _ _, own_below hown3 (below_a1 wo _)⟩
        have HYL := Lib.hid hown3.lt
        have X4 := Lib.hid ((X3.out.below hbo).below (below_a1 wo (.cells #[.int .i64 kind, .string nm, .string to', .slice A3 xs.length c3] 30)))
        have M4 := Lib.hid ((M3.out.below hbo).below (below_a1 wo (.cells #[.int .i64 kind, .string nm, .string to', .slice A3 xs.length c3] 30)))
        have W4 := Lib.hid ((W3.out.below hbo).below (below_a1 wo (.cells #[.int .i64 kind, .string nm, .string to', .slice A3 xs.length c3] 30)))
        have Q4 := Lib.hid ((Q3.out.below hbo).below (below_a1 wo (.cells #[.int .i64 kind, .string nm, .string to', .slice A3 xs.length c3] 30)))
        have P4 := Lib.hid ((P3.out.below hbo).below (below_a1 wo (.cells #[.int .i64 kind, .string nm, .string to', .slice A3 xs.length c3] 30)))
        have hdo : (wd.alloc (.cells #[.int .i64 r.room, .int .i64 r.fuse, .slice A2 es2.length c2, .slice B2 os2.length d2] 26)).heap.size ≤ wo.heap.size := hbo.size
        have hxd : wd.heap.size < (wd.alloc (.cells #[.int .i64 r.room, .int .i64 r.fuse, .slice A2 es2.length c2, .slice B2 os2.length d2] 26)).heap.size := by simp
        have hyo : wo.heap.size < (wo.alloc (.cells #[.int .i64 kind, .string nm, .string to', .slice A3 xs.length c3] 30)).heap.size := by simp
        clear hbo hown3 c00 c01 c02 c03 l0
        obtain ⟨l0, c00, c01, c02, c03⟩ := X4.out.box
        obtain ⟨l1, c10, c11, c12, c13⟩ := Y4.out.box
        have D4 : Hid ((⟨A3, xs.length, c3, xs⟩ : Dat).Ok (wo.alloc (.cells #[.int .i64 kind, .string nm, .string to', .slice A3 xs.length c3] 30))) := Lib.hid ⟨Rd.of_own Y4.out.own HSM.out, own_cap Y4.out.own⟩
        go_wp2_with fail
        refine (CI.out _ _ _ _ _ _ _ _ _ M4.out _ _ D4.out).mono ?_
        rintro e we ⟨Ag, ng, cg, Bg, mg, dg, esg, osg, rfl, hfg, hog, hlg, hmg, hdg, hbe⟩
        have G5 := Lib.hid (GBox.first (c := cg) (d := dg) hdg hlg hmg hfg hog 26)
        have X5 := Lib.hid ((X4.out.below hbe).below (below_a1 we (.cells #[.int .i64 ans.room, .int .i64 ans.fuse, .slice Ag ng cg, .slice Bg mg dg] 26)))
        have Y5 := Lib.hid ((Y4.out.below hbe).below (below_a1 we (.cells #[.int .i64 ans.room, .int .i64 ans.fuse, .slice Ag ng cg, .slice Bg mg dg] 26)))
        have M5 := Lib.hid ((M4.out.below hbe).below (below_a1 we (.cells #[.int .i64 ans.room, .int .i64 ans.fuse, .slice Ag ng cg, .slice Bg mg dg] 26)))
        have D5 := Lib.hid ((D4.out.below hbe).below (below_a1 we (.cells #[.int .i64 ans.room, .int .i64 ans.fuse, .slice Ag ng cg, .slice Bg mg dg] 26)))
        have W5 := Lib.hid ((W4.out.below hbe).below (below_a1 we (.cells #[.int .i64 ans.room, .int .i64 ans.fuse, .slice Ag ng cg, .slice Bg mg dg] 26)))
        have Q5 := Lib.hid ((Q4.out.below hbe).below (below_a1 we (.cells #[.int .i64 ans.room, .int .i64 ans.fuse, .slice Ag ng cg, .slice Bg mg dg] 26)))
        have P5 := Lib.hid ((P4.out.below hbe).below (below_a1 we (.cells #[.int .i64 ans.room, .int .i64 ans.fuse, .slice Ag ng cg, .slice Bg mg dg] 26)))
        have hlg0 : (wo.alloc (.cells #[.int .i64 kind, .string nm, .string to', .slice A3 xs.length c3] 30)).heap.size ≤ we.heap.size := hbe.size
        clear hbe hdg hfg hog hlg hmg l0 c00 c01 c02 c03 l1 c10 c11 c12 c13 M4 D4
        obtain ⟨l1, c10, c11, c12, c13⟩ := W5.out.at_
        go_wp2_with fail
        refine (eq_gv HU.out G5.out W5.out).mono ?_
        rintro e wf ⟨rfl, hbf⟩
        have G6 := Lib.hid (G5.out.below hbf)
        have X6 := Lib.hid (X5.out.below hbf)
        have Y6 := Lib.hid (Y5.out.below hbf)
        have M6 := Lib.hid (M5.out.below hbf)
        have D6 := Lib.hid (D5.out.below hbf)
        have W6 := Lib.hid (W5.out.below hbf)
        have Q6 := Lib.hid (Q5.out.below hbf)
        have P6 := Lib.hid (P5.out.below hbf)
        clear hbf c10 c11 c12 c13 l1 G5 X5 Y5 M5 D5 W5 Q5 P5
        obtain ⟨l0, c00, c01, c02, c03⟩ := Q6.out.box
        obtain ⟨l1, c10, c11, c12, c13⟩ := X6.out.box
        go_upto_region 14 with fail
        go_cut [58] (fun (s58 : Value) (wx : World) => s58 = .bool false ∧ Hid (Below wf.heap.size wf wx))
        case first =>
          go_region_with (first
            | (go_at_call 22; ((with_reducible refine (CT.out _ (by first | exact Q6.out.keep | exact Q6.out.keep.drew | exact Q6.out.keep.drew.drew)).mono ?_)); rintro e wg ⟨A4, c4, B4, d4, es4, os4, rfl, hf4, ho4, hd4, hbg⟩; have HBG : Hid (Below wf.heap.size wf wg) := Lib.hid (by first | exact hbg | exact ⟨hbg.os, hbg.tape, hbg.output, hbg.size, hbg.block⟩); obtain ⟨l2, c20, c21, c22, c23⟩ := (X6.out.below HBG.out).box; have M7 := Lib.hid (M6.out.below HBG.out); have M8 := Lib.hid (meant_made hd4 hf4 ho4 HW.out))
            | (go_at_call 24; ((with_reducible refine (M7.out.eq M8.out _ _ _ _).mono ?_)); rintro e wh ⟨rfl, hbh⟩))
          all_goals
            go_wp2_with fail
            go_meet
            exact ⟨rfl, Lib.hid (below_chain HBG.out hbh)⟩
        case rest =>
          rename World => wh
          obtain ⟨rfl, HB14⟩ := hcut
          have G7 := Lib.hid (G6.out.below HB14.out)
          have X7 := Lib.hid (X6.out.below HB14.out)
          have Y7 := Lib.hid (Y6.out.below HB14.out)
          have D7 := Lib.hid (D6.out.below HB14.out)
          have W7 := Lib.hid (W6.out.below HB14.out)
          have Q7 := Lib.hid (Q6.out.below HB14.out)
          have P7 := Lib.hid (P6.out.below HB14.out)
          clear l0 c00 c01 c02 c03 l1 c10 c11 c12 c13 G6 X6 Y6 M6 D6 W6 Q6 P6
          go_upto_region 16 with fail
          go_cut [63] (fun (s63 : Value) (wx : World) => s63 = .bool false ∧ Hid (Below wh.heap.size wh wx))
          case first =>
            obtain ⟨l0, c00, c01, c02, c03⟩ := P7.out
            obtain ⟨l1, c10, c11, c12, c13⟩ := Y7.out.box
            go_region_with (first
              | (go_at_call 23; ((with_reducible refine (CO.out _ (by first | exact Q7.out.keep | exact Q7.out.keep.drew | exact Q7.out.keep.drew.drew)).mono ?_)); rintro e wg ⟨A4, c4, rfl, hown4, hbg⟩; have HBG : Hid (Below wh.heap.size wh wg) := Lib.hid (by first | exact hbg | exact ⟨hbg.os, hbg.tape, hbg.output, hbg.size, hbg.block⟩); obtain ⟨l2, c20, c21, c22, c23⟩ := (Y7.out.below HBG.out).box; have D8 := Lib.hid (D7.out.below HBG.out); have D9 : Hid ((⟨A4, xs.length, c4, xs⟩ : Dat).Ok wg) := Lib.hid ⟨Rd.of_own hown4 HSM.out, own_cap hown4⟩)
              | (go_at_call 25; ((with_reducible refine (CE.out _ _ _ _ _ D8.out D9.out).mono ?_)); rintro e wi ⟨rfl, hbi⟩))
            all_goals
              go_wp2_with fail
              go_meet
              exact ⟨rfl, Lib.hid (below_chain HBG.out hbi)⟩
          case rest =>
            rename World => wi
            obtain ⟨rfl, HB16⟩ := hcut
            have G8 := Lib.hid (G7.out.below HB16.out)
            have X8 := Lib.hid (X7.out.below HB16.out)
            have Y8 := Lib.hid (Y7.out.below HB16.out)
            have W8 := Lib.hid (W7.out.below HB16.out)
            have Q8 := Lib.hid (Q7.out.below HB16.out)
            have P8 := Lib.hid (P7.out.below HB16.out)
            clear G7 X7 Y7 D7 W7 Q7 P7
            obtain ⟨l1, c10, c11, c12, c13⟩ := X8.out.box
            go_wp2_with fail
            refine (mark_x FX.out X8.out).mono ?_
            rintro e wj ⟨rfl, _, hyj⟩
            have HXS := Lib.hid X8.out.inS
            have G9 := Lib.hid (G8.out.only hyj (fun k hk => by have h1 := (HXS.out k hk).2; omega) hlg0)
            have Y9 := Lib.hid (Y8.out.only hyj (fun k hk => by have h1 := (HXS.out k hk).2; omega) hdo)
            have W9 := Lib.hid (W8.out.only hyj (fun k hk => (HXS.out k hk).1))
            have Q9 := Lib.hid (Q8.out.only hyj (fun k hk => by have h1 := (HXS.out k hk).1; omega))
            have P9 := Lib.hid (P8.out.only hyj (fun hh => by have h1 := (HXS.out _ hh).1; omega))
            have hkt := FX.out.top
            obtain ⟨kk, hkk⟩ : ∃ kk, kk = endOs (endEs 1 es2) os2 := ⟨_, rfl⟩
            rw [← hkk] at hkt ⊢
            clear hkk hyj l1 c10 c11 c12 c13 G8 X8 Y8 W8 Q8 P8
            have hkx0 : (0 : Int) ≤ (kk : Int) := by omega
            obtain ⟨l1, c10, c11, c12, c13⟩ := Y9.out.box
            go_wp2_with fail
            refine (CM.out _ _ kk _ _ Y9.out.own (by omega)).mono ?_
            rintro e wk ⟨rfl, hyk⟩
            have G10 := Lib.hid (G9.out.only hyk (fun k hk => by have h1 := (HYL.out k hk).2; omega) hlg0)
            have W10 := Lib.hid (W9.out.only hyk (fun k hk => by have h1 := (HYL.out k hk).1; omega))
            have Q10 := Lib.hid (Q9.out.only hyk (fun k hk => by have h1 := (HYL.out k hk).1; omega))
            have P10 := Lib.hid (P9.out.only hyk (fun hh => by have h1 := (HYL.out _ hh).1; omega))
            have hkx : (0 : Int) ≤ ((kk + xs.length : Nat) : Int) := by omega
            generalize kk + xs.length = k2 at hkx ⊢
            clear hyk l1 c10 c11 c12 c13 G9 Y9 W9 Q9 P9
            obtain ⟨l1, c10, c11, c12, c13⟩ := G10.out.box
            obtain ⟨l2, c20, c21, c22, c23⟩ := W10.out.at_
            go_wp2_with fail
            refine (eq_gv HU.out G10.out W10.out).mono ?_
            rintro e wl ⟨rfl, hbl⟩
            have G11 := Lib.hid (G10.out.below hbl)
            have W11 := Lib.hid (W10.out.below hbl)
            have Q11 := Lib.hid (Q10.out.below hbl)
            have P11 := Lib.hid (P10.out.below hbl)
            clear l1 c10 c11 c12 c13 l2 c20 c21 c22 c23 hbl G10 W10 Q10 P10
            obtain ⟨l1, c10, c11, c12, c13⟩ := G11.out.box
            go_wp2_with fail
            refine (mark_g HU.out G11.out).mono ?_
            rintro e wm ⟨rfl, hDm, hym⟩
            have HF := Lib.hid (G11.out.fits HU.out)
            have HGS := Lib.hid G11.out.inS
            have N12 := Lib.hid (G11.out.marked hym hDm)
            have W12 := Lib.hid (W11.out.only hym (fun k hk => by have h1 := (HGS.out k hk).1; omega))
            have Q12 := Lib.hid (Q11.out.only hym (fun k hk => by have h1 := (HGS.out k hk).1; omega))
            have P12 := Lib.hid (P11.out.only hym (fun hh => by have h1 := (HGS.out _ hh).1; omega))
            clear l1 c10 c11 c12 c13 hDm hym G11 W11 Q11 P11
            obtain ⟨l1, c10, c11, c12, c13⟩ := N12.out.box
            go_wp2_with fail
            refine (held_m HF.out N12.out).mono ?_
            rintro e wn ⟨rfl, hbn⟩
            have N13 := Lib.hid (N12.out.below hbn)
            have W13 := Lib.hid (W12.out.below hbn)
            have Q13 := Lib.hid (Q12.out.below hbn)
            have P13 := Lib.hid (P12.out.below hbn)
            have htop : (0 : Int) ≤ (endOs (endEs 1 esg) osg : Int) := by omega
            clear l1 c10 c11 c12 c13 hbn N12 W12 Q12 P12
            have hpw : w.heap.size + 1 < wn.heap.size := P13.out.lt
            go_upto_region 31 with fail
            go_cut [15, 16] (fun (s15 s16 : Value) (wx : World) => ∃ (p : Nat) (Aw : Option Addr) (nw cw : Nat) (Bw : Option Addr) (mw dw : Nat) (esw : List Ent) (osw : List OpE), s15 = .pointer (some ⟨p, 0, none⟩) ∧ s16 = .int .i64 x ∧ Hid (VBox wx wx p ans Aw nw cw Bw mw dw esw osw) ∧ wn.heap.size ≤ p ∧ Hid (Below wn.heap.size wn wx))
            case first =>
              obtain ⟨l0, c00, c01, c02, c03⟩ := Q13.out.box
              obtain ⟨l1, c10, c11, c12, c13⟩ := P13.out
              go_region_held3 (fun W => W.cell? ⟨w.heap.size, 0, none⟩ = some (.int .i64 r.room) ∧ W.cell? ⟨w.heap.size, 1, none⟩ = some (.int .i64 r.fuse) ∧ W.cell? ⟨w.heap.size, 2, none⟩ = some (.slice A n c) ∧ W.cell? ⟨w.heap.size, 3, none⟩ = some (.slice B m d) ∧ W.cell? ⟨w.heap.size + 1, 0, none⟩ = some (.int .i64 kind) ∧ W.cell? ⟨w.heap.size + 1, 1, none⟩ = some (.string nm) ∧ W.cell? ⟨w.heap.size + 1, 2, none⟩ = some (.string to') ∧ W.cell? ⟨w.heap.size + 1, 3, none⟩ = some (.slice A0 n0 c0))
                (first
                  | (exact ⟨x00, x01, x02, x03, x0, x1, x2, x3⟩)
                  | (exact ⟨z00, z01, z02, z03, z0, z1, z2, z3⟩)
                  | (exact ⟨y00, y01, y02, y03, y0, y1, y2, y3⟩)
                  | (exact ⟨ZQ.out.c0, ZQ.out.c1, ZQ.out.c2, ZQ.out.c3, ZP.out.c0, ZP.out.c1, ZP.out.c2, ZP.out.c3⟩)
                  | go_keep)
                (first
                  | (go_at_call 22; ((with_reducible refine (CT.out _ (by first | exact Q13.out.keep | exact Q13.out.keep.drew | exact below_drewN Q13.out.keep _)).mono ?_)); rintro e1 wd ⟨A2, c2, B2, d2, es2, os2, rfl, hf2, ho2, hd2, hbd⟩; have HBD : Hid (Below wn.heap.size wn wd) := Lib.hid (by first | exact hbd | exact ⟨hbd.os, hbd.tape, hbd.output, hbd.size, hbd.block⟩); have M3 := Lib.hid (meant_made hd2 hf2 ho2 HW.out); have K3 := Lib.hid (own_capK hd2.o.row); obtain ⟨l2, y0, y1, y2, y3⟩ := P13.out.below HBD.out; obtain ⟨l5, y00, y01, y02, y03⟩ := Q13.out.box.below HBD.out; have B2' := Lib.hid (below_chain Q13.out.keep HBD.out))
                  | (go_at_call 22; ((with_reducible refine (CT.out _ (by first | exact (Q13.out.keep.alloc Q13.out.keep.size (.cells #[.int .i64 0, .int .i64 0, .slice none 0 0, .slice none 0 0] 26)) | exact (Q13.out.keep.alloc Q13.out.keep.size (.cells #[.int .i64 0, .int .i64 0, .slice none 0 0, .slice none 0 0] 26)).drew)).mono ?_)); rintro e1 wd ⟨A2, c2, B2, d2, es2, os2, rfl, hf2, ho2, hd2, hbd⟩; have HB8 : Hid (Below (wn.alloc (.cells #[.int .i64 0, .int .i64 0, .slice none 0 0, .slice none 0 0] 26)).heap.size (wn.alloc (.cells #[.int .i64 0, .int .i64 0, .slice none 0 0, .slice none 0 0] 26)) wd) := Lib.hid (by first | exact hbd | exact ⟨hbd.os, hbd.tape, hbd.output, hbd.size, hbd.block⟩); have HBD : Hid (Below wn.heap.size wn wd) := Lib.hid (below_chain (below_a1 wn _) HB8.out); have ZN1 := Lib.hid ((FBox.new wn (.int .i64 0) (.int .i64 0) (.slice none 0 0) (.slice none 0 0) 26).below HB8.out); have QN1 := Lib.hid ((QBox.new wn (.int .i64 0) (.int .i64 0) (.slice none 0 0) (.slice none 0 0) 26 (quiet_int _) (quiet_int _) (quiet_sl _ _ _) (quiet_sl _ _ _)).below HB8.out); have M3 := Lib.hid (meant_made hd2 hf2 ho2 HW.out); have K3 := Lib.hid (own_capK hd2.o.row); obtain ⟨l2, y0, y1, y2, y3⟩ := P13.out.below HBD.out; obtain ⟨l5, y00, y01, y02, y03⟩ := Q13.out.box.below HBD.out; have B2' := Lib.hid (below_chain Q13.out.keep HBD.out))
                  | (go_at_call 23; ((with_reducible refine (CO.out _ (by first | exact B2'.out | exact B2'.out.drew | exact below_drewN B2'.out _)).mono ?_)); rintro e1 wo ⟨A3, c3, rfl, hown3, hbo⟩; have HBO : Hid (Below wd.heap.size wd wo) := Lib.hid (by first | exact hbo | exact ⟨hbo.os, hbo.tape, hbo.output, hbo.size, hbo.block⟩); have M4 := Lib.hid (M3.out.below HBO.out); have D4 : Hid ((⟨A3, xs.length, c3, xs⟩ : Dat).Ok wo) := Lib.hid ⟨Rd.of_own hown3 HSM.out, own_cap hown3⟩; obtain ⟨l3, z0, z1, z2, z3⟩ := (P13.out.below HBD.out).below HBO.out; obtain ⟨l6, z00, z01, z02, z03⟩ := (Q13.out.box.below HBD.out).below HBO.out; first | (have ZN2 := Lib.hid (ZN1.out.below HBO.out); have QN2 := Lib.hid (QN1.out.below HBO.out)) | skip)
                  | (go_at_call 23; ((with_reducible refine (CO.out _ (by first | exact (B2'.out.alloc B2'.out.size (.cells #[.int .i64 0, .int .i64 0, .slice none 0 0, .slice none 0 0] 26)) | exact (B2'.out.alloc B2'.out.size (.cells #[.int .i64 0, .int .i64 0, .slice none 0 0, .slice none 0 0] 26)).drew)).mono ?_)); rintro e1 wo ⟨A3, c3, rfl, hown3, hbo⟩; have HB7 : Hid (Below (wd.alloc (.cells #[.int .i64 0, .int .i64 0, .slice none 0 0, .slice none 0 0] 26)).heap.size (wd.alloc (.cells #[.int .i64 0, .int .i64 0, .slice none 0 0, .slice none 0 0] 26)) wo) := Lib.hid (by first | exact hbo | exact ⟨hbo.os, hbo.tape, hbo.output, hbo.size, hbo.block⟩); have HBO : Hid (Below wd.heap.size wd wo) := Lib.hid (below_chain (below_a1 wd _) HB7.out); have ZN2 := Lib.hid ((FBox.new wd (.int .i64 0) (.int .i64 0) (.slice none 0 0) (.slice none 0 0) 26).below HB7.out); have QN2 := Lib.hid ((QBox.new wd (.int .i64 0) (.int .i64 0) (.slice none 0 0) (.slice none 0 0) 26 (quiet_int _) (quiet_int _) (quiet_sl _ _ _) (quiet_sl _ _ _)).below HB7.out); have M4 := Lib.hid (M3.out.below HBO.out); have D4 : Hid ((⟨A3, xs.length, c3, xs⟩ : Dat).Ok wo) := Lib.hid ⟨Rd.of_own hown3 HSM.out, own_cap hown3⟩; obtain ⟨l3, z0, z1, z2, z3⟩ := (P13.out.below HBD.out).below HBO.out; obtain ⟨l6, z00, z01, z02, z03⟩ := (Q13.out.box.below HBD.out).below HBO.out)
                  | (go_at_call 11; (with_reducible refine (CI.out _ _ _ _ _ _ _ _ _ (M4.out.below (by first | exact Below.refl _ _ | exact (Below.refl _ _).drew)) _ _ (D4.out.below (by first | exact Below.refl _ _ | exact (Below.refl _ _).drew))).mono ?_); rintro e1 wc ⟨Aw, nw, cw, Bw, mw, dw, esw, osw, rfl, hfw, how, hlg, hmg, hdg, hbc⟩; have HBC : Hid (Below wo.heap.size wo wc) := Lib.hid (by first | exact hbc | exact ⟨hbc.os, hbc.tape, hbc.output, hbc.size, hbc.block⟩); have slw : SlF wc Aw nw esw := (by have h := hdg.f.sl; rw [hlg] at h; exact h); have sow : SlO wc Bw mw osw := (by have h := hdg.o.sl; rw [hmg] at h; exact h); obtain ⟨l4, x0, x1, x2, x3⟩ := ((P13.out.below HBD.out).below HBO.out).below HBC.out; obtain ⟨l7, x00, x01, x02, x03⟩ := ((Q13.out.box.below HBD.out).below HBO.out).below HBC.out; first | (have ZN5 := Lib.hid (ZN2.out.below HBC.out); have QN5 := Lib.hid (QN2.out.below HBC.out); obtain ⟨⟨m0, v00, v01, v02, v03⟩, hr0⟩ := ZN5.out; have hr00 := hr0 0; have hr01 := hr0 1; have hr02 := hr0 2; have hr03 := hr0 3; clear hr0; have hs1 := HBD.out.size; have hs2 := HBO.out.size; have hs3 := P13.out.lt; have ZP := Lib.hid (ZN5.out.spare (((P13.out.below HBD.out).below HBO.out).below HBC.out) (by omega) (.int .i64 ans.room) (.int .i64 ans.fuse) (.slice Aw nw cw) (.slice Bw mw dw)); have ZQ := Lib.hid (ZN5.out.spare (((Q13.out.box.below HBD.out).below HBO.out).below HBC.out) (by omega) (.int .i64 ans.room) (.int .i64 ans.fuse) (.slice Aw nw cw) (.slice Bw mw dw))) | skip)
                  | (go_at_call 11; (with_reducible refine (CI.out _ _ _ _ _ _ _ _ _ (M4.out.below (by first | exact (below_a1 wo (.cells #[.int .i64 0, .int .i64 0, .slice none 0 0, .slice none 0 0] 26)) | exact (below_a1 wo (.cells #[.int .i64 0, .int .i64 0, .slice none 0 0, .slice none 0 0] 26)).drew)) _ _ (D4.out.below (by first | exact (below_a1 wo (.cells #[.int .i64 0, .int .i64 0, .slice none 0 0, .slice none 0 0] 26)) | exact (below_a1 wo (.cells #[.int .i64 0, .int .i64 0, .slice none 0 0, .slice none 0 0] 26)).drew))).mono ?_); rintro e1 wc ⟨Aw, nw, cw, Bw, mw, dw, esw, osw, rfl, hfw, how, hlg, hmg, hdg, hbc⟩; have HB6 : Hid (Below (wo.alloc (.cells #[.int .i64 0, .int .i64 0, .slice none 0 0, .slice none 0 0] 26)).heap.size (wo.alloc (.cells #[.int .i64 0, .int .i64 0, .slice none 0 0, .slice none 0 0] 26)) wc) := Lib.hid (by first | exact hbc | exact ⟨hbc.os, hbc.tape, hbc.output, hbc.size, hbc.block⟩); have slw : SlF wc Aw nw esw := (by have h := hdg.f.sl; rw [hlg] at h; exact h); have sow : SlO wc Bw mw osw := (by have h := hdg.o.sl; rw [hmg] at h; exact h); have HBC : Hid (Below wo.heap.size wo wc) := Lib.hid (below_chain (below_a1 wo _) HB6.out); have ZN5 := Lib.hid ((FBox.new wo (.int .i64 0) (.int .i64 0) (.slice none 0 0) (.slice none 0 0) 26).below HB6.out); have QN5 := Lib.hid ((QBox.new wo (.int .i64 0) (.int .i64 0) (.slice none 0 0) (.slice none 0 0) 26 (quiet_int _) (quiet_int _) (quiet_sl _ _ _) (quiet_sl _ _ _)).below HB6.out); obtain ⟨l4, x0, x1, x2, x3⟩ := ((P13.out.below HBD.out).below HBO.out).below HBC.out; obtain ⟨l7, x00, x01, x02, x03⟩ := ((Q13.out.box.below HBD.out).below HBO.out).below HBC.out; obtain ⟨⟨m0, v00, v01, v02, v03⟩, hr0⟩ := ZN5.out; have hr00 := hr0 0; have hr01 := hr0 1; have hr02 := hr0 2; have hr03 := hr0 3; clear hr0; have hs1 := HBD.out.size; have hs2 := HBO.out.size; have ZP := Lib.hid ((((P13.out.below HBD.out).below HBO.out).below HBC.out).far4 (p := wo.heap.size) (by have := P13.out.lt; omega) (.int .i64 ans.room) (.int .i64 ans.fuse) (.slice Aw nw cw) (.slice Bw mw dw)); have ZQ := Lib.hid ((((Q13.out.box.below HBD.out).below HBO.out).below HBC.out).far4 (p := wo.heap.size) (by have := P13.out.lt; omega) (.int .i64 ans.room) (.int .i64 ans.fuse) (.slice Aw nw cw) (.slice Bw mw dw))))
              all_goals
                go_wp2_with fail
                go_meet
                have hs1 := HBD.out.size
                have hs2 := HBO.out.size
                have hs3 := HBC.out.size
                first
                  | exact ⟨wc.heap.size, Aw, nw, cw, Bw, mw, dw, esw, osw, rfl, rfl, Lib.hid ⟨Box4.new wc _ _ _ _ _, Below.refl _ _, slw.below (below_a1 wc _), sow.below (below_a1 wc _), hfw, how⟩, by omega, Lib.hid (below_chain (below_chain (below_chain HBD.out HBO.out) HBC.out) (below_a1 wc _))⟩
                  | exact ⟨wo.heap.size, Aw, nw, cw, Bw, mw, dw, esw, osw, rfl, rfl, Lib.hid ⟨(ZN5.out.out4 _ _ _ _).box, Below.refl _ _, slw.off QN5.out (OffB.out4 wc _ _ _ _ _), sow.off QN5.out (OffB.out4 wc _ _ _ _ _), hfw, how⟩, by omega, Lib.hid (below_out4 (below_chain (below_chain HBD.out HBO.out) HBC.out) (by omega) _ _ _ _)⟩
                  | exact ⟨wd.heap.size, Aw, nw, cw, Bw, mw, dw, esw, osw, rfl, rfl, Lib.hid ⟨(ZN5.out.out4 _ _ _ _).box, Below.refl _ _, slw.off QN5.out (OffB.out4 wc _ _ _ _ _), sow.off QN5.out (OffB.out4 wc _ _ _ _ _), hfw, how⟩, by omega, Lib.hid (below_out4 (below_chain (below_chain HBD.out HBO.out) HBC.out) (by omega) _ _ _ _)⟩
                  | exact ⟨_, Aw, nw, cw, Bw, mw, dw, esw, osw, rfl, rfl, Lib.hid ⟨(ZN5.out.out4 _ _ _ _).box, Below.refl _ _, slw.off QN5.out (OffB.out4 wc _ _ _ _ _), sow.off QN5.out (OffB.out4 wc _ _ _ _ _), hfw, how⟩, by omega, Lib.hid (below_out4 (below_chain (below_chain HBD.out HBO.out) HBC.out) (by omega) _ _ _ _)⟩
            case rest =>
              rename World => wz
              obtain ⟨p2, Ah, nh, ch, Bh, mh, dh, esh, osh, rfl, rfl, hv2, _, hbel2⟩ := hcut
              have N14 := Lib.hid (N13.out.below hbel2.out)
              have W14 := Lib.hid (W13.out.below hbel2.out)
              have Q14 := Lib.hid (Q13.out.below hbel2.out)
              have V14 := hv2
              clear hv2 hbel2 N13 W13 Q13 P13
              obtain ⟨l1, c10, c11, c12, c13⟩ := V14.out.at_
              obtain ⟨l2, c20, c21, c22, c23⟩ := W14.out.at_
              go_wp2_with fail
              refine (eq_vv HU.out V14.out W14.out).mono ?_
              rintro e wp ⟨rfl, hbp⟩
              have N15 := Lib.hid (N14.out.below hbp)
              have Q15 := Lib.hid (Q14.out.below hbp)
              clear l1 c10 c11 c12 c13 l2 c20 c21 c22 c23 hbp
              obtain ⟨l1, c10, c11, c12, c13⟩ := N15.out.box
              go_wp2_with fail
              refine (held_m HF.out N15.out).mono ?_
              rintro e wr ⟨rfl, hbr⟩
              go_wp2
              go_ret
              exact ⟨rfl, (Q15.out.below hbr).keep⟩
    · rw [szI_neg (by omega)] at CY
      clear hs ht hn hb hb2 hin hok
      go_enter Try.func4, Try.ntmps4
      go_wp2_with fail
      refine (CZ.out _ _).mono ?_
      rintro e wa ⟨rfl, hba⟩
      have HA := Lib.hid (below_chain (below_a2 w _ _) hba)
      have P0 : Hid (Box4 wa (w.heap.size + 1) (.int .i64 o.kind) (.string o.nm) (.string o.to) (.slice o.d.A o.d.n o.d.c)) := Lib.hid (by
        have h := Box4.new (w.alloc (.cells #[.int .i64 room, .int .i64 fuse, .slice A n c, .slice B m d] 45)) (.int .i64 o.kind) (.string o.nm) (.string o.to) (.slice o.d.A o.d.n o.d.c) 46
        rw [World.size_alloc] at h
        exact h.below hba)
      obtain ⟨l0, c00, c01, c02, c03⟩ := P0.out
      clear hba
      go_wp2_with fail
      refine (CY.out _).mono ?_
      rintro e wb ⟨rfl, hbb⟩
      go_wp2
      go_ret
      exact ⟨rfl, below_chain HA.out hbb⟩
  · rw [szI_neg (by omega)] at CZ
    clear hs ht hn hb hin hok
    go_enter Try.func4, Try.ntmps4
    go_wp2_with fail
    refine (CZ.out _ _).mono ?_
    rintro e wa ⟨rfl, hba⟩
    go_wp2
    go_ret
    exact ⟨rfl, below_chain (below_a2 w _ _) hba⟩
end Go.Proofs.Ytdeijiochianpaa
