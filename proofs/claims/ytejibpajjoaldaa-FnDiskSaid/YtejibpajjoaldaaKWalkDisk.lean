/- The walk of the law FnDisk: it returns true and writes nothing that was there. -/
import Derived.Test.YtejibpajjoaldaaKDiskV
import Derived.Deep.DeepCutAuto
namespace Go.Proofs.Ytejibpajjoaldaa
open Go.RowKit Go.Maps

/-- The law's disk in its box, and the operations that are left to do. -/
structure LSt (w W : World) (p : Nat) (r : DD) (A : Option Addr) (n c : Nat) (B : Option Addr) (m d : Nat) (es : List Ent) (os : List OpE) (P : Option Addr) (N : Nat) (ops : List OpE) : Prop where
  box : Blk W p #[.int .i64 r.room, .int .i64 r.fuse, .slice A n c, .slice B m d] 26
  v : DV W r A n B m d es os
  ops : SlO W P N ops
  keep : Below w.heap.size w W
  lp : w.heap.size ≤ p
section
variable {w W W' : World} {p : Nat} {r : DD} {A B P : Option Addr} {n c m d N : Nat} {es : List Ent} {os ops : List OpE}
theorem LSt.below (h : LSt w W p r A n c B m d es os P N ops) (hb : Below W.heap.size W W') : LSt w W' p r A n c B m d es os P N ops :=
  ⟨h.box.below hb, h.v.below hb, h.ops.below hb, h.keep.trans (hb.mono h.keep.size), h.lp⟩
theorem LSt.quiet (h : LSt w W p r A n c B m d es os P N ops) : QBox W p := h.box.quiet (quiet_int _) (quiet_int _) (quiet_sl _ _ _) (quiet_sl _ _ _)
theorem LSt.put {r' : DD} {A' B' : Option Addr} {n' c' m' d' : Nat} {es' : List Ent} {os' : List OpE} (h : LSt w W p r A n c B m d es os P N ops) (hv : DV W r' A' n' B' m' d' es' os') :
    LSt w ((((W.setCell ⟨p, 0, none⟩ (.int .i64 r'.room)).setCell ⟨p, 1, none⟩ (.int .i64 r'.fuse)).setCell ⟨p, 2, none⟩ (.slice A' n' c')).setCell ⟨p, 3, none⟩ (.slice B' m' d')) p r' A' n' c' B' m' d' es' os' P N ops :=
  have ho := OffG.set4 W p (.int .i64 r'.room) (.int .i64 r'.fuse) (.slice A' n' c') (.slice B' m' d')
  ⟨h.box.put4 _ _ _ _, hv.offG h.quiet ho, h.ops.offG h.quiet ho, below_out4 h.keep h.lp _ _ _ _, h.lp⟩
end

/-- The same, and another disk in a box of its own. -/
structure LTw (w W : World) (p : Nat) (r : DD) (A : Option Addr) (n c : Nat) (B : Option Addr) (m d : Nat) (es : List Ent) (os : List OpE) (P : Option Addr) (N : Nat) (ops : List OpE) (q : Nat) (room fuse : Int) (A2 : Option Addr) (K c2 : Nat) (B2 : Option Addr) (d2 : Nat) (es2 : List Ent) : Prop where
  l : LSt w W p r A n c B m d es os P N ops
  box : Blk W q #[.int .i64 room, .int .i64 fuse, .slice A2 K c2, .slice B2 0 d2] 26
  v : DV W ⟨room, fuse, r.seen, []⟩ A2 K B2 0 d2 es2 []
section
variable {w W W' : World} {p q : Nat} {r : DD} {A B P A2 B2 : Option Addr} {n c m d N K c2 d2 : Nat} {es es2 : List Ent} {os ops : List OpE} {room fuse : Int}
theorem LTw.below (h : LTw w W p r A n c B m d es os P N ops q room fuse A2 K c2 B2 d2 es2) (hb : Below W.heap.size W W') : LTw w W' p r A n c B m d es os P N ops q room fuse A2 K c2 B2 d2 es2 := ⟨h.l.below hb, h.box.below hb, h.v.below hb⟩
theorem LTw.drew (h : LTw w W p r A n c B m d es os P N ops q room fuse A2 K c2 B2 d2 es2) : LTw w W.drew p r A n c B m d es os P N ops q room fuse A2 K c2 B2 d2 es2 :=
  h.below (below_drewN (Below.refl _ _) 1)
theorem LTw.len (h : LTw w W p r A n c B m d es os P N ops q room fuse A2 K c2 B2 d2 es2) : K = r.seen.length := by
  rw [← h.v.f.len, ← (show es2.map Ent.file = r.seen from h.v.hf), List.length_map]
theorem LTw.made {room' fuse' : Int} {k2 m2 n2 : Nat} {os2 : List OpE} {A3 B3 : Option Addr} {es3 : List Ent} {d3 : Nat} (h : LSt w W p r A n c B m d es os P N ops) (hv : DV W ⟨room', fuse', r.seen, []⟩ A3 n2 B3 m2 d3 es3 os2) :
    m2 = 0 ∧ LTw w (W.alloc (.cells #[.int .i64 room', .int .i64 fuse', .slice A3 n2 k2, .slice B3 0 d3] 26)) p r A n c B m d es os P N ops W.heap.size room' fuse' A3 n2 k2 B3 d3 es3 := by
  have e : os2 = [] := List.map_eq_nil_iff.1 hv.ho
  subst e
  have e0 : m2 = 0 := hv.o.len.symm
  subst e0
  exact ⟨rfl, h.below (below_a1 _ _), Blk.new _ _ _, hv.below (below_a1 _ _)⟩
end

set_option maxRecDepth 20000 in
set_option maxHeartbeats 8000000 in
theorem walkDisk (A0 : Option Addr) (n0 c0 : Nat) (xs : List Nat) (w : World) (hr : Rd w A0 n0 xs) (_hnc : n0 ≤ c0) (_hcm : c0 ≤ maxLen) :
    Calls Try.prog 3 #[.slice A0 n0 c0] w fun e w' => e = .returned (.bool true) ∧ Below w.heap.size w w' := by
  unfold maxLen at _hcm
  by_cases hbig : n0 ≤ 1048576
  · have CM := Lib.hid (makeDisk A0 n0 c0 xs w hr hbig)
    have CO := Lib.hid (fun W (h : Below w.heap.size w W) => makeOps A0 n0 c0 xs W (hr.below h) hbig)
    have CC := Lib.hid (fun W (h : Below w.heap.size w W) => makeCut A0 n0 c0 xs W (hr.below h) hbig)
    clear hr
    go_enter Try.func3, Try.ntmps3
    go_wp2_with fail
    refine CM.out.mono ?_
    rintro e w1 ⟨r, A, n, c, B, m, d, es, os, hnice, rfl, hf, ho, hsl, hso, hcap, hb1⟩
    have D1 := Lib.hid (Blk.new w1 #[.int .i64 r.room, .int .i64 r.fuse, .slice A n c, .slice B m d] 26)
    have V1 := Lib.hid (DV.below ⟨hsl, hso, hf, ho, hcap, hnice⟩ (below_a1 w1 (.cells #[.int .i64 r.room, .int .i64 r.fuse, .slice A n c, .slice B m d] 26)))
    have B1 := Lib.hid (hb1.trans ((below_a1 w1 (.cells #[.int .i64 r.room, .int .i64 r.fuse, .slice A n c, .slice B m d] 26)).mono hb1.size))
    have hp : w.heap.size ≤ w1.heap.size := hb1.size
    clear hnice hf ho hsl hso hcap hb1 CM
    go_wp2_with fail
    refine (CO.out _ B1.out).mono ?_
    rintro e w2 ⟨ops, P, Q, hN, rfl, hpo, hsm, hb2⟩
    obtain ⟨N, hNN⟩ : ∃ N, N = ops.length := ⟨_, rfl⟩
    rw [← hNN] at hN hpo ⊢
    have HS : Hid (LSt w w2 w1.heap.size r A n c B m d es os P N ops) := Lib.hid ⟨D1.out.below hb2, V1.out.below hb2, hpo, B1.out.trans (hb2.mono B1.out.size), hp⟩
    have HSM := Lib.hid hsm
    clear hpo hsm hb2 CO D1 V1 B1 hNN
    go_wp2
    go_loopw [26] (fun i wr => ∃ (k : Nat) (r : DD) (A : Option Addr) (n c : Nat) (B : Option Addr) (m d : Nat) (es : List Ent) (os : List OpE), k ≤ N ∧ i = .int .i64 (k : Int) ∧ Hid (LSt w wr w1.heap.size r A n c B m d es os P N ops)) (fun i _ => N - (intOf i).toNat)
    case atStart => exact ⟨0, _, _, _, _, _, _, _, _, _, by omega, rfl, HS⟩
    case round =>
      clear HS
      obtain ⟨k, r, A, n, c, B, m, d, es, os, hk, rfl, HS⟩ := hrel
      by_cases hlt : k < N
      · obtain ⟨b, off, o, hP, hbw, hx, hok, c0, c1, c2, c3⟩ := HS.out.ops.at_ hlt
        subst hP
        have HOS := Lib.hid (have h := HSM.out o (List.mem_of_getElem? hx.out); op_sizes h.1 h.2)
        have ha1 := below_a1 wr (.cells #[.int .i64 o.kind, .string o.nm, .string o.to, .slice o.d.A o.d.n o.d.c] 30)
        have HS1 := Lib.hid (HS.out.below ha1)
        have HO1 := Lib.hid (hok.out.below ha1)
        have b0 := HS1.out.box.cell (i := 0) rfl
        have b1 := HS1.out.box.cell (i := 1) rfl
        have b2 := HS1.out.box.cell (i := 2) rfl
        have b3 := HS1.out.box.cell (i := 3) rfl
        have OB := Lib.hid (Blk.new wr #[.int .i64 o.kind, .string o.nm, .string o.to, .slice o.d.A o.d.n o.d.c] 30)
        have CI := Lib.hid (HS1.out.v.doI c o HO1.out HOS.out)
        have CS := Lib.hid (fun W (h : LSt w W w1.heap.size r A n c B m d es os (some ⟨b, off, none⟩) N ops) (h2 : o.d.Ok W) => h.v.doS c o h2 HOS.out)
        generalize (doA r o.op).1 = r3 at CI CS
        generalize (doA r o.op).2 = x at CI CS
        clear hx hok ha1
        go_wp2_with fail
        refine CI.out.mono ?_
        rintro e w3 ⟨A3, n3, k3, B3, m3, d3, es3, os3, rfl, hv3, hb3⟩
        have hba := below_a1 w3 (.cells #[.int .i64 r3.room, .int .i64 r3.fuse, .slice A3 n3 k3, .slice B3 m3 d3] 26)
        have N3 := Lib.hid (Blk.new w3 #[.int .i64 r3.room, .int .i64 r3.fuse, .slice A3 n3 k3, .slice B3 m3 d3] 26)
        have V3 := Lib.hid (hv3.below hba)
        have HS3 := Lib.hid ((HS1.out.below hb3).below hba)
        have HO3 := Lib.hid ((HO1.out.below hb3).below hba)
        have OB3 := Lib.hid ((OB.out.below hb3).below hba)
        clear b0 b1 b2 b3 hv3 hb3 hba HS1 HO1 OB CI
        have b0 := HS3.out.box.cell (i := 0) rfl
        have b1 := HS3.out.box.cell (i := 1) rfl
        have b2 := HS3.out.box.cell (i := 2) rfl
        have b3 := HS3.out.box.cell (i := 3) rfl
        have a0 := OB3.out.cell (i := 0) rfl
        have a1 := OB3.out.cell (i := 1) rfl
        have a2 := OB3.out.cell (i := 2) rfl
        have a3 := OB3.out.cell (i := 3) rfl
        go_wp2_with fail
        refine (CS.out _ HS3.out HO3.out).mono ?_
        rintro e w4 ⟨A4, n4, k4, B4, m4, d4, es4, os4, rfl, hv4, hb4⟩
        have hba := below_a1 w4 (.cells #[.int .i64 r3.room, .int .i64 r3.fuse, .slice A4 n4 k4, .slice B4 m4 d4] 26)
        have N4 := Lib.hid ((N3.out.below hb4).below hba)
        have V4 := Lib.hid ((V3.out.below hb4).below hba)
        have HS4 := Lib.hid ((HS3.out.below hb4).below hba)
        clear b0 b1 b2 b3 a0 a1 a2 a3 hv4 hb4 hba N3 V3 HS3 HO3 OB3 CS
        have b0 := N4.out.cell (i := 0) rfl
        have b1 := N4.out.cell (i := 1) rfl
        have b2 := N4.out.cell (i := 2) rfl
        have b3 := N4.out.cell (i := 3) rfl
        go_wp2_with fail
        refine (V4.out.ok k3).mono ?_
        rintro e w5 ⟨rfl, hb5⟩
        have N5 := Lib.hid (N4.out.below hb5)
        have V5 := Lib.hid (V4.out.below hb5)
        have HS5 := Lib.hid (HS4.out.below hb5)
        have HP := Lib.hid (HS5.out.put (c' := k3) V5.out)
        clear b0 b1 b2 b3 hb5 N4 V4 HS4
        have b0 := N5.out.cell (i := 0) rfl
        have b1 := N5.out.cell (i := 1) rfl
        have b2 := N5.out.cell (i := 2) rfl
        have b3 := N5.out.cell (i := 3) rfl
        have a0 := HS5.out.box.cell (i := 0) rfl
        have f0 := HS5.out.box.frozen 0
        have a1 := HS5.out.box.cell (i := 1) rfl
        have f1 := HS5.out.box.frozen 1
        have a2 := HS5.out.box.cell (i := 2) rfl
        have f2 := HS5.out.box.frozen 2
        have a3 := HS5.out.box.cell (i := 3) rfl
        have f3 := HS5.out.box.frozen 3
        clear HS HS5 V5 N5
        go_wp2
        go_roundw
        case rel => exact ⟨k + 1, _, _, _, _, _, _, _, _, _, by omega, by go_num, HP⟩
        case measure => simp [intOf]; omega
      · obtain rfl : k = N := by omega
        have hseen := (DD.seen_good HS.out.v.nice.ok).1
        clear hlt
        go_wp2_with fail
        refine (CC.out _ HS.out.keep).mono ?_
        rintro e w6 ⟨q6, z6, hq6, hz6, rfl, hb6⟩
        have HS6 := Lib.hid (HS.out.below hb6)
        have hzr : 0 ≤ z6 ∧ z6 ≤ 9999 := by
          simp only [cutNums, List.mem_cons, List.not_mem_nil, or_false] at hz6
          omega
        have CR := Lib.hid (HS6.out.v.crash c (q6 : Int) z6 (int_wf (by omega) (by omega)) (int_wf (by omega) (by omega)))
        clear HS hb6 hz6
        have b0 := HS6.out.box.cell (i := 0) rfl
        have b1 := HS6.out.box.cell (i := 1) rfl
        have b2 := HS6.out.box.cell (i := 2) rfl
        have b3 := HS6.out.box.cell (i := 3) rfl
        go_wp2_with fail
        refine CR.out.mono ?_
        rintro e w7 ⟨A7, n7, k7, B7, m7, d7, es7, os7, rfl, hv7, hb7⟩
        have e7 : os7 = [] := List.map_eq_nil_iff.1 hv7.ho
        subst e7
        have e7 : m7 = 0 := hv7.o.len.symm
        subst e7
        have E7 := Lib.hid (Blk.new w7 #[.int .i64 r.room, .int .i64 (-1), .slice A7 n7 k7, .slice B7 0 d7] 26)
        have V7 := Lib.hid (hv7.below (below_a1 w7 (.cells #[.int .i64 r.room, .int .i64 (-1), .slice A7 n7 k7, .slice B7 0 d7] 26)))
        have HS7 := Lib.hid ((HS6.out.below hb7).below (below_a1 w7 (.cells #[.int .i64 r.room, .int .i64 (-1), .slice A7 n7 k7, .slice B7 0 d7] 26)))
        clear b0 b1 b2 b3 hv7 hb7 HS6 CR
        have b0 := E7.out.cell (i := 0) rfl
        have b1 := E7.out.cell (i := 1) rfl
        have b2 := E7.out.cell (i := 2) rfl
        have b3 := E7.out.cell (i := 3) rfl
        go_wp2_with fail
        refine (V7.out.ok k7).mono ?_
        rintro e w8 ⟨rfl, hb8⟩
        have E8 := Lib.hid (E7.out.below hb8)
        have HS8 := Lib.hid (HS7.out.below hb8)
        have CA := Lib.hid (HS8.out.v.all c)
        clear b0 b1 b2 b3 hb8 E7 V7 HS7
        have a0 := E8.out.cell (i := 0) rfl
        have a1 := E8.out.cell (i := 1) rfl
        have a2 := E8.out.cell (i := 2) rfl
        have a3 := E8.out.cell (i := 3) rfl
        have b0 := HS8.out.box.cell (i := 0) rfl
        have b1 := HS8.out.box.cell (i := 1) rfl
        have b2 := HS8.out.box.cell (i := 2) rfl
        have b3 := HS8.out.box.cell (i := 3) rfl
        go_wp2_with fail
        refine CA.out.mono ?_
        rintro e w9 ⟨A9, n9, k9, B9, m9, d9, es9, os9, rfl, hv9, hb9⟩
        obtain ⟨e9, hl9⟩ := LTw.made (k2 := k9) (HS8.out.below hb9) hv9
        subst e9
        have HT := Lib.hid hl9
        have hn9 := HT.out.len
        clear a0 a1 a2 a3 b0 b1 b2 b3 hv9 hb9 hl9 HS8 E8 CA
        have b0 := HT.out.l.box.cell (i := 0) rfl
        have b1 := HT.out.l.box.cell (i := 1) rfl
        have b2 := HT.out.l.box.cell (i := 2) rfl
        have b3 := HT.out.l.box.cell (i := 3) rfl
        have g0 := HT.out.box.cell (i := 0) rfl
        have g1 := HT.out.box.cell (i := 1) rfl
        have g2 := HT.out.box.cell (i := 2) rfl
        have g3 := HT.out.box.cell (i := 3) rfl
        have CSN : Hid (∀ W, LTw w W w1.heap.size r A n c B m d es os P k ops w9.heap.size r.room (-1) A9 n9 k9 B9 d9 es9 → Calls Try.prog 16 #[.agg #[.int .i64 r.room, .int .i64 r.fuse, .slice A n c, .slice B m d]] W (fun e w' => ∃ AX cX esX, e = .returned (.slice AX n9 cX) ∧ esX.map Ent.file = r.seen ∧ SlF w' AX n9 esX ∧ Below W.heap.size W w')) := Lib.hid (fun W h => by rw [hn9]; exact h.l.v.seenS c)
        have CSM : Hid (∀ W AX AY esX esY cX cY, SlF W AX n9 esX → esX.map Ent.file = r.seen → SlF W AY n9 esY → esY.map Ent.file = r.seen → Calls Try.prog 15 #[.slice AX n9 cX, .slice AY n9 cY] W (Tells W true)) := Lib.hid (fun W AX AY esX esY cX cY h1 h2 h3 h4 => by rw [hn9] at h1 h3 ⊢; exact same_n h1 h2 h3 h4 hseen cX cY)
        clear hn9
        go_upto_region 18 with fail
        go_cut [96] (fun s96 wx => s96 = .bool false ∧ Hid (LSt w wx w1.heap.size r A n c B m d es os P k ops))
        case first =>
          go_region_with (first
            | (go_at_call 16; (with_reducible refine (CSN.out _ (by first | exact HT.out | exact HT.out.drew)).mono ?_); rintro e1 wx ⟨AX, cX, esX, rfl, hfX, hsX, hbX⟩; have HT := Lib.hid (by first | exact HT.out.below hbX | exact HT.out.drew.below hbX); have FX := Lib.hid hfX; have SX := Lib.hid hsX; clear b0 b1 b2 b3 g0 g1 g2 g3 hfX hsX hbX; have b0 := HT.out.l.box.cell (i := 0) rfl; have b1 := HT.out.l.box.cell (i := 1) rfl; have b2 := HT.out.l.box.cell (i := 2) rfl; have b3 := HT.out.l.box.cell (i := 3) rfl; have g0 := HT.out.box.cell (i := 0) rfl; have g1 := HT.out.box.cell (i := 1) rfl; have g2 := HT.out.box.cell (i := 2) rfl; have g3 := HT.out.box.cell (i := 3) rfl)
            | (go_at_call 15; (with_reducible refine (CSM.out _ _ _ es9 esX _ _ HT.out.v.f HT.out.v.hf SX.out FX.out).mono ?_); rintro e1 wy ⟨rfl, hbY⟩; have HT := Lib.hid (HT.out.below hbY); clear b0 b1 b2 b3 g0 g1 g2 g3 hbY; have b0 := HT.out.l.box.cell (i := 0) rfl; have b1 := HT.out.l.box.cell (i := 1) rfl; have b2 := HT.out.l.box.cell (i := 2) rfl; have b3 := HT.out.l.box.cell (i := 3) rfl; have g0 := HT.out.box.cell (i := 0) rfl; have g1 := HT.out.box.cell (i := 1) rfl; have g2 := HT.out.box.cell (i := 2) rfl; have g3 := HT.out.box.cell (i := 3) rfl))
          all_goals
            go_wp2
            go_meet
            exact ⟨rfl, Lib.hid HT.out.l⟩
        case rest =>
          obtain ⟨rfl, HL⟩ := hcut
          clear g0 g1 g2 g3 b0 b1 b2 b3 HT CSN CSM CC
          have b0 := HL.out.box.cell (i := 0) rfl
          have b1 := HL.out.box.cell (i := 1) rfl
          have b2 := HL.out.box.cell (i := 2) rfl
          have b3 := HL.out.box.cell (i := 3) rfl
          by_cases hf0 : r.fuse = 0
          · have hz : (r.fuse == 0) = true := by simp [hf0]
            have CY := Lib.hid (HL.out.v.sync0 c hf0)
            clear hf0
            go_wp2_with fail
            refine CY.out.mono ?_
            rintro e wz ⟨AZ, nZ, kZ, BZ, mZ, dZ, esZ, osZ, rfl, hvZ, hbZ⟩
            have HLZ := Lib.hid ((HL.out.below hbZ).below (below_a1 wz (.cells #[.int .i64 r.room, .int .i64 r.fuse, .slice AZ nZ kZ, .slice BZ mZ dZ] 26)))
            clear b0 b1 b2 b3 hvZ hbZ HL CY
            have b0 := HLZ.out.box.cell (i := 0) rfl
            have b1 := HLZ.out.box.cell (i := 1) rfl
            have b2 := HLZ.out.box.cell (i := 2) rfl
            have b3 := HLZ.out.box.cell (i := 3) rfl
            go_wp2
            go_ret
            exact ⟨rfl, HLZ.out.keep⟩
          · have hz : (r.fuse == 0) = false := by simp [hf0]
            have CY := Lib.hid (HL.out.v.sync1 c hf0)
            clear hf0
            go_wp2_with fail
            refine CY.out.mono ?_
            rintro e wz ⟨AZ, nZ, kZ, BZ, mZ, dZ, esZ, osZ, rfl, hvZ, hbZ⟩
            obtain ⟨eZ, hlZ⟩ := LTw.made (k2 := kZ) (HL.out.below hbZ) hvZ
            subst eZ
            have HT := Lib.hid hlZ
            have hnZ := HT.out.len
            have CSN : Hid (∀ W, LTw w W w1.heap.size r A n c B m d es os P k ops wz.heap.size r.room (burnF r.fuse) AZ nZ kZ BZ dZ esZ → Calls Try.prog 16 #[.agg #[.int .i64 r.room, .int .i64 r.fuse, .slice A n c, .slice B m d]] W (fun e w' => ∃ AX cX esX, e = .returned (.slice AX nZ cX) ∧ esX.map Ent.file = r.seen ∧ SlF w' AX nZ esX ∧ Below W.heap.size W w')) := Lib.hid (fun W h => by rw [hnZ]; exact h.l.v.seenS c)
            have CSI : Hid (∀ W, LTw w W w1.heap.size r A n c B m d es os P k ops wz.heap.size r.room (burnF r.fuse) AZ nZ kZ BZ dZ esZ → Calls Try.prog 18 #[.agg #[.int .i64 r.room, .int .i64 (burnF r.fuse), .slice AZ nZ kZ, .slice BZ 0 dZ]] W (fun e w' => ∃ AX cX esX, e = .returned (.slice AX nZ cX) ∧ esX.map Ent.file = r.seen ∧ SlF w' AX nZ esX ∧ Below W.heap.size W w')) := Lib.hid (fun W h => by have hh := h.v.seenI kZ rfl; unfold FilesN at hh; simp only [← hnZ] at hh; exact hh)
            have CSM : Hid (∀ W AX AY esX esY cX cY, SlF W AX nZ esX → esX.map Ent.file = r.seen → SlF W AY nZ esY → esY.map Ent.file = r.seen → Calls Try.prog 15 #[.slice AX nZ cX, .slice AY nZ cY] W (Tells W true)) := Lib.hid (fun W AX AY esX esY cX cY h1 h2 h3 h4 => by rw [hnZ] at h1 h3 ⊢; exact same_n h1 h2 h3 h4 hseen cX cY)
            clear b0 b1 b2 b3 hvZ hbZ hlZ HL CY hnZ
            generalize burnF r.fuse = fz at HT CSN CSI ⊢
            have b0 := HT.out.l.box.cell (i := 0) rfl
            have b1 := HT.out.l.box.cell (i := 1) rfl
            have b2 := HT.out.l.box.cell (i := 2) rfl
            have b3 := HT.out.l.box.cell (i := 3) rfl
            have g0 := HT.out.box.cell (i := 0) rfl
            have g1 := HT.out.box.cell (i := 1) rfl
            have g2 := HT.out.box.cell (i := 2) rfl
            have g3 := HT.out.box.cell (i := 3) rfl
            go_wp2
            go_region_with (first
              | (go_at_call 16; (with_reducible refine (CSN.out _ (by first | exact HT.out | exact HT.out.drew)).mono ?_); rintro e1 wx ⟨AX, cX, esX, rfl, hfX, hsX, hbX⟩; have HT := Lib.hid (by first | exact HT.out.below hbX | exact HT.out.drew.below hbX); have FX := Lib.hid hfX; have SX := Lib.hid hsX; clear b0 b1 b2 b3 g0 g1 g2 g3 hfX hsX hbX; have b0 := HT.out.l.box.cell (i := 0) rfl; have b1 := HT.out.l.box.cell (i := 1) rfl; have b2 := HT.out.l.box.cell (i := 2) rfl; have b3 := HT.out.l.box.cell (i := 3) rfl; have g0 := HT.out.box.cell (i := 0) rfl; have g1 := HT.out.box.cell (i := 1) rfl; have g2 := HT.out.box.cell (i := 2) rfl; have g3 := HT.out.box.cell (i := 3) rfl)
              | (go_at_call 18; (with_reducible refine (CSI.out _ HT.out).mono ?_); rintro e1 wv ⟨AV, cV, esV, rfl, hfV, hsV, hbV⟩; have HT := Lib.hid (HT.out.below hbV); have FV := Lib.hid hfV; have SV := Lib.hid hsV; clear b0 b1 b2 b3 g0 g1 g2 g3 hfV hsV hbV; have b0 := HT.out.l.box.cell (i := 0) rfl; have b1 := HT.out.l.box.cell (i := 1) rfl; have b2 := HT.out.l.box.cell (i := 2) rfl; have b3 := HT.out.l.box.cell (i := 3) rfl; have g0 := HT.out.box.cell (i := 0) rfl; have g1 := HT.out.box.cell (i := 1) rfl; have g2 := HT.out.box.cell (i := 2) rfl; have g3 := HT.out.box.cell (i := 3) rfl)
              | (go_at_call 15; (with_reducible refine (CSM.out _ _ _ esV esZ _ _ SV.out FV.out HT.out.v.f HT.out.v.hf).mono ?_); rintro e1 wt ⟨rfl, hbT⟩; have HT := Lib.hid (HT.out.below hbT); clear b0 b1 b2 b3 g0 g1 g2 g3 hbT; have b0 := HT.out.l.box.cell (i := 0) rfl; have b1 := HT.out.l.box.cell (i := 1) rfl; have b2 := HT.out.l.box.cell (i := 2) rfl; have b3 := HT.out.l.box.cell (i := 3) rfl; have g0 := HT.out.box.cell (i := 0) rfl; have g1 := HT.out.box.cell (i := 1) rfl; have g2 := HT.out.box.cell (i := 2) rfl; have g3 := HT.out.box.cell (i := 3) rfl)
              | (go_at_call 15; (with_reducible refine (CSM.out _ _ _ esZ esX _ _ HT.out.v.f HT.out.v.hf SX.out FX.out).mono ?_); rintro e1 wy ⟨rfl, hbY⟩; have HT := Lib.hid (HT.out.below hbY); clear b0 b1 b2 b3 g0 g1 g2 g3 hbY; have b0 := HT.out.l.box.cell (i := 0) rfl; have b1 := HT.out.l.box.cell (i := 1) rfl; have b2 := HT.out.l.box.cell (i := 2) rfl; have b3 := HT.out.l.box.cell (i := 3) rfl; have g0 := HT.out.box.cell (i := 0) rfl; have g1 := HT.out.box.cell (i := 1) rfl; have g2 := HT.out.box.cell (i := 2) rfl; have g3 := HT.out.box.cell (i := 3) rfl))
            all_goals
              clear CSN CSI CSM FX SX FV SV b0 b1 b2 b3 g0 g1 g2 g3
              go_wp2
              go_ret
              exact ⟨rfl, HT.out.l.keep⟩
  · clear hr
    go_enter Try.func3, Try.ntmps3
    go_wp2
    go_ret
    exact ⟨rfl, Below.refl _ _⟩
end Go.Proofs.Ytejibpajjoaldaa
