/- The contract of the model's function that makes all waiting operations safe, with the capacity of what it gives. -/
import Derived.Test.YtejibpajjoaldaaC11
import Derived.Test.YtejibpajjoaldaaKSeeC
namespace Go.Proofs.Ytejibpajjoaldaa
open Go.RowKit Go.Maps

set_option maxRecDepth 10000 in
set_option maxHeartbeats 4000000 in
theorem specSyncC (r : DD) (A : Option Addr) (n c : Nat) (B : Option Addr) (m d : Nat) (es : List Ent) (os : List OpE) (w : World) (h : Meant w r A n B m es os) (hc : m ≤ d) :
    Calls Try.prog 72 #[.agg #[.int .i64 r.room, .int .i64 r.fuse, .slice A n c, .slice B m d]] w (SeeC w (syncD r) (.int .i64 (syncC r))) := by
  have C1 := Lib.hid (fun W (hb : Below w.heap.size w W) => (h.below hb).specOk c d)
  have CC := Lib.hid (fun W (hb : Below w.heap.size w W) => (h.below hb).specCopy c d)
  have CS := Lib.hid (fun W (hb : Below w.heap.size w W) => specSeen r A n c B m d es os W (h.below hb) hc)
  have HL := Lib.hid (fun hok => DD.ok_lim (r := r) hok)
  have F0 := Lib.hid ((FBox.new w (.int .i64 r.room) (.int .i64 r.fuse) (.slice A n c) (.slice B m d) 26).alloc (.cells #[.int .i64 0, .int .i64 0, .slice none 0 0, .slice none 0 0] 26))
  have F1 := Lib.hid (FBox.second w (.cells #[.int .i64 r.room, .int .i64 r.fuse, .slice A n c, .slice B m d] 26) (.int .i64 0) (.int .i64 0) (.slice none 0 0) (.slice none 0 0) 26)
  have Z1 := Lib.hid (QBox.second w (.cells #[.int .i64 r.room, .int .i64 r.fuse, .slice A n c, .slice B m d] 26) (.int .i64 0) (.int .i64 0) (.slice none 0 0) (.slice none 0 0) 26 (quiet_int _) (quiet_int _) (quiet_sl _ _ _) (quiet_sl _ _ _))
  have HD : Hid (syncD r = if r.ok then (if r.fuse = 0 then r else ⟨r.room, burnF r.fuse, r.seen, []⟩) else DD.zero) := Lib.hid rfl
  have HC : Hid (syncC r = if r.ok then (if r.fuse = 0 then 2 else 0) else 1) := Lib.hid rfl
  generalize syncD r = sd at HD ⊢
  generalize syncC r = sc at HC ⊢
  clear h
  go_enter Try.func72, Try.ntmps72
  go_wp2_with fail
  refine (C1.out _ (below_a2 _ _ _)).mono ?_
  rintro e w1 ⟨rfl, hb1⟩
  have HB1 := Lib.hid (below_chain (below_a2 w _ _) hb1)
  have G0 := Lib.hid (F0.out.below hb1)
  have G1 := Lib.hid (F1.out.below hb1)
  have Z2 := Lib.hid (Z1.out.below hb1)
  clear hb1 F0 F1 Z1
  obtain ⟨⟨l0, x00, x01, x02, x03⟩, fr0⟩ := G0.out
  obtain ⟨⟨l1, x10, x11, x12, x13⟩, fr1⟩ := G1.out
  have fr10 := fr1 0
  have fr11 := fr1 1
  have fr12 := fr1 2
  have fr13 := fr1 3
  clear fr0 fr1
  cases hr : r.ok with
  | false =>
    have e1 : sc = 1 := by rw [HC.out, hr]; rfl
    have e2 : sd = DD.zero := by rw [HD.out, hr]; rfl
    subst e1
    have HE2 := Lib.hid e2
    clear e2 HC HD
    go_wp2
    refine bodyPost_ret (v := .tuple #[.agg #[.int .i64 0, .int .i64 0, .slice none 0 0, .slice none 0 0], .int .i64 1]) (by simp [results, Try.results72, go_sem, x10, x11, x12, x13]) rfl ?_
    rw [HE2.out]
    exact ⟨none, 0, 0, none, 0, 0, [], [], rfl, rfl, rfl, SlF.nil, SlO.nil, Nat.le_refl _, below_out4 HB1.out (by omega) _ _ _ _⟩
  | true =>
    obtain ⟨r0, r1, f0, f1, _, _⟩ := HL.out hr
    by_cases hf0 : r.fuse = 0
    · have e1 : sc = 2 := by rw [HC.out, hr, if_pos rfl, if_pos hf0]
      have e2 : sd = r := by rw [HD.out, hr, if_pos rfl, if_pos hf0]
      have hd0 : (r.fuse == 0) = true := by simp [hf0]
      subst e1
      have HE2 := Lib.hid e2
      clear e2 HC HD hf0
      go_wp2_with fail
      refine (CC.out _ HB1.out).mono ?_
      rintro e w3 ⟨A1, c1, B1, d1, es1, os1, rfl, hf1, ho1, hd1, hb3⟩
      have HB3 := Lib.hid (below_chain HB1.out hb3)
      have J1 := Lib.hid (G1.out.below hb3)
      have HF1 := Lib.hid hf1
      have HO1 := Lib.hid ho1
      have HD1 := Lib.hid hd1
      have hle : w.heap.size + 1 < w1.heap.size := l1
      clear hb3 hf1 ho1 hd1 l1 x10 x11 x12 x13 l0 x00 x01 x02 x03 fr10 fr11 fr12 fr13
      obtain ⟨⟨l1, x10, x11, x12, x13⟩, fr1⟩ := J1.out
      have fr10 := fr1 0
      have fr11 := fr1 1
      have fr12 := fr1 2
      have fr13 := fr1 3
      clear fr1
      go_wp2
      refine bodyPost_ret (v := .tuple #[.agg #[.int .i64 r.room, .int .i64 r.fuse, .slice A1 es1.length c1, .slice B1 os1.length d1], .int .i64 2]) (by simp [results, Try.results72, go_sem, x10, x11, x12, x13]) rfl ?_
      rw [HE2.out]
      exact seeC_own (r := r) (HD1.out.out4 hle _ _ _ _) HF1.out HO1.out (below_out4 HB3.out (by omega) _ _ _ _)
    · have e1 : sc = 0 := by rw [HC.out, hr, if_pos rfl, if_neg hf0]
      have e2 : sd = ⟨r.room, burnF r.fuse, r.seen, []⟩ := by rw [HD.out, hr, if_pos rfl, if_neg hf0]
      have hd0 : (r.fuse == 0) = false := by simp [hf0]
      subst e1
      have HE2 := Lib.hid e2
      have HNZ := Lib.hid hf0
      clear e2 HC HD hf0
      go_upto_region 5 with fail
      go_cut [4] (fun s4 wx => ∃ (p : Nat) (A5 : Option Addr) (c5 : Nat) (es5 : List Ent), s4 = .pointer (some ⟨p, 0, none⟩) ∧ Hid (FBox wx p (.int .i64 r.room) (.int .i64 r.fuse) (.slice A5 es5.length c5) (.slice none 0 0)) ∧ Hid (QBox wx p) ∧ w.heap.size + 1 < p ∧ Hid (SlF wx A5 es5.length es5) ∧ Hid (es5.map Ent.file = r.seen) ∧ Hid (Below w.heap.size w wx) ∧ Hid (FBox wx (w.heap.size + 1) (.int .i64 0) (.int .i64 0) (.slice none 0 0) (.slice none 0 0)) ∧ Hid (QBox wx (w.heap.size + 1)))
      case first =>
        have ZN := Lib.hid (FBox.new w1 (.int .i64 0) (.int .i64 0) (.slice none 0 0) (.slice none 0 0) 26)
        have QN := Lib.hid (QBox.new w1 (.int .i64 0) (.int .i64 0) (.slice none 0 0) (.slice none 0 0) 26 (quiet_int _) (quiet_int _) (quiet_sl _ _ _) (quiet_sl _ _ _))
        go_region_held3 (fun W => W.cell? ⟨w.heap.size, 0, none⟩ = some (.int .i64 r.room) ∧ W.cell? ⟨w.heap.size, 1, none⟩ = some (.int .i64 r.fuse) ∧ W.cell? ⟨w.heap.size, 2, none⟩ = some (.slice A n c) ∧ W.cell? ⟨w.heap.size, 3, none⟩ = some (.slice B m d))
          (first
            | (exact ⟨y00, y01, y02, y03⟩)
            | (exact ⟨YY.out.box.c0, YY.out.box.c1, YY.out.box.c2, YY.out.box.c3⟩)
            | go_keep)
          (first
          | (go_at_call 16; ((with_reducible refine (CS.out _ (by first | exact HB1.out | exact HB1.out.drew)).mono ?_)); rintro e1 w5 ⟨A5, c5, es5, rfl, hf5, hs5, hb5⟩; have HB5 : Hid (Below w1.heap.size w1 w5) := Lib.hid (by first | exact hb5 | exact ⟨hb5.os, hb5.tape, hb5.output, hb5.size, hb5.block⟩); obtain ⟨⟨k0, y00, y01, y02, y03⟩, gr0⟩ := G0.out.below HB5.out; clear gr0)
          | (go_at_call 16; ((with_reducible refine (CS.out _ (by first | exact HB1.out.alloc HB1.out.size _ | exact (HB1.out.alloc HB1.out.size _).drew)).mono ?_)); rintro e1 w5 ⟨A5, c5, es5, rfl, hf5, hs5, hb5⟩; have HB6 : Hid (Below (w1.alloc (.cells #[.int .i64 0, .int .i64 0, .slice none 0 0, .slice none 0 0] 26)).heap.size (w1.alloc (.cells #[.int .i64 0, .int .i64 0, .slice none 0 0, .slice none 0 0] 26)) w5) := Lib.hid (by first | exact hb5 | exact ⟨hb5.os, hb5.tape, hb5.output, hb5.size, hb5.block⟩); have HB5 : Hid (Below w1.heap.size w1 w5) := Lib.hid (below_chain (below_a1 w1 _) HB6.out); have ZN5 := Lib.hid (ZN.out.below HB6.out); have QN5 := Lib.hid (QN.out.below HB6.out); obtain ⟨⟨k0, y00, y01, y02, y03⟩, gr0⟩ := G0.out.below HB5.out; clear gr0; obtain ⟨⟨m0, z00, z01, z02, z03⟩, hr0⟩ := ZN5.out; have hr00 := hr0 0; have hr01 := hr0 1; have hr02 := hr0 2; have hr03 := hr0 3; clear hr0; have YY := Lib.hid ((G0.out.below HB5.out).far4 (p := w1.heap.size) (by omega) (.int .i64 r.room) (.int .i64 r.fuse) (.slice A5 es5.length c5) (.slice none 0 0))))
        · go_wp2_with fail
          go_meet
          exact ⟨w5.heap.size, A5, c5, es5, rfl, Lib.hid (FBox.new w5 _ _ _ _ _), Lib.hid (QBox.new w5 _ _ _ _ _ (quiet_int _) (quiet_int _) (quiet_sl _ _ _) (quiet_sl _ _ _)), by have := HB5.out.size; omega, Lib.hid (hs5.below (below_a1 w5 _)), Lib.hid hf5, Lib.hid (below_chain (below_chain HB1.out HB5.out) (below_a1 w5 _)), Lib.hid ((G1.out.below HB5.out).alloc _), Lib.hid ((Z2.out.below HB5.out).below (below_a1 w5 _))⟩
        · go_wp2_with fail
          go_meet
          exact ⟨w1.heap.size, A5, c5, es5, rfl, Lib.hid (ZN5.out.out4 _ _ _ _), Lib.hid (QN5.out.out4 (quiet_int _) (quiet_int _) (quiet_sl _ _ _) (quiet_sl _ _ _)), l1, Lib.hid (hs5.off QN5.out (OffB.out4 w5 _ _ _ _ _)), Lib.hid hf5, Lib.hid (below_out4 (below_chain HB1.out HB5.out) (by omega) _ _ _ _), Lib.hid ((G1.out.below HB5.out).far4 (by omega) _ _ _ _), Lib.hid ((Z2.out.below HB5.out).offB (OffB.out4 w5 _ _ _ _ _) (by omega))⟩
      case rest =>
        obtain ⟨p, A5, c5, es5, rfl, hx, hq, hp, hsl, hfs, hbel, hx1, hq1⟩ := hcut
        clear l0 x00 x01 x02 x03 l1 x10 x11 x12 x13 fr10 fr11 fr12 fr13
        obtain ⟨⟨l0, x00, x01, x02, x03⟩, fr0⟩ := hx.out
        obtain ⟨⟨l1, x10, x11, x12, x13⟩, fr1⟩ := hx1.out
        have fr01 := fr0 1
        have fr10 := fr1 0
        have fr11 := fr1 1
        have fr12 := fr1 2
        have fr13 := fr1 3
        clear fr0 fr1
        by_cases hpos : 0 < r.fuse
        · have hb : burnF r.fuse = r.fuse - 1 := by unfold burnF; rw [if_pos hpos]
          have HBU := Lib.hid hb
          have hxx := (hx1.out.far (p := ⟨p, 1, none⟩) (by show w.heap.size + 1 ≠ p; omega) (.int .i64 (r.fuse - 1)))
          have HXX := Lib.hid hxx
          clear hb hxx
          go_wp2
          refine bodyPost_ret (v := .tuple #[.agg #[.int .i64 r.room, .int .i64 (r.fuse - 1), .slice A5 es5.length c5, .slice none 0 0], .int .i64 0]) (by simp [results, Try.results72, go_sem, HXX.out.box.c0, HXX.out.box.c1, HXX.out.box.c2, HXX.out.box.c3]) rfl ?_
          rw [HE2.out, HBU.out]
          have hq3 := hq1.out.offB (OffB.one wc p 1 (.int .i64 (r.fuse - 1))) (by omega)
          exact ⟨A5, es5.length, c5, none, 0, 0, es5, [], rfl, hfs.out, rfl, (hsl.out.off hq.out (OffB.one wc p 1 _)).off hq3 (OffB.out4 _ _ _ _ _ _), SlO.nil, Nat.le_refl _, below_out4 (hbel.out.setCell (p := ⟨p, 1, none⟩) (by show w.heap.size ≤ p; omega) _) (by omega) _ _ _ _⟩
        · have hb : burnF r.fuse = r.fuse := by unfold burnF; rw [if_neg hpos]
          have HBU := Lib.hid hb
          clear hb
          go_wp2
          refine bodyPost_ret (v := .tuple #[.agg #[.int .i64 r.room, .int .i64 r.fuse, .slice A5 es5.length c5, .slice none 0 0], .int .i64 0]) (by simp [results, Try.results72, go_sem, x10, x11, x12, x13]) rfl ?_
          rw [HE2.out, HBU.out]
          exact ⟨A5, es5.length, c5, none, 0, 0, es5, [], rfl, hfs.out, rfl, hsl.out.off hq1.out (OffB.out4 _ _ _ _ _ _), SlO.nil, Nat.le_refl _, below_out4 hbel.out (by omega) _ _ _ _⟩
end Go.Proofs.Ytejibpajjoaldaa
