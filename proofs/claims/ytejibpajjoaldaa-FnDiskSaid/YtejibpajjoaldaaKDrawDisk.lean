/- The contract of the model's function that draws a disk by operations on a new one. -/
import Derived.Test.YtejibpajjoaldaaKDrawD
import Derived.Deep.RegionLaw
namespace Go.Proofs.Ytejibpajjoaldaa
open Go.RowKit Go.Maps

def DiskDraw (w : World) (g : Nat) (A0 : Option Addr) (n0 c0 : Nat) (xs : List Nat) (e : Ending) (w' : World) : Prop :=
  ∃ (r : DD) (A : Option Addr) (n c : Nat) (B : Option Addr) (m d : Nat) (es : List Ent) (os : List OpE), Nice r ∧ e = .returned (.agg #[.int .i64 r.room, .int .i64 r.fuse, .slice A n c, .slice B m d]) ∧ es.map Ent.file = r.fs ∧ os.map OpE.op = r.ops ∧ SlF w' A n es ∧ SlO w' B m os ∧ m ≤ d ∧ Cur w' g A0 n0 c0 xs ∧ w.grownBy w' (some g)

theorem op_sizes {o : OpE} (h : o.nm ∈ drawnNames ∧ (o.to = ByteArray.empty ∨ o.to ∈ drawnNames)) (hn : o.d.n ≤ 8) : o.nm.size ≤ 12 ∧ o.to.size ≤ 12 ∧ o.d.n ≤ 8 :=
  ⟨drawn_size h.1, h.2.elim (fun e => by rw [e]; decide) drawn_size, hn⟩

theorem DSt.answer {w wr : World} {g n0 c0 p n c m d : Nat} {A0 A B : Option Addr} {xs : List Nat} {r : DD} {es : List Ent} {os : List OpE} (h : DSt w wr g A0 n0 c0 xs p r A n c B m d es os) :
    DiskDraw w g A0 n0 c0 xs (.returned (.agg #[.int .i64 r.room, .int .i64 r.fuse, .slice A n c, .slice B m d])) ((((wr.setCell ⟨w.heap.size, 0, none⟩ (.int .i64 r.room)).setCell ⟨w.heap.size, 1, none⟩ (.int .i64 r.fuse)).setCell ⟨w.heap.size, 2, none⟩ (.slice A n c)).setCell ⟨w.heap.size, 3, none⟩ (.slice B m d)) := by
  have hq := h.res.quiet (quiet_int _) (quiet_int _) (quiet_sl _ _ _) (quiet_sl _ _ _)
  have ho := OffG.set4 wr w.heap.size (.int .i64 r.room) (.int .i64 r.fuse) (.slice A n c) (.slice B m d)
  refine ⟨r, A, n, c, B, m, d, es, os, h.nice, rfl, h.hf, h.ho, h.f.offG hq ho, h.o.offG hq ho, h.cap, ?_, ?_⟩
  · exact (((h.cu.put h.lg (Nat.le_refl _) h.hA 0 _).put h.lg (Nat.le_refl _) h.hA 1 _).put h.lg (Nat.le_refl _) h.hA 2 _).put h.lg (Nat.le_refl _) h.hA 3 _
  · exact grown_put (grown_put (grown_put (grown_put h.gr (Nat.le_refl _) 0 _) (Nat.le_refl _) 1 _) (Nat.le_refl _) 2 _) (Nat.le_refl _) 3 _

set_option maxRecDepth 10000 in
set_option maxHeartbeats 8000000 in
theorem drawDisk (g : Nat) (A0 : Option Addr) (n0 c0 : Nat) (xs : List Nat) (w : World) (hcur : Cur w g A0 n0 c0 xs) (hg : g < w.heap.size) (hA : 0 < n0 → ∀ b off sp, A0 = some ⟨b, off, sp⟩ → b < w.heap.size) :
    Calls Try.prog 39 #[.pointer (some ⟨g, 0, none⟩), .int .i64 16] w (DiskDraw w g A0 n0 c0 xs) := by
  have CB := Lib.hid (fun m W (hc : Cur W g A0 n0 c0 xs) (h0 : 0 < m) (hm : m ≤ 256) => drawBelow g A0 n0 c0 m xs W hc h0 hm)
  have CN := Lib.hid (fun W (hc : Cur W g A0 n0 c0 xs) (h : w.heap.size ≤ W.heap.size) => drawName g A0 n0 c0 xs W hc (by omega))
  have CO := Lib.hid (fun W (hc : Cur W g A0 n0 c0 xs) (h : w.heap.size ≤ W.heap.size) => drawOp g A0 n0 c0 xs W hc (by omega) (fun h0 b off sp e => by have := hA h0 b off sp e; omega))
  have hb0 := below_a1 w (.cells #[.int .i64 0, .int .i64 0, .slice none 0 0, .slice none 0 0] 26)
  have H0 := Lib.hid (hcur.grow hb0)
  have R0 := Lib.hid (Blk.new w #[.int .i64 0, .int .i64 0, .slice none 0 0, .slice none 0 0] 26)
  have G0 := Lib.hid (grownBy_of_below hb0 (some g))
  have hgs := hg
  have HA := Lib.hid hA
  clear hcur hb0 hA
  go_enter Try.func39, Try.ntmps39
  go_wp2_with fail
  refine (CB.out 6 _ (H0.out.grow (below_a1 _ _)) (by omega) (by omega)).mono ?_
  rintro e w1 ⟨x, hx, rfl, hcu1, hg1⟩
  have hzs : (w.alloc (.cells #[.int .i64 0, .int .i64 0, .slice none 0 0, .slice none 0 0] 26)).heap.size = w.heap.size + 1 := by simp
  have RR := (rooms_row (w.alloc (.cells #[.int .i64 0, .int .i64 0, .slice none 0 0, .slice none 0 0] 26)) 3).other hg1 (fun b off sp e he => by injection e with e; injection e with e; injection he with he; simp at e; omega)
  rw [hzs] at RR
  obtain ⟨b, off, v, hA9, hb9, hv9, hc9⟩ := RR.at_ hx
  injection hA9 with hA9
  injection hA9 with hA1 hA2
  subst hA1
  subst hA2
  rw [Nat.zero_add] at hc9
  have hvr := room_in (List.mem_of_getElem? hv9.out)
  have H1 := Lib.hid hcu1
  have R1 := Lib.hid (blk_drawn (R0.out.alloc (.cells #[.int .i64 0, .int .i64 9, .int .i64 30, .int .i64 60, .int .i64 200, .int .i64 200000] 3)) hg1 hgs)
  have G1 := Lib.hid (grownBy_trans (grownBy_trans G0.out (grownBy_of_below (below_a1 (w.alloc (.cells #[.int .i64 0, .int .i64 0, .slice none 0 0, .slice none 0 0] 26)) (.cells #[.int .i64 0, .int .i64 9, .int .i64 30, .int .i64 60, .int .i64 200, .int .i64 200000] 3)) (some g))) hg1)
  clear hcu1 hg1 RR hv9 hb9 hzs H0 R0 G0
  go_wp2_with fail
  refine (newDisk v w1 hvr.1 hvr.2).mono ?_
  rintro e w2 ⟨rfl, hb2⟩
  have HS : Hid (DSt w (w2.alloc (.cells #[.int .i64 v, .int .i64 (-1), .slice none 0 0, .slice none 0 0] 26)) g A0 n0 c0 xs w2.heap.size ⟨v, -1, [], []⟩ none 0 0 none 0 0 [] []) := Lib.hid
    ⟨Blk.new w2 _ _, (R1.out.below hb2).alloc _, SlF.nil, SlO.nil, rfl, rfl, Nat.le_refl _, Nice.new hvr.1 hvr.2, (H1.out.grow hb2).grow (below_a1 _ _), grownBy_trans (grownBy_trans G1.out (grownBy_of_below hb2 _)) (grownBy_of_below (below_a1 _ _) _), Nat.lt_of_lt_of_le R1.out.lt hb2.size, hg, HA.out⟩
  clear hb2 H1 R1 G1 hc9 HA
  go_wp2
  go_loopw [7] (fun i wr => ∃ (k : Nat) (r : DD) (A : Option Addr) (n c : Nat) (B : Option Addr) (m d : Nat) (es : List Ent) (os : List OpE), k ≤ 2 ∧ i = .int .i64 (k : Int) ∧ Hid (DSt w wr g A0 n0 c0 xs w2.heap.size r A n c B m d es os)) (fun i _ => 2 - (intOf i).toNat)
  case atStart => exact ⟨0, _, _, _, _, _, _, _, _, _, by omega, rfl, HS⟩
  case round =>
    clear HS
    obtain ⟨k, r, A, n, c, B, m, d, es, os, hk, rfl, HS⟩ := hrel
    by_cases hk2 : k < 2
    · have CD : Hid (∀ (W : World) (nm : ByteArray), DSt w W g A0 n0 c0 xs w2.heap.size r A n c B m d es os → nm ∈ drawnNames → Calls Try.prog 11 #[.agg #[.int .i64 r.room, .int .i64 r.fuse, .slice A n c, .slice B m d], .agg #[.int .i64 1, .string nm, .string ⟨#[]⟩, .slice none 0 0]] W (SeeC W (doA r (1, nm, ⟨#[]⟩, [])).1 (.int .i64 (doA r (1, nm, ⟨#[]⟩, [])).2))) := Lib.hid (fun W nm h hn => h.do ⟨1, nm, ⟨#[]⟩, ⟨none, 0, 0, []⟩⟩ ⟨⟨rfl, (fun x hx => by cases hx), (fun (h : 0 < 0) => absurd h (Nat.lt_irrefl _))⟩, Nat.le_refl _⟩ ⟨drawn_size hn, (by decide : (⟨#[]⟩ : ByteArray).size ≤ 12), Nat.zero_le _⟩)
      have b0 := HS.out.box.cell (i := 0) rfl
      have b1 := HS.out.box.cell (i := 1) rfl
      have b2 := HS.out.box.cell (i := 2) rfl
      have b3 := HS.out.box.cell (i := 3) rfl
      have f0 := HS.out.box.frozen 0
      have f1 := HS.out.box.frozen 1
      have f2 := HS.out.box.frozen 2
      have f3 := HS.out.box.frozen 3
      have hi2 : (k : Int) < 2 := by omega
      go_wp2
      go_region_with (first
        | (go_at_call 71; (with_reducible refine (CN.out _ (by first | exact HS.out.cu | exact HS.out.drew.cu) (by first | exact HS.out.gr.size | exact HS.out.drew.gr.size)).mono ?_); rintro e1 wx ⟨nm, hnm, rfl, hcx, hgx⟩; have HS := Lib.hid (by first | exact HS.out.call hcx hgx | exact HS.out.drew.call hcx hgx); have HNM := Lib.hid hnm; clear b0 b1 b2 b3 f0 f1 f2 f3 hcx hgx hnm; have b0 := HS.out.box.cell (i := 0) rfl; have b1 := HS.out.box.cell (i := 1) rfl; have b2 := HS.out.box.cell (i := 2) rfl; have b3 := HS.out.box.cell (i := 3) rfl; have f0 := HS.out.box.frozen 0; have f1 := HS.out.box.frozen 1; have f2 := HS.out.box.frozen 2; have f3 := HS.out.box.frozen 3)
        | (go_at_call 11; (with_reducible refine (CD.out _ nm HS.out HNM.out).mono ?_); rintro e1 wz ⟨A', n', c', B', m', d', es', os', rfl, hf', ho', hsl', hso', hcap', hbz⟩; have HZ := Lib.hid (HS.out.below hbz); have HP := Lib.hid (HZ.out.put (c' := c') (HS.out.nice.doA (o := (1, nm, ⟨#[]⟩, [])) (Nat.zero_le _)) hsl' hso' hf' ho' hcap'); clear b0 b1 b2 b3 f0 f1 f2 f3 hf' ho' hsl' hso' hcap' hbz; have b0 := HZ.out.box.cell (i := 0) rfl; have b1 := HZ.out.box.cell (i := 1) rfl; have b2 := HZ.out.box.cell (i := 2) rfl; have b3 := HZ.out.box.cell (i := 3) rfl; have f0 := HZ.out.box.frozen 0; have f1 := HZ.out.box.frozen 1; have f2 := HZ.out.box.frozen 2; have f3 := HZ.out.box.frozen 3))
      all_goals
        clear CD b0 b1 b2 b3 f0 f1 f2 f3 HZ HS HNM
        go_wp2
        go_roundw
        case rel => exact ⟨k + 1, _, _, _, _, _, _, _, _, _, by omega, by go_num, HP⟩
        case measure => simp [intOf]; omega
    · obtain rfl : k = 2 := by omega
      clear CN
      go_wp2_with fail
      refine (CB.out 17 _ HS.out.cu (by omega) (by omega)).mono ?_
      rintro e w4 ⟨q, hq, rfl, hcu4, hg4⟩
      have HS := Lib.hid (HS.out.call hcu4 hg4)
      clear hcu4 hg4
      go_wp2
      go_loopw [8] (fun t wr => ∃ (j : Nat) (r : DD) (A : Option Addr) (n c : Nat) (B : Option Addr) (m d : Nat) (es : List Ent) (os : List OpE), j ≤ 16 ∧ t = .int .i64 (j : Int) ∧ Hid (DSt w wr g A0 n0 c0 xs w2.heap.size r A n c B m d es os)) (fun t _ => (intOf t).toNat)
      case atStart => exact ⟨q, _, _, _, _, _, _, _, _, _, by omega, rfl, HS⟩
      case round =>
        clear HS
        obtain ⟨j, r, A, n, c, B, m, d, es, os, hj, rfl, HS⟩ := hrel
        by_cases hj0 : 0 < j
        · obtain ⟨jj, HJJ⟩ : ∃ jj, Hid (j = jj + 1) := ⟨j - 1, Lib.hid (by omega)⟩
          go_wp2_with fail
          refine (CB.out 5 _ HS.out.cu (by omega) (by omega)).mono ?_
          rintro e w5 ⟨q5, hq5, rfl, hcu5, hg5⟩
          have HS := Lib.hid (HS.out.call hcu5 hg5)
          clear hcu5 hg5
          have b0 := HS.out.box.cell (i := 0) rfl
          have b1 := HS.out.box.cell (i := 1) rfl
          have b2 := HS.out.box.cell (i := 2) rfl
          have b3 := HS.out.box.cell (i := 3) rfl
          have f0 := HS.out.box.frozen 0
          have f1 := HS.out.box.frozen 1
          have f2 := HS.out.box.frozen 2
          have f3 := HS.out.box.frozen 3
          by_cases hq0 : q5 = 0
          · subst hq0
            have hz : (((0 : Nat) : Int) == 0) = true := rfl
            have CS := Lib.hid HS.out.sync
            go_wp2_with fail
            refine CS.out.mono ?_
            rintro e1 wz ⟨A', n', c', B', m', d', es', os', rfl, hf', ho', hsl', hso', hcap', hbz⟩
            have HZ := Lib.hid (HS.out.below hbz)
            have HP := Lib.hid (HZ.out.put (c' := c') HS.out.nice.sync hsl' hso' hf' ho' hcap')
            clear b0 b1 b2 b3 f0 f1 f2 f3 hf' ho' hsl' hso' hcap' hbz HS CS
            have b0 := HZ.out.box.cell (i := 0) rfl
            have b1 := HZ.out.box.cell (i := 1) rfl
            have b2 := HZ.out.box.cell (i := 2) rfl
            have b3 := HZ.out.box.cell (i := 3) rfl
            have f0 := HZ.out.box.frozen 0
            have f1 := HZ.out.box.frozen 1
            have f2 := HZ.out.box.frozen 2
            have f3 := HZ.out.box.frozen 3
            go_wp2
            go_roundw
            case rel => exact ⟨jj, _, _, _, _, _, _, _, _, _, by have := HJJ.out; omega, by have := HJJ.out; subst this; go_num, HP⟩
            case measure => (have := HJJ.out; simp [intOf]; omega)
          · have hz : ((q5 : Int) == 0) = false := by simp; omega
            have CD : Hid (∀ (W : World) (o : OpE), DSt w W g A0 n0 c0 xs w2.heap.size r A n c B m d es os → o.d.Ok W → (o.nm.size ≤ 12 ∧ o.to.size ≤ 12 ∧ o.d.n ≤ 8) → Calls Try.prog 11 #[.agg #[.int .i64 r.room, .int .i64 r.fuse, .slice A n c, .slice B m d], o.v] W (SeeC W (doA r o.op).1 (.int .i64 (doA r o.op).2))) := Lib.hid (fun W o h h1 h2 => h.do o h1 h2)
            go_wp2
            go_region_with (first
              | (go_at_call 41; (with_reducible refine (CO.out _ (by first | exact HS.out.cu | exact HS.out.drew.cu) (by first | exact HS.out.gr.size | exact HS.out.drew.gr.size)).mono ?_); rintro e1 wx ⟨o, rfl, hon, hod, hoo, hos, hcx, hgx⟩; have HS := Lib.hid (by first | exact HS.out.call hcx hgx | exact HS.out.drew.call hcx hgx); have HOK := Lib.hid ((OwnB.one (d := o.d) hoo hos).ok o.d (by simp)); have HOS := Lib.hid (op_sizes hon hod); clear b0 b1 b2 b3 f0 f1 f2 f3 hcx hgx hon hod hoo hos; have b0 := HS.out.box.cell (i := 0) rfl; have b1 := HS.out.box.cell (i := 1) rfl; have b2 := HS.out.box.cell (i := 2) rfl; have b3 := HS.out.box.cell (i := 3) rfl; have f0 := HS.out.box.frozen 0; have f1 := HS.out.box.frozen 1; have f2 := HS.out.box.frozen 2; have f3 := HS.out.box.frozen 3)
              | (go_at_call 11; (with_reducible refine (CD.out _ o HS.out HOK.out HOS.out).mono ?_); rintro e1 wz ⟨A', n', c', B', m', d', es', os', rfl, hf', ho', hsl', hso', hcap', hbz⟩; have HZ := Lib.hid (HS.out.below hbz); have HP := Lib.hid (HZ.out.put (c' := c') (HS.out.nice.doA (o := o.op) (by show o.d.xs.length ≤ 8; rw [HOK.out.rd.len]; exact HOS.out.2.2)) hsl' hso' hf' ho' hcap'); clear b0 b1 b2 b3 f0 f1 f2 f3 hf' ho' hsl' hso' hcap' hbz; have b0 := HZ.out.box.cell (i := 0) rfl; have b1 := HZ.out.box.cell (i := 1) rfl; have b2 := HZ.out.box.cell (i := 2) rfl; have b3 := HZ.out.box.cell (i := 3) rfl; have f0 := HZ.out.box.frozen 0; have f1 := HZ.out.box.frozen 1; have f2 := HZ.out.box.frozen 2; have f3 := HZ.out.box.frozen 3))
            all_goals
              clear CD b0 b1 b2 b3 f0 f1 f2 f3 HZ HS HOK HOS
              go_wp2
              go_roundw
              case rel => exact ⟨jj, _, _, _, _, _, _, _, _, _, by have := HJJ.out; omega, by have := HJJ.out; subst this; go_num, HP⟩
              case measure => (have := HJJ.out; simp [intOf]; omega)
        · obtain rfl : j = 0 := by omega
          go_wp2_with fail
          refine (CB.out 6 _ HS.out.cu (by omega) (by omega)).mono ?_
          rintro e w5 ⟨q5, hq5, rfl, hcu5, hg5⟩
          have HS := Lib.hid (HS.out.call hcu5 hg5)
          clear hcu5 hg5 CO
          by_cases hq0 : q5 = 0
          · subst hq0
            have hz : (((0 : Nat) : Int) == 0) = true := rfl
            go_wp2_with fail
            refine (CB.out 4 _ HS.out.cu (by omega) (by omega)).mono ?_
            rintro e w6 ⟨y, hy, rfl, hcu6, hg6⟩
            have HS := Lib.hid (HS.out.call hcu6 hg6)
            clear hcu6 hg6
            have HF := Lib.hid (HS.out.fuse (f := (y : Int)) (by omega) (by omega))
            have fb := HS.out.box.frozen 1
            have bb := HS.out.box.cell (i := 1) rfl
            have b0 := HF.out.box.cell (i := 0) rfl
            have b1 := HF.out.box.cell (i := 1) rfl
            have b2 := HF.out.box.cell (i := 2) rfl
            have b3 := HF.out.box.cell (i := 3) rfl
            have r0 := HF.out.res.cell (i := 0) rfl
            have r1 := HF.out.res.cell (i := 1) rfl
            have r2 := HF.out.res.cell (i := 2) rfl
            have r3 := HF.out.res.cell (i := 3) rfl
            have f0 := HF.out.res.frozen 0
            have f1 := HF.out.res.frozen 1
            have f2 := HF.out.res.frozen 2
            have f3 := HF.out.res.frozen 3
            have hR := HF.out.res.put4 (.int .i64 r.room) (.int .i64 (y : Int)) (.slice A n c) (.slice B m d)
            have q0 := hR.cell (i := 0) rfl
            have q1 := hR.cell (i := 1) rfl
            have q2 := hR.cell (i := 2) rfl
            have q3 := hR.cell (i := 3) rfl
            clear hR
            go_wp2
            refine bodyPost_ret (v := .agg #[.int .i64 r.room, .int .i64 (y : Int), .slice A n c, .slice B m d]) (by simp [results, Try.results39, go_sem, q0, q1, q2, q3]) rfl ?_
            exact HF.out.answer
          · have hz : ((q5 : Int) == 0) = false := by simp; omega
            have HF := Lib.hid HS.out
            have b0 := HF.out.box.cell (i := 0) rfl
            have b1 := HF.out.box.cell (i := 1) rfl
            have b2 := HF.out.box.cell (i := 2) rfl
            have b3 := HF.out.box.cell (i := 3) rfl
            have r0 := HF.out.res.cell (i := 0) rfl
            have r1 := HF.out.res.cell (i := 1) rfl
            have r2 := HF.out.res.cell (i := 2) rfl
            have r3 := HF.out.res.cell (i := 3) rfl
            have f0 := HF.out.res.frozen 0
            have f1 := HF.out.res.frozen 1
            have f2 := HF.out.res.frozen 2
            have f3 := HF.out.res.frozen 3
            have hR := HF.out.res.put4 (.int .i64 r.room) (.int .i64 r.fuse) (.slice A n c) (.slice B m d)
            have q0 := hR.cell (i := 0) rfl
            have q1 := hR.cell (i := 1) rfl
            have q2 := hR.cell (i := 2) rfl
            have q3 := hR.cell (i := 3) rfl
            clear hR
            go_wp2
            refine bodyPost_ret (v := .agg #[.int .i64 r.room, .int .i64 r.fuse, .slice A n c, .slice B m d]) (by simp [results, Try.results39, go_sem, q0, q1, q2, q3]) rfl ?_
            exact HF.out.answer
end Go.Proofs.Ytejibpajjoaldaa
