/- The contract of the program's function that replays what waits; whether a disk is valid. -/
import Derived.Test.YtfcomnpoehpgiaaFiles
namespace Go.Proofs.Ytfcomnpoehpgiaa
open Go.RowKit Go.Maps

/-- What the replay leaves: the visible files in a map of the call's own, or none. -/
def Vis (w : World) : Option (List FileD) → Ending → World → Prop
  | none, e, w' => e = .returned (.tuple #[.map none, .bool false]) ∧ Below w.heap.size w w'
  | some l, e, w' => ∃ mb es, e = .returned (.tuple #[.map (some mb), .bool true]) ∧ es.map Ent.file = l ∧ MapIs w' w.heap.size mb es ∧ Below w.heap.size w w'

theorem limB_I {room fuse : Int} {n m : Nat} {es : List Ent} {os : List OpE} (h1 : es.length = n) (h2 : os.length = m) : limB (ddOf room fuse es os) = limI room fuse n m := by
  simp only [limB, limI, ddOf, List.length_map, h1, h2]
theorem okD_none_lim {d : DD} (h : limB d = false) : okD d = none := by unfold okD; rw [h]; rfl
theorem okD_none_names {d : DD} (h : namesFrom none d.fs = false) : okD d = none := by unfold okD; rw [h]; simp
theorem okD_none_tot {d : DD} (h : ¬ (totF d.fs : Int) ≤ d.room) : okD d = none := by unfold okD; simp [h]
theorem okD_vis' {d : DD} (h1 : limB d = true) (h2 : namesFrom none d.fs = true) (h3 : (totF d.fs : Int) ≤ d.room) : okD d = visF d.room d.fs d.ops := by
  unfold okD
  rw [h1, h2]
  simp [h3]
theorem limI_iff {room fuse : Int} {n m : Nat} (h : limI room fuse n m = true) : 0 ≤ room ∧ room ≤ 200000 ∧ -1 ≤ fuse ∧ fuse ≤ 2000 ∧ n ≤ 12 ∧ m ≤ 60 := by
  unfold limI at h
  simpa using h
theorem MapIs.mono {w : World} {lo lo' mb : Nat} {es : List Ent} (h : MapIs w lo mb es) (hl : lo' ≤ lo) : MapIs w lo' mb es :=
  ⟨h.own, Nat.le_trans hl h.base, h.ok, fun e he hc => own_mono (h.room e he hc) hl, h.apart⟩
theorem MapIs.bound {w : World} {lo mb : Nat} {es : List Ent} (h : MapIs w lo mb es) {k : Nat} (ht : totF (es.map Ent.file) ≤ k) : ∀ e ∈ es, e.d.n ≤ k := fun e he => by
  have := bulkE he (h.ok e he)
  omega

set_option maxRecDepth 10000 in
set_option maxHeartbeats 8000000 in
theorem implVis (room fuse : Int) (A : Option Addr) (n c : Nat) (B : Option Addr) (m d : Nat) (es : List Ent) (os : List OpE) (w : World) (hf : SlF w A n es) (ho : SlO w B m os) (hM : Modest n m es os) :
    Calls Try.prog 60 #[.agg #[.int .i64 room, .int .i64 fuse, .slice A n c, .slice B m d]] w (Vis w (okD (ddOf room fuse es os))) := by
  have HF := Lib.hid hf
  have HO := Lib.hid ho
  have HM := Lib.hid hM
  have hlim := limB_I (room := room) (fuse := fuse) hf.len ho.len
  have CL := Lib.hid (fun W => implLim room fuse A n c B m d W hM.fl hM.ol)
  have B0 := Lib.hid (Box4.new w (.int .i64 room) (.int .i64 fuse) (.slice A n c) (.slice B m d) 26)
  by_cases h1 : limI room fuse n m = true
  · rw [h1] at CL hlim
    obtain ⟨r0, r1, f0, f1, n12, m60⟩ := limI_iff h1
    have CN := Lib.hid (fun W (h : Below w.heap.size w W) => implNames A n c es W (HF.out.below h) hM.fl (fun e he => (hM.fe e he).1))
    by_cases h2 : namesFrom none (es.map Ent.file) = true
    · rw [h2] at CN
      have CF := Lib.hid (fun W (h : Below w.heap.size w W) => implFiles A n c es W (HF.out.below h) hM.fl (fun e he => (hM.fe e he).1) (namesFrom_rises h2).1)
      have htot : totF (es.map Ent.file) ≤ 1048576 := by rw [← totE_file es hf.each]; exact hM.ft
      have CT := Lib.hid (fun W lo mb es1 (h : MapIs W lo mb es1) (hm : es1.map Ent.file = es.map Ent.file) => implTotal lo mb es1 W h (by rw [h.tot, hm]; omega))
      by_cases h3 : (totF (es.map Ent.file) : Int) ≤ room
      · have HV : Hid (okD (ddOf room fuse es os) = visF room (es.map Ent.file) (os.map OpE.op)) := Lib.hid (okD_vis' hlim h2 h3)
        have H3 := Lib.hid h3
        have hl12 : es.length ≤ 12 := by rw [hf.len]; exact n12
        have H12 := Lib.hid hl12
        clear hf ho hM hlim h1 h2 h3 hl12
        go_enter Try.func60, Try.ntmps60
        go_wp2_with fail
        refine (CL.out _).mono ?_
        rintro e w1 ⟨rfl, hb1⟩
        have B1 := Lib.hid (B0.out.below hb1)
        have HB1 := Lib.hid (below_chain (below_a1 w _) hb1)
        obtain ⟨lb, x0, x1, x2, x3⟩ := B1.out
        clear hb1
        go_wp2_with fail
        refine (CN.out _ HB1.out).mono ?_
        rintro e w2 ⟨rfl, hb2⟩
        have B2 := Lib.hid (B1.out.below hb2)
        have HB2 := Lib.hid (below_chain HB1.out hb2)
        clear lb x0 x1 x2 x3 hb2
        obtain ⟨lb, x0, x1, x2, x3⟩ := B2.out
        go_wp2_with fail
        refine (CF.out _ HB2.out).mono ?_
        rintro e w3 ⟨mb, es1, rfl, hf1, hm1, hb3⟩
        have B3 := Lib.hid (B2.out.below hb3)
        have HB3 := Lib.hid (below_chain HB2.out hb3)
        have M3 := Lib.hid hm1
        have HF1 := Lib.hid hf1
        have hlo : w.heap.size < w2.heap.size := lb
        have hE : totE es1 = totF (es.map Ent.file) := by rw [hm1.tot, hf1]
        have CT3 := Lib.hid (fun W (h : MapIs W w2.heap.size mb es1) => CT.out W w2.heap.size mb es1 h hf1)
        rw [hE] at CT3
        have dt : decide (room < (totF (es.map Ent.file) : Int)) = false := by simp; exact H3.out
        have ht9 : totF (es.map Ent.file) ≤ 1048576 := htot
        obtain ⟨tt, htt⟩ : ∃ tt, tt = totF (es.map Ent.file) := ⟨_, rfl⟩
        rw [← htt] at CT3 dt ht9
        have HTT := Lib.hid htt
        clear lb x0 x1 x2 x3 hb3 hm1 hf1 hE htt
        obtain ⟨lb, x0, x1, x2, x3⟩ := B3.out
        go_wp2
        go_region_held3 (fun W => W.cell? ⟨w.heap.size, 0, none⟩ = some (.int .i64 room))
          (first
            | go_keep
            | (exact (hb5.cell (p := ⟨w.heap.size, 0, none⟩) lb).trans (by first | exact x0 | simp [*])))
          (first
            | (go_at_call 64; ((with_reducible refine (CT3.out _ (by first | exact M3.out | exact M3.out.drew)).mono ?_)); rintro e1 w5 ⟨rfl, hb5⟩))
        all_goals
          have M5 := Lib.hid (MapIs.below (w := w3.drew) M3.out.drew hb5)
          have B5 := Lib.hid (B3.out.keep hb5.size (hb5.block _ B3.out.lt))
          have HB5 : Hid (Below w.heap.size w w5) := Lib.hid (below_chain HB3.out.drew hb5)
          clear hb5
          clear lb x0 x1 x2 x3
          obtain ⟨lb, x0, x1, x2, x3⟩ := B5.out
          go_wp2
          go_loopw [27] (fun i wr => ∃ (k : Nat) (es2 : List Ent), k ≤ m ∧ i = .int .i64 k ∧ es2.length ≤ 12 ∧ Hid (MapIs wr w2.heap.size mb es2) ∧ Hid (visF room (es.map Ent.file) (os.map OpE.op) = visF room (es2.map Ent.file) ((os.map OpE.op).drop k)) ∧ Hid ((totF (es2.map Ent.file) : Int) ≤ room) ∧ Hid (Box4 wr w.heap.size (.int .i64 room) (.int .i64 fuse) (.slice A n c) (.slice B m d)) ∧ Hid (Below w.heap.size w wr)) (fun i _ => m - (intOf i).toNat)
          case atStart => exact ⟨0, es1, Nat.zero_le _, rfl, by have := congrArg List.length HF1.out; rw [List.length_map, List.length_map] at this; have := H12.out; omega, M5, Lib.hid (by rw [HF1.out]; rfl), Lib.hid (by rw [HF1.out]; exact H3.out), B5, HB5⟩
          case round =>
            obtain ⟨k, es2, hk, rfl, hl12, hm, hvis, htt2, hbx, hbel⟩ := hrel
            clear lb x0 x1 x2 x3
            obtain ⟨lb, x0, x1, x2, x3⟩ := hbx.out
            by_cases hlt : k < m
            · obtain ⟨b, off, o, hB, hbw, he, hok, c0, c1', c2, c3⟩ := HO.out.at_ hlt
              subst hB
              have c0 := (hbel.out.cell (p := ⟨b, off + k * 4, none⟩) hbw).trans c0
              have c1' := (hbel.out.cell (p := ⟨b, off + k * 4 + 1, none⟩) hbw).trans c1'
              have c2 := (hbel.out.cell (p := ⟨b, off + k * 4 + 2, none⟩) hbw).trans c2
              have c3 := (hbel.out.cell (p := ⟨b, off + k * 4 + 3, none⟩) hbw).trans c3
              have hos := HM.out.oe o (List.mem_of_getElem? he.out)
              have hoe : (os.map OpE.op)[k]? = some o.op := by rw [List.getElem?_map, he.out]; rfl
              have hst := visF_at (room := room) (l := es2.map Ent.file) hoe
              have hxl : o.d.xs.length = o.d.n := hok.out.rd.len
              have hoo : opOkF o.op = opOkB o.kind o.nm o.to o.d.n := by unfold opOkF; simp only [OpE.op, hxl]
              have CO := Lib.hid (fun W => implOpOk o.kind o.nm o.to o.d.A o.d.n o.d.c W (by omega) (by omega) (by omega))
              have BO := Lib.hid (Box4.new wr (.int .i64 o.kind) (.string o.nm) (.string o.to) (.slice o.d.A o.d.n o.d.c) 30)
              have BD := Lib.hid (hbx.out.alloc (.cells #[.int .i64 o.kind, .string o.nm, .string o.to, .slice o.d.A o.d.n o.d.c] 30))
              have BE := Lib.hid (hbel.out.alloc hbel.out.size (.cells #[.int .i64 o.kind, .string o.nm, .string o.to, .slice o.d.A o.d.n o.d.c] 30))
              have MA := Lib.hid (hm.out.below (below_a1 wr (.cells #[.int .i64 o.kind, .string o.nm, .string o.to, .slice o.d.A o.d.n o.d.c] 30)))
              by_cases hop : opOkB o.kind o.nm o.to o.d.n = true
              · rw [hop] at CO
                have hopF : opOkF o.op = true := by rw [hoo]; exact hop
                have hbd := opOkF_bounds hopF
                have CA := Lib.hid (fun W (h : MapIs W w2.heap.size mb es2) => implApp w2.heap.size mb es2 o W h (by omega) (by omega))
                by_cases hfit : fitsF (es2.map Ent.file) o.op = true
                · rw [hfit] at CA
                  have hk4 : 1 ≤ o.kind ∧ o.kind ≤ 4 := by
                    have h7 : o.kind = 1 ∨ o.kind = 2 ∨ o.kind = 3 ∨ o.kind = 4 := hbd.1
                    omega
                  have CM : Hid (∀ W, MapIs W w2.heap.size mb es2 → o.d.Ok W → Calls Try.prog 70 #[.map (some mb), .agg #[.int .i64 o.kind, .string o.nm, .string o.to, .slice o.d.A o.d.n o.d.c]] W (Applied W w2.heap.size mb (makeF (es2.map Ent.file) o.op))) := Lib.hid (fun W h hd => implApply w2.heap.size mb es2 o W h (by omega) (by omega) (by omega) hd (by omega) (h.bound (by have := htt2.out; omega)) hk4.1 hk4.2 hfit)
                  have hml := make_len hfit (by rw [List.length_map]; exact hl12)
                  have hmt := make_tot (es2.map Ent.file) o.op
                  have hmt2 : totF (makeF (es2.map Ent.file) o.op) ≤ 1000000 := by
                    have := htt2.out
                    have h8 : o.op.2.2.2.length ≤ 200000 := hbd.2
                    omega
                  have CB2 := Lib.hid (fun W es4 (h : MapIs W w2.heap.size mb es4) (hq : es4.map Ent.file = makeF (es2.map Ent.file) o.op) => implTotal w2.heap.size mb es4 W h (by rw [h.tot, hq]; omega))
                  have HCASE : Hid ((Hid ((totF (makeF (es2.map Ent.file) o.op) : Int) ≤ room) ∧ Hid (visF room (es.map Ent.file) (os.map OpE.op) = visF room (makeF (es2.map Ent.file) o.op) ((os.map OpE.op).drop (k + 1)))) ∨ (Hid (¬ (totF (makeF (es2.map Ent.file) o.op) : Int) ≤ room) ∧ Hid (visF room (es.map Ent.file) (os.map OpE.op) = none))) := Lib.hid (by
                    by_cases hroom : (totF (makeF (es2.map Ent.file) o.op) : Int) ≤ room
                    · exact .inl ⟨Lib.hid hroom, Lib.hid (by rw [hvis.out, hst, hopF, hfit]; simp [hroom])⟩
                    · exact .inr ⟨Lib.hid hroom, Lib.hid (by rw [hvis.out, hst, hopF, hfit]; simp [hroom])⟩)
                  clear hst hoe hoo hop hopF hfit hxl hbd hmt hk4
                  go_wp2_with fail
                  refine (CO.out _).mono ?_
                  rintro e1 w6 ⟨rfl, hb6⟩
                  have BO6 := Lib.hid (BO.out.below hb6)
                  have BD6 := Lib.hid (BD.out.below hb6)
                  have BE6 := Lib.hid (below_chain BE.out hb6)
                  have M6 := Lib.hid (MA.out.below hb6)
                  obtain ⟨z, z0, z1, z2, z3⟩ := BO6.out
                  clear hb6
                  go_wp2_with fail
                  refine (CA.out _ M6.out).mono ?_
                  rintro e1 w7 ⟨rfl, hb7⟩
                  have BO7 := Lib.hid (BO6.out.below hb7)
                  have BD7 := Lib.hid (BD6.out.below hb7)
                  have BE7 := Lib.hid (below_chain BE6.out hb7)
                  have M7 := Lib.hid (M6.out.below hb7)
                  clear hb7 z z0 z1 z2 z3
                  obtain ⟨z, z0, z1, z2, z3⟩ := BO7.out
                  go_wp2_with fail
                  refine (CM.out _ M7.out (hok.out.below BE7.out)).mono ?_
                  rintro e1 w8 ⟨es4, rfl, hf4, hm4, hb8⟩
                  have hsz8 : w2.heap.size ≤ w7.heap.size := Nat.le_trans M7.out.base (Nat.le_of_lt M7.out.lt)
                  have BD8 := Lib.hid (BD7.out.keep hb8.size (hb8.block _ hlo))
                  have BE8 : Hid (Below w.heap.size w w8) := Lib.hid (BE7.out.trans (hb8.mono (Nat.le_of_lt hlo)))
                  have M8 := Lib.hid hm4
                  have HF4 := Lib.hid hf4
                  have hl4 : es4.length ≤ 12 := by have := congrArg List.length hf4; rw [List.length_map] at this; omega
                  have htE : totE es4 = totF (makeF (es2.map Ent.file) o.op) := by rw [hm4.tot, hf4]
                  have CB3 := Lib.hid (fun W (h : MapIs W w2.heap.size mb es4) => CB2.out W es4 h hf4)
                  rw [htE] at CB3
                  clear hb8 hm4 hf4 htE z z0 z1 z2 z3 CB2
                  clear lb x0 x1 x2 x3
                  obtain ⟨t, t0, t1, t2, t3⟩ := BD8.out
                  rcases HCASE.out with ⟨hroom, hvis2⟩ | ⟨hroom, hvis2⟩
                  · have dt2 : decide (room < (totF (makeF (es2.map Ent.file) o.op) : Int)) = false := by simp; exact hroom.out
                    generalize hgen : totF (makeF (es2.map Ent.file) o.op) = t9 at CB3 dt2 hmt2
                    have HG9 := Lib.hid hgen
                    clear hgen
                    go_wp2
                    go_region_held3 (fun W => W.cell? ⟨w.heap.size, 0, none⟩ = some (.int .i64 room))
                      (first
                        | go_keep
                        | (exact (hb9.cell (p := ⟨w.heap.size, 0, none⟩) t).trans (by first | exact t0 | simp [*])))
                      (first
                        | (go_at_call 64; ((with_reducible refine (CB3.out _ (by first | exact M8.out | exact M8.out.drew)).mono ?_)); rintro e1 w9 ⟨rfl, hb9⟩))
                    all_goals
                      go_wp2
                      go_roundw
                      case rel => exact ⟨k + 1, es4, by omega, by go_num, hl4, Lib.hid (MapIs.below (w := w8.drew) M8.out.drew hb9), Lib.hid (by rw [HF4.out]; exact hvis2.out), Lib.hid (by rw [HF4.out]; exact hroom.out), Lib.hid (BD8.out.keep hb9.size (hb9.block _ BD8.out.lt)), Lib.hid (below_chain BE8.out.drew hb9)⟩
                      case measure => simp [intOf]; omega
                  · have dt2 : decide (room < (totF (makeF (es2.map Ent.file) o.op) : Int)) = true := by have := hroom.out; simp; omega
                    generalize hgen : totF (makeF (es2.map Ent.file) o.op) = t9 at CB3 dt2 hmt2
                    clear hgen
                    go_wp2
                    go_region_held3 (fun W => W.cell? ⟨w.heap.size, 0, none⟩ = some (.int .i64 room))
                      (first
                        | go_keep
                        | (exact (hb9.cell (p := ⟨w.heap.size, 0, none⟩) t).trans (by first | exact t0 | simp [*])))
                      (first
                        | (go_at_call 64; ((with_reducible refine (CB3.out _ (by first | exact M8.out | exact M8.out.drew)).mono ?_)); rintro e1 w9 ⟨rfl, hb9⟩))
                    all_goals
                      go_wp2
                      go_ret2
                      rw [HV.out, hvis2.out]
                      exact ⟨rfl, below_chain BE8.out.drew hb9⟩
                · have hff : fitsF (es2.map Ent.file) o.op = false := by simpa using hfit
                  rw [hff] at CA
                  have hans : Hid (visF room (es.map Ent.file) (os.map OpE.op) = none) := Lib.hid (by rw [hvis.out, hst, hff]; simp)
                  clear hst hoe hoo hop hopF hfit hff hxl hbd
                  go_wp2_with fail
                  refine (CO.out _).mono ?_
                  rintro e1 w6 ⟨rfl, hb6⟩
                  have BE6 := Lib.hid (below_chain BE.out hb6)
                  have M6 := Lib.hid (MA.out.below hb6)
                  obtain ⟨z, z0, z1, z2, z3⟩ := BO.out.below hb6
                  clear hb6
                  go_wp2_with fail
                  refine (CA.out _ M6.out).mono ?_
                  rintro e1 w7 ⟨rfl, hb7⟩
                  go_wp2
                  go_ret2
                  rw [HV.out, hans.out]
                  exact ⟨rfl, below_chain BE6.out hb7⟩
              · have hof : opOkB o.kind o.nm o.to o.d.n = false := by simpa using hop
                rw [hof] at CO
                have hans : Hid (visF room (es.map Ent.file) (os.map OpE.op) = none) := Lib.hid (by rw [hvis.out, hst, hoo, hof]; simp)
                clear hst hoe hoo hop hof hxl
                go_wp2_with fail
                refine (CO.out _).mono ?_
                rintro e1 w6 ⟨rfl, hb6⟩
                go_wp2
                go_ret2
                rw [HV.out, hans.out]
                exact ⟨rfl, below_chain BE.out hb6⟩
            · have hans : Hid (visF room (es.map Ent.file) (os.map OpE.op) = some (es2.map Ent.file)) := Lib.hid (by
                rw [hvis.out, List.drop_eq_nil_of_le (by rw [List.length_map, HO.out.len]; omega)]
                rfl)
              go_wp2
              go_ret2
              rw [HV.out, hans.out]
              exact ⟨mb, es2, rfl, rfl, hm.out.mono (Nat.le_of_lt hlo), hbel.out⟩
      · have HV : Hid (okD (ddOf room fuse es os) = none) := Lib.hid (okD_none_tot h3)
        have H3 := Lib.hid h3
        clear hf ho hM hlim h1 h2 h3
        go_enter Try.func60, Try.ntmps60
        go_wp2_with fail
        refine (CL.out _).mono ?_
        rintro e w1 ⟨rfl, hb1⟩
        have B1 := Lib.hid (B0.out.below hb1)
        have HB1 := Lib.hid (below_chain (below_a1 w _) hb1)
        obtain ⟨lb, x0, x1, x2, x3⟩ := B1.out
        clear hb1
        go_wp2_with fail
        refine (CN.out _ HB1.out).mono ?_
        rintro e w2 ⟨rfl, hb2⟩
        have B2 := Lib.hid (B1.out.below hb2)
        have HB2 := Lib.hid (below_chain HB1.out hb2)
        clear lb x0 x1 x2 x3 hb2
        obtain ⟨lb, x0, x1, x2, x3⟩ := B2.out
        go_wp2_with fail
        refine (CF.out _ HB2.out).mono ?_
        rintro e w3 ⟨mb, es1, rfl, hf1, hm1, hb3⟩
        have B3 := Lib.hid (B2.out.below hb3)
        have HB3 := Lib.hid (below_chain HB2.out hb3)
        have M3 := Lib.hid hm1
        have hE : totE es1 = totF (es.map Ent.file) := by rw [hm1.tot, hf1]
        have CT3 := Lib.hid (fun W (h : MapIs W w2.heap.size mb es1) => CT.out W w2.heap.size mb es1 h hf1)
        rw [hE] at CT3
        have dt : decide (room < (totF (es.map Ent.file) : Int)) = true := by have := H3.out; simp; omega
        generalize totF (es.map Ent.file) = tt at CT3 dt htot
        clear lb x0 x1 x2 x3 hb3 hm1 hf1 hE
        obtain ⟨lb, x0, x1, x2, x3⟩ := B3.out
        go_wp2
        go_region_held3 (fun W => W.cell? ⟨w.heap.size, 0, none⟩ = some (.int .i64 room))
          (first
            | go_keep
            | (exact (hb5.cell (p := ⟨w.heap.size, 0, none⟩) lb).trans (by first | exact x0 | simp [*])))
          (first
            | (go_at_call 64; ((with_reducible refine (CT3.out _ (by first | exact M3.out | exact M3.out.drew)).mono ?_)); rintro e1 w5 ⟨rfl, hb5⟩))
        all_goals
          go_wp2
          go_ret2
          rw [HV.out]
          exact ⟨rfl, below_chain HB3.out.drew hb5⟩
    · have h2f : namesFrom none (es.map Ent.file) = false := by simpa using h2
      rw [h2f] at CN
      have HV : Hid (okD (ddOf room fuse es os) = none) := Lib.hid (okD_none_names h2f)
      clear hf ho hM hlim h1 h2 h2f
      go_enter Try.func60, Try.ntmps60
      go_wp2_with fail
      refine (CL.out _).mono ?_
      rintro e w1 ⟨rfl, hb1⟩
      have HB1 := Lib.hid (below_chain (below_a1 w _) hb1)
      obtain ⟨lb, x0, x1, x2, x3⟩ := B0.out.below hb1
      clear hb1
      go_wp2_with fail
      refine (CN.out _ HB1.out).mono ?_
      rintro e w2 ⟨rfl, hb2⟩
      go_wp2
      go_ret2
      rw [HV.out]
      exact ⟨rfl, below_chain HB1.out hb2⟩
  · have h1f : limI room fuse n m = false := by simpa using h1
    rw [h1f] at CL hlim
    have HV : Hid (okD (ddOf room fuse es os) = none) := Lib.hid (okD_none_lim hlim)
    clear hf ho hM hlim h1 h1f
    go_enter Try.func60, Try.ntmps60
    go_wp2_with fail
    refine (CL.out _).mono ?_
    rintro e w1 ⟨rfl, hb1⟩
    go_wp2
    go_ret2
    rw [HV.out]
    exact ⟨rfl, below_chain (below_a1 w _) hb1⟩

set_option maxHeartbeats 1000000 in
theorem implOk (room fuse : Int) (A : Option Addr) (n c : Nat) (B : Option Addr) (m d : Nat) (es : List Ent) (os : List OpE) (w : World) (hf : SlF w A n es) (ho : SlO w B m os) (hM : Modest n m es os) :
    Calls Try.prog 19 #[.agg #[.int .i64 room, .int .i64 fuse, .slice A n c, .slice B m d]] w (Tells w (DD.ok (ddOf room fuse es os))) := by
  have C := Lib.hid (fun o => implVis room fuse A n c B m d es os (w.alloc o) (hf.below (below_a1 w o)) (ho.below (below_a1 w o)) hM)
  have HV : Hid (DD.ok (ddOf room fuse es os) = (okD (ddOf room fuse es os)).isSome) := Lib.hid rfl
  clear hf ho hM
  cases hv : okD (ddOf room fuse es os) with
  | none =>
    rw [hv] at C HV
    clear hv
    go_enter Try.func19, Try.ntmps19
    go_wp2_with fail
    refine (C.out _).mono ?_
    rintro e w1 ⟨rfl, hb1⟩
    go_wp2
    go_ret
    exact ⟨ret_bool HV.out.symm, below_chain (below_a1 w _) hb1⟩
  | some l =>
    rw [hv] at C HV
    clear hv
    go_enter Try.func19, Try.ntmps19
    go_wp2_with fail
    refine (C.out _).mono ?_
    rintro e w1 ⟨mb, es1, rfl, hf1, hm1, hb1⟩
    go_wp2
    go_ret
    exact ⟨ret_bool HV.out.symm, below_chain (below_a1 w _) hb1⟩
end Go.Proofs.Ytfcomnpoehpgiaa
