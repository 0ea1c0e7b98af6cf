/- The contract of the program's function that says what a power failure leaves. -/
import Derived.Test.YtfcomnpoehpgiaaKDiskCrash
namespace Go.Proofs.Ytfcomnpoehpgiaa
open Go.RowKit Go.Maps

theorem crash_names {r : DD} (hw : r.weight ≤ 1048576) (q k : Int) : ∀ f ∈ crashF r q k, f.1.size ≤ 1048576 := by
  intro f hf
  unfold crashF at hf
  split at hf
  · exact DD.after_names hw _ f hf
  · rename_i o ho
    have hwo := wtO_each (l := r.ops) (f := o) (List.mem_of_getElem? ho)
    have hw2 := hw
    unfold DD.weight at hw2
    split at hf
    · rcases makeF_names hf with h | h | h
      · exact DD.after_names hw _ f h
      · rw [h]; show o.2.1.size ≤ _; omega
      · rw [h]; show o.2.2.1.size ≤ _; omega
    · exact DD.after_names hw _ f hf

/-- Doing the operation at place k, in the map. -/
theorem doneAt {r : DD} (hok : r.ok = true) (hw : r.weight ≤ 1048576) {k lo mb : Nat} {es2 : List Ent} {o : OpE} (ho : r.ops[k]? = some o.op) (hf : es2.map Ent.file = r.after k) (j : Nat) (_hj : o.kind = 2 ∨ o.d.n ≤ j) (W : World) (hm : MapIs W lo mb es2) (hd : o.d.Ok W) (hjn : j ≤ o.d.n) :
    Calls Try.prog 70 #[.map (some mb), .agg #[.int .i64 o.kind, .string o.nm, .string o.to, .slice o.d.A j o.d.c]] W (Applied W lo mb (makeF (r.after k) (cutO o.op j))) := by
  obtain ⟨hop, hfit, _⟩ := DD.after_next hok ho
  have hbd := opOkF_bounds hop
  have hk4 : 1 ≤ o.kind ∧ o.kind ≤ 4 := by
    have h7 : o.kind = 1 ∨ o.kind = 2 ∨ o.kind = 3 ∨ o.kind = 4 := hbd.1
    omega
  have hg := DD.after_good hok k
  have hl := DD.ok_lim hok
  have hwo := wtO_each (l := r.ops) (f := o.op) (List.mem_of_getElem? ho)
  unfold DD.weight at hw
  have h1 : o.nm.size ≤ 1048576 := by have : o.op.2.1.size = o.nm.size := rfl; omega
  have h2 : o.to.size ≤ 1048576 := by have : o.op.2.2.1.size = o.to.size := rfl; omega
  have hxl : o.op.2.2.2.length = o.d.n := hd.rd.len
  have hlen : es2.length ≤ 12 := by have h9 := congrArg List.length hf; rw [List.length_map] at h9; omega
  have := implApply lo mb es2 (o.cut j) W hm (by omega) h1 h2 (hd.cut hjn) (by show j ≤ 16777216; omega) (fun e he => by
    have h3 := hm.bound (k := 200000) (by rw [hf]; omega) e he
    omega) hk4.1 hk4.2 (by rw [hf]; exact hfit)
  rw [hf] at this
  exact this
theorem clampMM (q : Int) (m : Nat) : min (max q 0) (m : Int) = (clampN q m : Int) := by
  unfold clampN
  split
  · omega
  · split <;> omega
theorem cutO_full (o : OpD) {j : Nat} (h : o.2.2.2.length ≤ j) : cutO o j = o := by
  unfold cutO
  rw [List.take_of_length_le h]

set_option maxRecDepth 10000 in
set_option maxHeartbeats 4000000 in
theorem implCrash (r : DD) (q k : Int) (_hq : (Lit.int .i64 q).wf = true) (_hk : (Lit.int .i64 k).wf = true) (A : Option Addr) (n c : Nat) (B : Option Addr) (m d : Nat) (es : List Ent) (os : List OpE) (w : World) (h : Meant w r A n B m es os) (hc : m ≤ d) :
    Calls Try.prog 21 #[.agg #[.int .i64 r.room, .int .i64 r.fuse, .slice A n c, .slice B m d], .int .i64 q, .int .i64 k] w (ResD w (crashD r q k) (.bool r.ok)) := by
  have C1 := Lib.hid (fun W (hb : Below w.heap.size w W) => (h.below hb).implOk c d)
  have hml := h.modest.ol
  have hqm : clampN q m ≤ m := clampN_le q m
  have CF := Lib.hid (fun W (hb : Below w.heap.size w W) (hok : r.ok = true) => implFiles A n c es W (h.f.below hb) h.modest.fl (fun e he => (h.modest.fe e he).1) (by rw [h.hf]; exact (namesFrom_rises (okD_some (DD.ok_seen hok)).2.1).1))
  have HO := Lib.hid h.o
  have HOP := Lib.hid h.ho
  have HZ : Hid (es.map Ent.file = r.after 0) := Lib.hid h.hf
  have HW := Lib.hid h.wt
  have hmm : r.ops.length = m := by rw [← h.ho, List.length_map]; exact h.o.len
  have HMM := Lib.hid hmm
  have F0 := Lib.hid ((FBox.new w (.int .i64 r.room) (.int .i64 r.fuse) (.slice A n c) (.slice B m d) 26).alloc (.cells #[.int .i64 0, .int .i64 0, .slice none 0 0, .slice none 0 0] 26))
  have F1 := Lib.hid (FBox.second w (.cells #[.int .i64 r.room, .int .i64 r.fuse, .slice A n c, .slice B m d] 26) (.int .i64 0) (.int .i64 0) (.slice none 0 0) (.slice none 0 0) 26)
  have HD : Hid (crashD r q k = if r.ok then ⟨r.room, -1, crashF r q k, []⟩ else DD.zero) := Lib.hid rfl
  have H1 : Hid (∀ o : OpD, r.ops[clampN q m]? = some o → o.1 = 2 → crashF r q k = makeF (r.after (clampN q m)) (cutO o (clampN k o.2.2.2.length))) := Lib.hid (fun o ho h2 => crashF_some hmm ho h2)
  have H2 : Hid (∀ o : OpD, r.ops[clampN q m]? = some o → o.1 ≠ 2 → crashF r q k = r.after (clampN q m)) := Lib.hid (fun o ho h2 => crashF_other hmm ho h2)
  have H3 : Hid (m ≤ clampN q m → crashF r q k = r.after (clampN q m)) := Lib.hid (fun ho => crashF_none hmm ho)
  have HSM := Lib.hid (fun hok => crashF_small (r := r) q k hok)
  have HNM := Lib.hid (crash_names h.wt q k)
  generalize crashD r q k = sd at HD ⊢
  generalize crashF r q k = cf at HD H1 H2 H3 HSM HNM
  clear h hmm
  go_enter Try.func21, Try.ntmps21
  go_wp2_with fail
  refine (C1.out _ (below_a2 _ _ _)).mono ?_
  rintro e w1 ⟨rfl, hb1⟩
  have HB1 := Lib.hid (below_chain (below_a2 w _ _) hb1)
  have G0 := Lib.hid (F0.out.below hb1)
  have G1 := Lib.hid (F1.out.below hb1)
  clear hb1 F0 F1
  obtain ⟨⟨l0, x00, x01, x02, x03⟩, fr0⟩ := G0.out
  obtain ⟨⟨l1, x10, x11, x12, x13⟩, fr1⟩ := G1.out
  have fr10 := fr1 0
  have fr11 := fr1 1
  have fr12 := fr1 2
  have fr13 := fr1 3
  clear fr0 fr1
  cases hr : r.ok with
  | false =>
    have e2 : sd = DD.zero := by rw [HD.out, hr]; rfl
    have HE2 := Lib.hid e2
    clear e2 HD
    go_wp2
    refine bodyPost_ret (v := .tuple #[.agg #[.int .i64 0, .int .i64 0, .slice none 0 0, .slice none 0 0], .bool false]) (by simp [results, Try.results21, go_sem, x10, x11, x12, x13]) rfl ?_
    rw [HE2.out]
    first
      | exact ⟨none, 0, 0, none, 0, 0, [], [], rfl, rfl, rfl, rfl, rfl, OwnD.nil, below_out4 HB1.out (by omega) _ _ _ _⟩
      | (rw [hr]; exact ⟨none, 0, 0, none, 0, 0, [], [], rfl, rfl, rfl, rfl, rfl, OwnD.nil, below_out4 HB1.out (by omega) _ _ _ _⟩)
  | true =>
    have e2 : sd = ⟨r.room, -1, cf, []⟩ := by rw [HD.out, hr]; rfl
    have HE2 := Lib.hid e2
    have HRK := Lib.hid hr
    have CF2 := Lib.hid (fun W hb => CF.out W hb hr)
    have HSM2 := Lib.hid (HSM.out hr)
    clear e2 HD CF HSM
    go_wp2_with fail
    refine (CF2.out _ HB1.out).mono ?_
    rintro e w2 ⟨mb, es1, rfl, hf1, hm1, hb2⟩
    have HB2 := Lib.hid (below_chain HB1.out hb2)
    have J0 := Lib.hid (G0.out.below hb2)
    have J1 := Lib.hid (G1.out.below hb2)
    have HM1 := Lib.hid hm1
    have HF1 := Lib.hid (hf1.trans HZ.out)
    have hlo : w.heap.size + 1 < w1.heap.size := l1
    clear hb2 hm1 hf1 l0 x00 x01 x02 x03 l1 x10 x11 x12 x13 fr10 fr11 fr12 fr13
    obtain ⟨⟨l0, x00, x01, x02, x03⟩, fr0⟩ := J0.out
    clear fr0
    have hmaxmin : Hid (min (max q 0) (m : Int) = (clampN q m : Int)) := Lib.hid (clampMM q m)
    go_wp2
    rw [clampMM q m, show max ((clampN q m : Nat) : Int) 0 = ((clampN q m : Nat) : Int) from by omega, Int.toNat_natCast]
    clear hmaxmin
    have dqm := hqm
    generalize clampN q m = qq at dqm hqm H1 H2 H3 ⊢
    clear l0 x00 x01 x02 x03
    go_loopw [31] (fun i wr => ∃ (p : Nat) (es2 : List Ent), p ≤ qq ∧ i = .int .i64 p ∧ Hid (es2.map Ent.file = r.after p) ∧ Hid (MapIs wr w1.heap.size mb es2) ∧ Hid (FBox wr w.heap.size (.int .i64 r.room) (.int .i64 r.fuse) (.slice A n c) (.slice B m d)) ∧ Hid (FBox wr (w.heap.size + 1) (.int .i64 0) (.int .i64 0) (.slice none 0 0) (.slice none 0 0)) ∧ Hid (Below w.heap.size w wr)) (fun i _ => qq - (intOf i).toNat)
    case atStart => exact ⟨0, es1, Nat.zero_le _, rfl, HF1, HM1, J0, J1, HB2⟩
    case round =>
      clear HF1 HM1 J0 J1 HB2
      obtain ⟨p, es2, hp, rfl, hfs, hm, hx0, hx1, hbel⟩ := hrel
      by_cases hlt : p < qq
      · have hpm : p < m := by omega
        obtain ⟨b, off, e, hB, hbw, he, hok, c0, c1', c2', c3'⟩ := HO.out.at_ hpm
        subst hB
        have c0 := (hbel.out.cell (p := ⟨b, off + p * 4, none⟩) hbw).trans c0
        have c1' := (hbel.out.cell (p := ⟨b, off + p * 4 + 1, none⟩) hbw).trans c1'
        have c2' := (hbel.out.cell (p := ⟨b, off + p * 4 + 2, none⟩) hbw).trans c2'
        have c3' := (hbel.out.cell (p := ⟨b, off + p * 4 + 3, none⟩) hbw).trans c3'
        have hoe : r.ops[p]? = some e.op := by rw [← HOP.out, List.getElem?_map, he.out]; rfl
        have hxl : e.op.2.2.2.length = e.d.n := hok.out.rd.len
        have haf := (DD.after_next HRK.out hoe).2.2
        have CM := Lib.hid (doneAt HRK.out HW.out hoe hfs.out e.d.n (.inr (Nat.le_refl _)) (wr.alloc (.cells #[.int .i64 e.kind, .string e.nm, .string e.to, .slice e.d.A e.d.n e.d.c] 30)) (hm.out.below (below_a1 wr _)) ((hok.out.below hbel.out).below (below_a1 wr _)) (Nat.le_refl _))
        rw [cutO_full e.op (by omega), ← haf] at CM
        have BX := Lib.hid (below_a1 wr (.cells #[.int .i64 e.kind, .string e.nm, .string e.to, .slice e.d.A e.d.n e.d.c] 30))
        have hlw : w1.heap.size ≤ wr.heap.size := Nat.le_trans hm.out.base (Nat.le_of_lt hm.out.lt)
        clear he hok hoe hxl haf
        go_wp2_with fail
        refine CM.out.mono ?_
        rintro e1 w4 ⟨es4, rfl, hf4, hm4, hb4⟩
        have HF4 := Lib.hid hf4
        have HM4 := Lib.hid hm4
        have BB := Lib.hid ((BX.out.mono hlw).trans hb4)
        have HX0 := Lib.hid (hx0.out.keep BB.out.size (BB.out.block w.heap.size (by omega)))
        have HX1 := Lib.hid (hx1.out.keep BB.out.size (BB.out.block (w.heap.size + 1) (by omega)))
        have HBE := Lib.hid (hbel.out.trans (BB.out.mono (by omega)))
        clear hf4 hm4 hb4
        go_wp2
        go_roundw
        case rel => exact ⟨p + 1, es4, by omega, by go_num, HF4, HM4, HX0, HX1, HBE⟩
        case measure => simp [intOf]; omega
      · have hpq : p = qq := by omega
        subst hpq
        have hl2 : w1.heap.size ≤ wr.heap.size := Nat.le_trans hm.out.base (Nat.le_of_lt hm.out.lt)
        have hfin : ∀ (W : World) (es5 : List Ent), MapIs W w1.heap.size mb es5 → es5.map Ent.file = cf → Calls Try.prog 71 #[.map (some mb)] W (MadeFs W cf) := fun W es5 hm5 hf5 => by
          have h8 := HSM2.out
          rw [← hf5]
          exact implSorted _ mb es5 W hm5 (by have := congrArg List.length hf5; rw [List.length_map] at this; omega) (fun e he => ⟨HNM.out e.file (by rw [← hf5]; exact List.mem_map.2 ⟨e, he, rfl⟩), by
            have := hm5.bound (k := 600000) (by rw [hf5]; exact h8.2) e he
            omega⟩)
        have HFIN := Lib.hid hfin
        obtain ⟨⟨l0, x00, x01, x02, x03⟩, fr0⟩ := hx0.out
        obtain ⟨⟨l1, x10, x11, x12, x13⟩, fr1⟩ := hx1.out
        have fr10 := fr1 0
        have fr11 := fr1 1
        have fr12 := fr1 2
        have fr13 := fr1 3
        clear fr0 fr1 hfin
        by_cases hlt : p < m
        · have dlt : decide ((p : Int) < (m : Int)) = true := by simp; omega
          have dlt' : decide (p < m) = true := by simp; omega
          obtain ⟨b, off, e, hB, hbw, he, hok, c0, c1', c2', c3'⟩ := HO.out.at_ hlt
          subst hB
          have c0 := (hbel.out.cell (p := ⟨b, off + p * 4, none⟩) hbw).trans c0
          have c1' := (hbel.out.cell (p := ⟨b, off + p * 4 + 1, none⟩) hbw).trans c1'
          have c2' := (hbel.out.cell (p := ⟨b, off + p * 4 + 2, none⟩) hbw).trans c2'
          have c3' := (hbel.out.cell (p := ⟨b, off + p * 4 + 3, none⟩) hbw).trans c3'
          have hoe : r.ops[p]? = some e.op := by rw [← HOP.out, List.getElem?_map, he.out]; rfl
          have hxl : e.op.2.2.2.length = e.d.n := hok.out.rd.len
          have hcd : e.d.n ≤ e.d.c := hok.out.cap
          by_cases h2 : e.kind = 2
          · have hcf := H1.out e.op hoe h2
            rw [hxl] at hcf
            have hkl : clampN k e.d.n ≤ e.d.n := clampN_le k e.d.n
            have hen : e.d.n ≤ 200000 := by rw [← hxl]; exact (opOkF_bounds (DD.after_next HRK.out hoe).1).2
            have CM := Lib.hid (fun W (hb : Below wr.heap.size wr W) => doneAt HRK.out HW.out hoe hfs.out (clampN k e.d.n) (.inl h2) W (hm.out.below hb) ((hok.out.below hbel.out).below hb) hkl)
            have HCF := Lib.hid hcf
            have hk2 : (e.kind == 2) = true := by simp [h2]
            have HMM2 := clampMM k e.d.n
            clear he hok hoe hxl hcf h2
            go_wp2_with fail
            refine (CM.out _ (below_a1 wr _)).mono ?_
            rintro e1 w4 ⟨es4, rfl, hf4, hm4, hb4⟩
            have BB : Hid (Below w1.heap.size wr w4) := Lib.hid (((below_a1 wr (.cells #[.int .i64 e.kind, .string e.nm, .string e.to, .slice e.d.A (clampN k e.d.n) e.d.c] 30)).mono hl2).trans hb4)
            have T0 := Lib.hid (hx0.out.keep BB.out.size (BB.out.block w.heap.size (by omega)))
            have T1 := Lib.hid (hx1.out.keep BB.out.size (BB.out.block (w.heap.size + 1) (by omega)))
            have HBE := Lib.hid (hbel.out.trans (BB.out.mono (by omega)))
            have CS := Lib.hid (fun W (hb : Below w4.heap.size w4 W) => HFIN.out W es4 (hm4.below hb) (hf4.trans HCF.out.symm))
            clear hf4 hm4 hb4 l0 x00 x01 x02 x03 l1 x10 x11 x12 x13 fr10 fr11 fr12 fr13 c0 c1' c2' c3'
            obtain ⟨⟨l0, x00, x01, x02, x03⟩, fr0⟩ := T0.out
            obtain ⟨⟨l1, x10, x11, x12, x13⟩, fr1⟩ := T1.out
            have fr10 := fr1 0
            have fr11 := fr1 1
            have fr12 := fr1 2
            have fr13 := fr1 3
            have hlx : w.heap.size + 1 < w4.heap.size := l1
            clear fr0 fr1
            go_wp2
            go_region_held3 (fun W => W.cell? ⟨w.heap.size, 0, none⟩ = some (.int .i64 r.room))
              (first
                | (exact y00)
                | (exact YY.out.box.c0)
                | go_keep)
              (first
                | (go_at_call 71; ((with_reducible refine (CS.out _ (by first | exact Below.refl _ _ | exact (Below.refl _ _).drew)).mono ?_)); rintro e1 w5 ⟨A5, c5, es5, rfl, hf5, ho5, hb5⟩; have HB5 : Hid (Below w4.heap.size w4 w5) := Lib.hid (by first | exact hb5 | exact ⟨hb5.os, hb5.tape, hb5.output, hb5.size, hb5.block⟩); have K1 := Lib.hid (T1.out.below HB5.out); obtain ⟨⟨k0, y00, y01, y02, y03⟩, gr0⟩ := T0.out.below HB5.out; obtain ⟨⟨m1, z10, z11, z12, z13⟩, hr1⟩ := K1.out; have hr10 := hr1 0; have hr11 := hr1 1; have hr12 := hr1 2; have hr13 := hr1 3; clear hr1 gr0; have YY := Lib.hid ((T0.out.below HB5.out).far4 (p := w.heap.size + 1) (by omega) (.int .i64 r.room) (.int .i64 (-1)) (.slice A5 es5.length c5) (.slice none 0 0))))
            all_goals
              go_wp2
              refine bodyPost_ret (v := .tuple #[.agg #[.int .i64 r.room, .int .i64 (-1), .slice A5 es5.length c5, .slice none 0 0], .bool true]) (by simp [results, Try.results21, go_sem, z10, z11, z12, z13]) rfl ?_
              rw [HE2.out]
              try rw [hr]
              have ho6 : OwnF w5 w4.heap.size A5 c5 es5 := ho5
              have hod : OwnD w5 w4.heap.size A5 c5 none 0 es5 [] := ⟨ho6, OwnO.nil, by simp⟩
              exact resD_own (r := ⟨r.room, -1, cf, []⟩) (hod.out4 hlx _ _ _ _) (by omega) hf5 rfl (below_out4 (below_chain HBE.out HB5.out) (by omega) _ _ _ _)
          · have hcf := H2.out e.op hoe h2
            have CS := Lib.hid (fun W (hb : Below wr.heap.size wr W) => HFIN.out W es2 (hm.out.below hb) (hfs.out.trans hcf.symm))
            have hk2 : (e.kind == 2) = false := by simp [h2]
            clear he hok hoe hxl hcf h2 c1' c2' c3'
            have T0 := hx0
            have T1 := hx1
            have hlx : w.heap.size + 1 < wr.heap.size := l1
            go_wp2
            go_region_held3 (fun W => W.cell? ⟨w.heap.size, 0, none⟩ = some (.int .i64 r.room))
              (first
                | (exact y00)
                | (exact YY.out.box.c0)
                | go_keep)
              (first
                | (go_at_call 71; ((with_reducible refine (CS.out _ (by first | exact Below.refl _ _ | exact (Below.refl _ _).drew)).mono ?_)); rintro e1 w5 ⟨A5, c5, es5, rfl, hf5, ho5, hb5⟩; have HB5 : Hid (Below wr.heap.size wr w5) := Lib.hid (by first | exact hb5 | exact ⟨hb5.os, hb5.tape, hb5.output, hb5.size, hb5.block⟩); have K1 := Lib.hid (T1.out.below HB5.out); obtain ⟨⟨k0, y00, y01, y02, y03⟩, gr0⟩ := T0.out.below HB5.out; obtain ⟨⟨m1, z10, z11, z12, z13⟩, hr1⟩ := K1.out; have hr10 := hr1 0; have hr11 := hr1 1; have hr12 := hr1 2; have hr13 := hr1 3; clear hr1 gr0; have YY := Lib.hid ((T0.out.below HB5.out).far4 (p := w.heap.size + 1) (by omega) (.int .i64 r.room) (.int .i64 (-1)) (.slice A5 es5.length c5) (.slice none 0 0))))
            all_goals
              go_wp2
              refine bodyPost_ret (v := .tuple #[.agg #[.int .i64 r.room, .int .i64 (-1), .slice A5 es5.length c5, .slice none 0 0], .bool true]) (by simp [results, Try.results21, go_sem, z10, z11, z12, z13]) rfl ?_
              rw [HE2.out]
              try rw [hr]
              have ho6 : OwnF w5 wr.heap.size A5 c5 es5 := ho5
              have hod : OwnD w5 wr.heap.size A5 c5 none 0 es5 [] := ⟨ho6, OwnO.nil, by simp⟩
              exact resD_own (r := ⟨r.room, -1, cf, []⟩) (hod.out4 hlx _ _ _ _) (by omega) hf5 rfl (below_out4 (below_chain hbel.out HB5.out) (by omega) _ _ _ _)
        · have dlt : decide ((p : Int) < (m : Int)) = false := by simp; omega
          have dlt' : decide (p < m) = false := by simp; omega
          have CS := Lib.hid (fun W (hb : Below wr.heap.size wr W) => HFIN.out W es2 (hm.out.below hb) (hfs.out.trans (H3.out (by omega)).symm))
          have T0 := hx0
          have T1 := hx1
          have hlx : w.heap.size + 1 < wr.heap.size := l1
          go_wp2
          go_region_held3 (fun W => W.cell? ⟨w.heap.size, 0, none⟩ = some (.int .i64 r.room))
            (first
              | (exact y00)
              | (exact YY.out.box.c0)
              | go_keep)
            (first
              | (go_at_call 71; ((with_reducible refine (CS.out _ (by first | exact Below.refl _ _ | exact (Below.refl _ _).drew)).mono ?_)); rintro e1 w5 ⟨A5, c5, es5, rfl, hf5, ho5, hb5⟩; have HB5 : Hid (Below wr.heap.size wr w5) := Lib.hid (by first | exact hb5 | exact ⟨hb5.os, hb5.tape, hb5.output, hb5.size, hb5.block⟩); have K1 := Lib.hid (T1.out.below HB5.out); obtain ⟨⟨k0, y00, y01, y02, y03⟩, gr0⟩ := T0.out.below HB5.out; obtain ⟨⟨m1, z10, z11, z12, z13⟩, hr1⟩ := K1.out; have hr10 := hr1 0; have hr11 := hr1 1; have hr12 := hr1 2; have hr13 := hr1 3; clear hr1 gr0; have YY := Lib.hid ((T0.out.below HB5.out).far4 (p := w.heap.size + 1) (by omega) (.int .i64 r.room) (.int .i64 (-1)) (.slice A5 es5.length c5) (.slice none 0 0))))
          all_goals
            go_wp2
            refine bodyPost_ret (v := .tuple #[.agg #[.int .i64 r.room, .int .i64 (-1), .slice A5 es5.length c5, .slice none 0 0], .bool true]) (by simp [results, Try.results21, go_sem, z10, z11, z12, z13]) rfl ?_
            rw [HE2.out]
            try rw [hr]
            have ho6 : OwnF w5 wr.heap.size A5 c5 es5 := ho5
            have hod : OwnD w5 wr.heap.size A5 c5 none 0 es5 [] := ⟨ho6, OwnO.nil, by simp⟩
            exact resD_own (r := ⟨r.room, -1, cf, []⟩) (hod.out4 hlx _ _ _ _) (by omega) hf5 rfl (below_out4 (below_chain hbel.out HB5.out) (by omega) _ _ _ _)
end Go.Proofs.Ytfcomnpoehpgiaa
