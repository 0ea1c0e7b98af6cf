/- Plain mathematics of names in order: a list of files whose names rise; one more at the end (no program; no condition). // The contract of the program's function that lays files into a map. // The contract of the program's function that replays what waits; whether a disk is valid. // What a law has measured of a disk, said of the disk as a datum; the model's function that asks whether a disk is valid, at every such disk. // Plain mathematics of disks: what is visible after the first operations, and in the end; the answers of the functions on disks, as data (no program; no condition). -/
import Derived.Test.YtejibpajjoaldaaC4
import Derived.Test.YtejibpajjoaldaaC7
namespace Go.Proofs.Ytejibpajjoaldaa
open Go.RowKit Go.Maps

theorem ltB_trans {a b c : ByteArray} (h1 : ltB a b = true) (h2 : ltB b c = true) : ltB a c = true := by
  rw [ltB_before] at *
  exact WideShapes.bytes_trans _ _ _ h1 h2
theorem ltB_irrefl (a : ByteArray) : ltB a a = false := by
  rw [ltB_before]
  exact WideAt.bytes_irrefl _
theorem ltB_ne {a b : ByteArray} (h : ltB a b = true) : a ≠ b := fun e => by
  subst e
  rw [ltB_irrefl] at h
  cases h
theorem ltB_asymm {a b : ByteArray} (h : ltB a b = true) : ltB b a = false := by
  cases hb : ltB b a with
  | false => rfl
  | true =>
    have := ltB_trans h hb
    rw [ltB_irrefl] at this
    cases this
theorem gtN_lt {a b : ByteArray} (h : ltB a b = true) : gtN a b = false := by
  unfold gtN
  unfold ltB at h
  rw [h]
  rfl
/-- Names that rise. -/
def Rises (l : List FileD) : Prop := l.Pairwise (fun a b => ltB a.1 b.1 = true)
theorem namesFrom_rises : ∀ {l : List FileD} {p : Option ByteArray}, namesFrom p l = true → Rises l ∧ ∀ q, p = some q → ∀ b ∈ l, ltB q b.1 = true
  | [], p, _ => ⟨List.Pairwise.nil, fun _ _ b hb => by cases hb⟩
  | f :: r, p, h => by
    unfold namesFrom at h
    simp only [Bool.and_eq_true] at h
    obtain ⟨h1, h2, h3⟩ := h
    obtain ⟨i1, i2⟩ := namesFrom_rises h3
    refine ⟨List.pairwise_cons.2 ⟨fun b hb => i2 f.1 rfl b hb, i1⟩, fun q hq b hb => ?_⟩
    subst hq
    rcases List.mem_cons.1 hb with rfl | hb
    · exact h2
    · exact ltB_trans h2 (i2 f.1 rfl b hb)
theorem namesFrom_names : ∀ {l : List FileD} {p : Option ByteArray}, namesFrom p l = true → ∀ f ∈ l, nameB f.1 = true
  | [], p, _ => fun b hb => by cases hb
  | f :: r, p, h => by
    unfold namesFrom at h
    simp only [Bool.and_eq_true] at h
    obtain ⟨h1, h2, h3⟩ := h
    intro b hb
    rcases List.mem_cons.1 hb with rfl | hb
    · exact h1
    · exact namesFrom_names h3 b hb
theorem withF_snoc {l : List FileD} {f : FileD} (h : ∀ e ∈ l, ltB e.1 f.1 = true) : withF f l = l ++ [f] := by
  have h1 : lessK Prod.fst f.1 l = l := by
    unfold lessK
    rw [List.filter_eq_self]
    intro e he
    simpa using ltB_ne (h e he)
  unfold withF withK
  rw [h1]
  have := insK_split (key := Prod.fst) f l [] (fun e he => gtN_lt (h e he))
  rw [List.append_nil] at this
  rw [this]
  rfl
theorem withF_take {l : List FileD} {k : Nat} {f : FileD} (h : Rises l) (hk : l[k]? = some f) : withF f (l.take k) = l.take (k + 1) := by
  rw [take_step l k f hk]
  refine withF_snoc fun e he => ?_
  obtain ⟨hkl, rfl⟩ := List.getElem?_eq_some_iff.1 hk
  obtain ⟨j, hj, rfl⟩ := List.getElem_of_mem he
  rw [List.length_take] at hj
  rw [List.getElem_take]
  exact List.pairwise_iff_getElem.1 h j k (by omega) hkl (by omega)
end Go.Proofs.Ytejibpajjoaldaa
namespace Go.Proofs.Ytejibpajjoaldaa
open Go.RowKit Go.Maps

set_option maxRecDepth 10000 in
set_option maxHeartbeats 2000000 in
theorem implClip_q (d : Dat) (w : World) (hd : d.Ok w) :
    Calls Try.prog 83 #[.slice d.A d.n d.c] w (fun e w' => e = .returned (.slice d.A d.n d.n) ∧ w' = w) := by
  have hc := hd.cap
  clear hd
  go_enter Try.func83, Try.ntmps83
  go_wp2
  go_ret
  exact ⟨rfl, rfl⟩

theorem run_makeMap_hint {P : Program} {t k e : TypeId} (ht : P.underlying t = some (.map k e)) (q : IntKind) (n : Int) (w : World) : (Instr.makeMap t (some (.int q n))).run P w = .ok (.map (some w.heap.size)) (w.alloc (.map #[] 0)) := by
  simp [Instr.makeMap, run_underlying ht, asInt, asIntOf, Result.andThen]

/-- What laying files into a map leaves. -/
def Mapped (w : World) (fs : List FileD) (e : Ending) (w' : World) : Prop :=
  ∃ mb es, e = .returned (.map (some mb)) ∧ es.map Ent.file = fs ∧ MapIs w' w.heap.size mb es ∧ Below w.heap.size w w'

set_option maxRecDepth 10000 in
set_option maxHeartbeats 4000000 in
theorem implFiles (A : Option Addr) (n c : Nat) (es : List Ent) (w : World) (hf : SlF w A n es) (hn : n ≤ 1048576) (hs : ∀ e ∈ es, e.nm.size ≤ 1048576) (hr : Rises (es.map Ent.file)) :
    Calls Try.prog 54 #[.slice A n c] w (Mapped w (es.map Ent.file)) := by
  have HF := Lib.hid hf
  have HS := Lib.hid hs
  have HRI := Lib.hid hr
  clear hf hs hr
  have hmm := run_makeMap_hint (P := Try.prog) Try.underlying71 .i64 (n : Int)
  go_enter Try.func54, Try.ntmps54
  go_wp2
  have hst : MapIs (w.alloc (.map #[] 0)) w.heap.size w.heap.size [] := ⟨World.ownsMap_made w _ _ _, Nat.le_refl _, by simp, by simp, List.Pairwise.nil⟩
  clear hmm
  go_loopw [11] (fun i wr => ∃ (k : Nat) (es1 : List Ent), k ≤ n ∧ i = .int .i64 k ∧ Hid (es1.map Ent.file = (es.map Ent.file).take k) ∧ Hid (∀ e ∈ es1, e.d.n = e.d.c) ∧ Hid (MapIs wr w.heap.size w.heap.size es1) ∧ Hid (Below w.heap.size w wr)) (fun i _ => n - (intOf i).toNat)
  case atStart => exact ⟨0, [], Nat.zero_le _, rfl, Lib.hid (by simp), Lib.hid (by simp), Lib.hid hst, Lib.hid (below_a1 _ _)⟩
  case round =>
    obtain ⟨k, es1, hk, rfl, hfs, hfull, hm, hbel⟩ := hrel
    by_cases hlt : k < n
    · obtain ⟨b, off, e, hA, hbw, he, hok, c0, c1⟩ := HF.out.at_ hlt
      subst hA
      have c0 := (hbel.out.cell (p := ⟨b, off + k * 2, none⟩) hbw).trans c0
      have c1 := (hbel.out.cell (p := ⟨b, off + k * 2 + 1, none⟩) hbw).trans c1
      have hes := HS.out e (List.mem_of_getElem? he.out)
      have hkey := Lib.hid (keyNm (s := e.nm) (by unfold maxLen; omega))
      have hfe : (es.map Ent.file)[k]? = some e.file := by rw [List.getElem?_map, he.out]; rfl
      have hl1 : es1.length ≤ 1048576 := by
        have := congrArg List.length hfs.out
        rw [List.length_map, List.length_take] at this
        omega
      have HX := Lib.hid (withF_take HRI.out hfe)
      have HOK := Lib.hid (hok.out.below hbel.out)
      have BB := Lib.hid ((below_a1 wr (.cells #[.string e.nm, .slice e.d.A e.d.n e.d.c] 87)).drew)
      have CC := Lib.hid (fun W (h : Below wr.heap.size wr W) => implClip_q e.d W (HOK.out.below h))
      have HM2 := Lib.hid (hm.out.below BB.out)
      obtain ⟨w3, hrun3, ho3, hg3⟩ := HM2.out.own.update Try.keyed Try.underlying71 (by unfold maxLen; omega) hkey.out (val := .slice e.d.A e.d.n e.d.n) (d := .held (.slice e.d.A e.d.n e.d.n)) (ps := []) rfl
      have HM3 := Lib.hid (HM2.out.stored (x := ⟨e.nm, ⟨e.d.A, e.d.n, e.d.n, e.d.xs⟩⟩) hg3 ho3 ⟨(HOK.out.below BB.out).rd, Nat.le_refl _⟩ (fun h => absurd h (by simp)) (fun f hf hh => by
        have := hfull.out f (lessK_mem hf).1
        simp only at hh
        omega))
      have HB3 := Lib.hid ((hbel.out.trans (BB.out.mono hbel.out.size)).grown hg3 (by have := hbel.out.size; have := BB.out.size; omega) (fun j hj => by injection hj with hj; omega))
      clear hfe ho3 hg3
      go_wp2
      go_region_with (go_at_call 83; ((with_reducible refine (CC.out _ (by first | exact BB.out | exact below_a1 _ _)).mono ?_)); rintro e1 w1 ⟨rfl, rfl⟩)
      all_goals
        go_wp2
        go_roundw
        case rel =>
          refine ⟨k + 1, withK Ent.nm ⟨e.nm, ⟨e.d.A, e.d.n, e.d.n, e.d.xs⟩⟩ es1, by omega, by go_num, Lib.hid ?_, Lib.hid ?_, HM3, HB3⟩
          · rw [withK_map (f := Ent.file) (key := Ent.nm) (key' := Prod.fst) (fun _ => rfl), hfs.out]
            exact HX.out
          · intro f hf
            rcases insK_mem.1 hf with rfl | hf
            · rfl
            · exact hfull.out f (lessK_mem hf).1
        case measure => simp [intOf]; omega
    · obtain rfl : k = n := by omega
      go_wp2
      go_ret
      exact ⟨w.heap.size, es1, rfl, by rw [hfs.out, List.take_of_length_le (by rw [List.length_map, HF.out.len]; omega)], hm.out, hbel.out⟩
end Go.Proofs.Ytejibpajjoaldaa
namespace Go.Proofs.Ytejibpajjoaldaa
open Go.RowKit Go.Maps

/-- What the replay leaves: the visible files in a map of the call's own, or none. -/
def Vis (w : World) : Option (List FileD) → Ending → World → Prop
  | none, e, w' => e = .returned (.tuple #[.map none, .bool false]) ∧ Below w.heap.size w w'
  | some l, e, w' => ∃ mb es, e = .returned (.tuple #[.map (some mb), .bool true]) ∧ es.map Ent.file = l ∧ MapIs w' w.heap.size mb es ∧ Below w.heap.size w w'

theorem limB_I {room fuse : Int} {n m : Nat} {es : List Ent} {os : List OpE} (h1 : es.length = n) (h2 : os.length = m) : limB (ddOf room fuse es os) = limI room fuse n m := by
  simp only [limB, limI, ddOf, List.length_map, h1, h2]
theorem okD_none_lim {d : DD} (h : limB d = false) : okD d = none := by unfold okD; rw [h]; rfl
theorem okD_none_names {d : DD} (h : namesFrom none d.fs = false) : okD d = none := by unfold okD; rw [h]; simp
theorem okD_none_tot {d : DD} (h : ¬ (totF d.fs : Int) ≤ d.room) : okD d = none := by unfold okD; simp [h]
theorem okD_vis' {d : DD} (h1 : limB d = true) (h2 : namesFrom none d.fs = true) (h3 : (totF d.fs : Int) ≤ d.room) : okD d = visF d.room d.fs d.ops := by
  unfold okD
  rw [h1, h2]
  simp [h3]
theorem limI_iff {room fuse : Int} {n m : Nat} (h : limI room fuse n m = true) : 0 ≤ room ∧ room ≤ 200000 ∧ -1 ≤ fuse ∧ fuse ≤ 2000 ∧ n ≤ 12 ∧ m ≤ 60 := by
  unfold limI at h
  simpa using h
theorem MapIs.mono {w : World} {lo lo' mb : Nat} {es : List Ent} (h : MapIs w lo mb es) (hl : lo' ≤ lo) : MapIs w lo' mb es :=
  ⟨h.own, Nat.le_trans hl h.base, h.ok, fun e he hc => own_mono (h.room e he hc) hl, h.apart⟩
theorem MapIs.bound {w : World} {lo mb : Nat} {es : List Ent} (h : MapIs w lo mb es) {k : Nat} (ht : totF (es.map Ent.file) ≤ k) : ∀ e ∈ es, e.d.n ≤ k := fun e he => by
  have := bulkE he (h.ok e he)
  omega

set_option maxRecDepth 10000 in
set_option maxHeartbeats 8000000 in
theorem implVis (room fuse : Int) (A : Option Addr) (n c : Nat) (B : Option Addr) (m d : Nat) (es : List Ent) (os : List OpE) (w : World) (hf : SlF w A n es) (ho : SlO w B m os) (hM : Modest n m es os) :
    Calls Try.prog 42 #[.agg #[.int .i64 room, .int .i64 fuse, .slice A n c, .slice B m d]] w (Vis w (okD (ddOf room fuse es os))) := by
  have HF := Lib.hid hf
  have HO := Lib.hid ho
  have HM := Lib.hid hM
  have hlim := limB_I (room := room) (fuse := fuse) hf.len ho.len
  have CL := Lib.hid (fun W => implLim room fuse A n c B m d W hM.fl hM.ol)
  have B0 := Lib.hid (Box4.new w (.int .i64 room) (.int .i64 fuse) (.slice A n c) (.slice B m d) 26)
  by_cases h1 : limI room fuse n m = true
  · rw [h1] at CL hlim
    obtain ⟨r0, r1, f0, f1, n12, m60⟩ := limI_iff h1
    have CN := Lib.hid (fun W (h : Below w.heap.size w W) => implNames A n c es W (HF.out.below h) hM.fl (fun e he => (hM.fe e he).1))
    by_cases h2 : namesFrom none (es.map Ent.file) = true
    · rw [h2] at CN
      have CF := Lib.hid (fun W (h : Below w.heap.size w W) => implFiles A n c es W (HF.out.below h) hM.fl (fun e he => (hM.fe e he).1) (namesFrom_rises h2).1)
      have htot : totF (es.map Ent.file) ≤ 1048576 := by rw [← totE_file es hf.each]; exact hM.ft
      have CT := Lib.hid (fun W lo mb es1 (h : MapIs W lo mb es1) (hm : es1.map Ent.file = es.map Ent.file) => implTotal lo mb es1 W h (by rw [h.tot, hm]; omega))
      by_cases h3 : (totF (es.map Ent.file) : Int) ≤ room
      · have HV : Hid (okD (ddOf room fuse es os) = visF room (es.map Ent.file) (os.map OpE.op)) := Lib.hid (okD_vis' hlim h2 h3)
        have H3 := Lib.hid h3
        have hl12 : es.length ≤ 12 := by rw [hf.len]; exact n12
        have H12 := Lib.hid hl12
        clear hf ho hM hlim h1 h2 h3 hl12
        go_enter Try.func42, Try.ntmps42
        go_wp2_with fail
        refine (CL.out _).mono ?_
        rintro e w1 ⟨rfl, hb1⟩
        have B1 := Lib.hid (B0.out.below hb1)
        have HB1 := Lib.hid (below_chain (below_a1 w _) hb1)
        obtain ⟨lb, x0, x1, x2, x3⟩ := B1.out
        clear hb1
        go_wp2_with fail
        refine (CN.out _ HB1.out).mono ?_
        rintro e w2 ⟨rfl, hb2⟩
        have B2 := Lib.hid (B1.out.below hb2)
        have HB2 := Lib.hid (below_chain HB1.out hb2)
        clear lb x0 x1 x2 x3 hb2
        obtain ⟨lb, x0, x1, x2, x3⟩ := B2.out
        go_wp2_with fail
        refine (CF.out _ HB2.out).mono ?_
        rintro e w3 ⟨mb, es1, rfl, hf1, hm1, hb3⟩
        have B3 := Lib.hid (B2.out.below hb3)
        have HB3 := Lib.hid (below_chain HB2.out hb3)
        have M3 := Lib.hid hm1
        have HF1 := Lib.hid hf1
        have hlo : w.heap.size < w2.heap.size := lb
        have hE : totE es1 = totF (es.map Ent.file) := by rw [hm1.tot, hf1]
        have CT3 := Lib.hid (fun W (h : MapIs W w2.heap.size mb es1) => CT.out W w2.heap.size mb es1 h hf1)
        rw [hE] at CT3
        have dt : decide (room < (totF (es.map Ent.file) : Int)) = false := by simp; exact H3.out
        have ht9 : totF (es.map Ent.file) ≤ 1048576 := htot
        obtain ⟨tt, htt⟩ : ∃ tt, tt = totF (es.map Ent.file) := ⟨_, rfl⟩
        rw [← htt] at CT3 dt ht9
        have HTT := Lib.hid htt
        clear lb x0 x1 x2 x3 hb3 hm1 hf1 hE htt
        obtain ⟨lb, x0, x1, x2, x3⟩ := B3.out
        go_wp2
        go_region_held3 (fun W => W.cell? ⟨w.heap.size, 0, none⟩ = some (.int .i64 room))
          (first
            | go_keep
            | (exact (hb5.cell (p := ⟨w.heap.size, 0, none⟩) lb).trans (by first | exact x0 | simp [*])))
          (first
            | (go_at_call 47; ((with_reducible refine (CT3.out _ (by first | exact M3.out | exact M3.out.drew)).mono ?_)); rintro e1 w5 ⟨rfl, hb5⟩))
        all_goals
          have M5 := Lib.hid (MapIs.below (w := w3.drew) M3.out.drew hb5)
          have B5 := Lib.hid (B3.out.keep hb5.size (hb5.block _ B3.out.lt))
          have HB5 : Hid (Below w.heap.size w w5) := Lib.hid (below_chain HB3.out.drew hb5)
          clear hb5
          clear lb x0 x1 x2 x3
          obtain ⟨lb, x0, x1, x2, x3⟩ := B5.out
          go_wp2
          go_loopw [27] (fun i wr => ∃ (k : Nat) (es2 : List Ent), k ≤ m ∧ i = .int .i64 k ∧ es2.length ≤ 12 ∧ Hid (MapIs wr w2.heap.size mb es2) ∧ Hid (visF room (es.map Ent.file) (os.map OpE.op) = visF room (es2.map Ent.file) ((os.map OpE.op).drop k)) ∧ Hid ((totF (es2.map Ent.file) : Int) ≤ room) ∧ Hid (Box4 wr w.heap.size (.int .i64 room) (.int .i64 fuse) (.slice A n c) (.slice B m d)) ∧ Hid (Below w.heap.size w wr)) (fun i _ => m - (intOf i).toNat)
          case atStart => exact ⟨0, es1, Nat.zero_le _, rfl, by have := congrArg List.length HF1.out; rw [List.length_map, List.length_map] at this; have := H12.out; omega, M5, Lib.hid (by rw [HF1.out]; rfl), Lib.hid (by rw [HF1.out]; exact H3.out), B5, HB5⟩
          case round =>
            obtain ⟨k, es2, hk, rfl, hl12, hm, hvis, htt2, hbx, hbel⟩ := hrel
            clear lb x0 x1 x2 x3
            obtain ⟨lb, x0, x1, x2, x3⟩ := hbx.out
            by_cases hlt : k < m
            · obtain ⟨b, off, o, hB, hbw, he, hok, c0, c1', c2, c3⟩ := HO.out.at_ hlt
              subst hB
              have c0 := (hbel.out.cell (p := ⟨b, off + k * 4, none⟩) hbw).trans c0
              have c1' := (hbel.out.cell (p := ⟨b, off + k * 4 + 1, none⟩) hbw).trans c1'
              have c2 := (hbel.out.cell (p := ⟨b, off + k * 4 + 2, none⟩) hbw).trans c2
              have c3 := (hbel.out.cell (p := ⟨b, off + k * 4 + 3, none⟩) hbw).trans c3
              have hos := HM.out.oe o (List.mem_of_getElem? he.out)
              have hoe : (os.map OpE.op)[k]? = some o.op := by rw [List.getElem?_map, he.out]; rfl
              have hst := visF_at (room := room) (l := es2.map Ent.file) hoe
              have hxl : o.d.xs.length = o.d.n := hok.out.rd.len
              have hoo : opOkF o.op = opOkB o.kind o.nm o.to o.d.n := by unfold opOkF; simp only [OpE.op, hxl]
              have CO := Lib.hid (fun W => implOpOk o.kind o.nm o.to o.d.A o.d.n o.d.c W (by omega) (by omega) (by omega))
              have BO := Lib.hid (Box4.new wr (.int .i64 o.kind) (.string o.nm) (.string o.to) (.slice o.d.A o.d.n o.d.c) 30)
              have BD := Lib.hid (hbx.out.alloc (.cells #[.int .i64 o.kind, .string o.nm, .string o.to, .slice o.d.A o.d.n o.d.c] 30))
              have BE := Lib.hid (hbel.out.alloc hbel.out.size (.cells #[.int .i64 o.kind, .string o.nm, .string o.to, .slice o.d.A o.d.n o.d.c] 30))
              have MA := Lib.hid (hm.out.below (below_a1 wr (.cells #[.int .i64 o.kind, .string o.nm, .string o.to, .slice o.d.A o.d.n o.d.c] 30)))
              by_cases hop : opOkB o.kind o.nm o.to o.d.n = true
              · rw [hop] at CO
                have hopF : opOkF o.op = true := by rw [hoo]; exact hop
                have hbd := opOkF_bounds hopF
                have CA := Lib.hid (fun W (h : MapIs W w2.heap.size mb es2) => implApp w2.heap.size mb es2 o W h (by omega) (by omega))
                by_cases hfit : fitsF (es2.map Ent.file) o.op = true
                · rw [hfit] at CA
                  have hk4 : 1 ≤ o.kind ∧ o.kind ≤ 4 := by
                    have h7 : o.kind = 1 ∨ o.kind = 2 ∨ o.kind = 3 ∨ o.kind = 4 := hbd.1
                    omega
                  have CM : Hid (∀ W, MapIs W w2.heap.size mb es2 → o.d.Ok W → Calls Try.prog 55 #[.map (some mb), .agg #[.int .i64 o.kind, .string o.nm, .string o.to, .slice o.d.A o.d.n o.d.c]] W (Applied W w2.heap.size mb (makeF (es2.map Ent.file) o.op))) := Lib.hid (fun W h hd => implApply w2.heap.size mb es2 o W h (by omega) (by omega) (by omega) hd (by omega) (h.bound (by have := htt2.out; omega)) hk4.1 hk4.2 hfit)
                  have hml := make_len hfit (by rw [List.length_map]; exact hl12)
                  have hmt := make_tot (es2.map Ent.file) o.op
                  have hmt2 : totF (makeF (es2.map Ent.file) o.op) ≤ 1000000 := by
                    have := htt2.out
                    have h8 : o.op.2.2.2.length ≤ 200000 := hbd.2
                    omega
                  have CB2 := Lib.hid (fun W es4 (h : MapIs W w2.heap.size mb es4) (hq : es4.map Ent.file = makeF (es2.map Ent.file) o.op) => implTotal w2.heap.size mb es4 W h (by rw [h.tot, hq]; omega))
                  have HCASE : Hid ((Hid ((totF (makeF (es2.map Ent.file) o.op) : Int) ≤ room) ∧ Hid (visF room (es.map Ent.file) (os.map OpE.op) = visF room (makeF (es2.map Ent.file) o.op) ((os.map OpE.op).drop (k + 1)))) ∨ (Hid (¬ (totF (makeF (es2.map Ent.file) o.op) : Int) ≤ room) ∧ Hid (visF room (es.map Ent.file) (os.map OpE.op) = none))) := Lib.hid (by
                    by_cases hroom : (totF (makeF (es2.map Ent.file) o.op) : Int) ≤ room
                    · exact .inl ⟨Lib.hid hroom, Lib.hid (by rw [hvis.out, hst, hopF, hfit]; simp [hroom])⟩
                    · exact .inr ⟨Lib.hid hroom, Lib.hid (by rw [hvis.out, hst, hopF, hfit]; simp [hroom])⟩)
                  clear hst hoe hoo hop hopF hfit hxl hbd hmt hk4
                  go_wp2_with fail
                  refine (CO.out _).mono ?_
                  rintro e1 w6 ⟨rfl, hb6⟩
                  have BO6 := Lib.hid (BO.out.below hb6)
                  have BD6 := Lib.hid (BD.out.below hb6)
                  have BE6 := Lib.hid (below_chain BE.out hb6)
                  have M6 := Lib.hid (MA.out.below hb6)
                  obtain ⟨z, z0, z1, z2, z3⟩ := BO6.out
                  clear hb6
                  go_wp2_with fail
                  refine (CA.out _ M6.out).mono ?_
                  rintro e1 w7 ⟨rfl, hb7⟩
                  have BO7 := Lib.hid (BO6.out.below hb7)
                  have BD7 := Lib.hid (BD6.out.below hb7)
                  have BE7 := Lib.hid (below_chain BE6.out hb7)
                  have M7 := Lib.hid (M6.out.below hb7)
                  clear hb7 z z0 z1 z2 z3
                  obtain ⟨z, z0, z1, z2, z3⟩ := BO7.out
                  go_wp2_with fail
                  refine (CM.out _ M7.out (hok.out.below BE7.out)).mono ?_
                  rintro e1 w8 ⟨es4, rfl, hf4, hm4, hb8⟩
                  have hsz8 : w2.heap.size ≤ w7.heap.size := Nat.le_trans M7.out.base (Nat.le_of_lt M7.out.lt)
                  have BD8 := Lib.hid (BD7.out.keep hb8.size (hb8.block _ hlo))
                  have BE8 : Hid (Below w.heap.size w w8) := Lib.hid (BE7.out.trans (hb8.mono (Nat.le_of_lt hlo)))
                  have M8 := Lib.hid hm4
                  have HF4 := Lib.hid hf4
                  have hl4 : es4.length ≤ 12 := by have := congrArg List.length hf4; rw [List.length_map] at this; omega
                  have htE : totE es4 = totF (makeF (es2.map Ent.file) o.op) := by rw [hm4.tot, hf4]
                  have CB3 := Lib.hid (fun W (h : MapIs W w2.heap.size mb es4) => CB2.out W es4 h hf4)
                  rw [htE] at CB3
                  clear hb8 hm4 hf4 htE z z0 z1 z2 z3 CB2
                  clear lb x0 x1 x2 x3
                  obtain ⟨t, t0, t1, t2, t3⟩ := BD8.out
                  rcases HCASE.out with ⟨hroom, hvis2⟩ | ⟨hroom, hvis2⟩
                  · have dt2 : decide (room < (totF (makeF (es2.map Ent.file) o.op) : Int)) = false := by simp; exact hroom.out
                    generalize hgen : totF (makeF (es2.map Ent.file) o.op) = t9 at CB3 dt2 hmt2
                    have HG9 := Lib.hid hgen
                    clear hgen
                    go_wp2
                    go_region_held3 (fun W => W.cell? ⟨w.heap.size, 0, none⟩ = some (.int .i64 room))
                      (first
                        | go_keep
                        | (exact (hb9.cell (p := ⟨w.heap.size, 0, none⟩) t).trans (by first | exact t0 | simp [*])))
                      (first
                        | (go_at_call 47; ((with_reducible refine (CB3.out _ (by first | exact M8.out | exact M8.out.drew)).mono ?_)); rintro e1 w9 ⟨rfl, hb9⟩))
                    all_goals
                      go_wp2
                      go_roundw
                      case rel => exact ⟨k + 1, es4, by omega, by go_num, hl4, Lib.hid (MapIs.below (w := w8.drew) M8.out.drew hb9), Lib.hid (by rw [HF4.out]; exact hvis2.out), Lib.hid (by rw [HF4.out]; exact hroom.out), Lib.hid (BD8.out.keep hb9.size (hb9.block _ BD8.out.lt)), Lib.hid (below_chain BE8.out.drew hb9)⟩
                      case measure => simp [intOf]; omega
                  · have dt2 : decide (room < (totF (makeF (es2.map Ent.file) o.op) : Int)) = true := by have := hroom.out; simp; omega
                    generalize hgen : totF (makeF (es2.map Ent.file) o.op) = t9 at CB3 dt2 hmt2
                    clear hgen
                    go_wp2
                    go_region_held3 (fun W => W.cell? ⟨w.heap.size, 0, none⟩ = some (.int .i64 room))
                      (first
                        | go_keep
                        | (exact (hb9.cell (p := ⟨w.heap.size, 0, none⟩) t).trans (by first | exact t0 | simp [*])))
                      (first
                        | (go_at_call 47; ((with_reducible refine (CB3.out _ (by first | exact M8.out | exact M8.out.drew)).mono ?_)); rintro e1 w9 ⟨rfl, hb9⟩))
                    all_goals
                      go_wp2
                      go_ret2
                      rw [HV.out, hvis2.out]
                      exact ⟨rfl, below_chain BE8.out.drew hb9⟩
                · have hff : fitsF (es2.map Ent.file) o.op = false := by simpa using hfit
                  rw [hff] at CA
                  have hans : Hid (visF room (es.map Ent.file) (os.map OpE.op) = none) := Lib.hid (by rw [hvis.out, hst, hff]; simp)
                  clear hst hoe hoo hop hopF hfit hff hxl hbd
                  go_wp2_with fail
                  refine (CO.out _).mono ?_
                  rintro e1 w6 ⟨rfl, hb6⟩
                  have BE6 := Lib.hid (below_chain BE.out hb6)
                  have M6 := Lib.hid (MA.out.below hb6)
                  obtain ⟨z, z0, z1, z2, z3⟩ := BO.out.below hb6
                  clear hb6
                  go_wp2_with fail
                  refine (CA.out _ M6.out).mono ?_
                  rintro e1 w7 ⟨rfl, hb7⟩
                  go_wp2
                  go_ret2
                  rw [HV.out, hans.out]
                  exact ⟨rfl, below_chain BE6.out hb7⟩
              · have hof : opOkB o.kind o.nm o.to o.d.n = false := by simpa using hop
                rw [hof] at CO
                have hans : Hid (visF room (es.map Ent.file) (os.map OpE.op) = none) := Lib.hid (by rw [hvis.out, hst, hoo, hof]; simp)
                clear hst hoe hoo hop hof hxl
                go_wp2_with fail
                refine (CO.out _).mono ?_
                rintro e1 w6 ⟨rfl, hb6⟩
                go_wp2
                go_ret2
                rw [HV.out, hans.out]
                exact ⟨rfl, below_chain BE.out hb6⟩
            · have hans : Hid (visF room (es.map Ent.file) (os.map OpE.op) = some (es2.map Ent.file)) := Lib.hid (by
                rw [hvis.out, List.drop_eq_nil_of_le (by rw [List.length_map, HO.out.len]; omega)]
                rfl)
              go_wp2
              go_ret2
              rw [HV.out, hans.out]
              exact ⟨mb, es2, rfl, rfl, hm.out.mono (Nat.le_of_lt hlo), hbel.out⟩
      · have HV : Hid (okD (ddOf room fuse es os) = none) := Lib.hid (okD_none_tot h3)
        have H3 := Lib.hid h3
        clear hf ho hM hlim h1 h2 h3
        go_enter Try.func42, Try.ntmps42
        go_wp2_with fail
        refine (CL.out _).mono ?_
        rintro e w1 ⟨rfl, hb1⟩
        have B1 := Lib.hid (B0.out.below hb1)
        have HB1 := Lib.hid (below_chain (below_a1 w _) hb1)
        obtain ⟨lb, x0, x1, x2, x3⟩ := B1.out
        clear hb1
        go_wp2_with fail
        refine (CN.out _ HB1.out).mono ?_
        rintro e w2 ⟨rfl, hb2⟩
        have B2 := Lib.hid (B1.out.below hb2)
        have HB2 := Lib.hid (below_chain HB1.out hb2)
        clear lb x0 x1 x2 x3 hb2
        obtain ⟨lb, x0, x1, x2, x3⟩ := B2.out
        go_wp2_with fail
        refine (CF.out _ HB2.out).mono ?_
        rintro e w3 ⟨mb, es1, rfl, hf1, hm1, hb3⟩
        have B3 := Lib.hid (B2.out.below hb3)
        have HB3 := Lib.hid (below_chain HB2.out hb3)
        have M3 := Lib.hid hm1
        have hE : totE es1 = totF (es.map Ent.file) := by rw [hm1.tot, hf1]
        have CT3 := Lib.hid (fun W (h : MapIs W w2.heap.size mb es1) => CT.out W w2.heap.size mb es1 h hf1)
        rw [hE] at CT3
        have dt : decide (room < (totF (es.map Ent.file) : Int)) = true := by have := H3.out; simp; omega
        generalize totF (es.map Ent.file) = tt at CT3 dt htot
        clear lb x0 x1 x2 x3 hb3 hm1 hf1 hE
        obtain ⟨lb, x0, x1, x2, x3⟩ := B3.out
        go_wp2
        go_region_held3 (fun W => W.cell? ⟨w.heap.size, 0, none⟩ = some (.int .i64 room))
          (first
            | go_keep
            | (exact (hb5.cell (p := ⟨w.heap.size, 0, none⟩) lb).trans (by first | exact x0 | simp [*])))
          (first
            | (go_at_call 47; ((with_reducible refine (CT3.out _ (by first | exact M3.out | exact M3.out.drew)).mono ?_)); rintro e1 w5 ⟨rfl, hb5⟩))
        all_goals
          go_wp2
          go_ret2
          rw [HV.out]
          exact ⟨rfl, below_chain HB3.out.drew hb5⟩
    · have h2f : namesFrom none (es.map Ent.file) = false := by simpa using h2
      rw [h2f] at CN
      have HV : Hid (okD (ddOf room fuse es os) = none) := Lib.hid (okD_none_names h2f)
      clear hf ho hM hlim h1 h2 h2f
      go_enter Try.func42, Try.ntmps42
      go_wp2_with fail
      refine (CL.out _).mono ?_
      rintro e w1 ⟨rfl, hb1⟩
      have HB1 := Lib.hid (below_chain (below_a1 w _) hb1)
      obtain ⟨lb, x0, x1, x2, x3⟩ := B0.out.below hb1
      clear hb1
      go_wp2_with fail
      refine (CN.out _ HB1.out).mono ?_
      rintro e w2 ⟨rfl, hb2⟩
      go_wp2
      go_ret2
      rw [HV.out]
      exact ⟨rfl, below_chain HB1.out hb2⟩
  · have h1f : limI room fuse n m = false := by simpa using h1
    rw [h1f] at CL hlim
    have HV : Hid (okD (ddOf room fuse es os) = none) := Lib.hid (okD_none_lim hlim)
    clear hf ho hM hlim h1 h1f
    go_enter Try.func42, Try.ntmps42
    go_wp2_with fail
    refine (CL.out _).mono ?_
    rintro e w1 ⟨rfl, hb1⟩
    go_wp2
    go_ret2
    rw [HV.out]
    exact ⟨rfl, below_chain (below_a1 w _) hb1⟩

set_option maxHeartbeats 1000000 in
theorem implOk (room fuse : Int) (A : Option Addr) (n c : Nat) (B : Option Addr) (m d : Nat) (es : List Ent) (os : List OpE) (w : World) (hf : SlF w A n es) (ho : SlO w B m os) (hM : Modest n m es os) :
    Calls Try.prog 12 #[.agg #[.int .i64 room, .int .i64 fuse, .slice A n c, .slice B m d]] w (Tells w (DD.ok (ddOf room fuse es os))) := by
  have C := Lib.hid (fun o => implVis room fuse A n c B m d es os (w.alloc o) (hf.below (below_a1 w o)) (ho.below (below_a1 w o)) hM)
  have HV : Hid (DD.ok (ddOf room fuse es os) = (okD (ddOf room fuse es os)).isSome) := Lib.hid rfl
  clear hf ho hM
  cases hv : okD (ddOf room fuse es os) with
  | none =>
    rw [hv] at C HV
    clear hv
    go_enter Try.func12, Try.ntmps12
    go_wp2_with fail
    refine (C.out _).mono ?_
    rintro e w1 ⟨rfl, hb1⟩
    go_wp2
    go_ret
    exact ⟨ret_bool HV.out.symm, below_chain (below_a1 w _) hb1⟩
  | some l =>
    rw [hv] at C HV
    clear hv
    go_enter Try.func12, Try.ntmps12
    go_wp2_with fail
    refine (C.out _).mono ?_
    rintro e w1 ⟨mb, es1, rfl, hf1, hm1, hb1⟩
    go_wp2
    go_ret
    exact ⟨ret_bool HV.out.symm, below_chain (below_a1 w _) hb1⟩
end Go.Proofs.Ytejibpajjoaldaa
namespace Go.Proofs.Ytejibpajjoaldaa
open Go.RowKit

def wtF (fs : List FileD) : Nat := (fs.map fun f => f.1.size + f.2.length).sum
def wtO (ops : List OpD) : Nat := (ops.map fun o => o.2.1.size + o.2.2.1.size + o.2.2.2.length).sum
def DD.weight (r : DD) : Nat := r.fs.length + wtF r.fs + (r.ops.length + wtO r.ops)

theorem wtF_ents {w : World} : ∀ (es : List Ent), (∀ e ∈ es, e.d.Ok w) → sumF es = wtF (es.map Ent.file)
  | [], _ => rfl
  | e :: r, h => by
    have ih := wtF_ents r (fun x hx => h x (by simp [hx]))
    have h2 := (h e (by simp)).rd.len
    simp only [sumF, wtF, List.map_cons, List.sum_cons, Ent.file, Ent.sz] at *
    omega
theorem wtO_ops {w : World} : ∀ (es : List OpE), (∀ e ∈ es, e.d.Ok w) → sumO es = wtO (es.map OpE.op)
  | [], _ => rfl
  | e :: r, h => by
    have ih := wtO_ops r (fun x hx => h x (by simp [hx]))
    have h2 := (h e (by simp)).rd.len
    simp only [sumO, wtO, List.map_cons, List.sum_cons, OpE.op, OpE.sz] at *
    omega
theorem wtF_each {f : FileD} : ∀ {l : List FileD}, f ∈ l → f.1.size + f.2.length ≤ wtF l
  | [], h => by cases h
  | x :: r, h => by
    simp only [wtF, List.map_cons, List.sum_cons]
    rcases List.mem_cons.1 h with rfl | h
    · omega
    · have := wtF_each h
      simp only [wtF] at this
      omega
theorem wtO_each {f : OpD} : ∀ {l : List OpD}, f ∈ l → f.2.1.size + f.2.2.1.size + f.2.2.2.length ≤ wtO l
  | [], h => by cases h
  | x :: r, h => by
    simp only [wtO, List.map_cons, List.sum_cons]
    rcases List.mem_cons.1 h with rfl | h
    · omega
    · have := wtO_each h
      simp only [wtO] at this
      omega
theorem totF_wt : ∀ (l : List FileD), totF l ≤ wtF l
  | [] => Nat.le_refl _
  | x :: r => by
    have := totF_wt r
    simp only [wtF, totF, List.map_cons, List.sum_cons] at *
    omega
theorem bulkF_wt : ∀ (l : List FileD), bulkF l ≤ l.length + wtF l
  | [] => Nat.le_refl _
  | x :: r => by
    have := bulkF_wt r
    simp only [wtF, bulkF, List.map_cons, List.sum_cons, List.length_cons] at *
    omega
theorem bulkO_wt : ∀ (l : List OpD), bulkO l ≤ 3 * l.length + wtO l
  | [] => Nat.le_refl _
  | x :: r => by
    have := bulkO_wt r
    simp only [wtO, bulkO, List.map_cons, List.sum_cons, List.length_cons] at *
    omega

section
variable {w : World} {r : DD} {A B : Option Addr} {n m : Nat} {es : List Ent} {os : List OpE}
theorem modest_of (hf : SlF w A n es) (ho : SlO w B m os) (h1 : es.map Ent.file = r.fs) (h2 : os.map OpE.op = r.ops) (hw : r.weight ≤ 1048576) : Modest n m es os := by
  unfold DD.weight at hw
  have l1 : es.length = r.fs.length := by rw [← h1, List.length_map]
  have l2 : os.length = r.ops.length := by rw [← h2, List.length_map]
  have l3 := hf.len
  have l4 := ho.len
  refine ⟨by omega, by omega, fun e he => ?_, ?_, fun o he => ?_⟩
  · have h3 := wtF_each (l := r.fs) (f := e.file) (by rw [← h1]; exact List.mem_map.2 ⟨e, he, rfl⟩)
    have h4 := (hf.each e he).rd.len
    simp only [Ent.file] at h3
    omega
  · rw [totE_file es hf.each, h1]
    have := totF_wt r.fs
    omega
  · have h3 := wtO_each (l := r.ops) (f := o.op) (by rw [← h2]; exact List.mem_map.2 ⟨o, he, rfl⟩)
    have h4 := (ho.each o he).rd.len
    simp only [OpE.op] at h3
    omega
theorem fits_w (h1 : es.map Ent.file = r.fs) (h2 : os.map OpE.op = r.ops) (k1 : ∀ e ∈ es, e.d.Ok w) (k2 : ∀ e ∈ os, e.d.Ok w) (hw : r.weight ≤ 1048576) : Fits es os := by
  unfold DD.weight at hw
  have l1 : es.length = r.fs.length := by rw [← h1, List.length_map]
  have l2 : os.length = r.ops.length := by rw [← h2, List.length_map]
  have b1 := bulkF_wt r.fs
  have b2 := bulkO_wt r.ops
  refine ⟨by omega, fun e he => ?_, by omega, fun o he => ?_, ?_⟩
  · have h3 := wtF_each (l := r.fs) (f := e.file) (by rw [← h1]; exact List.mem_map.2 ⟨e, he, rfl⟩)
    have h4 := (k1 e he).rd.len
    simp only [Ent.file] at h3
    omega
  · have h3 := wtO_each (l := r.ops) (f := o.op) (by rw [← h2]; exact List.mem_map.2 ⟨o, he, rfl⟩)
    have h4 := (k2 o he).rd.len
    simp only [OpE.op] at h3
    omega
  · rw [endOs_bulk os _ k2, endEs_bulk es _ k1, h1, h2]; omega
theorem ddOf_eq {room fuse : Int} (h1 : es.map Ent.file = r.fs) (h2 : os.map OpE.op = r.ops) (h3 : r.room = room) (h4 : r.fuse = fuse) : ddOf room fuse es os = r := by
  subst h3 h4
  unfold ddOf
  rw [h1, h2]
end

/-- The model's answer, at a disk that the law has measured. -/
theorem specOk (r : DD) (A : Option Addr) (n c : Nat) (B : Option Addr) (m d : Nat) (es : List Ent) (os : List OpE) (w : World) (hf : SlF w A n es) (ho : SlO w B m os) (h1 : es.map Ent.file = r.fs) (h2 : os.map OpE.op = r.ops) (hw : r.weight ≤ 1048576) :
    Calls Try.prog 49 #[.agg #[.int .i64 r.room, .int .i64 r.fuse, .slice A n c, .slice B m d]] w (Tells w r.ok) := by
  have hM := modest_of hf ho h1 h2 hw
  have hd := ddOf_eq (r := r) h1 h2 rfl rfl
  rw [← hd]
  by_cases h : 0 ≤ r.room ∧ r.room ≤ 200000 ∧ -1 ≤ r.fuse ∧ r.fuse ≤ 2000 ∧ n ≤ 12 ∧ m ≤ 60
  · obtain ⟨a1, a2, a3, a4, a5, a6⟩ := h
    exact specOk_in r.room r.fuse A n c B m d es os w hf ho hM a1 a2 a3 a4 a5 a6
  · have hl : limB (ddOf r.room r.fuse es os) = false := by
      rw [limB_I hf.len ho.len]
      unfold limI
      exact decide_eq_false h
    have e : DD.ok (ddOf r.room r.fuse es os) = false := by
      unfold DD.ok
      rw [okD_none_lim hl]
      rfl
    rw [e]
    exact specOk_lim r.room r.fuse A n c B m d w hM.fl hM.ol h
theorem implOkD (r : DD) (A : Option Addr) (n c : Nat) (B : Option Addr) (m d : Nat) (es : List Ent) (os : List OpE) (w : World) (hf : SlF w A n es) (ho : SlO w B m os) (h1 : es.map Ent.file = r.fs) (h2 : os.map OpE.op = r.ops) (hw : r.weight ≤ 1048576) :
    Calls Try.prog 12 #[.agg #[.int .i64 r.room, .int .i64 r.fuse, .slice A n c, .slice B m d]] w (Tells w r.ok) := by
  have := implOk r.room r.fuse A n c B m d es os w hf ho (modest_of hf ho h1 h2 hw)
  rw [ddOf_eq (r := r) h1 h2 rfl rfl] at this
  exact this

/-- The law's measuring of a disk that came in. -/
structure Meant (w : World) (r : DD) (A : Option Addr) (n : Nat) (B : Option Addr) (m : Nat) (es : List Ent) (os : List OpE) : Prop where
  f : SlF w A n es
  o : SlO w B m os
  hf : es.map Ent.file = r.fs
  ho : os.map OpE.op = r.ops
  wt : r.weight ≤ 1048576
theorem Meant.below {w W : World} {r : DD} {A : Option Addr} {n : Nat} {B : Option Addr} {m : Nat} {es : List Ent} {os : List OpE} (h : Meant w r A n B m es os) (hb : Below w.heap.size w W) : Meant W r A n B m es os := ⟨h.f.below hb, h.o.below hb, h.hf, h.ho, h.wt⟩
theorem Meant.modest {w : World} {r : DD} {A : Option Addr} {n : Nat} {B : Option Addr} {m : Nat} {es : List Ent} {os : List OpE} (h : Meant w r A n B m es os) : Modest n m es os := modest_of h.f h.o h.hf h.ho h.wt
theorem Meant.fits {w : World} {r : DD} {A : Option Addr} {n : Nat} {B : Option Addr} {m : Nat} {es : List Ent} {os : List OpE} (h : Meant w r A n B m es os) : Fits es os := fits_w h.hf h.ho h.f.each h.o.each h.wt
theorem Meant.copy {w : World} {r : DD} {A : Option Addr} {n : Nat} {B : Option Addr} {m : Nat} {es : List Ent} {os : List OpE} (h : Meant w r A n B m es os) (c d : Nat) :
    Calls Try.prog 21 #[.agg #[.int .i64 r.room, .int .i64 r.fuse, .slice A n c, .slice B m d]] w (MadeD w r.room r.fuse r.fs r.ops) := by
  have F := h.fits
  have l1 := h.f.len
  have l2 := h.o.len
  have := toDisk_any r.room r.fuse A n c B m d es os w h.f (by have := F.fl; omega) F.fe h.o (by have := F.ol; omega) F.oe
  rw [h.hf, h.ho] at this
  exact this
theorem meant_made {W : World} {r : DD} {A B : Option Addr} {c d lo : Nat} {es : List Ent} {os : List OpE} (h : OwnD W lo A c B d es os) (h1 : es.map Ent.file = r.fs) (h2 : os.map OpE.op = r.ops) (hw : r.weight ≤ 1048576) : Meant W r A es.length B os.length es os :=
  ⟨h.f.sl, h.o.sl, h1, h2, hw⟩
theorem DiskIn.sz {w W : World} {room fuse : Int} {A : Option Addr} {n : Nat} {B : Option Addr} {m : Nat} {es : List Ent} {os : List OpE} (h : DiskIn w room fuse A n B m es os) (hb : Below w.heap.size w W) (c d : Nat) (left : Int) (h0 : 0 ≤ left) (h1 : left ≤ 1048576) :
    Calls Try.prog 19 #[.agg #[.int .i64 room, .int .i64 fuse, .slice A n c, .slice B m d], .int .i64 left] W (Nums W (szI left (ddOf room fuse es os).weight)) := by
  have e : (ddOf room fuse es os).weight = n + sumF es + (m + sumO os) := by
    unfold DD.weight ddOf
    simp only [List.length_map]
    rw [← wtF_ents es h.f.each, ← wtO_ops os h.o.each, h.f.len, h.o.len]
  rw [e]
  exact szDisk_any room fuse A B n c m d es os left W (h.f.below hb) h.fl (fun e he => ⟨(h.fe e he).2.1, (h.fe e he).2.2⟩) (h.o.below hb) h.ol (fun e he => ⟨(h.oe e he).2.1, (h.oe e he).2.2.1, (h.oe e he).2.2.2.1⟩) h0 h1
theorem DiskIn.meant {w : World} {room fuse : Int} {A : Option Addr} {n : Nat} {B : Option Addr} {m : Nat} {es : List Ent} {os : List OpE} (h : DiskIn w room fuse A n B m es os) (hw : (ddOf room fuse es os).weight ≤ 1048576) : Meant w (ddOf room fuse es os) A n B m es os := ⟨h.f, h.o, rfl, rfl, hw⟩
theorem Meant.eq {w : World} {r : DD} {A A' : Option Addr} {n n' : Nat} {B B' : Option Addr} {m m' : Nat} {es es' : List Ent} {os os' : List OpE} (h : Meant w r A n B m es os) (k : Meant w r A' n' B' m' es' os') (c d c' d' : Nat) :
    Calls Try.prog 23 #[.agg #[.int .i64 r.room, .int .i64 r.fuse, .slice A n c, .slice B m d], .agg #[.int .i64 r.room, .int .i64 r.fuse, .slice A' n' c', .slice B' m' d']] w (Tells w true) := by
  have F := h.fits
  have e1 : n = n' := by rw [← h.f.len, ← k.f.len]; have := congrArg List.length (h.hf.trans k.hf.symm); simpa using this
  have e2 : m = m' := by rw [← h.o.len, ← k.o.len]; have := congrArg List.length (h.ho.trans k.ho.symm); simpa using this
  subst e1 e2
  exact eqDisk_any r.room r.fuse A A' n c c' B B' m d d' es es' os os' w h.f k.f (h.hf.trans k.hf.symm) (by rw [← h.f.len]; exact F.fl) F.fe h.o k.o (h.ho.trans k.ho.symm) (by rw [← h.o.len]; exact F.ol) F.oe
end Go.Proofs.Ytejibpajjoaldaa
namespace Go.Proofs.Ytejibpajjoaldaa
open Go.RowKit

/-- What is visible: nothing where the disk is not valid. -/
def DD.seen (r : DD) : List FileD := (okD r).getD []
/-- What is visible after the first k operations. -/
def DD.after (r : DD) (k : Nat) : List FileD := (r.ops.take k).foldl makeF r.fs

section
variable {r : DD}
theorem DD.ok_seen (h : r.ok = true) : okD r = some r.seen := by
  unfold DD.ok at h
  unfold DD.seen
  cases hk : okD r with
  | none => rw [hk] at h; cases h
  | some l => rfl
theorem DD.no_seen (h : r.ok = false) : okD r = none ∧ r.seen = [] := by
  unfold DD.ok at h
  unfold DD.seen
  cases hk : okD r with
  | none => exact ⟨rfl, rfl⟩
  | some l => rw [hk] at h; cases h
theorem DD.seen_after (h : r.ok = true) : r.seen = r.after r.ops.length := by
  obtain ⟨_, _, _, hv⟩ := okD_some (DD.ok_seen h)
  have := visF_seen hv
  unfold DD.after
  rw [List.take_length]
  exact this
theorem DD.ok_lim (h : r.ok = true) : 0 ≤ r.room ∧ r.room ≤ 200000 ∧ -1 ≤ r.fuse ∧ r.fuse ≤ 2000 ∧ r.fs.length ≤ 12 ∧ r.ops.length ≤ 60 := limB_iff (okD_some (DD.ok_seen h)).1
theorem DD.after_good (h : r.ok = true) (k : Nat) : (r.after k).length ≤ 12 ∧ (totF (r.after k) : Int) ≤ r.room := by
  obtain ⟨h1, h2, h3, hv⟩ := okD_some (DD.ok_seen h)
  have hl := limB_iff h1
  have := visF_prefix k hv hl.2.2.2.2.1 h3
  exact ⟨this.1, this.2.1⟩
theorem DD.after_next (h : r.ok = true) {k : Nat} {o : OpD} (hk : r.ops[k]? = some o) : opOkF o = true ∧ fitsF (r.after k) o = true ∧ r.after (k + 1) = makeF (r.after k) o := by
  obtain ⟨h1, h2, h3, hv⟩ := okD_some (DD.ok_seen h)
  have hl := limB_iff h1
  have hp := visF_prefix k hv hl.2.2.2.2.1 h3
  have hn := visF_next hp.2.2 (drop_at hk)
  refine ⟨hn.1, hn.2.1, ?_⟩
  unfold DD.after
  rw [take_step r.ops k o hk, List.foldl_append]
  rfl
theorem DD.after_zero : r.after 0 = r.fs := rfl
theorem DD.seen_good (h : r.ok = true) : r.seen.length ≤ 12 ∧ (totF r.seen : Int) ≤ r.room := by
  rw [DD.seen_after h]
  exact DD.after_good h _
end
end Go.Proofs.Ytejibpajjoaldaa
