/- The walks of the functions that turn bits of a stored byte: the model's and the program's. -/
import Derived.Test.YtfcomnpoehpgiaaKDiskBend
namespace Go.Proofs.Ytfcomnpoehpgiaa
open Go.RowKit Go.Maps

theorem rises_one {l : List FileD} (h : Rises l) {i j : Nat} {f f' : FileD} (hi : l[i]? = some f) (hj : l[j]? = some f') (he : f.1 = f'.1) : i = j := by
  obtain ⟨hi1, rfl⟩ := List.getElem?_eq_some_iff.1 hi
  obtain ⟨hj1, rfl⟩ := List.getElem?_eq_some_iff.1 hj
  rcases Nat.lt_trichotomy i j with hlt | heq | hgt
  · have := List.pairwise_iff_getElem.1 h i j hi1 hj1 hlt
    exact absurd he (ltB_ne this)
  · exact heq
  · have := List.pairwise_iff_getElem.1 h j i hj1 hi1 hgt
    exact absurd he.symm (ltB_ne this)
theorem hitK_some {s : ByteArray} {t : Int} {l : List FileD} {k : Nat} {f : FileD} (h : Rises l) (hk : l[k]? = some f) (hn : f.1 = s) (h0 : 0 ≤ t) (h1 : t < (f.2.length : Int)) : hitK s t l = some k := by
  unfold hitK
  rw [List.findIdx?_eq_some_iff_getElem]
  have hk2 := hk
  obtain ⟨hkl, hfe⟩ := List.getElem?_eq_some_iff.1 hk
  refine ⟨hkl, by rw [hfe]; simp [hn, h0, h1], fun j hj => ?_⟩
  intro hc
  simp only [decide_eq_true_eq] at hc
  have hjl : j < l.length := by omega
  have := rises_one h (List.getElem?_eq_getElem hjl) hk2 (by rw [hc.1, hn])
  omega
theorem hitK_none {s : ByteArray} {t : Int} {l : List FileD} (h : ∀ f ∈ l, f.1 = s → 0 ≤ t → ¬ t < (f.2.length : Int)) : hitK s t l = none := by
  unfold hitK
  rw [List.findIdx?_eq_none_iff]
  intro f hf
  simp only [decide_eq_false_iff_not, not_and]
  exact fun a b => h f hf a b
theorem bend_no {r : DD} {s : ByteArray} {t g : Int} (h : bendK r s t g = none) : bendD r s t g = DD.zero ∧ (bendK r s t g).isSome = false := by
  unfold bendD
  rw [h]
  exact ⟨rfl, rfl⟩
theorem bend_yes {r : DD} {s : ByteArray} {t g : Int} {k : Nat} (h : bendK r s t g = some k) : bendD r s t g = ⟨r.room, r.fuse, bentAt r.fs k t g, []⟩ ∧ (bendK r s t g).isSome = true := by
  unfold bendD
  rw [h]
  exact ⟨rfl, rfl⟩
theorem bendK_bad {r : DD} {s : ByteArray} {t g : Int} (h : ¬ (r.ok = true ∧ r.ops = [] ∧ 1 ≤ g ∧ g ≤ 255)) : bendK r s t g = none := by
  unfold bendK
  rw [if_neg h]
theorem bendK_fine {r : DD} {s : ByteArray} {t g : Int} (h : r.ok = true ∧ r.ops = [] ∧ 1 ≤ g ∧ g ≤ 255) : bendK r s t g = hitK s t r.fs := by
  unfold bendK
  rw [if_pos h]

set_option maxRecDepth 10000 in
set_option maxHeartbeats 8000000 in
theorem specBend (r : DD) (s : ByteArray) (t g : Int) (ht : (Lit.int .i64 t).wf = true) (A : Option Addr) (n c : Nat) (B : Option Addr) (m d : Nat) (es : List Ent) (os : List OpE) (w : World) (h : Meant w r A n B m es os) :
    Calls Try.prog 52 #[.agg #[.int .i64 r.room, .int .i64 r.fuse, .slice A n c, .slice B m d], .string s, .int .i64 t, .int .i64 g] w (SeeD w (bendD r s t g) (.bool (bendK r s t g).isSome)) := by
  have C1 := Lib.hid (fun W (hb : Below w.heap.size w W) => (h.below hb).specOk c d)
  have hfl := h.modest.fl
  have hml := h.modest.ol
  have CA := Lib.hid (fun W (hb : Below w.heap.size w W) => specAt A n c es s W (h.f.below hb) (by omega))
  have CC := Lib.hid (fun W (hb : Below w.heap.size w W) => (h.below hb).specCopy c d)
  have HF := Lib.hid h.f
  have HFS := Lib.hid h.hf
  have hmm : r.ops.length = m := by rw [← h.ho, List.length_map]; exact h.o.len
  have HMM := Lib.hid hmm
  have HR := Lib.hid (fun hok => (namesFrom_rises (okD_some (DD.ok_seen (r := r) hok)).2.1).1)
  have F0 := Lib.hid ((FBox.new w (.int .i64 r.room) (.int .i64 r.fuse) (.slice A n c) (.slice B m d) 26).alloc (.cells #[.int .i64 0, .int .i64 0, .slice none 0 0, .slice none 0 0] 26))
  have F1 := Lib.hid (FBox.second w (.cells #[.int .i64 r.room, .int .i64 r.fuse, .slice A n c, .slice B m d] 26) (.int .i64 0) (.int .i64 0) (.slice none 0 0) (.slice none 0 0) 26)
  clear h hmm
  go_enter Try.func52, Try.ntmps52
  go_wp2_with fail
  refine (CA.out _ (below_a2 _ _ _)).mono ?_
  rintro e w1 ⟨rfl, hb1⟩
  have HB1 := Lib.hid (below_chain (below_a2 w _ _) hb1)
  have G0 := Lib.hid (F0.out.below hb1)
  have G1 := Lib.hid (F1.out.below hb1)
  clear hb1 F0 F1
  obtain ⟨⟨l0, x00, x01, x02, x03⟩, fr0⟩ := G0.out
  clear fr0
  go_wp2_with fail
  refine (C1.out _ HB1.out).mono ?_
  rintro e w2 ⟨rfl, hb2⟩
  have HB2 := Lib.hid (below_chain HB1.out hb2)
  have J0 := Lib.hid (G0.out.below hb2)
  have J1 := Lib.hid (G1.out.below hb2)
  clear hb2 G0 G1 l0 x00 x01 x02 x03
  obtain ⟨⟨l0, x00, x01, x02, x03⟩, fr0⟩ := J0.out
  obtain ⟨⟨l1, x10, x11, x12, x13⟩, fr1⟩ := J1.out
  have fr10 := fr1 0
  have fr11 := fr1 1
  have fr12 := fr1 2
  have fr13 := fr1 3
  clear fr0 fr1
  cases hr : r.ok with
  | false =>
    have HNO := Lib.hid (bendK_bad (r := r) (s := s) (t := t) (g := g) (fun hh => by rw [hr] at hh; cases hh.1))
    have HE := Lib.hid (bend_no HNO.out)
    go_wp2
    refine bodyPost_ret (v := .tuple #[.agg #[.int .i64 0, .int .i64 0, .slice none 0 0, .slice none 0 0], .bool false]) (by simp [results, Try.results52, go_sem, x10, x11, x12, x13]) rfl ?_
    rw [HE.out.1, HE.out.2]
    exact ⟨none, 0, 0, none, 0, 0, [], [], rfl, rfl, rfl, SlF.nil, SlO.nil, below_out4 HB2.out (by omega) _ _ _ _⟩
  | true =>
    have HRI := Lib.hid (HR.out hr)
    by_cases hm : 0 < m
    · have dm : decide ((0 : Int) < (m : Int)) = true := by simp; omega
      have dm' : decide (0 < m) = true := by simp; omega
      have HNO := Lib.hid (bendK_bad (r := r) (s := s) (t := t) (g := g) (fun hh => by have := HMM.out; rw [hh.2.1] at this; simp at this; omega))
      have HE := Lib.hid (bend_no HNO.out)
      go_wp2
      refine bodyPost_ret (v := .tuple #[.agg #[.int .i64 0, .int .i64 0, .slice none 0 0, .slice none 0 0], .bool false]) (by simp [results, Try.results52, go_sem, x10, x11, x12, x13]) rfl ?_
      rw [HE.out.1, HE.out.2]
      exact ⟨none, 0, 0, none, 0, 0, [], [], rfl, rfl, rfl, SlF.nil, SlO.nil, below_out4 HB2.out (by omega) _ _ _ _⟩
    · have dm : decide ((0 : Int) < (m : Int)) = false := by simp; omega
      have dm' : decide (0 < m) = false := by simp; omega
      have HOPS : Hid (r.ops = []) := Lib.hid (List.eq_nil_of_length_eq_zero (by rw [HMM.out]; omega))
      by_cases hg : 1 ≤ g ∧ g ≤ 255
      · obtain ⟨hg1, hg2⟩ := hg
        have HFI := Lib.hid (bendK_fine (r := r) (s := s) (t := t) (g := g) ⟨hr, HOPS.out, hg1, hg2⟩)
        cases hh : hasK Ent.nm s es with
        | false =>
          have ha : atI s es = -1 := by unfold atI; rw [hh]; rfl
          have HNO : Hid (bendK r s t g = none) := Lib.hid (by
            rw [HFI.out]
            refine hitK_none fun f hf hn _ _ => ?_
            rw [← HFS.out] at hf
            obtain ⟨e, he, rfl⟩ := List.mem_map.1 hf
            have : hasK Ent.nm s es = true := by unfold hasK; rw [List.any_eq_true]; exact ⟨e, he, by simpa [Ent.file] using hn⟩
            rw [hh] at this
            cases this)
          rw [ha]
          clear ha
          have HE := Lib.hid (bend_no HNO.out)
          go_wp2
          refine bodyPost_ret (v := .tuple #[.agg #[.int .i64 0, .int .i64 0, .slice none 0 0, .slice none 0 0], .bool false]) (by simp [results, Try.results52, go_sem, x10, x11, x12, x13]) rfl ?_
          rw [HE.out.1, HE.out.2]
          exact ⟨none, 0, 0, none, 0, 0, [], [], rfl, rfl, rfl, SlF.nil, SlO.nil, below_out4 HB2.out (by omega) _ _ _ _⟩
        | true =>
          obtain ⟨k, e, hk, he, hall, hfind⟩ := has_at s es hh
          rw [ixE_at hk he hall]
          have hkn : k < n := by have := (List.getElem?_eq_some_iff.1 hk).1; have := HF.out.len; omega
          have hfk : r.fs[k]? = some e.file := by rw [← HFS.out, List.getElem?_map, hk]; rfl
          obtain ⟨b, off, e2, hA, hbw, he2, hok2, c0, c1⟩ := HF.out.at_ hkn
          subst hA
          obtain rfl : e2 = e := by have := he2.out; rw [hk] at this; injection this with this; exact this.symm
          have c1 := (HB2.out.cell (p := ⟨b, off + k * 2 + 1, none⟩) hbw).trans c1
          have hxl : e2.d.xs.length = e2.d.n := hok2.out.rd.len
          have hen : e2.d.n ≤ 1048576 := by
            have := bulkE (List.mem_of_getElem? hk) hok2.out
            rw [HFS.out] at this
            have h9 := (okD_some (DD.ok_seen hr)).2.2.1
            have := (DD.ok_lim hr).2.1
            omega
          by_cases htr : 0 ≤ t ∧ t < (e2.d.n : Int)
          · obtain ⟨ht0, ht1⟩ := htr
            have HYES : Hid (bendK r s t g = some k) := Lib.hid (by
              rw [HFI.out]
              exact hitK_some HRI.out hfk (by exact he) ht0 (by show t < (e2.d.xs.length : Int); omega))
            have HE := Lib.hid (bend_yes HYES.out)
            have HKE : Hid (r.fs[k]? = some e2.file) := Lib.hid hfk
            have hnn : e2.d.n ≤ 1048576 := hen
            clear hh hk he hall hfind hfk he2 hok2 c0 HFI
            obtain ⟨j, rfl⟩ : ∃ j : Nat, t = (j : Int) := ⟨t.toNat, by omega⟩
            obtain ⟨q, rfl⟩ : ∃ q : Nat, g = (q : Int) := ⟨g.toNat, by omega⟩
            go_wp2_with fail
            refine (CC.out _ HB2.out).mono ?_
            rintro e w3 ⟨A1, c3, B1, d1, es1, os1, rfl, hf1, ho1, hd1, hb3⟩
            have HB3 := Lib.hid (below_chain HB2.out hb3)
            have K1 := Lib.hid (J1.out.below hb3)
            have hos : os1 = [] := by rw [HOPS.out] at ho1; exact List.map_eq_nil_iff.1 ho1
            have hk3 : es1[k]?.map Ent.file = some e2.file := by rw [← List.getElem?_map, hf1]; exact HKE.out
            obtain ⟨e3, hk3, hfe⟩ : ∃ e3, es1[k]? = some e3 ∧ e3.file = e2.file := by
              cases hq : es1[k]? with
              | none => rw [hq] at hk3; cases hk3
              | some e3 => rw [hq] at hk3; exact ⟨e3, rfl, by simpa using hk3⟩
            have hkl : k < es1.length := (List.getElem?_eq_some_iff.1 hk3).1
            have HOW := Lib.hid hd1
            have hlo : w.heap.size + 1 < w2.heap.size := l1
            have hw23 : w2.heap.size ≤ w3.heap.size := hb3.size
            have hx3 : e3.d.xs = e2.d.xs := (file_split hfe).2
            have hn3 : e3.d.n = e2.d.n := by rw [← (HOW.out.okF e3 (List.mem_of_getElem? hk3)).rd.len, hx3, hxl]
            have hjn : j < e3.d.n := by omega
            have hxj : j < e3.d.xs.length := by rw [hx3, hxl]; omega
            have hsm := (HOW.out.okF e3 (List.mem_of_getElem? hk3)).rd.small _ (List.getElem_mem hxj)
            subst hos
            obtain ⟨g0, x, hA3, hg1', hg2', hx256, hxx, hcx, hfz, hown⟩ := HOW.out.bend (v := e3.d.xs[j] ^^^ q) hk3 hjn (xor_lt _ _ hsm (by omega))
            have hxe : e3.d.xs[j] = x := by have := hxx.out; rw [List.getElem?_eq_getElem hxj] at this; injection this
            rw [hxe] at hown
            obtain ⟨ba, oa, e4, hAA, hba, he4, hok4, d0, d1'⟩ := HOW.out.f.sl.at_ hkl
            obtain rfl : e4 = e3 := by have := he4.out; rw [hk3] at this; injection this with this; exact this.symm
            subst hAA
            have HOWN := Lib.hid hown
            have hne1 : ¬ g0 = w3.heap.size := by omega
            have hne1' : ¬ w3.heap.size = g0 := by omega
            have hne2 : ¬ g0 = w.heap.size + 1 := by omega
            have hne2' : ¬ w.heap.size + 1 = g0 := by omega
            have HBF := Lib.hid (bent_files (t := (j : Int)) (g := (q : Int)) hk3 (by rw [Int.toNat_natCast]; exact hxx.out) hf1)
            rw [Int.toNat_natCast, Int.toNat_natCast] at HBF
            have hq64 : bits .xor .i64 (x : Int) (q : Int) = ((x ^^^ q : Nat) : Int) := xor64 x q (by omega) (by omega)
            have hq8 : x ^^^ q < 256 := xor_lt x q hx256 (by omega)
            have hcv : IntKind.u8.wrap ((x ^^^ q : Nat) : Int) = ((x ^^^ q : Nat) : Int) := IntWalk.u8_in _ (by omega)
            have HA3 := Lib.hid hA3
            rw [hA3] at d1'
            clear hown hk3 hfe hf1 ho1 hd1 hb3 he4 hok4 hxx hxe hA3 hxj hsm hx3 HOW d0 c1 x10 x11 x12 x13 l1 l0 x00 x01 x02 x03 fr10 fr11 fr12 fr13
            obtain ⟨⟨l1, x10, x11, x12, x13⟩, fr1⟩ := K1.out
            have fr10 := fr1 0
            have fr11 := fr1 1
            have fr12 := fr1 2
            have fr13 := fr1 3
            clear fr1
            generalize x ^^^ q = y at hq64 hq8 hcv HOWN HBF
            go_wp2
            go_region
            all_goals
              go_wp2
              refine bodyPost_ret (v := .tuple #[.agg #[.int .i64 r.room, .int .i64 r.fuse, .slice (some ⟨ba, oa, none⟩) es1.length c3, .slice B1 0 d1], .bool true]) (by simp [results, Try.results52, go_sem, x10, x11, x12, x13, l1]) rfl ?_
              rw [HE.out.1, HE.out.2]
              have hst : Below w.heap.size w (w3.setCell ⟨g0, j, none⟩ (.int .u8 (y : Int))) := HB3.out.setCell (p := ⟨g0, j, none⟩) (by show w.heap.size ≤ g0; omega) _
              have hal := (below_out4 hst (b := w.heap.size + 1) (by omega) (.int .i64 r.room) (.int .i64 r.fuse) (.slice (some ⟨ba, oa, none⟩) es1.length c3) (.slice B1 0 d1))
              have hfin := seeD_own (w := w) (r := ⟨r.room, r.fuse, bentAt r.fs k (j : Int) (q : Int), []⟩) (x := .bool true) ((HOWN.out.out4 (b := w.heap.size + 1) (by omega) (.int .i64 r.room) (.int .i64 r.fuse) (.slice (some ⟨ba, oa, none⟩) es1.length c3) (.slice B1 0 d1)).below (below_a1 _ (.cells #[.int .i64 r.room, .int .i64 r.fuse, .slice (some ⟨ba, oa, none⟩) es1.length c3, .slice B1 0 d1] 26)).drew) HBF.out rfl (hal.alloc hal.size _).drew
              rw [List.length_set] at hfin
              exact hfin
          · have HNO : Hid (bendK r s t g = none) := Lib.hid (by
              rw [HFI.out]
              refine hitK_none fun f hf hn h0 h1 => htr ?_
              obtain ⟨j, hj, rfl⟩ := List.getElem_of_mem hf
              have hjk := rises_one HRI.out (List.getElem?_eq_getElem hj) hfk (by rw [hn]; exact he.symm)
              subst hjk
              have h8 : r.fs[j] = e2.file := by have := List.getElem?_eq_getElem hj; rw [hfk] at this; injection this with this; exact this.symm
              rw [h8] at h1
              exact ⟨h0, by rw [← hxl]; exact h1⟩)
            clear hh hk he hall hfind hfk he2 hok2 c0
            by_cases ht0 : t < 0
            · have HE := Lib.hid (bend_no HNO.out)
              go_wp2
              refine bodyPost_ret (v := .tuple #[.agg #[.int .i64 0, .int .i64 0, .slice none 0 0, .slice none 0 0], .bool false]) (by simp [results, Try.results52, go_sem, x10, x11, x12, x13]) rfl ?_
              rw [HE.out.1, HE.out.2]
              exact ⟨none, 0, 0, none, 0, 0, [], [], rfl, rfl, rfl, SlF.nil, SlO.nil, below_out4 HB2.out (by omega) _ _ _ _⟩
            · have ht2 : (e2.d.n : Int) ≤ t := by omega
              have HE := Lib.hid (bend_no HNO.out)
              go_wp2
              refine bodyPost_ret (v := .tuple #[.agg #[.int .i64 0, .int .i64 0, .slice none 0 0, .slice none 0 0], .bool false]) (by simp [results, Try.results52, go_sem, x10, x11, x12, x13]) rfl ?_
              rw [HE.out.1, HE.out.2]
              exact ⟨none, 0, 0, none, 0, 0, [], [], rfl, rfl, rfl, SlF.nil, SlO.nil, below_out4 HB2.out (by omega) _ _ _ _⟩
      · have HNO := Lib.hid (bendK_bad (r := r) (s := s) (t := t) (g := g) (fun hh => hg ⟨hh.2.2.1, hh.2.2.2⟩))
        generalize atI s es = kk
        by_cases hkk : kk < 0
        · have HE := Lib.hid (bend_no HNO.out)
          go_wp2
          refine bodyPost_ret (v := .tuple #[.agg #[.int .i64 0, .int .i64 0, .slice none 0 0, .slice none 0 0], .bool false]) (by simp [results, Try.results52, go_sem, x10, x11, x12, x13]) rfl ?_
          rw [HE.out.1, HE.out.2]
          exact ⟨none, 0, 0, none, 0, 0, [], [], rfl, rfl, rfl, SlF.nil, SlO.nil, below_out4 HB2.out (by omega) _ _ _ _⟩
        · by_cases ht0 : t < 0
          · have HE := Lib.hid (bend_no HNO.out)
            go_wp2
            refine bodyPost_ret (v := .tuple #[.agg #[.int .i64 0, .int .i64 0, .slice none 0 0, .slice none 0 0], .bool false]) (by simp [results, Try.results52, go_sem, x10, x11, x12, x13]) rfl ?_
            rw [HE.out.1, HE.out.2]
            exact ⟨none, 0, 0, none, 0, 0, [], [], rfl, rfl, rfl, SlF.nil, SlO.nil, below_out4 HB2.out (by omega) _ _ _ _⟩
          · by_cases hg1 : g < 1
            · have HE := Lib.hid (bend_no HNO.out)
              go_wp2
              refine bodyPost_ret (v := .tuple #[.agg #[.int .i64 0, .int .i64 0, .slice none 0 0, .slice none 0 0], .bool false]) (by simp [results, Try.results52, go_sem, x10, x11, x12, x13]) rfl ?_
              rw [HE.out.1, HE.out.2]
              exact ⟨none, 0, 0, none, 0, 0, [], [], rfl, rfl, rfl, SlF.nil, SlO.nil, below_out4 HB2.out (by omega) _ _ _ _⟩
            · have hg2 : 255 < g := by omega
              have HE := Lib.hid (bend_no HNO.out)
              go_wp2
              refine bodyPost_ret (v := .tuple #[.agg #[.int .i64 0, .int .i64 0, .slice none 0 0, .slice none 0 0], .bool false]) (by simp [results, Try.results52, go_sem, x10, x11, x12, x13]) rfl ?_
              rw [HE.out.1, HE.out.2]
              exact ⟨none, 0, 0, none, 0, 0, [], [], rfl, rfl, rfl, SlF.nil, SlO.nil, below_out4 HB2.out (by omega) _ _ _ _⟩
end Go.Proofs.Ytfcomnpoehpgiaa
