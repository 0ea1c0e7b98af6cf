/- The contract of the program's function that turns bits of a stored byte. -/
import Derived.Test.YtfcomnpoehpgiaaKBendWalks
namespace Go.Proofs.Ytfcomnpoehpgiaa
open Go.RowKit Go.Maps

set_option maxRecDepth 10000 in
set_option maxHeartbeats 8000000 in
theorem implBend (r : DD) (s : ByteArray) (t g : Int) (ht : (Lit.int .i64 t).wf = true) (A : Option Addr) (n c : Nat) (B : Option Addr) (m d : Nat) (es : List Ent) (os : List OpE) (w : World) (h : Meant w r A n B m es os) :
    Calls Try.prog 53 #[.agg #[.int .i64 r.room, .int .i64 r.fuse, .slice A n c, .slice B m d], .string s, .int .i64 t, .int .i64 g] w (ResD w (bendD r s t g) (.bool (bendK r s t g).isSome)) := by
  have C1 := Lib.hid (fun W (hb : Below w.heap.size w W) => (h.below hb).implOk c d)
  have hfl := h.modest.fl
  have hml := h.modest.ol
  have CC := Lib.hid (fun W (hb : Below w.heap.size w W) => (h.below hb).implCopy c d)
  have hmm : r.ops.length = m := by rw [← h.ho, List.length_map]; exact h.o.len
  have HMM := Lib.hid hmm
  have HLEN : Hid (r.fs.length = n) := Lib.hid (by rw [← h.hf, List.length_map]; exact h.f.len)
  have HR := Lib.hid (fun hok => (namesFrom_rises (okD_some (DD.ok_seen (r := r) hok)).2.1).1)
  have HWT := Lib.hid h.wt
  have F0 := Lib.hid ((FBox.new w (.int .i64 r.room) (.int .i64 r.fuse) (.slice A n c) (.slice B m d) 26).alloc (.cells #[.int .i64 0, .int .i64 0, .slice none 0 0, .slice none 0 0] 26))
  have F1 := Lib.hid (FBox.second w (.cells #[.int .i64 r.room, .int .i64 r.fuse, .slice A n c, .slice B m d] 26) (.int .i64 0) (.int .i64 0) (.slice none 0 0) (.slice none 0 0) 26)
  clear h hmm
  go_enter Try.func53, Try.ntmps53
  go_wp2_with fail
  refine (C1.out _ (below_a2 _ _ _)).mono ?_
  rintro e w2 ⟨rfl, hb2⟩
  have HB2 := Lib.hid (below_chain (below_a2 w _ _) hb2)
  have J0 := Lib.hid (F0.out.below hb2)
  have J1 := Lib.hid (F1.out.below hb2)
  clear hb2 F0 F1
  obtain ⟨⟨l0, x00, x01, x02, x03⟩, fr0⟩ := J0.out
  obtain ⟨⟨l1, x10, x11, x12, x13⟩, fr1⟩ := J1.out
  have fr10 := fr1 0
  have fr11 := fr1 1
  have fr12 := fr1 2
  have fr13 := fr1 3
  clear fr0 fr1
  cases hr : r.ok with
  | false =>
    have HNO := Lib.hid (bendK_bad (r := r) (s := s) (t := t) (g := g) (fun hh => by rw [hr] at hh; cases hh.1))
    have HE := Lib.hid (bend_no HNO.out)
    go_wp2
    refine bodyPost_ret (v := .tuple #[.agg #[.int .i64 0, .int .i64 0, .slice none 0 0, .slice none 0 0], .bool false]) (by simp [results, Try.results53, go_sem, x10, x11, x12, x13]) rfl ?_
    rw [HE.out.1, HE.out.2]
    exact ⟨none, 0, 0, none, 0, 0, [], [], rfl, rfl, rfl, rfl, rfl, OwnD.nil, below_out4 HB2.out (by omega) _ _ _ _⟩
  | true =>
    have HRI := Lib.hid (HR.out hr)
    by_cases hm : 0 < m
    · have dm : decide ((0 : Int) < (m : Int)) = true := by simp; omega
      have dm' : decide (0 < m) = true := by simp; omega
      have HNO := Lib.hid (bendK_bad (r := r) (s := s) (t := t) (g := g) (fun hh => by have := HMM.out; rw [hh.2.1] at this; simp at this; omega))
      have HE := Lib.hid (bend_no HNO.out)
      go_wp2
      refine bodyPost_ret (v := .tuple #[.agg #[.int .i64 0, .int .i64 0, .slice none 0 0, .slice none 0 0], .bool false]) (by simp [results, Try.results53, go_sem, x10, x11, x12, x13]) rfl ?_
      rw [HE.out.1, HE.out.2]
      exact ⟨none, 0, 0, none, 0, 0, [], [], rfl, rfl, rfl, rfl, rfl, OwnD.nil, below_out4 HB2.out (by omega) _ _ _ _⟩
    · have dm : decide ((0 : Int) < (m : Int)) = false := by simp; omega
      have dm' : decide (0 < m) = false := by simp; omega
      have HOPS : Hid (r.ops = []) := Lib.hid (List.eq_nil_of_length_eq_zero (by rw [HMM.out]; omega))
      by_cases hg : 1 ≤ g ∧ g ≤ 255
      · obtain ⟨hg1, hg2⟩ := hg
        have HFI := Lib.hid (bendK_fine (r := r) (s := s) (t := t) (g := g) ⟨hr, HOPS.out, hg1, hg2⟩)
        obtain ⟨q, rfl⟩ : ∃ q : Nat, g = (q : Int) := ⟨g.toNat, by omega⟩
        go_wp2_with fail
        refine (CC.out _ HB2.out).mono ?_
        rintro e w3 ⟨A1, c3, B1, d1, es1, os1, rfl, hf1, ho1, hd1, hb3⟩
        have hos : os1 = [] := by rw [HOPS.out] at ho1; exact List.map_eq_nil_iff.1 ho1
        subst hos
        have HB3 := Lib.hid (below_chain HB2.out hb3)
        have K1 := Lib.hid ((J1.out.below hb3).alloc (.cells #[.int .i64 r.room, .int .i64 r.fuse, .slice A1 es1.length c3, .slice B1 0 d1] 26))
        have KX := Lib.hid (FBox.new w3 (.int .i64 r.room) (.int .i64 r.fuse) (.slice A1 es1.length c3) (.slice B1 0 d1) 26)
        have HOW := Lib.hid (hd1.below (below_a1 w3 (.cells #[.int .i64 r.room, .int .i64 r.fuse, .slice A1 es1.length c3, .slice B1 0 d1] 26)))
        have HBX := Lib.hid (HB3.out.alloc HB3.out.size (.cells #[.int .i64 r.room, .int .i64 r.fuse, .slice A1 es1.length c3, .slice B1 0 d1] 26))
        have HGB := Lib.hid (fun (k : Nat) (e : Ent) (hk : es1[k]? = some e) => show ∀ b, e.d.v.ownBlock = some b → b < w3.heap.size from fun b hb => ((hd1.f.dat.own e.d (List.mem_map.2 ⟨e, List.mem_of_getElem? hk, rfl⟩)).lt b hb).2)
        have HF1 := Lib.hid hf1
        have hlo : w.heap.size + 1 < w2.heap.size := l1
        have hw23 : w2.heap.size ≤ w3.heap.size := hb3.size
        have hel : es1.length = n := by have := congrArg List.length hf1; rw [List.length_map, HLEN.out] at this; exact this
        clear hf1 ho1 hd1 hb3 l0 x00 x01 x02 x03 l1 x10 x11 x12 x13 fr10 fr11 fr12 fr13 J0 J1
        rw [hel] at KX K1 HOW HBX
        have HEL := Lib.hid hel
        go_wp2
        generalize w3.alloc (.cells #[.int .i64 r.room, .int .i64 r.fuse, .slice A1 n c3, .slice B1 0 d1] 26) = wb at K1 KX HOW HBX ⊢
        clear hel
        go_loopw [36] (fun i wr => ∃ k : Nat, k ≤ n ∧ i = .int .i64 k ∧ Hid (∀ (p : Nat) (f : FileD), p < k → r.fs[p]? = some f → f.1 = s → 0 ≤ t → ¬ t < (f.2.length : Int)) ∧ Hid (OwnD wr w2.heap.size A1 c3 B1 d1 es1 []) ∧ Hid (FBox wr w3.heap.size (.int .i64 r.room) (.int .i64 r.fuse) (.slice A1 n c3) (.slice B1 0 d1)) ∧ Hid (FBox wr (w.heap.size + 1) (.int .i64 0) (.int .i64 0) (.slice none 0 0) (.slice none 0 0)) ∧ Hid (Below w.heap.size w wr)) (fun i _ => n - (intOf i).toNat)
        case atStart => exact ⟨0, Nat.zero_le _, rfl, Lib.hid (fun p f hp => absurd hp (by omega)), HOW, KX, K1, HBX⟩
        case round =>
          clear HOW KX K1 HBX
          obtain ⟨k, hk, rfl, hnone, hown, hkx, hk1, hbel⟩ := hrel
          by_cases hlt : k < n
          · have hke : k < es1.length := by rw [HEL.out]; exact hlt
            obtain ⟨ba, oa, e, hAA, hba, he, hok, d0, d1'⟩ := hown.out.f.sl.at_ hke
            subst hAA
            have hfk : r.fs[k]? = some e.file := by rw [← HF1.out, List.getElem?_map, he.out]; rfl
            have hxl : e.d.xs.length = e.d.n := hok.out.rd.len
            have hen : e.d.n ≤ 1048576 := by
              have hw := wtF_each (l := r.fs) (f := e.file) (List.mem_of_getElem? hfk)
              have := HWT.out
              unfold DD.weight at this
              have h9 : e.file.2.length = e.d.xs.length := rfl
              omega
            obtain ⟨⟨lk, k0, k1, k2, k3⟩, frk⟩ := hkx.out
            obtain ⟨⟨l1, x10, x11, x12, x13⟩, fr1⟩ := hk1.out
            have fr10 := fr1 0
            have fr11 := fr1 1
            have fr12 := fr1 2
            have fr13 := fr1 3
            clear fr1 frk
            by_cases hhit : e.nm = s ∧ 0 ≤ t ∧ t < (e.d.n : Int)
            · obtain ⟨hnm, ht0, ht1⟩ := hhit
              have HYES : Hid (bendK r s t (q : Int) = some k) := Lib.hid (by
                rw [HFI.out]
                exact hitK_some HRI.out hfk hnm ht0 (by show t < (e.d.xs.length : Int); omega))
              have HE := Lib.hid (bend_yes HYES.out)
              have hq1 := str_eq hnm
              obtain ⟨j, rfl⟩ : ∃ j : Nat, t = (j : Int) := ⟨t.toNat, by omega⟩
              have hjn : j < e.d.n := by omega
              have hxj : j < e.d.xs.length := by omega
              have hsm := hok.out.rd.small _ (List.getElem_mem hxj)
              obtain ⟨g0, x, hA3, hg1', hg2', hx256, hxx, hcx, hfz, hown2⟩ := hown.out.bend (v := e.d.xs[j] ^^^ q) he.out hjn (xor_lt _ _ hsm (by omega))
              have hxe : e.d.xs[j] = x := by have := hxx.out; rw [List.getElem?_eq_getElem hxj] at this; injection this
              rw [hxe] at hown2
              have hg3 : g0 < w3.heap.size := HGB.out k e he.out g0 (by rw [Dat.v, hA3]; rfl)
              have hne1 : ¬ g0 = w3.heap.size := by omega
              have hne1' : ¬ w3.heap.size = g0 := by omega
              have hne2 : ¬ g0 = w.heap.size + 1 := by omega
              have hne2' : ¬ w.heap.size + 1 = g0 := by omega
              have HOWN := Lib.hid hown2
              have HBF := Lib.hid (bent_files (t := (j : Int)) (g := (q : Int)) he.out (by rw [Int.toNat_natCast]; exact hxx.out) HF1.out)
              rw [Int.toNat_natCast, Int.toNat_natCast] at HBF
              have hq8' : bits .xor .u8 (x : Int) (q : Int) = ((x ^^^ q : Nat) : Int) := xor8 x q (by omega) (by omega)
              have hq8 : x ^^^ q < 256 := xor_lt x q hx256 (by omega)
              have hcq : IntKind.u8.wrap (q : Int) = (q : Int) := IntWalk.u8_in _ (by omega)
              have hcv : IntKind.u8.wrap ((x ^^^ q : Nat) : Int) = ((x ^^^ q : Nat) : Int) := IntWalk.u8_in _ (by omega)
              rw [hA3] at d1'
              clear hown2 he hok hfk hxx hxe hA3 hxj hsm hnm
              generalize x ^^^ q = y at hq8' hq8 hcv HOWN HBF
              go_wp2
              refine bodyPost_ret (v := .tuple #[.agg #[.int .i64 r.room, .int .i64 r.fuse, .slice (some ⟨ba, oa, none⟩) n c3, .slice B1 0 d1], .bool true]) (by simp [results, Try.results53, go_sem, x10, x11, x12, x13, l1]) rfl ?_
              rw [HE.out.1, HE.out.2]
              have hst : Below w.heap.size w (wr.setCell ⟨g0, j, none⟩ (.int .u8 (y : Int))) := hbel.out.setCell (p := ⟨g0, j, none⟩) (by show w.heap.size ≤ g0; omega) _
              have hal := (below_out4 hst (b := w.heap.size + 1) (by omega) (.int .i64 r.room) (.int .i64 r.fuse) (.slice (some ⟨ba, oa, none⟩) n c3) (.slice B1 0 d1))
              have hfin := resD_own (w := w) (r := ⟨r.room, r.fuse, bentAt r.fs k (j : Int) (q : Int), []⟩) (x := .bool true) ((HOWN.out.out4 (b := w.heap.size + 1) (by omega) (.int .i64 r.room) (.int .i64 r.fuse) (.slice (some ⟨ba, oa, none⟩) n c3) (.slice B1 0 d1)).below (below_a1 _ (.cells #[.string e.nm, .slice (some ⟨g0, 0, none⟩) e.d.n e.d.c] 93))) (by omega) HBF.out rfl (hal.alloc hal.size _)
              rw [List.length_set, HEL.out] at hfin
              exact hfin
            · have HNEW : Hid (∀ (p : Nat) (f : FileD), p < k + 1 → r.fs[p]? = some f → f.1 = s → 0 ≤ t → ¬ t < (f.2.length : Int)) := Lib.hid (fun p f hp hf hn h0 h1 => by
                rcases Nat.lt_or_ge p k with h | h
                · exact hnone.out p f h hf hn h0 h1
                · obtain rfl : p = k := by omega
                  rw [hfk] at hf
                  injection hf with hf
                  subst hf
                  exact hhit ⟨hn, h0, by rw [← hxl]; exact h1⟩)
              clear he hok hfk hxl
              by_cases hnm : e.nm = s
              · have hq1 := str_eq hnm
                have HNM := Lib.hid hnm
                clear hnm
                by_cases ht0 : 0 ≤ t
                · have ht1 : (e.d.n : Int) ≤ t := Int.not_lt.1 (fun h => hhit ⟨HNM.out, ht0, h⟩)
                  clear hhit
                  go_wp2
                  go_roundw
                  case rel => exact ⟨k + 1, by omega, by go_num, HNEW, Lib.hid (hown.out.below (below_a1 _ _)), Lib.hid (hkx.out.alloc _), Lib.hid (hk1.out.alloc _), Lib.hid (hbel.out.alloc hbel.out.size _)⟩
                  case measure => simp [intOf]; omega
                · have ht1 : t < 0 := by omega
                  go_wp2
                  go_roundw
                  case rel => exact ⟨k + 1, by omega, by go_num, HNEW, Lib.hid (hown.out.below (below_a1 _ _)), Lib.hid (hkx.out.alloc _), Lib.hid (hk1.out.alloc _), Lib.hid (hbel.out.alloc hbel.out.size _)⟩
                  case measure => simp [intOf]; omega
              · have hq1 := str_ne hnm
                clear hnm
                go_wp2
                go_roundw
                case rel => exact ⟨k + 1, by omega, by go_num, HNEW, Lib.hid (hown.out.below (below_a1 _ _)), Lib.hid (hkx.out.alloc _), Lib.hid (hk1.out.alloc _), Lib.hid (hbel.out.alloc hbel.out.size _)⟩
                case measure => simp [intOf]; omega
          · have HNO : Hid (bendK r s t (q : Int) = none) := Lib.hid (by
              rw [HFI.out]
              refine hitK_none fun f hf hn h0 => ?_
              obtain ⟨p, hp, rfl⟩ := List.getElem_of_mem hf
              exact hnone.out p _ (by have := HLEN.out; omega) (List.getElem?_eq_getElem hp) hn h0)
            obtain ⟨⟨l1, x10, x11, x12, x13⟩, fr1⟩ := hk1.out
            have fr10 := fr1 0
            have fr11 := fr1 1
            have fr12 := fr1 2
            have fr13 := fr1 3
            clear fr1
            have HE := Lib.hid (bend_no HNO.out)
            go_wp2
            refine bodyPost_ret (v := .tuple #[.agg #[.int .i64 0, .int .i64 0, .slice none 0 0, .slice none 0 0], .bool false]) (by simp [results, Try.results53, go_sem, x10, x11, x12, x13]) rfl ?_
            rw [HE.out.1, HE.out.2]
            exact ⟨none, 0, 0, none, 0, 0, [], [], rfl, rfl, rfl, rfl, rfl, OwnD.nil, below_out4 hbel.out (by omega) _ _ _ _⟩
      · have HNO := Lib.hid (bendK_bad (r := r) (s := s) (t := t) (g := g) (fun hh => hg ⟨hh.2.2.1, hh.2.2.2⟩))
        by_cases hg1 : g < 1
        · have HE := Lib.hid (bend_no HNO.out)
          go_wp2
          refine bodyPost_ret (v := .tuple #[.agg #[.int .i64 0, .int .i64 0, .slice none 0 0, .slice none 0 0], .bool false]) (by simp [results, Try.results53, go_sem, x10, x11, x12, x13]) rfl ?_
          rw [HE.out.1, HE.out.2]
          exact ⟨none, 0, 0, none, 0, 0, [], [], rfl, rfl, rfl, rfl, rfl, OwnD.nil, below_out4 HB2.out (by omega) _ _ _ _⟩
        · have hg2 : 255 < g := by omega
          have HE := Lib.hid (bend_no HNO.out)
          go_wp2
          refine bodyPost_ret (v := .tuple #[.agg #[.int .i64 0, .int .i64 0, .slice none 0 0, .slice none 0 0], .bool false]) (by simp [results, Try.results53, go_sem, x10, x11, x12, x13]) rfl ?_
          rw [HE.out.1, HE.out.2]
          exact ⟨none, 0, 0, none, 0, 0, [], [], rfl, rfl, rfl, rfl, rfl, OwnD.nil, below_out4 HB2.out (by omega) _ _ _ _⟩
end Go.Proofs.Ytfcomnpoehpgiaa
