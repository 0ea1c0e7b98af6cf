/- The contracts of the functions that say what a power failure leaves: the model's and the program's. -/
import Derived.Test.YtfcomnpoehpgiaaKDiskSync
namespace Go.Proofs.Ytfcomnpoehpgiaa
open Go.RowKit Go.Maps

def clampN (n : Int) (m : Nat) : Nat := if n < 0 then 0 else if (m : Int) < n then m else n.toNat
theorem clampN_le (n : Int) (m : Nat) : clampN n m ≤ m := by
  unfold clampN
  split
  · omega
  · split <;> omega
theorem specClamp (n : Int) (m : Nat) (w : World) (_hm : m ≤ 1048576) (_hn : (Lit.int .i64 n).wf = true) :
    Calls Try.prog 86 #[.int .i64 n, .int .i64 (m : Int)] w fun e w' => e = .returned (.int .i64 (clampN n m : Int)) ∧ w = w' := by
  by_cases h0 : n < 0
  · have e1 : clampN n m = 0 := by unfold clampN; rw [if_pos h0]
    rw [e1]
    clear e1
    go_enter Try.func86, Try.ntmps86
    go_wp2
    go_ret
    exact ⟨rfl, rfl⟩
  · by_cases h1 : (m : Int) < n
    · have e1 : clampN n m = m := by unfold clampN; rw [if_neg h0, if_pos h1]
      rw [e1]
      clear e1
      go_enter Try.func86, Try.ntmps86
      go_wp2
      go_ret
      exact ⟨rfl, rfl⟩
    · have e1 : ((clampN n m : Nat) : Int) = n := by unfold clampN; rw [if_neg h0, if_neg h1]; omega
      rw [e1]
      clear e1
      go_enter Try.func86, Try.ntmps86
      go_wp2
      go_ret
      exact ⟨rfl, rfl⟩

theorem Rd.take {w : World} {A : Option Addr} {n k : Nat} {xs : List Nat} (h : Rd w A n xs) (hk : k ≤ n) : Rd w A k (xs.take k) := by
  refine ⟨by rw [List.length_take, h.len]; omega, fun x hx => h.small x (List.mem_of_mem_take hx), fun hn => ?_⟩
  obtain ⟨b, off, e, hb, hc⟩ := h.lies (by omega)
  refine ⟨b, off, e, hb, fun j x hx => hc j x ?_⟩
  rw [List.getElem?_take] at hx
  split at hx
  · exact hx
  · cases hx
def Dat.cut (d : Dat) (k : Nat) : Dat := ⟨d.A, k, d.c, d.xs.take k⟩
theorem Dat.Ok.cut {w : World} {d : Dat} (h : d.Ok w) {k : Nat} (hk : k ≤ d.n) : (d.cut k).Ok w := ⟨h.rd.take hk, Nat.le_trans hk h.cap⟩
def OpE.cut (o : OpE) (k : Nat) : OpE := ⟨o.kind, o.nm, o.to, o.d.cut k⟩
def cutO (o : OpD) (k : Nat) : OpD := (o.1, o.2.1, o.2.2.1, o.2.2.2.take k)
theorem OpE.cut_op (o : OpE) (k : Nat) : (o.cut k).op = cutO o.op k := rfl
theorem fits_cut (l : List FileD) (o : OpD) (k : Nat) : fitsF l (cutO o k) = fitsF l o := rfl

/-- The files that a power failure leaves. -/
def crashF (r : DD) (n k : Int) : List FileD :=
  match r.ops[clampN n r.ops.length]? with
  | none => r.after (clampN n r.ops.length)
  | some o => if o.1 = 2 then makeF (r.after (clampN n r.ops.length)) (cutO o (clampN k o.2.2.2.length)) else r.after (clampN n r.ops.length)
def crashD (r : DD) (n k : Int) : DD := if r.ok then ⟨r.room, -1, crashF r n k, []⟩ else DD.zero
theorem crashF_some {r : DD} {n k : Int} {m : Nat} (hm : r.ops.length = m) {o : OpD} (h : r.ops[clampN n m]? = some o) (h2 : o.1 = 2) : crashF r n k = makeF (r.after (clampN n m)) (cutO o (clampN k o.2.2.2.length)) := by
  subst hm
  unfold crashF
  rw [h]
  simp [h2]
theorem crashF_other {r : DD} {n k : Int} {m : Nat} (hm : r.ops.length = m) {o : OpD} (h : r.ops[clampN n m]? = some o) (h2 : o.1 ≠ 2) : crashF r n k = r.after (clampN n m) := by
  subst hm
  unfold crashF
  rw [h]
  simp [h2]
theorem crashF_none {r : DD} {n k : Int} {m : Nat} (hm : r.ops.length = m) (h : m ≤ clampN n m) : crashF r n k = r.after (clampN n m) := by
  subst hm
  unfold crashF
  rw [List.getElem?_eq_none h]
theorem take_tot (l : List Nat) (k : Nat) : (l.take k).length ≤ l.length := List.length_take_le' k l
theorem crashF_small {r : DD} (n k : Int) (hok : r.ok = true) : (crashF r n k).length ≤ 12 ∧ totF (crashF r n k) ≤ 600000 := by
  have hl := DD.ok_lim hok
  have hg := DD.after_good hok (clampN n r.ops.length)
  unfold crashF
  split
  · exact ⟨hg.1, by omega⟩
  · rename_i o ho
    obtain ⟨hop, hfit, _⟩ := DD.after_next hok ho
    have hbd := opOkF_bounds hop
    split
    · refine ⟨make_len (by rw [fits_cut]; exact hfit) hg.1, ?_⟩
      have h1 := make_tot (r.after (clampN n r.ops.length)) (cutO o (clampN k o.2.2.2.length))
      have h2 : (cutO o (clampN k o.2.2.2.length)).2.2.2.length ≤ o.2.2.2.length := take_tot _ _
      omega
    · exact ⟨hg.1, by omega⟩
theorem crashD_bulk {r : DD} (n k : Int) : (crashD r n k).bulk ≤ 2097152 := by
  unfold crashD
  split
  · rename_i hok
    have := crashF_small n k hok
    unfold DD.bulk
    simp only [bulkF_tot]
    simp [bulkO]
    omega
  · exact zero_bulk

set_option maxRecDepth 10000 in
set_option maxHeartbeats 4000000 in
theorem specCrash (r : DD) (q k : Int) (hq : (Lit.int .i64 q).wf = true) (hk : (Lit.int .i64 k).wf = true) (A : Option Addr) (n c : Nat) (B : Option Addr) (m d : Nat) (es : List Ent) (os : List OpE) (w : World) (h : Meant w r A n B m es os) (hc : m ≤ d) :
    Calls Try.prog 51 #[.agg #[.int .i64 r.room, .int .i64 r.fuse, .slice A n c, .slice B m d], .int .i64 q, .int .i64 k] w (SeeD w (crashD r q k) (.bool r.ok)) := by
  have C1 := Lib.hid (fun W (hb : Below w.heap.size w W) => (h.below hb).specOk c d)
  have hml := h.modest.ol
  have HMO := Lib.hid h.modest
  have CL := Lib.hid (fun W => specClamp q m W hml hq)
  have hqm : clampN q m ≤ m := clampN_le q m
  have CS := Lib.hid (fun W (hb : Below w.heap.size w W) hok => specSeenN r (clampN q m) A n c B m d es os W (h.below hb) hc hqm hok)
  have HO := Lib.hid h.o
  have HOP := Lib.hid h.ho
  have hmm : r.ops.length = m := by rw [← h.ho, List.length_map]; exact h.o.len
  have HMM := Lib.hid hmm
  have HLI := Lib.hid (fun hok => DD.ok_lim (r := r) hok)
  have HAG := Lib.hid (fun hok => DD.after_good (r := r) hok (clampN q m))
  have HAN := Lib.hid (fun hok o ho => DD.after_next (r := r) hok (k := clampN q m) (o := o) ho)
  have F0 := Lib.hid ((FBox.new w (.int .i64 r.room) (.int .i64 r.fuse) (.slice A n c) (.slice B m d) 26).alloc (.cells #[.int .i64 0, .int .i64 0, .slice none 0 0, .slice none 0 0] 26))
  have F1 := Lib.hid (FBox.second w (.cells #[.int .i64 r.room, .int .i64 r.fuse, .slice A n c, .slice B m d] 26) (.int .i64 0) (.int .i64 0) (.slice none 0 0) (.slice none 0 0) 26)
  have Z1 := Lib.hid (QBox.second w (.cells #[.int .i64 r.room, .int .i64 r.fuse, .slice A n c, .slice B m d] 26) (.int .i64 0) (.int .i64 0) (.slice none 0 0) (.slice none 0 0) 26 (quiet_int _) (quiet_int _) (quiet_sl _ _ _) (quiet_sl _ _ _))
  have HD : Hid (crashD r q k = if r.ok then ⟨r.room, -1, crashF r q k, []⟩ else DD.zero) := Lib.hid rfl
  have H1 : Hid (∀ o : OpD, r.ops[clampN q m]? = some o → o.1 = 2 → crashF r q k = makeF (r.after (clampN q m)) (cutO o (clampN k o.2.2.2.length))) := Lib.hid (fun o ho h2 => crashF_some hmm ho h2)
  have H2 : Hid (∀ o : OpD, r.ops[clampN q m]? = some o → o.1 ≠ 2 → crashF r q k = r.after (clampN q m)) := Lib.hid (fun o ho h2 => crashF_other hmm ho h2)
  have H3 : Hid (m ≤ clampN q m → crashF r q k = r.after (clampN q m)) := Lib.hid (fun ho => crashF_none hmm ho)
  generalize crashD r q k = sd at HD ⊢
  generalize crashF r q k = cf at HD H1 H2 H3
  generalize clampN q m = qq at CL hqm CS HAG HAN H1 H2 H3
  clear h hmm hq
  go_enter Try.func51, Try.ntmps51
  go_wp2_with fail
  refine (C1.out _ (below_a2 _ _ _)).mono ?_
  rintro e w1 ⟨rfl, hb1⟩
  have HB1 := Lib.hid (below_chain (below_a2 w _ _) hb1)
  have G0 := Lib.hid (F0.out.below hb1)
  have G1 := Lib.hid (F1.out.below hb1)
  have Z2 := Lib.hid (Z1.out.below hb1)
  clear hb1 F0 F1 Z1
  obtain ⟨⟨l0, x00, x01, x02, x03⟩, fr0⟩ := G0.out
  obtain ⟨⟨l1, x10, x11, x12, x13⟩, fr1⟩ := G1.out
  have fr10 := fr1 0
  have fr11 := fr1 1
  have fr12 := fr1 2
  have fr13 := fr1 3
  clear fr0 fr1
  cases hr : r.ok with
  | false =>
    have e2 : sd = DD.zero := by rw [HD.out, hr]; rfl
    have HE2 := Lib.hid e2
    clear e2 HD
    go_wp2
    refine bodyPost_ret (v := .tuple #[.agg #[.int .i64 0, .int .i64 0, .slice none 0 0, .slice none 0 0], .bool false]) (by simp [results, Try.results51, go_sem, x10, x11, x12, x13]) rfl ?_
    rw [HE2.out]
    first
      | exact ⟨none, 0, 0, none, 0, 0, [], [], rfl, rfl, rfl, SlF.nil, SlO.nil, below_out4 HB1.out (by omega) _ _ _ _⟩
      | (rw [hr]; exact ⟨none, 0, 0, none, 0, 0, [], [], rfl, rfl, rfl, SlF.nil, SlO.nil, below_out4 HB1.out (by omega) _ _ _ _⟩)
  | true =>
    have e2 : sd = ⟨r.room, -1, cf, []⟩ := by rw [HD.out, hr]; rfl
    have HE2 := Lib.hid e2
    have CS2 := Lib.hid (fun W hb => CS.out W hb hr)
    have HLIM := Lib.hid (HLI.out hr)
    have HAG2 := Lib.hid (HAG.out hr)
    have HAN2 := Lib.hid (HAN.out hr)
    clear e2 HD CS HLI HAG HAN
    go_wp2_with (go_at_call 86; refine (CL.out _).mono ?_; rintro e1 w2 ⟨rfl, rfl⟩)
    refine (CS2.out _ HB1.out).mono ?_
    rintro e w3 ⟨A3, c3, es3, rfl, hf3, hs3, hb3⟩
    have HB3 := Lib.hid (below_chain HB1.out hb3)
    have J0 := Lib.hid (G0.out.below hb3)
    have J1 := Lib.hid (G1.out.below hb3)
    have Z3 := Lib.hid (Z2.out.below hb3)
    have HF3 := Lib.hid hf3
    have HS3 := Lib.hid hs3
    clear hb3 hf3 hs3 l0 x00 x01 x02 x03 l1 x10 x11 x12 x13 fr10 fr11 fr12 fr13
    obtain ⟨⟨l0, x00, x01, x02, x03⟩, fr0⟩ := J0.out
    obtain ⟨⟨l1, x10, x11, x12, x13⟩, fr1⟩ := J1.out
    have fr10 := fr1 0
    have fr11 := fr1 1
    have fr12 := fr1 2
    have fr13 := fr1 3
    clear fr0 fr1
    by_cases hlt : qq < m
    · have dlt : decide ((qq : Int) < (m : Int)) = true := by simp; omega
      have dlt' : decide (qq < m) = true := by simp; omega
      obtain ⟨b, off, e, hB, hbw, he, hok, c0, c1', c2', c3'⟩ := HO.out.at_ hlt
      subst hB
      have c0 := (HB3.out.cell (p := ⟨b, off + qq * 4, none⟩) hbw).trans c0
      have c1' := (HB3.out.cell (p := ⟨b, off + qq * 4 + 1, none⟩) hbw).trans c1'
      have c2' := (HB3.out.cell (p := ⟨b, off + qq * 4 + 2, none⟩) hbw).trans c2'
      have c3' := (HB3.out.cell (p := ⟨b, off + qq * 4 + 3, none⟩) hbw).trans c3'
      have hoe : r.ops[qq]? = some e.op := by rw [← HOP.out, List.getElem?_map, he.out]; rfl
      by_cases h2 : e.kind = 2
      · have hcf := H1.out e.op hoe h2
        have hxl : e.op.2.2.2.length = e.d.n := hok.out.rd.len
        rw [hxl] at hcf
        have HCF := Lib.hid hcf
        obtain ⟨hop, hfit, _⟩ := HAN2.out e.op hoe
        have hbd := opOkF_bounds hop
        have hen : e.d.n ≤ 200000 := by rw [← hxl]; exact hbd.2
        have hkl : clampN k e.d.n ≤ e.d.n := clampN_le k e.d.n
        have CK := Lib.hid (fun W => specClamp k e.d.n W (by omega) hk)
        have hl3 : es3.length ≤ 12 := by have h9 := congrArg List.length HF3.out; rw [List.length_map] at h9; have := HAG2.out.1; omega
        have hes3 : ∀ x ∈ es3, x.d.n ≤ 1048576 := fun x hx => by
          have h1 := bulkE hx (HS3.out.each x hx)
          rw [HF3.out] at h1
          have := HAG2.out.2
          have := HLIM.out
          omega
        have hfit2 : fitsF (es3.map Ent.file) (e.cut (clampN k e.d.n)).op = true := by rw [HF3.out]; exact hfit
        have HOKE := Lib.hid (hok.out.below HB3.out)
        have CM := Lib.hid (fun W (hb : Below w3.heap.size w3 W) => specMake A3 es3.length c3 es3 (e.cut (clampN k e.d.n)) W (HS3.out.below hb) (by omega) ((HOKE.out.below hb).cut hkl) (fun hh => fitsF_has hfit2 hh) hes3 (by show clampN k e.d.n ≤ 1048576; omega))
        have hk2 : (e.kind == 2) = true := by simp [h2]
        have HCU : Hid ((e.cut (clampN k e.d.n)).op = cutO e.op (clampN k e.d.n)) := Lib.hid rfl
        have hcd : e.d.n ≤ e.d.c := hok.out.cap
        have ON := Lib.hid (FBox.new w3 (.int .i64 e.kind) (.string e.nm) (.string e.to) (.slice e.d.A e.d.n e.d.c) 30)
        clear hoe hcf hxl hop hfit hbd hes3 hfit2 he hok
        generalize hkk : clampN k e.d.n = kk at hkl CK CM HCU HCF
        clear hkk h2
        go_wp2
        go_region_with (go_at_call 86; ((with_reducible refine (CK.out _).mono ?_)); rintro e1 wz ⟨rfl, rfl⟩)
        all_goals
          go_wp2_with fail
          refine (CM.out _ (below_a1 w3 _).drew).mono ?_
          rintro e1 w6 ⟨A6, c6, es6, rfl, hf6, hs6, hb6⟩
          have HB36 : Hid (Below w3.heap.size w3 w6) := Lib.hid (below_chain (below_a1 w3 (.cells #[.int .i64 e.kind, .string e.nm, .string e.to, .slice e.d.A kk e.d.c] 30)).drew hb6)
          have HF6 := Lib.hid hf6
          have HS6 := Lib.hid hs6
          have T0 := Lib.hid (J0.out.below HB36.out)
          have T1 := Lib.hid (J1.out.below HB36.out)
          have Z6 := Lib.hid (Z3.out.below HB36.out)
          clear hf6 hs6 hb6 l0 x00 x01 x02 x03 l1 x10 x11 x12 x13 fr10 fr11 fr12 fr13 c0 c1' c2' c3'
          obtain ⟨⟨l0, x00, x01, x02, x03⟩, fr0⟩ := T0.out
          obtain ⟨⟨l1, x10, x11, x12, x13⟩, fr1⟩ := T1.out
          have fr10 := fr1 0
          have fr11 := fr1 1
          have fr12 := fr1 2
          have fr13 := fr1 3
          clear fr0 fr1
          go_wp2
          refine bodyPost_ret (v := .tuple #[.agg #[.int .i64 r.room, .int .i64 (-1), .slice A6 es6.length c6, .slice none 0 0], .bool true]) (by simp [results, Try.results51, go_sem, x10, x11, x12, x13]) rfl ?_
          rw [HE2.out]
          try rw [hr]
          exact ⟨A6, es6.length, c6, none, 0, 0, es6, [], rfl, by rw [HF6.out, HCU.out, HF3.out]; exact HCF.out.symm, rfl, HS6.out.off Z6.out (OffB.out4 _ _ _ _ _ _), SlO.nil, below_out4 (below_chain HB3.out HB36.out) (by omega) _ _ _ _⟩
      · have hcf := H2.out e.op hoe h2
        have HCF := Lib.hid hcf
        have hk2 : (e.kind == 2) = false := by simp [h2]
        clear hoe hcf he hok h2
        go_wp2
        refine bodyPost_ret (v := .tuple #[.agg #[.int .i64 r.room, .int .i64 (-1), .slice A3 es3.length c3, .slice none 0 0], .bool true]) (by simp [results, Try.results51, go_sem, x10, x11, x12, x13]) rfl ?_
        rw [HE2.out]
        try rw [hr]
        exact ⟨A3, es3.length, c3, none, 0, 0, es3, [], rfl, HF3.out.trans HCF.out.symm, rfl, HS3.out.off Z3.out (OffB.out4 _ _ _ _ _ _), SlO.nil, below_out4 HB3.out (by omega) _ _ _ _⟩
    · have dlt : decide ((qq : Int) < (m : Int)) = false := by simp; omega
      have dlt' : decide (qq < m) = false := by simp; omega
      have HCF := Lib.hid (H3.out (by omega))
      go_wp2
      refine bodyPost_ret (v := .tuple #[.agg #[.int .i64 r.room, .int .i64 (-1), .slice A3 es3.length c3, .slice none 0 0], .bool true]) (by simp [results, Try.results51, go_sem, x10, x11, x12, x13]) rfl ?_
      rw [HE2.out]
      try rw [hr]
      exact ⟨A3, es3.length, c3, none, 0, 0, es3, [], rfl, HF3.out.trans HCF.out.symm, rfl, HS3.out.off Z3.out (OffB.out4 _ _ _ _ _ _), SlO.nil, below_out4 HB3.out (by omega) _ _ _ _⟩
end Go.Proofs.Ytfcomnpoehpgiaa
