/- The contract of the program's method iterate: one iteration of a valid run, in place. Conditions: the run is valid and its count is below the greatest. // The contract of the program's function that copies a set: new bytes. // Copies of runs, the program's: slices.Clone at numbers, copyRun. Condition: at most 2^21 numbers or bytes. -/
import Derived.Test.YtlhcobkncceodaaGreatDoorCGD
import Derived.Test.YtlhcobkncceodaaGreatDoorCGK
import Derived.Test.YtlhcobkncceodaaGreatDoorCGJ
import Derived.Laws.CopyOwn
import Derived.Test.YtlhcobkncceodaaGreatDoorCGC
import Derived.Test.YtlhcobkncceodaaGreatDoorCGG
namespace Go.Proofs.YtlhcobkncceodaaGreatDoor
open Go.RowKit
set_option linter.unusedVariables false

/-- What an iteration in place leaves. -/
def Iterated (w0 w : World) (b : Nat) (A : Option Addr) (n c : Nat) (B : Option Addr) (m d : Nat) (C : Option Addr) (j k : Nat) (N : Nat) (r : RD) (e : Ending) (w' : World) : Prop :=
  e = .returned (.tuple #[]) ∧ ∃ C' j' k', RSt w' w0.heap.size b r.p r.s r.it r.dn A n c B m d (N : Int) C' j' k' r.vs r.ev r.nx ∧ Below w0.heap.size w0 w' ∧ OnlyB (iterBlk b A n c B m d C j k) w w'
set_option maxRecDepth 20000 in
set_option maxHeartbeats 8000000 in
theorem implIterate (w0 w : World) (b : Nat) (p s it : Int) (dn : Bool) (A : Option Addr) (n c : Nat) (B : Option Addr) (m d : Nat) (C : Option Addr) (j k : Nat) (vs ev : List Int) (nx : List Nat) (N : Nat) (AG : Option Addr) (l cG : Nat) (G : List GE) (hw : Wts w0) (hg : SlG w0 AG l G) (hrun : RunP N G ⟨p, s, it, dn, vs, ev, (N : Int), nx⟩) (hsm : SmallR ⟨p, s, it, dn, vs, ev, (N : Int), nx⟩) (hst : RSt w w0.heap.size b p s it dn A n c B m d (N : Int) C j k vs ev nx) (hbl : Below w0.heap.size w0 w) :
    Calls Tryz.prog 46 #[.pointer (some ⟨b, 0, none⟩), .agg #[.int .i64 (N : Int), .slice AG l cG]] w (Iterated w0 w b A n c B m d C j k N (iterR (N : Int) G ⟨p, s, it, dn, vs, ev, (N : Int), nx⟩)) := by
  have hgood := start_good hrun hsm
  have hG := hrun.g
  have hN := hrun.n150
  have hit := hrun.i
  have hp := hrun.prog
  simp only at hit hp
  have HPG := Lib.hid (pass_good hG hgood)
  obtain ⟨f, hf⟩ : ∃ f : Nat → SD, f = pass p (N : Int) G (startS (N : Int) ⟨p, s, it, dn, vs, ev, (N : Int), nx⟩) := ⟨_, rfl⟩
  have HF0 : Hid (f 0 = ⟨vs, ev, newX (N : Int) false, nx⟩) := Lib.hid (by rw [hf]; rfl)
  have HFS : Hid (∀ q, f (q + 1) = if bitN (f q).nw q then vstep p (N : Int) G (f q) q else f q) := Lib.hid (fun q => by rw [hf]; rfl)
  have HIR : Hid (iterR (N : Int) G ⟨p, s, it, dn, vs, ev, (N : Int), nx⟩ = ⟨p, s, it + 1, decide ((memsB (N : Int) (f N).nx).length = 0), (f N).vs, (f N).ev, (N : Int), (f N).nx⟩) := Lib.hid (by rw [hf]; unfold iterR; simp only [Int.toNat_natCast])
  have HGD : Hid (∀ q, q ≤ N → Good p N G (f q)) := Lib.hid (fun q hq => by rw [hf]; exact HPG.out q hq)
  have HNN : Hid (newN (N : Int) = (N : Int)) := Lib.hid (by unfold newN newB; rw [if_pos (by simp; omega)])
  have CN := Lib.hid (fun W (h : Below w0.heap.size w0 W) => implSetNew (N : Int) false W (hw.below h) (WalkArith.wf_i64 (by omega)))
  unfold MadeSB at CN
  rw [HNN.out] at CN
  have HWW := Lib.hid hw
  have HGG := Lib.hid hg
  have HGR := Lib.hid hG
  have hlen := hst.nl
  obtain ⟨oA, oB, oC⟩ : (∀ g, (Value.slice A n c).ownBlock = some g → g < w.heap.size) ∧ (∀ g, (Value.slice B m d).ownBlock = some g → g < w.heap.size) ∧ ∀ g, (Value.slice C j k).ownBlock = some g → g < w.heap.size := ⟨fun g hg => (hst.v.lt g hg).2, fun g hg => (hst.e.lt g hg).2, fun g hg => (hst.x.lt g hg).2⟩
  have OA := Lib.hid oA
  have OB := Lib.hid oB
  have OC := Lib.hid oC
  have HLB := Lib.hid hst.lb
  have hbw := hst.bx.lt
  have HBW := Lib.hid hbw
  clear hf HPG hgood hG hrun hsm hw hg oA oB oC
  have S0 := Lib.hid (hst.below (below_a1 w (.cells #[.int .i64 (N : Int), .slice AG l cG] 25)))
  have H0 := Lib.hid (g_chain hbl (below_a1 w (.cells #[.int .i64 (N : Int), .slice AG l cG] 25)))
  have BG := Lib.hid (Blk.new w #[.int .i64 (N : Int), .slice AG l cG] 25)
  have O0 := Lib.hid ((OnlyB.refl (iterBlk b A n c B m d C j k) w).below (below_a1 w (.cells #[.int .i64 (N : Int), .slice AG l cG] 25)))
  clear hst hbl
  have r6 := S0.out.bx.cell (i := 6) rfl
  have r7 := S0.out.bx.cell (i := 7) rfl
  have rl := S0.out.bx.lt
  go_enter Tryz.func46, Tryz.ntmps46
  go_wp2_with fail
  have S1 := Lib.hid (S0.out.below (below_a1 _ (.cells #[.int .i64 (N : Int), .slice C j k] 30)))
  have H1 := Lib.hid (g_chain H0.out (below_a1 _ (.cells #[.int .i64 (N : Int), .slice C j k] 30)))
  have BG1 := Lib.hid (BG.out.alloc (.cells #[.int .i64 (N : Int), .slice C j k] 30))
  have BN1 : Hid (Blk ((w.alloc (.cells #[.int .i64 (N : Int), .slice AG l cG] 25)).alloc (.cells #[.int .i64 (N : Int), .slice C j k] 30)) (w.heap.size + 1) #[.int .i64 (N : Int), .slice C j k] 30) := Lib.hid (by have h := Blk.new (w.alloc (.cells #[.int .i64 (N : Int), .slice AG l cG] 25)) #[.int .i64 (N : Int), .slice C j k] 30; simpa using h)
  have O1 := Lib.hid (O0.out.below (below_a1 _ (.cells #[.int .i64 (N : Int), .slice C j k] 30)))
  have HTX := Lib.hid S1.out.x.lt
  have HZ1 : Hid (w.heap.size + 2 ≤ ((w.alloc (.cells #[.int .i64 (N : Int), .slice AG l cG] 25)).alloc (.cells #[.int .i64 (N : Int), .slice C j k] 30)).heap.size) := Lib.hid (by simp)
  clear S0 H0 BG O0 r6 r7 rl
  refine (CN.out _ H1.out).mono ?_
  rintro r w1 ⟨C1, k1, rfl, ho, hb⟩
  have S2 := Lib.hid (S1.out.below hb)
  have H2 := Lib.hid (g_chain H1.out hb)
  have BG2 := Lib.hid (BG1.out.below hb)
  have BN2 := Lib.hid (BN1.out.below hb)
  have O2 := Lib.hid (O1.out.below hb)
  have HAP := Lib.hid (own_time HTX.out ho (Nat.le_refl _))
  have HO1 := Lib.hid (own_monoG (lo' := w0.heap.size) ho H1.out.size)
  have HC1 : Hid (∀ g, (Value.slice C1 (newX (N : Int) false).length k1).ownBlock = some g → w.heap.size + 2 ≤ g) := Lib.hid (fun g hg => by have h1 := (ho.lt g hg).1; have h2 := HZ1.out; omega)
  clear ho hb S1 H1 BG1 BN1 O1 HTX HZ1
  have SU := Lib.hid (S2.out.newNext rfl H2.out HO1.out (ap_other HAP.out) (N : Int))
  have hgr := (grown_cell w1 b 6 (.int .i64 (N : Int))).trans (grown_cell (w1.setCell ⟨b, 6, none⟩ (.int .i64 (N : Int))) b 7 (.slice C1 (newX (N : Int) false).length k1))
  have hbw := HBW.out
  have BG3 := Lib.hid (BG2.out.grown hgr (by intro e; injection e with e; omega))
  have BN3 := Lib.hid (BN2.out.grown hgr (by intro e; injection e with e; omega))
  have O3 := Lib.hid (O2.out.grown hgr (fun i hi => by injection hi with hi; exact .inl hi.symm))
  have r6 := S2.out.bx.cell (i := 6) rfl
  have r7 := S2.out.bx.cell (i := 7) rfl
  have rl := S2.out.bx.lt
  have rf := fun i => S2.out.bx.frozen i
  have g0 := BG2.out.cell (i := 0) rfl
  have gl := BG2.out.lt
  clear hgr HAP HO1 S2 H2 BG2 BN2 O2 CN
  go_wp2
  go_loopw [21] (fun i wr => ∃ q : Nat, q ≤ N ∧ i = .int .i64 (q : Int) ∧ Hid (USt w0 wr b p s it dn A n c B m d (N : Int) C1 (newX (N : Int) false).length k1 C j k (f q).vs (f q).ev (f q).nx (f q).nw) ∧ Hid (Blk wr w.heap.size #[.int .i64 (N : Int), .slice AG l cG] 25) ∧ Hid (Blk wr (w.heap.size + 1) #[.int .i64 (N : Int), .slice C j k] 30) ∧ Hid (OnlyB (iterBlk b A n c B m d C j k) w wr)) (fun i _ => N - (intOf i).toNat)
  case atStart => exact ⟨0, Nat.zero_le _, rfl, by rw [HF0.out]; exact SU, BG3, BN3, O3⟩
  case round =>
    clear SU BG3 BN3 O3 r6 r7 rl rf g0 gl HF0
    obtain ⟨q, hq, rfl, hst, hbg, hbn, hon⟩ := hrel
    have HGq := Lib.hid (HGD.out q hq)
    by_cases hlt : q < N
    · have HFq := Lib.hid (HFS.out q)
      obtain ⟨T, HT⟩ : ∃ T, Hid (f q = T) := ⟨_, Lib.hid rfl⟩
      obtain ⟨cvs, cev, cnx, cnw⟩ := T
      rw [HT.out] at hst HGq HFq
      simp only at hst HFq
      have hcj : cnw.length = j := by have h9 := hst.out.d.1; rw [vb_length] at h9; omega
      have hsb := (setB_dim HGq.out.nw).2.2
      simp only [Int.toNat_natCast] at hsb
      have hq8 : q / 8 < bytesN N := lt_bytes hlt
      have hj8 : q / 8 < j := by omega
      have CM := Lib.hid (fun W (h : USt w0 W b p s it dn A n c B m d (N : Int) C1 (newX (N : Int) false).length k1 C j k cvs cev cnx cnw) => marked_any (N : Int) C j k q cnw W (HWW.out.below h.h) (Rd.of_own h.d HGq.out.nws) hj8 (by omega))
      have CU := Lib.hid (fun W (h : USt w0 W b p s it dn A n c B m d (N : Int) C1 (newX (N : Int) false).length k1 C j k cvs cev cnx cnw) => implUpdRun w0 W b p s it dn A n c B m d (N : Int) C1 (newX (N : Int) false).length k1 (N : Int) C j k cvs cev cnx cnw N AG l cG G q HWW.out HGG.out HGR.out hp HGq.out hlt h)
      clear hcj hsb hq8 hj8
      have n0 := hbn.out.cell (i := 0) rfl
      have n1 := hbn.out.cell (i := 1) rfl
      have nl := hbn.out.lt
      cases hbit : bitN cnw q with
      | false =>
        rw [hbit] at CM
        have HFT : Hid (f (q + 1) = ⟨cvs, cev, cnx, cnw⟩) := Lib.hid (by rw [HFq.out, hbit]; rfl)
        clear hbit CU
        go_wp2_with fail
        refine (CM.out _ hst.out).mono ?_
        rintro r w2 ⟨rfl, hb⟩
        have S4 := Lib.hid (hst.out.below hb)
        have BG4 := Lib.hid (hbg.out.below hb)
        have BN4 := Lib.hid (hbn.out.below hb)
        have O4 := Lib.hid (hon.out.below hb)
        clear hb hst hbg hbn hon n0 n1 nl
        go_wp2
        go_roundw
        case rel => exact ⟨q + 1, by omega, by go_num, by rw [HFT.out]; exact S4, BG4, BN4, O4⟩
        case measure => simp [intOf]; omega
      | true =>
        rw [hbit] at CM
        have HFT : Hid (f (q + 1) = vstep p (N : Int) G ⟨cvs, cev, cnx, cnw⟩ q) := Lib.hid (by rw [HFq.out, hbit]; rfl)
        clear hbit
        go_wp2_with fail
        refine (CM.out _ hst.out).mono ?_
        rintro r w2 ⟨rfl, hb⟩
        have S4 := Lib.hid (hst.out.below hb)
        have BG4 := Lib.hid (hbg.out.below hb)
        have BN4 := Lib.hid (hbn.out.below hb)
        have O4 := Lib.hid (hon.out.below hb)
        clear hb hst hbg hbn hon n0 n1 nl
        have n0 := BN4.out.cell (i := 0) rfl
        have n1 := BN4.out.cell (i := 1) rfl
        have nl := BN4.out.lt
        have g0 := BG4.out.cell (i := 0) rfl
        have g1 := BG4.out.cell (i := 1) rfl
        have gl := BG4.out.lt
        go_wp2_with fail
        refine (CU.out _ S4.out).mono ?_
        rintro r w3 ⟨rfl, hus, hou⟩
        have S5 := Lib.hid hus
        have hno : ∀ z, w.heap.size ≤ z → z < w.heap.size + 2 → ¬ updBlk A n c B m d C1 (newX (N : Int) false).length k1 C j k z := by
          rintro z h1 h2 (h | h | h | h)
          · have := OA.out _ h; omega
          · have := OB.out _ h; omega
          · have := HC1.out _ h; omega
          · have := OC.out _ h; omega
        have BG5 := Lib.hid (hou.blk BG4.out (hno _ (Nat.le_refl _) (by omega)))
        have BN5 := Lib.hid (hou.blk BN4.out (hno _ (by omega) (by omega)))
        have O5 := Lib.hid (O4.out.also hou (by
          rintro i (h | h | h | h)
          · exact .inl (.inr (.inl h))
          · exact .inl (.inr (.inr (.inl h)))
          · exact .inr (by have := HC1.out _ h; omega)
          · exact .inl (.inr (.inr (.inr h)))))
        clear hno hus hou S4 BG4 BN4 O4 n0 n1 nl g0 g1 gl
        go_wp2
        go_roundw
        case rel => exact ⟨q + 1, by omega, by go_num, by rw [HFT.out]; exact S5, BG5, BN5, O5⟩
        case measure => simp [intOf]; omega
    · obtain rfl : q = N := by omega
      have hwi : IntKind.i64.wrap (it + 1) = it + 1 := IntWalk.i64_in _ (by omega)
      have S6 := Lib.hid (hst.out.r.setIt (it + 1))
      have H6 := Lib.hid (hst.out.h.grown (grown_cell wr b 2 (.int .i64 (it + 1))) hst.out.h.size (fun z hz => by injection hz with hz; have := HLB.out; omega))
      have O6 := Lib.hid (hon.out.grown (grown_cell wr b 2 (.int .i64 (it + 1))) (fun z hz => by injection hz with hz; exact .inl hz.symm))
      have hxl : (newX (q : Int) false).length ≤ 2097152 := by rw [newX_is hN false]; unfold fillV bytesN; simp; omega
      have CH := Lib.hid (fun W (h : Below w0.heap.size w0 W) (h2 : W.ownsRow w0.heap.size 5 1 (.slice C1 (newX (q : Int) false).length k1) (newX (q : Int) false).length (vb (f q).nx)) => hasNone_any (q : Int) C1 (newX (q : Int) false).length k1 (f q).nx W (HWW.out.below h) (Rd.of_own h2 HGq.out.nxs) hxl)
      clear hxl
      generalize decide ((memsB (q : Int) (f q).nx).length = 0) = zb at CH HIR
      have r2 := hst.out.r.bx.cell (i := 2) rfl
      have r6 := hst.out.r.bx.cell (i := 6) rfl
      have r7 := hst.out.r.bx.cell (i := 7) rfl
      have rl := hst.out.r.bx.lt
      have rf := fun i => hst.out.r.bx.frozen i
      clear hst hbg hbn hon
      go_wp2_with fail
      refine (CH.out _ H6.out S6.out.x).mono ?_
      rintro r w2 ⟨rfl, hb⟩
      have S7 := Lib.hid (S6.out.below hb)
      have H7 := Lib.hid (g_chain H6.out hb)
      have O7 := Lib.hid (O6.out.below hb)
      clear hb S6 H6 O6 r2 r6 r7 rl rf
      have r3 := S7.out.bx.cell (i := 3) rfl
      have rl := S7.out.bx.lt
      have rf := fun i => S7.out.bx.frozen i
      have S8 := Lib.hid (S7.out.setDn zb)
      have H8 := Lib.hid (H7.out.grown (grown_cell w2 b 3 (.bool zb)) H7.out.size (fun z hz => by injection hz with hz; have := HLB.out; omega))
      have O8 := Lib.hid (O7.out.grown (grown_cell w2 b 3 (.bool zb)) (fun z hz => by injection hz with hz; exact .inl hz.symm))
      clear S7 H7 O7
      go_wp2
      go_end0
      rw [HIR.out]
      exact ⟨rfl, C1, _, k1, S8.out, H8.out, O8.out⟩
end Go.Proofs.YtlhcobkncceodaaGreatDoor
namespace Go.Proofs.YtlhcobkncceodaaGreatDoor
open Go.RowKit
set_option linter.unusedVariables false

theorem row_blk {w : World} {base e n g : Nat} {xs : List Value} (h : w.ownsRow base e 1 (.slice (some ⟨g, 0, none⟩) n n) n xs) : w.heap[g]? = some (.cells xs.toArray e (0, 0)) := by
  obtain ⟨hl, h2⟩ := h
  rcases h2 with ⟨h2, _⟩ | ⟨g', cap, cur, e1, _, hg, _, _, hs, ht⟩
  · cases h2
  · injection e1 with e1 _ e3
    injection e1 with e1
    injection e1 with e1
    subst e1 e3
    rw [List.take_of_length_le (by simp; omega)] at ht
    subst ht
    simpa using hg
theorem blk_row {w : World} {base e n g : Nat} {xs : List Value} (h : w.heap[g]? = some (.cells xs.toArray e (0, 0))) (hb : base ≤ g) (hl : xs.length = n) (hn : n ≤ maxLen) : w.ownsRow base e 1 (.slice (some ⟨g, 0, none⟩) n n) n xs :=
  ⟨by omega, .inr ⟨g, n, xs.toArray, rfl, hb, h, Nat.le_refl _, hn, by simp [hl], by rw [Nat.mul_one]; exact List.take_of_length_le (by show xs.length ≤ n; omega)⟩⟩
theorem Rd.src {w : World} {A : Option Addr} {n : Nat} {xs : List Nat} (h : Rd w A n xs) (hn : 0 < n) : ∃ ad, A = some ad ∧ ∀ j v, (vb xs)[j]? = some v → w.cell? (ad.add j) = some v := by
  obtain ⟨b, off, e, _, hc⟩ := h.lies hn
  refine ⟨⟨b, off, none⟩, e, fun j v hv => ?_⟩
  rw [vb_get] at hv
  obtain ⟨x, hx, rfl⟩ := Option.map_eq_some_iff.1 hv
  have hx2 : ((⟨b, off, none⟩ : Addr).add j) = ⟨b, off + j, none⟩ := by unfold Addr.add; split <;> simp_all
  rw [hx2]
  exact hc j x hx
theorem grownBy_none {w w' : World} (h : w.grownBy w' none) : Below w.heap.size w w' := ⟨h.os, h.tape, h.output, h.size, fun k hk => h.block k hk (by simp)⟩
set_option maxRecDepth 10000 in
set_option maxHeartbeats 8000000 in
theorem implCopySet (N : Int) (A : Option Addr) (n c : Nat) (xs : List Nat) (w : World) (hr : Rd w A n xs) (hn : n ≤ 2097152) :
    Calls Tryz.prog 72 #[.agg #[.int .i64 N, .slice A n c]] w (MadeS w N xs) := by
  obtain ⟨i0, hi, hz0, hz1, hz2⟩ := info_parts Tryz.infoByte
  have HL := Lib.hid hr.len
  have HR := Lib.hid hr
  clear hr
  have HB0 := Lib.hid ((SBx.new w N A n c).below (below_a1 _ (.cells #[.int .i64 0, .slice none 0 0] 30)))
  have HB1 := Lib.hid (SBx.new1 w (.cells #[.int .i64 N, .slice A n c] 30) 0 none 0 0)
  have HSZ : Hid ((Tryz.prog.info? 5).map (·.size) = some 1) := Lib.hid (by rw [hi]; simp [hz1])
  have HLV : Hid ((vb xs).length = Nat.min n n) := Lib.hid (by rw [vb_length, HL.out]; exact (Nat.min_self n).symm)
  have HRF := Lib.hid (fun W (h : Below w.heap.size w W) (h0 : 0 < (vb xs).length) => (HR.out.below h).src (by rw [vb_length, HL.out] at h0; exact h0))
  go_enter Tryz.func72, Tryz.ntmps72
  go_wp2_with (first
    | (refine wpList_make_full _ rfl (.tmp 6) (.tmp 6) 22 rfl (w.heap.size + 2) 5 i0 (.int .u8 0) 1 Tryz.underlying22 hi hz0 hz1 .i64 .i64 _ _ n rfl rfl rfl rfl (by rw [hz2]; omega) (by unfold maxLen; omega) (by simp) ?_; intro w1 hown hg; have BL1 := Lib.hid (grownBy_none hg); have HBW := Lib.hid (s_chain (below_a2 _ _ _) BL1.out); have X0 := Lib.hid (HB0.out.below BL1.out); have X1 := Lib.hid (HB1.out.below BL1.out); obtain ⟨l0, c00, c01, f00, f01⟩ := X0.out.parts; obtain ⟨l1, c10, c11, f10, f11⟩ := X1.out.parts; generalize (madeCells (Value.int IntKind.u8 0).cells (n * 1)).toList = zs at hown; have HZL := Lib.hid hown.1; have HOW : Hid (w1.heap[w.heap.size + 1 + 1]? = some (.cells zs.toArray 5 (0, 0))) := Lib.hid (by have h9 := row_blk hown; simpa using h9); clear hown hg)
    | (with_reducible refine wpList_copy_splice rfl (.tmp 8) (.tmp 10) 22 22 rfl 5 Tryz.underlying22 HSZ.out _ _ _ _ _ _ rfl rfl (w.heap.size + 1 + 1) 0 zs 5 HOW.out (vb xs) HLV.out (fun h => ⟨rfl, HRF.out _ HBW.out h⟩) ?fit (vb_oneCell xs) (w.heap.size + 2) w1 (Below.refl _ _) (by omega) ?_; (case fit => have h8 := HZL.out; have h9 := HLV.out; simp only [Nat.min_self] at h9; omega); intro w2 HG2 hb2; have HB2 := Lib.hid hb2; have Y0 := Lib.hid (X0.out.keep (hb2.block _ (by omega))); have Y1 := Lib.hid (X1.out.keep (hb2.block _ (by omega))); clear l0 c00 c01 l1 c10 c11 f00 f01 f10 f11 hb2; obtain ⟨l0, c00, c01, f00, f01⟩ := Y0.out.parts; obtain ⟨l1, c10, c11, f10, f11⟩ := Y1.out.parts))
  refine bodyPost_ret (v := .agg #[.int .i64 N, .slice (some ⟨w.heap.size + 1 + 1, 0, none⟩) n n]) (by simp [results, Tryz.results72, go_sem, c10, c11]) rfl ?_
  have HSP : splice zs 0 (vb xs) = vb xs := by
    have h1 := HZL.out
    have h2 := HL.out
    unfold splice
    rw [List.take_zero, List.nil_append, List.drop_eq_nil_of_le (by rw [vb_length]; omega), List.append_nil]
  have hrow := HG2.out
  rw [HSP] at hrow
  have e := HL.out
  subst e
  refine ⟨_, _, rfl, ?_, below_set2 (HBW.out.trans (HB2.out.mono (by omega))) (by omega) _ _⟩
  exact own_monoG (own_set2 (lo := w.heap.size + 2) (blk_row hrow (by omega) (vb_length xs) (by unfold maxLen; omega)) (by omega) _ _) (by omega)
end Go.Proofs.YtlhcobkncceodaaGreatDoor
namespace Go.Proofs.YtlhcobkncceodaaGreatDoor
open Go.RowKit
set_option linter.unusedVariables false

set_option maxRecDepth 10000 in
theorem cloneInts (A : Option Addr) (n c : Nat) (xs : List Int) (w : World) (hr : SlI w A n xs) (hn : n ≤ 2097152) :
    Calls Tryz.prog 83 #[.slice A n c] w (MadeN w n xs) := by
  obtain ⟨i0, hi, hz0, hz1, hz2⟩ := info_parts Tryz.infoInt
  rcases A with _ | a
  · obtain rfl : n = 0 := by
      rcases Nat.eq_zero_or_pos n with h | h
      · exact h
      · obtain ⟨_, _, h, _⟩ := hr.row.lies h
        cases h
    obtain rfl : xs = [] := List.eq_nil_of_length_eq_zero hr.len
    have e1 := fun w : World => Lib.run_eql_slice_nil (P := Tryz.prog) w 28 3 none 0 c 0 0 Tryz.underlying28
    go_enter Tryz.func83, Tryz.ntmps83
    go_wp2
    go_ret
    exact ⟨none, 0, rfl, World.ownsRow_nil _ _ _ _, Below.refl _ _⟩
  · have e1 := fun w : World => Lib.run_eql_slice_nil (P := Tryz.prog) w 28 3 (some a) n c 0 0 Tryz.underlying28
    have HR := Lib.hid ((hr.below (below_a1 w (.cells #[] 3))).row.reads)
    have HLB := Lib.hid (lab_built w)
    have HL := Lib.hid hr.len
    clear hr
    go_enter Tryz.func83, Tryz.ntmps83
    go_wp2_with (at_builtin; refine wpList_append_any _ rfl (.tmp 5) (.tmp 6) _ rfl w.heap.size 3 i0 _ 1 8 Tryz.underlying28 hi hz0 hz1 hz2 rfl (by omega) (.slice (some ⟨w.heap.size, 0, none⟩) 0 0) 0 [] rfl HLB.out _ (some a) n c (vi xs) rfl HR.out (vi_one xs) (by simp only [maxLen]; omega) (by omega) (by simp) ?_; intro v1 w1 hown1 hg1 hat1)
    obtain ⟨A1, c1, rfl⟩ := lab_form hown1
    go_ret
    exact ⟨A1, c1, by simp, by unfold OwI; simpa using hown1, ((Below.refl _ _).alloc (Nat.le_refl _) (.cells #[] 3)).grown hg1 (by simp) (by simp [Value.ownBlock])⟩
set_option maxRecDepth 10000 in
set_option maxHeartbeats 2000000 in
theorem implCopyRun (p s it : Int) (dn : Bool) (A : Option Addr) (n c : Nat) (B : Option Addr) (m d : Nat) (nn : Int) (C : Option Addr) (j k : Nat) (vs ev : List Int) (nx : List Nat) (w : World) (hv : SlI w A n vs) (he : SlI w B m ev) (hx : Rd w C j nx) (hn : n ≤ 2097152) (hm : m ≤ 2097152) (hj : j ≤ 2097152) :
    Calls Tryz.prog 44 #[.agg #[.int .i64 p, .int .i64 s, .int .i64 it, .bool dn, .slice A n c, .slice B m d, .int .i64 nn, .slice C j k]] w (MadeR w p s it dn n m nn j vs ev nx) := by
  have CV := Lib.hid (fun W (h : Below w.heap.size w W) => cloneInts A n c vs W (hv.below h) hn)
  have CE := Lib.hid (fun W (h : Below w.heap.size w W) => cloneInts B m d ev W (he.below h) hm)
  have CX := Lib.hid (fun W (h : Below w.heap.size w W) => implCopySet nn C j k nx W (hx.below h) hj)
  have HJ : Hid (nx.length = j) := Lib.hid hx.len
  unfold MadeN OwI at CV CE
  unfold MadeS at CX
  rw [HJ.out] at CX
  clear hv he hx
  have H_1 := Lib.hid (g_chain (g_chain (Below.refl w.heap.size w) (below_a1 w (.cells #[.int .i64 p, .int .i64 s, .int .i64 it, .bool dn, .slice A n c, .slice B m d, .int .i64 nn, .slice C j k] 32))) (below_a1 (w.alloc (.cells #[.int .i64 p, .int .i64 s, .int .i64 it, .bool dn, .slice A n c, .slice B m d, .int .i64 nn, .slice C j k] 32)) (.cells #[.int .i64 0, .int .i64 0, .int .i64 0, .bool false, .slice none 0 0, .slice none 0 0, .int .i64 0, .slice none 0 0] 32)))
  have BX_2 : Hid (Blk ((w.alloc (.cells #[.int .i64 p, .int .i64 s, .int .i64 it, .bool dn, .slice A n c, .slice B m d, .int .i64 nn, .slice C j k] 32)).alloc (.cells #[.int .i64 0, .int .i64 0, .int .i64 0, .bool false, .slice none 0 0, .slice none 0 0, .int .i64 0, .slice none 0 0] 32)) (w.heap.size) #[.int .i64 p, .int .i64 s, .int .i64 it, .bool dn, .slice A n c, .slice B m d, .int .i64 nn, .slice C j k] 32) := Lib.hid (by have h := (Blk.new w #[.int .i64 p, .int .i64 s, .int .i64 it, .bool dn, .slice A n c, .slice B m d, .int .i64 nn, .slice C j k] 32).alloc (.cells #[.int .i64 0, .int .i64 0, .int .i64 0, .bool false, .slice none 0 0, .slice none 0 0, .int .i64 0, .slice none 0 0] 32); simpa [Nat.add_assoc] using h)
  have BZ_3 : Hid (Blk ((w.alloc (.cells #[.int .i64 p, .int .i64 s, .int .i64 it, .bool dn, .slice A n c, .slice B m d, .int .i64 nn, .slice C j k] 32)).alloc (.cells #[.int .i64 0, .int .i64 0, .int .i64 0, .bool false, .slice none 0 0, .slice none 0 0, .int .i64 0, .slice none 0 0] 32)) (w.heap.size + 1) #[.int .i64 0, .int .i64 0, .int .i64 0, .bool false, .slice none 0 0, .slice none 0 0, .int .i64 0, .slice none 0 0] 32) := Lib.hid (by have h := Blk.new (w.alloc (.cells #[.int .i64 p, .int .i64 s, .int .i64 it, .bool dn, .slice A n c, .slice B m d, .int .i64 nn, .slice C j k] 32)) #[.int .i64 0, .int .i64 0, .int .i64 0, .bool false, .slice none 0 0, .slice none 0 0, .int .i64 0, .slice none 0 0] 32; simpa [Nat.add_assoc] using h)
  have sz0 : Hid (w.heap.size + 2 ≤ ((w.alloc (.cells #[.int .i64 p, .int .i64 s, .int .i64 it, .bool dn, .slice A n c, .slice B m d, .int .i64 nn, .slice C j k] 32)).alloc (.cells #[.int .i64 0, .int .i64 0, .int .i64 0, .bool false, .slice none 0 0, .slice none 0 0, .int .i64 0, .slice none 0 0] 32)).heap.size) := Lib.hid (by simp)
  go_enter Tryz.func44, Tryz.ntmps44
  have x_4 := BX_2.out.cell (i := 0) rfl
  have x_5 := BX_2.out.cell (i := 1) rfl
  have x_6 := BX_2.out.cell (i := 2) rfl
  have x_7 := BX_2.out.cell (i := 3) rfl
  have x_8 := BX_2.out.cell (i := 4) rfl
  have x_9 := BX_2.out.cell (i := 5) rfl
  have x_10 := BX_2.out.cell (i := 6) rfl
  have x_11 := BX_2.out.cell (i := 7) rfl
  have fz_12 := fun i => BX_2.out.frozen i
  have lt_13 := BX_2.out.lt
  go_wp2_with fail
  refine (CV.out _ H_1.out).mono ?_
  rintro e w1 ⟨Av, cv, rfl, ho, hb⟩
  clear x_4
  clear x_5
  clear x_6
  clear x_7
  clear x_8
  clear x_9
  clear x_10
  clear x_11
  clear fz_12
  clear lt_13
  have H_14 := Lib.hid (g_chain H_1.out hb)
  clear H_1
  have BX_15 := Lib.hid (BX_2.out.below hb)
  clear BX_2
  have BZ_16 := Lib.hid (BZ_3.out.below hb)
  clear BZ_3
  have sz_17 := Lib.hid (Below.size hb)
  have Ov_18 := Lib.hid (ho)
  clear ho hb
  have x_19 := BX_15.out.cell (i := 0) rfl
  have x_20 := BX_15.out.cell (i := 1) rfl
  have x_21 := BX_15.out.cell (i := 2) rfl
  have x_22 := BX_15.out.cell (i := 3) rfl
  have x_23 := BX_15.out.cell (i := 4) rfl
  have x_24 := BX_15.out.cell (i := 5) rfl
  have x_25 := BX_15.out.cell (i := 6) rfl
  have x_26 := BX_15.out.cell (i := 7) rfl
  have fz_27 := fun i => BX_15.out.frozen i
  have lt_28 := BX_15.out.lt
  go_wp2_with fail
  have hg_29 := grown_cell w1 (w.heap.size) 4 (.slice Av n cv)
  have H_30 := Lib.hid (H_14.out.grown hg_29 H_14.out.size (fun j hj => by injection hj with hj; have := sz0.out; have := sz_17.out; omega))
  clear H_14
  have BZ_31 := Lib.hid (BZ_16.out.grown hg_29 (by intro e; injection e with e; have := sz0.out; have := sz_17.out; omega))
  clear BZ_16
  have Ov_32 := Lib.hid (own_kept Ov_18.out hg_29 (own_kind Ov_18.out BX_15.out (by decide)))
  clear Ov_18
  have BX_33 : Hid (Blk (w1.setCell ⟨w.heap.size, 4, none⟩ (.slice Av n cv)) (w.heap.size) #[.int .i64 p, .int .i64 s, .int .i64 it, .bool dn, .slice Av n cv, .slice B m d, .int .i64 nn, .slice C j k] 32) := Lib.hid (Blk.set (BX_15.out) 4 (.slice Av n cv))
  clear BX_15
  have sz_34 := Lib.hid (World.grownBy.size hg_29)
  clear hg_29
  clear x_19 x_20 x_21 x_22 x_23 x_24 x_25 x_26 fz_27 lt_28
  have LTV := Lib.hid Ov_32.out.lt
  have x_35 := BX_33.out.cell (i := 0) rfl
  have x_36 := BX_33.out.cell (i := 1) rfl
  have x_37 := BX_33.out.cell (i := 2) rfl
  have x_38 := BX_33.out.cell (i := 3) rfl
  have x_39 := BX_33.out.cell (i := 4) rfl
  have x_40 := BX_33.out.cell (i := 5) rfl
  have x_41 := BX_33.out.cell (i := 6) rfl
  have x_42 := BX_33.out.cell (i := 7) rfl
  have fz_43 := fun i => BX_33.out.frozen i
  have lt_44 := BX_33.out.lt
  refine (CE.out _ H_30.out).mono ?_
  rintro e w2 ⟨Ae, ce, rfl, ho, hb⟩
  clear x_35
  clear x_36
  clear x_37
  clear x_38
  clear x_39
  clear x_40
  clear x_41
  clear x_42
  clear fz_43
  clear lt_44
  have H_45 := Lib.hid (g_chain H_30.out hb)
  clear H_30
  have BX_46 := Lib.hid (BX_33.out.below hb)
  clear BX_33
  have BZ_47 := Lib.hid (BZ_31.out.below hb)
  clear BZ_31
  have Ov_48 := Lib.hid (own_below Ov_32.out hb)
  clear Ov_32
  have sz_49 := Lib.hid (Below.size hb)
  have Oe_50 := Lib.hid (ho)
  have AP := Lib.hid (own_time LTV.out ho (Nat.le_refl _))
  clear ho hb
  have x_51 := BX_46.out.cell (i := 0) rfl
  have x_52 := BX_46.out.cell (i := 1) rfl
  have x_53 := BX_46.out.cell (i := 2) rfl
  have x_54 := BX_46.out.cell (i := 3) rfl
  have x_55 := BX_46.out.cell (i := 4) rfl
  have x_56 := BX_46.out.cell (i := 5) rfl
  have x_57 := BX_46.out.cell (i := 6) rfl
  have x_58 := BX_46.out.cell (i := 7) rfl
  have fz_59 := fun i => BX_46.out.frozen i
  have lt_60 := BX_46.out.lt
  go_wp2_with fail
  have hg_61 := grown_cell w2 (w.heap.size) 5 (.slice Ae m ce)
  have H_62 := Lib.hid (H_45.out.grown hg_61 H_45.out.size (fun j hj => by injection hj with hj; have := sz0.out; have := sz_17.out; have := sz_34.out; have := sz_49.out; omega))
  clear H_45
  have BZ_63 := Lib.hid (BZ_47.out.grown hg_61 (by intro e; injection e with e; have := sz0.out; have := sz_17.out; have := sz_34.out; have := sz_49.out; omega))
  clear BZ_47
  have Ov_64 := Lib.hid (own_kept Ov_48.out hg_61 (own_kind Ov_48.out BX_46.out (by decide)))
  clear Ov_48
  have Oe_65 := Lib.hid (own_kept Oe_50.out hg_61 (own_kind Oe_50.out BX_46.out (by decide)))
  clear Oe_50
  have BX_66 : Hid (Blk (w2.setCell ⟨w.heap.size, 5, none⟩ (.slice Ae m ce)) (w.heap.size) #[.int .i64 p, .int .i64 s, .int .i64 it, .bool dn, .slice Av n cv, .slice Ae m ce, .int .i64 nn, .slice C j k] 32) := Lib.hid (Blk.set (BX_46.out) 5 (.slice Ae m ce))
  clear BX_46
  have sz_67 := Lib.hid (World.grownBy.size hg_61)
  clear hg_61
  clear x_51 x_52 x_53 x_54 x_55 x_56 x_57 x_58 fz_59 lt_60
  have x_68 := BX_66.out.cell (i := 0) rfl
  have x_69 := BX_66.out.cell (i := 1) rfl
  have x_70 := BX_66.out.cell (i := 2) rfl
  have x_71 := BX_66.out.cell (i := 3) rfl
  have x_72 := BX_66.out.cell (i := 4) rfl
  have x_73 := BX_66.out.cell (i := 5) rfl
  have x_74 := BX_66.out.cell (i := 6) rfl
  have x_75 := BX_66.out.cell (i := 7) rfl
  have fz_76 := fun i => BX_66.out.frozen i
  have lt_77 := BX_66.out.lt
  refine (CX.out _ H_62.out).mono ?_
  rintro e w3 ⟨Ax, cx, rfl, ho, hb⟩
  clear x_68
  clear x_69
  clear x_70
  clear x_71
  clear x_72
  clear x_73
  clear x_74
  clear x_75
  clear fz_76
  clear lt_77
  have H_78 := Lib.hid (g_chain H_62.out hb)
  clear H_62
  have BX_79 := Lib.hid (BX_66.out.below hb)
  clear BX_66
  have BZ_80 := Lib.hid (BZ_63.out.below hb)
  clear BZ_63
  have Ov_81 := Lib.hid (own_below Ov_64.out hb)
  clear Ov_64
  have Oe_82 := Lib.hid (own_below Oe_65.out hb)
  clear Oe_65
  have sz_83 := Lib.hid (Below.size hb)
  have Ox_84 := Lib.hid (ho)
  clear ho hb
  have x_85 := BX_79.out.cell (i := 0) rfl
  have x_86 := BX_79.out.cell (i := 1) rfl
  have x_87 := BX_79.out.cell (i := 2) rfl
  have x_88 := BX_79.out.cell (i := 3) rfl
  have x_89 := BX_79.out.cell (i := 4) rfl
  have x_90 := BX_79.out.cell (i := 5) rfl
  have x_91 := BX_79.out.cell (i := 6) rfl
  have x_92 := BX_79.out.cell (i := 7) rfl
  have fz_93 := fun i => BX_79.out.frozen i
  have lt_94 := BX_79.out.lt
  have x_95 := BZ_80.out.cell (i := 0) rfl
  have x_96 := BZ_80.out.cell (i := 1) rfl
  have x_97 := BZ_80.out.cell (i := 2) rfl
  have x_98 := BZ_80.out.cell (i := 3) rfl
  have x_99 := BZ_80.out.cell (i := 4) rfl
  have x_100 := BZ_80.out.cell (i := 5) rfl
  have x_101 := BZ_80.out.cell (i := 6) rfl
  have x_102 := BZ_80.out.cell (i := 7) rfl
  have fz_103 := fun i => BZ_80.out.frozen i
  have lt_104 := BZ_80.out.lt
  go_wp2
  have hg_105 := (grown_cell w3 (w.heap.size) 6 (.int .i64 nn)).trans (grown_cell (w3.setCell ⟨w.heap.size, 6, none⟩ (.int .i64 nn)) (w.heap.size) 7 (.slice Ax j cx))
  have H_106 := Lib.hid (H_78.out.grown hg_105 H_78.out.size (fun j hj => by injection hj with hj; have := sz0.out; have := sz_17.out; have := sz_34.out; have := sz_49.out; have := sz_67.out; have := sz_83.out; omega))
  clear H_78
  have BZ_107 := Lib.hid (BZ_80.out.grown hg_105 (by intro e; injection e with e; have := sz0.out; have := sz_17.out; have := sz_34.out; have := sz_49.out; have := sz_67.out; have := sz_83.out; omega))
  clear BZ_80
  have Ov_108 := Lib.hid (own_kept Ov_81.out hg_105 (own_kind Ov_81.out BX_79.out (by decide)))
  clear Ov_81
  have Oe_109 := Lib.hid (own_kept Oe_82.out hg_105 (own_kind Oe_82.out BX_79.out (by decide)))
  clear Oe_82
  have Ox_110 := Lib.hid (own_kept Ox_84.out hg_105 (own_kind Ox_84.out BX_79.out (by decide)))
  clear Ox_84
  have BX_111 : Hid (Blk ((w3.setCell ⟨w.heap.size, 6, none⟩ (.int .i64 nn)).setCell ⟨w.heap.size, 7, none⟩ (.slice Ax j cx)) (w.heap.size) #[.int .i64 p, .int .i64 s, .int .i64 it, .bool dn, .slice Av n cv, .slice Ae m ce, .int .i64 nn, .slice Ax j cx] 32) := Lib.hid (Blk.set (Blk.set (BX_79.out) 6 (.int .i64 nn)) 7 (.slice Ax j cx))
  clear BX_79
  have sz_112 := Lib.hid (World.grownBy.size hg_105)
  clear hg_105
  have hg_113 := (((((((grown_cell ((w3.setCell ⟨w.heap.size, 6, none⟩ (.int .i64 nn)).setCell ⟨w.heap.size, 7, none⟩ (.slice Ax j cx)) (w.heap.size + 1) 0 (.int .i64 p)).trans (grown_cell (((w3.setCell ⟨w.heap.size, 6, none⟩ (.int .i64 nn)).setCell ⟨w.heap.size, 7, none⟩ (.slice Ax j cx)).setCell ⟨w.heap.size + 1, 0, none⟩ (.int .i64 p)) (w.heap.size + 1) 1 (.int .i64 s))).trans (grown_cell ((((w3.setCell ⟨w.heap.size, 6, none⟩ (.int .i64 nn)).setCell ⟨w.heap.size, 7, none⟩ (.slice Ax j cx)).setCell ⟨w.heap.size + 1, 0, none⟩ (.int .i64 p)).setCell ⟨w.heap.size + 1, 1, none⟩ (.int .i64 s)) (w.heap.size + 1) 2 (.int .i64 it))).trans (grown_cell (((((w3.setCell ⟨w.heap.size, 6, none⟩ (.int .i64 nn)).setCell ⟨w.heap.size, 7, none⟩ (.slice Ax j cx)).setCell ⟨w.heap.size + 1, 0, none⟩ (.int .i64 p)).setCell ⟨w.heap.size + 1, 1, none⟩ (.int .i64 s)).setCell ⟨w.heap.size + 1, 2, none⟩ (.int .i64 it)) (w.heap.size + 1) 3 (.bool dn))).trans (grown_cell ((((((w3.setCell ⟨w.heap.size, 6, none⟩ (.int .i64 nn)).setCell ⟨w.heap.size, 7, none⟩ (.slice Ax j cx)).setCell ⟨w.heap.size + 1, 0, none⟩ (.int .i64 p)).setCell ⟨w.heap.size + 1, 1, none⟩ (.int .i64 s)).setCell ⟨w.heap.size + 1, 2, none⟩ (.int .i64 it)).setCell ⟨w.heap.size + 1, 3, none⟩ (.bool dn)) (w.heap.size + 1) 4 (.slice Av n cv))).trans (grown_cell (((((((w3.setCell ⟨w.heap.size, 6, none⟩ (.int .i64 nn)).setCell ⟨w.heap.size, 7, none⟩ (.slice Ax j cx)).setCell ⟨w.heap.size + 1, 0, none⟩ (.int .i64 p)).setCell ⟨w.heap.size + 1, 1, none⟩ (.int .i64 s)).setCell ⟨w.heap.size + 1, 2, none⟩ (.int .i64 it)).setCell ⟨w.heap.size + 1, 3, none⟩ (.bool dn)).setCell ⟨w.heap.size + 1, 4, none⟩ (.slice Av n cv)) (w.heap.size + 1) 5 (.slice Ae m ce))).trans (grown_cell ((((((((w3.setCell ⟨w.heap.size, 6, none⟩ (.int .i64 nn)).setCell ⟨w.heap.size, 7, none⟩ (.slice Ax j cx)).setCell ⟨w.heap.size + 1, 0, none⟩ (.int .i64 p)).setCell ⟨w.heap.size + 1, 1, none⟩ (.int .i64 s)).setCell ⟨w.heap.size + 1, 2, none⟩ (.int .i64 it)).setCell ⟨w.heap.size + 1, 3, none⟩ (.bool dn)).setCell ⟨w.heap.size + 1, 4, none⟩ (.slice Av n cv)).setCell ⟨w.heap.size + 1, 5, none⟩ (.slice Ae m ce)) (w.heap.size + 1) 6 (.int .i64 nn))).trans (grown_cell (((((((((w3.setCell ⟨w.heap.size, 6, none⟩ (.int .i64 nn)).setCell ⟨w.heap.size, 7, none⟩ (.slice Ax j cx)).setCell ⟨w.heap.size + 1, 0, none⟩ (.int .i64 p)).setCell ⟨w.heap.size + 1, 1, none⟩ (.int .i64 s)).setCell ⟨w.heap.size + 1, 2, none⟩ (.int .i64 it)).setCell ⟨w.heap.size + 1, 3, none⟩ (.bool dn)).setCell ⟨w.heap.size + 1, 4, none⟩ (.slice Av n cv)).setCell ⟨w.heap.size + 1, 5, none⟩ (.slice Ae m ce)).setCell ⟨w.heap.size + 1, 6, none⟩ (.int .i64 nn)) (w.heap.size + 1) 7 (.slice Ax j cx))
  have H_114 := Lib.hid (H_106.out.grown hg_113 H_106.out.size (fun j hj => by injection hj with hj; have := sz0.out; have := sz_17.out; have := sz_34.out; have := sz_49.out; have := sz_67.out; have := sz_83.out; have := sz_112.out; omega))
  clear H_106
  have BX_115 := Lib.hid (BX_111.out.grown hg_113 (by intro e; injection e with e; have := sz0.out; have := sz_17.out; have := sz_34.out; have := sz_49.out; have := sz_67.out; have := sz_83.out; have := sz_112.out; omega))
  clear BX_111
  have Ov_116 := Lib.hid (own_kept Ov_108.out hg_113 (own_kind Ov_108.out BZ_107.out (by decide)))
  clear Ov_108
  have Oe_117 := Lib.hid (own_kept Oe_109.out hg_113 (own_kind Oe_109.out BZ_107.out (by decide)))
  clear Oe_109
  have Ox_118 := Lib.hid (own_kept Ox_110.out hg_113 (own_kind Ox_110.out BZ_107.out (by decide)))
  clear Ox_110
  have BZ_119 : Hid (Blk ((((((((((w3.setCell ⟨w.heap.size, 6, none⟩ (.int .i64 nn)).setCell ⟨w.heap.size, 7, none⟩ (.slice Ax j cx)).setCell ⟨w.heap.size + 1, 0, none⟩ (.int .i64 p)).setCell ⟨w.heap.size + 1, 1, none⟩ (.int .i64 s)).setCell ⟨w.heap.size + 1, 2, none⟩ (.int .i64 it)).setCell ⟨w.heap.size + 1, 3, none⟩ (.bool dn)).setCell ⟨w.heap.size + 1, 4, none⟩ (.slice Av n cv)).setCell ⟨w.heap.size + 1, 5, none⟩ (.slice Ae m ce)).setCell ⟨w.heap.size + 1, 6, none⟩ (.int .i64 nn)).setCell ⟨w.heap.size + 1, 7, none⟩ (.slice Ax j cx)) (w.heap.size + 1) #[.int .i64 p, .int .i64 s, .int .i64 it, .bool dn, .slice Av n cv, .slice Ae m ce, .int .i64 nn, .slice Ax j cx] 32) := Lib.hid (Blk.set (Blk.set (Blk.set (Blk.set (Blk.set (Blk.set (Blk.set (Blk.set (BZ_107.out) 0 (.int .i64 p)) 1 (.int .i64 s)) 2 (.int .i64 it)) 3 (.bool dn)) 4 (.slice Av n cv)) 5 (.slice Ae m ce)) 6 (.int .i64 nn)) 7 (.slice Ax j cx))
  clear BZ_107
  have sz_120 := Lib.hid (World.grownBy.size hg_113)
  clear hg_113
  refine bodyPost_ret (v := .agg #[.int .i64 p, .int .i64 s, .int .i64 it, .bool dn, .slice Av n cv, .slice Ae m ce, .int .i64 nn, .slice Ax j cx]) (by simp [results, Tryz.results44, go_sem, x_95, x_96, x_97, x_98, x_99, x_100, x_101, x_102]) rfl ?_
  exact ⟨Av, cv, Ae, ce, Ax, cx, rfl, ⟨own_monoG Ov_116.out (by have := sz0.out; have := sz_17.out; have := sz_34.out; have := sz_49.out; have := sz_67.out; have := sz_83.out; have := sz_112.out; have := sz_120.out; omega), own_monoG Oe_117.out (by have := sz0.out; have := sz_17.out; have := sz_34.out; have := sz_49.out; have := sz_67.out; have := sz_83.out; have := sz_112.out; have := sz_120.out; omega), own_monoG Ox_118.out (by have := sz0.out; have := sz_17.out; have := sz_34.out; have := sz_49.out; have := sz_67.out; have := sz_83.out; have := sz_112.out; have := sz_120.out; omega), AP.out⟩, H_114.out⟩
end Go.Proofs.YtlhcobkncceodaaGreatDoor
