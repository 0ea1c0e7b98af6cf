/- The contracts of the program's pairs of sources, of its tree over batches and of its Merge. Condition: at most 2^20 batches and records. -/
import Derived.Test.YtpgnappddddlpaaKSrcI
import Derived.Test.YtpgnappddddlpaaCOJ
namespace Go.Proofs.Ytpgnappddddlpaa
open Go.RowKit

theorem Src.form {w0 w : World} : ∀ {t : Tr} {lo hi : Nat} {v : Value}, Src w0 w t lo hi v → ∃ ty a, v = .iface ty (.pointer (some a))
  | .leaf _, _, _, _, h => by
    obtain ⟨L, _, _, _, _, _, h3, _⟩ := h
    exact ⟨_, _, h3⟩
  | .pair _ _ _ _, _, _, _, h => by
    obtain ⟨m, P, _, _, _, _, _, _, _, _, _, h3, _⟩ := h
    exact ⟨_, _, h3⟩
theorem OnlyB.new {S T : Nat → Prop} {w w' : World} (h : OnlyB S w w') (hs : ∀ k, k < w.heap.size → S k → T k) : OnlyB T w w' :=
  ⟨h.os, h.tape, h.output, h.size, fun k hk hn => h.block k hk (fun e => hn (hs k hk e))⟩
def PairMade (w0 w : World) (l r : Tr) (lo hi : Nat) (e : Ending) (w' : World) : Prop :=
  e = .returned (.pointer (some ⟨w.heap.size, 0, none⟩)) ∧ Src w0 w' (.pair l.next.2 l.next.1 r.next.2 r.next.1) lo w'.heap.size (.iface 213 (.pointer (some ⟨w.heap.size, 0, none⟩))) ∧ Within lo hi w w'
set_option maxRecDepth 10000 in
set_option maxHeartbeats 1000000 in
theorem newPair (w0 w : World) (l r : Tr) (lo m hi : Nat) (vl vr : Value) (hsl : Src w0 w l lo m vl) (hsr : Src w0 w r m hi vr) (hhi : hi ≤ w.heap.size) (hlo : w0.heap.size ≤ lo) (hB : Below w0.heap.size w0 w) :
    Calls Try.prog 171 #[vl, vr] w (PairMade w0 w l r lo hi) := by
  obtain ⟨tl, al, rfl⟩ := hsl.form
  obtain ⟨tr, ar, rfl⟩ := hsr.form
  have hl := hsl.lt
  have hr := hsr.lt
  have hb1 := Blk.new w (pairC (.iface tl (.pointer (some al))) zeroG false (.iface tr (.pointer (some ar))) zeroG false) 220
  have HW1 := Lib.hid (below_a1 w (.cells (pairC (.iface tl (.pointer (some al))) zeroG false (.iface tr (.pointer (some ar))) zeroG false) 220))
  have HSL := Lib.hid hsl
  have HSR := Lib.hid hsr
  have HB := Lib.hid hB
  have HSZ := hB.size
  clear hsl hsr hB
  have CD1 := Lib.hid (drawSide w0 _ w.heap.size 0 lo m l (.iface tl (.pointer (some al))) _ (by omega) hb1 (by simp [pairC]) rfl (by omega) (srcNext w0 l lo m _ _ (HSL.out.keep (fun k _ _ hk => HW1.out.block k hk)) (g_chain HB.out HW1.out)))
  clear hb1
  go_enter Try.func171, Try.ntmps171
  go_wp2_with fail
  refine CD1.out.mono ?_
  rintro e w2 ⟨rfl, f1, b1, hh1, hs1, hb1, hw1⟩
  rw [side_left] at hb1
  have HO2 := Lib.hid ((OnlyB.below (OnlyB.refl (fun k => (lo ≤ k ∧ k < m) ∨ k = w.heap.size) w) HW1.out).trans hw1)
  have HH1 := Lib.hid hh1
  have HS1 := Lib.hid hs1
  have HBB2 := Lib.hid (HB.out.trans (HO2.out.toBelow HSZ (fun k hk => by omega)))
  have CD2 := Lib.hid (drawSide w0 w2 w.heap.size 5 m hi r (.iface tr (.pointer (some ar))) _ hhi hb1 (by simp [pairC]) rfl (by omega) (srcNext w0 r m hi _ w2 (HSR.out.keep (fun k _ _ hk => HO2.out.block k hk (by omega))) HBB2.out))
  clear hh1 hs1 hb1 hw1 CD1
  go_wp2_with fail
  refine CD2.out.mono ?_
  rintro e w3 ⟨rfl, f2, b2, hh2, hs2, hb2, hw2⟩
  rw [side_right] at hb2
  have HO3 := Lib.hid hw2
  have HH2 := Lib.hid hh2
  have HS2 := Lib.hid hs2
  have HB3 := Lib.hid hb2
  clear hh2 hs2 hb2 hw2 CD2
  go_wp2
  go_ret
  have hS1 : Src w0 w3 l.next.2 lo m (.iface tl (.pointer (some al))) := HS1.out.keep (fun k _ _ hk => HO3.out.block k hk (by omega))
  refine ⟨rfl, ⟨m, w.heap.size, _, f1, b1, _, f2, b2, by omega, by omega, HB3.out.lt, rfl, HB3.out, HH1.out, HH2.out, hS1, HS2.out.wide (Nat.le_refl _) hhi⟩, ?_⟩
  exact OnlyB.new ((HO2.out.mono (T := fun k => (lo ≤ k ∧ k < hi) ∨ k = w.heap.size) (fun k hk => by omega)).trans (HO3.out.mono (fun k hk => by omega))) (fun k hk e => by omega)

/-! ### the tree over batches -/
theorem batsElem : Try.prog.underlying 185 = some (.slice (Try.prog.elem 185)) := by simp [Program.elem, Try.underlying185]
theorem batsElem' : Try.prog.elem 185 = 196 := by simp [Program.elem, Try.underlying185]
theorem batsSize (w : World) : (Go.sizeOf 196).run Try.prog w = .ok 1 w := by kernel_rfl
theorem bats_len (bs : List BE) : (bs.flatMap BE.cells).length = bs.length := by rw [flat_len BE.cells 1 BE.cells_len, Nat.mul_one]
theorem bats_most {P : Option Addr} {n c k : Nat} {bs : List BE} {w : World} (hr : SlT w P n bs) (h0 : 0 < n) (hk : k ≤ n) (hc : n ≤ c) :
    (∀ W, (Instr.slice 185 (.slice P n c) none (some (.int .i64 (k : Int))) none).run Try.prog W = .ok (.slice P k c) W) ∧ SlT w P k (bs.take k) := by
  obtain ⟨b, off, rfl, hb, hcell⟩ := hr.row.lies h0
  have hl := hr.len
  refine ⟨fun W => ?_, ?_, ?_, fun e he => hr.each e (List.mem_of_mem_take he)⟩
  · rw [run_slice_h W _ _ _ _ batsElem .i64 (k : Int) (by omega) (by omega), batsElem', batsSize, Int.toNat_natCast]
    simp [sliced, rec_add]
  · rw [List.length_take]; omega
  · refine ⟨by rw [bats_len, List.length_take]; omega, fun _ => ⟨b, off, rfl, hb, fun j u hu => hcell j u ?_⟩⟩
    have h1 := List.flatMap_append (f := BE.cells) (xs := bs.take k) (ys := bs.drop k)
    rw [List.take_append_drop] at h1
    rw [h1, List.getElem?_append_left (List.getElem?_eq_some_iff.1 hu).1]
    exact hu
theorem bats_from {P : Option Addr} {n c k : Nat} {bs : List BE} {w : World} (hr : SlT w P n bs) (hk : k ≤ n) (hc : n ≤ c) :
    ∃ P', (∀ W, (Instr.slice 185 (.slice P n c) (some (.int .i64 (k : Int))) none none).run Try.prog W = .ok (.slice P' (n - k) (c - k)) W) ∧ SlT w P' (n - k) (bs.drop k) := by
  have hl := hr.len
  refine ⟨if c = k then P else P.map (·.add (k * 1)), fun W => ?_, ?_, ?_, fun e he => hr.each e (List.mem_of_mem_drop he)⟩
  · rw [run_slice_l W _ _ _ _ batsElem .i64 (k : Int) (by omega) (by omega), batsElem', batsSize, Int.toNat_natCast]
    rfl
  · rw [List.length_drop, hl]
  · refine ⟨by rw [bats_len, List.length_drop, hl, Nat.mul_one], fun hn => ?_⟩
    obtain ⟨b, off, rfl, hb, hcell⟩ := hr.row.lies (by omega)
    rw [if_neg (by omega)]
    refine ⟨b, off + k * 1, by simp [rec_add], hb, fun j u hu => ?_⟩
    have e := hcell (k * 1 + j) u
    rw [Nat.add_assoc]
    apply e
    have h1 := List.flatMap_append (f := BE.cells) (xs := bs.take k) (ys := bs.drop k)
    rw [List.take_append_drop] at h1
    rw [h1, List.getElem?_append_right (by rw [bats_len, List.length_take]; omega), bats_len, List.length_take, Nat.min_eq_left (by omega), Nat.mul_one, Nat.add_sub_cancel_left]
    exact hu
/-- What the tree over batches stands for. -/
def normR (bs : List BE) : List (List GE) := if bs.length = 0 then [[]] else bs.map BE.es
theorem normR_pos {bs : List BE} (h : 0 < bs.length) : normR bs = bs.map BE.es := if_neg (by omega)
def SrcMade (w0 w : World) (rs : List (List GE)) (e : Ending) (w' : World) : Prop :=
  ∃ (t : Tr) (v : Value), e = .returned v ∧ Rep t rs ∧ Src w0 w' t w.heap.size w'.heap.size v ∧ Below w.heap.size w w'

theorem rep_one (es : List GE) : Rep (.leaf es) [es] := rfl
set_option maxRecDepth 10000 in
set_option maxHeartbeats 1000000 in
theorem source0 (w0 : World) (A : Option Addr) (c : Nat) (bs : List BE) (w : World) (hr : SlT w0 A 0 bs) :
    Calls Try.prog 164 #[.slice A 0 c] w (SrcMade w0 w (normR bs)) := by
  have HN : Hid (normR bs = [[]]) := Lib.hid (if_pos hr.len)
  go_enter Try.func164, Try.ntmps164
  go_wp2
  go_ret
  exact ⟨.leaf [], _, rfl, by rw [HN.out]; exact rep_one [], ⟨w.heap.size, none, 0, 0, Nat.le_refl _, by simp, rfl, Blk.new _ _ _, SlG.nil, Nat.le_refl _⟩, below_a1 _ _⟩
set_option maxRecDepth 10000 in
set_option maxHeartbeats 1000000 in
theorem source1 (w0 : World) (A : Option Addr) (c : Nat) (bs : List BE) (w : World) (hr : SlT w0 A 1 bs) (_hc : 1 ≤ c) (hB : Below w0.heap.size w0 w) :
    Calls Try.prog 164 #[.slice A 1 c] w (SrcMade w0 w (normR bs)) := by
  obtain ⟨b, off, e, rfl, hbw, he, hok, c0⟩ := hr.at_ (j := 0) (by omega)
  have c0 := (hB.cell (p := ⟨b, off + 0, none⟩) hbw).trans c0
  rw [Nat.add_zero] at c0
  have HN : Hid (normR bs = [e.es]) := Lib.hid (by
    have hl := hr.len
    have h := he.out
    rw [normR_pos (by omega)]
    match bs, hl, h with
    | [x], _, h => simp at h; rw [h]; rfl)
  clear hr he hB
  go_enter Try.func164, Try.ntmps164
  go_wp2
  go_ret
  exact ⟨.leaf e.es, _, rfl, by rw [HN.out]; exact rep_one _, ⟨w.heap.size, e.A, e.n, e.c, Nat.le_refl _, by simp, rfl, Blk.new _ _ _, hok.out.rd, hok.out.cap⟩, below_a1 _ _⟩

set_option maxRecDepth 10000 in
set_option maxHeartbeats 2000000 in
theorem sourceOf (w0 : World) : ∀ (q : Nat) (A : Option Addr) (n c : Nat) (bs : List BE) (w : World), n ≤ q → SlT w0 A n bs → n ≤ c → n ≤ 1048576 → Below w0.heap.size w0 w →
    Calls Try.prog 164 #[.slice A n c] w (SrcMade w0 w (normR bs)) := by
  intro q
  induction q with
  | zero =>
    intro A n c bs w hq hr hc hn hB
    obtain rfl : n = 0 := by omega
    exact source0 w0 A c bs w hr
  | succ q ih =>
    intro A n c bs w hq hr hc hn hB
    by_cases h0 : n = 0
    · subst h0
      exact source0 w0 A c bs w hr
    by_cases h1 : n = 1
    · subst h1
      exact source1 w0 A c bs w hr hc hB
    obtain ⟨k, hk⟩ : ∃ k, n / 2 = k := ⟨_, rfl⟩
    have hk0 : 1 ≤ k := by omega
    have hkn : k + 1 ≤ n := by omega
    have hki : (n : Int).tdiv 2 = (k : Int) := by rw [← hk]; rfl
    have hkd : (n : Int) / 2 = (k : Int) := by rw [← hk]; rfl
    obtain ⟨hrun1, hs1⟩ := bats_most (k := k) hr (by omega) (by omega) hc
    obtain ⟨P2, hrun2, hs2⟩ := bats_from (k := k) hr (by omega) hc
    have hz0 : ((n : Int) == 0) = false := by simp; omega
    have hz1 : ((n : Int) == 1) = false := by simp; omega
    have hl := hr.len
    have HN1 : Hid (normR (bs.take k) = (bs.take k).map BE.es) := Lib.hid (normR_pos (by rw [List.length_take]; omega))
    have HN2 : Hid (normR (bs.drop k) = (bs.drop k).map BE.es) := Lib.hid (normR_pos (by rw [List.length_drop]; omega))
    have HN : Hid (normR bs = (bs.take k).map BE.es ++ (bs.drop k).map BE.es) := Lib.hid (by rw [normR_pos (by omega), ← List.map_append, List.take_append_drop])
    have C1 := Lib.hid (fun W (h : Below w0.heap.size w0 W) => ih A k c (bs.take k) W (by omega) hs1 (by omega) (by omega) h)
    have C2 := Lib.hid (fun W (h : Below w0.heap.size w0 W) => ih P2 (n - k) (c - k) (bs.drop k) W (by omega) hs2 (by omega) (by omega) h)
    rw [HN1.out] at C1
    rw [HN2.out] at C2
    have HB := Lib.hid hB
    clear ih hr hs1 hs2 hB hk hl
    go_enter Try.func164, Try.ntmps164
    go_upto_region 7 with fail
    have HLO := Lib.hid HB.out.size
    have HBD : Hid (Below w0.heap.size w0 w.drew) := Lib.hid HB.out.drew
    go_region_law (go_simp; first
      | (go_at_call 171; (with_reducible refine (newPair w0 w2 t1 t2 w.heap.size w1.heap.size w2.heap.size v1 v2 HS12.out HS2.out (Nat.le_refl _) HLO.out HB2.out).mono ?_); rintro e w3 ⟨rfl, hs3, hw3⟩; have HS3 := Lib.hid hs3; have HW3 := Lib.hid hw3; clear hs3 hw3)
      | (go_at_call 164; first
        | (have hx := HB1; (with_reducible refine (C2.out _ HB1.out).mono ?_); rintro e w2 ⟨t2, v2, rfl, hrep2, hsrc2, hb2⟩; have HR2 := Lib.hid hrep2; have HS2 := Lib.hid hsrc2; have HW2 := Lib.hid hb2; have HS12 := Lib.hid (HS1.out.keep (fun k _ _ hk => HW2.out.block k hk)); have HB2 := Lib.hid (g_chain HB1.out HW2.out); clear hrep2 hsrc2 hb2)
        | ((with_reducible refine (C1.out _ HBD.out).mono ?_); rintro e w1 ⟨t1, v1, rfl, hrep1, hsrc1, hb1⟩; have HR1 := Lib.hid hrep1; have HS1 : Hid (Src w0 w1 t1 w.heap.size w1.heap.size v1) := Lib.hid hsrc1; have HW1 : Hid (Below w.heap.size w w1) := Lib.hid (by first | exact hb1 | exact ⟨hb1.os, hb1.tape, hb1.output, hb1.size, hb1.block⟩); have HB1 := Lib.hid (g_chain HB.out HW1.out); clear hrep1 hsrc1 hb1)))
    go_wp2
    go_ret
    exact ⟨_, _, rfl, by rw [HN.out]; exact pair_rep HR1.out HR2.out, HS3.out, (g_chain HW1.out HW2.out).trans (HW3.out.below (Nat.le_trans HW1.out.size HW2.out.size) (Nat.le_refl _))⟩

/-! ### Merge -/
theorem merge_norm (bs : List BE) : mergeAll (normR bs) = mergeAll (bs.map BE.es) := by
  by_cases h : bs.length = 0
  · obtain rfl := List.eq_nil_of_length_eq_zero h
    rfl
  · rw [normR_pos (by omega)]
theorem next_list {w0 w : World} {t : Tr} {lo hi : Nat} {a : Option Addr} (h : NextAt w0 t lo hi (.iface 210 (.pointer a)) w) : Calls Try.prog 210 #[.pointer a] w (NextIs w0 t lo hi (.iface 210 (.pointer a)) w) := by
  obtain ⟨ty, f, a', e, hty, hC⟩ := h
  injection e with e1 e2
  injection e2 with e2
  subst e1 e2
  rcases hty with ⟨_, rfl⟩ | ⟨h, _⟩
  · exact hC
  · exact absurd h (by decide)
theorem next_pair {w0 w : World} {t : Tr} {lo hi : Nat} {a : Option Addr} (h : NextAt w0 t lo hi (.iface 213 (.pointer a)) w) : Calls Try.prog 211 #[.pointer a] w (NextIs w0 t lo hi (.iface 213 (.pointer a)) w) := by
  obtain ⟨ty, f, a', e, hty, hC⟩ := h
  injection e with e1 e2
  injection e2 with e2
  subst e1 e2
  rcases hty with ⟨h, _⟩ | ⟨_, rfl⟩
  · exact absurd h (by decide)
  · exact hC
def sliceLen : Value → Nat
  | .slice _ n _ => n
  | _ => 0
/-- What stands between two rounds of Merge. -/
structure MSt (w wr : World) (hi : Nat) (v0 : Value) (rs0 : List (List GE)) (P : Option Addr) (k c1 q : Nat) (x : GE) (bb : Bool) (t : Tr) (pre : List GE) : Prop where
  row : wr.ownsRow hi 150 3 (.slice P k c1) k (pre.flatMap GE.cells)
  len : pre.length = k
  far : ∀ g, (Value.slice P k c1).ownBlock = some g → g < q
  box : Blk wr q #[.int .i64 x.f, .int .i64 x.t, .int .i64 x.w] 150
  src : Src w wr t w.heap.size hi v0
  lo : hi ≤ q
  bel : Below w.heap.size w wr
  hd : ∃ h rs, HdIs h x bb ∧ Drawn (Rep t) h rs ∧ pre ++ mergeAll rs = mergeAll rs0
set_option maxRecDepth 10000 in
set_option maxHeartbeats 4000000 in
theorem implMerge (A : Option Addr) (n c : Nat) (bs : List BE) (w : World) (hr : SlT w A n bs) (hc : n ≤ c) (hn : n ≤ 1048576) (ht : totalR (bs.map BE.es) ≤ 1048576) :
    Calls Try.prog 154 #[.slice A n c] w (MadeRc w (mergeAll (bs.map BE.es))) := by
  obtain ⟨i0, hi0, hz0, hz1, hz2⟩ := info_parts Try.infoRec
  rw [← merge_norm]
  have HT : Hid ((mergeAll (normR bs)).length ≤ 1048576) := Lib.hid (by rw [merge_norm, mergeAll_len]; exact ht)
  have CS := Lib.hid (sourceOf w n A n c bs w (Nat.le_refl _) hr hc hn (Below.refl _ _))
  generalize normR bs = rs0 at *
  clear hr ht
  go_enter Try.func154, Try.ntmps154
  go_wp2_with fail
  refine CS.out.mono ?_
  rintro e w1 ⟨t, v, rfl, hrep, hsrc, hb1⟩
  obtain ⟨ty, f, a, rfl, hty, -⟩ := srcNext w t w.heap.size w1.heap.size v w1 hsrc hb1
  have HREP := Lib.hid hrep
  have HSRC := Lib.hid hsrc
  have HB1 := Lib.hid hb1
  have hsz := hb1.size
  clear hrep hsrc hb1 CS
  rcases hty with ⟨rfl, rfl⟩ | ⟨rfl, rfl⟩
  · have CN := Lib.hid (fun W t' (h : Src w W t' w.heap.size w1.heap.size (.iface 210 (.pointer a))) (hb : Below w.heap.size w W) => next_list (srcNext w t' w.heap.size w1.heap.size _ W h hb))
    go_wp2_with fail
    refine (CN.out _ _ HSRC.out HB1.out).mono ?_
    rintro e w2 ⟨x, bb, rfl, hh, hsrc, hw⟩
    have HM : Hid (MSt w (w2.alloc (.cells #[.int .i64 x.f, .int .i64 x.t, .int .i64 x.w] 150)) w1.heap.size (.iface 210 (.pointer a)) rs0 none 0 0 w2.heap.size x bb t.next.2 []) :=
      Lib.hid ⟨World.ownsRow_nil _ _ _ _, rfl, by simp [Value.ownBlock], Blk.new _ _ _, hsrc.keep (fun k _ hk hk2 => (below_a1 w2 _).block k hk2), hw.size, (HB1.out.trans (hw.below hsz (Nat.le_refl _))).alloc (Nat.le_trans hsz hw.size) _, _, _, hh, next_drawn t _ HREP.out, rfl⟩
    obtain ⟨hi, hhi⟩ : ∃ hi, w1.heap.size = hi := ⟨_, rfl⟩
    rw [hhi] at CN HM hsz
    clear hh hsrc hw HREP HSRC HB1 hhi
    go_wp2
    go_loopw [3, 5, 6] (fun v p b wr => ∃ (P : Option Addr) (k c1 q : Nat) (x : GE) (bb : Bool) (t : Tr) (pre : List GE), v = .slice P k c1 ∧ p = .pointer (some ⟨q, 0, none⟩) ∧ b = .bool bb ∧ Hid (MSt w wr hi (.iface 210 (.pointer a)) rs0 P k c1 q x bb t pre)) (fun v _ _ _ => 1048576 - sliceLen v)
    case atStart => exact ⟨_, _, _, _, x, bb, _, _, rfl, rfl, rfl, HM⟩
    case round =>
      clear HM
      obtain ⟨P, k, c1, q, x, bb, t, pre, rfl, rfl, rfl, hM⟩ := hrel
      obtain ⟨h, rs, hh, hdr, hall⟩ := hM.out.hd
      cases bb with
      | false =>
        obtain rfl := hh.no
        have hbn : bestR rs = none := by
          unfold Drawn at hdr
          cases hb : bestR rs with
          | none => rfl
          | some p => rw [hb] at hdr; exact absurd hdr.1 (by simp)
        have HV : Hid (pre = mergeAll rs0) := Lib.hid (by rw [← hall, merge_none hbn, List.append_nil])
        clear hh hdr hall hbn
        go_wp2
        go_ret
        obtain rfl := hM.out.len
        rw [← HV.out]
        exact ⟨_, _, rfl, own_monoG hM.out.row (by omega), hM.out.bel⟩
      | true =>
        obtain rfl := hh.yes
        obtain ⟨rs', hrep, HALL⟩ : ∃ rs', Rep t rs' ∧ Hid ((pre ++ [x]) ++ mergeAll rs' = mergeAll rs0) := by
          unfold Drawn at hdr
          cases hb : bestR rs with
          | none => rw [hb] at hdr; exact absurd hdr.1 (by simp)
          | some p =>
            obtain ⟨i, y⟩ := p
            rw [hb] at hdr
            obtain ⟨e1, e2⟩ := hdr
            injection e1 with e1
            subst e1
            exact ⟨_, e2, Lib.hid (by rw [← hall, merge_step hb, List.append_assoc]; rfl)⟩
        have hk : k + 1 ≤ 1048576 := by
          have h1 := congrArg List.length HALL.out
          have h2 := HT.out
          have h3 := hM.out.len
          simp only [List.length_append, List.length_cons, List.length_nil] at h1
          omega
        have HREP := Lib.hid hrep
        have HON2 := Lib.hid (rec_one [x])
        have x0 := hM.out.box.cell (i := 0) rfl
        have x1 := hM.out.box.cell (i := 1) rfl
        have x2 := hM.out.box.cell (i := 2) rfl
        have hqs := hM.out.box.lt
        have hws := hM.out.bel.size
        have hlo := hM.out.lo
        have x0 : wr.cell? ⟨q, 0, none⟩ = some (.int .i64 x.f) := x0
        have x1 : wr.cell? ⟨q, 1, none⟩ = some (.int .i64 x.t) := x1
        have x2 : wr.cell? ⟨q, 2, none⟩ = some (.int .i64 x.w) := x2
        clear hh hdr hall hrep
        go_wp2_with (at_builtin; refine wpList_append_any _ rfl (.tmp 20) (.tmp 22) _ rfl hi 150 i0 _ 3 24 Try.underlying148 hi0 hz0 hz1 hz2 rfl (by omega) (.slice P k c1) k (pre.flatMap GE.cells) rfl (hM.out.row.alloc _) (wr.heap.size + 1) (some ⟨wr.heap.size, 0, none⟩) 1 1 (GE.cells x) rfl (rec_reads _ x _ _ rfl) (by simpa using HON2.out) (by simp only [maxLen]; omega) (by omega) (by simp; omega) ?_; intro v3 w3 hown3 hg3 hat3; obtain ⟨P3, c3, rfl⟩ := rec_form hown3; have RB3 := (hM.out.box.alloc (.cells #[.int .i64 x.f, .int .i64 x.t, .int .i64 x.w] 150)).grown hg3 (fun e => by have := hM.out.far q e; omega); have y0 : w3.cell? ⟨q, 0, none⟩ = some (.int .i64 x.f) := RB3.cell rfl; have y1 : w3.cell? ⟨q, 1, none⟩ = some (.int .i64 x.t) := RB3.cell rfl; have y2 : w3.cell? ⟨q, 2, none⟩ = some (.int .i64 x.w) := RB3.cell rfl)
        have HB3 := Lib.hid ((hM.out.bel.alloc hws (.cells #[.int .i64 x.f, .int .i64 x.t, .int .i64 x.w] 150)).grown hg3 (by simp; omega) (fun j hj => by have := (hM.out.row.lt j hj).1; omega))
        have hs3 : q < w3.heap.size := RB3.lt
        have HS3 := Lib.hid (hM.out.src.keep (w' := w3) (fun j _ hj hjw => (hg3.block j (by simp; omega) (fun e => by have := (hM.out.row.lt j e.symm).1; omega)).trans ((below_a1 wr (.cells #[.int .i64 x.f, .int .i64 x.t, .int .i64 x.w] 150)).block j hjw)))
        have HO3 := Lib.hid hown3
        have HS4 := Lib.hid (HS3.out.keep (fun j _ _ hjw => (below_a1 w3 (.cells #[.int .i64 x.f, .int .i64 x.t, .int .i64 x.w] 150)).block j hjw))
        have hws3 : w.heap.size ≤ w3.heap.size := by omega
        have HB4 := Lib.hid (HB3.out.alloc hws3 (.cells #[.int .i64 x.f, .int .i64 x.t, .int .i64 x.w] 150))
        have HL := Lib.hid hM.out.len
        clear hM hown3 hg3 hat3 RB3 y0 y1 y2 x0 x1 x2
        refine (CN.out _ t HS4.out HB4.out).mono ?_
        rintro e w5 ⟨z, zb, rfl, hh5, hs5, hw5⟩
        have HH5 := Lib.hid hh5
        have HS5 := Lib.hid hs5
        have HW5 := Lib.hid hw5
        have RB5 := Lib.hid ((Blk.new w3 #[.int .i64 x.f, .int .i64 x.t, .int .i64 x.w] 150).within hw5 (.inr (by omega)))
        have HO5 := Lib.hid (hw5.own (HO3.out.alloc (.cells #[.int .i64 x.f, .int .i64 x.t, .int .i64 x.w] 150)) (fun g hg hs => by have := (HO3.out.lt g hg).1; omega))
        have s0 : w5.cell? ⟨w3.heap.size, 0, none⟩ = some (.int .i64 x.f) := RB5.out.cell rfl
        have s1 : w5.cell? ⟨w3.heap.size, 1, none⟩ = some (.int .i64 x.t) := RB5.out.cell rfl
        have s2 : w5.cell? ⟨w3.heap.size, 2, none⟩ = some (.int .i64 x.w) := RB5.out.cell rfl
        have v0 := RB5.out.frozen 0
        have v1 := RB5.out.frozen 1
        have v2 := RB5.out.frozen 2
        clear hh5 hs5 hw5 HS3 HS4
        go_wp2
        have WS : Within w3.heap.size (w3.heap.size + 1) w5 (((w5.setCell ⟨w3.heap.size, 0, none⟩ (.int .i64 z.f)).setCell ⟨w3.heap.size, 1, none⟩ (.int .i64 z.t)).setCell ⟨w3.heap.size, 2, none⟩ (.int .i64 z.w)) :=
          Within.set (Within.set (Within.set (OnlyB.refl _ _) (by simp) _) (by simp) _) (by simp) _
        have HBX := Lib.hid (((RB5.out.set 0 (.int .i64 z.f)).set 1 (.int .i64 z.t)).set 2 (.int .i64 z.w))
        have HWS := Lib.hid WS
        clear s0 s1 s2 v0 v1 v2 WS
        generalize ((w5.setCell ⟨w3.heap.size, 0, none⟩ (.int .i64 z.f)).setCell ⟨w3.heap.size, 1, none⟩ (.int .i64 z.t)).setCell ⟨w3.heap.size, 2, none⟩ (.int .i64 z.w) = w6 at *
        go_roundw
        case rel =>
          refine ⟨P3, k + 1, c3, w3.heap.size, z, zb, t.next.2, pre ++ [x], rfl, rfl, rfl, Lib.hid ⟨?_, by simp [HL.out], fun g hg => (HO3.out.lt g hg).2, HBX.out, HS5.out.within HWS.out (.inl (by omega)), by omega, ?_, _, rs', HH5.out, next_drawn t rs' HREP.out, HALL.out⟩⟩
          · rw [List.flatMap_append]
            exact HWS.out.own (by simpa using HO5.out) (fun g hg hs => by have := (HO3.out.lt g hg).2; omega)
          · exact (HB4.out.trans (HW5.out.below (by simp; omega) (Nat.le_refl _))).trans (HWS.out.below (by have := HW5.out.size; simp at this; omega) hws3)
        case measure => simp [sliceLen]; omega
  · have CN := Lib.hid (fun W t' (h : Src w W t' w.heap.size w1.heap.size (.iface 213 (.pointer a))) (hb : Below w.heap.size w W) => next_pair (srcNext w t' w.heap.size w1.heap.size _ W h hb))
    go_wp2_with fail
    refine (CN.out _ _ HSRC.out HB1.out).mono ?_
    rintro e w2 ⟨x, bb, rfl, hh, hsrc, hw⟩
    have HM : Hid (MSt w (w2.alloc (.cells #[.int .i64 x.f, .int .i64 x.t, .int .i64 x.w] 150)) w1.heap.size (.iface 213 (.pointer a)) rs0 none 0 0 w2.heap.size x bb t.next.2 []) :=
      Lib.hid ⟨World.ownsRow_nil _ _ _ _, rfl, by simp [Value.ownBlock], Blk.new _ _ _, hsrc.keep (fun k _ hk hk2 => (below_a1 w2 _).block k hk2), hw.size, (HB1.out.trans (hw.below hsz (Nat.le_refl _))).alloc (Nat.le_trans hsz hw.size) _, _, _, hh, next_drawn t _ HREP.out, rfl⟩
    obtain ⟨hi, hhi⟩ : ∃ hi, w1.heap.size = hi := ⟨_, rfl⟩
    rw [hhi] at CN HM hsz
    clear hh hsrc hw HREP HSRC HB1 hhi
    go_wp2
    go_loopw [3, 5, 6] (fun v p b wr => ∃ (P : Option Addr) (k c1 q : Nat) (x : GE) (bb : Bool) (t : Tr) (pre : List GE), v = .slice P k c1 ∧ p = .pointer (some ⟨q, 0, none⟩) ∧ b = .bool bb ∧ Hid (MSt w wr hi (.iface 213 (.pointer a)) rs0 P k c1 q x bb t pre)) (fun v _ _ _ => 1048576 - sliceLen v)
    case atStart => exact ⟨_, _, _, _, x, bb, _, _, rfl, rfl, rfl, HM⟩
    case round =>
      clear HM
      obtain ⟨P, k, c1, q, x, bb, t, pre, rfl, rfl, rfl, hM⟩ := hrel
      obtain ⟨h, rs, hh, hdr, hall⟩ := hM.out.hd
      cases bb with
      | false =>
        obtain rfl := hh.no
        have hbn : bestR rs = none := by
          unfold Drawn at hdr
          cases hb : bestR rs with
          | none => rfl
          | some p => rw [hb] at hdr; exact absurd hdr.1 (by simp)
        have HV : Hid (pre = mergeAll rs0) := Lib.hid (by rw [← hall, merge_none hbn, List.append_nil])
        clear hh hdr hall hbn
        go_wp2
        go_ret
        obtain rfl := hM.out.len
        rw [← HV.out]
        exact ⟨_, _, rfl, own_monoG hM.out.row (by omega), hM.out.bel⟩
      | true =>
        obtain rfl := hh.yes
        obtain ⟨rs', hrep, HALL⟩ : ∃ rs', Rep t rs' ∧ Hid ((pre ++ [x]) ++ mergeAll rs' = mergeAll rs0) := by
          unfold Drawn at hdr
          cases hb : bestR rs with
          | none => rw [hb] at hdr; exact absurd hdr.1 (by simp)
          | some p =>
            obtain ⟨i, y⟩ := p
            rw [hb] at hdr
            obtain ⟨e1, e2⟩ := hdr
            injection e1 with e1
            subst e1
            exact ⟨_, e2, Lib.hid (by rw [← hall, merge_step hb, List.append_assoc]; rfl)⟩
        have hk : k + 1 ≤ 1048576 := by
          have h1 := congrArg List.length HALL.out
          have h2 := HT.out
          have h3 := hM.out.len
          simp only [List.length_append, List.length_cons, List.length_nil] at h1
          omega
        have HREP := Lib.hid hrep
        have HON2 := Lib.hid (rec_one [x])
        have x0 := hM.out.box.cell (i := 0) rfl
        have x1 := hM.out.box.cell (i := 1) rfl
        have x2 := hM.out.box.cell (i := 2) rfl
        have hqs := hM.out.box.lt
        have hws := hM.out.bel.size
        have hlo := hM.out.lo
        have x0 : wr.cell? ⟨q, 0, none⟩ = some (.int .i64 x.f) := x0
        have x1 : wr.cell? ⟨q, 1, none⟩ = some (.int .i64 x.t) := x1
        have x2 : wr.cell? ⟨q, 2, none⟩ = some (.int .i64 x.w) := x2
        clear hh hdr hall hrep
        go_wp2_with (at_builtin; refine wpList_append_any _ rfl (.tmp 20) (.tmp 22) _ rfl hi 150 i0 _ 3 24 Try.underlying148 hi0 hz0 hz1 hz2 rfl (by omega) (.slice P k c1) k (pre.flatMap GE.cells) rfl (hM.out.row.alloc _) (wr.heap.size + 1) (some ⟨wr.heap.size, 0, none⟩) 1 1 (GE.cells x) rfl (rec_reads _ x _ _ rfl) (by simpa using HON2.out) (by simp only [maxLen]; omega) (by omega) (by simp; omega) ?_; intro v3 w3 hown3 hg3 hat3; obtain ⟨P3, c3, rfl⟩ := rec_form hown3; have RB3 := (hM.out.box.alloc (.cells #[.int .i64 x.f, .int .i64 x.t, .int .i64 x.w] 150)).grown hg3 (fun e => by have := hM.out.far q e; omega); have y0 : w3.cell? ⟨q, 0, none⟩ = some (.int .i64 x.f) := RB3.cell rfl; have y1 : w3.cell? ⟨q, 1, none⟩ = some (.int .i64 x.t) := RB3.cell rfl; have y2 : w3.cell? ⟨q, 2, none⟩ = some (.int .i64 x.w) := RB3.cell rfl)
        have HB3 := Lib.hid ((hM.out.bel.alloc hws (.cells #[.int .i64 x.f, .int .i64 x.t, .int .i64 x.w] 150)).grown hg3 (by simp; omega) (fun j hj => by have := (hM.out.row.lt j hj).1; omega))
        have hs3 : q < w3.heap.size := RB3.lt
        have HS3 := Lib.hid (hM.out.src.keep (w' := w3) (fun j _ hj hjw => (hg3.block j (by simp; omega) (fun e => by have := (hM.out.row.lt j e.symm).1; omega)).trans ((below_a1 wr (.cells #[.int .i64 x.f, .int .i64 x.t, .int .i64 x.w] 150)).block j hjw)))
        have HO3 := Lib.hid hown3
        have HS4 := Lib.hid (HS3.out.keep (fun j _ _ hjw => (below_a1 w3 (.cells #[.int .i64 x.f, .int .i64 x.t, .int .i64 x.w] 150)).block j hjw))
        have hws3 : w.heap.size ≤ w3.heap.size := by omega
        have HB4 := Lib.hid (HB3.out.alloc hws3 (.cells #[.int .i64 x.f, .int .i64 x.t, .int .i64 x.w] 150))
        have HL := Lib.hid hM.out.len
        clear hM hown3 hg3 hat3 RB3 y0 y1 y2 x0 x1 x2
        refine (CN.out _ t HS4.out HB4.out).mono ?_
        rintro e w5 ⟨z, zb, rfl, hh5, hs5, hw5⟩
        have HH5 := Lib.hid hh5
        have HS5 := Lib.hid hs5
        have HW5 := Lib.hid hw5
        have RB5 := Lib.hid ((Blk.new w3 #[.int .i64 x.f, .int .i64 x.t, .int .i64 x.w] 150).within hw5 (.inr (by omega)))
        have HO5 := Lib.hid (hw5.own (HO3.out.alloc (.cells #[.int .i64 x.f, .int .i64 x.t, .int .i64 x.w] 150)) (fun g hg hs => by have := (HO3.out.lt g hg).1; omega))
        have s0 : w5.cell? ⟨w3.heap.size, 0, none⟩ = some (.int .i64 x.f) := RB5.out.cell rfl
        have s1 : w5.cell? ⟨w3.heap.size, 1, none⟩ = some (.int .i64 x.t) := RB5.out.cell rfl
        have s2 : w5.cell? ⟨w3.heap.size, 2, none⟩ = some (.int .i64 x.w) := RB5.out.cell rfl
        have v0 := RB5.out.frozen 0
        have v1 := RB5.out.frozen 1
        have v2 := RB5.out.frozen 2
        clear hh5 hs5 hw5 HS3 HS4
        go_wp2
        have WS : Within w3.heap.size (w3.heap.size + 1) w5 (((w5.setCell ⟨w3.heap.size, 0, none⟩ (.int .i64 z.f)).setCell ⟨w3.heap.size, 1, none⟩ (.int .i64 z.t)).setCell ⟨w3.heap.size, 2, none⟩ (.int .i64 z.w)) :=
          Within.set (Within.set (Within.set (OnlyB.refl _ _) (by simp) _) (by simp) _) (by simp) _
        have HBX := Lib.hid (((RB5.out.set 0 (.int .i64 z.f)).set 1 (.int .i64 z.t)).set 2 (.int .i64 z.w))
        have HWS := Lib.hid WS
        clear s0 s1 s2 v0 v1 v2 WS
        generalize ((w5.setCell ⟨w3.heap.size, 0, none⟩ (.int .i64 z.f)).setCell ⟨w3.heap.size, 1, none⟩ (.int .i64 z.t)).setCell ⟨w3.heap.size, 2, none⟩ (.int .i64 z.w) = w6 at *
        go_roundw
        case rel =>
          refine ⟨P3, k + 1, c3, w3.heap.size, z, zb, t.next.2, pre ++ [x], rfl, rfl, rfl, Lib.hid ⟨?_, by simp [HL.out], fun g hg => (HO3.out.lt g hg).2, HBX.out, HS5.out.within HWS.out (.inl (by omega)), by omega, ?_, _, rs', HH5.out, next_drawn t rs' HREP.out, HALL.out⟩⟩
          · rw [List.flatMap_append]
            exact HWS.out.own (by simpa using HO5.out) (fun g hg hs => by have := (HO3.out.lt g hg).2; omega)
          · exact (HB4.out.trans (HW5.out.below (by simp; omega) (Nat.le_refl _))).trans (HWS.out.below (by have := HW5.out.size; simp at this; omega) hws3)
        case measure => simp [sliceLen]; omega
end Go.Proofs.Ytpgnappddddlpaa
