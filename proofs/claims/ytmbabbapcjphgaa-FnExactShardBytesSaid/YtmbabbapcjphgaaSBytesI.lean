/- The program's encoding of a shard. Condition: at most 2^20 edges. -/
import Derived.Test.YtmbabbapcjphgaaSBytesM
import Derived.Test.YtmbabbapcjphgaaShOkI
import Derived.Test.YtmbabbapcjphgaaListI
namespace Go.Proofs.Ytmbabbapcjphgaa
open Go.RowKit

theorem onePutVar {lo go gw : Nat} {ys : List Nat} {W : World} (x : Int) (g : Nat) (hg : g = W.heap.size) (hp : PB W lo go gw ys true) (hx : numOk x = true) (hy : ys.length ≤ 33000000) (hsz : lo ≤ W.heap.size) (hlg : lo ≤ go) (hlw : lo ≤ gw) (hne : go ≠ gw) :
    Calls Try.prog 99 #[.func (.func 73) #[] #[], .slice (some ⟨g, 0, none⟩) 1 1, .pointer (some ⟨go, 0, none⟩), .pointer (some ⟨gw, 0, none⟩)] (W.alloc (.cells #[.int .i64 x] 3)) fun e w' => e = .returned (.tuple #[]) ∧ PB w' lo go gw (ys ++ putVar [] x) true ∧ PK lo go gw W w' := by
  subst hg
  have h1 := hp.all.lt
  have h2 : go < W.heap.size := by obtain ⟨v, hv, _⟩ := hp.out; exact hv.lt
  refine (writePutVar_any _ 1 1 lo go gw [x] ys true _ (hp.below (below_a1 W _)) (fun W' hk => sli_blk (xs := [x]) (hk.stay _ _ _ (Blk.new W _ _) (by omega) (by omega) (by decide))) (by omega) (by omega) (by simp; omega) hlg hlw hne).mono ?_
  rintro e w' ⟨rfl, hb, hk⟩
  refine ⟨rfl, ?_, (PK.ofBelow (below_a1 W _) hsz).trans hk⟩
  simpa [hx] using hb
theorem onePutZig {lo go gw : Nat} {ys : List Nat} {W : World} (x : Int) (g : Nat) (hg : g = W.heap.size) (hp : PB W lo go gw ys true) (hx : zigOk x = true) (hy : ys.length ≤ 33000000) (hsz : lo ≤ W.heap.size) (hlg : lo ≤ go) (hlw : lo ≤ gw) (hne : go ≠ gw) :
    Calls Try.prog 99 #[.func (.func 74) #[] #[], .slice (some ⟨g, 0, none⟩) 1 1, .pointer (some ⟨go, 0, none⟩), .pointer (some ⟨gw, 0, none⟩)] (W.alloc (.cells #[.int .i64 x] 3)) fun e w' => e = .returned (.tuple #[]) ∧ PB w' lo go gw (ys ++ putZig [] x) true ∧ PK lo go gw W w' := by
  subst hg
  have h1 := hp.all.lt
  have h2 : go < W.heap.size := by obtain ⟨v, hv, _⟩ := hp.out; exact hv.lt
  refine (writePutZig_any _ 1 1 lo go gw [x] ys true _ (hp.below (below_a1 W _)) (fun W' hk => sli_blk (xs := [x]) (hk.stay _ _ _ (Blk.new W _ _) (by omega) (by omega) (by decide))) (by omega) (by omega) (by simp; omega) hlg hlw hne).mono ?_
  rintro e w' ⟨rfl, hb, hk⟩
  refine ⟨rfl, ?_, (PK.ofBelow (below_a1 W _) hsz).trans hk⟩
  simpa [hx] using hb
theorem PB.lay5 {w : World} {lo go gw g : Nat} {ys : List Nat} {ok : Bool} {d : KE} (h : PB w lo go gw ys ok) (hb : KBlk w g d) (h1 : go ≠ g) (h2 : gw ≠ g) (e : KE) : PB (Go.Proofs.Ytmbabbapcjphgaa.lay5 w g 0 e) lo go gw ys ok := by
  obtain ⟨⟨v, k1, k2⟩, k3⟩ := h
  exact ⟨⟨v, k1.lay5o h1 e, own_lay5 k2 (own_type k2 hb (by decide)) e⟩, k3.lay5o h2 e⟩

set_option maxRecDepth 20000 in
set_option maxHeartbeats 2000000 in
theorem implShardBytes (lo hi : Int) (A : Option Addr) (n c : Nat) (es : List KE) (w : World) (hr : SlK w A n es) (hn : n ≤ 1048576) :
    Calls Try.prog 31 #[.agg #[.int .i64 lo, .int .i64 hi, .slice A n c]] w (PutRes w (shardB lo hi es) (shardY lo hi es)) := by
  have HS := Lib.hid hr
  have HL := Lib.hid hr.len
  have CO := Lib.hid (fun W (h : Below w.heap.size w W) => implShardOk lo hi A n c es W (hr.below h) hn)
  have B0 := Lib.hid (HBox.new w lo hi A n c 35)
  have H0 := Lib.hid (below_a1 w (.cells #[.int .i64 lo, .int .i64 hi, .slice A n c] 35))
  cases hv : shardB lo hi es with
  | false =>
    rw [hv] at CO
    have hy : shardY lo hi es = [] := by simp [shardY, hv]
    rw [hy]
    clear hr hv hy
    go_enter Try.func31, Try.ntmps31
    go_wp2_with fail
    refine (CO.out _ H0.out).mono ?_
    rintro e w1 ⟨rfl, hb⟩
    have HB := Lib.hid (g_chain H0.out hb)
    clear hb
    go_wp2
    go_ret2
    exact PutRes.nope w _ HB.out
  | true =>
    rw [hv] at CO
    obtain ⟨l0, l1, l2, l3, hrun⟩ := shardB_iff hv
    have HD := Lib.hid (dif_at l0 l2 es (-1) 0 ⟨0, lo, 0, 0, 0⟩ hrun (nr_first l1))
    have hy : Hid (shardY lo hi es = encTo lo hi es es.length) := Lib.hid (by unfold shardY encTo; rw [hv, if_pos rfl, List.take_length])
    have hn4 : n ≤ 400 := by rw [← HL.out]; exact l3
    have HN : Hid ((n : Int) = (es.length : Int)) := Lib.hid (by rw [HL.out])
    have o1 : numOk lo = true := by simp only [numOk, decide_eq_true_eq]; omega
    have o2 : numOk hi = true := by simp only [numOk, decide_eq_true_eq]; omega
    have o3 : numOk (n : Int) = true := by simp only [numOk, decide_eq_true_eq]; omega
    have HSZ := Lib.hid (encTo_len lo hi es · l3)
    have HST := Lib.hid (encTo_step lo hi es)
    have HE0 : Hid ([] ++ [lo, hi, (n : Int)].flatMap (fun x => putVar [] x) = encTo lo hi es 0) := Lib.hid (by unfold encTo headY; rw [List.take_zero, encEs, ← HN.out]; simp)
    have HA0 : Hid ((true && [lo, hi, (n : Int)].all numOk) = true) := Lib.hid (by simp [o1, o2, o3])
    have CP := Lib.hid (fun W => packer_any W)
    clear hr hv hrun o1 o2 o3
    go_enter Try.func31, Try.ntmps31
    go_wp2_with fail
    refine (CO.out _ H0.out).mono ?_
    rintro e w1 ⟨rfl, hb⟩
    have B1 := Lib.hid (B0.out.below hb)
    have H1 := Lib.hid (g_chain H0.out hb)
    clear hb
    go_wp2_with fail
    refine (CP.out _).mono ?_
    rintro e w2 ⟨rfl, hp, hb⟩
    have hw1 : w.heap.size < w1.heap.size := B1.out.lt
    have B2 := Lib.hid (B1.out.below hb)
    have H2 := Lib.hid (g_chain H1.out hb)
    have hw2 : w1.heap.size + 1 < w2.heap.size := hp.all.lt
    have P2 := Lib.hid hp
    clear hb hp
    obtain ⟨b0, b1, b2, b3⟩ := B2.out
    go_wp2_with fail
    clear b0 b1 b2 b3
    refine (writePutVar_any _ 3 3 w1.heap.size w1.heap.size (w1.heap.size + 1) [lo, hi, (n : Int)] [] true _ (P2.out.below (below_a1 w2 _)) (fun W hk => sli_blk (xs := [lo, hi, (n : Int)]) (hk.stay _ _ _ (Blk.new w2 _ _) (by omega) (by omega) (by decide))) (by omega) (by simp) (by simp; omega) (by omega) (by omega) (by omega)).mono ?_
    rintro e w3 ⟨rfl, hp, hk⟩
    have K3 := Lib.hid ((PK.ofBelow (lo := w1.heap.size) (go := w1.heap.size) (gw := w1.heap.size + 1) (below_a1 w2 (.cells #[.int .i64 lo, .int .i64 hi, .int .i64 (n : Int)] 3)) (by omega)).trans hk)
    have P3 : Hid (PB w3 w1.heap.size w1.heap.size (w1.heap.size + 1) (encTo lo hi es 0) true) := Lib.hid (by have h := hp; rw [HE0.out, HA0.out] at h; exact h)
    have B3 : Hid (HBox w3 w.heap.size lo hi A n c) := Lib.hid (B2.out.keep K3.out.below.size (K3.out.below.block _ hw1))
    have H3 := Lib.hid (H2.out.trans (K3.out.below.mono (Nat.le_of_lt hw1)))
    have hw3 : w1.heap.size + 1 < w3.heap.size := P3.out.all.lt
    clear hp hk
    have K5 : Hid (KBlk (w3.alloc (.cells #[.int .i64 0, .int .i64 lo, .int .i64 0, .int .i64 0, .int .i64 0] 77)) w3.heap.size (lastK ⟨0, lo, 0, 0, 0⟩ (es.take 0))) := Lib.hid (KBlk.new w3 ⟨0, lo, 0, 0, 0⟩)
    have HB5 := Lib.hid (below_a1 w3 (.cells #[.int .i64 0, .int .i64 lo, .int .i64 0, .int .i64 0, .int .i64 0] 77))
    have H5 := Lib.hid (g_chain H3.out HB5.out)
    have P5 := Lib.hid (P3.out.below HB5.out)
    obtain ⟨b0, b1, b2, b3⟩ := B3.out
    go_wp2
    clear b0 b1 b2 b3
    go_loopw [8, 32] (fun _ i wr => ∃ j : Nat, j ≤ n ∧ i = .int .i64 (j : Int) ∧ Hid (PB wr w1.heap.size w1.heap.size (w1.heap.size + 1) (encTo lo hi es j) true) ∧ Hid (KBlk wr w3.heap.size (lastK ⟨0, lo, 0, 0, 0⟩ (es.take j))) ∧ Hid (Below w.heap.size w wr)) (fun _ i _ => n - (intOf i).toNat)
    case atStart => exact ⟨0, Nat.zero_le _, rfl, P5, K5, H5⟩
    case round =>
      clear P5 K5 H5 HB5 P3 B3 H3 K3 P2 B2 H2 B1 H1
      obtain ⟨j, hj, rfl, hpb, hkb, hbel⟩ := hrel
      by_cases hlt : j < n
      · obtain ⟨b, off, e, rfl, hbw, he, c00, c01, c02, c03, c04⟩ := (HS.out.below hbel.out).at_ hlt
        have hdd := (HD.out j e he.out).1
        have HNX := Lib.hid (HST.out j e he.out)
        have HLK : Hid (lastK ⟨0, lo, 0, 0, 0⟩ (es.take (j + 1)) = e) := Lib.hid (by rw [g_take es j e he.out, lastK_snoc])
        generalize lastK ⟨0, lo, 0, 0, 0⟩ (es.take j) = q at hdd HNX hkb
        obtain ⟨o1, o2, o3, o4⟩ := dif_ok hdd
        obtain ⟨d1, d2, d3, d4, d5, d6, d7, d8⟩ := hdd
        have hyl : (encTo lo hi es j).length ≤ 11221 := HSZ.out j
        have e1 := putVar_length [] (e.f - q.f)
        have e2 := putZig_length [] (e.t - q.t)
        have e3 := putVar_length [] e.w
        simp only [List.length_nil] at e1 e2 e3
        unfold encE at HNX
        generalize encTo lo hi es j = ys at hyl HNX hpb
        have HNY : Hid (encTo lo hi es (j + 1) = ys ++ putVar [] (e.f - q.f) ++ putZig [] (e.t - q.t) ++ putVar [] e.w ++ putZig [] (e.i - q.i)) := Lib.hid (by rw [HNX.out]; simp only [List.append_assoc])
        have W1 := Lib.hid (fun W g (hg : g = W.heap.size) (h : PB W w1.heap.size w1.heap.size (w1.heap.size + 1) ys true) => onePutVar (W := W) (e.f - q.f) g hg h o1 (by omega) (by have := h.all.lt; omega) (by omega) (by omega) (by omega))
        generalize hz1 : ys ++ putVar [] (e.f - q.f) = ya at W1 HNY
        have l1a : ya.length ≤ 11228 := by rw [← hz1, List.length_append]; omega
        have W2 := Lib.hid (fun W g (hg : g = W.heap.size) (h : PB W w1.heap.size w1.heap.size (w1.heap.size + 1) ya true) => onePutZig (W := W) (e.t - q.t) g hg h o2 (by omega) (by have := h.all.lt; omega) (by omega) (by omega) (by omega))
        generalize hz2 : ya ++ putZig [] (e.t - q.t) = yb at W2 HNY
        have l2a : yb.length ≤ 11235 := by rw [← hz2, List.length_append]; omega
        have W3 := Lib.hid (fun W g (hg : g = W.heap.size) (h : PB W w1.heap.size w1.heap.size (w1.heap.size + 1) yb true) => onePutVar (W := W) e.w g hg h o3 (by omega) (by have := h.all.lt; omega) (by omega) (by omega) (by omega))
        generalize hz3 : yb ++ putVar [] e.w = yc at W3 HNY
        have l3a : yc.length ≤ 11242 := by rw [← hz3, List.length_append]; omega
        have W4 := Lib.hid (fun W g (hg : g = W.heap.size) (h : PB W w1.heap.size w1.heap.size (w1.heap.size + 1) yc true) => onePutZig (W := W) (e.i - q.i) g hg h o4 (by omega) (by have := h.all.lt; omega) (by omega) (by omega) (by omega))
        generalize hz4 : yc ++ putZig [] (e.i - q.i) = yd at W4 HNY
        clear o1 o2 o3 o4 e1 e2 e3 hz1 hz2 hz3 hz4 HNX he hyl l1a l2a l3a
        have A1b := Lib.hid (below_a1 wr (.cells #[.int .i64 e.f, .int .i64 e.t, .int .i64 e.w, .int .i64 e.i, .int .i64 e.v] 77))
        have E1 := Lib.hid (KBlk.new wr e)
        have Q1 := Lib.hid (hkb.out.below A1b.out)
        have P1 := Lib.hid (hpb.out.below A1b.out)
        have G1 := Lib.hid (g_chain hbel.out A1b.out)
        have hql : w3.heap.size < wr.heap.size := Blk.lt hkb.out
        obtain ⟨q0, q1, q2, q3, q4⟩ := hkb.out.cells
        go_wp2_with fail
        clear c00 c01 c02 c03 c04 q0 q1 q2 q3 q4
        refine (W1.out _ _ (by first | rfl | simp) P1.out).mono ?_
        rintro e' wa ⟨rfl, hp, hk⟩
        have E2 : Hid (KBlk wa wr.heap.size e) := Lib.hid (hk.stay _ _ _ E1.out (by omega) (by omega) (by decide))
        have Q2 : Hid (KBlk wa w3.heap.size q) := Lib.hid (hk.stay _ _ _ Q1.out (by omega) (by omega) (by decide))
        have P2 := Lib.hid hp
        have G2 := Lib.hid (G1.out.trans (hk.below.mono (Nat.le_of_lt hw1)))
        clear hp hk
        obtain ⟨q0, q1, q2, q3, q4⟩ := Q2.out.cells
        obtain ⟨c00, c01, c02, c03, c04⟩ := E2.out.cells
        go_wp2_with fail
        clear c00 c01 c02 c03 c04 q0 q1 q2 q3 q4
        refine (W2.out _ _ (by first | rfl | simp) P2.out).mono ?_
        rintro e' wb ⟨rfl, hp, hk⟩
        have E3 : Hid (KBlk wb wr.heap.size e) := Lib.hid (hk.stay _ _ _ E2.out (by omega) (by omega) (by decide))
        have Q3 : Hid (KBlk wb w3.heap.size q) := Lib.hid (hk.stay _ _ _ Q2.out (by omega) (by omega) (by decide))
        have P3 := Lib.hid hp
        have G3 := Lib.hid (G2.out.trans (hk.below.mono (Nat.le_of_lt hw1)))
        clear hp hk
        obtain ⟨q0, q1, q2, q3, q4⟩ := Q3.out.cells
        obtain ⟨c00, c01, c02, c03, c04⟩ := E3.out.cells
        go_wp2_with fail
        clear c00 c01 c02 c03 c04 q0 q1 q2 q3 q4
        refine (W3.out _ _ (by first | rfl | simp) P3.out).mono ?_
        rintro e' wc ⟨rfl, hp, hk⟩
        have E4 : Hid (KBlk wc wr.heap.size e) := Lib.hid (hk.stay _ _ _ E3.out (by omega) (by omega) (by decide))
        have Q4 : Hid (KBlk wc w3.heap.size q) := Lib.hid (hk.stay _ _ _ Q3.out (by omega) (by omega) (by decide))
        have P4 := Lib.hid hp
        have G4 := Lib.hid (G3.out.trans (hk.below.mono (Nat.le_of_lt hw1)))
        clear hp hk
        obtain ⟨q0, q1, q2, q3, q4⟩ := Q4.out.cells
        obtain ⟨c00, c01, c02, c03, c04⟩ := E4.out.cells
        go_wp2_with fail
        clear c00 c01 c02 c03 c04 q0 q1 q2 q3 q4
        refine (W4.out _ _ (by first | rfl | simp) P4.out).mono ?_
        rintro e' wd ⟨rfl, hp, hk⟩
        have E5 : Hid (KBlk wd wr.heap.size e) := Lib.hid (hk.stay _ _ _ E4.out (by omega) (by omega) (by decide))
        have Q5 : Hid (KBlk wd w3.heap.size q) := Lib.hid (hk.stay _ _ _ Q4.out (by omega) (by omega) (by decide))
        have P5 := Lib.hid hp
        have G5 := Lib.hid (G4.out.trans (hk.below.mono (Nat.le_of_lt hw1)))
        clear hp hk
        obtain ⟨q0, q1, q2, q3, q4⟩ := Q5.out.cells
        obtain ⟨c00, c01, c02, c03, c04⟩ := E5.out.cells
        have f0 := Blk.frozen Q5.out 0
        have f1 := Blk.frozen Q5.out 1
        have f2 := Blk.frozen Q5.out 2
        have f3 := Blk.frozen Q5.out 3
        have f4 := Blk.frozen Q5.out 4
        have P6 := Lib.hid (P5.out.lay5 Q5.out (by omega) (by omega) e)
        have Q6 := Lib.hid (Q5.out.lay e)
        have G6 := Lib.hid (below_lay5 G5.out (b := w3.heap.size) (by omega) e)
        go_wp2
        go_roundw
        case rel => exact ⟨j + 1, by omega, by go_num, Lib.hid (by rw [HNY.out]; exact P6.out), Lib.hid (by rw [HLK.out]; exact Q6.out), G6⟩
        case measure => simp [intOf]; omega
      · obtain rfl : j = n := by omega
        have CW := Lib.hid (written_any hpb.out)
        go_wp2_with fail
        refine CW.out.mono ?_
        rintro e w9 ⟨rfl, A9, c9, rfl, ho⟩
        have HO := Lib.hid ho
        clear ho
        go_wp2
        go_ret2
        have h1 := hy.out
        rw [HL.out] at h1
        rw [h1]
        exact ⟨A9, c9, rfl, own_monoG (lo' := w.heap.size) HO.out (by omega), hbel.out⟩
end Go.Proofs.Ytmbabbapcjphgaa
