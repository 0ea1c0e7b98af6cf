/- The program's shard with other values. Condition: at most 2^20 edges and 2^20 values. -/
import Derived.Test.YtmbabbapcjphgaaPackRes
import Derived.Test.YtmbabbapcjphgaaValsM
import Derived.Test.YtmbabbapcjphgaaShOkI
namespace Go.Proofs.Ytmbabbapcjphgaa
open Go.RowKit

set_option maxRecDepth 20000 in
set_option maxHeartbeats 4000000 in
theorem implWithVals (lo hi : Int) (A : Option Addr) (n c : Nat) (es : List KE) (E : Option Addr) (m d : Nat) (l : List Int) (w : World) (hr : SlK w A n es) (hn : n ≤ 1048576) (h2 : SlI w E m l) (_hm : m ≤ 1048576) :
    Calls Try.prog 46 #[.agg #[.int .i64 lo, .int .i64 hi, .slice A n c], .slice E m d] w (MadeShB w (valsLo lo hi es l) (valsHi lo hi es l) (valsR lo hi es l) (valsB lo hi es l)) := by
  obtain ⟨i0, hi0, hz0, hz1, hz2⟩ := info_parts Try.infoSEdge
  have HS := Lib.hid hr
  have HI := Lib.hid h2
  have HL := Lib.hid hr.len
  have HLL := Lib.hid h2.len
  have CO := Lib.hid (fun W (h : Below w.heap.size w W) => implShardOk lo hi A n c es W (hr.below h) hn)
  have B0 := Lib.hid ((SBlk.new w lo hi A n c).below (below_a1 _ (.cells #[.int .i64 0, .int .i64 0, .slice none 0 0] 35)))
  have Z0 : Hid (SBlk ((w.alloc (.cells #[.int .i64 lo, .int .i64 hi, .slice A n c] 35)).alloc (.cells #[.int .i64 0, .int .i64 0, .slice none 0 0] 35)) (w.heap.size + 1) 0 0 none 0 0) := Lib.hid (by
    have h := SBlk.new (w.alloc (.cells #[.int .i64 lo, .int .i64 hi, .slice A n c] 35)) 0 0 none 0 0
    simpa using h)
  have H0 := Lib.hid (below_a2 w (.cells #[.int .i64 lo, .int .i64 hi, .slice A n c] 35) (.cells #[.int .i64 0, .int .i64 0, .slice none 0 0] 35))
  cases hv : shardB lo hi es with
  | false =>
    rw [hv] at CO
    have hno : valsB lo hi es l = false := by simp [valsB, hv]
    obtain ⟨e1, e2, e3⟩ := vals_no hno
    rw [hno, e1, e2, e3]
    clear hr hv h2 hno e1 e2 e3
    go_enter Try.func46, Try.ntmps46
    go_wp2_with fail
    refine (CO.out _ H0.out).mono ?_
    rintro e w1 ⟨rfl, hb⟩
    have HB := Lib.hid (g_chain H0.out hb)
    obtain ⟨z0, z1, z2⟩ := (Z0.out.below hb).cells
    have f0 := Blk.frozen (Z0.out.below hb) 0
    have f1 := Blk.frozen (Z0.out.below hb) 1
    have f2 := Blk.frozen (Z0.out.below hb) 2
    clear hb
    go_wp2
    refine bodyPost_ret (v := .tuple #[.agg #[.int .i64 0, .int .i64 0, .slice none 0 0], .bool false]) (by simp [results, Try.results46, go_sem, z0, z1, z2]) rfl ?_
    exact MadeShB.no w _ (by repeat (first | exact HB.out | refine Below.setCell ?_ (by simp) _))
  | true =>
    rw [hv] at CO
    obtain ⟨l0, l1, l2, l3, hrun⟩ := shardB_iff hv
    have HD := Lib.hid (dif_at l0 l2 es (-1) 0 ⟨0, lo, 0, 0, 0⟩ hrun (nr_first l1))
    have HV := Lib.hid hv
    have hn4 : n ≤ 400 := by rw [← HL.out]; exact l3
    clear hr hv hrun h2 l3
    go_enter Try.func46, Try.ntmps46
    go_wp2_with fail
    refine (CO.out _ H0.out).mono ?_
    rintro e w1 ⟨rfl, hb⟩
    have B1 := Lib.hid (B0.out.below hb)
    have Z1 := Lib.hid (Z0.out.below hb)
    have H1 := Lib.hid (g_chain H0.out hb)
    have hw1 : w.heap.size + 1 < w1.heap.size := Blk.lt Z1.out
    clear hb
    obtain ⟨bl, b0, b1, b2⟩ := B1.out.hbox
    have HB2 := Lib.hid (below_a1 w1 (.cells #[.int .i64 lo, .int .i64 hi, .slice none 0 0] 35))
    have S2 := Lib.hid (SBlk.new w1 lo hi none 0 0)
    have Z2 := Lib.hid (Z1.out.below HB2.out)
    have H2 := Lib.hid (g_chain H1.out HB2.out)
    go_wp2
    clear bl b0 b1 b2
    go_loopw [8, 21] (fun _ i wr => ∃ (j : Nat) (A1 : Option Addr) (c1 : Nat) (ks : List KE), j ≤ n ∧ i = .int .i64 (j : Int) ∧ Hid (ks = (es.take j).map (KE.put l)) ∧ Hid ((es.take j).all (fun e => numOk (valAt l e.i)) = true) ∧ Hid (wr.ownsRow w.heap.size 77 5 (.slice A1 ks.length c1) ks.length (ks.flatMap KE.cells)) ∧ Hid (SBlk wr w1.heap.size lo hi A1 ks.length c1) ∧ Hid (SBlk wr (w.heap.size + 1) 0 0 none 0 0) ∧ Hid (Below w.heap.size w wr)) (fun _ i _ => n - (intOf i).toNat)
    case atStart => exact ⟨0, none, 0, [], Nat.zero_le _, rfl, Lib.hid (by simp), Lib.hid (by simp), Lib.hid (World.ownsRow_nil _ _ _ _), S2, Z2, H2⟩
    case round =>
      clear S2 Z2 H2 HB2 Z1 B1 H1
      obtain ⟨j, A1, c1, ks, hj, rfl, hks, hall, hown, hsb, hzb, hbel⟩ := hrel
      by_cases hlt : j < n
      · obtain ⟨b, off, e, rfl, hbw, he, c00, c01, c02, c03, c04⟩ := (HS.out.below hbel.out).at_ hlt
        have hke := kedgeB_iff (HD.out j e he.out).2
        have hkl : ks.length ≤ 400 := by rw [hks.out, List.length_map, List.length_take]; omega
        have HBA := Lib.hid (below_a1 wr (.cells #[.int .i64 e.f, .int .i64 e.t, .int .i64 e.w, .int .i64 e.i, .int .i64 e.v] 77))
        have HSTM := Lib.hid (map_step l es j e he.out)
        have HSTV := Lib.hid (vals_step l es j e he.out)
        have HBAD := Lib.hid (fun h => vals_no (vals_bad (lo := lo) (hi := hi) (l := l) he.out h))
        have HBAD2 := Lib.hid (fun h => vals_bad (lo := lo) (hi := hi) (l := l) he.out h)
        have hzw : w.heap.size + 1 < wr.heap.size := Blk.lt hzb.out
        have hsw : w1.heap.size < wr.heap.size := Blk.lt hsb.out
        obtain ⟨k, hk⟩ : ∃ k : Nat, e.i = (k : Int) := ⟨e.i.toNat, by omega⟩
        have G1 := Lib.hid (g_chain hbel.out HBA.out)
        rw [hk] at c03 hke G1
        by_cases hkm : k < m
        · obtain ⟨vb0, voff, x, rfl, hvb, hx, hc⟩ := (HI.out.below G1.out).at_ hkm
          have HVA : Hid (valAt l e.i = x) := Lib.hid (by rw [hk]; exact valAt_in hx.out)
          cases hq : numOk x with
          | false =>
            have HE := Lib.hid (HBAD.out (by rw [HVA.out]; exact hq))
            have HE2 := Lib.hid (HBAD2.out (by rw [HVA.out]; exact hq))
            have hqx : x < 0 ∨ 281474976710655 < x := by
              have := of_decide_eq_false hq
              omega
            have CN := Lib.hid (fun W => implNum_no x W hqx)
            obtain ⟨z0, z1, z2⟩ := hzb.out.cells
            have f0 := Blk.frozen hzb.out 0
            have f1 := Blk.frozen hzb.out 1
            have f2 := Blk.frozen hzb.out 2
            clear hq hqx hke hx he
            go_wp2_with (go_at_call 87; refine (CN.out _).mono ?_; rintro e w' ⟨rfl, rfl⟩)
            refine bodyPost_ret (v := .tuple #[.agg #[.int .i64 0, .int .i64 0, .slice none 0 0], .bool false]) (by simp [results, Try.results46, go_sem, z0, z1, z2, hzw]) rfl ?_
            rw [HE2.out, HE.out.1, HE.out.2.1, HE.out.2.2]
            exact MadeShB.no w _ (by repeat (first | exact hbel.out | refine Below.setCell ?_ (by simp) _ | refine Below.alloc ?_ (by simp; omega) _))
          | true =>
            have hqx : 0 ≤ x ∧ x ≤ 281474976710655 := of_decide_eq_true hq
            have CN := Lib.hid (fun W => implNum_yes x W hqx.1 hqx.2)
            have HALL : Hid ((es.take (j + 1)).all (fun e => numOk (valAt l e.i)) = true) := Lib.hid (by rw [HSTV.out, hall.out, HVA.out, hq]; rfl)
            have HKS : Hid (ks ++ [(⟨e.f, e.t, e.w, (k : Int), x⟩ : KE)] = (es.take (j + 1)).map (KE.put l)) := Lib.hid (by rw [HSTM.out, hks.out, ← hk]; unfold KE.put; rw [HVA.out])
            have HON := Lib.hid (five_cells ⟨e.f, e.t, e.w, (k : Int), x⟩)
            clear hq hqx hke hx he HBAD HBAD2
            obtain ⟨s0, s1, s2⟩ := hsb.out.cells
            go_wp2_with (first
              | (go_at_call 87; refine (CN.out _).mono ?_; rintro e' w' ⟨rfl, rfl⟩)
              | (at_builtin; refine wpList_append_any _ rfl (.tmp 47) (.tmp 49) _ rfl w.heap.size 77 i0 _ 5 40 Try.underlying33 hi0 hz0 hz1 hz2 rfl (by omega) (.slice A1 ks.length c1) ks.length (ks.flatMap KE.cells) rfl ?o1 ?B (some ⟨wr.heap.size + 1, 0, none⟩) 1 1 [.int .i64 e.f, .int .i64 e.t, .int .i64 e.w, .int .i64 (k : Int), .int .i64 x] rfl ?o2 HON.out (by simp only [maxLen]; omega) (by omega) ?o3 ?_))
            case o1 => exact own_below hown.out (below_a2 wr _ _)
            case B => exact wr.heap.size + 1 + 1
            case o2 => exact five_reads (wr.alloc _) ⟨e.f, e.t, e.w, (k : Int), x⟩ _ (wr.heap.size + 1) (by simp)
            case o3 => simp; omega
            intro v4 w4 hown4 hg4 _
            obtain ⟨A4, c4, rfl⟩ := pk_form hown4
            have HB2 := Lib.hid (below_a2 wr (.cells #[.int .i64 e.f, .int .i64 e.t, .int .i64 e.w, .int .i64 (k : Int), .int .i64 x] 77) (.cells #[.int .i64 e.f, .int .i64 e.t, .int .i64 e.w, .int .i64 (k : Int), .int .i64 x] 77))
            have S4 : Hid (SBlk w4 w1.heap.size lo hi A1 ks.length c1) := Lib.hid ((Blk.below hsb.out HB2.out).grown hg4 (own_type hown.out hsb.out (by decide)))
            have Z4 : Hid (SBlk w4 (w.heap.size + 1) 0 0 none 0 0) := Lib.hid ((Blk.below hzb.out HB2.out).grown hg4 (own_type hown.out hzb.out (by decide)))
            have G4 : Hid (Below w.heap.size w w4) := Lib.hid ((g_chain hbel.out HB2.out).grown hg4 (by have := hbel.out.size; simp; omega) (fun q hq => (hown.out.lt q hq).1))
            have hle : ks.length + 1 = (ks ++ [(⟨e.f, e.t, e.w, (k : Int), x⟩ : KE)]).length := by simp
            have O4 : Hid (w4.ownsRow w.heap.size 77 5 (.slice A4 (ks ++ [(⟨e.f, e.t, e.w, (k : Int), x⟩ : KE)]).length c4) (ks ++ [(⟨e.f, e.t, e.w, (k : Int), x⟩ : KE)]).length ((ks ++ [(⟨e.f, e.t, e.w, (k : Int), x⟩ : KE)]).flatMap KE.cells)) := Lib.hid (by rw [ke_flat, ← hle]; exact hown4)
            rw [hle]
            generalize ks ++ [(⟨e.f, e.t, e.w, (k : Int), x⟩ : KE)] = ks4 at HKS O4 hle
            have O5 := Lib.hid (own_apart (i := 2) (u := .slice A4 ks4.length c4) O4.out (own_type O4.out S4.out (by decide)))
            have S5 := Lib.hid (SBlk.edges (A' := A4) (n' := ks4.length) (c' := c4) S4.out)
            have Z5 : Hid (SBlk _ (w.heap.size + 1) 0 0 none 0 0) := Lib.hid (Blk.other Z4.out (p := ⟨w1.heap.size, 2, none⟩) (Nat.ne_of_lt hw1) (.slice A4 ks4.length c4))
            have G5 := Lib.hid (G4.out.setCell (p := ⟨w1.heap.size, 2, none⟩) (by show w.heap.size ≤ w1.heap.size; omega) (.slice A4 ks4.length c4))
            obtain ⟨-, -, s2'⟩ := S4.out.cells
            have sf2 := Blk.frozen S4.out 2
            clear s0 s1 s2 hown4 hg4 hle
            go_wp2
            go_roundw
            case rel => exact ⟨j + 1, A4, c4, ks4, by omega, by go_num, HKS, HALL, O5, S5, Z5, G5⟩
            case measure => simp [intOf]; omega
        · have HE := Lib.hid (HBAD.out (valAt_out (by rw [HLL.out, hk]; omega)))
          have HE2 := Lib.hid (HBAD2.out (valAt_out (by rw [HLL.out, hk]; omega)))
          have hkm2 : (m : Int) ≤ (k : Int) := by omega
          obtain ⟨z0, z1, z2⟩ := hzb.out.cells
          have f0 := Blk.frozen hzb.out 0
          have f1 := Blk.frozen hzb.out 1
          have f2 := Blk.frozen hzb.out 2
          clear hke he
          go_wp2
          refine bodyPost_ret (v := .tuple #[.agg #[.int .i64 0, .int .i64 0, .slice none 0 0], .bool false]) (by simp [results, Try.results46, go_sem, z0, z1, z2, hzw]) rfl ?_
          rw [HE2.out, HE.out.1, HE.out.2.1, HE.out.2.2]
          exact MadeShB.no w _ (by repeat (first | exact hbel.out | refine Below.setCell ?_ (by simp) _ | refine Below.alloc ?_ (by simp; omega) _))
      · obtain rfl : j = n := by omega
        have hyes : valsB lo hi es l = true := vals_all HV.out (by have h := hall.out; rw [List.take_of_length_le (by rw [HL.out]; exact Nat.le_refl _)] at h; exact h)
        have HE := Lib.hid (vals_yes hyes)
        have HE2 := Lib.hid hyes
        have HE3 : Hid (es.map (KE.put l) = ks) := Lib.hid (by rw [hks.out, List.take_of_length_le (by rw [HL.out]; exact Nat.le_refl _)])
        obtain ⟨z0, z1, z2⟩ := hzb.out.cells
        obtain ⟨s0, s1, s2⟩ := hsb.out.cells
        have f0 := Blk.frozen hzb.out 0
        have f1 := Blk.frozen hzb.out 1
        have f2 := Blk.frozen hzb.out 2
        have O2 := Lib.hid (own_type hown.out hzb.out (by decide))
        clear hyes
        go_wp2
        refine bodyPost_ret (v := .tuple #[.agg #[.int .i64 lo, .int .i64 hi, .slice A1 ks.length c1], .bool true]) (by simp [results, Try.results46, go_sem, z0, z1, z2]) rfl ?_
        rw [HE2.out, HE.out.1, HE.out.2.1, HE.out.2.2, HE3.out]
        exact ⟨A1, c1, rfl, own_apart (own_apart (own_apart hown.out O2.out) O2.out) O2.out, by repeat (first | exact hbel.out | refine Below.setCell ?_ (by simp) _)⟩
end Go.Proofs.Ytmbabbapcjphgaa
