/- The model's shard with other values. Condition: at most 2^20 edges and 2^20 values. -/
import Derived.Test.YtmbabbapcjphgaaPackRes
import Derived.Test.YtmbabbapcjphgaaValsM
import Derived.Test.YtmbabbapcjphgaaShOkS
namespace Go.Proofs.Ytmbabbapcjphgaa
open Go.RowKit

theorem built_ks (w : World) : (w.alloc (.cells #[] 77)).ownsRow w.heap.size 77 5 (.slice (some ⟨w.heap.size, 0, none⟩) 0 0) 0 [] :=
  World.ownsRow_lit w #[] 0 (Nat.le_refl _) (by unfold maxLen; omega) rfl
theorem SlK.reads {w : World} {A : Option Addr} {n : Nat} {es : List KE} (h : SlK w A n es) : Reads w w.heap.size 5 A n (es.flatMap KE.cells) := h.row.reads

set_option maxRecDepth 20000 in
set_option maxHeartbeats 4000000 in
theorem copySh_any (lo hi : Int) (A : Option Addr) (n c : Nat) (es : List KE) (w : World) (hr : SlK w A n es) (hn : n ≤ 1048576) :
    Calls Try.prog 85 #[.agg #[.int .i64 lo, .int .i64 hi, .slice A n c]] w (MadeSh w lo hi es) := by
  obtain ⟨i0, hi0, hz0, hz1, hz2⟩ := info_parts Try.infoSEdge
  have HS := Lib.hid hr
  have HL := Lib.hid hr.len
  have HO := Lib.hid (ke_one es)
  have B0 := Lib.hid ((SBlk.new w lo hi A n c).below (below_a1 _ (.cells #[.int .i64 0, .int .i64 0, .slice none 0 0] 35)))
  have Z0 : Hid (SBlk ((w.alloc (.cells #[.int .i64 lo, .int .i64 hi, .slice A n c] 35)).alloc (.cells #[.int .i64 0, .int .i64 0, .slice none 0 0] 35)) (w.heap.size + 1) 0 0 none 0 0) := Lib.hid (by
    have h := SBlk.new (w.alloc (.cells #[.int .i64 lo, .int .i64 hi, .slice A n c] 35)) 0 0 none 0 0
    simpa using h)
  have H0 := Lib.hid (below_a2 w (.cells #[.int .i64 lo, .int .i64 hi, .slice A n c] 35) (.cells #[.int .i64 0, .int .i64 0, .slice none 0 0] 35))
  have hz : w.heap.size + 1 < ((w.alloc (.cells #[.int .i64 lo, .int .i64 hi, .slice A n c] 35)).alloc (.cells #[.int .i64 0, .int .i64 0, .slice none 0 0] 35)).heap.size := Blk.lt Z0.out
  have R1 : Hid (Reads ((w.alloc (.cells #[.int .i64 lo, .int .i64 hi, .slice A n c] 35)).alloc (.cells #[.int .i64 0, .int .i64 0, .slice none 0 0] 35)) ((w.alloc (.cells #[.int .i64 lo, .int .i64 hi, .slice A n c] 35)).alloc (.cells #[.int .i64 0, .int .i64 0, .slice none 0 0] 35)).heap.size 5 A n (es.flatMap KE.cells)) := Lib.hid (HS.out.below H0.out).reads
  have HBK : Hid ((((w.alloc (.cells #[.int .i64 lo, .int .i64 hi, .slice A n c] 35)).alloc (.cells #[.int .i64 0, .int .i64 0, .slice none 0 0] 35)).alloc (.cells #[] 77)).ownsRow (w.heap.size + 1 + 1) 77 5 (.slice (some ⟨w.heap.size + 1 + 1, 0, none⟩) 0 0) 0 []) := Lib.hid (by have h := built_ks ((w.alloc (.cells #[.int .i64 lo, .int .i64 hi, .slice A n c] 35)).alloc (.cells #[.int .i64 0, .int .i64 0, .slice none 0 0] 35)); simpa using h)
  obtain ⟨bl, b0, b1, b2⟩ := B0.out.hbox
  clear hr
  go_enter Try.func85, Try.ntmps85
  go_wp2_with (at_builtin; refine wpList_append_any _ rfl (.tmp 3) (.tmp 5) _ rfl (w.heap.size + 1 + 1) 77 i0 _ 5 40 Try.underlying33 hi0 hz0 hz1 hz2 rfl (by omega) (.slice (some ⟨w.heap.size + 1 + 1, 0, none⟩) 0 0) 0 [] rfl HBK.out _ A n c (es.flatMap KE.cells) rfl (R1.out.alloc (Nat.le_refl _) _) HO.out (by simp only [maxLen]; omega) (by omega) (by simp) ?_)
  intro v1 w1 hown hg _
  try simp only [Nat.zero_add, List.nil_append] at hown
  obtain ⟨A1, c1, rfl⟩ := pk_form hown
  have HBA := Lib.hid (below_a1 ((w.alloc (.cells #[.int .i64 lo, .int .i64 hi, .slice A n c] 35)).alloc (.cells #[.int .i64 0, .int .i64 0, .slice none 0 0] 35)) (.cells #[] 77))
  have B1 : Hid (SBlk w1 w.heap.size lo hi A n c) := Lib.hid ((Blk.below B0.out HBA.out).grown hg (by simp [Value.ownBlock]; omega))
  have Z1 : Hid (SBlk w1 (w.heap.size + 1) 0 0 none 0 0) := Lib.hid ((Blk.below Z0.out HBA.out).grown hg (by simp [Value.ownBlock]))
  have G1 : Hid (Below w.heap.size w w1) := Lib.hid ((g_chain H0.out HBA.out).grown hg (by simp; omega) (fun q hq => by simp [Value.ownBlock] at hq; omega))
  have O1 := Lib.hid hown
  have N1 := Lib.hid (own_type hown B1.out (by decide))
  have N2 := Lib.hid (own_type hown Z1.out (by decide))
  clear b0 b1 b2 hown hg bl
  obtain ⟨b0, b1, b2⟩ := B1.out.cells
  obtain ⟨z0, z1, z2⟩ := Z1.out.cells
  have bf := Blk.frozen B1.out 2
  have f0 := Blk.frozen Z1.out 0
  have f1 := Blk.frozen Z1.out 1
  have f2 := Blk.frozen Z1.out 2
  go_wp2
  refine bodyPost_ret (v := .agg #[.int .i64 lo, .int .i64 hi, .slice A1 n c1]) (by simp [results, Try.results85, go_sem, z0, z1, z2]) rfl ?_
  have e := HL.out
  subst e
  exact ⟨A1, c1, rfl, own_apart (own_apart (own_apart (own_apart (own_monoG (lo' := w.heap.size) O1.out (by omega)) N1.out) N2.out) N2.out) N2.out, by repeat (first | exact G1.out | refine Below.setCell ?_ (by simp) _)⟩

def mixV (l : List Int) (es : List KE) (j : Nat) : List KE := (es.take j).map (KE.put l) ++ es.drop j
theorem mixV_len (l : List Int) (es : List KE) (j : Nat) : (mixV l es j).length = es.length := by
  unfold mixV
  rw [List.length_append, List.length_map, List.length_take, List.length_drop]
  omega
theorem mixV_zero (l : List Int) (es : List KE) : mixV l es 0 = es := by simp [mixV]
theorem mixV_full (l : List Int) (es : List KE) : mixV l es es.length = es.map (KE.put l) := by simp [mixV]
theorem mixV_cell {l : List Int} {es : List KE} {j : Nat} {e : KE} (he : es[j]? = some e) : (mixV l es j)[j]? = some e := by
  unfold mixV
  rw [g_drop es j e he]
  exact g_get _ _ _ _ (by rw [List.length_map, List.length_take]; have := (List.getElem?_eq_some_iff.1 he).1; omega)
theorem mixV_step {l : List Int} {es : List KE} {j : Nat} {e : KE} (he : es[j]? = some e) : ((mixV l es j).flatMap KE.cells).set (j * 5 + 4) (.int .i64 (valAt l e.i)) = (mixV l es (j + 1)).flatMap KE.cells := by
  have hj := (List.getElem?_eq_some_iff.1 he).1
  have hl : ((es.take j).map (KE.put l)).length = j := by rw [List.length_map, List.length_take]; omega
  unfold mixV
  rw [g_drop es j e he, g_take es j e he, List.map_append, List.append_assoc]
  have h := flat_set KE.cells 5 KE.cells_len ((es.take j).map (KE.put l) ++ e :: es.drop (j + 1)) j 4 e (e.put l) (.int .i64 (valAt l e.i)) (g_get _ _ _ _ hl) (by omega) rfl
  rw [g_set _ _ _ _ _ hl] at h
  rw [h]
  rfl

set_option maxRecDepth 20000 in
set_option maxHeartbeats 4000000 in
theorem specWithVals (lo hi : Int) (A : Option Addr) (n c : Nat) (es : List KE) (E : Option Addr) (m d : Nat) (l : List Int) (w : World) (hr : SlK w A n es) (hn : n ≤ 1048576) (h2 : SlI w E m l) (_hm : m ≤ 1048576) :
    Calls Try.prog 45 #[.agg #[.int .i64 lo, .int .i64 hi, .slice A n c], .slice E m d] w (MadeShB w (valsLo lo hi es l) (valsHi lo hi es l) (valsR lo hi es l) (valsB lo hi es l)) := by
  have HS := Lib.hid hr
  have HI := Lib.hid h2
  have HL := Lib.hid hr.len
  have HLL := Lib.hid h2.len
  have CO := Lib.hid (fun W (h : Below w.heap.size w W) => specShardOk lo hi A n c es W (hr.below h) hn)
  have CC := Lib.hid (fun W (h : Below w.heap.size w W) => copySh_any lo hi A n c es W (hr.below h) hn)
  have B0 := Lib.hid ((SBlk.new w lo hi A n c).below (below_a1 _ (.cells #[.int .i64 0, .int .i64 0, .slice none 0 0] 35)))
  have Z0 : Hid (SBlk ((w.alloc (.cells #[.int .i64 lo, .int .i64 hi, .slice A n c] 35)).alloc (.cells #[.int .i64 0, .int .i64 0, .slice none 0 0] 35)) (w.heap.size + 1) 0 0 none 0 0) := Lib.hid (by
    have h := SBlk.new (w.alloc (.cells #[.int .i64 lo, .int .i64 hi, .slice A n c] 35)) 0 0 none 0 0
    simpa using h)
  have H0 := Lib.hid (below_a2 w (.cells #[.int .i64 lo, .int .i64 hi, .slice A n c] 35) (.cells #[.int .i64 0, .int .i64 0, .slice none 0 0] 35))
  cases hv : shardB lo hi es with
  | false =>
    rw [hv] at CO
    have hno : valsB lo hi es l = false := by simp [valsB, hv]
    obtain ⟨e1, e2, e3⟩ := vals_no hno
    rw [hno, e1, e2, e3]
    clear hr hv h2 hno e1 e2 e3
    go_enter Try.func45, Try.ntmps45
    go_wp2_with fail
    refine (CO.out _ H0.out).mono ?_
    rintro e w1 ⟨rfl, hb⟩
    have HB := Lib.hid (g_chain H0.out hb)
    obtain ⟨z0, z1, z2⟩ := (Z0.out.below hb).cells
    have f0 := Blk.frozen (Z0.out.below hb) 0
    have f1 := Blk.frozen (Z0.out.below hb) 1
    have f2 := Blk.frozen (Z0.out.below hb) 2
    clear hb
    go_wp2
    refine bodyPost_ret (v := .tuple #[.agg #[.int .i64 0, .int .i64 0, .slice none 0 0], .bool false]) (by simp [results, Try.results45, go_sem, z0, z1, z2]) rfl ?_
    exact MadeShB.no w _ (by repeat (first | exact HB.out | refine Below.setCell ?_ (by simp) _))
  | true =>
    rw [hv] at CO
    obtain ⟨l0, l1, l2, l3, hrun⟩ := shardB_iff hv
    have HD := Lib.hid (dif_at l0 l2 es (-1) 0 ⟨0, lo, 0, 0, 0⟩ hrun (nr_first l1))
    have HV := Lib.hid hv
    have hn4 : n ≤ 400 := by rw [← HL.out]; exact l3
    clear hr hv hrun h2 l3
    go_enter Try.func45, Try.ntmps45
    go_wp2_with fail
    refine (CO.out _ H0.out).mono ?_
    rintro e w1 ⟨rfl, hb⟩
    have B1 := Lib.hid (B0.out.below hb)
    have Z1 := Lib.hid (Z0.out.below hb)
    have H1 := Lib.hid (g_chain H0.out hb)
    clear hb
    obtain ⟨bl, b0, b1, b2⟩ := B1.out.hbox
    go_wp2_with fail
    clear bl b0 b1 b2
    refine (CC.out _ H1.out).mono ?_
    rintro e w2 ⟨A2, c2, rfl, ho, hb⟩
    have B2 := Lib.hid (B1.out.below hb)
    have Z2 := Lib.hid (Z1.out.below hb)
    have H2 := Lib.hid (g_chain H1.out hb)
    have O2 : Hid (w2.ownsRow w.heap.size 77 5 (.slice A2 n c2) n ((mixV l es 0).flatMap KE.cells)) := Lib.hid (by have h := own_monoG (lo' := w.heap.size) ho H1.out.size; rw [mixV_zero, ← HL.out]; exact h)
    have hw2 : w.heap.size + 1 < w2.heap.size := Blk.lt Z2.out
    clear ho hb
    have HLE := HL.out
    rw [HLE]
    obtain ⟨bl, b0, b1, b2⟩ := B2.out.hbox
    have HB3 := Lib.hid (below_a1 w2 (.cells #[.int .i64 lo, .int .i64 hi, .slice A2 n c2] 35))
    have S3 := Lib.hid (SBlk.new w2 lo hi A2 n c2)
    have Z3 := Lib.hid (Z2.out.below HB3.out)
    have H3 := Lib.hid (g_chain H2.out HB3.out)
    have O3 := Lib.hid (own_below O2.out HB3.out)
    clear HLE
    go_wp2
    clear bl b0 b1 b2
    go_loopw [7, 8, 18] (fun _ _ i wr => ∃ j : Nat, j ≤ n ∧ i = .int .i64 (j : Int) ∧ Hid ((es.take j).all (fun e => numOk (valAt l e.i)) = true) ∧ Hid (wr.ownsRow w.heap.size 77 5 (.slice A2 n c2) n ((mixV l es j).flatMap KE.cells)) ∧ Hid (SBlk wr w2.heap.size lo hi A2 n c2) ∧ Hid (SBlk wr (w.heap.size + 1) 0 0 none 0 0) ∧ Hid (Below w.heap.size w wr)) (fun _ _ i _ => n - (intOf i).toNat)
    case atStart => exact ⟨0, Nat.zero_le _, rfl, Lib.hid (by simp), O3, S3, Z3, H3⟩
    case round =>
      clear O3 S3 Z3 H3 HB3 O2 Z2 H2 B2 Z1 B1 H1
      obtain ⟨j, hj, rfl, hall, hown, hsb, hzb, hbel⟩ := hrel
      by_cases hlt : j < n
      · obtain ⟨b, off, e, rfl, hbw, he, c00, c01, c02, c03, c04⟩ := (HS.out.below hbel.out).at_ hlt
        have hke := kedgeB_iff (HD.out j e he.out).2
        have HBA := Lib.hid (below_a1 wr (.cells #[.int .i64 e.f, .int .i64 e.t, .int .i64 e.w, .int .i64 e.i, .int .i64 e.v] 77))
        have HSTM := Lib.hid (mixV_step (l := l) he.out)
        have HSTV := Lib.hid (vals_step l es j e he.out)
        have HCE := Lib.hid (mixV_cell (l := l) he.out)
        have HBAD := Lib.hid (fun h => vals_no (vals_bad (lo := lo) (hi := hi) (l := l) he.out h))
        have HBAD2 := Lib.hid (fun h => vals_bad (lo := lo) (hi := hi) (l := l) he.out h)
        have hzw : w.heap.size + 1 < wr.heap.size := Blk.lt hzb.out
        have hsw : w2.heap.size < wr.heap.size := Blk.lt hsb.out
        obtain ⟨k, hk⟩ : ∃ k : Nat, e.i = (k : Int) := ⟨e.i.toNat, by omega⟩
        have G1 := Lib.hid (g_chain hbel.out HBA.out)
        rw [hk] at c03 hke G1
        by_cases hkm : k < m
        · obtain ⟨vb0, voff, x, rfl, hvb, hx, hc⟩ := (HI.out.below hbel.out).at_ hkm
          have HVA : Hid (valAt l e.i = x) := Lib.hid (by rw [hk]; exact valAt_in hx.out)
          cases hq : numOk x with
          | false =>
            have HE := Lib.hid (HBAD.out (by rw [HVA.out]; exact hq))
            have HE2 := Lib.hid (HBAD2.out (by rw [HVA.out]; exact hq))
            have hqx : x < 0 ∨ 281474976710655 < x := by
              have := of_decide_eq_false hq
              omega
            have CN := Lib.hid (fun W => specNum_no x W hqx)
            obtain ⟨z0, z1, z2⟩ := hzb.out.cells
            have f0 := Blk.frozen hzb.out 0
            have f1 := Blk.frozen hzb.out 1
            have f2 := Blk.frozen hzb.out 2
            clear hq hqx hke hx he
            go_wp2_with (go_at_call 86; refine (CN.out _).mono ?_; rintro e w' ⟨rfl, rfl⟩)
            refine bodyPost_ret (v := .tuple #[.agg #[.int .i64 0, .int .i64 0, .slice none 0 0], .bool false]) (by simp [results, Try.results45, go_sem, z0, z1, z2, hzw]) rfl ?_
            rw [HE2.out, HE.out.1, HE.out.2.1, HE.out.2.2]
            exact MadeShB.no w _ (by repeat (first | exact hbel.out | refine Below.setCell ?_ (by simp) _ | refine Below.alloc ?_ (by simp; omega) _))
          | true =>
            have hqx : 0 ≤ x ∧ x ≤ 281474976710655 := of_decide_eq_true hq
            have CN := Lib.hid (fun W => specNum_yes x W hqx.1 hqx.2)
            have HALL : Hid ((es.take (j + 1)).all (fun e => numOk (valAt l e.i)) = true) := Lib.hid (by rw [HSTV.out, hall.out, HVA.out, hq]; rfl)
            obtain ⟨g, rfl⟩ := g_own_at hown.out (by omega)
            have hst := hown.out.stored (j * 5 + 4) (.int .i64 x)
            rw [← HVA.out, HSTM.out, HVA.out] at hst
            have hcg : wr.cell? ⟨g, j * 5 + 4, none⟩ = some (.int .i64 e.v) := (hown.out.cellAt (j * 5 + 4) (by omega)).trans (flat_get KE.cells 5 KE.cells_len _ j 4 e HCE.out (by omega))
            have hfg := hown.out.frozenAt (j * 5 + 4)
            have hgl : g < wr.heap.size := (hown.out.lt g rfl).2
            have hgb : w.heap.size ≤ g := (hown.out.lt g rfl).1
            have hgz : g ≠ w.heap.size + 1 := fun hh => own_type hown.out hzb.out (by decide) (by rw [← hh]; rfl)
            have hgs : g ≠ w2.heap.size := fun hh => own_type hown.out hsb.out (by decide) (by rw [← hh]; rfl)
            have BX := Lib.hid (below_a1 (wr.setCell ⟨g, j * 5 + 4, none⟩ (.int .i64 x)) (.cells #[.int .i64 e.f, .int .i64 e.t, .int .i64 e.w, .int .i64 (k : Int), .int .i64 e.v] 77))
            have O5 := Lib.hid (own_below hst.1 BX.out)
            have S5 : Hid (SBlk _ w2.heap.size lo hi _ n c2) := Lib.hid (Blk.below (Blk.other hsb.out (p := ⟨g, j * 5 + 4, none⟩) (fun hh => hgs hh.symm) (.int .i64 x)) BX.out)
            have Z5 : Hid (SBlk _ (w.heap.size + 1) 0 0 none 0 0) := Lib.hid (Blk.below (Blk.other hzb.out (p := ⟨g, j * 5 + 4, none⟩) (fun hh => hgz hh.symm) (.int .i64 x)) BX.out)
            have G5 := Lib.hid (g_chain (hbel.out.setCell (p := ⟨g, j * 5 + 4, none⟩) hgb (.int .i64 x)) BX.out)
            obtain ⟨s0, s1, s2⟩ := hsb.out.cells
            clear hq hqx hke hx he HBAD HBAD2 hst
            go_wp2_with (go_at_call 86; refine (CN.out _).mono ?_; rintro e' w' ⟨rfl, rfl⟩)
            go_region
            go_wp2
            go_roundw
            case rel => exact ⟨j + 1, by omega, by go_num, HALL, O5, S5, Z5, Lib.hid G5.out.drew⟩
            case measure => simp [intOf]; omega
        · have HE := Lib.hid (HBAD.out (valAt_out (by rw [HLL.out, hk]; omega)))
          have HE2 := Lib.hid (HBAD2.out (valAt_out (by rw [HLL.out, hk]; omega)))
          have hkm2 : (m : Int) ≤ (k : Int) := by omega
          obtain ⟨z0, z1, z2⟩ := hzb.out.cells
          have f0 := Blk.frozen hzb.out 0
          have f1 := Blk.frozen hzb.out 1
          have f2 := Blk.frozen hzb.out 2
          clear hke he
          go_wp2
          refine bodyPost_ret (v := .tuple #[.agg #[.int .i64 0, .int .i64 0, .slice none 0 0], .bool false]) (by simp [results, Try.results45, go_sem, z0, z1, z2, hzw]) rfl ?_
          rw [HE2.out, HE.out.1, HE.out.2.1, HE.out.2.2]
          exact MadeShB.no w _ (by repeat (first | exact hbel.out | refine Below.setCell ?_ (by simp) _ | refine Below.alloc ?_ (by simp; omega) _))
      · obtain rfl : j = n := by omega
        have hyes : valsB lo hi es l = true := vals_all HV.out (by have h := hall.out; rw [List.take_of_length_le (by rw [HL.out]; exact Nat.le_refl _)] at h; exact h)
        have HE := Lib.hid (vals_yes hyes)
        have HE2 := Lib.hid hyes
        have HE3 : Hid (mixV l es j = es.map (KE.put l)) := Lib.hid (by rw [← HL.out, mixV_full])
        have HE4 : Hid ((es.map (KE.put l)).length = j) := Lib.hid (by rw [List.length_map, HL.out])
        obtain ⟨z0, z1, z2⟩ := hzb.out.cells
        obtain ⟨s0, s1, s2⟩ := hsb.out.cells
        have f0 := Blk.frozen hzb.out 0
        have f1 := Blk.frozen hzb.out 1
        have f2 := Blk.frozen hzb.out 2
        have O2 := Lib.hid (own_type hown.out hzb.out (by decide))
        clear hyes
        go_wp2
        refine bodyPost_ret (v := .tuple #[.agg #[.int .i64 lo, .int .i64 hi, .slice A2 j c2], .bool true]) (by simp [results, Try.results45, go_sem, z0, z1, z2]) rfl ?_
        rw [HE2.out, HE.out.1, HE.out.2.1, HE.out.2.2]
        refine ⟨A2, c2, by rw [HE4.out], ?_, by repeat (first | exact hbel.out | refine Below.setCell ?_ (by simp) _)⟩
        rw [HE4.out, ← HE3.out]
        exact own_apart (own_apart (own_apart hown.out O2.out) O2.out) O2.out
end Go.Proofs.Ytmbabbapcjphgaa
