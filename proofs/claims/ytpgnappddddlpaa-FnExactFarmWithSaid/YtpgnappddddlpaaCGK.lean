/- The model's shard with other values. Condition: at most 2^20 edges and 2^20 values. // Words for the walks of laws whose function answers numbers: rows of numbers of a call's own, from call to call. // Copies: the library's Clone at numbers, shards and edges; rows of shards that grow; the model's copy of a farm. Condition: at most 2^20 of each. -/
import Derived.Test.YtpgnappddddlpaaCGJ
import Derived.Test.YtpgnappddddlpaaCGF
import Derived.Test.YtpgnappddddlpaaCGB
import Derived.Test.YtpgnappddddlpaaCGG
import Derived.Test.YtpgnappddddlpaaCGH
namespace Go.Proofs.Ytpgnappddddlpaa
open Go.RowKit

theorem built_ks (w : World) : (w.alloc (.cells #[] 40)).ownsRow w.heap.size 40 5 (.slice (some ⟨w.heap.size, 0, none⟩) 0 0) 0 [] :=
  World.ownsRow_lit w #[] 0 (Nat.le_refl _) (by unfold maxLen; omega) rfl
theorem SlK.reads {w : World} {A : Option Addr} {n : Nat} {es : List KE} (h : SlK w A n es) : Reads w w.heap.size 5 A n (es.flatMap KE.cells) := h.row.reads

set_option maxRecDepth 20000 in
set_option maxHeartbeats 4000000 in
theorem copySh_any (lo hi : Int) (A : Option Addr) (n c : Nat) (es : List KE) (w : World) (hr : SlK w A n es) (hn : n ≤ 1048576) :
    Calls Try.prog 130 #[.agg #[.int .i64 lo, .int .i64 hi, .slice A n c]] w (MadeSh w lo hi es) := by
  obtain ⟨i0, hi0, hz0, hz1, hz2⟩ := info_parts Try.infoSEdge
  have HS := Lib.hid hr
  have HL := Lib.hid hr.len
  have HO := Lib.hid (ke_one es)
  have B0 := Lib.hid ((SBlk.new w lo hi A n c).below (below_a1 _ (.cells #[.int .i64 0, .int .i64 0, .slice none 0 0] 85)))
  have Z0 : Hid (SBlk ((w.alloc (.cells #[.int .i64 lo, .int .i64 hi, .slice A n c] 85)).alloc (.cells #[.int .i64 0, .int .i64 0, .slice none 0 0] 85)) (w.heap.size + 1) 0 0 none 0 0) := Lib.hid (by
    have h := SBlk.new (w.alloc (.cells #[.int .i64 lo, .int .i64 hi, .slice A n c] 85)) 0 0 none 0 0
    simpa using h)
  have H0 := Lib.hid (below_a2 w (.cells #[.int .i64 lo, .int .i64 hi, .slice A n c] 85) (.cells #[.int .i64 0, .int .i64 0, .slice none 0 0] 85))
  have hz : w.heap.size + 1 < ((w.alloc (.cells #[.int .i64 lo, .int .i64 hi, .slice A n c] 85)).alloc (.cells #[.int .i64 0, .int .i64 0, .slice none 0 0] 85)).heap.size := Blk.lt Z0.out
  have R1 : Hid (Reads ((w.alloc (.cells #[.int .i64 lo, .int .i64 hi, .slice A n c] 85)).alloc (.cells #[.int .i64 0, .int .i64 0, .slice none 0 0] 85)) ((w.alloc (.cells #[.int .i64 lo, .int .i64 hi, .slice A n c] 85)).alloc (.cells #[.int .i64 0, .int .i64 0, .slice none 0 0] 85)).heap.size 5 A n (es.flatMap KE.cells)) := Lib.hid (HS.out.below H0.out).reads
  have HBK : Hid ((((w.alloc (.cells #[.int .i64 lo, .int .i64 hi, .slice A n c] 85)).alloc (.cells #[.int .i64 0, .int .i64 0, .slice none 0 0] 85)).alloc (.cells #[] 40)).ownsRow (w.heap.size + 1 + 1) 40 5 (.slice (some ⟨w.heap.size + 1 + 1, 0, none⟩) 0 0) 0 []) := Lib.hid (by have h := built_ks ((w.alloc (.cells #[.int .i64 lo, .int .i64 hi, .slice A n c] 85)).alloc (.cells #[.int .i64 0, .int .i64 0, .slice none 0 0] 85)); simpa using h)
  obtain ⟨bl, b0, b1, b2⟩ := B0.out.hbox
  clear hr
  go_enter Try.func130, Try.ntmps130
  go_wp2_with (at_builtin; refine wpList_append_any _ rfl (.tmp 3) (.tmp 5) _ rfl (w.heap.size + 1 + 1) 40 i0 _ 5 40 Try.underlying83 hi0 hz0 hz1 hz2 rfl (by omega) (.slice (some ⟨w.heap.size + 1 + 1, 0, none⟩) 0 0) 0 [] rfl HBK.out _ A n c (es.flatMap KE.cells) rfl (R1.out.alloc (Nat.le_refl _) _) HO.out (by simp only [maxLen]; omega) (by omega) (by simp) ?_)
  intro v1 w1 hown hg _
  try simp only [Nat.zero_add, List.nil_append] at hown
  obtain ⟨A1, c1, rfl⟩ := pk_form hown
  have HBA := Lib.hid (below_a1 ((w.alloc (.cells #[.int .i64 lo, .int .i64 hi, .slice A n c] 85)).alloc (.cells #[.int .i64 0, .int .i64 0, .slice none 0 0] 85)) (.cells #[] 40))
  have B1 : Hid (SBlk w1 w.heap.size lo hi A n c) := Lib.hid ((Blk.below B0.out HBA.out).grown hg (by simp [Value.ownBlock]; omega))
  have Z1 : Hid (SBlk w1 (w.heap.size + 1) 0 0 none 0 0) := Lib.hid ((Blk.below Z0.out HBA.out).grown hg (by simp [Value.ownBlock]))
  have G1 : Hid (Below w.heap.size w w1) := Lib.hid ((g_chain H0.out HBA.out).grown hg (by simp; omega) (fun q hq => by simp [Value.ownBlock] at hq; omega))
  have O1 := Lib.hid hown
  have N1 := Lib.hid (own_type hown B1.out (by decide))
  have N2 := Lib.hid (own_type hown Z1.out (by decide))
  clear b0 b1 b2 hown hg bl
  obtain ⟨b0, b1, b2⟩ := B1.out.cells
  obtain ⟨z0, z1, z2⟩ := Z1.out.cells
  have bf := Blk.frozen B1.out 2
  have f0 := Blk.frozen Z1.out 0
  have f1 := Blk.frozen Z1.out 1
  have f2 := Blk.frozen Z1.out 2
  go_wp2
  refine bodyPost_ret (v := .agg #[.int .i64 lo, .int .i64 hi, .slice A1 n c1]) (by simp [results, Try.results130, go_sem, z0, z1, z2]) rfl ?_
  have e := HL.out
  subst e
  exact ⟨A1, c1, rfl, own_apart (own_apart (own_apart (own_apart (own_monoG (lo' := w.heap.size) O1.out (by omega)) N1.out) N2.out) N2.out) N2.out, by repeat (first | exact G1.out | refine Below.setCell ?_ (by simp) _)⟩

def mixV (l : List Int) (es : List KE) (j : Nat) : List KE := (es.take j).map (KE.put l) ++ es.drop j
theorem mixV_len (l : List Int) (es : List KE) (j : Nat) : (mixV l es j).length = es.length := by
  unfold mixV
  rw [List.length_append, List.length_map, List.length_take, List.length_drop]
  omega
theorem mixV_zero (l : List Int) (es : List KE) : mixV l es 0 = es := by simp [mixV]
theorem mixV_full (l : List Int) (es : List KE) : mixV l es es.length = es.map (KE.put l) := by simp [mixV]
theorem mixV_cell {l : List Int} {es : List KE} {j : Nat} {e : KE} (he : es[j]? = some e) : (mixV l es j)[j]? = some e := by
  unfold mixV
  rw [g_drop es j e he]
  exact g_get _ _ _ _ (by rw [List.length_map, List.length_take]; have := (List.getElem?_eq_some_iff.1 he).1; omega)
theorem mixV_step {l : List Int} {es : List KE} {j : Nat} {e : KE} (he : es[j]? = some e) : ((mixV l es j).flatMap KE.cells).set (j * 5 + 4) (.int .i64 (valAt l e.i)) = (mixV l es (j + 1)).flatMap KE.cells := by
  have hj := (List.getElem?_eq_some_iff.1 he).1
  have hl : ((es.take j).map (KE.put l)).length = j := by rw [List.length_map, List.length_take]; omega
  unfold mixV
  rw [g_drop es j e he, g_take es j e he, List.map_append, List.append_assoc]
  have h := flat_set KE.cells 5 KE.cells_len ((es.take j).map (KE.put l) ++ e :: es.drop (j + 1)) j 4 e (e.put l) (.int .i64 (valAt l e.i)) (g_get _ _ _ _ hl) (by omega) rfl
  rw [g_set _ _ _ _ _ hl] at h
  rw [h]
  rfl

set_option maxRecDepth 20000 in
set_option maxHeartbeats 4000000 in
theorem specWithVals (lo hi : Int) (A : Option Addr) (n c : Nat) (es : List KE) (E : Option Addr) (m d : Nat) (l : List Int) (w : World) (hr : SlK w A n es) (hn : n ≤ 1048576) (h2 : SlI w E m l) (_hm : m ≤ 1048576) :
    Calls Try.prog 84 #[.agg #[.int .i64 lo, .int .i64 hi, .slice A n c], .slice E m d] w (MadeShB w (valsLo lo hi es l) (valsHi lo hi es l) (valsR lo hi es l) (valsK lo hi es l)) := by
  have HS := Lib.hid hr
  have HI := Lib.hid h2
  have HL := Lib.hid hr.len
  have HLL := Lib.hid h2.len
  have CO := Lib.hid (fun W (h : Below w.heap.size w W) => specShardOk lo hi A n c es W (hr.below h) hn)
  have CC := Lib.hid (fun W (h : Below w.heap.size w W) => copySh_any lo hi A n c es W (hr.below h) hn)
  have B0 := Lib.hid ((SBlk.new w lo hi A n c).below (below_a1 _ (.cells #[.int .i64 0, .int .i64 0, .slice none 0 0] 85)))
  have Z0 : Hid (SBlk ((w.alloc (.cells #[.int .i64 lo, .int .i64 hi, .slice A n c] 85)).alloc (.cells #[.int .i64 0, .int .i64 0, .slice none 0 0] 85)) (w.heap.size + 1) 0 0 none 0 0) := Lib.hid (by
    have h := SBlk.new (w.alloc (.cells #[.int .i64 lo, .int .i64 hi, .slice A n c] 85)) 0 0 none 0 0
    simpa using h)
  have H0 := Lib.hid (below_a2 w (.cells #[.int .i64 lo, .int .i64 hi, .slice A n c] 85) (.cells #[.int .i64 0, .int .i64 0, .slice none 0 0] 85))
  cases hv : shardB lo hi es with
  | false =>
    rw [hv] at CO
    have hno : valsK lo hi es l = false := by simp [valsK, hv]
    obtain ⟨e1, e2, e3⟩ := valsK_no hno
    rw [hno, e1, e2, e3]
    clear hr hv h2 hno e1 e2 e3
    go_enter Try.func84, Try.ntmps84
    go_wp2_with fail
    refine (CO.out _ H0.out).mono ?_
    rintro e w1 ⟨rfl, hb⟩
    have HB := Lib.hid (g_chain H0.out hb)
    obtain ⟨z0, z1, z2⟩ := (Z0.out.below hb).cells
    have f0 := Blk.frozen (Z0.out.below hb) 0
    have f1 := Blk.frozen (Z0.out.below hb) 1
    have f2 := Blk.frozen (Z0.out.below hb) 2
    clear hb
    go_wp2
    refine bodyPost_ret (v := .tuple #[.agg #[.int .i64 0, .int .i64 0, .slice none 0 0], .bool false]) (by simp [results, Try.results84, go_sem, z0, z1, z2]) rfl ?_
    exact MadeShB.no w _ (by repeat (first | exact HB.out | refine Below.setCell ?_ (by simp) _))
  | true =>
    rw [hv] at CO
    obtain ⟨l0, l1, l2, l3, hrun⟩ := shardB_iff hv
    have HD := Lib.hid (dif_at l0 l2 es (-1) 0 ⟨0, lo, 0, 0, 0⟩ hrun (nr_first l1))
    have HV := Lib.hid hv
    have hn4 : n ≤ 400 := by rw [← HL.out]; exact l3
    clear hr hv hrun h2 l3
    go_enter Try.func84, Try.ntmps84
    go_wp2_with fail
    refine (CO.out _ H0.out).mono ?_
    rintro e w1 ⟨rfl, hb⟩
    have B1 := Lib.hid (B0.out.below hb)
    have Z1 := Lib.hid (Z0.out.below hb)
    have H1 := Lib.hid (g_chain H0.out hb)
    clear hb
    obtain ⟨bl, b0, b1, b2⟩ := B1.out.hbox
    go_wp2_with fail
    clear bl b0 b1 b2
    refine (CC.out _ H1.out).mono ?_
    rintro e w2 ⟨A2, c2, rfl, ho, hb⟩
    have B2 := Lib.hid (B1.out.below hb)
    have Z2 := Lib.hid (Z1.out.below hb)
    have H2 := Lib.hid (g_chain H1.out hb)
    have O2 : Hid (w2.ownsRow w.heap.size 40 5 (.slice A2 n c2) n ((mixV l es 0).flatMap KE.cells)) := Lib.hid (by have h := own_monoG (lo' := w.heap.size) ho H1.out.size; rw [mixV_zero, ← HL.out]; exact h)
    have hw2 : w.heap.size + 1 < w2.heap.size := Blk.lt Z2.out
    clear ho hb
    have HLE := HL.out
    rw [HLE]
    obtain ⟨bl, b0, b1, b2⟩ := B2.out.hbox
    have HB3 := Lib.hid (below_a1 w2 (.cells #[.int .i64 lo, .int .i64 hi, .slice A2 n c2] 85))
    have S3 := Lib.hid (SBlk.new w2 lo hi A2 n c2)
    have Z3 := Lib.hid (Z2.out.below HB3.out)
    have H3 := Lib.hid (g_chain H2.out HB3.out)
    have O3 := Lib.hid (own_below O2.out HB3.out)
    clear HLE
    go_wp2
    clear bl b0 b1 b2
    go_loopw [7, 8, 18] (fun _ _ i wr => ∃ j : Nat, j ≤ n ∧ i = .int .i64 (j : Int) ∧ Hid ((es.take j).all (fun e => numOk (valAt l e.i)) = true) ∧ Hid (wr.ownsRow w.heap.size 40 5 (.slice A2 n c2) n ((mixV l es j).flatMap KE.cells)) ∧ Hid (SBlk wr w2.heap.size lo hi A2 n c2) ∧ Hid (SBlk wr (w.heap.size + 1) 0 0 none 0 0) ∧ Hid (Below w.heap.size w wr)) (fun _ _ i _ => n - (intOf i).toNat)
    case atStart => exact ⟨0, Nat.zero_le _, rfl, Lib.hid (by simp), O3, S3, Z3, H3⟩
    case round =>
      clear O3 S3 Z3 H3 HB3 O2 Z2 H2 B2 Z1 B1 H1
      obtain ⟨j, hj, rfl, hall, hown, hsb, hzb, hbel⟩ := hrel
      by_cases hlt : j < n
      · obtain ⟨b, off, e, rfl, hbw, he, c00, c01, c02, c03, c04⟩ := (HS.out.below hbel.out).at_ hlt
        have hke := kedgeB_iff (HD.out j e he.out).2
        have HBA := Lib.hid (below_a1 wr (.cells #[.int .i64 e.f, .int .i64 e.t, .int .i64 e.w, .int .i64 e.i, .int .i64 e.v] 40))
        have HSTM := Lib.hid (mixV_step (l := l) he.out)
        have HSTV := Lib.hid (valsK_step l es j e he.out)
        have HCE := Lib.hid (mixV_cell (l := l) he.out)
        have HBAD := Lib.hid (fun h => valsK_no (vals_bad (lo := lo) (hi := hi) (l := l) he.out h))
        have HBAD2 := Lib.hid (fun h => vals_bad (lo := lo) (hi := hi) (l := l) he.out h)
        have hzw : w.heap.size + 1 < wr.heap.size := Blk.lt hzb.out
        have hsw : w2.heap.size < wr.heap.size := Blk.lt hsb.out
        obtain ⟨k, hk⟩ : ∃ k : Nat, e.i = (k : Int) := ⟨e.i.toNat, by omega⟩
        have G1 := Lib.hid (g_chain hbel.out HBA.out)
        rw [hk] at c03 hke G1
        by_cases hkm : k < m
        · obtain ⟨vb0, voff, x, rfl, hvb, hx, hc⟩ := (HI.out.below hbel.out).at_ hkm
          have HVA : Hid (valAt l e.i = x) := Lib.hid (by rw [hk]; exact valAt_in hx.out)
          cases hq : numOk x with
          | false =>
            have HE := Lib.hid (HBAD.out (by rw [HVA.out]; exact hq))
            have HE2 := Lib.hid (HBAD2.out (by rw [HVA.out]; exact hq))
            have hqx : x < 0 ∨ 281474976710655 < x := by
              have := of_decide_eq_false hq
              omega
            have CN := Lib.hid (fun W => specNum_no x W hqx)
            obtain ⟨z0, z1, z2⟩ := hzb.out.cells
            have f0 := Blk.frozen hzb.out 0
            have f1 := Blk.frozen hzb.out 1
            have f2 := Blk.frozen hzb.out 2
            clear hq hqx hke hx he
            go_wp2_with (go_at_call 131; refine (CN.out _).mono ?_; rintro e w' ⟨rfl, rfl⟩)
            refine bodyPost_ret (v := .tuple #[.agg #[.int .i64 0, .int .i64 0, .slice none 0 0], .bool false]) (by simp [results, Try.results84, go_sem, z0, z1, z2, hzw]) rfl ?_
            rw [HE2.out, HE.out.1, HE.out.2.1, HE.out.2.2]
            exact MadeShB.no w _ (by repeat (first | exact hbel.out | refine Below.setCell ?_ (by simp) _ | refine Below.alloc ?_ (by simp; omega) _))
          | true =>
            have hqx : 0 ≤ x ∧ x ≤ 281474976710655 := of_decide_eq_true hq
            have CN := Lib.hid (fun W => specNum_yes x W hqx.1 hqx.2)
            have HALL : Hid ((es.take (j + 1)).all (fun e => numOk (valAt l e.i)) = true) := Lib.hid (by rw [HSTV.out, hall.out, HVA.out, hq]; rfl)
            obtain ⟨g, rfl⟩ := g_own_at hown.out (by omega)
            have hst := hown.out.stored (j * 5 + 4) (.int .i64 x)
            rw [← HVA.out, HSTM.out, HVA.out] at hst
            have hcg : wr.cell? ⟨g, j * 5 + 4, none⟩ = some (.int .i64 e.v) := (hown.out.cellAt (j * 5 + 4) (by omega)).trans (flat_get KE.cells 5 KE.cells_len _ j 4 e HCE.out (by omega))
            have hfg := hown.out.frozenAt (j * 5 + 4)
            have hgl : g < wr.heap.size := (hown.out.lt g rfl).2
            have hgb : w.heap.size ≤ g := (hown.out.lt g rfl).1
            have hgz : g ≠ w.heap.size + 1 := fun hh => own_type hown.out hzb.out (by decide) (by rw [← hh]; rfl)
            have hgs : g ≠ w2.heap.size := fun hh => own_type hown.out hsb.out (by decide) (by rw [← hh]; rfl)
            have BX := Lib.hid (below_a1 (wr.setCell ⟨g, j * 5 + 4, none⟩ (.int .i64 x)) (.cells #[.int .i64 e.f, .int .i64 e.t, .int .i64 e.w, .int .i64 (k : Int), .int .i64 e.v] 40))
            have O5 := Lib.hid (own_below hst.1 BX.out)
            have S5 : Hid (SBlk _ w2.heap.size lo hi _ n c2) := Lib.hid (Blk.below (Blk.other hsb.out (p := ⟨g, j * 5 + 4, none⟩) (fun hh => hgs hh.symm) (.int .i64 x)) BX.out)
            have Z5 : Hid (SBlk _ (w.heap.size + 1) 0 0 none 0 0) := Lib.hid (Blk.below (Blk.other hzb.out (p := ⟨g, j * 5 + 4, none⟩) (fun hh => hgz hh.symm) (.int .i64 x)) BX.out)
            have G5 := Lib.hid (g_chain (hbel.out.setCell (p := ⟨g, j * 5 + 4, none⟩) hgb (.int .i64 x)) BX.out)
            obtain ⟨s0, s1, s2⟩ := hsb.out.cells
            clear hq hqx hke hx he HBAD HBAD2 hst
            go_wp2_with (go_at_call 131; refine (CN.out _).mono ?_; rintro e' w' ⟨rfl, rfl⟩)
            go_region
            go_wp2
            go_roundw
            case rel => exact ⟨j + 1, by omega, by go_num, HALL, O5, S5, Z5, Lib.hid G5.out.drew⟩
            case measure => simp [intOf]; omega
        · have HE := Lib.hid (HBAD.out (valAt_out (by rw [HLL.out, hk]; omega)))
          have HE2 := Lib.hid (HBAD2.out (valAt_out (by rw [HLL.out, hk]; omega)))
          have hkm2 : (m : Int) ≤ (k : Int) := by omega
          obtain ⟨z0, z1, z2⟩ := hzb.out.cells
          have f0 := Blk.frozen hzb.out 0
          have f1 := Blk.frozen hzb.out 1
          have f2 := Blk.frozen hzb.out 2
          clear hke he
          go_wp2
          refine bodyPost_ret (v := .tuple #[.agg #[.int .i64 0, .int .i64 0, .slice none 0 0], .bool false]) (by simp [results, Try.results84, go_sem, z0, z1, z2, hzw]) rfl ?_
          rw [HE2.out, HE.out.1, HE.out.2.1, HE.out.2.2]
          exact MadeShB.no w _ (by repeat (first | exact hbel.out | refine Below.setCell ?_ (by simp) _ | refine Below.alloc ?_ (by simp; omega) _))
      · obtain rfl : j = n := by omega
        have hyes : valsK lo hi es l = true := vals_all HV.out (by have h := hall.out; rw [List.take_of_length_le (by rw [HL.out]; exact Nat.le_refl _)] at h; exact h)
        have HE := Lib.hid (valsK_yes hyes)
        have HE2 := Lib.hid hyes
        have HE3 : Hid (mixV l es j = es.map (KE.put l)) := Lib.hid (by rw [← HL.out, mixV_full])
        have HE4 : Hid ((es.map (KE.put l)).length = j) := Lib.hid (by rw [List.length_map, HL.out])
        obtain ⟨z0, z1, z2⟩ := hzb.out.cells
        obtain ⟨s0, s1, s2⟩ := hsb.out.cells
        have f0 := Blk.frozen hzb.out 0
        have f1 := Blk.frozen hzb.out 1
        have f2 := Blk.frozen hzb.out 2
        have O2 := Lib.hid (own_type hown.out hzb.out (by decide))
        clear hyes
        go_wp2
        refine bodyPost_ret (v := .tuple #[.agg #[.int .i64 lo, .int .i64 hi, .slice A2 j c2], .bool true]) (by simp [results, Try.results84, go_sem, z0, z1, z2]) rfl ?_
        rw [HE2.out, HE.out.1, HE.out.2.1, HE.out.2.2]
        refine ⟨A2, c2, by rw [HE4.out], ?_, by repeat (first | exact hbel.out | refine Below.setCell ?_ (by simp) _)⟩
        rw [HE4.out, ← HE3.out]
        exact own_apart (own_apart (own_apart hown.out O2.out) O2.out) O2.out
end Go.Proofs.Ytpgnappddddlpaa
namespace Go.Proofs.Ytpgnappddddlpaa
open Go.RowKit

section
variable {w w' : World} {lo n c : Nat} {A : Option Addr} {xs : List Int}
theorem OwI.cnt (h : OwI w lo A n c xs) : n = xs.length := by have := h.1; rw [vi_len] at this; omega
theorem OwI.below (h : OwI w lo A n c xs) (hb : Below w.heap.size w w') : OwI w' lo A n c xs := own_below h hb
theorem OwI.rd (h : OwI w lo A n c xs) : SlI w A n xs := SlI.of_own h
end
theorem degsOf_len (key : GE → Int) (N : Int) (es : List GE) : (degsOf key N es).length ≤ 150 := by
  unfold degsOf
  split
  · rename_i h
    have := graphB_iff h
    rw [degs_len]
    omega
  · simp
/-- The law's own graph: its box and its edges. -/
structure XBox (w : World) (lo b : Nat) (N : Int) (A : Option Addr) (n c : Nat) (es : List GE) : Prop where
  box : NBox w b N A n c
  own : w.ownsRow lo 145 3 (.slice A n c) n (es.flatMap GE.cells)
theorem XBox.below {w w' : World} {lo b n c : Nat} {N : Int} {A : Option Addr} {es : List GE} (h : XBox w lo b N A n c es) (hb : Below w.heap.size w w') : XBox w' lo b N A n c es := ⟨h.box.below hb, own_below h.own hb⟩
end Go.Proofs.Ytpgnappddddlpaa
namespace Go.Proofs.Ytpgnappddddlpaa
open Go.RowKit
set_option linter.unusedVariables false

def RowR (w : World) (t size n : Nat) (cs : List Value) (e : Ending) (w' : World) : Prop :=
  ∃ A c, e = .returned (.slice A n c) ∧ w'.ownsRow w.heap.size t size (.slice A n c) n cs ∧ Below w.heap.size w w'
theorem built_t (w : World) (t size : Nat) : (w.alloc (.cells #[] t)).ownsRow w.heap.size t size (.slice (some ⟨w.heap.size, 0, none⟩) 0 0) 0 [] :=
  World.ownsRow_lit w #[] 0 (Nat.le_refl _) (by unfold maxLen; omega) (by simp)
set_option maxRecDepth 10000 in
theorem cloneI (A : Option Addr) (n c : Nat) (xs : List Int) (w : World) (hr : SlI w A n xs) (hn : n ≤ 1048576) :
    Calls Try.prog 57 #[.slice A n c] w (RowR w 3 1 n (vi xs)) := by
  obtain ⟨i0, hi, hz0, hz1, hz2⟩ := info_parts Try.infoInt
  have HONE := Lib.hid (vi_one xs)
  rcases A with _ | a
  · obtain rfl : n = 0 := by
      rcases Nat.eq_zero_or_pos n with h | h
      · exact h
      · obtain ⟨_, _, h, _⟩ := hr.row.lies (by omega)
        cases h
    obtain rfl : xs = [] := List.eq_nil_of_length_eq_zero hr.len
    have e1 := fun w : World => Lib.run_eql_slice_nil (P := Try.prog) w 23 3 none 0 c 0 0 Try.underlying23
    go_enter Try.func57, Try.ntmps57
    go_wp2
    go_ret
    exact ⟨none, 0, rfl, World.ownsRow_nil _ _ _ _, Below.refl _ _⟩
  · have e1 := fun w : World => Lib.run_eql_slice_nil (P := Try.prog) w 23 3 (some a) n c 0 0 Try.underlying23
    go_enter Try.func57, Try.ntmps57
    go_wp2_with (at_builtin; refine wpList_append_any _ rfl (.tmp 5) (.tmp 6) _ rfl w.heap.size 3 i0 _ 1 8 Try.underlying23 hi hz0 hz1 hz2 rfl (by omega) (.slice (some ⟨w.heap.size, 0, none⟩) 0 0) 0 [] rfl (built_t w _ _) w.heap.size (some a) n c (vi xs) rfl (hr.row.reads.alloc (Nat.le_refl _) _) HONE.out (by simp only [maxLen]; omega) (by omega) (by simp) ?_; intro v1 w1 hown1 hg1 hat1)
    obtain ⟨A1, c1, rfl⟩ := pk_form hown1
    go_ret
    exact ⟨A1, c1, by simp, by simpa using hown1, below_built hg1⟩
set_option maxRecDepth 10000 in
theorem cloneK (A : Option Addr) (n c : Nat) (xs : List KE) (w : World) (hr : SlK w A n xs) (hn : n ≤ 1048576) :
    Calls Try.prog 112 #[.slice A n c] w (RowR w 40 5 n (xs.flatMap KE.cells)) := by
  obtain ⟨i0, hi, hz0, hz1, hz2⟩ := info_parts Try.infoSEdge
  have HONE := Lib.hid (ke_one xs)
  rcases A with _ | a
  · obtain rfl : n = 0 := by
      rcases Nat.eq_zero_or_pos n with h | h
      · exact h
      · obtain ⟨_, _, h, _⟩ := hr.row.lies (by omega)
        cases h
    obtain rfl : xs = [] := List.eq_nil_of_length_eq_zero hr.len
    have e1 := fun w : World => Lib.run_eql_slice_nil (P := Try.prog) w 83 40 none 0 c 0 0 Try.underlying83
    go_enter Try.func112, Try.ntmps112
    go_wp2
    go_ret
    exact ⟨none, 0, rfl, World.ownsRow_nil _ _ _ _, Below.refl _ _⟩
  · have e1 := fun w : World => Lib.run_eql_slice_nil (P := Try.prog) w 83 40 (some a) n c 0 0 Try.underlying83
    go_enter Try.func112, Try.ntmps112
    go_wp2_with (at_builtin; refine wpList_append_any _ rfl (.tmp 5) (.tmp 6) _ rfl w.heap.size 40 i0 _ 5 40 Try.underlying83 hi hz0 hz1 hz2 rfl (by omega) (.slice (some ⟨w.heap.size, 0, none⟩) 0 0) 0 [] rfl (built_t w _ _) w.heap.size (some a) n c (xs.flatMap KE.cells) rfl (hr.row.reads.alloc (Nat.le_refl _) _) HONE.out (by simp only [maxLen]; omega) (by omega) (by simp) ?_; intro v1 w1 hown1 hg1 hat1)
    obtain ⟨A1, c1, rfl⟩ := pk_form hown1
    go_ret
    exact ⟨A1, c1, by simp, by simpa using hown1, below_built hg1⟩
set_option maxRecDepth 10000 in
theorem cloneH (A : Option Addr) (n c : Nat) (xs : List HE) (w : World) (hr : SlH w A n xs) (hn : n ≤ 1048576) :
    Calls Try.prog 111 #[.slice A n c] w (RowR w 85 3 n (xs.flatMap HE.cells)) := by
  obtain ⟨i0, hi, hz0, hz1, hz2⟩ := info_parts Try.infoShard
  have HONE := Lib.hid (he_one xs)
  rcases A with _ | a
  · obtain rfl : n = 0 := by
      rcases Nat.eq_zero_or_pos n with h | h
      · exact h
      · obtain ⟨_, _, h, _⟩ := hr.row.lies (by omega)
        cases h
    obtain rfl : xs = [] := List.eq_nil_of_length_eq_zero hr.len
    have e1 := fun w : World => Lib.run_eql_slice_nil (P := Try.prog) w 24 85 none 0 c 0 0 Try.underlying24
    go_enter Try.func111, Try.ntmps111
    go_wp2
    go_ret
    exact ⟨none, 0, rfl, World.ownsRow_nil _ _ _ _, Below.refl _ _⟩
  · have e1 := fun w : World => Lib.run_eql_slice_nil (P := Try.prog) w 24 85 (some a) n c 0 0 Try.underlying24
    go_enter Try.func111, Try.ntmps111
    go_wp2_with (at_builtin; refine wpList_append_any _ rfl (.tmp 5) (.tmp 6) _ rfl w.heap.size 85 i0 _ 3 40 Try.underlying24 hi hz0 hz1 hz2 rfl (by omega) (.slice (some ⟨w.heap.size, 0, none⟩) 0 0) 0 [] rfl (built_t w _ _) w.heap.size (some a) n c (xs.flatMap HE.cells) rfl (hr.row.reads.alloc (Nat.le_refl _) _) HONE.out (by simp only [maxLen]; omega) (by omega) (by simp) ?_; intro v1 w1 hown1 hg1 hat1)
    obtain ⟨A1, c1, rfl⟩ := pk_form hown1
    go_ret
    exact ⟨A1, c1, by simp, by simpa using hown1, below_built hg1⟩
/-- The cells of one shard in a new block of their own. -/
theorem he_reads (w : World) (e : HE) (t : TypeId) (g : Nat) (hg : g = w.heap.size) : Reads (w.alloc (.cells #[.int .i64 e.lo, .int .i64 e.hi, .slice e.A e.n e.c] t)) (g + 1) 3 (some ⟨g, 0, none⟩) 1 (HE.cells e) := by
  subst hg
  refine ⟨rfl, fun _ => ⟨_, rfl, by simp, fun j v hj => ?_⟩⟩
  match j, hj with
  | 0, hj => simp [HE.cells] at hj; subst hj; simp [Addr.add]
  | 1, hj => simp [HE.cells] at hj; subst hj; simp [Addr.add]
  | 2, hj => simp [HE.cells] at hj; subst hj; simp [Addr.add]
theorem he_flat (l : List HE) (e : HE) : (l ++ [e]).flatMap HE.cells = l.flatMap HE.cells ++ e.cells := by
  rw [List.flatMap_append]
  simp
/-- A row of shards has one more, whose edges are new. -/
theorem ownHL_snoc {w w3 : World} {lo l1 : Nat} {made : List HE} {e : HE} {v : Value} {n : Nat} {xs : List Value} (h : OwnHL w lo made) (ho : w.ownsRow l1 40 5 e.v e.n (e.es.flatMap KE.cells)) (hl : e.es.length = e.n) (hlo : lo ≤ l1) (hap : ∀ a ∈ made, ApartH a e) (hv : w.ownsRow lo 85 3 v n xs) (hg : w.grownBy w3 v.ownBlock) : OwnHL w3 lo (made ++ [e]) := by
  have h1 : OwnHL w lo (made ++ [e]) := h.append (OwnHL.one (own_monoG ho hlo) hl) (fun a ha b hb => by
    rw [List.mem_singleton.1 hb]
    exact hap a ha)
  exact h1.grow hv (by decide) hg
/-- What is known of the shards while a row of them grows. -/
structure HGrow (w : World) (lo : Nat) (P : Option Addr) (k c : Nat) (made : List HE) : Prop where
  row : w.ownsRow lo 85 3 (.slice P k c) k (made.flatMap HE.cells)
  dat : OwnHL w lo made
  len : made.length = k
theorem HGrow.nil (w : World) (lo : Nat) : HGrow w lo none 0 0 [] := ⟨World.ownsRow_nil _ _ _ _, OwnHL.nil, rfl⟩
section
variable {w w' : World} {lo k c : Nat} {P : Option Addr} {made : List HE}
theorem HGrow.below (h : HGrow w lo P k c made) (hb : Below w.heap.size w w') : HGrow w' lo P k c made := ⟨own_below h.row hb, h.dat.below hb, h.len⟩
theorem HGrow.own (h : HGrow w lo P k c made) : OwnH w lo P k c made := ⟨h.row, h.len, h.dat⟩
theorem HGrow.box {b i : Nat} {cs : Array Value} {t : TypeId} (h : HGrow w lo P k c made) (hb : Blk w b cs t) (h1 : 85 ≠ t) (h2 : 40 ≠ t) (u : Value) : HGrow (w.setCell ⟨b, i, none⟩ u) lo P k c made := by
  have hg := grown_cell w b i u
  exact ⟨own_kept h.row hg (own_kind h.row hb h1), h.dat.kept hg (fun d hd => .inr (own_kind (h.dat.own d hd) hb h2)), h.len⟩
end
set_option maxRecDepth 20000 in
set_option maxHeartbeats 8000000 in
/-- The model's copy of a farm. -/
theorem specCopyFarm (N : Int) (A : Option Addr) (n c : Nat) (E : List Int) (B : Option Addr) (m d : Nat) (bs : List HE) (w : World) (hA : SlI w A n E) (hB : SlH w B m bs) (hn : n ≤ 1048576) (hm : m ≤ 1048576) (hs : ∀ e ∈ bs, e.n ≤ 1048576) :
    Calls Try.prog 83 #[.agg #[.int .i64 N, .slice A n c, .slice B m d]] w (MadeF w N E (sdL bs)) := by
  obtain ⟨i0, hi, hz0, hz1, hz2⟩ := info_parts Try.infoInt
  obtain ⟨j0, hj, hy0, hy1, hy2⟩ := info_parts Try.infoShard
  have HB := Lib.hid hB
  have HA := Lib.hid hA
  have HL := Lib.hid hB.len
  have HLE := Lib.hid hA.len
  have HS := Lib.hid hs
  have HON := Lib.hid (vi_one E)
  clear hA hB hs
  have H_1 := Lib.hid (g_chain (g_chain (Below.refl w.heap.size w) (below_a1 w (.cells #[.int .i64 N, .slice A n c, .slice B m d] 26))) (below_a1 (w.alloc (.cells #[.int .i64 N, .slice A n c, .slice B m d] 26)) (.cells #[.int .i64 0, .slice none 0 0, .slice none 0 0] 26)))
  have BX_2 : Hid (Blk ((w.alloc (.cells #[.int .i64 N, .slice A n c, .slice B m d] 26)).alloc (.cells #[.int .i64 0, .slice none 0 0, .slice none 0 0] 26)) (w.heap.size) #[.int .i64 N, .slice A n c, .slice B m d] 26) := Lib.hid (by have h := (Blk.new w #[.int .i64 N, .slice A n c, .slice B m d] 26).alloc (.cells #[.int .i64 0, .slice none 0 0, .slice none 0 0] 26); simpa [Nat.add_assoc] using h)
  have BZ_3 : Hid (Blk ((w.alloc (.cells #[.int .i64 N, .slice A n c, .slice B m d] 26)).alloc (.cells #[.int .i64 0, .slice none 0 0, .slice none 0 0] 26)) (w.heap.size + 1) #[.int .i64 0, .slice none 0 0, .slice none 0 0] 26) := Lib.hid (by have h := Blk.new (w.alloc (.cells #[.int .i64 N, .slice A n c, .slice B m d] 26)) #[.int .i64 0, .slice none 0 0, .slice none 0 0] 26; simpa [Nat.add_assoc] using h)
  have sz0 : Hid (w.heap.size + 2 ≤ ((w.alloc (.cells #[.int .i64 N, .slice A n c, .slice B m d] 26)).alloc (.cells #[.int .i64 0, .slice none 0 0, .slice none 0 0] 26)).heap.size) := Lib.hid (by simp)
  have R1 := Lib.hid (HA.out.below H_1.out).row.reads
  go_enter Try.func83, Try.ntmps83
  have HBK : Hid ((((w.alloc (.cells #[.int .i64 N, .slice A n c, .slice B m d] 26)).alloc (.cells #[.int .i64 0, .slice none 0 0, .slice none 0 0] 26)).alloc (.cells #[] 3)).ownsRow (w.heap.size + 1 + 1) 3 1 (.slice (some ⟨w.heap.size + 1 + 1, 0, none⟩) 0 0) 0 []) := Lib.hid (by have h := built_t ((w.alloc (.cells #[.int .i64 N, .slice A n c, .slice B m d] 26)).alloc (.cells #[.int .i64 0, .slice none 0 0, .slice none 0 0] 26)) 3 1; simpa using h)
  have x_4 := BX_2.out.cell (i := 0) rfl
  have x_5 := BX_2.out.cell (i := 1) rfl
  have x_6 := BX_2.out.cell (i := 2) rfl
  have fz_7 := fun i => BX_2.out.frozen i
  have lt_8 := BX_2.out.lt
  go_wp2_with (at_builtin; refine wpList_append_any _ rfl (.tmp 6) (.tmp 8) _ rfl (w.heap.size + 1 + 1) 3 i0 _ 1 8 Try.underlying23 hi hz0 hz1 hz2 rfl (by omega) (.slice (some ⟨w.heap.size + 1 + 1, 0, none⟩) 0 0) 0 [] rfl HBK.out _ A n c (vi E) rfl (R1.out.alloc (Nat.le_refl _) _) HON.out (by simp only [maxLen]; omega) (by omega) (by simp) ?_)
  intro v1 w1 hown hg _
  try simp only [Nat.zero_add, List.nil_append] at hown
  obtain ⟨A1, c1, rfl⟩ := pk_form hown
  clear x_4 x_5 x_6 fz_7 lt_8
  have hb_9 := below_a1 ((w.alloc (.cells #[.int .i64 N, .slice A n c, .slice B m d] 26)).alloc (.cells #[.int .i64 0, .slice none 0 0, .slice none 0 0] 26)) (.cells #[] 3)
  have sz_10 : Hid (((w.alloc (.cells #[.int .i64 N, .slice A n c, .slice B m d] 26)).alloc (.cells #[.int .i64 0, .slice none 0 0, .slice none 0 0] 26)).heap.size = w.heap.size + 2) := Lib.hid (by simp)
  have sz_11 := Lib.hid BX_2.out.lt
  have sz_12 := Lib.hid BZ_3.out.lt
  have H_13 := Lib.hid (g_chain H_1.out hb_9)
  clear H_1
  have BX_14 := Lib.hid (BX_2.out.below hb_9)
  clear BX_2
  have BZ_15 := Lib.hid (BZ_3.out.below hb_9)
  clear BZ_3
  have sz_16 := Lib.hid (Below.size hb_9)
  clear hb_9
  have sz_17 : Hid (w.heap.size + 2 + 1 ≤ (((w.alloc (.cells #[.int .i64 N, .slice A n c, .slice B m d] 26)).alloc (.cells #[.int .i64 0, .slice none 0 0, .slice none 0 0] 26)).alloc (.cells #[] 3)).heap.size) := Lib.hid (by simp)
  have hg2 : ((((w.alloc (.cells #[.int .i64 N, .slice A n c, .slice B m d] 26)).alloc (.cells #[.int .i64 0, .slice none 0 0, .slice none 0 0] 26)).alloc (.cells #[] 3))).grownBy w1 (some (w.heap.size + 2)) := hg
  have H_18 := Lib.hid (H_13.out.grown hg2 H_13.out.size (fun k hk => by have hk2 : some (w.heap.size + 2) = some k := hk; injection hk2 with hk2; have := sz0.out; have := sz_10.out; have := sz_11.out; have := sz_12.out; have := sz_16.out; have := sz_17.out; omega))
  clear H_13
  have BX_19 := Lib.hid (BX_14.out.grown hg2 (by show some (w.heap.size + 2) ≠ some _; intro e; injection e with e; have := sz0.out; have := sz_10.out; have := sz_11.out; have := sz_12.out; have := sz_16.out; have := sz_17.out; omega))
  clear BX_14
  have BZ_20 := Lib.hid (BZ_15.out.grown hg2 (by show some (w.heap.size + 2) ≠ some _; intro e; injection e with e; have := sz0.out; have := sz_10.out; have := sz_11.out; have := sz_12.out; have := sz_16.out; have := sz_17.out; omega))
  clear BZ_15
  have sz_21 := Lib.hid (World.grownBy.size hg2)
  have OE_22 := Lib.hid (hown)
  have LE := Lib.hid hown.lt
  clear hg hg2 hown
  have x_23 := BX_19.out.cell (i := 0) rfl
  have x_24 := BX_19.out.cell (i := 1) rfl
  have x_25 := BX_19.out.cell (i := 2) rfl
  have fz_26 := fun i => BX_19.out.frozen i
  have lt_27 := BX_19.out.lt
  skip
  have hg_28 := grown_cell w1 (w.heap.size) 1 (.slice A1 n c1)
  have H_29 := Lib.hid (H_18.out.grown hg_28 H_18.out.size (fun j hj => by injection hj with hj; have := sz0.out; have := sz_10.out; have := sz_11.out; have := sz_12.out; have := sz_16.out; have := sz_17.out; have := sz_21.out; omega))
  clear H_18
  have BZ_30 := Lib.hid (BZ_20.out.grown hg_28 (by intro e; injection e with e; have := sz0.out; have := sz_10.out; have := sz_11.out; have := sz_12.out; have := sz_16.out; have := sz_17.out; have := sz_21.out; omega))
  clear BZ_20
  have OE_31 := Lib.hid (own_kept OE_22.out hg_28 (own_kind OE_22.out BX_19.out (by decide)))
  clear OE_22
  have BX_32 : Hid (Blk (w1.setCell ⟨w.heap.size, 1, none⟩ (.slice A1 n c1)) (w.heap.size) #[.int .i64 N, .slice A1 n c1, .slice B m d] 26) := Lib.hid (Blk.set (BX_19.out) 1 (.slice A1 n c1))
  clear BX_19
  have sz_33 := Lib.hid (World.grownBy.size hg_28)
  clear hg_28
  have hb_34 := below_a1 (w1.setCell ⟨w.heap.size, 1, none⟩ (.slice A1 n c1)) (.cells #[] 85)
  have sz_35 := Lib.hid BX_32.out.lt
  have sz_36 := Lib.hid BZ_30.out.lt
  have LT_37 := Lib.hid OE_31.out.lt
  have H_38 := Lib.hid (g_chain H_29.out hb_34)
  clear H_29
  have BX_39 := Lib.hid (BX_32.out.below hb_34)
  clear BX_32
  have BZ_40 := Lib.hid (BZ_30.out.below hb_34)
  clear BZ_30
  have OE_41 := Lib.hid (own_below OE_31.out hb_34)
  clear OE_31
  have sz_42 := Lib.hid (Below.size hb_34)
  clear hb_34
  have sz_43 : Hid ((w1.setCell ⟨w.heap.size, 1, none⟩ (.slice A1 n c1)).heap.size + 1 ≤ ((w1.setCell ⟨w.heap.size, 1, none⟩ (.slice A1 n c1)).alloc (.cells #[] 85)).heap.size) := Lib.hid (by simp)
  have ROW0 : Hid (HGrow ((w1.setCell ⟨w.heap.size, 1, none⟩ (.slice A1 n c1)).alloc (.cells #[] 85)) ((w1.setCell ⟨w.heap.size, 1, none⟩ (.slice A1 n c1))).heap.size (some ⟨((w1.setCell ⟨w.heap.size, 1, none⟩ (.slice A1 n c1))).heap.size, 0, none⟩) 0 0 []) := Lib.hid ⟨built_t (w1.setCell ⟨w.heap.size, 1, none⟩ (.slice A1 n c1)) _ _, OwnHL.nil, rfl⟩
  go_wp2
  have HG0 : Hid (HGrow ((w1.setCell ⟨w.heap.size, 1, none⟩ (.slice A1 n c1)).alloc (.cells #[] 85)) w.heap.size (some ⟨w1.heap.size, 0, none⟩) 0 0 []) := Lib.hid (by have h := ROW0.out; simp only [World.size_setCell] at h; exact ⟨own_monoG h.row (by have := sz0.out; have := sz_10.out; have := sz_11.out; have := sz_12.out; have := sz_16.out; have := sz_17.out; have := sz_21.out; have := sz_33.out; have := sz_35.out; have := sz_36.out; have := sz_42.out; have := sz_43.out; omega), OwnHL.nil, rfl⟩)
  have HE0 := Lib.hid (own_monoG (lo' := w.heap.size) OE_41.out (by omega))
  have LEN0 := Lib.hid (fun g (hg : (Value.slice A1 n c1).ownBlock = some g) => (LE.out g hg).1)
  go_loopw [3, 15] (fun s i wr => ∃ (k : Nat) (P : Option Addr) (cP : Nat) (made : List HE), k ≤ m ∧ i = .int .i64 (k : Int) ∧ s = .slice P k cP ∧ Hid (HGrow wr w.heap.size P k cP made) ∧ Hid (made.map HE.sd = (bs.take k).map HE.sd) ∧ Hid (Blk wr w.heap.size #[.int .i64 N, .slice A1 n c1, .slice B m d] 26) ∧ Hid (Blk wr (w.heap.size + 1) #[.int .i64 0, .slice none 0 0, .slice none 0 0] 26) ∧ Hid (wr.ownsRow w.heap.size 3 1 (.slice A1 n c1) n (vi E)) ∧ Hid (Below w.heap.size w wr)) (fun _ i _ => m - (intOf i).toNat)
  case atStart => exact ⟨0, _, 0, [], Nat.zero_le _, rfl, rfl, HG0, Lib.hid rfl, BX_39, BZ_40, HE0, H_38⟩
  case round =>
    clear BX_39 BZ_40 H_38 HG0 HE0 ROW0 OE_41
    obtain ⟨k, P, cP, made, hk, rfl, rfl, hgr, hmap, hbx, hbz, hoe, hbel⟩ := hrel
    by_cases hlt : k < m
    · obtain ⟨b, off, e, rfl, hbw, he, hok, c0, c1', c2⟩ := HB.out.at_ hlt
      obtain ⟨elo, ehi, eA, en, ec, ees⟩ := e
      have c0 : wr.cell? ⟨b, off + k * 3, none⟩ = some (.int .i64 elo) := (hbel.out.cell (p := ⟨b, off + k * 3, none⟩) hbw).trans c0
      have c1' : wr.cell? ⟨b, off + k * 3 + 1, none⟩ = some (.int .i64 ehi) := (hbel.out.cell (p := ⟨b, off + k * 3 + 1, none⟩) hbw).trans c1'
      have c2 : wr.cell? ⟨b, off + k * 3 + 2, none⟩ = some (.slice eA en ec) := (hbel.out.cell (p := ⟨b, off + k * 3 + 2, none⟩) hbw).trans c2
      have HTK : Hid ((bs.take (k + 1)).map HE.sd = (bs.take k).map HE.sd ++ [(elo, ehi, ees)]) := Lib.hid (by rw [g_take bs k _ he.out, List.map_append]; rfl)
      have HEL : Hid (ees.length = en) := Lib.hid hok.out.rd.len
      have hen : en ≤ 1048576 := HS.out _ (List.mem_of_getElem? he.out)
      have C := Lib.hid (fun W (h : Below w.heap.size w W) => copySh_any elo ehi eA en ec ees W (hok.out.rd.below h) hen)
      unfold MadeSh at C
      rw [HEL.out] at C
      have HA := Lib.hid (below_a1 wr (.cells #[.int .i64 elo, .int .i64 ehi, .slice eA en ec] 85))
      have G1 := Lib.hid (hgr.out.below HA.out)
      have B1 := Lib.hid (hbx.out.below HA.out)
      have Z1 := Lib.hid (hbz.out.below HA.out)
      have E1 := Lib.hid (own_below hoe.out HA.out)
      have H1 := Lib.hid (g_chain hbel.out HA.out)
      have LT := Lib.hid hgr.out.dat
      have hws : wr.heap.size ≤ (wr.alloc (.cells #[.int .i64 elo, .int .i64 ehi, .slice eA en ec] 85)).heap.size := by simp
      clear hok he hgr hbx hbz hoe hbel HA
      go_wp2_with fail
      refine (C.out _ H1.out).mono ?_
      rintro e1 w2 ⟨A2, c3, rfl, ho, hb⟩
      have AP := Lib.hid (apartH_of_time LT.out hws (OwnHL.one (d := ⟨elo, ehi, A2, en, c3, ees⟩) ho HEL.out) (Nat.le_refl _))
      have O2 := Lib.hid ho
      have G2 := Lib.hid (G1.out.below hb)
      have B2 := Lib.hid (B1.out.below hb)
      have Z2 := Lib.hid (Z1.out.below hb)
      have E2 := Lib.hid (own_below E1.out hb)
      have hsz2 : w.heap.size ≤ (wr.alloc (.cells #[.int .i64 elo, .int .i64 ehi, .slice eA en ec] 85)).heap.size := H1.out.size
      have H2 := Lib.hid (g_chain H1.out hb)
      clear ho hb c0 c1' c2 G1 B1 Z1 E1 H1 LT C
      have HX := Lib.hid (below_a1 w2 (.cells #[.int .i64 elo, .int .i64 ehi, .slice A2 en c3] 85))
      have G3 := Lib.hid (G2.out.below HX.out)
      have B3 := Lib.hid (B2.out.below HX.out)
      have Z3 := Lib.hid (Z2.out.below HX.out)
      have E3 := Lib.hid (own_below E2.out HX.out)
      have O3 := Lib.hid (own_below O2.out HX.out)
      have H3 := Lib.hid (g_chain H2.out HX.out)
      have RD := Lib.hid (he_reads w2 ⟨elo, ehi, A2, en, c3, ees⟩ 85 _ rfl)
      have ON := Lib.hid (HE.cells_one ⟨elo, ehi, A2, en, c3, ees⟩)
      go_wp2_with (at_builtin; refine wpList_append_any _ rfl (.tmp 19) (.tmp 22) _ rfl w.heap.size 85 j0 _ 3 40 Try.underlying24 hj hy0 hy1 hy2 rfl (by omega) (.slice P k cP) k (made.flatMap HE.cells) rfl G3.out.row _ (some ⟨w2.heap.size, 0, none⟩) 1 1 (HE.cells ⟨elo, ehi, A2, en, c3, ees⟩) rfl RD.out ON.out (by simp only [maxLen]; omega) (by omega) H3.out.size ?_)
      intro v4 w4 hown4 hg4 _
      obtain ⟨P4, c4, rfl⟩ := pk_form hown4
      have G4 : Hid (HGrow w4 w.heap.size P4 (k + 1) c4 (made ++ [⟨elo, ehi, A2, en, c3, ees⟩])) := Lib.hid ⟨by rw [he_flat]; exact hown4, ownHL_snoc (e := ⟨elo, ehi, A2, en, c3, ees⟩) G3.out.dat O3.out HEL.out hsz2 (fun a ha => AP.out a ha _ (by simp)) G3.out.row hg4, by rw [List.length_append, G3.out.len]; rfl⟩
      have B4 := Lib.hid (B3.out.grown hg4 (own_kind G3.out.row B3.out (by decide)))
      have Z4 := Lib.hid (Z3.out.grown hg4 (own_kind G3.out.row Z3.out (by decide)))
      have E4 := Lib.hid (E3.out.kept hg4 ((own_types E3.out G3.out.row (by decide)).imp id fun h e => h e.symm))
      have H4 := Lib.hid (H3.out.grown hg4 H3.out.size (fun q hq => (G3.out.row.lt q hq).1))
      have M4 : Hid ((made ++ [(⟨elo, ehi, A2, en, c3, ees⟩ : HE)]).map HE.sd = (bs.take (k + 1)).map HE.sd) := Lib.hid (by rw [HTK.out, List.map_append, hmap.out]; rfl)
      clear hown4 hg4 G3 B3 Z3 E3 O3 H3 G2 B2 Z2 E2 O2 H2 HX RD ON AP
      go_wp2
      go_roundw
      case rel => exact ⟨k + 1, P4, c4, _, by omega, by go_num, rfl, G4, M4, B4, Z4, E4, H4⟩
      case measure => simp [intOf]; omega
    · obtain rfl : k = m := by omega
      have HGR := Lib.hid hgr.out
      have HOE := Lib.hid hoe.out
      have x_901 := hbx.out.cell (i := 0) rfl
      have x_902 := hbx.out.cell (i := 1) rfl
      have x_903 := hbx.out.cell (i := 2) rfl
      have fz_904 := fun i => hbx.out.frozen i
      have lt_905 := hbx.out.lt
      have x_906 := hbz.out.cell (i := 0) rfl
      have x_907 := hbz.out.cell (i := 1) rfl
      have x_908 := hbz.out.cell (i := 2) rfl
      have fz_909 := fun i => hbz.out.frozen i
      have lt_910 := hbz.out.lt
      have hz0 := hbz.out.lt
      go_wp2
      have hg_911 := grown_cell wr (w.heap.size) 2 (.slice P k cP)
      have BZ_912 := Lib.hid (hbz.out.grown hg_911 (by intro e; injection e with e; omega))
      have H_913 := Lib.hid (hbel.out.grown hg_911 hbel.out.size (fun j hj => by injection hj with hj; omega))
      clear hbel
      have OE_914 := Lib.hid (own_kept hoe.out hg_911 (own_kind hoe.out hbx.out (by decide)))
      have BX_915 : Hid (Blk (wr.setCell ⟨w.heap.size, 2, none⟩ (.slice P k cP)) (w.heap.size) #[.int .i64 N, .slice A1 n c1, .slice P k cP] 26) := Lib.hid (Blk.set (hbx.out) 2 (.slice P k cP))
      have sz_916 := Lib.hid (World.grownBy.size hg_911)
      clear hg_911
      have hg_917 := ((grown_cell (wr.setCell ⟨w.heap.size, 2, none⟩ (.slice P k cP)) (w.heap.size + 1) 0 (.int .i64 N)).trans (grown_cell ((wr.setCell ⟨w.heap.size, 2, none⟩ (.slice P k cP)).setCell ⟨w.heap.size + 1, 0, none⟩ (.int .i64 N)) (w.heap.size + 1) 1 (.slice A1 n c1))).trans (grown_cell (((wr.setCell ⟨w.heap.size, 2, none⟩ (.slice P k cP)).setCell ⟨w.heap.size + 1, 0, none⟩ (.int .i64 N)).setCell ⟨w.heap.size + 1, 1, none⟩ (.slice A1 n c1)) (w.heap.size + 1) 2 (.slice P k cP))
      have BX_918 := Lib.hid (BX_915.out.grown hg_917 (by intro e; injection e with e; have := sz_916.out; omega))
      clear BX_915
      have H_919 := Lib.hid (H_913.out.grown hg_917 H_913.out.size (fun j hj => by injection hj with hj; have := sz_916.out; omega))
      clear H_913
      have OE_920 := Lib.hid (own_kept OE_914.out hg_917 (own_kind OE_914.out BZ_912.out (by decide)))
      clear OE_914
      have BZ_921 : Hid (Blk ((((wr.setCell ⟨w.heap.size, 2, none⟩ (.slice P k cP)).setCell ⟨w.heap.size + 1, 0, none⟩ (.int .i64 N)).setCell ⟨w.heap.size + 1, 1, none⟩ (.slice A1 n c1)).setCell ⟨w.heap.size + 1, 2, none⟩ (.slice P k cP)) (w.heap.size + 1) #[.int .i64 N, .slice A1 n c1, .slice P k cP] 26) := Lib.hid (Blk.set (Blk.set (Blk.set (BZ_912.out) 0 (.int .i64 N)) 1 (.slice A1 n c1)) 2 (.slice P k cP))
      clear BZ_912
      have sz_922 := Lib.hid (World.grownBy.size hg_917)
      clear hg_917
      refine bodyPost_ret (v := .agg #[.int .i64 N, .slice A1 n c1, .slice P k cP]) (by simp [results, Try.results83, go_sem, x_906, x_907, x_908]) rfl ?_
      have G9 : Hid (HOwn ((((wr.setCell ⟨w.heap.size, 2, none⟩ (.slice P k cP)).setCell ⟨w.heap.size + 1, 0, none⟩ (.int .i64 N)).setCell ⟨w.heap.size + 1, 1, none⟩ (.slice A1 n c1)).setCell ⟨w.heap.size + 1, 2, none⟩ (.slice P k cP)) w.heap.size w.heap.size (((((wr.setCell ⟨w.heap.size, 2, none⟩ (.slice P k cP)).setCell ⟨w.heap.size + 1, 0, none⟩ (.int .i64 N)).setCell ⟨w.heap.size + 1, 1, none⟩ (.slice A1 n c1)).setCell ⟨w.heap.size + 1, 2, none⟩ (.slice P k cP))).heap.size P k cP (sdL bs)) := Lib.hid (by
        have h1 := HGR.out.own
        have hw : OnlyB (fun g => g = w.heap.size ∨ g = w.heap.size + 1) wr ((((wr.setCell ⟨w.heap.size, 2, none⟩ (.slice P k cP)).setCell ⟨w.heap.size + 1, 0, none⟩ (.int .i64 N)).setCell ⟨w.heap.size + 1, 1, none⟩ (.slice A1 n c1)).setCell ⟨w.heap.size + 1, 2, none⟩ (.slice P k cP)) := by
          repeat (first | exact OnlyB.refl _ _ | refine OnlyB.grown ?_ (grown_cell _ _ _ _) (fun i hi => by injection hi with hi; omega))
        have h2 := h1.but hw (fun g hg hh => by
          rcases hg with hg | ⟨dd, hd, hg⟩
          · rcases hh with rfl | rfl
            · exact own_kind h1.row hbx.out (by decide) hg
            · exact own_kind h1.row hbz.out (by decide) hg
          · rcases hh with rfl | rfl
            · exact own_kind (h1.dat.own dd hd) hbx.out (by decide) hg
            · exact own_kind (h1.dat.own dd hd) hbz.out (by decide) hg)
        exact HOwn.of h2 (by rw [hmap.out, List.take_of_length_le (by rw [HL.out]; exact Nat.le_refl _)]; rfl))
      have e1 := HLE.out
      have e2 : (sdL bs).length = k := by rw [sdL_len, HL.out]
      have RE := Lib.hid (hoe.out.lt)
      refine ⟨A1, c1, P, cP, by rw [e1, e2], ?_, H_919.out⟩
      rw [e1, e2]
      exact ⟨OE_920.out, G9.out, fun g hg => (show w.heap.size ≤ g ∧ g < (((((wr.setCell ⟨w.heap.size, 2, none⟩ (.slice P k cP)).setCell ⟨w.heap.size + 1, 0, none⟩ (.int .i64 N)).setCell ⟨w.heap.size + 1, 1, none⟩ (.slice A1 n c1)).setCell ⟨w.heap.size + 1, 2, none⟩ (.slice P k cP))).heap.size by have h3 := RE.out g hg; have := sz_916.out; have := sz_922.out; omega)⟩
end Go.Proofs.Ytpgnappddddlpaa
