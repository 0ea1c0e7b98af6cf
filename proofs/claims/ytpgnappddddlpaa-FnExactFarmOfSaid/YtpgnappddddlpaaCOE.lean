/- Farms as arguments of the laws: the laws' helpers that measure one, copy it, compare two. Condition: at most 2^20 ends, shards and edges together. // What stays where another row of the call's own is written; the law's helper that looks for marks in numbers, said of memory alone (plain lemmas over the model; condition: at most 2^21 numbers). // Farms as arguments of the laws: the laws' helpers that leave marks in one and find them. Condition: at most 2^20 ends, shards and edges together. // The contracts of the laws' helpers that find the marks in edges and in a graph. Condition: at most 2^21 edges. // What the walks of exact laws carry of graphs and lists of numbers of the law's own, with the range that their blocks lie in (plain lemmas; the laws' helpers in these words). Condition: at most 2^20 edges or numbers. // The contract of the model's function that asks whether a graph is valid. Condition: at most 2^20 edges. // The numbers of edges at the vertices, as data; the contracts of the model's and the program's functions that count them. // Ends of intervals, as data: ascending lists, the pairs of neighbours, counts, the greedy division (no program; no condition). -/
import Derived.Test.YtpgnappddddlpaaCOC
import Derived.Test.YtpgnappddddlpaaCOD
import Derived.Test.YtpgnappddddlpaaCOB
namespace Go.Proofs.Ytpgnappddddlpaa
open Go.RowKit
set_option linter.unusedVariables false

set_option maxHeartbeats 1000000 in
theorem szFarm_any (N : Int) (A : Option Addr) (n c : Nat) (B : Option Addr) (m d : Nat) (bs : List HE) (left : Int) (w : World) (hB : SlH w B m bs) (hn : n ≤ maxLen) (hm : m ≤ maxLen) (hs : ∀ e ∈ bs, e.n ≤ maxLen) (h0 : 0 ≤ left) (h1 : left ≤ 1048576) :
    Calls Try.prog 22 #[.agg #[.int .i64 N, .slice A n c, .slice B m d], .int .i64 left] w (GNum w (leftG left (n + (m + sumH bs)))) := by
  have CV := Lib.hid (fun w => szZ_any A n c left w hn h0 h1)
  have BX := Lib.hid (Blk.new w #[.int .i64 N, .slice A n c, .slice B m d] 46)
  have HB := Lib.hid (fun W (h : Below w.heap.size w W) => hB.below h)
  clear hB
  by_cases hb1 : (n : Int) ≤ left
  · have hp1 : 0 ≤ left - (n : Int) := by omega
    have hq1 : left - (n : Int) ≤ 1048576 := by omega
    have e1 := leftG_pos hb1
    rw [e1] at CV
    have CH := Lib.hid (fun W (h : Below w.heap.size w W) => szHs_any B m d bs (left - (n : Int)) W (HB.out W h) hm hs hp1 hq1)
    by_cases hb2 : ((m + sumH bs : Nat) : Int) ≤ left - (n : Int)
    · have hp2 : 0 ≤ left - (n : Int) - ((m + sumH bs : Nat) : Int) := by omega
      have e2 := leftG_pos hb2
      rw [e2] at CH
      rw [leftG_pos (by omega), show left - ((n + (m + sumH bs) : Nat) : Int) = left - (n : Int) - ((m + sumH bs : Nat) : Int) by omega]
      generalize left - (n : Int) - ((m + sumH bs : Nat) : Int) = q2 at CH hp2 ⊢
      generalize left - (n : Int) = q1 at CH CV hp1
      clear e1 e2 hb1 hb2 hq1
      go_enter Try.func22, Try.ntmps22
      go_wp2_with fail
      refine (CV.out _).mono ?_
      rintro e w1 ⟨rfl, rfl⟩
      have H1 := Lib.hid (below_a1 w (.cells #[.int .i64 N, .slice A n c, .slice B m d] 46))
      have b1 := BX.out.cell (i := 2) rfl
      go_wp2_with fail
      refine (CH.out _ H1.out).mono ?_
      rintro e w2 ⟨rfl, hb⟩
      have H2 := Lib.hid (g_chain H1.out hb)
      clear hb
      go_wp2
      go_ret
      exact ⟨rfl, H2.out⟩
    · rw [leftG_neg (by omega)] at CH
      rw [leftG_neg (by omega)]
      generalize left - (n : Int) = q1 at CH CV hp1
      clear e1 hb1 hb2 hq1
      go_enter Try.func22, Try.ntmps22
      go_wp2_with fail
      refine (CV.out _).mono ?_
      rintro e w1 ⟨rfl, rfl⟩
      have H1 := Lib.hid (below_a1 w (.cells #[.int .i64 N, .slice A n c, .slice B m d] 46))
      have b1 := BX.out.cell (i := 2) rfl
      go_wp2_with fail
      refine (CH.out _ H1.out).mono ?_
      rintro e w2 ⟨rfl, hb⟩
      have H2 := Lib.hid (g_chain H1.out hb)
      clear hb
      go_wp2
      go_ret
      exact ⟨rfl, H2.out⟩
  · rw [leftG_neg (by omega)] at CV ⊢
    clear hb1
    go_enter Try.func22, Try.ntmps22
    go_wp2_with fail
    refine (CV.out _).mono ?_
    rintro e w1 ⟨rfl, rfl⟩
    have H1 := Lib.hid (below_a1 w (.cells #[.int .i64 N, .slice A n c, .slice B m d] 46))
    have b1 := BX.out.cell (i := 2) rfl
    go_wp2
    go_ret
    exact ⟨rfl, H1.out⟩
set_option maxRecDepth 10000 in
set_option maxHeartbeats 2000000 in
theorem toFarm_any (N : Int) (A : Option Addr) (n c : Nat) (B : Option Addr) (m d : Nat) (es : List Int) (bs : List HE) (w : World) (hA : SlI w A n es) (hB : SlH w B m bs) (hn : n ≤ 2097152) (hm : m ≤ 2097152) (hs : ∀ e ∈ bs, e.n ≤ 2097152) :
    Calls Try.prog 24 #[.agg #[.int .i64 N, .slice A n c, .slice B m d]] w (MadeF w N es (sdL bs)) := by
  have CV := Lib.hid (fun W (h : Below w.heap.size w W) => copyInts_any A n c es W (hA.below h) hn)
  have CH := Lib.hid (fun W (h : Below w.heap.size w W) => toHs_any B m d bs W (hB.below h) hm hs)
  have HLE := Lib.hid hA.len
  have HLB := Lib.hid hB.len
  unfold MadeN OwI at CV
  unfold MadeHs at CH
  clear hA hB
  have H_1 := Lib.hid (g_chain (g_chain (g_chain (Below.refl w.heap.size w) (below_a1 w (.cells #[.int .i64 N, .slice A n c, .slice B m d] 46))) (below_a1 (w.alloc (.cells #[.int .i64 N, .slice A n c, .slice B m d] 46)) (.cells #[.int .i64 0, .slice none 0 0, .slice none 0 0] 26))) (below_a1 ((w.alloc (.cells #[.int .i64 N, .slice A n c, .slice B m d] 46)).alloc (.cells #[.int .i64 0, .slice none 0 0, .slice none 0 0] 26)) (.cells #[.int .i64 N, .slice none 0 0, .slice none 0 0] 26)))
  have BX_2 : Hid (Blk (((w.alloc (.cells #[.int .i64 N, .slice A n c, .slice B m d] 46)).alloc (.cells #[.int .i64 0, .slice none 0 0, .slice none 0 0] 26)).alloc (.cells #[.int .i64 N, .slice none 0 0, .slice none 0 0] 26)) (w.heap.size) #[.int .i64 N, .slice A n c, .slice B m d] 46) := Lib.hid (by have h := ((Blk.new w #[.int .i64 N, .slice A n c, .slice B m d] 46).alloc (.cells #[.int .i64 0, .slice none 0 0, .slice none 0 0] 26)).alloc (.cells #[.int .i64 N, .slice none 0 0, .slice none 0 0] 26); simpa [Nat.add_assoc] using h)
  have BZ_3 : Hid (Blk (((w.alloc (.cells #[.int .i64 N, .slice A n c, .slice B m d] 46)).alloc (.cells #[.int .i64 0, .slice none 0 0, .slice none 0 0] 26)).alloc (.cells #[.int .i64 N, .slice none 0 0, .slice none 0 0] 26)) (w.heap.size + 1) #[.int .i64 0, .slice none 0 0, .slice none 0 0] 26) := Lib.hid (by have h := (Blk.new (w.alloc (.cells #[.int .i64 N, .slice A n c, .slice B m d] 46)) #[.int .i64 0, .slice none 0 0, .slice none 0 0] 26).alloc (.cells #[.int .i64 N, .slice none 0 0, .slice none 0 0] 26); simpa [Nat.add_assoc] using h)
  have BT_4 : Hid (Blk (((w.alloc (.cells #[.int .i64 N, .slice A n c, .slice B m d] 46)).alloc (.cells #[.int .i64 0, .slice none 0 0, .slice none 0 0] 26)).alloc (.cells #[.int .i64 N, .slice none 0 0, .slice none 0 0] 26)) (w.heap.size + 2) #[.int .i64 N, .slice none 0 0, .slice none 0 0] 26) := Lib.hid (by have h := Blk.new ((w.alloc (.cells #[.int .i64 N, .slice A n c, .slice B m d] 46)).alloc (.cells #[.int .i64 0, .slice none 0 0, .slice none 0 0] 26)) #[.int .i64 N, .slice none 0 0, .slice none 0 0] 26; simpa [Nat.add_assoc] using h)
  have sz0 : Hid (w.heap.size + 3 ≤ (((w.alloc (.cells #[.int .i64 N, .slice A n c, .slice B m d] 46)).alloc (.cells #[.int .i64 0, .slice none 0 0, .slice none 0 0] 26)).alloc (.cells #[.int .i64 N, .slice none 0 0, .slice none 0 0] 26)).heap.size) := Lib.hid (by simp)
  go_enter Try.func24, Try.ntmps24
  have x_5 := BX_2.out.cell (i := 0) rfl
  have x_6 := BX_2.out.cell (i := 1) rfl
  have x_7 := BX_2.out.cell (i := 2) rfl
  have fz_8 := fun i => BX_2.out.frozen i
  have lt_9 := BX_2.out.lt
  have x_10 := BT_4.out.cell (i := 0) rfl
  have x_11 := BT_4.out.cell (i := 1) rfl
  have x_12 := BT_4.out.cell (i := 2) rfl
  have fz_13 := fun i => BT_4.out.frozen i
  have lt_14 := BT_4.out.lt
  go_wp2_with fail
  refine (CV.out _ H_1.out).mono ?_
  rintro e w1 ⟨Av, cv, rfl, ho, hb⟩
  clear x_5
  clear x_6
  clear x_7
  clear fz_8
  clear lt_9
  clear x_10
  clear x_11
  clear x_12
  clear fz_13
  clear lt_14
  have H_15 := Lib.hid (g_chain H_1.out hb)
  clear H_1
  have BX_16 := Lib.hid (BX_2.out.below hb)
  clear BX_2
  have BZ_17 := Lib.hid (BZ_3.out.below hb)
  clear BZ_3
  have BT_18 := Lib.hid (BT_4.out.below hb)
  clear BT_4
  have sz_19 := Lib.hid (Below.size hb)
  have OV_20 := Lib.hid (ho)
  have LV := Lib.hid ho.lt
  clear ho hb
  have x_21 := BX_16.out.cell (i := 0) rfl
  have x_22 := BX_16.out.cell (i := 1) rfl
  have x_23 := BX_16.out.cell (i := 2) rfl
  have fz_24 := fun i => BX_16.out.frozen i
  have lt_25 := BX_16.out.lt
  have x_26 := BT_18.out.cell (i := 0) rfl
  have x_27 := BT_18.out.cell (i := 1) rfl
  have x_28 := BT_18.out.cell (i := 2) rfl
  have fz_29 := fun i => BT_18.out.frozen i
  have lt_30 := BT_18.out.lt
  go_wp2_with fail
  have hg_31 := grown_cell w1 (w.heap.size + 2) 1 (.slice Av n cv)
  have H_32 := Lib.hid (H_15.out.grown hg_31 H_15.out.size (fun j hj => by injection hj with hj; have := sz0.out; have := sz_19.out; omega))
  clear H_15
  have BX_33 := Lib.hid (BX_16.out.grown hg_31 (by intro e; injection e with e; have := sz0.out; have := sz_19.out; omega))
  clear BX_16
  have BZ_34 := Lib.hid (BZ_17.out.grown hg_31 (by intro e; injection e with e; have := sz0.out; have := sz_19.out; omega))
  clear BZ_17
  have OV_35 := Lib.hid (own_kept OV_20.out hg_31 (own_kind OV_20.out BT_18.out (by decide)))
  clear OV_20
  have BT_36 : Hid (Blk (w1.setCell ⟨w.heap.size + 2, 1, none⟩ (.slice Av n cv)) (w.heap.size + 2) #[.int .i64 N, .slice Av n cv, .slice none 0 0] 26) := Lib.hid (Blk.set (BT_18.out) 1 (.slice Av n cv))
  clear BT_18
  have sz_37 := Lib.hid (World.grownBy.size hg_31)
  clear hg_31
  refine (CH.out _ H_32.out).mono ?_
  rintro e w2 ⟨As, ns, cs, b2, rfl, ho, hx, hb⟩
  clear x_21
  clear x_22
  clear x_23
  clear fz_24
  clear lt_25
  clear x_26
  clear x_27
  clear x_28
  clear fz_29
  clear lt_30
  have H_38 := Lib.hid (g_chain H_32.out hb)
  clear H_32
  have BX_39 := Lib.hid (BX_33.out.below hb)
  clear BX_33
  have BZ_40 := Lib.hid (BZ_34.out.below hb)
  clear BZ_34
  have BT_41 := Lib.hid (BT_36.out.below hb)
  clear BT_36
  have OV_42 := Lib.hid (own_below OV_35.out hb)
  clear OV_35
  have sz_43 := Lib.hid (Below.size hb)
  have HOS := Lib.hid (HOwn.of ho hx)
  have HNS := Lib.hid HOS.out.len
  have LS := Lib.hid (Below.size hb)
  clear ho hx hb
  obtain rfl : ns = (sdL bs).length := HNS.out
  have x_44 := BX_39.out.cell (i := 0) rfl
  have x_45 := BX_39.out.cell (i := 1) rfl
  have x_46 := BX_39.out.cell (i := 2) rfl
  have fz_47 := fun i => BX_39.out.frozen i
  have lt_48 := BX_39.out.lt
  have x_49 := BT_41.out.cell (i := 0) rfl
  have x_50 := BT_41.out.cell (i := 1) rfl
  have x_51 := BT_41.out.cell (i := 2) rfl
  have fz_52 := fun i => BT_41.out.frozen i
  have lt_53 := BT_41.out.lt
  have x_54 := BZ_40.out.cell (i := 0) rfl
  have x_55 := BZ_40.out.cell (i := 1) rfl
  have x_56 := BZ_40.out.cell (i := 2) rfl
  have fz_57 := fun i => BZ_40.out.frozen i
  have lt_58 := BZ_40.out.lt
  go_wp2
  have hown0 := HOS.out
  have hg_59 := grown_cell w2 (w.heap.size + 2) 2 (.slice As (sdL bs).length cs)
  have H_60 := Lib.hid (H_38.out.grown hg_59 H_38.out.size (fun j hj => by injection hj with hj; have := sz0.out; have := sz_19.out; have := sz_37.out; have := sz_43.out; omega))
  clear H_38
  have BX_61 := Lib.hid (BX_39.out.grown hg_59 (by intro e; injection e with e; have := sz0.out; have := sz_19.out; have := sz_37.out; have := sz_43.out; omega))
  clear BX_39
  have BZ_62 := Lib.hid (BZ_40.out.grown hg_59 (by intro e; injection e with e; have := sz0.out; have := sz_19.out; have := sz_37.out; have := sz_43.out; omega))
  clear BZ_40
  have OV_63 := Lib.hid (own_kept OV_42.out hg_59 (own_kind OV_42.out BT_41.out (by decide)))
  clear OV_42
  have BT_64 : Hid (Blk (w2.setCell ⟨w.heap.size + 2, 2, none⟩ (.slice As (sdL bs).length cs)) (w.heap.size + 2) #[.int .i64 N, .slice Av n cv, .slice As (sdL bs).length cs] 26) := Lib.hid (Blk.set (BT_41.out) 2 (.slice As (sdL bs).length cs))
  clear BT_41
  have sz_65 := Lib.hid (World.grownBy.size hg_59)
  clear hg_59
  have hg_66 := ((grown_cell (w2.setCell ⟨w.heap.size + 2, 2, none⟩ (.slice As (sdL bs).length cs)) (w.heap.size + 1) 0 (.int .i64 N)).trans (grown_cell ((w2.setCell ⟨w.heap.size + 2, 2, none⟩ (.slice As (sdL bs).length cs)).setCell ⟨w.heap.size + 1, 0, none⟩ (.int .i64 N)) (w.heap.size + 1) 1 (.slice Av n cv))).trans (grown_cell (((w2.setCell ⟨w.heap.size + 2, 2, none⟩ (.slice As (sdL bs).length cs)).setCell ⟨w.heap.size + 1, 0, none⟩ (.int .i64 N)).setCell ⟨w.heap.size + 1, 1, none⟩ (.slice Av n cv)) (w.heap.size + 1) 2 (.slice As (sdL bs).length cs))
  have H_67 := Lib.hid (H_60.out.grown hg_66 H_60.out.size (fun j hj => by injection hj with hj; have := sz0.out; have := sz_19.out; have := sz_37.out; have := sz_43.out; have := sz_65.out; omega))
  clear H_60
  have BX_68 := Lib.hid (BX_61.out.grown hg_66 (by intro e; injection e with e; have := sz0.out; have := sz_19.out; have := sz_37.out; have := sz_43.out; have := sz_65.out; omega))
  clear BX_61
  have BT_69 := Lib.hid (BT_64.out.grown hg_66 (by intro e; injection e with e; have := sz0.out; have := sz_19.out; have := sz_37.out; have := sz_43.out; have := sz_65.out; omega))
  clear BT_64
  have OV_70 := Lib.hid (own_kept OV_63.out hg_66 (own_kind OV_63.out BZ_62.out (by decide)))
  clear OV_63
  have BZ_71 : Hid (Blk ((((w2.setCell ⟨w.heap.size + 2, 2, none⟩ (.slice As (sdL bs).length cs)).setCell ⟨w.heap.size + 1, 0, none⟩ (.int .i64 N)).setCell ⟨w.heap.size + 1, 1, none⟩ (.slice Av n cv)).setCell ⟨w.heap.size + 1, 2, none⟩ (.slice As (sdL bs).length cs)) (w.heap.size + 1) #[.int .i64 N, .slice Av n cv, .slice As (sdL bs).length cs] 26) := Lib.hid (Blk.set (Blk.set (Blk.set (BZ_62.out) 0 (.int .i64 N)) 1 (.slice Av n cv)) 2 (.slice As (sdL bs).length cs))
  clear BZ_62
  have sz_72 := Lib.hid (World.grownBy.size hg_66)
  clear hg_66
  refine bodyPost_ret (v := .agg #[.int .i64 N, .slice Av n cv, .slice As (sdL bs).length cs]) (by simp [results, Try.results24, go_sem, x_54, x_55, x_56]) rfl ?_
  have HW : Hid (OnlyB (fun g => g = w.heap.size + 1 ∨ g = w.heap.size + 2) w2 ((((w2.setCell ⟨w.heap.size + 2, 2, none⟩ (.slice As (sdL bs).length cs)).setCell ⟨w.heap.size + 1, 0, none⟩ (.int .i64 N)).setCell ⟨w.heap.size + 1, 1, none⟩ (.slice Av n cv)).setCell ⟨w.heap.size + 1, 2, none⟩ (.slice As (sdL bs).length cs))) := Lib.hid (by
    repeat (first | exact OnlyB.refl _ _ | refine OnlyB.grown ?_ (grown_cell _ _ _ _) (fun i hi => by injection hi with hi; omega)))
  have HS9 : Hid (HOwn ((((w2.setCell ⟨w.heap.size + 2, 2, none⟩ (.slice As (sdL bs).length cs)).setCell ⟨w.heap.size + 1, 0, none⟩ (.int .i64 N)).setCell ⟨w.heap.size + 1, 1, none⟩ (.slice Av n cv)).setCell ⟨w.heap.size + 1, 2, none⟩ (.slice As (sdL bs).length cs)) w.heap.size w.heap.size ((((w2.setCell ⟨w.heap.size + 2, 2, none⟩ (.slice As (sdL bs).length cs)).setCell ⟨w.heap.size + 1, 0, none⟩ (.int .i64 N)).setCell ⟨w.heap.size + 1, 1, none⟩ (.slice Av n cv)).setCell ⟨w.heap.size + 1, 2, none⟩ (.slice As (sdL bs).length cs)).heap.size As (sdL bs).length cs (sdL bs)) := Lib.hid (by
    obtain ⟨b3, k1, k2, k3⟩ := HOS.out
    refine ⟨b3, (k1.but HW.out (fun g hg hh => by have h3 := k3 g hg; have := sz0.out; have := sz_19.out; have := sz_37.out; have := sz_43.out; have := sz_65.out; have := sz_72.out; omega)).mono (by have := sz0.out; have := sz_19.out; have := sz_37.out; have := sz_43.out; have := sz_65.out; have := sz_72.out; omega), k2, fun g hg => ?_⟩
    have h3 := k3 g hg
    have h4 := OnlyB.size HW.out
    have := sz0.out; have := sz_19.out; have := sz_37.out; have := sz_43.out; have := sz_65.out; have := sz_72.out; omega)
  unfold MadeF
  rw [HLE.out]
  exact ⟨Av, cv, As, cs, rfl, ⟨own_monoG OV_70.out (by have := sz0.out; have := sz_19.out; have := sz_37.out; have := sz_43.out; have := sz_65.out; have := sz_72.out; omega), HS9.out, fun g hg => (show w.heap.size ≤ g ∧ g < ((((w2.setCell ⟨w.heap.size + 2, 2, none⟩ (.slice As (sdL bs).length cs)).setCell ⟨w.heap.size + 1, 0, none⟩ (.int .i64 N)).setCell ⟨w.heap.size + 1, 1, none⟩ (.slice Av n cv)).setCell ⟨w.heap.size + 1, 2, none⟩ (.slice As (sdL bs).length cs)).heap.size by have h3 := LV.out g hg; have h4 := OnlyB.size HW.out; have := sz0.out; have := sz_19.out; have := sz_37.out; have := sz_43.out; have := sz_65.out; have := sz_72.out; omega)⟩, H_67.out⟩
set_option maxHeartbeats 2000000 in
theorem eqFarm_any (N : Int) (A : Option Addr) (n c : Nat) (B : Option Addr) (m d : Nat) (A' : Option Addr) (c' : Nat) (B' : Option Addr) (d' : Nat) (es : List Int) (ls : List SD) (w : World) (h1 : FRd w A n B m es ls) (h2 : FRd w A' n B' m es ls) (hn : n ≤ 2097152) (hm : ls.length + (flatK ls).length ≤ 1048576) :
    Calls Try.prog 25 #[.agg #[.int .i64 N, .slice A n c, .slice B m d], .agg #[.int .i64 N, .slice A' n c', .slice B' m d']] w (GTell w true) := by
  obtain ⟨a1, bs, a2, a3⟩ := h1
  obtain ⟨c1, bs', c2, c3⟩ := h2
  have hsm := HSm.of (M := 1048576) a2.len (fun e he => (a2.each e he).rd.len) a3 hm
  have CV := Lib.hid (fun W (h : Below w.heap.size w W) => eqInts_any A A' n c c' es W (a1.below h) (c1.below h) hn)
  have CH := Lib.hid (fun W (h : Below w.heap.size w W) => eqHs_any B B' m d d' bs bs' W (a2.below h) (c2.below h) (a3.trans c3.symm) (by have := hsm.c; omega) (fun e he => by have := hsm.e e he; omega))
  have BX := Lib.hid ((Blk.new w #[.int .i64 N, .slice A n c, .slice B m d] 26).alloc (.cells #[.int .i64 N, .slice A' n c', .slice B' m d'] 26))
  have BY := Lib.hid (Blk.new (w.alloc (.cells #[.int .i64 N, .slice A n c, .slice B m d] 26)) #[.int .i64 N, .slice A' n c', .slice B' m d'] 26)
  have H0 := Lib.hid (below_a2 w (.cells #[.int .i64 N, .slice A n c, .slice B m d] 26) (.cells #[.int .i64 N, .slice A' n c', .slice B' m d'] 26))
  rw [World.size_alloc] at BY
  clear a1 a2 a3 c1 c2 c3 hsm
  go_enter Try.func25, Try.ntmps25
  have x0 := BX.out.cell (i := 0) rfl
  have y0 := BY.out.cell (i := 0) rfl
  have x1 := BX.out.cell (i := 1) rfl
  have y1 := BY.out.cell (i := 1) rfl
  go_wp2_with fail
  refine (CV.out _ H0.out).mono ?_
  rintro e w1 ⟨rfl, hb⟩
  have H1 := Lib.hid (g_chain H0.out hb)
  replace BX := Lib.hid (BX.out.below hb)
  replace BY := Lib.hid (BY.out.below hb)
  clear hb x0 y0 x1 y1
  have x2 := BX.out.cell (i := 2) rfl
  have y2 := BY.out.cell (i := 2) rfl
  go_wp2_with fail
  refine (CH.out _ H1.out).mono ?_
  rintro e w2 ⟨rfl, hb⟩
  have H2 := Lib.hid (g_chain H1.out hb)
  replace BX := Lib.hid (BX.out.below hb)
  replace BY := Lib.hid (BY.out.below hb)
  clear hb x2 y2
  go_wp2
  go_ret
  exact ⟨rfl, H2.out⟩
end Go.Proofs.Ytpgnappddddlpaa
namespace Go.Proofs.Ytpgnappddddlpaa
open Go.RowKit

theorem heldZ_any (A : Option Addr) (n c k : Nat) (w : World) (hr : SlI w A n (ints k n)) (hn : n ≤ 2097152) (hk : k ≤ 8388608) :
    Calls Try.prog 39 #[.slice A n c, .int .i64 (k : Int)] w (GNum w ((k + n : Nat) : Int)) := by
  refine (heldInts_any A n c k w hr hn hk).mono ?_
  rintro e w' ⟨rfl, rfl⟩
  exact ⟨rfl, Below.refl _ _⟩
/-- A row of the call's own stays where another is written. -/
theorem own_farV {w w' : World} {base e size n c : Nat} {A : Option Addr} {xs : List Value} {row : Option Nat} (h : w.ownsRow base e size (.slice A n c) n xs) (hg : w.grownBy w' row) {l1 h1 l2 h2 : Nat} (ha : ∀ k, (Value.slice A n c).ownBlock = some k → l1 ≤ k ∧ k < h1) (hb : ∀ k, row = some k → l2 ≤ k ∧ k < h2) (hd : h1 ≤ l2 ∨ h2 ≤ l1) : w'.ownsRow base e size (.slice A n c) n xs :=
  h.kept hg (by
    cases hv : (Value.slice A n c).ownBlock with
    | none => exact .inl rfl
    | some k => exact .inr (fun e => by have := ha k hv; have := hb k e.symm; omega))
theorem Blk.far {w w' : World} {b : Nat} {cs : Array Value} {t : TypeId} (h : Blk w b cs t) {row : Option Nat} (hg : w.grownBy w' row) {l2 h2 : Nat} (hb : ∀ k, row = some k → l2 ≤ k ∧ k < h2) (hd : b < l2 ∨ h2 ≤ b) : Blk w' b cs t :=
  h.grown hg (fun e => by have := hb b e; omega)
end Go.Proofs.Ytpgnappddddlpaa
namespace Go.Proofs.Ytpgnappddddlpaa
open Go.RowKit
set_option linter.unusedVariables false

set_option maxRecDepth 10000 in
set_option maxHeartbeats 2000000 in
theorem markFarm_any (N : Int) (A : Option Addr) (n c : Nat) (B : Option Addr) (m d lo l h k : Nat) (es : List Int) (ls : List SD) (w : World) (ho : FOwn w lo l h A n c B m d es ls) (hn : es.length ≤ 1048576) (hm : ls.length + (flatK ls).length ≤ 1048576) (hk : k ≤ 1048576) :
    Calls Try.prog 32 #[.agg #[.int .i64 N, .slice A n c, .slice B m d], .int .i64 (k : Int)] w (MarkedF w l h k A n B m (endFm k es ls)) := by
  obtain ⟨he, ⟨bs, hs, hx, hr⟩, hrA⟩ := ho
  obtain rfl : n = es.length := by have := he.1; rw [vi_len] at this; omega
  have hsm := hs.small hx hm
  have hfar := hs.apartT he (by decide) (by decide)
  have hend : endH (k + es.length) bs = endFm k es ls := by
    rw [endH_sum, sum_flat hx hs.dat.len]
    unfold endFm
    rw [← hx, List.length_map]
  have H0 := Lib.hid (below_a1 w (.cells #[.int .i64 N, .slice A es.length c, .slice B m d] 26))
  have B0 := Lib.hid (Blk.new w #[.int .i64 N, .slice A es.length c, .slice B m d] 26)
  have E0 := Lib.hid (own_below he H0.out)
  have S0 := Lib.hid (hs.below H0.out)
  have hbA : (Value.slice A es.length c).ownBlock ≠ some w.heap.size := fun e => by have := (he.lt _ e).2; omega
  have C1 := Lib.hid (fun W (q : W.ownsRow lo 3 1 (.slice A es.length c) es.length (vi es)) => markInts_any A es.length c lo k es W q (by omega) (by omega))
  have C2 := Lib.hid (fun W (q : OwnH W lo B m d bs) => markHs_any B m d lo (k + es.length) bs W q (by have := hsm.c; omega) (fun e he => by have := hsm.e e he; omega) (by rw [hend]; unfold endFm; omega))
  rw [hend] at C2
  unfold MarkedI at C1
  unfold MarkedH at C2
  have HFAR := Lib.hid hfar
  have HRA := Lib.hid hrA
  have HRS := Lib.hid hr
  have HBA := Lib.hid hbA
  have HEND := Lib.hid hend
  have HLEN := Lib.hid hs.dat.len
  have HSM := Lib.hid hsm
  have HBL : Hid (∀ g, blkH B m d bs g → g < w.heap.size) := Lib.hid (fun g hg => (hs.blk hg).2)
  clear he hs hx hr hrA hsm hfar hbA hend
  generalize endFm k es ls = kk at C2 HEND ⊢
  have hkk : (0 : Int) ≤ (kk : Int) := by omega
  go_enter Try.func32, Try.ntmps32
  have x1 := B0.out.cell (i := 1) rfl
  go_wp2_with fail
  refine (C1.out _ E0.out).mono ?_
  rintro e w1 ⟨rfl, hm1, hg⟩
  have B1 := Lib.hid (B0.out.grown hg HBA.out)
  have S1 := Lib.hid (show OwnH w1 lo B m d bs from S0.out.but ((OnlyB.refl (fun g => (Value.slice A es.length c).ownBlock = some g) _).grown hg (fun i hi => hi)) (fun g hg2 hh => HFAR.out g hg2 hh))
  have O1 := Lib.hid (show OnlyB (fun g => l ≤ g ∧ g < h) w w1 from ((OnlyB.refl _ w).below H0.out).grown hg (fun i hi => HRA.out i hi))
  have M1 := Lib.hid hm1
  clear hm1 hg x1
  have x2 := B1.out.cell (i := 2) rfl
  go_wp2_with fail
  refine (C2.out _ S1.out).mono ?_
  rintro e w2 ⟨rfl, hm2, hg⟩
  have O2 := Lib.hid (O1.out.trans (hg.mono (fun i hi => HRS.out i hi)))
  have M2 := Lib.hid (OnlyB.own M1.out hg (fun g hg2 hh => HFAR.out g hh hg2))
  have S2 := Lib.hid hm2.sl
  clear hm2 hg
  go_wp2
  go_ret
  exact ⟨rfl, ⟨SlI.of_own M2.out, bs, S2.out, HEND.out, fun e he => ⟨HSM.out.e e he, HLEN.out e he⟩⟩, O2.out⟩
set_option maxRecDepth 10000 in
set_option maxHeartbeats 1000000 in
theorem heldFarm_any (N : Int) (A : Option Addr) (n c : Nat) (B : Option Addr) (m d k kk : Nat) (w : World) (h : FMk w k A n B m kk) (hn : n ≤ 1048576) (hm : m ≤ 1048576) (hk : k ≤ 1048576) (hkk : kk ≤ 16777216) :
    Calls Try.prog 33 #[.agg #[.int .i64 N, .slice A n c, .slice B m d], .int .i64 (k : Int)] w (GNum w (kk : Int)) := by
  obtain ⟨he, bs, hs, hend, hb2⟩ := h
  have C1 := Lib.hid (fun W (q : Below w.heap.size w W) => heldZ_any A n c k W (he.below q) (by omega) (by omega))
  have C2 := Lib.hid (fun W (q : Below w.heap.size w W) => heldHs_any B m d (k + n) bs W (hs.below q) (by omega) (fun e he => by have := (hb2 e he).1; omega) (by omega) (fun e he => (hb2 e he).2))
  rw [hend] at C2
  have B0 := Lib.hid (Blk.new w #[.int .i64 N, .slice A n c, .slice B m d] 26)
  have H0 := Lib.hid (below_a1 w (.cells #[.int .i64 N, .slice A n c, .slice B m d] 26))
  have h1 : (0 : Int) ≤ ((k + n : Nat) : Int) := by omega
  have h2 : (0 : Int) ≤ (kk : Int) := by omega
  clear he hs hend hb2
  generalize ((k + n : Nat) : Int) = z1 at C1 C2 h1
  go_enter Try.func33, Try.ntmps33
  have x1 := B0.out.cell (i := 1) rfl
  go_wp2_with fail
  refine (C1.out _ H0.out).mono ?_
  rintro e w1 ⟨rfl, hb⟩
  have B1 := Lib.hid (B0.out.below hb)
  have H1 := Lib.hid (g_chain H0.out hb)
  clear hb x1
  have x2 := B1.out.cell (i := 2) rfl
  go_wp2_with fail
  refine (C2.out _ H1.out).mono ?_
  rintro e w2 ⟨rfl, hb⟩
  have H2 := Lib.hid (g_chain H1.out hb)
  clear hb
  go_wp2
  go_ret
  exact ⟨rfl, H2.out⟩
end Go.Proofs.Ytpgnappddddlpaa
namespace Go.Proofs.Ytpgnappddddlpaa
open Go.RowKit

set_option maxRecDepth 10000 in
set_option maxHeartbeats 1000000 in
theorem heldEdges_any (A : Option Addr) (n c k : Nat) (es : List GE) (w : World) (hr : SlG w A n (markG k es)) (hn : n ≤ 2097152) (hk : k ≤ 8388608) :
    Calls Try.prog 81 #[.slice A n c, .int .i64 (k : Int)] w (GNum w ((k + 3 * n : Nat) : Int)) := by
  have HR := Lib.hid hr
  have HL : Hid (es.length = n) := Lib.hid (by rw [← hr.len, markG_len])
  have HG := Lib.hid (fun j (h : j < es.length) => markG_get es k j h)
  clear hr
  go_enter Try.func81, Try.ntmps81
  go_wp2
  go_loopw [1, 5] (fun q i wr => ∃ j : Nat, j ≤ n ∧ i = .int .i64 j ∧ q = .int .i64 ((k + 3 * j : Nat) : Int) ∧ wr = w) (fun _ i _ => n - (intOf i).toNat)
  case atStart => exact ⟨0, Nat.zero_le _, rfl, rfl, rfl⟩
  case round =>
    obtain ⟨j, hj, rfl, rfl, rfl⟩ := hrel
    by_cases hlt : j < n
    · obtain ⟨b, off, e, rfl, hbw, he, c0, c1, c2⟩ := HR.out.at_ hlt
      have hee : e = ⟨((k + 3 * j : Nat) : Int), ((k + 3 * j : Nat) : Int) + 1, ((k + 3 * j : Nat) : Int) + 2⟩ := by
        have h1 := he.out
        rw [HG.out j (by rw [HL.out]; exact hlt)] at h1
        injection h1 with h1
        exact h1.symm
      subst hee
      clear he
      have hq0 : k + 3 * j ≤ 20000000 := by omega
      obtain ⟨q, hq⟩ : ∃ q, q = k + 3 * j := ⟨_, rfl⟩
      simp only [← hq] at c0 c1 c2 hq0 ⊢
      have hb1 : (q : Int) + 1 + 1 = (q : Int) + 2 := by omega
      have HQ := Lib.hid hq
      clear hq
      go_wp2
      go_roundw
      case rel =>
        refine ⟨j + 1, by omega, by go_num, ?_, by first | rfl | trivial⟩
        have := HQ.out
        exact congrArg (Value.int .i64) (by first | omega | (simp only [IntKind.wrap_i64]; omega))
      case measure => simp [intOf]; omega
    · obtain rfl : j = n := by omega
      go_wp2
      go_ret
      exact ⟨by first | rfl | trivial, Below.refl _ _⟩
theorem markGraphO_any (N : Int) (A : Option Addr) (n c lo k : Nat) (es : List GE) (w : World) (ho : w.ownsRow lo 145 3 (.slice A n c) n (es.flatMap GE.cells)) (hl : es.length = n) (hn : n ≤ 2097152) (hk : k ≤ 8388608) :
    Calls Try.prog 31 #[.agg #[.int .i64 N, .slice A n c], .int .i64 (k : Int)] w fun e w' => e = .returned (.int .i64 ((k + 3 * n : Nat) : Int)) ∧ w'.ownsRow lo 145 3 (.slice A n c) n ((markG k es).flatMap GE.cells) ∧ w.grownBy w' (Value.slice A n c).ownBlock := by
  have C := Lib.hid (fun W (h : Below w.heap.size w W) => markEdges_any A n c lo k es W (own_below ho h) hl hn hk)
  clear ho
  go_enter Try.func31, Try.ntmps31
  go_wp2_with fail
  refine (C.out _ (below_a1 _ _)).mono ?_
  rintro e w1 ⟨rfl, ho1, hg1⟩
  have HG := Lib.hid (grownBy_trans (grownBy_of_below (below_a1 w (.cells #[.int .i64 N, .slice A n c] 58)) _) hg1)
  have HO := Lib.hid ho1
  clear ho1 hg1
  go_wp2
  go_ret
  exact ⟨rfl, HO.out, HG.out⟩
theorem heldGraph_any (N : Int) (A : Option Addr) (n c k : Nat) (es : List GE) (w : World) (hr : SlG w A n (markG k es)) (hn : n ≤ 2097152) (hk : k ≤ 8388608) :
    Calls Try.prog 36 #[.agg #[.int .i64 N, .slice A n c], .int .i64 (k : Int)] w (GNum w ((k + 3 * n : Nat) : Int)) := by
  have CE := Lib.hid (fun W (h : Below w.heap.size w W) => heldEdges_any A n c k es W (hr.below h) hn hk)
  clear hr
  go_enter Try.func36, Try.ntmps36
  go_wp2_with fail
  refine (CE.out _ (below_a1 _ _)).mono ?_
  rintro e w1 ⟨rfl, hb1⟩
  go_wp2
  go_ret
  exact ⟨rfl, g_chain (below_a1 _ _) hb1⟩
end Go.Proofs.Ytpgnappddddlpaa
namespace Go.Proofs.Ytpgnappddddlpaa
open Go.RowKit
set_option linter.unusedVariables false

structure NOwn (w : World) (lo l h : Nat) (A : Option Addr) (n c : Nat) (xs : List Int) : Prop where
  e : w.ownsRow lo 3 1 (.slice A n c) n (vi xs)
  r : ∀ g, (Value.slice A n c).ownBlock = some g → l ≤ g ∧ g < h
structure GOwn (w : World) (lo l h : Nat) (A : Option Addr) (n c : Nat) (es : List GE) : Prop where
  e : w.ownsRow lo 145 3 (.slice A n c) n (es.flatMap GE.cells)
  r : ∀ g, (Value.slice A n c).ownBlock = some g → l ≤ g ∧ g < h
section
variable {w w' : World} {lo lo' l h l1 h1 n c : Nat} {A : Option Addr} {xs : List Int} {es : List GE}
theorem NOwn.of (ho : w.ownsRow lo 3 1 (.slice A n c) n (vi xs)) : NOwn w lo lo w.heap.size A n c xs := ⟨ho, ho.lt⟩
theorem NOwn.below (k : NOwn w lo l h A n c xs) (hb : Below w.heap.size w w') : NOwn w' lo l h A n c xs := ⟨own_below k.e hb, k.r⟩
theorem NOwn.wr (hw : Wr l1 h1 w w') (k : NOwn w lo l h A n c xs) (hd : h ≤ l1 ∨ h1 ≤ l) : NOwn w' lo l h A n c xs := ⟨hw.own k.e k.r hd, k.r⟩
theorem GOwn.of (ho : w.ownsRow lo 145 3 (.slice A n c) n (es.flatMap GE.cells)) : GOwn w lo lo w.heap.size A n c es := ⟨ho, ho.lt⟩
theorem GOwn.below (k : GOwn w lo l h A n c es) (hb : Below w.heap.size w w') : GOwn w' lo l h A n c es := ⟨own_below k.e hb, k.r⟩
theorem GOwn.wr (hw : Wr l1 h1 w w') (k : GOwn w lo l h A n c es) (hd : h ≤ l1 ∨ h1 ≤ l) : GOwn w' lo l h A n c es := ⟨hw.own k.e k.r hd, k.r⟩
end
/-- Marks in a list of numbers, in a graph. -/
def NMk (w : World) (k : Nat) (A : Option Addr) (n : Nat) : Prop := SlI w A n (ints k n)
def GMk (w : World) (k : Nat) (A : Option Addr) (n : Nat) : Prop := ∃ es, SlG w A n (markG k es)
theorem NMk.below {w w' : World} {k n : Nat} {A : Option Addr} (h : NMk w k A n) (hb : Below w.heap.size w w') : NMk w' k A n := SlI.below h hb
theorem GMk.below {w w' : World} {k n : Nat} {A : Option Addr} (h : GMk w k A n) (hb : Below w.heap.size w w') : GMk w' k A n := by
  obtain ⟨es, h⟩ := h
  exact ⟨es, h.below hb⟩
theorem markN_k (A : Option Addr) (n c lo l h k : Nat) (xs : List Int) (w : World) (ho : NOwn w lo l h A n c xs) (hn : n ≤ 1048576) (hk : k ≤ 8388608) :
    Calls Try.prog 38 #[.slice A n c, .int .i64 (k : Int)] w (fun e w' => e = .returned (.int .i64 ((k + n : Nat) : Int)) ∧ NMk w' k A n ∧ Wr l h w w') := by
  refine (markInts_any A n c lo k xs w ho.e (by omega) hk).mono ?_
  rintro e w' ⟨rfl, hm, hg⟩
  exact ⟨rfl, SlI.of_own hm, Wr.of_grown hg ho.r⟩
theorem heldN_k (A : Option Addr) (n c k : Nat) (w : World) (h : NMk w k A n) (hn : n ≤ 1048576) (hk : k ≤ 8388608) :
    Calls Try.prog 39 #[.slice A n c, .int .i64 (k : Int)] w (GNum w ((k + n : Nat) : Int)) := by
  refine (heldInts_any A n c k w h (by omega) hk).mono ?_
  rintro e w' ⟨rfl, rfl⟩
  exact ⟨rfl, Below.refl _ _⟩
theorem markG_k (N : Int) (A : Option Addr) (n c lo l h k : Nat) (es : List GE) (w : World) (ho : GOwn w lo l h A n c es) (hl : es.length = n) (hn : n ≤ 1048576) (hk : k ≤ 8388608) :
    Calls Try.prog 31 #[.agg #[.int .i64 N, .slice A n c], .int .i64 (k : Int)] w (fun e w' => e = .returned (.int .i64 ((k + 3 * n : Nat) : Int)) ∧ GMk w' k A n ∧ Wr l h w w') := by
  refine (markGraphO_any N A n c lo k es w ho.e hl (by omega) hk).mono ?_
  rintro e w' ⟨rfl, hm, hg⟩
  exact ⟨rfl, ⟨es, SlG.of_own hm (by rw [markG_len]; exact hl)⟩, Wr.of_grown hg ho.r⟩
theorem heldG_k (N : Int) (A : Option Addr) (n c k : Nat) (w : World) (h : GMk w k A n) (hn : n ≤ 1048576) (hk : k ≤ 8388608) :
    Calls Try.prog 36 #[.agg #[.int .i64 N, .slice A n c], .int .i64 (k : Int)] w (GNum w ((k + 3 * n : Nat) : Int)) := by
  obtain ⟨es, h⟩ := h
  exact heldGraph_any N A n c k es w h (by omega) hk
end Go.Proofs.Ytpgnappddddlpaa
namespace Go.Proofs.Ytpgnappddddlpaa
open Go.RowKit

theorem edgeB_parts {n : Int} {e : GE} (h : edgeB n e = false) : e.f < 0 ∨ (0 ≤ e.f ∧ n ≤ e.f) ∨ (0 ≤ e.f ∧ e.f < n ∧ e.t < 0) ∨ (0 ≤ e.f ∧ e.f < n ∧ 0 ≤ e.t ∧ n ≤ e.t) ∨ (0 ≤ e.f ∧ e.f < n ∧ 0 ≤ e.t ∧ e.t < n ∧ e.w < 0) ∨ (0 ≤ e.f ∧ e.f < n ∧ 0 ≤ e.t ∧ e.t < n ∧ 0 ≤ e.w ∧ 1000 < e.w) := by
  have h := of_decide_eq_false h
  omega

set_option maxRecDepth 10000 in
set_option maxHeartbeats 4000000 in
theorem specGraphOk (N : Int) (A : Option Addr) (n c : Nat) (es : List GE) (w : World) (hr : SlG w A n es) (hn : n ≤ 1048576) :
    Calls Try.prog 71 #[.agg #[.int .i64 N, .slice A n c]] w (GTell w (graphB N es)) := by
  have HEL := Lib.hid hr.len
  have HR := Lib.hid hr
  clear hr
  go_enter Try.func71, Try.ntmps71
  go_wp2
  have X0 := Lib.hid (NBox.new w N A n c 58)
  have HB0 := Lib.hid (below_a1 w (.cells #[.int .i64 N, .slice A n c] 58))
  go_loopw [8] (fun i wr => ∃ k : Nat, k ≤ n ∧ i = .int .i64 k ∧ Hid (NBox wr w.heap.size N A n c) ∧ Hid (Below w.heap.size w wr) ∧ Hid (∀ x ∈ es.take k, edgeB N x = true)) (fun i _ => n - (intOf i).toNat)
  case atStart => exact ⟨0, Nat.zero_le _, rfl, X0, HB0, Lib.hid (by simp)⟩
  case round =>
    clear X0 HB0
    obtain ⟨k, hk, rfl, hx, hbel, hall⟩ := hrel
    obtain ⟨l0, x0, x1⟩ := hx.out
    by_cases hlt : k < n
    · obtain ⟨b, off, e, rfl, hbw, he, c0, c1, c2⟩ := HR.out.at_ hlt
      have c0 := (hbel.out.cell (p := ⟨b, off + k * 3, none⟩) hbw).trans c0
      have c1 := (hbel.out.cell (p := ⟨b, off + k * 3 + 1, none⟩) hbw).trans c1
      have c2 := (hbel.out.cell (p := ⟨b, off + k * 3 + 2, none⟩) hbw).trans c2
      have HB1 := Lib.hid (below_a1 wr (.cells #[.int .i64 e.f, .int .i64 e.t, .int .i64 e.w] 145))
      cases hv : edgeB N e with
      | true =>
        obtain ⟨h1, h2, h3, h4, h5, h6⟩ := edgeB_iff hv
        go_wp2
        go_roundw
        case rel => exact ⟨k + 1, by omega, by go_num, Lib.hid (hx.out.below HB1.out), Lib.hid (g_chain hbel.out HB1.out), Lib.hid (all_step he.out hall.out hv)⟩
        case measure => simp [intOf]; omega
      | false =>
        have HV := Lib.hid (graphB_no he.out hv)
        have hp := edgeB_parts hv
        clear hv
        rcases hp with h1 | ⟨h1, h2⟩ | ⟨h1, h2, h3⟩ | ⟨h1, h2, h3, h4⟩ | ⟨h1, h2, h3, h4, h5⟩ | ⟨h1, h2, h3, h4, h5, h6⟩
        all_goals
          go_wp2
          go_ret
          rw [HV.out]
          exact ⟨g_bool (by first | rfl | (simp <;> omega)), g_chain hbel.out HB1.out⟩
    · obtain rfl : k = n := by omega
      have HG : Hid (graphB N es = decide (0 ≤ N ∧ N ≤ 150 ∧ k ≤ 400)) := Lib.hid (by
        have h1 : es.all (edgeB N) = true := List.all_eq_true.2 (fun x hx => hall.out x (by rw [List.take_of_length_le (by rw [HEL.out]; exact Nat.le_refl _)]; exact hx))
        unfold graphB
        rw [h1, Bool.and_true, HEL.out])
      by_cases h1 : 0 ≤ N
      · by_cases h2 : N ≤ 150
        · by_cases h3 : k ≤ 400
          · have HV : Hid (graphB N es = true) := Lib.hid (by rw [HG.out]; simp [h1, h2, h3])
            go_wp2
            go_ret
            rw [HV.out]
            exact ⟨g_bool (by first | rfl | (simp <;> omega)), hbel.out⟩
          · have HV : Hid (graphB N es = false) := Lib.hid (by rw [HG.out]; simp [h3])
            go_wp2
            go_ret
            rw [HV.out]
            exact ⟨g_bool (by first | rfl | (simp <;> omega)), hbel.out⟩
        · have HV : Hid (graphB N es = false) := Lib.hid (by rw [HG.out]; simp [h2])
          go_wp2
          go_ret
          rw [HV.out]
          exact ⟨g_bool (by first | rfl | (simp <;> omega)), hbel.out⟩
      · have HV : Hid (graphB N es = false) := Lib.hid (by rw [HG.out]; simp [h1])
        go_wp2
        go_ret
        rw [HV.out]
        exact ⟨g_bool (by first | rfl | (simp <;> omega)), hbel.out⟩
end Go.Proofs.Ytpgnappddddlpaa
namespace Go.Proofs.Ytpgnappddddlpaa
open Go.RowKit

set_option maxRecDepth 10000 in
set_option maxHeartbeats 4000000 in
theorem specIn (N : Int) (A : Option Addr) (n c : Nat) (es : List GE) (w : World) (hr : SlG w A n es) (hn : n ≤ 1048576) :
    Calls Try.prog 92 #[.agg #[.int .i64 N, .slice A n c]] w (MadeI w (degsOf GE.t N es)) := by
  obtain ⟨i0, hi, hz0, hz1, hz2⟩ := info_parts Try.infoInt
  have HEL := Lib.hid hr.len
  have HR := Lib.hid hr
  have CG := Lib.hid (fun W (h : Below w.heap.size w W) => specGraphOk N A n c es W (hr.below h) hn)
  clear hr
  go_enter Try.func92, Try.ntmps92
  go_wp2_with fail
  refine (CG.out _ (below_a1 _ _)).mono ?_
  rintro e w1 ⟨rfl, hb1⟩
  have X1 := Lib.hid ((NBox.new w N A n c 58).below hb1)
  have HB1 := Lib.hid (g_chain (below_a1 w (.cells #[.int .i64 N, .slice A n c] 58)) hb1)
  clear hb1
  obtain ⟨l0, x0, x1⟩ := X1.out
  cases hv : graphB N es with
  | false =>
    have HD : Hid (degsOf GE.t N es = []) := Lib.hid (by unfold degsOf; rw [hv]; rfl)
    go_wp2
    go_ret
    rw [HD.out]
    exact ⟨none, 0, 0, rfl, World.ownsRow_nil _ _ _ _, HB1.out⟩
  | true =>
    have HD : Hid (degsOf GE.t N es = degs GE.t N.toNat es) := Lib.hid (by unfold degsOf; rw [hv]; rfl)
    obtain ⟨h1, h2, h3, h4⟩ := graphB_iff hv
    have H4 := Lib.hid h4
    rw [HEL.out] at h3
    clear hv h4
    obtain ⟨M, rfl⟩ : ∃ M : Nat, N = (M : Int) := ⟨N.toNat, by omega⟩
    rw [Int.toNat_natCast] at HD
    go_wp2_with (refine wpList_make_full _ rfl (.tmp 10) (.tmp 10) 23 rfl w1.heap.size 3 i0 (.int .i64 0) 1 Try.underlying23 hi hz0 hz1 .i64 .i64 _ _ M rfl rfl rfl rfl (by rw [hz2]; omega) (by unfold maxLen; omega) (Nat.le_refl _) ?_; intro w2 hown hg; have hb2 : Below w1.heap.size w1 w2 := (Below.refl _ _).grown hg (Nat.le_refl _) (by simp); have X2 := Lib.hid (X1.out.below hb2); have HB2 := Lib.hid (g_chain HB1.out hb2); rw [made_zero M GE.t es] at hown; have HO2 := Lib.hid hown; clear hown hg hb2 l0 x0 x1; obtain ⟨l0, x0, x1⟩ := X2.out)
    have hg1 : w.heap.size < w1.heap.size := X1.out.lt
    go_loopw [15] (fun i wr => ∃ k : Nat, k ≤ n ∧ i = .int .i64 k ∧ Hid (NBox wr w.heap.size M A n c) ∧ Hid (Below w.heap.size w wr) ∧ Hid (wr.ownsRow w1.heap.size 3 1 (.slice (some ⟨w1.heap.size, 0, none⟩) M M) M (vi (degs GE.t M (es.take k))))) (fun i _ => n - (intOf i).toNat)
    case atStart => exact ⟨0, Nat.zero_le _, rfl, X2, HB2, HO2⟩
    case round =>
      clear X2 HB2 HO2 l0 x0 x1
      obtain ⟨k, hk, rfl, hx, hbel, hown⟩ := hrel
      by_cases hlt : k < n
      · obtain ⟨b, off, e, rfl, hbw, he, c0, c1, c2⟩ := HR.out.at_ hlt
        have c0 := (hbel.out.cell (p := ⟨b, off + k * 3, none⟩) hbw).trans c0
        have c1 := (hbel.out.cell (p := ⟨b, off + k * 3 + 1, none⟩) hbw).trans c1
        have c2 := (hbel.out.cell (p := ⟨b, off + k * 3 + 2, none⟩) hbw).trans c2
        have hh := edgeB_iff (H4.out e (List.mem_of_getElem? he.out))
        obtain ⟨F, T, W0⟩ := e
        simp only at hh c0 c1 c2
        obtain ⟨f, rfl⟩ : ∃ f : Nat, T = (f : Int) := ⟨Int.toNat T, by omega⟩
        have hfM : f < M := by omega
        obtain ⟨x, hx1, hx2, hx3⟩ := degs_at (key := GE.t) (es := es.take k) hfM
        have hx4 : x ≤ 400 := by have := List.length_take_le k es; rw [HEL.out] at *; omega
        have HST := Lib.hid (degs_step (key := GE.t) (M := M) he.out (f := f) rfl hx1)
        have HX1 := Lib.hid hx1
        have HA1 := Lib.hid (below_a1 wr (.cells #[.int .i64 F, .int .i64 (f : Int), .int .i64 W0] 145))
        have HOW := Lib.hid (own_below hown.out HA1.out)
        obtain ⟨l0, x0, x1⟩ := hx.out
        have hc0 : (wr.alloc (.cells #[.int .i64 F, .int .i64 (f : Int), .int .i64 W0] 145)).cell? ⟨w1.heap.size, f, none⟩ = some (.int .i64 x) := (HOW.out.cellAt f (by omega)).trans (by rw [vi_get, HX1.out]; first | done | rfl)
        have hf0 := HOW.out.frozenAt f
        have HS := Lib.hid (hown.out.stored f (.int .i64 (x + 1)))
        rw [← HST.out] at HS
        have hgl : w1.heap.size < wr.heap.size := (hown.out.lt w1.heap.size rfl).2
        have hgl2 : ¬ w1.heap.size = wr.heap.size := by omega
        clear hx1 hx3
        go_wp2
        go_roundw
        case rel =>
          refine ⟨k + 1, by omega, by go_num, Lib.hid ?_, Lib.hid ?_, Lib.hid ?_⟩
          · exact (hx.out.keep (by simp) (Below.heap_setCell wr ⟨w1.heap.size, f, none⟩ (.int .i64 (x + 1)) w.heap.size (by show w.heap.size ≠ w1.heap.size; omega))).alloc _
          · exact (hbel.out.setCell (p := ⟨w1.heap.size, f, none⟩) (by show w.heap.size ≤ w1.heap.size; omega) _).alloc (by simp; omega) _
          · exact own_below HS.out.1 (below_a1 _ _)
        case measure => simp [intOf]; omega
      · obtain rfl : k = n := by omega
        obtain ⟨l0, x0, x1⟩ := hx.out
        go_wp2
        go_ret
        rw [HD.out]
        have h := hown.out
        rw [List.take_of_length_le (by rw [HEL.out]; exact Nat.le_refl _)] at h
        exact ⟨_, _, _, rfl, own_monoG h (by omega), hbel.out⟩
end Go.Proofs.Ytpgnappddddlpaa
namespace Go.Proofs.Ytpgnappddddlpaa
open Go.RowKit

/-- From l on the list ascends. -/
def ascB (l : Int) : List Int → Bool
  | [] => true
  | e :: r => decide (l < e) && ascB e r
def lastE (l : Int) : List Int → Int
  | [] => l
  | e :: r => lastE e r
def pairsE (l : Int) : List Int → List (Int × Int)
  | [] => []
  | e :: r => (l, e) :: pairsE e r
def endsB (n : Int) (es : List Int) : Bool := ascB 0 es && decide (0 ≤ n ∧ n ≤ 150 ∧ lastE 0 es = n)
theorem ascB_append : ∀ (xs ys : List Int) (l : Int), ascB l (xs ++ ys) = (ascB l xs && ascB (lastE l xs) ys)
  | [], _, _ => by simp [ascB, lastE]
  | x :: r, ys, l => by simp [ascB, lastE, ascB_append r ys x, Bool.and_assoc]
theorem lastE_snoc : ∀ (xs : List Int) (l e : Int), lastE l (xs ++ [e]) = e
  | [], _, _ => rfl
  | x :: r, _, e => by simp [lastE, lastE_snoc r x e]
theorem pairsE_len : ∀ (xs : List Int) (l : Int), (pairsE l xs).length = xs.length
  | [], _ => rfl
  | x :: r, _ => by simp [pairsE, pairsE_len r x]
theorem pairsE_snoc : ∀ (xs : List Int) (l e : Int), pairsE l (xs ++ [e]) = pairsE l xs ++ [(lastE l xs, e)]
  | [], _, _ => rfl
  | x :: r, _, e => by simp [pairsE, lastE, pairsE_snoc r x e]
theorem pairsE_take : ∀ (xs : List Int) (l : Int) (k : Nat), (pairsE l xs).take k = pairsE l (xs.take k)
  | [], _, k => by simp [pairsE]
  | x :: r, _, 0 => rfl
  | x :: r, _, k + 1 => by simp [pairsE, pairsE_take r x k]
theorem pairsE_get : ∀ (xs : List Int) (l : Int) (k : Nat) (e : Int), xs[k]? = some e → (pairsE l xs)[k]? = some (lastE l (xs.take k), e)
  | [], _, _, _, h => by simp at h
  | x :: r, l, 0, e, h => by simp at h; simp [pairsE, lastE, h]
  | x :: r, l, k + 1, e, h => by
    simp only [List.getElem?_cons_succ] at h
    simp only [pairsE, List.getElem?_cons_succ, List.take_succ_cons, lastE]
    exact pairsE_get r x k e h
theorem asc_step {l e : Int} {xs : List Int} {k : Nat} (h : xs[k]? = some e) (ha : ascB l (xs.take k) = true) : ascB l (xs.take (k + 1)) = decide (lastE l (xs.take k) < e) := by
  rw [g_take xs k e h, ascB_append, ha]
  simp [ascB]
theorem last_step {l e : Int} {xs : List Int} {k : Nat} (h : xs[k]? = some e) : lastE l (xs.take (k + 1)) = e := by rw [g_take xs k e h, lastE_snoc]
theorem asc_no {l : Int} {xs : List Int} {k : Nat} (h : ascB l (xs.take k) = false) : ascB l xs = false := by
  rw [← List.take_append_drop k xs, ascB_append, h]
  rfl
theorem ends_no {n l : Int} {xs : List Int} {k : Nat} {e : Int} (hl : l = 0) (h : xs[k]? = some e) (ha : ascB l (xs.take k) = true) (hn : e ≤ lastE l (xs.take k)) : endsB n xs = false := by
  subst hl
  unfold endsB
  rw [asc_no (k := k + 1) (by rw [asc_step h ha]; simp; omega)]
  rfl
theorem ends_yes {n : Int} {xs : List Int} (ha : ascB 0 xs = true) : endsB n xs = decide (0 ≤ n ∧ n ≤ 150 ∧ lastE 0 xs = n) := by
  unfold endsB
  rw [ha]
  rfl
theorem endsB_iff {n : Int} {xs : List Int} (h : endsB n xs = true) : ascB 0 xs = true ∧ 0 ≤ n ∧ n ≤ 150 ∧ lastE 0 xs = n := by
  unfold endsB at h
  simp only [Bool.and_eq_true, decide_eq_true_eq] at h
  exact h
theorem asc_last_ge : ∀ (xs : List Int) (l : Int), ascB l xs = true → l ≤ lastE l xs
  | [], _, _ => Int.le_refl _
  | x :: r, l, h => by
    simp only [ascB, Bool.and_eq_true, decide_eq_true_eq] at h
    have := asc_last_ge r x h.2
    simp only [lastE]
    omega
/-- An ascending list, cut at place k. -/
theorem asc_at {l e : Int} {xs : List Int} {k : Nat} (h : xs[k]? = some e) (ha : ascB l xs = true) : l ≤ lastE l (xs.take k) ∧ lastE l (xs.take k) < e ∧ e ≤ lastE l xs := by
  have h1 := ha
  rw [← List.take_append_drop k xs, ascB_append] at h1
  simp only [Bool.and_eq_true] at h1
  obtain ⟨h1, h2⟩ := h1
  have h3 : lastE l xs = lastE (lastE l (xs.take k)) (xs.drop k) := by
    have : ∀ (a b : List Int) (l : Int), lastE l (a ++ b) = lastE (lastE l a) b := by
      intro a
      induction a with
      | nil => intro b l; rfl
      | cons x r ih => intro b l; simp [lastE, ih]
    conv => lhs; rw [← List.take_append_drop k xs]
    exact this _ _ _
  rw [h3]
  rw [g_drop xs k e h] at h2 ⊢
  simp only [ascB, Bool.and_eq_true, decide_eq_true_eq] at h2
  have h4 := asc_last_ge _ _ h2.2
  simp only [lastE]
  exact ⟨asc_last_ge _ _ h1, h2.1, h4⟩

/-- How many ends are at most v. -/
def cntE (v : Int) (xs : List Int) : Int := ((xs.filter fun e => decide (e ≤ v)).length : Nat)
theorem cnt_nil (v : Int) : cntE v [] = 0 := rfl
theorem cnt_step {v e : Int} {xs : List Int} {k : Nat} (h : xs[k]? = some e) : cntE v (xs.take (k + 1)) = cntE v (xs.take k) + (if e ≤ v then 1 else 0) := by
  rw [g_take xs k e h]
  unfold cntE
  rw [List.filter_append, List.length_append]
  by_cases hv : e ≤ v <;> simp [hv]
theorem cnt_bound (v : Int) (xs : List Int) : 0 ≤ cntE v xs ∧ cntE v xs ≤ xs.length := by
  have := List.length_filter_le (fun e => decide (e ≤ v)) xs
  unfold cntE
  omega
def ivE (xs : List Int) (v : Int) : Int := if v < 0 ∨ xs = [] ∨ lastE 0 xs ≤ v then -1 else cntE v xs
theorem lastE_get : ∀ (xs : List Int) (l : Int) (k : Nat), xs.length = k + 1 → xs[k]? = some (lastE l xs)
  | [x], _, 0, _ => rfl
  | x :: y :: r, _, 0, h => by simp at h
  | [], _, _, h => by simp at h
  | x :: r, _, k + 1, h => by
    rw [List.getElem?_cons_succ]
    exact lastE_get r x k (by simpa using h)

/-! ### a pair of ends -/
def spanR (xs : List Int) (p : Int) : Int × Int := if p < 0 ∨ (xs.length : Int) ≤ p then (0, 0) else (lastE 0 (xs.take p.toNat), xs.getD p.toNat 0)
theorem span_no {xs : List Int} {p : Int} (h : p < 0 ∨ (xs.length : Int) ≤ p) : spanR xs p = (0, 0) := if_pos h
theorem span_yes {xs : List Int} {k : Nat} {e : Int} (h : xs[k]? = some e) : spanR xs (k : Int) = (lastE 0 (xs.take k), e) := by
  have hk := (List.getElem?_eq_some_iff.1 h).1
  unfold spanR
  rw [if_neg (by omega), Int.toNat_natCast, List.getD_eq_getElem?_getD, h]
  rfl
theorem lastE_take_succ {xs : List Int} {k : Nat} {e l : Int} (h : xs[k]? = some e) : lastE l (xs.take (k + 1)) = e := last_step h
end Go.Proofs.Ytpgnappddddlpaa
