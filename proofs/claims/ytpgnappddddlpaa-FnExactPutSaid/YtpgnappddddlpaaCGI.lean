/- Farms as arguments of the laws: the laws' helpers that measure one, copy it, compare two. Condition: at most 2^20 ends, shards and edges together. // What stays where another row of the call's own is written; the law's helper that looks for marks in numbers, said of memory alone (plain lemmas over the model; condition: at most 2^21 numbers). // Farms as arguments of the laws: the laws' helpers that leave marks in one and find them. Condition: at most 2^20 ends, shards and edges together. // The opening of an argument that is a farm (no condition). // The contracts of the laws' helpers that find the marks in edges and in a graph. Condition: at most 2^21 edges. // What the walks of exact laws carry of graphs and lists of numbers of the law's own, with the range that their blocks lie in (plain lemmas; the laws' helpers in these words). Condition: at most 2^20 edges or numbers. // Bits of int (64 bits) at numbers that are not negative: 'or' and 'xor' are those of the natural numbers; an 'or' onto free low bits is a sum. // What a writer of numbers leaves; the digits of numbers of variable length; words for an append of one byte. // The six bytes of a number, the highest first. // Plain mathematics of numbers of variable length: the value of digits, how far a number goes, and when its digits are the shortest. // What a reader of a number of variable length returns. // What a reader of a signed number returns. // The number that bears the sign in its lowest bit. // The number of six bytes, the highest first. -/
import Derived.Test.YtpgnappddddlpaaCGG
import Derived.Test.YtpgnappddddlpaaCGH
import Derived.Test.YtpgnappddddlpaaCGD
import Derived.Test.YtpgnappddddlpaaCGB
import Derived.Laws.BitsAllLaws
import Derived.Laws.BitsLemmas
import Derived.WalkKit
import Derived.Test.YtpgnappddddlpaaCGA
namespace Go.Proofs.Ytpgnappddddlpaa
open Go.RowKit
set_option linter.unusedVariables false

set_option maxHeartbeats 1000000 in
theorem szFarm_any (N : Int) (A : Option Addr) (n c : Nat) (B : Option Addr) (m d : Nat) (bs : List HE) (left : Int) (w : World) (hB : SlH w B m bs) (hn : n ≤ maxLen) (hm : m ≤ maxLen) (hs : ∀ e ∈ bs, e.n ≤ maxLen) (h0 : 0 ≤ left) (h1 : left ≤ 1048576) :
    Calls Try.prog 22 #[.agg #[.int .i64 N, .slice A n c, .slice B m d], .int .i64 left] w (GNum w (leftG left (n + (m + sumH bs)))) := by
  have CV := Lib.hid (fun w => szZ_any A n c left w hn h0 h1)
  have BX := Lib.hid (Blk.new w #[.int .i64 N, .slice A n c, .slice B m d] 46)
  have HB := Lib.hid (fun W (h : Below w.heap.size w W) => hB.below h)
  clear hB
  by_cases hb1 : (n : Int) ≤ left
  · have hp1 : 0 ≤ left - (n : Int) := by omega
    have hq1 : left - (n : Int) ≤ 1048576 := by omega
    have e1 := leftG_pos hb1
    rw [e1] at CV
    have CH := Lib.hid (fun W (h : Below w.heap.size w W) => szHs_any B m d bs (left - (n : Int)) W (HB.out W h) hm hs hp1 hq1)
    by_cases hb2 : ((m + sumH bs : Nat) : Int) ≤ left - (n : Int)
    · have hp2 : 0 ≤ left - (n : Int) - ((m + sumH bs : Nat) : Int) := by omega
      have e2 := leftG_pos hb2
      rw [e2] at CH
      rw [leftG_pos (by omega), show left - ((n + (m + sumH bs) : Nat) : Int) = left - (n : Int) - ((m + sumH bs : Nat) : Int) by omega]
      generalize left - (n : Int) - ((m + sumH bs : Nat) : Int) = q2 at CH hp2 ⊢
      generalize left - (n : Int) = q1 at CH CV hp1
      clear e1 e2 hb1 hb2 hq1
      go_enter Try.func22, Try.ntmps22
      go_wp2_with fail
      refine (CV.out _).mono ?_
      rintro e w1 ⟨rfl, rfl⟩
      have H1 := Lib.hid (below_a1 w (.cells #[.int .i64 N, .slice A n c, .slice B m d] 46))
      have b1 := BX.out.cell (i := 2) rfl
      go_wp2_with fail
      refine (CH.out _ H1.out).mono ?_
      rintro e w2 ⟨rfl, hb⟩
      have H2 := Lib.hid (g_chain H1.out hb)
      clear hb
      go_wp2
      go_ret
      exact ⟨rfl, H2.out⟩
    · rw [leftG_neg (by omega)] at CH
      rw [leftG_neg (by omega)]
      generalize left - (n : Int) = q1 at CH CV hp1
      clear e1 hb1 hb2 hq1
      go_enter Try.func22, Try.ntmps22
      go_wp2_with fail
      refine (CV.out _).mono ?_
      rintro e w1 ⟨rfl, rfl⟩
      have H1 := Lib.hid (below_a1 w (.cells #[.int .i64 N, .slice A n c, .slice B m d] 46))
      have b1 := BX.out.cell (i := 2) rfl
      go_wp2_with fail
      refine (CH.out _ H1.out).mono ?_
      rintro e w2 ⟨rfl, hb⟩
      have H2 := Lib.hid (g_chain H1.out hb)
      clear hb
      go_wp2
      go_ret
      exact ⟨rfl, H2.out⟩
  · rw [leftG_neg (by omega)] at CV ⊢
    clear hb1
    go_enter Try.func22, Try.ntmps22
    go_wp2_with fail
    refine (CV.out _).mono ?_
    rintro e w1 ⟨rfl, rfl⟩
    have H1 := Lib.hid (below_a1 w (.cells #[.int .i64 N, .slice A n c, .slice B m d] 46))
    have b1 := BX.out.cell (i := 2) rfl
    go_wp2
    go_ret
    exact ⟨rfl, H1.out⟩
set_option maxRecDepth 10000 in
set_option maxHeartbeats 2000000 in
theorem toFarm_any (N : Int) (A : Option Addr) (n c : Nat) (B : Option Addr) (m d : Nat) (es : List Int) (bs : List HE) (w : World) (hA : SlI w A n es) (hB : SlH w B m bs) (hn : n ≤ 2097152) (hm : m ≤ 2097152) (hs : ∀ e ∈ bs, e.n ≤ 2097152) :
    Calls Try.prog 24 #[.agg #[.int .i64 N, .slice A n c, .slice B m d]] w (MadeF w N es (sdL bs)) := by
  have CV := Lib.hid (fun W (h : Below w.heap.size w W) => copyInts_any A n c es W (hA.below h) hn)
  have CH := Lib.hid (fun W (h : Below w.heap.size w W) => toHs_any B m d bs W (hB.below h) hm hs)
  have HLE := Lib.hid hA.len
  have HLB := Lib.hid hB.len
  unfold MadeN OwI at CV
  unfold MadeHs at CH
  clear hA hB
  have H_1 := Lib.hid (g_chain (g_chain (g_chain (Below.refl w.heap.size w) (below_a1 w (.cells #[.int .i64 N, .slice A n c, .slice B m d] 46))) (below_a1 (w.alloc (.cells #[.int .i64 N, .slice A n c, .slice B m d] 46)) (.cells #[.int .i64 0, .slice none 0 0, .slice none 0 0] 26))) (below_a1 ((w.alloc (.cells #[.int .i64 N, .slice A n c, .slice B m d] 46)).alloc (.cells #[.int .i64 0, .slice none 0 0, .slice none 0 0] 26)) (.cells #[.int .i64 N, .slice none 0 0, .slice none 0 0] 26)))
  have BX_2 : Hid (Blk (((w.alloc (.cells #[.int .i64 N, .slice A n c, .slice B m d] 46)).alloc (.cells #[.int .i64 0, .slice none 0 0, .slice none 0 0] 26)).alloc (.cells #[.int .i64 N, .slice none 0 0, .slice none 0 0] 26)) (w.heap.size) #[.int .i64 N, .slice A n c, .slice B m d] 46) := Lib.hid (by have h := ((Blk.new w #[.int .i64 N, .slice A n c, .slice B m d] 46).alloc (.cells #[.int .i64 0, .slice none 0 0, .slice none 0 0] 26)).alloc (.cells #[.int .i64 N, .slice none 0 0, .slice none 0 0] 26); simpa [Nat.add_assoc] using h)
  have BZ_3 : Hid (Blk (((w.alloc (.cells #[.int .i64 N, .slice A n c, .slice B m d] 46)).alloc (.cells #[.int .i64 0, .slice none 0 0, .slice none 0 0] 26)).alloc (.cells #[.int .i64 N, .slice none 0 0, .slice none 0 0] 26)) (w.heap.size + 1) #[.int .i64 0, .slice none 0 0, .slice none 0 0] 26) := Lib.hid (by have h := (Blk.new (w.alloc (.cells #[.int .i64 N, .slice A n c, .slice B m d] 46)) #[.int .i64 0, .slice none 0 0, .slice none 0 0] 26).alloc (.cells #[.int .i64 N, .slice none 0 0, .slice none 0 0] 26); simpa [Nat.add_assoc] using h)
  have BT_4 : Hid (Blk (((w.alloc (.cells #[.int .i64 N, .slice A n c, .slice B m d] 46)).alloc (.cells #[.int .i64 0, .slice none 0 0, .slice none 0 0] 26)).alloc (.cells #[.int .i64 N, .slice none 0 0, .slice none 0 0] 26)) (w.heap.size + 2) #[.int .i64 N, .slice none 0 0, .slice none 0 0] 26) := Lib.hid (by have h := Blk.new ((w.alloc (.cells #[.int .i64 N, .slice A n c, .slice B m d] 46)).alloc (.cells #[.int .i64 0, .slice none 0 0, .slice none 0 0] 26)) #[.int .i64 N, .slice none 0 0, .slice none 0 0] 26; simpa [Nat.add_assoc] using h)
  have sz0 : Hid (w.heap.size + 3 ≤ (((w.alloc (.cells #[.int .i64 N, .slice A n c, .slice B m d] 46)).alloc (.cells #[.int .i64 0, .slice none 0 0, .slice none 0 0] 26)).alloc (.cells #[.int .i64 N, .slice none 0 0, .slice none 0 0] 26)).heap.size) := Lib.hid (by simp)
  go_enter Try.func24, Try.ntmps24
  have x_5 := BX_2.out.cell (i := 0) rfl
  have x_6 := BX_2.out.cell (i := 1) rfl
  have x_7 := BX_2.out.cell (i := 2) rfl
  have fz_8 := fun i => BX_2.out.frozen i
  have lt_9 := BX_2.out.lt
  have x_10 := BT_4.out.cell (i := 0) rfl
  have x_11 := BT_4.out.cell (i := 1) rfl
  have x_12 := BT_4.out.cell (i := 2) rfl
  have fz_13 := fun i => BT_4.out.frozen i
  have lt_14 := BT_4.out.lt
  go_wp2_with fail
  refine (CV.out _ H_1.out).mono ?_
  rintro e w1 ⟨Av, cv, rfl, ho, hb⟩
  clear x_5
  clear x_6
  clear x_7
  clear fz_8
  clear lt_9
  clear x_10
  clear x_11
  clear x_12
  clear fz_13
  clear lt_14
  have H_15 := Lib.hid (g_chain H_1.out hb)
  clear H_1
  have BX_16 := Lib.hid (BX_2.out.below hb)
  clear BX_2
  have BZ_17 := Lib.hid (BZ_3.out.below hb)
  clear BZ_3
  have BT_18 := Lib.hid (BT_4.out.below hb)
  clear BT_4
  have sz_19 := Lib.hid (Below.size hb)
  have OV_20 := Lib.hid (ho)
  have LV := Lib.hid ho.lt
  clear ho hb
  have x_21 := BX_16.out.cell (i := 0) rfl
  have x_22 := BX_16.out.cell (i := 1) rfl
  have x_23 := BX_16.out.cell (i := 2) rfl
  have fz_24 := fun i => BX_16.out.frozen i
  have lt_25 := BX_16.out.lt
  have x_26 := BT_18.out.cell (i := 0) rfl
  have x_27 := BT_18.out.cell (i := 1) rfl
  have x_28 := BT_18.out.cell (i := 2) rfl
  have fz_29 := fun i => BT_18.out.frozen i
  have lt_30 := BT_18.out.lt
  go_wp2_with fail
  have hg_31 := grown_cell w1 (w.heap.size + 2) 1 (.slice Av n cv)
  have H_32 := Lib.hid (H_15.out.grown hg_31 H_15.out.size (fun j hj => by injection hj with hj; have := sz0.out; have := sz_19.out; omega))
  clear H_15
  have BX_33 := Lib.hid (BX_16.out.grown hg_31 (by intro e; injection e with e; have := sz0.out; have := sz_19.out; omega))
  clear BX_16
  have BZ_34 := Lib.hid (BZ_17.out.grown hg_31 (by intro e; injection e with e; have := sz0.out; have := sz_19.out; omega))
  clear BZ_17
  have OV_35 := Lib.hid (own_kept OV_20.out hg_31 (own_kind OV_20.out BT_18.out (by decide)))
  clear OV_20
  have BT_36 : Hid (Blk (w1.setCell ⟨w.heap.size + 2, 1, none⟩ (.slice Av n cv)) (w.heap.size + 2) #[.int .i64 N, .slice Av n cv, .slice none 0 0] 26) := Lib.hid (Blk.set (BT_18.out) 1 (.slice Av n cv))
  clear BT_18
  have sz_37 := Lib.hid (World.grownBy.size hg_31)
  clear hg_31
  refine (CH.out _ H_32.out).mono ?_
  rintro e w2 ⟨As, ns, cs, b2, rfl, ho, hx, hb⟩
  clear x_21
  clear x_22
  clear x_23
  clear fz_24
  clear lt_25
  clear x_26
  clear x_27
  clear x_28
  clear fz_29
  clear lt_30
  have H_38 := Lib.hid (g_chain H_32.out hb)
  clear H_32
  have BX_39 := Lib.hid (BX_33.out.below hb)
  clear BX_33
  have BZ_40 := Lib.hid (BZ_34.out.below hb)
  clear BZ_34
  have BT_41 := Lib.hid (BT_36.out.below hb)
  clear BT_36
  have OV_42 := Lib.hid (own_below OV_35.out hb)
  clear OV_35
  have sz_43 := Lib.hid (Below.size hb)
  have HOS := Lib.hid (HOwn.of ho hx)
  have HNS := Lib.hid HOS.out.len
  have LS := Lib.hid (Below.size hb)
  clear ho hx hb
  obtain rfl : ns = (sdL bs).length := HNS.out
  have x_44 := BX_39.out.cell (i := 0) rfl
  have x_45 := BX_39.out.cell (i := 1) rfl
  have x_46 := BX_39.out.cell (i := 2) rfl
  have fz_47 := fun i => BX_39.out.frozen i
  have lt_48 := BX_39.out.lt
  have x_49 := BT_41.out.cell (i := 0) rfl
  have x_50 := BT_41.out.cell (i := 1) rfl
  have x_51 := BT_41.out.cell (i := 2) rfl
  have fz_52 := fun i => BT_41.out.frozen i
  have lt_53 := BT_41.out.lt
  have x_54 := BZ_40.out.cell (i := 0) rfl
  have x_55 := BZ_40.out.cell (i := 1) rfl
  have x_56 := BZ_40.out.cell (i := 2) rfl
  have fz_57 := fun i => BZ_40.out.frozen i
  have lt_58 := BZ_40.out.lt
  go_wp2
  have hown0 := HOS.out
  have hg_59 := grown_cell w2 (w.heap.size + 2) 2 (.slice As (sdL bs).length cs)
  have H_60 := Lib.hid (H_38.out.grown hg_59 H_38.out.size (fun j hj => by injection hj with hj; have := sz0.out; have := sz_19.out; have := sz_37.out; have := sz_43.out; omega))
  clear H_38
  have BX_61 := Lib.hid (BX_39.out.grown hg_59 (by intro e; injection e with e; have := sz0.out; have := sz_19.out; have := sz_37.out; have := sz_43.out; omega))
  clear BX_39
  have BZ_62 := Lib.hid (BZ_40.out.grown hg_59 (by intro e; injection e with e; have := sz0.out; have := sz_19.out; have := sz_37.out; have := sz_43.out; omega))
  clear BZ_40
  have OV_63 := Lib.hid (own_kept OV_42.out hg_59 (own_kind OV_42.out BT_41.out (by decide)))
  clear OV_42
  have BT_64 : Hid (Blk (w2.setCell ⟨w.heap.size + 2, 2, none⟩ (.slice As (sdL bs).length cs)) (w.heap.size + 2) #[.int .i64 N, .slice Av n cv, .slice As (sdL bs).length cs] 26) := Lib.hid (Blk.set (BT_41.out) 2 (.slice As (sdL bs).length cs))
  clear BT_41
  have sz_65 := Lib.hid (World.grownBy.size hg_59)
  clear hg_59
  have hg_66 := ((grown_cell (w2.setCell ⟨w.heap.size + 2, 2, none⟩ (.slice As (sdL bs).length cs)) (w.heap.size + 1) 0 (.int .i64 N)).trans (grown_cell ((w2.setCell ⟨w.heap.size + 2, 2, none⟩ (.slice As (sdL bs).length cs)).setCell ⟨w.heap.size + 1, 0, none⟩ (.int .i64 N)) (w.heap.size + 1) 1 (.slice Av n cv))).trans (grown_cell (((w2.setCell ⟨w.heap.size + 2, 2, none⟩ (.slice As (sdL bs).length cs)).setCell ⟨w.heap.size + 1, 0, none⟩ (.int .i64 N)).setCell ⟨w.heap.size + 1, 1, none⟩ (.slice Av n cv)) (w.heap.size + 1) 2 (.slice As (sdL bs).length cs))
  have H_67 := Lib.hid (H_60.out.grown hg_66 H_60.out.size (fun j hj => by injection hj with hj; have := sz0.out; have := sz_19.out; have := sz_37.out; have := sz_43.out; have := sz_65.out; omega))
  clear H_60
  have BX_68 := Lib.hid (BX_61.out.grown hg_66 (by intro e; injection e with e; have := sz0.out; have := sz_19.out; have := sz_37.out; have := sz_43.out; have := sz_65.out; omega))
  clear BX_61
  have BT_69 := Lib.hid (BT_64.out.grown hg_66 (by intro e; injection e with e; have := sz0.out; have := sz_19.out; have := sz_37.out; have := sz_43.out; have := sz_65.out; omega))
  clear BT_64
  have OV_70 := Lib.hid (own_kept OV_63.out hg_66 (own_kind OV_63.out BZ_62.out (by decide)))
  clear OV_63
  have BZ_71 : Hid (Blk ((((w2.setCell ⟨w.heap.size + 2, 2, none⟩ (.slice As (sdL bs).length cs)).setCell ⟨w.heap.size + 1, 0, none⟩ (.int .i64 N)).setCell ⟨w.heap.size + 1, 1, none⟩ (.slice Av n cv)).setCell ⟨w.heap.size + 1, 2, none⟩ (.slice As (sdL bs).length cs)) (w.heap.size + 1) #[.int .i64 N, .slice Av n cv, .slice As (sdL bs).length cs] 26) := Lib.hid (Blk.set (Blk.set (Blk.set (BZ_62.out) 0 (.int .i64 N)) 1 (.slice Av n cv)) 2 (.slice As (sdL bs).length cs))
  clear BZ_62
  have sz_72 := Lib.hid (World.grownBy.size hg_66)
  clear hg_66
  refine bodyPost_ret (v := .agg #[.int .i64 N, .slice Av n cv, .slice As (sdL bs).length cs]) (by simp [results, Try.results24, go_sem, x_54, x_55, x_56]) rfl ?_
  have HW : Hid (OnlyB (fun g => g = w.heap.size + 1 ∨ g = w.heap.size + 2) w2 ((((w2.setCell ⟨w.heap.size + 2, 2, none⟩ (.slice As (sdL bs).length cs)).setCell ⟨w.heap.size + 1, 0, none⟩ (.int .i64 N)).setCell ⟨w.heap.size + 1, 1, none⟩ (.slice Av n cv)).setCell ⟨w.heap.size + 1, 2, none⟩ (.slice As (sdL bs).length cs))) := Lib.hid (by
    repeat (first | exact OnlyB.refl _ _ | refine OnlyB.grown ?_ (grown_cell _ _ _ _) (fun i hi => by injection hi with hi; omega)))
  have HS9 : Hid (HOwn ((((w2.setCell ⟨w.heap.size + 2, 2, none⟩ (.slice As (sdL bs).length cs)).setCell ⟨w.heap.size + 1, 0, none⟩ (.int .i64 N)).setCell ⟨w.heap.size + 1, 1, none⟩ (.slice Av n cv)).setCell ⟨w.heap.size + 1, 2, none⟩ (.slice As (sdL bs).length cs)) w.heap.size w.heap.size ((((w2.setCell ⟨w.heap.size + 2, 2, none⟩ (.slice As (sdL bs).length cs)).setCell ⟨w.heap.size + 1, 0, none⟩ (.int .i64 N)).setCell ⟨w.heap.size + 1, 1, none⟩ (.slice Av n cv)).setCell ⟨w.heap.size + 1, 2, none⟩ (.slice As (sdL bs).length cs)).heap.size As (sdL bs).length cs (sdL bs)) := Lib.hid (by
    obtain ⟨b3, k1, k2, k3⟩ := HOS.out
    refine ⟨b3, (k1.but HW.out (fun g hg hh => by have h3 := k3 g hg; have := sz0.out; have := sz_19.out; have := sz_37.out; have := sz_43.out; have := sz_65.out; have := sz_72.out; omega)).mono (by have := sz0.out; have := sz_19.out; have := sz_37.out; have := sz_43.out; have := sz_65.out; have := sz_72.out; omega), k2, fun g hg => ?_⟩
    have h3 := k3 g hg
    have h4 := OnlyB.size HW.out
    have := sz0.out; have := sz_19.out; have := sz_37.out; have := sz_43.out; have := sz_65.out; have := sz_72.out; omega)
  unfold MadeF
  rw [HLE.out]
  exact ⟨Av, cv, As, cs, rfl, ⟨own_monoG OV_70.out (by have := sz0.out; have := sz_19.out; have := sz_37.out; have := sz_43.out; have := sz_65.out; have := sz_72.out; omega), HS9.out, fun g hg => (show w.heap.size ≤ g ∧ g < ((((w2.setCell ⟨w.heap.size + 2, 2, none⟩ (.slice As (sdL bs).length cs)).setCell ⟨w.heap.size + 1, 0, none⟩ (.int .i64 N)).setCell ⟨w.heap.size + 1, 1, none⟩ (.slice Av n cv)).setCell ⟨w.heap.size + 1, 2, none⟩ (.slice As (sdL bs).length cs)).heap.size by have h3 := LV.out g hg; have h4 := OnlyB.size HW.out; have := sz0.out; have := sz_19.out; have := sz_37.out; have := sz_43.out; have := sz_65.out; have := sz_72.out; omega)⟩, H_67.out⟩
set_option maxHeartbeats 2000000 in
theorem eqFarm_any (N : Int) (A : Option Addr) (n c : Nat) (B : Option Addr) (m d : Nat) (A' : Option Addr) (c' : Nat) (B' : Option Addr) (d' : Nat) (es : List Int) (ls : List SD) (w : World) (h1 : FRd w A n B m es ls) (h2 : FRd w A' n B' m es ls) (hn : n ≤ 2097152) (hm : ls.length + (flatK ls).length ≤ 1048576) :
    Calls Try.prog 25 #[.agg #[.int .i64 N, .slice A n c, .slice B m d], .agg #[.int .i64 N, .slice A' n c', .slice B' m d']] w (GTell w true) := by
  obtain ⟨a1, bs, a2, a3⟩ := h1
  obtain ⟨c1, bs', c2, c3⟩ := h2
  have hsm := HSm.of (M := 1048576) a2.len (fun e he => (a2.each e he).rd.len) a3 hm
  have CV := Lib.hid (fun W (h : Below w.heap.size w W) => eqInts_any A A' n c c' es W (a1.below h) (c1.below h) hn)
  have CH := Lib.hid (fun W (h : Below w.heap.size w W) => eqHs_any B B' m d d' bs bs' W (a2.below h) (c2.below h) (a3.trans c3.symm) (by have := hsm.c; omega) (fun e he => by have := hsm.e e he; omega))
  have BX := Lib.hid ((Blk.new w #[.int .i64 N, .slice A n c, .slice B m d] 26).alloc (.cells #[.int .i64 N, .slice A' n c', .slice B' m d'] 26))
  have BY := Lib.hid (Blk.new (w.alloc (.cells #[.int .i64 N, .slice A n c, .slice B m d] 26)) #[.int .i64 N, .slice A' n c', .slice B' m d'] 26)
  have H0 := Lib.hid (below_a2 w (.cells #[.int .i64 N, .slice A n c, .slice B m d] 26) (.cells #[.int .i64 N, .slice A' n c', .slice B' m d'] 26))
  rw [World.size_alloc] at BY
  clear a1 a2 a3 c1 c2 c3 hsm
  go_enter Try.func25, Try.ntmps25
  have x0 := BX.out.cell (i := 0) rfl
  have y0 := BY.out.cell (i := 0) rfl
  have x1 := BX.out.cell (i := 1) rfl
  have y1 := BY.out.cell (i := 1) rfl
  go_wp2_with fail
  refine (CV.out _ H0.out).mono ?_
  rintro e w1 ⟨rfl, hb⟩
  have H1 := Lib.hid (g_chain H0.out hb)
  replace BX := Lib.hid (BX.out.below hb)
  replace BY := Lib.hid (BY.out.below hb)
  clear hb x0 y0 x1 y1
  have x2 := BX.out.cell (i := 2) rfl
  have y2 := BY.out.cell (i := 2) rfl
  go_wp2_with fail
  refine (CH.out _ H1.out).mono ?_
  rintro e w2 ⟨rfl, hb⟩
  have H2 := Lib.hid (g_chain H1.out hb)
  replace BX := Lib.hid (BX.out.below hb)
  replace BY := Lib.hid (BY.out.below hb)
  clear hb x2 y2
  go_wp2
  go_ret
  exact ⟨rfl, H2.out⟩
end Go.Proofs.Ytpgnappddddlpaa
namespace Go.Proofs.Ytpgnappddddlpaa
open Go.RowKit

theorem heldZ_any (A : Option Addr) (n c k : Nat) (w : World) (hr : SlI w A n (ints k n)) (hn : n ≤ 2097152) (hk : k ≤ 8388608) :
    Calls Try.prog 39 #[.slice A n c, .int .i64 (k : Int)] w (GNum w ((k + n : Nat) : Int)) := by
  refine (heldInts_any A n c k w hr hn hk).mono ?_
  rintro e w' ⟨rfl, rfl⟩
  exact ⟨rfl, Below.refl _ _⟩
/-- A row of the call's own stays where another is written. -/
theorem own_farV {w w' : World} {base e size n c : Nat} {A : Option Addr} {xs : List Value} {row : Option Nat} (h : w.ownsRow base e size (.slice A n c) n xs) (hg : w.grownBy w' row) {l1 h1 l2 h2 : Nat} (ha : ∀ k, (Value.slice A n c).ownBlock = some k → l1 ≤ k ∧ k < h1) (hb : ∀ k, row = some k → l2 ≤ k ∧ k < h2) (hd : h1 ≤ l2 ∨ h2 ≤ l1) : w'.ownsRow base e size (.slice A n c) n xs :=
  h.kept hg (by
    cases hv : (Value.slice A n c).ownBlock with
    | none => exact .inl rfl
    | some k => exact .inr (fun e => by have := ha k hv; have := hb k e.symm; omega))
theorem Blk.far {w w' : World} {b : Nat} {cs : Array Value} {t : TypeId} (h : Blk w b cs t) {row : Option Nat} (hg : w.grownBy w' row) {l2 h2 : Nat} (hb : ∀ k, row = some k → l2 ≤ k ∧ k < h2) (hd : b < l2 ∨ h2 ≤ b) : Blk w' b cs t :=
  h.grown hg (fun e => by have := hb b e; omega)
end Go.Proofs.Ytpgnappddddlpaa
namespace Go.Proofs.Ytpgnappddddlpaa
open Go.RowKit
set_option linter.unusedVariables false

set_option maxRecDepth 10000 in
set_option maxHeartbeats 2000000 in
theorem markFarm_any (N : Int) (A : Option Addr) (n c : Nat) (B : Option Addr) (m d lo l h k : Nat) (es : List Int) (ls : List SD) (w : World) (ho : FOwn w lo l h A n c B m d es ls) (hn : es.length ≤ 1048576) (hm : ls.length + (flatK ls).length ≤ 1048576) (hk : k ≤ 1048576) :
    Calls Try.prog 32 #[.agg #[.int .i64 N, .slice A n c, .slice B m d], .int .i64 (k : Int)] w (MarkedF w l h k A n B m (endFm k es ls)) := by
  obtain ⟨he, ⟨bs, hs, hx, hr⟩, hrA⟩ := ho
  obtain rfl : n = es.length := by have := he.1; rw [vi_len] at this; omega
  have hsm := hs.small hx hm
  have hfar := hs.apartT he (by decide) (by decide)
  have hend : endH (k + es.length) bs = endFm k es ls := by
    rw [endH_sum, sum_flat hx hs.dat.len]
    unfold endFm
    rw [← hx, List.length_map]
  have H0 := Lib.hid (below_a1 w (.cells #[.int .i64 N, .slice A es.length c, .slice B m d] 26))
  have B0 := Lib.hid (Blk.new w #[.int .i64 N, .slice A es.length c, .slice B m d] 26)
  have E0 := Lib.hid (own_below he H0.out)
  have S0 := Lib.hid (hs.below H0.out)
  have hbA : (Value.slice A es.length c).ownBlock ≠ some w.heap.size := fun e => by have := (he.lt _ e).2; omega
  have C1 := Lib.hid (fun W (q : W.ownsRow lo 3 1 (.slice A es.length c) es.length (vi es)) => markInts_any A es.length c lo k es W q (by omega) (by omega))
  have C2 := Lib.hid (fun W (q : OwnH W lo B m d bs) => markHs_any B m d lo (k + es.length) bs W q (by have := hsm.c; omega) (fun e he => by have := hsm.e e he; omega) (by rw [hend]; unfold endFm; omega))
  rw [hend] at C2
  unfold MarkedI at C1
  unfold MarkedH at C2
  have HFAR := Lib.hid hfar
  have HRA := Lib.hid hrA
  have HRS := Lib.hid hr
  have HBA := Lib.hid hbA
  have HEND := Lib.hid hend
  have HLEN := Lib.hid hs.dat.len
  have HSM := Lib.hid hsm
  have HBL : Hid (∀ g, blkH B m d bs g → g < w.heap.size) := Lib.hid (fun g hg => (hs.blk hg).2)
  clear he hs hx hr hrA hsm hfar hbA hend
  generalize endFm k es ls = kk at C2 HEND ⊢
  have hkk : (0 : Int) ≤ (kk : Int) := by omega
  go_enter Try.func32, Try.ntmps32
  have x1 := B0.out.cell (i := 1) rfl
  go_wp2_with fail
  refine (C1.out _ E0.out).mono ?_
  rintro e w1 ⟨rfl, hm1, hg⟩
  have B1 := Lib.hid (B0.out.grown hg HBA.out)
  have S1 := Lib.hid (show OwnH w1 lo B m d bs from S0.out.but ((OnlyB.refl (fun g => (Value.slice A es.length c).ownBlock = some g) _).grown hg (fun i hi => hi)) (fun g hg2 hh => HFAR.out g hg2 hh))
  have O1 := Lib.hid (show OnlyB (fun g => l ≤ g ∧ g < h) w w1 from ((OnlyB.refl _ w).below H0.out).grown hg (fun i hi => HRA.out i hi))
  have M1 := Lib.hid hm1
  clear hm1 hg x1
  have x2 := B1.out.cell (i := 2) rfl
  go_wp2_with fail
  refine (C2.out _ S1.out).mono ?_
  rintro e w2 ⟨rfl, hm2, hg⟩
  have O2 := Lib.hid (O1.out.trans (hg.mono (fun i hi => HRS.out i hi)))
  have M2 := Lib.hid (OnlyB.own M1.out hg (fun g hg2 hh => HFAR.out g hh hg2))
  have S2 := Lib.hid hm2.sl
  clear hm2 hg
  go_wp2
  go_ret
  exact ⟨rfl, ⟨SlI.of_own M2.out, bs, S2.out, HEND.out, fun e he => ⟨HSM.out.e e he, HLEN.out e he⟩⟩, O2.out⟩
set_option maxRecDepth 10000 in
set_option maxHeartbeats 1000000 in
theorem heldFarm_any (N : Int) (A : Option Addr) (n c : Nat) (B : Option Addr) (m d k kk : Nat) (w : World) (h : FMk w k A n B m kk) (hn : n ≤ 1048576) (hm : m ≤ 1048576) (hk : k ≤ 1048576) (hkk : kk ≤ 16777216) :
    Calls Try.prog 33 #[.agg #[.int .i64 N, .slice A n c, .slice B m d], .int .i64 (k : Int)] w (GNum w (kk : Int)) := by
  obtain ⟨he, bs, hs, hend, hb2⟩ := h
  have C1 := Lib.hid (fun W (q : Below w.heap.size w W) => heldZ_any A n c k W (he.below q) (by omega) (by omega))
  have C2 := Lib.hid (fun W (q : Below w.heap.size w W) => heldHs_any B m d (k + n) bs W (hs.below q) (by omega) (fun e he => by have := (hb2 e he).1; omega) (by omega) (fun e he => (hb2 e he).2))
  rw [hend] at C2
  have B0 := Lib.hid (Blk.new w #[.int .i64 N, .slice A n c, .slice B m d] 26)
  have H0 := Lib.hid (below_a1 w (.cells #[.int .i64 N, .slice A n c, .slice B m d] 26))
  have h1 : (0 : Int) ≤ ((k + n : Nat) : Int) := by omega
  have h2 : (0 : Int) ≤ (kk : Int) := by omega
  clear he hs hend hb2
  generalize ((k + n : Nat) : Int) = z1 at C1 C2 h1
  go_enter Try.func33, Try.ntmps33
  have x1 := B0.out.cell (i := 1) rfl
  go_wp2_with fail
  refine (C1.out _ H0.out).mono ?_
  rintro e w1 ⟨rfl, hb⟩
  have B1 := Lib.hid (B0.out.below hb)
  have H1 := Lib.hid (g_chain H0.out hb)
  clear hb x1
  have x2 := B1.out.cell (i := 2) rfl
  go_wp2_with fail
  refine (C2.out _ H1.out).mono ?_
  rintro e w2 ⟨rfl, hb⟩
  have H2 := Lib.hid (g_chain H1.out hb)
  clear hb
  go_wp2
  go_ret
  exact ⟨rfl, H2.out⟩
end Go.Proofs.Ytpgnappddddlpaa
namespace Go.Proofs.Ytpgnappddddlpaa
open Go.RowKit

def farmSh : Sh := .pair (.int .i64) (.pair (.sl (.int .i64)) (.sl shardSh))
/-- What a walk is told of a farm that came in. -/
structure FarmIn (w : World) (N : Int) (A : Option Addr) (n c : Nat) (B : Option Addr) (m d : Nat) (es : List Int) (bs : List HE) : Prop where
  hN : (Lit.int .i64 N).wf = true
  e : IntsIn w A n c es
  s : HsIn w B m d bs
section
variable {H : Type} {enc : TypeId × Value → H} {w : World} {base : Nat} {spare : Nat → Bool} {held : Bool}
theorem Try.cellsFarm : Try.prog.cellsOf 46 = 3 := by kernel_rfl
theorem Try.cellsSSh : Try.prog.cellsOf 44 = 1 := by kernel_rfl
theorem opensFarm : Opens enc Try.prog w base spare held 46 farmSh :=
  opens_struct Try.underlying46 Try.cellsFarm (opensF_cons rfl Try.cellsKi (opens_int Try.underlying3) (opensF_cons rfl Try.cellsSI opensNums (opensF_last rfl Try.cellsSSh opensHs)))
set_option maxRecDepth 100000 in
theorem open_farm {r : Reach} {b0 : Nat} {v : Value} {dd : DataW H} {pp : List MemPlace} (hv : Value.okWide Try.prog w r b0 46 v) (h : DataW.Trod enc Try.prog w base spare held 46 v dd pp) :
    ∃ (N : Int) (A : Option Addr) (n c : Nat) (B : Option Addr) (m d : Nat) (es : List Int) (bs : List HE), v = .agg #[.int .i64 N, .slice A n c, .slice B m d] ∧ FarmIn w N A n c B m d es bs := by
  obtain ⟨cs, rfl, _⟩ := Go.WideShapes.okWide_struct Try.underlying46 hv
  obtain ⟨fuel, hf⟩ := h
  obtain ⟨x, hx⟩ := opensFarm _ _ _ hf
  obtain ⟨c1, r1, e1, h1, ⟨hk1, hw1⟩, hx⟩ := hx
  obtain ⟨c2, r2, e2, h2, hk2, hk3⟩ := hx
  obtain ⟨A, n, c, es, ea, hi2⟩ := RdR.nums hk2 (Nat.le_refl _)
  obtain ⟨B, m, d, bs, eb, hi3⟩ := RdR.hes hk3 (Nat.le_refl _)
  refine ⟨x.1, A, n, c, B, m, d, es, bs, ?_, ⟨hw1, hi2, hi3⟩⟩
  have h9 : (Value.agg cs).cells.toList = c1 ++ r1 := e1
  rw [e2, hk1, ea, eb] at h9
  have h8 : cs.toList = [.int .i64 x.1, .slice A n c, .slice B m d] := by simpa [Value.cells] using h9
  cases cs
  simp only at h8
  rw [h8]
end
end Go.Proofs.Ytpgnappddddlpaa
namespace Go.Proofs.Ytpgnappddddlpaa
open Go.RowKit

set_option maxRecDepth 10000 in
set_option maxHeartbeats 1000000 in
theorem heldEdges_any (A : Option Addr) (n c k : Nat) (es : List GE) (w : World) (hr : SlG w A n (markG k es)) (hn : n ≤ 2097152) (hk : k ≤ 8388608) :
    Calls Try.prog 81 #[.slice A n c, .int .i64 (k : Int)] w (GNum w ((k + 3 * n : Nat) : Int)) := by
  have HR := Lib.hid hr
  have HL : Hid (es.length = n) := Lib.hid (by rw [← hr.len, markG_len])
  have HG := Lib.hid (fun j (h : j < es.length) => markG_get es k j h)
  clear hr
  go_enter Try.func81, Try.ntmps81
  go_wp2
  go_loopw [1, 5] (fun q i wr => ∃ j : Nat, j ≤ n ∧ i = .int .i64 j ∧ q = .int .i64 ((k + 3 * j : Nat) : Int) ∧ wr = w) (fun _ i _ => n - (intOf i).toNat)
  case atStart => exact ⟨0, Nat.zero_le _, rfl, rfl, rfl⟩
  case round =>
    obtain ⟨j, hj, rfl, rfl, rfl⟩ := hrel
    by_cases hlt : j < n
    · obtain ⟨b, off, e, rfl, hbw, he, c0, c1, c2⟩ := HR.out.at_ hlt
      have hee : e = ⟨((k + 3 * j : Nat) : Int), ((k + 3 * j : Nat) : Int) + 1, ((k + 3 * j : Nat) : Int) + 2⟩ := by
        have h1 := he.out
        rw [HG.out j (by rw [HL.out]; exact hlt)] at h1
        injection h1 with h1
        exact h1.symm
      subst hee
      clear he
      have hq0 : k + 3 * j ≤ 20000000 := by omega
      obtain ⟨q, hq⟩ : ∃ q, q = k + 3 * j := ⟨_, rfl⟩
      simp only [← hq] at c0 c1 c2 hq0 ⊢
      have hb1 : (q : Int) + 1 + 1 = (q : Int) + 2 := by omega
      have HQ := Lib.hid hq
      clear hq
      go_wp2
      go_roundw
      case rel =>
        refine ⟨j + 1, by omega, by go_num, ?_, by first | rfl | trivial⟩
        have := HQ.out
        exact congrArg (Value.int .i64) (by first | omega | (simp only [IntKind.wrap_i64]; omega))
      case measure => simp [intOf]; omega
    · obtain rfl : j = n := by omega
      go_wp2
      go_ret
      exact ⟨by first | rfl | trivial, Below.refl _ _⟩
theorem markGraphO_any (N : Int) (A : Option Addr) (n c lo k : Nat) (es : List GE) (w : World) (ho : w.ownsRow lo 145 3 (.slice A n c) n (es.flatMap GE.cells)) (hl : es.length = n) (hn : n ≤ 2097152) (hk : k ≤ 8388608) :
    Calls Try.prog 31 #[.agg #[.int .i64 N, .slice A n c], .int .i64 (k : Int)] w fun e w' => e = .returned (.int .i64 ((k + 3 * n : Nat) : Int)) ∧ w'.ownsRow lo 145 3 (.slice A n c) n ((markG k es).flatMap GE.cells) ∧ w.grownBy w' (Value.slice A n c).ownBlock := by
  have C := Lib.hid (fun W (h : Below w.heap.size w W) => markEdges_any A n c lo k es W (own_below ho h) hl hn hk)
  clear ho
  go_enter Try.func31, Try.ntmps31
  go_wp2_with fail
  refine (C.out _ (below_a1 _ _)).mono ?_
  rintro e w1 ⟨rfl, ho1, hg1⟩
  have HG := Lib.hid (grownBy_trans (grownBy_of_below (below_a1 w (.cells #[.int .i64 N, .slice A n c] 58)) _) hg1)
  have HO := Lib.hid ho1
  clear ho1 hg1
  go_wp2
  go_ret
  exact ⟨rfl, HO.out, HG.out⟩
theorem heldGraph_any (N : Int) (A : Option Addr) (n c k : Nat) (es : List GE) (w : World) (hr : SlG w A n (markG k es)) (hn : n ≤ 2097152) (hk : k ≤ 8388608) :
    Calls Try.prog 36 #[.agg #[.int .i64 N, .slice A n c], .int .i64 (k : Int)] w (GNum w ((k + 3 * n : Nat) : Int)) := by
  have CE := Lib.hid (fun W (h : Below w.heap.size w W) => heldEdges_any A n c k es W (hr.below h) hn hk)
  clear hr
  go_enter Try.func36, Try.ntmps36
  go_wp2_with fail
  refine (CE.out _ (below_a1 _ _)).mono ?_
  rintro e w1 ⟨rfl, hb1⟩
  go_wp2
  go_ret
  exact ⟨rfl, g_chain (below_a1 _ _) hb1⟩
end Go.Proofs.Ytpgnappddddlpaa
namespace Go.Proofs.Ytpgnappddddlpaa
open Go.RowKit
set_option linter.unusedVariables false

structure NOwn (w : World) (lo l h : Nat) (A : Option Addr) (n c : Nat) (xs : List Int) : Prop where
  e : w.ownsRow lo 3 1 (.slice A n c) n (vi xs)
  r : ∀ g, (Value.slice A n c).ownBlock = some g → l ≤ g ∧ g < h
structure GOwn (w : World) (lo l h : Nat) (A : Option Addr) (n c : Nat) (es : List GE) : Prop where
  e : w.ownsRow lo 145 3 (.slice A n c) n (es.flatMap GE.cells)
  r : ∀ g, (Value.slice A n c).ownBlock = some g → l ≤ g ∧ g < h
section
variable {w w' : World} {lo lo' l h l1 h1 n c : Nat} {A : Option Addr} {xs : List Int} {es : List GE}
theorem NOwn.of (ho : w.ownsRow lo 3 1 (.slice A n c) n (vi xs)) : NOwn w lo lo w.heap.size A n c xs := ⟨ho, ho.lt⟩
theorem NOwn.below (k : NOwn w lo l h A n c xs) (hb : Below w.heap.size w w') : NOwn w' lo l h A n c xs := ⟨own_below k.e hb, k.r⟩
theorem NOwn.wr (hw : Wr l1 h1 w w') (k : NOwn w lo l h A n c xs) (hd : h ≤ l1 ∨ h1 ≤ l) : NOwn w' lo l h A n c xs := ⟨hw.own k.e k.r hd, k.r⟩
theorem GOwn.of (ho : w.ownsRow lo 145 3 (.slice A n c) n (es.flatMap GE.cells)) : GOwn w lo lo w.heap.size A n c es := ⟨ho, ho.lt⟩
theorem GOwn.below (k : GOwn w lo l h A n c es) (hb : Below w.heap.size w w') : GOwn w' lo l h A n c es := ⟨own_below k.e hb, k.r⟩
theorem GOwn.wr (hw : Wr l1 h1 w w') (k : GOwn w lo l h A n c es) (hd : h ≤ l1 ∨ h1 ≤ l) : GOwn w' lo l h A n c es := ⟨hw.own k.e k.r hd, k.r⟩
end
/-- Marks in a list of numbers, in a graph. -/
def NMk (w : World) (k : Nat) (A : Option Addr) (n : Nat) : Prop := SlI w A n (ints k n)
def GMk (w : World) (k : Nat) (A : Option Addr) (n : Nat) : Prop := ∃ es, SlG w A n (markG k es)
theorem NMk.below {w w' : World} {k n : Nat} {A : Option Addr} (h : NMk w k A n) (hb : Below w.heap.size w w') : NMk w' k A n := SlI.below h hb
theorem GMk.below {w w' : World} {k n : Nat} {A : Option Addr} (h : GMk w k A n) (hb : Below w.heap.size w w') : GMk w' k A n := by
  obtain ⟨es, h⟩ := h
  exact ⟨es, h.below hb⟩
theorem markN_k (A : Option Addr) (n c lo l h k : Nat) (xs : List Int) (w : World) (ho : NOwn w lo l h A n c xs) (hn : n ≤ 1048576) (hk : k ≤ 8388608) :
    Calls Try.prog 38 #[.slice A n c, .int .i64 (k : Int)] w (fun e w' => e = .returned (.int .i64 ((k + n : Nat) : Int)) ∧ NMk w' k A n ∧ Wr l h w w') := by
  refine (markInts_any A n c lo k xs w ho.e (by omega) hk).mono ?_
  rintro e w' ⟨rfl, hm, hg⟩
  exact ⟨rfl, SlI.of_own hm, Wr.of_grown hg ho.r⟩
theorem heldN_k (A : Option Addr) (n c k : Nat) (w : World) (h : NMk w k A n) (hn : n ≤ 1048576) (hk : k ≤ 8388608) :
    Calls Try.prog 39 #[.slice A n c, .int .i64 (k : Int)] w (GNum w ((k + n : Nat) : Int)) := by
  refine (heldInts_any A n c k w h (by omega) hk).mono ?_
  rintro e w' ⟨rfl, rfl⟩
  exact ⟨rfl, Below.refl _ _⟩
theorem markG_k (N : Int) (A : Option Addr) (n c lo l h k : Nat) (es : List GE) (w : World) (ho : GOwn w lo l h A n c es) (hl : es.length = n) (hn : n ≤ 1048576) (hk : k ≤ 8388608) :
    Calls Try.prog 31 #[.agg #[.int .i64 N, .slice A n c], .int .i64 (k : Int)] w (fun e w' => e = .returned (.int .i64 ((k + 3 * n : Nat) : Int)) ∧ GMk w' k A n ∧ Wr l h w w') := by
  refine (markGraphO_any N A n c lo k es w ho.e hl (by omega) hk).mono ?_
  rintro e w' ⟨rfl, hm, hg⟩
  exact ⟨rfl, ⟨es, SlG.of_own hm (by rw [markG_len]; exact hl)⟩, Wr.of_grown hg ho.r⟩
theorem heldG_k (N : Int) (A : Option Addr) (n c k : Nat) (w : World) (h : GMk w k A n) (hn : n ≤ 1048576) (hk : k ≤ 8388608) :
    Calls Try.prog 36 #[.agg #[.int .i64 N, .slice A n c], .int .i64 (k : Int)] w (GNum w ((k + 3 * n : Nat) : Int)) := by
  obtain ⟨es, h⟩ := h
  exact heldGraph_any N A n c k es w h (by omega) hk
end Go.Proofs.Ytpgnappddddlpaa
namespace Go.Proofs.Ytpgnappddddlpaa
open Go.RowKit

theorem toNat_ofInt64 (a : Nat) (ha : a < 9223372036854775808) : (BitVec.ofInt 64 (a : Int)).toNat = a := by
  rw [BitVec.ofInt_natCast, BitVec.toNat_ofNat]; exact Nat.mod_eq_of_lt (by omega)
theorem or64 (a b : Nat) (ha : a < 9223372036854775808) (hb : b < 9223372036854775808) : bits .or .i64 (a : Int) (b : Int) = ((a ||| b : Nat) : Int) := by
  have hx : a ||| b < 2 ^ 63 := Nat.or_lt_two_pow (by omega) (by omega)
  show IntKind.i64.wrap ((BitVec.ofInt 64 (a : Int) ||| BitVec.ofInt 64 (b : Int)).toNat : Int) = _
  rw [BitVec.toNat_or, toNat_ofInt64 a ha, toNat_ofInt64 b hb, IntKind.wrap_i64]
  omega
theorem xor64 (a b : Nat) (ha : a < 9223372036854775808) (hb : b < 9223372036854775808) : bits .xor .i64 (a : Int) (b : Int) = ((a ^^^ b : Nat) : Int) := by
  have hx : a ^^^ b < 2 ^ 63 := Nat.xor_lt_two_pow (by omega) (by omega)
  show IntKind.i64.wrap ((BitVec.ofInt 64 (a : Int) ^^^ BitVec.ofInt 64 (b : Int)).toNat : Int) = _
  rw [BitVec.toNat_xor, toNat_ofInt64 a ha, toNat_ofInt64 b hb, IntKind.wrap_i64]
  omega
theorem or_mul_pow (m x i : Nat) (hx : x < 2 ^ i) : (m * 2 ^ i) ||| x = m * 2 ^ i + x := by
  rw [Nat.mul_comm, ← Nat.two_pow_add_eq_or_of_lt hx]
theorem or256 (m x : Nat) (hm : m < 1099511627776) (hx : x < 256) : bits .or .i64 ((m : Int) * 256) (x : Int) = (m : Int) * 256 + x := by
  have h3 : (m : Int) * 256 = (((m * 256 : Nat)) : Int) := by omega
  have h4 : (m : Int) * 256 + x = (((m * 256 + x : Nat)) : Int) := by omega
  rw [h4, h3, or64 (m * 256) x (by omega) (by omega)]
  exact congrArg _ (or_mul_pow m x 8 (by omega))
theorem or128_all : ∀ x : Fin 256, bits .or .u8 (x.val : Int) 128 = ((x.val % 128 + 128 : Nat) : Int) := by decide +kernel
theorem or128 (r : Nat) : bits .or .u8 ((r : Int) % 256) 128 = ((r % 128 + 128 : Nat) : Int) := by
  have h := or128_all ⟨r % 256, by omega⟩
  have e1 : (r : Int) % 256 = ((r % 256 : Nat) : Int) := by omega
  have e2 : r % 256 % 128 = r % 128 := by omega
  rw [e1, ← e2]
  exact h
end Go.Proofs.Ytpgnappddddlpaa
namespace Go.Proofs.Ytpgnappddddlpaa
open Go.RowKit

def numOk (n : Int) : Bool := decide (0 ≤ n ∧ n ≤ 281474976710655)

/-- What a writer leaves: a new slice of the bytes ys, and whether there was something to write. -/
def PutRes (w : World) (ok : Bool) (ys : List Nat) (e : Ending) (w' : World) : Prop :=
  ∃ A c, e = .returned (.tuple #[.slice A ys.length c, .bool ok]) ∧ w'.ownsRow w.heap.size 5 1 (.slice A ys.length c) ys.length (vb ys) ∧ Below w.heap.size w w'

theorem PutRes.no (w : World) : PutRes w false [] (.returned (.tuple #[.slice none 0 0, .bool false])) w :=
  ⟨none, 0, rfl, World.ownsRow_nil _ _ _ _, Below.refl _ _⟩

/-- The digits of a number, the lowest first; all but the last with 128 on top. -/
def digits : Nat → Nat → List Nat
  | 0, n => [n]
  | f + 1, n => if n < 128 then [n] else (n % 128 + 128) :: digits f (n / 128)

/-- The digits that are written when n is left, of a number below 128^(f+1). -/
theorem digits_small (f n : Nat) (h : n < 128) : digits f n = [n] := by cases f <;> simp [digits, h]

theorem digits_big (f n : Nat) (h : 128 ≤ n) : digits (f + 1) n = (n % 128 + 128) :: digits f (n / 128) := by simp [digits]; omega

theorem digits_length (f n : Nat) : (digits f n).length ≤ f + 1 := by
  induction f generalizing n with
  | zero => simp [digits]
  | succ f ih =>
    by_cases h : n < 128
    · simp [digits, h]
    · have := ih (n / 128)
      simp [digits, h]
      omega

theorem digits_bytes (f n : Nat) (h : n < 128 ^ (f + 1)) : ∀ x ∈ digits f n, x < 256 := by
  induction f generalizing n with
  | zero => intro x hx; simp [digits] at hx; omega
  | succ f ih =>
    intro x hx
    by_cases hn : n < 128
    · rw [digits_small _ _ hn] at hx; simp at hx; omega
    · rw [digits_big _ _ (by omega)] at hx
      rcases List.mem_cons.1 hx with rfl | hx
      · omega
      · refine ih (n / 128) ?_ x hx
        rw [Nat.pow_succ] at h
        omega

def putVar (xs : List Nat) (n : Int) : List Nat := if numOk n then xs ++ digits 6 n.toNat else []

/-- '[]byte{}' owns nothing. -/
theorem built_none (w : World) : (w.alloc (.cells #[] 5)).ownsRow w.heap.size 5 1 (.slice (some ⟨w.heap.size, 0, none⟩) 0 0) 0 [] :=
  World.ownsRow_lit w #[] 0 (Nat.le_refl _) (by unfold maxLen; omega) rfl

theorem own_form {w : World} {base e n : Nat} {v : Value} {xs : List Value} (h : w.ownsRow base e 1 v n xs) : ∃ A c, v = .slice A n c := by
  rcases h.2 with ⟨rfl, rfl⟩ | ⟨g, cap, _, rfl, _⟩
  · exact ⟨_, _, rfl⟩
  · exact ⟨_, _, rfl⟩

theorem below_built {w w1 : World} {o : Obj} {k c : Nat} (hg : (w.alloc o).grownBy w1 (Value.slice (some ⟨w.heap.size, 0, none⟩) k c).ownBlock) : Below w.heap.size w w1 :=
  ((Below.refl _ _).alloc (Nat.le_refl _) o).grown hg (by simp) (by simp [Value.ownBlock])

theorem one_reads (w : World) (u : Value) : Reads (w.alloc (.cells #[u] 5)) (w.heap.size + 1) 1 (some ⟨w.heap.size, 0, none⟩) 1 [u] := by
  refine ⟨rfl, fun _ => ⟨_, rfl, by simp, fun j v hj => ?_⟩⟩
  match j, hj with
  | 0, hj => simp at hj; subst hj; simp [Addr.add]

theorem one_cell (x : Int) : ∀ u ∈ [Value.int .u8 x], u.oneCell' = true := by intro u hu; simp at hu; subst hu; rfl

/-- One byte more. -/
theorem own_snoc {w : World} {base n : Nat} {v : Value} {ys : List Nat} {x : Int} {y : Nat} (h : w.ownsRow base 5 1 v (n + 1) (vb ys ++ [.int .u8 x])) (hn : ys.length = n) (hx : x = (y : Int)) :
    w.ownsRow base 5 1 v (ys ++ [y]).length (vb (ys ++ [y])) := by
  subst hx
  rw [vb_append, List.length_append, hn]
  exact h

theorem below_app {w wr w2 : World} {e n : Nat} {v : Value} {xs : List Value} {o : Obj} (hbel : Below w.heap.size w wr) (hown : wr.ownsRow w.heap.size e 1 v n xs) (hg : (wr.alloc o).grownBy w2 v.ownBlock) : Below w.heap.size w w2 :=
  (hbel.alloc hbel.size o).grown hg (by have := hbel.size; simp; omega) (fun k hk => (hown.lt k hk).1)

/-- What is written so far (ys) and what is left (r) make the whole. -/
structure Left (whole ys : List Nat) (f r : Nat) : Prop where
  eq : ys ++ digits f r = whole
  lt : r < 128 ^ (f + 1)

theorem Left.step {whole ys : List Nat} {f r : Nat} (h : Left whole ys f r) (hr : 128 ≤ r) : ∃ g, f = g + 1 ∧ Left whole (ys ++ [r % 128 + 128]) g (r / 128) := by
  cases f with
  | zero => have := h.lt; simp at this; omega
  | succ g =>
    refine ⟨g, rfl, ?_, ?_⟩
    · rw [← h.eq, digits_big _ _ hr]; simp
    · have := h.lt; rw [Nat.pow_succ] at this; omega

theorem Left.done {whole ys : List Nat} {f r : Nat} (h : Left whole ys f r) (hr : r < 128) : ys ++ [r] = whole := by rw [← h.eq, digits_small _ _ hr]

theorem putVar_small (xs : List Nat) (a : Int) (h : ∀ x ∈ xs, x < 256) : ∀ x ∈ putVar xs a, x < 256 := by
  intro x hx
  unfold putVar at hx
  split at hx
  · rename_i hok
    rcases List.mem_append.1 hx with hx | hx
    · exact h x hx
    · refine digits_bytes 6 _ ?_ x hx
      simp only [numOk, decide_eq_true_eq] at hok
      omega
  · simp at hx

theorem putVar_length (xs : List Nat) (a : Int) : (putVar xs a).length ≤ xs.length + 7 := by
  unfold putVar
  split
  · have := digits_length 6 a.toNat
    simp
    omega
  · simp
end Go.Proofs.Ytpgnappddddlpaa
namespace Go.Proofs.Ytpgnappddddlpaa
open Go.RowKit

/-- The byte at place j, the highest first. -/
def fixByte (m j : Nat) : Nat := m / 256 ^ (5 - j) % 256

def fixBytes (m j : Nat) : List Nat := (List.range j).map (fixByte m)

theorem fixBytes_succ (m j : Nat) : fixBytes m (j + 1) = fixBytes m j ++ [fixByte m j] := by simp [fixBytes, List.range_succ]

theorem fixBytes_length (m j : Nat) : (fixBytes m j).length = j := by simp [fixBytes]

theorem fixByte_shift (m j : Nat) : (m : Int) / 2 ^ (8 * (5 - j)) % 256 = ((fixByte m j : Nat) : Int) := by
  unfold fixByte
  rw [Int.natCast_emod, Int.natCast_ediv, Int.natCast_pow, show ((256 : Nat) : Int) = 2 ^ 8 from rfl, ← Int.pow_mul, show (2 : Int) ^ 8 = 256 from rfl]

theorem div_256 (m i : Nat) : m / 256 ^ i / 256 = m / 256 ^ (i + 1) := by rw [Nat.div_div_eq_div_mul, ← Nat.pow_succ]

def putFix (xs : List Nat) (n : Int) : List Nat := if numOk n then xs ++ fixBytes n.toNat 6 else []

theorem putFix_small (xs : List Nat) (a : Int) (h : ∀ x ∈ xs, x < 256) : ∀ x ∈ putFix xs a, x < 256 := by
  intro x hx
  unfold putFix at hx
  split at hx
  · rcases List.mem_append.1 hx with hx | hx
    · exact h x hx
    · simp only [fixBytes, List.mem_map] at hx
      obtain ⟨j, _, rfl⟩ := hx
      unfold fixByte
      omega
  · simp at hx

theorem putFix_length (xs : List Nat) (a : Int) : (putFix xs a).length ≤ xs.length + 7 := by
  unfold putFix
  split
  · simp [fixBytes_length]
  · simp
end Go.Proofs.Ytpgnappddddlpaa
namespace Go.Proofs.Ytpgnappddddlpaa

/-- The value of digits, the lowest first. -/
def val : List Nat → Nat
  | [] => 0
  | d :: r => d % 128 + 128 * val r
theorem val_lt (l : List Nat) : val l < 128 ^ l.length := by
  induction l with
  | nil => simp [val]
  | cons d r ih => simp only [val, List.length_cons, Nat.pow_succ]; omega
theorem val_snoc (l : List Nat) (x : Nat) : val (l ++ [x]) = val l + x % 128 * 128 ^ l.length := by
  induction l with
  | nil => simp [val]
  | cons d r ih =>
    simp only [List.cons_append, val, ih, List.length_cons, Nat.pow_succ]
    rw [Nat.mul_add, Nat.mul_comm (128 ^ r.length) 128, ← Nat.mul_assoc (x % 128), Nat.mul_comm (x % 128) 128, Nat.mul_assoc]
    omega

/-- How many digits with 128 on top come first. -/
def scan : List Nat → Nat
  | [] => 0
  | d :: r => if 128 ≤ d then scan r + 1 else 0
theorem scan_le (l : List Nat) : scan l ≤ l.length := by
  induction l with
  | nil => simp [scan]
  | cons d r ih => simp only [scan, List.length_cons]; split <;> omega
theorem scan_lt (l : List Nat) (j : Nat) (h : j < scan l) : ∃ x, l[j]? = some x ∧ 128 ≤ x := by
  induction l generalizing j with
  | nil => simp [scan] at h
  | cons d r ih =>
    simp only [scan] at h
    split at h
    · cases j with
      | zero => exact ⟨d, rfl, by assumption⟩
      | succ j => simpa using ih j (by omega)
    · omega
theorem scan_at (l : List Nat) (h : scan l < l.length) : ∃ d, l[scan l]? = some d ∧ d < 128 := by
  induction l with
  | nil => simp [scan] at h
  | cons d r ih =>
    simp only [scan] at h ⊢
    split at h
    · rename_i hd
      rw [if_pos hd]
      simpa using ih (by simpa using h)
    · rename_i hd
      rw [if_neg hd]
      exact ⟨d, rfl, by omega⟩

/-- Digits of which all but the last have 128 on top. -/
def shape : List Nat → Prop
  | [] => False
  | [d] => d < 128
  | d :: e :: r => 128 ≤ d ∧ d < 256 ∧ shape (e :: r)
theorem shape_take (l : List Nat) (hs : ∀ x ∈ l, x < 256) (h : scan l < l.length) : shape (l.take (scan l + 1)) := by
  induction l with
  | nil => simp [scan] at h
  | cons d r ih =>
    simp only [scan] at h ⊢
    split at h
    · rename_i hd
      rw [if_pos hd]
      have h2 : scan r < r.length := by simpa using h
      have := ih (fun x hx => hs x (by simp [hx])) h2
      rw [List.take_succ_cons]
      cases r with
      | nil => simp at h2
      | cons e r => rw [List.take_succ_cons] at this ⊢; exact ⟨hd, hs d (by simp), this⟩
    · rename_i hd
      rw [if_neg hd]
      simp [shape]
      omega
/-- The digits are the shortest ones: there is one alone, or the last is not nought. -/
def shortest : List Nat → Bool
  | [] => false
  | [_] => true
  | l => l.getLast? != some 0
theorem val_pos (l : List Nat) (h : shape l) (hl : l.getLast? ≠ some 0) : 1 ≤ val l := by
  induction l with
  | nil => cases h
  | cons d r ih =>
    cases r with
    | nil => simp [shape] at h; simp at hl; simp [val]; omega
    | cons e r =>
      have := ih h.2.2 (by simpa using hl)
      simp only [val] at this ⊢
      omega
theorem digits_val (l : List Nat) (f : Nat) (h : shape l) (hf : l.length ≤ f + 1) : digits f (val l) = l ↔ shortest l = true := by
  induction l generalizing f with
  | nil => cases h
  | cons d r ih =>
    cases r with
    | nil =>
      simp [shape] at h
      simp [shortest, val, Nat.mod_eq_of_lt h, digits_small _ _ h]
    | cons e r =>
      obtain ⟨h1, h2, h3⟩ := h
      cases f with
      | zero => simp at hf
      | succ f =>
        have ih := ih f h3 (by simpa using hf)
        have hv : val (d :: e :: r) = d % 128 + 128 * val (e :: r) := rfl
        by_cases hz : val (e :: r) = 0
        · have hs : val (d :: e :: r) < 128 := by rw [hv, hz]; omega
          rw [digits_small _ _ hs]
          constructor
          · intro hc; simp at hc
          · intro hc
            have := val_pos (e :: r) h3 (by simpa [shortest] using hc)
            omega
        · have hb : 128 ≤ val (d :: e :: r) := by rw [hv]; omega
          rw [digits_big _ _ hb]
          have e1 : val (d :: e :: r) % 128 + 128 = d := by rw [hv]; omega
          have e2 : val (d :: e :: r) / 128 = val (e :: r) := by rw [hv]; omega
          rw [e1, e2, List.cons.injEq]
          simp only [true_and]
          rw [ih]
          cases r with
          | nil =>
            simp [shape] at h3
            simp [shortest]
            simp [val] at hz
            omega
          | cons g r => simp [shortest]
/-- Whether a number of variable length begins here. -/
def gvOk (ds : List Nat) : Bool := decide (scan ds < 7 ∧ scan ds < ds.length ∧ val (ds.take (scan ds + 1)) ≤ 281474976710655) && shortest (ds.take (scan ds + 1))
def gv (xs : List Nat) (a : Int) (n : Nat) : Bool := decide (0 ≤ a ∧ a < n) && gvOk (xs.drop a.toNat)
def gvN (xs : List Nat) (a : Int) (n : Nat) : Int := if gv xs a n then val ((xs.drop a.toNat).take (scan (xs.drop a.toNat) + 1)) else 0
def gvE (xs : List Nat) (a : Int) (n : Nat) : Int := if gv xs a n then a + scan (xs.drop a.toNat) + 1 else 0
theorem gv_out (xs : List Nat) (a : Int) (n : Nat) (h : ¬ (0 ≤ a ∧ a < n)) : gv xs a n = false := by simp only [gv, decide_eq_false h, Bool.false_and]
theorem gv_in (xs : List Nat) (p n : Nat) (h : p < n) : gv xs (p : Int) n = gvOk (xs.drop p) := by
  have h2 : 0 ≤ (p : Int) ∧ (p : Int) < n := by omega
  simp only [gv, decide_eq_true h2, Bool.true_and, Int.toNat_natCast]
theorem shortest_take (l : List Nat) (h : scan l < l.length) (d : Nat) (hd : l[scan l]? = some d) : shortest (l.take (scan l + 1)) = true ↔ (scan l = 0 ∨ d ≠ 0) := by
  obtain ⟨hlt, he⟩ := List.getElem?_eq_some_iff.1 hd
  have e1 : l.take (scan l + 1) = l.take (scan l) ++ [d] := by rw [List.take_succ_eq_append_getElem h, he]
  rw [e1]
  generalize hq : scan l = q at *
  cases hl : l.take q with
  | nil =>
    have : q = 0 := by
      rcases Nat.eq_zero_or_pos q with h0 | h0
      · exact h0
      · have := congrArg List.length hl; rw [List.length_take, List.length_nil] at this; omega
    simp [shortest, this]
  | cons x r =>
    have : q ≠ 0 := by rintro rfl; simp at hl
    cases r with
    | nil => simp [shortest, this]
    | cons y r =>
      have e2 : (x :: y :: r ++ [d]).getLast? = some d := List.getLast?_concat
      have e3 : shortest (x :: y :: r ++ [d]) = ((x :: y :: r ++ [d]).getLast? != some 0) := rfl
      rw [e3, e2]
      simp [this]
theorem val_take_succ (ds : List Nat) (j x : Nat) (h : ds[j]? = some x) : val (ds.take (j + 1)) = val (ds.take j) + x % 128 * 128 ^ j := by
  obtain ⟨hl, he⟩ := List.getElem?_eq_some_iff.1 h
  rw [List.take_succ_eq_append_getElem hl, val_snoc, he, List.length_take, Nat.min_eq_left (by omega)]
theorem val_take_lt (ds : List Nat) (j : Nat) : val (ds.take j) < 128 ^ j :=
  Nat.lt_of_lt_of_le (val_lt _) (Nat.pow_le_pow_right (by omega) (by rw [List.length_take]; omega))
theorem pow7 (j : Nat) : 2 ^ (7 * j) = 128 ^ j := by rw [Nat.pow_mul]
theorem shl_or (v x j : Nat) (hj : j < 7) (hv : v < 128 ^ j) : bits .or .i64 (v : Int) (RowKit.wrap64 ((x : Int) % 128 * 2 ^ (7 * j))) = ((v + x % 128 * 128 ^ j : Nat) : Int) := by
  have hp : 128 ^ j ≤ 128 ^ 6 := Nat.pow_le_pow_right (by omega) (by omega)
  have hm : x % 128 * 128 ^ j ≤ 127 * 128 ^ j := Nat.mul_le_mul_right _ (by omega)
  have e1 : (x : Int) % 128 * 2 ^ (7 * j) = ((x % 128 * 128 ^ j : Nat) : Int) := by
    rw [← pow7, Int.natCast_mul, Int.natCast_pow, Int.natCast_emod]
    rfl
  rw [e1, IntWalk.wrap64_in _ ⟨by omega, by omega⟩, or64 _ _ (by omega) (by omega), Nat.or_comm, ← pow7, or_mul_pow _ _ _ (by rw [pow7]; exact hv), Nat.add_comm]
theorem gvOk_no (ds : List Nat) (h : 7 ≤ scan ds ∨ ds.length ≤ scan ds) : gvOk ds = false := by
  unfold gvOk
  rw [decide_eq_false (by omega), Bool.false_and]
theorem gvOk_short (ds : List Nat) (d : Nat) (h : scan ds < ds.length) (hd : ds[scan ds]? = some d) (h0 : 0 < scan ds) (hz : d = 0) : gvOk ds = false := by
  unfold gvOk
  have : shortest (ds.take (scan ds + 1)) = false := by
    rw [Bool.eq_false_iff]
    intro hc
    have := (shortest_take ds h d hd).1 hc
    omega
  rw [this, Bool.and_false]
theorem gvOk_big (ds : List Nat) (h : 281474976710655 < val (ds.take (scan ds + 1))) : gvOk ds = false := by
  unfold gvOk
  rw [decide_eq_false (by omega), Bool.false_and]
theorem gvOk_yes (ds : List Nat) (d : Nat) (h7 : scan ds < 7) (h : scan ds < ds.length) (hd : ds[scan ds]? = some d) (h0 : scan ds = 0 ∨ d ≠ 0) (hv : val (ds.take (scan ds + 1)) ≤ 281474976710655) : gvOk ds = true := by
  unfold gvOk
  rw [decide_eq_true ⟨h7, h, hv⟩, (shortest_take ds h d hd).2 h0]
  rfl
end Go.Proofs.Ytpgnappddddlpaa
namespace Go.Proofs.Ytpgnappddddlpaa
open Go.RowKit

def gvVal (xs : List Nat) (a : Int) (n : Nat) : Value := .tuple #[.int .i64 (gvN xs a n), .int .i64 (gvE xs a n), .bool (gv xs a n)]

theorem gvVal_no (xs : List Nat) (a : Int) (n : Nat) (h : gv xs a n = false) : gvVal xs a n = .tuple #[.int .i64 0, .int .i64 0, .bool false] := by simp [gvVal, gvN, gvE, h]
end Go.Proofs.Ytpgnappddddlpaa
namespace Go.Proofs.Ytpgnappddddlpaa
open Go.RowKit

def unzig (n : Int) : Int := if n % 2 = 1 then -(n / 2) - 1 else n / 2

def gzVal (xs : List Nat) (a : Int) (n : Nat) : Value := .tuple #[.int .i64 (if gv xs a n then unzig (gvN xs a n) else 0), .int .i64 (gvE xs a n), .bool (gv xs a n)]

theorem gz_yes (xs : List Nat) (a : Int) (n : Nat) (h : gv xs a n = true) : gzVal xs a n = .tuple #[.int .i64 (unzig (gvN xs a n)), .int .i64 (gvE xs a n), .bool true] := by simp [gzVal, h]

theorem gz_no (xs : List Nat) (a : Int) (n : Nat) (h : gv xs a n = false) : gzVal xs a n = .tuple #[.int .i64 0, .int .i64 0, .bool false] := by simp [gzVal, gvE, h]

theorem gvVal_yes (xs : List Nat) (a : Int) (n : Nat) (h : gv xs a n = true) : gvVal xs a n = .tuple #[.int .i64 (gvN xs a n), .int .i64 (gvE xs a n), .bool true] := by simp [gvVal, h]

theorem gvN_bounds (xs : List Nat) (a : Int) (n : Nat) : 0 ≤ gvN xs a n ∧ gvN xs a n ≤ 281474976710655 := by
  unfold gvN
  split
  · rename_i h
    have h2 : gvOk (xs.drop a.toNat) = true := by
      unfold gv at h
      rw [Bool.and_eq_true] at h
      exact h.2
    unfold gvOk at h2
    rw [Bool.and_eq_true, decide_eq_true_eq] at h2
    have := h2.1.2.2
    omega
  · omega
end Go.Proofs.Ytpgnappddddlpaa
namespace Go.Proofs.Ytpgnappddddlpaa
open Go.RowKit

def zigOk (n : Int) : Bool := decide (-140737488355328 ≤ n ∧ n ≤ 140737488355327)

/-- The number that bears the sign in its lowest bit. -/
def zig (n : Int) : Int := if n < 0 then -2 * n - 1 else 2 * n

def putZig (xs : List Nat) (n : Int) : List Nat := if zigOk n then putVar xs (zig n) else []

theorem zig_num (n : Int) (h : zigOk n = true) : numOk (zig n) = true := by
  simp only [zigOk, decide_eq_true_eq] at h
  simp only [numOk, decide_eq_true_eq]
  unfold zig
  by_cases hn : n < 0
  · rw [if_pos hn]; omega
  · rw [if_neg hn]; omega

theorem putZig_small (xs : List Nat) (a : Int) (h : ∀ x ∈ xs, x < 256) : ∀ x ∈ putZig xs a, x < 256 := by
  unfold putZig
  split
  · exact putVar_small xs _ h
  · simp

theorem putZig_length (xs : List Nat) (a : Int) : (putZig xs a).length ≤ xs.length + 7 := by
  unfold putZig
  split
  · exact putVar_length xs _
  · simp
end Go.Proofs.Ytpgnappddddlpaa
namespace Go.Proofs.Ytpgnappddddlpaa
open Go.RowKit

/-- The number of the first k bytes from 'at' on, the highest first. -/
def fixNat (xs : List Nat) (a k : Nat) : Nat := ((xs.drop a).take k).foldl (fun n x => n * 256 + x) 0

theorem fixNat_zero (xs : List Nat) (a : Nat) : fixNat xs a 0 = 0 := by simp [fixNat]

theorem fixNat_succ (xs : List Nat) (a k x : Nat) (h : xs[a + k]? = some x) : fixNat xs a (k + 1) = fixNat xs a k * 256 + x := by
  unfold fixNat
  have h2 : (xs.drop a)[k]? = some x := by rw [List.getElem?_drop]; exact h
  obtain ⟨hl, he⟩ := List.getElem?_eq_some_iff.1 h2
  rw [List.take_succ_eq_append_getElem hl, List.foldl_append, he]
  rfl

theorem fixNat_lt (xs : List Nat) (hs : ∀ x ∈ xs, x < 256) (a k : Nat) (hk : a + k ≤ xs.length) : fixNat xs a k < 256 ^ k := by
  induction k with
  | zero => simp [fixNat_zero]
  | succ k ih =>
    have hl : a + k < xs.length := by omega
    rw [fixNat_succ xs a k _ (List.getElem?_eq_getElem hl), Nat.pow_succ]
    have := ih (by omega)
    have := hs _ (List.getElem_mem hl)
    omega

def fixOk (a : Int) (n : Nat) : Bool := decide (0 ≤ a ∧ a + 6 ≤ n)

def fixVal (xs : List Nat) (a : Int) (n : Nat) : Value := .tuple #[.int .i64 (if fixOk a n then (fixNat xs a.toNat 6 : Nat) else 0), .bool (fixOk a n)]
end Go.Proofs.Ytpgnappddddlpaa
