/- The program's Put. Condition: at most 2^20 ends, shards, edges of a shard and locations. // The contracts of Put, the model's and the program's, over a farm and locations that read. Condition: at most 2^20 ends, shards and edges together, and 2^20 locations. -/
import Derived.Test.YtpgnappddddlpaaCGE
import Derived.Test.YtpgnappddddlpaaKFarmCI
import Derived.Test.YtpgnappddddlpaaCGL
import Derived.Test.YtpgnappddddlpaaCGK
import Derived.Test.YtpgnappddddlpaaKPutS
namespace Go.Proofs.Ytpgnappddddlpaa
open Go.RowKit
set_option linter.unusedVariables false

set_option maxRecDepth 20000 in
set_option maxHeartbeats 8000000 in
theorem implPut (N : Int) (A : Option Addr) (n c : Nat) (E : List Int) (B : Option Addr) (m d : Nat) (bs : List HE) (sp sl sh : Int) (U : Option Addr) (k cU : Nat) (sr : Int) (us : List LE) (w : World) (hA : SlI w A n E) (hB : SlH w B m bs) (hn : n ≤ 1048576) (hm : m ≤ 1048576) (hs : ∀ e ∈ bs, e.n ≤ 1048576) (hU : SlL w U k us) (hk : k ≤ 1048576) :
    Calls Try.prog 20 #[.agg #[.int .i64 N, .slice A n c, .slice B m d], .agg #[.int .i64 sp, .int .i64 sl, .int .i64 sh, .slice U k cU, .int .i64 sr]] w (MadeFB w (fpN N E (sdL bs) us) (fpE N E (sdL bs) us) (fpL N E (sdL bs) us) (putB N E (sdL bs) us)) := by
  have C := Lib.hid (fun W (h : Below w.heap.size w W) => implFarmOk N A n c E B m d bs W (hA.below h) (hB.below h) hn hm hs)
  have CF := Lib.hid (fun W (h : Below w.heap.size w W) => implCopyFarm N A n c E B m d bs W (hA.below h) (hB.below h) hn hm hs)
  have HL : Hid ((sdL bs).length = m) := Lib.hid (by rw [sdL_len, hB.len])
  have HLE := Lib.hid hA.len
  have HSM : Hid (∀ (m' : Nat) (bs' : List HE), m' = m → bs'.length = m' → (∀ d ∈ bs', d.es.length = d.n) → bs'.map HE.sd = sdL bs → ∀ e ∈ bs', e.n ≤ 1048576) := Lib.hid (fun m' bs' _ _ hl he e hh => few_same hl (fun d hd => (hB.each d hd).rd.len) hs he e hh)
  have CP := Lib.hid (fun (A' : Option Addr) (n' c' : Nat) (B' : Option Addr) (d' lo : Nat) (bs' : List HE) W (h : Below w.heap.size w W) (ho : OwnH W lo B' m d' bs') (hlo : w.heap.size ≤ lo) (he : bs'.map HE.sd = sdL bs) => implPut0 N A' n' c' B' m d' lo bs' U k cU us w W hU hk h ho hlo hm (HSM.out m bs' rfl ho.len ho.dat.len he))
  unfold MadeF at CF
  rw [HLE.out, HL.out] at CF
  clear hA hB hs hU
  have H_1 := Lib.hid (g_chain (g_chain (g_chain (Below.refl w.heap.size w) (below_a1 w (.cells #[.int .i64 N, .slice A n c, .slice B m d] 26))) (below_a1 (w.alloc (.cells #[.int .i64 N, .slice A n c, .slice B m d] 26)) (.cells #[.int .i64 sp, .int .i64 sl, .int .i64 sh, .slice U k cU, .int .i64 sr] 35))) (below_a1 ((w.alloc (.cells #[.int .i64 N, .slice A n c, .slice B m d] 26)).alloc (.cells #[.int .i64 sp, .int .i64 sl, .int .i64 sh, .slice U k cU, .int .i64 sr] 35)) (.cells #[.int .i64 0, .slice none 0 0, .slice none 0 0] 26)))
  have BX_2 : Hid (Blk (((w.alloc (.cells #[.int .i64 N, .slice A n c, .slice B m d] 26)).alloc (.cells #[.int .i64 sp, .int .i64 sl, .int .i64 sh, .slice U k cU, .int .i64 sr] 35)).alloc (.cells #[.int .i64 0, .slice none 0 0, .slice none 0 0] 26)) (w.heap.size) #[.int .i64 N, .slice A n c, .slice B m d] 26) := Lib.hid (by have h := ((Blk.new w #[.int .i64 N, .slice A n c, .slice B m d] 26).alloc (.cells #[.int .i64 sp, .int .i64 sl, .int .i64 sh, .slice U k cU, .int .i64 sr] 35)).alloc (.cells #[.int .i64 0, .slice none 0 0, .slice none 0 0] 26); simpa [Nat.add_assoc] using h)
  have BS_3 : Hid (Blk (((w.alloc (.cells #[.int .i64 N, .slice A n c, .slice B m d] 26)).alloc (.cells #[.int .i64 sp, .int .i64 sl, .int .i64 sh, .slice U k cU, .int .i64 sr] 35)).alloc (.cells #[.int .i64 0, .slice none 0 0, .slice none 0 0] 26)) (w.heap.size + 1) #[.int .i64 sp, .int .i64 sl, .int .i64 sh, .slice U k cU, .int .i64 sr] 35) := Lib.hid (by have h := (Blk.new (w.alloc (.cells #[.int .i64 N, .slice A n c, .slice B m d] 26)) #[.int .i64 sp, .int .i64 sl, .int .i64 sh, .slice U k cU, .int .i64 sr] 35).alloc (.cells #[.int .i64 0, .slice none 0 0, .slice none 0 0] 26); simpa [Nat.add_assoc] using h)
  have BZ_4 : Hid (Blk (((w.alloc (.cells #[.int .i64 N, .slice A n c, .slice B m d] 26)).alloc (.cells #[.int .i64 sp, .int .i64 sl, .int .i64 sh, .slice U k cU, .int .i64 sr] 35)).alloc (.cells #[.int .i64 0, .slice none 0 0, .slice none 0 0] 26)) (w.heap.size + 2) #[.int .i64 0, .slice none 0 0, .slice none 0 0] 26) := Lib.hid (by have h := Blk.new ((w.alloc (.cells #[.int .i64 N, .slice A n c, .slice B m d] 26)).alloc (.cells #[.int .i64 sp, .int .i64 sl, .int .i64 sh, .slice U k cU, .int .i64 sr] 35)) #[.int .i64 0, .slice none 0 0, .slice none 0 0] 26; simpa [Nat.add_assoc] using h)
  have sz0 : Hid (w.heap.size + 3 ≤ (((w.alloc (.cells #[.int .i64 N, .slice A n c, .slice B m d] 26)).alloc (.cells #[.int .i64 sp, .int .i64 sl, .int .i64 sh, .slice U k cU, .int .i64 sr] 35)).alloc (.cells #[.int .i64 0, .slice none 0 0, .slice none 0 0] 26)).heap.size) := Lib.hid (by simp)
  cases hv : farmB N E (sdL bs) with
  | false =>
    rw [hv] at C
    have HNO := Lib.hid (put_no1 (xs := us) hv)
    clear hv
    go_enter Try.func20, Try.ntmps20
    go_wp2_with fail
    refine (C.out _ H_1.out).mono ?_
    rintro e w1 ⟨rfl, hb⟩
    have H_5 := Lib.hid (g_chain H_1.out hb)
    clear H_1
    have BX_6 := Lib.hid (BX_2.out.below hb)
    clear BX_2
    have BS_7 := Lib.hid (BS_3.out.below hb)
    clear BS_3
    have BZ_8 := Lib.hid (BZ_4.out.below hb)
    clear BZ_4
    have sz_9 := Lib.hid (Below.size hb)
    clear hb
    have x_10 := BZ_8.out.cell (i := 0) rfl
    have x_11 := BZ_8.out.cell (i := 1) rfl
    have x_12 := BZ_8.out.cell (i := 2) rfl
    have fz_13 := fun i => BZ_8.out.frozen i
    have lt_14 := BZ_8.out.lt
    go_wp2
    refine bodyPost_ret (v := .tuple #[.agg #[.int .i64 0, .slice none 0 0, .slice none 0 0], .bool false]) (by simp [results, Try.results20, go_sem, x_10, x_11, x_12]) rfl ?_
    rw [HNO.out, (fp_no HNO.out).1, (fp_no HNO.out).2.1, (fp_no HNO.out).2.2]
    exact ⟨none, 0, none, 0, rfl, ⟨World.ownsRow_nil _ _ _ _, ⟨[], ⟨World.ownsRow_nil _ _ _ _, rfl, OwnHL.nil⟩, rfl, fun g hg => by rcases hg with hg | ⟨x, hx, _⟩; cases hg; cases hx⟩, fun g hg => by cases hg⟩, by repeat (first | exact H_5.out | refine Below.setCell ?_ (by first | omega | (dsimp only; omega) | (simp; omega)) _ | refine g_chain ?_ (below_a1 _ _))⟩
  | true =>
    rw [hv] at C
    have HFB := Lib.hid hv
    clear hv
    cases hb2 : us.all (fitB (sdL bs)) with
    | false =>
      have HNO : Hid (putB N E (sdL bs) us = false) := Lib.hid (by unfold putB; rw [hb2, Bool.and_false])
      go_enter Try.func20, Try.ntmps20
      go_wp2_with fail
      refine (C.out _ H_1.out).mono ?_
      rintro e w1 ⟨rfl, hb⟩
      have H_15 := Lib.hid (g_chain H_1.out hb)
      clear H_1
      have BX_16 := Lib.hid (BX_2.out.below hb)
      clear BX_2
      have BS_17 := Lib.hid (BS_3.out.below hb)
      clear BS_3
      have BZ_18 := Lib.hid (BZ_4.out.below hb)
      clear BZ_4
      have sz_19 := Lib.hid (Below.size hb)
      clear hb
      have hs1 : w.heap.size ≤ w1.heap.size := H_15.out.size
      have x_20 := BX_16.out.cell (i := 0) rfl
      have x_21 := BX_16.out.cell (i := 1) rfl
      have x_22 := BX_16.out.cell (i := 2) rfl
      go_wp2_with fail
      refine (CF.out _ H_15.out).mono ?_
      rintro e w2 ⟨A2, c2, B2, d2, rfl, ho, hb⟩
      clear x_20
      clear x_21
      clear x_22
      have H_23 := Lib.hid (g_chain H_15.out hb)
      clear H_15
      have BX_24 := Lib.hid (BX_16.out.below hb)
      clear BX_16
      have BS_25 := Lib.hid (BS_17.out.below hb)
      clear BS_17
      have BZ_26 := Lib.hid (BZ_18.out.below hb)
      clear BZ_18
      have sz_27 := Lib.hid (Below.size hb)
      clear hb
      obtain ⟨bs2, hoh, hmap, hrng⟩ := ho.s
      have hoe := ho.e
      have OE := Lib.hid (own_monoG (lo' := w.heap.size) hoe hs1)
      have OH := Lib.hid (hoh.mono hs1)
      have hmx := Lib.hid hmap
      clear ho hoh hoe hrng hmap
      have hb_28 := below_a1 w2 (.cells #[.int .i64 N, .slice A2 n c2, .slice B2 m d2] 26)
      have sz_29 := Lib.hid BX_24.out.lt
      have sz_30 := Lib.hid BS_25.out.lt
      have sz_31 := Lib.hid BZ_26.out.lt
      have H_32 := Lib.hid (g_chain H_23.out hb_28)
      clear H_23
      have BX_33 := Lib.hid (BX_24.out.below hb_28)
      clear BX_24
      have BS_34 := Lib.hid (BS_25.out.below hb_28)
      clear BS_25
      have BZ_35 := Lib.hid (BZ_26.out.below hb_28)
      clear BZ_26
      have sz_36 := Lib.hid (Below.size hb_28)
      clear hb_28
      have BO_37 : Hid (Blk (w2.alloc (.cells #[.int .i64 N, .slice A2 n c2, .slice B2 m d2] 26)) (w2.heap.size) #[.int .i64 N, .slice A2 n c2, .slice B2 m d2] 26) := Lib.hid (by have h := Blk.new w2 #[.int .i64 N, .slice A2 n c2, .slice B2 m d2] 26; simpa using h)
      have sz_38 : Hid (w2.heap.size + 1 ≤ (w2.alloc (.cells #[.int .i64 N, .slice A2 n c2, .slice B2 m d2] 26)).heap.size) := Lib.hid (by simp)
      have OE1 := Lib.hid (own_below OE.out (below_a1 _ (.cells #[.int .i64 N, .slice A2 n c2, .slice B2 m d2] 26)))
      have OH1 := Lib.hid (OH.out.below (below_a1 _ (.cells #[.int .i64 N, .slice A2 n c2, .slice B2 m d2] 26)))
      clear OE OH
      have P := Lib.hid (CP.out A2 n c2 B2 d2 w.heap.size bs2 (w2.alloc (.cells #[.int .i64 N, .slice A2 n c2, .slice B2 m d2] 26)) H_32.out OH1.out (Nat.le_refl _) hmx.out)
      unfold FPutRes at P
      rw [hmx.out, hb2] at P
      have x_39 := BO_37.out.cell (i := 0) rfl
      have x_40 := BO_37.out.cell (i := 1) rfl
      have x_41 := BO_37.out.cell (i := 2) rfl
      have fz_42 := fun i => BO_37.out.frozen i
      have lt_43 := BO_37.out.lt
      have x_44 := BS_34.out.cell (i := 0) rfl
      have x_45 := BS_34.out.cell (i := 1) rfl
      have x_46 := BS_34.out.cell (i := 2) rfl
      have x_47 := BS_34.out.cell (i := 3) rfl
      have x_48 := BS_34.out.cell (i := 4) rfl
      have fz_49 := fun i => BS_34.out.frozen i
      have lt_50 := BS_34.out.lt
      go_wp2_with fail
      refine P.out.mono ?_
      rintro e9 w9 ⟨rfl, hyes, honly⟩
      clear x_39 x_40 x_41 fz_42 lt_43 x_44 x_45 x_46 x_47 x_48 fz_49 lt_50
      have BZ_51 := Lib.hid (BZ_35.out.only honly (OH1.out.apartB BZ_35.out (by decide) (by decide)))
      have BO_52 := Lib.hid (BO_37.out.only honly (OH1.out.apartB BO_37.out (by decide) (by decide)))
      have H9 : Hid (Below w.heap.size w w9) := Lib.hid (H_32.out.trans (honly.toBelow H_32.out.size (fun g hg => (OH1.out.blk hg).1)))
      have OE9 := Lib.hid (OnlyB.own OE1.out honly (fun g hg hh => OH1.out.apartT OE1.out (by decide) (by decide) g hh hg))
      have hzo : w.heap.size + 2 < w2.heap.size := by have := sz0.out; have := sz_19.out; have := sz_27.out; have := sz_29.out; have := sz_30.out; have := sz_31.out; have := sz_36.out; have := sz_38.out; omega
      clear hyes honly
      have x_901 := BZ_51.out.cell (i := 0) rfl
      have x_902 := BZ_51.out.cell (i := 1) rfl
      have x_903 := BZ_51.out.cell (i := 2) rfl
      have fz_904 := fun i => BZ_51.out.frozen i
      have lt_905 := BZ_51.out.lt
      go_wp2
      refine bodyPost_ret (v := .tuple #[.agg #[.int .i64 0, .slice none 0 0, .slice none 0 0], .bool false]) (by simp [results, Try.results20, go_sem, x_901, x_902, x_903]) rfl ?_
      rw [HNO.out, (fp_no HNO.out).1, (fp_no HNO.out).2.1, (fp_no HNO.out).2.2]
      exact ⟨none, 0, none, 0, rfl, ⟨World.ownsRow_nil _ _ _ _, ⟨[], ⟨World.ownsRow_nil _ _ _ _, rfl, OwnHL.nil⟩, rfl, fun g hg => by rcases hg with hg | ⟨x, hx, _⟩; cases hg; cases hx⟩, fun g hg => by cases hg⟩, by repeat (first | exact H9.out | refine Below.setCell ?_ (by first | omega | (dsimp only; omega) | (simp; omega)) _ | refine g_chain ?_ (below_a1 _ _))⟩
    | true =>
      have HYES : Hid (putB N E (sdL bs) us = true) := Lib.hid (by unfold putB; rw [hb2, HFB.out]; rfl)
      go_enter Try.func20, Try.ntmps20
      go_wp2_with fail
      refine (C.out _ H_1.out).mono ?_
      rintro e w1 ⟨rfl, hb⟩
      have H_53 := Lib.hid (g_chain H_1.out hb)
      clear H_1
      have BX_54 := Lib.hid (BX_2.out.below hb)
      clear BX_2
      have BS_55 := Lib.hid (BS_3.out.below hb)
      clear BS_3
      have BZ_56 := Lib.hid (BZ_4.out.below hb)
      clear BZ_4
      have sz_57 := Lib.hid (Below.size hb)
      clear hb
      have hs1 : w.heap.size ≤ w1.heap.size := H_53.out.size
      have x_58 := BX_54.out.cell (i := 0) rfl
      have x_59 := BX_54.out.cell (i := 1) rfl
      have x_60 := BX_54.out.cell (i := 2) rfl
      go_wp2_with fail
      refine (CF.out _ H_53.out).mono ?_
      rintro e w2 ⟨A2, c2, B2, d2, rfl, ho, hb⟩
      clear x_58
      clear x_59
      clear x_60
      have H_61 := Lib.hid (g_chain H_53.out hb)
      clear H_53
      have BX_62 := Lib.hid (BX_54.out.below hb)
      clear BX_54
      have BS_63 := Lib.hid (BS_55.out.below hb)
      clear BS_55
      have BZ_64 := Lib.hid (BZ_56.out.below hb)
      clear BZ_56
      have sz_65 := Lib.hid (Below.size hb)
      clear hb
      obtain ⟨bs2, hoh, hmap, hrng⟩ := ho.s
      have hoe := ho.e
      have OE := Lib.hid (own_monoG (lo' := w.heap.size) hoe hs1)
      have OH := Lib.hid (hoh.mono hs1)
      have hmx := Lib.hid hmap
      clear ho hoh hoe hrng hmap
      have hb_66 := below_a1 w2 (.cells #[.int .i64 N, .slice A2 n c2, .slice B2 m d2] 26)
      have sz_67 := Lib.hid BX_62.out.lt
      have sz_68 := Lib.hid BS_63.out.lt
      have sz_69 := Lib.hid BZ_64.out.lt
      have H_70 := Lib.hid (g_chain H_61.out hb_66)
      clear H_61
      have BX_71 := Lib.hid (BX_62.out.below hb_66)
      clear BX_62
      have BS_72 := Lib.hid (BS_63.out.below hb_66)
      clear BS_63
      have BZ_73 := Lib.hid (BZ_64.out.below hb_66)
      clear BZ_64
      have sz_74 := Lib.hid (Below.size hb_66)
      clear hb_66
      have BO_75 : Hid (Blk (w2.alloc (.cells #[.int .i64 N, .slice A2 n c2, .slice B2 m d2] 26)) (w2.heap.size) #[.int .i64 N, .slice A2 n c2, .slice B2 m d2] 26) := Lib.hid (by have h := Blk.new w2 #[.int .i64 N, .slice A2 n c2, .slice B2 m d2] 26; simpa using h)
      have sz_76 : Hid (w2.heap.size + 1 ≤ (w2.alloc (.cells #[.int .i64 N, .slice A2 n c2, .slice B2 m d2] 26)).heap.size) := Lib.hid (by simp)
      have OE1 := Lib.hid (own_below OE.out (below_a1 _ (.cells #[.int .i64 N, .slice A2 n c2, .slice B2 m d2] 26)))
      have OH1 := Lib.hid (OH.out.below (below_a1 _ (.cells #[.int .i64 N, .slice A2 n c2, .slice B2 m d2] 26)))
      clear OE OH
      have P := Lib.hid (CP.out A2 n c2 B2 d2 w.heap.size bs2 (w2.alloc (.cells #[.int .i64 N, .slice A2 n c2, .slice B2 m d2] 26)) H_70.out OH1.out (Nat.le_refl _) hmx.out)
      unfold FPutRes at P
      rw [hmx.out, hb2] at P
      have x_77 := BO_75.out.cell (i := 0) rfl
      have x_78 := BO_75.out.cell (i := 1) rfl
      have x_79 := BO_75.out.cell (i := 2) rfl
      have fz_80 := fun i => BO_75.out.frozen i
      have lt_81 := BO_75.out.lt
      have x_82 := BS_72.out.cell (i := 0) rfl
      have x_83 := BS_72.out.cell (i := 1) rfl
      have x_84 := BS_72.out.cell (i := 2) rfl
      have x_85 := BS_72.out.cell (i := 3) rfl
      have x_86 := BS_72.out.cell (i := 4) rfl
      have fz_87 := fun i => BS_72.out.frozen i
      have lt_88 := BS_72.out.lt
      go_wp2_with fail
      refine P.out.mono ?_
      rintro e9 w9 ⟨rfl, hyes, honly⟩
      clear x_77 x_78 x_79 fz_80 lt_81 x_82 x_83 x_84 x_85 x_86 fz_87 lt_88
      have BZ_89 := Lib.hid (BZ_73.out.only honly (OH1.out.apartB BZ_73.out (by decide) (by decide)))
      have BO_90 := Lib.hid (BO_75.out.only honly (OH1.out.apartB BO_75.out (by decide) (by decide)))
      have H9 : Hid (Below w.heap.size w w9) := Lib.hid (H_70.out.trans (honly.toBelow H_70.out.size (fun g hg => (OH1.out.blk hg).1)))
      have OE9 := Lib.hid (OnlyB.own OE1.out honly (fun g hg hh => OH1.out.apartT OE1.out (by decide) (by decide) g hh hg))
      have hzo : w.heap.size + 2 < w2.heap.size := by have := sz0.out; have := sz_57.out; have := sz_65.out; have := sz_67.out; have := sz_68.out; have := sz_69.out; have := sz_74.out; have := sz_76.out; omega
      obtain ⟨bs3, ho3, hmap3, hblk3⟩ := hyes trivial
      have R3 := Lib.hid ho3
      have M3 := Lib.hid hmap3
      clear hyes honly ho3 hmap3 hblk3
      have HZ9 := Lib.hid BZ_89.out
      have RE := Lib.hid (OE9.out.lt)
      have zl := HZ9.out.lt
      have x_901 := BO_90.out.cell (i := 0) rfl
      have x_902 := BO_90.out.cell (i := 1) rfl
      have x_903 := BO_90.out.cell (i := 2) rfl
      have fz_904 := fun i => BO_90.out.frozen i
      have lt_905 := BO_90.out.lt
      have x_906 := BZ_89.out.cell (i := 0) rfl
      have x_907 := BZ_89.out.cell (i := 1) rfl
      have x_908 := BZ_89.out.cell (i := 2) rfl
      have fz_909 := fun i => BZ_89.out.frozen i
      have lt_910 := BZ_89.out.lt
      go_wp2
      have hg_911 := ((grown_cell w9 (w.heap.size + 2) 0 (.int .i64 N)).trans (grown_cell (w9.setCell ⟨w.heap.size + 2, 0, none⟩ (.int .i64 N)) (w.heap.size + 2) 1 (.slice A2 n c2))).trans (grown_cell ((w9.setCell ⟨w.heap.size + 2, 0, none⟩ (.int .i64 N)).setCell ⟨w.heap.size + 2, 1, none⟩ (.slice A2 n c2)) (w.heap.size + 2) 2 (.slice B2 m d2))
      have H_912 := Lib.hid (H9.out.grown hg_911 H9.out.size (fun j hj => by injection hj with hj; omega))
      clear H9
      have OE_913 := Lib.hid (own_kept OE9.out hg_911 (own_kind OE9.out BZ_89.out (by decide)))
      clear OE9
      have BZ_914 : Hid (Blk (((w9.setCell ⟨w.heap.size + 2, 0, none⟩ (.int .i64 N)).setCell ⟨w.heap.size + 2, 1, none⟩ (.slice A2 n c2)).setCell ⟨w.heap.size + 2, 2, none⟩ (.slice B2 m d2)) (w.heap.size + 2) #[.int .i64 N, .slice A2 n c2, .slice B2 m d2] 26) := Lib.hid (Blk.set (Blk.set (Blk.set (BZ_89.out) 0 (.int .i64 N)) 1 (.slice A2 n c2)) 2 (.slice B2 m d2))
      clear BZ_89
      have sz_915 := Lib.hid (World.grownBy.size hg_911)
      clear hg_911
      refine bodyPost_ret (v := .tuple #[.agg #[.int .i64 N, .slice A2 n c2, .slice B2 m d2], .bool true]) (by simp [results, Try.results20, go_sem, x_906, x_907, x_908]) rfl ?_
      have G9 : Hid (HOwn (((w9.setCell ⟨w.heap.size + 2, 0, none⟩ (.int .i64 N)).setCell ⟨w.heap.size + 2, 1, none⟩ (.slice A2 n c2)).setCell ⟨w.heap.size + 2, 2, none⟩ (.slice B2 m d2)) w.heap.size w.heap.size ((((w9.setCell ⟨w.heap.size + 2, 0, none⟩ (.int .i64 N)).setCell ⟨w.heap.size + 2, 1, none⟩ (.slice A2 n c2)).setCell ⟨w.heap.size + 2, 2, none⟩ (.slice B2 m d2))).heap.size B2 m d2 (putL (sdL bs) us)) := Lib.hid (by
        have h1 := R3.out
        have hw : OnlyB (fun g => g = w.heap.size + 2) w9 (((w9.setCell ⟨w.heap.size + 2, 0, none⟩ (.int .i64 N)).setCell ⟨w.heap.size + 2, 1, none⟩ (.slice A2 n c2)).setCell ⟨w.heap.size + 2, 2, none⟩ (.slice B2 m d2)) := by
          repeat (first | exact OnlyB.refl _ _ | refine OnlyB.grown ?_ (grown_cell _ _ _ _) (fun i hi => by injection hi with hi; omega))
        have h2 := h1.but hw (fun g hg hh => by subst hh; exact h1.apartB HZ9.out (by decide) (by decide) hg)
        exact HOwn.of h2 M3.out)
      have e1 := HLE.out
      have e2 : (putL (sdL bs) us).length = m := by rw [putL_len, HL.out]
      rw [HYES.out, (fp_yes HYES.out).1, (fp_yes HYES.out).2.1, (fp_yes HYES.out).2.2]
      unfold MadeFB
      rw [e1, e2]
      exact ⟨A2, c2, B2, d2, rfl, ⟨OE_913.out, G9.out, fun g hg => (show w.heap.size ≤ g ∧ g < ((((w9.setCell ⟨w.heap.size + 2, 0, none⟩ (.int .i64 N)).setCell ⟨w.heap.size + 2, 1, none⟩ (.slice A2 n c2)).setCell ⟨w.heap.size + 2, 2, none⟩ (.slice B2 m d2))).heap.size by have h3 := RE.out g hg; have := sz_915.out; omega)⟩, H_912.out⟩
end Go.Proofs.Ytpgnappddddlpaa
namespace Go.Proofs.Ytpgnappddddlpaa
open Go.RowKit
set_option linter.unusedVariables false

section
variable (N : Int) (A : Option Addr) (n c : Nat) (E : List Int) (B : Option Addr) (m d : Nat) (ls : List SD) (uP uL uH : Int) (U : Option Addr) (k cU : Nat) (uR : Int) (us : List LE) (w : World) (h : FRd w A n B m E ls) (hn : n ≤ 1048576) (hm : ls.length + (flatK ls).length ≤ 1048576) (hU : SlL w U k us) (hk : k ≤ 1048576)
include h hn hm hU hk
theorem implPut_k : Calls Try.prog 20 #[.agg #[.int .i64 N, .slice A n c, .slice B m d], .agg #[.int .i64 uP, .int .i64 uL, .int .i64 uH, .slice U k cU, .int .i64 uR]] w (MadeFB w (fpN N E ls us) (fpE N E ls us) (fpL N E ls us) (putB N E ls us)) := by
  obtain ⟨bs, q1, q2, rfl, q4, q5⟩ := h.open_ hm
  exact implPut N A n c E B m d bs uP uL uH U k cU uR us w q1 q2 hn q4 q5 hU hk
theorem specPut_k : Calls Try.prog 47 #[.agg #[.int .i64 N, .slice A n c, .slice B m d], .agg #[.int .i64 uP, .int .i64 uL, .int .i64 uH, .slice U k cU, .int .i64 uR]] w (MadeFB w (fpN N E ls us) (fpE N E ls us) (fpL N E ls us) (putB N E ls us)) := by
  obtain ⟨bs, q1, q2, rfl, q4, q5⟩ := h.open_ hm
  exact specPut N A n c E B m d bs uP uL uH U k cU uR us w q1 q2 hn q4 q5 hU hk
end
end Go.Proofs.Ytpgnappddddlpaa
