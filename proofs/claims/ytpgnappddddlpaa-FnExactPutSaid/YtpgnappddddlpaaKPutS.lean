/- The model's Put. Condition: at most 2^20 ends, shards, edges of a shard and locations. -/
import Derived.Test.YtpgnappddddlpaaCGF
import Derived.Test.YtpgnappddddlpaaCGK
import Derived.Test.YtpgnappddddlpaaCGL
import Derived.Deep.DeepCutAuto
import Derived.Deep.RegionHeld3
import Derived.Deep.RegionWith
namespace Go.Proofs.Ytpgnappddddlpaa
open Go.RowKit
set_option linter.unusedVariables false

theorem held_nameU {P : Program} {md : Region.Mode} {ops : Array Oper} {Q : Exit → Act → World → Prop} {S : World → Prop} {fuel : Nat} {listed : Array Bool} {a : Act} {w : World} (hS : S w) (h : S w → wpAnyH P md ops Q S fuel listed a w) : wpAnyH P md ops Q S fuel listed a w := h hS
set_option maxRecDepth 20000 in
set_option maxHeartbeats 16000000 in
theorem specPut (N : Int) (A : Option Addr) (n c : Nat) (E : List Int) (B : Option Addr) (m d : Nat) (bs : List HE) (sp sl sh : Int) (U : Option Addr) (k cU : Nat) (sr : Int) (us : List LE) (w : World) (hA : SlI w A n E) (hB : SlH w B m bs) (hn : n ≤ 1048576) (hm : m ≤ 1048576) (hs : ∀ e ∈ bs, e.n ≤ 1048576) (hU : SlL w U k us) (hk : k ≤ 1048576) :
    Calls Try.prog 47 #[.agg #[.int .i64 N, .slice A n c, .slice B m d], .agg #[.int .i64 sp, .int .i64 sl, .int .i64 sh, .slice U k cU, .int .i64 sr]] w (MadeFB w (fpN N E (sdL bs) us) (fpE N E (sdL bs) us) (fpL N E (sdL bs) us) (putB N E (sdL bs) us)) := by
  have C := Lib.hid (fun W (h : Below w.heap.size w W) => specFarmOk N A n c E B m d bs W (hA.below h) (hB.below h) hn hm hs)
  have CF := Lib.hid (fun W (h : Below w.heap.size w W) => specCopyFarm N A n c E B m d bs W (hA.below h) (hB.below h) hn hm hs)
  have HL : Hid ((sdL bs).length = m) := Lib.hid (by rw [sdL_len, hB.len])
  have HLE := Lib.hid hA.len
  have HB := Lib.hid hB
  have HU := Lib.hid hU
  have HUL := Lib.hid hU.len
  have HS := Lib.hid hs
  unfold MadeF at CF
  rw [HLE.out, HL.out] at CF
  clear hA hB hs hU
  have H_1 := Lib.hid (g_chain (g_chain (g_chain (Below.refl w.heap.size w) (below_a1 w (.cells #[.int .i64 N, .slice A n c, .slice B m d] 26))) (below_a1 (w.alloc (.cells #[.int .i64 N, .slice A n c, .slice B m d] 26)) (.cells #[.int .i64 sp, .int .i64 sl, .int .i64 sh, .slice U k cU, .int .i64 sr] 35))) (below_a1 ((w.alloc (.cells #[.int .i64 N, .slice A n c, .slice B m d] 26)).alloc (.cells #[.int .i64 sp, .int .i64 sl, .int .i64 sh, .slice U k cU, .int .i64 sr] 35)) (.cells #[.int .i64 0, .slice none 0 0, .slice none 0 0] 26)))
  have BX_2 : Hid (Blk (((w.alloc (.cells #[.int .i64 N, .slice A n c, .slice B m d] 26)).alloc (.cells #[.int .i64 sp, .int .i64 sl, .int .i64 sh, .slice U k cU, .int .i64 sr] 35)).alloc (.cells #[.int .i64 0, .slice none 0 0, .slice none 0 0] 26)) (w.heap.size) #[.int .i64 N, .slice A n c, .slice B m d] 26) := Lib.hid (by have h := ((Blk.new w #[.int .i64 N, .slice A n c, .slice B m d] 26).alloc (.cells #[.int .i64 sp, .int .i64 sl, .int .i64 sh, .slice U k cU, .int .i64 sr] 35)).alloc (.cells #[.int .i64 0, .slice none 0 0, .slice none 0 0] 26); simpa [Nat.add_assoc] using h)
  have BS_3 : Hid (Blk (((w.alloc (.cells #[.int .i64 N, .slice A n c, .slice B m d] 26)).alloc (.cells #[.int .i64 sp, .int .i64 sl, .int .i64 sh, .slice U k cU, .int .i64 sr] 35)).alloc (.cells #[.int .i64 0, .slice none 0 0, .slice none 0 0] 26)) (w.heap.size + 1) #[.int .i64 sp, .int .i64 sl, .int .i64 sh, .slice U k cU, .int .i64 sr] 35) := Lib.hid (by have h := (Blk.new (w.alloc (.cells #[.int .i64 N, .slice A n c, .slice B m d] 26)) #[.int .i64 sp, .int .i64 sl, .int .i64 sh, .slice U k cU, .int .i64 sr] 35).alloc (.cells #[.int .i64 0, .slice none 0 0, .slice none 0 0] 26); simpa [Nat.add_assoc] using h)
  have BZ_4 : Hid (Blk (((w.alloc (.cells #[.int .i64 N, .slice A n c, .slice B m d] 26)).alloc (.cells #[.int .i64 sp, .int .i64 sl, .int .i64 sh, .slice U k cU, .int .i64 sr] 35)).alloc (.cells #[.int .i64 0, .slice none 0 0, .slice none 0 0] 26)) (w.heap.size + 2) #[.int .i64 0, .slice none 0 0, .slice none 0 0] 26) := Lib.hid (by have h := Blk.new ((w.alloc (.cells #[.int .i64 N, .slice A n c, .slice B m d] 26)).alloc (.cells #[.int .i64 sp, .int .i64 sl, .int .i64 sh, .slice U k cU, .int .i64 sr] 35)) #[.int .i64 0, .slice none 0 0, .slice none 0 0] 26; simpa [Nat.add_assoc] using h)
  have sz0 : Hid (w.heap.size + 3 ≤ (((w.alloc (.cells #[.int .i64 N, .slice A n c, .slice B m d] 26)).alloc (.cells #[.int .i64 sp, .int .i64 sl, .int .i64 sh, .slice U k cU, .int .i64 sr] 35)).alloc (.cells #[.int .i64 0, .slice none 0 0, .slice none 0 0] 26)).heap.size) := Lib.hid (by simp)
  cases hv : farmB N E (sdL bs) with
  | false =>
    rw [hv] at C
    have HNO := Lib.hid (put_no1 (xs := us) hv)
    clear hv
    go_enter Try.func47, Try.ntmps47
    go_wp2_with fail
    refine (C.out _ H_1.out).mono ?_
    rintro e w1 ⟨rfl, hb⟩
    have H_5 := Lib.hid (g_chain H_1.out hb)
    clear H_1
    have BX_6 := Lib.hid (BX_2.out.below hb)
    clear BX_2
    have BS_7 := Lib.hid (BS_3.out.below hb)
    clear BS_3
    have BZ_8 := Lib.hid (BZ_4.out.below hb)
    clear BZ_4
    have sz_9 := Lib.hid (Below.size hb)
    clear hb
    have x_10 := BZ_8.out.cell (i := 0) rfl
    have x_11 := BZ_8.out.cell (i := 1) rfl
    have x_12 := BZ_8.out.cell (i := 2) rfl
    have fz_13 := fun i => BZ_8.out.frozen i
    have lt_14 := BZ_8.out.lt
    go_wp2
    refine bodyPost_ret (v := .tuple #[.agg #[.int .i64 0, .slice none 0 0, .slice none 0 0], .bool false]) (by simp [results, Try.results47, go_sem, x_10, x_11, x_12]) rfl ?_
    rw [HNO.out, (fp_no HNO.out).1, (fp_no HNO.out).2.1, (fp_no HNO.out).2.2]
    exact ⟨none, 0, none, 0, rfl, ⟨World.ownsRow_nil _ _ _ _, ⟨[], ⟨World.ownsRow_nil _ _ _ _, rfl, OwnHL.nil⟩, rfl, fun g hg => by rcases hg with hg | ⟨x, hx, _⟩; cases hg; cases hx⟩, fun g hg => by cases hg⟩, by repeat (first | exact H_5.out | refine Below.setCell ?_ (by first | omega | (dsimp only; omega) | (simp; omega)) _ | refine g_chain ?_ (below_a1 _ _))⟩
  | true =>
    rw [hv] at C
    have HFB := Lib.hid hv
    clear hv
    go_enter Try.func47, Try.ntmps47
    go_wp2_with fail
    refine (C.out _ H_1.out).mono ?_
    rintro e w1 ⟨rfl, hb⟩
    have H_15 := Lib.hid (g_chain H_1.out hb)
    clear H_1
    have BX_16 := Lib.hid (BX_2.out.below hb)
    clear BX_2
    have BS_17 := Lib.hid (BS_3.out.below hb)
    clear BS_3
    have BZ_18 := Lib.hid (BZ_4.out.below hb)
    clear BZ_4
    have sz_19 := Lib.hid (Below.size hb)
    clear hb
    have hs1 : w.heap.size ≤ w1.heap.size := H_15.out.size
    have x_20 := BX_16.out.cell (i := 0) rfl
    have x_21 := BX_16.out.cell (i := 1) rfl
    have x_22 := BX_16.out.cell (i := 2) rfl
    go_wp2_with fail
    refine (CF.out _ H_15.out).mono ?_
    rintro e w2 ⟨A2, c2, B2, d2, rfl, ho, hb⟩
    clear x_20
    clear x_21
    clear x_22
    have H_23 := Lib.hid (g_chain H_15.out hb)
    clear H_15
    have BX_24 := Lib.hid (BX_16.out.below hb)
    clear BX_16
    have BS_25 := Lib.hid (BS_17.out.below hb)
    clear BS_17
    have BZ_26 := Lib.hid (BZ_18.out.below hb)
    clear BZ_18
    have sz_27 := Lib.hid (Below.size hb)
    clear hb
    obtain ⟨bs2, hoh, hmap, hrng⟩ := ho.s
    have hoe := ho.e
    have OE := Lib.hid (own_monoG (lo' := w.heap.size) hoe hs1)
    have OH := Lib.hid (hoh.mono hs1)
    have hmx := Lib.hid hmap
    clear ho hoh hoe hrng hmap
    have hb_28 := below_a1 w2 (.cells #[.int .i64 N, .slice A2 n c2, .slice B2 m d2] 26)
    have sz_29 := Lib.hid BX_24.out.lt
    have sz_30 := Lib.hid BS_25.out.lt
    have sz_31 := Lib.hid BZ_26.out.lt
    have H_32 := Lib.hid (g_chain H_23.out hb_28)
    clear H_23
    have BX_33 := Lib.hid (BX_24.out.below hb_28)
    clear BX_24
    have BS_34 := Lib.hid (BS_25.out.below hb_28)
    clear BS_25
    have BZ_35 := Lib.hid (BZ_26.out.below hb_28)
    clear BZ_26
    have sz_36 := Lib.hid (Below.size hb_28)
    clear hb_28
    have BO_37 : Hid (Blk (w2.alloc (.cells #[.int .i64 N, .slice A2 n c2, .slice B2 m d2] 26)) (w2.heap.size) #[.int .i64 N, .slice A2 n c2, .slice B2 m d2] 26) := Lib.hid (by have h := Blk.new w2 #[.int .i64 N, .slice A2 n c2, .slice B2 m d2] 26; simpa using h)
    have sz_38 : Hid (w2.heap.size + 1 ≤ (w2.alloc (.cells #[.int .i64 N, .slice A2 n c2, .slice B2 m d2] 26)).heap.size) := Lib.hid (by simp)
    have OE1 := Lib.hid (own_below OE.out (below_a1 _ (.cells #[.int .i64 N, .slice A2 n c2, .slice B2 m d2] 26)))
    have OH1 := Lib.hid (OH.out.below (below_a1 _ (.cells #[.int .i64 N, .slice A2 n c2, .slice B2 m d2] 26)))
    clear OE OH
    have hzo : w.heap.size + 2 < w2.heap.size := by have := sz0.out; have := sz_19.out; have := sz_27.out; have := sz_29.out; have := sz_30.out; have := sz_31.out; have := sz_36.out; have := sz_38.out; omega
    have x_39 := BS_34.out.cell (i := 0) rfl
    have x_40 := BS_34.out.cell (i := 1) rfl
    have x_41 := BS_34.out.cell (i := 2) rfl
    have x_42 := BS_34.out.cell (i := 3) rfl
    have x_43 := BS_34.out.cell (i := 4) rfl
    have fz_44 := fun i => BS_34.out.frozen i
    have lt_45 := BS_34.out.lt
    go_wp2
    clear x_39 x_40 x_41 x_42 x_43 fz_44 lt_45
    go_loopw [19] (fun i wr => ∃ (j : Nat) (cur : List HE), j ≤ k ∧ i = .int .i64 (j : Int) ∧ Hid (OwnH wr w.heap.size B2 m d2 cur) ∧ Hid (cur.map HE.sd = putL (sdL bs) (us.take j)) ∧ Hid (∀ y ∈ us.take j, fitB (sdL bs) y = true) ∧ Hid (Blk wr w.heap.size #[.int .i64 N, .slice A n c, .slice B m d] 26) ∧ Hid (Blk wr (w.heap.size + 2) #[.int .i64 0, .slice none 0 0, .slice none 0 0] 26) ∧ Hid (Blk wr (w2.heap.size) #[.int .i64 N, .slice A2 n c2, .slice B2 m d2] 26) ∧ Hid (wr.ownsRow w.heap.size 3 1 (.slice A2 n c2) n (vi E)) ∧ Hid (Below w.heap.size w wr)) (fun i _ => k - (intOf i).toNat)
    case atStart => exact ⟨0, bs2, Nat.zero_le _, rfl, OH1, hmx, Lib.hid (by simp), BX_33, BZ_35, BO_37, OE1, H_32⟩
    case round =>
      clear BX_33 BZ_35 BO_37 H_32 BS_34 OE1 OH1 hmx
      obtain ⟨j, cur, hj, rfl, ho, hsd, hfit, hbx, hbz, hbo, hoe, hbel⟩ := hrel
      by_cases hlt : j < k
      · skip
        obtain ⟨b, off, x, rfl, hbw, hx, c0, c1, c2', c3, c4, c5, c6⟩ := HU.out.at_ hlt
        have c0 := (hbel.out.cell (p := ⟨b, off + j * 7, none⟩) hbw).trans c0
        have c1 := (hbel.out.cell (p := ⟨b, off + j * 7 + 1, none⟩) hbw).trans c1
        have c2' := (hbel.out.cell (p := ⟨b, off + j * 7 + 2, none⟩) hbw).trans c2'
        have c3 := (hbel.out.cell (p := ⟨b, off + j * 7 + 3, none⟩) hbw).trans c3
        have c4 := (hbel.out.cell (p := ⟨b, off + j * 7 + 4, none⟩) hbw).trans c4
        have c5 := (hbel.out.cell (p := ⟨b, off + j * 7 + 5, none⟩) hbw).trans c5
        have c6 := (hbel.out.cell (p := ⟨b, off + j * 7 + 6, none⟩) hbw).trans c6
        have HMX := Lib.hid (List.mem_of_getElem? hx.out)
        have HST := Lib.hid (fun (h : fitB (sdL bs) x = true) => fits_step hx.out hfit.out h)
        have HPS := Lib.hid (putL_step (l := sdL bs) hx.out)
        have HFE : Hid (fitB (cur.map HE.sd) x = fitB (sdL bs) x) := Lib.hid (by rw [hsd.out]; exact fit_putL hfit.out)
        clear hx hfit
        obtain ⟨xs, xp, ef, et, ew, ei, ev⟩ := x
        simp only at c0 c1 c2' c3 c4 c5 c6
        have hzo := Lib.hid hzo
        have x_501 := hbx.out.cell (i := 0) rfl
        have x_502 := hbx.out.cell (i := 1) rfl
        have x_503 := hbx.out.cell (i := 2) rfl
        have fz_504 := fun i => hbx.out.frozen i
        have lt_505 := hbx.out.lt
        have x_506 := hbo.out.cell (i := 0) rfl
        have x_507 := hbo.out.cell (i := 1) rfl
        have x_508 := hbo.out.cell (i := 2) rfl
        have fz_509 := fun i => hbo.out.frozen i
        have lt_510 := hbo.out.lt
        have hbzl := hbz.out.lt
        by_cases h1 : xs < 0
        · skip
          have HNO : Hid (putB N E (sdL bs) us = false) := Lib.hid (put_no2 HMX.out (fit_neg (x := (⟨xs, xp, ⟨ef, et, ew, ei, ev⟩⟩ : LE)) h1))
          have x_511 := hbz.out.cell (i := 0) rfl
          have x_512 := hbz.out.cell (i := 1) rfl
          have x_513 := hbz.out.cell (i := 2) rfl
          have fz_514 := fun i => hbz.out.frozen i
          have lt_515 := hbz.out.lt
          go_wp2
          refine bodyPost_ret (v := .tuple #[.agg #[.int .i64 0, .slice none 0 0, .slice none 0 0], .bool false]) (by simp [results, Try.results47, go_sem, x_511, x_512, x_513, lt_515]) rfl ?_
          rw [HNO.out, (fp_no HNO.out).1, (fp_no HNO.out).2.1, (fp_no HNO.out).2.2]
          exact ⟨none, 0, none, 0, rfl, ⟨World.ownsRow_nil _ _ _ _, ⟨[], ⟨World.ownsRow_nil _ _ _ _, rfl, OwnHL.nil⟩, rfl, fun g hg => by rcases hg with hg | ⟨x, hx, _⟩; cases hg; cases hx⟩, fun g hg => by cases hg⟩, by repeat (first | exact hbel.out | refine Below.setCell ?_ (by first | omega | (dsimp only; omega) | (simp; omega)) _ | refine g_chain ?_ (below_a1 _ _))⟩
        have h1' : 0 ≤ xs := by omega
        clear h1
        by_cases h2 : (m : Int) ≤ xs
        · skip
          have HNO : Hid (putB N E (sdL bs) us = false) := Lib.hid (put_no2 HMX.out (fit_big (x := (⟨xs, xp, ⟨ef, et, ew, ei, ev⟩⟩ : LE)) (by rw [HL.out]; exact h2)))
          have x_516 := hbz.out.cell (i := 0) rfl
          have x_517 := hbz.out.cell (i := 1) rfl
          have x_518 := hbz.out.cell (i := 2) rfl
          have fz_519 := fun i => hbz.out.frozen i
          have lt_520 := hbz.out.lt
          go_wp2
          refine bodyPost_ret (v := .tuple #[.agg #[.int .i64 0, .slice none 0 0, .slice none 0 0], .bool false]) (by simp [results, Try.results47, go_sem, x_516, x_517, x_518, lt_520]) rfl ?_
          rw [HNO.out, (fp_no HNO.out).1, (fp_no HNO.out).2.1, (fp_no HNO.out).2.2]
          exact ⟨none, 0, none, 0, rfl, ⟨World.ownsRow_nil _ _ _ _, ⟨[], ⟨World.ownsRow_nil _ _ _ _, rfl, OwnHL.nil⟩, rfl, fun g hg => by rcases hg with hg | ⟨x, hx, _⟩; cases hg; cases hx⟩, fun g hg => by cases hg⟩, by repeat (first | exact hbel.out | refine Below.setCell ?_ (by first | omega | (dsimp only; omega) | (simp; omega)) _ | refine g_chain ?_ (below_a1 _ _))⟩
        have h2' : xs < (m : Int) := by omega
        clear h2
        by_cases h3 : xp < 0
        · skip
          have HNO : Hid (putB N E (sdL bs) us = false) := Lib.hid (put_no2 HMX.out (fit_pneg (x := (⟨xs, xp, ⟨ef, et, ew, ei, ev⟩⟩ : LE)) h3))
          have x_521 := hbz.out.cell (i := 0) rfl
          have x_522 := hbz.out.cell (i := 1) rfl
          have x_523 := hbz.out.cell (i := 2) rfl
          have fz_524 := fun i => hbz.out.frozen i
          have lt_525 := hbz.out.lt
          go_wp2
          refine bodyPost_ret (v := .tuple #[.agg #[.int .i64 0, .slice none 0 0, .slice none 0 0], .bool false]) (by simp [results, Try.results47, go_sem, x_521, x_522, x_523, lt_525]) rfl ?_
          rw [HNO.out, (fp_no HNO.out).1, (fp_no HNO.out).2.1, (fp_no HNO.out).2.2]
          exact ⟨none, 0, none, 0, rfl, ⟨World.ownsRow_nil _ _ _ _, ⟨[], ⟨World.ownsRow_nil _ _ _ _, rfl, OwnHL.nil⟩, rfl, fun g hg => by rcases hg with hg | ⟨x, hx, _⟩; cases hg; cases hx⟩, fun g hg => by cases hg⟩, by repeat (first | exact hbel.out | refine Below.setCell ?_ (by first | omega | (dsimp only; omega) | (simp; omega)) _ | refine g_chain ?_ (below_a1 _ _))⟩
        have h3' : 0 ≤ xp := by omega
        clear h3
        by_cases h4 : ev < 0
        · skip
          have HNO : Hid (putB N E (sdL bs) us = false) := Lib.hid (put_no2 HMX.out (fit_val (x := (⟨xs, xp, ⟨ef, et, ew, ei, ev⟩⟩ : LE)) (by show valB ev = false; unfold valB; rw [decide_eq_false]; omega)))
          have x_526 := hbz.out.cell (i := 0) rfl
          have x_527 := hbz.out.cell (i := 1) rfl
          have x_528 := hbz.out.cell (i := 2) rfl
          have fz_529 := fun i => hbz.out.frozen i
          have lt_530 := hbz.out.lt
          go_wp2
          refine bodyPost_ret (v := .tuple #[.agg #[.int .i64 0, .slice none 0 0, .slice none 0 0], .bool false]) (by simp [results, Try.results47, go_sem, x_526, x_527, x_528, lt_530]) rfl ?_
          rw [HNO.out, (fp_no HNO.out).1, (fp_no HNO.out).2.1, (fp_no HNO.out).2.2]
          exact ⟨none, 0, none, 0, rfl, ⟨World.ownsRow_nil _ _ _ _, ⟨[], ⟨World.ownsRow_nil _ _ _ _, rfl, OwnHL.nil⟩, rfl, fun g hg => by rcases hg with hg | ⟨x, hx, _⟩; cases hg; cases hx⟩, fun g hg => by cases hg⟩, by repeat (first | exact hbel.out | refine Below.setCell ?_ (by first | omega | (dsimp only; omega) | (simp; omega)) _ | refine g_chain ?_ (below_a1 _ _))⟩
        have h4' : 0 ≤ ev := by omega
        clear h4
        by_cases h5 : 1099511627776 < ev
        · skip
          have HNO : Hid (putB N E (sdL bs) us = false) := Lib.hid (put_no2 HMX.out (fit_val (x := (⟨xs, xp, ⟨ef, et, ew, ei, ev⟩⟩ : LE)) (by show valB ev = false; unfold valB; rw [decide_eq_false]; omega)))
          have x_531 := hbz.out.cell (i := 0) rfl
          have x_532 := hbz.out.cell (i := 1) rfl
          have x_533 := hbz.out.cell (i := 2) rfl
          have fz_534 := fun i => hbz.out.frozen i
          have lt_535 := hbz.out.lt
          go_wp2
          refine bodyPost_ret (v := .tuple #[.agg #[.int .i64 0, .slice none 0 0, .slice none 0 0], .bool false]) (by simp [results, Try.results47, go_sem, x_531, x_532, x_533, lt_535]) rfl ?_
          rw [HNO.out, (fp_no HNO.out).1, (fp_no HNO.out).2.1, (fp_no HNO.out).2.2]
          exact ⟨none, 0, none, 0, rfl, ⟨World.ownsRow_nil _ _ _ _, ⟨[], ⟨World.ownsRow_nil _ _ _ _, rfl, OwnHL.nil⟩, rfl, fun g hg => by rcases hg with hg | ⟨x, hx, _⟩; cases hg; cases hx⟩, fun g hg => by cases hg⟩, by repeat (first | exact hbel.out | refine Below.setCell ?_ (by first | omega | (dsimp only; omega) | (simp; omega)) _ | refine g_chain ?_ (below_a1 _ _))⟩
        have h5' : ev ≤ 1099511627776 := by omega
        clear h5
        have HV : Hid (valB ev = true) := Lib.hid (by unfold valB; exact decide_eq_true ⟨h4', h5'⟩)
        obtain ⟨q, rfl⟩ : ∃ q : Nat, xs = (q : Int) := ⟨xs.toNat, by omega⟩
        have hqm : q < m := by omega
        obtain ⟨b2, off2, e, rfl, hbw2, he, hok, s0, s1, s2⟩ := HB.out.at_ hqm
        obtain ⟨elo, ehi, eA, en, ec, ees⟩ := e
        simp only at s0 s1 s2
        have hen : en ≤ 1048576 := HS.out _ (List.mem_of_getElem? he.out)
        have HG3 := Lib.hid (sdL_get3 he.out)
        have HRE := Lib.hid hok.out.rd
        have HEL := Lib.hid hok.out.rd.len
        have hqc : (0 : Int) ≤ (q : Int) ∧ (q : Int) < (m : Int) := by omega
        clear hok he h1' h2'
        by_cases h6 : (en : Int) ≤ xp
        · skip
          have hxs : wr.heap.size ≤ (wr.alloc (.cells #[.int .i64 (q : Int), .int .i64 xp, .int .i64 ef, .int .i64 et, .int .i64 ew, .int .i64 ei, .int .i64 ev] 42)).heap.size := by simp
          have hb_536 := below_a1 wr (.cells #[.int .i64 (q : Int), .int .i64 xp, .int .i64 ef, .int .i64 et, .int .i64 ew, .int .i64 ei, .int .i64 ev] 42)
          have sz_537 := Lib.hid hbx.out.lt
          have sz_538 := Lib.hid hbz.out.lt
          have sz_539 := Lib.hid hbo.out.lt
          have LT_540 := Lib.hid hoe.out.lt
          have OH_541 := Lib.hid (ho.out.below hb_536)
          have BX_542 := Lib.hid (hbx.out.below hb_536)
          have BZ_543 := Lib.hid (hbz.out.below hb_536)
          have BO_544 := Lib.hid (hbo.out.below hb_536)
          have OE_545 := Lib.hid (own_below hoe.out hb_536)
          have H_546 := Lib.hid (g_chain hbel.out hb_536)
          have sz_547 := Lib.hid (Below.size hb_536)
          clear hb_536
          have XB_548 : Hid (Blk (wr.alloc (.cells #[.int .i64 (q : Int), .int .i64 xp, .int .i64 ef, .int .i64 et, .int .i64 ew, .int .i64 ei, .int .i64 ev] 42)) (wr.heap.size) #[.int .i64 (q : Int), .int .i64 xp, .int .i64 ef, .int .i64 et, .int .i64 ew, .int .i64 ei, .int .i64 ev] 42) := Lib.hid (by have h := Blk.new wr #[.int .i64 (q : Int), .int .i64 xp, .int .i64 ef, .int .i64 et, .int .i64 ew, .int .i64 ei, .int .i64 ev] 42; simpa using h)
          have sz_549 : Hid (wr.heap.size + 1 ≤ (wr.alloc (.cells #[.int .i64 (q : Int), .int .i64 xp, .int .i64 ef, .int .i64 et, .int .i64 ew, .int .i64 ei, .int .i64 ev] 42)).heap.size) := Lib.hid (by simp)
          go_upto_region 9 with fail
          refine wp_region_any (by kernel_rfl) ?_
          change wpAny _ _ _ _ _ _ _ (World.drew _)
          have hb : Below (wr.alloc (.cells #[.int .i64 (q : Int), .int .i64 xp, .int .i64 ef, .int .i64 et, .int .i64 ew, .int .i64 ei, .int .i64 ev] 42)).heap.size (wr.alloc (.cells #[.int .i64 (q : Int), .int .i64 xp, .int .i64 ef, .int .i64 et, .int .i64 ew, .int .i64 ei, .int .i64 ev] 42)) (World.drew (wr.alloc (.cells #[.int .i64 (q : Int), .int .i64 xp, .int .i64 ef, .int .i64 et, .int .i64 ew, .int .i64 ei, .int .i64 ev] 42))) := (Below.refl _ _).drew
          have OH_550 := Lib.hid (OH_541.out.below hb)
          clear OH_541
          have BX_551 := Lib.hid (BX_542.out.below hb)
          clear BX_542
          have BZ_552 := Lib.hid (BZ_543.out.below hb)
          clear BZ_543
          have BO_553 := Lib.hid (BO_544.out.below hb)
          clear BO_544
          have OE_554 := Lib.hid (own_below OE_545.out hb)
          clear OE_545
          have H_555 := Lib.hid (g_chain H_546.out hb)
          clear H_546
          have XB_556 := Lib.hid (XB_548.out.below hb)
          clear XB_548
          have sz_557 := Lib.hid (Below.size hb)
          clear hb
          generalize hDD : World.drew (wr.alloc (.cells #[.int .i64 (q : Int), .int .i64 xp, .int .i64 ef, .int .i64 et, .int .i64 ew, .int .i64 ei, .int .i64 ev] 42)) = W5 at OH_550 BX_551 BZ_552 BO_553 OE_554 H_555 XB_556 sz_557 ⊢
          clear hDD
          refine wpAny_of_held (S := fun W => W.cell? ⟨w.heap.size, 0, none⟩ = some (.int .i64 N) ∧ W.cell? ⟨w.heap.size, 1, none⟩ = some (.slice A n c) ∧ W.cell? ⟨w.heap.size, 2, none⟩ = some (.slice (some ⟨b2, off2, none⟩) m d) ∧ W.cell? ⟨wr.heap.size, 0, none⟩ = some (.int .i64 (q : Int)) ∧ W.cell? ⟨wr.heap.size, 1, none⟩ = some (.int .i64 xp) ∧ W.cell? ⟨wr.heap.size, 2, none⟩ = some (.int .i64 ef) ∧ W.cell? ⟨wr.heap.size, 3, none⟩ = some (.int .i64 et) ∧ W.cell? ⟨wr.heap.size, 4, none⟩ = some (.int .i64 ew) ∧ W.cell? ⟨wr.heap.size, 5, none⟩ = some (.int .i64 ei) ∧ W.cell? ⟨wr.heap.size, 6, none⟩ = some (.int .i64 ev) ∧ W.cell? ⟨b2, off2 + q * 3 + 2, none⟩ = some (.slice eA en ec)) _ _ _ _ ?_
          refine held_nameU ⟨BX_551.out.cell (i := 0) rfl, BX_551.out.cell (i := 1) rfl, BX_551.out.cell (i := 2) rfl, XB_556.out.cell (i := 0) rfl, XB_556.out.cell (i := 1) rfl, XB_556.out.cell (i := 2) rfl, XB_556.out.cell (i := 3) rfl, XB_556.out.cell (i := 4) rfl, XB_556.out.cell (i := 5) rfl, XB_556.out.cell (i := 6) rfl, (H_555.out.cell (p := ⟨b2, off2 + q * 3 + 2, none⟩) hbw2).trans s2⟩ (fun hS => ?_)
          refine wpAnyH_take (i := 0) (oi := ⟨_, _, _, _, _, _⟩) (v := .pointer (some ⟨wr.heap.size, 1, none⟩)) rfl (by kernel_rfl) (by kernel_rfl) (by kernel_rfl) (fun _ _ _ h => h) (Or.inl ⟨by kernel_rfl, fun W hS => by (obtain ⟨s0', s1', s2', s3', s4', s5', s6', s7', s8', s9', s10'⟩ := hS); go_simp⟩) hS ?_
          (try simp only [Act.put, List.setIfInBounds_toArray, List.set_cons_zero, List.set_cons_succ])
          refine wpAnyH_take (i := 1) (oi := ⟨_, _, _, _, _, _⟩) (v := .int .i64 xp) rfl (by kernel_rfl) (by kernel_rfl) (by kernel_rfl) (fun _ _ _ h => h) (Or.inl ⟨by kernel_rfl, fun W hS => by (obtain ⟨s0', s1', s2', s3', s4', s5', s6', s7', s8', s9', s10'⟩ := hS); go_simp⟩) hS ?_
          (try simp only [Act.put, List.setIfInBounds_toArray, List.set_cons_zero, List.set_cons_succ])
          refine wpAnyH_take (i := 2) (oi := ⟨_, _, _, _, _, _⟩) (v := .pointer (some ⟨w.heap.size, 2, none⟩)) rfl (by kernel_rfl) (by kernel_rfl) (by kernel_rfl) (fun _ _ _ h => h) (Or.inl ⟨by kernel_rfl, fun W hS => by (obtain ⟨s0', s1', s2', s3', s4', s5', s6', s7', s8', s9', s10'⟩ := hS); go_simp⟩) hS ?_
          (try simp only [Act.put, List.setIfInBounds_toArray, List.set_cons_zero, List.set_cons_succ])
          refine wpAnyH_take (i := 3) (oi := ⟨_, _, _, _, _, _⟩) (v := .slice (some ⟨b2, off2, none⟩) m d) rfl (by kernel_rfl) (by kernel_rfl) (by kernel_rfl) (fun _ _ _ h => h) (Or.inl ⟨by kernel_rfl, fun W hS => by (obtain ⟨s0', s1', s2', s3', s4', s5', s6', s7', s8', s9', s10'⟩ := hS); go_simp⟩) hS ?_
          (try simp only [Act.put, List.setIfInBounds_toArray, List.set_cons_zero, List.set_cons_succ])
          refine wpAnyH_take (i := 4) (oi := ⟨_, _, _, _, _, _⟩) (v := .pointer (some ⟨wr.heap.size, 0, none⟩)) rfl (by kernel_rfl) (by kernel_rfl) (by kernel_rfl) (fun _ _ _ h => h) (Or.inl ⟨by kernel_rfl, fun W hS => by (obtain ⟨s0', s1', s2', s3', s4', s5', s6', s7', s8', s9', s10'⟩ := hS); go_simp⟩) hS ?_
          (try simp only [Act.put, List.setIfInBounds_toArray, List.set_cons_zero, List.set_cons_succ])
          refine wpAnyH_take (i := 5) (oi := ⟨_, _, _, _, _, _⟩) (v := .int .i64 (q : Int)) rfl (by kernel_rfl) (by kernel_rfl) (by kernel_rfl) (fun _ _ _ h => h) (Or.inl ⟨by kernel_rfl, fun W hS => by (obtain ⟨s0', s1', s2', s3', s4', s5', s6', s7', s8', s9', s10'⟩ := hS); go_simp⟩) hS ?_
          (try simp only [Act.put, List.setIfInBounds_toArray, List.set_cons_zero, List.set_cons_succ])
          refine wpAnyH_take (i := 6) (oi := ⟨_, _, _, _, _, _⟩) (v := .pointer (some ⟨b2, off2 + q * 3, none⟩)) rfl (by kernel_rfl) (by kernel_rfl) (by kernel_rfl) (fun _ _ _ h => h) (Or.inl ⟨by kernel_rfl, fun W hS => by (obtain ⟨s0', s1', s2', s3', s4', s5', s6', s7', s8', s9', s10'⟩ := hS); go_simp⟩) hS ?_
          (try simp only [Act.put, List.setIfInBounds_toArray, List.set_cons_zero, List.set_cons_succ])
          refine wpAnyH_take (i := 7) (oi := ⟨_, _, _, _, _, _⟩) (v := .pointer (some ⟨b2, off2 + q * 3 + 2, none⟩)) rfl (by kernel_rfl) (by kernel_rfl) (by kernel_rfl) (fun _ _ _ h => h) (Or.inl ⟨by kernel_rfl, fun W hS => by (obtain ⟨s0', s1', s2', s3', s4', s5', s6', s7', s8', s9', s10'⟩ := hS); go_simp⟩) hS ?_
          (try simp only [Act.put, List.setIfInBounds_toArray, List.set_cons_zero, List.set_cons_succ])
          refine wpAnyH_take (i := 8) (oi := ⟨_, _, _, _, _, _⟩) (v := .slice eA en ec) rfl (by kernel_rfl) (by kernel_rfl) (by kernel_rfl) (fun _ _ _ h => h) (Or.inl ⟨by kernel_rfl, fun W hS => by (obtain ⟨s0', s1', s2', s3', s4', s5', s6', s7', s8', s9', s10'⟩ := hS); go_simp⟩) hS ?_
          (try simp only [Act.put, List.setIfInBounds_toArray, List.set_cons_zero, List.set_cons_succ])
          refine wpAnyH_take (i := 9) (oi := ⟨_, _, _, _, _, _⟩) (v := .int .i64 ((en : Nat) : Int)) rfl (by kernel_rfl) (by kernel_rfl) (by kernel_rfl) (fun _ _ _ h => h) (Or.inl ⟨by kernel_rfl, fun W hS => by (obtain ⟨s0', s1', s2', s3', s4', s5', s6', s7', s8', s9', s10'⟩ := hS); go_simp⟩) hS ?_
          (try simp only [Act.put, List.setIfInBounds_toArray, List.set_cons_zero, List.set_cons_succ])
          refine wpAnyH_take (i := 10) (oi := ⟨_, _, _, _, _, _⟩) (v := .bool true) rfl (by kernel_rfl) (by kernel_rfl) (by kernel_rfl) (fun _ _ _ h => h) (Or.inl ⟨by kernel_rfl, fun W hS => by (obtain ⟨s0', s1', s2', s3', s4', s5', s6', s7', s8', s9', s10'⟩ := hS); go_simp⟩) hS ?_
          (try simp only [Act.put, List.setIfInBounds_toArray, List.set_cons_zero, List.set_cons_succ])
          refine wpAnyH_done (by kernel_rfl) ?_ _
          have HNO : Hid (putB N E (sdL bs) us = false) := Lib.hid (put_no2 HMX.out (fit_pbig (x := (⟨(q : Int), xp, ⟨ef, et, ew, ei, ev⟩⟩ : LE)) rfl HG3.out (by show (ees.length : Int) ≤ xp; rw [HEL.out]; exact h6)))
          have x_558 := BZ_552.out.cell (i := 0) rfl
          have x_559 := BZ_552.out.cell (i := 1) rfl
          have x_560 := BZ_552.out.cell (i := 2) rfl
          have fz_561 := fun i => BZ_552.out.frozen i
          have lt_562 := BZ_552.out.lt
          go_wp2
          refine bodyPost_ret (v := .tuple #[.agg #[.int .i64 0, .slice none 0 0, .slice none 0 0], .bool false]) (by simp [results, Try.results47, go_sem, x_558, x_559, x_560]) rfl ?_
          rw [HNO.out, (fp_no HNO.out).1, (fp_no HNO.out).2.1, (fp_no HNO.out).2.2]
          exact ⟨none, 0, none, 0, rfl, ⟨World.ownsRow_nil _ _ _ _, ⟨[], ⟨World.ownsRow_nil _ _ _ _, rfl, OwnHL.nil⟩, rfl, fun g hg => by rcases hg with hg | ⟨x, hx, _⟩; cases hg; cases hx⟩, fun g hg => by cases hg⟩, by repeat (first | exact H_555.out | refine Below.setCell ?_ (by first | omega | (dsimp only; omega) | (simp; omega)) _ | refine g_chain ?_ (below_a1 _ _))⟩
        obtain ⟨r, rfl⟩ : ∃ r : Nat, xp = (r : Int) := ⟨xp.toNat, by omega⟩
        have hrn : r < en := by omega
        obtain ⟨b3, off3, y, hAA, hbw3, hy, k0, k1, k2, k3, k4⟩ := HRE.out.at_ hrn
        subst hAA
        obtain ⟨yf, yt, yw, yi, yv⟩ := y
        simp only at k0 k1 k2 k3 k4
        have hrc : (0 : Int) ≤ (r : Int) ∧ (r : Int) < (en : Int) := by omega
        have HFA := Lib.hid (fit_at (x := ⟨(q : Int), (r : Int), ⟨ef, et, ew, ei, ev⟩⟩) (j := r) rfl HG3.out rfl hy.out HV.out)
        simp only at HFA
        clear h6 h3' hy HRE HEL
        have hxs : wr.heap.size ≤ (wr.alloc (.cells #[.int .i64 (q : Int), .int .i64 (r : Int), .int .i64 ef, .int .i64 et, .int .i64 ew, .int .i64 ei, .int .i64 ev] 42)).heap.size := by simp
        have hb_563 := below_a1 wr (.cells #[.int .i64 (q : Int), .int .i64 (r : Int), .int .i64 ef, .int .i64 et, .int .i64 ew, .int .i64 ei, .int .i64 ev] 42)
        have sz_564 := Lib.hid hbx.out.lt
        have sz_565 := Lib.hid hbz.out.lt
        have sz_566 := Lib.hid hbo.out.lt
        have LT_567 := Lib.hid hoe.out.lt
        have OH_568 := Lib.hid (ho.out.below hb_563)
        have BX_569 := Lib.hid (hbx.out.below hb_563)
        have BZ_570 := Lib.hid (hbz.out.below hb_563)
        have BO_571 := Lib.hid (hbo.out.below hb_563)
        have OE_572 := Lib.hid (own_below hoe.out hb_563)
        have H_573 := Lib.hid (g_chain hbel.out hb_563)
        have sz_574 := Lib.hid (Below.size hb_563)
        clear hb_563
        have XB_575 : Hid (Blk (wr.alloc (.cells #[.int .i64 (q : Int), .int .i64 (r : Int), .int .i64 ef, .int .i64 et, .int .i64 ew, .int .i64 ei, .int .i64 ev] 42)) (wr.heap.size) #[.int .i64 (q : Int), .int .i64 (r : Int), .int .i64 ef, .int .i64 et, .int .i64 ew, .int .i64 ei, .int .i64 ev] 42) := Lib.hid (by have h := Blk.new wr #[.int .i64 (q : Int), .int .i64 (r : Int), .int .i64 ef, .int .i64 et, .int .i64 ew, .int .i64 ei, .int .i64 ev] 42; simpa using h)
        have sz_576 : Hid (wr.heap.size + 1 ≤ (wr.alloc (.cells #[.int .i64 (q : Int), .int .i64 (r : Int), .int .i64 ef, .int .i64 et, .int .i64 ew, .int .i64 ei, .int .i64 ev] 42)).heap.size) := Lib.hid (by simp)
        go_upto_region 9 with fail
        refine wp_region_any (by kernel_rfl) ?_
        change wpAny _ _ _ _ _ _ _ (World.drew _)
        have hb : Below (wr.alloc (.cells #[.int .i64 (q : Int), .int .i64 (r : Int), .int .i64 ef, .int .i64 et, .int .i64 ew, .int .i64 ei, .int .i64 ev] 42)).heap.size (wr.alloc (.cells #[.int .i64 (q : Int), .int .i64 (r : Int), .int .i64 ef, .int .i64 et, .int .i64 ew, .int .i64 ei, .int .i64 ev] 42)) (World.drew (wr.alloc (.cells #[.int .i64 (q : Int), .int .i64 (r : Int), .int .i64 ef, .int .i64 et, .int .i64 ew, .int .i64 ei, .int .i64 ev] 42))) := (Below.refl _ _).drew
        have OH_577 := Lib.hid (OH_568.out.below hb)
        clear OH_568
        have BX_578 := Lib.hid (BX_569.out.below hb)
        clear BX_569
        have BZ_579 := Lib.hid (BZ_570.out.below hb)
        clear BZ_570
        have BO_580 := Lib.hid (BO_571.out.below hb)
        clear BO_571
        have OE_581 := Lib.hid (own_below OE_572.out hb)
        clear OE_572
        have H_582 := Lib.hid (g_chain H_573.out hb)
        clear H_573
        have XB_583 := Lib.hid (XB_575.out.below hb)
        clear XB_575
        have sz_584 := Lib.hid (Below.size hb)
        clear hb
        generalize hDD : World.drew (wr.alloc (.cells #[.int .i64 (q : Int), .int .i64 (r : Int), .int .i64 ef, .int .i64 et, .int .i64 ew, .int .i64 ei, .int .i64 ev] 42)) = W5 at OH_577 BX_578 BZ_579 BO_580 OE_581 H_582 XB_583 sz_584 ⊢
        clear hDD
        refine wpAny_of_held (S := fun W => W.cell? ⟨w.heap.size, 0, none⟩ = some (.int .i64 N) ∧ W.cell? ⟨w.heap.size, 1, none⟩ = some (.slice A n c) ∧ W.cell? ⟨w.heap.size, 2, none⟩ = some (.slice (some ⟨b2, off2, none⟩) m d) ∧ W.cell? ⟨wr.heap.size, 0, none⟩ = some (.int .i64 (q : Int)) ∧ W.cell? ⟨wr.heap.size, 1, none⟩ = some (.int .i64 (r : Int)) ∧ W.cell? ⟨wr.heap.size, 2, none⟩ = some (.int .i64 ef) ∧ W.cell? ⟨wr.heap.size, 3, none⟩ = some (.int .i64 et) ∧ W.cell? ⟨wr.heap.size, 4, none⟩ = some (.int .i64 ew) ∧ W.cell? ⟨wr.heap.size, 5, none⟩ = some (.int .i64 ei) ∧ W.cell? ⟨wr.heap.size, 6, none⟩ = some (.int .i64 ev) ∧ W.cell? ⟨b2, off2 + q * 3 + 2, none⟩ = some (.slice (some ⟨b3, off3, none⟩) en ec)) _ _ _ _ ?_
        refine held_nameU ⟨BX_578.out.cell (i := 0) rfl, BX_578.out.cell (i := 1) rfl, BX_578.out.cell (i := 2) rfl, XB_583.out.cell (i := 0) rfl, XB_583.out.cell (i := 1) rfl, XB_583.out.cell (i := 2) rfl, XB_583.out.cell (i := 3) rfl, XB_583.out.cell (i := 4) rfl, XB_583.out.cell (i := 5) rfl, XB_583.out.cell (i := 6) rfl, (H_582.out.cell (p := ⟨b2, off2 + q * 3 + 2, none⟩) hbw2).trans s2⟩ (fun hS => ?_)
        refine wpAnyH_take (i := 0) (oi := ⟨_, _, _, _, _, _⟩) (v := .pointer (some ⟨wr.heap.size, 1, none⟩)) rfl (by kernel_rfl) (by kernel_rfl) (by kernel_rfl) (fun _ _ _ h => h) (Or.inl ⟨by kernel_rfl, fun W hS => by (obtain ⟨s0', s1', s2', s3', s4', s5', s6', s7', s8', s9', s10'⟩ := hS); go_simp⟩) hS ?_
        (try simp only [Act.put, List.setIfInBounds_toArray, List.set_cons_zero, List.set_cons_succ])
        refine wpAnyH_take (i := 1) (oi := ⟨_, _, _, _, _, _⟩) (v := .int .i64 (r : Int)) rfl (by kernel_rfl) (by kernel_rfl) (by kernel_rfl) (fun _ _ _ h => h) (Or.inl ⟨by kernel_rfl, fun W hS => by (obtain ⟨s0', s1', s2', s3', s4', s5', s6', s7', s8', s9', s10'⟩ := hS); go_simp⟩) hS ?_
        (try simp only [Act.put, List.setIfInBounds_toArray, List.set_cons_zero, List.set_cons_succ])
        refine wpAnyH_take (i := 2) (oi := ⟨_, _, _, _, _, _⟩) (v := .pointer (some ⟨w.heap.size, 2, none⟩)) rfl (by kernel_rfl) (by kernel_rfl) (by kernel_rfl) (fun _ _ _ h => h) (Or.inl ⟨by kernel_rfl, fun W hS => by (obtain ⟨s0', s1', s2', s3', s4', s5', s6', s7', s8', s9', s10'⟩ := hS); go_simp⟩) hS ?_
        (try simp only [Act.put, List.setIfInBounds_toArray, List.set_cons_zero, List.set_cons_succ])
        refine wpAnyH_take (i := 3) (oi := ⟨_, _, _, _, _, _⟩) (v := .slice (some ⟨b2, off2, none⟩) m d) rfl (by kernel_rfl) (by kernel_rfl) (by kernel_rfl) (fun _ _ _ h => h) (Or.inl ⟨by kernel_rfl, fun W hS => by (obtain ⟨s0', s1', s2', s3', s4', s5', s6', s7', s8', s9', s10'⟩ := hS); go_simp⟩) hS ?_
        (try simp only [Act.put, List.setIfInBounds_toArray, List.set_cons_zero, List.set_cons_succ])
        refine wpAnyH_take (i := 4) (oi := ⟨_, _, _, _, _, _⟩) (v := .pointer (some ⟨wr.heap.size, 0, none⟩)) rfl (by kernel_rfl) (by kernel_rfl) (by kernel_rfl) (fun _ _ _ h => h) (Or.inl ⟨by kernel_rfl, fun W hS => by (obtain ⟨s0', s1', s2', s3', s4', s5', s6', s7', s8', s9', s10'⟩ := hS); go_simp⟩) hS ?_
        (try simp only [Act.put, List.setIfInBounds_toArray, List.set_cons_zero, List.set_cons_succ])
        refine wpAnyH_take (i := 5) (oi := ⟨_, _, _, _, _, _⟩) (v := .int .i64 (q : Int)) rfl (by kernel_rfl) (by kernel_rfl) (by kernel_rfl) (fun _ _ _ h => h) (Or.inl ⟨by kernel_rfl, fun W hS => by (obtain ⟨s0', s1', s2', s3', s4', s5', s6', s7', s8', s9', s10'⟩ := hS); go_simp⟩) hS ?_
        (try simp only [Act.put, List.setIfInBounds_toArray, List.set_cons_zero, List.set_cons_succ])
        refine wpAnyH_take (i := 6) (oi := ⟨_, _, _, _, _, _⟩) (v := .pointer (some ⟨b2, off2 + q * 3, none⟩)) rfl (by kernel_rfl) (by kernel_rfl) (by kernel_rfl) (fun _ _ _ h => h) (Or.inl ⟨by kernel_rfl, fun W hS => by (obtain ⟨s0', s1', s2', s3', s4', s5', s6', s7', s8', s9', s10'⟩ := hS); go_simp⟩) hS ?_
        (try simp only [Act.put, List.setIfInBounds_toArray, List.set_cons_zero, List.set_cons_succ])
        refine wpAnyH_take (i := 7) (oi := ⟨_, _, _, _, _, _⟩) (v := .pointer (some ⟨b2, off2 + q * 3 + 2, none⟩)) rfl (by kernel_rfl) (by kernel_rfl) (by kernel_rfl) (fun _ _ _ h => h) (Or.inl ⟨by kernel_rfl, fun W hS => by (obtain ⟨s0', s1', s2', s3', s4', s5', s6', s7', s8', s9', s10'⟩ := hS); go_simp⟩) hS ?_
        (try simp only [Act.put, List.setIfInBounds_toArray, List.set_cons_zero, List.set_cons_succ])
        refine wpAnyH_take (i := 8) (oi := ⟨_, _, _, _, _, _⟩) (v := .slice (some ⟨b3, off3, none⟩) en ec) rfl (by kernel_rfl) (by kernel_rfl) (by kernel_rfl) (fun _ _ _ h => h) (Or.inl ⟨by kernel_rfl, fun W hS => by (obtain ⟨s0', s1', s2', s3', s4', s5', s6', s7', s8', s9', s10'⟩ := hS); go_simp⟩) hS ?_
        (try simp only [Act.put, List.setIfInBounds_toArray, List.set_cons_zero, List.set_cons_succ])
        refine wpAnyH_take (i := 9) (oi := ⟨_, _, _, _, _, _⟩) (v := .int .i64 ((en : Nat) : Int)) rfl (by kernel_rfl) (by kernel_rfl) (by kernel_rfl) (fun _ _ _ h => h) (Or.inl ⟨by kernel_rfl, fun W hS => by (obtain ⟨s0', s1', s2', s3', s4', s5', s6', s7', s8', s9', s10'⟩ := hS); go_simp⟩) hS ?_
        (try simp only [Act.put, List.setIfInBounds_toArray, List.set_cons_zero, List.set_cons_succ])
        refine wpAnyH_take (i := 10) (oi := ⟨_, _, _, _, _, _⟩) (v := .bool false) rfl (by kernel_rfl) (by kernel_rfl) (by kernel_rfl) (fun _ _ _ h => h) (Or.inl ⟨by kernel_rfl, fun W hS => by (obtain ⟨s0', s1', s2', s3', s4', s5', s6', s7', s8', s9', s10'⟩ := hS); go_simp⟩) hS ?_
        (try simp only [Act.put, List.setIfInBounds_toArray, List.set_cons_zero, List.set_cons_succ])
        refine wpAnyH_done (by kernel_rfl) ?_ _
        clear c0 c1 c2' c3 c4 c5 c6 x_501 x_502 x_503 fz_504 lt_505 x_506 x_507 x_508 fz_509 lt_510 hbzl
        have x_585 := BX_578.out.cell (i := 0) rfl
        have x_586 := BX_578.out.cell (i := 1) rfl
        have x_587 := BX_578.out.cell (i := 2) rfl
        have fz_588 := fun i => BX_578.out.frozen i
        have lt_589 := BX_578.out.lt
        have x_590 := XB_583.out.cell (i := 0) rfl
        have x_591 := XB_583.out.cell (i := 1) rfl
        have x_592 := XB_583.out.cell (i := 2) rfl
        have x_593 := XB_583.out.cell (i := 3) rfl
        have x_594 := XB_583.out.cell (i := 4) rfl
        have x_595 := XB_583.out.cell (i := 5) rfl
        have x_596 := XB_583.out.cell (i := 6) rfl
        have fz_597 := fun i => XB_583.out.frozen i
        have lt_598 := XB_583.out.lt
        go_upto_region 11 with fail
        refine wp_region_any (by kernel_rfl) ?_
        change wpAny _ _ _ _ _ _ _ (World.drew _)
        have hb : Below W5.heap.size W5 (World.drew W5) := (Below.refl _ _).drew
        have OH_599 := Lib.hid (OH_577.out.below hb)
        clear OH_577
        have BX_600 := Lib.hid (BX_578.out.below hb)
        clear BX_578
        have BZ_601 := Lib.hid (BZ_579.out.below hb)
        clear BZ_579
        have BO_602 := Lib.hid (BO_580.out.below hb)
        clear BO_580
        have OE_603 := Lib.hid (own_below OE_581.out hb)
        clear OE_581
        have H_604 := Lib.hid (g_chain H_582.out hb)
        clear H_582
        have XB_605 := Lib.hid (XB_583.out.below hb)
        clear XB_583
        have sz_606 := Lib.hid (Below.size hb)
        clear hb
        generalize hDD : World.drew W5 = W6 at OH_599 BX_600 BZ_601 BO_602 OE_603 H_604 XB_605 sz_606 ⊢
        clear hDD
        refine wpAny_of_held (S := fun W => W.cell? ⟨w.heap.size, 0, none⟩ = some (.int .i64 N) ∧ W.cell? ⟨w.heap.size, 1, none⟩ = some (.slice A n c) ∧ W.cell? ⟨w.heap.size, 2, none⟩ = some (.slice (some ⟨b2, off2, none⟩) m d) ∧ W.cell? ⟨wr.heap.size, 0, none⟩ = some (.int .i64 (q : Int)) ∧ W.cell? ⟨wr.heap.size, 1, none⟩ = some (.int .i64 (r : Int)) ∧ W.cell? ⟨wr.heap.size, 2, none⟩ = some (.int .i64 ef) ∧ W.cell? ⟨wr.heap.size, 3, none⟩ = some (.int .i64 et) ∧ W.cell? ⟨wr.heap.size, 4, none⟩ = some (.int .i64 ew) ∧ W.cell? ⟨wr.heap.size, 5, none⟩ = some (.int .i64 ei) ∧ W.cell? ⟨wr.heap.size, 6, none⟩ = some (.int .i64 ev) ∧ W.cell? ⟨b2, off2 + q * 3 + 2, none⟩ = some (.slice (some ⟨b3, off3, none⟩) en ec) ∧ W.cell? ⟨b3, off3 + r * 5, none⟩ = some (.int .i64 yf) ∧ W.cell? ⟨b3, off3 + r * 5 + 1, none⟩ = some (.int .i64 yt) ∧ W.cell? ⟨b3, off3 + r * 5 + 2, none⟩ = some (.int .i64 yw) ∧ W.cell? ⟨b3, off3 + r * 5 + 3, none⟩ = some (.int .i64 yi) ∧ W.cell? ⟨b3, off3 + r * 5 + 4, none⟩ = some (.int .i64 yv)) _ _ _ _ ?_
        refine held_nameU ⟨BX_600.out.cell (i := 0) rfl, BX_600.out.cell (i := 1) rfl, BX_600.out.cell (i := 2) rfl, XB_605.out.cell (i := 0) rfl, XB_605.out.cell (i := 1) rfl, XB_605.out.cell (i := 2) rfl, XB_605.out.cell (i := 3) rfl, XB_605.out.cell (i := 4) rfl, XB_605.out.cell (i := 5) rfl, XB_605.out.cell (i := 6) rfl, (H_604.out.cell (p := ⟨b2, off2 + q * 3 + 2, none⟩) hbw2).trans s2, (H_604.out.cell (p := ⟨b3, off3 + r * 5, none⟩) hbw3).trans k0, (H_604.out.cell (p := ⟨b3, off3 + r * 5 + 1, none⟩) hbw3).trans k1, (H_604.out.cell (p := ⟨b3, off3 + r * 5 + 2, none⟩) hbw3).trans k2, (H_604.out.cell (p := ⟨b3, off3 + r * 5 + 3, none⟩) hbw3).trans k3, (H_604.out.cell (p := ⟨b3, off3 + r * 5 + 4, none⟩) hbw3).trans k4⟩ (fun hS => ?_)
        refine wpAnyH_take (i := 0) (oi := ⟨_, _, _, _, _, _⟩) (v := .pointer (some ⟨w.heap.size, 2, none⟩)) rfl (by kernel_rfl) (by kernel_rfl) (by kernel_rfl) (fun _ _ _ h => h) (Or.inl ⟨by kernel_rfl, fun W hS => by (obtain ⟨s0', s1', s2', s3', s4', s5', s6', s7', s8', s9', s10', s11', s12', s13', s14', s15'⟩ := hS); go_simp⟩) hS ?_
        (try simp only [Act.put, List.setIfInBounds_toArray, List.set_cons_zero, List.set_cons_succ])
        refine wpAnyH_take (i := 1) (oi := ⟨_, _, _, _, _, _⟩) (v := .slice (some ⟨b2, off2, none⟩) m d) rfl (by kernel_rfl) (by kernel_rfl) (by kernel_rfl) (fun _ _ _ h => h) (Or.inl ⟨by kernel_rfl, fun W hS => by (obtain ⟨s0', s1', s2', s3', s4', s5', s6', s7', s8', s9', s10', s11', s12', s13', s14', s15'⟩ := hS); go_simp⟩) hS ?_
        (try simp only [Act.put, List.setIfInBounds_toArray, List.set_cons_zero, List.set_cons_succ])
        refine wpAnyH_take (i := 2) (oi := ⟨_, _, _, _, _, _⟩) (v := .pointer (some ⟨wr.heap.size, 0, none⟩)) rfl (by kernel_rfl) (by kernel_rfl) (by kernel_rfl) (fun _ _ _ h => h) (Or.inl ⟨by kernel_rfl, fun W hS => by (obtain ⟨s0', s1', s2', s3', s4', s5', s6', s7', s8', s9', s10', s11', s12', s13', s14', s15'⟩ := hS); go_simp⟩) hS ?_
        (try simp only [Act.put, List.setIfInBounds_toArray, List.set_cons_zero, List.set_cons_succ])
        refine wpAnyH_take (i := 3) (oi := ⟨_, _, _, _, _, _⟩) (v := .int .i64 (q : Int)) rfl (by kernel_rfl) (by kernel_rfl) (by kernel_rfl) (fun _ _ _ h => h) (Or.inl ⟨by kernel_rfl, fun W hS => by (obtain ⟨s0', s1', s2', s3', s4', s5', s6', s7', s8', s9', s10', s11', s12', s13', s14', s15'⟩ := hS); go_simp⟩) hS ?_
        (try simp only [Act.put, List.setIfInBounds_toArray, List.set_cons_zero, List.set_cons_succ])
        refine wpAnyH_take (i := 4) (oi := ⟨_, _, _, _, _, _⟩) (v := .pointer (some ⟨b2, off2 + q * 3, none⟩)) rfl (by kernel_rfl) (by kernel_rfl) (by kernel_rfl) (fun _ _ _ h => h) (Or.inl ⟨by kernel_rfl, fun W hS => by (obtain ⟨s0', s1', s2', s3', s4', s5', s6', s7', s8', s9', s10', s11', s12', s13', s14', s15'⟩ := hS); go_simp⟩) hS ?_
        (try simp only [Act.put, List.setIfInBounds_toArray, List.set_cons_zero, List.set_cons_succ])
        refine wpAnyH_take (i := 5) (oi := ⟨_, _, _, _, _, _⟩) (v := .pointer (some ⟨b2, off2 + q * 3 + 2, none⟩)) rfl (by kernel_rfl) (by kernel_rfl) (by kernel_rfl) (fun _ _ _ h => h) (Or.inl ⟨by kernel_rfl, fun W hS => by (obtain ⟨s0', s1', s2', s3', s4', s5', s6', s7', s8', s9', s10', s11', s12', s13', s14', s15'⟩ := hS); go_simp⟩) hS ?_
        (try simp only [Act.put, List.setIfInBounds_toArray, List.set_cons_zero, List.set_cons_succ])
        refine wpAnyH_take (i := 6) (oi := ⟨_, _, _, _, _, _⟩) (v := .slice (some ⟨b3, off3, none⟩) en ec) rfl (by kernel_rfl) (by kernel_rfl) (by kernel_rfl) (fun _ _ _ h => h) (Or.inl ⟨by kernel_rfl, fun W hS => by (obtain ⟨s0', s1', s2', s3', s4', s5', s6', s7', s8', s9', s10', s11', s12', s13', s14', s15'⟩ := hS); go_simp⟩) hS ?_
        (try simp only [Act.put, List.setIfInBounds_toArray, List.set_cons_zero, List.set_cons_succ])
        refine wpAnyH_take (i := 7) (oi := ⟨_, _, _, _, _, _⟩) (v := .pointer (some ⟨wr.heap.size, 1, none⟩)) rfl (by kernel_rfl) (by kernel_rfl) (by kernel_rfl) (fun _ _ _ h => h) (Or.inl ⟨by kernel_rfl, fun W hS => by (obtain ⟨s0', s1', s2', s3', s4', s5', s6', s7', s8', s9', s10', s11', s12', s13', s14', s15'⟩ := hS); go_simp⟩) hS ?_
        (try simp only [Act.put, List.setIfInBounds_toArray, List.set_cons_zero, List.set_cons_succ])
        refine wpAnyH_take (i := 8) (oi := ⟨_, _, _, _, _, _⟩) (v := .int .i64 (r : Int)) rfl (by kernel_rfl) (by kernel_rfl) (by kernel_rfl) (fun _ _ _ h => h) (Or.inl ⟨by kernel_rfl, fun W hS => by (obtain ⟨s0', s1', s2', s3', s4', s5', s6', s7', s8', s9', s10', s11', s12', s13', s14', s15'⟩ := hS); go_simp⟩) hS ?_
        (try simp only [Act.put, List.setIfInBounds_toArray, List.set_cons_zero, List.set_cons_succ])
        refine wpAnyH_take (i := 9) (oi := ⟨_, _, _, _, _, _⟩) (v := .pointer (some ⟨b3, off3 + r * 5, none⟩)) rfl (by kernel_rfl) (by kernel_rfl) (by kernel_rfl) (fun _ _ _ h => h) (Or.inl ⟨by kernel_rfl, fun W hS => by (obtain ⟨s0', s1', s2', s3', s4', s5', s6', s7', s8', s9', s10', s11', s12', s13', s14', s15'⟩ := hS); go_simp⟩) hS ?_
        (try simp only [Act.put, List.setIfInBounds_toArray, List.set_cons_zero, List.set_cons_succ])
        refine wpAnyH_take (i := 10) (oi := ⟨_, _, _, _, _, _⟩) (v := .agg #[.int .i64 yf, .int .i64 yt, .int .i64 yw, .int .i64 yi, .int .i64 yv]) rfl (by kernel_rfl) (by kernel_rfl) (by kernel_rfl) (fun _ _ _ h => h) (Or.inl ⟨by kernel_rfl, fun W hS => by (obtain ⟨s0', s1', s2', s3', s4', s5', s6', s7', s8', s9', s10', s11', s12', s13', s14', s15'⟩ := hS); go_simp⟩) hS ?_
        (try simp only [Act.put, List.setIfInBounds_toArray, List.set_cons_zero, List.set_cons_succ])
        refine wpAnyH_ready (rs := [11]) (by kernel_rfl) (by simp) (AllReadyH.cons rfl (fun K hK => ?_) AllReadyH.nil)
        go_simp
        have HBL : Hid (∀ g, blkH B2 m d2 cur g → g < W6.heap.size) := Lib.hid (fun g hg => (OH_599.out.blk hg).2)
        have hb_607 := below_a1 W6 (.cells #[.int .i64 0, .int .i64 0, .int .i64 0, .int .i64 0, .int .i64 0] 40)
        have sz_608 := Lib.hid BX_600.out.lt
        have sz_609 := Lib.hid BZ_601.out.lt
        have sz_610 := Lib.hid BO_602.out.lt
        have LT_611 := Lib.hid OE_603.out.lt
        have sz_612 := Lib.hid XB_605.out.lt
        have OH_613 := Lib.hid (OH_599.out.below hb_607)
        clear OH_599
        have BX_614 := Lib.hid (BX_600.out.below hb_607)
        clear BX_600
        have BZ_615 := Lib.hid (BZ_601.out.below hb_607)
        clear BZ_601
        have BO_616 := Lib.hid (BO_602.out.below hb_607)
        clear BO_602
        have OE_617 := Lib.hid (own_below OE_603.out hb_607)
        clear OE_603
        have H_618 := Lib.hid (g_chain H_604.out hb_607)
        clear H_604
        have XB_619 := Lib.hid (XB_605.out.below hb_607)
        clear XB_605
        have sz_620 := Lib.hid (Below.size hb_607)
        clear hb_607
        have BE_621 : Hid (Blk (W6.alloc (.cells #[.int .i64 0, .int .i64 0, .int .i64 0, .int .i64 0, .int .i64 0] 40)) (W6.heap.size) #[.int .i64 0, .int .i64 0, .int .i64 0, .int .i64 0, .int .i64 0] 40) := Lib.hid (by have h := Blk.new W6 #[.int .i64 0, .int .i64 0, .int .i64 0, .int .i64 0, .int .i64 0] 40; simpa using h)
        have sz_622 : Hid (W6.heap.size + 1 ≤ (W6.alloc (.cells #[.int .i64 0, .int .i64 0, .int .i64 0, .int .i64 0, .int .i64 0] 40)).heap.size) := Lib.hid (by simp)
        skip
        refine hK.out _ _ ⟨BX_614.out.cell (i := 0) rfl, BX_614.out.cell (i := 1) rfl, BX_614.out.cell (i := 2) rfl, XB_619.out.cell (i := 0) rfl, XB_619.out.cell (i := 1) rfl, XB_619.out.cell (i := 2) rfl, XB_619.out.cell (i := 3) rfl, XB_619.out.cell (i := 4) rfl, XB_619.out.cell (i := 5) rfl, XB_619.out.cell (i := 6) rfl, (H_618.out.cell (p := ⟨b2, off2 + q * 3 + 2, none⟩) hbw2).trans s2, (H_618.out.cell (p := ⟨b3, off3 + r * 5, none⟩) hbw3).trans k0, (H_618.out.cell (p := ⟨b3, off3 + r * 5 + 1, none⟩) hbw3).trans k1, (H_618.out.cell (p := ⟨b3, off3 + r * 5 + 2, none⟩) hbw3).trans k2, (H_618.out.cell (p := ⟨b3, off3 + r * 5 + 3, none⟩) hbw3).trans k3, (H_618.out.cell (p := ⟨b3, off3 + r * 5 + 4, none⟩) hbw3).trans k4⟩ (fun hS => ?_)
        clear hK K
        (try simp only [Act.put, List.setIfInBounds_toArray, List.set_cons_zero, List.set_cons_succ])
        generalize hZ : W6.alloc (.cells #[.int .i64 0, .int .i64 0, .int .i64 0, .int .i64 0, .int .i64 0] 40) = W7 at OH_613 BX_614 BZ_615 BO_616 OE_617 H_618 XB_619 BE_621 sz_620 sz_622 ⊢
        clear hZ
        generalize hZ : W6.heap.size = qe at BE_621 HBL sz_606 sz_608 sz_609 sz_610 sz_612 sz_620 sz_622 ⊢
        clear hZ
        refine wpAnyH_ready (rs := [12]) (by kernel_rfl) (by simp) (AllReadyH.cons rfl (fun K hK => ?_) AllReadyH.nil)
        have z0 := BE_621.out.cell (i := 0) rfl
        have f0 := BE_621.out.frozen 0
        have z1 := BE_621.out.cell (i := 1) rfl
        have f1 := BE_621.out.frozen 1
        have z2 := BE_621.out.cell (i := 2) rfl
        have f2 := BE_621.out.frozen 2
        have z3 := BE_621.out.cell (i := 3) rfl
        have f3 := BE_621.out.frozen 3
        have z4 := BE_621.out.cell (i := 4) rfl
        have f4 := BE_621.out.frozen 4
        have zl := BE_621.out.lt
        go_simp
        clear z0 f0 z1 f1 z2 f2 z3 f3 z4 f4
        have hgo : World.grownBy W7 (((((W7.setCell ⟨qe, 0, none⟩ (.int .i64 yf)).setCell ⟨qe, 1, none⟩ (.int .i64 yt)).setCell ⟨qe, 2, none⟩ (.int .i64 yw)).setCell ⟨qe, 3, none⟩ (.int .i64 yi)).setCell ⟨qe, 4, none⟩ (.int .i64 yv)) (some qe) := ((((grown_cell W7 qe 0 (.int .i64 yf)).trans (grown_cell (W7.setCell ⟨qe, 0, none⟩ (.int .i64 yf)) qe 1 (.int .i64 yt))).trans (grown_cell ((W7.setCell ⟨qe, 0, none⟩ (.int .i64 yf)).setCell ⟨qe, 1, none⟩ (.int .i64 yt)) qe 2 (.int .i64 yw))).trans (grown_cell (((W7.setCell ⟨qe, 0, none⟩ (.int .i64 yf)).setCell ⟨qe, 1, none⟩ (.int .i64 yt)).setCell ⟨qe, 2, none⟩ (.int .i64 yw)) qe 3 (.int .i64 yi))).trans (grown_cell ((((W7.setCell ⟨qe, 0, none⟩ (.int .i64 yf)).setCell ⟨qe, 1, none⟩ (.int .i64 yt)).setCell ⟨qe, 2, none⟩ (.int .i64 yw)).setCell ⟨qe, 3, none⟩ (.int .i64 yi)) qe 4 (.int .i64 yv))
        have OH_623 := Lib.hid (OH_613.out.but (S := fun g => g = qe) ((OnlyB.refl _ W7).grown hgo (fun i hi => by injection hi with hi; exact hi.symm)) (fun g hg hh => by have h5 : g = qe := hh; have h6 := HBL.out g hg; omega))
        clear hgo
        have hg_624 : World.grownBy W7 (((((W7.setCell ⟨qe, 0, none⟩ (.int .i64 yf)).setCell ⟨qe, 1, none⟩ (.int .i64 yt)).setCell ⟨qe, 2, none⟩ (.int .i64 yw)).setCell ⟨qe, 3, none⟩ (.int .i64 yi)).setCell ⟨qe, 4, none⟩ (.int .i64 yv)) (some qe) := ((((grown_cell W7 qe 0 (.int .i64 yf)).trans (grown_cell (W7.setCell ⟨qe, 0, none⟩ (.int .i64 yf)) qe 1 (.int .i64 yt))).trans (grown_cell ((W7.setCell ⟨qe, 0, none⟩ (.int .i64 yf)).setCell ⟨qe, 1, none⟩ (.int .i64 yt)) qe 2 (.int .i64 yw))).trans (grown_cell (((W7.setCell ⟨qe, 0, none⟩ (.int .i64 yf)).setCell ⟨qe, 1, none⟩ (.int .i64 yt)).setCell ⟨qe, 2, none⟩ (.int .i64 yw)) qe 3 (.int .i64 yi))).trans (grown_cell ((((W7.setCell ⟨qe, 0, none⟩ (.int .i64 yf)).setCell ⟨qe, 1, none⟩ (.int .i64 yt)).setCell ⟨qe, 2, none⟩ (.int .i64 yw)).setCell ⟨qe, 3, none⟩ (.int .i64 yi)) qe 4 (.int .i64 yv))
        have BX_625 := Lib.hid (BX_614.out.grown hg_624 (by intro e; injection e with e; have := hzo.out; have := sz_564.out; have := sz_565.out; have := sz_566.out; have := sz_574.out; have := sz_576.out; have := sz_584.out; have := sz_606.out; have := sz_608.out; have := sz_609.out; have := sz_610.out; have := sz_612.out; have := sz_620.out; have := sz_622.out; omega))
        clear BX_614
        have BZ_626 := Lib.hid (BZ_615.out.grown hg_624 (by intro e; injection e with e; have := hzo.out; have := sz_564.out; have := sz_565.out; have := sz_566.out; have := sz_574.out; have := sz_576.out; have := sz_584.out; have := sz_606.out; have := sz_608.out; have := sz_609.out; have := sz_610.out; have := sz_612.out; have := sz_620.out; have := sz_622.out; omega))
        clear BZ_615
        have BO_627 := Lib.hid (BO_616.out.grown hg_624 (by intro e; injection e with e; have := hzo.out; have := sz_564.out; have := sz_565.out; have := sz_566.out; have := sz_574.out; have := sz_576.out; have := sz_584.out; have := sz_606.out; have := sz_608.out; have := sz_609.out; have := sz_610.out; have := sz_612.out; have := sz_620.out; have := sz_622.out; omega))
        clear BO_616
        have OE_628 := Lib.hid (own_kept OE_617.out hg_624 (own_kind OE_617.out BE_621.out (by decide)))
        clear OE_617
        have H_629 := Lib.hid (H_618.out.grown hg_624 H_618.out.size (fun j hj => by injection hj with hj; have := hzo.out; have := sz_564.out; have := sz_565.out; have := sz_566.out; have := sz_574.out; have := sz_576.out; have := sz_584.out; have := sz_606.out; have := sz_608.out; have := sz_609.out; have := sz_610.out; have := sz_612.out; have := sz_620.out; have := sz_622.out; omega))
        clear H_618
        have XB_630 := Lib.hid (XB_619.out.grown hg_624 (by intro e; injection e with e; have := hzo.out; have := sz_564.out; have := sz_565.out; have := sz_566.out; have := sz_574.out; have := sz_576.out; have := sz_584.out; have := sz_606.out; have := sz_608.out; have := sz_609.out; have := sz_610.out; have := sz_612.out; have := sz_620.out; have := sz_622.out; omega))
        clear XB_619
        have BE_631 : Hid (Blk (((((W7.setCell ⟨qe, 0, none⟩ (.int .i64 yf)).setCell ⟨qe, 1, none⟩ (.int .i64 yt)).setCell ⟨qe, 2, none⟩ (.int .i64 yw)).setCell ⟨qe, 3, none⟩ (.int .i64 yi)).setCell ⟨qe, 4, none⟩ (.int .i64 yv)) qe #[.int .i64 yf, .int .i64 yt, .int .i64 yw, .int .i64 yi, .int .i64 yv] 40) := Lib.hid (BE_621.out.five)
        clear BE_621
        have sz_632 := Lib.hid (World.grownBy.size hg_624)
        clear hg_624
        skip
        refine hK.out _ _ ⟨BX_625.out.cell (i := 0) rfl, BX_625.out.cell (i := 1) rfl, BX_625.out.cell (i := 2) rfl, XB_630.out.cell (i := 0) rfl, XB_630.out.cell (i := 1) rfl, XB_630.out.cell (i := 2) rfl, XB_630.out.cell (i := 3) rfl, XB_630.out.cell (i := 4) rfl, XB_630.out.cell (i := 5) rfl, XB_630.out.cell (i := 6) rfl, (H_629.out.cell (p := ⟨b2, off2 + q * 3 + 2, none⟩) hbw2).trans s2, (H_629.out.cell (p := ⟨b3, off3 + r * 5, none⟩) hbw3).trans k0, (H_629.out.cell (p := ⟨b3, off3 + r * 5 + 1, none⟩) hbw3).trans k1, (H_629.out.cell (p := ⟨b3, off3 + r * 5 + 2, none⟩) hbw3).trans k2, (H_629.out.cell (p := ⟨b3, off3 + r * 5 + 3, none⟩) hbw3).trans k3, (H_629.out.cell (p := ⟨b3, off3 + r * 5 + 4, none⟩) hbw3).trans k4⟩ (fun hS => ?_)
        clear hK K
        (try simp only [Act.put, List.setIfInBounds_toArray, List.set_cons_zero, List.set_cons_succ])
        refine wpAnyH_done (by kernel_rfl) ?_ _
        clear x_585 x_586 x_587 fz_588 lt_589 x_590 x_591 x_592 x_593 x_594 x_595 x_596 fz_597 lt_598
        generalize hWW : (((((W7.setCell ⟨qe, 0, none⟩ (.int .i64 yf)).setCell ⟨qe, 1, none⟩ (.int .i64 yt)).setCell ⟨qe, 2, none⟩ (.int .i64 yw)).setCell ⟨qe, 3, none⟩ (.int .i64 yi)).setCell ⟨qe, 4, none⟩ (.int .i64 yv)) = W8 at BX_625 BZ_626 BO_627 OE_628 H_629 XB_630 BE_631 OH_623 sz_632 ⊢
        clear hWW
        have x_633 := XB_630.out.cell (i := 0) rfl
        have x_634 := XB_630.out.cell (i := 1) rfl
        have x_635 := XB_630.out.cell (i := 2) rfl
        have x_636 := XB_630.out.cell (i := 3) rfl
        have x_637 := XB_630.out.cell (i := 4) rfl
        have x_638 := XB_630.out.cell (i := 5) rfl
        have x_639 := XB_630.out.cell (i := 6) rfl
        have fz_640 := fun i => XB_630.out.frozen i
        have lt_641 := XB_630.out.lt
        have x_642 := BE_631.out.cell (i := 0) rfl
        have x_643 := BE_631.out.cell (i := 1) rfl
        have x_644 := BE_631.out.cell (i := 2) rfl
        have x_645 := BE_631.out.cell (i := 3) rfl
        have x_646 := BE_631.out.cell (i := 4) rfl
        have fz_647 := fun i => BE_631.out.frozen i
        have lt_648 := BE_631.out.lt
        go_upto_region 13 with fail
        clear x_633 x_634 x_635 x_636 x_637 x_638 x_639 fz_640 lt_641 x_642 x_643 x_644 x_645 x_646 fz_647 lt_648
        have hgo : World.grownBy W8 (W8.setCell ⟨qe, 4, none⟩ (.int .i64 ev)) (some qe) := grown_cell W8 qe 4 (.int .i64 ev)
        have OH_649 := Lib.hid (OH_623.out.but (S := fun g => g = qe) ((OnlyB.refl _ W8).grown hgo (fun i hi => by injection hi with hi; exact hi.symm)) (fun g hg hh => by have h5 : g = qe := hh; have h6 := HBL.out g hg; omega))
        clear hgo
        have hg_650 := grown_cell W8 (qe) 4 (.int .i64 ev)
        have BX_651 := Lib.hid (BX_625.out.grown hg_650 (by intro e; injection e with e; have := hzo.out; have := sz_564.out; have := sz_565.out; have := sz_566.out; have := sz_574.out; have := sz_576.out; have := sz_584.out; have := sz_606.out; have := sz_608.out; have := sz_609.out; have := sz_610.out; have := sz_612.out; have := sz_620.out; have := sz_622.out; have := sz_632.out; omega))
        clear BX_625
        have BZ_652 := Lib.hid (BZ_626.out.grown hg_650 (by intro e; injection e with e; have := hzo.out; have := sz_564.out; have := sz_565.out; have := sz_566.out; have := sz_574.out; have := sz_576.out; have := sz_584.out; have := sz_606.out; have := sz_608.out; have := sz_609.out; have := sz_610.out; have := sz_612.out; have := sz_620.out; have := sz_622.out; have := sz_632.out; omega))
        clear BZ_626
        have BO_653 := Lib.hid (BO_627.out.grown hg_650 (by intro e; injection e with e; have := hzo.out; have := sz_564.out; have := sz_565.out; have := sz_566.out; have := sz_574.out; have := sz_576.out; have := sz_584.out; have := sz_606.out; have := sz_608.out; have := sz_609.out; have := sz_610.out; have := sz_612.out; have := sz_620.out; have := sz_622.out; have := sz_632.out; omega))
        clear BO_627
        have OE_654 := Lib.hid (own_kept OE_628.out hg_650 (own_kind OE_628.out BE_631.out (by decide)))
        clear OE_628
        have H_655 := Lib.hid (H_629.out.grown hg_650 H_629.out.size (fun j hj => by injection hj with hj; have := hzo.out; have := sz_564.out; have := sz_565.out; have := sz_566.out; have := sz_574.out; have := sz_576.out; have := sz_584.out; have := sz_606.out; have := sz_608.out; have := sz_609.out; have := sz_610.out; have := sz_612.out; have := sz_620.out; have := sz_622.out; have := sz_632.out; omega))
        clear H_629
        have XB_656 := Lib.hid (XB_630.out.grown hg_650 (by intro e; injection e with e; have := hzo.out; have := sz_564.out; have := sz_565.out; have := sz_566.out; have := sz_574.out; have := sz_576.out; have := sz_584.out; have := sz_606.out; have := sz_608.out; have := sz_609.out; have := sz_610.out; have := sz_612.out; have := sz_620.out; have := sz_622.out; have := sz_632.out; omega))
        clear XB_630
        have BE_657 : Hid (Blk (W8.setCell ⟨qe, 4, none⟩ (.int .i64 ev)) (qe) #[.int .i64 yf, .int .i64 yt, .int .i64 yw, .int .i64 yi, .int .i64 ev] 40) := Lib.hid (Blk.set (BE_631.out) 4 (.int .i64 ev))
        clear BE_631
        have sz_658 := Lib.hid (World.grownBy.size hg_650)
        clear hg_650
        by_cases q1 : yf = ef
        rotate_left
        · skip
          have HQ : Hid (sameE ⟨yf, yt, yw, yi, yv⟩ ⟨ef, et, ew, ei, ev⟩ = false) := Lib.hid (by unfold sameE; exact decide_eq_false (fun h => q1 h.1))
          have qf : (yf == ef) = false := by simpa using q1
          have qg : (yf != ef) = true := by simpa using q1
          clear q1
          have x_659 := XB_656.out.cell (i := 0) rfl
          have x_660 := XB_656.out.cell (i := 1) rfl
          have x_661 := XB_656.out.cell (i := 2) rfl
          have x_662 := XB_656.out.cell (i := 3) rfl
          have x_663 := XB_656.out.cell (i := 4) rfl
          have x_664 := XB_656.out.cell (i := 5) rfl
          have x_665 := XB_656.out.cell (i := 6) rfl
          have fz_666 := fun i => XB_656.out.frozen i
          have lt_667 := XB_656.out.lt
          have x_668 := BE_657.out.cell (i := 0) rfl
          have x_669 := BE_657.out.cell (i := 1) rfl
          have x_670 := BE_657.out.cell (i := 2) rfl
          have x_671 := BE_657.out.cell (i := 3) rfl
          have x_672 := BE_657.out.cell (i := 4) rfl
          have fz_673 := fun i => BE_657.out.frozen i
          have lt_674 := BE_657.out.lt
          have HNO : Hid (putB N E (sdL bs) us = false) := Lib.hid (put_no2 HMX.out (HFA.out.trans HQ.out))
          have x_675 := BZ_652.out.cell (i := 0) rfl
          have x_676 := BZ_652.out.cell (i := 1) rfl
          have x_677 := BZ_652.out.cell (i := 2) rfl
          have fz_678 := fun i => BZ_652.out.frozen i
          have lt_679 := BZ_652.out.lt
          go_wp2
          refine bodyPost_ret (v := .tuple #[.agg #[.int .i64 0, .slice none 0 0, .slice none 0 0], .bool false]) (by simp [results, Try.results47, go_sem, x_675, x_676, x_677]) rfl ?_
          rw [HNO.out, (fp_no HNO.out).1, (fp_no HNO.out).2.1, (fp_no HNO.out).2.2]
          exact ⟨none, 0, none, 0, rfl, ⟨World.ownsRow_nil _ _ _ _, ⟨[], ⟨World.ownsRow_nil _ _ _ _, rfl, OwnHL.nil⟩, rfl, fun g hg => by rcases hg with hg | ⟨x, hx, _⟩; cases hg; cases hx⟩, fun g hg => by cases hg⟩, by repeat (first | exact H_655.out | refine Below.setCell ?_ (by first | omega | (dsimp only; omega) | (simp; omega)) _ | refine g_chain ?_ (below_a1 _ _))⟩
        by_cases q2 : yt = et
        rotate_left
        · skip
          have HQ : Hid (sameE ⟨yf, yt, yw, yi, yv⟩ ⟨ef, et, ew, ei, ev⟩ = false) := Lib.hid (by unfold sameE; exact decide_eq_false (fun h => q2 h.2.1))
          have qf : (yt == et) = false := by simpa using q2
          have qg : (yt != et) = true := by simpa using q2
          clear q2
          have x_680 := XB_656.out.cell (i := 0) rfl
          have x_681 := XB_656.out.cell (i := 1) rfl
          have x_682 := XB_656.out.cell (i := 2) rfl
          have x_683 := XB_656.out.cell (i := 3) rfl
          have x_684 := XB_656.out.cell (i := 4) rfl
          have x_685 := XB_656.out.cell (i := 5) rfl
          have x_686 := XB_656.out.cell (i := 6) rfl
          have fz_687 := fun i => XB_656.out.frozen i
          have lt_688 := XB_656.out.lt
          have x_689 := BE_657.out.cell (i := 0) rfl
          have x_690 := BE_657.out.cell (i := 1) rfl
          have x_691 := BE_657.out.cell (i := 2) rfl
          have x_692 := BE_657.out.cell (i := 3) rfl
          have x_693 := BE_657.out.cell (i := 4) rfl
          have fz_694 := fun i => BE_657.out.frozen i
          have lt_695 := BE_657.out.lt
          have HNO : Hid (putB N E (sdL bs) us = false) := Lib.hid (put_no2 HMX.out (HFA.out.trans HQ.out))
          have x_696 := BZ_652.out.cell (i := 0) rfl
          have x_697 := BZ_652.out.cell (i := 1) rfl
          have x_698 := BZ_652.out.cell (i := 2) rfl
          have fz_699 := fun i => BZ_652.out.frozen i
          have lt_700 := BZ_652.out.lt
          go_wp2
          refine bodyPost_ret (v := .tuple #[.agg #[.int .i64 0, .slice none 0 0, .slice none 0 0], .bool false]) (by simp [results, Try.results47, go_sem, x_696, x_697, x_698]) rfl ?_
          rw [HNO.out, (fp_no HNO.out).1, (fp_no HNO.out).2.1, (fp_no HNO.out).2.2]
          exact ⟨none, 0, none, 0, rfl, ⟨World.ownsRow_nil _ _ _ _, ⟨[], ⟨World.ownsRow_nil _ _ _ _, rfl, OwnHL.nil⟩, rfl, fun g hg => by rcases hg with hg | ⟨x, hx, _⟩; cases hg; cases hx⟩, fun g hg => by cases hg⟩, by repeat (first | exact H_655.out | refine Below.setCell ?_ (by first | omega | (dsimp only; omega) | (simp; omega)) _ | refine g_chain ?_ (below_a1 _ _))⟩
        by_cases q3 : yw = ew
        rotate_left
        · skip
          have HQ : Hid (sameE ⟨yf, yt, yw, yi, yv⟩ ⟨ef, et, ew, ei, ev⟩ = false) := Lib.hid (by unfold sameE; exact decide_eq_false (fun h => q3 h.2.2.1))
          have qf : (yw == ew) = false := by simpa using q3
          have qg : (yw != ew) = true := by simpa using q3
          clear q3
          have x_701 := XB_656.out.cell (i := 0) rfl
          have x_702 := XB_656.out.cell (i := 1) rfl
          have x_703 := XB_656.out.cell (i := 2) rfl
          have x_704 := XB_656.out.cell (i := 3) rfl
          have x_705 := XB_656.out.cell (i := 4) rfl
          have x_706 := XB_656.out.cell (i := 5) rfl
          have x_707 := XB_656.out.cell (i := 6) rfl
          have fz_708 := fun i => XB_656.out.frozen i
          have lt_709 := XB_656.out.lt
          have x_710 := BE_657.out.cell (i := 0) rfl
          have x_711 := BE_657.out.cell (i := 1) rfl
          have x_712 := BE_657.out.cell (i := 2) rfl
          have x_713 := BE_657.out.cell (i := 3) rfl
          have x_714 := BE_657.out.cell (i := 4) rfl
          have fz_715 := fun i => BE_657.out.frozen i
          have lt_716 := BE_657.out.lt
          have HNO : Hid (putB N E (sdL bs) us = false) := Lib.hid (put_no2 HMX.out (HFA.out.trans HQ.out))
          have x_717 := BZ_652.out.cell (i := 0) rfl
          have x_718 := BZ_652.out.cell (i := 1) rfl
          have x_719 := BZ_652.out.cell (i := 2) rfl
          have fz_720 := fun i => BZ_652.out.frozen i
          have lt_721 := BZ_652.out.lt
          go_wp2
          refine bodyPost_ret (v := .tuple #[.agg #[.int .i64 0, .slice none 0 0, .slice none 0 0], .bool false]) (by simp [results, Try.results47, go_sem, x_717, x_718, x_719]) rfl ?_
          rw [HNO.out, (fp_no HNO.out).1, (fp_no HNO.out).2.1, (fp_no HNO.out).2.2]
          exact ⟨none, 0, none, 0, rfl, ⟨World.ownsRow_nil _ _ _ _, ⟨[], ⟨World.ownsRow_nil _ _ _ _, rfl, OwnHL.nil⟩, rfl, fun g hg => by rcases hg with hg | ⟨x, hx, _⟩; cases hg; cases hx⟩, fun g hg => by cases hg⟩, by repeat (first | exact H_655.out | refine Below.setCell ?_ (by first | omega | (dsimp only; omega) | (simp; omega)) _ | refine g_chain ?_ (below_a1 _ _))⟩
        by_cases q4 : yi = ei
        rotate_left
        · skip
          have HQ : Hid (sameE ⟨yf, yt, yw, yi, yv⟩ ⟨ef, et, ew, ei, ev⟩ = false) := Lib.hid (by unfold sameE; exact decide_eq_false (fun h => q4 h.2.2.2))
          have qf : (yi == ei) = false := by simpa using q4
          have qg : (yi != ei) = true := by simpa using q4
          clear q4
          have x_722 := XB_656.out.cell (i := 0) rfl
          have x_723 := XB_656.out.cell (i := 1) rfl
          have x_724 := XB_656.out.cell (i := 2) rfl
          have x_725 := XB_656.out.cell (i := 3) rfl
          have x_726 := XB_656.out.cell (i := 4) rfl
          have x_727 := XB_656.out.cell (i := 5) rfl
          have x_728 := XB_656.out.cell (i := 6) rfl
          have fz_729 := fun i => XB_656.out.frozen i
          have lt_730 := XB_656.out.lt
          have x_731 := BE_657.out.cell (i := 0) rfl
          have x_732 := BE_657.out.cell (i := 1) rfl
          have x_733 := BE_657.out.cell (i := 2) rfl
          have x_734 := BE_657.out.cell (i := 3) rfl
          have x_735 := BE_657.out.cell (i := 4) rfl
          have fz_736 := fun i => BE_657.out.frozen i
          have lt_737 := BE_657.out.lt
          have HNO : Hid (putB N E (sdL bs) us = false) := Lib.hid (put_no2 HMX.out (HFA.out.trans HQ.out))
          have x_738 := BZ_652.out.cell (i := 0) rfl
          have x_739 := BZ_652.out.cell (i := 1) rfl
          have x_740 := BZ_652.out.cell (i := 2) rfl
          have fz_741 := fun i => BZ_652.out.frozen i
          have lt_742 := BZ_652.out.lt
          go_wp2
          refine bodyPost_ret (v := .tuple #[.agg #[.int .i64 0, .slice none 0 0, .slice none 0 0], .bool false]) (by simp [results, Try.results47, go_sem, x_738, x_739, x_740]) rfl ?_
          rw [HNO.out, (fp_no HNO.out).1, (fp_no HNO.out).2.1, (fp_no HNO.out).2.2]
          exact ⟨none, 0, none, 0, rfl, ⟨World.ownsRow_nil _ _ _ _, ⟨[], ⟨World.ownsRow_nil _ _ _ _, rfl, OwnHL.nil⟩, rfl, fun g hg => by rcases hg with hg | ⟨x, hx, _⟩; cases hg; cases hx⟩, fun g hg => by cases hg⟩, by repeat (first | exact H_655.out | refine Below.setCell ?_ (by first | omega | (dsimp only; omega) | (simp; omega)) _ | refine g_chain ?_ (below_a1 _ _))⟩
        subst q1 q2 q3 q4
        have HT : Hid (fitB (sdL bs) ⟨(q : Int), (r : Int), (⟨yf, yt, yw, yi, ev⟩ : KE)⟩ = true) := Lib.hid (HFA.out.trans (by unfold sameE; exact decide_eq_true ⟨rfl, rfl, rfl, rfl⟩))
        have HK := Lib.hid (HST.out HT.out)
        obtain ⟨q', r', dd, y', hq, hr, hdd, hy', g1, g2', g3, g4⟩ := fits_at (HFE.out.trans HT.out)
        simp only at hq hr g1 g2' g3 g4
        obtain rfl : q = q' := by omega
        obtain rfl : r = r' := by omega
        have HDD := Lib.hid hdd
        have HYY := Lib.hid hy'
        have HSD : Hid ((cur.take q ++ (⟨dd.lo, dd.hi, dd.A, dd.n, dd.c, dd.es.set r (⟨yf, yt, yw, yi, ev⟩ : KE)⟩ : HE) :: cur.drop (q + 1)).map HE.sd = putL (sdL bs) (us.take (j + 1))) := Lib.hid (by rw [putE_sd (x := ⟨(q : Int), (r : Int), (⟨yf, yt, yw, yi, ev⟩ : KE)⟩) (d' := ⟨dd.lo, dd.hi, dd.A, dd.n, dd.c, dd.es.set r (⟨yf, yt, yw, yi, ev⟩ : KE)⟩) hdd rfl rfl rfl rfl rfl, hsd.out, ← HPS.out])
        clear hdd hy' hq hr g1 g2' g3 g4 HT HFE HFA HST HPS hsd
        have x_743 := XB_656.out.cell (i := 0) rfl
        have x_744 := XB_656.out.cell (i := 1) rfl
        have x_745 := XB_656.out.cell (i := 2) rfl
        have x_746 := XB_656.out.cell (i := 3) rfl
        have x_747 := XB_656.out.cell (i := 4) rfl
        have x_748 := XB_656.out.cell (i := 5) rfl
        have x_749 := XB_656.out.cell (i := 6) rfl
        have fz_750 := fun i => XB_656.out.frozen i
        have lt_751 := XB_656.out.lt
        have x_752 := BE_657.out.cell (i := 0) rfl
        have x_753 := BE_657.out.cell (i := 1) rfl
        have x_754 := BE_657.out.cell (i := 2) rfl
        have x_755 := BE_657.out.cell (i := 3) rfl
        have x_756 := BE_657.out.cell (i := 4) rfl
        have fz_757 := fun i => BE_657.out.frozen i
        have lt_758 := BE_657.out.lt
        go_upto_region 15 with fail
        clear x_743 x_744 x_745 x_746 x_747 x_748 x_749 fz_750 lt_751 x_752 x_753 x_754 x_755 x_756 fz_757 lt_758
        have hdl : dd.es.length = dd.n := OH_649.out.dat.len dd (List.mem_of_getElem? HDD.out)
        have hrn2 : r < dd.n := by have := (List.getElem?_eq_some_iff.1 HYY.out).1; omega
        have hqm2 : q < m := hqm
        refine wp_region_any (by kernel_rfl) ?_
        change wpAny _ _ _ _ _ _ _ (World.drew _)
        have hb : Below (W8.setCell ⟨qe, 4, none⟩ (.int .i64 ev)).heap.size (W8.setCell ⟨qe, 4, none⟩ (.int .i64 ev)) (World.drew (W8.setCell ⟨qe, 4, none⟩ (.int .i64 ev))) := (Below.refl _ _).drew
        have BX_759 := Lib.hid (BX_651.out.below hb)
        clear BX_651
        have BZ_760 := Lib.hid (BZ_652.out.below hb)
        clear BZ_652
        have BO_761 := Lib.hid (BO_653.out.below hb)
        clear BO_653
        have OE_762 := Lib.hid (own_below OE_654.out hb)
        clear OE_654
        have H_763 := Lib.hid (g_chain H_655.out hb)
        clear H_655
        have XB_764 := Lib.hid (XB_656.out.below hb)
        clear XB_656
        have BE_765 := Lib.hid (BE_657.out.below hb)
        clear BE_657
        have OH_766 := Lib.hid (OH_649.out.below hb)
        clear OH_649
        have sz_767 := Lib.hid (Below.size hb)
        clear hb
        generalize hDD : World.drew (W8.setCell ⟨qe, 4, none⟩ (.int .i64 ev)) = W9 at BX_759 BZ_760 BO_761 OE_762 H_763 XB_764 BE_765 OH_766 sz_767 ⊢
        clear hDD
        obtain ⟨g, d3, hBB, hd2, t0, t1, t2⟩ := OH_766.out.at_k hqm2
        obtain rfl : d3 = dd := by have h5 := hd2.out; rw [HDD.out] at h5; injection h5 with h5; exact h5.symm
        subst hBB
        obtain ⟨g2, hg2⟩ := g_own_at (OH_766.out.dat.own d3 (List.mem_of_getElem? HDD.out)) (by omega)
        have hown := OH_766.out.dat.own d3 (List.mem_of_getElem? HDD.out)
        have hownH := Lib.hid hown
        unfold HE.v at hown
        rw [hg2] at hown t2
        have e0 := fun i (hi : i < 5) => (hown.cellAt (r * 5 + i) (by omega)).trans (flat_get KE.cells 5 KE.cells_len _ r i _ HYY.out hi)
        have ex0 : W9.cell? ⟨g2, r * 5, none⟩ = some (.int .i64 y'.f) := e0 0 (by omega)
        have ex1 : W9.cell? ⟨g2, r * 5 + 1, none⟩ = some (.int .i64 y'.t) := e0 1 (by omega)
        have ex2 : W9.cell? ⟨g2, r * 5 + 2, none⟩ = some (.int .i64 y'.w) := e0 2 (by omega)
        have ex3 : W9.cell? ⟨g2, r * 5 + 3, none⟩ = some (.int .i64 y'.i) := e0 3 (by omega)
        have ex4 : W9.cell? ⟨g2, r * 5 + 4, none⟩ = some (.int .i64 y'.v) := e0 4 (by omega)
        clear e0
        have ef0 := fun i => hown.frozenAt i
        obtain ⟨P1, P2⟩ := OH_766.out.putEdge (e := (⟨yf, yt, yw, yi, ev⟩ : KE)) HDD.out hg2 HYY.out
        have HPU := Lib.hid P1
        have HPG := Lib.hid P2
        have hgb : (d3.v).ownBlock = some g2 := by unfold HE.v; rw [hg2]; rfl
        have hgg : g ≠ g2 := fun e => by
          rcases own_types OH_766.out.row hownH.out (by decide) with h5 | h5
          · cases h5
          · exact h5 (by rw [hgb, e]; rfl)
        have hrc2 : (0 : Int) ≤ (r : Int) ∧ (r : Int) < (d3.n : Int) := by omega
        have nx : w.heap.size ≠ g2 := fun e => own_kind hownH.out BX_759.out (by decide) (by rw [hgb, ← e])
        have nz : w.heap.size + 2 ≠ g2 := fun e => own_kind hownH.out BZ_760.out (by decide) (by rw [hgb, ← e])
        have no : w2.heap.size ≠ g2 := fun e => own_kind hownH.out BO_761.out (by decide) (by rw [hgb, ← e])
        have nb : wr.heap.size ≠ g2 := fun e => own_kind hownH.out XB_764.out (by decide) (by rw [hgb, ← e])
        have ne : qe ≠ g2 := fun e => by have h5 := HBL.out g2 (.inr ⟨d3, List.mem_of_getElem? HDD.out, hgb⟩); omega
        refine wpAny_of_held (S := fun W => W.cell? ⟨w2.heap.size, 0, none⟩ = some (.int .i64 N) ∧ W.cell? ⟨w2.heap.size, 1, none⟩ = some (.slice A2 n c2) ∧ W.cell? ⟨w2.heap.size, 2, none⟩ = some (.slice (some ⟨g, 0, none⟩) m d2) ∧ W.cell? ⟨wr.heap.size, 0, none⟩ = some (.int .i64 (q : Int)) ∧ W.cell? ⟨wr.heap.size, 1, none⟩ = some (.int .i64 (r : Int)) ∧ W.cell? ⟨wr.heap.size, 2, none⟩ = some (.int .i64 yf) ∧ W.cell? ⟨wr.heap.size, 3, none⟩ = some (.int .i64 yt) ∧ W.cell? ⟨wr.heap.size, 4, none⟩ = some (.int .i64 yw) ∧ W.cell? ⟨wr.heap.size, 5, none⟩ = some (.int .i64 yi) ∧ W.cell? ⟨wr.heap.size, 6, none⟩ = some (.int .i64 ev) ∧ W.cell? ⟨qe, 0, none⟩ = some (.int .i64 yf) ∧ W.cell? ⟨qe, 1, none⟩ = some (.int .i64 yt) ∧ W.cell? ⟨qe, 2, none⟩ = some (.int .i64 yw) ∧ W.cell? ⟨qe, 3, none⟩ = some (.int .i64 yi) ∧ W.cell? ⟨qe, 4, none⟩ = some (.int .i64 ev) ∧ W.cell? ⟨g, q * 3 + 2, none⟩ = some (.slice (some ⟨g2, 0, none⟩) d3.n d3.c)) _ _ _ _ ?_
        refine held_nameU ⟨BO_761.out.cell (i := 0) rfl, BO_761.out.cell (i := 1) rfl, BO_761.out.cell (i := 2) rfl, XB_764.out.cell (i := 0) rfl, XB_764.out.cell (i := 1) rfl, XB_764.out.cell (i := 2) rfl, XB_764.out.cell (i := 3) rfl, XB_764.out.cell (i := 4) rfl, XB_764.out.cell (i := 5) rfl, XB_764.out.cell (i := 6) rfl, BE_765.out.cell (i := 0) rfl, BE_765.out.cell (i := 1) rfl, BE_765.out.cell (i := 2) rfl, BE_765.out.cell (i := 3) rfl, BE_765.out.cell (i := 4) rfl, t2⟩ (fun hS => ?_)
        refine wpAnyH_take (i := 0) (oi := ⟨_, _, _, _, _, _⟩) (v := .pointer (some ⟨w2.heap.size, 2, none⟩)) rfl (by kernel_rfl) (by kernel_rfl) (by kernel_rfl) (fun _ _ _ h => h) (Or.inl ⟨by kernel_rfl, fun W hS => by (obtain ⟨s0', s1', s2', s3', s4', s5', s6', s7', s8', s9', s10', s11', s12', s13', s14', s15'⟩ := hS); go_simp⟩) hS ?_
        (try simp only [Act.put, List.setIfInBounds_toArray, List.set_cons_zero, List.set_cons_succ])
        refine wpAnyH_take (i := 1) (oi := ⟨_, _, _, _, _, _⟩) (v := .slice (some ⟨g, 0, none⟩) m d2) rfl (by kernel_rfl) (by kernel_rfl) (by kernel_rfl) (fun _ _ _ h => h) (Or.inl ⟨by kernel_rfl, fun W hS => by (obtain ⟨s0', s1', s2', s3', s4', s5', s6', s7', s8', s9', s10', s11', s12', s13', s14', s15'⟩ := hS); go_simp⟩) hS ?_
        (try simp only [Act.put, List.setIfInBounds_toArray, List.set_cons_zero, List.set_cons_succ])
        refine wpAnyH_take (i := 2) (oi := ⟨_, _, _, _, _, _⟩) (v := .pointer (some ⟨wr.heap.size, 0, none⟩)) rfl (by kernel_rfl) (by kernel_rfl) (by kernel_rfl) (fun _ _ _ h => h) (Or.inl ⟨by kernel_rfl, fun W hS => by (obtain ⟨s0', s1', s2', s3', s4', s5', s6', s7', s8', s9', s10', s11', s12', s13', s14', s15'⟩ := hS); go_simp⟩) hS ?_
        (try simp only [Act.put, List.setIfInBounds_toArray, List.set_cons_zero, List.set_cons_succ])
        refine wpAnyH_take (i := 3) (oi := ⟨_, _, _, _, _, _⟩) (v := .int .i64 (q : Int)) rfl (by kernel_rfl) (by kernel_rfl) (by kernel_rfl) (fun _ _ _ h => h) (Or.inl ⟨by kernel_rfl, fun W hS => by (obtain ⟨s0', s1', s2', s3', s4', s5', s6', s7', s8', s9', s10', s11', s12', s13', s14', s15'⟩ := hS); go_simp⟩) hS ?_
        (try simp only [Act.put, List.setIfInBounds_toArray, List.set_cons_zero, List.set_cons_succ])
        refine wpAnyH_take (i := 4) (oi := ⟨_, _, _, _, _, _⟩) (v := .pointer (some ⟨g, q * 3, none⟩)) rfl (by kernel_rfl) (by kernel_rfl) (by kernel_rfl) (fun _ _ _ h => h) (Or.inl ⟨by kernel_rfl, fun W hS => by (obtain ⟨s0', s1', s2', s3', s4', s5', s6', s7', s8', s9', s10', s11', s12', s13', s14', s15'⟩ := hS); go_simp⟩) hS ?_
        (try simp only [Act.put, List.setIfInBounds_toArray, List.set_cons_zero, List.set_cons_succ])
        refine wpAnyH_take (i := 5) (oi := ⟨_, _, _, _, _, _⟩) (v := .pointer (some ⟨g, q * 3 + 2, none⟩)) rfl (by kernel_rfl) (by kernel_rfl) (by kernel_rfl) (fun _ _ _ h => h) (Or.inl ⟨by kernel_rfl, fun W hS => by (obtain ⟨s0', s1', s2', s3', s4', s5', s6', s7', s8', s9', s10', s11', s12', s13', s14', s15'⟩ := hS); go_simp⟩) hS ?_
        (try simp only [Act.put, List.setIfInBounds_toArray, List.set_cons_zero, List.set_cons_succ])
        refine wpAnyH_take (i := 6) (oi := ⟨_, _, _, _, _, _⟩) (v := .slice (some ⟨g2, 0, none⟩) d3.n d3.c) rfl (by kernel_rfl) (by kernel_rfl) (by kernel_rfl) (fun _ _ _ h => h) (Or.inl ⟨by kernel_rfl, fun W hS => by (obtain ⟨s0', s1', s2', s3', s4', s5', s6', s7', s8', s9', s10', s11', s12', s13', s14', s15'⟩ := hS); go_simp⟩) hS ?_
        (try simp only [Act.put, List.setIfInBounds_toArray, List.set_cons_zero, List.set_cons_succ])
        refine wpAnyH_take (i := 7) (oi := ⟨_, _, _, _, _, _⟩) (v := .pointer (some ⟨wr.heap.size, 1, none⟩)) rfl (by kernel_rfl) (by kernel_rfl) (by kernel_rfl) (fun _ _ _ h => h) (Or.inl ⟨by kernel_rfl, fun W hS => by (obtain ⟨s0', s1', s2', s3', s4', s5', s6', s7', s8', s9', s10', s11', s12', s13', s14', s15'⟩ := hS); go_simp⟩) hS ?_
        (try simp only [Act.put, List.setIfInBounds_toArray, List.set_cons_zero, List.set_cons_succ])
        refine wpAnyH_take (i := 8) (oi := ⟨_, _, _, _, _, _⟩) (v := .int .i64 (r : Int)) rfl (by kernel_rfl) (by kernel_rfl) (by kernel_rfl) (fun _ _ _ h => h) (Or.inl ⟨by kernel_rfl, fun W hS => by (obtain ⟨s0', s1', s2', s3', s4', s5', s6', s7', s8', s9', s10', s11', s12', s13', s14', s15'⟩ := hS); go_simp⟩) hS ?_
        (try simp only [Act.put, List.setIfInBounds_toArray, List.set_cons_zero, List.set_cons_succ])
        refine wpAnyH_take (i := 9) (oi := ⟨_, _, _, _, _, _⟩) (v := .agg #[.int .i64 yf, .int .i64 yt, .int .i64 yw, .int .i64 yi, .int .i64 ev]) rfl (by kernel_rfl) (by kernel_rfl) (by kernel_rfl) (fun _ _ _ h => h) (Or.inl ⟨by kernel_rfl, fun W hS => by (obtain ⟨s0', s1', s2', s3', s4', s5', s6', s7', s8', s9', s10', s11', s12', s13', s14', s15'⟩ := hS); go_simp⟩) hS ?_
        (try simp only [Act.put, List.setIfInBounds_toArray, List.set_cons_zero, List.set_cons_succ])
        refine wpAnyH_take (i := 10) (oi := ⟨_, _, _, _, _, _⟩) (v := .pointer (some ⟨g2, r * 5, none⟩)) rfl (by kernel_rfl) (by kernel_rfl) (by kernel_rfl) (fun _ _ _ h => h) (Or.inl ⟨by kernel_rfl, fun W hS => by (obtain ⟨s0', s1', s2', s3', s4', s5', s6', s7', s8', s9', s10', s11', s12', s13', s14', s15'⟩ := hS); go_simp⟩) hS ?_
        (try simp only [Act.put, List.setIfInBounds_toArray, List.set_cons_zero, List.set_cons_succ])
        refine wpAnyH_ready (rs := [11]) (by kernel_rfl) (by simp) (AllReadyH.cons rfl (fun K hK => ?_) AllReadyH.nil)
        go_simp
        clear ex0 ex1 ex2 ex3 ex4
        have BX_768 : Hid (Blk (lay5 W9 g2 (r * 5) (⟨yf, yt, yw, yi, ev⟩ : KE)) (w.heap.size) #[.int .i64 N, .slice A n c, .slice (some ⟨b2, off2, none⟩) m d] 26) := Lib.hid (BX_759.out.grown HPG.out (fun e => by injection e with e; exact absurd e.symm nx))
        clear BX_759
        have BZ_769 : Hid (Blk (lay5 W9 g2 (r * 5) (⟨yf, yt, yw, yi, ev⟩ : KE)) (w.heap.size + 2) #[.int .i64 0, .slice none 0 0, .slice none 0 0] 26) := Lib.hid (BZ_760.out.grown HPG.out (fun e => by injection e with e; exact absurd e.symm nz))
        clear BZ_760
        have BO_770 : Hid (Blk (lay5 W9 g2 (r * 5) (⟨yf, yt, yw, yi, ev⟩ : KE)) (w2.heap.size) #[.int .i64 N, .slice A2 n c2, .slice (some ⟨g, 0, none⟩) m d2] 26) := Lib.hid (BO_761.out.grown HPG.out (fun e => by injection e with e; exact absurd e.symm no))
        clear BO_761
        have XB_771 : Hid (Blk (lay5 W9 g2 (r * 5) (⟨yf, yt, yw, yi, ev⟩ : KE)) (wr.heap.size) #[.int .i64 (q : Int), .int .i64 (r : Int), .int .i64 yf, .int .i64 yt, .int .i64 yw, .int .i64 yi, .int .i64 ev] 42) := Lib.hid (XB_764.out.grown HPG.out (fun e => by injection e with e; exact absurd e.symm nb))
        clear XB_764
        have BE_772 : Hid (Blk (lay5 W9 g2 (r * 5) (⟨yf, yt, yw, yi, ev⟩ : KE)) (qe) #[.int .i64 yf, .int .i64 yt, .int .i64 yw, .int .i64 yi, .int .i64 ev] 40) := Lib.hid (BE_765.out.grown HPG.out (fun e => by injection e with e; exact absurd e.symm ne))
        clear BE_765
        have OE_773 := Lib.hid (OE_762.out.kept HPG.out ((own_types OE_762.out hown (by decide)).imp id fun h e => h e.symm))
        clear OE_762
        have H_774 := Lib.hid (H_763.out.grown HPG.out H_763.out.size (fun i hi => by injection hi with hi; subst hi; exact (hown.lt g2 rfl).1))
        clear H_763
        have t3 : (lay5 W9 g2 (r * 5) (⟨yf, yt, yw, yi, ev⟩ : KE)).cell? ⟨g, q * 3 + 2, none⟩ = some (.slice (some ⟨g2, 0, none⟩) d3.n d3.c) := (World.cell?_of_block (a := ⟨g, q * 3 + 2, none⟩) (HPG.out.block g (by have h5 := OH_766.out.row.lt g rfl; exact h5.2) (fun e => by injection e with e; exact hgg e))).trans t2
        refine hK.out _ _ ⟨BO_770.out.cell (i := 0) rfl, BO_770.out.cell (i := 1) rfl, BO_770.out.cell (i := 2) rfl, XB_771.out.cell (i := 0) rfl, XB_771.out.cell (i := 1) rfl, XB_771.out.cell (i := 2) rfl, XB_771.out.cell (i := 3) rfl, XB_771.out.cell (i := 4) rfl, XB_771.out.cell (i := 5) rfl, XB_771.out.cell (i := 6) rfl, BE_772.out.cell (i := 0) rfl, BE_772.out.cell (i := 1) rfl, BE_772.out.cell (i := 2) rfl, BE_772.out.cell (i := 3) rfl, BE_772.out.cell (i := 4) rfl, t3⟩ (fun hS => ?_)
        clear hK K
        (try simp only [Act.put, List.setIfInBounds_toArray, List.set_cons_zero, List.set_cons_succ])
        refine wpAnyH_done (by kernel_rfl) ?_ _
        clear hown hownH t0 t1 t2 t3
        go_wp2
        go_roundw
        case rel => exact ⟨j + 1, _, by omega, by go_num, HPU, HSD, HK, BX_768, BZ_769, BO_770, OE_773, H_774⟩
        case measure => simp [intOf]; omega
      · obtain rfl : j = k := by omega
        skip
        have HALL : Hid (us.all (fitB (sdL bs)) = true) := Lib.hid (by rw [List.all_eq_true]; intro y hy; exact hfit.out y (by rw [List.take_of_length_le (by rw [HUL.out]; exact Nat.le_refl _)]; exact hy))
        have HYES : Hid (putB N E (sdL bs) us = true) := Lib.hid (by unfold putB; rw [HALL.out, HFB.out]; rfl)
        have HFI : Hid (cur.map HE.sd = putL (sdL bs) us) := Lib.hid (by rw [hsd.out, List.take_of_length_le (by rw [HUL.out]; exact Nat.le_refl _)])
        have RE := Lib.hid (hoe.out.lt)
        have R3 := Lib.hid ho.out
        have HZ9 := Lib.hid hbz.out
        have zl := hbz.out.lt
        have x_901 := hbo.out.cell (i := 0) rfl
        have x_902 := hbo.out.cell (i := 1) rfl
        have x_903 := hbo.out.cell (i := 2) rfl
        have fz_904 := fun i => hbo.out.frozen i
        have lt_905 := hbo.out.lt
        have x_906 := hbz.out.cell (i := 0) rfl
        have x_907 := hbz.out.cell (i := 1) rfl
        have x_908 := hbz.out.cell (i := 2) rfl
        have fz_909 := fun i => hbz.out.frozen i
        have lt_910 := hbz.out.lt
        go_wp2
        have hg_911 := ((grown_cell wr (w.heap.size + 2) 0 (.int .i64 N)).trans (grown_cell (wr.setCell ⟨w.heap.size + 2, 0, none⟩ (.int .i64 N)) (w.heap.size + 2) 1 (.slice A2 n c2))).trans (grown_cell ((wr.setCell ⟨w.heap.size + 2, 0, none⟩ (.int .i64 N)).setCell ⟨w.heap.size + 2, 1, none⟩ (.slice A2 n c2)) (w.heap.size + 2) 2 (.slice B2 m d2))
        have OE_912 := Lib.hid (own_kept hoe.out hg_911 (own_kind hoe.out hbz.out (by decide)))
        have H_913 := Lib.hid (hbel.out.grown hg_911 hbel.out.size (fun j hj => by injection hj with hj; omega))
        have BZ_914 : Hid (Blk (((wr.setCell ⟨w.heap.size + 2, 0, none⟩ (.int .i64 N)).setCell ⟨w.heap.size + 2, 1, none⟩ (.slice A2 n c2)).setCell ⟨w.heap.size + 2, 2, none⟩ (.slice B2 m d2)) (w.heap.size + 2) #[.int .i64 N, .slice A2 n c2, .slice B2 m d2] 26) := Lib.hid (Blk.set (Blk.set (Blk.set (hbz.out) 0 (.int .i64 N)) 1 (.slice A2 n c2)) 2 (.slice B2 m d2))
        have sz_915 := Lib.hid (World.grownBy.size hg_911)
        clear hg_911
        refine bodyPost_ret (v := .tuple #[.agg #[.int .i64 N, .slice A2 n c2, .slice B2 m d2], .bool true]) (by simp [results, Try.results47, go_sem, x_906, x_907, x_908]) rfl ?_
        have G9 : Hid (HOwn (((wr.setCell ⟨w.heap.size + 2, 0, none⟩ (.int .i64 N)).setCell ⟨w.heap.size + 2, 1, none⟩ (.slice A2 n c2)).setCell ⟨w.heap.size + 2, 2, none⟩ (.slice B2 m d2)) w.heap.size w.heap.size ((((wr.setCell ⟨w.heap.size + 2, 0, none⟩ (.int .i64 N)).setCell ⟨w.heap.size + 2, 1, none⟩ (.slice A2 n c2)).setCell ⟨w.heap.size + 2, 2, none⟩ (.slice B2 m d2))).heap.size B2 m d2 (putL (sdL bs) us)) := Lib.hid (by
          have h1 := R3.out
          have hw : OnlyB (fun g => g = w.heap.size + 2) wr (((wr.setCell ⟨w.heap.size + 2, 0, none⟩ (.int .i64 N)).setCell ⟨w.heap.size + 2, 1, none⟩ (.slice A2 n c2)).setCell ⟨w.heap.size + 2, 2, none⟩ (.slice B2 m d2)) := by
            repeat (first | exact OnlyB.refl _ _ | refine OnlyB.grown ?_ (grown_cell _ _ _ _) (fun i hi => by injection hi with hi; omega))
          have h2 := h1.but hw (fun g hg hh => by subst hh; exact h1.apartB HZ9.out (by decide) (by decide) hg)
          exact HOwn.of h2 HFI.out)
        have e1 := HLE.out
        have e2 : (putL (sdL bs) us).length = m := by rw [putL_len, HL.out]
        rw [HYES.out, (fp_yes HYES.out).1, (fp_yes HYES.out).2.1, (fp_yes HYES.out).2.2]
        unfold MadeFB
        rw [e1, e2]
        exact ⟨A2, c2, B2, d2, rfl, ⟨OE_912.out, G9.out, fun g hg => (show w.heap.size ≤ g ∧ g < ((((wr.setCell ⟨w.heap.size + 2, 0, none⟩ (.int .i64 N)).setCell ⟨w.heap.size + 2, 1, none⟩ (.slice A2 n c2)).setCell ⟨w.heap.size + 2, 2, none⟩ (.slice B2 m d2))).heap.size by have h3 := RE.out g hg; have := sz_915.out; omega)⟩, H_913.out⟩
end Go.Proofs.Ytpgnappddddlpaa
