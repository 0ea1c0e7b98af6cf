/- The walk of the law FnShards: it returns true and writes nothing that was there, given that the library's table of powers of ten holds what its text lays. -/
import Derived.Test.YtmbabbapcjphgaaDoorCA15
import Derived.Test.YtmbabbapcjphgaaDoorCA3
import Derived.Test.YtmbabbapcjphgaaDoorCA4
import Derived.Test.YtmbabbapcjphgaaDoorCA6
import Derived.Test.YtmbabbapcjphgaaDoorCA2
import Derived.Test.YtmbabbapcjphgaaDoorCA8
import Derived.Test.YtmbabbapcjphgaaDoorKDealI
import Derived.Test.YtmbabbapcjphgaaDoorCA14
import Derived.Test.YtmbabbapcjphgaaDoorCA9
import Derived.Test.YtmbabbapcjphgaaDoorCA13
import Derived.Deep.RegionHeld3
namespace Go.Proofs.YtmbabbapcjphgaaDoor
open Go.RowKit

theorem sum_at {ds : List Int} {lo j : Nat} {x : Int} (h : ds[lo + j]? = some x) : ((ds.drop lo).take (j + 1)).sum = ((ds.drop lo).take j).sum + x := by
  rw [g_take (ds.drop lo) j x (by rw [List.getElem?_drop]; exact h), List.sum_append]
  simp
theorem part_le {ds : List Int} (h : ∀ x ∈ ds, 0 ≤ x) (lo j : Nat) : 0 ≤ ((ds.drop lo).take j).sum ∧ ((ds.drop lo).take j).sum ≤ ds.sum := by
  have h1 := sum_take_le (ds.drop lo) j (fun x hx => h x (List.mem_of_mem_drop hx))
  have h2 := (sum_take_le ds lo h)
  have h3 : ds.sum = (ds.take lo).sum + (ds.drop lo).sum := by rw [← List.sum_append, List.take_append_drop]
  omega

theorem NBox.drew {w : World} {b n c : Nat} {N : Int} {A : Option Addr} (h : NBox w b N A n c) : NBox w.drew b N A n c := ⟨h.lt, h.c0, h.c1⟩

set_option maxRecDepth 20000 in
set_option maxHeartbeats 4000000 in
theorem walkFnShards (a : Option Addr) (n c : Nat) (zs : List Int) (w : World) (hin : IsRow .u8 w a n c zs) (ht : Pow10 w) :
    Calls Tryd.prog 3 #[.slice a n c] w fun e w' => e = .returned (.bool true) ∧ Below w.heap.size w w' := by
  obtain ⟨hnc, hcm, xs, hrd⟩ := hin.rd
  clear hin
  by_cases hbig : n ≤ 1048576
  · have CM := Lib.hid (makeGraph a n c xs w hrd hbig)
    have CN6 : Hid (∀ W, Below w.heap.size w W → Calls Tryd.prog 8 #[.slice a n c, .int .i64 6] W fun e w' => ∃ x : Nat, x < 6 ∧ e = .returned (.int .i64 (x : Int)) ∧ Below W.heap.size W w') := Lib.hid (fun W h => makeNum a n c 6 xs W (hrd.below h) hbig (by omega) (by omega))
    have CN4 : Hid (∀ W, Below w.heap.size w W → Calls Tryd.prog 8 #[.slice a n c, .int .i64 4] W fun e w' => ∃ x : Nat, x < 4 ∧ e = .returned (.int .i64 (x : Int)) ∧ Below W.heap.size W w') := Lib.hid (fun W h => makeNum a n c 4 xs W (hrd.below h) hbig (by omega) (by omega))
    have HT := Lib.hid (fun W (h : Below w.heap.size w W) => ht.below h)
    clear hrd ht
    go_enter Tryd.func3, Tryd.ntmps3
    go_wp2_with fail
    refine CM.out.mono ?_
    rintro e w1 ⟨N, es, B, d, hv, hl, rfl, hsl, hb1⟩
    have HV := Lib.hid hv
    have CC := Lib.hid (fun W b (h : SlG W B es.length es) => implCut N B es.length d es b W h (by omega))
    have CT := Lib.hid (fun W A c (h : SlG W A es.length es) (h2 : Below w.heap.size w W) => implGraphText N A es.length c es W h (by omega) (HT.out W h2))
    have CU := Lib.hid (fun W (h : SlG W B es.length es) => specGraphText N B es.length d es W h (by omega))
    have CD := Lib.hid (fun W (h : SlG W B es.length es) => specIn N B es.length d es W h (by omega))
    generalize graphT (N : Int) es = T at CT CU
    have hTT : (T.toList != T.toList) = false := by simp
    have B1 := Lib.hid (NBox.new w1 (N : Int) B es.length d 25)
    have S1 := Lib.hid (hsl.below (below_a1 w1 (.cells #[.int .i64 (N : Int), .slice B es.length d] 25)))
    have H1 := Lib.hid (g_chain hb1 (below_a1 w1 (.cells #[.int .i64 (N : Int), .slice B es.length d] 25)))
    have KP : Hid (∀ W : World, NBox W w1.heap.size (N : Int) B es.length d → (W.cell? ⟨w1.heap.size, 0, none⟩ = some (.int .i64 (N : Int)) ∧ W.cell? ⟨w1.heap.size, 1, none⟩ = some (.slice B es.length d))) := Lib.hid (fun W h => ⟨h.c0, h.c1⟩)
    clear hb1 hsl CM hv
    obtain ⟨l0, x0, x1⟩ := B1.out
    go_wp2
    have BD := Lib.hid B1.out.drew
    have SD' := Lib.hid (S1.out.below (Below.refl _ _).drew)
    have HD := Lib.hid H1.out.drew
    go_region_held3 (fun W => W.cell? ⟨w1.heap.size, 0, none⟩ = some (.int .i64 (N : Int)) ∧ W.cell? ⟨w1.heap.size, 1, none⟩ = some (.slice B es.length d))
      (first
        | with_reducible exact KP.out _ B3.out
        | with_reducible exact KP.out _ B2.out
        | with_reducible exact KP.out _ BD.out)
      (first
        | (go_at_call 8; ((with_reducible refine (CN6.out _ (by first | exact H1.out | exact HD.out)).mono ?_)); rintro e wa ⟨x, hx, rfl, hb⟩; have B2 := Lib.hid (by first | exact BD.out.below hb | exact B1.out.below hb); have S2 := Lib.hid (by first | exact SD'.out.below hb | exact S1.out.below hb); have H2 := Lib.hid (by first | exact g_chain HD.out hb | exact g_chain H1.out hb); obtain ⟨l2, x20, x21⟩ := B2.out; clear hb)
        | (go_at_call 7; ((with_reducible refine (CC.out _ _ S2.out).mono ?_)); rintro e wb ⟨E, m, ec, rfl, hoe, hb⟩; have B3 := Lib.hid (B2.out.below hb); have S3 := Lib.hid (S2.out.below hb); have H3 := Lib.hid (g_chain H2.out hb); have I3 := Lib.hid (SlI.of_own hoe); obtain ⟨l3, x30, x31⟩ := B3.out; clear hb hoe))
    have hwx : IntKind.i64.wrap (1 + (x : Int)) = 1 + (x : Int) := by rw [IntKind.wrap_i64]; omega
    rw [hwx] at I3
    have HEN := Lib.hid (cut_ends (N := (N : Int)) (es := es) (b := 1 + (x : Int)) HV.out (by omega) (by omega))
    have HEL := Lib.hid (cutR_len (N : Int) es (1 + (x : Int)))
    generalize cutR (N : Int) es (1 + (x : Int)) = ends at HEN HEL I3
    have hm : m ≤ 150 := by rw [← I3.out.len]; exact HEL.out
    have CS := Lib.hid (fun W s (hs : s ≤ 9223372036854775807) (h : SlG W B es.length es) (h2 : SlI W E m ends) => implShards N B es.length d es E m ec ends s W h (by omega) h2 (by omega) hs)
    have BE := Lib.hid B3.out.drew
    have SE' := Lib.hid (S3.out.below (Below.refl _ _).drew)
    have IE := Lib.hid (I3.out.below (Below.refl _ _).drew)
    have HE := Lib.hid H3.out.drew
    clear l2 x20 x21 l0 x0 x1
    obtain ⟨l0, x0, x1⟩ := B3.out
    go_wp2
    go_region_held3 (fun W => W.cell? ⟨w1.heap.size, 0, none⟩ = some (.int .i64 (N : Int)) ∧ W.cell? ⟨w1.heap.size, 1, none⟩ = some (.slice B es.length d))
      (first
        | with_reducible exact KP.out _ B5.out
        | with_reducible exact KP.out _ B4.out
        | with_reducible exact KP.out _ BE.out)
      (first
        | (go_at_call 8; ((with_reducible refine (CN4.out _ (by first | exact H3.out | exact HE.out)).mono ?_)); rintro e wc ⟨y, hy, rfl, hb⟩; have B4 := Lib.hid (by first | exact BE.out.below hb | exact B3.out.below hb); have S4 := Lib.hid (by first | exact SE'.out.below hb | exact S3.out.below hb); have I4 := Lib.hid (by first | exact IE.out.below hb | exact I3.out.below hb); have H4 := Lib.hid (by first | exact g_chain HE.out hb | exact g_chain H3.out hb); obtain ⟨l2, x20, x21⟩ := B4.out; clear hb)
        | (go_at_call 9; ((with_reducible refine (CS.out _ _ (by rw [IntKind.wrap_i64]; omega) S4.out I4.out).mono ?_)); rintro e wd ⟨Al, nl, cl, bs, rfl, how, hx, hb⟩; have B5 := Lib.hid (B4.out.below hb); have S5 := Lib.hid (S4.out.below hb); have I5 := Lib.hid (I4.out.below hb); have H5 := Lib.hid (g_chain H4.out hb); have L5 := Lib.hid how.sl; have HX := Lib.hid hx; have HWS := Lib.hid how; obtain ⟨l4, x40, x41⟩ := B5.out; clear hb how hx))
    have hwy : IntKind.i64.wrap (1 + (y : Int)) = 1 + (y : Int) := by rw [IntKind.wrap_i64]; omega
    rw [hwy] at HX
    have HSG := Lib.hid (shards_graph (size := 1 + (y : Int)) HV.out HEN.out (by omega))
    have HSA := Lib.hid (fun p hp => shards_at (size := 1 + (y : Int)) (p := p) HV.out HEN.out (by omega) hp)
    generalize shardsR (N : Int) es ends (1 + (y : Int)) = ls at HSG HSA HX
    have hfl : (flatK ls).length = es.length := by
      have h := HSG.out.2.2.1
      rw [(join_some HSG.out.1).2] at h
      rw [← h]
      simp [edgesJ]
    have hll : ls.length = m := by rw [HSG.out.2.2.2, I3.out.len]
    have HSZ := Lib.hid (HWS.out.small (M := 1048576) HX.out (by omega))
    obtain rfl : nl = m := by rw [HSZ.out.k, hll]
    have CJ : Hid (∀ W, SlH W Al nl bs → Calls Tryd.prog 10 #[.int .i64 (N : Int), .slice Al nl cl] W (MadeJ W (N : Int) es true)) := Lib.hid (fun W h => by
      have h9 := implJoined N Al nl cl bs W h (by omega) (fun e he => HSZ.out.e e he)
      rw [show sdL bs = ls from HX.out, HSG.out.1, HSG.out.2.1, HSG.out.2.2.1] at h9
      exact h9)
    clear l2 x20 x21 l0 x0 x1 l3 x30 x31 hfl
    go_wp2_with fail
    refine (CJ.out _ L5.out).mono ?_
    rintro e we ⟨Aj, cj, rfl, hoj, hb⟩
    have B6 := Lib.hid ((B5.out.below hb).below (below_a1 we (.cells #[.int .i64 (N : Int), .slice Aj es.length cj] 25)))
    have J6 := Lib.hid (NBox.new we (N : Int) Aj es.length cj 25)
    have S6 := Lib.hid ((S5.out.below hb).below (below_a1 we (.cells #[.int .i64 (N : Int), .slice Aj es.length cj] 25)))
    have I6 := Lib.hid ((I5.out.below hb).below (below_a1 we (.cells #[.int .i64 (N : Int), .slice Aj es.length cj] 25)))
    have L6 := Lib.hid ((L5.out.below hb).below (below_a1 we (.cells #[.int .i64 (N : Int), .slice Aj es.length cj] 25)))
    have O6 := Lib.hid ((SlG.of_own hoj rfl).below (below_a1 we (.cells #[.int .i64 (N : Int), .slice Aj es.length cj] 25)))
    have H6 := Lib.hid (g_chain (g_chain H5.out hb) (below_a1 we (.cells #[.int .i64 (N : Int), .slice Aj es.length cj] 25)))
    have KJ : Hid (∀ W : World, NBox W w1.heap.size (N : Int) B es.length d → NBox W we.heap.size (N : Int) Aj es.length cj → (W.cell? ⟨w1.heap.size, 0, none⟩ = some (.int .i64 (N : Int)) ∧ W.cell? ⟨w1.heap.size, 1, none⟩ = some (.slice B es.length d) ∧ W.cell? ⟨we.heap.size, 0, none⟩ = some (.int .i64 (N : Int)) ∧ W.cell? ⟨we.heap.size, 1, none⟩ = some (.slice Aj es.length cj))) := Lib.hid (fun W h h2 => ⟨h.c0, h.c1, h2.c0, h2.c1⟩)
    have LE := Lib.hid (L5.out.below hb)
    have IW := Lib.hid (I5.out.below hb)
    clear l4 x40 x41 hoj hb
    have BF := Lib.hid B6.out.drew
    have JF := Lib.hid J6.out.drew
    have SF' := Lib.hid (S6.out.below (Below.refl _ _).drew)
    have OF := Lib.hid (O6.out.below (Below.refl _ _).drew)
    have HF := Lib.hid H6.out.drew
    obtain ⟨l0, x0, x1⟩ := B6.out
    obtain ⟨l1, y0, y1⟩ := J6.out
    go_wp2
    go_region_held3 (fun W => W.cell? ⟨w1.heap.size, 0, none⟩ = some (.int .i64 (N : Int)) ∧ W.cell? ⟨w1.heap.size, 1, none⟩ = some (.slice B es.length d) ∧ W.cell? ⟨we.heap.size, 0, none⟩ = some (.int .i64 (N : Int)) ∧ W.cell? ⟨we.heap.size, 1, none⟩ = some (.slice Aj es.length cj))
      (first
        | with_reducible exact KJ.out _ B8.out J8.out
        | with_reducible exact KJ.out _ B7.out J7.out
        | with_reducible exact KJ.out _ BF.out JF.out)
      (first
        | (go_at_call 11; ((with_reducible refine (CT.out _ _ _ (by first | exact O6.out | exact OF.out) (by first | exact H6.out | exact HF.out)).mono ?_)); rintro e wf ⟨rfl, hb⟩; have B7 := Lib.hid (by first | exact BF.out.below hb | exact B6.out.below hb); have J7 := Lib.hid (by first | exact JF.out.below hb | exact J6.out.below hb); have S7 := Lib.hid (by first | exact SF'.out.below hb | exact S6.out.below hb); have H7 := Lib.hid (by first | exact g_chain HF.out hb | exact g_chain H6.out hb); have HB7 : Hid (Below we.heap.size we wf) := Lib.hid (by first | exact g_chain (below_a1 we _) hb | exact g_chain ((below_a1 we _).drew) hb); obtain ⟨l2, x20, x21⟩ := B7.out; obtain ⟨l3, y20, y21⟩ := J7.out; clear hb)
        | (go_at_call 12; ((with_reducible refine (CU.out _ S7.out).mono ?_)); rintro e wg ⟨rfl, hb⟩; have B8 := Lib.hid (B7.out.below hb); have J8 := Lib.hid (J7.out.below hb); have S8 := Lib.hid (S7.out.below hb); have H8 := Lib.hid (g_chain H7.out hb); have HB8 := Lib.hid (g_chain HB7.out hb); obtain ⟨l4, x40, x41⟩ := B8.out; obtain ⟨l5, y40, y41⟩ := J8.out; clear hb))
    have L8 := Lib.hid (LE.out.below HB8.out)
    have I8 := Lib.hid (IW.out.below HB8.out)
    have hds0 : ∀ z ∈ degsOf GE.t (N : Int) es, 0 ≤ z := by
      intro z hz
      unfold degsOf at hz
      rw [if_pos HV.out] at hz
      exact (degs_bound GE.t _ es z hz).1
    have hdss := degs_sum GE.t (.inr rfl) HV.out
    have CI := Lib.hid (fun W v (h : SlI W E nl ends) => implIv E nl ec ends v W h (by omega))
    have CO := Lib.hid (fun W lo hi A n c ks (h : SlK W A n ks) (hn : n ≤ 1048576) => implShardOk lo hi A n c ks W h hn)
    unfold MadeI at CD
    generalize degsOf GE.t (N : Int) es = ds at CD HSA hds0 hdss
    have HD0 := Lib.hid hds0
    have HDS := Lib.hid hdss
    have HENL : Hid (ends.length = nl) := Lib.hid I5.out.len
    clear l0 x0 x1 l1 y0 y1 l2 x20 x21 l3 y20 y21 l4 x40 x41 l5 y40 y41 hds0 hdss
    obtain ⟨l0, x0, x1⟩ := B8.out
    go_wp2_with fail
    refine (CD.out _ S8.out).mono ?_
    rintro e wh ⟨Ai, mi, ci, rfl, hoi, hb⟩
    have D9 := Lib.hid (SlI.of_own hoi)
    have L9 := Lib.hid (L8.out.below hb)
    have I9 := Lib.hid (I8.out.below hb)
    have H9 := Lib.hid (g_chain H8.out hb)
    have HMI : Hid (ds.length = mi) := Lib.hid D9.out.len
    clear l0 x0 x1 hoi hb B8 J8 S8 B7 J7 S7 H7 HB7 HB8 L8 I8 H8 B6 J6 S6 I6 L6 O6 H6 BF JF SF' OF HF LE IW B5 S5 I5 H5 L5 B4 S4 I4 H4 B3 S3 H3 I3 B2 S2 H2 B1 S1 H1 BD SD' HD BE SE' IE HE
    go_wp2
    go_loopw [9, 10, 11, 12, 56] (fun _ _ _ _ i wr => ∃ p : Nat, p ≤ nl ∧ i = .int .i64 (p : Int) ∧ Hid (Below wh.heap.size wh wr)) (fun _ _ _ _ i _ => nl - (intOf i).toNat)
    case atStart => exact ⟨0, Nat.zero_le _, rfl, Lib.hid (Below.refl _ _)⟩
    case round =>
      obtain ⟨p, hp, rfl, hbel⟩ := hrel
      by_cases hlt : p < nl
      · obtain ⟨b, off, xe, rfl, hbw, hxe, hok, c0, c1, c2⟩ := (L9.out.below hbel.out).at_ hlt
        obtain ⟨lo, hi, D, hls, hat⟩ := HSA.out p (by rw [HENL.out]; exact hlt)
        have hsd : xe.sd = (lo, hi, D) := by
          have h : (bs.map HE.sd)[p]? = some xe.sd := by rw [List.getElem?_map, hxe.out]; rfl
          rw [HX.out, hls] at h
          injection h with h
          exact h.symm
        obtain ⟨xlo, xhi, xA, xn, xc, xes⟩ := xe
        have e1 : xlo = lo := congrArg Prod.fst hsd
        have e2 : xhi = hi := congrArg (fun q => q.2.1) hsd
        have e3 : xes = D := congrArg (fun q => q.2.2) hsd
        subst e1 e2 e3
        have h0 := hat.lo0
        have h1 := hat.lt
        have h2 := hat.top
        rw [HMI.out] at h2
        obtain ⟨lo0, rfl⟩ : ∃ lo0 : Nat, xlo = (lo0 : Int) := ⟨xlo.toNat, by omega⟩
        obtain ⟨hi0, rfl⟩ : ∃ hi0 : Nat, xhi = (hi0 : Int) := ⟨xhi.toNat, by omega⟩
        have HAT := Lib.hid hat
        have HRD : Hid (SlK wr xA xn xes) := Lib.hid hok.out.rd
        have hxl : xes.length = xn := hok.out.rd.len
        have hx4 : xn ≤ 400 := by have := (shardB_iff hat.ok).2.2.2.1; omega
        have hh150 : hi0 ≤ 150 := by have := (shardB_iff hat.ok).2.2.1; omega
        have HSUM : Hid (((ds.drop lo0).take (hi0 - lo0)).sum = (xn : Int)) := Lib.hid (by
          have h := hat.sum
          unfold sumAt at h
          rw [hxl, Int.toNat_natCast, show ((hi0 : Int) - (lo0 : Int)).toNat = hi0 - lo0 by omega] at h
          exact h)
        have HOK : Hid (shardB (lo0 : Int) (hi0 : Int) xes = true) := Lib.hid hat.ok
        have HBA := Lib.hid (below_a1 wr (.cells #[.int .i64 (lo0 : Int), .int .i64 (hi0 : Int), .slice xA xn xc] 38))
        have XB := Lib.hid (HBox.new wr (lo0 : Int) (hi0 : Int) xA xn xc 38)
        clear hat hsd hls hok hxe hxl
        go_wp2
        clear c0 c1 c2
        generalize hW1 : wr.alloc (.cells #[.int .i64 (lo0 : Int), .int .i64 (hi0 : Int), .slice xA xn xc] 38) = W1 at XB HBA ⊢
        clear hW1
        have hwl : lo0 < hi0 := by omega
        go_loopw [11, 12] (fun q v w2 => ∃ j : Nat, lo0 + j ≤ hi0 ∧ v = .int .i64 ((lo0 + j : Nat) : Int) ∧ q = .int .i64 ((ds.drop lo0).take j).sum ∧ Hid (Below W1.heap.size W1 w2)) (fun _ v _ => hi0 - (intOf v).toNat)
        case atStart => exact ⟨0, by omega, rfl, by simp, Lib.hid (Below.refl _ _)⟩
        case round =>
          obtain ⟨j, hj, rfl, rfl, hbel2⟩ := hrel
          obtain ⟨xl, k0, k1, k2⟩ := XB.out.below hbel2.out
          have HGG := Lib.hid (g_chain (g_chain hbel.out HBA.out) hbel2.out)
          by_cases hlt2 : lo0 + j < hi0
          · obtain ⟨b2, off2, z, rfl, hbw2, hz, hcz⟩ := (D9.out.below HGG.out).at_ (j := lo0 + j) (by omega)
            have HST := Lib.hid (sum_at hz.out)
            have hpl := part_le HD0.out lo0 j
            rw [HDS.out] at hpl
            have hz0 : 0 ≤ z := HD0.out z (List.mem_of_getElem? hz.out)
            have hpl2 := part_le HD0.out lo0 (j + 1)
            rw [HDS.out, HST.out] at hpl2
            have CIV := Lib.hid (CI.out _ ((lo0 + j : Nat) : Int) (I9.out.below HGG.out))
            rw [HAT.out.iv ((lo0 + j : Nat) : Int) (by omega) (by omega)] at CIV
            generalize hsv : ((ds.drop lo0).take j).sum = sv at HST hpl hpl2 ⊢
            obtain ⟨v, hv⟩ : ∃ v, v = lo0 + j := ⟨_, rfl⟩
            simp only [← hv] at hcz CIV hlt2 ⊢
            have hvs : v ≤ 1000 := by omega
            have HVV := Lib.hid hv
            have HSV := Lib.hid hsv
            clear hv hz hsv
            go_wp2_with (go_at_call 14; refine CIV.out.mono ?_; rintro e w9 ⟨rfl, hb9⟩; have HB9 := Lib.hid (g_chain hbel2.out hb9))
            go_roundw
            case rel =>
              have hvv := HVV.out
              exact ⟨j + 1, by omega, by exact congrArg (Value.int .i64) (by first | omega | (simp only [IntKind.wrap_i64]; omega)), by rw [HST.out], HB9⟩
            case measure => simp [intOf]; omega
          · have hje : j = hi0 - lo0 := by omega
            have hve : lo0 + j = hi0 := by omega
            have COK := Lib.hid (CO.out _ (lo0 : Int) (hi0 : Int) xA xn xc xes ((HRD.out.below HBA.out).below hbel2.out) (by omega))
            rw [HOK.out] at COK
            rw [hje, HSUM.out, show lo0 + (hi0 - lo0) = hi0 by omega]
            clear hje hve
            go_wp2_with (go_at_call 15; refine COK.out.mono ?_; rintro e w9 ⟨rfl, hb9⟩; obtain ⟨xl9, k90, k91, k92⟩ := (XB.out.below hbel2.out).below hb9; have HB9 := Lib.hid (g_chain HGG.out hb9))
            go_roundw
            case rel => exact ⟨p + 1, by omega, by go_num, HB9⟩
            case measure => simp [intOf]; omega
      · go_wp2
        go_ret
        exact ⟨rfl, g_chain H9.out hbel.out⟩
  · have hb2 : (1048576 : Int) < (n : Int) := by omega
    go_enter Tryd.func3, Tryd.ntmps3
    go_wp2
    go_ret
    exact ⟨rfl, Below.refl _ _⟩
end Go.Proofs.YtmbabbapcjphgaaDoor
