/- The walk of the law FnGraphText: it returns true and writes nothing that was there, given that the library's variables hold what their text lays. -/
import Derived.Test.YtggfjnmplokccaaDoorMakeG
import Derived.Test.YtggfjnmplokccaaDoorReadG
import Derived.Test.YtggfjnmplokccaaDoorGrRound
import Derived.Test.YtggfjnmplokccaaDoorGrTextI
import Derived.Test.YtggfjnmplokccaaDoorDegsOutI
import Derived.Test.YtggfjnmplokccaaDoorDegsSum
namespace Go.Proofs.YtggfjnmplokccaaDoor
open Go.RowKit

theorem degs_facts (key : GE → Int) (hk : key = GE.f ∨ key = GE.t) {N : Int} {es : List GE} (h : graphB N es = true) : (degsOf key N es).length ≤ 150 ∧ (∀ x ∈ degsOf key N es, 0 ≤ x) ∧ (degsOf key N es).sum = es.length := by
  refine ⟨?_, ?_, degs_sum key hk h⟩
  · unfold degsOf
    rw [if_pos h, degs_len]
    have := graphB_iff h
    omega
  · intro x hx
    unfold degsOf at hx
    rw [if_pos h] at hx
    exact (degs_bound key _ es x hx).1

set_option maxRecDepth 20000 in
set_option maxHeartbeats 4000000 in
theorem walkGrText (a : Option Addr) (n c : Nat) (zs : List Int) (w : World) (hin : IsRow .u8 w a n c zs) (hd : Door w) :
    Calls Tryd.prog 4 #[.slice a n c] w fun e w' => e = .returned (.bool true) ∧ Below w.heap.size w w' := by
  obtain ⟨hnc, hcm, xs, hrd⟩ := hin.rd
  clear hin
  by_cases hbig : n ≤ 1048576
  · have CM := Lib.hid (makeGraph a n c xs w hrd hbig)
    have HD := Lib.hid hd
    clear hrd hd
    go_enter Tryd.func4, Tryd.ntmps4
    go_wp2_with fail
    refine CM.out.mono ?_
    rintro e w1 ⟨N, es, B, d, hv, hl, rfl, hsl, hb1⟩
    obtain ⟨k, hk⟩ : ∃ k, k = es.length := ⟨_, rfl⟩
    have HK := Lib.hid hk
    have CT := Lib.hid (fun W (h : SlG W B k es) (ht : Pow10 W) => implGraphText N B k d es W h (by omega) ht)
    have hsz : (graphT (N : Int) es).size ≤ 1048576 := by
      have h1 := graphB_iff hv
      have h2 := textG_size (N := (N : Int)) (es := es) (by unfold numOk'; omega) (fun e he => edge_num (h1.2.2.2 e he) h1.2.1)
      unfold graphT
      rw [if_pos hv]
      omega
    have CR := Lib.hid (fun W (h : Door W) => implRead (graphT (N : Int) es) W hsz h)
    rw [readG_text hv (by omega)] at CR
    unfold ReadRes at CR
    simp only [← hk] at CR
    have CI := Lib.hid (fun W (h : SlG W B k es) => implIn N B k d es W h (by omega))
    have CO := Lib.hid (fun W (h : SlG W B k es) => implOut N B k d es W h (by omega))
    have CG := Lib.hid (fun W (h : SlG W B k es) => implGraphOk N B k d es W h (by omega))
    rw [hv] at CG
    obtain ⟨i1, i2, i3⟩ := degs_facts GE.t (.inr rfl) hv
    obtain ⟨o1, o2, o3⟩ := degs_facts GE.f (.inl rfl) hv
    rw [← hk] at i3 o3
    unfold MadeI at CI CO
    generalize degsOf GE.t (N : Int) es = IN at CI i1 i2 i3
    generalize degsOf GE.f (N : Int) es = OUT at CO o1 o2 o3
    generalize graphT (N : Int) es = T at CT CR hsz
    have HIN := Lib.hid (fun j => sum_take_le IN j i2)
    have HOUT := Lib.hid (fun j => sum_take_le OUT j o2)
    have HIS := Lib.hid i3
    have HOS := Lib.hid o3
    rw [← hk] at hl hsl ⊢
    have B1 := Lib.hid (NBox.new w1 (N : Int) B k d 24)
    have S1 := Lib.hid (hsl.below (below_a1 w1 (.cells #[.int .i64 (N : Int), .slice B k d] 24)))
    have HB1 := Lib.hid (g_chain hb1 (below_a1 w1 (.cells #[.int .i64 (N : Int), .slice B k d] 24)))
    clear hb1 hsl hk hv i2 i3 o2 o3 CM hsz
    obtain ⟨l0, x0, x1⟩ := B1.out
    go_wp2_with fail
    refine (CT.out _ S1.out (HD.out.below HB1.out).t).mono ?_
    rintro e w2 ⟨rfl, hb2⟩
    have B2 := Lib.hid (B1.out.below hb2)
    have S2 := Lib.hid (S1.out.below hb2)
    have HB2 := Lib.hid (g_chain HB1.out hb2)
    clear hb2 B1 S1 HB1 l0 x0 x1 CT
    obtain ⟨l0, x0, x1⟩ := B2.out
    go_wp2_with fail
    refine (CR.out _ (HD.out.below HB2.out)).mono ?_
    rintro e w3 ⟨A3, c3, rfl, ho3, hb3⟩
    have hb3' := g_chain hb3 (below_a1 w3 (.cells #[.int .i64 (N : Int), .slice A3 k c3] 24))
    have X3 := Lib.hid (NBox.new w3 (N : Int) A3 k c3 24)
    have R3 := Lib.hid (SlG.of_own (own_below ho3 (below_a1 w3 (.cells #[.int .i64 (N : Int), .slice A3 k c3] 24))) HK.out.symm)
    have B3 := Lib.hid (B2.out.below hb3')
    have S3 := Lib.hid (S2.out.below hb3')
    have HB3 := Lib.hid (g_chain HB2.out hb3')
    clear hb3 hb3' ho3 B2 S2 HB2 l0 x0 x1 CR
    obtain ⟨l0, x0, x1⟩ := B3.out
    go_wp2_with fail
    refine (CI.out _ S3.out).mono ?_
    rintro e w4 ⟨A4, n4, c4, rfl, ho4, hb4⟩
    have R4 := Lib.hid (SlI.of_own ho4)
    have B4 := Lib.hid (B3.out.below hb4)
    have S4 := Lib.hid (S3.out.below hb4)
    have X4 := Lib.hid (X3.out.below hb4)
    have Q4 := Lib.hid (R3.out.below hb4)
    have HB4 := Lib.hid (g_chain HB3.out hb4)
    have hn4 : n4 ≤ 150 := by have := R4.out.len; omega
    clear hb4 ho4 B3 S3 X3 R3 HB3 l0 x0 x1 CI
    go_wp2
    go_loopw [6, 27] (fun q i wr => ∃ j : Nat, j ≤ n4 ∧ i = .int .i64 j ∧ q = .int .i64 (IN.take j).sum ∧ wr = w4) (fun _ i _ => n4 - (intOf i).toNat)
    case atStart => exact ⟨0, by omega, rfl, rfl, rfl⟩
    case round =>
      obtain ⟨j, hj, rfl, rfl, rfl⟩ := hrel
      by_cases hlt : j < n4
      · obtain ⟨b, off, x, rfl, hbw, hx, c0⟩ := R4.out.at_ hlt
        have h1 := HIN.out j
        have h2 := HIN.out (j + 1)
        have hst := sum_take hx.out
        rw [hst] at h2
        rw [HIS.out] at h1 h2
        have HST := Lib.hid hst
        generalize (IN.take j).sum = q at h1 h2 HST ⊢
        clear hst hx
        go_wp2
        go_roundw
        case rel => exact ⟨j + 1, by omega, by go_num, by first | (rw [HST.out]; done) | (rw [HST.out]; go_num), by first | rfl | trivial⟩
        case measure => simp [intOf]; omega
      · obtain rfl : j = n4 := by omega
        have e1 : (IN.take j).sum = (k : Int) := by rw [List.take_of_length_le (by rw [R4.out.len]; exact Nat.le_refl _)]; exact HIS.out
        rw [e1]
        clear e1
        obtain ⟨l0, x0, x1⟩ := B4.out
        go_wp2_with fail
        refine (CO.out _ S4.out).mono ?_
        rintro e w5 ⟨A5, n5, c5, rfl, ho5, hb5⟩
        have R5 := Lib.hid (SlI.of_own ho5)
        have B5 := Lib.hid (B4.out.below hb5)
        have S5 := Lib.hid (S4.out.below hb5)
        have X5 := Lib.hid (X4.out.below hb5)
        have Q5 := Lib.hid (Q4.out.below hb5)
        have HB5 := Lib.hid (g_chain HB4.out hb5)
        have hn5 : n5 ≤ 150 := by have := R5.out.len; omega
        clear hb5 ho5 B4 S4 X4 Q4 HB4 l0 x0 x1 CO R4
        go_wp2
        go_loopw [9, 38] (fun q i wr => ∃ m : Nat, m ≤ n5 ∧ i = .int .i64 m ∧ q = .int .i64 (OUT.take m).sum ∧ wr = w5) (fun _ i _ => n5 - (intOf i).toNat)
        case atStart => exact ⟨0, by omega, rfl, rfl, rfl⟩
        case round =>
          obtain ⟨m, hm, rfl, rfl, rfl⟩ := hrel
          by_cases hlt2 : m < n5
          · obtain ⟨b, off, x, rfl, hbw, hx, c0⟩ := R5.out.at_ hlt2
            have h1 := HOUT.out m
            have h2 := HOUT.out (m + 1)
            have hst := sum_take hx.out
            rw [hst] at h2
            rw [HOS.out] at h1 h2
            have HST := Lib.hid hst
            generalize (OUT.take m).sum = q at h1 h2 HST ⊢
            clear hst hx
            go_wp2
            go_roundw
            case rel => exact ⟨m + 1, by omega, by go_num, by first | (rw [HST.out]; done) | (rw [HST.out]; go_num), by first | rfl | trivial⟩
            case measure => simp [intOf]; omega
          · obtain rfl : m = n5 := by omega
            have e1 : (OUT.take m).sum = (k : Int) := by rw [List.take_of_length_le (by rw [R5.out.len]; exact Nat.le_refl _)]; exact HOS.out
            rw [e1]
            clear e1
            obtain ⟨l0, x0, x1⟩ := B5.out
            obtain ⟨l1, y0, y1⟩ := X5.out
            go_wp2
            clear l0 x0 x1 l1 y0 y1
            go_loopw [79] (fun i wv => ∃ (p q : Nat), p ≤ k ∧ i = .int .i64 p ∧ wv = wr.drewN q) (fun i _ => k - (intOf i).toNat)
            case atStart => exact ⟨0, 0, by omega, rfl, rfl⟩
            case round =>
              obtain ⟨p, q, hp, rfl, rfl⟩ := hrel
              obtain ⟨l0, x0, x1⟩ := B5.out
              obtain ⟨l1, y0, y1⟩ := X5.out
              by_cases hlt3 : p < k
              · obtain ⟨b, off, e, rfl, hbw, he, u0, u1, u2⟩ := S5.out.at_ hlt3
                obtain ⟨b', off', e', rfl, hbw', he', v0, v1, v2⟩ := Q5.out.at_ hlt3
                obtain rfl : e = e' := by have := he.out.symm.trans he'.out; injection this
                clear he he'
                go_wp2
                go_quiet (fail)
                go_wp2
                go_roundw
                case rel => exact ⟨p + 1, _, by omega, by go_num, rfl⟩
                case measure => simp [intOf]; omega
              · obtain rfl : p = k := by omega
                have CGG := Lib.hid (CG.out _ (S5.out.drewN q))
                go_wp2_with fail
                refine CGG.out.mono ?_
                rintro e w9 ⟨rfl, hb9⟩
                go_wp2
                go_ret
                exact ⟨rfl, g_chain (below_drewN HB5.out q) hb9⟩
  · clear hrd hd
    go_enter Tryd.func4, Tryd.ntmps4
    go_wp2
    go_ret
    exact ⟨rfl, Below.refl _ _⟩
end Go.Proofs.YtggfjnmplokccaaDoor
