/- The contracts of FarmVals, the model's and the program's, and of the model's count of edges. Condition: at most 2^20 ends, shards and edges together. -/
import Derived.Test.YtpgnappddddlpaaCGG
import Derived.Test.YtpgnappddddlpaaCGH
namespace Go.Proofs.Ytpgnappddddlpaa
open Go.RowKit
set_option linter.unusedVariables false

theorem vi_set (xs : List Int) (j : Nat) (v : Int) : (vi xs).set j (.int .i64 v) = vi (xs.set j v) := by simp [vi, List.map_set]
theorem vals_at {N : Int} {E : List Int} {bs : List HE} {k j : Nat} {e : HE} {x : KE} (h : farmB N E (sdL bs) = true) (he : bs[k]? = some e) (hx : e.es[j]? = some x) : ∃ q : Nat, x.i = (q : Int) ∧ q < (flatK (sdL bs)).length ∧ (valRow (flatK (sdL bs)).length (flatK ((sdL bs).take k) ++ e.es.take j)).set q x.v = valRow (flatK (sdL bs)).length (flatK ((sdL bs).take k) ++ e.es.take (j + 1)) := by
  obtain ⟨G, hG⟩ := flat_mid he hx
  obtain ⟨h1, h2, h3⟩ := farm_inds h
  have hm : x ∈ flatK (sdL bs) := by rw [hG]; simp
  have h4 := h2 x hm
  refine ⟨x.i.toNat, by omega, by omega, ?_⟩
  have hj : x.i = ((x.i.toNat : Nat) : Int) := by omega
  rw [g_take e.es j x hx, ← List.append_assoc]
  refine valRow_snoc hj (had_no (G := G) ?_ hj)
  rw [← hG]
  exact h3
set_option maxRecDepth 20000 in
set_option maxHeartbeats 4000000 in
theorem implFarmVals (N : Int) (A : Option Addr) (n c : Nat) (E : List Int) (B : Option Addr) (m d : Nat) (bs : List HE) (w : World) (hA : SlI w A n E) (hB : SlH w B m bs) (hn : n ≤ 1048576) (hm : m ≤ 1048576) (hs : ∀ e ∈ bs, e.n ≤ 1048576) :
    Calls Try.prog 17 #[.agg #[.int .i64 N, .slice A n c, .slice B m d]] w (MadeN w (farmV N E (sdL bs)).length (farmV N E (sdL bs))) := by
  obtain ⟨i0, hi, hz0, hz1, hz2⟩ := info_parts Try.infoInt
  have C := Lib.hid (fun W (h : Below w.heap.size w W) => implGraphOf N A n c E B m d bs W (hA.below h) (hB.below h) hn hm hs)
  have H0 := Lib.hid (below_a1 w (.cells #[.int .i64 N, .slice A n c, .slice B m d] 26))
  have B0 := Lib.hid (Blk.new w #[.int .i64 N, .slice A n c, .slice B m d] 26)
  have HB := Lib.hid hB
  have HL := Lib.hid hB.len
  have HS := Lib.hid hs
  clear hA hB hs
  cases hv : farmB N E (sdL bs) with
  | false =>
    rw [hv] at C
    rw [farmV_no hv]
    generalize farmN N E (sdL bs) = rn at C
    generalize farmG N E (sdL bs) = rg at C
    clear hv
    go_enter Try.func17, Try.ntmps17
    go_wp2_with fail
    refine (C.out _ H0.out).mono ?_
    rintro e w1 ⟨A1, c1, rfl, ho, hb⟩
    have H1 := Lib.hid (g_chain H0.out hb)
    clear hb ho
    go_wp2
    go_ret
    exact ⟨none, 0, rfl, World.ownsRow_nil _ _ _ _, g_chain H1.out (below_a1 _ _)⟩
  | true =>
    have HM : Hid ((farmG N E (sdL bs)).length = (flatK (sdL bs)).length) := Lib.hid (by rw [(farmG_yes hv).2, edgesJ_len])
    have HVA := Lib.hid (fun k j e x (he : bs[k]? = some e) (hx : e.es[j]? = some x) => vals_at hv he hx)
    have hm4 := (farm_inds hv).1
    rw [hv] at C
    rw [farmV_yes hv]
    have HVL := Lib.hid (valRow_len (flatK (sdL bs)).length (flatK (sdL bs)))
    generalize farmN N E (sdL bs) = rn at C
    generalize farmG N E (sdL bs) = rg at C HM
    clear hv
    obtain ⟨M, hM⟩ : ∃ M, (flatK (sdL bs)).length = M := ⟨_, rfl⟩
    rw [hM] at HM HVA hm4 HVL ⊢
    clear hM
    rw [HVL.out]
    go_enter Try.func17, Try.ntmps17
    go_wp2_with fail
    refine (C.out _ H0.out).mono ?_
    rintro e w1 ⟨A1, c1, rfl, ho, hb⟩
    have hml : rg.length = M := HM.out
    rw [hml]
    clear hml
    have G1 := Lib.hid (below_a1 w1 (.cells #[.int .i64 rn, .slice A1 M c1] 58))
    have B1 := Lib.hid ((B0.out.below hb).below G1.out)
    have H1 := Lib.hid (g_chain (g_chain H0.out hb) G1.out)
    have hlw : w.heap.size < w1.heap.size := Blk.lt (B0.out.below hb)
    clear hb ho B0 H0 C
    go_wp2_with (refine wpList_make_full _ rfl (.tmp 19) (.tmp 19) 23 rfl (w1.alloc (.cells #[.int .i64 rn, .slice A1 M c1] 58)).heap.size 3 i0 (.int .i64 0) 1 Try.underlying23 hi hz0 hz1 .i64 .i64 _ _ M rfl rfl rfl rfl (by rw [hz2]; omega) (by unfold maxLen; omega) (Nat.le_refl _) ?_; intro w2 hown hg; have hbw : Below (w1.alloc (.cells #[.int .i64 rn, .slice A1 M c1] 58)).heap.size (w1.alloc (.cells #[.int .i64 rn, .slice A1 M c1] 58)) w2 := (Below.refl _ _).grown hg (Nat.le_refl _) (by simp); have x2 := (B1.out.below hbw).cell (i := 2) rfl)
    have hsz1 : (w1.alloc (.cells #[.int .i64 rn, .slice A1 M c1] 58)).heap.size = w1.heap.size + 1 := by simp
    rw [hsz1] at hown
    have hsz : w.heap.size < w1.heap.size + 1 := by omega
    have B2 := Lib.hid (B1.out.below hbw)
    have H2 := Lib.hid (g_chain H1.out hbw)
    have O2 : Hid (w2.ownsRow (w1.heap.size + 1) 3 1 (.slice (some ⟨w1.heap.size + 1, 0, none⟩) M M) M (vi (valRow M (flatK ((sdL bs).take 0))))) := Lib.hid (by
      have h := hown
      rw [g_rep (fun x : Int => [Value.int .i64 x]) 0 1 (fun _ => rfl) (by omega) (Value.int .i64 0).cells rfl M, flat_one] at h
      rw [List.take_zero, show flatK [] = [] from rfl, valRow_nil]
      exact h)
    clear hown hg hbw B1 H1 G1 hsz1 x2
    obtain ⟨g, hgq⟩ : ∃ g, g = w1.heap.size + 1 := ⟨_, rfl⟩
    rw [← hgq] at O2 hsz ⊢
    clear hgq
    go_loopw [24] (fun i wr => ∃ k : Nat, k ≤ m ∧ i = .int .i64 (k : Int) ∧ Hid (wr.ownsRow g 3 1 (.slice (some ⟨g, 0, none⟩) M M) M (vi (valRow M (flatK ((sdL bs).take k))))) ∧ Hid (Below w.heap.size w wr)) (fun i _ => m - (intOf i).toNat)
    case atStart => exact ⟨0, Nat.zero_le _, rfl, O2, H2⟩
    case round =>
      clear O2 H2 B2
      obtain ⟨k, hk, rfl, hown, hbel⟩ := hrel
      by_cases hlt : k < m
      · obtain ⟨b, off, e, rfl, hbw, he, hok, c0, c1, c2⟩ := HB.out.at_ hlt
        obtain ⟨elo, ehi, eA, en, ec, ees⟩ := e
        have c0 : wr.cell? ⟨b, off + k * 3, none⟩ = some (.int .i64 elo) := (hbel.out.cell (p := ⟨b, off + k * 3, none⟩) hbw).trans c0
        have c1 : wr.cell? ⟨b, off + k * 3 + 1, none⟩ = some (.int .i64 ehi) := (hbel.out.cell (p := ⟨b, off + k * 3 + 1, none⟩) hbw).trans c1
        have c2 : wr.cell? ⟨b, off + k * 3 + 2, none⟩ = some (.slice eA en ec) := (hbel.out.cell (p := ⟨b, off + k * 3 + 2, none⟩) hbw).trans c2
        have HRE : Hid (SlK w eA en ees) := Lib.hid hok.out.rd
        have HEL : Hid (ees.length = en) := Lib.hid hok.out.rd.len
        have hen : en ≤ 1048576 := HS.out _ (List.mem_of_getElem? he.out)
        have HFT : Hid (flatK ((sdL bs).take (k + 1)) = flatK ((sdL bs).take k) ++ ees) := Lib.hid (flat_step he.out)
        have HVK := Lib.hid (fun j x (hx : ees[j]? = some x) => HVA.out k j _ x he.out hx)
        have HA := Lib.hid (below_a1 wr (.cells #[.int .i64 elo, .int .i64 ehi, .slice eA en ec] 85))
        have O3 : Hid ((wr.alloc (.cells #[.int .i64 elo, .int .i64 ehi, .slice eA en ec] 85)).ownsRow g 3 1 (.slice (some ⟨g, 0, none⟩) M M) M (vi (valRow M (flatK ((sdL bs).take k) ++ ees.take 0)))) := Lib.hid (by simpa using own_below hown.out HA.out)
        have H3 := Lib.hid (g_chain hbel.out HA.out)
        clear hok he hown HA
        go_wp2
        clear c0 c1 c2
        generalize wr.alloc (.cells #[.int .i64 elo, .int .i64 ehi, .slice eA en ec] 85) = W3 at *
        go_loopw [31] (fun i wr => ∃ j : Nat, j ≤ en ∧ i = .int .i64 (j : Int) ∧ Hid (wr.ownsRow g 3 1 (.slice (some ⟨g, 0, none⟩) M M) M (vi (valRow M (flatK ((sdL bs).take k) ++ ees.take j)))) ∧ Hid (Below w.heap.size w wr)) (fun i _ => en - (intOf i).toNat)
        case atStart => exact ⟨0, Nat.zero_le _, rfl, O3, H3⟩
        case round =>
          clear O3 H3
          rename World => W5
          obtain ⟨j, hj, rfl, hown, hbel⟩ := hrel
          by_cases hlj : j < en
          · obtain ⟨b', off', x, rfl, hbw', hx, d0, d1, d2, d3, d4⟩ := HRE.out.at_ hlj
            have d0 := (hbel.out.cell (p := ⟨b', off' + j * 5, none⟩) hbw').trans d0
            have d1 := (hbel.out.cell (p := ⟨b', off' + j * 5 + 1, none⟩) hbw').trans d1
            have d2 := (hbel.out.cell (p := ⟨b', off' + j * 5 + 2, none⟩) hbw').trans d2
            have d3 := (hbel.out.cell (p := ⟨b', off' + j * 5 + 3, none⟩) hbw').trans d3
            have d4 := (hbel.out.cell (p := ⟨b', off' + j * 5 + 4, none⟩) hbw').trans d4
            obtain ⟨q, hq, hqM, hset⟩ := HVK.out j x hx.out
            rw [hq] at d3
            have hst := hown.out.stored q (.int .i64 x.v)
            rw [vi_set, hset] at hst
            have hl2 : q < (vi (valRow M (flatK ((sdL bs).take k) ++ ees.take j))).length := by rw [hown.out.1]; omega
            have hcell2 : W5.cell? ⟨g, q, none⟩ = some (vi (valRow M (flatK ((sdL bs).take k) ++ ees.take j)))[q] := by rw [hown.out.cellAt q (by omega), List.getElem?_eq_getElem hl2]
            have hfr := hown.out.frozenAt q
            have hgl : g < W5.heap.size := (hown.out.lt g rfl).2
            have AX := Lib.hid (below_a1 (W5.setCell ⟨g, q, none⟩ (.int .i64 x.v)) (.cells #[.int .i64 x.f, .int .i64 x.t, .int .i64 x.w, .int .i64 (q : Int), .int .i64 x.v] 40))
            have O6 := Lib.hid (own_below hst.1 AX.out)
            have H6 := Lib.hid (g_chain (hbel.out.setCell (p := ⟨g, q, none⟩) (by show w.heap.size ≤ g; omega) (.int .i64 x.v)) AX.out)
            generalize (vi (valRow M (flatK ((sdL bs).take k) ++ ees.take j)))[q] = old at hcell2
            clear hst hown hl2 hset hq hx AX
            go_wp2
            go_roundw
            case rel => exact ⟨j + 1, by omega, by go_num, O6, H6⟩
            case measure => simp [intOf]; omega
          · obtain rfl : j = en := by omega
            have O7 : Hid (W5.ownsRow g 3 1 (.slice (some ⟨g, 0, none⟩) M M) M (vi (valRow M (flatK ((sdL bs).take (k + 1)))))) := Lib.hid (by rw [HFT.out]; have h := hown.out; rw [show ees.take j = ees from List.take_of_length_le (by rw [HEL.out]; exact Nat.le_refl _)] at h; exact h)
            go_wp2
            go_roundw
            case rel => exact ⟨k + 1, by omega, by go_num, O7, hbel⟩
            case measure => simp [intOf]; omega
      · obtain rfl : k = m := by omega
        have hfin := hown.out
        rw [flat_all bs (k := k) (by rw [HL.out]; exact Nat.le_refl _)] at hfin
        have HFI := Lib.hid hfin
        clear hfin
        go_wp2
        go_ret
        exact ⟨_, _, rfl, own_monoG HFI.out (by omega), hbel.out⟩
set_option maxRecDepth 20000 in
set_option maxHeartbeats 1000000 in
theorem specCount (N : Int) (A : Option Addr) (n c : Nat) (B : Option Addr) (m d : Nat) (bs : List HE) (w : World) (hB : SlH w B m bs) (hm : m ≤ 1048576) (hz : sumH bs ≤ 1048576) :
    Calls Try.prog 54 #[.agg #[.int .i64 N, .slice A n c, .slice B m d]] w (GNum w ((flatK (sdL bs)).length : Nat)) := by
  have HB := Lib.hid hB
  have HL := Lib.hid hB.len
  have HF : Hid (sumH bs = (flatK (sdL bs)).length) := Lib.hid (sum_flat (bs := bs) (ls := sdL bs) rfl (fun d hd => (hB.each d hd).rd.len))
  have H0 := Lib.hid (below_a1 w (.cells #[.int .i64 N, .slice A n c, .slice B m d] 26))
  rw [HF.out] at hz
  clear hB
  go_enter Try.func54, Try.ntmps54
  go_wp2
  go_loopw [3, 9] (fun s i wr => ∃ k q : Nat, k ≤ m ∧ i = .int .i64 (k : Int) ∧ s = .int .i64 (q : Int) ∧ q ≤ 1048576 ∧ Hid (q = (flatK ((sdL bs).take k)).length) ∧ Hid (Below w.heap.size w wr)) (fun _ i _ => m - (intOf i).toNat)
  case atStart => exact ⟨0, 0, Nat.zero_le _, rfl, rfl, Nat.zero_le _, Lib.hid (by simp [flatK]), H0⟩
  case round =>
    clear H0
    obtain ⟨k, q, hk, rfl, rfl, hq, hqf, hbel⟩ := hrel
    by_cases hlt : k < m
    · obtain ⟨b, off, e, rfl, hbw, he, hok, c0, c1, c2⟩ := HB.out.at_ hlt
      have c0 := (hbel.out.cell (p := ⟨b, off + k * 3, none⟩) hbw).trans c0
      have c1 := (hbel.out.cell (p := ⟨b, off + k * 3 + 1, none⟩) hbw).trans c1
      have c2 := (hbel.out.cell (p := ⟨b, off + k * 3 + 2, none⟩) hbw).trans c2
      have HQ : Hid (q + e.n = (flatK ((sdL bs).take (k + 1))).length) := Lib.hid (by rw [flat_step he.out, List.length_append, hok.out.rd.len, hqf.out])
      have hle : q + e.n ≤ 1048576 := by
        have h1 := HQ.out
        have h2 : (flatK ((sdL bs).take (k + 1))).length ≤ (flatK (sdL bs)).length := by
          conv => rhs; rw [← List.take_append_drop (k + 1) (sdL bs), flatK_append, List.length_append]
          omega
        omega
      have H1 := Lib.hid (g_chain hbel.out (below_a1 wr (.cells #[.int .i64 e.lo, .int .i64 e.hi, .slice e.A e.n e.c] 85)))
      clear hok he hqf
      go_wp2
      go_roundw
      case rel => exact ⟨k + 1, q + e.n, by omega, by go_num, by go_num, hle, HQ, H1⟩
      case measure => simp [intOf]; omega
    · obtain rfl : k = m := by omega
      have HE : Hid (q = (flatK (sdL bs)).length) := Lib.hid (by rw [hqf.out, flat_all bs (k := k) (by rw [HL.out]; exact Nat.le_refl _)])
      go_wp2
      go_ret
      exact ⟨g_int (by rw [HE.out]), hbel.out⟩
set_option maxRecDepth 20000 in
set_option maxHeartbeats 4000000 in
theorem specFarmVals (N : Int) (A : Option Addr) (n c : Nat) (E : List Int) (B : Option Addr) (m d : Nat) (bs : List HE) (w : World) (hA : SlI w A n E) (hB : SlH w B m bs) (hn : n ≤ 1048576) (hm : m ≤ 1048576) (hs : ∀ e ∈ bs, e.n ≤ 1048576) (hz : sumH bs ≤ 1048576) :
    Calls Try.prog 14 #[.agg #[.int .i64 N, .slice A n c, .slice B m d]] w (MadeN w (farmV N E (sdL bs)).length (farmV N E (sdL bs))) := by
  obtain ⟨i0, hi, hz0, hz1, hz2⟩ := info_parts Try.infoInt
  have C := Lib.hid (fun W (h : Below w.heap.size w W) => specFarmOk N A n c E B m d bs W (hA.below h) (hB.below h) hn hm hs)
  have CC := Lib.hid (fun W (h : Below w.heap.size w W) => specCount N A n c B m d bs W (hB.below h) hm hz)
  have H0 := Lib.hid (below_a1 w (.cells #[.int .i64 N, .slice A n c, .slice B m d] 26))
  have B0 := Lib.hid (Blk.new w #[.int .i64 N, .slice A n c, .slice B m d] 26)
  have HB := Lib.hid hB
  have HL := Lib.hid hB.len
  have HS := Lib.hid hs
  clear hA hB hs
  cases hv : farmB N E (sdL bs) with
  | false =>
    rw [hv] at C
    rw [farmV_no hv]
    clear hv
    go_enter Try.func14, Try.ntmps14
    go_wp2_with fail
    refine (C.out _ H0.out).mono ?_
    rintro e w1 ⟨rfl, hb⟩
    have H1 := Lib.hid (g_chain H0.out hb)
    clear hb
    go_wp2
    go_ret
    exact ⟨none, 0, rfl, World.ownsRow_nil _ _ _ _, H1.out⟩
  | true =>
    have HVA := Lib.hid (fun k j e x (he : bs[k]? = some e) (hx : e.es[j]? = some x) => vals_at hv he hx)
    have hm4 := (farm_inds hv).1
    rw [hv] at C
    rw [farmV_yes hv]
    have HVL := Lib.hid (valRow_len (flatK (sdL bs)).length (flatK (sdL bs)))
    clear hv
    obtain ⟨M, hM⟩ : ∃ M, (flatK (sdL bs)).length = M := ⟨_, rfl⟩
    rw [hM] at HVA hm4 HVL CC ⊢
    clear hM
    rw [HVL.out]
    go_enter Try.func14, Try.ntmps14
    go_wp2_with fail
    refine (C.out _ H0.out).mono ?_
    rintro e w0 ⟨rfl, hb⟩
    have H1 := Lib.hid (g_chain H0.out hb)
    have B1 := Lib.hid (B0.out.below hb)
    clear hb B0 H0 C
    have y0 := B1.out.cell (i := 0) rfl
    have y1 := B1.out.cell (i := 1) rfl
    have y2 := B1.out.cell (i := 2) rfl
    go_wp2_with fail
    refine (CC.out _ H1.out).mono ?_
    rintro e W1 ⟨rfl, hb⟩
    replace H1 := Lib.hid (g_chain H1.out hb)
    replace B1 := Lib.hid (B1.out.below hb)
    clear hb y0 y1 y2 CC
    have hsz : w.heap.size < W1.heap.size := Blk.lt B1.out
    go_wp2_with (refine wpList_make_full _ rfl (.tmp 12) (.tmp 12) 23 rfl W1.heap.size 3 i0 (.int .i64 0) 1 Try.underlying23 hi hz0 hz1 .i64 .i64 _ _ M rfl rfl rfl rfl (by rw [hz2]; omega) (by unfold maxLen; omega) (Nat.le_refl _) ?_; intro w2 hown hg; have hbw : Below W1.heap.size W1 w2 := (Below.refl _ _).grown hg (Nat.le_refl _) (by simp); have x2 := (B1.out.below hbw).cell (i := 2) rfl)
    have B2 := Lib.hid (B1.out.below hbw)
    have H2 := Lib.hid (g_chain H1.out hbw)
    have O2 : Hid (w2.ownsRow W1.heap.size 3 1 (.slice (some ⟨W1.heap.size, 0, none⟩) M M) M (vi (valRow M (flatK ((sdL bs).take 0))))) := Lib.hid (by
      have h := hown
      rw [g_rep (fun x : Int => [Value.int .i64 x]) 0 1 (fun _ => rfl) (by omega) (Value.int .i64 0).cells rfl M, flat_one] at h
      rw [List.take_zero, show flatK [] = [] from rfl, valRow_nil]
      exact h)
    clear hown hg hbw B1 H1 x2
    obtain ⟨g, hgq⟩ : ∃ g, g = W1.heap.size := ⟨_, rfl⟩
    rw [← hgq] at O2 hsz ⊢
    clear hgq
    go_loopw [17] (fun i wr => ∃ k : Nat, k ≤ m ∧ i = .int .i64 (k : Int) ∧ Hid (wr.ownsRow g 3 1 (.slice (some ⟨g, 0, none⟩) M M) M (vi (valRow M (flatK ((sdL bs).take k))))) ∧ Hid (Below w.heap.size w wr)) (fun i _ => m - (intOf i).toNat)
    case atStart => exact ⟨0, Nat.zero_le _, rfl, O2, H2⟩
    case round =>
      clear O2 H2 B2
      obtain ⟨k, hk, rfl, hown, hbel⟩ := hrel
      by_cases hlt : k < m
      · obtain ⟨b, off, e, rfl, hbw, he, hok, c0, c1, c2⟩ := HB.out.at_ hlt
        obtain ⟨elo, ehi, eA, en, ec, ees⟩ := e
        have c0 : wr.cell? ⟨b, off + k * 3, none⟩ = some (.int .i64 elo) := (hbel.out.cell (p := ⟨b, off + k * 3, none⟩) hbw).trans c0
        have c1 : wr.cell? ⟨b, off + k * 3 + 1, none⟩ = some (.int .i64 ehi) := (hbel.out.cell (p := ⟨b, off + k * 3 + 1, none⟩) hbw).trans c1
        have c2 : wr.cell? ⟨b, off + k * 3 + 2, none⟩ = some (.slice eA en ec) := (hbel.out.cell (p := ⟨b, off + k * 3 + 2, none⟩) hbw).trans c2
        have HRE : Hid (SlK w eA en ees) := Lib.hid hok.out.rd
        have HEL : Hid (ees.length = en) := Lib.hid hok.out.rd.len
        have hen : en ≤ 1048576 := HS.out _ (List.mem_of_getElem? he.out)
        have HFT : Hid (flatK ((sdL bs).take (k + 1)) = flatK ((sdL bs).take k) ++ ees) := Lib.hid (flat_step he.out)
        have HVK := Lib.hid (fun j x (hx : ees[j]? = some x) => HVA.out k j _ x he.out hx)
        have HA := Lib.hid (below_a1 wr (.cells #[.int .i64 elo, .int .i64 ehi, .slice eA en ec] 85))
        have O3 : Hid ((wr.alloc (.cells #[.int .i64 elo, .int .i64 ehi, .slice eA en ec] 85)).ownsRow g 3 1 (.slice (some ⟨g, 0, none⟩) M M) M (vi (valRow M (flatK ((sdL bs).take k) ++ ees.take 0)))) := Lib.hid (by simpa using own_below hown.out HA.out)
        have H3 := Lib.hid (g_chain hbel.out HA.out)
        clear hok he hown HA
        go_wp2
        clear c0 c1 c2
        generalize wr.alloc (.cells #[.int .i64 elo, .int .i64 ehi, .slice eA en ec] 85) = W3 at *
        go_loopw [24] (fun i wr => ∃ j : Nat, j ≤ en ∧ i = .int .i64 (j : Int) ∧ Hid (wr.ownsRow g 3 1 (.slice (some ⟨g, 0, none⟩) M M) M (vi (valRow M (flatK ((sdL bs).take k) ++ ees.take j)))) ∧ Hid (Below w.heap.size w wr)) (fun i _ => en - (intOf i).toNat)
        case atStart => exact ⟨0, Nat.zero_le _, rfl, O3, H3⟩
        case round =>
          clear O3 H3
          rename World => W5
          obtain ⟨j, hj, rfl, hown, hbel⟩ := hrel
          by_cases hlj : j < en
          · obtain ⟨b', off', x, rfl, hbw', hx, d0, d1, d2, d3, d4⟩ := HRE.out.at_ hlj
            have d0 := (hbel.out.cell (p := ⟨b', off' + j * 5, none⟩) hbw').trans d0
            have d1 := (hbel.out.cell (p := ⟨b', off' + j * 5 + 1, none⟩) hbw').trans d1
            have d2 := (hbel.out.cell (p := ⟨b', off' + j * 5 + 2, none⟩) hbw').trans d2
            have d3 := (hbel.out.cell (p := ⟨b', off' + j * 5 + 3, none⟩) hbw').trans d3
            have d4 := (hbel.out.cell (p := ⟨b', off' + j * 5 + 4, none⟩) hbw').trans d4
            obtain ⟨q, hq, hqM, hset⟩ := HVK.out j x hx.out
            rw [hq] at d3
            have hst := hown.out.stored q (.int .i64 x.v)
            rw [vi_set, hset] at hst
            have hl2 : q < (vi (valRow M (flatK ((sdL bs).take k) ++ ees.take j))).length := by rw [hown.out.1]; omega
            have hcell2 : W5.cell? ⟨g, q, none⟩ = some (vi (valRow M (flatK ((sdL bs).take k) ++ ees.take j)))[q] := by rw [hown.out.cellAt q (by omega), List.getElem?_eq_getElem hl2]
            have hfr := hown.out.frozenAt q
            have hgl : g < W5.heap.size := (hown.out.lt g rfl).2
            have AX := Lib.hid (below_a1 (W5.setCell ⟨g, q, none⟩ (.int .i64 x.v)) (.cells #[.int .i64 x.f, .int .i64 x.t, .int .i64 x.w, .int .i64 (q : Int), .int .i64 x.v] 40))
            have O6 := Lib.hid (own_below hst.1 AX.out)
            have H6 := Lib.hid (g_chain (hbel.out.setCell (p := ⟨g, q, none⟩) (by show w.heap.size ≤ g; omega) (.int .i64 x.v)) AX.out)
            generalize (vi (valRow M (flatK ((sdL bs).take k) ++ ees.take j)))[q] = old at hcell2
            clear hst hown hl2 hset hq hx AX
            go_wp2
            go_roundw
            case rel => exact ⟨j + 1, by omega, by go_num, O6, H6⟩
            case measure => simp [intOf]; omega
          · obtain rfl : j = en := by omega
            have O7 : Hid (W5.ownsRow g 3 1 (.slice (some ⟨g, 0, none⟩) M M) M (vi (valRow M (flatK ((sdL bs).take (k + 1)))))) := Lib.hid (by rw [HFT.out]; have h := hown.out; rw [show ees.take j = ees from List.take_of_length_le (by rw [HEL.out]; exact Nat.le_refl _)] at h; exact h)
            go_wp2
            go_roundw
            case rel => exact ⟨k + 1, by omega, by go_num, O7, hbel⟩
            case measure => simp [intOf]; omega
      · obtain rfl : k = m := by omega
        have hfin := hown.out
        rw [flat_all bs (k := k) (by rw [HL.out]; exact Nat.le_refl _)] at hfin
        have HFI := Lib.hid hfin
        clear hfin
        go_wp2
        go_ret
        exact ⟨_, _, rfl, own_monoG HFI.out (by omega), hbel.out⟩
section
variable (N : Int) (A : Option Addr) (n c : Nat) (E : List Int) (B : Option Addr) (m d : Nat) (ls : List SD) (w : World) (h : FRd w A n B m E ls) (hn : n ≤ 1048576) (hm : ls.length + (flatK ls).length ≤ 1048576)
include h hn hm
theorem implFarmVals_k : Calls Try.prog 17 #[.agg #[.int .i64 N, .slice A n c, .slice B m d]] w (MadeN w (farmV N E ls).length (farmV N E ls)) := by
  obtain ⟨bs, q1, q2, rfl, q4, q5⟩ := h.open_ hm
  exact implFarmVals N A n c E B m d bs w q1 q2 hn q4 q5
theorem specFarmVals_k : Calls Try.prog 14 #[.agg #[.int .i64 N, .slice A n c, .slice B m d]] w (MadeN w (farmV N E ls).length (farmV N E ls)) := by
  obtain ⟨bs, q1, q2, rfl, q4, q5⟩ := h.open_ hm
  exact specFarmVals N A n c E B m d bs w q1 q2 hn q4 q5 (by rw [sum_flat (bs := bs) (ls := sdL bs) rfl (fun d hd => (q2.each d hd).rd.len)]; omega)
end
end Go.Proofs.Ytpgnappddddlpaa
