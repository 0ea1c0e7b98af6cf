/- The walk of the law FnUpdate: it returns true and writes nothing that was there. -/
import Derived.Test.YtgmgpadijajkkaaUpdI
import Derived.Test.YtgmgpadijajkkaaUpdS
import Derived.Test.YtgmgpadijajkkaaVMake
import Derived.Test.YtgmgpadijajkkaaYArg
namespace Go.Proofs.Ytgmgpadijajkkaa
open Go.RowKit

theorem newEdge_lim {p x : Int} {n : Nat} {e : VE} (hx : 0 ≤ x ∧ x ≤ 1099511627776) (he : e.ok = true) : 0 ≤ newEdge p x n e ∧ newEdge p x n e ≤ 1099511627776 := by
  have h := VE.ok_lim he
  unfold newEdge
  split
  · split
    · exact tdiv_le hx
    · omega
  split
  · omega
  split
  · split
    · exact hx
    · omega
  · exact capF_lim _
theorem minAll_le (x : Int) (es : List VE) : minAll x es ≤ x := by
  unfold minAll
  suffices H : ∀ (l : List VE) (y : Int), y ≤ x → l.foldl (fun x e => min x e.v) y ≤ x from H es x (Int.le_refl _)
  intro l
  induction l with
  | nil => intro y hy; exact hy
  | cons e l ih => intro y hy; rw [List.foldl_cons]; exact ih _ (by omega)
theorem minPath_le (x : Int) (es : List VE) : minPath x es ≤ x := by
  unfold minPath
  suffices H : ∀ (l : List VE) (y : Int), y ≤ x → l.foldl pathStep y ≤ x from H es x (Int.le_refl _)
  intro l
  induction l with
  | nil => intro y hy; exact hy
  | cons e l ih =>
    intro y hy
    rw [List.foldl_cons]
    refine ih _ ?_
    unfold pathStep
    split <;> omega
set_option maxRecDepth 20000 in
set_option maxHeartbeats 8000000 in
theorem walkFnUpdate (A : Option Addr) (n c : Nat) (xs : List Nat) (w : World) (hr : Rd w A n xs) (_hnc : n ≤ c) (_hcm : c ≤ maxLen) :
    Calls Try.prog 3 #[.slice A n c] w fun e w' => e = .returned (.bool true) ∧ Below w.heap.size w w' := by
  by_cases hbig : n ≤ 1048576
  · have CM := Lib.hid (makeViews A n c xs w hr hbig)
    clear hr
    go_enter Try.func3, Try.ntmps3
    go_wp2_with fail
    refine CM.out.mono ?_
    rintro e w1 ⟨p, s, v, x, es, B, d, hp, hv, hx, hl6, hok, rfl, hes, hb1⟩
    have hup : updB p (v : Int) (x : Int) es = true := by
      unfold updB progB vtxB valB
      rw [viewsB_yes (by omega) hok]
      simp
      omega
    have hy := upd_yes hup
    have HX : Hid (0 ≤ (x : Int) ∧ (x : Int) ≤ 1099511627776) := Lib.hid (by omega)
    have HNX := Lib.hid (newVal_lim (p := p) HX.out hok)
    have HEL := Lib.hid (fun (q : Nat) (e : VE) (he : e ∈ es) => newEdge_lim (p := p) (n := q) HNX.out (hok e he))
    have CI := Lib.hid (fun W (h : Below w1.heap.size w1 W) => implUpdate p s (v : Int) (x : Int) B es.length d es W (hes.below h) (by omega))
    have CS := Lib.hid (fun W (h : Below w1.heap.size w1 W) => specUpdate p s (v : Int) (x : Int) B es.length d es W (hes.below h) (by omega))
    rw [hy.1, hy.2] at CI CS
    have HN : Hid (∃ next, next = newVal p (x : Int) es) := Lib.hid ⟨_, rfl⟩
    obtain ⟨next, hnext⟩ := HN.out
    rw [← hnext] at CI CS HNX HEL
    have HNEXT := Lib.hid hnext
    generalize outsN es = outs at CI CS
    have HZ := Lib.hid (fun (k : Nat) (e : VE) (he : es[k]? = some e) => show (es.map (newEdge p next outs))[k]? = some (newEdge p next outs e) by rw [List.getElem?_map, he]; rfl)
    have HZL := Lib.hid (fun (e : VE) (he : e ∈ es) => HEL.out outs e he)
    have HLM : Hid ((es.map (newEdge p next outs)).length = es.length) := Lib.hid (by rw [List.length_map])
    obtain ⟨ys, hys⟩ : ∃ ys, ys = es.map (newEdge p next outs) := ⟨_, rfl⟩
    rw [← hys] at CI CS HZ HLM
    unfold MadeU at CI CS
    rw [HLM.out] at CI CS
    have HES := Lib.hid hes
    have HB1 := Lib.hid hb1
    have hnn : (next == next) = true := by simp
    have hn0 : 0 ≤ next := HNX.out.1
    have hn1 : next ≤ 1099511627776 := HNX.out.2
    have hp4 : p = 1 ∨ p = 2 ∨ p = 3 ∨ p = 4 := by omega
    clear CM hup hy hnext hok hes hb1 HEL HNX hys hv hx hp HX HN
    rcases hp4 with rfl | rfl | rfl | rfl
    · have J0 := Lib.hid (Blk.new w1 #[.int .i64 1, .int .i64 s] 24)
      have B0 := Lib.hid (below_a1 w1 (.cells #[.int .i64 1, .int .i64 s] 24))
      go_wp2_with fail
      refine (CI.out _ B0.out).mono ?_
      rintro e w2 ⟨A2, c2, rfl, ho2, hb2⟩
      have J2 := Lib.hid (J0.out.below hb2)
      have B2 := Lib.hid (g_chain B0.out hb2)
      have V2 := Lib.hid (SlI.of_own ho2)
      clear ho2 hb2 J0 B0
      have j0 := J2.out.cell (i := 0) rfl
      have j1 := J2.out.cell (i := 1) rfl
      go_wp2_with fail
      refine (CS.out _ B2.out).mono ?_
      rintro e w3 ⟨A3, c3, rfl, -, hb3⟩
      have J3 := Lib.hid (J2.out.below hb3)
      have B3 := Lib.hid (g_chain B2.out hb3)
      have V3 := Lib.hid (V2.out.below hb3)
      clear hb3 J2 B2 V2 j0 j1
      have j0 := J3.out.cell (i := 0) rfl
      have j1 := J3.out.cell (i := 1) rfl
      go_wp2
      go_loopw [51] (fun i wr => ∃ k : Nat, k ≤ es.length ∧ i = .int .i64 (k : Int) ∧ wr = w3) (fun i _ => es.length - (intOf i).toNat)
      case atStart => exact ⟨0, Nat.zero_le _, rfl, rfl⟩
      case round =>
        obtain ⟨k, hk, rfl, rfl⟩ := hrel
        by_cases hlt : k < es.length
        · obtain ⟨b, off, z, rfl, hbw, hz, hcz⟩ := V3.out.at_ hlt
          obtain ⟨b2, off2, e, rfl, hbw2, he, c0, c1, c2, c3⟩ := (HES.out.below B3.out).at_ hlt
          have HQ : Hid (z = newEdge 1 next outs e) := Lib.hid (by have h1 := HZ.out k e he.out; rw [hz.out] at h1; injection h1)
          have HL := Lib.hid (HZL.out e (List.mem_of_getElem? he.out))
          have hz0 : ¬ z < 0 := by have := HL.out; have := HQ.out; omega
          have hz1 : ¬ 1099511627776 < z := by have := HL.out; have := HQ.out; omega
          go_wp2
          go_roundw
          case rel => exact ⟨k + 1, by omega, by go_num, by first | rfl | trivial⟩
          case measure => simp [intOf]; omega
        · obtain rfl : k = es.length := by omega
          have HBF := Lib.hid (g_chain HB1.out B3.out)
          go_wp2
          go_ret
          exact ⟨rfl, HBF.out⟩
    · have J0 := Lib.hid (Blk.new w1 #[.int .i64 2, .int .i64 s] 24)
      have B0 := Lib.hid (below_a1 w1 (.cells #[.int .i64 2, .int .i64 s] 24))
      go_wp2_with fail
      refine (CI.out _ B0.out).mono ?_
      rintro e w2 ⟨A2, c2, rfl, ho2, hb2⟩
      have J2 := Lib.hid (J0.out.below hb2)
      have B2 := Lib.hid (g_chain B0.out hb2)
      have V2 := Lib.hid (SlI.of_own ho2)
      clear ho2 hb2 J0 B0
      have j0 := J2.out.cell (i := 0) rfl
      have j1 := J2.out.cell (i := 1) rfl
      go_wp2_with fail
      refine (CS.out _ B2.out).mono ?_
      rintro e w3 ⟨A3, c3, rfl, -, hb3⟩
      have J3 := Lib.hid (J2.out.below hb3)
      have B3 := Lib.hid (g_chain B2.out hb3)
      have V3 := Lib.hid (V2.out.below hb3)
      clear hb3 J2 B2 V2 j0 j1
      have j0 := J3.out.cell (i := 0) rfl
      have j1 := J3.out.cell (i := 1) rfl
      go_wp2
      go_loopw [51] (fun i wr => ∃ k : Nat, k ≤ es.length ∧ i = .int .i64 (k : Int) ∧ wr = w3) (fun i _ => es.length - (intOf i).toNat)
      case atStart => exact ⟨0, Nat.zero_le _, rfl, rfl⟩
      case round =>
        obtain ⟨k, hk, rfl, rfl⟩ := hrel
        by_cases hlt : k < es.length
        · obtain ⟨b, off, z, rfl, hbw, hz, hcz⟩ := V3.out.at_ hlt
          obtain ⟨b2, off2, e, rfl, hbw2, he, c0, c1, c2, c3⟩ := (HES.out.below B3.out).at_ hlt
          have HQ : Hid (z = newEdge 2 next outs e) := Lib.hid (by have h1 := HZ.out k e he.out; rw [hz.out] at h1; injection h1)
          have HL := Lib.hid (HZL.out e (List.mem_of_getElem? he.out))
          have hz0 : ¬ z < 0 := by have := HL.out; have := HQ.out; omega
          have hz1 : ¬ 1099511627776 < z := by have := HL.out; have := HQ.out; omega
          have hz2 : ¬ e.v < z := by have h := HQ.out; unfold newEdge at h; simp at h; omega
          have hz3 : z ≤ e.v := by omega
          go_wp2
          go_roundw
          case rel => exact ⟨k + 1, by omega, by go_num, by first | rfl | trivial⟩
          case measure => simp [intOf]; omega
        · obtain rfl : k = es.length := by omega
          have hle : next ≤ (x : Int) := by rw [HNEXT.out]; unfold newVal; simp; exact minAll_le _ _
          have HBF := Lib.hid (g_chain HB1.out B3.out)
          go_wp2
          go_ret
          exact ⟨rfl, HBF.out⟩
    · have J0 := Lib.hid (Blk.new w1 #[.int .i64 3, .int .i64 s] 24)
      have B0 := Lib.hid (below_a1 w1 (.cells #[.int .i64 3, .int .i64 s] 24))
      go_wp2_with fail
      refine (CI.out _ B0.out).mono ?_
      rintro e w2 ⟨A2, c2, rfl, ho2, hb2⟩
      have J2 := Lib.hid (J0.out.below hb2)
      have B2 := Lib.hid (g_chain B0.out hb2)
      have V2 := Lib.hid (SlI.of_own ho2)
      clear ho2 hb2 J0 B0
      have j0 := J2.out.cell (i := 0) rfl
      have j1 := J2.out.cell (i := 1) rfl
      go_wp2_with fail
      refine (CS.out _ B2.out).mono ?_
      rintro e w3 ⟨A3, c3, rfl, -, hb3⟩
      have J3 := Lib.hid (J2.out.below hb3)
      have B3 := Lib.hid (g_chain B2.out hb3)
      have V3 := Lib.hid (V2.out.below hb3)
      clear hb3 J2 B2 V2 j0 j1
      have j0 := J3.out.cell (i := 0) rfl
      have j1 := J3.out.cell (i := 1) rfl
      go_wp2
      go_loopw [51] (fun i wr => ∃ k : Nat, k ≤ es.length ∧ i = .int .i64 (k : Int) ∧ wr = w3) (fun i _ => es.length - (intOf i).toNat)
      case atStart => exact ⟨0, Nat.zero_le _, rfl, rfl⟩
      case round =>
        obtain ⟨k, hk, rfl, rfl⟩ := hrel
        by_cases hlt : k < es.length
        · obtain ⟨b, off, z, rfl, hbw, hz, hcz⟩ := V3.out.at_ hlt
          obtain ⟨b2, off2, e, rfl, hbw2, he, c0, c1, c2, c3⟩ := (HES.out.below B3.out).at_ hlt
          have HQ : Hid (z = newEdge 3 next outs e) := Lib.hid (by have h1 := HZ.out k e he.out; rw [hz.out] at h1; injection h1)
          have HL := Lib.hid (HZL.out e (List.mem_of_getElem? he.out))
          have hz0 : ¬ z < 0 := by have := HL.out; have := HQ.out; omega
          have hz1 : ¬ 1099511627776 < z := by have := HL.out; have := HQ.out; omega
          cases ho : e.o with
          | true =>
            rw [ho] at c1
            go_wp2
            go_roundw
            case rel => exact ⟨k + 1, by omega, by go_num, by first | rfl | trivial⟩
            case measure => simp [intOf]; omega
          | false =>
            rw [ho] at c1
            have hze : z = e.v := by have h := HQ.out; unfold newEdge at h; rw [ho] at h; simpa using h
            have hz4 : (z == e.v) = true := by simp [hze]
            have hz5 : (e.v == z) = true := by simp [hze]
            rw [hze] at hcz hz0 hz1
            clear hze hz4 hz5
            have hz6 : (e.v == e.v) = true := by simp
            go_wp2
            go_roundw
            case rel => exact ⟨k + 1, by omega, by go_num, by first | rfl | trivial⟩
            case measure => simp [intOf]; omega
        · obtain rfl : k = es.length := by omega
          have hle : next ≤ (x : Int) := by rw [HNEXT.out]; unfold newVal; simp; exact minPath_le _ _
          have HBF := Lib.hid (g_chain HB1.out B3.out)
          go_wp2
          go_ret
          exact ⟨rfl, HBF.out⟩
    · have J0 := Lib.hid (Blk.new w1 #[.int .i64 4, .int .i64 s] 24)
      have B0 := Lib.hid (below_a1 w1 (.cells #[.int .i64 4, .int .i64 s] 24))
      go_wp2_with fail
      refine (CI.out _ B0.out).mono ?_
      rintro e w2 ⟨A2, c2, rfl, ho2, hb2⟩
      have J2 := Lib.hid (J0.out.below hb2)
      have B2 := Lib.hid (g_chain B0.out hb2)
      have V2 := Lib.hid (SlI.of_own ho2)
      clear ho2 hb2 J0 B0
      have j0 := J2.out.cell (i := 0) rfl
      have j1 := J2.out.cell (i := 1) rfl
      go_wp2_with fail
      refine (CS.out _ B2.out).mono ?_
      rintro e w3 ⟨A3, c3, rfl, -, hb3⟩
      have J3 := Lib.hid (J2.out.below hb3)
      have B3 := Lib.hid (g_chain B2.out hb3)
      have V3 := Lib.hid (V2.out.below hb3)
      clear hb3 J2 B2 V2 j0 j1
      have j0 := J3.out.cell (i := 0) rfl
      have j1 := J3.out.cell (i := 1) rfl
      go_wp2
      go_loopw [51] (fun i wr => ∃ k : Nat, k ≤ es.length ∧ i = .int .i64 (k : Int) ∧ wr = w3) (fun i _ => es.length - (intOf i).toNat)
      case atStart => exact ⟨0, Nat.zero_le _, rfl, rfl⟩
      case round =>
        obtain ⟨k, hk, rfl, rfl⟩ := hrel
        by_cases hlt : k < es.length
        · obtain ⟨b, off, z, rfl, hbw, hz, hcz⟩ := V3.out.at_ hlt
          obtain ⟨b2, off2, e, rfl, hbw2, he, c0, c1, c2, c3⟩ := (HES.out.below B3.out).at_ hlt
          have HQ : Hid (z = newEdge 4 next outs e) := Lib.hid (by have h1 := HZ.out k e he.out; rw [hz.out] at h1; injection h1)
          have HL := Lib.hid (HZL.out e (List.mem_of_getElem? he.out))
          have hz0 : ¬ z < 0 := by have := HL.out; have := HQ.out; omega
          have hz1 : ¬ 1099511627776 < z := by have := HL.out; have := HQ.out; omega
          go_wp2
          go_roundw
          case rel => exact ⟨k + 1, by omega, by go_num, by first | rfl | trivial⟩
          case measure => simp [intOf]; omega
        · obtain rfl : k = es.length := by omega
          have HBF := Lib.hid (g_chain HB1.out B3.out)
          go_wp2
          go_ret
          exact ⟨rfl, HBF.out⟩
  · go_enter Try.func3, Try.ntmps3
    go_wp2
    go_ret
    exact ⟨rfl, Below.refl _ _⟩
end Go.Proofs.Ytgmgpadijajkkaa
