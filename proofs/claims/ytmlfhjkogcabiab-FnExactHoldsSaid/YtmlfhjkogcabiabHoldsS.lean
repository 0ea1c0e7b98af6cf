/- The contract of the model's Holds. Condition: at most 2^20 edges and 2^20 ends. -/
import Derived.Test.YtmlfhjkogcabiabCutMath
import Derived.Test.YtmlfhjkogcabiabEndsS
import Derived.Test.YtmlfhjkogcabiabLawInts
namespace Go.Proofs.Ytmlfhjkogcabiab
open Go.RowKit

theorem cnt_lt : ∀ (xs : List Int) (l t : Int), l ≤ t → t < lastE l xs → cntE t xs < xs.length
  | [], l, t, h1, h2 => by simp only [lastE] at h2; omega
  | e :: r, l, t, h1, h2 => by
    simp only [lastE] at h2
    by_cases he : e ≤ t
    · have ih := cnt_lt r e t he h2
      unfold cntE at ih ⊢
      rw [List.filter_cons_of_pos (by simp; omega), List.length_cons, List.length_cons]
      omega
    · have := List.length_filter_le (fun x => decide (x ≤ t)) r
      unfold cntE
      rw [List.filter_cons_of_neg (by simp; omega), List.length_cons]
      omega
theorem iv_in {N : Int} {xs : List Int} {v : Int} (he : endsB N xs = true) (h0 : 0 ≤ v) (h1 : v < N) : 0 ≤ ivE xs v ∧ ivE xs v < xs.length := by
  obtain ⟨e1, e2, e3, e4⟩ := endsB_iff he
  have hne : xs ≠ [] := fun h => by subst h; simp only [lastE] at e4; omega
  rw [iv_yes h0 hne (by omega)]
  exact ⟨(cnt_bound v xs).1, cnt_lt xs 0 v h0 (by omega)⟩
theorem holdsR_no {N : Int} {es : List GE} {xs : List Int} (h : graphB N es = false ∨ endsB N xs = false) : holdsR N es xs = [] := by
  unfold holdsR
  rw [if_neg]
  rintro ⟨h1, h2⟩
  rcases h with h | h
  · rw [h1] at h; cases h
  · rw [h2] at h; cases h

set_option maxRecDepth 10000 in
set_option maxHeartbeats 4000000 in
theorem specHolds (N : Int) (A : Option Addr) (n c : Nat) (es : List GE) (B : Option Addr) (m d : Nat) (xs : List Int) (w : World) (hr : SlG w A n es) (hn : n ≤ 1048576) (hx : SlI w B m xs) (hm : m ≤ 1048576) :
    Calls Try.prog 20 #[.agg #[.int .i64 N, .slice A n c], .slice B m d] w (MadeI w (holdsR N es xs)) := by
  obtain ⟨i0, hi, hz0, hz1, hz2⟩ := info_parts Try.infoInt
  have CG := Lib.hid (fun W (h : Below w.heap.size w W) => specGraphOk N A n c es W (hr.below h) hn)
  have CE := Lib.hid (fun W (h : Below w.heap.size w W) => specEndsOk N B m d xs W (hx.below h) hm)
  have CV := Lib.hid (fun v W (h : Below w.heap.size w W) => specIv B m d xs v W (hx.below h) hm)
  have HEL := Lib.hid hr.len
  have HXL := Lib.hid hx.len
  have HR := Lib.hid hr
  obtain ⟨R, hR⟩ : ∃ R, holdsR N es xs = R := ⟨_, rfl⟩
  rw [hR]
  clear hr hx
  go_enter Try.func20, Try.ntmps20
  go_wp2_with fail
  refine (CG.out _ (below_a1 _ _)).mono ?_
  rintro e w1 ⟨rfl, hb1⟩
  have X1 := Lib.hid ((NBox.new w N A n c 33).below hb1)
  have HB1 := Lib.hid (g_chain (below_a1 w (.cells #[.int .i64 N, .slice A n c] 33)) hb1)
  clear hb1
  obtain ⟨l0, x0, x1⟩ := X1.out
  cases hv : graphB N es with
  | false =>
    have HD := Lib.hid (hR.symm.trans (holdsR_no (.inl hv)))
    go_wp2
    go_ret
    rw [HD.out]
    exact ⟨none, 0, 0, rfl, World.ownsRow_nil _ _ _ _, HB1.out⟩
  | true =>
    go_wp2_with fail
    refine (CE.out _ HB1.out).mono ?_
    rintro e w2 ⟨rfl, hb2⟩
    have X2 := Lib.hid (X1.out.below hb2)
    have HB2 := Lib.hid (g_chain HB1.out hb2)
    clear hb2 l0 x0 x1
    obtain ⟨l0, x0, x1⟩ := X2.out
    cases he : endsB N xs with
    | false =>
      have HD := Lib.hid (hR.symm.trans (holdsR_no (.inr he)))
      go_wp2
      go_ret
      rw [HD.out]
      exact ⟨none, 0, 0, rfl, World.ownsRow_nil _ _ _ _, HB2.out⟩
    | true =>
      have HD := Lib.hid (hR.symm.trans (holds_degs hv he))
      rw [HXL.out] at HD
      obtain ⟨h1, h2, h3, h4⟩ := graphB_iff hv
      have H4 := Lib.hid h4
      have HIV := Lib.hid (fun v h0 h1 => iv_in (v := v) he h0 h1)
      rw [HXL.out] at HIV
      rw [HEL.out] at h3
      clear hv he h4 hR CG CE
      go_wp2_with (refine wpList_make_full _ rfl (.tmp 19) (.tmp 19) 22 rfl w2.heap.size 3 i0 (.int .i64 0) 1 Try.underlying22 hi hz0 hz1 .i64 .i64 _ _ m rfl rfl rfl rfl (by rw [hz2]; omega) (by unfold maxLen; omega) (Nat.le_refl _) ?_; intro w3 hown hg; have hb3 : Below w2.heap.size w2 w3 := (Below.refl _ _).grown hg (Nat.le_refl _) (by simp); have X3 := Lib.hid (X2.out.below hb3); have HB3 := Lib.hid (g_chain HB2.out hb3); rw [made_zero m (fun e => ivE xs e.t) es] at hown; have HO3 := Lib.hid hown; clear hown hg hb3 l0 x0 x1; obtain ⟨l0, x0, x1⟩ := X3.out)
      have hg1 : w.heap.size < w2.heap.size := X2.out.lt
      go_loopw [24] (fun i wr => ∃ k : Nat, k ≤ n ∧ i = .int .i64 k ∧ Hid (Below w.heap.size w wr) ∧ Hid (wr.ownsRow w2.heap.size 3 1 (.slice (some ⟨w2.heap.size, 0, none⟩) m m) m (vi (degs (fun e => ivE xs e.t) m (es.take k))))) (fun i _ => n - (intOf i).toNat)
      case atStart => exact ⟨0, Nat.zero_le _, rfl, HB3, HO3⟩
      case round =>
        clear X2 X3 HB3 HO3 l0 x0 x1
        obtain ⟨k, hk, rfl, hbel, hown⟩ := hrel
        by_cases hlt : k < n
        · obtain ⟨b, off, e, rfl, hbw, he, c0, c1, c2⟩ := HR.out.at_ hlt
          have c0 := (hbel.out.cell (p := ⟨b, off + k * 3, none⟩) hbw).trans c0
          have c1 := (hbel.out.cell (p := ⟨b, off + k * 3 + 1, none⟩) hbw).trans c1
          have c2 := (hbel.out.cell (p := ⟨b, off + k * 3 + 2, none⟩) hbw).trans c2
          have hh := edgeB_iff (H4.out e (List.mem_of_getElem? he.out))
          obtain ⟨F, T, W0⟩ := e
          simp only at hh c0 c1 c2
          have hiv := HIV.out T hh.2.2.1 hh.2.2.2.1
          obtain ⟨f, hf⟩ : ∃ f : Nat, ivE xs T = (f : Int) := ⟨Int.toNat (ivE xs T), by omega⟩
          have hfM : f < m := by omega
          obtain ⟨x, hx1, hx2, hx3⟩ := degs_at (key := fun e => ivE xs e.t) (es := es.take k) hfM
          have hx4 : x ≤ 400 := by have := List.length_take_le k es; rw [HEL.out] at *; omega
          have HST := Lib.hid (degs_step (key := fun e => ivE xs e.t) (M := m) he.out (f := f) hf hx1)
          have HX1 := Lib.hid hx1
          have HA1 := Lib.hid (below_a1 wr (.cells #[.int .i64 F, .int .i64 T, .int .i64 W0] 58))
          have CV1 := Lib.hid (fun W h => CV.out T W h)
          rw [hf] at CV1
          have HBA := Lib.hid (g_chain hbel.out HA1.out)
          have HOA := Lib.hid (own_below hown.out HA1.out)
          clear hx1 hx3 hf hiv
          go_wp2_with fail
          refine (CV1.out _ HBA.out).mono ?_
          rintro e w5 ⟨rfl, hb5⟩
          have HOW := Lib.hid (own_below HOA.out hb5)
          have HBW := Lib.hid (g_chain HBA.out hb5)
          have hc0 : w5.cell? ⟨w2.heap.size, f, none⟩ = some (.int .i64 x) := (HOW.out.cellAt f (by omega)).trans (by rw [vi_get, HX1.out]; first | done | rfl)
          have hf0 := HOW.out.frozenAt f
          have HS := Lib.hid (HOW.out.stored f (.int .i64 (x + 1)))
          rw [← HST.out] at HS
          clear hb5
          go_wp2
          go_roundw
          case rel =>
            refine ⟨k + 1, by omega, by go_num, Lib.hid ?_, Lib.hid ?_⟩
            · exact HBW.out.setCell (p := ⟨w2.heap.size, f, none⟩) (by show w.heap.size ≤ w2.heap.size; omega) _
            · exact HS.out.1
          case measure => simp [intOf]; omega
        · obtain rfl : k = n := by omega
          go_wp2
          go_ret
          rw [HD.out]
          have h := hown.out
          rw [List.take_of_length_le (by rw [HEL.out]; exact Nat.le_refl _)] at h
          exact ⟨_, _, _, rfl, own_monoG h (by omega), hbel.out⟩
end Go.Proofs.Ytmlfhjkogcabiab
