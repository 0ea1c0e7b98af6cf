/- The contract of the program's Holds: a loop over its iterator that collects. Condition: at most 2^20 edges and 2^20 ends. -/
import Derived.Test.YtmlfhjkogcabiabEndsI
import Derived.Test.YtmlfhjkogcabiabHoldsS
import Derived.Test.YtmlfhjkogcabiabCutI
import Derived.Maps.AppendAt
namespace Go.Proofs.Ytmlfhjkogcabiab
open Go.RowKit Go.Shelf
attribute [local go_sem] Oper.semAt_some

theorem SlI.cut {w : World} {b off n p m : Nat} {xs : List Int} (h : SlI w (some ⟨b, off, none⟩) n xs) (hp : p + m ≤ n) : SlI w (some ⟨b, off + p, none⟩) m ((xs.drop p).take m) := by
  have hl := h.len
  refine ⟨by rw [List.length_take, List.length_drop]; omega, ⟨by rw [vi_len, List.length_take, List.length_drop]; omega, fun hm => ?_⟩⟩
  obtain ⟨b', off', e, hb, hc⟩ := h.row.lies (by omega)
  injection e with e
  injection e with e1 e2
  subst e1 e2
  refine ⟨b, off + p, rfl, hb, fun j u hu => ?_⟩
  have hu2 : (vi xs)[p + j]? = some u := by
    rw [vi_get] at hu ⊢
    rw [List.getElem?_take] at hu
    split at hu
    · rw [List.getElem?_drop] at hu; exact hu
    · simp at hu
  have := hc (p + j) u hu2
  rw [Nat.add_assoc]
  exact this
theorem intsElem : Try.prog.underlying 22 = some (.slice (Try.prog.elem 22)) := by simp [Program.elem, Try.underlying22]
theorem intsElem' : Try.prog.elem 22 = 3 := by simp [Program.elem, Try.underlying22]
theorem intsSize (w : World) : (Go.sizeOf 3).run Try.prog w = .ok 1 w := by kernel_rfl
theorem slice_ints {A : Option Addr} {n c : Nat} {xs : List Int} {w : World} {lo hi : Int} (hr : SlI w A n xs) (h0 : 0 ≤ lo) (h1 : lo ≤ hi) (h2 : hi ≤ n) (hc : n ≤ c) :
    ∃ A', (∀ W, (Instr.slice 22 (.slice A n c) (some (.int .i64 lo)) (some (.int .i64 hi)) none).run Try.prog W = .ok (.slice A' (hi - lo).toNat (c - lo.toNat)) W) ∧ SlI w A' (hi - lo).toNat ((xs.drop lo.toNat).take (hi - lo).toNat) := by
  refine ⟨if c = lo.toNat then A else A.map (·.add (lo.toNat * 1)), fun W => ?_, ?_⟩
  · rw [run_slice_lh W _ _ _ _ intsElem .i64 .i64 lo hi (by omega) (by omega) (by omega), intsElem', intsSize]
    show Result.ok (sliced A lo.toNat hi.toNat c 1) W = _
    unfold sliced
    rw [show hi.toNat - lo.toNat = (hi - lo).toNat by omega]
  · by_cases hz : (hi - lo).toNat = 0
    · rw [hz, List.take_zero]
      exact SlI.nil
    · obtain ⟨b, off, rfl, _, _⟩ := hr.row.lies (by omega)
      rw [if_neg (by omega), Nat.mul_one]
      have h := hr.cut (p := lo.toNat) (m := (hi - lo).toNat) (by omega)
      have e : (some (⟨b, off, none⟩ : Addr)).map (·.add lo.toNat) = some ⟨b, off + lo.toNat, none⟩ := by simp [add_plain]
      rw [e]
      exact h
/-- A pair within bounds. -/
abbrev InP (M : Nat) := { p : Int × Int // 0 ≤ p.1 ∧ p.1 ≤ p.2 ∧ p.2 ≤ (M : Int) }
theorem pairs_in {M : Nat} : ∀ (xs : List Int) (l : Int), 0 ≤ l → ascB l xs = true → lastE l xs ≤ M → ∀ p ∈ pairsE l xs, 0 ≤ p.1 ∧ p.1 ≤ p.2 ∧ p.2 ≤ (M : Int)
  | [], _, _, _, _, p, hp => by simp [pairsE] at hp
  | e :: r, l, h0, ha, hl, p, hp => by
    simp only [ascB, Bool.and_eq_true, decide_eq_true_eq] at ha
    simp only [lastE] at hl
    have := asc_last_ge r e ha.2
    simp only [pairsE, List.mem_cons] at hp
    rcases hp with rfl | hp
    · exact ⟨h0, by simp only; omega, by simp only; omega⟩
    · exact pairs_in r e (by omega) ha.2 hl p hp
theorem pairs_sub {M : Nat} {xs : List Int} (he : endsB (M : Int) xs = true) : ∃ ps : List (InP M), ps.map Subtype.val = pairsE 0 xs := by
  obtain ⟨e1, e2, e3, e4⟩ := endsB_iff he
  exact ⟨(pairsE 0 xs).attachWith _ (fun p hp => pairs_in (M := M) xs 0 (by omega) e1 (by omega) p hp), by first | exact List.attachWith_map_subtype_val _ | (simp; exact List.attach_map_subtype_val _)⟩
def sumsP {M : Nat} (ds : List Int) (ps : List (InP M)) : List Int := ps.map fun p => sumAt ds p.1.1 p.1.2
theorem sumsP_len {M : Nat} (ds : List Int) (ps : List (InP M)) : (sumsP ds ps).length = ps.length := by simp [sumsP]
theorem sumsP_snoc {M : Nat} (ds : List Int) (ps : List (InP M)) (p : InP M) : sumsP ds (ps ++ [p]) = sumsP ds ps ++ [sumAt ds p.1.1 p.1.2] := by simp [sumsP]
theorem sumsP_all {M : Nat} {ds xs : List Int} {ps : List (InP M)} (h : ps.map Subtype.val = pairsE 0 xs) : sumsP ds ps = holdsL ds 0 xs := by
  unfold holdsL
  rw [← h, List.map_map]
  rfl

set_option maxRecDepth 100000 in
set_option maxHeartbeats 4000000 in
theorem implHolds (N : Int) (A : Option Addr) (n c : Nat) (es : List GE) (B : Option Addr) (m d : Nat) (xs : List Int) (w : World) (hr : SlG w A n es) (hn : n ≤ 1048576) (hx : SlI w B m xs) (hm : m ≤ 1048576) :
    Calls Try.prog 21 #[.agg #[.int .i64 N, .slice A n c], .slice B m d] w (MadeS w (holdsR N es xs)) := by
  obtain ⟨i0, hi, hz0, hz1, hz2⟩ := info_parts Try.infoInt
  have CG := Lib.hid (fun W (h : Below w.heap.size w W) => implGraphOk N A n c es W (hr.below h) hn)
  have CE := Lib.hid (fun W (h : Below w.heap.size w W) => implEndsOk N B m d xs W (hx.below h) hm)
  have CD := Lib.hid (fun W (h : Below w.heap.size w W) => implIn N A n c es W (hr.below h) hn)
  have HX := Lib.hid hx
  obtain ⟨R, hR⟩ : ∃ R, holdsR N es xs = R := ⟨_, rfl⟩
  rw [hR]
  clear hr hx
  refine (callsIn_wide (n := 3)).1 ?_
  refine callsIn_of_wp_marks Try.func21 rfl trivial ?_ rfl
  simp only [Try.ntmps21, List.size_toArray, List.length_cons, List.length_nil, Nat.reduceAdd, Nat.reduceSub, Array.replicate_succ, Array.replicate_zero, List.push_toArray, List.append_toArray, List.nil_append, List.cons_append]
  gi_wp2_with fail
  refine ⟨trivial, (callsIn_wide.2 (CG.out _ (below_a1 _ _))).mono ?_⟩
  rintro e w1 ⟨rfl, hb1⟩
  have X1 := Lib.hid ((NBox.new w N A n c 33).below hb1)
  have HB1 := Lib.hid (g_chain (below_a1 w (.cells #[.int .i64 N, .slice A n c] 33)) hb1)
  clear hb1
  obtain ⟨l0, x0, x1⟩ := X1.out
  cases hv : graphB N es with
  | false =>
    have HD := Lib.hid (hR.symm.trans (holdsR_no (.inl hv)))
    gi_wp2
    refine ⟨trivial, ?_⟩
    gi_wp2
    rw [HD.out]
    exact ⟨_, results_tmp rfl _ _ _, .slice none 0 0, rfl, World.ownsRow_nil _ _ _ _, HB1.out⟩
  | true =>
    gi_wp2_with fail
    refine ⟨trivial, (callsIn_wide.2 (CE.out _ HB1.out)).mono ?_⟩
    rintro e w2 ⟨rfl, hb2⟩
    have X2 := Lib.hid (X1.out.below hb2)
    have HB2 := Lib.hid (g_chain HB1.out hb2)
    clear hb2 l0 x0 x1
    obtain ⟨l0, x0, x1⟩ := X2.out
    cases he : endsB N xs with
    | false =>
      have HD := Lib.hid (hR.symm.trans (holdsR_no (.inr he)))
      gi_wp2
      rw [HD.out]
      exact ⟨_, results_tmp rfl _ _ _, .slice none 0 0, rfl, World.ownsRow_nil _ _ _ _, HB2.out⟩
    | true =>
      have HD := Lib.hid (hR.symm.trans (show holdsR N es xs = holdsL (degsOf GE.t N es) 0 xs by unfold holdsR degsOf; rw [if_pos ⟨hv, he⟩, if_pos hv]))
      obtain ⟨g1, g2, g3, _⟩ := graphB_iff hv
      have hdl : (degsOf GE.t N es).length = N.toNat := by unfold degsOf; rw [if_pos hv, degs_len]
      have HBD : Hid (∀ x ∈ degsOf GE.t N es, 0 ≤ x ∧ x ≤ 400) := Lib.hid (fun x hx => by
        unfold degsOf at hx
        rw [if_pos hv] at hx
        have := degs_bound GE.t N.toNat es x hx
        omega)
      generalize degsOf GE.t N es = ds at CD hdl HBD HD
      obtain ⟨M, rfl⟩ : ∃ M : Nat, N = (M : Int) := ⟨N.toNat, by omega⟩
      rw [Int.toNat_natCast] at hdl
      obtain ⟨ps, hps⟩ := pairs_sub he
      have HPS := Lib.hid (sumsP_all (ds := ds) hps)
      have HDL := Lib.hid hdl
      clear hv CG CE hR hdl
      gi_wp2_with fail
      refine ⟨trivial, (callsIn_wide.2 (CD.out _ HB2.out)).mono ?_⟩
      rintro e w3 ⟨A3, m3, c3, rfl, hod, hb3⟩
      obtain rfl : m3 = M := by have := hod.cnt; rw [HDL.out] at this; exact this
      have HB3 := Lib.hid (g_chain HB2.out hb3)
      have D3 := Lib.hid hod
      clear hod hb3 l0 x0 x1
      have HX3 := Lib.hid (HX.out.below HB3.out)
      have DR3 := Lib.hid D3.out.rd
      have hcc : m3 ≤ c3 := own_cap D3.out
      gi_wp2_with (refine ⟨trivial, ?_⟩; gi_at_call 26; refine (spans_in Fence.wide 2 trivial rfl _ _ _ _).mono ?_; rintro e w' ⟨rfl, rfl⟩)
      have bD := (Boxed.new w3 22 (.slice A3 m3 c3)).alloc (.cells #[.slice none 0 0] 22)
      have bO := Boxed.new (w3.alloc (.cells #[.slice A3 m3 c3] 22)) 22 (.slice none 0 0)
      have bN := Boxed.new ((w3.alloc (.cells #[.slice A3 m3 c3] 22)).alloc (.cells #[.slice none 0 0] 22)) 22 (.slice B m d)
      simp only [World.size_alloc] at bO bN
      have hB0 : Below w3.heap.size w3 (((w3.alloc (.cells #[.slice A3 m3 c3] 22)).alloc (.cells #[.slice none 0 0] 22)).alloc (.cells #[.slice B m d] 22)) := below_a3 _ _ _ _
      refine wpIn_rangeFunc_ownG rfl (by omega) (gf := 37) (lb := #[.pointer (some ⟨w3.heap.size + 1 + 1, 0, none⟩)]) rfl trivial (enters_of Try.func37 (by kernel_rfl) rfl)
        (spans_stops (Subtype.val : InP m3 → Int × Int) ps Fence.wide 2 trivial rfl (by omega) (w3.heap.size + 1 + 1) B m d xs hps w3 HX3.out hm _ hB0 (by simp) bN.cell) belowK_t (belowK_b (by simp; omega)) (Below.refl _ _) (fun _ => rfl)
        (fun pre W => Boxed W w3.heap.size 22 (.slice A3 m3 c3) ∧ (∃ v, Boxed W (w3.heap.size + 1) 22 v ∧ W.ownsRow w3.heap.size 3 1 v pre.length ((sumsP ds pre).map (Value.int .i64)) ∧ (v = .slice none 0 0 ↔ pre = [])) ∧ Below w3.heap.size w3 W)
        (fun _ _ _ => False)
        (OwnFrom.and (Own.from (fun s A B row hs hg hr => box_own hs hg hr) _) (OwnFrom.and (Own.from (holdsRow_own w3.heap.size (w3.heap.size + 1) 22 3 1 (fun pre : List (InP m3) => pre.length) (fun pre => (sumsP ds pre).map (Value.int .i64)) (fun pre v => v = .slice none 0 0 ↔ pre = [])) _) (ownFrom_below (Nat.le_refl _) (by simp; omega))))
        (fun _ _ _ _ _ hs _ _ => hs)
        ⟨bD.alloc _, ⟨_, bO.alloc _, World.ownsRow_nil _ _ _ _, by simp⟩, hB0⟩
        (fun x => { tmps := #[.agg #[.int .i64 (m3 : Int), .slice A n c], .slice B m d, .pointer (some ⟨w.heap.size, 0, none⟩), undef, .slice none 0 0, .pointer (some ⟨w3.heap.size, 0, none⟩), .pointer (some ⟨w3.heap.size + 1, 0, none⟩), .int .i64 x.1.1, .int .i64 x.1.2, undef, undef, undef, .agg #[.int .i64 (m3 : Int), .slice A n c], .bool true, .bool false, .bool false, .pointer (some ⟨w.heap.size, 0, none⟩), .int .i64 (m3 : Int), .slice B m d, .bool true, .bool false, .bool false, .agg #[.int .i64 (m3 : Int), .slice A n c], .slice A3 m3 c3, .slice B m d, .func (.func 37) #[] #[.pointer (some ⟨w3.heap.size + 1 + 1, 0, none⟩)], .int .i64 x.1.1, .int .i64 x.1.2, undef, undef, undef, undef, undef, undef, undef, undef, undef, undef, undef, undef, undef, undef, undef, undef, undef, undef], defers := [] }) ?assign ?body ?done ?stop
      case assign =>
        intro l x W K hK
        gi_wp2
        exact hK
      case body =>
        rintro l pre ⟨⟨lo, up⟩, hp0, hp1, hp2⟩ W ⟨bD, ⟨v, hv, hrow, hnil⟩, hB⟩ hlt
        simp only at hp0 hp1 hp2
        have hpl := (pairsE_len xs 0).symm.trans ((congrArg List.length hps.symm).trans (List.length_map _))
        have HS := Lib.hid (sumsP_snoc ds pre (⟨(lo, up), hp0, hp1, hp2⟩ : InP m3))
        have hD3 := DR3.out.below hB
        obtain ⟨A', hsl, hrd⟩ := slice_ints hD3 hp0 hp1 hp2 hcc
        have HYS : Hid (∀ x ∈ (ds.drop lo.toNat).take (up - lo).toNat, 0 ≤ x ∧ x ≤ 400) := Lib.hid (fun x hx => HBD.out x (List.mem_of_mem_drop (List.mem_of_mem_take hx)))
        have hk150 : (up - lo).toNat ≤ 150 := by omega
        have hse : sumAt ds lo up = ((ds.drop lo.toNat).take (up - lo).toNat).sum := rfl
        have hrl := hrd.len
        have HRD := Lib.hid hrd
        generalize (ds.drop lo.toNat).take (up - lo).toNat = ys at HYS hse hrl HRD
        generalize hkk : (up - lo).toNat = kk at hsl hrd hk150 hrl HRD
        generalize c3 - lo.toNat = cc at hsl
        have cD := bD.cell
        have cO := hv.cell
        have HD3 := Lib.hid hD3
        have HBW := Lib.hid hB
        clear hD3 hrd
        gi_wp2
        gi_loopw [9, 33] (fun h i wr => wr = W ∧ ∃ j : Nat, j ≤ kk ∧ i = .int .i64 j ∧ h = .int .i64 ((ys.take j).sum) ∧ 0 ≤ (ys.take j).sum ∧ (ys.take j).sum ≤ 400 * j) (fun _ i _ => kk - (intOf i).toNat)
        case atStart => exact ⟨rfl, 0, Nat.zero_le _, rfl, by simp, by simp, by simp⟩
        case round =>
          obtain ⟨rfl, j, hj, rfl, rfl, hs0, hs1⟩ := hrel
          by_cases hlj : j < kk
          · obtain ⟨b', off', x, rfl, hbw', hx, hcx⟩ := HRD.out.at_ hlj
            have hx4 := HYS.out x (List.mem_of_getElem? hx.out)
            have hst : (ys.take (j + 1)).sum = (ys.take j).sum + x := by rw [g_take ys j x hx.out]; simp
            generalize (ys.take j).sum = q at hst hs0 hs1 ⊢
            clear hx
            gi_wp2
            go_roundw
            case rel => exact ⟨by first | rfl | trivial, j + 1, by omega, by go_num, by rw [hst] <;> go_num, by omega, by omega⟩
            case measure => simp [intOf]; omega
          · obtain rfl : j = kk := by omega
            have hfull : (ys.take j).sum = sumAt ds lo up := by rw [hse, List.take_of_length_le (by omega)]
            rw [hfull] at hs0 hs1 ⊢
            clear hse hfull
            generalize sumAt ds lo up = q at hs0 hs1 HS ⊢
            gi_wp2_with (gi_at_builtin; refine wpListIn_append_own _ rfl _ _ 22 rfl w3.heap.size 3 i0 (.int .i64 0) 1 8 Try.underlying22 hi hz0 hz1 hz2 rfl (by decide) _ _ _ rfl (hrow.alloc _) ⟨wr.heap.size, 0, none⟩ 1 1 [.int .i64 q] rfl rfl (cell_one_new _ _ _) (by simp [Value.oneCell']) (by simp only [maxLen]; omega) (by omega) (by have := HBW.out.size; simp; omega) ?_; intro v' w1 hown' hgrow _; obtain ⟨g', cap', rfl⟩ := ownsRow_succ hown'; obtain ⟨hv1, hv2, hr2, hk2, hb2⟩ := hv.appended (by decide) hrow HBW.out.size (by omega) hown' hgrow; have hc1 := hv1.cell; have hf1 := hv1.frozen)
            exact ⟨hk2.from _, hb2, ((bD.alloc _).kept hgrow (bD.not_row (by decide) hrow)).other (by omega) _, ⟨_, hv2, by rw [HS.out]; simpa using hr2, by simp⟩, HBW.out.trans hb2⟩
      case done =>
        rintro D ys W hD rfl ⟨bD, ⟨v, hv, hrow, hnil⟩, hB⟩ hK
        have hc := hv.cell
        gi_wp2
        refine ⟨by simp, .inl ⟨_, _, rfl, run_takeDeferred hK, ?_⟩⟩
        rw [HD.out, ← HPS.out]
        refine ⟨_, results_tmp rfl _ _ _, v, rfl, ?_, (g_chain HB3.out hB).trans ((belowK_b (w := w3) (Nat.le_refl _) W D _ _ (by simp at hD; omega) hK rfl rfl).mono HB3.out.size)⟩
        have h := ownsRow_putObj hrow (.deferred none) hK rfl
        rw [← sumsP_len ds ys] at h
        exact own_monoG h HB3.out.size
      case stop =>
        rintro D c pre W _ _ h _
        exact h.elim
end Go.Proofs.Ytmlfhjkogcabiab
