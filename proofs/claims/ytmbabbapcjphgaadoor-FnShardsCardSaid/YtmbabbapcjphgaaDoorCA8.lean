/- The contract of the program's Cut: its iterator over the ends, slices.AppendSeq and slices.Collect over it. Condition: at most 2^20 edges. // The contracts of the program's functions that count the edges at the vertices (one loop that takes a function value). // The contract of the program's Cut, whole. Condition: at most 2^20 edges. -/
import Derived.Test.YtmbabbapcjphgaaDoorCA7
import Derived.Sort.QuietIn
import Derived.Maps.AppendAt
import Derived.Test.YtmbabbapcjphgaaDoorCA1
namespace Go.Proofs.YtmbabbapcjphgaaDoor
open Go.RowKit Go.Shelf
attribute [local go_sem] Oper.semAt_some

/-- What the iterator reads between two rounds. -/
structure GrdIn (w0 : World) (B1 B2 : Nat) (A : Option Addr) (n c : Nat) (ds : List Int) (b : Int) : Prop where
  d : SlI w0 A n ds
  le : n ≤ 150
  b1 : 1 ≤ b
  b2 : b ≤ 400
  bd : ∀ x ∈ ds, 0 ≤ x ∧ x ≤ 400
  l1 : B1 < w0.heap.size
  l2 : B2 < w0.heap.size
  c1 : w0.cell? ⟨B1, 0, none⟩ = some (.slice A n c)
  c2 : w0.cell? ⟨B2, 0, none⟩ = some (.int .i64 b)

set_option maxRecDepth 100000 in
set_option maxHeartbeats 4000000 in
theorem greedy1_in (F : Fence) (m : Nat) (hf : F.fn 52) (hro : F.round = none) (hm : 1 ≤ m) (l B1 B2 : Nat) (A : Option Addr) (n c : Nat) (ds : List Int) (b : Int) (w0 : World) (hI : GrdIn w0 B1 B2 A n c ds b) (J Jx : List Int → World → Prop) (W : World) (hab : AbidesFrom W.heap.size J)
    (hY : ∀ pre x W, J pre W → pre.length < 150 → YieldAt F (m - 1) Tryd.prog l #[.int .i64 x] W fun e W' =>
      (e = .returned (.bool true) ∧ J (pre ++ [x]) W' ∧ Below w0.heap.size W W') ∨ (e = .returned (.bool false) ∧ Jx (pre ++ [x]) W'))
    (hW : Below w0.heap.size w0 W) (h0 : J [] W) :
    CallsIn F m Tryd.prog 52 #[.func (.yield l) #[] #[], .pointer (some ⟨B1, 0, none⟩), .pointer (some ⟨B2, 0, none⟩)] W fun e W' => (∃ v, e = .returned v) ∧
      ((∃ ys, ys = cutFrom b 0 ds ∧ J ys W') ∨ (∃ pre, pre <+: cutFrom b 0 ds ∧ Jx pre W')) := by
  have HI := Lib.hid hI
  have hn := hI.le
  have hb1 := hI.b1
  have hb2 := hI.b2
  clear hI
  rcases F with ⟨Ff, Fd, Fa, Fr⟩
  obtain rfl : Fr = none := hro
  refine callsIn_of_wp Tryd.func52 rfl hf ?_ rfl
  simp only [Tryd.ntmps52, List.size_toArray, List.length_cons, List.length_nil, Nat.reduceAdd, Nat.reduceSub, Array.replicate_succ, Array.replicate_zero, List.push_toArray, List.append_toArray, List.nil_append, List.cons_append]
  gi_wp2
  gi_loopw [4] (fun v wr => ∃ (k : Nat) (acc : List Int), k ≤ n ∧ acc.length ≤ k ∧ v = .int .i64 k ∧ Hid (CutTo b ds k acc) ∧ Hid (J acc wr) ∧ Hid (Below w0.heap.size w0 wr)) (fun v _ => n - (intOf v).toNat)
  case atStart => exact ⟨0, [], Nat.zero_le _, Nat.zero_le _, rfl, Lib.hid (CutTo.start b ds), Lib.hid h0, Lib.hid hW⟩
  case round =>
    obtain ⟨k, acc, hk, hal, rfl, hcut, hJ, hbel⟩ := hrel
    have d1 := (hbel.out.cell (p := ⟨B1, 0, none⟩) HI.out.l1).trans HI.out.c1
    have d2 := (hbel.out.cell (p := ⟨B2, 0, none⟩) HI.out.l2).trans HI.out.c2
    by_cases hlt : k < n
    · obtain ⟨bb, off, x, rfl, hbw, hd, hc⟩ := HI.out.d.at_ hlt
      have hx := HI.out.bd x (List.mem_of_getElem? hd.out)
      have hc := (hbel.out.cell (p := ⟨bb, off + k, none⟩) hbw).trans hc
      have HG := Lib.hid (hcut.out.go hd.out hx.1 hx.2)
      have HDL := Lib.hid HI.out.d.len
      clear hcut hd
      gi_wp2
      gi_quiet (fail)
      rename Nat => kq
      gi_wp2
      have hJ0 : J acc (wr.drewN kq) := hab acc wr _ none hJ.out (grownBy_drewN (World.grownBy.refl _ _) kq) (fun r e => by cases e)
      have HJ0 := Lib.hid hJ0
      have HB0 := Lib.hid (below_drewN hbel.out kq)
      clear hJ0 hJ hbel d1 d2 hc
      generalize wr.drewN kq = ws at HJ0 HB0 ⊢
      gi_loopw [5, 6] (fun h s wr => ∃ (j : Nat) (q : Int), k + 1 ≤ j ∧ j ≤ n ∧ h = .int .i64 j ∧ s = .int .i64 q ∧ Hid (CutIn b ds j acc q) ∧ Hid (J acc wr) ∧ Hid (Below w0.heap.size w0 wr)) (fun h _ _ => n - (intOf h).toNat)
      case atStart => exact ⟨k + 1, x, Nat.le_refl _, by omega, by go_num, by go_num, HG, HJ0, HB0⟩
      case round =>
        clear HJ0 HB0 HG
        obtain ⟨j, q, hkj, hj, rfl, rfl, hin, hJ, hbel⟩ := hrel
        have d1 := (hbel.out.cell (p := ⟨B1, 0, none⟩) HI.out.l1).trans HI.out.c1
        have d2 := (hbel.out.cell (p := ⟨B2, 0, none⟩) HI.out.l2).trans HI.out.c2
        have hq0 := hin.out.lo
        have hq1 := hin.out.hi
        by_cases hjl : j < n
        · obtain ⟨b', off', y, hA, hbw', hd, hc⟩ := HI.out.d.at_ hjl
          obtain ⟨rfl, rfl⟩ : bb = b' ∧ off = off' := by injection hA with hA; injection hA with h1 h2; exact ⟨h1, h2⟩
          have hy := HI.out.bd y (List.mem_of_getElem? hd.out)
          have hc := (hbel.out.cell (p := ⟨bb, off + j, none⟩) hbw).trans hc
          have hz : j < n := hjl
          by_cases hqb : q + y ≤ b
          · have HS := Lib.hid (hin.out.more hd.out hy.1 hy.2 hqb)
            clear hin hd hA
            gi_wp2
            gi_quiet (fail)
            rename Nat => k2
            gi_wp2
            go_roundw
            case rel => exact ⟨j + 1, q + y, by omega, by omega, by go_num, by go_num, HS, Lib.hid (hab acc wr _ none hJ.out (grownBy_drewN (World.grownBy.refl _ _) k2) (fun r e => by cases e)), Lib.hid (below_drewN hbel.out k2)⟩
            case measure => simp [intOf]; omega
          · have HS := Lib.hid (hin.out.new hd.out (by omega))
            clear hin hd hA
            gi_wp2
            gi_quiet (fail)
            rename Nat => k2
            have hJ2 : J acc (wr.drewN k2) := hab acc wr _ none hJ.out (grownBy_drewN (World.grownBy.refl _ _) k2) (fun r e => by cases e)
            obtain ⟨fn, tmps, assign, body, hy2, hR⟩ := hY acc (j : Int) _ hJ2 (by omega)
            gi_wp2
            refine hR.mono ?_
            rintro e W3 (⟨rfl, hJ3, hk3⟩ | ⟨rfl, hJx3⟩)
            · gi_wp2
              go_roundw
              case rel => exact ⟨j, acc ++ [(j : Int)], by omega, by simp; omega, by go_num, HS, Lib.hid hJ3, Lib.hid ((below_drewN hbel.out k2).trans hk3)⟩
              case measure => simp [intOf]; omega
            · gi_wp2
              refine bodyPost_ret (results_none rfl _ _ _) rfl ?_
              exact ⟨⟨_, rfl⟩, .inr ⟨_, HS.out.pre, hJx3⟩⟩
        · obtain rfl : j = n := by omega
          have HS := Lib.hid (hin.out.last HDL.out)
          clear hin
          gi_wp2
          gi_quiet (fail)
          rename Nat => k2
          have hJ2 : J acc (wr.drewN k2) := hab acc wr _ none hJ.out (grownBy_drewN (World.grownBy.refl _ _) k2) (fun r e => by cases e)
          obtain ⟨fn, tmps, assign, body, hy2, hR⟩ := hY acc (j : Int) _ hJ2 (by omega)
          gi_wp2
          refine hR.mono ?_
          rintro e W3 (⟨rfl, hJ3, hk3⟩ | ⟨rfl, hJx3⟩)
          · gi_wp2
            go_roundw
            case rel => exact ⟨j, acc ++ [(j : Int)], by omega, by simp; omega, by go_num, HS, Lib.hid hJ3, Lib.hid ((below_drewN hbel.out k2).trans hk3)⟩
            case measure => simp [intOf]; omega
          · gi_wp2
            refine bodyPost_ret (results_none rfl _ _ _) rfl ?_
            exact ⟨⟨_, rfl⟩, .inr ⟨_, HS.out.pre, hJx3⟩⟩
    · obtain rfl : k = n := by omega
      have HE := Lib.hid (hcut.out.done (by rw [HI.out.d.len]; exact Nat.le_refl _))
      gi_wp2
      go_end0
      exact ⟨⟨_, rfl⟩, .inl ⟨_, HE.out, hJ.out⟩⟩

theorem greedy_stops (F : Fence) (m : Nat) (hf : F.fn 52) (hro : F.round = none) (hm : 1 ≤ m) (B1 B2 : Nat) (A : Option Addr) (n c : Nat) (ds : List Int) (b : Int) (w0 : World) (hI : GrdIn w0 B1 B2 A n c ds b) :
    SeqStopsK F m Tryd.prog 52 #[.pointer (some ⟨B1, 0, none⟩), .pointer (some ⟨B2, 0, none⟩)] (fun x : Int => #[Value.int .i64 x]) (Below w0.heap.size) (fun ys => ys = cutFrom b 0 ds) (fun pre => pre <+: cutFrom b 0 ds) 150 w0 := fun l J Jx W hW hJ _ hY h0 =>
  greedy1_in F m hf hro hm l B1 B2 A n c ds b w0 hI J Jx W hJ hY hW h0

set_option maxHeartbeats 1000000 in
/-- The degrees and the budget are boxed; the function value captures both boxes. -/
theorem greedy_any (A : Option Addr) (n c : Nat) (b : Int) (w : World) :
    Calls Tryd.prog 26 #[.slice A n c, .int .i64 b] w fun e w' => e = .returned (.func (.func 52) #[] #[.pointer (some ⟨w.heap.size, 0, none⟩), .pointer (some ⟨w.heap.size + 1, 0, none⟩)]) ∧ w' = (w.alloc (.cells #[.slice A n c] 27)).alloc (.cells #[.int .i64 b] 3) := by
  go_enter Tryd.func26, Tryd.ntmps26
  go_wp2
  go_ret
  exact ⟨rfl, rfl⟩

def MadeS (w : World) (xs : List Int) (e : Ending) (w' : World) : Prop :=
  ∃ v, e = .returned v ∧ w'.ownsRow w.heap.size 3 1 v xs.length (vi xs) ∧ Below w.heap.size w w'

set_option maxRecDepth 100000 in
set_option maxHeartbeats 2000000 in
/-- slices.AppendSeq(nil, seq), for whatever iterator that keeps what lay. -/
theorem appendSeq_in (F : Fence) (m : Nat) (hf : F.fn 51) (hro : F.round = none) (hm : 2 ≤ m) (g : Nat) (lb : Array Value) (hFg : F.fn g) (eg : ∀ args w, (callFunc g args).run Tryd.prog w = .ok (.enter g args) w) (xs : List Int) (Sp : List Int → Prop) (w : World)
    (hseq : SeqStopsK F (m - 1) Tryd.prog g lb (fun x : Int => #[Value.int .i64 x]) (Below w.heap.size) (fun ys => ys = xs) Sp 150 w) :
    CallsIn F m Tryd.prog 51 #[.slice none 0 0, .func (.func g) #[] lb] w (MadeS w xs) := by
  have h1 : 1 ≤ m := by omega
  obtain ⟨i0, hi, hz0, hz1, hz2⟩ := info_parts Tryd.infoInt
  refine callsIn_of_wp_marks Tryd.func51 rfl hf ?_ hro
  simp only [Tryd.ntmps51, List.size_toArray, List.length_cons, List.length_nil, Nat.reduceAdd, Nat.reduceSub, Array.replicate_succ, Array.replicate_zero, List.push_toArray, List.append_toArray, List.nil_append, List.cons_append]
  gi_wp2
  have bO := Boxed.new w 27 (.slice none 0 0)
  have hB0 : Below w.heap.size w (w.alloc (.cells #[.slice none 0 0] 27)) := below_a1 _ _
  refine wpIn_rangeFunc_ownG hro h1 (gf := g) (lb := lb) rfl hFg eg hseq belowK_t (belowK_b (by simp)) hB0 (fun _ => rfl)
    (fun pre W => (∃ v, Boxed W w.heap.size 27 v ∧ W.ownsRow w.heap.size 3 1 v pre.length (pre.map (Value.int .i64)) ∧ (v = .slice none 0 0 ↔ pre = [])) ∧ Below w.heap.size w W)
    (fun _ _ _ => False)
    (OwnFrom.and (Own.from (holdsRow_own w.heap.size w.heap.size 27 3 1 (fun pre : List Int => pre.length) (fun pre => pre.map (Value.int .i64)) (fun pre v => v = .slice none 0 0 ↔ pre = [])) _) (ownFrom_below (Nat.le_refl _) (by simp)))
    (fun _ _ _ _ _ hs _ _ => hs)
    ⟨⟨_, bO, World.ownsRow_nil _ _ _ _, by simp⟩, hB0⟩
    (fun x => { tmps := #[.slice none 0 0, .func (.func g) #[] lb, .pointer (some ⟨w.heap.size, 0, none⟩), undef, .slice none 0 0, .int .i64 x, .func (.func g) #[] lb, .int .i64 x, undef, undef, undef, undef, undef], defers := [] }) ?assign ?body ?done ?stop
  case assign =>
    intro l x W K hK
    gi_wp2
    exact hK
  case body =>
    rintro l pre x W ⟨⟨v, hv, hrow, hnil⟩, hB⟩ hlt
    have hc := hv.cell
    gi_wp2_with (gi_at_builtin; refine wpListIn_append_own _ rfl _ _ 27 rfl w.heap.size 3 i0 (.int .i64 0) 1 8 Tryd.underlying27 hi hz0 hz1 hz2 rfl (by decide) _ _ _ rfl (hrow.alloc _) ⟨W.heap.size, 0, none⟩ 1 1 [.int .i64 x] rfl rfl (cell_one_new _ _ _) (by simp [Value.oneCell']) (by simp only [maxLen]; omega) (by omega) (by have := hB.size; simp; omega) ?_; intro v' w1 hown' hgrow _; obtain ⟨g', cap', rfl⟩ := ownsRow_succ hown'; obtain ⟨hv1, hv2, hr2, hk2, hb2⟩ := hv.appended (by decide) hrow hB.size (Nat.le_refl _) hown' hgrow; have hc1 := hv1.cell; have hf1 := hv1.frozen)
    exact ⟨hk2.from _, hb2, ⟨_, hv2, by simpa using hr2, by simp⟩, hB.trans hb2⟩
  case done =>
    rintro D ys W hD rfl ⟨⟨v, hv, hrow, hnil⟩, hB⟩ hK
    have hc := hv.cell
    gi_wp2
    refine ⟨by simp, .inl ⟨_, _, rfl, run_takeDeferred hK, ?_⟩⟩
    exact ⟨_, results_tmp rfl _ _ _, v, rfl, ownsRow_putObj hrow _ hK rfl, hB.trans (belowK_b (w := w) (Nat.le_refl _) W D _ _ (by simp at hD; omega) hK rfl rfl)⟩
  case stop =>
    rintro D c pre W _ _ h _
    exact h.elim

set_option maxHeartbeats 1000000 in
theorem collect_any (B1 B2 : Nat) (A : Option Addr) (n c : Nat) (ds : List Int) (b : Int) (w : World) (hI : GrdIn w B1 B2 A n c ds b) :
    Calls Tryd.prog 25 #[.func (.func 52) #[] #[.pointer (some ⟨B1, 0, none⟩), .pointer (some ⟨B2, 0, none⟩)]] w (MadeS w (cutFrom b 0 ds)) := by
  have C := Lib.hid (callsIn_wide.1 (appendSeq_in Fence.wide 3 trivial rfl (by omega) 52 _ trivial (enters_of Tryd.func52 (by kernel_rfl) rfl) (cutFrom b 0 ds) _ w (greedy_stops Fence.wide 2 trivial rfl (by omega) B1 B2 A n c ds b w hI)))
  clear hI
  go_enter Tryd.func25, Tryd.ntmps25
  go_wp2_with fail
  refine C.out.mono ?_
  rintro e w1 ⟨v, rfl, ho, hb⟩
  obtain ⟨A2, c2, rfl⟩ := i_form ho
  go_wp2
  go_ret
  exact ⟨_, rfl, ho, hb⟩
end Go.Proofs.YtmbabbapcjphgaaDoor
namespace Go.Proofs.YtmbabbapcjphgaaDoor
open Go.RowKit

theorem endTo (e : GE) (w : World) : Calls Tryd.prog 45 #[.agg #[.int .i64 e.f, .int .i64 e.t, .int .i64 e.w]] w (GNum w e.t) := by
  go_enter Tryd.func45, Tryd.ntmps45
  go_wp2
  go_ret
  exact ⟨rfl, below_a1 _ _⟩

set_option maxRecDepth 10000 in
set_option maxHeartbeats 4000000 in
theorem degsIn (N : Int) (A : Option Addr) (n c : Nat) (es : List GE) (w : World) (hr : SlG w A n es) (hn : n ≤ 1048576) :
    Calls Tryd.prog 44 #[.agg #[.int .i64 N, .slice A n c], .func (.func 45) #[] #[]] w (MadeI w (degsOf GE.t N es)) := by
  obtain ⟨i0, hi, hz0, hz1, hz2⟩ := info_parts Tryd.infoInt
  have HEL := Lib.hid hr.len
  have HR := Lib.hid hr
  have CG := Lib.hid (fun W (h : Below w.heap.size w W) => implGraphOk N A n c es W (hr.below h) hn)
  have CE := Lib.hid (fun e W => endTo e W)
  clear hr
  go_enter Tryd.func44, Tryd.ntmps44
  go_wp2_with fail
  refine (CG.out _ (below_a1 _ _)).mono ?_
  rintro e w1 ⟨rfl, hb1⟩
  have X1 := Lib.hid ((NBox.new w N A n c 25).below hb1)
  have HB1 := Lib.hid (g_chain (below_a1 w (.cells #[.int .i64 N, .slice A n c] 25)) hb1)
  clear hb1
  obtain ⟨l0, x0, x1⟩ := X1.out
  cases hv : graphB N es with
  | false =>
    have HD : Hid (degsOf GE.t N es = []) := Lib.hid (by unfold degsOf; rw [hv]; rfl)
    go_wp2
    go_ret
    rw [HD.out]
    exact ⟨none, 0, 0, rfl, World.ownsRow_nil _ _ _ _, HB1.out⟩
  | true =>
    have HD : Hid (degsOf GE.t N es = degs GE.t N.toNat es) := Lib.hid (by unfold degsOf; rw [hv]; rfl)
    obtain ⟨h1, h2, h3, h4⟩ := graphB_iff hv
    have H4 := Lib.hid h4
    rw [HEL.out] at h3
    clear hv h4
    obtain ⟨M, rfl⟩ : ∃ M : Nat, N = (M : Int) := ⟨N.toNat, by omega⟩
    rw [Int.toNat_natCast] at HD
    go_wp2_with (refine wpList_make_full _ rfl (.tmp 12) (.tmp 12) 27 rfl w1.heap.size 3 i0 (.int .i64 0) 1 Tryd.underlying27 hi hz0 hz1 .i64 .i64 _ _ M rfl rfl rfl rfl (by rw [hz2]; omega) (by unfold maxLen; omega) (Nat.le_refl _) ?_; intro w2 hown hg; have hb2 : Below w1.heap.size w1 w2 := (Below.refl _ _).grown hg (Nat.le_refl _) (by simp); have X2 := Lib.hid (X1.out.below hb2); have HB2 := Lib.hid (g_chain HB1.out hb2); rw [made_zero M GE.t es] at hown; have HO2 := Lib.hid hown; clear hown hg hb2 l0 x0 x1; obtain ⟨l0, x0, x1⟩ := X2.out)
    have hg1 : w.heap.size < w1.heap.size := X1.out.lt
    go_loopw [17] (fun i wr => ∃ k : Nat, k ≤ n ∧ i = .int .i64 k ∧ Hid (NBox wr w.heap.size M A n c) ∧ Hid (Below w.heap.size w wr) ∧ Hid (wr.ownsRow w1.heap.size 3 1 (.slice (some ⟨w1.heap.size, 0, none⟩) M M) M (vi (degs GE.t M (es.take k))))) (fun i _ => n - (intOf i).toNat)
    case atStart => exact ⟨0, Nat.zero_le _, rfl, X2, HB2, HO2⟩
    case round =>
      clear X2 HB2 HO2 l0 x0 x1
      obtain ⟨k, hk, rfl, hx, hbel, hown⟩ := hrel
      by_cases hlt : k < n
      · obtain ⟨b, off, e, rfl, hbw, he, c0, c1, c2⟩ := HR.out.at_ hlt
        have c0 := (hbel.out.cell (p := ⟨b, off + k * 3, none⟩) hbw).trans c0
        have c1 := (hbel.out.cell (p := ⟨b, off + k * 3 + 1, none⟩) hbw).trans c1
        have c2 := (hbel.out.cell (p := ⟨b, off + k * 3 + 2, none⟩) hbw).trans c2
        have hh := edgeB_iff (H4.out e (List.mem_of_getElem? he.out))
        obtain ⟨f, hf⟩ : ∃ f : Nat, e.t = (f : Int) := ⟨Int.toNat e.t, by omega⟩
        have hfM : f < M := by omega
        obtain ⟨x, hx1, hx2, hx3⟩ := degs_at (key := GE.t) (es := es.take k) hfM
        have hx4 : x ≤ 400 := by have := List.length_take_le k es; rw [HEL.out] at *; omega
        have HST := Lib.hid (degs_step (key := GE.t) (M := M) he.out (f := f) hf hx1)
        have HX1 := Lib.hid hx1
        have HA1 := Lib.hid (below_a1 wr (.cells #[.int .i64 e.f, .int .i64 e.t, .int .i64 e.w] 45))
        have HF := Lib.hid hf
        obtain ⟨l0, x0, x1⟩ := hx.out
        clear hx1 hx3 hf hh
        go_wp2_with (go_at_call 45; refine (CE.out e _).mono ?_; rintro e1 w3 ⟨rfl, hb3⟩; rw [HF.out]; have HB3 := Lib.hid (g_chain HA1.out hb3); have HOW := Lib.hid (own_below hown.out HB3.out); have hc0 : w3.cell? ⟨w1.heap.size, f, none⟩ = some (.int .i64 x) := (HOW.out.cellAt f (by omega)).trans (by rw [vi_get, HX1.out]; first | done | rfl); have hf0 := HOW.out.frozenAt f; have HS := Lib.hid (HOW.out.stored f (.int .i64 (x + 1))); rw [← HST.out] at HS; clear l0 x0 x1 c0 c1 c2)
        go_roundw
        case rel =>
          refine ⟨k + 1, by omega, by go_num, Lib.hid ?_, Lib.hid ?_, Lib.hid ?_⟩
          · exact (hx.out.below HB3.out).keep (by simp) (Below.heap_setCell w3 ⟨w1.heap.size, f, none⟩ (.int .i64 (x + 1)) w.heap.size (by show w.heap.size ≠ w1.heap.size; omega))
          · exact (g_chain hbel.out HB3.out).setCell (p := ⟨w1.heap.size, f, none⟩) (by show w.heap.size ≤ w1.heap.size; omega) _
          · exact HS.out.1
        case measure => simp [intOf]; omega
      · obtain rfl : k = n := by omega
        obtain ⟨l0, x0, x1⟩ := hx.out
        go_wp2
        go_ret
        rw [HD.out]
        have h := hown.out
        rw [List.take_of_length_le (by rw [HEL.out]; exact Nat.le_refl _)] at h
        exact ⟨_, _, _, rfl, own_monoG h (by omega), hbel.out⟩
theorem implIn (N : Int) (A : Option Addr) (n c : Nat) (es : List GE) (w : World) (hr : SlG w A n es) (hn : n ≤ 1048576) :
    Calls Tryd.prog 17 #[.agg #[.int .i64 N, .slice A n c]] w (MadeI w (degsOf GE.t N es)) := by
  have C := Lib.hid (fun W (h : Below w.heap.size w W) => degsIn N A n c es W (hr.below h) hn)
  clear hr
  go_enter Tryd.func17, Tryd.ntmps17
  go_wp2_with fail
  refine (C.out _ (below_a1 _ _)).mono ?_
  rintro e w1 ⟨A1, n1, c1, rfl, ho1, hb1⟩
  have HO := Lib.hid ho1
  have HB := Lib.hid hb1
  clear ho1 hb1
  go_wp2
  go_ret
  exact ⟨A1, n1, c1, rfl, own_monoG HO.out (by simp), g_chain (below_a1 _ _) HB.out⟩
end Go.Proofs.YtmbabbapcjphgaaDoor
namespace Go.Proofs.YtmbabbapcjphgaaDoor
open Go.RowKit

set_option maxRecDepth 10000 in
set_option maxHeartbeats 4000000 in
theorem implCut (N : Int) (A : Option Addr) (n c : Nat) (es : List GE) (b : Int) (w : World) (hr : SlG w A n es) (hn : n ≤ 1048576) :
    Calls Tryd.prog 7 #[.agg #[.int .i64 N, .slice A n c], .int .i64 b] w (MadeI w (cutR N es b)) := by
  have CG := Lib.hid (fun W (h : Below w.heap.size w W) => implGraphOk N A n c es W (hr.below h) hn)
  have CD := Lib.hid (fun W (h : Below w.heap.size w W) => implIn N A n c es W (hr.below h) hn)
  have HEL := Lib.hid hr.len
  obtain ⟨R, hR⟩ : ∃ R, cutR N es b = R := ⟨_, rfl⟩
  rw [hR]
  clear hr
  go_enter Tryd.func7, Tryd.ntmps7
  go_wp2_with fail
  refine (CG.out _ (below_a1 _ _)).mono ?_
  rintro e w1 ⟨rfl, hb1⟩
  have X1 := Lib.hid ((NBox.new w N A n c 25).below hb1)
  have HB1 := Lib.hid (g_chain (below_a1 w (.cells #[.int .i64 N, .slice A n c] 25)) hb1)
  clear hb1
  obtain ⟨l0, x0, x1⟩ := X1.out
  cases hv : graphB N es with
  | false =>
    have HD := Lib.hid (hR.symm.trans (cutR_no (.inl hv)))
    go_wp2
    go_ret
    rw [HD.out]
    exact ⟨none, 0, 0, rfl, World.ownsRow_nil _ _ _ _, HB1.out⟩
  | true =>
    by_cases hb1 : b < 1
    · have HD := Lib.hid (hR.symm.trans (cutR_no (.inr (.inl hb1))))
      go_wp2
      go_ret
      rw [HD.out]
      exact ⟨none, 0, 0, rfl, World.ownsRow_nil _ _ _ _, HB1.out⟩
    · by_cases hb2 : 400 < b
      · have HD := Lib.hid (hR.symm.trans (cutR_no (.inr (.inr hb2))))
        go_wp2
        go_ret
        rw [HD.out]
        exact ⟨none, 0, 0, rfl, World.ownsRow_nil _ _ _ _, HB1.out⟩
      · have HD := Lib.hid (hR.symm.trans (cutR_yes hv (b := b) (by omega) (by omega)))
        obtain ⟨g1, g2, g3, _⟩ := graphB_iff hv
        have hdl : (degsOf GE.t N es).length ≤ 150 := by unfold degsOf; rw [if_pos hv, degs_len]; omega
        have HBD : Hid (∀ x ∈ degsOf GE.t N es, 0 ≤ x ∧ x ≤ 400) := Lib.hid (fun x hx => by
          unfold degsOf at hx
          rw [if_pos hv] at hx
          have := degs_bound GE.t N.toNat es x hx
          omega)
        generalize degsOf GE.t N es = ds at CD hdl HBD HD
        clear hv g1 g2 g3 CG hR
        go_wp2_with fail
        refine (CD.out _ HB1.out).mono ?_
        rintro e w2 ⟨A2, m2, c2, rfl, hod, hb2'⟩
        obtain rfl := hod.cnt
        have HB2 := Lib.hid (g_chain HB1.out hb2')
        have D2 := Lib.hid hod.rd
        clear hod hb2' l0 x0 x1
        go_wp2_with fail
        refine (greedy_any _ _ _ _ _).mono ?_
        rintro e w3 ⟨rfl, rfl⟩
        have HG : Hid (GrdIn ((w2.alloc (.cells #[.slice A2 ds.length c2] 27)).alloc (.cells #[.int .i64 b] 3)) w2.heap.size (w2.heap.size + 1) A2 ds.length c2 ds b) := Lib.hid ⟨D2.out.below (below_a2 _ _ _), hdl, by omega, by omega, HBD.out, by simp; omega, by simp, by simp, by simp⟩
        have HB3 := Lib.hid (g_chain HB2.out (below_a2 w2 (.cells #[.slice A2 ds.length c2] 27) (.cells #[.int .i64 b] 3)))
        go_wp2_with fail
        refine (collect_any _ _ _ _ _ _ _ _ HG.out).mono ?_
        rintro e w4 ⟨v, rfl, ho, hb4⟩
        obtain ⟨A5, c5, rfl⟩ := i_form ho
        have HO := Lib.hid ho
        have HB4 := Lib.hid (g_chain HB3.out hb4)
        clear ho hb4
        go_wp2
        go_ret
        rw [HD.out]
        exact ⟨A5, _, c5, rfl, own_monoG HO.out HB3.out.size, HB4.out⟩
end Go.Proofs.YtmbabbapcjphgaaDoor
