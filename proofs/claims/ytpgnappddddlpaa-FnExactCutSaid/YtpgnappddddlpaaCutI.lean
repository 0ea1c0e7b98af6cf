/- The contract of the program's Cut: its iterator over the ends, slices.AppendSeq and slices.Collect over it. Condition: at most 2^20 edges. -/
import Derived.Test.YtpgnappddddlpaaSpans
import Derived.Test.YtpgnappddddlpaaCutS
import Derived.Sort.QuietIn
import Derived.Maps.AppendAt
namespace Go.Proofs.Ytpgnappddddlpaa
open Go.RowKit Go.Shelf
attribute [local go_sem] Oper.semAt_some

/-- What the iterator reads between two rounds. -/
structure GrdIn (w0 : World) (B1 B2 : Nat) (A : Option Addr) (n c : Nat) (ds : List Int) (b : Int) : Prop where
  d : SlI w0 A n ds
  le : n ≤ 150
  b1 : 1 ≤ b
  b2 : b ≤ 400
  bd : ∀ x ∈ ds, 0 ≤ x ∧ x ≤ 400
  l1 : B1 < w0.heap.size
  l2 : B2 < w0.heap.size
  c1 : w0.cell? ⟨B1, 0, none⟩ = some (.slice A n c)
  c2 : w0.cell? ⟨B2, 0, none⟩ = some (.int .i64 b)

set_option maxRecDepth 100000 in
set_option maxHeartbeats 4000000 in
theorem greedy1_in (F : Fence) (m : Nat) (hf : F.fn 135) (hro : F.round = none) (hm : 1 ≤ m) (l B1 B2 : Nat) (A : Option Addr) (n c : Nat) (ds : List Int) (b : Int) (w0 : World) (hI : GrdIn w0 B1 B2 A n c ds b) (J Jx : List Int → World → Prop) (W : World) (hab : AbidesFrom W.heap.size J)
    (hY : ∀ pre x W, J pre W → pre.length < 150 → YieldAt F (m - 1) Try.prog l #[.int .i64 x] W fun e W' =>
      (e = .returned (.bool true) ∧ J (pre ++ [x]) W' ∧ Below w0.heap.size W W') ∨ (e = .returned (.bool false) ∧ Jx (pre ++ [x]) W'))
    (hW : Below w0.heap.size w0 W) (h0 : J [] W) :
    CallsIn F m Try.prog 135 #[.func (.yield l) #[] #[], .pointer (some ⟨B1, 0, none⟩), .pointer (some ⟨B2, 0, none⟩)] W fun e W' => (∃ v, e = .returned v) ∧
      ((∃ ys, ys = cutFrom b 0 ds ∧ J ys W') ∨ (∃ pre, pre <+: cutFrom b 0 ds ∧ Jx pre W')) := by
  have HI := Lib.hid hI
  have hn := hI.le
  have hb1 := hI.b1
  have hb2 := hI.b2
  clear hI
  rcases F with ⟨Ff, Fd, Fa, Fr⟩
  obtain rfl : Fr = none := hro
  refine callsIn_of_wp Try.func135 rfl hf ?_ rfl
  simp only [Try.ntmps135, List.size_toArray, List.length_cons, List.length_nil, Nat.reduceAdd, Nat.reduceSub, Array.replicate_succ, Array.replicate_zero, List.push_toArray, List.append_toArray, List.nil_append, List.cons_append]
  gi_wp2
  gi_loopw [4] (fun v wr => ∃ (k : Nat) (acc : List Int), k ≤ n ∧ acc.length ≤ k ∧ v = .int .i64 k ∧ Hid (CutTo b ds k acc) ∧ Hid (J acc wr) ∧ Hid (Below w0.heap.size w0 wr)) (fun v _ => n - (intOf v).toNat)
  case atStart => exact ⟨0, [], Nat.zero_le _, Nat.zero_le _, rfl, Lib.hid (CutTo.start b ds), Lib.hid h0, Lib.hid hW⟩
  case round =>
    obtain ⟨k, acc, hk, hal, rfl, hcut, hJ, hbel⟩ := hrel
    have d1 := (hbel.out.cell (p := ⟨B1, 0, none⟩) HI.out.l1).trans HI.out.c1
    have d2 := (hbel.out.cell (p := ⟨B2, 0, none⟩) HI.out.l2).trans HI.out.c2
    by_cases hlt : k < n
    · obtain ⟨bb, off, x, rfl, hbw, hd, hc⟩ := HI.out.d.at_ hlt
      have hx := HI.out.bd x (List.mem_of_getElem? hd.out)
      have hc := (hbel.out.cell (p := ⟨bb, off + k, none⟩) hbw).trans hc
      have HG := Lib.hid (hcut.out.go hd.out hx.1 hx.2)
      have HDL := Lib.hid HI.out.d.len
      clear hcut hd
      gi_wp2
      gi_quiet (fail)
      rename Nat => kq
      gi_wp2
      have hJ0 : J acc (wr.drewN kq) := hab acc wr _ none hJ.out (grownBy_drewN (World.grownBy.refl _ _) kq) (fun r e => by cases e)
      have HJ0 := Lib.hid hJ0
      have HB0 := Lib.hid (below_drewN hbel.out kq)
      clear hJ0 hJ hbel d1 d2 hc
      generalize wr.drewN kq = ws at HJ0 HB0 ⊢
      gi_loopw [5, 6] (fun h s wr => ∃ (j : Nat) (q : Int), k + 1 ≤ j ∧ j ≤ n ∧ h = .int .i64 j ∧ s = .int .i64 q ∧ Hid (CutIn b ds j acc q) ∧ Hid (J acc wr) ∧ Hid (Below w0.heap.size w0 wr)) (fun h _ _ => n - (intOf h).toNat)
      case atStart => exact ⟨k + 1, x, Nat.le_refl _, by omega, by go_num, by go_num, HG, HJ0, HB0⟩
      case round =>
        clear HJ0 HB0 HG
        obtain ⟨j, q, hkj, hj, rfl, rfl, hin, hJ, hbel⟩ := hrel
        have d1 := (hbel.out.cell (p := ⟨B1, 0, none⟩) HI.out.l1).trans HI.out.c1
        have d2 := (hbel.out.cell (p := ⟨B2, 0, none⟩) HI.out.l2).trans HI.out.c2
        have hq0 := hin.out.lo
        have hq1 := hin.out.hi
        by_cases hjl : j < n
        · obtain ⟨b', off', y, hA, hbw', hd, hc⟩ := HI.out.d.at_ hjl
          obtain ⟨rfl, rfl⟩ : bb = b' ∧ off = off' := by injection hA with hA; injection hA with h1 h2; exact ⟨h1, h2⟩
          have hy := HI.out.bd y (List.mem_of_getElem? hd.out)
          have hc := (hbel.out.cell (p := ⟨bb, off + j, none⟩) hbw).trans hc
          have hz : j < n := hjl
          by_cases hqb : q + y ≤ b
          · have HS := Lib.hid (hin.out.more hd.out hy.1 hy.2 hqb)
            clear hin hd hA
            gi_wp2
            gi_quiet (fail)
            rename Nat => k2
            gi_wp2
            go_roundw
            case rel => exact ⟨j + 1, q + y, by omega, by omega, by go_num, by go_num, HS, Lib.hid (hab acc wr _ none hJ.out (grownBy_drewN (World.grownBy.refl _ _) k2) (fun r e => by cases e)), Lib.hid (below_drewN hbel.out k2)⟩
            case measure => simp [intOf]; omega
          · have HS := Lib.hid (hin.out.new hd.out (by omega))
            clear hin hd hA
            gi_wp2
            gi_quiet (fail)
            rename Nat => k2
            have hJ2 : J acc (wr.drewN k2) := hab acc wr _ none hJ.out (grownBy_drewN (World.grownBy.refl _ _) k2) (fun r e => by cases e)
            obtain ⟨fn, tmps, assign, body, hy2, hR⟩ := hY acc (j : Int) _ hJ2 (by omega)
            gi_wp2
            refine hR.mono ?_
            rintro e W3 (⟨rfl, hJ3, hk3⟩ | ⟨rfl, hJx3⟩)
            · gi_wp2
              go_roundw
              case rel => exact ⟨j, acc ++ [(j : Int)], by omega, by simp; omega, by go_num, HS, Lib.hid hJ3, Lib.hid ((below_drewN hbel.out k2).trans hk3)⟩
              case measure => simp [intOf]; omega
            · gi_wp2
              refine bodyPost_ret (results_none rfl _ _ _) rfl ?_
              exact ⟨⟨_, rfl⟩, .inr ⟨_, HS.out.pre, hJx3⟩⟩
        · obtain rfl : j = n := by omega
          have HS := Lib.hid (hin.out.last HDL.out)
          clear hin
          gi_wp2
          gi_quiet (fail)
          rename Nat => k2
          have hJ2 : J acc (wr.drewN k2) := hab acc wr _ none hJ.out (grownBy_drewN (World.grownBy.refl _ _) k2) (fun r e => by cases e)
          obtain ⟨fn, tmps, assign, body, hy2, hR⟩ := hY acc (j : Int) _ hJ2 (by omega)
          gi_wp2
          refine hR.mono ?_
          rintro e W3 (⟨rfl, hJ3, hk3⟩ | ⟨rfl, hJx3⟩)
          · gi_wp2
            go_roundw
            case rel => exact ⟨j, acc ++ [(j : Int)], by omega, by simp; omega, by go_num, HS, Lib.hid hJ3, Lib.hid ((below_drewN hbel.out k2).trans hk3)⟩
            case measure => simp [intOf]; omega
          · gi_wp2
            refine bodyPost_ret (results_none rfl _ _ _) rfl ?_
            exact ⟨⟨_, rfl⟩, .inr ⟨_, HS.out.pre, hJx3⟩⟩
    · obtain rfl : k = n := by omega
      have HE := Lib.hid (hcut.out.done (by rw [HI.out.d.len]; exact Nat.le_refl _))
      gi_wp2
      go_end0
      exact ⟨⟨_, rfl⟩, .inl ⟨_, HE.out, hJ.out⟩⟩

theorem greedy_stops (F : Fence) (m : Nat) (hf : F.fn 135) (hro : F.round = none) (hm : 1 ≤ m) (B1 B2 : Nat) (A : Option Addr) (n c : Nat) (ds : List Int) (b : Int) (w0 : World) (hI : GrdIn w0 B1 B2 A n c ds b) :
    SeqStopsK F m Try.prog 135 #[.pointer (some ⟨B1, 0, none⟩), .pointer (some ⟨B2, 0, none⟩)] (fun x : Int => #[Value.int .i64 x]) (Below w0.heap.size) (fun ys => ys = cutFrom b 0 ds) (fun pre => pre <+: cutFrom b 0 ds) 150 w0 := fun l J Jx W hW hJ _ hY h0 =>
  greedy1_in F m hf hro hm l B1 B2 A n c ds b w0 hI J Jx W hJ hY hW h0

set_option maxHeartbeats 1000000 in
/-- The degrees and the budget are boxed; the function value captures both boxes. -/
theorem greedy_any (A : Option Addr) (n c : Nat) (b : Int) (w : World) :
    Calls Try.prog 94 #[.slice A n c, .int .i64 b] w fun e w' => e = .returned (.func (.func 135) #[] #[.pointer (some ⟨w.heap.size, 0, none⟩), .pointer (some ⟨w.heap.size + 1, 0, none⟩)]) ∧ w' = (w.alloc (.cells #[.slice A n c] 23)).alloc (.cells #[.int .i64 b] 3) := by
  go_enter Try.func94, Try.ntmps94
  go_wp2
  go_ret
  exact ⟨rfl, rfl⟩

def MadeS (w : World) (xs : List Int) (e : Ending) (w' : World) : Prop :=
  ∃ v, e = .returned v ∧ w'.ownsRow w.heap.size 3 1 v xs.length (vi xs) ∧ Below w.heap.size w w'

set_option maxRecDepth 100000 in
set_option maxHeartbeats 2000000 in
/-- slices.AppendSeq(nil, seq), for whatever iterator that keeps what lay. -/
theorem appendSeq_in (F : Fence) (m : Nat) (hf : F.fn 134) (hro : F.round = none) (hm : 2 ≤ m) (g : Nat) (lb : Array Value) (hFg : F.fn g) (eg : ∀ args w, (callFunc g args).run Try.prog w = .ok (.enter g args) w) (xs : List Int) (Sp : List Int → Prop) (w : World)
    (hseq : SeqStopsK F (m - 1) Try.prog g lb (fun x : Int => #[Value.int .i64 x]) (Below w.heap.size) (fun ys => ys = xs) Sp 150 w) :
    CallsIn F m Try.prog 134 #[.slice none 0 0, .func (.func g) #[] lb] w (MadeS w xs) := by
  have h1 : 1 ≤ m := by omega
  obtain ⟨i0, hi, hz0, hz1, hz2⟩ := info_parts Try.infoInt
  refine callsIn_of_wp_marks Try.func134 rfl hf ?_ hro
  simp only [Try.ntmps134, List.size_toArray, List.length_cons, List.length_nil, Nat.reduceAdd, Nat.reduceSub, Array.replicate_succ, Array.replicate_zero, List.push_toArray, List.append_toArray, List.nil_append, List.cons_append]
  gi_wp2
  have bO := Boxed.new w 23 (.slice none 0 0)
  have hB0 : Below w.heap.size w (w.alloc (.cells #[.slice none 0 0] 23)) := below_a1 _ _
  refine wpIn_rangeFunc_ownG hro h1 (gf := g) (lb := lb) rfl hFg eg hseq belowK_t (belowK_b (by simp)) hB0 (fun _ => rfl)
    (fun pre W => (∃ v, Boxed W w.heap.size 23 v ∧ W.ownsRow w.heap.size 3 1 v pre.length (pre.map (Value.int .i64)) ∧ (v = .slice none 0 0 ↔ pre = [])) ∧ Below w.heap.size w W)
    (fun _ _ _ => False)
    (OwnFrom.and (Own.from (holdsRow_own w.heap.size w.heap.size 23 3 1 (fun pre : List Int => pre.length) (fun pre => pre.map (Value.int .i64)) (fun pre v => v = .slice none 0 0 ↔ pre = [])) _) (ownFrom_below (Nat.le_refl _) (by simp)))
    (fun _ _ _ _ _ hs _ _ => hs)
    ⟨⟨_, bO, World.ownsRow_nil _ _ _ _, by simp⟩, hB0⟩
    (fun x => { tmps := #[.slice none 0 0, .func (.func g) #[] lb, .pointer (some ⟨w.heap.size, 0, none⟩), undef, .slice none 0 0, .int .i64 x, .func (.func g) #[] lb, .int .i64 x, undef, undef, undef, undef, undef], defers := [] }) ?assign ?body ?done ?stop
  case assign =>
    intro l x W K hK
    gi_wp2
    exact hK
  case body =>
    rintro l pre x W ⟨⟨v, hv, hrow, hnil⟩, hB⟩ hlt
    have hc := hv.cell
    gi_wp2_with (gi_at_builtin; refine wpListIn_append_own _ rfl _ _ 23 rfl w.heap.size 3 i0 (.int .i64 0) 1 8 Try.underlying23 hi hz0 hz1 hz2 rfl (by decide) _ _ _ rfl (hrow.alloc _) ⟨W.heap.size, 0, none⟩ 1 1 [.int .i64 x] rfl rfl (cell_one_new _ _ _) (by simp [Value.oneCell']) (by simp only [maxLen]; omega) (by omega) (by have := hB.size; simp; omega) ?_; intro v' w1 hown' hgrow _; obtain ⟨g', cap', rfl⟩ := ownsRow_succ hown'; obtain ⟨hv1, hv2, hr2, hk2, hb2⟩ := hv.appended (by decide) hrow hB.size (Nat.le_refl _) hown' hgrow; have hc1 := hv1.cell; have hf1 := hv1.frozen)
    exact ⟨hk2.from _, hb2, ⟨_, hv2, by simpa using hr2, by simp⟩, hB.trans hb2⟩
  case done =>
    rintro D ys W hD rfl ⟨⟨v, hv, hrow, hnil⟩, hB⟩ hK
    have hc := hv.cell
    gi_wp2
    refine ⟨by simp, .inl ⟨_, _, rfl, run_takeDeferred hK, ?_⟩⟩
    exact ⟨_, results_tmp rfl _ _ _, v, rfl, ownsRow_putObj hrow _ hK rfl, hB.trans (belowK_b (w := w) (Nat.le_refl _) W D _ _ (by simp at hD; omega) hK rfl rfl)⟩
  case stop =>
    rintro D c pre W _ _ h _
    exact h.elim

set_option maxHeartbeats 1000000 in
theorem collect_any (B1 B2 : Nat) (A : Option Addr) (n c : Nat) (ds : List Int) (b : Int) (w : World) (hI : GrdIn w B1 B2 A n c ds b) :
    Calls Try.prog 93 #[.func (.func 135) #[] #[.pointer (some ⟨B1, 0, none⟩), .pointer (some ⟨B2, 0, none⟩)]] w (MadeS w (cutFrom b 0 ds)) := by
  have C := Lib.hid (callsIn_wide.1 (appendSeq_in Fence.wide 3 trivial rfl (by omega) 135 _ trivial (enters_of Try.func135 (by kernel_rfl) rfl) (cutFrom b 0 ds) _ w (greedy_stops Fence.wide 2 trivial rfl (by omega) B1 B2 A n c ds b w hI)))
  clear hI
  go_enter Try.func93, Try.ntmps93
  go_wp2_with fail
  refine C.out.mono ?_
  rintro e w1 ⟨v, rfl, ho, hb⟩
  obtain ⟨A2, c2, rfl⟩ := i_form ho
  go_wp2
  go_ret
  exact ⟨_, rfl, ho, hb⟩
end Go.Proofs.Ytpgnappddddlpaa
