/- The contract of the program's function that makes a set. // The contracts of the program's functions that count the edges at the vertices (one loop that takes a function value). // Parted from YtlhcobkncceodaaDoorDegsI: the contracts of the functions that only their own laws reach. // The contract of the model's function that asks whether a graph is valid. Condition: at most 2^20 edges. // The contracts of the model's JobOk, FirstVal and FirstEdge. Condition: a divisor is not 0 (paid by the test). // The contracts of the model's functions that ask for the worth of a vertex's bit and whether a set is valid. // Bits of int (64 bits) at numbers that are not negative: 'or' and 'xor' are those of the natural numbers; an 'or' onto free low bits is a sum. // What a writer of numbers leaves; the digits of numbers of variable length; words for an append of one byte. // The contract of the model's function that copies a set. -/
import Derived.Test.YtlhcobkncceodaaDoorCGC
import Derived.Test.YtlhcobkncceodaaDoorCGB
import Derived.Test.YtlhcobkncceodaaDoorKProgJ
import Derived.Laws.BitsAllLaws
import Derived.Laws.BitsLemmas
import Derived.WalkKit
import Derived.Test.YtlhcobkncceodaaDoorCGA
namespace Go.Proofs.YtlhcobkncceodaaDoor
open Go.RowKit
set_option linter.unusedVariables false

theorem new_zeros (n : Nat) : (madeCells (Value.int IntKind.u8 0).cells (n * 1)).toList = vb (fillV n 0) := by
  rw [show (Value.int IntKind.u8 0).cells = #[.int .u8 0] from rfl, toList_madeCells_one, Nat.mul_one]
  simp [vb, fillV]
theorem below_none {w w' : World} (h : w.grownBy w' none) : Below w.heap.size w w' := ⟨h.os, h.tape, h.output, h.size, fun k hk => h.block k hk (by simp)⟩
set_option maxRecDepth 10000 in
set_option maxHeartbeats 8000000 in
theorem implSetNew (N : Int) (all : Bool) (w : World) (hw : Wts w) (hN : (Lit.int .i64 N).wf = true) :
    Calls Tryd.prog 46 #[.int .i64 N, .bool all] w (MadeSB w (newN N) (newX N all) (newB N)) := by
  obtain ⟨i0, hi, hz0, hz1, hz2⟩ := info_parts Tryd.infoByte
  have HW := Lib.hid hw
  clear hw
  obtain ⟨hv1, hv2⟩ := bounds_i64 hN
  have HB0 := Lib.hid (SBx.new w 0 none 0 0)
  unfold newN newX
  by_cases hb : 0 ≤ N ∧ N ≤ 150
  · have he : newB N = true := by unfold newB; simp; omega
    rw [he, if_pos rfl, if_pos rfl]
    obtain ⟨N, rfl⟩ : ∃ k : Nat, N = (k : Int) := ⟨N.toNat, by omega⟩
    have hN150 : N ≤ 150 := by omega
    have d1 : decide ((N : Int) < 0) = false := by simp
    have d2 : decide ((150 : Int) < (N : Int)) = false := by simp; omega
    have C1 := Lib.hid (fun W => bytesFor N W hN150)
    rw [Int.toNat_natCast]
    have HBN : Hid (∀ v, v < N → v / 8 < bytesN N) := Lib.hid (fun v hv => lt_bytes hv)
    have hbn : bytesN N ≤ 20 := by unfold bytesN; omega
    generalize bytesN N = q at C1 HBN hbn ⊢
    clear he hb
    cases all with
    | false =>
      rw [if_neg (by simp)]
      go_enter Tryd.func46, Tryd.ntmps46
      go_wp2_with (first
        | (refine wpList_make_full _ rfl (.tmp 17) (.tmp 17) 28 rfl (w.heap.size + 1) 5 i0 (.int .u8 0) 1 Tryd.underlying28 hi hz0 hz1 .i64 .i64 _ _ q rfl rfl rfl rfl (by rw [hz2]; omega) (by unfold maxLen; omega) (by simp) ?_; intro w1 hown hg; have BL1 := Lib.hid (below_none hg); have HBW := Lib.hid (s_chain (below_a1 _ _) BL1.out); have X0 := Lib.hid (HB0.out.below BL1.out); rw [new_zeros] at hown; simp only [World.size_alloc] at hown; have HO := Lib.hid (own_below hown (below_a1 w1 (.cells #[.int .i64 (N : Int), .slice (some ⟨w.heap.size + 1, 0, none⟩) q q] 41))); have Y0 := Lib.hid (X0.out.below (below_a1 w1 (.cells #[.int .i64 (N : Int), .slice (some ⟨w.heap.size + 1, 0, none⟩) q q] 41))); have YN := Lib.hid (SBx.new w1 (N : Int) (some ⟨w.heap.size + 1, 0, none⟩) q q); have HBX := Lib.hid (s_chain HBW.out (below_a1 w1 (.cells #[.int .i64 (N : Int), .slice (some ⟨w.heap.size + 1, 0, none⟩) q q] 41))); have hs1 : w.heap.size + 1 < w1.heap.size := (hown.lt _ rfl).2; obtain ⟨l0, c00, c01, f00, f01⟩ := Y0.out.parts; obtain ⟨l1, c10, c11, f10, f11⟩ := YN.out.parts; clear hown hg)
        | (go_at_call 71; refine (C1.out _).mono ?_; rintro e w9 ⟨rfl, rfl⟩))
      refine bodyPost_ret (v := .tuple #[.agg #[.int .i64 (N : Int), .slice (some ⟨w.heap.size + 1, 0, none⟩) q q], .bool true]) (by simp [results, Tryd.results46, go_sem, c00, c01]) rfl ?_
      have hfl := fill_len q 0
      refine ⟨some ⟨w.heap.size + 1, 0, none⟩, q, by rw [hfl], ?_, below_set2 HBX.out (Nat.le_refl _) _ _⟩
      rw [hfl]
      exact own_monoG (own_set2 HO.out (by omega) _ _) (by omega)
    | true =>
      rw [if_pos rfl]
      go_enter Tryd.func46, Tryd.ntmps46
      go_wp2_with (first
        | (refine wpList_make_full _ rfl (.tmp 17) (.tmp 17) 28 rfl (w.heap.size + 1) 5 i0 (.int .u8 0) 1 Tryd.underlying28 hi hz0 hz1 .i64 .i64 _ _ q rfl rfl rfl rfl (by rw [hz2]; omega) (by unfold maxLen; omega) (by simp) ?_; intro w1 hown hg; have BL1 := Lib.hid (below_none hg); have HBW := Lib.hid (s_chain (below_a1 _ _) BL1.out); have X0 := Lib.hid (HB0.out.below BL1.out); rw [new_zeros] at hown; simp only [World.size_alloc] at hown; have HO := Lib.hid (own_below hown (below_a1 w1 (.cells #[.int .i64 (N : Int), .slice (some ⟨w.heap.size + 1, 0, none⟩) q q] 41))); have Y0 := Lib.hid (X0.out.below (below_a1 w1 (.cells #[.int .i64 (N : Int), .slice (some ⟨w.heap.size + 1, 0, none⟩) q q] 41))); have YN := Lib.hid (SBx.new w1 (N : Int) (some ⟨w.heap.size + 1, 0, none⟩) q q); have HBX := Lib.hid (s_chain HBW.out (below_a1 w1 (.cells #[.int .i64 (N : Int), .slice (some ⟨w.heap.size + 1, 0, none⟩) q q] 41))); have hs1 : w.heap.size + 1 < w1.heap.size := (hown.lt _ rfl).2; obtain ⟨l0, c00, c01, f00, f01⟩ := Y0.out.parts; obtain ⟨l1, c10, c11, f10, f11⟩ := YN.out.parts; clear hown hg)
        | (go_at_call 71; refine (C1.out _).mono ?_; rintro e w9 ⟨rfl, rfl⟩))
      have hq9 : Hid (Below w.heap.size w (w1.alloc (.cells #[.int .i64 (N : Int), .slice (some ⟨w.heap.size + 1, 0, none⟩) q q] 41))) := HBX
      clear l0 c00 c01 f00 f01 l1 c10 c11 f10 f11
      go_loopw [22] (fun i wr => ∃ k : Nat, k ≤ N ∧ i = .int .i64 (k : Int) ∧ Hid (wr.ownsRow (w.heap.size + 1) 5 1 (.slice (some ⟨w.heap.size + 1, 0, none⟩) q q) q (vb (fillV q k))) ∧ Hid (SBx wr w.heap.size 0 none 0 0) ∧ Hid (SBx wr w1.heap.size (N : Int) (some ⟨w.heap.size + 1, 0, none⟩) q q) ∧ Hid (Below w.heap.size w wr)) (fun i _ => N - (intOf i).toNat)
      case atStart => exact ⟨0, Nat.zero_le _, rfl, HO, Y0, YN, HBX⟩
      case round =>
        clear HO Y0 YN HBX hq9
        obtain ⟨k, hk, rfl, hown, hb0, hb1, hbel⟩ := hrel
        obtain ⟨l0, c00, c01, f00, f01⟩ := hb0.out.parts
        obtain ⟨l1, c10, c11, f10, f11⟩ := hb1.out.parts
        by_cases hlt : k < N
        · have CM := Lib.hid (mark_anyS (N : Int) (some ⟨w.heap.size + 1, 0, none⟩) q q (w.heap.size + 1) k (fillV q k) wr (HW.out.below hbel.out) hown.out (fill_small q k) (HBN.out k hlt) (by omega))
          rw [← fill_step] at CM
          go_wp2_with fail
          refine CM.out.mono ?_
          rintro e w2 ⟨rfl, ho2, hg2⟩
          have HO2 := Lib.hid ho2
          have Z0 := Lib.hid (hb0.out.grown hg2 (by show some (w.heap.size + 1) ≠ some _; intro e; injection e with e; omega))
          have Z1 := Lib.hid (hb1.out.grown hg2 (by show some (w.heap.size + 1) ≠ some _; intro e; injection e with e; omega))
          have ZB := Lib.hid (hbel.out.grown hg2 hbel.out.size (fun k hk => by have hk2 : some (w.heap.size + 1) = some k := hk; injection hk2 with hk2; omega))
          clear ho2 hg2 l0 c00 c01 f00 f01 l1 c10 c11 f10 f11
          go_wp2
          go_roundw
          case rel => exact ⟨k + 1, by omega, by go_num, HO2, Z0, Z1, ZB⟩
          case measure => simp [intOf]; omega
        · obtain rfl : k = N := by omega
          have hfl := Lib.hid (fill_len q k)
          go_wp2
          refine bodyPost_ret (v := .tuple #[.agg #[.int .i64 (k : Int), .slice (some ⟨w.heap.size + 1, 0, none⟩) q q], .bool true]) (by simp [results, Tryd.results46, go_sem, c00, c01]) rfl ?_
          refine ⟨some ⟨w.heap.size + 1, 0, none⟩, q, by rw [hfl.out], ?_, below_set2 hbel.out (Nat.le_refl _) _ _⟩
          rw [hfl.out]
          exact own_monoG (own_set2 hown.out (by omega) _ _) (by omega)
  · have he : newB N = false := by unfold newB; simp; omega
    rw [he, if_neg (by simp), if_neg (by simp)]
    obtain ⟨l0, c00, c01, f00, f01⟩ := HB0.out.parts
    have hg : N < 0 ∨ (0 ≤ N ∧ 150 < N) := by omega
    clear hb he
    rcases hg with hg | ⟨hg1, hg2⟩
    · have d1 : decide (N < 0) = true := by simp; omega
      go_enter Tryd.func46, Tryd.ntmps46
      go_wp2
      refine bodyPost_ret (v := .tuple #[.agg #[.int .i64 0, .slice none 0 0], .bool false]) (by simp [results, Tryd.results46, go_sem]) rfl ?_
      exact ⟨none, 0, rfl, own_nil _ _, below_a1 _ _⟩
    · have d1 : decide (N < 0) = false := by simp; omega
      have d2 : decide (150 < N) = true := by simp; omega
      go_enter Tryd.func46, Tryd.ntmps46
      go_wp2
      refine bodyPost_ret (v := .tuple #[.agg #[.int .i64 0, .slice none 0 0], .bool false]) (by simp [results, Tryd.results46, go_sem]) rfl ?_
      exact ⟨none, 0, rfl, own_nil _ _, below_a1 _ _⟩
end Go.Proofs.YtlhcobkncceodaaDoor
namespace Go.Proofs.YtlhcobkncceodaaDoor
open Go.RowKit

end Go.Proofs.YtlhcobkncceodaaDoor
namespace Go.Proofs.YtlhcobkncceodaaDoor
open Go.RowKit

theorem endF (e : GE) (w : World) : Calls Tryd.prog 70 #[.agg #[.int .i64 e.f, .int .i64 e.t, .int .i64 e.w]] w (GNum w e.f) := by
  go_enter Tryd.func70, Tryd.ntmps70
  go_wp2
  go_ret
  exact ⟨rfl, below_a1 _ _⟩
set_option maxRecDepth 10000 in
set_option maxHeartbeats 4000000 in
theorem degsOut (N : Int) (A : Option Addr) (n c : Nat) (es : List GE) (w : World) (hr : SlG w A n es) (hn : n ≤ 1048576) :
    Calls Tryd.prog 69 #[.agg #[.int .i64 N, .slice A n c], .func (.func 70) #[] #[]] w (MadeI w (degsOf GE.f N es)) := by
  obtain ⟨i0, hi, hz0, hz1, hz2⟩ := info_parts Tryd.infoInt
  have HEL := Lib.hid hr.len
  have HR := Lib.hid hr
  have CG := Lib.hid (fun W (h : Below w.heap.size w W) => implGraphOk N A n c es W (hr.below h) hn)
  have CE := Lib.hid (fun e W => endF e W)
  clear hr
  go_enter Tryd.func69, Tryd.ntmps69
  go_wp2_with fail
  refine (CG.out _ (below_a1 _ _)).mono ?_
  rintro e w1 ⟨rfl, hb1⟩
  have X1 := Lib.hid ((NBox.new w N A n c 38).below hb1)
  have HB1 := Lib.hid (g_chain (below_a1 w (.cells #[.int .i64 N, .slice A n c] 38)) hb1)
  clear hb1
  obtain ⟨l0, x0, x1⟩ := X1.out
  cases hv : graphB N es with
  | false =>
    have HD : Hid (degsOf GE.f N es = []) := Lib.hid (by unfold degsOf; rw [hv]; rfl)
    go_wp2
    go_ret
    rw [HD.out]
    exact ⟨none, 0, 0, rfl, World.ownsRow_nil _ _ _ _, HB1.out⟩
  | true =>
    have HD : Hid (degsOf GE.f N es = degs GE.f N.toNat es) := Lib.hid (by unfold degsOf; rw [hv]; rfl)
    obtain ⟨h1, h2, h3, h4⟩ := graphB_iff hv
    have H4 := Lib.hid h4
    rw [HEL.out] at h3
    clear hv h4
    obtain ⟨M, rfl⟩ : ∃ M : Nat, N = (M : Int) := ⟨N.toNat, by omega⟩
    rw [Int.toNat_natCast] at HD
    go_wp2_with (refine wpList_make_full _ rfl (.tmp 12) (.tmp 12) 27 rfl w1.heap.size 3 i0 (.int .i64 0) 1 Tryd.underlying27 hi hz0 hz1 .i64 .i64 _ _ M rfl rfl rfl rfl (by rw [hz2]; omega) (by unfold maxLen; omega) (Nat.le_refl _) ?_; intro w2 hown hg; have hb2 : Below w1.heap.size w1 w2 := (Below.refl _ _).grown hg (Nat.le_refl _) (by simp); have X2 := Lib.hid (X1.out.below hb2); have HB2 := Lib.hid (g_chain HB1.out hb2); rw [made_zero M GE.f es] at hown; have HO2 := Lib.hid hown; clear hown hg hb2 l0 x0 x1; obtain ⟨l0, x0, x1⟩ := X2.out)
    have hg1 : w.heap.size < w1.heap.size := X1.out.lt
    go_loopw [17] (fun i wr => ∃ k : Nat, k ≤ n ∧ i = .int .i64 k ∧ Hid (NBox wr w.heap.size M A n c) ∧ Hid (Below w.heap.size w wr) ∧ Hid (wr.ownsRow w1.heap.size 3 1 (.slice (some ⟨w1.heap.size, 0, none⟩) M M) M (vi (degs GE.f M (es.take k))))) (fun i _ => n - (intOf i).toNat)
    case atStart => exact ⟨0, Nat.zero_le _, rfl, X2, HB2, HO2⟩
    case round =>
      clear X2 HB2 HO2 l0 x0 x1
      obtain ⟨k, hk, rfl, hx, hbel, hown⟩ := hrel
      by_cases hlt : k < n
      · obtain ⟨b, off, e, rfl, hbw, he, c0, c1, c2⟩ := HR.out.at_ hlt
        have c0 := (hbel.out.cell (p := ⟨b, off + k * 3, none⟩) hbw).trans c0
        have c1 := (hbel.out.cell (p := ⟨b, off + k * 3 + 1, none⟩) hbw).trans c1
        have c2 := (hbel.out.cell (p := ⟨b, off + k * 3 + 2, none⟩) hbw).trans c2
        have hh := edgeB_iff (H4.out e (List.mem_of_getElem? he.out))
        obtain ⟨f, hf⟩ : ∃ f : Nat, e.f = (f : Int) := ⟨Int.toNat e.f, by omega⟩
        have hfM : f < M := by omega
        obtain ⟨x, hx1, hx2, hx3⟩ := degs_at (key := GE.f) (es := es.take k) hfM
        have hx4 : x ≤ 400 := by have := List.length_take_le k es; rw [HEL.out] at *; omega
        have HST := Lib.hid (degs_step (key := GE.f) (M := M) he.out (f := f) hf hx1)
        have HX1 := Lib.hid hx1
        have HA1 := Lib.hid (below_a1 wr (.cells #[.int .i64 e.f, .int .i64 e.t, .int .i64 e.w] 76))
        have HF := Lib.hid hf
        obtain ⟨l0, x0, x1⟩ := hx.out
        clear hx1 hx3 hf hh
        go_wp2_with (go_at_call 70; refine (CE.out e _).mono ?_; rintro e1 w3 ⟨rfl, hb3⟩; rw [HF.out]; have HB3 := Lib.hid (g_chain HA1.out hb3); have HOW := Lib.hid (own_below hown.out HB3.out); have hc0 : w3.cell? ⟨w1.heap.size, f, none⟩ = some (.int .i64 x) := (HOW.out.cellAt f (by omega)).trans (by rw [vi_get, HX1.out]; first | done | rfl); have hf0 := HOW.out.frozenAt f; have HS := Lib.hid (HOW.out.stored f (.int .i64 (x + 1))); rw [← HST.out] at HS; clear l0 x0 x1 c0 c1 c2)
        go_roundw
        case rel =>
          refine ⟨k + 1, by omega, by go_num, Lib.hid ?_, Lib.hid ?_, Lib.hid ?_⟩
          · exact (hx.out.below HB3.out).keep (by simp) (Below.heap_setCell w3 ⟨w1.heap.size, f, none⟩ (.int .i64 (x + 1)) w.heap.size (by show w.heap.size ≠ w1.heap.size; omega))
          · exact (g_chain hbel.out HB3.out).setCell (p := ⟨w1.heap.size, f, none⟩) (by show w.heap.size ≤ w1.heap.size; omega) _
          · exact HS.out.1
        case measure => simp [intOf]; omega
      · obtain rfl : k = n := by omega
        obtain ⟨l0, x0, x1⟩ := hx.out
        go_wp2
        go_ret
        rw [HD.out]
        have h := hown.out
        rw [List.take_of_length_le (by rw [HEL.out]; exact Nat.le_refl _)] at h
        exact ⟨_, _, _, rfl, own_monoG h (by omega), hbel.out⟩
theorem implOut (N : Int) (A : Option Addr) (n c : Nat) (es : List GE) (w : World) (hr : SlG w A n es) (hn : n ≤ 1048576) :
    Calls Tryd.prog 44 #[.agg #[.int .i64 N, .slice A n c]] w (MadeI w (degsOf GE.f N es)) := by
  have C := Lib.hid (fun W (h : Below w.heap.size w W) => degsOut N A n c es W (hr.below h) hn)
  clear hr
  go_enter Tryd.func44, Tryd.ntmps44
  go_wp2_with fail
  refine (C.out _ (below_a1 _ _)).mono ?_
  rintro e w1 ⟨A1, n1, c1, rfl, ho1, hb1⟩
  have HO := Lib.hid ho1
  have HB := Lib.hid hb1
  clear ho1 hb1
  go_wp2
  go_ret
  exact ⟨A1, n1, c1, rfl, own_monoG HO.out (by simp), g_chain (below_a1 _ _) HB.out⟩

end Go.Proofs.YtlhcobkncceodaaDoor
namespace Go.Proofs.YtlhcobkncceodaaDoor
open Go.RowKit

theorem edgeB_parts {n : Int} {e : GE} (h : edgeB n e = false) : e.f < 0 ∨ (0 ≤ e.f ∧ n ≤ e.f) ∨ (0 ≤ e.f ∧ e.f < n ∧ e.t < 0) ∨ (0 ≤ e.f ∧ e.f < n ∧ 0 ≤ e.t ∧ n ≤ e.t) ∨ (0 ≤ e.f ∧ e.f < n ∧ 0 ≤ e.t ∧ e.t < n ∧ e.w < 0) ∨ (0 ≤ e.f ∧ e.f < n ∧ 0 ≤ e.t ∧ e.t < n ∧ 0 ≤ e.w ∧ 1000 < e.w) := by
  have h := of_decide_eq_false h
  omega

set_option maxRecDepth 10000 in
set_option maxHeartbeats 4000000 in
theorem specGraphOk (N : Int) (A : Option Addr) (n c : Nat) (es : List GE) (w : World) (hr : SlG w A n es) (hn : n ≤ 1048576) :
    Calls Tryd.prog 22 #[.agg #[.int .i64 N, .slice A n c]] w (GTell w (graphB N es)) := by
  have HEL := Lib.hid hr.len
  have HR := Lib.hid hr
  clear hr
  go_enter Tryd.func22, Tryd.ntmps22
  go_wp2
  have X0 := Lib.hid (NBox.new w N A n c 38)
  have HB0 := Lib.hid (below_a1 w (.cells #[.int .i64 N, .slice A n c] 38))
  go_loopw [8] (fun i wr => ∃ k : Nat, k ≤ n ∧ i = .int .i64 k ∧ Hid (NBox wr w.heap.size N A n c) ∧ Hid (Below w.heap.size w wr) ∧ Hid (∀ x ∈ es.take k, edgeB N x = true)) (fun i _ => n - (intOf i).toNat)
  case atStart => exact ⟨0, Nat.zero_le _, rfl, X0, HB0, Lib.hid (by simp)⟩
  case round =>
    clear X0 HB0
    obtain ⟨k, hk, rfl, hx, hbel, hall⟩ := hrel
    obtain ⟨l0, x0, x1⟩ := hx.out
    by_cases hlt : k < n
    · obtain ⟨b, off, e, rfl, hbw, he, c0, c1, c2⟩ := HR.out.at_ hlt
      have c0 := (hbel.out.cell (p := ⟨b, off + k * 3, none⟩) hbw).trans c0
      have c1 := (hbel.out.cell (p := ⟨b, off + k * 3 + 1, none⟩) hbw).trans c1
      have c2 := (hbel.out.cell (p := ⟨b, off + k * 3 + 2, none⟩) hbw).trans c2
      have HB1 := Lib.hid (below_a1 wr (.cells #[.int .i64 e.f, .int .i64 e.t, .int .i64 e.w] 76))
      cases hv : edgeB N e with
      | true =>
        obtain ⟨h1, h2, h3, h4, h5, h6⟩ := edgeB_iff hv
        go_wp2
        go_roundw
        case rel => exact ⟨k + 1, by omega, by go_num, Lib.hid (hx.out.below HB1.out), Lib.hid (g_chain hbel.out HB1.out), Lib.hid (all_step he.out hall.out hv)⟩
        case measure => simp [intOf]; omega
      | false =>
        have HV := Lib.hid (graphB_no he.out hv)
        have hp := edgeB_parts hv
        clear hv
        rcases hp with h1 | ⟨h1, h2⟩ | ⟨h1, h2, h3⟩ | ⟨h1, h2, h3, h4⟩ | ⟨h1, h2, h3, h4, h5⟩ | ⟨h1, h2, h3, h4, h5, h6⟩
        all_goals
          go_wp2
          go_ret
          rw [HV.out]
          exact ⟨g_bool (by first | rfl | (simp <;> omega)), g_chain hbel.out HB1.out⟩
    · obtain rfl : k = n := by omega
      have HG : Hid (graphB N es = decide (0 ≤ N ∧ N ≤ 150 ∧ k ≤ 400)) := Lib.hid (by
        have h1 : es.all (edgeB N) = true := List.all_eq_true.2 (fun x hx => hall.out x (by rw [List.take_of_length_le (by rw [HEL.out]; exact Nat.le_refl _)]; exact hx))
        unfold graphB
        rw [h1, Bool.and_true, HEL.out])
      by_cases h1 : 0 ≤ N
      · by_cases h2 : N ≤ 150
        · by_cases h3 : k ≤ 400
          · have HV : Hid (graphB N es = true) := Lib.hid (by rw [HG.out]; simp [h1, h2, h3])
            go_wp2
            go_ret
            rw [HV.out]
            exact ⟨g_bool (by first | rfl | (simp <;> omega)), hbel.out⟩
          · have HV : Hid (graphB N es = false) := Lib.hid (by rw [HG.out]; simp [h3])
            go_wp2
            go_ret
            rw [HV.out]
            exact ⟨g_bool (by first | rfl | (simp <;> omega)), hbel.out⟩
        · have HV : Hid (graphB N es = false) := Lib.hid (by rw [HG.out]; simp [h2])
          go_wp2
          go_ret
          rw [HV.out]
          exact ⟨g_bool (by first | rfl | (simp <;> omega)), hbel.out⟩
      · have HV : Hid (graphB N es = false) := Lib.hid (by rw [HG.out]; simp [h1])
        go_wp2
        go_ret
        rw [HV.out]
        exact ⟨g_bool (by first | rfl | (simp <;> omega)), hbel.out⟩
end Go.Proofs.YtlhcobkncceodaaDoor
namespace Go.Proofs.YtlhcobkncceodaaDoor
open Go.RowKit

theorem specJobOk (n p s : Int) (w : World) :
    Calls Tryd.prog 23 #[.int .i64 n, .agg #[.int .i64 p, .int .i64 s]] w (fun e w' => e = .returned (.bool (jobB n p s)) ∧ Below w.heap.size w w') := by
  rcases prog_cases p with h | rfl | rfl | rfl | rfl
  · have hj : jobB n p s = false := by unfold jobB; rw [progB_no h]; rfl
    rw [hj]
    clear hj
    by_cases h1 : p < 1
    · clear h
      go_enter Tryd.func23, Tryd.ntmps23
      go_wp2
      go_ret
      exact ⟨rfl, below_a1 _ _⟩
    · have h2 : 4 < p := by omega
      clear h
      go_enter Tryd.func23, Tryd.ntmps23
      go_wp2
      go_ret
      exact ⟨rfl, below_a1 _ _⟩
  · have hj : jobB n 1 s = decide (s = 0) := by unfold jobB progB; simp
    rw [hj]
    clear hj
    go_enter Tryd.func23, Tryd.ntmps23
    go_wp2
    go_ret
    exact ⟨rfl, below_a1 _ _⟩
  · have hj : jobB n 2 s = decide (s = 0) := by unfold jobB progB; simp
    rw [hj]
    clear hj
    go_enter Tryd.func23, Tryd.ntmps23
    go_wp2
    go_ret
    exact ⟨rfl, below_a1 _ _⟩
  · have hj : jobB n 3 s = (decide (0 ≤ s) && decide (s < n)) := by unfold jobB progB; simp
    rw [hj]
    clear hj
    by_cases h1 : 0 ≤ s
    · have e1 : (decide (0 ≤ s) && decide (s < n)) = decide (s < n) := by simp [h1]
      rw [e1]
      go_enter Tryd.func23, Tryd.ntmps23
      go_wp2
      go_ret
      exact ⟨rfl, below_a1 _ _⟩
    · have e1 : (decide (0 ≤ s) && decide (s < n)) = false := by simp [h1]
      rw [e1]
      go_enter Tryd.func23, Tryd.ntmps23
      go_wp2
      go_ret
      exact ⟨rfl, below_a1 _ _⟩
  · have hj : jobB n 4 s = decide (s = 0) := by unfold jobB progB; simp
    rw [hj]
    clear hj
    go_enter Tryd.func23, Tryd.ntmps23
    go_wp2
    go_ret
    exact ⟨rfl, below_a1 _ _⟩
set_option maxHeartbeats 1000000 in
theorem specFirstVal (p s v : Int) (w : World) :
    Calls Tryd.prog 40 #[.agg #[.int .i64 p, .int .i64 s], .int .i64 v] w (fun e w' => e = .returned (.int .i64 (firstV p s v)) ∧ Below w.heap.size w w') := by
  have CV := Lib.hid (fun W => specVertex v W)
  cases hv : vtxB v with
  | false =>
    have hj : firstV p s v = 0 := by unfold firstV; rw [hv]; simp
    rw [hj]
    rw [hv] at CV
    clear hj hv
    go_enter Tryd.func40, Tryd.ntmps40
    go_wp2_with fail
    refine (CV.out _).mono ?_
    rintro e w2 ⟨rfl, rfl⟩
    go_wp2
    go_ret
    exact ⟨rfl, below_a1 _ _⟩
  | true =>
    rw [hv] at CV
    rcases prog_cases p with h | rfl | rfl | rfl | rfl
    · have hj : firstV p s v = 0 := by unfold firstV; rw [progB_no h]; rfl
      rw [hj]
      have h1 : (p == 1) = false := by simp; omega
      have h2 : (p == 2) = false := by simp; omega
      have h3 : (p == 3) = false := by simp; omega
      have h4 : (p == 4) = false := by simp; omega
      clear hj hv h
      go_enter Tryd.func40, Tryd.ntmps40
      go_wp2_with fail
      refine (CV.out _).mono ?_
      rintro e w2 ⟨rfl, rfl⟩
      go_wp2
      go_ret
      exact ⟨rfl, below_a1 _ _⟩
    · have hj : firstV 1 s v = 1048576 := by unfold firstV progB; rw [hv]; simp
      rw [hj]
      clear hj hv
      go_enter Tryd.func40, Tryd.ntmps40
      go_wp2_with fail
      refine (CV.out _).mono ?_
      rintro e w2 ⟨rfl, rfl⟩
      go_wp2
      go_ret
      exact ⟨rfl, below_a1 _ _⟩
    · have hj : firstV 2 s v = v := by unfold firstV progB; rw [hv]; simp
      rw [hj]
      clear hj hv
      go_enter Tryd.func40, Tryd.ntmps40
      go_wp2_with fail
      refine (CV.out _).mono ?_
      rintro e w2 ⟨rfl, rfl⟩
      go_wp2
      go_ret
      exact ⟨rfl, below_a1 _ _⟩
    · by_cases hs : v = s
      · have hj : firstV 3 s v = 0 := by unfold firstV progB; rw [hv]; simp [hs]
        rw [hj]
        subst hs
        clear hj hv
        go_enter Tryd.func40, Tryd.ntmps40
        go_wp2_with fail
        refine (CV.out _).mono ?_
        rintro e w2 ⟨rfl, rfl⟩
        go_wp2
        go_ret
        exact ⟨rfl, below_a1 _ _⟩
      · have hj : firstV 3 s v = 1099511627776 := by unfold firstV progB; rw [hv]; simp [hs]
        rw [hj]
        have h2 : (v == s) = false := by simp [hs]
        clear hj hv
        go_enter Tryd.func40, Tryd.ntmps40
        go_wp2_with fail
        refine (CV.out _).mono ?_
        rintro e w2 ⟨rfl, rfl⟩
        go_wp2
        go_ret
        exact ⟨rfl, below_a1 _ _⟩
    · have hj : firstV 4 s v = v := by unfold firstV progB; rw [hv]; simp
      rw [hj]
      clear hj hv
      go_enter Tryd.func40, Tryd.ntmps40
      go_wp2_with fail
      refine (CV.out _).mono ?_
      rintro e w2 ⟨rfl, rfl⟩
      go_wp2
      go_ret
      exact ⟨rfl, below_a1 _ _⟩
set_option maxHeartbeats 1000000 in
theorem specFirstEdge (p s f t d : Int) (w : World) :
    Calls Tryd.prog 42 #[.agg #[.int .i64 p, .int .i64 s], .int .i64 f, .int .i64 t, .int .i64 d] w (fun e w' => e = .returned (.int .i64 (firstE p f t d)) ∧ Below w.heap.size w w') := by
  have CF := Lib.hid (fun W => specVertex f W)
  have CT := Lib.hid (fun W => specVertex t W)
  by_cases hf1 : vtxB f = false
  · have hj : firstE p f t d = 0 := by unfold firstE firstEB; rw [hf1]; simp
    rw [hj]
    rw [hf1] at CF
    clear hj hf1
    go_enter Tryd.func42, Tryd.ntmps42
    go_wp2_with fail
    refine (CF.out _).mono ?_
    rintro e w2 ⟨rfl, rfl⟩
    go_wp2
    go_ret
    exact ⟨rfl, below_a1 _ _⟩
  by_cases ht1 : vtxB t = false
  · have hj : firstE p f t d = 0 := by unfold firstE firstEB; rw [ht1]; simp
    rw [hj]
    rw [tt_of hf1] at CF
    rw [ht1] at CT
    clear hj hf1 ht1
    go_enter Tryd.func42, Tryd.ntmps42
    go_wp2_with fail
    refine (CF.out _).mono ?_
    rintro e w2 ⟨rfl, rfl⟩
    go_wp2_with fail
    refine (CT.out _).mono ?_
    rintro e w3 ⟨rfl, rfl⟩
    go_wp2
    go_ret
    exact ⟨rfl, below_a1 _ _⟩
  rw [tt_of hf1] at CF
  rw [tt_of ht1] at CT
  have hf2 := tt_of hf1
  have ht2 := tt_of ht1
  clear hf1 ht1
  by_cases hd1 : d < 1
  · have hj : firstE p f t d = 0 := by unfold firstE firstEB; rw [if_neg (by simp; omega)]
    rw [hj]
    clear hj hf2 ht2
    go_enter Tryd.func42, Tryd.ntmps42
    go_wp2_with fail
    refine (CF.out _).mono ?_
    rintro e w2 ⟨rfl, rfl⟩
    go_wp2_with fail
    refine (CT.out _).mono ?_
    rintro e w3 ⟨rfl, rfl⟩
    go_wp2
    go_ret
    exact ⟨rfl, below_a1 _ _⟩
  by_cases hd2 : 400 < d
  · have hj : firstE p f t d = 0 := by unfold firstE firstEB; rw [if_neg (by simp; omega)]
    rw [hj]
    clear hj hf2 ht2
    go_enter Tryd.func42, Tryd.ntmps42
    go_wp2_with fail
    refine (CF.out _).mono ?_
    rintro e w2 ⟨rfl, rfl⟩
    go_wp2_with fail
    refine (CT.out _).mono ?_
    rintro e w3 ⟨rfl, rfl⟩
    go_wp2
    go_ret
    exact ⟨rfl, below_a1 _ _⟩
  have HF := vtx_is hf2
  have HT := vtx_is ht2
  have hdd : decide (1 ≤ d ∧ d ≤ 400) = true := by simp; omega
  rcases prog_cases p with h | rfl | rfl | rfl | rfl
  · have hj : firstE p f t d = 0 := by unfold firstE firstEB; rw [progB_no h]; rfl
    rw [hj]
    have h1 : (p == 1) = false := by simp; omega
    have h2 : (p == 2) = false := by simp; omega
    have h3 : (p == 3) = false := by simp; omega
    have h4 : (p == 4) = false := by simp; omega
    clear hj hf2 ht2 h HF HT hdd
    go_enter Tryd.func42, Tryd.ntmps42
    go_wp2_with fail
    refine (CF.out _).mono ?_
    rintro e w2 ⟨rfl, rfl⟩
    go_wp2_with fail
    refine (CT.out _).mono ?_
    rintro e w3 ⟨rfl, rfl⟩
    go_wp2
    go_ret
    exact ⟨rfl, below_a1 _ _⟩
  · have hj : firstE 1 f t d = Int.tdiv 1048576 d := by unfold firstE firstEB progB; rw [hf2, ht2, hdd]; simp
    rw [hj]
    have h0 : d ≠ 0 := by omega
    have h1 : (d == 0) = false := by simp [h0]
    have h2 : IntKind.i64.wrap (Int.tdiv 1048576 d) = Int.tdiv 1048576 d := IntWalk.i64_in _ (by rw [Int.tdiv_eq_ediv_of_nonneg (by omega)]; have := Int.ediv_nonneg (a := 1048576) (b := d) (by omega) (by omega); have := Int.ediv_le_self (a := 1048576) d (by omega); omega)
    clear hj hf2 ht2 HF HT hdd
    go_enter Tryd.func42, Tryd.ntmps42
    go_wp2_with fail
    refine (CF.out _).mono ?_
    rintro e w2 ⟨rfl, rfl⟩
    go_wp2_with fail
    refine (CT.out _).mono ?_
    rintro e w3 ⟨rfl, rfl⟩
    go_wp2
    go_ret
    exact ⟨rfl, below_a1 _ _⟩
  · have hj : firstE 2 f t d = 1099511627776 := by unfold firstE firstEB progB; rw [hf2, ht2, hdd]; simp
    rw [hj]
    clear hj hf2 ht2 HF HT hdd
    go_enter Tryd.func42, Tryd.ntmps42
    go_wp2_with fail
    refine (CF.out _).mono ?_
    rintro e w2 ⟨rfl, rfl⟩
    go_wp2_with fail
    refine (CT.out _).mono ?_
    rintro e w3 ⟨rfl, rfl⟩
    go_wp2
    go_ret
    exact ⟨rfl, below_a1 _ _⟩
  · have hj : firstE 3 f t d = 1099511627776 := by unfold firstE firstEB progB; rw [hf2, ht2, hdd]; simp
    rw [hj]
    clear hj hf2 ht2 HF HT hdd
    go_enter Tryd.func42, Tryd.ntmps42
    go_wp2_with fail
    refine (CF.out _).mono ?_
    rintro e w2 ⟨rfl, rfl⟩
    go_wp2_with fail
    refine (CT.out _).mono ?_
    rintro e w3 ⟨rfl, rfl⟩
    go_wp2
    go_ret
    exact ⟨rfl, below_a1 _ _⟩
  · have hj : firstE 4 f t d = f * 1000 + t := by unfold firstE firstEB progB; rw [hf2, ht2, hdd]; simp
    rw [hj]
    have h1 : IntKind.i64.wrap (f * 1000) = f * 1000 := IntWalk.i64_in _ (by omega)
    have h2 : IntKind.i64.wrap (f * 1000 + t) = f * 1000 + t := IntWalk.i64_in _ (by omega)
    clear hj hf2 ht2 HF HT hdd
    go_enter Tryd.func42, Tryd.ntmps42
    go_wp2_with fail
    refine (CF.out _).mono ?_
    rintro e w2 ⟨rfl, rfl⟩
    go_wp2_with fail
    refine (CT.out _).mono ?_
    rintro e w3 ⟨rfl, rfl⟩
    go_wp2
    go_ret
    exact ⟨rfl, below_a1 _ _⟩
end Go.Proofs.YtlhcobkncceodaaDoor
namespace Go.Proofs.YtlhcobkncceodaaDoor
open Go.RowKit
set_option linter.unusedVariables false

theorem s_div (v : Nat) : ((v : Int)).tdiv 8 = ((v / 8 : Nat) : Int) := by rw [Int.tdiv_eq_ediv_of_nonneg (by omega)]; omega
theorem s_mod (v : Nat) : ((v : Int)).tmod 8 = ((v % 8 : Nat) : Int) := by rw [Int.tmod_eq_emod_of_nonneg (by omega)]; omega
theorem s_bit {xs : List Nat} {v x : Nat} (h : xs[v / 8]? = some x) : bitN xs v = decide (x / 2 ^ (v % 8) % 2 = 1) := by
  unfold bitN
  rw [List.getD_eq_getElem?_getD, h, ← byteBit]
  rfl
set_option maxRecDepth 10000 in
set_option maxHeartbeats 4000000 in
theorem specBit (v : Nat) (w : World) (hv : v ≤ 1048576) :
    Calls Tryd.prog 53 #[.int .i64 (v : Int)] w fun e w' => e = .returned (.int .i64 ((2 ^ (v % 8) : Nat) : Int)) ∧ w = w' := by
  have hmv := s_mod v
  have hr8 : v % 8 < 8 := by omega
  generalize v % 8 = r at hmv hr8 ⊢
  obtain ⟨Q, hQ⟩ : ∃ Q, Hid (2 ^ r = Q) := ⟨_, Lib.hid rfl⟩
  rw [hQ.out]
  go_enter Tryd.func53, Tryd.ntmps53
  go_wp2
  go_loop [3, 4] (fun t i => ∃ k : Nat, k ≤ r ∧ i = .int .i64 k ∧ ∃ q : Nat, t = .int .i64 (q : Int) ∧ Hid (2 ^ k = q)) (fun _ i => r - (intOf i).toNat)
  case atStart => exact ⟨0, Nat.zero_le _, rfl, 1, rfl, Lib.hid (Nat.pow_zero 2)⟩
  case round =>
    obtain ⟨k, hk, rfl, q, rfl, hq⟩ := hrel
    have hq256 : q < 256 := by rw [← hq.out]; exact (pow8 (by omega)).1
    by_cases hlt : k < r
    · go_wp2
      go_round
      case rel => exact ⟨k + 1, by omega, by go_num, q * 2, by go_num, Lib.hid (by rw [Nat.pow_succ, hq.out])⟩
      case measure => simp [intOf]; omega
    · obtain rfl : k = r := by omega
      go_wp2
      go_ret
      exact ⟨by rw [← hQ.out, hq.out]; rfl, rfl⟩

theorem sokB_1 {N : Int} {xs : List Nat} (h : N < 0 ∨ 150 < N) : setB N xs = false := by
  rw [Bool.eq_false_iff]
  intro e
  have := setB_dim e
  omega
theorem sokB_3 {N : Int} {xs : List Nat} (h : xs.length ≠ bytesN N.toNat) : setB N xs = false := by
  rw [Bool.eq_false_iff]
  intro e
  have := setB_dim e
  omega
/-- The byte's quotient and its parity. -/
theorem s_quo (x q : Nat) : ((x : Int)).tdiv (q : Int) = ((x / q : Nat) : Int) := by rw [Int.tdiv_eq_ediv_of_nonneg (by omega)]; simp
theorem s_two (x : Nat) : ((x : Int)).tmod 2 = ((x % 2 : Nat) : Int) := by rw [Int.tmod_eq_emod_of_nonneg (by omega)]; omega
set_option maxRecDepth 10000 in
set_option maxHeartbeats 8000000 in
theorem specSetOk (N : Int) (A : Option Addr) (n c : Nat) (xs : List Nat) (w : World) (hr : Rd w A n xs) (hn : n ≤ 2097152) :
    Calls Tryd.prog 25 #[.agg #[.int .i64 N, .slice A n c]] w (GTell w (setB N xs)) := by
  have HL := Lib.hid hr.len
  have HR := Lib.hid hr
  clear hr
  by_cases h1 : N < 0
  · have d1 : decide (N < 0) = true := by simp; omega
    rw [sokB_1 (.inl h1)]
    clear h1
    go_enter Tryd.func25, Tryd.ntmps25
    go_wp2
    go_ret
    exact ⟨rfl, below_a1 _ _⟩
  · by_cases h2 : 150 < N
    · have d1 : decide (N < 0) = false := by simp; omega
      have d2 : decide (150 < N) = true := by simp; omega
      rw [sokB_1 (.inr h2)]
      clear h1 h2
      go_enter Tryd.func25, Tryd.ntmps25
      go_wp2
      go_ret
      exact ⟨rfl, below_a1 _ _⟩
    · obtain ⟨N, rfl⟩ : ∃ k : Nat, N = (k : Int) := ⟨N.toNat, by omega⟩
      have d1 : decide ((N : Int) < 0) = false := by simp
      have d2 : decide (150 < (N : Int)) = false := by simp; omega
      have hN : N ≤ 150 := by omega
      have hb1 : ((N : Int) + 7).tdiv 8 = ((bytesN N : Nat) : Int) := by rw [Int.tdiv_eq_ediv_of_nonneg (by omega)]; unfold bytesN; omega
      have hb2 : bytesN N ≤ 20 := by unfold bytesN; omega
      by_cases h3 : n = bytesN N
      · have d3 : ((n : Int) == ((bytesN N : Nat) : Int)) = true := by simp; omega
        have d4 : ((n : Int) != ((bytesN N : Nat) : Int)) = false := by simp; omega
        have HN : Hid (n = bytesN N) := Lib.hid h3
        have hn8 : n ≤ 20 := by omega
        have hN8 : N ≤ 8 * n := by rw [h3]; unfold bytesN; omega
        clear h1 h2 h3
        generalize bytesN N = q at d3 d4 hb1 hb2
        go_enter Tryd.func25, Tryd.ntmps25
        go_wp2
        go_loopw [3] (fun i wr => ∃ k : Nat, N ≤ k ∧ k ≤ 8 * n ∧ i = .int .i64 k ∧ Hid (Below w.heap.size w wr) ∧ Hid (SBx wr w.heap.size (N : Int) A n c) ∧ Hid (∀ v, N ≤ v → v < k → bitN xs v = false)) (fun i _ => 8 * n - (intOf i).toNat)
        case atStart => exact ⟨N, Nat.le_refl _, hN8, rfl, Lib.hid (below_a1 _ _), Lib.hid (SBx.new w (N : Int) A n c), Lib.hid (fun v h1 h2 => absurd h2 (by omega))⟩
        case round =>
          obtain ⟨k, hNk, hk, rfl, hb, hbx, hall⟩ := hrel
          obtain ⟨l0, c00, c01, f00, f01⟩ := hbx.out.parts
          by_cases hlt : k < 8 * n
          · have hkd : k / 8 < n := by omega
            obtain ⟨b, off, x, rfl, hbw, hx, hxs, hc⟩ := HR.out.at_ hkd
            have hc := (hb.out.cell (p := ⟨b, off + k / 8, none⟩) hbw).trans hc
            have CB := Lib.hid (fun W => specBit k W (by omega))
            have hdv := s_div k
            have hbt := Lib.hid (s_bit hxs.out)
            obtain ⟨hq1, hq2⟩ := pow8 (k := k % 8) (by omega)
            generalize 2 ^ (k % 8) = p at CB hbt hq1 hq2
            generalize k / 8 = d at hdv hc hkd
            have hwd : IntKind.i64.wrap (d : Int) = (d : Int) := IntWalk.i64_in _ (by omega)
            have hpz : ((p : Int) == 0) = false := by simp; omega
            have hqu := s_quo x p
            have hxp : x / p ≤ x := Nat.div_le_self _ _
            generalize x / p = y at hqu hbt hxp
            have hwy : IntKind.i64.wrap (y : Int) = (y : Int) := IntWalk.i64_in _ (by omega)
            have htw := s_two y
            have hy2 : y % 2 < 2 := by omega
            have hby : Hid (bitN xs k = decide (y % 2 = 1)) := hbt
            generalize y % 2 = z at htw hby hy2
            have hwz : IntKind.i64.wrap (z : Int) = (z : Int) := IntWalk.i64_in _ (by omega)
            clear hbt hxs
            by_cases hz : z = 1
            · subst hz
              have hd1 : (((1 : Nat) : Int) == 1) = true := by simp
              have HNO : Hid (setB (N : Int) xs = false) := Lib.hid (by
                rw [Bool.eq_false_iff]
                intro e
                have h9 := (setB_iff.1 e).2 k (by rw [Int.toNat_natCast]; exact hNk)
                rw [hby.out] at h9
                simp at h9)
              clear hby
              go_wp2
              go_quiet (first | (go_at_call 53; exact Calls.quiet_of_same ((CB.out _).mono fun _ _ h => ⟨h.1, h.2.symm⟩)))
              go_wp2
              go_ret
              exact ⟨g_bool HNO.out.symm, s_chain hb.out (below_drewN (Below.refl _ _) _)⟩
            · have hd1 : ((z : Int) == 1) = false := by simp; omega
              have HBY : Hid (bitN xs k = false) := Lib.hid (by rw [hby.out]; simp [hz])
              clear hby
              go_wp2
              go_quiet (first | (go_at_call 53; exact Calls.quiet_of_same ((CB.out _).mono fun _ _ h => ⟨h.1, h.2.symm⟩)))
              go_wp2
              go_roundw
              case rel =>
                refine ⟨k + 1, by omega, by omega, by go_num, Lib.hid (s_chain hb.out (below_drewN (Below.refl _ _) _)), Lib.hid (hbx.out.below (below_drewN (Below.refl _ _) _)), Lib.hid (fun v h1 h2 => ?_)⟩
                rcases Nat.lt_or_ge v k with h9 | h9
                · exact hall.out v h1 h9
                · obtain rfl : v = k := by omega
                  exact HBY.out
              case measure => simp [intOf]; omega
          · obtain rfl : k = 8 * n := by omega
            have HYES : Hid (setB (N : Int) xs = true) := Lib.hid (setB_iff.2 ⟨⟨by omega, by omega, by rw [Int.toNat_natCast, HL.out]; exact HN.out⟩, fun v hv => by
              rw [Int.toNat_natCast] at hv
              rcases Nat.lt_or_ge v (8 * n) with h9 | h9
              · exact hall.out v hv h9
              · exact bitN_far (by rw [HL.out]; exact h9)⟩)
            go_wp2
            go_ret
            exact ⟨g_bool HYES.out.symm, hb.out⟩
      · have d3 : ((n : Int) == ((bytesN N : Nat) : Int)) = false := by simp; omega
        have d4 : ((n : Int) != ((bytesN N : Nat) : Int)) = true := by simp; omega
        have HE := Lib.hid (sokB_3 (N := (N : Int)) (xs := xs) (by rw [HL.out, Int.toNat_natCast]; exact h3))
        rw [HE.out]
        clear h1 h2 h3 HE
        generalize bytesN N = q at d3 d4 hb1 hb2
        go_enter Tryd.func25, Tryd.ntmps25
        go_wp2
        go_ret
        exact ⟨rfl, below_a1 _ _⟩
end Go.Proofs.YtlhcobkncceodaaDoor
namespace Go.Proofs.YtlhcobkncceodaaDoor
open Go.RowKit

end Go.Proofs.YtlhcobkncceodaaDoor
namespace Go.Proofs.YtlhcobkncceodaaDoor
open Go.RowKit

/-- What a writer leaves: a new slice of the bytes ys, and whether there was something to write. -/
def PutRes (w : World) (ok : Bool) (ys : List Nat) (e : Ending) (w' : World) : Prop :=
  ∃ A c, e = .returned (.tuple #[.slice A ys.length c, .bool ok]) ∧ w'.ownsRow w.heap.size 5 1 (.slice A ys.length c) ys.length (vb ys) ∧ Below w.heap.size w w'

theorem PutRes.no (w : World) : PutRes w false [] (.returned (.tuple #[.slice none 0 0, .bool false])) w :=
  ⟨none, 0, rfl, World.ownsRow_nil _ _ _ _, Below.refl _ _⟩

/-- The digits of a number, the lowest first; all but the last with 128 on top. -/
def digits : Nat → Nat → List Nat
  | 0, n => [n]
  | f + 1, n => if n < 128 then [n] else (n % 128 + 128) :: digits f (n / 128)

/-- The digits that are written when n is left, of a number below 128^(f+1). -/
theorem digits_small (f n : Nat) (h : n < 128) : digits f n = [n] := by cases f <;> simp [digits, h]

/-- '[]byte{}' owns nothing. -/
theorem built_none (w : World) : (w.alloc (.cells #[] 5)).ownsRow w.heap.size 5 1 (.slice (some ⟨w.heap.size, 0, none⟩) 0 0) 0 [] :=
  World.ownsRow_lit w #[] 0 (Nat.le_refl _) (by unfold maxLen; omega) rfl

theorem own_form {w : World} {base e n : Nat} {v : Value} {xs : List Value} (h : w.ownsRow base e 1 v n xs) : ∃ A c, v = .slice A n c := by
  rcases h.2 with ⟨rfl, rfl⟩ | ⟨g, cap, _, rfl, _⟩
  · exact ⟨_, _, rfl⟩
  · exact ⟨_, _, rfl⟩

/-- What is written so far (ys) and what is left (r) make the whole. -/
structure Left (whole ys : List Nat) (f r : Nat) : Prop where
  eq : ys ++ digits f r = whole
  lt : r < 128 ^ (f + 1)

theorem Left.done {whole ys : List Nat} {f r : Nat} (h : Left whole ys f r) (hr : r < 128) : ys ++ [r] = whole := by rw [← h.eq, digits_small _ _ hr]

end Go.Proofs.YtlhcobkncceodaaDoor
namespace Go.Proofs.YtlhcobkncceodaaDoor
open Go.RowKit
set_option linter.unusedVariables false

set_option maxRecDepth 10000 in
set_option maxHeartbeats 8000000 in
theorem specCopySet (N : Int) (A : Option Addr) (n c : Nat) (xs : List Nat) (w : World) (hr : Rd w A n xs) (hn : n ≤ 2097152) :
    Calls Tryd.prog 97 #[.agg #[.int .i64 N, .slice A n c]] w (MadeS w N xs) := by
  obtain ⟨i0, hi, hz0, hz1, hz2⟩ := info_parts Tryd.infoByte
  have HL := Lib.hid hr.len
  have HR := Lib.hid hr
  clear hr
  have HB0 := Lib.hid (((SBx.new w N A n c).below (below_a1 _ (.cells #[.int .i64 0, .slice none 0 0] 41))).below (below_a1 _ (.cells #[] 5)))
  have HB1 := Lib.hid ((SBx.new1 w (.cells #[.int .i64 N, .slice A n c] 41) 0 none 0 0).below (below_a1 _ (.cells #[] 5)))
  have HOW := Lib.hid (built_none ((w.alloc (.cells #[.int .i64 N, .slice A n c] 41)).alloc (.cells #[.int .i64 0, .slice none 0 0] 41)))
  have HB3 := Lib.hid (below_a3 w (.cells #[.int .i64 N, .slice A n c] 41) (.cells #[.int .i64 0, .slice none 0 0] 41) (.cells #[] 5))
  have HRS := Lib.hid ((HR.out.below HB3.out).reads)
  go_enter Tryd.func97, Tryd.ntmps97
  go_wp2_with (at_builtin; refine wpList_append_any _ rfl (.tmp 3) (.tmp 5) 28 rfl (w.heap.size + 1 + 1) 5 i0 _ 1 1 Tryd.underlying28 hi hz0 hz1 hz2 rfl (by omega) (.slice (some ⟨w.heap.size + 1 + 1, 0, none⟩) 0 0) 0 [] rfl (by have h := HOW.out; simp only [World.size_alloc] at h; exact h) _ A n c (vb xs) rfl HRS.out (vb_oneCell xs) (by simp only [maxLen]; omega) (by omega) (by simp) ?_)
  intro v3 w3 hown3 hg3 _
  have X0 := Lib.hid (HB0.out.grown hg3 (by show some (w.heap.size + 1 + 1) ≠ some _; intro e; injection e with e; omega))
  have X1 := Lib.hid (HB1.out.grown hg3 (by show some (w.heap.size + 1 + 1) ≠ some _; intro e; injection e with e; omega))
  have HBW := Lib.hid (HB3.out.grown hg3 HB3.out.size (fun k hk => by have hk2 : some (w.heap.size + 1 + 1) = some k := hk; injection hk2 with hk2; omega))
  obtain ⟨A3, c3, rfl⟩ := own_form hown3
  have HO := Lib.hid hown3
  clear hown3 hg3 HB0 HB1 HOW HB3 HRS
  obtain ⟨l0, c00, c01, f00, f01⟩ := X0.out.parts
  obtain ⟨l1, c10, c11, f10, f11⟩ := X1.out.parts
  have e := HL.out
  subst e
  go_wp2
  refine bodyPost_ret (v := .agg #[.int .i64 N, .slice A3 xs.length c3]) (by simp [results, Tryd.results97, go_sem, c10, c11]) rfl ?_
  refine ⟨A3, c3, rfl, ?_, below_set2 (HBW.out.setCell (Nat.le_refl _) _) (by omega) _ _⟩
  exact own_monoG (own_set2 (own_lowG HO.out (p := ⟨w.heap.size, 1, none⟩) (by show w.heap.size < _; omega) _) (by omega) _ _) (by omega)
end Go.Proofs.YtlhcobkncceodaaDoor
