/- Edges, graphs and numbers: the contracts of the laws' helpers that measure and copy. Condition: at most 2^21 of each. -/
import Derived.Test.YtpgnappddddlpaaGrB
namespace Go.Proofs.Ytpgnappddddlpaa
open Go.RowKit

theorem szEdges_any (A : Option Addr) (n c : Nat) (left : Int) (w : World) (hn : n ≤ maxLen) (h0 : 0 ≤ left) (h1 : left ≤ 1048576) :
    Calls Try.prog 70 #[.slice A n c, .int .i64 left] w fun e w' => e = .returned (.int .i64 (leftG left n)) ∧ w = w' := by
  unfold maxLen at hn
  by_cases h : (n : Int) ≤ left
  · have HV := Lib.hid (leftG_pos h)
    have h2 : 0 ≤ left - (n : Int) := by omega
    go_enter Try.func70, Try.ntmps70
    go_wp2
    go_ret
    exact ⟨g_int HV.out.symm, rfl⟩
  · have HV := Lib.hid (leftG_neg (n := n) (left := left) (by omega))
    have h2 : left - (n : Int) < 0 := by omega
    go_enter Try.func70, Try.ntmps70
    go_wp2
    go_ret
    exact ⟨g_int HV.out.symm, rfl⟩
theorem szGraph_any (N : Int) (A : Option Addr) (n c : Nat) (left : Int) (w : World) (hn : n ≤ maxLen) (h0 : 0 ≤ left) (h1 : left ≤ 1048576) :
    Calls Try.prog 26 #[.agg #[.int .i64 N, .slice A n c], .int .i64 left] w (GNum w (leftG left n)) := by
  have C := Lib.hid (fun w => szEdges_any A n c left w hn h0 h1)
  by_cases h : (n : Int) ≤ left
  · have h2 : 0 ≤ left - (n : Int) := by omega
    have e1 := leftG_pos h
    rw [e1] at C ⊢
    generalize left - (n : Int) = q at C h2 ⊢
    clear e1 h
    go_enter Try.func26, Try.ntmps26
    go_wp2_with fail
    refine (C.out _).mono ?_
    rintro e w1 ⟨rfl, rfl⟩
    go_wp2
    go_ret
    exact ⟨rfl, below_a1 _ _⟩
  · have e1 := leftG_neg (n := n) (left := left) (by omega)
    rw [e1] at C ⊢
    clear e1 h
    go_enter Try.func26, Try.ntmps26
    go_wp2_with fail
    refine (C.out _).mono ?_
    rintro e w1 ⟨rfl, rfl⟩
    go_wp2
    go_ret
    exact ⟨rfl, below_a1 _ _⟩

theorem toEdge_any (e : GE) (w : World) :
    Calls Try.prog 120 #[.agg #[.int .i64 e.f, .int .i64 e.t, .int .i64 e.w]] w fun r w' => r = .returned (.agg #[.int .i64 e.f, .int .i64 e.t, .int .i64 e.w]) ∧ Below w.heap.size w w' := by
  go_enter Try.func120, Try.ntmps120
  go_wp2
  refine bodyPost_ret (v := .agg #[.int .i64 e.f, .int .i64 e.t, .int .i64 e.w]) (by simp [results, Try.results120, go_sem]) rfl ⟨rfl, ?_⟩
  repeat (first | exact below_a3 _ _ _ _ | refine Below.setCell ?_ (by simp <;> omega) _)

set_option maxRecDepth 10000 in
set_option maxHeartbeats 1000000 in
theorem toEdges_any (A : Option Addr) (n c : Nat) (es : List GE) (w : World) (hr : SlG w A n es) (hn : n ≤ 2097152) :
    Calls Try.prog 73 #[.slice A n c] w (MadeG w es) := by
  obtain ⟨i0, hi, hz0, hz1, hz2⟩ := info_parts Try.infoEdge
  have HR := Lib.hid hr
  clear hr
  go_enter Try.func73, Try.ntmps73
  go_wp2_with (refine wpList_make_full _ rfl (.tmp 6) (.tmp 6) 56 rfl w.heap.size 145 i0 (.agg #[.int .i64 0, .int .i64 0, .int .i64 0]) 3 Try.underlying56 hi hz0 hz1 .i64 .i64 _ _ n rfl rfl rfl rfl (by rw [hz2]; omega) (by unfold maxLen; omega) (Nat.le_refl _) ?_; intro w1 hown hg)
  have hb1 : Below w.heap.size w w1 := (Below.refl _ _).grown hg (Nat.le_refl _) (by simp)
  have hown1 : w1.ownsRow w.heap.size 145 3 (.slice (some ⟨w.heap.size, 0, none⟩) n n) n ((es.take 0 ++ List.replicate (n - 0) zeroG).flatMap GE.cells) := by
    have h := hown
    rw [g_rep GE.cells zeroG 3 GE.cells_len (by omega) (Value.agg #[.int .i64 0, .int .i64 0, .int .i64 0]).cells rfl n] at h
    simpa using h
  clear hown hg
  have HO1 := Lib.hid hown1
  have HB1 := Lib.hid hb1
  clear hown1 hb1
  go_loopw [4] (fun i wr => ∃ k : Nat, k ≤ n ∧ i = .int .i64 k ∧ Hid (wr.ownsRow w.heap.size 145 3 (.slice (some ⟨w.heap.size, 0, none⟩) n n) n ((es.take k ++ List.replicate (n - k) zeroG).flatMap GE.cells)) ∧ Hid (Below w.heap.size w wr)) (fun i _ => n - (intOf i).toNat)
  case atStart => exact ⟨0, Nat.zero_le _, rfl, HO1, HB1⟩
  case round =>
    clear HO1 HB1
    obtain ⟨k, hk, rfl, hown, hbel⟩ := hrel
    by_cases hlt : k < n
    · obtain ⟨b, off, e, rfl, hbw, he, c0, c1, c2⟩ := HR.out.at_ hlt
      have c0 := (hbel.out.cell (p := ⟨b, off + k * 3, none⟩) hbw).trans c0
      have c1 := (hbel.out.cell (p := ⟨b, off + k * 3 + 1, none⟩) hbw).trans c1
      have c2 := (hbel.out.cell (p := ⟨b, off + k * 3 + 2, none⟩) hbw).trans c2
      have HC := Lib.hid (toEdge_any e wr)
      have hmk : (es.take k).length = k := by rw [List.length_take, HR.out.len]; omega
      go_wp2_with fail
      refine HC.out.mono ?_
      rintro e1 w2 ⟨rfl, hb2⟩
      have HB2 := Lib.hid hb2
      have hown2 := own_below hown.out hb2
      rw [rep_succ n k hlt] at hown2
      have hq := fun i (hi : i < 3) => (hown2.cellAt (k * 3 + i) (by omega)).trans (flat_get GE.cells 3 GE.cells_len _ k i zeroG (g_get _ _ _ _ hmk) hi)
      have hc0 : w2.cell? ⟨w.heap.size, k * 3, none⟩ = some (.int .i64 0) := hq 0 (by omega)
      have hc1 : w2.cell? ⟨w.heap.size, k * 3 + 1, none⟩ = some (.int .i64 0) := hq 1 (by omega)
      have hc2 : w2.cell? ⟨w.heap.size, k * 3 + 2, none⟩ = some (.int .i64 0) := hq 2 (by omega)
      have hf0 := hown2.frozenAt (k * 3)
      have hf1 := hown2.frozenAt (k * 3 + 1)
      have hf2 := hown2.frozenAt (k * 3 + 2)
      have HL := Lib.hid (g_lay (e := e) hown2 hmk)
      clear hown2 hq hb2
      go_wp2
      go_roundw
      case rel =>
        refine ⟨k + 1, by omega, by go_num, Lib.hid ?_, Lib.hid (((((g_chain hbel.out HB2.out).setCell (Nat.le_refl _) _).setCell (Nat.le_refl _) _).setCell (Nat.le_refl _) _))⟩
        rw [g_take es k e he.out, List.append_assoc]
        exact HL.out.1
      case measure => simp [intOf]; omega
    · obtain rfl : k = n := by omega
      go_wp2
      go_ret
      have hfin := hown.out
      rw [Nat.sub_self, List.replicate_zero, List.append_nil, List.take_of_length_le (by rw [HR.out.len]; exact Nat.le_refl _), ← HR.out.len] at hfin
      refine ⟨some ⟨w.heap.size, 0, none⟩, es.length, ?_, hfin, hbel.out⟩
      rw [HR.out.len]
      rfl
set_option maxHeartbeats 400000 in
theorem toGraph_any (N : Int) (A : Option Addr) (n c : Nat) (es : List GE) (w : World) (hr : SlG w A n es) (hn : n ≤ 2097152) :
    Calls Try.prog 28 #[.agg #[.int .i64 N, .slice A n c]] w (MadeGr w N es) := by
  have C := Lib.hid (fun w' (hb : Below w.heap.size w w') => toEdges_any A n c es w' (hr.below hb) hn)
  clear hr
  go_enter Try.func28, Try.ntmps28
  go_wp2_with fail
  refine (C.out _ ?_).mono ?_
  · repeat (first | exact below_a3 _ _ _ _ | refine Below.setCell ?_ (by simp <;> omega) _)
  · rintro e w1 ⟨A1, c1, rfl, ho1, hb1⟩
    obtain ⟨hc, hf⟩ := bcell hb1
    have hz : w.heap.size + 1 + 1 < w1.heap.size := by have := hb1.size; simp at this; omega
    have HB := Lib.hid hb1
    clear hb1
    go_wp2
    refine bodyPost_ret (v := .agg #[.int .i64 N, .slice A1 es.length c1]) (by simp [results, Try.results28, go_sem, hc]) rfl ⟨A1, c1, rfl, ?_, ?_⟩
    · have ho2 := ho1
      rw [World.size_alloc, World.size_alloc, World.size_alloc] at ho2
      refine own_monoG (lo := w.heap.size + 1 + 1 + 1) ?_ (by omega)
      repeat (first | exact ho2 | refine own_lowG ?_ (by simp <;> omega) _)
    · repeat (first | exact g_chain (by repeat (first | exact below_a3 _ _ _ _ | refine Below.setCell ?_ (by simp <;> omega) _)) HB.out | refine Below.setCell ?_ (by simp <;> omega) _)
end Go.Proofs.Ytpgnappddddlpaa
