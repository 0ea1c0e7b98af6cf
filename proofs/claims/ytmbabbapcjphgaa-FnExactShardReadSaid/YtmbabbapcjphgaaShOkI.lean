/- The contracts of the program's functions that ask whether a shard is valid. Condition: at most 2^20 edges. -/
import Derived.Test.YtmbabbapcjphgaaShMath
import Derived.Test.YtmbabbapcjphgaaKEB
import Derived.Test.YtmbabbapcjphgaaNumImpl
import Derived.Test.YtmbabbapcjphgaaCmp
import Derived.Test.YtmbabbapcjphgaaRecW
import Derived.Test.YtmbabbapcjphgaaBlk
namespace Go.Proofs.Ytmbabbapcjphgaa
open Go.RowKit

theorem place_any (a b c : Int) (w : World) :
    Calls Try.prog 51 #[.int .i64 a, .int .i64 b, .int .i64 c] w fun e w' => e = .returned (.agg #[.int .i64 a, .int .i64 b, .int .i64 c]) ∧ Below w.heap.size w w' := by
  go_enter Try.func51, Try.ntmps51
  go_wp2
  refine bodyPost_ret (v := .agg #[.int .i64 a, .int .i64 b, .int .i64 c]) (by simp [results, Try.results51, go_sem]) rfl ⟨rfl, ?_⟩
  repeat (first | exact below_a1 _ _ | exact below_a2 _ _ _ | exact below_a3 _ _ _ _ | refine Below.setCell ?_ (by simp <;> omega) _)
theorem implEdge5Ok (lo hi : Int) (e : KE) (w : World) :
    Calls Try.prog 52 #[.agg #[.int .i64 e.f, .int .i64 e.t, .int .i64 e.w, .int .i64 e.i, .int .i64 e.v], .int .i64 lo, .int .i64 hi] w (GTell w (kedgeB lo hi e)) := by
  have HB := Lib.hid (below_a1 w (.cells #[.int .i64 e.f, .int .i64 e.t, .int .i64 e.w, .int .i64 e.i, .int .i64 e.v] 77))
  cases hv : kedgeB lo hi e with
  | true =>
    obtain ⟨h1, h2, h3, h4, h5, h6, h7, h8, h9, h10⟩ := kedgeB_iff hv
    clear hv
    go_enter Try.func52, Try.ntmps52
    go_wp2_with (go_at_call 87; refine (implNum_yes _ _ h9 h10).mono ?_; rintro e w' ⟨rfl, rfl⟩)
    go_ret
    exact ⟨rfl, HB.out⟩
  | false =>
    have hp := kedgeB_parts hv
    clear hv
    rcases hp with h1 | ⟨h1, h2⟩ | ⟨h1, h2, h3⟩ | ⟨h1, h2, h3, h4⟩ | ⟨h1, h2, h3, h4, h5⟩ | ⟨h1, h2, h3, h4, h5, h6⟩ | ⟨h1, h2, h3, h4, h5, h6, h7⟩ | ⟨h1, h2, h3, h4, h5, h6, h7, h8⟩ | ⟨h1, h2, h3, h4, h5, h6, h7, h8, h9⟩
    case inr.inr.inr.inr.inr.inr.inr.inr =>
      have h10 : e.v < 0 ∨ 281474976710655 < e.v := by omega
      clear h9
      go_enter Try.func52, Try.ntmps52
      go_wp2_with (go_at_call 87; refine (implNum_no _ _ h10).mono ?_; rintro e w' ⟨rfl, rfl⟩)
      go_ret
      exact ⟨rfl, HB.out⟩
    all_goals
      go_enter Try.func52, Try.ntmps52
      go_wp2
      go_ret
      exact ⟨g_bool (by first | rfl | (simp <;> omega)), HB.out⟩
theorem after_less (p q : Int) (e : KE) : lessR ⟨0, p, q⟩ ⟨0, e.f, e.i⟩ = afterB p q e := by
  rw [Bool.eq_iff_iff, lessR_iff]
  unfold afterB
  rw [decide_eq_true_iff]
  show ((0 : Int) < 0 ∨ ((0 : Int) = 0 ∧ (p < e.f ∨ (p = e.f ∧ q < e.i)))) ↔ _
  constructor
  · rintro (h | ⟨_, h⟩)
    · omega
    · exact h
  · exact fun h => .inr ⟨rfl, h⟩

set_option maxRecDepth 10000 in
set_option maxHeartbeats 4000000 in
theorem implShardOk (lo hi : Int) (A : Option Addr) (n c : Nat) (es : List KE) (w : World) (hr : SlK w A n es) (hn : n ≤ 1048576) :
    Calls Try.prog 18 #[.agg #[.int .i64 lo, .int .i64 hi, .slice A n c]] w (GTell w (shardB lo hi es)) := by
  have hel := hr.len
  have HB0 := Lib.hid (below_a1 w (.cells #[.int .i64 lo, .int .i64 hi, .slice A n c] 35))
  by_cases h1 : 0 ≤ lo
  · by_cases h2 : lo < hi
    · by_cases h3 : hi ≤ 150
      · by_cases h4 : n ≤ 400
        · rw [shardB_yes h1 h2 h3 (by omega)]
          have CE := Lib.hid (fun e W => implEdge5Ok lo hi e W)
          have CP := Lib.hid (fun b c W => place_any 0 b c W)
          have CL := Lib.hid (fun p q (e : KE) W => after_less p q e ▸ implLess ⟨0, p, q⟩ ⟨0, e.f, e.i⟩ W)
          have HR := Lib.hid hr
          have HEL := Lib.hid hel
          clear hr hel
          go_enter Try.func18, Try.ntmps18
          go_wp2_with fail
          refine (CP.out (-1) 0 _).mono ?_
          rintro e wp ⟨rfl, hbp⟩
          have XP := Lib.hid ((HBox.new w lo hi A n c 35).below hbp)
          have HBP := Lib.hid (g_chain HB0.out hbp)
          have LB0 := Lib.hid (Blk.new wp #[.int .i64 0, .int .i64 (-1), .int .i64 0] 81)
          have X0 := Lib.hid (XP.out.alloc (.cells #[.int .i64 0, .int .i64 (-1), .int .i64 0] 81))
          have HB1 := Lib.hid (g_chain HBP.out (below_a1 wp (.cells #[.int .i64 0, .int .i64 (-1), .int .i64 0] 81)))
          have hlp : w.heap.size < wp.heap.size := XP.out.lt
          obtain ⟨l0, x0, x1, x2⟩ := XP.out
          clear hbp
          go_wp2
          clear l0 x0 x1 x2
          go_loopw [32] (fun i wr => ∃ (k : Nat) (p q : Int), k ≤ n ∧ i = .int .i64 k ∧ Hid (HBox wr w.heap.size lo hi A n c) ∧ Hid (Below w.heap.size w wr) ∧ Hid (Blk wr wp.heap.size #[.int .i64 0, .int .i64 p, .int .i64 q] 81) ∧ Hid (runK lo hi p q (es.drop k) = runK lo hi (-1) 0 es)) (fun i _ => n - (intOf i).toNat)
          case atStart => exact ⟨0, -1, 0, Nat.zero_le _, rfl, X0, HB1, LB0, Lib.hid rfl⟩
          case round =>
            clear X0 HB1 LB0 XP HBP
            obtain ⟨k, p, q, hk, rfl, hx, hbel, hlb, hrun⟩ := hrel
            by_cases hlt : k < n
            · obtain ⟨b, off, e, rfl, hbw, he, c0, c1, c2, c3, c4⟩ := HR.out.at_ hlt
              have c0 := (hbel.out.cell (p := ⟨b, off + k * 5, none⟩) hbw).trans c0
              have c1 := (hbel.out.cell (p := ⟨b, off + k * 5 + 1, none⟩) hbw).trans c1
              have c2 := (hbel.out.cell (p := ⟨b, off + k * 5 + 2, none⟩) hbw).trans c2
              have c3 := (hbel.out.cell (p := ⟨b, off + k * 5 + 3, none⟩) hbw).trans c3
              have c4 := (hbel.out.cell (p := ⟨b, off + k * 5 + 4, none⟩) hbw).trans c4
              obtain ⟨l0, x0, x1, x2⟩ := hx.out
              have hwle : w.heap.size ≤ wr.heap.size := hbel.out.size
              go_wp2_with fail
              refine (CP.out e.f e.i _).mono ?_
              rintro e1 w1 ⟨rfl, hb1⟩
              have HB1 := Lib.hid (g_chain (below_a1 wr (.cells #[.int .i64 e.f, .int .i64 e.t, .int .i64 e.w, .int .i64 e.i, .int .i64 e.v] 77)) hb1)
              have X1 := Lib.hid ((hx.out.below HB1.out).alloc (.cells #[.int .i64 0, .int .i64 e.f, .int .i64 e.i] 81))
              have L1 := Lib.hid ((hlb.out.below HB1.out).below (below_a1 w1 (.cells #[.int .i64 0, .int .i64 e.f, .int .i64 e.i] 81)))
              have R1 := Lib.hid (Blk.new w1 #[.int .i64 0, .int .i64 e.f, .int .i64 e.i] 81)
              have HB2 := Lib.hid (g_chain HB1.out (below_a1 w1 (.cells #[.int .i64 0, .int .i64 e.f, .int .i64 e.i] 81)))
              have hl1 : wr.heap.size < w1.heap.size := by have := hb1.size; simp at this; omega
              have hy := fun i (v : Value) (hi : #[Value.int .i64 e.f, .int .i64 e.t, .int .i64 e.w, .int .i64 e.i, .int .i64 e.v][i]? = some v) => ((Blk.new wr #[Value.int .i64 e.f, .int .i64 e.t, .int .i64 e.w, .int .i64 e.i, .int .i64 e.v] 77).below hb1).cell hi
              have y0 := hy 0 _ rfl
              have y1 := hy 1 _ rfl
              have y2 := hy 2 _ rfl
              have y3 := hy 3 _ rfl
              have y4 := hy 4 _ rfl
              obtain ⟨z0, z1, z2, z3⟩ := (hx.out.below HB1.out)
              have HQ := Lib.hid (runK_drop he.out hrun.out)
              clear hb1 c0 c1 c2 c3 c4 l0 x0 x1 x2 hx hrun hy hlb
              cases hv : kedgeB lo hi e with
              | false =>
                have HV : Hid (runK lo hi (-1) 0 es = false) := Lib.hid (by rw [← HQ.out, hv]; rfl)
                have CE1 := Lib.hid (fun W => hv ▸ CE.out e W)
                go_wp2_with fail
                refine (CE1.out _).mono ?_
                rintro e2 w2 ⟨rfl, hb2⟩
                go_wp2
                go_ret
                rw [HV.out]
                exact ⟨rfl, g_chain hbel.out (g_chain HB2.out hb2)⟩
              | true =>
                have CE1 := Lib.hid (fun W => hv ▸ CE.out e W)
                cases ha : afterB p q e with
                | true =>
                  have HN : Hid (runK lo hi e.f e.i (es.drop (k + 1)) = runK lo hi (-1) 0 es) := Lib.hid (by rw [← HQ.out, hv, ha]; rfl)
                  have CL1 := Lib.hid (fun W => ha ▸ CL.out p q e W)
                  clear hv ha HQ
                  go_wp2_with fail
                  refine (CE1.out _).mono ?_
                  rintro e2 w2 ⟨rfl, hb2⟩
                  have L2 := Lib.hid (L1.out.below hb2)
                  have R2 := Lib.hid (R1.out.below hb2)
                  have X2 := Lib.hid (X1.out.below hb2)
                  have HB3 := Lib.hid (g_chain HB2.out hb2)
                  have q0 := L2.out.cell (i := 0) rfl
                  have q1 := L2.out.cell (i := 1) rfl
                  have q2 := L2.out.cell (i := 2) rfl
                  have r0 := R2.out.cell (i := 0) rfl
                  have r1 := R2.out.cell (i := 1) rfl
                  have r2 := R2.out.cell (i := 2) rfl
                  clear hb2
                  go_wp2_with fail
                  refine (CL1.out _).mono ?_
                  rintro e3 w3 ⟨rfl, hb3⟩
                  have L3 := Lib.hid (L2.out.below hb3)
                  have R3 := Lib.hid (R2.out.below hb3)
                  have X3 := Lib.hid (X2.out.below hb3)
                  have HB4 := Lib.hid (g_chain HB3.out hb3)
                  have f0 := L3.out.frozen 0
                  have f1 := L3.out.frozen 1
                  have f2 := L3.out.frozen 2
                  have hlt3 := L3.out.lt
                  have hlw : w.heap.size < wp.heap.size := hlp
                  clear q0 q1 q2 r0 r1 r2 hb3
                  have q0 := L3.out.cell (i := 0) rfl
                  have q1 := L3.out.cell (i := 1) rfl
                  have q2 := L3.out.cell (i := 2) rfl
                  have r0 := R3.out.cell (i := 0) rfl
                  have r1 := R3.out.cell (i := 1) rfl
                  have r2 := R3.out.cell (i := 2) rfl
                  go_wp2
                  go_roundw
                  case rel => exact ⟨k + 1, e.f, e.i, by omega, by go_num, Lib.hid (X3.out.keep (by simp) (by rw [Below.heap_setCell _ _ _ _ (by show w.heap.size ≠ wp.heap.size; omega), Below.heap_setCell _ _ _ _ (by show w.heap.size ≠ wp.heap.size; omega), Below.heap_setCell _ _ _ _ (by show w.heap.size ≠ wp.heap.size; omega)])), Lib.hid ((((g_chain hbel.out HB4.out).setCell (p := ⟨wp.heap.size, 0, none⟩) (by show w.heap.size ≤ wp.heap.size; omega) _).setCell (p := ⟨wp.heap.size, 1, none⟩) (by show w.heap.size ≤ wp.heap.size; omega) _).setCell (p := ⟨wp.heap.size, 2, none⟩) (by show w.heap.size ≤ wp.heap.size; omega) _), Lib.hid (((L3.out.set 0 _).set 1 _).set 2 _), HN⟩
                  case measure => simp [intOf]; omega
                | false =>
                  have HV : Hid (runK lo hi (-1) 0 es = false) := Lib.hid (by rw [← HQ.out, hv, ha]; rfl)
                  have CL1 := Lib.hid (fun W => ha ▸ CL.out p q e W)
                  clear hv ha HQ
                  go_wp2_with fail
                  refine (CE1.out _).mono ?_
                  rintro e2 w2 ⟨rfl, hb2⟩
                  have L2 := Lib.hid (L1.out.below hb2)
                  have R2 := Lib.hid (R1.out.below hb2)
                  have X2 := Lib.hid (X1.out.below hb2)
                  have HB3 := Lib.hid (g_chain HB2.out hb2)
                  have q0 := L2.out.cell (i := 0) rfl
                  have q1 := L2.out.cell (i := 1) rfl
                  have q2 := L2.out.cell (i := 2) rfl
                  have r0 := R2.out.cell (i := 0) rfl
                  have r1 := R2.out.cell (i := 1) rfl
                  have r2 := R2.out.cell (i := 2) rfl
                  clear hb2
                  go_wp2_with fail
                  refine (CL1.out _).mono ?_
                  rintro e3 w3 ⟨rfl, hb3⟩
                  go_wp2
                  go_ret
                  rw [HV.out]
                  exact ⟨rfl, g_chain hbel.out (g_chain HB3.out hb3)⟩
            · obtain rfl : k = n := by omega
              have HV : Hid (runK lo hi (-1) 0 es = true) := Lib.hid (by
                have h := hrun.out
                rw [List.drop_eq_nil_of_le (by rw [HEL.out]; exact Nat.le_refl _), runK] at h
                exact h.symm)
              go_wp2
              go_ret
              rw [HV.out]
              exact ⟨rfl, hbel.out⟩
        · have HV : Hid (shardB lo hi es = false) := Lib.hid (by simp [shardB, hel, h4])
          clear hr hel
          go_enter Try.func18, Try.ntmps18
          go_wp2
          go_ret
          rw [HV.out]
          exact ⟨g_bool (by first | rfl | (simp <;> omega)), HB0.out⟩
      · have HV : Hid (shardB lo hi es = false) := Lib.hid (by simp [shardB, h3])
        clear hr hel
        go_enter Try.func18, Try.ntmps18
        go_wp2
        go_ret
        rw [HV.out]
        exact ⟨g_bool (by first | rfl | (simp <;> omega)), HB0.out⟩
    · have HV : Hid (shardB lo hi es = false) := Lib.hid (by simp [shardB, h2])
      clear hr hel
      go_enter Try.func18, Try.ntmps18
      go_wp2
      go_ret
      rw [HV.out]
      exact ⟨g_bool (by first | rfl | (simp <;> omega)), HB0.out⟩
  · have HV : Hid (shardB lo hi es = false) := Lib.hid (by simp [shardB, h1])
    clear hr hel
    go_enter Try.func18, Try.ntmps18
    go_wp2
    go_ret
    rw [HV.out]
    exact ⟨g_bool (by first | rfl | (simp <;> omega)), HB0.out⟩
end Go.Proofs.Ytmbabbapcjphgaa
