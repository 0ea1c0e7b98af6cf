/- The walk of the law FnExactLess: it returns true and writes nothing that was there. -/
import Derived.Test.YtdmdikbcgpbbdaaSortS
import Derived.Test.YtdmdikbcgpbbdaaCmp
import Derived.Test.YtdmdikbcgpbbdaaRecLaw
import Derived.Test.YtdmdikbcgpbbdaaRecArg
import Derived.Deep.RegionHeld3
namespace Go.Proofs.Ytdmdikbcgpbbdaa
open Go.RowKit

set_option maxRecDepth 20000 in
set_option maxHeartbeats 8000000 in
theorem walkLess (x y : GE) (w : World) (_h1 : EdgeIn x) (_h2 : EdgeIn y) :
    Calls Try.prog 5 #[.agg #[.int .i64 x.f, .int .i64 x.t, .int .i64 x.w], .agg #[.int .i64 y.f, .int .i64 y.t, .int .i64 y.w]] w fun e w' => e = .returned (.bool true) ∧ Below w.heap.size w w' := by
  have CX := Lib.hid (fun W => toRec_any x W)
  have CY := Lib.hid (fun W => toRec_any y W)
  have CS := Lib.hid (fun W => specLess x y W)
  have CI := Lib.hid (fun W => implLess x y W)
  generalize lessR x y = r at CS CI
  have EX : Hid (RBox ((w.alloc (.cells #[.int .i64 x.f, .int .i64 x.t, .int .i64 x.w] 50)).alloc (.cells #[.int .i64 y.f, .int .i64 y.t, .int .i64 y.w] 50)) w.heap.size x) := Lib.hid ⟨by simp; omega, by simp, by simp, by simp⟩
  have EY : Hid (RBox ((w.alloc (.cells #[.int .i64 x.f, .int .i64 x.t, .int .i64 x.w] 50)).alloc (.cells #[.int .i64 y.f, .int .i64 y.t, .int .i64 y.w] 50)) (w.heap.size + 1) y) := Lib.hid ⟨by simp, by simp, by simp, by simp⟩
  have HB : Hid (Below w.heap.size w ((w.alloc (.cells #[.int .i64 x.f, .int .i64 x.t, .int .i64 x.w] 50)).alloc (.cells #[.int .i64 y.f, .int .i64 y.t, .int .i64 y.w] 50))) := Lib.hid (below_a2 w _ _)
  go_enter Try.func5, Try.ntmps5
  go_wp2_with fail
  obtain ⟨_, x0, x1, x2⟩ := EX.out
  obtain ⟨_, y0, y1, y2⟩ := EY.out
  go_region_held3 (fun W => W.cell? ⟨w.heap.size, 0, none⟩ = some (.int .i64 x.f) ∧ W.cell? ⟨w.heap.size, 1, none⟩ = some (.int .i64 x.t) ∧ W.cell? ⟨w.heap.size, 2, none⟩ = some (.int .i64 x.w) ∧ W.cell? ⟨w.heap.size + 1, 0, none⟩ = some (.int .i64 y.f) ∧ W.cell? ⟨w.heap.size + 1, 1, none⟩ = some (.int .i64 y.t) ∧ W.cell? ⟨w.heap.size + 1, 2, none⟩ = some (.int .i64 y.w)) (first | (exact ⟨z0, z1, z2, z3, z4, z5⟩) | (exact ⟨x0, x1, x2, y0, y1, y2⟩) | go_keep) (first
    | (go_at_call 28; ((with_reducible refine (CX.out _).mono ?_)); rintro e1 wq ⟨rfl, hbq⟩; have EX := Lib.hid (by first | exact EX.out.below hbq | exact EX.out.drew.below hbq | exact EX.out.drew.drew.below hbq); have EY := Lib.hid (by first | exact EY.out.below hbq | exact EY.out.drew.below hbq | exact EY.out.drew.drew.below hbq); have HB := Lib.hid (by first | exact g_chain HB.out hbq | exact g_chain HB.out.drew hbq | exact g_chain HB.out.drew.drew hbq); obtain ⟨_, z0, z1, z2⟩ := EX.out; obtain ⟨_, z3, z4, z5⟩ := EY.out; clear hbq)
    | (go_at_call 28; ((with_reducible refine (CY.out _).mono ?_)); rintro e1 wq ⟨rfl, hbq⟩; have EX := Lib.hid (by first | exact EX.out.below hbq | exact EX.out.drew.below hbq | exact EX.out.drew.drew.below hbq); have EY := Lib.hid (by first | exact EY.out.below hbq | exact EY.out.drew.below hbq | exact EY.out.drew.drew.below hbq); have HB := Lib.hid (by first | exact g_chain HB.out hbq | exact g_chain HB.out.drew hbq | exact g_chain HB.out.drew.drew hbq); obtain ⟨_, z0, z1, z2⟩ := EX.out; obtain ⟨_, z3, z4, z5⟩ := EY.out; clear hbq)
    | (go_at_call 27; ((with_reducible refine (CS.out _).mono ?_)); rintro e1 wq ⟨rfl, hbq⟩; have EX := Lib.hid (by first | exact EX.out.below hbq | exact EX.out.drew.below hbq | exact EX.out.drew.drew.below hbq); have EY := Lib.hid (by first | exact EY.out.below hbq | exact EY.out.drew.below hbq | exact EY.out.drew.drew.below hbq); have HB := Lib.hid (by first | exact g_chain HB.out hbq | exact g_chain HB.out.drew hbq | exact g_chain HB.out.drew.drew hbq); obtain ⟨_, z0, z1, z2⟩ := EX.out; obtain ⟨_, z3, z4, z5⟩ := EY.out; clear hbq))
  all_goals
    clear x0 x1 x2 y0 y1 y2 z0 z1 z2 z3 z4 z5
    go_wp2_with fail
    obtain ⟨_, x0, x1, x2⟩ := EX.out
    obtain ⟨_, y0, y1, y2⟩ := EY.out
    go_region_held3 (fun W => W.cell? ⟨w.heap.size, 0, none⟩ = some (.int .i64 x.f) ∧ W.cell? ⟨w.heap.size, 1, none⟩ = some (.int .i64 x.t) ∧ W.cell? ⟨w.heap.size, 2, none⟩ = some (.int .i64 x.w) ∧ W.cell? ⟨w.heap.size + 1, 0, none⟩ = some (.int .i64 y.f) ∧ W.cell? ⟨w.heap.size + 1, 1, none⟩ = some (.int .i64 y.t) ∧ W.cell? ⟨w.heap.size + 1, 2, none⟩ = some (.int .i64 y.w)) (first | (exact ⟨z0, z1, z2, z3, z4, z5⟩) | (exact ⟨x0, x1, x2, y0, y1, y2⟩) | go_keep) (first
      | (go_at_call 28; ((with_reducible refine (CX.out _).mono ?_)); rintro e1 wq ⟨rfl, hbq⟩; have EX := Lib.hid (by first | exact EX.out.below hbq | exact EX.out.drew.below hbq | exact EX.out.drew.drew.below hbq); have EY := Lib.hid (by first | exact EY.out.below hbq | exact EY.out.drew.below hbq | exact EY.out.drew.drew.below hbq); have HB := Lib.hid (by first | exact g_chain HB.out hbq | exact g_chain HB.out.drew hbq | exact g_chain HB.out.drew.drew hbq); obtain ⟨_, z0, z1, z2⟩ := EX.out; obtain ⟨_, z3, z4, z5⟩ := EY.out; clear hbq)
      | (go_at_call 28; ((with_reducible refine (CY.out _).mono ?_)); rintro e1 wq ⟨rfl, hbq⟩; have EX := Lib.hid (by first | exact EX.out.below hbq | exact EX.out.drew.below hbq | exact EX.out.drew.drew.below hbq); have EY := Lib.hid (by first | exact EY.out.below hbq | exact EY.out.drew.below hbq | exact EY.out.drew.drew.below hbq); have HB := Lib.hid (by first | exact g_chain HB.out hbq | exact g_chain HB.out.drew hbq | exact g_chain HB.out.drew.drew hbq); obtain ⟨_, z0, z1, z2⟩ := EX.out; obtain ⟨_, z3, z4, z5⟩ := EY.out; clear hbq)
      | (go_at_call 29; ((with_reducible refine (CI.out _).mono ?_)); rintro e1 wq ⟨rfl, hbq⟩; have EX := Lib.hid (by first | exact EX.out.below hbq | exact EX.out.drew.below hbq | exact EX.out.drew.drew.below hbq); have EY := Lib.hid (by first | exact EY.out.below hbq | exact EY.out.drew.below hbq | exact EY.out.drew.drew.below hbq); have HB := Lib.hid (by first | exact g_chain HB.out hbq | exact g_chain HB.out.drew hbq | exact g_chain HB.out.drew.drew hbq); obtain ⟨_, z0, z1, z2⟩ := EX.out; obtain ⟨_, z3, z4, z5⟩ := EY.out; clear hbq))
    all_goals
      cases r with
      | true =>
        go_wp2
        go_ret
        exact ⟨rfl, by first | exact HB.out | exact HB.out.drew⟩
      | false =>
        go_wp2
        go_ret
        exact ⟨rfl, by first | exact HB.out | exact HB.out.drew⟩
end Go.Proofs.Ytdmdikbcgpbbdaa
