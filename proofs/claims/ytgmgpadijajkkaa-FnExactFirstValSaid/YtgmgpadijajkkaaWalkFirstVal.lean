/- The walk of the law FnExactFirstVal: it returns true and writes nothing that was there. -/
import Derived.Test.YtgmgpadijajkkaaProgJ
import Derived.Test.YtgmgpadijajkkaaProgS
import Derived.Test.YtgmgpadijajkkaaVLaw
namespace Go.Proofs.Ytgmgpadijajkkaa
open Go.RowKit

set_option maxHeartbeats 2000000 in
theorem walkFirstVal (p s : Int) (v : Int) (w : World) (_hj : (Lit.int .i64 p).wf = true ∧ (Lit.int .i64 s).wf = true) (_hv : (Lit.int .i64 v).wf = true) :
    Calls Try.prog 6 #[.agg #[.int .i64 p, .int .i64 s], .int .i64 v] w fun e w' => e = .returned (.bool true) ∧ Below w.heap.size w w' := by
  have CS := Lib.hid (fun W => specFirstVal p s v W)
  have CI := Lib.hid (fun W => implFirstVal p s v W)
  generalize firstV p s v = r at CS CI
  have hrr : (r == r) = true := by simp
  have CJ := Lib.hid (fun W => toJob_any p s W)
  go_enter Try.func6, Try.ntmps6
  have H0 := Lib.hid (Below.refl (w.alloc (.cells #[.int .i64 p, .int .i64 s] 34)).heap.size (w.alloc (.cells #[.int .i64 p, .int .i64 s] 34)))
  go_wp2_with fail
  refine (CJ.out _).mono ?_
  rintro e w1 ⟨rfl, hb⟩
  have H1 := Lib.hid (g_chain H0.out hb)
  clear hb
  obtain ⟨hc, hf⟩ := bcell H1.out
  have hz : w.heap.size < w1.heap.size := by have := H1.out.size; simp at this; omega
  go_wp2_with fail
  refine (CS.out _).mono ?_
  rintro e w2 ⟨rfl, hb⟩
  have H2 := Lib.hid (g_chain H1.out hb)
  clear hb hc hf hz
  obtain ⟨hc, hf⟩ := bcell H2.out
  have hz : w.heap.size < w2.heap.size := by have := H2.out.size; simp at this; omega
  go_wp2_with fail
  refine (CJ.out _).mono ?_
  rintro e w3 ⟨rfl, hb⟩
  have H3 := Lib.hid (g_chain H2.out hb)
  clear hb hc hf hz
  obtain ⟨hc, hf⟩ := bcell H3.out
  have hz : w.heap.size < w3.heap.size := by have := H3.out.size; simp at this; omega
  go_wp2_with fail
  refine (CI.out _).mono ?_
  rintro e w4 ⟨rfl, hb⟩
  have H4 := Lib.hid (g_chain H3.out hb)
  clear hb hc hf hz
  go_wp2
  go_ret
  exact ⟨rfl, g_chain (below_a1 _ _) H4.out⟩
end Go.Proofs.Ytgmgpadijajkkaa
