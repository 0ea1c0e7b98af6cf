/- The contracts of the laws' helpers that find the marks in edges and in a graph. Condition: at most 2^21 edges. -/
import Derived.Test.YtbfdhlpncblahaaGrEq
namespace Go.Proofs.Ytbfdhlpncblahaa
open Go.RowKit

set_option maxRecDepth 10000 in
set_option maxHeartbeats 1000000 in
theorem heldEdges_any (A : Option Addr) (n c k : Nat) (es : List GE) (w : World) (hr : SlG w A n (markG k es)) (hn : n ≤ 2097152) (hk : k ≤ 8388608) :
    Calls Try.prog 72 #[.slice A n c, .int .i64 (k : Int)] w (GNum w ((k + 3 * n : Nat) : Int)) := by
  have HR := Lib.hid hr
  have HL : Hid (es.length = n) := Lib.hid (by rw [← hr.len, markG_len])
  have HG := Lib.hid (fun j (h : j < es.length) => markG_get es k j h)
  clear hr
  go_enter Try.func72, Try.ntmps72
  go_wp2
  go_loopw [1, 5] (fun q i wr => ∃ j : Nat, j ≤ n ∧ i = .int .i64 j ∧ q = .int .i64 ((k + 3 * j : Nat) : Int) ∧ wr = w) (fun _ i _ => n - (intOf i).toNat)
  case atStart => exact ⟨0, Nat.zero_le _, rfl, rfl, rfl⟩
  case round =>
    obtain ⟨j, hj, rfl, rfl, rfl⟩ := hrel
    by_cases hlt : j < n
    · obtain ⟨b, off, e, rfl, hbw, he, c0, c1, c2⟩ := HR.out.at_ hlt
      have hee : e = ⟨((k + 3 * j : Nat) : Int), ((k + 3 * j : Nat) : Int) + 1, ((k + 3 * j : Nat) : Int) + 2⟩ := by
        have h1 := he.out
        rw [HG.out j (by rw [HL.out]; exact hlt)] at h1
        injection h1 with h1
        exact h1.symm
      subst hee
      clear he
      have hq0 : k + 3 * j ≤ 20000000 := by omega
      obtain ⟨q, hq⟩ : ∃ q, q = k + 3 * j := ⟨_, rfl⟩
      simp only [← hq] at c0 c1 c2 hq0 ⊢
      have hb1 : (q : Int) + 1 + 1 = (q : Int) + 2 := by omega
      have HQ := Lib.hid hq
      clear hq
      go_wp2
      go_roundw
      case rel =>
        refine ⟨j + 1, by omega, by go_num, ?_, by first | rfl | trivial⟩
        have := HQ.out
        exact congrArg (Value.int .i64) (by first | omega | (simp only [IntKind.wrap_i64]; omega))
      case measure => simp [intOf]; omega
    · obtain rfl : j = n := by omega
      go_wp2
      go_ret
      exact ⟨by first | rfl | trivial, Below.refl _ _⟩
theorem markGraphO_any (N : Int) (A : Option Addr) (n c lo k : Nat) (es : List GE) (w : World) (ho : w.ownsRow lo 91 3 (.slice A n c) n (es.flatMap GE.cells)) (hl : es.length = n) (hn : n ≤ 2097152) (hk : k ≤ 8388608) :
    Calls Try.prog 24 #[.agg #[.int .i64 N, .slice A n c], .int .i64 (k : Int)] w fun e w' => e = .returned (.int .i64 ((k + 3 * n : Nat) : Int)) ∧ w'.ownsRow lo 91 3 (.slice A n c) n ((markG k es).flatMap GE.cells) ∧ w.grownBy w' (Value.slice A n c).ownBlock := by
  have C := Lib.hid (fun W (h : Below w.heap.size w W) => markEdges_any A n c lo k es W (own_below ho h) hl hn hk)
  clear ho
  go_enter Try.func24, Try.ntmps24
  go_wp2_with fail
  refine (C.out _ (below_a1 _ _)).mono ?_
  rintro e w1 ⟨rfl, ho1, hg1⟩
  have HG := Lib.hid (grownBy_trans (grownBy_of_below (below_a1 w (.cells #[.int .i64 N, .slice A n c] 42)) _) hg1)
  have HO := Lib.hid ho1
  clear ho1 hg1
  go_wp2
  go_ret
  exact ⟨rfl, HO.out, HG.out⟩
theorem heldGraph_any (N : Int) (A : Option Addr) (n c k : Nat) (es : List GE) (w : World) (hr : SlG w A n (markG k es)) (hn : n ≤ 2097152) (hk : k ≤ 8388608) :
    Calls Try.prog 32 #[.agg #[.int .i64 N, .slice A n c], .int .i64 (k : Int)] w (GNum w ((k + 3 * n : Nat) : Int)) := by
  have CE := Lib.hid (fun W (h : Below w.heap.size w W) => heldEdges_any A n c k es W (hr.below h) hn hk)
  clear hr
  go_enter Try.func32, Try.ntmps32
  go_wp2_with fail
  refine (CE.out _ (below_a1 _ _)).mono ?_
  rintro e w1 ⟨rfl, hb1⟩
  go_wp2
  go_ret
  exact ⟨rfl, g_chain (below_a1 _ _) hb1⟩
end Go.Proofs.Ytbfdhlpncblahaa
