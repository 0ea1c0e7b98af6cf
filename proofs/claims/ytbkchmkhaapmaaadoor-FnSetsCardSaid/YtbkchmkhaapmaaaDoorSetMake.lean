/- The contract of the model's function that makes a set for a law. Condition: at most 2^20 bytes. -/
import Derived.Test.YtbkchmkhaapmaaaDoorSetDrawS
namespace Go.Proofs.YtbkchmkhaapmaaaDoor
open Go.RowKit
set_option linter.unusedVariables false

set_option maxRecDepth 10000 in
set_option maxHeartbeats 8000000 in
theorem makeSet (A : Option Addr) (n c : Nat) (xs : List Nat) (w : World) (hr : Rd w A n xs) (hn : n ≤ 1048576) :
    Calls Tryd.prog 12 #[.slice A n c] w fun e w' => ∃ (N : Nat) (ys : List Nat), 0 < N ∧ N ≤ 30 ∧ setB (N : Int) ys = true ∧ (∀ x ∈ ys, x < 256) ∧ MadeS w (N : Int) ys e w' := by
  have C1 := Lib.hid (drawNew A n c xs (w.alloc (.cells #[.int .i64 0, .slice none 0 0] 24)) (hr.below (below_a1 _ _)) hn)
  have HA : Hid (0 < n → ∀ b off sp, A = some ⟨b, off, sp⟩ → b < w.heap.size) := Lib.hid (fun h b off sp e => by
    obtain ⟨b', off', e', hb, _⟩ := hr.lies h
    rw [e'] at e
    injection e with e
    injection e with e1 e2 e3
    omega)
  have HR0 := Lib.hid (SBx.new w 0 none 0 0)
  clear hr
  go_enter Tryd.func12, Tryd.ntmps12
  go_wp2_with fail
  refine C1.out.mono ?_
  rintro e w1 ⟨rfl, hs1, hcu1, hb1⟩
  simp only [World.size_alloc] at hs1 hcu1
  have X0 := Lib.hid (HR0.out.below hb1)
  have H1 := Lib.hid (s_chain (below_a1 w _) hb1)
  have Q1 := Lib.hid hcu1
  clear hb1 hcu1 HR0
  go_wp2_with fail
  refine (drawBelow (w.heap.size + 1) A n c 30 xs w1 Q1.out (by omega) (by omega)).mono ?_
  rintro e w2 ⟨k, hk, rfl, hcu2, hgr2⟩
  have X2 := Lib.hid (X0.out.grown hgr2 (by intro e; injection e with e; omega))
  have H2 := Lib.hid (H1.out.grown hgr2 H1.out.size (fun q hq => by injection hq with hq; omega))
  have Q2 := Lib.hid hcu2
  have hs2 := hgr2.size
  clear hcu2 hgr2 X0 H1 Q1
  obtain ⟨N, hN⟩ : ∃ N, N = 1 + k := ⟨_, rfl⟩
  have hNi : (1 : Int) + (k : Int) = (N : Int) := by omega
  have hN30 : N ≤ 30 := by omega
  have hN0 : 0 < N := by omega
  clear hN
  have CD := Lib.hid (drawSet (w.heap.size + 1) N A n c xs w2 Q2.out (by omega) hN30 (fun h b off sp e => by have := HA.out h b off sp e; omega))
  go_wp2_with fail
  refine CD.out.mono ?_
  rintro e w3 ⟨ys, B, d, hok, hsm, rfl, ho3, hcu3, hgr3⟩
  have Y0 := Lib.hid ((X2.out.grown hgr3 (by intro e; injection e with e; omega)).below (below_a1 w3 (.cells #[.int .i64 (N : Int), .slice B ys.length d] 24)))
  have Y1 := Lib.hid (SBx.new w3 (N : Int) B ys.length d)
  have H3 := Lib.hid (s_chain (H2.out.grown hgr3 H2.out.size (fun q hq => by injection hq with hq; omega)) (below_a1 w3 (.cells #[.int .i64 (N : Int), .slice B ys.length d] 24)))
  have O3 := Lib.hid (own_below ho3 (below_a1 w3 (.cells #[.int .i64 (N : Int), .slice B ys.length d] 24)))
  clear ho3 hcu3 hgr3 X2 H2 Q2
  obtain ⟨l0, c00, c01, f00, f01⟩ := Y0.out.parts
  obtain ⟨l1, c10, c11, f10, f11⟩ := Y1.out.parts
  go_wp2
  refine bodyPost_ret (v := .agg #[.int .i64 (N : Int), .slice B ys.length d]) (by simp [results, Tryd.results12, go_sem, c00, c01]) rfl ?_
  exact ⟨N, ys, hN0, hN30, hok, hsm, B, d, rfl, own_monoG (own_set2 O3.out (by omega) _ _) (by omega), below_set2 H3.out (Nat.le_refl _) _ _⟩
end Go.Proofs.YtbkchmkhaapmaaaDoor
