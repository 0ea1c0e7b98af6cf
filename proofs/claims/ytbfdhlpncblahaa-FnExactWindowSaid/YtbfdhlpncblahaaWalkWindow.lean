/- The walk of the law FnExactWindow: it returns true and writes nothing that was there. -/
import Derived.Test.YtbfdhlpncblahaaWinS
import Derived.Test.YtbfdhlpncblahaaWinI
import Derived.Test.YtbfdhlpncblahaaKLaw
import Derived.Test.YtbfdhlpncblahaaKEq
import Derived.Test.YtbfdhlpncblahaaKArg
namespace Go.Proofs.Ytbfdhlpncblahaa
open Go.RowKit

set_option maxRecDepth 20000 in
set_option maxHeartbeats 4000000 in
theorem walkWindow (lo hi : Int) (A : Option Addr) (n c : Nat) (es : List KE) (a b : Int) (w : World) (hin : ShIn w lo hi A n c es) (_ha : (Lit.int .i64 a).wf = true) (_hb : (Lit.int .i64 b).wf = true) :
    Calls Try.prog 6 #[.agg #[.int .i64 lo, .int .i64 hi, .slice A n c], .int .i64 a, .int .i64 b] w fun e w' => e = .returned (.bool true) ∧ Below w.heap.size w w' := by
  have CZ := Lib.hid (fun W => szShard_any lo hi A n c 1048576 W hin.l (by omega) (by omega))
  have HS := Lib.hid hin.g
  by_cases hb : (n : Int) ≤ 1048576
  · rw [leftG_pos hb] at CZ
    have hp : (0 : Int) ≤ 1048576 - (n : Int) := by omega
    generalize (1048576 : Int) - (n : Int) = q at CZ hp
    have CT := Lib.hid (fun W (h : Below w.heap.size w W) => toShard_any lo hi A n c es W (HS.out.below h) (by omega))
    have hel := hin.g.len
    have hxn : es.length ≤ 1048576 := by omega
    have CS := Lib.hid (fun W A c (h : SlK W A es.length es) => specWindow lo hi A es.length c es a b W h hxn)
    have CI := Lib.hid (fun W A c (h : SlK W A es.length es) => implWindow lo hi A es.length c es a b W h hxn)
    have CE := Lib.hid (fun W A c A' c' (h1 : SlK W A es.length es) (h2 : SlK W A' es.length es) => eqShard_any lo hi A A' es.length c c' es W h1 h2 (by omega))
    unfold TwoI at CS CI
    generalize (winR lo hi es a b).1 = q1 at CS CI
    generalize (winR lo hi es a b).2 = q2 at CS CI
    have hq1 : (q1 == q1) = true := by simp
    have hq2 : (q2 == q2) = true := by simp
    clear hin hb hel
    go_enter Try.func6, Try.ntmps6
    go_wp2_with fail
    refine (CZ.out _).mono ?_
    rintro e wa ⟨rfl, hba⟩
    have B0 := Lib.hid ((HBox.new w lo hi A n c 24).below hba)
    have HA := Lib.hid (g_chain (below_a1 w _) hba)
    obtain ⟨l0, c00, c01, c02⟩ := B0.out
    clear hba
    go_wp2_with fail
    refine (CT.out _ HA.out).mono ?_
    rintro e wb ⟨A1, c1, rfl, ho1, hbb⟩
    have B1 := Lib.hid (B0.out.below hbb)
    have HB := Lib.hid (g_chain HA.out hbb)
    have D1 := Lib.hid (SlK.of_own ho1 rfl)
    clear hbb ho1 c00 c01 c02 l0
    go_wp2_with fail
    refine (CS.out _ _ _ D1.out).mono ?_
    rintro e wc ⟨rfl, hbc⟩
    have B2 := Lib.hid (B1.out.below hbc)
    have HC := Lib.hid (g_chain HB.out hbc)
    obtain ⟨l0, c00, c01, c02⟩ := B2.out
    clear hbc
    go_wp2_with fail
    refine (CT.out _ HC.out).mono ?_
    rintro e wd ⟨A2, c2, rfl, ho2, hbd⟩
    have X2 := Lib.hid (HBox.new wd lo hi A2 es.length c2 29)
    have D2 := Lib.hid ((SlK.of_own ho2 rfl).below (below_a1 wd (.cells #[.int .i64 lo, .int .i64 hi, .slice A2 es.length c2] 29)))
    have B3 := Lib.hid ((B2.out.below hbd).below (below_a1 wd (.cells #[.int .i64 lo, .int .i64 hi, .slice A2 es.length c2] 29)))
    have HD := Lib.hid (g_chain (g_chain HC.out hbd) (below_a1 wd (.cells #[.int .i64 lo, .int .i64 hi, .slice A2 es.length c2] 29)))
    clear hbd ho2 c00 c01 c02 l0
    go_wp2_with fail
    refine (CI.out _ _ _ D2.out).mono ?_
    rintro e we ⟨rfl, hbe⟩
    have B4 := Lib.hid (B3.out.below hbe)
    have X4 := Lib.hid (X2.out.below hbe)
    have D4 := Lib.hid (D2.out.below hbe)
    have HE := Lib.hid (g_chain HD.out hbe)
    obtain ⟨l0, c00, c01, c02⟩ := B4.out
    obtain ⟨l1, c10, c11, c12⟩ := X4.out
    clear hbe
    go_wp2
    go_region_with (first
      | (go_at_call 13; ((with_reducible refine (CT.out _ (by first | exact HE.out | exact HE.out.drew | exact HE.out.drew.drew)).mono ?_)); rintro e wf ⟨A3, c3, rfl, ho3, hbf⟩; obtain ⟨l2, c20, c21, c22⟩ := X4.out.keep hbf.size (hbf.block _ X4.out.lt); have D5 := Lib.hid (D4.out.keep (w' := wf) hbf.size hbf.block); have D6 := Lib.hid (SlK.of_own ho3 rfl))
      | (go_at_call 15; ((with_reducible refine (CE.out _ _ _ _ _ D5.out D6.out).mono ?_)); rintro e wg ⟨rfl, hbg⟩))
    all_goals
      go_wp2
      go_ret
      exact ⟨rfl, g_chain (g_chain HE.out.drew hbf) hbg⟩
  · rw [leftG_neg (by omega)] at CZ
    clear hin hb
    go_enter Try.func6, Try.ntmps6
    go_wp2_with fail
    refine (CZ.out _).mono ?_
    rintro e wa ⟨rfl, hba⟩
    go_wp2
    go_ret
    exact ⟨rfl, g_chain (below_a1 w _) hba⟩
end Go.Proofs.Ytbfdhlpncblahaa
