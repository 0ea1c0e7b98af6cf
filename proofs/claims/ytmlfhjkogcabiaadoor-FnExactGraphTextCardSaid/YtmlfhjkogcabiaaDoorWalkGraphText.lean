/- The walk of the law FnExactGraphText: it returns true and writes nothing that was there, given that the library's table of powers of ten holds what its text lays. -/
import Derived.Test.YtmlfhjkogcabiaaDoorGraphS
import Derived.Test.YtmlfhjkogcabiaaDoorGrTextI
import Derived.Test.YtmlfhjkogcabiaaDoorGrEq
import Derived.Test.YtmlfhjkogcabiaaDoorGrOpen
namespace Go.Proofs.YtmlfhjkogcabiaaDoor
open Go.RowKit

set_option maxRecDepth 20000 in
set_option maxHeartbeats 4000000 in
theorem walkGraphText (N : Int) (A : Option Addr) (n c : Nat) (es : List GE) (w : World) (hin : GrIn w N A n es) (ht : Pow10 w) :
    Calls Tryd.prog 3 #[.agg #[.int .i64 N, .slice A n c]] w fun e w' => e = .returned (.bool true) ∧ Below w.heap.size w w' := by
  have CZ := Lib.hid (fun W => szGraph_any N A n c 1048576 W hin.l (by omega) (by omega))
  have HS := Lib.hid hin.g
  by_cases hb : (n : Int) ≤ 1048576
  · rw [leftG_pos hb] at CZ
    have hp : (0 : Int) ≤ 1048576 - (n : Int) := by omega
    generalize (1048576 : Int) - (n : Int) = q at CZ hp
    have CT := Lib.hid (fun W (h : Below w.heap.size w W) => toGraph_any N A n c es W (HS.out.below h) (by omega))
    have hel := hin.g.len
    have hxn : es.length ≤ 1048576 := by omega
    have CS := Lib.hid (fun W A c (h : SlG W A es.length es) => specGraphText N A es.length c es W h hxn)
    have CI := Lib.hid (fun W A c (h : SlG W A es.length es) (h2 : Pow10 W) => implGraphText N A es.length c es W h hxn h2)
    have CE := Lib.hid (fun W A c A' c' (h1 : SlG W A es.length es) (h2 : SlG W A' es.length es) => eqGraph_any N A A' es.length c c' es W h1 h2 (by omega))
    generalize graphT N es = ok at CS CI
    have HT := Lib.hid ht
    clear hin hb hel ht
    go_enter Tryd.func3, Tryd.ntmps3
    go_wp2_with fail
    refine (CZ.out _).mono ?_
    rintro e wa ⟨rfl, hba⟩
    have B0 := Lib.hid ((NBox.new w N A n c 24).below hba)
    have HA := Lib.hid (g_chain (below_a1 w _) hba)
    obtain ⟨l0, c00, c01⟩ := B0.out
    clear hba
    go_wp2_with fail
    refine (CT.out _ HA.out).mono ?_
    rintro e wb ⟨A1, c1, rfl, ho1, hbb⟩
    have B1 := Lib.hid (B0.out.below hbb)
    have HB := Lib.hid (g_chain HA.out hbb)
    have D1 := Lib.hid (SlG.of_own ho1 rfl)
    clear hbb ho1 c00 c01 l0
    go_wp2_with fail
    refine (CS.out _ _ _ D1.out).mono ?_
    rintro e wc ⟨rfl, hbc⟩
    have B2 := Lib.hid (B1.out.below hbc)
    have HC := Lib.hid (g_chain HB.out hbc)
    obtain ⟨l0, c00, c01⟩ := B2.out
    clear hbc
    go_wp2_with fail
    refine (CT.out _ HC.out).mono ?_
    rintro e wd ⟨A2, c2, rfl, ho2, hbd⟩
    have X2 := Lib.hid (NBox.new wd N A2 es.length c2 29)
    have D2 := Lib.hid ((SlG.of_own ho2 rfl).below (below_a1 wd (.cells #[.int .i64 N, .slice A2 es.length c2] 29)))
    have B3 := Lib.hid ((B2.out.below hbd).below (below_a1 wd (.cells #[.int .i64 N, .slice A2 es.length c2] 29)))
    have HD := Lib.hid (g_chain (g_chain HC.out hbd) (below_a1 wd (.cells #[.int .i64 N, .slice A2 es.length c2] 29)))
    clear hbd ho2 c00 c01 l0
    go_wp2_with fail
    refine (CI.out _ _ _ D2.out (HT.out.below HD.out)).mono ?_
    rintro e we ⟨rfl, hbe⟩
    have B4 := Lib.hid (B3.out.below hbe)
    have X4 := Lib.hid (X2.out.below hbe)
    have D4 := Lib.hid (D2.out.below hbe)
    have HE := Lib.hid (g_chain HD.out hbe)
    obtain ⟨l0, c00, c01⟩ := B4.out
    obtain ⟨l1, c10, c11⟩ := X4.out
    clear hbe
    go_wp2
    go_region_with (first
      | (go_at_call 8; ((with_reducible refine (CT.out _ (by first | exact HE.out | exact HE.out.drew | exact HE.out.drew.drew)).mono ?_)); rintro e wf ⟨A3, c3, rfl, ho3, hbf⟩; obtain ⟨l2, c20, c21⟩ := X4.out.keep hbf.size (hbf.block _ X4.out.lt); have D5 := Lib.hid (D4.out.keep (w' := wf) hbf.size hbf.block); have D6 := Lib.hid (SlG.of_own ho3 rfl))
      | (go_at_call 10; ((with_reducible refine (CE.out _ _ _ _ _ D5.out D6.out).mono ?_)); rintro e wg ⟨rfl, hbg⟩))
    all_goals
      go_wp2
      go_ret
      exact ⟨rfl, g_chain (g_chain HE.out.drew hbf) hbg⟩
  · rw [leftG_neg (by omega)] at CZ
    clear hin hb ht
    go_enter Tryd.func3, Tryd.ntmps3
    go_wp2_with fail
    refine (CZ.out _).mono ?_
    rintro e wa ⟨rfl, hba⟩
    go_wp2
    go_ret
    exact ⟨rfl, g_chain (below_a1 w _) hba⟩
end Go.Proofs.YtmlfhjkogcabiaaDoor
