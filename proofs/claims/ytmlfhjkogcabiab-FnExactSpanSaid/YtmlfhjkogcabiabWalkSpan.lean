/- The walk of the law FnExactSpan: it returns true and writes nothing that was there. -/
import Derived.Test.YtmlfhjkogcabiabEndsS
import Derived.Test.YtmlfhjkogcabiabEndsI
import Derived.Test.YtmlfhjkogcabiabIntArg
import Derived.Test.YtmlfhjkogcabiabLawInts
namespace Go.Proofs.Ytmlfhjkogcabiab
open Go.RowKit

set_option maxRecDepth 20000 in
set_option maxHeartbeats 4000000 in
theorem walkSpan (A : Option Addr) (n c : Nat) (es : List Int) (v : Int) (w : World) (hin : IntsIn w A n c es) (_hv : (Lit.int .i64 v).wf = true) :
    Calls Try.prog 7 #[.slice A n c, .int .i64 v] w fun e w' => e = .returned (.bool true) ∧ Below w.heap.size w w' := by
  by_cases hb : n ≤ 1048576
  · have CT := Lib.hid (fun W (h : Below w.heap.size w W) => copyInts_any A n c es W (hin.g.below h) (by omega))
    have CS := Lib.hid (fun W A c (h : SlI W A n es) => specSpan A n c es v W h hb)
    have CI := Lib.hid (fun W A c (h : SlI W A n es) => implSpan A n c es v W h hb)
    have CQ := Lib.hid (fun W A A' c c' (h1 : SlI W A n es) (h2 : SlI W A' n es) => eqInts_any A A' n c c' es W h1 h2 (by omega))
    have dsz : decide ((1048576 : Int) < (n : Int)) = false := by simp; omega
    unfold TwoP at CI
    generalize (spanR es v).1 = q at CS CI
    generalize (spanR es v).2 = r at CS CI
    have hq : (q == q) = true := by simp
    have hr : (r == r) = true := by simp
    clear hin
    go_enter Try.func7, Try.ntmps7
    go_wp2_with fail
    refine (CT.out _ (Below.refl _ _)).mono ?_
    rintro e wa ⟨A1, c1, rfl, ho1, hba⟩
    have HA := Lib.hid hba
    have D1 := Lib.hid ho1.rd
    clear hba ho1
    go_wp2_with fail
    refine (CS.out _ _ _ D1.out).mono ?_
    rintro e wb ⟨rfl, hbb⟩
    have HB := Lib.hid (g_chain HA.out hbb)
    clear hbb
    go_wp2_with fail
    refine (CT.out _ HB.out).mono ?_
    rintro e wc ⟨A2, c2, rfl, ho2, hbc⟩
    have HC := Lib.hid (g_chain HB.out hbc)
    have D2 := Lib.hid ho2.rd
    clear hbc ho2
    go_wp2_with fail
    refine (CI.out _ _ _ D2.out).mono ?_
    rintro e wd ⟨rfl, hbd⟩
    have HD := Lib.hid (g_chain HC.out hbd)
    have D3 := Lib.hid (D2.out.below hbd)
    clear hbd
    go_wp2_with fail
    refine (CT.out _ HD.out).mono ?_
    rintro e we ⟨A4, c4, rfl, ho4, hbe⟩
    have HE := Lib.hid (g_chain HD.out hbe)
    have D4 := Lib.hid ho4.rd
    have D5 := Lib.hid (D3.out.below hbe)
    clear hbe ho4
    go_wp2_with fail
    refine (CQ.out _ _ _ _ _ D5.out D4.out).mono ?_
    rintro e wf ⟨rfl, hbf⟩
    go_wp2
    go_ret
    exact ⟨rfl, g_chain HE.out hbf⟩
  · have dsz : decide ((1048576 : Int) < (n : Int)) = true := by simp; omega
    have hl := hin.l
    unfold maxLen at hl
    clear hin
    go_enter Try.func7, Try.ntmps7
    go_wp2
    go_ret
    exact ⟨rfl, Below.refl _ _⟩
end Go.Proofs.Ytmlfhjkogcabiab
