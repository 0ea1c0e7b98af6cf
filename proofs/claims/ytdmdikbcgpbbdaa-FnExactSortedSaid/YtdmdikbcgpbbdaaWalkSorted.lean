/- The walk of the law FnExactSorted: it returns true and writes nothing that was there. -/
import Derived.Test.YtdmdikbcgpbbdaaSortS
import Derived.Test.YtdmdikbcgpbbdaaCmp
import Derived.Test.YtdmdikbcgpbbdaaRecLaw
import Derived.Test.YtdmdikbcgpbbdaaRecEq
import Derived.Test.YtdmdikbcgpbbdaaRecArg
namespace Go.Proofs.Ytdmdikbcgpbbdaa
open Go.RowKit

set_option maxRecDepth 20000 in
set_option maxHeartbeats 8000000 in
theorem walkSorted (A : Option Addr) (n c : Nat) (es : List GE) (w : World) (hin : RecsIn w A n c es) :
    Calls Try.prog 6 #[.slice A n c] w fun e w' => e = .returned (.bool true) ∧ Below w.heap.size w w' := by
  have CZ := Lib.hid (fun W => szRecs_any A n c 1048576 W hin.l (by omega) (by omega))
  have HS := Lib.hid hin.g
  by_cases hb : (n : Int) ≤ 1048576
  · rw [leftG_pos hb] at CZ
    have hp : (0 : Int) ≤ 1048576 - (n : Int) := by omega
    generalize (1048576 : Int) - (n : Int) = q at CZ hp
    have CT := Lib.hid (fun W (h : Below w.heap.size w W) => toRecs_any A n c es W (HS.out.below h) (by omega))
    have hel := hin.g.len
    have hxn : es.length ≤ 2097152 := by omega
    have CS := Lib.hid (fun W A c (h : SlG W A es.length es) => specSorted A es.length c es W h hxn)
    have CI := Lib.hid (fun W A c (h : SlG W A es.length es) => implSorted A es.length c es W h hxn)
    have CE := Lib.hid (fun W A c A' c' (h1 : SlG W A es.length es) (h2 : SlG W A' es.length es) => eqRecs_any A A' es.length c c' es W h1 h2 hxn)
    generalize sortedB es = r at CS CI
    clear hin hb hel hxn
    go_enter Try.func6, Try.ntmps6
    go_wp2_with fail
    refine (CZ.out _).mono ?_
    rintro e wa ⟨rfl, rfl⟩
    go_wp2_with fail
    refine (CT.out _ (Below.refl _ _)).mono ?_
    rintro e wb ⟨A1, c1, rfl, ho1, hbb⟩
    have HB := Lib.hid hbb
    have D1 := Lib.hid (SlG.of_own ho1 rfl)
    clear hbb ho1
    go_wp2_with fail
    refine (CS.out _ _ _ D1.out).mono ?_
    rintro e wc ⟨rfl, hbc⟩
    have HC := Lib.hid (g_chain HB.out hbc)
    clear hbc
    go_wp2_with fail
    refine (CT.out _ HC.out).mono ?_
    rintro e wd ⟨A2, c2, rfl, ho2, hbd⟩
    have HD := Lib.hid (g_chain HC.out hbd)
    have D2 := Lib.hid (SlG.of_own ho2 rfl)
    clear hbd ho2
    go_wp2_with fail
    refine (CI.out _ _ _ D2.out).mono ?_
    rintro e we ⟨rfl, hbe⟩
    have HE := Lib.hid (g_chain HD.out hbe)
    have D3 := Lib.hid (D2.out.below hbe)
    clear hbe
    cases r with
    | true =>
      go_wp2_with fail
      refine (CT.out _ HE.out).mono ?_
      rintro e wf ⟨A3, c3, rfl, ho3, hbf⟩
      have HF := Lib.hid (g_chain HE.out hbf)
      have D4 := Lib.hid (D3.out.below hbf)
      have D5 := Lib.hid (SlG.of_own ho3 rfl)
      clear hbf ho3
      go_wp2_with fail
      refine (CE.out _ _ _ _ _ D4.out D5.out).mono ?_
      rintro e wg ⟨rfl, hbg⟩
      go_wp2
      go_ret
      exact ⟨rfl, g_chain HF.out hbg⟩
    | false =>
      go_wp2_with fail
      refine (CT.out _ HE.out).mono ?_
      rintro e wf ⟨A3, c3, rfl, ho3, hbf⟩
      have HF := Lib.hid (g_chain HE.out hbf)
      have D4 := Lib.hid (D3.out.below hbf)
      have D5 := Lib.hid (SlG.of_own ho3 rfl)
      clear hbf ho3
      go_wp2_with fail
      refine (CE.out _ _ _ _ _ D4.out D5.out).mono ?_
      rintro e wg ⟨rfl, hbg⟩
      go_wp2
      go_ret
      exact ⟨rfl, g_chain HF.out hbg⟩
  · rw [leftG_neg (by omega)] at CZ
    clear hin hb
    go_enter Try.func6, Try.ntmps6
    go_wp2_with fail
    refine (CZ.out _).mono ?_
    rintro e wa ⟨rfl, rfl⟩
    go_wp2
    go_ret
    exact ⟨rfl, Below.refl _ _⟩
end Go.Proofs.Ytdmdikbcgpbbdaa
