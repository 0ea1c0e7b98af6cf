/- The contracts of FarmWith, the model's and the program's, over a farm that reads. Condition: at most 2^20 ends, shards and edges together, and 2^20 values. -/
import Derived.Test.YtpgnappddddlpaaKFarmWI
import Derived.Test.YtpgnappddddlpaaKFarmWS
namespace Go.Proofs.Ytpgnappddddlpaa
open Go.RowKit
set_option linter.unusedVariables false

section
variable (N : Int) (A : Option Addr) (n c : Nat) (E : List Int) (B : Option Addr) (m d : Nat) (ls : List SD) (V : Option Addr) (q eV : Nat) (vs : List Int) (w : World) (h : FRd w A n B m E ls) (hn : n ≤ 1048576) (hm : ls.length + (flatK ls).length ≤ 1048576) (hV : SlI w V q vs) (hq : q ≤ 1048576)
include h hn hm hV hq
theorem implFarmWith_k : Calls Try.prog 15 #[.agg #[.int .i64 N, .slice A n c, .slice B m d], .slice V q eV] w (MadeFB w (fwN N E ls vs) (fwE N E ls vs) (fwL N E ls vs) (withB N E ls vs)) := by
  obtain ⟨bs, q1, q2, rfl, q4, q5⟩ := h.open_ hm
  exact implFarmWith N A n c E B m d bs V q eV vs w q1 q2 hn q4 q5 hV hq
theorem specFarmWith_k : Calls Try.prog 40 #[.agg #[.int .i64 N, .slice A n c, .slice B m d], .slice V q eV] w (MadeFB w (fwN N E ls vs) (fwE N E ls vs) (fwL N E ls vs) (withB N E ls vs)) := by
  obtain ⟨bs, q1, q2, rfl, q4, q5⟩ := h.open_ hm
  exact specFarmWith N A n c E B m d bs V q eV vs w q1 q2 hn q4 q5 (by rw [sum_flat (bs := bs) (ls := sdL bs) rfl (fun d hd => (q2.each d hd).rd.len)]; omega) hV hq
end
end Go.Proofs.Ytpgnappddddlpaa
