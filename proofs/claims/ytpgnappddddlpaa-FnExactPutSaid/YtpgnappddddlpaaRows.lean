/-
  No cell of these rows narrows 'for every input' (looked for: loops, veiled, ifaces, maps, wideKeys, modest, calm, conditions, laid).
  DERIVED. THE GIVEN ROWS OF THIS SEAT. 10 by the template 'for every input the law returns true; each argument reads behind the call as it read before'; 0 by the template 'total and deterministic' (their statements: YtpgnappddddlpaaTotals.lean).
  GIVEN WITH THE SEED: the statements are not yours to turn. If you find one false, say at which input.
  Laid BY PROGRAM, IN A SANDBOX (cutbox-rows.mjs): the forced cells as the released guide's own fill.sh prints them over the translation 446fd3743b9a0f2d… (all of the seat's roots in one cut). By AI agents, Wed Nov 11 2026. No macro, syntax, notation, axiom, sorry.
-/
import Derived.Test.YtpgnappddddlpaaChecked
import GoSem.Claim
import GoSem.ClaimJoined
import GoSem.ClaimMapViews
import Derived.JoinedTies
import Derived.KernelRfl
namespace Go.Proofs.Ytpgnappddddlpaa
/- THE CELL 'sum', in the pinned program and in every row, IS THE sha256 OF THE DUMP (.gsa) THAT YtpgnappddddlpaaProg.lean LOADS. Nothing in Lean hashes anything: it is a label: what it is worth is what the hold of that sum in a sandbox is worth. -/
noncomputable def Try.pinned : Pinned := { name := "ytpgnappddddlpaa", sum := "446fd3743b9a0f2dd7ba3b711d14a613ef88ce1c8b42872af0d57dfa94c65483", checked := Try.checked }
namespace Rows
def none {H : Type} : Left H := { results := [], args := [] }

/-- 'laws.FnFarm': WHATEVER THE INPUT: true; the input reads as it did. -/
def fnFarmSpec : ChangeSpec := { name := "fnFarm", fn := fun _ => fun
  | [d] => { results := [.lit (.bool true)], args := [d] }
  | _ => none }
def fnFarmRow : OpenClaim := { program := "ytpgnappddddlpaa", sum := "446fd3743b9a0f2dd7ba3b711d14a613ef88ce1c8b42872af0d57dfa94c65483", func := "loop.example/g00671/laws.FnFarm", spec := "fnFarm", unfollowed := true, recurses := true, plainKeys := false, apart := false }
def FnFarmSaid : Prop := fnFarmRow.holds Try.pinned (OpenSpec.ofChange fnFarmSpec)

/-- ITS FALSE NEIGHBOUR: 'it returns false'. Refute it at one input. -/
def fnFarmWrong : ChangeSpec := { name := "fnFarm", fn := fun _ => fun
  | [d] => { results := [.lit (.bool false)], args := [d] }
  | _ => none }
def FnFarmWrongFalsely : Prop := fnFarmRow.holds Try.pinned (OpenSpec.ofChange fnFarmWrong)

/-- 'laws.FnExactFarmOk': WHATEVER THE INPUT: true; the input reads as it did. -/
def fnExactFarmOkSpec : ChangeSpec := { name := "fnExactFarmOk", fn := fun _ => fun
  | [d] => { results := [.lit (.bool true)], args := [d] }
  | _ => none }
def fnExactFarmOkRow : OpenClaim := { program := "ytpgnappddddlpaa", sum := "446fd3743b9a0f2dd7ba3b711d14a613ef88ce1c8b42872af0d57dfa94c65483", func := "loop.example/g00671/laws.FnExactFarmOk", spec := "fnExactFarmOk", unfollowed := true, recurses := true, plainKeys := false, apart := false }
def FnExactFarmOkSaid : Prop := fnExactFarmOkRow.holds Try.pinned (OpenSpec.ofChange fnExactFarmOkSpec)

/-- ITS FALSE NEIGHBOUR: 'it returns false'. Refute it at one input. -/
def fnExactFarmOkWrong : ChangeSpec := { name := "fnExactFarmOk", fn := fun _ => fun
  | [d] => { results := [.lit (.bool false)], args := [d] }
  | _ => none }
def FnExactFarmOkWrongFalsely : Prop := fnExactFarmOkRow.holds Try.pinned (OpenSpec.ofChange fnExactFarmOkWrong)

/-- 'laws.FnExactFarmOf': WHATEVER THE INPUT: true; the input reads as it did. -/
def fnExactFarmOfSpec : ChangeSpec := { name := "fnExactFarmOf", fn := fun _ => fun
  | [d1, d2, d3] => { results := [.lit (.bool true)], args := [d1, d2, d3] }
  | _ => none }
def fnExactFarmOfRow : OpenClaim := { program := "ytpgnappddddlpaa", sum := "446fd3743b9a0f2dd7ba3b711d14a613ef88ce1c8b42872af0d57dfa94c65483", func := "loop.example/g00671/laws.FnExactFarmOf", spec := "fnExactFarmOf", unfollowed := true, recurses := true, plainKeys := false, apart := false }
def FnExactFarmOfSaid : Prop := fnExactFarmOfRow.holds Try.pinned (OpenSpec.ofChange fnExactFarmOfSpec)

/-- ITS FALSE NEIGHBOUR: 'it returns false'. Refute it at one input. -/
def fnExactFarmOfWrong : ChangeSpec := { name := "fnExactFarmOf", fn := fun _ => fun
  | [d1, d2, d3] => { results := [.lit (.bool false)], args := [d1, d2, d3] }
  | _ => none }
def FnExactFarmOfWrongFalsely : Prop := fnExactFarmOfRow.holds Try.pinned (OpenSpec.ofChange fnExactFarmOfWrong)

/-- 'laws.FnExactFarmGraph': WHATEVER THE INPUT: true; the input reads as it did. -/
def fnExactFarmGraphSpec : ChangeSpec := { name := "fnExactFarmGraph", fn := fun _ => fun
  | [d] => { results := [.lit (.bool true)], args := [d] }
  | _ => none }
def fnExactFarmGraphRow : OpenClaim := { program := "ytpgnappddddlpaa", sum := "446fd3743b9a0f2dd7ba3b711d14a613ef88ce1c8b42872af0d57dfa94c65483", func := "loop.example/g00671/laws.FnExactFarmGraph", spec := "fnExactFarmGraph", unfollowed := true, recurses := true, plainKeys := false, apart := false }
def FnExactFarmGraphSaid : Prop := fnExactFarmGraphRow.holds Try.pinned (OpenSpec.ofChange fnExactFarmGraphSpec)

/-- ITS FALSE NEIGHBOUR: 'it returns false'. Refute it at one input. -/
def fnExactFarmGraphWrong : ChangeSpec := { name := "fnExactFarmGraph", fn := fun _ => fun
  | [d] => { results := [.lit (.bool false)], args := [d] }
  | _ => none }
def FnExactFarmGraphWrongFalsely : Prop := fnExactFarmGraphRow.holds Try.pinned (OpenSpec.ofChange fnExactFarmGraphWrong)

/-- 'laws.FnExactFarmVals': WHATEVER THE INPUT: true; the input reads as it did. -/
def fnExactFarmValsSpec : ChangeSpec := { name := "fnExactFarmVals", fn := fun _ => fun
  | [d] => { results := [.lit (.bool true)], args := [d] }
  | _ => none }
def fnExactFarmValsRow : OpenClaim := { program := "ytpgnappddddlpaa", sum := "446fd3743b9a0f2dd7ba3b711d14a613ef88ce1c8b42872af0d57dfa94c65483", func := "loop.example/g00671/laws.FnExactFarmVals", spec := "fnExactFarmVals", unfollowed := true, recurses := true, plainKeys := false, apart := false }
def FnExactFarmValsSaid : Prop := fnExactFarmValsRow.holds Try.pinned (OpenSpec.ofChange fnExactFarmValsSpec)

/-- ITS FALSE NEIGHBOUR: 'it returns false'. Refute it at one input. -/
def fnExactFarmValsWrong : ChangeSpec := { name := "fnExactFarmVals", fn := fun _ => fun
  | [d] => { results := [.lit (.bool false)], args := [d] }
  | _ => none }
def FnExactFarmValsWrongFalsely : Prop := fnExactFarmValsRow.holds Try.pinned (OpenSpec.ofChange fnExactFarmValsWrong)

/-- 'laws.FnExactFarmWith': WHATEVER THE INPUT: true; the input reads as it did. -/
def fnExactFarmWithSpec : ChangeSpec := { name := "fnExactFarmWith", fn := fun _ => fun
  | [d1, d2] => { results := [.lit (.bool true)], args := [d1, d2] }
  | _ => none }
def fnExactFarmWithRow : OpenClaim := { program := "ytpgnappddddlpaa", sum := "446fd3743b9a0f2dd7ba3b711d14a613ef88ce1c8b42872af0d57dfa94c65483", func := "loop.example/g00671/laws.FnExactFarmWith", spec := "fnExactFarmWith", unfollowed := true, recurses := true, plainKeys := false, apart := false }
def FnExactFarmWithSaid : Prop := fnExactFarmWithRow.holds Try.pinned (OpenSpec.ofChange fnExactFarmWithSpec)

/-- ITS FALSE NEIGHBOUR: 'it returns false'. Refute it at one input. -/
def fnExactFarmWithWrong : ChangeSpec := { name := "fnExactFarmWith", fn := fun _ => fun
  | [d1, d2] => { results := [.lit (.bool false)], args := [d1, d2] }
  | _ => none }
def FnExactFarmWithWrongFalsely : Prop := fnExactFarmWithRow.holds Try.pinned (OpenSpec.ofChange fnExactFarmWithWrong)

/-- 'laws.FnExactLoad': WHATEVER THE INPUT: true; the input reads as it did. -/
def fnExactLoadSpec : ChangeSpec := { name := "fnExactLoad", fn := fun _ => fun
  | [d1, d2] => { results := [.lit (.bool true)], args := [d1, d2] }
  | _ => none }
def fnExactLoadRow : OpenClaim := { program := "ytpgnappddddlpaa", sum := "446fd3743b9a0f2dd7ba3b711d14a613ef88ce1c8b42872af0d57dfa94c65483", func := "loop.example/g00671/laws.FnExactLoad", spec := "fnExactLoad", unfollowed := true, recurses := true, plainKeys := false, apart := false }
def FnExactLoadSaid : Prop := fnExactLoadRow.holds Try.pinned (OpenSpec.ofChange fnExactLoadSpec)

/-- ITS FALSE NEIGHBOUR: 'it returns false'. Refute it at one input. -/
def fnExactLoadWrong : ChangeSpec := { name := "fnExactLoad", fn := fun _ => fun
  | [d1, d2] => { results := [.lit (.bool false)], args := [d1, d2] }
  | _ => none }
def FnExactLoadWrongFalsely : Prop := fnExactLoadRow.holds Try.pinned (OpenSpec.ofChange fnExactLoadWrong)

/-- 'laws.FnExactPut': WHATEVER THE INPUT: true; the input reads as it did. -/
def fnExactPutSpec : ChangeSpec := { name := "fnExactPut", fn := fun _ => fun
  | [d1, d2] => { results := [.lit (.bool true)], args := [d1, d2] }
  | _ => none }
def fnExactPutRow : OpenClaim := { program := "ytpgnappddddlpaa", sum := "446fd3743b9a0f2dd7ba3b711d14a613ef88ce1c8b42872af0d57dfa94c65483", func := "loop.example/g00671/laws.FnExactPut", spec := "fnExactPut", unfollowed := true, recurses := true, plainKeys := false, apart := false }
def FnExactPutSaid : Prop := fnExactPutRow.holds Try.pinned (OpenSpec.ofChange fnExactPutSpec)

/-- ITS FALSE NEIGHBOUR: 'it returns false'. Refute it at one input. -/
def fnExactPutWrong : ChangeSpec := { name := "fnExactPut", fn := fun _ => fun
  | [d1, d2] => { results := [.lit (.bool false)], args := [d1, d2] }
  | _ => none }
def FnExactPutWrongFalsely : Prop := fnExactPutRow.holds Try.pinned (OpenSpec.ofChange fnExactPutWrong)

/-- 'laws.FnExactResidents': WHATEVER THE INPUT: true; the input reads as it did. -/
def fnExactResidentsSpec : ChangeSpec := { name := "fnExactResidents", fn := fun _ => fun
  | [d] => { results := [.lit (.bool true)], args := [d] }
  | _ => none }
def fnExactResidentsRow : OpenClaim := { program := "ytpgnappddddlpaa", sum := "446fd3743b9a0f2dd7ba3b711d14a613ef88ce1c8b42872af0d57dfa94c65483", func := "loop.example/g00671/laws.FnExactResidents", spec := "fnExactResidents", unfollowed := true, recurses := true, plainKeys := false, apart := false }
def FnExactResidentsSaid : Prop := fnExactResidentsRow.holds Try.pinned (OpenSpec.ofChange fnExactResidentsSpec)

/-- ITS FALSE NEIGHBOUR: 'it returns false'. Refute it at one input. -/
def fnExactResidentsWrong : ChangeSpec := { name := "fnExactResidents", fn := fun _ => fun
  | [d] => { results := [.lit (.bool false)], args := [d] }
  | _ => none }
def FnExactResidentsWrongFalsely : Prop := fnExactResidentsRow.holds Try.pinned (OpenSpec.ofChange fnExactResidentsWrong)

/-- 'laws.FnExactCut': WHATEVER THE INPUT: true; the input reads as it did. -/
def fnExactCutSpec : ChangeSpec := { name := "fnExactCut", fn := fun _ => fun
  | [d1, d2] => { results := [.lit (.bool true)], args := [d1, d2] }
  | _ => none }
def fnExactCutRow : OpenClaim := { program := "ytpgnappddddlpaa", sum := "446fd3743b9a0f2dd7ba3b711d14a613ef88ce1c8b42872af0d57dfa94c65483", func := "loop.example/g00671/laws.FnExactCut", spec := "fnExactCut", unfollowed := true, recurses := true, plainKeys := false, apart := false }
def FnExactCutSaid : Prop := fnExactCutRow.holds Try.pinned (OpenSpec.ofChange fnExactCutSpec)

/-- ITS FALSE NEIGHBOUR: 'it returns false'. Refute it at one input. -/
def fnExactCutWrong : ChangeSpec := { name := "fnExactCut", fn := fun _ => fun
  | [d1, d2] => { results := [.lit (.bool false)], args := [d1, d2] }
  | _ => none }
def FnExactCutWrongFalsely : Prop := fnExactCutRow.holds Try.pinned (OpenSpec.ofChange fnExactCutWrong)

/- THE SECOND FORM. 'bulk': how many values and letters a reading holds, each counted each time it is reached (what is shared counts as often as it is met; a slice's spare places count too). A statement '..UptoSaid' is the law's where the arguments, and the package variables that the reading takes, are together of bulk at most 1048576: NARROWER than '..Said'. Prove '..Said' where nothing that the law and all that it calls make is longer than what came in: it says more and counts as full. Else prove '..UptoSaid'. A law counts once. -/
mutual
def uptoBulk {H : Type} : DataW H → Nat
  | .lit (.string bytes) => bytes.length + 1
  | .lit _ => 1
  | .nil => 1
  | .ptr d => uptoBulk d + 1
  | .slice elems spare => uptoBulkAll elems + uptoBulkAll spare + 1
  | .agg parts => uptoBulkAll parts + 1
  | .iface _ d => uptoBulk d + 1
  | .map entries => uptoBulkEntries entries + 1
  | .held _ => 1
def uptoBulkAll {H : Type} : List (DataW H) → Nat
  | [] => 0
  | d :: r => uptoBulk d + uptoBulkAll r
def uptoBulkEntries {H : Type} : List (Lit × DataW H) → Nat
  | [] => 0
  | x :: r => uptoBulkEntry x + uptoBulkEntries r
def uptoBulkEntry {H : Type} : Lit × DataW H → Nat
  | (.string bytes, d) => bytes.length + uptoBulk d + 1
  | (_, d) => uptoBulk d + 1
 end
def uptoSmall : (H : Type) → List (DataW H) → Bool := fun _ ds => decide (uptoBulkAll ds ≤ 1048576)
def OpenSpec.upto (s : _root_.Go.ChangeSpec) : _root_.Go.OpenSpec := { _root_.Go.OpenSpec.ofChange s with cond := some uptoSmall }

/-- 'laws.FnFarm', WHERE WHAT IT READS IS OF BULK AT MOST 1048576: true; the input reads as it did. -/
def fnFarmUptoRow : OpenClaim := { program := "ytpgnappddddlpaa", sum := "446fd3743b9a0f2dd7ba3b711d14a613ef88ce1c8b42872af0d57dfa94c65483", func := "loop.example/g00671/laws.FnFarm", spec := "fnFarm", unfollowed := true, recurses := true, plainKeys := false, apart := false, narrowed := true }
def FnFarmUptoSaid : Prop := fnFarmUptoRow.holds Try.pinned (OpenSpec.upto fnFarmSpec)

/-- 'laws.FnExactFarmOk', WHERE WHAT IT READS IS OF BULK AT MOST 1048576: true; the input reads as it did. -/
def fnExactFarmOkUptoRow : OpenClaim := { program := "ytpgnappddddlpaa", sum := "446fd3743b9a0f2dd7ba3b711d14a613ef88ce1c8b42872af0d57dfa94c65483", func := "loop.example/g00671/laws.FnExactFarmOk", spec := "fnExactFarmOk", unfollowed := true, recurses := true, plainKeys := false, apart := false, narrowed := true }
def FnExactFarmOkUptoSaid : Prop := fnExactFarmOkUptoRow.holds Try.pinned (OpenSpec.upto fnExactFarmOkSpec)

/-- 'laws.FnExactFarmOf', WHERE WHAT IT READS IS OF BULK AT MOST 1048576: true; the input reads as it did. -/
def fnExactFarmOfUptoRow : OpenClaim := { program := "ytpgnappddddlpaa", sum := "446fd3743b9a0f2dd7ba3b711d14a613ef88ce1c8b42872af0d57dfa94c65483", func := "loop.example/g00671/laws.FnExactFarmOf", spec := "fnExactFarmOf", unfollowed := true, recurses := true, plainKeys := false, apart := false, narrowed := true }
def FnExactFarmOfUptoSaid : Prop := fnExactFarmOfUptoRow.holds Try.pinned (OpenSpec.upto fnExactFarmOfSpec)

/-- 'laws.FnExactFarmGraph', WHERE WHAT IT READS IS OF BULK AT MOST 1048576: true; the input reads as it did. -/
def fnExactFarmGraphUptoRow : OpenClaim := { program := "ytpgnappddddlpaa", sum := "446fd3743b9a0f2dd7ba3b711d14a613ef88ce1c8b42872af0d57dfa94c65483", func := "loop.example/g00671/laws.FnExactFarmGraph", spec := "fnExactFarmGraph", unfollowed := true, recurses := true, plainKeys := false, apart := false, narrowed := true }
def FnExactFarmGraphUptoSaid : Prop := fnExactFarmGraphUptoRow.holds Try.pinned (OpenSpec.upto fnExactFarmGraphSpec)

/-- 'laws.FnExactFarmVals', WHERE WHAT IT READS IS OF BULK AT MOST 1048576: true; the input reads as it did. -/
def fnExactFarmValsUptoRow : OpenClaim := { program := "ytpgnappddddlpaa", sum := "446fd3743b9a0f2dd7ba3b711d14a613ef88ce1c8b42872af0d57dfa94c65483", func := "loop.example/g00671/laws.FnExactFarmVals", spec := "fnExactFarmVals", unfollowed := true, recurses := true, plainKeys := false, apart := false, narrowed := true }
def FnExactFarmValsUptoSaid : Prop := fnExactFarmValsUptoRow.holds Try.pinned (OpenSpec.upto fnExactFarmValsSpec)

/-- 'laws.FnExactFarmWith', WHERE WHAT IT READS IS OF BULK AT MOST 1048576: true; the input reads as it did. -/
def fnExactFarmWithUptoRow : OpenClaim := { program := "ytpgnappddddlpaa", sum := "446fd3743b9a0f2dd7ba3b711d14a613ef88ce1c8b42872af0d57dfa94c65483", func := "loop.example/g00671/laws.FnExactFarmWith", spec := "fnExactFarmWith", unfollowed := true, recurses := true, plainKeys := false, apart := false, narrowed := true }
def FnExactFarmWithUptoSaid : Prop := fnExactFarmWithUptoRow.holds Try.pinned (OpenSpec.upto fnExactFarmWithSpec)

/-- 'laws.FnExactLoad', WHERE WHAT IT READS IS OF BULK AT MOST 1048576: true; the input reads as it did. -/
def fnExactLoadUptoRow : OpenClaim := { program := "ytpgnappddddlpaa", sum := "446fd3743b9a0f2dd7ba3b711d14a613ef88ce1c8b42872af0d57dfa94c65483", func := "loop.example/g00671/laws.FnExactLoad", spec := "fnExactLoad", unfollowed := true, recurses := true, plainKeys := false, apart := false, narrowed := true }
def FnExactLoadUptoSaid : Prop := fnExactLoadUptoRow.holds Try.pinned (OpenSpec.upto fnExactLoadSpec)

/-- 'laws.FnExactPut', WHERE WHAT IT READS IS OF BULK AT MOST 1048576: true; the input reads as it did. -/
def fnExactPutUptoRow : OpenClaim := { program := "ytpgnappddddlpaa", sum := "446fd3743b9a0f2dd7ba3b711d14a613ef88ce1c8b42872af0d57dfa94c65483", func := "loop.example/g00671/laws.FnExactPut", spec := "fnExactPut", unfollowed := true, recurses := true, plainKeys := false, apart := false, narrowed := true }
def FnExactPutUptoSaid : Prop := fnExactPutUptoRow.holds Try.pinned (OpenSpec.upto fnExactPutSpec)

/-- 'laws.FnExactResidents', WHERE WHAT IT READS IS OF BULK AT MOST 1048576: true; the input reads as it did. -/
def fnExactResidentsUptoRow : OpenClaim := { program := "ytpgnappddddlpaa", sum := "446fd3743b9a0f2dd7ba3b711d14a613ef88ce1c8b42872af0d57dfa94c65483", func := "loop.example/g00671/laws.FnExactResidents", spec := "fnExactResidents", unfollowed := true, recurses := true, plainKeys := false, apart := false, narrowed := true }
def FnExactResidentsUptoSaid : Prop := fnExactResidentsUptoRow.holds Try.pinned (OpenSpec.upto fnExactResidentsSpec)

/-- 'laws.FnExactCut', WHERE WHAT IT READS IS OF BULK AT MOST 1048576: true; the input reads as it did. -/
def fnExactCutUptoRow : OpenClaim := { program := "ytpgnappddddlpaa", sum := "446fd3743b9a0f2dd7ba3b711d14a613ef88ce1c8b42872af0d57dfa94c65483", func := "loop.example/g00671/laws.FnExactCut", spec := "fnExactCut", unfollowed := true, recurses := true, plainKeys := false, apart := false, narrowed := true }
def FnExactCutUptoSaid : Prop := fnExactCutUptoRow.holds Try.pinned (OpenSpec.upto fnExactCutSpec)

end Rows
end Go.Proofs.Ytpgnappddddlpaa
