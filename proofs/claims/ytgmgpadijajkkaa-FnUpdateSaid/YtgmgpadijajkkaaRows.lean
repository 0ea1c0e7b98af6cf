/-
  No cell of these rows narrows 'for every input' (looked for: loops, veiled, ifaces, maps, wideKeys, modest, calm, conditions, laid).
  DERIVED. THE GIVEN ROWS OF THIS SEAT. 6 by the template 'for every input the law returns true; each argument reads behind the call as it read before'; 0 by the template 'total and deterministic' (their statements: YtgmgpadijajkkaaTotals.lean).
  GIVEN WITH THE SEED: the statements are not yours to turn. If you find one false, say at which input.
  Laid BY PROGRAM, IN A SANDBOX (cutbox-rows.mjs): the forced cells as the released guide's own fill.sh prints them over the translation 180c18d9639ff5ee… (all of the seat's roots in one cut). By AI agents, Wed Nov 11 2026. No macro, syntax, notation, axiom, sorry.
-/
import Derived.Test.YtgmgpadijajkkaaChecked
import GoSem.Claim
import GoSem.ClaimJoined
import GoSem.ClaimMapViews
import Derived.JoinedTies
import Derived.KernelRfl
namespace Go.Proofs.Ytgmgpadijajkkaa
/- THE CELL 'sum', in the pinned program and in every row, IS THE sha256 OF THE DUMP (.gsa) THAT YtgmgpadijajkkaaProg.lean LOADS. Nothing in Lean hashes anything: it is a label: what it is worth is what the hold of that sum in a sandbox is worth. -/
noncomputable def Try.pinned : Pinned := { name := "ytgmgpadijajkkaa", sum := "180c18d9639ff5ee531279ea836a8936184d84a98676fff7844e60dcc9b6699d", checked := Try.checked }
namespace Rows
def none {H : Type} : Left H := { results := [], args := [] }

/-- 'laws.FnUpdate': WHATEVER THE INPUT: true; the input reads as it did. -/
def fnUpdateSpec : ChangeSpec := { name := "fnUpdate", fn := fun _ => fun
  | [d] => { results := [.lit (.bool true)], args := [d] }
  | _ => none }
def fnUpdateRow : OpenClaim := { program := "ytgmgpadijajkkaa", sum := "180c18d9639ff5ee531279ea836a8936184d84a98676fff7844e60dcc9b6699d", func := "loop.example/g00671/laws.FnUpdate", spec := "fnUpdate", unfollowed := true, recurses := true, apart := false }
def FnUpdateSaid : Prop := fnUpdateRow.holds Try.pinned (OpenSpec.ofChange fnUpdateSpec)

/-- ITS FALSE NEIGHBOUR: 'it returns false'. Refute it at one input. -/
def fnUpdateWrong : ChangeSpec := { name := "fnUpdate", fn := fun _ => fun
  | [d] => { results := [.lit (.bool false)], args := [d] }
  | _ => none }
def FnUpdateWrongFalsely : Prop := fnUpdateRow.holds Try.pinned (OpenSpec.ofChange fnUpdateWrong)

/-- 'laws.FnExactJobOk': WHATEVER THE INPUT: true; the input reads as it did. -/
def fnExactJobOkSpec : ChangeSpec := { name := "fnExactJobOk", fn := fun _ => fun
  | [d1, d2] => { results := [.lit (.bool true)], args := [d1, d2] }
  | _ => none }
def fnExactJobOkRow : OpenClaim := { program := "ytgmgpadijajkkaa", sum := "180c18d9639ff5ee531279ea836a8936184d84a98676fff7844e60dcc9b6699d", func := "loop.example/g00671/laws.FnExactJobOk", spec := "fnExactJobOk", unfollowed := true, recurses := true, apart := false }
def FnExactJobOkSaid : Prop := fnExactJobOkRow.holds Try.pinned (OpenSpec.ofChange fnExactJobOkSpec)

/-- ITS FALSE NEIGHBOUR: 'it returns false'. Refute it at one input. -/
def fnExactJobOkWrong : ChangeSpec := { name := "fnExactJobOk", fn := fun _ => fun
  | [d1, d2] => { results := [.lit (.bool false)], args := [d1, d2] }
  | _ => none }
def FnExactJobOkWrongFalsely : Prop := fnExactJobOkRow.holds Try.pinned (OpenSpec.ofChange fnExactJobOkWrong)

/-- 'laws.FnExactAddCap': WHATEVER THE INPUT: true; the input reads as it did. -/
def fnExactAddCapSpec : ChangeSpec := { name := "fnExactAddCap", fn := fun _ => fun
  | [d1, d2] => { results := [.lit (.bool true)], args := [d1, d2] }
  | _ => none }
def fnExactAddCapRow : OpenClaim := { program := "ytgmgpadijajkkaa", sum := "180c18d9639ff5ee531279ea836a8936184d84a98676fff7844e60dcc9b6699d", func := "loop.example/g00671/laws.FnExactAddCap", spec := "fnExactAddCap", apart := false }
def FnExactAddCapSaid : Prop := fnExactAddCapRow.holds Try.pinned (OpenSpec.ofChange fnExactAddCapSpec)

/-- ITS FALSE NEIGHBOUR: 'it returns false'. Refute it at one input. -/
def fnExactAddCapWrong : ChangeSpec := { name := "fnExactAddCap", fn := fun _ => fun
  | [d1, d2] => { results := [.lit (.bool false)], args := [d1, d2] }
  | _ => none }
def FnExactAddCapWrongFalsely : Prop := fnExactAddCapRow.holds Try.pinned (OpenSpec.ofChange fnExactAddCapWrong)

/-- 'laws.FnExactFirstVal': WHATEVER THE INPUT: true; the input reads as it did. -/
def fnExactFirstValSpec : ChangeSpec := { name := "fnExactFirstVal", fn := fun _ => fun
  | [d1, d2] => { results := [.lit (.bool true)], args := [d1, d2] }
  | _ => none }
def fnExactFirstValRow : OpenClaim := { program := "ytgmgpadijajkkaa", sum := "180c18d9639ff5ee531279ea836a8936184d84a98676fff7844e60dcc9b6699d", func := "loop.example/g00671/laws.FnExactFirstVal", spec := "fnExactFirstVal", unfollowed := true, recurses := true, apart := false }
def FnExactFirstValSaid : Prop := fnExactFirstValRow.holds Try.pinned (OpenSpec.ofChange fnExactFirstValSpec)

/-- ITS FALSE NEIGHBOUR: 'it returns false'. Refute it at one input. -/
def fnExactFirstValWrong : ChangeSpec := { name := "fnExactFirstVal", fn := fun _ => fun
  | [d1, d2] => { results := [.lit (.bool false)], args := [d1, d2] }
  | _ => none }
def FnExactFirstValWrongFalsely : Prop := fnExactFirstValRow.holds Try.pinned (OpenSpec.ofChange fnExactFirstValWrong)

/-- 'laws.FnExactFirstEdge': WHATEVER THE INPUT: true; the input reads as it did. -/
def fnExactFirstEdgeSpec : ChangeSpec := { name := "fnExactFirstEdge", fn := fun _ => fun
  | [d1, d2, d3, d4] => { results := [.lit (.bool true)], args := [d1, d2, d3, d4] }
  | _ => none }
def fnExactFirstEdgeRow : OpenClaim := { program := "ytgmgpadijajkkaa", sum := "180c18d9639ff5ee531279ea836a8936184d84a98676fff7844e60dcc9b6699d", func := "loop.example/g00671/laws.FnExactFirstEdge", spec := "fnExactFirstEdge", unfollowed := true, recurses := true, apart := false }
def FnExactFirstEdgeSaid : Prop := fnExactFirstEdgeRow.holds Try.pinned (OpenSpec.ofChange fnExactFirstEdgeSpec)

/-- ITS FALSE NEIGHBOUR: 'it returns false'. Refute it at one input. -/
def fnExactFirstEdgeWrong : ChangeSpec := { name := "fnExactFirstEdge", fn := fun _ => fun
  | [d1, d2, d3, d4] => { results := [.lit (.bool false)], args := [d1, d2, d3, d4] }
  | _ => none }
def FnExactFirstEdgeWrongFalsely : Prop := fnExactFirstEdgeRow.holds Try.pinned (OpenSpec.ofChange fnExactFirstEdgeWrong)

/-- 'laws.FnExactUpdate': WHATEVER THE INPUT: true; the input reads as it did. -/
def fnExactUpdateSpec : ChangeSpec := { name := "fnExactUpdate", fn := fun _ => fun
  | [d1, d2, d3, d4] => { results := [.lit (.bool true)], args := [d1, d2, d3, d4] }
  | _ => none }
def fnExactUpdateRow : OpenClaim := { program := "ytgmgpadijajkkaa", sum := "180c18d9639ff5ee531279ea836a8936184d84a98676fff7844e60dcc9b6699d", func := "loop.example/g00671/laws.FnExactUpdate", spec := "fnExactUpdate", unfollowed := true, recurses := true, apart := false }
def FnExactUpdateSaid : Prop := fnExactUpdateRow.holds Try.pinned (OpenSpec.ofChange fnExactUpdateSpec)

/-- ITS FALSE NEIGHBOUR: 'it returns false'. Refute it at one input. -/
def fnExactUpdateWrong : ChangeSpec := { name := "fnExactUpdate", fn := fun _ => fun
  | [d1, d2, d3, d4] => { results := [.lit (.bool false)], args := [d1, d2, d3, d4] }
  | _ => none }
def FnExactUpdateWrongFalsely : Prop := fnExactUpdateRow.holds Try.pinned (OpenSpec.ofChange fnExactUpdateWrong)

/- THE SECOND FORM. 'bulk': how many values and letters a reading holds, each counted each time it is reached (what is shared counts as often as it is met; a slice's spare places count too). A statement '..UptoSaid' is the law's where the arguments, and the package variables that the reading takes, are together of bulk at most 1048576: NARROWER than '..Said'. Prove '..Said' where nothing that the law and all that it calls make is longer than what came in: it says more and counts as full. Else prove '..UptoSaid'. A law counts once. -/
mutual
def uptoBulk {H : Type} : DataW H → Nat
  | .lit (.string bytes) => bytes.length + 1
  | .lit _ => 1
  | .nil => 1
  | .ptr d => uptoBulk d + 1
  | .slice elems spare => uptoBulkAll elems + uptoBulkAll spare + 1
  | .agg parts => uptoBulkAll parts + 1
  | .iface _ d => uptoBulk d + 1
  | .map entries => uptoBulkEntries entries + 1
  | .held _ => 1
def uptoBulkAll {H : Type} : List (DataW H) → Nat
  | [] => 0
  | d :: r => uptoBulk d + uptoBulkAll r
def uptoBulkEntries {H : Type} : List (Lit × DataW H) → Nat
  | [] => 0
  | x :: r => uptoBulkEntry x + uptoBulkEntries r
def uptoBulkEntry {H : Type} : Lit × DataW H → Nat
  | (.string bytes, d) => bytes.length + uptoBulk d + 1
  | (_, d) => uptoBulk d + 1
 end
def uptoSmall : (H : Type) → List (DataW H) → Bool := fun _ ds => decide (uptoBulkAll ds ≤ 1048576)
def OpenSpec.upto (s : _root_.Go.ChangeSpec) : _root_.Go.OpenSpec := { _root_.Go.OpenSpec.ofChange s with cond := some uptoSmall }

/-- 'laws.FnUpdate', WHERE WHAT IT READS IS OF BULK AT MOST 1048576: true; the input reads as it did. -/
def fnUpdateUptoRow : OpenClaim := { program := "ytgmgpadijajkkaa", sum := "180c18d9639ff5ee531279ea836a8936184d84a98676fff7844e60dcc9b6699d", func := "loop.example/g00671/laws.FnUpdate", spec := "fnUpdate", unfollowed := true, recurses := true, apart := false, narrowed := true }
def FnUpdateUptoSaid : Prop := fnUpdateUptoRow.holds Try.pinned (OpenSpec.upto fnUpdateSpec)

/-- 'laws.FnExactJobOk', WHERE WHAT IT READS IS OF BULK AT MOST 1048576: true; the input reads as it did. -/
def fnExactJobOkUptoRow : OpenClaim := { program := "ytgmgpadijajkkaa", sum := "180c18d9639ff5ee531279ea836a8936184d84a98676fff7844e60dcc9b6699d", func := "loop.example/g00671/laws.FnExactJobOk", spec := "fnExactJobOk", unfollowed := true, recurses := true, apart := false, narrowed := true }
def FnExactJobOkUptoSaid : Prop := fnExactJobOkUptoRow.holds Try.pinned (OpenSpec.upto fnExactJobOkSpec)

/-- 'laws.FnExactAddCap', WHERE WHAT IT READS IS OF BULK AT MOST 1048576: true; the input reads as it did. -/
def fnExactAddCapUptoRow : OpenClaim := { program := "ytgmgpadijajkkaa", sum := "180c18d9639ff5ee531279ea836a8936184d84a98676fff7844e60dcc9b6699d", func := "loop.example/g00671/laws.FnExactAddCap", spec := "fnExactAddCap", apart := false, narrowed := true }
def FnExactAddCapUptoSaid : Prop := fnExactAddCapUptoRow.holds Try.pinned (OpenSpec.upto fnExactAddCapSpec)

/-- 'laws.FnExactFirstVal', WHERE WHAT IT READS IS OF BULK AT MOST 1048576: true; the input reads as it did. -/
def fnExactFirstValUptoRow : OpenClaim := { program := "ytgmgpadijajkkaa", sum := "180c18d9639ff5ee531279ea836a8936184d84a98676fff7844e60dcc9b6699d", func := "loop.example/g00671/laws.FnExactFirstVal", spec := "fnExactFirstVal", unfollowed := true, recurses := true, apart := false, narrowed := true }
def FnExactFirstValUptoSaid : Prop := fnExactFirstValUptoRow.holds Try.pinned (OpenSpec.upto fnExactFirstValSpec)

/-- 'laws.FnExactFirstEdge', WHERE WHAT IT READS IS OF BULK AT MOST 1048576: true; the input reads as it did. -/
def fnExactFirstEdgeUptoRow : OpenClaim := { program := "ytgmgpadijajkkaa", sum := "180c18d9639ff5ee531279ea836a8936184d84a98676fff7844e60dcc9b6699d", func := "loop.example/g00671/laws.FnExactFirstEdge", spec := "fnExactFirstEdge", unfollowed := true, recurses := true, apart := false, narrowed := true }
def FnExactFirstEdgeUptoSaid : Prop := fnExactFirstEdgeUptoRow.holds Try.pinned (OpenSpec.upto fnExactFirstEdgeSpec)

/-- 'laws.FnExactUpdate', WHERE WHAT IT READS IS OF BULK AT MOST 1048576: true; the input reads as it did. -/
def fnExactUpdateUptoRow : OpenClaim := { program := "ytgmgpadijajkkaa", sum := "180c18d9639ff5ee531279ea836a8936184d84a98676fff7844e60dcc9b6699d", func := "loop.example/g00671/laws.FnExactUpdate", spec := "fnExactUpdate", unfollowed := true, recurses := true, apart := false, narrowed := true }
def FnExactUpdateUptoSaid : Prop := fnExactUpdateUptoRow.holds Try.pinned (OpenSpec.upto fnExactUpdateSpec)

end Rows
end Go.Proofs.Ytgmgpadijajkkaa
