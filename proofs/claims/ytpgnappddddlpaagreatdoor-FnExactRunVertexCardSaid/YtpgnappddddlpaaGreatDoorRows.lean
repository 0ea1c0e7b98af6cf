/-
  NARROWER THAN 'FOR EVERY INPUT', by the rows' own cells (each row's printed sentence says how): FnExactRunVertex: laid.
  DERIVED. THE GIVEN ROWS OF THIS SEAT. 1 by the template 'for every input the law returns true; each argument reads behind the call as it read before'; 0 by the template 'total and deterministic' (their statements: YtpgnappddddlpaaGreatDoorTotals.lean).
  GIVEN WITH THE SEED: the statements are not yours to turn. If you find one false, say at which input.
  Laid BY PROGRAM, IN A SANDBOX (cutbox-rows.mjs): the forced cells as the released guide's own fill.sh prints them over the translation 09b831573fea51bf… (all of the seat's roots in one cut). By AI agents, Wed Nov 11 2026. No macro, syntax, notation, axiom, sorry.
-/
import Derived.Test.YtpgnappddddlpaaGreatDoorChecked
import GoSem.Claim
import GoSem.ClaimJoined
import GoSem.ClaimMapViews
import Derived.JoinedTies
import Derived.KernelRfl
namespace Go.Proofs.YtpgnappddddlpaaGreatDoor
/- THE CELL 'sum', in the pinned program and in every row, IS THE sha256 OF THE DUMP (.gsa) THAT YtpgnappddddlpaaGreatDoorProg.lean LOADS. Nothing in Lean hashes anything: it is a label: what it is worth is what the hold of that sum in a sandbox is worth. -/
noncomputable def Tryz.pinned : Pinned := { name := "ytpgnappddddlpaagreatdoor", sum := "09b831573fea51bfab505f3694b0362b0080aa6213b0bec3f068304be9036015", checked := Tryz.checked }
namespace Rows
def none {H : Type} : Left H := { results := [], args := [] }

/- WHAT THE LISTED PACKAGE-LEVEL VARIABLES READ AS WHEN THE CALL BEGINS. Each datum BY PROGRAM (the guide's laid-datum.mjs) off the statement by which the dump's own 'gosem.cut.vars' lays the variable. In a bare row this is a premise. The card (YtpgnappddddlpaaGreatDoorCards.lean) ties it to the program's text. -/
def laid_loop_example_g00671_impl_weights {H : Type} : DataW H := .agg [.lit (.int .u8 1), .lit (.int .u8 2), .lit (.int .u8 4), .lit (.int .u8 8), .lit (.int .u8 16), .lit (.int .u8 32), .lit (.int .u8 64), .lit (.int .u8 128)]

/-- 'laws.FnExactRunVertex': WHATEVER THE INPUT: true; the input reads as it did. -/
def fnExactRunVertexSpec : ChangeSpec := { name := "fnExactRunVertex", vars := ["loop.example/g00671/impl.weights"], fn := fun _ => fun
  | [d1, d2, d3, d4, g1] => { results := [.lit (.bool true)], args := [d1, d2, d3, d4], vars := [g1] }
  | _ => none }
def fnExactRunVertexRow : OpenClaim := { program := "ytpgnappddddlpaagreatdoor", sum := "09b831573fea51bfab505f3694b0362b0080aa6213b0bec3f068304be9036015", func := "loop.example/g00671/laws.FnExactRunVertex", spec := "fnExactRunVertex", unfollowed := true, recurses := true, named := ["loop.example/g00671/impl.weights"], apart := false, laid := [("loop.example/g00671/impl.weights", laid_loop_example_g00671_impl_weights)] }
def FnExactRunVertexSaid : Prop := fnExactRunVertexRow.holds Tryz.pinned (OpenSpec.ofChange fnExactRunVertexSpec)

/-- ITS FALSE NEIGHBOUR: 'it returns false'. Refute it at one input. -/
def fnExactRunVertexWrong : ChangeSpec := { name := "fnExactRunVertex", vars := ["loop.example/g00671/impl.weights"], fn := fun _ => fun
  | [d1, d2, d3, d4, g1] => { results := [.lit (.bool false)], args := [d1, d2, d3, d4], vars := [g1] }
  | _ => none }
def FnExactRunVertexWrongFalsely : Prop := fnExactRunVertexRow.holds Tryz.pinned (OpenSpec.ofChange fnExactRunVertexWrong)

/- THE SECOND FORM. 'bulk': how many values and letters a reading holds, each counted each time it is reached (what is shared counts as often as it is met; a slice's spare places count too). A statement '..UptoSaid' is the law's where the arguments, and the package variables that the reading takes, are together of bulk at most 1048576: NARROWER than '..Said'. Prove '..Said' where nothing that the law and all that it calls make is longer than what came in: it says more and counts as full. Else prove '..UptoSaid'. A law counts once. -/
mutual
def uptoBulk {H : Type} : DataW H → Nat
  | .lit (.string bytes) => bytes.length + 1
  | .lit _ => 1
  | .nil => 1
  | .ptr d => uptoBulk d + 1
  | .slice elems spare => uptoBulkAll elems + uptoBulkAll spare + 1
  | .agg parts => uptoBulkAll parts + 1
  | .iface _ d => uptoBulk d + 1
  | .map entries => uptoBulkEntries entries + 1
  | .held _ => 1
def uptoBulkAll {H : Type} : List (DataW H) → Nat
  | [] => 0
  | d :: r => uptoBulk d + uptoBulkAll r
def uptoBulkEntries {H : Type} : List (Lit × DataW H) → Nat
  | [] => 0
  | x :: r => uptoBulkEntry x + uptoBulkEntries r
def uptoBulkEntry {H : Type} : Lit × DataW H → Nat
  | (.string bytes, d) => bytes.length + uptoBulk d + 1
  | (_, d) => uptoBulk d + 1
 end
def uptoSmall : (H : Type) → List (DataW H) → Bool := fun _ ds => decide (uptoBulkAll ds ≤ 1048576)
def OpenSpec.upto (s : _root_.Go.ChangeSpec) : _root_.Go.OpenSpec := { _root_.Go.OpenSpec.ofChange s with cond := some uptoSmall }

/-- 'laws.FnExactRunVertex', WHERE WHAT IT READS IS OF BULK AT MOST 1048576: true; the input reads as it did. -/
def fnExactRunVertexUptoRow : OpenClaim := { program := "ytpgnappddddlpaagreatdoor", sum := "09b831573fea51bfab505f3694b0362b0080aa6213b0bec3f068304be9036015", func := "loop.example/g00671/laws.FnExactRunVertex", spec := "fnExactRunVertex", unfollowed := true, recurses := true, named := ["loop.example/g00671/impl.weights"], apart := false, laid := [("loop.example/g00671/impl.weights", laid_loop_example_g00671_impl_weights)], narrowed := true }
def FnExactRunVertexUptoSaid : Prop := fnExactRunVertexUptoRow.holds Tryz.pinned (OpenSpec.upto fnExactRunVertexSpec)

end Rows
end Go.Proofs.YtpgnappddddlpaaGreatDoor
