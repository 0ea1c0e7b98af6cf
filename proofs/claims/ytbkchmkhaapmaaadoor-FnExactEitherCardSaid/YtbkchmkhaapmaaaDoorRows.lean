/-
  NARROWER THAN 'FOR EVERY INPUT', by the rows' own cells (each row's printed sentence says how): FnSets: laid · FnExactSetOk: laid · FnExactSetNew: laid · FnExactHas: laid · FnExactWith: laid · FnExactWithout: laid · FnExactMembers: laid · FnExactEither: laid · FnExactDigest: laid.
  DERIVED. THE GIVEN ROWS OF THIS SEAT. 9 by the template 'for every input the law returns true; each argument reads behind the call as it read before'; 0 by the template 'total and deterministic' (their statements: YtbkchmkhaapmaaaDoorTotals.lean).
  GIVEN WITH THE SEED: the statements are not yours to turn. If you find one false, say at which input.
  Laid BY PROGRAM, IN A SANDBOX (cutbox-rows.mjs): the forced cells as the released guide's own fill.sh prints them over the translation 852450eb860dafd0… (all of the seat's roots in one cut). By AI agents, Wed Nov 11 2026. No macro, syntax, notation, axiom, sorry.
-/
import Derived.Test.YtbkchmkhaapmaaaDoorChecked
import GoSem.Claim
import GoSem.ClaimJoined
import GoSem.ClaimMapViews
import Derived.JoinedTies
import Derived.KernelRfl
namespace Go.Proofs.YtbkchmkhaapmaaaDoor
/- THE CELL 'sum', in the pinned program and in every row, IS THE sha256 OF THE DUMP (.gsa) THAT YtbkchmkhaapmaaaDoorProg.lean LOADS. Nothing in Lean hashes anything: it is a label: what it is worth is what the hold of that sum in a sandbox is worth. -/
noncomputable def Tryd.pinned : Pinned := { name := "ytbkchmkhaapmaaadoor", sum := "852450eb860dafd0dcfabda8fbcd3d2e4949458b7e0b4e1773489d77a9313160", checked := Tryd.checked }
namespace Rows
def none {H : Type} : Left H := { results := [], args := [] }

/- WHAT THE LISTED PACKAGE-LEVEL VARIABLES READ AS WHEN THE CALL BEGINS. Each datum BY PROGRAM (the guide's laid-datum.mjs) off the statement by which the dump's own 'gosem.cut.vars' lays the variable. In a bare row this is a premise. The card (YtbkchmkhaapmaaaDoorCards.lean) ties it to the program's text. -/
def laid_loop_example_g00671_impl_weights {H : Type} : DataW H := .agg [.lit (.int .u8 1), .lit (.int .u8 2), .lit (.int .u8 4), .lit (.int .u8 8), .lit (.int .u8 16), .lit (.int .u8 32), .lit (.int .u8 64), .lit (.int .u8 128)]

/-- 'laws.FnSets': WHATEVER THE INPUT: true; the input reads as it did. -/
def fnSetsSpec : ChangeSpec := { name := "fnSets", vars := ["loop.example/g00671/impl.weights"], fn := fun _ => fun
  | [d, g1] => { results := [.lit (.bool true)], args := [d], vars := [g1] }
  | _ => none }
def fnSetsRow : OpenClaim := { program := "ytbkchmkhaapmaaadoor", sum := "852450eb860dafd0dcfabda8fbcd3d2e4949458b7e0b4e1773489d77a9313160", func := "loop.example/g00671/laws.FnSets", spec := "fnSets", unfollowed := true, recurses := true, named := ["loop.example/g00671/impl.weights"], apart := false, laid := [("loop.example/g00671/impl.weights", laid_loop_example_g00671_impl_weights)] }
def FnSetsSaid : Prop := fnSetsRow.holds Tryd.pinned (OpenSpec.ofChange fnSetsSpec)

/-- ITS FALSE NEIGHBOUR: 'it returns false'. Refute it at one input. -/
def fnSetsWrong : ChangeSpec := { name := "fnSets", vars := ["loop.example/g00671/impl.weights"], fn := fun _ => fun
  | [d, g1] => { results := [.lit (.bool false)], args := [d], vars := [g1] }
  | _ => none }
def FnSetsWrongFalsely : Prop := fnSetsRow.holds Tryd.pinned (OpenSpec.ofChange fnSetsWrong)

/-- 'laws.FnExactSetOk': WHATEVER THE INPUT: true; the input reads as it did. -/
def fnExactSetOkSpec : ChangeSpec := { name := "fnExactSetOk", vars := ["loop.example/g00671/impl.weights"], fn := fun _ => fun
  | [d, g1] => { results := [.lit (.bool true)], args := [d], vars := [g1] }
  | _ => none }
def fnExactSetOkRow : OpenClaim := { program := "ytbkchmkhaapmaaadoor", sum := "852450eb860dafd0dcfabda8fbcd3d2e4949458b7e0b4e1773489d77a9313160", func := "loop.example/g00671/laws.FnExactSetOk", spec := "fnExactSetOk", named := ["loop.example/g00671/impl.weights"], apart := false, laid := [("loop.example/g00671/impl.weights", laid_loop_example_g00671_impl_weights)] }
def FnExactSetOkSaid : Prop := fnExactSetOkRow.holds Tryd.pinned (OpenSpec.ofChange fnExactSetOkSpec)

/-- ITS FALSE NEIGHBOUR: 'it returns false'. Refute it at one input. -/
def fnExactSetOkWrong : ChangeSpec := { name := "fnExactSetOk", vars := ["loop.example/g00671/impl.weights"], fn := fun _ => fun
  | [d, g1] => { results := [.lit (.bool false)], args := [d], vars := [g1] }
  | _ => none }
def FnExactSetOkWrongFalsely : Prop := fnExactSetOkRow.holds Tryd.pinned (OpenSpec.ofChange fnExactSetOkWrong)

/-- 'laws.FnExactSetNew': WHATEVER THE INPUT: true; the input reads as it did. -/
def fnExactSetNewSpec : ChangeSpec := { name := "fnExactSetNew", vars := ["loop.example/g00671/impl.weights"], fn := fun _ => fun
  | [d1, d2, g1] => { results := [.lit (.bool true)], args := [d1, d2], vars := [g1] }
  | _ => none }
def fnExactSetNewRow : OpenClaim := { program := "ytbkchmkhaapmaaadoor", sum := "852450eb860dafd0dcfabda8fbcd3d2e4949458b7e0b4e1773489d77a9313160", func := "loop.example/g00671/laws.FnExactSetNew", spec := "fnExactSetNew", named := ["loop.example/g00671/impl.weights"], apart := false, laid := [("loop.example/g00671/impl.weights", laid_loop_example_g00671_impl_weights)] }
def FnExactSetNewSaid : Prop := fnExactSetNewRow.holds Tryd.pinned (OpenSpec.ofChange fnExactSetNewSpec)

/-- ITS FALSE NEIGHBOUR: 'it returns false'. Refute it at one input. -/
def fnExactSetNewWrong : ChangeSpec := { name := "fnExactSetNew", vars := ["loop.example/g00671/impl.weights"], fn := fun _ => fun
  | [d1, d2, g1] => { results := [.lit (.bool false)], args := [d1, d2], vars := [g1] }
  | _ => none }
def FnExactSetNewWrongFalsely : Prop := fnExactSetNewRow.holds Tryd.pinned (OpenSpec.ofChange fnExactSetNewWrong)

/-- 'laws.FnExactHas': WHATEVER THE INPUT: true; the input reads as it did. -/
def fnExactHasSpec : ChangeSpec := { name := "fnExactHas", vars := ["loop.example/g00671/impl.weights"], fn := fun _ => fun
  | [d1, d2, g1] => { results := [.lit (.bool true)], args := [d1, d2], vars := [g1] }
  | _ => none }
def fnExactHasRow : OpenClaim := { program := "ytbkchmkhaapmaaadoor", sum := "852450eb860dafd0dcfabda8fbcd3d2e4949458b7e0b4e1773489d77a9313160", func := "loop.example/g00671/laws.FnExactHas", spec := "fnExactHas", named := ["loop.example/g00671/impl.weights"], apart := false, laid := [("loop.example/g00671/impl.weights", laid_loop_example_g00671_impl_weights)] }
def FnExactHasSaid : Prop := fnExactHasRow.holds Tryd.pinned (OpenSpec.ofChange fnExactHasSpec)

/-- ITS FALSE NEIGHBOUR: 'it returns false'. Refute it at one input. -/
def fnExactHasWrong : ChangeSpec := { name := "fnExactHas", vars := ["loop.example/g00671/impl.weights"], fn := fun _ => fun
  | [d1, d2, g1] => { results := [.lit (.bool false)], args := [d1, d2], vars := [g1] }
  | _ => none }
def FnExactHasWrongFalsely : Prop := fnExactHasRow.holds Tryd.pinned (OpenSpec.ofChange fnExactHasWrong)

/-- 'laws.FnExactWith': WHATEVER THE INPUT: true; the input reads as it did. -/
def fnExactWithSpec : ChangeSpec := { name := "fnExactWith", vars := ["loop.example/g00671/impl.weights"], fn := fun _ => fun
  | [d1, d2, g1] => { results := [.lit (.bool true)], args := [d1, d2], vars := [g1] }
  | _ => none }
def fnExactWithRow : OpenClaim := { program := "ytbkchmkhaapmaaadoor", sum := "852450eb860dafd0dcfabda8fbcd3d2e4949458b7e0b4e1773489d77a9313160", func := "loop.example/g00671/laws.FnExactWith", spec := "fnExactWith", unfollowed := true, recurses := true, named := ["loop.example/g00671/impl.weights"], apart := false, laid := [("loop.example/g00671/impl.weights", laid_loop_example_g00671_impl_weights)] }
def FnExactWithSaid : Prop := fnExactWithRow.holds Tryd.pinned (OpenSpec.ofChange fnExactWithSpec)

/-- ITS FALSE NEIGHBOUR: 'it returns false'. Refute it at one input. -/
def fnExactWithWrong : ChangeSpec := { name := "fnExactWith", vars := ["loop.example/g00671/impl.weights"], fn := fun _ => fun
  | [d1, d2, g1] => { results := [.lit (.bool false)], args := [d1, d2], vars := [g1] }
  | _ => none }
def FnExactWithWrongFalsely : Prop := fnExactWithRow.holds Tryd.pinned (OpenSpec.ofChange fnExactWithWrong)

/-- 'laws.FnExactWithout': WHATEVER THE INPUT: true; the input reads as it did. -/
def fnExactWithoutSpec : ChangeSpec := { name := "fnExactWithout", vars := ["loop.example/g00671/impl.weights"], fn := fun _ => fun
  | [d1, d2, g1] => { results := [.lit (.bool true)], args := [d1, d2], vars := [g1] }
  | _ => none }
def fnExactWithoutRow : OpenClaim := { program := "ytbkchmkhaapmaaadoor", sum := "852450eb860dafd0dcfabda8fbcd3d2e4949458b7e0b4e1773489d77a9313160", func := "loop.example/g00671/laws.FnExactWithout", spec := "fnExactWithout", unfollowed := true, recurses := true, named := ["loop.example/g00671/impl.weights"], apart := false, laid := [("loop.example/g00671/impl.weights", laid_loop_example_g00671_impl_weights)] }
def FnExactWithoutSaid : Prop := fnExactWithoutRow.holds Tryd.pinned (OpenSpec.ofChange fnExactWithoutSpec)

/-- ITS FALSE NEIGHBOUR: 'it returns false'. Refute it at one input. -/
def fnExactWithoutWrong : ChangeSpec := { name := "fnExactWithout", vars := ["loop.example/g00671/impl.weights"], fn := fun _ => fun
  | [d1, d2, g1] => { results := [.lit (.bool false)], args := [d1, d2], vars := [g1] }
  | _ => none }
def FnExactWithoutWrongFalsely : Prop := fnExactWithoutRow.holds Tryd.pinned (OpenSpec.ofChange fnExactWithoutWrong)

/-- 'laws.FnExactMembers': WHATEVER THE INPUT: true; the input reads as it did. -/
def fnExactMembersSpec : ChangeSpec := { name := "fnExactMembers", vars := ["loop.example/g00671/impl.weights"], fn := fun _ => fun
  | [d, g1] => { results := [.lit (.bool true)], args := [d], vars := [g1] }
  | _ => none }
def fnExactMembersRow : OpenClaim := { program := "ytbkchmkhaapmaaadoor", sum := "852450eb860dafd0dcfabda8fbcd3d2e4949458b7e0b4e1773489d77a9313160", func := "loop.example/g00671/laws.FnExactMembers", spec := "fnExactMembers", named := ["loop.example/g00671/impl.weights"], apart := false, laid := [("loop.example/g00671/impl.weights", laid_loop_example_g00671_impl_weights)] }
def FnExactMembersSaid : Prop := fnExactMembersRow.holds Tryd.pinned (OpenSpec.ofChange fnExactMembersSpec)

/-- ITS FALSE NEIGHBOUR: 'it returns false'. Refute it at one input. -/
def fnExactMembersWrong : ChangeSpec := { name := "fnExactMembers", vars := ["loop.example/g00671/impl.weights"], fn := fun _ => fun
  | [d, g1] => { results := [.lit (.bool false)], args := [d], vars := [g1] }
  | _ => none }
def FnExactMembersWrongFalsely : Prop := fnExactMembersRow.holds Tryd.pinned (OpenSpec.ofChange fnExactMembersWrong)

/-- 'laws.FnExactEither': WHATEVER THE INPUT: true; the input reads as it did. -/
def fnExactEitherSpec : ChangeSpec := { name := "fnExactEither", vars := ["loop.example/g00671/impl.weights"], fn := fun _ => fun
  | [d1, d2, g1] => { results := [.lit (.bool true)], args := [d1, d2], vars := [g1] }
  | _ => none }
def fnExactEitherRow : OpenClaim := { program := "ytbkchmkhaapmaaadoor", sum := "852450eb860dafd0dcfabda8fbcd3d2e4949458b7e0b4e1773489d77a9313160", func := "loop.example/g00671/laws.FnExactEither", spec := "fnExactEither", named := ["loop.example/g00671/impl.weights"], apart := false, laid := [("loop.example/g00671/impl.weights", laid_loop_example_g00671_impl_weights)] }
def FnExactEitherSaid : Prop := fnExactEitherRow.holds Tryd.pinned (OpenSpec.ofChange fnExactEitherSpec)

/-- ITS FALSE NEIGHBOUR: 'it returns false'. Refute it at one input. -/
def fnExactEitherWrong : ChangeSpec := { name := "fnExactEither", vars := ["loop.example/g00671/impl.weights"], fn := fun _ => fun
  | [d1, d2, g1] => { results := [.lit (.bool false)], args := [d1, d2], vars := [g1] }
  | _ => none }
def FnExactEitherWrongFalsely : Prop := fnExactEitherRow.holds Tryd.pinned (OpenSpec.ofChange fnExactEitherWrong)

/-- 'laws.FnExactDigest': WHATEVER THE INPUT: true; the input reads as it did. -/
def fnExactDigestSpec : ChangeSpec := { name := "fnExactDigest", vars := ["loop.example/g00671/impl.weights"], fn := fun _ => fun
  | [d, g1] => { results := [.lit (.bool true)], args := [d], vars := [g1] }
  | _ => none }
def fnExactDigestRow : OpenClaim := { program := "ytbkchmkhaapmaaadoor", sum := "852450eb860dafd0dcfabda8fbcd3d2e4949458b7e0b4e1773489d77a9313160", func := "loop.example/g00671/laws.FnExactDigest", spec := "fnExactDigest", unfollowed := true, recurses := true, named := ["loop.example/g00671/impl.weights"], apart := false, laid := [("loop.example/g00671/impl.weights", laid_loop_example_g00671_impl_weights)] }
def FnExactDigestSaid : Prop := fnExactDigestRow.holds Tryd.pinned (OpenSpec.ofChange fnExactDigestSpec)

/-- ITS FALSE NEIGHBOUR: 'it returns false'. Refute it at one input. -/
def fnExactDigestWrong : ChangeSpec := { name := "fnExactDigest", vars := ["loop.example/g00671/impl.weights"], fn := fun _ => fun
  | [d, g1] => { results := [.lit (.bool false)], args := [d], vars := [g1] }
  | _ => none }
def FnExactDigestWrongFalsely : Prop := fnExactDigestRow.holds Tryd.pinned (OpenSpec.ofChange fnExactDigestWrong)

/- THE SECOND FORM. 'bulk': how many values and letters a reading holds, each counted each time it is reached (what is shared counts as often as it is met; a slice's spare places count too). A statement '..UptoSaid' is the law's where the arguments, and the package variables that the reading takes, are together of bulk at most 1048576: NARROWER than '..Said'. Prove '..Said' where nothing that the law and all that it calls make is longer than what came in: it says more and counts as full. Else prove '..UptoSaid'. A law counts once. -/
mutual
def uptoBulk {H : Type} : DataW H → Nat
  | .lit (.string bytes) => bytes.length + 1
  | .lit _ => 1
  | .nil => 1
  | .ptr d => uptoBulk d + 1
  | .slice elems spare => uptoBulkAll elems + uptoBulkAll spare + 1
  | .agg parts => uptoBulkAll parts + 1
  | .iface _ d => uptoBulk d + 1
  | .map entries => uptoBulkEntries entries + 1
  | .held _ => 1
def uptoBulkAll {H : Type} : List (DataW H) → Nat
  | [] => 0
  | d :: r => uptoBulk d + uptoBulkAll r
def uptoBulkEntries {H : Type} : List (Lit × DataW H) → Nat
  | [] => 0
  | x :: r => uptoBulkEntry x + uptoBulkEntries r
def uptoBulkEntry {H : Type} : Lit × DataW H → Nat
  | (.string bytes, d) => bytes.length + uptoBulk d + 1
  | (_, d) => uptoBulk d + 1
 end
def uptoSmall : (H : Type) → List (DataW H) → Bool := fun _ ds => decide (uptoBulkAll ds ≤ 1048576)
def OpenSpec.upto (s : _root_.Go.ChangeSpec) : _root_.Go.OpenSpec := { _root_.Go.OpenSpec.ofChange s with cond := some uptoSmall }

/-- 'laws.FnSets', WHERE WHAT IT READS IS OF BULK AT MOST 1048576: true; the input reads as it did. -/
def fnSetsUptoRow : OpenClaim := { program := "ytbkchmkhaapmaaadoor", sum := "852450eb860dafd0dcfabda8fbcd3d2e4949458b7e0b4e1773489d77a9313160", func := "loop.example/g00671/laws.FnSets", spec := "fnSets", unfollowed := true, recurses := true, named := ["loop.example/g00671/impl.weights"], apart := false, laid := [("loop.example/g00671/impl.weights", laid_loop_example_g00671_impl_weights)], narrowed := true }
def FnSetsUptoSaid : Prop := fnSetsUptoRow.holds Tryd.pinned (OpenSpec.upto fnSetsSpec)

/-- 'laws.FnExactSetOk', WHERE WHAT IT READS IS OF BULK AT MOST 1048576: true; the input reads as it did. -/
def fnExactSetOkUptoRow : OpenClaim := { program := "ytbkchmkhaapmaaadoor", sum := "852450eb860dafd0dcfabda8fbcd3d2e4949458b7e0b4e1773489d77a9313160", func := "loop.example/g00671/laws.FnExactSetOk", spec := "fnExactSetOk", named := ["loop.example/g00671/impl.weights"], apart := false, laid := [("loop.example/g00671/impl.weights", laid_loop_example_g00671_impl_weights)], narrowed := true }
def FnExactSetOkUptoSaid : Prop := fnExactSetOkUptoRow.holds Tryd.pinned (OpenSpec.upto fnExactSetOkSpec)

/-- 'laws.FnExactSetNew', WHERE WHAT IT READS IS OF BULK AT MOST 1048576: true; the input reads as it did. -/
def fnExactSetNewUptoRow : OpenClaim := { program := "ytbkchmkhaapmaaadoor", sum := "852450eb860dafd0dcfabda8fbcd3d2e4949458b7e0b4e1773489d77a9313160", func := "loop.example/g00671/laws.FnExactSetNew", spec := "fnExactSetNew", named := ["loop.example/g00671/impl.weights"], apart := false, laid := [("loop.example/g00671/impl.weights", laid_loop_example_g00671_impl_weights)], narrowed := true }
def FnExactSetNewUptoSaid : Prop := fnExactSetNewUptoRow.holds Tryd.pinned (OpenSpec.upto fnExactSetNewSpec)

/-- 'laws.FnExactHas', WHERE WHAT IT READS IS OF BULK AT MOST 1048576: true; the input reads as it did. -/
def fnExactHasUptoRow : OpenClaim := { program := "ytbkchmkhaapmaaadoor", sum := "852450eb860dafd0dcfabda8fbcd3d2e4949458b7e0b4e1773489d77a9313160", func := "loop.example/g00671/laws.FnExactHas", spec := "fnExactHas", named := ["loop.example/g00671/impl.weights"], apart := false, laid := [("loop.example/g00671/impl.weights", laid_loop_example_g00671_impl_weights)], narrowed := true }
def FnExactHasUptoSaid : Prop := fnExactHasUptoRow.holds Tryd.pinned (OpenSpec.upto fnExactHasSpec)

/-- 'laws.FnExactWith', WHERE WHAT IT READS IS OF BULK AT MOST 1048576: true; the input reads as it did. -/
def fnExactWithUptoRow : OpenClaim := { program := "ytbkchmkhaapmaaadoor", sum := "852450eb860dafd0dcfabda8fbcd3d2e4949458b7e0b4e1773489d77a9313160", func := "loop.example/g00671/laws.FnExactWith", spec := "fnExactWith", unfollowed := true, recurses := true, named := ["loop.example/g00671/impl.weights"], apart := false, laid := [("loop.example/g00671/impl.weights", laid_loop_example_g00671_impl_weights)], narrowed := true }
def FnExactWithUptoSaid : Prop := fnExactWithUptoRow.holds Tryd.pinned (OpenSpec.upto fnExactWithSpec)

/-- 'laws.FnExactWithout', WHERE WHAT IT READS IS OF BULK AT MOST 1048576: true; the input reads as it did. -/
def fnExactWithoutUptoRow : OpenClaim := { program := "ytbkchmkhaapmaaadoor", sum := "852450eb860dafd0dcfabda8fbcd3d2e4949458b7e0b4e1773489d77a9313160", func := "loop.example/g00671/laws.FnExactWithout", spec := "fnExactWithout", unfollowed := true, recurses := true, named := ["loop.example/g00671/impl.weights"], apart := false, laid := [("loop.example/g00671/impl.weights", laid_loop_example_g00671_impl_weights)], narrowed := true }
def FnExactWithoutUptoSaid : Prop := fnExactWithoutUptoRow.holds Tryd.pinned (OpenSpec.upto fnExactWithoutSpec)

/-- 'laws.FnExactMembers', WHERE WHAT IT READS IS OF BULK AT MOST 1048576: true; the input reads as it did. -/
def fnExactMembersUptoRow : OpenClaim := { program := "ytbkchmkhaapmaaadoor", sum := "852450eb860dafd0dcfabda8fbcd3d2e4949458b7e0b4e1773489d77a9313160", func := "loop.example/g00671/laws.FnExactMembers", spec := "fnExactMembers", named := ["loop.example/g00671/impl.weights"], apart := false, laid := [("loop.example/g00671/impl.weights", laid_loop_example_g00671_impl_weights)], narrowed := true }
def FnExactMembersUptoSaid : Prop := fnExactMembersUptoRow.holds Tryd.pinned (OpenSpec.upto fnExactMembersSpec)

/-- 'laws.FnExactEither', WHERE WHAT IT READS IS OF BULK AT MOST 1048576: true; the input reads as it did. -/
def fnExactEitherUptoRow : OpenClaim := { program := "ytbkchmkhaapmaaadoor", sum := "852450eb860dafd0dcfabda8fbcd3d2e4949458b7e0b4e1773489d77a9313160", func := "loop.example/g00671/laws.FnExactEither", spec := "fnExactEither", named := ["loop.example/g00671/impl.weights"], apart := false, laid := [("loop.example/g00671/impl.weights", laid_loop_example_g00671_impl_weights)], narrowed := true }
def FnExactEitherUptoSaid : Prop := fnExactEitherUptoRow.holds Tryd.pinned (OpenSpec.upto fnExactEitherSpec)

/-- 'laws.FnExactDigest', WHERE WHAT IT READS IS OF BULK AT MOST 1048576: true; the input reads as it did. -/
def fnExactDigestUptoRow : OpenClaim := { program := "ytbkchmkhaapmaaadoor", sum := "852450eb860dafd0dcfabda8fbcd3d2e4949458b7e0b4e1773489d77a9313160", func := "loop.example/g00671/laws.FnExactDigest", spec := "fnExactDigest", unfollowed := true, recurses := true, named := ["loop.example/g00671/impl.weights"], apart := false, laid := [("loop.example/g00671/impl.weights", laid_loop_example_g00671_impl_weights)], narrowed := true }
def FnExactDigestUptoSaid : Prop := fnExactDigestUptoRow.holds Tryd.pinned (OpenSpec.upto fnExactDigestSpec)

end Rows
end Go.Proofs.YtbkchmkhaapmaaaDoor
