/-
  No cell of these rows narrows 'for every input' (looked for: loops, veiled, ifaces, maps, wideKeys, modest, calm, conditions, laid).
  DERIVED. THE GIVEN ROWS OF THIS SEAT. 8 by the template 'for every input the law returns true; each argument reads behind the call as it read before'; 0 by the template 'total and deterministic' (their statements: YtdmdikbcgpbbdaaTotals.lean).
  GIVEN WITH THE SEED: the statements are not yours to turn. If you find one false, say at which input.
  Laid BY PROGRAM, IN A SANDBOX (cutbox-rows.mjs): the forced cells as the released guide's own fill.sh prints them over the translation b900795755b385d5… (all of the seat's roots in one cut). By AI agents, Wed Nov 11 2026. No macro, syntax, notation, axiom, sorry.
-/
import Derived.Test.YtdmdikbcgpbbdaaChecked
import GoSem.Claim
import GoSem.ClaimJoined
import GoSem.ClaimMapViews
import Derived.JoinedTies
import Derived.KernelRfl
namespace Go.Proofs.Ytdmdikbcgpbbdaa
/- THE CELL 'sum', in the pinned program and in every row, IS THE sha256 OF THE DUMP (.gsa) THAT YtdmdikbcgpbbdaaProg.lean LOADS. Nothing in Lean hashes anything: it is a label: what it is worth is what the hold of that sum in a sandbox is worth. -/
noncomputable def Try.pinned : Pinned := { name := "ytdmdikbcgpbbdaa", sum := "b900795755b385d594bb62adbf8f1ccb4098bff59d1fc92bfd9687e18a2259be", checked := Try.checked }
namespace Rows
def none {H : Type} : Left H := { results := [], args := [] }

/-- 'laws.FnSort': WHATEVER THE INPUT: true; the input reads as it did. -/
def fnSortSpec : ChangeSpec := { name := "fnSort", fn := fun _ => fun
  | [d] => { results := [.lit (.bool true)], args := [d] }
  | _ => none }
def fnSortRow : OpenClaim := { program := "ytdmdikbcgpbbdaa", sum := "b900795755b385d594bb62adbf8f1ccb4098bff59d1fc92bfd9687e18a2259be", func := "loop.example/g00671/laws.FnSort", spec := "fnSort", unfollowed := true, recurses := true, apart := false }
def FnSortSaid : Prop := fnSortRow.holds Try.pinned (OpenSpec.ofChange fnSortSpec)

/-- ITS FALSE NEIGHBOUR: 'it returns false'. Refute it at one input. -/
def fnSortWrong : ChangeSpec := { name := "fnSort", fn := fun _ => fun
  | [d] => { results := [.lit (.bool false)], args := [d] }
  | _ => none }
def FnSortWrongFalsely : Prop := fnSortRow.holds Try.pinned (OpenSpec.ofChange fnSortWrong)

/-- 'laws.FnDisk': WHATEVER THE INPUT: true; the input reads as it did. -/
def fnDiskSpec : ChangeSpec := { name := "fnDisk", fn := fun _ => fun
  | [d] => { results := [.lit (.bool true)], args := [d] }
  | _ => none }
def fnDiskRow : OpenClaim := { program := "ytdmdikbcgpbbdaa", sum := "b900795755b385d594bb62adbf8f1ccb4098bff59d1fc92bfd9687e18a2259be", func := "loop.example/g00671/laws.FnDisk", spec := "fnDisk", unfollowed := true, recurses := true, apart := false }
def FnDiskSaid : Prop := fnDiskRow.holds Try.pinned (OpenSpec.ofChange fnDiskSpec)

/-- ITS FALSE NEIGHBOUR: 'it returns false'. Refute it at one input. -/
def fnDiskWrong : ChangeSpec := { name := "fnDisk", fn := fun _ => fun
  | [d] => { results := [.lit (.bool false)], args := [d] }
  | _ => none }
def FnDiskWrongFalsely : Prop := fnDiskRow.holds Try.pinned (OpenSpec.ofChange fnDiskWrong)

/-- 'laws.FnExactLess': WHATEVER THE INPUT: true; the input reads as it did. -/
def fnExactLessSpec : ChangeSpec := { name := "fnExactLess", fn := fun _ => fun
  | [d1, d2] => { results := [.lit (.bool true)], args := [d1, d2] }
  | _ => none }
def fnExactLessRow : OpenClaim := { program := "ytdmdikbcgpbbdaa", sum := "b900795755b385d594bb62adbf8f1ccb4098bff59d1fc92bfd9687e18a2259be", func := "loop.example/g00671/laws.FnExactLess", spec := "fnExactLess", apart := false }
def FnExactLessSaid : Prop := fnExactLessRow.holds Try.pinned (OpenSpec.ofChange fnExactLessSpec)

/-- ITS FALSE NEIGHBOUR: 'it returns false'. Refute it at one input. -/
def fnExactLessWrong : ChangeSpec := { name := "fnExactLess", fn := fun _ => fun
  | [d1, d2] => { results := [.lit (.bool false)], args := [d1, d2] }
  | _ => none }
def FnExactLessWrongFalsely : Prop := fnExactLessRow.holds Try.pinned (OpenSpec.ofChange fnExactLessWrong)

/-- 'laws.FnExactSorted': WHATEVER THE INPUT: true; the input reads as it did. -/
def fnExactSortedSpec : ChangeSpec := { name := "fnExactSorted", fn := fun _ => fun
  | [d] => { results := [.lit (.bool true)], args := [d] }
  | _ => none }
def fnExactSortedRow : OpenClaim := { program := "ytdmdikbcgpbbdaa", sum := "b900795755b385d594bb62adbf8f1ccb4098bff59d1fc92bfd9687e18a2259be", func := "loop.example/g00671/laws.FnExactSorted", spec := "fnExactSorted", unfollowed := true, recurses := true, apart := false }
def FnExactSortedSaid : Prop := fnExactSortedRow.holds Try.pinned (OpenSpec.ofChange fnExactSortedSpec)

/-- ITS FALSE NEIGHBOUR: 'it returns false'. Refute it at one input. -/
def fnExactSortedWrong : ChangeSpec := { name := "fnExactSorted", fn := fun _ => fun
  | [d] => { results := [.lit (.bool false)], args := [d] }
  | _ => none }
def FnExactSortedWrongFalsely : Prop := fnExactSortedRow.holds Try.pinned (OpenSpec.ofChange fnExactSortedWrong)

/-- 'laws.FnExactSortOne': WHATEVER THE INPUT: true; the input reads as it did. -/
def fnExactSortOneSpec : ChangeSpec := { name := "fnExactSortOne", fn := fun _ => fun
  | [d] => { results := [.lit (.bool true)], args := [d] }
  | _ => none }
def fnExactSortOneRow : OpenClaim := { program := "ytdmdikbcgpbbdaa", sum := "b900795755b385d594bb62adbf8f1ccb4098bff59d1fc92bfd9687e18a2259be", func := "loop.example/g00671/laws.FnExactSortOne", spec := "fnExactSortOne", unfollowed := true, recurses := true, apart := false }
def FnExactSortOneSaid : Prop := fnExactSortOneRow.holds Try.pinned (OpenSpec.ofChange fnExactSortOneSpec)

/-- ITS FALSE NEIGHBOUR: 'it returns false'. Refute it at one input. -/
def fnExactSortOneWrong : ChangeSpec := { name := "fnExactSortOne", fn := fun _ => fun
  | [d] => { results := [.lit (.bool false)], args := [d] }
  | _ => none }
def FnExactSortOneWrongFalsely : Prop := fnExactSortOneRow.holds Try.pinned (OpenSpec.ofChange fnExactSortOneWrong)

/-- 'laws.FnExactBatches': WHATEVER THE INPUT: true; the input reads as it did. -/
def fnExactBatchesSpec : ChangeSpec := { name := "fnExactBatches", fn := fun _ => fun
  | [d1, d2] => { results := [.lit (.bool true)], args := [d1, d2] }
  | _ => none }
def fnExactBatchesRow : OpenClaim := { program := "ytdmdikbcgpbbdaa", sum := "b900795755b385d594bb62adbf8f1ccb4098bff59d1fc92bfd9687e18a2259be", func := "loop.example/g00671/laws.FnExactBatches", spec := "fnExactBatches", unfollowed := true, recurses := true, apart := false }
def FnExactBatchesSaid : Prop := fnExactBatchesRow.holds Try.pinned (OpenSpec.ofChange fnExactBatchesSpec)

/-- ITS FALSE NEIGHBOUR: 'it returns false'. Refute it at one input. -/
def fnExactBatchesWrong : ChangeSpec := { name := "fnExactBatches", fn := fun _ => fun
  | [d1, d2] => { results := [.lit (.bool false)], args := [d1, d2] }
  | _ => none }
def FnExactBatchesWrongFalsely : Prop := fnExactBatchesRow.holds Try.pinned (OpenSpec.ofChange fnExactBatchesWrong)

/-- 'laws.FnExactMerge': WHATEVER THE INPUT: true; the input reads as it did. -/
def fnExactMergeSpec : ChangeSpec := { name := "fnExactMerge", fn := fun _ => fun
  | [d] => { results := [.lit (.bool true)], args := [d] }
  | _ => none }
def fnExactMergeRow : OpenClaim := { program := "ytdmdikbcgpbbdaa", sum := "b900795755b385d594bb62adbf8f1ccb4098bff59d1fc92bfd9687e18a2259be", func := "loop.example/g00671/laws.FnExactMerge", spec := "fnExactMerge", unfollowed := true, recurses := true, apart := false }
def FnExactMergeSaid : Prop := fnExactMergeRow.holds Try.pinned (OpenSpec.ofChange fnExactMergeSpec)

/-- ITS FALSE NEIGHBOUR: 'it returns false'. Refute it at one input. -/
def fnExactMergeWrong : ChangeSpec := { name := "fnExactMerge", fn := fun _ => fun
  | [d] => { results := [.lit (.bool false)], args := [d] }
  | _ => none }
def FnExactMergeWrongFalsely : Prop := fnExactMergeRow.holds Try.pinned (OpenSpec.ofChange fnExactMergeWrong)

/-- 'laws.FnExactSortAll': WHATEVER THE INPUT: true; the input reads as it did. -/
def fnExactSortAllSpec : ChangeSpec := { name := "fnExactSortAll", fn := fun _ => fun
  | [d1, d2] => { results := [.lit (.bool true)], args := [d1, d2] }
  | _ => none }
def fnExactSortAllRow : OpenClaim := { program := "ytdmdikbcgpbbdaa", sum := "b900795755b385d594bb62adbf8f1ccb4098bff59d1fc92bfd9687e18a2259be", func := "loop.example/g00671/laws.FnExactSortAll", spec := "fnExactSortAll", unfollowed := true, recurses := true, apart := false }
def FnExactSortAllSaid : Prop := fnExactSortAllRow.holds Try.pinned (OpenSpec.ofChange fnExactSortAllSpec)

/-- ITS FALSE NEIGHBOUR: 'it returns false'. Refute it at one input. -/
def fnExactSortAllWrong : ChangeSpec := { name := "fnExactSortAll", fn := fun _ => fun
  | [d1, d2] => { results := [.lit (.bool false)], args := [d1, d2] }
  | _ => none }
def FnExactSortAllWrongFalsely : Prop := fnExactSortAllRow.holds Try.pinned (OpenSpec.ofChange fnExactSortAllWrong)

/- THE SECOND FORM. 'bulk': how many values and letters a reading holds, each counted each time it is reached (what is shared counts as often as it is met; a slice's spare places count too). A statement '..UptoSaid' is the law's where the arguments, and the package variables that the reading takes, are together of bulk at most 1048576: NARROWER than '..Said'. Prove '..Said' where nothing that the law and all that it calls make is longer than what came in: it says more and counts as full. Else prove '..UptoSaid'. A law counts once. -/
mutual
def uptoBulk {H : Type} : DataW H → Nat
  | .lit (.string bytes) => bytes.length + 1
  | .lit _ => 1
  | .nil => 1
  | .ptr d => uptoBulk d + 1
  | .slice elems spare => uptoBulkAll elems + uptoBulkAll spare + 1
  | .agg parts => uptoBulkAll parts + 1
  | .iface _ d => uptoBulk d + 1
  | .map entries => uptoBulkEntries entries + 1
  | .held _ => 1
def uptoBulkAll {H : Type} : List (DataW H) → Nat
  | [] => 0
  | d :: r => uptoBulk d + uptoBulkAll r
def uptoBulkEntries {H : Type} : List (Lit × DataW H) → Nat
  | [] => 0
  | x :: r => uptoBulkEntry x + uptoBulkEntries r
def uptoBulkEntry {H : Type} : Lit × DataW H → Nat
  | (.string bytes, d) => bytes.length + uptoBulk d + 1
  | (_, d) => uptoBulk d + 1
 end
def uptoSmall : (H : Type) → List (DataW H) → Bool := fun _ ds => decide (uptoBulkAll ds ≤ 1048576)
def OpenSpec.upto (s : _root_.Go.ChangeSpec) : _root_.Go.OpenSpec := { _root_.Go.OpenSpec.ofChange s with cond := some uptoSmall }

/-- 'laws.FnSort', WHERE WHAT IT READS IS OF BULK AT MOST 1048576: true; the input reads as it did. -/
def fnSortUptoRow : OpenClaim := { program := "ytdmdikbcgpbbdaa", sum := "b900795755b385d594bb62adbf8f1ccb4098bff59d1fc92bfd9687e18a2259be", func := "loop.example/g00671/laws.FnSort", spec := "fnSort", unfollowed := true, recurses := true, apart := false, narrowed := true }
def FnSortUptoSaid : Prop := fnSortUptoRow.holds Try.pinned (OpenSpec.upto fnSortSpec)

/-- 'laws.FnDisk', WHERE WHAT IT READS IS OF BULK AT MOST 1048576: true; the input reads as it did. -/
def fnDiskUptoRow : OpenClaim := { program := "ytdmdikbcgpbbdaa", sum := "b900795755b385d594bb62adbf8f1ccb4098bff59d1fc92bfd9687e18a2259be", func := "loop.example/g00671/laws.FnDisk", spec := "fnDisk", unfollowed := true, recurses := true, apart := false, narrowed := true }
def FnDiskUptoSaid : Prop := fnDiskUptoRow.holds Try.pinned (OpenSpec.upto fnDiskSpec)

/-- 'laws.FnExactLess', WHERE WHAT IT READS IS OF BULK AT MOST 1048576: true; the input reads as it did. -/
def fnExactLessUptoRow : OpenClaim := { program := "ytdmdikbcgpbbdaa", sum := "b900795755b385d594bb62adbf8f1ccb4098bff59d1fc92bfd9687e18a2259be", func := "loop.example/g00671/laws.FnExactLess", spec := "fnExactLess", apart := false, narrowed := true }
def FnExactLessUptoSaid : Prop := fnExactLessUptoRow.holds Try.pinned (OpenSpec.upto fnExactLessSpec)

/-- 'laws.FnExactSorted', WHERE WHAT IT READS IS OF BULK AT MOST 1048576: true; the input reads as it did. -/
def fnExactSortedUptoRow : OpenClaim := { program := "ytdmdikbcgpbbdaa", sum := "b900795755b385d594bb62adbf8f1ccb4098bff59d1fc92bfd9687e18a2259be", func := "loop.example/g00671/laws.FnExactSorted", spec := "fnExactSorted", unfollowed := true, recurses := true, apart := false, narrowed := true }
def FnExactSortedUptoSaid : Prop := fnExactSortedUptoRow.holds Try.pinned (OpenSpec.upto fnExactSortedSpec)

/-- 'laws.FnExactSortOne', WHERE WHAT IT READS IS OF BULK AT MOST 1048576: true; the input reads as it did. -/
def fnExactSortOneUptoRow : OpenClaim := { program := "ytdmdikbcgpbbdaa", sum := "b900795755b385d594bb62adbf8f1ccb4098bff59d1fc92bfd9687e18a2259be", func := "loop.example/g00671/laws.FnExactSortOne", spec := "fnExactSortOne", unfollowed := true, recurses := true, apart := false, narrowed := true }
def FnExactSortOneUptoSaid : Prop := fnExactSortOneUptoRow.holds Try.pinned (OpenSpec.upto fnExactSortOneSpec)

/-- 'laws.FnExactBatches', WHERE WHAT IT READS IS OF BULK AT MOST 1048576: true; the input reads as it did. -/
def fnExactBatchesUptoRow : OpenClaim := { program := "ytdmdikbcgpbbdaa", sum := "b900795755b385d594bb62adbf8f1ccb4098bff59d1fc92bfd9687e18a2259be", func := "loop.example/g00671/laws.FnExactBatches", spec := "fnExactBatches", unfollowed := true, recurses := true, apart := false, narrowed := true }
def FnExactBatchesUptoSaid : Prop := fnExactBatchesUptoRow.holds Try.pinned (OpenSpec.upto fnExactBatchesSpec)

/-- 'laws.FnExactMerge', WHERE WHAT IT READS IS OF BULK AT MOST 1048576: true; the input reads as it did. -/
def fnExactMergeUptoRow : OpenClaim := { program := "ytdmdikbcgpbbdaa", sum := "b900795755b385d594bb62adbf8f1ccb4098bff59d1fc92bfd9687e18a2259be", func := "loop.example/g00671/laws.FnExactMerge", spec := "fnExactMerge", unfollowed := true, recurses := true, apart := false, narrowed := true }
def FnExactMergeUptoSaid : Prop := fnExactMergeUptoRow.holds Try.pinned (OpenSpec.upto fnExactMergeSpec)

/-- 'laws.FnExactSortAll', WHERE WHAT IT READS IS OF BULK AT MOST 1048576: true; the input reads as it did. -/
def fnExactSortAllUptoRow : OpenClaim := { program := "ytdmdikbcgpbbdaa", sum := "b900795755b385d594bb62adbf8f1ccb4098bff59d1fc92bfd9687e18a2259be", func := "loop.example/g00671/laws.FnExactSortAll", spec := "fnExactSortAll", unfollowed := true, recurses := true, apart := false, narrowed := true }
def FnExactSortAllUptoSaid : Prop := fnExactSortAllUptoRow.holds Try.pinned (OpenSpec.upto fnExactSortAllSpec)

end Rows
end Go.Proofs.Ytdmdikbcgpbbdaa
