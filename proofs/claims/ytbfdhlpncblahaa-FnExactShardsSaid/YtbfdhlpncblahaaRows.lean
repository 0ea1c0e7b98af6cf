/-
  No cell of these rows narrows 'for every input' (looked for: loops, veiled, ifaces, maps, wideKeys, modest, calm, conditions, laid).
  DERIVED. THE GIVEN ROWS OF THIS SEAT. 8 by the template 'for every input the law returns true; each argument reads behind the call as it read before'; 0 by the template 'total and deterministic' (their statements: YtbfdhlpncblahaaTotals.lean).
  GIVEN WITH THE SEED: the statements are not yours to turn. If you find one false, say at which input.
  Laid BY PROGRAM, IN A SANDBOX (cutbox-rows.mjs): the forced cells as the released guide's own fill.sh prints them over the translation b700b207bfc3c3e3… (all of the seat's roots in one cut). By AI agents, Wed Nov 11 2026. No macro, syntax, notation, axiom, sorry.
-/
import Derived.Test.YtbfdhlpncblahaaChecked
import GoSem.Claim
import GoSem.ClaimJoined
import GoSem.ClaimMapViews
import Derived.JoinedTies
import Derived.KernelRfl
namespace Go.Proofs.Ytbfdhlpncblahaa
/- THE CELL 'sum', in the pinned program and in every row, IS THE sha256 OF THE DUMP (.gsa) THAT YtbfdhlpncblahaaProg.lean LOADS. Nothing in Lean hashes anything: it is a label: what it is worth is what the hold of that sum in a sandbox is worth. -/
noncomputable def Try.pinned : Pinned := { name := "ytbfdhlpncblahaa", sum := "b700b207bfc3c3e3e335835aee4ddb5cf81045a22ce43e4bef74fda48ab838d3", checked := Try.checked }
namespace Rows
def none {H : Type} : Left H := { results := [], args := [] }

/-- 'laws.FnExactShardOk': WHATEVER THE INPUT: true; the input reads as it did. -/
def fnExactShardOkSpec : ChangeSpec := { name := "fnExactShardOk", fn := fun _ => fun
  | [d] => { results := [.lit (.bool true)], args := [d] }
  | _ => none }
def fnExactShardOkRow : OpenClaim := { program := "ytbfdhlpncblahaa", sum := "b700b207bfc3c3e3e335835aee4ddb5cf81045a22ce43e4bef74fda48ab838d3", func := "loop.example/g00671/laws.FnExactShardOk", spec := "fnExactShardOk", plainKeys := false, apart := false }
def FnExactShardOkSaid : Prop := fnExactShardOkRow.holds Try.pinned (OpenSpec.ofChange fnExactShardOkSpec)

/-- ITS FALSE NEIGHBOUR: 'it returns false'. Refute it at one input. -/
def fnExactShardOkWrong : ChangeSpec := { name := "fnExactShardOk", fn := fun _ => fun
  | [d] => { results := [.lit (.bool false)], args := [d] }
  | _ => none }
def FnExactShardOkWrongFalsely : Prop := fnExactShardOkRow.holds Try.pinned (OpenSpec.ofChange fnExactShardOkWrong)

/-- 'laws.FnExactShards': WHATEVER THE INPUT: true; the input reads as it did. -/
def fnExactShardsSpec : ChangeSpec := { name := "fnExactShards", fn := fun _ => fun
  | [d1, d2, d3] => { results := [.lit (.bool true)], args := [d1, d2, d3] }
  | _ => none }
def fnExactShardsRow : OpenClaim := { program := "ytbfdhlpncblahaa", sum := "b700b207bfc3c3e3e335835aee4ddb5cf81045a22ce43e4bef74fda48ab838d3", func := "loop.example/g00671/laws.FnExactShards", spec := "fnExactShards", unfollowed := true, recurses := true, plainKeys := false, apart := false }
def FnExactShardsSaid : Prop := fnExactShardsRow.holds Try.pinned (OpenSpec.ofChange fnExactShardsSpec)

/-- ITS FALSE NEIGHBOUR: 'it returns false'. Refute it at one input. -/
def fnExactShardsWrong : ChangeSpec := { name := "fnExactShards", fn := fun _ => fun
  | [d1, d2, d3] => { results := [.lit (.bool false)], args := [d1, d2, d3] }
  | _ => none }
def FnExactShardsWrongFalsely : Prop := fnExactShardsRow.holds Try.pinned (OpenSpec.ofChange fnExactShardsWrong)

/-- 'laws.FnExactJoined': WHATEVER THE INPUT: true; the input reads as it did. -/
def fnExactJoinedSpec : ChangeSpec := { name := "fnExactJoined", fn := fun _ => fun
  | [d1, d2] => { results := [.lit (.bool true)], args := [d1, d2] }
  | _ => none }
def fnExactJoinedRow : OpenClaim := { program := "ytbfdhlpncblahaa", sum := "b700b207bfc3c3e3e335835aee4ddb5cf81045a22ce43e4bef74fda48ab838d3", func := "loop.example/g00671/laws.FnExactJoined", spec := "fnExactJoined", plainKeys := false, apart := false }
def FnExactJoinedSaid : Prop := fnExactJoinedRow.holds Try.pinned (OpenSpec.ofChange fnExactJoinedSpec)

/-- ITS FALSE NEIGHBOUR: 'it returns false'. Refute it at one input. -/
def fnExactJoinedWrong : ChangeSpec := { name := "fnExactJoined", fn := fun _ => fun
  | [d1, d2] => { results := [.lit (.bool false)], args := [d1, d2] }
  | _ => none }
def FnExactJoinedWrongFalsely : Prop := fnExactJoinedRow.holds Try.pinned (OpenSpec.ofChange fnExactJoinedWrong)

/-- 'laws.FnExactWindow': WHATEVER THE INPUT: true; the input reads as it did. -/
def fnExactWindowSpec : ChangeSpec := { name := "fnExactWindow", fn := fun _ => fun
  | [d1, d2, d3] => { results := [.lit (.bool true)], args := [d1, d2, d3] }
  | _ => none }
def fnExactWindowRow : OpenClaim := { program := "ytbfdhlpncblahaa", sum := "b700b207bfc3c3e3e335835aee4ddb5cf81045a22ce43e4bef74fda48ab838d3", func := "loop.example/g00671/laws.FnExactWindow", spec := "fnExactWindow", unfollowed := true, recurses := true, plainKeys := false, apart := false }
def FnExactWindowSaid : Prop := fnExactWindowRow.holds Try.pinned (OpenSpec.ofChange fnExactWindowSpec)

/-- ITS FALSE NEIGHBOUR: 'it returns false'. Refute it at one input. -/
def fnExactWindowWrong : ChangeSpec := { name := "fnExactWindow", fn := fun _ => fun
  | [d1, d2, d3] => { results := [.lit (.bool false)], args := [d1, d2, d3] }
  | _ => none }
def FnExactWindowWrongFalsely : Prop := fnExactWindowRow.holds Try.pinned (OpenSpec.ofChange fnExactWindowWrong)

/-- 'laws.FnExactSortAll': WHATEVER THE INPUT: true; the input reads as it did. -/
def fnExactSortAllSpec : ChangeSpec := { name := "fnExactSortAll", fn := fun _ => fun
  | [d1, d2] => { results := [.lit (.bool true)], args := [d1, d2] }
  | _ => none }
def fnExactSortAllRow : OpenClaim := { program := "ytbfdhlpncblahaa", sum := "b700b207bfc3c3e3e335835aee4ddb5cf81045a22ce43e4bef74fda48ab838d3", func := "loop.example/g00671/laws.FnExactSortAll", spec := "fnExactSortAll", unfollowed := true, recurses := true, plainKeys := false, apart := false }
def FnExactSortAllSaid : Prop := fnExactSortAllRow.holds Try.pinned (OpenSpec.ofChange fnExactSortAllSpec)

/-- ITS FALSE NEIGHBOUR: 'it returns false'. Refute it at one input. -/
def fnExactSortAllWrong : ChangeSpec := { name := "fnExactSortAll", fn := fun _ => fun
  | [d1, d2] => { results := [.lit (.bool false)], args := [d1, d2] }
  | _ => none }
def FnExactSortAllWrongFalsely : Prop := fnExactSortAllRow.holds Try.pinned (OpenSpec.ofChange fnExactSortAllWrong)

/-- 'laws.FnExactBatches': WHATEVER THE INPUT: true; the input reads as it did. -/
def fnExactBatchesSpec : ChangeSpec := { name := "fnExactBatches", fn := fun _ => fun
  | [d1, d2] => { results := [.lit (.bool true)], args := [d1, d2] }
  | _ => none }
def fnExactBatchesRow : OpenClaim := { program := "ytbfdhlpncblahaa", sum := "b700b207bfc3c3e3e335835aee4ddb5cf81045a22ce43e4bef74fda48ab838d3", func := "loop.example/g00671/laws.FnExactBatches", spec := "fnExactBatches", unfollowed := true, recurses := true, plainKeys := false, apart := false }
def FnExactBatchesSaid : Prop := fnExactBatchesRow.holds Try.pinned (OpenSpec.ofChange fnExactBatchesSpec)

/-- ITS FALSE NEIGHBOUR: 'it returns false'. Refute it at one input. -/
def fnExactBatchesWrong : ChangeSpec := { name := "fnExactBatches", fn := fun _ => fun
  | [d1, d2] => { results := [.lit (.bool false)], args := [d1, d2] }
  | _ => none }
def FnExactBatchesWrongFalsely : Prop := fnExactBatchesRow.holds Try.pinned (OpenSpec.ofChange fnExactBatchesWrong)

/-- 'laws.FnExactCut': WHATEVER THE INPUT: true; the input reads as it did. -/
def fnExactCutSpec : ChangeSpec := { name := "fnExactCut", fn := fun _ => fun
  | [d1, d2] => { results := [.lit (.bool true)], args := [d1, d2] }
  | _ => none }
def fnExactCutRow : OpenClaim := { program := "ytbfdhlpncblahaa", sum := "b700b207bfc3c3e3e335835aee4ddb5cf81045a22ce43e4bef74fda48ab838d3", func := "loop.example/g00671/laws.FnExactCut", spec := "fnExactCut", unfollowed := true, recurses := true, plainKeys := false, apart := false }
def FnExactCutSaid : Prop := fnExactCutRow.holds Try.pinned (OpenSpec.ofChange fnExactCutSpec)

/-- ITS FALSE NEIGHBOUR: 'it returns false'. Refute it at one input. -/
def fnExactCutWrong : ChangeSpec := { name := "fnExactCut", fn := fun _ => fun
  | [d1, d2] => { results := [.lit (.bool false)], args := [d1, d2] }
  | _ => none }
def FnExactCutWrongFalsely : Prop := fnExactCutRow.holds Try.pinned (OpenSpec.ofChange fnExactCutWrong)

/-- 'laws.FnExactIntervalOf': WHATEVER THE INPUT: true; the input reads as it did. -/
def fnExactIntervalOfSpec : ChangeSpec := { name := "fnExactIntervalOf", fn := fun _ => fun
  | [d1, d2] => { results := [.lit (.bool true)], args := [d1, d2] }
  | _ => none }
def fnExactIntervalOfRow : OpenClaim := { program := "ytbfdhlpncblahaa", sum := "b700b207bfc3c3e3e335835aee4ddb5cf81045a22ce43e4bef74fda48ab838d3", func := "loop.example/g00671/laws.FnExactIntervalOf", spec := "fnExactIntervalOf", plainKeys := false, apart := false }
def FnExactIntervalOfSaid : Prop := fnExactIntervalOfRow.holds Try.pinned (OpenSpec.ofChange fnExactIntervalOfSpec)

/-- ITS FALSE NEIGHBOUR: 'it returns false'. Refute it at one input. -/
def fnExactIntervalOfWrong : ChangeSpec := { name := "fnExactIntervalOf", fn := fun _ => fun
  | [d1, d2] => { results := [.lit (.bool false)], args := [d1, d2] }
  | _ => none }
def FnExactIntervalOfWrongFalsely : Prop := fnExactIntervalOfRow.holds Try.pinned (OpenSpec.ofChange fnExactIntervalOfWrong)

/- THE SECOND FORM. 'bulk': how many values and letters a reading holds, each counted each time it is reached (what is shared counts as often as it is met; a slice's spare places count too). A statement '..UptoSaid' is the law's where the arguments, and the package variables that the reading takes, are together of bulk at most 1048576: NARROWER than '..Said'. Prove '..Said' where nothing that the law and all that it calls make is longer than what came in: it says more and counts as full. Else prove '..UptoSaid'. A law counts once. -/
mutual
def uptoBulk {H : Type} : DataW H → Nat
  | .lit (.string bytes) => bytes.length + 1
  | .lit _ => 1
  | .nil => 1
  | .ptr d => uptoBulk d + 1
  | .slice elems spare => uptoBulkAll elems + uptoBulkAll spare + 1
  | .agg parts => uptoBulkAll parts + 1
  | .iface _ d => uptoBulk d + 1
  | .map entries => uptoBulkEntries entries + 1
  | .held _ => 1
def uptoBulkAll {H : Type} : List (DataW H) → Nat
  | [] => 0
  | d :: r => uptoBulk d + uptoBulkAll r
def uptoBulkEntries {H : Type} : List (Lit × DataW H) → Nat
  | [] => 0
  | x :: r => uptoBulkEntry x + uptoBulkEntries r
def uptoBulkEntry {H : Type} : Lit × DataW H → Nat
  | (.string bytes, d) => bytes.length + uptoBulk d + 1
  | (_, d) => uptoBulk d + 1
 end
def uptoSmall : (H : Type) → List (DataW H) → Bool := fun _ ds => decide (uptoBulkAll ds ≤ 1048576)
def OpenSpec.upto (s : _root_.Go.ChangeSpec) : _root_.Go.OpenSpec := { _root_.Go.OpenSpec.ofChange s with cond := some uptoSmall }

/-- 'laws.FnExactShardOk', WHERE WHAT IT READS IS OF BULK AT MOST 1048576: true; the input reads as it did. -/
def fnExactShardOkUptoRow : OpenClaim := { program := "ytbfdhlpncblahaa", sum := "b700b207bfc3c3e3e335835aee4ddb5cf81045a22ce43e4bef74fda48ab838d3", func := "loop.example/g00671/laws.FnExactShardOk", spec := "fnExactShardOk", plainKeys := false, apart := false, narrowed := true }
def FnExactShardOkUptoSaid : Prop := fnExactShardOkUptoRow.holds Try.pinned (OpenSpec.upto fnExactShardOkSpec)

/-- 'laws.FnExactShards', WHERE WHAT IT READS IS OF BULK AT MOST 1048576: true; the input reads as it did. -/
def fnExactShardsUptoRow : OpenClaim := { program := "ytbfdhlpncblahaa", sum := "b700b207bfc3c3e3e335835aee4ddb5cf81045a22ce43e4bef74fda48ab838d3", func := "loop.example/g00671/laws.FnExactShards", spec := "fnExactShards", unfollowed := true, recurses := true, plainKeys := false, apart := false, narrowed := true }
def FnExactShardsUptoSaid : Prop := fnExactShardsUptoRow.holds Try.pinned (OpenSpec.upto fnExactShardsSpec)

/-- 'laws.FnExactJoined', WHERE WHAT IT READS IS OF BULK AT MOST 1048576: true; the input reads as it did. -/
def fnExactJoinedUptoRow : OpenClaim := { program := "ytbfdhlpncblahaa", sum := "b700b207bfc3c3e3e335835aee4ddb5cf81045a22ce43e4bef74fda48ab838d3", func := "loop.example/g00671/laws.FnExactJoined", spec := "fnExactJoined", plainKeys := false, apart := false, narrowed := true }
def FnExactJoinedUptoSaid : Prop := fnExactJoinedUptoRow.holds Try.pinned (OpenSpec.upto fnExactJoinedSpec)

/-- 'laws.FnExactWindow', WHERE WHAT IT READS IS OF BULK AT MOST 1048576: true; the input reads as it did. -/
def fnExactWindowUptoRow : OpenClaim := { program := "ytbfdhlpncblahaa", sum := "b700b207bfc3c3e3e335835aee4ddb5cf81045a22ce43e4bef74fda48ab838d3", func := "loop.example/g00671/laws.FnExactWindow", spec := "fnExactWindow", unfollowed := true, recurses := true, plainKeys := false, apart := false, narrowed := true }
def FnExactWindowUptoSaid : Prop := fnExactWindowUptoRow.holds Try.pinned (OpenSpec.upto fnExactWindowSpec)

/-- 'laws.FnExactSortAll', WHERE WHAT IT READS IS OF BULK AT MOST 1048576: true; the input reads as it did. -/
def fnExactSortAllUptoRow : OpenClaim := { program := "ytbfdhlpncblahaa", sum := "b700b207bfc3c3e3e335835aee4ddb5cf81045a22ce43e4bef74fda48ab838d3", func := "loop.example/g00671/laws.FnExactSortAll", spec := "fnExactSortAll", unfollowed := true, recurses := true, plainKeys := false, apart := false, narrowed := true }
def FnExactSortAllUptoSaid : Prop := fnExactSortAllUptoRow.holds Try.pinned (OpenSpec.upto fnExactSortAllSpec)

/-- 'laws.FnExactBatches', WHERE WHAT IT READS IS OF BULK AT MOST 1048576: true; the input reads as it did. -/
def fnExactBatchesUptoRow : OpenClaim := { program := "ytbfdhlpncblahaa", sum := "b700b207bfc3c3e3e335835aee4ddb5cf81045a22ce43e4bef74fda48ab838d3", func := "loop.example/g00671/laws.FnExactBatches", spec := "fnExactBatches", unfollowed := true, recurses := true, plainKeys := false, apart := false, narrowed := true }
def FnExactBatchesUptoSaid : Prop := fnExactBatchesUptoRow.holds Try.pinned (OpenSpec.upto fnExactBatchesSpec)

/-- 'laws.FnExactCut', WHERE WHAT IT READS IS OF BULK AT MOST 1048576: true; the input reads as it did. -/
def fnExactCutUptoRow : OpenClaim := { program := "ytbfdhlpncblahaa", sum := "b700b207bfc3c3e3e335835aee4ddb5cf81045a22ce43e4bef74fda48ab838d3", func := "loop.example/g00671/laws.FnExactCut", spec := "fnExactCut", unfollowed := true, recurses := true, plainKeys := false, apart := false, narrowed := true }
def FnExactCutUptoSaid : Prop := fnExactCutUptoRow.holds Try.pinned (OpenSpec.upto fnExactCutSpec)

/-- 'laws.FnExactIntervalOf', WHERE WHAT IT READS IS OF BULK AT MOST 1048576: true; the input reads as it did. -/
def fnExactIntervalOfUptoRow : OpenClaim := { program := "ytbfdhlpncblahaa", sum := "b700b207bfc3c3e3e335835aee4ddb5cf81045a22ce43e4bef74fda48ab838d3", func := "loop.example/g00671/laws.FnExactIntervalOf", spec := "fnExactIntervalOf", plainKeys := false, apart := false, narrowed := true }
def FnExactIntervalOfUptoSaid : Prop := fnExactIntervalOfUptoRow.holds Try.pinned (OpenSpec.upto fnExactIntervalOfSpec)

end Rows
end Go.Proofs.Ytbfdhlpncblahaa
