/-
  No cell of these rows narrows 'for every input' (looked for: loops, veiled, ifaces, maps, wideKeys, modest, calm, conditions, laid).
  DERIVED. THE GIVEN ROWS OF THIS SEAT. 8 by the template 'for every input the law returns true; each argument reads behind the call as it read before'; 0 by the template 'total and deterministic' (their statements: YtmbabbapcjphgaaTotals.lean).
  GIVEN WITH THE SEED: the statements are not yours to turn. If you find one false, say at which input.
  Laid BY PROGRAM, IN A SANDBOX (cutbox-rows.mjs): the forced cells as the released guide's own fill.sh prints them over the translation c31234679c1c579d… (all of the seat's roots in one cut). By AI agents, Wed Nov 11 2026. No macro, syntax, notation, axiom, sorry.
-/
import Derived.Test.YtmbabbapcjphgaaChecked
import GoSem.Claim
import GoSem.ClaimJoined
import GoSem.ClaimMapViews
import Derived.JoinedTies
import Derived.KernelRfl
namespace Go.Proofs.Ytmbabbapcjphgaa
/- THE CELL 'sum', in the pinned program and in every row, IS THE sha256 OF THE DUMP (.gsa) THAT YtmbabbapcjphgaaProg.lean LOADS. Nothing in Lean hashes anything: it is a label: what it is worth is what the hold of that sum in a sandbox is worth. -/
noncomputable def Try.pinned : Pinned := { name := "ytmbabbapcjphgaa", sum := "c31234679c1c579d67f97187419d1a94861eb780ec156272f40dd967b909fd96", checked := Try.checked }
namespace Rows
def none {H : Type} : Left H := { results := [], args := [] }

/-- 'laws.FnExactSpan': WHATEVER THE INPUT: true; the input reads as it did. -/
def fnExactSpanSpec : ChangeSpec := { name := "fnExactSpan", fn := fun _ => fun
  | [d1, d2] => { results := [.lit (.bool true)], args := [d1, d2] }
  | _ => none }
def fnExactSpanRow : OpenClaim := { program := "ytmbabbapcjphgaa", sum := "c31234679c1c579d67f97187419d1a94861eb780ec156272f40dd967b909fd96", func := "loop.example/g00671/laws.FnExactSpan", spec := "fnExactSpan", unfollowed := true, recurses := true, plainKeys := false, apart := false }
def FnExactSpanSaid : Prop := fnExactSpanRow.holds Try.pinned (OpenSpec.ofChange fnExactSpanSpec)

/-- ITS FALSE NEIGHBOUR: 'it returns false'. Refute it at one input. -/
def fnExactSpanWrong : ChangeSpec := { name := "fnExactSpan", fn := fun _ => fun
  | [d1, d2] => { results := [.lit (.bool false)], args := [d1, d2] }
  | _ => none }
def FnExactSpanWrongFalsely : Prop := fnExactSpanRow.holds Try.pinned (OpenSpec.ofChange fnExactSpanWrong)

/-- 'laws.FnExactShardOk': WHATEVER THE INPUT: true; the input reads as it did. -/
def fnExactShardOkSpec : ChangeSpec := { name := "fnExactShardOk", fn := fun _ => fun
  | [d] => { results := [.lit (.bool true)], args := [d] }
  | _ => none }
def fnExactShardOkRow : OpenClaim := { program := "ytmbabbapcjphgaa", sum := "c31234679c1c579d67f97187419d1a94861eb780ec156272f40dd967b909fd96", func := "loop.example/g00671/laws.FnExactShardOk", spec := "fnExactShardOk", plainKeys := false, apart := false }
def FnExactShardOkSaid : Prop := fnExactShardOkRow.holds Try.pinned (OpenSpec.ofChange fnExactShardOkSpec)

/-- ITS FALSE NEIGHBOUR: 'it returns false'. Refute it at one input. -/
def fnExactShardOkWrong : ChangeSpec := { name := "fnExactShardOk", fn := fun _ => fun
  | [d] => { results := [.lit (.bool false)], args := [d] }
  | _ => none }
def FnExactShardOkWrongFalsely : Prop := fnExactShardOkRow.holds Try.pinned (OpenSpec.ofChange fnExactShardOkWrong)

/-- 'laws.FnExactShards': WHATEVER THE INPUT: true; the input reads as it did. -/
def fnExactShardsSpec : ChangeSpec := { name := "fnExactShards", fn := fun _ => fun
  | [d1, d2, d3] => { results := [.lit (.bool true)], args := [d1, d2, d3] }
  | _ => none }
def fnExactShardsRow : OpenClaim := { program := "ytmbabbapcjphgaa", sum := "c31234679c1c579d67f97187419d1a94861eb780ec156272f40dd967b909fd96", func := "loop.example/g00671/laws.FnExactShards", spec := "fnExactShards", unfollowed := true, recurses := true, plainKeys := false, apart := false }
def FnExactShardsSaid : Prop := fnExactShardsRow.holds Try.pinned (OpenSpec.ofChange fnExactShardsSpec)

/-- ITS FALSE NEIGHBOUR: 'it returns false'. Refute it at one input. -/
def fnExactShardsWrong : ChangeSpec := { name := "fnExactShards", fn := fun _ => fun
  | [d1, d2, d3] => { results := [.lit (.bool false)], args := [d1, d2, d3] }
  | _ => none }
def FnExactShardsWrongFalsely : Prop := fnExactShardsRow.holds Try.pinned (OpenSpec.ofChange fnExactShardsWrong)

/-- 'laws.FnExactShardBytes': WHATEVER THE INPUT: true; the input reads as it did. -/
def fnExactShardBytesSpec : ChangeSpec := { name := "fnExactShardBytes", fn := fun _ => fun
  | [d] => { results := [.lit (.bool true)], args := [d] }
  | _ => none }
def fnExactShardBytesRow : OpenClaim := { program := "ytmbabbapcjphgaa", sum := "c31234679c1c579d67f97187419d1a94861eb780ec156272f40dd967b909fd96", func := "loop.example/g00671/laws.FnExactShardBytes", spec := "fnExactShardBytes", unfollowed := true, recurses := true, plainKeys := false, apart := false }
def FnExactShardBytesSaid : Prop := fnExactShardBytesRow.holds Try.pinned (OpenSpec.ofChange fnExactShardBytesSpec)

/-- ITS FALSE NEIGHBOUR: 'it returns false'. Refute it at one input. -/
def fnExactShardBytesWrong : ChangeSpec := { name := "fnExactShardBytes", fn := fun _ => fun
  | [d] => { results := [.lit (.bool false)], args := [d] }
  | _ => none }
def FnExactShardBytesWrongFalsely : Prop := fnExactShardBytesRow.holds Try.pinned (OpenSpec.ofChange fnExactShardBytesWrong)

/-- 'laws.FnExactShardRead': WHATEVER THE INPUT: true; the input reads as it did. -/
def fnExactShardReadSpec : ChangeSpec := { name := "fnExactShardRead", fn := fun _ => fun
  | [d1, d2] => { results := [.lit (.bool true)], args := [d1, d2] }
  | _ => none }
def fnExactShardReadRow : OpenClaim := { program := "ytmbabbapcjphgaa", sum := "c31234679c1c579d67f97187419d1a94861eb780ec156272f40dd967b909fd96", func := "loop.example/g00671/laws.FnExactShardRead", spec := "fnExactShardRead", unfollowed := true, recurses := true, plainKeys := false, apart := false }
def FnExactShardReadSaid : Prop := fnExactShardReadRow.holds Try.pinned (OpenSpec.ofChange fnExactShardReadSpec)

/-- ITS FALSE NEIGHBOUR: 'it returns false'. Refute it at one input. -/
def fnExactShardReadWrong : ChangeSpec := { name := "fnExactShardRead", fn := fun _ => fun
  | [d1, d2] => { results := [.lit (.bool false)], args := [d1, d2] }
  | _ => none }
def FnExactShardReadWrongFalsely : Prop := fnExactShardReadRow.holds Try.pinned (OpenSpec.ofChange fnExactShardReadWrong)

/-- 'laws.FnExactListBytes': WHATEVER THE INPUT: true; the input reads as it did. -/
def fnExactListBytesSpec : ChangeSpec := { name := "fnExactListBytes", fn := fun _ => fun
  | [d] => { results := [.lit (.bool true)], args := [d] }
  | _ => none }
def fnExactListBytesRow : OpenClaim := { program := "ytmbabbapcjphgaa", sum := "c31234679c1c579d67f97187419d1a94861eb780ec156272f40dd967b909fd96", func := "loop.example/g00671/laws.FnExactListBytes", spec := "fnExactListBytes", unfollowed := true, recurses := true, plainKeys := false, apart := false }
def FnExactListBytesSaid : Prop := fnExactListBytesRow.holds Try.pinned (OpenSpec.ofChange fnExactListBytesSpec)

/-- ITS FALSE NEIGHBOUR: 'it returns false'. Refute it at one input. -/
def fnExactListBytesWrong : ChangeSpec := { name := "fnExactListBytes", fn := fun _ => fun
  | [d] => { results := [.lit (.bool false)], args := [d] }
  | _ => none }
def FnExactListBytesWrongFalsely : Prop := fnExactListBytesRow.holds Try.pinned (OpenSpec.ofChange fnExactListBytesWrong)

/-- 'laws.FnExactListRead': WHATEVER THE INPUT: true; the input reads as it did. -/
def fnExactListReadSpec : ChangeSpec := { name := "fnExactListRead", fn := fun _ => fun
  | [d1, d2] => { results := [.lit (.bool true)], args := [d1, d2] }
  | _ => none }
def fnExactListReadRow : OpenClaim := { program := "ytmbabbapcjphgaa", sum := "c31234679c1c579d67f97187419d1a94861eb780ec156272f40dd967b909fd96", func := "loop.example/g00671/laws.FnExactListRead", spec := "fnExactListRead", unfollowed := true, recurses := true, plainKeys := false, apart := false }
def FnExactListReadSaid : Prop := fnExactListReadRow.holds Try.pinned (OpenSpec.ofChange fnExactListReadSpec)

/-- ITS FALSE NEIGHBOUR: 'it returns false'. Refute it at one input. -/
def fnExactListReadWrong : ChangeSpec := { name := "fnExactListRead", fn := fun _ => fun
  | [d1, d2] => { results := [.lit (.bool false)], args := [d1, d2] }
  | _ => none }
def FnExactListReadWrongFalsely : Prop := fnExactListReadRow.holds Try.pinned (OpenSpec.ofChange fnExactListReadWrong)

/-- 'laws.FnExactWithVals': WHATEVER THE INPUT: true; the input reads as it did. -/
def fnExactWithValsSpec : ChangeSpec := { name := "fnExactWithVals", fn := fun _ => fun
  | [d1, d2] => { results := [.lit (.bool true)], args := [d1, d2] }
  | _ => none }
def fnExactWithValsRow : OpenClaim := { program := "ytmbabbapcjphgaa", sum := "c31234679c1c579d67f97187419d1a94861eb780ec156272f40dd967b909fd96", func := "loop.example/g00671/laws.FnExactWithVals", spec := "fnExactWithVals", plainKeys := false, apart := false }
def FnExactWithValsSaid : Prop := fnExactWithValsRow.holds Try.pinned (OpenSpec.ofChange fnExactWithValsSpec)

/-- ITS FALSE NEIGHBOUR: 'it returns false'. Refute it at one input. -/
def fnExactWithValsWrong : ChangeSpec := { name := "fnExactWithVals", fn := fun _ => fun
  | [d1, d2] => { results := [.lit (.bool false)], args := [d1, d2] }
  | _ => none }
def FnExactWithValsWrongFalsely : Prop := fnExactWithValsRow.holds Try.pinned (OpenSpec.ofChange fnExactWithValsWrong)

/- THE SECOND FORM. 'bulk': how many values and letters a reading holds, each counted each time it is reached (what is shared counts as often as it is met; a slice's spare places count too). A statement '..UptoSaid' is the law's where the arguments, and the package variables that the reading takes, are together of bulk at most 1048576: NARROWER than '..Said'. Prove '..Said' where nothing that the law and all that it calls make is longer than what came in: it says more and counts as full. Else prove '..UptoSaid'. A law counts once. -/
mutual
def uptoBulk {H : Type} : DataW H → Nat
  | .lit (.string bytes) => bytes.length + 1
  | .lit _ => 1
  | .nil => 1
  | .ptr d => uptoBulk d + 1
  | .slice elems spare => uptoBulkAll elems + uptoBulkAll spare + 1
  | .agg parts => uptoBulkAll parts + 1
  | .iface _ d => uptoBulk d + 1
  | .map entries => uptoBulkEntries entries + 1
  | .held _ => 1
def uptoBulkAll {H : Type} : List (DataW H) → Nat
  | [] => 0
  | d :: r => uptoBulk d + uptoBulkAll r
def uptoBulkEntries {H : Type} : List (Lit × DataW H) → Nat
  | [] => 0
  | x :: r => uptoBulkEntry x + uptoBulkEntries r
def uptoBulkEntry {H : Type} : Lit × DataW H → Nat
  | (.string bytes, d) => bytes.length + uptoBulk d + 1
  | (_, d) => uptoBulk d + 1
 end
def uptoSmall : (H : Type) → List (DataW H) → Bool := fun _ ds => decide (uptoBulkAll ds ≤ 1048576)
def OpenSpec.upto (s : _root_.Go.ChangeSpec) : _root_.Go.OpenSpec := { _root_.Go.OpenSpec.ofChange s with cond := some uptoSmall }

/-- 'laws.FnExactSpan', WHERE WHAT IT READS IS OF BULK AT MOST 1048576: true; the input reads as it did. -/
def fnExactSpanUptoRow : OpenClaim := { program := "ytmbabbapcjphgaa", sum := "c31234679c1c579d67f97187419d1a94861eb780ec156272f40dd967b909fd96", func := "loop.example/g00671/laws.FnExactSpan", spec := "fnExactSpan", unfollowed := true, recurses := true, plainKeys := false, apart := false, narrowed := true }
def FnExactSpanUptoSaid : Prop := fnExactSpanUptoRow.holds Try.pinned (OpenSpec.upto fnExactSpanSpec)

/-- 'laws.FnExactShardOk', WHERE WHAT IT READS IS OF BULK AT MOST 1048576: true; the input reads as it did. -/
def fnExactShardOkUptoRow : OpenClaim := { program := "ytmbabbapcjphgaa", sum := "c31234679c1c579d67f97187419d1a94861eb780ec156272f40dd967b909fd96", func := "loop.example/g00671/laws.FnExactShardOk", spec := "fnExactShardOk", plainKeys := false, apart := false, narrowed := true }
def FnExactShardOkUptoSaid : Prop := fnExactShardOkUptoRow.holds Try.pinned (OpenSpec.upto fnExactShardOkSpec)

/-- 'laws.FnExactShards', WHERE WHAT IT READS IS OF BULK AT MOST 1048576: true; the input reads as it did. -/
def fnExactShardsUptoRow : OpenClaim := { program := "ytmbabbapcjphgaa", sum := "c31234679c1c579d67f97187419d1a94861eb780ec156272f40dd967b909fd96", func := "loop.example/g00671/laws.FnExactShards", spec := "fnExactShards", unfollowed := true, recurses := true, plainKeys := false, apart := false, narrowed := true }
def FnExactShardsUptoSaid : Prop := fnExactShardsUptoRow.holds Try.pinned (OpenSpec.upto fnExactShardsSpec)

/-- 'laws.FnExactShardBytes', WHERE WHAT IT READS IS OF BULK AT MOST 1048576: true; the input reads as it did. -/
def fnExactShardBytesUptoRow : OpenClaim := { program := "ytmbabbapcjphgaa", sum := "c31234679c1c579d67f97187419d1a94861eb780ec156272f40dd967b909fd96", func := "loop.example/g00671/laws.FnExactShardBytes", spec := "fnExactShardBytes", unfollowed := true, recurses := true, plainKeys := false, apart := false, narrowed := true }
def FnExactShardBytesUptoSaid : Prop := fnExactShardBytesUptoRow.holds Try.pinned (OpenSpec.upto fnExactShardBytesSpec)

/-- 'laws.FnExactShardRead', WHERE WHAT IT READS IS OF BULK AT MOST 1048576: true; the input reads as it did. -/
def fnExactShardReadUptoRow : OpenClaim := { program := "ytmbabbapcjphgaa", sum := "c31234679c1c579d67f97187419d1a94861eb780ec156272f40dd967b909fd96", func := "loop.example/g00671/laws.FnExactShardRead", spec := "fnExactShardRead", unfollowed := true, recurses := true, plainKeys := false, apart := false, narrowed := true }
def FnExactShardReadUptoSaid : Prop := fnExactShardReadUptoRow.holds Try.pinned (OpenSpec.upto fnExactShardReadSpec)

/-- 'laws.FnExactListBytes', WHERE WHAT IT READS IS OF BULK AT MOST 1048576: true; the input reads as it did. -/
def fnExactListBytesUptoRow : OpenClaim := { program := "ytmbabbapcjphgaa", sum := "c31234679c1c579d67f97187419d1a94861eb780ec156272f40dd967b909fd96", func := "loop.example/g00671/laws.FnExactListBytes", spec := "fnExactListBytes", unfollowed := true, recurses := true, plainKeys := false, apart := false, narrowed := true }
def FnExactListBytesUptoSaid : Prop := fnExactListBytesUptoRow.holds Try.pinned (OpenSpec.upto fnExactListBytesSpec)

/-- 'laws.FnExactListRead', WHERE WHAT IT READS IS OF BULK AT MOST 1048576: true; the input reads as it did. -/
def fnExactListReadUptoRow : OpenClaim := { program := "ytmbabbapcjphgaa", sum := "c31234679c1c579d67f97187419d1a94861eb780ec156272f40dd967b909fd96", func := "loop.example/g00671/laws.FnExactListRead", spec := "fnExactListRead", unfollowed := true, recurses := true, plainKeys := false, apart := false, narrowed := true }
def FnExactListReadUptoSaid : Prop := fnExactListReadUptoRow.holds Try.pinned (OpenSpec.upto fnExactListReadSpec)

/-- 'laws.FnExactWithVals', WHERE WHAT IT READS IS OF BULK AT MOST 1048576: true; the input reads as it did. -/
def fnExactWithValsUptoRow : OpenClaim := { program := "ytmbabbapcjphgaa", sum := "c31234679c1c579d67f97187419d1a94861eb780ec156272f40dd967b909fd96", func := "loop.example/g00671/laws.FnExactWithVals", spec := "fnExactWithVals", plainKeys := false, apart := false, narrowed := true }
def FnExactWithValsUptoSaid : Prop := fnExactWithValsUptoRow.holds Try.pinned (OpenSpec.upto fnExactWithValsSpec)

end Rows
end Go.Proofs.Ytmbabbapcjphgaa
