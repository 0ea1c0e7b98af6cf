/- What the functions on encoded shards and lists return (no condition). -/
import Derived.Test.YtmbabbapcjphgaaPackMath
import Derived.Test.YtmbabbapcjphgaaKEB
import Derived.Test.YtmbabbapcjphgaaDegsB
namespace Go.Proofs.Ytmbabbapcjphgaa
open Go.RowKit

/-- A shard and whether there is one. -/
def MadeShB (w : World) (lo hi : Int) (es : List KE) (ok : Bool) (e : Ending) (w' : World) : Prop :=
  ∃ A c, e = .returned (.tuple #[.agg #[.int .i64 lo, .int .i64 hi, .slice A es.length c], .bool ok]) ∧ w'.ownsRow w.heap.size 77 5 (.slice A es.length c) es.length (es.flatMap KE.cells) ∧ Below w.heap.size w w'
/-- A shard, the offset behind it and whether there is one. -/
def MadeShP (w : World) (lo hi : Int) (es : List KE) (p : Int) (ok : Bool) (e : Ending) (w' : World) : Prop :=
  ∃ A c, e = .returned (.tuple #[.agg #[.int .i64 lo, .int .i64 hi, .slice A es.length c], .int .i64 p, .bool ok]) ∧ w'.ownsRow w.heap.size 77 5 (.slice A es.length c) es.length (es.flatMap KE.cells) ∧ Below w.heap.size w w'
/-- A list of numbers, the offset behind it and whether there is one. -/
def MadeNP (w : World) (xs : List Int) (p : Int) (ok : Bool) (e : Ending) (w' : World) : Prop :=
  ∃ A c, e = .returned (.tuple #[.slice A xs.length c, .int .i64 p, .bool ok]) ∧ OwI w' w.heap.size A xs.length c xs ∧ Below w.heap.size w w'
theorem MadeShB.no (w w' : World) (h : Below w.heap.size w w') : MadeShB w 0 0 [] false (.returned (.tuple #[.agg #[.int .i64 0, .int .i64 0, .slice none 0 0], .bool false])) w' := ⟨none, 0, rfl, World.ownsRow_nil _ _ _ _, h⟩
theorem MadeShP.no (w w' : World) (h : Below w.heap.size w w') : MadeShP w 0 0 [] 0 false (.returned (.tuple #[.agg #[.int .i64 0, .int .i64 0, .slice none 0 0], .int .i64 0, .bool false])) w' := ⟨none, 0, rfl, World.ownsRow_nil _ _ _ _, h⟩
theorem MadeNP.no (w w' : World) (h : Below w.heap.size w w') : MadeNP w [] 0 false (.returned (.tuple #[.slice none 0 0, .int .i64 0, .bool false])) w' := ⟨none, 0, rfl, World.ownsRow_nil _ _ _ _, h⟩
theorem PutRes.nope (w w' : World) (h : Below w.heap.size w w') : PutRes w false [] (.returned (.tuple #[.slice none 0 0, .bool false])) w' := ⟨none, 0, rfl, World.ownsRow_nil _ _ _ _, h⟩
end Go.Proofs.Ytmbabbapcjphgaa
