/- The contract of the program's test for a number. -/
import Derived.Test.YtmbabbapcjphgaaBase
namespace Go.Proofs.Ytmbabbapcjphgaa
open Go.RowKit

theorem implNum_yes (n : Int) (w : World) (h0 : 0 ≤ n) (h1 : n ≤ 281474976710655) : Calls Try.prog 87 #[.int .i64 n] w fun e w' => e = .returned (.bool true) ∧ w = w' := by
  go_enter Try.func87, Try.ntmps87
  go_wp2
  go_ret
  exact ⟨rfl, rfl⟩

theorem implNum_no (n : Int) (w : World) (h : n < 0 ∨ 281474976710655 < n) : Calls Try.prog 87 #[.int .i64 n] w fun e w' => e = .returned (.bool false) ∧ w = w' := by
  rcases h with h | h
  · go_enter Try.func87, Try.ntmps87
    go_wp2
    go_ret
    exact ⟨rfl, rfl⟩
  · have h0 : 0 ≤ n := by omega
    have h2 : decide (n ≤ 281474976710655) = false := by simpa using h
    go_enter Try.func87, Try.ntmps87
    go_wp2
    go_ret
    exact ⟨rfl, rfl⟩
end Go.Proofs.Ytmbabbapcjphgaa
