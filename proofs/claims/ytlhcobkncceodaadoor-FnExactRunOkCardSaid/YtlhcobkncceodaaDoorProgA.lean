/- The contracts of the program's AddCap, isVertex, isValue and of the model's like ones. No condition. -/
import Derived.Test.YtlhcobkncceodaaDoorGrN
import Derived.Test.YtlhcobkncceodaaDoorProgMath
namespace Go.Proofs.YtlhcobkncceodaaDoor
open Go.RowKit

theorem implAddCap (a b : Int) (w : World) :
    Calls Tryd.prog 95 #[.int .i64 a, .int .i64 b] w (fun e w' => e = .returned (.int .i64 (addC a b)) ∧ w' = w) := by
  have hA : addC a b = min (min (max a 0) 1099511627776 + min (max b 0) 1099511627776) 1099511627776 := rfl
  have H := Lib.hid hA
  obtain ⟨x, hx⟩ : ∃ x, x = min (max a 0) 1099511627776 := ⟨_, rfl⟩
  obtain ⟨y, hy⟩ : ∃ y, y = min (max b 0) 1099511627776 := ⟨_, rfl⟩
  have h0 : 0 ≤ x ∧ x ≤ 1099511627776 := by omega
  have h1 : 0 ≤ y ∧ y ≤ 1099511627776 := by omega
  have HX := Lib.hid hx
  have HY := Lib.hid hy
  have hx' := hx.symm
  have hy' := hy.symm
  have hw : IntKind.i64.wrap (x + y) = x + y := IntWalk.i64_in _ (by omega)
  clear hA hx hy
  go_enter Tryd.func95, Tryd.ntmps95
  go_wp2
  all_goals
    go_ret
    exact ⟨g_int (by have h1 := H.out; have h2 := HX.out; have h3 := HY.out; omega), rfl⟩
theorem implIsVertex (v : Int) (w : World) :
    Calls Tryd.prog 68 #[.int .i64 v] w (fun e w' => e = .returned (.bool (vtxB v)) ∧ w' = w) := by
  by_cases h : 0 ≤ v
  · have e1 : vtxB v = decide (v < 150) := by unfold vtxB; simp [h]
    rw [e1]
    go_enter Tryd.func68, Tryd.ntmps68
    go_wp2
    go_ret
    exact ⟨rfl, rfl⟩
  · have e1 : vtxB v = false := by unfold vtxB; simp [h]
    rw [e1]
    go_enter Tryd.func68, Tryd.ntmps68
    go_wp2
    go_ret
    exact ⟨rfl, rfl⟩
theorem implIsValue (v : Int) (w : World) :
    Calls Tryd.prog 61 #[.int .i64 v] w (fun e w' => e = .returned (.bool (valB v)) ∧ w' = w) := by
  by_cases h : 0 ≤ v
  · have e1 : valB v = decide (v ≤ 1099511627776) := by unfold valB; simp [h]
    rw [e1]
    go_enter Tryd.func61, Tryd.ntmps61
    go_wp2
    go_ret
    exact ⟨rfl, rfl⟩
  · have e1 : valB v = false := by unfold valB; simp [h]
    rw [e1]
    go_enter Tryd.func61, Tryd.ntmps61
    go_wp2
    go_ret
    exact ⟨rfl, rfl⟩
theorem specVertex (v : Int) (w : World) :
    Calls Tryd.prog 67 #[.int .i64 v] w (fun e w' => e = .returned (.bool (vtxB v)) ∧ w' = w) := by
  by_cases h : 0 ≤ v
  · have e1 : vtxB v = decide (v < 150) := by unfold vtxB; simp [h]
    rw [e1]
    go_enter Tryd.func67, Tryd.ntmps67
    go_wp2
    go_ret
    exact ⟨rfl, rfl⟩
  · have e1 : vtxB v = false := by unfold vtxB; simp [h]
    rw [e1]
    go_enter Tryd.func67, Tryd.ntmps67
    go_wp2
    go_ret
    exact ⟨rfl, rfl⟩
end Go.Proofs.YtlhcobkncceodaaDoor
