/- The contracts of the program's AddCap, isVertex, isValue and of the model's like ones. No condition. -/
import Derived.Test.YtlhcobkncceodaaGreatDoorCK
import Derived.Test.YtlhcobkncceodaaGreatDoorProgMath
namespace Go.Proofs.YtlhcobkncceodaaGreatDoor
open Go.RowKit

theorem implAddCap (a b : Int) (w : World) :
    Calls Tryz.prog 136 #[.int .i64 a, .int .i64 b] w (fun e w' => e = .returned (.int .i64 (addC a b)) ∧ w' = w) := by
  have hA : addC a b = min (min (max a 0) 1099511627776 + min (max b 0) 1099511627776) 1099511627776 := rfl
  have H := Lib.hid hA
  obtain ⟨x, hx⟩ : ∃ x, x = min (max a 0) 1099511627776 := ⟨_, rfl⟩
  obtain ⟨y, hy⟩ : ∃ y, y = min (max b 0) 1099511627776 := ⟨_, rfl⟩
  have h0 : 0 ≤ x ∧ x ≤ 1099511627776 := by omega
  have h1 : 0 ≤ y ∧ y ≤ 1099511627776 := by omega
  have HX := Lib.hid hx
  have HY := Lib.hid hy
  have hx' := hx.symm
  have hy' := hy.symm
  have hw : IntKind.i64.wrap (x + y) = x + y := IntWalk.i64_in _ (by omega)
  clear hA hx hy
  go_enter Tryz.func136, Tryz.ntmps136
  go_wp2
  all_goals
    go_ret
    exact ⟨g_int (by have h1 := H.out; have h2 := HX.out; have h3 := HY.out; omega), rfl⟩
theorem implIsVertex (v : Int) (w : World) :
    Calls Tryz.prog 133 #[.int .i64 v] w (fun e w' => e = .returned (.bool (vtxB v)) ∧ w' = w) := by
  by_cases h : 0 ≤ v
  · have e1 : vtxB v = decide (v < 150) := by unfold vtxB; simp [h]
    rw [e1]
    go_enter Tryz.func133, Tryz.ntmps133
    go_wp2
    go_ret
    exact ⟨rfl, rfl⟩
  · have e1 : vtxB v = false := by unfold vtxB; simp [h]
    rw [e1]
    go_enter Tryz.func133, Tryz.ntmps133
    go_wp2
    go_ret
    exact ⟨rfl, rfl⟩
theorem implIsValue (v : Int) (w : World) :
    Calls Tryz.prog 93 #[.int .i64 v] w (fun e w' => e = .returned (.bool (valB v)) ∧ w' = w) := by
  by_cases h : 0 ≤ v
  · have e1 : valB v = decide (v ≤ 1099511627776) := by unfold valB; simp [h]
    rw [e1]
    go_enter Tryz.func93, Tryz.ntmps93
    go_wp2
    go_ret
    exact ⟨rfl, rfl⟩
  · have e1 : valB v = false := by unfold valB; simp [h]
    rw [e1]
    go_enter Tryz.func93, Tryz.ntmps93
    go_wp2
    go_ret
    exact ⟨rfl, rfl⟩
theorem specVertex (v : Int) (w : World) :
    Calls Tryz.prog 129 #[.int .i64 v] w (fun e w' => e = .returned (.bool (vtxB v)) ∧ w' = w) := by
  by_cases h : 0 ≤ v
  · have e1 : vtxB v = decide (v < 150) := by unfold vtxB; simp [h]
    rw [e1]
    go_enter Tryz.func129, Tryz.ntmps129
    go_wp2
    go_ret
    exact ⟨rfl, rfl⟩
  · have e1 : vtxB v = false := by unfold vtxB; simp [h]
    rw [e1]
    go_enter Tryz.func129, Tryz.ntmps129
    go_wp2
    go_ret
    exact ⟨rfl, rfl⟩
theorem specClampF (v : Int) (w : World) :
    Calls Tryz.prog 146 #[.int .i64 v, .int .i64 1099511627776] w (fun e w' => e = .returned (.int .i64 (capF v)) ∧ w' = w) := by
  have hA : capF v = min (max v 0) 1099511627776 := rfl
  have H := Lib.hid hA
  clear hA
  by_cases h : v < 0
  · go_enter Tryz.func146, Tryz.ntmps146
    go_wp2
    go_ret
    exact ⟨g_int (by have h1 := H.out; omega), rfl⟩
  · by_cases h2 : 1099511627776 < v
    · go_enter Tryz.func146, Tryz.ntmps146
      go_wp2
      go_ret
      exact ⟨g_int (by have h1 := H.out; omega), rfl⟩
    · go_enter Tryz.func146, Tryz.ntmps146
      go_wp2
      go_ret
      exact ⟨g_int (by have h1 := H.out; omega), rfl⟩
theorem specCap (v : Int) (w : World) :
    Calls Tryz.prog 143 #[.int .i64 v] w (fun e w' => e = .returned (.int .i64 (capF v)) ∧ w' = w) := by
  have C := Lib.hid (specClampF v w)
  go_enter Tryz.func143, Tryz.ntmps143
  go_wp2_with fail
  refine C.out.mono ?_
  rintro e w1 ⟨rfl, rfl⟩
  go_wp2
  go_ret
  exact ⟨rfl, rfl⟩
theorem specAddCap (a b : Int) (w : World) :
    Calls Tryz.prog 142 #[.int .i64 a, .int .i64 b] w (fun e w' => e = .returned (.int .i64 (addC a b)) ∧ w' = w) := by
  have C := Lib.hid (fun v w => specCap v w)
  have h0 := capF_lim a
  have h1 := capF_lim b
  rw [← addC_cap a b]
  generalize hx : capF a = x at h0
  generalize hy : capF b = y at h1
  have HX := Lib.hid hx
  have HY := Lib.hid hy
  clear hx hy
  have hw : IntKind.i64.wrap (x + y) = x + y := IntWalk.i64_in _ (by omega)
  go_enter Tryz.func142, Tryz.ntmps142
  go_wp2_with fail
  refine (C.out a _).mono ?_
  rw [HX.out]
  rintro e w1 ⟨rfl, rfl⟩
  go_wp2_with fail
  refine (C.out b _).mono ?_
  rw [HY.out]
  rintro e w1 ⟨rfl, rfl⟩
  go_wp2_with fail
  refine (C.out (x + y) _).mono ?_
  rintro e w1 ⟨rfl, rfl⟩
  go_wp2
  go_ret
  exact ⟨rfl, rfl⟩
end Go.Proofs.YtlhcobkncceodaaGreatDoor
