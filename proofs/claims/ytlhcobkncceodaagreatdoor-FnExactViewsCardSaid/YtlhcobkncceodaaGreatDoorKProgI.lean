/- The contracts of the program's programOf (what a number's program is made of) and of its small functions. No condition but that a divisor is not 0. -/
import Derived.Test.YtlhcobkncceodaaGreatDoorKProgA
import Derived.Test.YtlhcobkncceodaaGreatDoorKFnStore
import Derived.Deep.DeepCutAuto
import Derived.Deep.WholeRow
import Derived.Laws.Tables
namespace Go.Proofs.YtlhcobkncceodaaGreatDoor
open Go.RowKit

def prog1 : Array Value := #[.func (.func 111) #[] #[], .func (.func 112) #[] #[], .func (.func 113) #[] #[], .func (.func 114) #[] #[], .func (.func 115) #[] #[]]
def prog2 : Array Value := #[.func (.func 111) #[] #[], .func (.func 116) #[] #[], .func (.func 117) #[] #[], .func (.func 118) #[] #[], .func (.func 119) #[] #[]]
def prog3 : Array Value := #[.func (.func 120) #[] #[], .func (.func 121) #[] #[], .func (.func 117) #[] #[], .func (.func 122) #[] #[], .func (.func 123) #[] #[]]
def prog4 : Array Value := #[.func (.func 111) #[] #[], .func (.func 116) #[] #[], .func (.func 124) #[] #[], .func (.func 125) #[] #[], .func (.func 126) #[] #[]]
def prog0 : Array Value := #[.nilFunc, .nilFunc, .nilFunc, .nilFunc, .nilFunc]
def progAll : Array Value := #[.nilFunc, .nilFunc, .nilFunc, .nilFunc, .nilFunc, .func (.func 111) #[] #[], .func (.func 112) #[] #[], .func (.func 113) #[] #[], .func (.func 114) #[] #[], .func (.func 115) #[] #[], .func (.func 111) #[] #[], .func (.func 116) #[] #[], .func (.func 117) #[] #[], .func (.func 118) #[] #[], .func (.func 119) #[] #[], .func (.func 120) #[] #[], .func (.func 121) #[] #[], .func (.func 117) #[] #[], .func (.func 122) #[] #[], .func (.func 123) #[] #[], .func (.func 111) #[] #[], .func (.func 116) #[] #[], .func (.func 124) #[] #[], .func (.func 125) #[] #[], .func (.func 126) #[] #[]]
theorem wpList_build_is {P : Program} {ops : Array Oper} {rest : List Oper} {o : Oper} {a : Act} {w : World} {Q : Exit → Act → World → Prop} (hg : o.guard = none) (t : TypeId) (parts : Array (Nat × Operand)) (ho : o.op = .build t parts)
    (cells : Array Value) (hf : P.built t (parts.map fun (i, x) => (i, a.eval x)).toList = some cells)
    (h : wpList P ops Q rest (a.put o.dst (.agg cells)) w) : wpList P ops Q (o :: rest) a w :=
  wpList_build hg t parts ho (by rw [hf]; rfl) (by rw [hf]; exact h)
def GivesP (w : World) (v : Array Value) (b : Bool) (e : Ending) (w' : World) : Prop := e = .returned (.tuple #[.agg v, .bool b]) ∧ Below w.heap.size w w'
theorem progAll_store (u : World) : (storeCells ⟨u.heap.size, 0, none⟩ progAll.toList 0).run Tryz.prog (u.alloc (.cells #[.nilFunc, .nilFunc, .nilFunc, .nilFunc, .nilFunc, .nilFunc, .nilFunc, .nilFunc, .nilFunc, .nilFunc, .nilFunc, .nilFunc, .nilFunc, .nilFunc, .nilFunc, .nilFunc, .nilFunc, .nilFunc, .nilFunc, .nilFunc, .nilFunc, .nilFunc, .nilFunc, .nilFunc, .nilFunc] 141)) = .ok () (u.alloc (.cells progAll 141)) := run_storeCells_new u _ _ _ (by kernel_rfl) rfl (by kernel_rfl)

set_option maxRecDepth 20000 in
set_option maxHeartbeats 1000000 in
theorem progOf_1 (w : World) : Calls Tryz.prog 90 #[.int .i64 1] w (GivesP w prog1 true) := by
  have q0 : ∀ h : 5 < progAll.size, progAll[5]'h = .func (.func 111) #[] #[] := fun _ => rfl
  have q1 : ∀ h : 6 < progAll.size, progAll[6]'h = .func (.func 112) #[] #[] := fun _ => rfl
  have q2 : ∀ h : 7 < progAll.size, progAll[7]'h = .func (.func 113) #[] #[] := fun _ => rfl
  have q3 : ∀ h : 8 < progAll.size, progAll[8]'h = .func (.func 114) #[] #[] := fun _ => rfl
  have q4 : ∀ h : 9 < progAll.size, progAll[9]'h = .func (.func 115) #[] #[] := fun _ => rfl
  have hsz : progAll.size = 25 := rfl
  have hsc := progAll_store (w.alloc (.cells #[.nilFunc, .nilFunc, .nilFunc, .nilFunc, .nilFunc] 121))
  rw [World.size_alloc] at hsc
  go_enter Tryz.func90, Tryz.ntmps90
  go_upto_region 3 with fail
  refine wp_region_lit ?_
  refine wpList_build_is rfl _ _ rfl prog1 (by kernel_rfl) ?_
  refine wpList_build_is rfl _ _ rfl prog2 (by kernel_rfl) ?_
  refine wpList_build_is rfl _ _ rfl prog3 (by kernel_rfl) ?_
  refine wpList_build_is rfl _ _ rfl prog4 (by kernel_rfl) ?_
  refine wpList_build_is rfl _ _ rfl progAll (by kernel_rfl) ?_
  (try simp only [Act.put, List.setIfInBounds_toArray, List.set_cons_zero, List.set_cons_succ])
  go_wp2
  refine bodyPost_ret (v := .tuple #[.agg prog1, .bool true]) (by simp [results, Tryz.results90, go_sem, prog1]) rfl ⟨rfl, ?_⟩
  exact below_a2 _ _ _
set_option maxRecDepth 20000 in
set_option maxHeartbeats 1000000 in
theorem progOf_2 (w : World) : Calls Tryz.prog 90 #[.int .i64 2] w (GivesP w prog2 true) := by
  have q0 : ∀ h : 10 < progAll.size, progAll[10]'h = .func (.func 111) #[] #[] := fun _ => rfl
  have q1 : ∀ h : 11 < progAll.size, progAll[11]'h = .func (.func 116) #[] #[] := fun _ => rfl
  have q2 : ∀ h : 12 < progAll.size, progAll[12]'h = .func (.func 117) #[] #[] := fun _ => rfl
  have q3 : ∀ h : 13 < progAll.size, progAll[13]'h = .func (.func 118) #[] #[] := fun _ => rfl
  have q4 : ∀ h : 14 < progAll.size, progAll[14]'h = .func (.func 119) #[] #[] := fun _ => rfl
  have hsz : progAll.size = 25 := rfl
  have hsc := progAll_store (w.alloc (.cells #[.nilFunc, .nilFunc, .nilFunc, .nilFunc, .nilFunc] 121))
  rw [World.size_alloc] at hsc
  go_enter Tryz.func90, Tryz.ntmps90
  go_upto_region 3 with fail
  refine wp_region_lit ?_
  refine wpList_build_is rfl _ _ rfl prog1 (by kernel_rfl) ?_
  refine wpList_build_is rfl _ _ rfl prog2 (by kernel_rfl) ?_
  refine wpList_build_is rfl _ _ rfl prog3 (by kernel_rfl) ?_
  refine wpList_build_is rfl _ _ rfl prog4 (by kernel_rfl) ?_
  refine wpList_build_is rfl _ _ rfl progAll (by kernel_rfl) ?_
  (try simp only [Act.put, List.setIfInBounds_toArray, List.set_cons_zero, List.set_cons_succ])
  go_wp2
  refine bodyPost_ret (v := .tuple #[.agg prog2, .bool true]) (by simp [results, Tryz.results90, go_sem, prog2]) rfl ⟨rfl, ?_⟩
  exact below_a2 _ _ _
set_option maxRecDepth 20000 in
set_option maxHeartbeats 1000000 in
theorem progOf_3 (w : World) : Calls Tryz.prog 90 #[.int .i64 3] w (GivesP w prog3 true) := by
  have q0 : ∀ h : 15 < progAll.size, progAll[15]'h = .func (.func 120) #[] #[] := fun _ => rfl
  have q1 : ∀ h : 16 < progAll.size, progAll[16]'h = .func (.func 121) #[] #[] := fun _ => rfl
  have q2 : ∀ h : 17 < progAll.size, progAll[17]'h = .func (.func 117) #[] #[] := fun _ => rfl
  have q3 : ∀ h : 18 < progAll.size, progAll[18]'h = .func (.func 122) #[] #[] := fun _ => rfl
  have q4 : ∀ h : 19 < progAll.size, progAll[19]'h = .func (.func 123) #[] #[] := fun _ => rfl
  have hsz : progAll.size = 25 := rfl
  have hsc := progAll_store (w.alloc (.cells #[.nilFunc, .nilFunc, .nilFunc, .nilFunc, .nilFunc] 121))
  rw [World.size_alloc] at hsc
  go_enter Tryz.func90, Tryz.ntmps90
  go_upto_region 3 with fail
  refine wp_region_lit ?_
  refine wpList_build_is rfl _ _ rfl prog1 (by kernel_rfl) ?_
  refine wpList_build_is rfl _ _ rfl prog2 (by kernel_rfl) ?_
  refine wpList_build_is rfl _ _ rfl prog3 (by kernel_rfl) ?_
  refine wpList_build_is rfl _ _ rfl prog4 (by kernel_rfl) ?_
  refine wpList_build_is rfl _ _ rfl progAll (by kernel_rfl) ?_
  (try simp only [Act.put, List.setIfInBounds_toArray, List.set_cons_zero, List.set_cons_succ])
  go_wp2
  refine bodyPost_ret (v := .tuple #[.agg prog3, .bool true]) (by simp [results, Tryz.results90, go_sem, prog3]) rfl ⟨rfl, ?_⟩
  exact below_a2 _ _ _
set_option maxRecDepth 20000 in
set_option maxHeartbeats 1000000 in
theorem progOf_4 (w : World) : Calls Tryz.prog 90 #[.int .i64 4] w (GivesP w prog4 true) := by
  have q0 : ∀ h : 20 < progAll.size, progAll[20]'h = .func (.func 111) #[] #[] := fun _ => rfl
  have q1 : ∀ h : 21 < progAll.size, progAll[21]'h = .func (.func 116) #[] #[] := fun _ => rfl
  have q2 : ∀ h : 22 < progAll.size, progAll[22]'h = .func (.func 124) #[] #[] := fun _ => rfl
  have q3 : ∀ h : 23 < progAll.size, progAll[23]'h = .func (.func 125) #[] #[] := fun _ => rfl
  have q4 : ∀ h : 24 < progAll.size, progAll[24]'h = .func (.func 126) #[] #[] := fun _ => rfl
  have hsz : progAll.size = 25 := rfl
  have hsc := progAll_store (w.alloc (.cells #[.nilFunc, .nilFunc, .nilFunc, .nilFunc, .nilFunc] 121))
  rw [World.size_alloc] at hsc
  go_enter Tryz.func90, Tryz.ntmps90
  go_upto_region 3 with fail
  refine wp_region_lit ?_
  refine wpList_build_is rfl _ _ rfl prog1 (by kernel_rfl) ?_
  refine wpList_build_is rfl _ _ rfl prog2 (by kernel_rfl) ?_
  refine wpList_build_is rfl _ _ rfl prog3 (by kernel_rfl) ?_
  refine wpList_build_is rfl _ _ rfl prog4 (by kernel_rfl) ?_
  refine wpList_build_is rfl _ _ rfl progAll (by kernel_rfl) ?_
  (try simp only [Act.put, List.setIfInBounds_toArray, List.set_cons_zero, List.set_cons_succ])
  go_wp2
  refine bodyPost_ret (v := .tuple #[.agg prog4, .bool true]) (by simp [results, Tryz.results90, go_sem, prog4]) rfl ⟨rfl, ?_⟩
  exact below_a2 _ _ _
set_option maxHeartbeats 1000000 in
theorem progOf_no (p : Int) (h : p < 1 ∨ 4 < p) (w : World) : Calls Tryz.prog 90 #[.int .i64 p] w (GivesP w prog0 false) := by
  by_cases h1 : p < 1
  · clear h
    go_enter Tryz.func90, Tryz.ntmps90
    go_wp2
    refine bodyPost_ret (v := .tuple #[.agg prog0, .bool false]) (by simp [results, Tryz.results90, go_sem, prog0]) rfl ⟨rfl, ?_⟩
    exact below_a1 _ _
  · have h2 : 4 < p := by omega
    clear h
    go_enter Tryz.func90, Tryz.ntmps90
    go_wp2
    refine bodyPost_ret (v := .tuple #[.agg prog0, .bool false]) (by simp [results, Tryz.results90, go_sem, prog0]) rfl ⟨rfl, ?_⟩
    exact below_a1 _ _

theorem src_no (n s : Int) (w : World) : Calls Tryz.prog 111 #[.int .i64 n, .int .i64 s] w (fun e w' => e = .returned (.bool (decide (s = 0))) ∧ w' = w) := by
  go_enter Tryz.func111, Tryz.ntmps111
  go_wp2
  go_ret
  exact ⟨rfl, rfl⟩
theorem val_1 (s v : Int) (w : World) : Calls Tryz.prog 112 #[.int .i64 s, .int .i64 v] w (fun e w' => e = .returned (.int .i64 1048576) ∧ w' = w) := by
  go_enter Tryz.func112, Tryz.ntmps112
  go_wp2
  go_ret
  exact ⟨rfl, rfl⟩
theorem val_24 (s v : Int) (w : World) : Calls Tryz.prog 116 #[.int .i64 s, .int .i64 v] w (fun e w' => e = .returned (.int .i64 v) ∧ w' = w) := by
  go_enter Tryz.func116, Tryz.ntmps116
  go_wp2
  go_ret
  exact ⟨rfl, rfl⟩
theorem edge_23 (f t d : Int) (w : World) : Calls Tryz.prog 117 #[.int .i64 f, .int .i64 t, .int .i64 d] w (fun e w' => e = .returned (.int .i64 1099511627776) ∧ w' = w) := by
  go_enter Tryz.func117, Tryz.ntmps117
  go_wp2
  go_ret
  exact ⟨rfl, rfl⟩
theorem src_3 (n s : Int) (w : World) : Calls Tryz.prog 120 #[.int .i64 n, .int .i64 s] w (fun e w' => e = .returned (.bool (decide (0 ≤ s) && decide (s < n))) ∧ w' = w) := by
  by_cases h : 0 ≤ s
  · have e1 : (decide (0 ≤ s) && decide (s < n)) = decide (s < n) := by simp [h]
    rw [e1]
    go_enter Tryz.func120, Tryz.ntmps120
    go_wp2
    go_ret
    exact ⟨rfl, rfl⟩
  · have e1 : (decide (0 ≤ s) && decide (s < n)) = false := by simp [h]
    rw [e1]
    go_enter Tryz.func120, Tryz.ntmps120
    go_wp2
    go_ret
    exact ⟨rfl, rfl⟩
theorem val_3 (s v : Int) (w : World) : Calls Tryz.prog 121 #[.int .i64 s, .int .i64 v] w (fun e w' => e = .returned (.int .i64 (if v = s then 0 else 1099511627776)) ∧ w' = w) := by
  by_cases h : v = s
  · rw [if_pos h]
    subst h
    go_enter Tryz.func121, Tryz.ntmps121
    go_wp2
    go_ret
    exact ⟨rfl, rfl⟩
  · rw [if_neg h]
    have h2 : (v == s) = false := by simp [h]
    go_enter Tryz.func121, Tryz.ntmps121
    go_wp2
    go_ret
    exact ⟨rfl, rfl⟩
theorem edge_1 (f t d : Int) (w : World) (h : 1 ≤ d) : Calls Tryz.prog 113 #[.int .i64 f, .int .i64 t, .int .i64 d] w (fun e w' => e = .returned (.int .i64 (Int.tdiv 1048576 d)) ∧ w' = w) := by
  have h0 : d ≠ 0 := by omega
  have h1 : (d == 0) = false := by simp [h0]
  have h2 : IntKind.i64.wrap (Int.tdiv 1048576 d) = Int.tdiv 1048576 d := IntWalk.i64_in _ (by rw [Int.tdiv_eq_ediv_of_nonneg (by omega)]; have := Int.ediv_nonneg (a := 1048576) (b := d) (by omega) (by omega); have := Int.ediv_le_self (a := 1048576) d (by omega); omega)
  go_enter Tryz.func113, Tryz.ntmps113
  go_wp2
  go_ret
  exact ⟨rfl, rfl⟩
theorem edge_4 (f t d : Int) (w : World) (hf : 0 ≤ f ∧ f < 150) (ht : 0 ≤ t ∧ t < 150) : Calls Tryz.prog 124 #[.int .i64 f, .int .i64 t, .int .i64 d] w (fun e w' => e = .returned (.int .i64 (f * 1000 + t)) ∧ w' = w) := by
  have h1 : IntKind.i64.wrap (f * 1000) = f * 1000 := IntWalk.i64_in _ (by omega)
  have h2 : IntKind.i64.wrap (f * 1000 + t) = f * 1000 + t := IntWalk.i64_in _ (by omega)
  go_enter Tryz.func124, Tryz.ntmps124
  go_wp2
  go_ret
  exact ⟨rfl, rfl⟩
end Go.Proofs.YtlhcobkncceodaaGreatDoor
