/- The contracts of the program's programOf (what a number's program is made of) and of its small functions. No condition but that a divisor is not 0. -/
import Derived.Test.YtgmgpadijajkkaaProgA
import Derived.Test.YtgmgpadijajkkaaFnStore
import Derived.Deep.DeepCutAuto
import Derived.Deep.WholeRow
import Derived.Laws.Tables
namespace Go.Proofs.Ytgmgpadijajkkaa
open Go.RowKit

def prog1 : Array Value := #[.func (.func 45) #[] #[], .func (.func 46) #[] #[], .func (.func 47) #[] #[], .func (.func 48) #[] #[], .func (.func 49) #[] #[]]
def prog2 : Array Value := #[.func (.func 45) #[] #[], .func (.func 50) #[] #[], .func (.func 51) #[] #[], .func (.func 52) #[] #[], .func (.func 53) #[] #[]]
def prog3 : Array Value := #[.func (.func 54) #[] #[], .func (.func 55) #[] #[], .func (.func 51) #[] #[], .func (.func 56) #[] #[], .func (.func 57) #[] #[]]
def prog4 : Array Value := #[.func (.func 45) #[] #[], .func (.func 50) #[] #[], .func (.func 58) #[] #[], .func (.func 59) #[] #[], .func (.func 60) #[] #[]]
def prog0 : Array Value := #[.nilFunc, .nilFunc, .nilFunc, .nilFunc, .nilFunc]
def progAll : Array Value := #[.nilFunc, .nilFunc, .nilFunc, .nilFunc, .nilFunc, .func (.func 45) #[] #[], .func (.func 46) #[] #[], .func (.func 47) #[] #[], .func (.func 48) #[] #[], .func (.func 49) #[] #[], .func (.func 45) #[] #[], .func (.func 50) #[] #[], .func (.func 51) #[] #[], .func (.func 52) #[] #[], .func (.func 53) #[] #[], .func (.func 54) #[] #[], .func (.func 55) #[] #[], .func (.func 51) #[] #[], .func (.func 56) #[] #[], .func (.func 57) #[] #[], .func (.func 45) #[] #[], .func (.func 50) #[] #[], .func (.func 58) #[] #[], .func (.func 59) #[] #[], .func (.func 60) #[] #[]]
theorem wpList_build_is {P : Program} {ops : Array Oper} {rest : List Oper} {o : Oper} {a : Act} {w : World} {Q : Exit → Act → World → Prop} (hg : o.guard = none) (t : TypeId) (parts : Array (Nat × Operand)) (ho : o.op = .build t parts)
    (cells : Array Value) (hf : P.built t (parts.map fun (i, x) => (i, a.eval x)).toList = some cells)
    (h : wpList P ops Q rest (a.put o.dst (.agg cells)) w) : wpList P ops Q (o :: rest) a w :=
  wpList_build hg t parts ho (by rw [hf]; rfl) (by rw [hf]; exact h)
def GivesP (w : World) (v : Array Value) (b : Bool) (e : Ending) (w' : World) : Prop := e = .returned (.tuple #[.agg v, .bool b]) ∧ Below w.heap.size w w'
theorem progAll_store (u : World) : (storeCells ⟨u.heap.size, 0, none⟩ progAll.toList 0).run Try.prog (u.alloc (.cells #[.nilFunc, .nilFunc, .nilFunc, .nilFunc, .nilFunc, .nilFunc, .nilFunc, .nilFunc, .nilFunc, .nilFunc, .nilFunc, .nilFunc, .nilFunc, .nilFunc, .nilFunc, .nilFunc, .nilFunc, .nilFunc, .nilFunc, .nilFunc, .nilFunc, .nilFunc, .nilFunc, .nilFunc, .nilFunc] 76)) = .ok () (u.alloc (.cells progAll 76)) := run_storeCells_new u _ _ _ (by kernel_rfl) rfl (by kernel_rfl)

set_option maxRecDepth 20000 in
set_option maxHeartbeats 1000000 in
theorem progOf_1 (w : World) : Calls Try.prog 32 #[.int .i64 1] w (GivesP w prog1 true) := by
  have q0 : ∀ h : 5 < progAll.size, progAll[5]'h = .func (.func 45) #[] #[] := fun _ => rfl
  have q1 : ∀ h : 6 < progAll.size, progAll[6]'h = .func (.func 46) #[] #[] := fun _ => rfl
  have q2 : ∀ h : 7 < progAll.size, progAll[7]'h = .func (.func 47) #[] #[] := fun _ => rfl
  have q3 : ∀ h : 8 < progAll.size, progAll[8]'h = .func (.func 48) #[] #[] := fun _ => rfl
  have q4 : ∀ h : 9 < progAll.size, progAll[9]'h = .func (.func 49) #[] #[] := fun _ => rfl
  have hsz : progAll.size = 25 := rfl
  have hsc := progAll_store (w.alloc (.cells #[.nilFunc, .nilFunc, .nilFunc, .nilFunc, .nilFunc] 61))
  rw [World.size_alloc] at hsc
  go_enter Try.func32, Try.ntmps32
  go_upto_region 3 with fail
  refine wp_region_lit ?_
  refine wpList_build_is rfl _ _ rfl prog1 (by kernel_rfl) ?_
  refine wpList_build_is rfl _ _ rfl prog2 (by kernel_rfl) ?_
  refine wpList_build_is rfl _ _ rfl prog3 (by kernel_rfl) ?_
  refine wpList_build_is rfl _ _ rfl prog4 (by kernel_rfl) ?_
  refine wpList_build_is rfl _ _ rfl progAll (by kernel_rfl) ?_
  (try simp only [Act.put, List.setIfInBounds_toArray, List.set_cons_zero, List.set_cons_succ])
  go_wp2
  refine bodyPost_ret (v := .tuple #[.agg prog1, .bool true]) (by simp [results, Try.results32, go_sem, prog1]) rfl ⟨rfl, ?_⟩
  exact below_a2 _ _ _
set_option maxRecDepth 20000 in
set_option maxHeartbeats 1000000 in
theorem progOf_2 (w : World) : Calls Try.prog 32 #[.int .i64 2] w (GivesP w prog2 true) := by
  have q0 : ∀ h : 10 < progAll.size, progAll[10]'h = .func (.func 45) #[] #[] := fun _ => rfl
  have q1 : ∀ h : 11 < progAll.size, progAll[11]'h = .func (.func 50) #[] #[] := fun _ => rfl
  have q2 : ∀ h : 12 < progAll.size, progAll[12]'h = .func (.func 51) #[] #[] := fun _ => rfl
  have q3 : ∀ h : 13 < progAll.size, progAll[13]'h = .func (.func 52) #[] #[] := fun _ => rfl
  have q4 : ∀ h : 14 < progAll.size, progAll[14]'h = .func (.func 53) #[] #[] := fun _ => rfl
  have hsz : progAll.size = 25 := rfl
  have hsc := progAll_store (w.alloc (.cells #[.nilFunc, .nilFunc, .nilFunc, .nilFunc, .nilFunc] 61))
  rw [World.size_alloc] at hsc
  go_enter Try.func32, Try.ntmps32
  go_upto_region 3 with fail
  refine wp_region_lit ?_
  refine wpList_build_is rfl _ _ rfl prog1 (by kernel_rfl) ?_
  refine wpList_build_is rfl _ _ rfl prog2 (by kernel_rfl) ?_
  refine wpList_build_is rfl _ _ rfl prog3 (by kernel_rfl) ?_
  refine wpList_build_is rfl _ _ rfl prog4 (by kernel_rfl) ?_
  refine wpList_build_is rfl _ _ rfl progAll (by kernel_rfl) ?_
  (try simp only [Act.put, List.setIfInBounds_toArray, List.set_cons_zero, List.set_cons_succ])
  go_wp2
  refine bodyPost_ret (v := .tuple #[.agg prog2, .bool true]) (by simp [results, Try.results32, go_sem, prog2]) rfl ⟨rfl, ?_⟩
  exact below_a2 _ _ _
set_option maxRecDepth 20000 in
set_option maxHeartbeats 1000000 in
theorem progOf_3 (w : World) : Calls Try.prog 32 #[.int .i64 3] w (GivesP w prog3 true) := by
  have q0 : ∀ h : 15 < progAll.size, progAll[15]'h = .func (.func 54) #[] #[] := fun _ => rfl
  have q1 : ∀ h : 16 < progAll.size, progAll[16]'h = .func (.func 55) #[] #[] := fun _ => rfl
  have q2 : ∀ h : 17 < progAll.size, progAll[17]'h = .func (.func 51) #[] #[] := fun _ => rfl
  have q3 : ∀ h : 18 < progAll.size, progAll[18]'h = .func (.func 56) #[] #[] := fun _ => rfl
  have q4 : ∀ h : 19 < progAll.size, progAll[19]'h = .func (.func 57) #[] #[] := fun _ => rfl
  have hsz : progAll.size = 25 := rfl
  have hsc := progAll_store (w.alloc (.cells #[.nilFunc, .nilFunc, .nilFunc, .nilFunc, .nilFunc] 61))
  rw [World.size_alloc] at hsc
  go_enter Try.func32, Try.ntmps32
  go_upto_region 3 with fail
  refine wp_region_lit ?_
  refine wpList_build_is rfl _ _ rfl prog1 (by kernel_rfl) ?_
  refine wpList_build_is rfl _ _ rfl prog2 (by kernel_rfl) ?_
  refine wpList_build_is rfl _ _ rfl prog3 (by kernel_rfl) ?_
  refine wpList_build_is rfl _ _ rfl prog4 (by kernel_rfl) ?_
  refine wpList_build_is rfl _ _ rfl progAll (by kernel_rfl) ?_
  (try simp only [Act.put, List.setIfInBounds_toArray, List.set_cons_zero, List.set_cons_succ])
  go_wp2
  refine bodyPost_ret (v := .tuple #[.agg prog3, .bool true]) (by simp [results, Try.results32, go_sem, prog3]) rfl ⟨rfl, ?_⟩
  exact below_a2 _ _ _
set_option maxRecDepth 20000 in
set_option maxHeartbeats 1000000 in
theorem progOf_4 (w : World) : Calls Try.prog 32 #[.int .i64 4] w (GivesP w prog4 true) := by
  have q0 : ∀ h : 20 < progAll.size, progAll[20]'h = .func (.func 45) #[] #[] := fun _ => rfl
  have q1 : ∀ h : 21 < progAll.size, progAll[21]'h = .func (.func 50) #[] #[] := fun _ => rfl
  have q2 : ∀ h : 22 < progAll.size, progAll[22]'h = .func (.func 58) #[] #[] := fun _ => rfl
  have q3 : ∀ h : 23 < progAll.size, progAll[23]'h = .func (.func 59) #[] #[] := fun _ => rfl
  have q4 : ∀ h : 24 < progAll.size, progAll[24]'h = .func (.func 60) #[] #[] := fun _ => rfl
  have hsz : progAll.size = 25 := rfl
  have hsc := progAll_store (w.alloc (.cells #[.nilFunc, .nilFunc, .nilFunc, .nilFunc, .nilFunc] 61))
  rw [World.size_alloc] at hsc
  go_enter Try.func32, Try.ntmps32
  go_upto_region 3 with fail
  refine wp_region_lit ?_
  refine wpList_build_is rfl _ _ rfl prog1 (by kernel_rfl) ?_
  refine wpList_build_is rfl _ _ rfl prog2 (by kernel_rfl) ?_
  refine wpList_build_is rfl _ _ rfl prog3 (by kernel_rfl) ?_
  refine wpList_build_is rfl _ _ rfl prog4 (by kernel_rfl) ?_
  refine wpList_build_is rfl _ _ rfl progAll (by kernel_rfl) ?_
  (try simp only [Act.put, List.setIfInBounds_toArray, List.set_cons_zero, List.set_cons_succ])
  go_wp2
  refine bodyPost_ret (v := .tuple #[.agg prog4, .bool true]) (by simp [results, Try.results32, go_sem, prog4]) rfl ⟨rfl, ?_⟩
  exact below_a2 _ _ _
set_option maxHeartbeats 1000000 in
theorem progOf_no (p : Int) (h : p < 1 ∨ 4 < p) (w : World) : Calls Try.prog 32 #[.int .i64 p] w (GivesP w prog0 false) := by
  by_cases h1 : p < 1
  · clear h
    go_enter Try.func32, Try.ntmps32
    go_wp2
    refine bodyPost_ret (v := .tuple #[.agg prog0, .bool false]) (by simp [results, Try.results32, go_sem, prog0]) rfl ⟨rfl, ?_⟩
    exact below_a1 _ _
  · have h2 : 4 < p := by omega
    clear h
    go_enter Try.func32, Try.ntmps32
    go_wp2
    refine bodyPost_ret (v := .tuple #[.agg prog0, .bool false]) (by simp [results, Try.results32, go_sem, prog0]) rfl ⟨rfl, ?_⟩
    exact below_a1 _ _

theorem src_no (n s : Int) (w : World) : Calls Try.prog 45 #[.int .i64 n, .int .i64 s] w (fun e w' => e = .returned (.bool (decide (s = 0))) ∧ w' = w) := by
  go_enter Try.func45, Try.ntmps45
  go_wp2
  go_ret
  exact ⟨rfl, rfl⟩
theorem val_1 (s v : Int) (w : World) : Calls Try.prog 46 #[.int .i64 s, .int .i64 v] w (fun e w' => e = .returned (.int .i64 1048576) ∧ w' = w) := by
  go_enter Try.func46, Try.ntmps46
  go_wp2
  go_ret
  exact ⟨rfl, rfl⟩
theorem val_24 (s v : Int) (w : World) : Calls Try.prog 50 #[.int .i64 s, .int .i64 v] w (fun e w' => e = .returned (.int .i64 v) ∧ w' = w) := by
  go_enter Try.func50, Try.ntmps50
  go_wp2
  go_ret
  exact ⟨rfl, rfl⟩
theorem edge_23 (f t d : Int) (w : World) : Calls Try.prog 51 #[.int .i64 f, .int .i64 t, .int .i64 d] w (fun e w' => e = .returned (.int .i64 1099511627776) ∧ w' = w) := by
  go_enter Try.func51, Try.ntmps51
  go_wp2
  go_ret
  exact ⟨rfl, rfl⟩
theorem src_3 (n s : Int) (w : World) : Calls Try.prog 54 #[.int .i64 n, .int .i64 s] w (fun e w' => e = .returned (.bool (decide (0 ≤ s) && decide (s < n))) ∧ w' = w) := by
  by_cases h : 0 ≤ s
  · have e1 : (decide (0 ≤ s) && decide (s < n)) = decide (s < n) := by simp [h]
    rw [e1]
    go_enter Try.func54, Try.ntmps54
    go_wp2
    go_ret
    exact ⟨rfl, rfl⟩
  · have e1 : (decide (0 ≤ s) && decide (s < n)) = false := by simp [h]
    rw [e1]
    go_enter Try.func54, Try.ntmps54
    go_wp2
    go_ret
    exact ⟨rfl, rfl⟩
theorem val_3 (s v : Int) (w : World) : Calls Try.prog 55 #[.int .i64 s, .int .i64 v] w (fun e w' => e = .returned (.int .i64 (if v = s then 0 else 1099511627776)) ∧ w' = w) := by
  by_cases h : v = s
  · rw [if_pos h]
    subst h
    go_enter Try.func55, Try.ntmps55
    go_wp2
    go_ret
    exact ⟨rfl, rfl⟩
  · rw [if_neg h]
    have h2 : (v == s) = false := by simp [h]
    go_enter Try.func55, Try.ntmps55
    go_wp2
    go_ret
    exact ⟨rfl, rfl⟩
theorem edge_1 (f t d : Int) (w : World) (h : 1 ≤ d) : Calls Try.prog 47 #[.int .i64 f, .int .i64 t, .int .i64 d] w (fun e w' => e = .returned (.int .i64 (Int.tdiv 1048576 d)) ∧ w' = w) := by
  have h0 : d ≠ 0 := by omega
  have h1 : (d == 0) = false := by simp [h0]
  have h2 : IntKind.i64.wrap (Int.tdiv 1048576 d) = Int.tdiv 1048576 d := IntWalk.i64_in _ (by rw [Int.tdiv_eq_ediv_of_nonneg (by omega)]; have := Int.ediv_nonneg (a := 1048576) (b := d) (by omega) (by omega); have := Int.ediv_le_self (a := 1048576) d (by omega); omega)
  go_enter Try.func47, Try.ntmps47
  go_wp2
  go_ret
  exact ⟨rfl, rfl⟩
theorem edge_4 (f t d : Int) (w : World) (hf : 0 ≤ f ∧ f < 150) (ht : 0 ≤ t ∧ t < 150) : Calls Try.prog 58 #[.int .i64 f, .int .i64 t, .int .i64 d] w (fun e w' => e = .returned (.int .i64 (f * 1000 + t)) ∧ w' = w) := by
  have h1 : IntKind.i64.wrap (f * 1000) = f * 1000 := IntWalk.i64_in _ (by omega)
  have h2 : IntKind.i64.wrap (f * 1000 + t) = f * 1000 + t := IntWalk.i64_in _ (by omega)
  go_enter Try.func58, Try.ntmps58
  go_wp2
  go_ret
  exact ⟨rfl, rfl⟩
end Go.Proofs.Ytgmgpadijajkkaa
