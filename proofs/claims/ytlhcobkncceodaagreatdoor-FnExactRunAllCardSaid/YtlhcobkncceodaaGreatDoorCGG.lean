/- The contracts of the program's programOf (what a number's program is made of) and of its small functions. No condition but that a divisor is not 0. // The contracts of the program's JobOk, FirstVal and FirstEdge. Condition: the arguments are numbers of 64 bits. // The contracts of the program's new values (ranks, components, distances), of its count of Out edges and of its test of views. Condition: at most 2^21 views. // The contracts of the model's new values (ranks, components and distances). Condition: at most 2^21 views. // The contracts of the new value of an edge: the program's four functions and the model's one. Conditions: the values lie in their limits; where an Out edge divides, there is one. -/
import Derived.Test.YtlhcobkncceodaaGreatDoorCGF
import Derived.Deep.DeepCutAuto
import Derived.Deep.WholeRow
import Derived.Laws.Tables
import Derived.Test.YtlhcobkncceodaaGreatDoorCGD
import Derived.Deep.QuietTactic
import Derived.BigQuiet
namespace Go.Proofs.YtlhcobkncceodaaGreatDoor
open Go.RowKit

def prog1 : Array Value := #[.func (.func 111) #[] #[], .func (.func 112) #[] #[], .func (.func 113) #[] #[], .func (.func 114) #[] #[], .func (.func 115) #[] #[]]
def prog2 : Array Value := #[.func (.func 111) #[] #[], .func (.func 116) #[] #[], .func (.func 117) #[] #[], .func (.func 118) #[] #[], .func (.func 119) #[] #[]]
def prog3 : Array Value := #[.func (.func 120) #[] #[], .func (.func 121) #[] #[], .func (.func 117) #[] #[], .func (.func 122) #[] #[], .func (.func 123) #[] #[]]
def prog4 : Array Value := #[.func (.func 111) #[] #[], .func (.func 116) #[] #[], .func (.func 124) #[] #[], .func (.func 125) #[] #[], .func (.func 126) #[] #[]]
def prog0 : Array Value := #[.nilFunc, .nilFunc, .nilFunc, .nilFunc, .nilFunc]
def progAll : Array Value := #[.nilFunc, .nilFunc, .nilFunc, .nilFunc, .nilFunc, .func (.func 111) #[] #[], .func (.func 112) #[] #[], .func (.func 113) #[] #[], .func (.func 114) #[] #[], .func (.func 115) #[] #[], .func (.func 111) #[] #[], .func (.func 116) #[] #[], .func (.func 117) #[] #[], .func (.func 118) #[] #[], .func (.func 119) #[] #[], .func (.func 120) #[] #[], .func (.func 121) #[] #[], .func (.func 117) #[] #[], .func (.func 122) #[] #[], .func (.func 123) #[] #[], .func (.func 111) #[] #[], .func (.func 116) #[] #[], .func (.func 124) #[] #[], .func (.func 125) #[] #[], .func (.func 126) #[] #[]]
theorem wpList_build_is {P : Program} {ops : Array Oper} {rest : List Oper} {o : Oper} {a : Act} {w : World} {Q : Exit → Act → World → Prop} (hg : o.guard = none) (t : TypeId) (parts : Array (Nat × Operand)) (ho : o.op = .build t parts)
    (cells : Array Value) (hf : P.built t (parts.map fun (i, x) => (i, a.eval x)).toList = some cells)
    (h : wpList P ops Q rest (a.put o.dst (.agg cells)) w) : wpList P ops Q (o :: rest) a w :=
  wpList_build hg t parts ho (by rw [hf]; rfl) (by rw [hf]; exact h)
def GivesP (w : World) (v : Array Value) (b : Bool) (e : Ending) (w' : World) : Prop := e = .returned (.tuple #[.agg v, .bool b]) ∧ Below w.heap.size w w'
theorem progAll_store (u : World) : (storeCells ⟨u.heap.size, 0, none⟩ progAll.toList 0).run Tryz.prog (u.alloc (.cells #[.nilFunc, .nilFunc, .nilFunc, .nilFunc, .nilFunc, .nilFunc, .nilFunc, .nilFunc, .nilFunc, .nilFunc, .nilFunc, .nilFunc, .nilFunc, .nilFunc, .nilFunc, .nilFunc, .nilFunc, .nilFunc, .nilFunc, .nilFunc, .nilFunc, .nilFunc, .nilFunc, .nilFunc, .nilFunc] 141)) = .ok () (u.alloc (.cells progAll 141)) := run_storeCells_new u _ _ _ (by kernel_rfl) rfl (by kernel_rfl)

set_option maxRecDepth 20000 in
set_option maxHeartbeats 1000000 in
theorem progOf_1 (w : World) : Calls Tryz.prog 90 #[.int .i64 1] w (GivesP w prog1 true) := by
  have q0 : ∀ h : 5 < progAll.size, progAll[5]'h = .func (.func 111) #[] #[] := fun _ => rfl
  have q1 : ∀ h : 6 < progAll.size, progAll[6]'h = .func (.func 112) #[] #[] := fun _ => rfl
  have q2 : ∀ h : 7 < progAll.size, progAll[7]'h = .func (.func 113) #[] #[] := fun _ => rfl
  have q3 : ∀ h : 8 < progAll.size, progAll[8]'h = .func (.func 114) #[] #[] := fun _ => rfl
  have q4 : ∀ h : 9 < progAll.size, progAll[9]'h = .func (.func 115) #[] #[] := fun _ => rfl
  have hsz : progAll.size = 25 := rfl
  have hsc := progAll_store (w.alloc (.cells #[.nilFunc, .nilFunc, .nilFunc, .nilFunc, .nilFunc] 121))
  rw [World.size_alloc] at hsc
  go_enter Tryz.func90, Tryz.ntmps90
  go_upto_region 3 with fail
  refine wp_region_lit ?_
  refine wpList_build_is rfl _ _ rfl prog1 (by kernel_rfl) ?_
  refine wpList_build_is rfl _ _ rfl prog2 (by kernel_rfl) ?_
  refine wpList_build_is rfl _ _ rfl prog3 (by kernel_rfl) ?_
  refine wpList_build_is rfl _ _ rfl prog4 (by kernel_rfl) ?_
  refine wpList_build_is rfl _ _ rfl progAll (by kernel_rfl) ?_
  (try simp only [Act.put, List.setIfInBounds_toArray, List.set_cons_zero, List.set_cons_succ])
  go_wp2
  refine bodyPost_ret (v := .tuple #[.agg prog1, .bool true]) (by simp [results, Tryz.results90, go_sem, prog1]) rfl ⟨rfl, ?_⟩
  exact below_a2 _ _ _
set_option maxRecDepth 20000 in
set_option maxHeartbeats 1000000 in
theorem progOf_2 (w : World) : Calls Tryz.prog 90 #[.int .i64 2] w (GivesP w prog2 true) := by
  have q0 : ∀ h : 10 < progAll.size, progAll[10]'h = .func (.func 111) #[] #[] := fun _ => rfl
  have q1 : ∀ h : 11 < progAll.size, progAll[11]'h = .func (.func 116) #[] #[] := fun _ => rfl
  have q2 : ∀ h : 12 < progAll.size, progAll[12]'h = .func (.func 117) #[] #[] := fun _ => rfl
  have q3 : ∀ h : 13 < progAll.size, progAll[13]'h = .func (.func 118) #[] #[] := fun _ => rfl
  have q4 : ∀ h : 14 < progAll.size, progAll[14]'h = .func (.func 119) #[] #[] := fun _ => rfl
  have hsz : progAll.size = 25 := rfl
  have hsc := progAll_store (w.alloc (.cells #[.nilFunc, .nilFunc, .nilFunc, .nilFunc, .nilFunc] 121))
  rw [World.size_alloc] at hsc
  go_enter Tryz.func90, Tryz.ntmps90
  go_upto_region 3 with fail
  refine wp_region_lit ?_
  refine wpList_build_is rfl _ _ rfl prog1 (by kernel_rfl) ?_
  refine wpList_build_is rfl _ _ rfl prog2 (by kernel_rfl) ?_
  refine wpList_build_is rfl _ _ rfl prog3 (by kernel_rfl) ?_
  refine wpList_build_is rfl _ _ rfl prog4 (by kernel_rfl) ?_
  refine wpList_build_is rfl _ _ rfl progAll (by kernel_rfl) ?_
  (try simp only [Act.put, List.setIfInBounds_toArray, List.set_cons_zero, List.set_cons_succ])
  go_wp2
  refine bodyPost_ret (v := .tuple #[.agg prog2, .bool true]) (by simp [results, Tryz.results90, go_sem, prog2]) rfl ⟨rfl, ?_⟩
  exact below_a2 _ _ _
set_option maxRecDepth 20000 in
set_option maxHeartbeats 1000000 in
theorem progOf_3 (w : World) : Calls Tryz.prog 90 #[.int .i64 3] w (GivesP w prog3 true) := by
  have q0 : ∀ h : 15 < progAll.size, progAll[15]'h = .func (.func 120) #[] #[] := fun _ => rfl
  have q1 : ∀ h : 16 < progAll.size, progAll[16]'h = .func (.func 121) #[] #[] := fun _ => rfl
  have q2 : ∀ h : 17 < progAll.size, progAll[17]'h = .func (.func 117) #[] #[] := fun _ => rfl
  have q3 : ∀ h : 18 < progAll.size, progAll[18]'h = .func (.func 122) #[] #[] := fun _ => rfl
  have q4 : ∀ h : 19 < progAll.size, progAll[19]'h = .func (.func 123) #[] #[] := fun _ => rfl
  have hsz : progAll.size = 25 := rfl
  have hsc := progAll_store (w.alloc (.cells #[.nilFunc, .nilFunc, .nilFunc, .nilFunc, .nilFunc] 121))
  rw [World.size_alloc] at hsc
  go_enter Tryz.func90, Tryz.ntmps90
  go_upto_region 3 with fail
  refine wp_region_lit ?_
  refine wpList_build_is rfl _ _ rfl prog1 (by kernel_rfl) ?_
  refine wpList_build_is rfl _ _ rfl prog2 (by kernel_rfl) ?_
  refine wpList_build_is rfl _ _ rfl prog3 (by kernel_rfl) ?_
  refine wpList_build_is rfl _ _ rfl prog4 (by kernel_rfl) ?_
  refine wpList_build_is rfl _ _ rfl progAll (by kernel_rfl) ?_
  (try simp only [Act.put, List.setIfInBounds_toArray, List.set_cons_zero, List.set_cons_succ])
  go_wp2
  refine bodyPost_ret (v := .tuple #[.agg prog3, .bool true]) (by simp [results, Tryz.results90, go_sem, prog3]) rfl ⟨rfl, ?_⟩
  exact below_a2 _ _ _
set_option maxRecDepth 20000 in
set_option maxHeartbeats 1000000 in
theorem progOf_4 (w : World) : Calls Tryz.prog 90 #[.int .i64 4] w (GivesP w prog4 true) := by
  have q0 : ∀ h : 20 < progAll.size, progAll[20]'h = .func (.func 111) #[] #[] := fun _ => rfl
  have q1 : ∀ h : 21 < progAll.size, progAll[21]'h = .func (.func 116) #[] #[] := fun _ => rfl
  have q2 : ∀ h : 22 < progAll.size, progAll[22]'h = .func (.func 124) #[] #[] := fun _ => rfl
  have q3 : ∀ h : 23 < progAll.size, progAll[23]'h = .func (.func 125) #[] #[] := fun _ => rfl
  have q4 : ∀ h : 24 < progAll.size, progAll[24]'h = .func (.func 126) #[] #[] := fun _ => rfl
  have hsz : progAll.size = 25 := rfl
  have hsc := progAll_store (w.alloc (.cells #[.nilFunc, .nilFunc, .nilFunc, .nilFunc, .nilFunc] 121))
  rw [World.size_alloc] at hsc
  go_enter Tryz.func90, Tryz.ntmps90
  go_upto_region 3 with fail
  refine wp_region_lit ?_
  refine wpList_build_is rfl _ _ rfl prog1 (by kernel_rfl) ?_
  refine wpList_build_is rfl _ _ rfl prog2 (by kernel_rfl) ?_
  refine wpList_build_is rfl _ _ rfl prog3 (by kernel_rfl) ?_
  refine wpList_build_is rfl _ _ rfl prog4 (by kernel_rfl) ?_
  refine wpList_build_is rfl _ _ rfl progAll (by kernel_rfl) ?_
  (try simp only [Act.put, List.setIfInBounds_toArray, List.set_cons_zero, List.set_cons_succ])
  go_wp2
  refine bodyPost_ret (v := .tuple #[.agg prog4, .bool true]) (by simp [results, Tryz.results90, go_sem, prog4]) rfl ⟨rfl, ?_⟩
  exact below_a2 _ _ _
set_option maxHeartbeats 1000000 in
theorem progOf_no (p : Int) (h : p < 1 ∨ 4 < p) (w : World) : Calls Tryz.prog 90 #[.int .i64 p] w (GivesP w prog0 false) := by
  by_cases h1 : p < 1
  · clear h
    go_enter Tryz.func90, Tryz.ntmps90
    go_wp2
    refine bodyPost_ret (v := .tuple #[.agg prog0, .bool false]) (by simp [results, Tryz.results90, go_sem, prog0]) rfl ⟨rfl, ?_⟩
    exact below_a1 _ _
  · have h2 : 4 < p := by omega
    clear h
    go_enter Tryz.func90, Tryz.ntmps90
    go_wp2
    refine bodyPost_ret (v := .tuple #[.agg prog0, .bool false]) (by simp [results, Tryz.results90, go_sem, prog0]) rfl ⟨rfl, ?_⟩
    exact below_a1 _ _

theorem src_no (n s : Int) (w : World) : Calls Tryz.prog 111 #[.int .i64 n, .int .i64 s] w (fun e w' => e = .returned (.bool (decide (s = 0))) ∧ w' = w) := by
  go_enter Tryz.func111, Tryz.ntmps111
  go_wp2
  go_ret
  exact ⟨rfl, rfl⟩
theorem src_3 (n s : Int) (w : World) : Calls Tryz.prog 120 #[.int .i64 n, .int .i64 s] w (fun e w' => e = .returned (.bool (decide (0 ≤ s) && decide (s < n))) ∧ w' = w) := by
  by_cases h : 0 ≤ s
  · have e1 : (decide (0 ≤ s) && decide (s < n)) = decide (s < n) := by simp [h]
    rw [e1]
    go_enter Tryz.func120, Tryz.ntmps120
    go_wp2
    go_ret
    exact ⟨rfl, rfl⟩
  · have e1 : (decide (0 ≤ s) && decide (s < n)) = false := by simp [h]
    rw [e1]
    go_enter Tryz.func120, Tryz.ntmps120
    go_wp2
    go_ret
    exact ⟨rfl, rfl⟩
end Go.Proofs.YtlhcobkncceodaaGreatDoor
namespace Go.Proofs.YtlhcobkncceodaaGreatDoor
open Go.RowKit

theorem prog_cases (p : Int) : (p < 1 ∨ 4 < p) ∨ p = 1 ∨ p = 2 ∨ p = 3 ∨ p = 4 := by omega
theorem progB_no {p : Int} (h : p < 1 ∨ 4 < p) : progB p = false := by unfold progB; simp; omega

set_option maxHeartbeats 1000000 in
theorem implJobOk (n p s : Int) (w : World) :
    Calls Tryz.prog 50 #[.int .i64 n, .agg #[.int .i64 p, .int .i64 s]] w (fun e w' => e = .returned (.bool (jobB n p s)) ∧ Below w.heap.size w w') := by
  rcases prog_cases p with h | rfl | rfl | rfl | rfl
  · have hj : jobB n p s = false := by unfold jobB; rw [progB_no h]; rfl
    rw [hj]
    have C := Lib.hid (fun W => progOf_no p h W)
    clear h hj
    unfold GivesP prog0 at C
    go_enter Tryz.func50, Tryz.ntmps50
    go_wp2_with fail
    refine (C.out _).mono ?_
    rintro e w1 ⟨rfl, hb⟩
    have HB := Lib.hid (g_chain (below_a1 w _) hb)
    clear hb
    go_wp2
    go_ret
    exact ⟨rfl, g_chain HB.out (below_a1 _ _)⟩
  · have hj : jobB n 1 s = (decide (s = 0)) := by unfold jobB progB; simp
    rw [hj]
    have C := Lib.hid (fun W => progOf_1 W)
    have CS := Lib.hid (fun W => src_no n s W)
    clear hj
    unfold GivesP prog1 at C
    go_enter Tryz.func50, Tryz.ntmps50
    go_wp2_with fail
    refine (C.out _).mono ?_
    rintro e w1 ⟨rfl, hb⟩
    have HB := Lib.hid (g_chain (below_a1 w _) hb)
    obtain ⟨hc, hf⟩ := bcell hb
    have hz : w.heap.size < w1.heap.size := by have := hb.size; simp at this; omega
    clear hb
    go_wp2_with fail
    refine (CS.out _).mono ?_
    rintro e w2 ⟨rfl, rfl⟩
    go_wp2
    go_ret
    exact ⟨rfl, g_chain HB.out (below_a1 _ _)⟩
  · have hj : jobB n 2 s = (decide (s = 0)) := by unfold jobB progB; simp
    rw [hj]
    have C := Lib.hid (fun W => progOf_2 W)
    have CS := Lib.hid (fun W => src_no n s W)
    clear hj
    unfold GivesP prog2 at C
    go_enter Tryz.func50, Tryz.ntmps50
    go_wp2_with fail
    refine (C.out _).mono ?_
    rintro e w1 ⟨rfl, hb⟩
    have HB := Lib.hid (g_chain (below_a1 w _) hb)
    obtain ⟨hc, hf⟩ := bcell hb
    have hz : w.heap.size < w1.heap.size := by have := hb.size; simp at this; omega
    clear hb
    go_wp2_with fail
    refine (CS.out _).mono ?_
    rintro e w2 ⟨rfl, rfl⟩
    go_wp2
    go_ret
    exact ⟨rfl, g_chain HB.out (below_a1 _ _)⟩
  · have hj : jobB n 3 s = (decide (0 ≤ s) && decide (s < n)) := by unfold jobB progB; simp
    rw [hj]
    have C := Lib.hid (fun W => progOf_3 W)
    have CS := Lib.hid (fun W => src_3 n s W)
    clear hj
    unfold GivesP prog3 at C
    go_enter Tryz.func50, Tryz.ntmps50
    go_wp2_with fail
    refine (C.out _).mono ?_
    rintro e w1 ⟨rfl, hb⟩
    have HB := Lib.hid (g_chain (below_a1 w _) hb)
    obtain ⟨hc, hf⟩ := bcell hb
    have hz : w.heap.size < w1.heap.size := by have := hb.size; simp at this; omega
    clear hb
    go_wp2_with fail
    refine (CS.out _).mono ?_
    rintro e w2 ⟨rfl, rfl⟩
    go_wp2
    go_ret
    exact ⟨rfl, g_chain HB.out (below_a1 _ _)⟩
  · have hj : jobB n 4 s = (decide (s = 0)) := by unfold jobB progB; simp
    rw [hj]
    have C := Lib.hid (fun W => progOf_4 W)
    have CS := Lib.hid (fun W => src_no n s W)
    clear hj
    unfold GivesP prog4 at C
    go_enter Tryz.func50, Tryz.ntmps50
    go_wp2_with fail
    refine (C.out _).mono ?_
    rintro e w1 ⟨rfl, hb⟩
    have HB := Lib.hid (g_chain (below_a1 w _) hb)
    obtain ⟨hc, hf⟩ := bcell hb
    have hz : w.heap.size < w1.heap.size := by have := hb.size; simp at this; omega
    clear hb
    go_wp2_with fail
    refine (CS.out _).mono ?_
    rintro e w2 ⟨rfl, rfl⟩
    go_wp2
    go_ret
    exact ⟨rfl, g_chain HB.out (below_a1 _ _)⟩
end Go.Proofs.YtlhcobkncceodaaGreatDoor
namespace Go.Proofs.YtlhcobkncceodaaGreatDoor
open Go.RowKit

theorem g_val {k : IntKind} {a b : Int} (h : a = b) : Value.int k a = .int k b := by rw [h]

set_option maxRecDepth 10000 in
set_option maxHeartbeats 1000000 in
theorem implNewRank (x : Int) (A : Option Addr) (n c : Nat) (es : List VE) (w : World) (hr : SlV w A n es) (hn : n ≤ 2097152) :
    Calls Tryz.prog 114 #[.int .i64 x, .slice A n c] w (fun e w' => e = .returned (.int .i64 (newRank es)) ∧ Below w.heap.size w w') := by
  have HR := Lib.hid hr
  have HL := Lib.hid hr.len
  clear hr
  have CA := Lib.hid (fun a b W => implAddCap a b W)
  go_enter Tryz.func114, Tryz.ntmps114
  go_wp2
  go_loopw [5, 10] (fun s i wr => ∃ k : Nat, k ≤ n ∧ i = .int .i64 (k : Int) ∧ s = .int .i64 (rankS (es.take k)) ∧ Hid (Below w.heap.size w wr)) (fun _ i _ => n - (intOf i).toNat)
  case atStart => exact ⟨0, Nat.zero_le _, rfl, rfl, Lib.hid (Below.refl _ _)⟩
  case round =>
    obtain ⟨k, hk, rfl, rfl, hbel⟩ := hrel
    have HLIM := Lib.hid (rankS_lim (es.take k))
    obtain ⟨s, hs⟩ : ∃ s, s = rankS (es.take k) := ⟨_, rfl⟩
    rw [← hs] at HLIM
    simp only [← hs]
    have HS := Lib.hid hs
    clear hs
    by_cases hlt : k < n
    · skip
      obtain ⟨b, off, e, rfl, hbw, he, c0, c1, c2, c3⟩ := HR.out.at_ hlt
      have c0 := (hbel.out.cell (p := ⟨b, off + k * 4, none⟩) hbw).trans c0
      have c1 := (hbel.out.cell (p := ⟨b, off + k * 4 + 1, none⟩) hbw).trans c1
      have c2 := (hbel.out.cell (p := ⟨b, off + k * 4 + 2, none⟩) hbw).trans c2
      have c3 := (hbel.out.cell (p := ⟨b, off + k * 4 + 3, none⟩) hbw).trans c3
      have HN := Lib.hid (rankS_snoc he.out)
      cases hi : e.i with
      | true =>
        rw [hi] at c0
        go_wp2_with fail
        refine (CA.out s e.v _).mono ?_
        rintro e1 w1 ⟨rfl, rfl⟩
        go_wp2
        go_roundw
        case rel => exact ⟨k + 1, by omega, by go_num, by rw [HN.out, ← HS.out]; unfold rankStep; rw [hi]; rfl, Lib.hid (g_chain hbel.out (below_a1 _ _))⟩
        case measure => simp [intOf]; omega
      | false =>
        rw [hi] at c0
        go_wp2
        go_roundw
        case rel => exact ⟨k + 1, by omega, by go_num, by rw [HN.out, ← HS.out]; unfold rankStep; rw [hi]; rfl, Lib.hid (g_chain hbel.out (below_a1 _ _))⟩
        case measure => simp [intOf]; omega
    · obtain rfl : k = n := by omega
      have hb0 : 0 ≤ 17 * s := by have := HLIM.out; omega
      have hb1 : 17 * s ≤ 17 * 1099511627776 := by have := HLIM.out; omega
      have hq1 : IntKind.i64.wrap (17 * s) = 17 * s := IntWalk.i64_in _ (by omega)
      have hq2 : IntKind.i64.wrap (Int.tdiv (17 * s) 20) = Int.tdiv (17 * s) 20 := IntWalk.i64_in _ (by rw [Int.tdiv_eq_ediv_of_nonneg hb0]; omega)
      go_wp2_with fail
      refine (CA.out 157286 (Int.tdiv (17 * s) 20) _).mono ?_
      rintro e1 w1 ⟨rfl, rfl⟩
      go_wp2
      go_ret
      exact ⟨g_int (by unfold newRank; rw [HS.out, ← HL.out, List.take_length]), hbel.out⟩
set_option maxRecDepth 10000 in
set_option maxHeartbeats 1000000 in
theorem implNewComponent (x : Int) (A : Option Addr) (n c : Nat) (es : List VE) (w : World) (hr : SlV w A n es) (hn : n ≤ 2097152) :
    Calls Tryz.prog 118 #[.int .i64 x, .slice A n c] w (fun e w' => e = .returned (.int .i64 (minAll x es)) ∧ Below w.heap.size w w') := by
  have HR := Lib.hid hr
  have HL := Lib.hid hr.len
  clear hr
  go_enter Tryz.func118, Tryz.ntmps118
  go_wp2
  go_loopw [0, 9] (fun s i wr => ∃ k : Nat, k ≤ n ∧ i = .int .i64 (k : Int) ∧ s = .int .i64 (minAll x (es.take k)) ∧ Hid (Below w.heap.size w wr)) (fun _ i _ => n - (intOf i).toNat)
  case atStart => exact ⟨0, Nat.zero_le _, rfl, rfl, Lib.hid (Below.refl _ _)⟩
  case round =>
    obtain ⟨k, hk, rfl, rfl, hbel⟩ := hrel
    obtain ⟨s, hs⟩ : ∃ s, s = minAll x (es.take k) := ⟨_, rfl⟩
    simp only [← hs]
    have HS := Lib.hid hs
    clear hs
    by_cases hlt : k < n
    · skip
      obtain ⟨b, off, e, rfl, hbw, he, c0, c1, c2, c3⟩ := HR.out.at_ hlt
      have c0 := (hbel.out.cell (p := ⟨b, off + k * 4, none⟩) hbw).trans c0
      have c1 := (hbel.out.cell (p := ⟨b, off + k * 4 + 1, none⟩) hbw).trans c1
      have c2 := (hbel.out.cell (p := ⟨b, off + k * 4 + 2, none⟩) hbw).trans c2
      have c3 := (hbel.out.cell (p := ⟨b, off + k * 4 + 3, none⟩) hbw).trans c3
      have HN := Lib.hid (minAll_snoc x he.out)
      have HZ := Lib.hid (show min s e.v = min s e.v from rfl)
      obtain ⟨z, hz⟩ : ∃ z, min s e.v = z := ⟨_, rfl⟩
      have HZ := Lib.hid hz
      go_wp2
      all_goals
        go_roundw
        case rel => exact ⟨k + 1, by omega, by go_num, g_val (by rw [HN.out, ← HS.out]; first | exact HZ.out.symm | (have := HZ.out; omega) | omega), Lib.hid (g_chain hbel.out (below_a1 _ _))⟩
        case measure => simp [intOf]; omega
    · obtain rfl : k = n := by omega
      go_wp2
      go_ret
      exact ⟨g_int (by rw [HS.out, ← HL.out, List.take_length]), hbel.out⟩
set_option maxRecDepth 10000 in
set_option maxHeartbeats 1000000 in
theorem implNewDistance (x : Int) (A : Option Addr) (n c : Nat) (es : List VE) (w : World) (hr : SlV w A n es) (hn : n ≤ 2097152) :
    Calls Tryz.prog 122 #[.int .i64 x, .slice A n c] w (fun e w' => e = .returned (.int .i64 (minPath x es)) ∧ Below w.heap.size w w') := by
  have HR := Lib.hid hr
  have HL := Lib.hid hr.len
  clear hr
  have CA := Lib.hid (fun a b W => implAddCap a b W)
  go_enter Tryz.func122, Tryz.ntmps122
  go_wp2
  go_loopw [0, 9] (fun s i wr => ∃ k : Nat, k ≤ n ∧ i = .int .i64 (k : Int) ∧ s = .int .i64 (minPath x (es.take k)) ∧ Hid (Below w.heap.size w wr)) (fun _ i _ => n - (intOf i).toNat)
  case atStart => exact ⟨0, Nat.zero_le _, rfl, rfl, Lib.hid (Below.refl _ _)⟩
  case round =>
    obtain ⟨k, hk, rfl, rfl, hbel⟩ := hrel
    obtain ⟨s, hs⟩ : ∃ s, s = minPath x (es.take k) := ⟨_, rfl⟩
    simp only [← hs]
    have HS := Lib.hid hs
    clear hs
    by_cases hlt : k < n
    · skip
      obtain ⟨b, off, e, rfl, hbw, he, c0, c1, c2, c3⟩ := HR.out.at_ hlt
      have c0 := (hbel.out.cell (p := ⟨b, off + k * 4, none⟩) hbw).trans c0
      have c1 := (hbel.out.cell (p := ⟨b, off + k * 4 + 1, none⟩) hbw).trans c1
      have c2 := (hbel.out.cell (p := ⟨b, off + k * 4 + 2, none⟩) hbw).trans c2
      have c3 := (hbel.out.cell (p := ⟨b, off + k * 4 + 3, none⟩) hbw).trans c3
      have HN := Lib.hid (minPath_snoc x he.out)
      cases hi : e.i with
      | true =>
        rw [hi] at c0
        have HP : Hid (pathStep s e = min s (addC e.v e.w)) := Lib.hid (by unfold pathStep; rw [hi]; rfl)
        go_wp2_with fail
        refine (CA.out e.v e.w _).mono ?_
        generalize addC e.v e.w = q at HP
        rintro e1 w1 ⟨rfl, rfl⟩
        obtain ⟨z, hz⟩ : ∃ z, min s q = z := ⟨_, rfl⟩
        have HZ := Lib.hid hz
        go_wp2
        all_goals
          go_roundw
          case rel => exact ⟨k + 1, by omega, by go_num, g_val (by rw [HN.out, ← HS.out, HP.out]; first | exact HZ.out.symm | (have := HZ.out; omega) | omega), Lib.hid (g_chain hbel.out (below_a1 _ _))⟩
          case measure => simp [intOf]; omega
      | false =>
        rw [hi] at c0
        go_wp2
        go_roundw
        case rel => exact ⟨k + 1, by omega, by go_num, by rw [HN.out, ← HS.out]; unfold pathStep; rw [hi]; rfl, Lib.hid (g_chain hbel.out (below_a1 _ _))⟩
        case measure => simp [intOf]; omega
    · obtain rfl : k = n := by omega
      go_wp2
      go_ret
      exact ⟨g_int (by rw [HS.out, ← HL.out, List.take_length]), hbel.out⟩
set_option maxRecDepth 10000 in
set_option maxHeartbeats 1000000 in
theorem implCountOuts (A : Option Addr) (n c : Nat) (es : List VE) (w : World) (hr : SlV w A n es) (hn : n ≤ 2097152) :
    Calls Tryz.prog 135 #[.slice A n c] w (fun e w' => e = .returned (.int .i64 (outsN es : Int)) ∧ Below w.heap.size w w') := by
  have HR := Lib.hid hr
  have HL := Lib.hid hr.len
  clear hr
  go_enter Tryz.func135, Tryz.ntmps135
  go_wp2
  go_loopw [3, 8] (fun s i wr => ∃ k : Nat, k ≤ n ∧ i = .int .i64 (k : Int) ∧ s = .int .i64 (outsN (es.take k) : Int) ∧ Hid (Below w.heap.size w wr)) (fun _ i _ => n - (intOf i).toNat)
  case atStart => exact ⟨0, Nat.zero_le _, rfl, rfl, Lib.hid (Below.refl _ _)⟩
  case round =>
    obtain ⟨k, hk, rfl, rfl, hbel⟩ := hrel
    have HO := outsN_le (es.take k)
    rw [List.length_take] at HO
    obtain ⟨s, hs⟩ : ∃ s, s = outsN (es.take k) := ⟨_, rfl⟩
    rw [← hs] at HO
    simp only [← hs]
    have HS := Lib.hid hs
    have hs2 : s ≤ 2097152 := by omega
    clear hs HO
    by_cases hlt : k < n
    · skip
      obtain ⟨b, off, e, rfl, hbw, he, c0, c1, c2, c3⟩ := HR.out.at_ hlt
      have c0 := (hbel.out.cell (p := ⟨b, off + k * 4, none⟩) hbw).trans c0
      have c1 := (hbel.out.cell (p := ⟨b, off + k * 4 + 1, none⟩) hbw).trans c1
      have c2 := (hbel.out.cell (p := ⟨b, off + k * 4 + 2, none⟩) hbw).trans c2
      have c3 := (hbel.out.cell (p := ⟨b, off + k * 4 + 3, none⟩) hbw).trans c3
      have HN := Lib.hid (outsN_snoc he.out)
      cases hi : e.o with
      | true =>
        rw [hi] at c1 HN
        go_wp2
        go_roundw
        case rel => exact ⟨k + 1, by omega, by go_num, g_val (by rw [HN.out, if_pos rfl, ← HS.out]; first | rfl | omega | (simp only [IntKind.wrap_i64]; omega)), Lib.hid (g_chain hbel.out (below_a1 _ _))⟩
        case measure => simp [intOf]; omega
      | false =>
        rw [hi] at c1 HN
        go_wp2
        go_roundw
        case rel => exact ⟨k + 1, by omega, by go_num, by rw [HN.out, if_neg (by simp), ← HS.out], Lib.hid (g_chain hbel.out (below_a1 _ _))⟩
        case measure => simp [intOf]; omega
    · obtain rfl : k = n := by omega
      go_wp2
      go_ret
      exact ⟨g_int (by rw [HS.out, ← HL.out, List.take_length]), hbel.out⟩
end Go.Proofs.YtlhcobkncceodaaGreatDoor
namespace Go.Proofs.YtlhcobkncceodaaGreatDoor
open Go.RowKit

theorem specMin (a b : Int) (w : World) : Calls Tryz.prog 141 #[.int .i64 a, .int .i64 b] w (fun e w' => e = .returned (.int .i64 (min a b)) ∧ w' = w) := by
  by_cases h : a < b
  · rw [Int.min_eq_left (by omega)]
    go_enter Tryz.func141, Tryz.ntmps141
    go_wp2
    go_ret
    exact ⟨rfl, rfl⟩
  · rw [Int.min_eq_right (by omega)]
    go_enter Tryz.func141, Tryz.ntmps141
    go_wp2
    go_ret
    exact ⟨rfl, rfl⟩

set_option maxRecDepth 10000 in
set_option maxHeartbeats 1000000 in
theorem specRank (A : Option Addr) (n c : Nat) (es : List VE) (w : World) (hr : SlV w A n es) (hn : n ≤ 2097152) :
    Calls Tryz.prog 138 #[.slice A n c] w (fun e w' => e = .returned (.int .i64 (newRank es)) ∧ Below w.heap.size w w') := by
  have HR := Lib.hid hr
  have HL := Lib.hid hr.len
  clear hr
  have CA := Lib.hid (fun a b W => specAddCap a b W)
  have CC := Lib.hid (fun v W => specCap v W)
  go_enter Tryz.func138, Tryz.ntmps138
  go_wp2
  go_loopw [3, 8] (fun s i wr => ∃ k : Nat, k ≤ n ∧ i = .int .i64 (k : Int) ∧ s = .int .i64 (rankS (es.take k)) ∧ Hid (Below w.heap.size w wr)) (fun _ i _ => n - (intOf i).toNat)
  case atStart => exact ⟨0, Nat.zero_le _, rfl, rfl, Lib.hid (Below.refl _ _)⟩
  case round =>
    obtain ⟨k, hk, rfl, rfl, hbel⟩ := hrel
    have HLIM := Lib.hid (rankS_lim (es.take k))
    obtain ⟨s, hs⟩ : ∃ s, s = rankS (es.take k) := ⟨_, rfl⟩
    rw [← hs] at HLIM
    simp only [← hs]
    have HS := Lib.hid hs
    clear hs
    by_cases hlt : k < n
    · skip
      obtain ⟨b, off, e, rfl, hbw, he, c0, c1, c2, c3⟩ := HR.out.at_ hlt
      have c0 := (hbel.out.cell (p := ⟨b, off + k * 4, none⟩) hbw).trans c0
      have c1 := (hbel.out.cell (p := ⟨b, off + k * 4 + 1, none⟩) hbw).trans c1
      have c2 := (hbel.out.cell (p := ⟨b, off + k * 4 + 2, none⟩) hbw).trans c2
      have c3 := (hbel.out.cell (p := ⟨b, off + k * 4 + 3, none⟩) hbw).trans c3
      have HN := Lib.hid (rankS_snoc he.out)
      cases hi : e.i with
      | true =>
        rw [hi] at c0
        go_wp2_with fail
        refine (CA.out s e.v _).mono ?_
        rintro e1 w1 ⟨rfl, rfl⟩
        go_wp2
        go_roundw
        case rel => exact ⟨k + 1, by omega, by go_num, by rw [HN.out, ← HS.out]; unfold rankStep; rw [hi]; rfl, Lib.hid (g_chain hbel.out (below_a1 _ _))⟩
        case measure => simp [intOf]; omega
      | false =>
        rw [hi] at c0
        go_wp2
        go_roundw
        case rel => exact ⟨k + 1, by omega, by go_num, by rw [HN.out, ← HS.out]; unfold rankStep; rw [hi]; rfl, Lib.hid (g_chain hbel.out (below_a1 _ _))⟩
        case measure => simp [intOf]; omega
    · obtain rfl : k = n := by omega
      have hb0 : 0 ≤ 17 * s := by have := HLIM.out; omega
      have hb1 : 17 * s ≤ 17 * 1099511627776 := by have := HLIM.out; omega
      have hq1 : IntKind.i64.wrap (17 * s) = 17 * s := IntWalk.i64_in _ (by omega)
      have hq2 : IntKind.i64.wrap (Int.tdiv (17 * s) 20) = Int.tdiv (17 * s) 20 := IntWalk.i64_in _ (by rw [Int.tdiv_eq_ediv_of_nonneg hb0]; omega)
      have hq3 : IntKind.i64.wrap (157286 + Int.tdiv (17 * s) 20) = 157286 + Int.tdiv (17 * s) 20 := IntWalk.i64_in _ (by rw [Int.tdiv_eq_ediv_of_nonneg hb0]; omega)
      have hq4 : 0 ≤ Int.tdiv (17 * s) 20 := by rw [Int.tdiv_eq_ediv_of_nonneg hb0]; omega
      have HQ := Lib.hid (addC_in (a := 157286) (by omega) hq4)
      go_wp2_with fail
      refine (CC.out (157286 + Int.tdiv (17 * s) 20) _).mono ?_
      rintro e1 w1 ⟨rfl, rfl⟩
      go_wp2
      go_ret
      exact ⟨g_int (by rw [← HQ.out]; unfold newRank; rw [HS.out, ← HL.out, List.take_length]), hbel.out⟩
end Go.Proofs.YtlhcobkncceodaaGreatDoor
namespace Go.Proofs.YtlhcobkncceodaaGreatDoor
open Go.RowKit

def VE.val (e : VE) : Value := .agg #[.bool e.i, .bool e.o, .int .i64 e.w, .int .i64 e.v]
theorem tdiv_le {x : Int} {n : Nat} (h : 0 ≤ x ∧ x ≤ 1099511627776) : 0 ≤ Int.tdiv x (n : Int) ∧ Int.tdiv x (n : Int) ≤ 1099511627776 := by
  rw [Int.tdiv_eq_ediv_of_nonneg h.1]
  have h1 := Int.ediv_nonneg (a := x) (b := (n : Int)) h.1 (by omega)
  have h2 := Int.ediv_le_self (a := x) (n : Int) h.1
  omega
set_option maxHeartbeats 1000000 in
theorem edgeI_1 (e : VE) (x : Int) (n : Nat) (w : World) (hx : 0 ≤ x ∧ x ≤ 1099511627776) (hn : e.o = true → 0 < n) :
    Calls Tryz.prog 115 #[e.val, .int .i64 x, .int .i64 (n : Int)] w (fun r w' => r = .returned (.int .i64 (newEdge 1 x n e)) ∧ Below w.heap.size w w') := by
  obtain ⟨i, o, ww, v⟩ := e
  unfold VE.val newEdge
  cases o with
  | true =>
    have h0 := hn rfl
    have h1 : ((n : Int) == 0) = false := by simp; omega
    have h2 : IntKind.i64.wrap (Int.tdiv x (n : Int)) = Int.tdiv x (n : Int) := IntWalk.i64_in _ (by have := tdiv_le (n := n) hx; omega)
    have h3 : ¬ n = 0 := by omega
    clear hn
    go_enter Tryz.func115, Tryz.ntmps115
    go_wp2
    go_ret
    exact ⟨by simp, below_a1 _ _⟩
  | false =>
    clear hn
    go_enter Tryz.func115, Tryz.ntmps115
    go_wp2
    go_ret
    exact ⟨by simp, below_a1 _ _⟩
theorem edgeI_2 (e : VE) (x : Int) (n : Nat) (w : World) :
    Calls Tryz.prog 119 #[e.val, .int .i64 x, .int .i64 (n : Int)] w (fun r w' => r = .returned (.int .i64 (newEdge 2 x n e)) ∧ Below w.heap.size w w') := by
  obtain ⟨i, o, ww, v⟩ := e
  unfold VE.val
  have hq : newEdge 2 x n ⟨i, o, ww, v⟩ = min v x := by unfold newEdge; simp; omega
  rw [hq]
  clear hq
  obtain ⟨z, hz⟩ : ∃ z, min v x = z := ⟨_, rfl⟩
  have HZ := Lib.hid hz
  go_enter Tryz.func119, Tryz.ntmps119
  go_wp2
  all_goals
    go_ret
    exact ⟨g_int (by first | rfl | (have := HZ.out; omega)), below_a1 _ _⟩
theorem edgeI_3 (e : VE) (x : Int) (n : Nat) (w : World) :
    Calls Tryz.prog 123 #[e.val, .int .i64 x, .int .i64 (n : Int)] w (fun r w' => r = .returned (.int .i64 (newEdge 3 x n e)) ∧ Below w.heap.size w w') := by
  obtain ⟨i, o, ww, v⟩ := e
  unfold VE.val newEdge
  cases o with
  | true =>
    go_enter Tryz.func123, Tryz.ntmps123
    go_wp2
    go_ret
    exact ⟨by simp, below_a1 _ _⟩
  | false =>
    go_enter Tryz.func123, Tryz.ntmps123
    go_wp2
    go_ret
    exact ⟨by simp, below_a1 _ _⟩
theorem lab_parts {v : Int} (h : 0 ≤ v ∧ v ≤ 1099511627776) : ∃ q r : Int, Int.tdiv v 1000 = q ∧ Int.tmod v 1000 = r ∧ (0 ≤ q ∧ q ≤ 1099511627776) ∧ (0 ≤ r ∧ r ≤ 1099511627776) :=
  ⟨_, _, rfl, rfl, by rw [Int.tdiv_eq_ediv_of_nonneg h.1]; omega, by rw [Int.tmod_eq_emod_of_nonneg h.1]; omega⟩

set_option maxHeartbeats 1000000 in
theorem edgeI_4 (e : VE) (x : Int) (n : Nat) (w : World) (hx : 0 ≤ x ∧ x ≤ 1099511627776) (hv : 0 ≤ e.v ∧ e.v ≤ 1099511627776) :
    Calls Tryz.prog 126 #[e.val, .int .i64 x, .int .i64 (n : Int)] w (fun r w' => r = .returned (.int .i64 (newEdge 4 x n e)) ∧ Below w.heap.size w w') := by
  have CA := Lib.hid (fun a b W => implAddCap a b W)
  obtain ⟨i, o, ww, v⟩ := e
  unfold VE.val
  simp only at hv
  obtain ⟨q, r, hq, hr, hq1, hr1⟩ := lab_parts hv
  have hq2 : IntKind.i64.wrap q = q := IntWalk.i64_in _ (by omega)
  have hq3 : IntKind.i64.wrap (q * 1000) = q * 1000 := IntWalk.i64_in _ (by omega)
  have hx3 : IntKind.i64.wrap (x * 1000) = x * 1000 := IntWalk.i64_in _ (by omega)
  have hd : IntKind.i64.wrap (Int.tdiv v 1000) = q := by rw [hq]; exact hq2
  by_cases hctt : o = true ∧ i = true
  · obtain ⟨rfl, rfl⟩ := hctt
    have HD : Hid (newEdge 4 x n ⟨true, true, ww, v⟩ = addC (x * 1000) x) := Lib.hid (by rw [addC_in (by omega) (by omega)]; unfold newEdge; simp)
    rw [HD.out]
    clear HD
    have C := Lib.hid (fun W => CA.out (x * 1000) x W)
    generalize addC (x * 1000) x = z at C ⊢
    clear CA
    go_enter Tryz.func126, Tryz.ntmps126
    go_wp2
    go_quiet (fail)
    rename Nat => kq
    have HB := Lib.hid (below_drewN (Below.refl (w.alloc (.cells #[.bool true, .bool true, .int .i64 ww, .int .i64 v] 93)).heap.size (w.alloc (.cells #[.bool true, .bool true, .int .i64 ww, .int .i64 v] 93))) kq)
    obtain ⟨hc, hf⟩ := bcell HB.out
    have hz : w.heap.size + 1 ≤ (World.drewN (w.alloc (.cells #[.bool true, .bool true, .int .i64 ww, .int .i64 v] 93)) kq).heap.size := by have := HB.out.size; simp
    generalize World.drewN _ kq = wq at *
    go_wp2_with fail
    refine (C.out _).mono ?_
    rintro e w1 ⟨rfl, rfl⟩
    go_wp2
    go_ret
    exact ⟨rfl, g_chain (below_a1 _ _) HB.out⟩
  by_cases hctf : o = true ∧ i = false
  · obtain ⟨rfl, rfl⟩ := hctf
    have HD : Hid (newEdge 4 x n ⟨false, true, ww, v⟩ = addC (x * 1000) r) := Lib.hid (by rw [addC_in (by omega) (by omega)]; unfold newEdge; simp [hr])
    rw [HD.out]
    clear HD
    have C := Lib.hid (fun W => CA.out (x * 1000) r W)
    generalize addC (x * 1000) r = z at C ⊢
    clear CA
    go_enter Tryz.func126, Tryz.ntmps126
    go_wp2
    go_quiet (fail)
    rename Nat => kq
    have HB := Lib.hid (below_drewN (Below.refl (w.alloc (.cells #[.bool false, .bool true, .int .i64 ww, .int .i64 v] 93)).heap.size (w.alloc (.cells #[.bool false, .bool true, .int .i64 ww, .int .i64 v] 93))) kq)
    obtain ⟨hc, hf⟩ := bcell HB.out
    have hz : w.heap.size + 1 ≤ (World.drewN (w.alloc (.cells #[.bool false, .bool true, .int .i64 ww, .int .i64 v] 93)) kq).heap.size := by have := HB.out.size; simp
    generalize World.drewN _ kq = wq at *
    go_wp2_with fail
    refine (C.out _).mono ?_
    rintro e w1 ⟨rfl, rfl⟩
    go_wp2
    go_ret
    exact ⟨rfl, g_chain (below_a1 _ _) HB.out⟩
  by_cases hcft : o = false ∧ i = true
  · obtain ⟨rfl, rfl⟩ := hcft
    have HD : Hid (newEdge 4 x n ⟨true, false, ww, v⟩ = addC (q * 1000) x) := Lib.hid (by rw [addC_in (by omega) (by omega)]; unfold newEdge; simp [hq])
    rw [HD.out]
    clear HD
    have C := Lib.hid (fun W => CA.out (q * 1000) x W)
    generalize addC (q * 1000) x = z at C ⊢
    clear CA
    go_enter Tryz.func126, Tryz.ntmps126
    go_wp2
    go_quiet (fail)
    rename Nat => kq
    have HB := Lib.hid (below_drewN (Below.refl (w.alloc (.cells #[.bool true, .bool false, .int .i64 ww, .int .i64 v] 93)).heap.size (w.alloc (.cells #[.bool true, .bool false, .int .i64 ww, .int .i64 v] 93))) kq)
    obtain ⟨hc, hf⟩ := bcell HB.out
    have hz : w.heap.size + 1 ≤ (World.drewN (w.alloc (.cells #[.bool true, .bool false, .int .i64 ww, .int .i64 v] 93)) kq).heap.size := by have := HB.out.size; simp
    generalize World.drewN _ kq = wq at *
    go_wp2_with fail
    refine (C.out _).mono ?_
    rintro e w1 ⟨rfl, rfl⟩
    go_wp2
    go_ret
    exact ⟨rfl, g_chain (below_a1 _ _) HB.out⟩
  by_cases hcff : o = false ∧ i = false
  · obtain ⟨rfl, rfl⟩ := hcff
    have HD : Hid (newEdge 4 x n ⟨false, false, ww, v⟩ = addC (q * 1000) r) := Lib.hid (by rw [addC_in (by omega) (by omega)]; unfold newEdge; simp [hq, hr])
    rw [HD.out]
    clear HD
    have C := Lib.hid (fun W => CA.out (q * 1000) r W)
    generalize addC (q * 1000) r = z at C ⊢
    clear CA
    go_enter Tryz.func126, Tryz.ntmps126
    go_wp2
    go_quiet (fail)
    rename Nat => kq
    have HB := Lib.hid (below_drewN (Below.refl (w.alloc (.cells #[.bool false, .bool false, .int .i64 ww, .int .i64 v] 93)).heap.size (w.alloc (.cells #[.bool false, .bool false, .int .i64 ww, .int .i64 v] 93))) kq)
    obtain ⟨hc, hf⟩ := bcell HB.out
    have hz : w.heap.size + 1 ≤ (World.drewN (w.alloc (.cells #[.bool false, .bool false, .int .i64 ww, .int .i64 v] 93)) kq).heap.size := by have := HB.out.size; simp
    generalize World.drewN _ kq = wq at *
    go_wp2_with fail
    refine (C.out _).mono ?_
    rintro e w1 ⟨rfl, rfl⟩
    go_wp2
    go_ret
    exact ⟨rfl, g_chain (below_a1 _ _) HB.out⟩
  cases o <;> cases i <;> simp_all
set_option maxHeartbeats 2000000 in
theorem edgeS (p s : Int) (e : VE) (x : Int) (n : Nat) (w : World) (hp : 1 ≤ p ∧ p ≤ 4) (hx : 0 ≤ x ∧ x ≤ 1099511627776) (hv : 0 ≤ e.v ∧ e.v ≤ 1099511627776) (hn : e.o = true → 0 < n) :
    Calls Tryz.prog 132 #[.agg #[.int .i64 p, .int .i64 s], .int .i64 x, .int .i64 (n : Int), e.val] w (fun r w' => r = .returned (.int .i64 (newEdge p x n e)) ∧ Below w.heap.size w w') := by
  have CC := Lib.hid (fun v W => specCap v W)
  have CM := Lib.hid (fun a b W => specMin a b W)
  obtain ⟨i, o, ww, v⟩ := e
  unfold VE.val
  simp only at hv hn
  have hp4 : p = 1 ∨ p = 2 ∨ p = 3 ∨ p = 4 := by omega
  clear hp
  rcases hp4 with rfl | rfl | rfl | rfl
  · unfold newEdge
    cases o with
    | true =>
      have h0 := hn rfl
      have h1 : ((n : Int) == 0) = false := by simp; omega
      have h2 : IntKind.i64.wrap (Int.tdiv x (n : Int)) = Int.tdiv x (n : Int) := IntWalk.i64_in _ (by have := tdiv_le (n := n) hx; omega)
      have h3 : ¬ n = 0 := by omega
      clear hn
      go_enter Tryz.func132, Tryz.ntmps132
      go_wp2
      go_ret
      exact ⟨by simp, below_a2 _ _ _⟩
    | false =>
      clear hn
      go_enter Tryz.func132, Tryz.ntmps132
      go_wp2
      go_ret
      exact ⟨by simp, below_a2 _ _ _⟩
  · have hq : newEdge 2 x n ⟨i, o, ww, v⟩ = min x v := by unfold newEdge; simp
    rw [hq]
    have C := Lib.hid (fun W => CM.out x v W)
    generalize min x v = z at C ⊢
    clear hq hn CM CC
    go_enter Tryz.func132, Tryz.ntmps132
    go_wp2_with fail
    refine (C.out _).mono ?_
    rintro e w1 ⟨rfl, rfl⟩
    go_wp2
    go_ret
    exact ⟨rfl, below_a2 _ _ _⟩
  · unfold newEdge
    cases o with
    | true =>
      clear hn
      go_enter Tryz.func132, Tryz.ntmps132
      go_wp2
      go_ret
      exact ⟨by simp, below_a2 _ _ _⟩
    | false =>
      clear hn
      go_enter Tryz.func132, Tryz.ntmps132
      go_wp2
      go_ret
      exact ⟨by simp, below_a2 _ _ _⟩
  · obtain ⟨q, r, hq, hr, hq1, hr1⟩ := lab_parts hv
    have hq2 : IntKind.i64.wrap q = q := IntWalk.i64_in _ (by omega)
    have hq3 : IntKind.i64.wrap (q * 1000) = q * 1000 := IntWalk.i64_in _ (by omega)
    have hx3 : IntKind.i64.wrap (x * 1000) = x * 1000 := IntWalk.i64_in _ (by omega)
    have hd : IntKind.i64.wrap (Int.tdiv v 1000) = q := by rw [hq]; exact hq2
    clear hn CM
    by_cases hctt : o = true ∧ i = true
    · obtain ⟨rfl, rfl⟩ := hctt
      have HD : Hid (newEdge 4 x n ⟨true, true, ww, v⟩ = capF (x * 1000 + x)) := Lib.hid (by unfold newEdge; simp)
      rw [HD.out]
      clear HD
      have hs : IntKind.i64.wrap (x * 1000 + x) = x * 1000 + x := IntWalk.i64_in _ (by omega)
      have C := Lib.hid (fun W => CC.out (x * 1000 + x) W)
      generalize capF (x * 1000 + x) = z at C ⊢
      clear CC
      go_enter Tryz.func132, Tryz.ntmps132
      go_wp2_with fail
      refine (C.out _).mono ?_
      rintro e w1 ⟨rfl, rfl⟩
      go_wp2
      go_ret
      exact ⟨rfl, below_a2 _ _ _⟩
    by_cases hctf : o = true ∧ i = false
    · obtain ⟨rfl, rfl⟩ := hctf
      have HD : Hid (newEdge 4 x n ⟨false, true, ww, v⟩ = capF (x * 1000 + r)) := Lib.hid (by unfold newEdge; simp [hr])
      rw [HD.out]
      clear HD
      have hs : IntKind.i64.wrap (x * 1000 + r) = x * 1000 + r := IntWalk.i64_in _ (by omega)
      have C := Lib.hid (fun W => CC.out (x * 1000 + r) W)
      generalize capF (x * 1000 + r) = z at C ⊢
      clear CC
      go_enter Tryz.func132, Tryz.ntmps132
      go_wp2_with fail
      refine (C.out _).mono ?_
      rintro e w1 ⟨rfl, rfl⟩
      go_wp2
      go_ret
      exact ⟨rfl, below_a2 _ _ _⟩
    by_cases hcft : o = false ∧ i = true
    · obtain ⟨rfl, rfl⟩ := hcft
      have HD : Hid (newEdge 4 x n ⟨true, false, ww, v⟩ = capF (q * 1000 + x)) := Lib.hid (by unfold newEdge; simp [hq])
      rw [HD.out]
      clear HD
      have hs : IntKind.i64.wrap (q * 1000 + x) = q * 1000 + x := IntWalk.i64_in _ (by omega)
      have C := Lib.hid (fun W => CC.out (q * 1000 + x) W)
      generalize capF (q * 1000 + x) = z at C ⊢
      clear CC
      go_enter Tryz.func132, Tryz.ntmps132
      go_wp2_with fail
      refine (C.out _).mono ?_
      rintro e w1 ⟨rfl, rfl⟩
      go_wp2
      go_ret
      exact ⟨rfl, below_a2 _ _ _⟩
    by_cases hcff : o = false ∧ i = false
    · obtain ⟨rfl, rfl⟩ := hcff
      have HD : Hid (newEdge 4 x n ⟨false, false, ww, v⟩ = capF (q * 1000 + r)) := Lib.hid (by unfold newEdge; simp [hq, hr])
      rw [HD.out]
      clear HD
      have hs : IntKind.i64.wrap (q * 1000 + r) = q * 1000 + r := IntWalk.i64_in _ (by omega)
      have C := Lib.hid (fun W => CC.out (q * 1000 + r) W)
      generalize capF (q * 1000 + r) = z at C ⊢
      clear CC
      go_enter Tryz.func132, Tryz.ntmps132
      go_wp2_with fail
      refine (C.out _).mono ?_
      rintro e w1 ⟨rfl, rfl⟩
      go_wp2
      go_ret
      exact ⟨rfl, below_a2 _ _ _⟩
    cases o <;> cases i <;> simp_all
end Go.Proofs.YtlhcobkncceodaaGreatDoor
