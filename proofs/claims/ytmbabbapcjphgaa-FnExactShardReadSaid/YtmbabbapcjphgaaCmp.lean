/- The contracts of cmp.Compare, cmp.Or and of the program's comparison of two records (no condition). -/
import Derived.Test.YtmbabbapcjphgaaSortMath
import Derived.Test.YtmbabbapcjphgaaGrN
import Derived.StillTailTactics
import Derived.Sort.Grow
namespace Go.Proofs.Ytmbabbapcjphgaa
open Go.RowKit Go.Sort

def cmpI (a b : Int) : Int := if a < b then -1 else if b < a then 1 else 0
def orI : List Int → Int
  | [] => 0
  | x :: r => if x = 0 then orI r else x
def cmpR (x y : GE) : Int := orI [cmpI x.f y.f, cmpI x.t y.t, cmpI x.w y.w]
theorem cmpI_lt (a b : Int) : cmpI a b < 0 ↔ a < b := by unfold cmpI; split <;> (try split) <;> omega
theorem cmpI_eq (a b : Int) : cmpI a b = 0 ↔ a = b := by unfold cmpI; split <;> (try split) <;> omega
theorem cmpR_lt (x y : GE) : cmpR x y < 0 ↔ lessR x y = true := by
  rw [lessR_iff]
  unfold cmpR orI orI orI orI
  have h1 := cmpI_lt x.f y.f
  have h2 := cmpI_lt x.t y.t
  have h3 := cmpI_lt x.w y.w
  have e1 := cmpI_eq x.f y.f
  have e2 := cmpI_eq x.t y.t
  have e3 := cmpI_eq x.w y.w
  split
  · split
    · split <;> omega
    · omega
  · omega
theorem cmpR_less (x y : GE) : decide (cmpR x y < 0) = lessR x y := by
  rw [Bool.eq_iff_iff, decide_eq_true_iff]
  exact cmpR_lt x y

theorem nan_any (a : Int) (w : World) : Calls Try.prog 113 #[.int .i64 a] w fun e w' => e = .returned (.bool false) ∧ w' = w := by
  have h : (a != a) = false := by simp
  go_enter Try.func113, Try.ntmps113
  go_wp2
  go_ret
  exact ⟨by simp, rfl⟩
theorem cmpI_any (a b : Int) (w : World) : Calls Try.prog 107 #[.int .i64 a, .int .i64 b] w fun e w' => e = .returned (.int .i64 (cmpI a b)) ∧ w' = w := by
  obtain ⟨r, hr⟩ : ∃ r, cmpI a b = r := ⟨_, rfl⟩
  have HR := Lib.hid hr
  rw [hr]
  clear hr
  by_cases h1 : a < b
  · have hr : r = -1 := by rw [← HR.out]; unfold cmpI; rw [if_pos h1]
    subst hr
    go_enter Try.func107, Try.ntmps107
    go_wp2_with (go_at_call 113; refine (nan_any _ _).mono ?_; rintro e w' ⟨rfl, rfl⟩)
    go_ret
    exact ⟨rfl, rfl⟩
  · by_cases h2 : b < a
    · have hr : r = 1 := by rw [← HR.out]; unfold cmpI; rw [if_neg h1, if_pos h2]
      subst hr
      go_enter Try.func107, Try.ntmps107
      go_wp2_with (go_at_call 113; refine (nan_any _ _).mono ?_; rintro e w' ⟨rfl, rfl⟩)
      go_ret
      exact ⟨rfl, rfl⟩
    · have hr : r = 0 := by rw [← HR.out]; unfold cmpI; rw [if_neg h1, if_neg h2]
      subst hr
      go_enter Try.func107, Try.ntmps107
      go_wp2_with (go_at_call 113; refine (nan_any _ _).mono ?_; rintro e w' ⟨rfl, rfl⟩)
      go_ret
      exact ⟨rfl, rfl⟩

theorem orI_skip {xs : List Int} {k : Nat} (h : xs[k]? = some 0) (e : orI (xs.drop k) = orI xs) : orI (xs.drop (k + 1)) = orI xs := by
  obtain ⟨hk, hx⟩ := List.getElem?_eq_some_iff.1 h
  rw [List.drop_eq_getElem_cons hk, hx, orI, if_pos rfl] at e
  exact e
theorem orI_hit {xs : List Int} {k : Nat} {x : Int} (h : xs[k]? = some x) (h0 : ¬ x = 0) (e : orI (xs.drop k) = orI xs) : orI xs = x := by
  obtain ⟨hk, hx⟩ := List.getElem?_eq_some_iff.1 h
  rw [List.drop_eq_getElem_cons hk, hx, orI, if_neg h0] at e
  exact e.symm
theorem orI_end {xs : List Int} {k : Nat} (h : xs.length ≤ k) (e : orI (xs.drop k) = orI xs) : orI xs = 0 := by
  rw [List.drop_eq_nil_of_le h] at e
  exact e.symm
theorem orI_any (A : Option Addr) (n c : Nat) (xs : List Int) (w : World) (hr : SlI w A n xs) (hn : n ≤ 1000) :
    Calls Try.prog 106 #[.slice A n c] w fun e w' => e = .returned (.int .i64 (orI xs)) ∧ w' = w := by
  have HR := Lib.hid hr
  have HL := Lib.hid hr.len
  clear hr
  go_enter Try.func106, Try.ntmps106
  go_wp2
  go_loop [8] (fun i => ∃ k : Nat, k ≤ n ∧ i = .int .i64 k ∧ Hid (orI (xs.drop k) = orI xs)) (fun i => n - (intOf i).toNat)
  case atStart => exact ⟨0, Nat.zero_le _, rfl, Lib.hid rfl⟩
  case round =>
    obtain ⟨k, hk, rfl, hd⟩ := hrel
    by_cases hlt : k < n
    · obtain ⟨b, off, x, rfl, hbw, he, c0⟩ := HR.out.at_ hlt
      by_cases hx : x = 0
      · subst hx
        have HD := Lib.hid (orI_skip he.out hd.out)
        go_wp2
        go_round
        case rel => exact ⟨k + 1, by omega, by go_num, HD⟩
        case measure => simp [intOf]; omega
      · have HD := Lib.hid (orI_hit he.out hx hd.out)
        have hx1 : (x == 0) = false := by simpa using hx
        have hx2 : (x != 0) = true := by simpa using hx
        go_wp2
        go_ret
        exact ⟨g_int HD.out.symm, rfl⟩
    · have HD := Lib.hid (orI_end (k := k) (by rw [HL.out]; omega) hd.out)
      go_wp2
      go_ret
      exact ⟨g_int HD.out.symm, rfl⟩

theorem three_lies (W : World) (r1 r2 r3 : Int) (t : TypeId) : SlI (W.alloc (.cells #[.int .i64 r1, .int .i64 r2, .int .i64 r3] t)) (some ⟨W.heap.size, 0, none⟩) 3 [r1, r2, r3] := by
  refine ⟨rfl, rfl, fun _ => ⟨_, _, rfl, by simp, fun j v hj => ?_⟩⟩
  match j, hj with
  | 0, hj => simp [vi] at hj; subst hj; simp
  | 1, hj => simp [vi] at hj; subst hj; simp
  | 2, hj => simp [vi] at hj; subst hj; simp

set_option maxRecDepth 100000 in
set_option maxHeartbeats 1000000 in
theorem cmpR_any (x y : GE) (w : World) :
    Calls Try.prog 90 #[.agg #[.int .i64 x.f, .int .i64 x.t, .int .i64 x.w], .agg #[.int .i64 y.f, .int .i64 y.t, .int .i64 y.w]] w fun e w' => e = .returned (.int .i64 (cmpR x y)) ∧ ∃ q os, w' = grow (w.drewN q) os := by
  have HC := Lib.hid (fun w' (h : SlI w' (some ⟨w.heap.size + 1 + 1, 0, none⟩) 3 [cmpI x.f y.f, cmpI x.t y.t, cmpI x.w y.w]) => orI_any (some ⟨w.heap.size + 1 + 1, 0, none⟩) 3 3 _ w' h (by omega))
  have HR : Hid (orI [cmpI x.f y.f, cmpI x.t y.t, cmpI x.w y.w] = cmpR x y) := Lib.hid rfl
  have K1 := Lib.hid (fun W => cmpI_any x.f y.f W)
  have K2 := Lib.hid (fun W => cmpI_any x.t y.t W)
  have K3 := Lib.hid (fun W => cmpI_any x.w y.w W)
  generalize cmpI x.f y.f = r1 at *
  generalize cmpI x.t y.t = r2 at *
  generalize cmpI x.w y.w = r3 at *
  go_enter Try.func90, Try.ntmps90
  go_wp2_with fail
  obtain ⟨W, hW⟩ : ∃ W : World, W = ((w.alloc (.cells #[.int .i64 x.f, .int .i64 x.t, .int .i64 x.w] 81)).alloc (.cells #[.int .i64 y.f, .int .i64 y.t, .int .i64 y.w] 81)).drew := ⟨_, rfl⟩
  have a0 : W.cell? ⟨w.heap.size, 0, none⟩ = some (.int .i64 x.f) := by rw [hW]; simp
  have a1 : W.cell? ⟨w.heap.size, 1, none⟩ = some (.int .i64 x.t) := by rw [hW]; simp
  have a2 : W.cell? ⟨w.heap.size, 2, none⟩ = some (.int .i64 x.w) := by rw [hW]; simp
  have b0 : W.cell? ⟨w.heap.size + 1, 0, none⟩ = some (.int .i64 y.f) := by rw [hW]; simp
  have b1 : W.cell? ⟨w.heap.size + 1, 1, none⟩ = some (.int .i64 y.t) := by rw [hW]; simp
  have b2 : W.cell? ⟨w.heap.size + 1, 2, none⟩ = some (.int .i64 y.w) := by rw [hW]; simp
  have hz : Hid (W.heap.size = w.heap.size + 1 + 1) := Lib.hid (by rw [hW]; simp)
  refine wp_region_still_tail 15 (by kernel_rfl) (by kernel_rfl) ?_
  simp only [List.take_succ_cons, List.take_zero, List.drop_succ_cons, List.drop_zero]
  change wpStill _ _ (World.drew _) _ _ _
  rw [← hW]
  change wpStill _ _ _ (fun a' => wpList _ _ _ _ a' (World.drew _)) _ _
  rw [← hW]
  have HW := Lib.hid hW
  clear hW
  repeat still_step
  still_call (K1.out _)
  repeat still_step
  still_call (K2.out _)
  repeat still_step
  still_call (K3.out _)
  refine wpStill_nil ?_
  rw [← hz.out] at HC
  have HL := Lib.hid (three_lies W r1 r2 r3 3)
  go_wp2_with (go_at_call 106; refine (HC.out _ HL.out).mono ?_; rintro e w' ⟨rfl, rfl⟩)
  go_ret
  refine ⟨g_int HR.out, 1, #[.cells #[.int .i64 x.f, .int .i64 x.t, .int .i64 x.w] 81, .cells #[.int .i64 y.f, .int .i64 y.t, .int .i64 y.w] 81, .cells #[.int .i64 r1, .int .i64 r2, .int .i64 r3] 3], ?_⟩
  rw [HW.out]
  simp only [alloc_eq_grow, drew_grow, grow_grow]
  rfl

theorem below_grow (w : World) (q : Nat) (os : Array Obj) : Below w.heap.size w (grow (w.drewN q) os) :=
  ⟨rfl, rfl, rfl, by rw [size_grow]; show w.heap.size ≤ w.heap.size + _; omega, fun k hk => heap_grow_old (w.drewN q) os hk⟩
theorem cmpR_num (x y : GE) (w : World) :
    Calls Try.prog 90 #[.agg #[.int .i64 x.f, .int .i64 x.t, .int .i64 x.w], .agg #[.int .i64 y.f, .int .i64 y.t, .int .i64 y.w]] w (GNum w (cmpR x y)) :=
  (cmpR_any x y w).mono fun _ _ ⟨he, q, os, hw⟩ => ⟨he, by rw [hw]; exact below_grow w q os⟩

set_option maxHeartbeats 400000 in
theorem implLess (x y : GE) (w : World) :
    Calls Try.prog 53 #[.agg #[.int .i64 x.f, .int .i64 x.t, .int .i64 x.w], .agg #[.int .i64 y.f, .int .i64 y.t, .int .i64 y.w]] w (GTell w (lessR x y)) := by
  have HC := Lib.hid (fun W => cmpR_num x y W)
  have HL := Lib.hid (cmpR_less x y)
  generalize cmpR x y = r at *
  go_enter Try.func53, Try.ntmps53
  go_wp2_with fail
  refine (HC.out _).mono ?_
  rintro e w1 ⟨rfl, hb⟩
  have HB := Lib.hid hb
  clear hb
  go_wp2
  go_ret
  exact ⟨g_bool HL.out, g_chain (below_a2 _ _ _) HB.out⟩

/-- No record from k on comes before its predecessor. -/
def upFrom (es : List GE) (k : Nat) : Prop := ∀ j, k ≤ j → ∀ x y, es[j]? = some x → es[j + 1]? = some y → lessR y x = false

end Go.Proofs.Ytmbabbapcjphgaa
