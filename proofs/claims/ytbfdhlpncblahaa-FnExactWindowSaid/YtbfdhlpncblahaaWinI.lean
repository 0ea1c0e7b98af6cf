/- The contract of the program's Window: sort.Search over the edges. Condition: at most 2^20 edges. -/
import Derived.Test.YtbfdhlpncblahaaWinS
import Derived.Test.YtbfdhlpncblahaaShOkI
import Derived.Test.YtbfdhlpncblahaaShelfSearch
namespace Go.Proofs.Ytbfdhlpncblahaa
open Go.RowKit Go.Shelf Go.Lib Go.Sort

theorem belowN_range (x : Int) (es : List KE) : (List.range es.length).countP (fun i => !decide (x ≤ ((es[i]?).map KE.f).getD 0)) = belowN x es := by
  have h : es = (List.range es.length).map (fun i => (es[i]?).getD zero5) := by
    apply List.ext_getElem
    · simp
    · intro i h1 h2
      simp [h1]
  unfold belowN
  conv => rhs; rw [h]
  rw [List.countP_map]
  refine List.countP_congr fun i hi => ?_
  have hi := List.mem_range.1 hi
  simp only [Function.comp, List.getElem?_eq_getElem hi, Option.map_some, Option.getD_some]
  simp [Int.not_le]

set_option maxHeartbeats 1000000 in
theorem search_one (b1 b2 : Nat) (A : Option Addr) (n c : Nat) (es : List KE) (x : Int) (i : Nat) (w : World) (hr : SlK w A n es) (hi : i < n) (h1 : w.cell? ⟨b1, 0, none⟩ = some (.slice A n c)) (h2 : w.cell? ⟨b2, 0, none⟩ = some (.int .i64 x)) :
    Calls Try.prog 96 #[.int .i64 i, .pointer (some ⟨b1, 0, none⟩), .pointer (some ⟨b2, 0, none⟩)] w fun e w' => e = .returned (.bool (decide (x ≤ ((es[i]?).map KE.f).getD 0))) ∧ ∃ q, w' = w.drewN q := by
  obtain ⟨b, off, e, rfl, hbw, he, c0, -, -, -, -⟩ := hr.at_ hi
  rw [he.out]
  clear he hr
  simp only [Option.map_some, Option.getD_some]
  go_enter Try.func96, Try.ntmps96
  go_wp2
  go_quiet (fail)
  go_wp2
  go_ret
  exact ⟨rfl, _, rfl⟩

theorem SlK.grow {w : World} {A : Option Addr} {n : Nat} {es : List KE} (h : SlK w A n es) (m : Nat) (os : Array Obj) : SlK (grow (w.drewN m) os) A n es :=
  h.below (below_grow w m os)

set_option maxHeartbeats 1000000 in
theorem implBelow (A : Option Addr) (n c : Nat) (es : List KE) (x : Int) (w : World) (hr : SlK w A n es) (hn : n ≤ 1048576) (hs : es.Pairwise (fun a b => a.f ≤ b.f)) :
    Calls Try.prog 73 #[.slice A n c, .int .i64 x] w (GNum w (belowN x es : Nat)) := by
  obtain ⟨W0, hW0⟩ : ∃ W0, W0 = (w.alloc (.cells #[.slice A n c] 27)).alloc (.cells #[.int .i64 x] 3) := ⟨_, rfl⟩
  have hB0 : Below w.heap.size w W0 := by rw [hW0]; exact below_a2 _ _ _
  have hsize : W0.heap.size = w.heap.size + 1 + 1 := by rw [hW0]; simp
  have ca : W0.cell? ⟨w.heap.size, 0, none⟩ = some (.slice A n c) := by rw [hW0]; exact cell_alloc_sl _ (cell_new_sl w _ _)
  have cx : W0.cell? ⟨w.heap.size + 1, 0, none⟩ = some (.int .i64 x) := by rw [hW0]; have := cell_new_sl (w.alloc (.cells #[.slice A n c] 27)) (.int .i64 x) 3; rwa [World.size_alloc] at this
  have hR : SlK W0 A n es := hr.below hB0
  have eg : ∀ args w, (callFunc 96 args).run Try.prog w = .ok (.enter 96 args) w := enters_of Try.func96 (by kernel_rfl) rfl
  have hl := hr.len
  have hS := Any.sort_Search Try.search 96 #[.pointer (some ⟨w.heap.size, 0, none⟩), .pointer (some ⟨w.heap.size + 1, 0, none⟩)] n (fun i => decide (x ≤ ((es[i]?).map KE.f).getD 0)) W0 eg (by omega)
    (fun m os i hi => (search_one w.heap.size (w.heap.size + 1) A n c es x i _ (hR.grow m os) hi (cell_grown (by simp [hsize]; omega) ca m os) (cell_grown (by simp [hsize]) cx m os)).mono
      fun _ _ ⟨he, q, hq⟩ => ⟨he, q, #[], by rw [hq, grow_empty]⟩)
    (fun a b hab hb h => by
      have h1 : a < es.length := by omega
      have h2 : b < es.length := by omega
      rw [List.getElem?_eq_getElem h1] at h
      rw [List.getElem?_eq_getElem h2]
      simp only [Option.map_some, Option.getD_some, decide_eq_true_eq] at h ⊢
      rcases Nat.eq_or_lt_of_le hab with rfl | hlt
      · exact h
      · have := List.pairwise_iff_getElem.1 hs a b h1 h2 hlt
        omega)
  rw [← hl, belowN_range x es, hl] at hS
  change Calls Try.prog 95 _ _ _ at hS
  clear hr ca cx hR hs
  generalize belowN x es = r at hS ⊢
  go_enter Try.func73, Try.ntmps73
  go_wp2_with (go_at_call 95; rw [← hW0]; refine hS.mono ?_; rintro e w' ⟨rfl, q, os, rfl⟩)
  go_ret
  refine ⟨rfl, ?_⟩
  rw [← hW0]
  exact hB0.trans (below_grown_sl w.heap.size W0 q os (by omega))

set_option maxRecDepth 10000 in
set_option maxHeartbeats 2000000 in
theorem implWindow (lo hi : Int) (A : Option Addr) (n c : Nat) (es : List KE) (a b : Int) (w : World) (hr : SlK w A n es) (hn : n ≤ 1048576) :
    Calls Try.prog 34 #[.agg #[.int .i64 lo, .int .i64 hi, .slice A n c], .int .i64 a, .int .i64 b] w (TwoI w (winR lo hi es a b)) := by
  have CO := Lib.hid (fun W (h : Below w.heap.size w W) => implShardOk lo hi A n c es W (hr.below h) hn)
  have HB0 := Lib.hid (below_a1 w (.cells #[.int .i64 lo, .int .i64 hi, .slice A n c] 29))
  cases hv : shardB lo hi es with
  | false =>
    rw [winR_no (.inl hv)]
    rw [hv] at CO
    clear hv hr
    go_enter Try.func34, Try.ntmps34
    go_wp2_with fail
    refine (CO.out _ HB0.out).mono ?_
    rintro e w1 ⟨rfl, hb1⟩
    go_wp2
    go_ret2
    exact ⟨rfl, g_chain HB0.out hb1⟩
  | true =>
    by_cases hab : a ≤ b
    · rw [winR_yes hv hab]
      have hs := (runK_from (shardB_iff hv).2.2.2.2).2
      have CB := Lib.hid (fun x W (h : Below w.heap.size w W) => implBelow A n c es x W (hr.below h) hn hs)
      rw [hv] at CO
      clear hv hr hs
      have C1 := Lib.hid (fun W h => CB.out a W h)
      have C2 := Lib.hid (fun W h => CB.out b W h)
      clear CB
      generalize belowN a es = p at C1 ⊢
      generalize belowN b es = q at C2 ⊢
      go_enter Try.func34, Try.ntmps34
      go_wp2_with fail
      refine (CO.out _ HB0.out).mono ?_
      rintro e w1 ⟨rfl, hb1⟩
      have HB1 := Lib.hid (g_chain HB0.out hb1)
      have X1 := Lib.hid ((HBox.new w lo hi A n c 29).below hb1)
      obtain ⟨l0, x0, x1, x2⟩ := X1.out
      clear hb1
      go_wp2
      go_region_with (first
        | (go_at_call 73; ((with_reducible refine (C1.out _ (by first | exact HB1.out | exact HB1.out.drew)).mono ?_)); rintro e1 w2 ⟨rfl, hb2⟩; have X2 := Lib.hid (X1.out.keep (w' := w2) hb2.size (hb2.block _ X1.out.lt)); have HB2 := Lib.hid (show Below w.heap.size w w2 by first | exact g_chain HB1.out.drew hb2 | exact g_chain HB1.out hb2); obtain ⟨l3, y0, y1, y2⟩ := X2.out)
        | (go_at_call 73; ((with_reducible refine (C2.out _ (by first | exact HB2.out | exact HB2.out.drew)).mono ?_)); rintro e2 w3 ⟨rfl, hb3⟩))
      all_goals
        go_wp2
        go_ret2
        exact ⟨rfl, g_chain HB2.out hb3⟩
    · rw [winR_no (.inr (by omega))]
      rw [hv] at CO
      clear hv hr
      go_enter Try.func34, Try.ntmps34
      go_wp2_with fail
      refine (CO.out _ HB0.out).mono ?_
      rintro e w1 ⟨rfl, hb1⟩
      go_wp2
      go_ret2
      exact ⟨rfl, g_chain HB0.out hb1⟩
end Go.Proofs.Ytbfdhlpncblahaa
