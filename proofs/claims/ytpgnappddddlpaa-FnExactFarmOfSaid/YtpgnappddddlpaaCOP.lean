/- The contracts of cmp.Compare, cmp.Or and of the program's comparison of two records (no condition). // The contracts of slices.Clone and slices.SortFunc over records and of the program's SortOne. Condition: at most 2^21 records. -/
import Derived.Test.YtpgnappddddlpaaCOQ
import Derived.Test.YtpgnappddddlpaaCOA
import Derived.StillTailTactics
import Derived.Sort.Grow
import Derived.Test.YtpgnappddddlpaaShelfRec
import Derived.Shelf.SlSortCmp.WholeK
import Derived.Shelf.SlSortCmp.NoneTotal
import Derived.Lib.SliceRun
namespace Go.Proofs.Ytpgnappddddlpaa
open Go.RowKit Go.Sort

def cmpI (a b : Int) : Int := if a < b then -1 else if b < a then 1 else 0
def orI : List Int → Int
  | [] => 0
  | x :: r => if x = 0 then orI r else x
def cmpR (x y : GE) : Int := orI [cmpI x.f y.f, cmpI x.t y.t, cmpI x.w y.w]
theorem cmpI_lt (a b : Int) : cmpI a b < 0 ↔ a < b := by unfold cmpI; split <;> (try split) <;> omega
theorem cmpI_eq (a b : Int) : cmpI a b = 0 ↔ a = b := by unfold cmpI; split <;> (try split) <;> omega
theorem cmpR_lt (x y : GE) : cmpR x y < 0 ↔ lessR x y = true := by
  rw [lessR_iff]
  unfold cmpR orI orI orI orI
  have h1 := cmpI_lt x.f y.f
  have h2 := cmpI_lt x.t y.t
  have h3 := cmpI_lt x.w y.w
  have e1 := cmpI_eq x.f y.f
  have e2 := cmpI_eq x.t y.t
  have e3 := cmpI_eq x.w y.w
  split
  · split
    · split <;> omega
    · omega
  · omega
theorem cmpR_less (x y : GE) : decide (cmpR x y < 0) = lessR x y := by
  rw [Bool.eq_iff_iff, decide_eq_true_iff]
  exact cmpR_lt x y

theorem nan_any (a : Int) (w : World) : Calls Try.prog 175 #[.int .i64 a] w fun e w' => e = .returned (.bool false) ∧ w' = w := by
  have h : (a != a) = false := by simp
  go_enter Try.func175, Try.ntmps175
  go_wp2
  go_ret
  exact ⟨by simp, rfl⟩
theorem cmpI_any (a b : Int) (w : World) : Calls Try.prog 168 #[.int .i64 a, .int .i64 b] w fun e w' => e = .returned (.int .i64 (cmpI a b)) ∧ w' = w := by
  obtain ⟨r, hr⟩ : ∃ r, cmpI a b = r := ⟨_, rfl⟩
  have HR := Lib.hid hr
  rw [hr]
  clear hr
  by_cases h1 : a < b
  · have hr : r = -1 := by rw [← HR.out]; unfold cmpI; rw [if_pos h1]
    subst hr
    go_enter Try.func168, Try.ntmps168
    go_wp2_with (go_at_call 175; refine (nan_any _ _).mono ?_; rintro e w' ⟨rfl, rfl⟩)
    go_ret
    exact ⟨rfl, rfl⟩
  · by_cases h2 : b < a
    · have hr : r = 1 := by rw [← HR.out]; unfold cmpI; rw [if_neg h1, if_pos h2]
      subst hr
      go_enter Try.func168, Try.ntmps168
      go_wp2_with (go_at_call 175; refine (nan_any _ _).mono ?_; rintro e w' ⟨rfl, rfl⟩)
      go_ret
      exact ⟨rfl, rfl⟩
    · have hr : r = 0 := by rw [← HR.out]; unfold cmpI; rw [if_neg h1, if_neg h2]
      subst hr
      go_enter Try.func168, Try.ntmps168
      go_wp2_with (go_at_call 175; refine (nan_any _ _).mono ?_; rintro e w' ⟨rfl, rfl⟩)
      go_ret
      exact ⟨rfl, rfl⟩

theorem orI_skip {xs : List Int} {k : Nat} (h : xs[k]? = some 0) (e : orI (xs.drop k) = orI xs) : orI (xs.drop (k + 1)) = orI xs := by
  obtain ⟨hk, hx⟩ := List.getElem?_eq_some_iff.1 h
  rw [List.drop_eq_getElem_cons hk, hx, orI, if_pos rfl] at e
  exact e
theorem orI_hit {xs : List Int} {k : Nat} {x : Int} (h : xs[k]? = some x) (h0 : ¬ x = 0) (e : orI (xs.drop k) = orI xs) : orI xs = x := by
  obtain ⟨hk, hx⟩ := List.getElem?_eq_some_iff.1 h
  rw [List.drop_eq_getElem_cons hk, hx, orI, if_neg h0] at e
  exact e.symm
theorem orI_end {xs : List Int} {k : Nat} (h : xs.length ≤ k) (e : orI (xs.drop k) = orI xs) : orI xs = 0 := by
  rw [List.drop_eq_nil_of_le h] at e
  exact e.symm
theorem orI_any (A : Option Addr) (n c : Nat) (xs : List Int) (w : World) (hr : SlI w A n xs) (hn : n ≤ 1000) :
    Calls Try.prog 167 #[.slice A n c] w fun e w' => e = .returned (.int .i64 (orI xs)) ∧ w' = w := by
  have HR := Lib.hid hr
  have HL := Lib.hid hr.len
  clear hr
  go_enter Try.func167, Try.ntmps167
  go_wp2
  go_loop [8] (fun i => ∃ k : Nat, k ≤ n ∧ i = .int .i64 k ∧ Hid (orI (xs.drop k) = orI xs)) (fun i => n - (intOf i).toNat)
  case atStart => exact ⟨0, Nat.zero_le _, rfl, Lib.hid rfl⟩
  case round =>
    obtain ⟨k, hk, rfl, hd⟩ := hrel
    by_cases hlt : k < n
    · obtain ⟨b, off, x, rfl, hbw, he, c0⟩ := HR.out.at_ hlt
      by_cases hx : x = 0
      · subst hx
        have HD := Lib.hid (orI_skip he.out hd.out)
        go_wp2
        go_round
        case rel => exact ⟨k + 1, by omega, by go_num, HD⟩
        case measure => simp [intOf]; omega
      · have HD := Lib.hid (orI_hit he.out hx hd.out)
        have hx1 : (x == 0) = false := by simpa using hx
        have hx2 : (x != 0) = true := by simpa using hx
        go_wp2
        go_ret
        exact ⟨g_int HD.out.symm, rfl⟩
    · have HD := Lib.hid (orI_end (k := k) (by rw [HL.out]; omega) hd.out)
      go_wp2
      go_ret
      exact ⟨g_int HD.out.symm, rfl⟩

theorem three_lies (W : World) (r1 r2 r3 : Int) (t : TypeId) : SlI (W.alloc (.cells #[.int .i64 r1, .int .i64 r2, .int .i64 r3] t)) (some ⟨W.heap.size, 0, none⟩) 3 [r1, r2, r3] := by
  refine ⟨rfl, rfl, fun _ => ⟨_, _, rfl, by simp, fun j v hj => ?_⟩⟩
  match j, hj with
  | 0, hj => simp [vi] at hj; subst hj; simp
  | 1, hj => simp [vi] at hj; subst hj; simp
  | 2, hj => simp [vi] at hj; subst hj; simp

set_option maxRecDepth 100000 in
set_option maxHeartbeats 1000000 in
theorem cmpR_any (x y : GE) (w : World) :
    Calls Try.prog 159 #[.agg #[.int .i64 x.f, .int .i64 x.t, .int .i64 x.w], .agg #[.int .i64 y.f, .int .i64 y.t, .int .i64 y.w]] w fun e w' => e = .returned (.int .i64 (cmpR x y)) ∧ ∃ q os, w' = grow (w.drewN q) os := by
  have HC := Lib.hid (fun w' (h : SlI w' (some ⟨w.heap.size + 1 + 1, 0, none⟩) 3 [cmpI x.f y.f, cmpI x.t y.t, cmpI x.w y.w]) => orI_any (some ⟨w.heap.size + 1 + 1, 0, none⟩) 3 3 _ w' h (by omega))
  have HR : Hid (orI [cmpI x.f y.f, cmpI x.t y.t, cmpI x.w y.w] = cmpR x y) := Lib.hid rfl
  have K1 := Lib.hid (fun W => cmpI_any x.f y.f W)
  have K2 := Lib.hid (fun W => cmpI_any x.t y.t W)
  have K3 := Lib.hid (fun W => cmpI_any x.w y.w W)
  generalize cmpI x.f y.f = r1 at *
  generalize cmpI x.t y.t = r2 at *
  generalize cmpI x.w y.w = r3 at *
  go_enter Try.func159, Try.ntmps159
  go_wp2_with fail
  obtain ⟨W, hW⟩ : ∃ W : World, W = ((w.alloc (.cells #[.int .i64 x.f, .int .i64 x.t, .int .i64 x.w] 150)).alloc (.cells #[.int .i64 y.f, .int .i64 y.t, .int .i64 y.w] 150)).drew := ⟨_, rfl⟩
  have a0 : W.cell? ⟨w.heap.size, 0, none⟩ = some (.int .i64 x.f) := by rw [hW]; simp
  have a1 : W.cell? ⟨w.heap.size, 1, none⟩ = some (.int .i64 x.t) := by rw [hW]; simp
  have a2 : W.cell? ⟨w.heap.size, 2, none⟩ = some (.int .i64 x.w) := by rw [hW]; simp
  have b0 : W.cell? ⟨w.heap.size + 1, 0, none⟩ = some (.int .i64 y.f) := by rw [hW]; simp
  have b1 : W.cell? ⟨w.heap.size + 1, 1, none⟩ = some (.int .i64 y.t) := by rw [hW]; simp
  have b2 : W.cell? ⟨w.heap.size + 1, 2, none⟩ = some (.int .i64 y.w) := by rw [hW]; simp
  have hz : Hid (W.heap.size = w.heap.size + 1 + 1) := Lib.hid (by rw [hW]; simp)
  refine wp_region_still_tail 15 (by kernel_rfl) (by kernel_rfl) ?_
  simp only [List.take_succ_cons, List.take_zero, List.drop_succ_cons, List.drop_zero]
  change wpStill _ _ (World.drew _) _ _ _
  rw [← hW]
  change wpStill _ _ _ (fun a' => wpList _ _ _ _ a' (World.drew _)) _ _
  rw [← hW]
  have HW := Lib.hid hW
  clear hW
  repeat still_step
  still_call (K1.out _)
  repeat still_step
  still_call (K2.out _)
  repeat still_step
  still_call (K3.out _)
  refine wpStill_nil ?_
  rw [← hz.out] at HC
  have HL := Lib.hid (three_lies W r1 r2 r3 3)
  go_wp2_with (go_at_call 167; refine (HC.out _ HL.out).mono ?_; rintro e w' ⟨rfl, rfl⟩)
  go_ret
  refine ⟨g_int HR.out, 1, #[.cells #[.int .i64 x.f, .int .i64 x.t, .int .i64 x.w] 150, .cells #[.int .i64 y.f, .int .i64 y.t, .int .i64 y.w] 150, .cells #[.int .i64 r1, .int .i64 r2, .int .i64 r3] 3], ?_⟩
  rw [HW.out]
  simp only [alloc_eq_grow, drew_grow, grow_grow]
  rfl

theorem below_grow (w : World) (q : Nat) (os : Array Obj) : Below w.heap.size w (grow (w.drewN q) os) :=
  ⟨rfl, rfl, rfl, by rw [size_grow]; show w.heap.size ≤ w.heap.size + _; omega, fun k hk => heap_grow_old (w.drewN q) os hk⟩
theorem cmpR_num (x y : GE) (w : World) :
    Calls Try.prog 159 #[.agg #[.int .i64 x.f, .int .i64 x.t, .int .i64 x.w], .agg #[.int .i64 y.f, .int .i64 y.t, .int .i64 y.w]] w (GNum w (cmpR x y)) :=
  (cmpR_any x y w).mono fun _ _ ⟨he, q, os, hw⟩ => ⟨he, by rw [hw]; exact below_grow w q os⟩

set_option maxHeartbeats 400000 in
theorem implLess (x y : GE) (w : World) :
    Calls Try.prog 145 #[.agg #[.int .i64 x.f, .int .i64 x.t, .int .i64 x.w], .agg #[.int .i64 y.f, .int .i64 y.t, .int .i64 y.w]] w (GTell w (lessR x y)) := by
  have HC := Lib.hid (fun W => cmpR_num x y W)
  have HL := Lib.hid (cmpR_less x y)
  generalize cmpR x y = r at *
  go_enter Try.func145, Try.ntmps145
  go_wp2_with fail
  refine (HC.out _).mono ?_
  rintro e w1 ⟨rfl, hb⟩
  have HB := Lib.hid hb
  clear hb
  go_wp2
  go_ret
  exact ⟨g_bool HL.out, g_chain (below_a2 _ _ _) HB.out⟩

/-- No record from k on comes before its predecessor. -/
def upFrom (es : List GE) (k : Nat) : Prop := ∀ j, k ≤ j → ∀ x y, es[j]? = some x → es[j + 1]? = some y → lessR y x = false

end Go.Proofs.Ytpgnappddddlpaa
namespace Go.Proofs.Ytpgnappddddlpaa
open Go.RowKit Go.Sort Go.Shelf

instance : Inhabited GE := ⟨zeroG⟩
theorem rec_get! (d : List GE) (i : Nat) (h : i < d.length) : d.toArray[i]! = d[i] := by
  rw [getElem!_pos d.toArray i (by simpa using h)]
  simp
theorem flatK_is (d : List GE) : (flatK GE.cells 3 d.toArray).toList = d.flatMap GE.cells := by
  apply List.ext_getElem?
  intro t
  by_cases h : t < d.length * 3
  · have hd : t / 3 < d.length := by omega
    have e := flat_get GE.cells 3 GE.cells_len d (t / 3) (t % 3) d[t / 3] (List.getElem?_eq_getElem hd) (by omega)
    rw [show t / 3 * 3 + t % 3 = t by omega] at e
    have hz : t < (flatK GE.cells 3 d.toArray).size := by simpa using h
    rw [e, Array.getElem?_toList, Array.getElem?_eq_getElem hz, ← getElem!_pos (flatK GE.cells 3 d.toArray) t hz, get_flatK _ _ _ _ (by simpa using h), rec_get! d _ hd]
    have hr : t % 3 < (GE.cells d[t / 3]).length := by rw [GE.cells_len]; omega
    rw [List.getElem?_eq_getElem hr, getElem!_pos (GE.cells d[t / 3]) (t % 3) hr]
  · rw [List.getElem?_eq_none (by simp; omega), List.getElem?_eq_none (by rw [flat_len GE.cells 3 GE.cells_len]; omega)]

theorem ltOf_is (x y : GE) : ltOf cmpR x y = lessR x y := by
  unfold ltOf
  exact cmpR_less x y
theorem swo_cmp : SWO (ltOf cmpR) where
  irrefl x := by rw [ltOf_is, lessR_no]; omega
  trans x y z h1 h2 := by rw [ltOf_is, lessR_iff] at *; omega
  ntrans x y z h1 h2 := by rw [ltOf_is, lessR_no] at *; omega
theorem sort_is (l : List GE) (d' : Array GE) (hp : PermIn 0 l.toArray.size l.toArray d') (hs : SortedIn (ltOf cmpR) 0 l.toArray.size d') : d'.toList = sortR l := by
  obtain ⟨h1, _, h3⟩ := hp
  have hsz : d'.size = l.length := by simpa using h1
  have e1 : d'.extract 0 l.toArray.size = d' := by rw [← h1]; simp
  have e2 : l.toArray.extract 0 l.toArray.size = l.toArray := by simp
  rw [e1, e2] at h3
  refine sorted_is ?_ h3
  unfold SortedR
  rw [List.pairwise_iff_getElem]
  intro i j hi hj hij
  unfold leR
  have hi' : i < d'.size := by simpa using hi
  have hj' : j < d'.size := by simpa using hj
  have h := hs i j (Nat.zero_le _) hij (by rw [← h1]; exact hj')
  rw [ltOf_is, getElem!_pos d' i hi', getElem!_pos d' j hj'] at h
  simpa using h

/-! ### the row behind the sort -/
theorem heap_putV {w : World} {g n : Nat} {os : Array Obj} {cur : Array Value} {e : TypeId} {fr : Nat × Nat} (d : Array Value) (hb : w.heap[g]? = some (.cells cur e fr)) :
    (grow (putRow id (Sort.ahead w n) g 0 d) os).heap[g]? = some (.cells (putCells id 0 d cur) e fr) := by
  have hg : g < w.heap.size := (Array.getElem?_eq_some_iff.1 hb).1
  rw [heap_grow_old _ _ (by simpa using hg)]
  simp [putRow, mapBlock, Sort.ahead, Array.getElem?_modify, hb, onCells]
theorem grownBy_putV {w : World} {g n : Nat} {os : Array Obj} (d : Array Value) : w.grownBy (grow (putRow id (Sort.ahead w n) g 0 d) os) (some g) := by
  refine ⟨rfl, rfl, rfl, by simp, fun k hk hne => ?_⟩
  rw [heap_grow_old _ _ (by simpa using hk)]
  have : g ≠ k := fun e => hne (by rw [e])
  simp [putRow, mapBlock, Sort.ahead, Array.getElem?_modify, this]
theorem take_putV (cur : Array Value) (ts : Array Value) (h : ts.size ≤ cur.size) : (putCells id 0 ts cur).toList.take ts.size = ts.toList := by
  apply List.ext_getElem?
  intro j
  by_cases hj : j < ts.size
  · rw [List.getElem?_take_of_lt hj, Array.getElem?_toList]
    simp [putCells, hj, show j < cur.size by omega]
  · rw [List.getElem?_take_eq_none (by omega), List.getElem?_eq_none (by simp; omega)]

def SortedBy (w : World) (lo g n c : Nat) (es : List GE) (e : Ending) (w' : World) : Prop :=
  e = .returned (.tuple #[]) ∧ w'.ownsRow lo 150 3 (.slice (some ⟨g, 0, none⟩) n c) n ((sortR es).flatMap GE.cells) ∧ w.grownBy w' (some g)
theorem isAggRec (w : World) : (isAgg 150).run Try.prog w = .ok true w := by kernel_rfl
theorem sizeRec (w : World) : (Go.sizeOf 150).run Try.prog w = .ok 3 w := by kernel_rfl
theorem cmp_lays (blk off size : Nat) (w : World) : CmpLays Try.prog 159 #[] GE.cells 3 cmpR blk off size w :=
  fun _ _ _ _ x y => cmpR_any x y _
theorem cells_one (x : GE) : ∀ v ∈ GE.cells x, v.oneCell' = true := by
  intro v hv
  simp only [GE.cells, List.mem_cons, List.not_mem_nil, or_false] at hv
  rcases hv with rfl | rfl | rfl <;> rfl
theorem sortFunc_any (lo g n c : Nat) (es : List GE) (w : World) (ho : w.ownsRow lo 150 3 (.slice (some ⟨g, 0, none⟩) n c) n (es.flatMap GE.cells)) (hl : es.length = n) (hn : n ≤ 2097152) :
    Calls Try.prog 174 #[.slice (some ⟨g, 0, none⟩) n c, .func (.func 159) #[] #[]] w (SortedBy w lo g n c es) := by
  subst hl
  have hcs := ho.1
  rcases ho.2 with ⟨h, _⟩ | ⟨g', cap, cur, hv, hbase, hb, h1, h2, h3, h4⟩
  · cases h
  · injection hv with e1 _ e3
    injection e1 with e1
    injection e1 with e1
    subst e1 e3
    have hg : g < w.heap.size := (Array.getElem?_eq_some_iff.1 hb).1
    have hH : HoldsK GE.cells 3 w g 0 es.toArray := by
      intro t ht
      have ht' : t < es.length * 3 := by simpa using ht
      refine ⟨?_, by simp [World.frozen?, hb]⟩
      have e5 : (cur.toList.take (es.length * 3))[t]? = (es.flatMap GE.cells)[t]? := by rw [h4]
      rw [List.getElem?_take_of_lt ht', ← flatK_is, Array.getElem?_toList, Array.getElem?_toList] at e5
      simp only [World.cell?, hb, Nat.zero_add, Option.isSome_none, Bool.false_eq_true, if_false]
      rw [e5, Array.getElem?_eq_getElem ht, getElem!_pos (flatK GE.cells 3 es.toArray) t ht]
      rfl
    have eg : ∀ args w, (callFunc 159 args).run Try.prog w = .ok (.enter 159 args) w := enters_of Try.func159 (by kernel_rfl) rfl
    have hcon := AnyQ.slices_SortFunc Try.sortR 3 isAggRec sizeRec GE.cells GE.cells_len cells_one cmpR swo_cmp 159 #[] g 0 c es.toArray w eg (cmp_lays g 0 es.toArray.size w) hH hg (by simp; omega)
    refine hcon.mono ?_
    rintro e w' ⟨rfl, d', m, os, hp, hs, rfl⟩
    have hd := sort_is es d' hp hs
    have hsz : d'.size = es.length := by have := hp.1; simpa using this
    have hda : d' = (sortR es).toArray := by rw [← hd]
    refine ⟨rfl, ⟨?_, .inr ⟨g, c, _, rfl, hbase, heap_putV _ hb, h1, h2, ?_, ?_⟩⟩, grownBy_putV _⟩
    · rw [flat_len GE.cells 3 GE.cells_len, ← hd]
      simp [hsz]
    · simp [putCells, h3]
    · have hf : (flatK GE.cells 3 d').size = es.length * 3 := by rw [size_flatK, hsz]
      rw [← hf, take_putV _ _ (by rw [hf, h3]; omega), hda, flatK_is]

set_option maxRecDepth 10000 in
theorem cloneR (A : Option Addr) (n c : Nat) (es : List GE) (w : World) (hr : SlG w A n es) (hn : n ≤ 2097152) :
    Calls Try.prog 173 #[.slice A n c] w (RowRc w n es) := by
  obtain ⟨i0, hi, hz0, hz1, hz2⟩ := info_parts Try.infoRec
  have HONE := Lib.hid (rec_one es)
  rcases A with _ | a
  · obtain rfl : n = 0 := by
      rcases Nat.eq_zero_or_pos n with h | h
      · exact h
      · obtain ⟨_, _, h, _⟩ := hr.row.lies h
        cases h
    obtain rfl : es = [] := List.eq_nil_of_length_eq_zero hr.len
    have e1 := fun w : World => Lib.run_eql_slice_nil (P := Try.prog) w 148 150 none 0 c 0 0 Try.underlying148
    go_enter Try.func173, Try.ntmps173
    go_wp2
    go_ret
    exact ⟨none, 0, rfl, World.ownsRow_nil _ _ _ _, Below.refl _ _⟩
  · have e1 := fun w : World => Lib.run_eql_slice_nil (P := Try.prog) w 148 150 (some a) n c 0 0 Try.underlying148
    go_enter Try.func173, Try.ntmps173
    go_wp2_with (at_builtin; refine wpList_append_any _ rfl (.tmp 5) (.tmp 6) _ rfl w.heap.size 150 i0 _ 3 24 Try.underlying148 hi hz0 hz1 hz2 rfl (by omega) (.slice (some ⟨w.heap.size, 0, none⟩) 0 0) 0 [] rfl (rec_built w) w.heap.size (some a) n c (es.flatMap GE.cells) rfl (hr.row.reads.alloc (Nat.le_refl _) _) HONE.out (by simp only [maxLen]; omega) (by omega) (by simp) ?_; intro v1 w1 hown1 hg1 hat1)
    obtain ⟨A1, c1, rfl⟩ := rec_form hown1
    go_ret
    exact ⟨A1, c1, by simp, by simpa using hown1, rec_below hg1⟩

theorem sortR_nil : sortR [] = [] := rfl
set_option maxRecDepth 10000 in
theorem implSortOne (A : Option Addr) (n c : Nat) (es : List GE) (w : World) (hr : SlG w A n es) (hn : n ≤ 2097152) :
    Calls Try.prog 166 #[.slice A n c] w (RowRc w n (sortR es)) := by
  have HC := Lib.hid (cloneR A n c es w hr hn)
  have HL := Lib.hid hr.len
  clear hr
  rcases Nat.eq_zero_or_pos n with rfl | hpos
  · have HS := Lib.hid (fun (p : Option Addr) (q : Nat) (W : World) => AnyF.slices_SortFunc_none (P := Try.prog) (ρ := Try.sortR_ren) { Try.sortR with } p q (.func (.func 159) #[] #[]) W)
    have HE : Hid (es = []) := Lib.hid (List.eq_nil_of_length_eq_zero HL.out)
    go_enter Try.func166, Try.ntmps166
    go_wp2_with fail
    refine HC.out.mono ?_
    rintro e w1 ⟨A1, c1, rfl, ho1, hb1⟩
    have HO := Lib.hid ho1
    have HB := Lib.hid hb1
    clear ho1 hb1
    go_wp2_with fail
    refine (HS.out A1 c1 _).mono ?_
    rintro e w2 ⟨rfl, rfl⟩
    go_wp2
    go_ret
    exact ⟨A1, c1, rfl, by rw [HE.out, sortR_nil, ← HE.out]; exact HO.out, HB.out⟩
  · go_enter Try.func166, Try.ntmps166
    go_wp2_with fail
    refine HC.out.mono ?_
    rintro e w1 ⟨A1, c1, rfl, ho1, hb1⟩
    obtain ⟨g, rfl⟩ := g_own_at ho1 hpos
    have HB := Lib.hid hb1
    have HG := Lib.hid ((ho1.lt g rfl).1)
    have HS := Lib.hid (sortFunc_any w.heap.size g n c1 es w1 ho1 HL.out hn)
    clear ho1 hb1
    go_wp2_with fail
    refine HS.out.mono ?_
    rintro e w2 ⟨rfl, ho2, hg2⟩
    have HO := Lib.hid ho2
    have HB2 := Lib.hid (HB.out.grown hg2 HB.out.size (fun j hj => by injection hj with hj; rw [← hj]; exact HG.out))
    clear ho2 hg2
    go_wp2
    go_ret
    exact ⟨_, c1, rfl, HO.out, HB2.out⟩
end Go.Proofs.Ytpgnappddddlpaa
