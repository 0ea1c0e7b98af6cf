/- The contracts of slices.Clone and slices.SortFunc over records and of the program's SortOne. Condition: at most 2^21 records. -/
import Derived.Test.YtmbabbapcjphgaaDoorCA10
import Derived.Test.YtmbabbapcjphgaaDoorShelfRec
import Derived.Shelf.SlSortCmp.WholeK
import Derived.Shelf.SlSortCmp.NoneTotal
import Derived.Test.YtmbabbapcjphgaaDoorCA1
import Derived.Lib.SliceRun
namespace Go.Proofs.YtmbabbapcjphgaaDoor
open Go.RowKit Go.Sort Go.Shelf

instance : Inhabited GE := ⟨zeroG⟩
theorem rec_get! (d : List GE) (i : Nat) (h : i < d.length) : d.toArray[i]! = d[i] := by
  rw [getElem!_pos d.toArray i (by simpa using h)]
  simp
theorem flatK_is (d : List GE) : (flatK GE.cells 3 d.toArray).toList = d.flatMap GE.cells := by
  apply List.ext_getElem?
  intro t
  by_cases h : t < d.length * 3
  · have hd : t / 3 < d.length := by omega
    have e := flat_get GE.cells 3 GE.cells_len d (t / 3) (t % 3) d[t / 3] (List.getElem?_eq_getElem hd) (by omega)
    rw [show t / 3 * 3 + t % 3 = t by omega] at e
    have hz : t < (flatK GE.cells 3 d.toArray).size := by simpa using h
    rw [e, Array.getElem?_toList, Array.getElem?_eq_getElem hz, ← getElem!_pos (flatK GE.cells 3 d.toArray) t hz, get_flatK _ _ _ _ (by simpa using h), rec_get! d _ hd]
    have hr : t % 3 < (GE.cells d[t / 3]).length := by rw [GE.cells_len]; omega
    rw [List.getElem?_eq_getElem hr, getElem!_pos (GE.cells d[t / 3]) (t % 3) hr]
  · rw [List.getElem?_eq_none (by simp; omega), List.getElem?_eq_none (by rw [flat_len GE.cells 3 GE.cells_len]; omega)]

theorem ltOf_is (x y : GE) : ltOf cmpR x y = lessR x y := by
  unfold ltOf
  exact cmpR_less x y
theorem swo_cmp : SWO (ltOf cmpR) where
  irrefl x := by rw [ltOf_is, lessR_no]; omega
  trans x y z h1 h2 := by rw [ltOf_is, lessR_iff] at *; omega
  ntrans x y z h1 h2 := by rw [ltOf_is, lessR_no] at *; omega
theorem sort_is (l : List GE) (d' : Array GE) (hp : PermIn 0 l.toArray.size l.toArray d') (hs : SortedIn (ltOf cmpR) 0 l.toArray.size d') : d'.toList = sortR l := by
  obtain ⟨h1, _, h3⟩ := hp
  have hsz : d'.size = l.length := by simpa using h1
  have e1 : d'.extract 0 l.toArray.size = d' := by rw [← h1]; simp
  have e2 : l.toArray.extract 0 l.toArray.size = l.toArray := by simp
  rw [e1, e2] at h3
  refine sorted_is ?_ h3
  unfold SortedR
  rw [List.pairwise_iff_getElem]
  intro i j hi hj hij
  unfold leR
  have hi' : i < d'.size := by simpa using hi
  have hj' : j < d'.size := by simpa using hj
  have h := hs i j (Nat.zero_le _) hij (by rw [← h1]; exact hj')
  rw [ltOf_is, getElem!_pos d' i hi', getElem!_pos d' j hj'] at h
  simpa using h

/-! ### the row behind the sort -/
theorem heap_putV {w : World} {g n : Nat} {os : Array Obj} {cur : Array Value} {e : TypeId} {fr : Nat × Nat} (d : Array Value) (hb : w.heap[g]? = some (.cells cur e fr)) :
    (grow (putRow id (Sort.ahead w n) g 0 d) os).heap[g]? = some (.cells (putCells id 0 d cur) e fr) := by
  have hg : g < w.heap.size := (Array.getElem?_eq_some_iff.1 hb).1
  rw [heap_grow_old _ _ (by simpa using hg)]
  simp [putRow, mapBlock, Sort.ahead, Array.getElem?_modify, hb, onCells]
theorem grownBy_putV {w : World} {g n : Nat} {os : Array Obj} (d : Array Value) : w.grownBy (grow (putRow id (Sort.ahead w n) g 0 d) os) (some g) := by
  refine ⟨rfl, rfl, rfl, by simp, fun k hk hne => ?_⟩
  rw [heap_grow_old _ _ (by simpa using hk)]
  have : g ≠ k := fun e => hne (by rw [e])
  simp [putRow, mapBlock, Sort.ahead, Array.getElem?_modify, this]
theorem take_putV (cur : Array Value) (ts : Array Value) (h : ts.size ≤ cur.size) : (putCells id 0 ts cur).toList.take ts.size = ts.toList := by
  apply List.ext_getElem?
  intro j
  by_cases hj : j < ts.size
  · rw [List.getElem?_take_of_lt hj, Array.getElem?_toList]
    simp [putCells, hj, show j < cur.size by omega]
  · rw [List.getElem?_take_eq_none (by omega), List.getElem?_eq_none (by simp; omega)]

def SortedBy (w : World) (lo g n c : Nat) (es : List GE) (e : Ending) (w' : World) : Prop :=
  e = .returned (.tuple #[]) ∧ w'.ownsRow lo 68 3 (.slice (some ⟨g, 0, none⟩) n c) n ((sortR es).flatMap GE.cells) ∧ w.grownBy w' (some g)
theorem isAggRec (w : World) : (isAgg 68).run Tryd.prog w = .ok true w := by kernel_rfl
theorem sizeRec (w : World) : (Go.sizeOf 68).run Tryd.prog w = .ok 3 w := by kernel_rfl
theorem cmp_lays (blk off size : Nat) (w : World) : CmpLays Tryd.prog 61 #[] GE.cells 3 cmpR blk off size w :=
  fun _ _ _ _ x y => cmpR_any x y _
theorem cells_one (x : GE) : ∀ v ∈ GE.cells x, v.oneCell' = true := by
  intro v hv
  simp only [GE.cells, List.mem_cons, List.not_mem_nil, or_false] at hv
  rcases hv with rfl | rfl | rfl <;> rfl
theorem sortFunc_any (lo g n c : Nat) (es : List GE) (w : World) (ho : w.ownsRow lo 68 3 (.slice (some ⟨g, 0, none⟩) n c) n (es.flatMap GE.cells)) (hl : es.length = n) (hn : n ≤ 2097152) :
    Calls Tryd.prog 88 #[.slice (some ⟨g, 0, none⟩) n c, .func (.func 61) #[] #[]] w (SortedBy w lo g n c es) := by
  subst hl
  have hcs := ho.1
  rcases ho.2 with ⟨h, _⟩ | ⟨g', cap, cur, hv, hbase, hb, h1, h2, h3, h4⟩
  · cases h
  · injection hv with e1 _ e3
    injection e1 with e1
    injection e1 with e1
    subst e1 e3
    have hg : g < w.heap.size := (Array.getElem?_eq_some_iff.1 hb).1
    have hH : HoldsK GE.cells 3 w g 0 es.toArray := by
      intro t ht
      have ht' : t < es.length * 3 := by simpa using ht
      refine ⟨?_, by simp [World.frozen?, hb]⟩
      have e5 : (cur.toList.take (es.length * 3))[t]? = (es.flatMap GE.cells)[t]? := by rw [h4]
      rw [List.getElem?_take_of_lt ht', ← flatK_is, Array.getElem?_toList, Array.getElem?_toList] at e5
      simp only [World.cell?, hb, Nat.zero_add, Option.isSome_none, Bool.false_eq_true, if_false]
      rw [e5, Array.getElem?_eq_getElem ht, getElem!_pos (flatK GE.cells 3 es.toArray) t ht]
      rfl
    have eg : ∀ args w, (callFunc 61 args).run Tryd.prog w = .ok (.enter 61 args) w := enters_of Tryd.func61 (by kernel_rfl) rfl
    have hcon := AnyQ.slices_SortFunc Tryd.sortR 3 isAggRec sizeRec GE.cells GE.cells_len cells_one cmpR swo_cmp 61 #[] g 0 c es.toArray w eg (cmp_lays g 0 es.toArray.size w) hH hg (by simp; omega)
    refine hcon.mono ?_
    rintro e w' ⟨rfl, d', m, os, hp, hs, rfl⟩
    have hd := sort_is es d' hp hs
    have hsz : d'.size = es.length := by have := hp.1; simpa using this
    have hda : d' = (sortR es).toArray := by rw [← hd]
    refine ⟨rfl, ⟨?_, .inr ⟨g, c, _, rfl, hbase, heap_putV _ hb, h1, h2, ?_, ?_⟩⟩, grownBy_putV _⟩
    · rw [flat_len GE.cells 3 GE.cells_len, ← hd]
      simp [hsz]
    · simp [putCells, h3]
    · have hf : (flatK GE.cells 3 d').size = es.length * 3 := by rw [size_flatK, hsz]
      rw [← hf, take_putV _ _ (by rw [hf, h3]; omega), hda, flatK_is]

set_option maxRecDepth 10000 in
theorem cloneR (A : Option Addr) (n c : Nat) (es : List GE) (w : World) (hr : SlG w A n es) (hn : n ≤ 2097152) :
    Calls Tryd.prog 87 #[.slice A n c] w (RowRc w n es) := by
  obtain ⟨i0, hi, hz0, hz1, hz2⟩ := info_parts Tryd.infoRec
  have HONE := Lib.hid (rec_one es)
  rcases A with _ | a
  · obtain rfl : n = 0 := by
      rcases Nat.eq_zero_or_pos n with h | h
      · exact h
      · obtain ⟨_, _, h, _⟩ := hr.row.lies h
        cases h
    obtain rfl : es = [] := List.eq_nil_of_length_eq_zero hr.len
    have e1 := fun w : World => Lib.run_eql_slice_nil (P := Tryd.prog) w 65 68 none 0 c 0 0 Tryd.underlying65
    go_enter Tryd.func87, Tryd.ntmps87
    go_wp2
    go_ret
    exact ⟨none, 0, rfl, World.ownsRow_nil _ _ _ _, Below.refl _ _⟩
  · have e1 := fun w : World => Lib.run_eql_slice_nil (P := Tryd.prog) w 65 68 (some a) n c 0 0 Tryd.underlying65
    go_enter Tryd.func87, Tryd.ntmps87
    go_wp2_with (at_builtin; refine wpList_append_any _ rfl (.tmp 5) (.tmp 6) _ rfl w.heap.size 68 i0 _ 3 24 Tryd.underlying65 hi hz0 hz1 hz2 rfl (by omega) (.slice (some ⟨w.heap.size, 0, none⟩) 0 0) 0 [] rfl (rec_built w) w.heap.size (some a) n c (es.flatMap GE.cells) rfl (hr.row.reads.alloc (Nat.le_refl _) _) HONE.out (by simp only [maxLen]; omega) (by omega) (by simp) ?_; intro v1 w1 hown1 hg1 hat1)
    obtain ⟨A1, c1, rfl⟩ := rec_form hown1
    go_ret
    exact ⟨A1, c1, by simp, by simpa using hown1, rec_below hg1⟩

theorem sortR_nil : sortR [] = [] := rfl
set_option maxRecDepth 10000 in
theorem implSortOne (A : Option Addr) (n c : Nat) (es : List GE) (w : World) (hr : SlG w A n es) (hn : n ≤ 2097152) :
    Calls Tryd.prog 74 #[.slice A n c] w (RowRc w n (sortR es)) := by
  have HC := Lib.hid (cloneR A n c es w hr hn)
  have HL := Lib.hid hr.len
  clear hr
  rcases Nat.eq_zero_or_pos n with rfl | hpos
  · have HS := Lib.hid (fun (p : Option Addr) (q : Nat) (W : World) => AnyF.slices_SortFunc_none (P := Tryd.prog) (ρ := Tryd.sortR_ren) { Tryd.sortR with } p q (.func (.func 61) #[] #[]) W)
    have HE : Hid (es = []) := Lib.hid (List.eq_nil_of_length_eq_zero HL.out)
    go_enter Tryd.func74, Tryd.ntmps74
    go_wp2_with fail
    refine HC.out.mono ?_
    rintro e w1 ⟨A1, c1, rfl, ho1, hb1⟩
    have HO := Lib.hid ho1
    have HB := Lib.hid hb1
    clear ho1 hb1
    go_wp2_with fail
    refine (HS.out A1 c1 _).mono ?_
    rintro e w2 ⟨rfl, rfl⟩
    go_wp2
    go_ret
    exact ⟨A1, c1, rfl, by rw [HE.out, sortR_nil, ← HE.out]; exact HO.out, HB.out⟩
  · go_enter Tryd.func74, Tryd.ntmps74
    go_wp2_with fail
    refine HC.out.mono ?_
    rintro e w1 ⟨A1, c1, rfl, ho1, hb1⟩
    obtain ⟨g, rfl⟩ := g_own_at ho1 hpos
    have HB := Lib.hid hb1
    have HG := Lib.hid ((ho1.lt g rfl).1)
    have HS := Lib.hid (sortFunc_any w.heap.size g n c1 es w1 ho1 HL.out hn)
    clear ho1 hb1
    go_wp2_with fail
    refine HS.out.mono ?_
    rintro e w2 ⟨rfl, ho2, hg2⟩
    have HO := Lib.hid ho2
    have HB2 := Lib.hid (HB.out.grown hg2 HB.out.size (fun j hj => by injection hj with hj; rw [← hj]; exact HG.out))
    clear ho2 hg2
    go_wp2
    go_ret
    exact ⟨_, c1, rfl, HO.out, HB2.out⟩
end Go.Proofs.YtmbabbapcjphgaaDoor
