/- Words for records in memory (no condition). // Words for rows of records that a call makes (plain lemmas over the model; no condition). // Slices of records cut short (plain lemmas over the model; no condition). // The contracts of the model's Less, Sorted and SortOne. Condition: at most 2^21 records. // Writings in blocks of a set alone, and what a row of the call's own has for a block (plain lemmas over the model; no condition). // Records: the contracts of the laws' helpers that compare and that leave marks. Condition: at most 2^21 of each. // Batches of records in memory: that read, that are the call's own (plain lemmas over the model; no condition). // Plain mathematics of merging lists of records: the first of the least heads is taken, again and again (no condition). // Plain mathematics of a tree of pairs over lists of records: what is drawn from it is what is taken from the lists one by one, the first of the least heads (no condition). // Plain mathematics of cutting a list of records into batches (no condition). // The contract of the model's Batches. Condition: at most 2^20 records. // slices.Chunk over records: its iterator's contract for whatever loop body. Condition: at most 2^20 records, a size from 1 on. // Records: the contract of the laws' helper that finds the marks. Condition: at most 2^21. // The contracts of the laws' helpers that compare lists of batches, write marks into them and look for the marks. Condition: at most 2^21 of each. // Batches of the call's own behind writings elsewhere; how small they are (plain lemmas over the model; no condition). // The contracts of cmp.Compare, cmp.Or and of the program's comparison of two records (no condition). -/
import Derived.Test.YtmbabbapcjphgaaDoorCA1
import Derived.WalkKit
import Derived.Test.YtmbabbapcjphgaaDoorCA2
import Derived.StillTailTactics
import Derived.Deep.RegionLaw
import Derived.RangeFuncNested
import Derived.RangeFuncBound
import Derived.RangeFuncCalls
import Derived.RangeFuncLeaves
import Derived.RangeFuncBox
import Derived.Shelf.Abstract
import Derived.Shelf.RegionOpen
import Derived.OwnWalkIn
import Derived.TacticsInMore
import Derived.LoopNIn
import Derived.LoopIn
import Derived.Sort.QuietIn
import Derived.Sort.Grow
namespace Go.Proofs.YtmbabbapcjphgaaDoor
open Go.RowKit

theorem Tryd.infoRec : (Tryd.prog.info? 68).map (fun i => (i.zero, i.size, i.bytes)) = some (some (.agg #[.int .i64 0, .int .i64 0, .int .i64 0]), 3, 24) := by kernel_rfl
/-- New edges. -/
def MadeRc (w : World) (es : List GE) (e : Ending) (w' : World) : Prop :=
  ∃ A c, e = .returned (.slice A es.length c) ∧ w'.ownsRow w.heap.size 68 3 (.slice A es.length c) es.length (es.flatMap GE.cells) ∧ Below w.heap.size w w'
end Go.Proofs.YtmbabbapcjphgaaDoor
namespace Go.Proofs.YtmbabbapcjphgaaDoor
open Go.RowKit

theorem rec_form {w : World} {base e size n : Nat} {v : Value} {xs : List Value} (h : w.ownsRow base e size v n xs) : ∃ A c, v = .slice A n c := by
  rcases h.2 with ⟨rfl, rfl⟩ | ⟨g, cap, _, rfl, _⟩
  · exact ⟨_, _, rfl⟩
  · exact ⟨_, _, rfl⟩
theorem rec_built (w : World) : (w.alloc (.cells #[] 68)).ownsRow w.heap.size 68 3 (.slice (some ⟨w.heap.size, 0, none⟩) 0 0) 0 [] :=
  World.ownsRow_lit w #[] 0 (Nat.le_refl _) (by unfold maxLen; omega) rfl
theorem rec_below {w w1 : World} {o : Obj} {k c : Nat} (hg : (w.alloc o).grownBy w1 (Value.slice (some ⟨w.heap.size, 0, none⟩) k c).ownBlock) : Below w.heap.size w w1 :=
  ((Below.refl _ _).alloc (Nat.le_refl _) o).grown hg (by simp) (fun j hj => by simp [Value.ownBlock] at hj; omega)
/-- A new row of records. -/
def RowRc (w : World) (n : Nat) (es : List GE) (e : Ending) (w' : World) : Prop :=
  ∃ A c, e = .returned (.slice A n c) ∧ w'.ownsRow w.heap.size 68 3 (.slice A n c) n (es.flatMap GE.cells) ∧ Below w.heap.size w w'
theorem rec_one (es : List GE) : ∀ u ∈ es.flatMap GE.cells, u.oneCell' = true := fun u hu => by
  obtain ⟨e, _, he⟩ := List.mem_flatMap.1 hu
  simp only [GE.cells, List.mem_cons, List.not_mem_nil, or_false] at he
  rcases he with rfl | rfl | rfl <;> rfl
theorem rec_reads (w : World) (e : GE) (t : TypeId) (g : Nat) (hg : g = w.heap.size) : Reads (w.alloc (.cells #[.int .i64 e.f, .int .i64 e.t, .int .i64 e.w] t)) (g + 1) 3 (some ⟨g, 0, none⟩) 1 (GE.cells e) := by
  subst hg
  refine ⟨rfl, fun _ => ⟨_, rfl, by simp, fun j x hj => ?_⟩⟩
  match j, hj with
  | 0, hj => simp [GE.cells] at hj; subst hj; simp [Addr.add]
  | 1, hj => simp [GE.cells] at hj; subst hj; simp [Addr.add]
  | 2, hj => simp [GE.cells] at hj; subst hj; simp [Addr.add]
/-- A block that holds one record. -/
structure RBox (w : World) (b : Nat) (e : GE) : Prop where
  lt : b < w.heap.size
  c0 : w.cell? ⟨b, 0, none⟩ = some (.int .i64 e.f)
  c1 : w.cell? ⟨b, 1, none⟩ = some (.int .i64 e.t)
  c2 : w.cell? ⟨b, 2, none⟩ = some (.int .i64 e.w)
theorem RBox.below {w w' : World} {b : Nat} {e : GE} (h : RBox w b e) (hb : Below w.heap.size w w') : RBox w' b e :=
  ⟨Nat.lt_of_lt_of_le h.lt hb.size, (hb.cell (p := ⟨b, 0, none⟩) h.lt).trans h.c0, (hb.cell (p := ⟨b, 1, none⟩) h.lt).trans h.c1, (hb.cell (p := ⟨b, 2, none⟩) h.lt).trans h.c2⟩
theorem RBox.drew {w : World} {b : Nat} {e : GE} (h : RBox w b e) : RBox w.drew b e := ⟨h.lt, h.c0, h.c1, h.c2⟩
theorem RowRc.made {w : World} {n : Nat} {es : List GE} {e : Ending} {w' : World} (h : RowRc w n es e w') (hl : es.length = n) : MadeRc w es e w' := by
  subst hl
  exact h
end Go.Proofs.YtmbabbapcjphgaaDoor
namespace Go.Proofs.YtmbabbapcjphgaaDoor
open Go.RowKit

/-! ### slices of records cut short -/
theorem recElem : Tryd.prog.underlying 65 = some (.slice (Tryd.prog.elem 65)) := by simp [Program.elem, Tryd.underlying65]
theorem recElem' : Tryd.prog.elem 65 = 68 := by simp [Program.elem, Tryd.underlying65]
theorem recSize (w : World) : (Go.sizeOf 68).run Tryd.prog w = .ok 3 w := by kernel_rfl
theorem rec_add (b off k : Nat) : (⟨b, off, none⟩ : Addr).add k = ⟨b, off + k, none⟩ := by unfold Addr.add; split <;> simp_all
theorem rec_from {P : Option Addr} {n c k : Nat} {es : List GE} {w : World} (hr : SlG w P n es) (hk : k ≤ n) (hc : n ≤ c) :
    ∃ P', (∀ W, (Instr.slice 65 (.slice P n c) (some (.int .i64 (k : Int))) none none).run Tryd.prog W = .ok (.slice P' (n - k) (c - k)) W) ∧ SlG w P' (n - k) (es.drop k) := by
  refine ⟨if c = k then P else P.map (·.add (k * 3)), fun W => ?_, ?_⟩
  · rw [run_slice_l W _ _ _ _ recElem .i64 (k : Int) (by omega) (by omega), recElem', recSize, Int.toNat_natCast]
    rfl
  · refine ⟨by rw [List.length_drop, hr.len], by rw [flat_len GE.cells 3 GE.cells_len, List.length_drop, hr.len], fun hn => ?_⟩
    obtain ⟨b, off, rfl, hb, hcell⟩ := hr.row.lies (by omega)
    rw [if_neg (by omega)]
    refine ⟨b, off + k * 3, by simp [rec_add], hb, fun j u hu => ?_⟩
    have e := hcell (k * 3 + j) u
    rw [Nat.add_assoc]
    apply e
    have h1 := List.flatMap_append (f := GE.cells) (xs := es.take k) (ys := es.drop k)
    rw [List.take_append_drop] at h1
    rw [h1, List.getElem?_append_right (by rw [flat_len GE.cells 3 GE.cells_len, List.length_take, hr.len]; omega), flat_len GE.cells 3 GE.cells_len, List.length_take, hr.len, Nat.min_eq_left hk, Nat.add_sub_cancel_left]
    exact hu
theorem rec_most (g n c k : Nat) (hk : k ≤ n) (hc : n ≤ c) (W : World) :
    (Instr.slice 65 (.slice (some ⟨g, 0, none⟩) n c) none (some (.int .i64 (k : Int))) none).run Tryd.prog W = .ok (.slice (some ⟨g, 0, none⟩) k c) W := by
  rw [run_slice_h W _ _ _ _ recElem .i64 (k : Int) (by omega) (by omega), recElem', recSize, Int.toNat_natCast]
  simp [sliced, rec_add]
theorem own_most {w : World} {lo e g n c k : Nat} {es : List GE} (h : w.ownsRow lo e 3 (.slice (some ⟨g, 0, none⟩) n c) n (es.flatMap GE.cells)) (hl : es.length = n) (hk : k ≤ n) :
    w.ownsRow lo e 3 (.slice (some ⟨g, 0, none⟩) k c) k ((es.take k).flatMap GE.cells) := by
  obtain ⟨h1, h2⟩ := h
  rcases h2 with ⟨h2, _⟩ | ⟨g', cap, cur, hv, hb, hg, r1, r2, r3, r4⟩
  · cases h2
  · injection hv with e1 _ e3
    injection e1 with e1
    injection e1 with e1
    subst e1 e3
    refine ⟨by rw [flat_len GE.cells 3 GE.cells_len, List.length_take, hl]; omega, .inr ⟨g, c, cur, rfl, hb, hg, by omega, r2, r3, ?_⟩⟩
    have h4 := congrArg (List.take (k * 3)) r4
    rw [List.take_take, Nat.min_eq_left (by omega)] at h4
    rw [h4]
    have h5 := List.flatMap_append (f := GE.cells) (xs := es.take k) (ys := es.drop k)
    rw [List.take_append_drop] at h5
    rw [h5, List.take_left' (by rw [flat_len GE.cells 3 GE.cells_len, List.length_take, hl]; omega)]
theorem own_capR {w : World} {lo e size g n c : Nat} {xs : List Value} (h : w.ownsRow lo e size (.slice (some ⟨g, 0, none⟩) n c) n xs) : n ≤ c := by
  rcases h.2 with ⟨h2, _⟩ | ⟨g', cap, cur, hv, hb, hg, r1, r2, r3, r4⟩
  · cases h2
  · injection hv with _ _ e3
    omega

theorem flat_drop (es : List GE) (k : Nat) : (es.drop k).flatMap GE.cells = (es.flatMap GE.cells).drop (k * 3) := by
  have h1 := List.flatMap_append (f := GE.cells) (xs := es.take k) (ys := es.drop k)
  rw [List.take_append_drop] at h1
  by_cases hk : k ≤ es.length
  · rw [h1, List.drop_left' (by rw [flat_len GE.cells 3 GE.cells_len, List.length_take]; omega)]
  · rw [(List.drop_eq_nil_of_le (by omega) : es.drop k = []), (List.drop_eq_nil_of_le (by rw [flat_len GE.cells 3 GE.cells_len]; omega) : (es.flatMap GE.cells).drop (k * 3) = [])]
    rfl
theorem flat_take (es : List GE) (k : Nat) : (es.take k).flatMap GE.cells = (es.flatMap GE.cells).take (k * 3) := by
  have h1 := List.flatMap_append (f := GE.cells) (xs := es.take k) (ys := es.drop k)
  rw [List.take_append_drop] at h1
  by_cases hk : k ≤ es.length
  · rw [h1, List.take_left' (by rw [flat_len GE.cells 3 GE.cells_len, List.length_take]; omega)]
  · rw [List.take_of_length_le (l := es) (by omega), List.take_of_length_le (l := es.flatMap GE.cells) (by rw [flat_len GE.cells 3 GE.cells_len]; omega)]
/-- A piece of a slice of records reads. -/
theorem SlG.piece {w : World} {P : Option Addr} {n l m : Nat} {es : List GE} (hr : SlG w P n es) (hk : l + m ≤ n) (P' : Option Addr) (hP : ∀ b off, P = some ⟨b, off, none⟩ → 0 < m → P' = some ⟨b, off + l * 3, none⟩) : SlG w P' m ((es.drop l).take m) := by
  have hlen : ((es.drop l).take m).length = m := by rw [List.length_take, List.length_drop, hr.len]; omega
  refine ⟨hlen, by rw [flat_len GE.cells 3 GE.cells_len, hlen], fun hn => ?_⟩
  obtain ⟨b, off, rfl, hb, hcell⟩ := hr.row.lies (by omega)
  refine ⟨b, off + l * 3, hP b off rfl hn, hb, fun j u hu => ?_⟩
  rw [flat_take, flat_drop] at hu
  rw [List.getElem?_take] at hu
  split at hu
  · rw [List.getElem?_drop] at hu
    rw [Nat.add_assoc]
    exact hcell _ u hu
  · cases hu
theorem rec_mid {P : Option Addr} {n c l m : Nat} {es : List GE} {w : World} (hi : Int) (hr : SlG w P n es) (he : hi = (l : Int) + m) (hk : l + m ≤ n) (hc : n ≤ c) :
    ∃ P', (∀ W, (Instr.slice 65 (.slice P n c) (some (.int .i64 (l : Int))) (some (.int .i64 hi)) none).run Tryd.prog W = .ok (.slice P' m (c - l)) W) ∧ SlG w P' m ((es.drop l).take m) := by
  refine ⟨if c = l then P else P.map (·.add (l * 3)), fun W => ?_, hr.piece hk _ (fun b off hb hm => ?_)⟩
  · rw [run_slice_lh W _ _ _ _ recElem .i64 .i64 (l : Int) hi (by omega) (by omega) (by omega), recElem', recSize, Int.toNat_natCast]
    have e : hi.toNat = l + m := by omega
    rw [e]
    show Result.ok (sliced P l (l + m) c 3) W = _
    unfold sliced
    rw [Nat.add_sub_cancel_left]
  · rw [if_neg (by omega), hb]
    simp [rec_add]
end Go.Proofs.YtmbabbapcjphgaaDoor
namespace Go.Proofs.YtmbabbapcjphgaaDoor
open Go.RowKit

theorem less_f {a1 a2 a3 b1 b2 b3 : Int} (h : a1 ≠ b1) : lessR ⟨a1, a2, a3⟩ ⟨b1, b2, b3⟩ = decide (a1 < b1) := by simp [lessR, h]
theorem less_t {a1 a2 a3 b2 b3 : Int} (h : a2 ≠ b2) : lessR ⟨a1, a2, a3⟩ ⟨a1, b2, b3⟩ = decide (a2 < b2) := by simp [lessR, h]
theorem less_w {a1 a2 a3 b3 : Int} : lessR ⟨a1, a2, a3⟩ ⟨a1, a2, b3⟩ = decide (a3 < b3) := by simp [lessR]
/-- No record up to k comes before its predecessor. -/
def upTo (es : List GE) (k : Nat) : Prop := ∀ j, j + 1 < k → ∀ x y, es[j]? = some x → es[j + 1]? = some y → lessR y x = false
/-! ### SortOne -/
theorem le_more {s : List GE} {j : Nat} {x y : GE} (hy : s[j]? = some y) (h : ∀ z ∈ s.take j, lessR x z = false) (h2 : lessR x y = false) : ∀ z ∈ s.take (j + 1), lessR x z = false := by
  intro z hz
  rw [g_take s j y hy] at hz
  rcases List.mem_append.1 hz with hz | hz
  · exact h z hz
  · simp at hz
    subst hz
    exact h2
theorem sortR_step (es : List GE) (k : Nat) (x : GE) (h : es[k]? = some x) : sortR (es.take (k + 1)) = insR x (sortR (es.take k)) := by
  rw [g_take es k x h]
  unfold sortR
  rw [List.foldl_append]
  rfl
theorem sortR_len (es : List GE) : (sortR es).length = es.length := (sortR_perm es).length_eq
theorem sortR_at (es : List GE) (k n : Nat) (hk : k ≤ n) (hl : es.length = n) : (sortR (es.take k)).length = k := by
  rw [sortR_len, List.length_take]; omega

theorem rec_far {w : World} {lo e size n g : Nat} {v : Value} {xs : List Value} (h : w.ownsRow lo e size v n xs) (hg : g < lo) : v.ownBlock = none ∨ v.ownBlock ≠ some g :=
  .inr (fun e => by have := (h.lt g e).1; omega)

end Go.Proofs.YtmbabbapcjphgaaDoor
namespace Go.Proofs.YtmbabbapcjphgaaDoor
open Go.RowKit

theorem bat_map_at {α β : Type} {f : α → β} {xs ys : List α} (h : xs.map f = ys.map f) {k : Nat} {x y : α} (hx : xs[k]? = some x) (hy : ys[k]? = some y) : f x = f y := by
  have := congrArg (fun l => l[k]?) h
  simp only [List.getElem?_map, hx, hy, Option.map_some, Option.some.injEq] at this
  exact this
theorem bat_cap {w : World} {lo e size n c : Nat} {A : Option Addr} {xs : List Value} (h : w.ownsRow lo e size (.slice A n c) n xs) : n ≤ c := by
  rcases h.2 with ⟨h, h0⟩ | ⟨g, cap, cur, h, _, _, h1, _⟩
  · injection h with _ e1 _
    omega
  · injection h with _ _ e3
    omega
/-- Nothing is written but in blocks of S, and new ones. -/
structure OnlyB (S : Nat → Prop) (w w' : World) : Prop where
  os : w'.os = w.os
  tape : w'.tape = w.tape
  output : w'.output = w.output
  size : w.heap.size ≤ w'.heap.size
  block : ∀ k, k < w.heap.size → ¬ S k → w'.heap[k]? = w.heap[k]?
theorem OnlyB.refl (S : Nat → Prop) (w : World) : OnlyB S w w := ⟨rfl, rfl, rfl, Nat.le_refl _, fun _ _ _ => rfl⟩
theorem OnlyB.trans {S : Nat → Prop} {a b c : World} (h : OnlyB S a b) (k : OnlyB S b c) : OnlyB S a c :=
  ⟨k.os.trans h.os, k.tape.trans h.tape, k.output.trans h.output, Nat.le_trans h.size k.size, fun i hi hn => (k.block i (Nat.lt_of_lt_of_le hi h.size) hn).trans (h.block i hi hn)⟩
theorem OnlyB.grown {S : Nat → Prop} {a b c : World} {row : Option Nat} (h : OnlyB S a b) (k : b.grownBy c row) (hr : ∀ i, row = some i → S i) : OnlyB S a c :=
  h.trans ⟨k.os, k.tape, k.output, k.size, fun i hi hn => k.block i hi (fun e => hn (hr i e.symm))⟩
theorem OnlyB.below {S : Nat → Prop} {a b c : World} (h : OnlyB S a b) (k : Below b.heap.size b c) : OnlyB S a c :=
  h.trans ⟨k.os, k.tape, k.output, k.size, fun i hi _ => k.block i hi⟩
theorem OnlyB.mono {S T : Nat → Prop} {a b : World} (h : OnlyB S a b) (hs : ∀ i, S i → T i) : OnlyB T a b :=
  ⟨h.os, h.tape, h.output, h.size, fun i hi hn => h.block i hi (fun e => hn (hs i e))⟩
theorem OnlyB.toBelow {S : Nat → Prop} {B : Nat} {w w' : World} (h : OnlyB S w w') (hB : B ≤ w.heap.size) (hs : ∀ k, S k → B ≤ k) : Below B w w' :=
  ⟨h.os, h.tape, h.output, h.size, fun k hk => h.block k (by omega) (fun e => by have := hs k e; omega)⟩
theorem OnlyB.own {S : Nat → Prop} {w w' : World} {lo e size n : Nat} {v : Value} {xs : List Value} (h : w.ownsRow lo e size v n xs) (k : OnlyB S w w') (hs : ∀ g, v.ownBlock = some g → ¬ S g) : w'.ownsRow lo e size v n xs := by
  refine ⟨h.1, ?_⟩
  rcases h.2 with hn | ⟨g, cap, cur, rfl, hb, hgg, rest⟩
  · exact .inl hn
  · refine .inr ⟨g, cap, cur, rfl, hb, ?_, rest⟩
    rw [k.block g (Array.getElem?_eq_some_iff.1 hgg).1 (hs g rfl)]
    exact hgg
theorem OnlyB.grown2 {S : Nat → Prop} {a b c : World} {row : Option Nat} (h : OnlyB S a b) (k : b.grownBy c row) (hr : ∀ i, row = some i → S i ∨ a.heap.size ≤ i) : OnlyB S a c :=
  ⟨k.os.trans h.os, k.tape.trans h.tape, k.output.trans h.output, Nat.le_trans h.size k.size, fun i hi hn => (k.block i (Nat.lt_of_lt_of_le hi h.size) (fun e => by
    rcases hr i e.symm with h1 | h1
    · exact hn h1
    · omega)).trans (h.block i hi hn)⟩
theorem bat_block {w : World} {lo e size g n c m : Nat} {xs : List Value} (h : w.ownsRow lo e size (.slice (some ⟨g, 0, none⟩) n c) m xs) : ∃ cur, w.heap[g]? = some (.cells cur e (0, 0)) := by
  rcases h.2 with ⟨h2, _⟩ | ⟨g', cap, cur, e, _, hg, _⟩
  · cases h2
  · injection e with e1 _ _
    injection e1 with e1
    injection e1 with e1
    subst e1
    exact ⟨cur, hg⟩
theorem ne_of_lt {v : Option Nat} {row : Option Nat} {P : Nat → Prop} (h : ∀ k, v = some k → P k) (hr : ∀ k, row = some k → ¬ P k) : v = none ∨ v ≠ row := by
  cases v with
  | none => exact .inl rfl
  | some k => exact .inr (fun e => hr k e.symm (h k rfl))
theorem mem_sum {ls : List Nat} {x : Nat} (h : x ∈ ls) : x ≤ ls.sum := by
  induction ls with
  | nil => cases h
  | cons a r ih =>
    rw [List.sum_cons]
    rcases List.mem_cons.1 h with rfl | h
    · omega
    · have := ih h; omega
end Go.Proofs.YtmbabbapcjphgaaDoor
namespace Go.Proofs.YtmbabbapcjphgaaDoor
open Go.RowKit

def MarkedRc (w : World) (lo k : Nat) (A : Option Addr) (n c : Nat) (es : List GE) (e : Ending) (w' : World) : Prop :=
  e = .returned (.int .i64 ((k + 3 * n : Nat) : Int)) ∧ w'.ownsRow lo 68 3 (.slice A n c) n ((markG k es).flatMap GE.cells) ∧ w.grownBy w' (Value.slice A n c).ownBlock
/-- The same, its number under a name. -/
def Marked3 (w : World) (lo kk : Nat) (A : Option Addr) (n c k : Nat) (es : List GE) (e : Ending) (w' : World) : Prop :=
  e = .returned (.int .i64 (kk : Int)) ∧ w'.ownsRow lo 68 3 (.slice A n c) n ((markG k es).flatMap GE.cells) ∧ w.grownBy w' (Value.slice A n c).ownBlock
theorem MarkedRc.to3 {w : World} {lo k : Nat} {A : Option Addr} {n c : Nat} {es : List GE} {e : Ending} {w' : World} (h : MarkedRc w lo k A n c es e w') : Marked3 w lo (k + 3 * n) A n c k es e w' := h

end Go.Proofs.YtmbabbapcjphgaaDoor
namespace Go.Proofs.YtmbabbapcjphgaaDoor
open Go.RowKit

/-- A batch. -/
structure BE where
  A : Option Addr
  n : Nat
  c : Nat
  es : List GE
def BE.v (e : BE) : Value := .slice e.A e.n e.c
def BE.cells (e : BE) : List Value := [.slice e.A e.n e.c]
theorem BE.cells_len (e : BE) : e.cells.length = 1 := rfl
theorem BE.cells_one (e : BE) : ∀ u ∈ e.cells, u.oneCell' = true := by
  intro u hu
  simp only [BE.cells, List.mem_cons, List.not_mem_nil, or_false] at hu
  subst hu
  rfl
structure BE.Ok (w : World) (e : BE) : Prop where
  rd : SlG w e.A e.n e.es
  cap : e.n ≤ e.c
theorem BE.Ok.below {w w' : World} {e : BE} (h : e.Ok w) (hb : Below w.heap.size w w') : e.Ok w' := ⟨h.rd.below hb, h.cap⟩
/-- A slice of batches in memory. -/
structure SlT (w : World) (A : Option Addr) (n : Nat) (bs : List BE) : Prop where
  len : bs.length = n
  row : Row w 1 A n (bs.flatMap BE.cells)
  each : ∀ e ∈ bs, e.Ok w
def ApartT (a b : BE) : Prop := a.v.ownBlock = none ∨ a.v.ownBlock ≠ b.v.ownBlock
/-- Rows of records of the call's own. -/
structure OwnL (w : World) (lo : Nat) (l : List BE) : Prop where
  own : ∀ d ∈ l, w.ownsRow lo 68 3 d.v d.n (d.es.flatMap GE.cells)
  len : ∀ d ∈ l, d.es.length = d.n
  apart : l.Pairwise ApartT
section
variable {w w' : World} {lo : Nat} {l m : List BE}
theorem OwnL.nil : OwnL w lo [] := ⟨by simp, by simp, List.Pairwise.nil⟩
theorem OwnL.kept {row : Option Nat} (h : OwnL w lo l) (hg : w.grownBy w' row) (hne : ∀ d ∈ l, d.v.ownBlock = none ∨ d.v.ownBlock ≠ row) : OwnL w' lo l :=
  ⟨fun d hd => (h.own d hd).kept hg (hne d hd), h.len, h.apart⟩
theorem OwnL.below (h : OwnL w lo l) (hb : Below w.heap.size w w') : OwnL w' lo l :=
  ⟨fun d hd => own_below (h.own d hd) hb, h.len, h.apart⟩
theorem OwnL.lt (h : OwnL w lo l) {d : BE} (hd : d ∈ l) : ∀ k, d.v.ownBlock = some k → lo ≤ k ∧ k < w.heap.size := (h.own d hd).lt
theorem OwnL.ok (h : OwnL w lo l) : ∀ d ∈ l, d.Ok w := fun d hd => ⟨SlG.of_own (h.own d hd) (h.len d hd), bat_cap (h.own d hd)⟩
theorem OwnL.far (h : OwnL w lo l) {g : Nat} {cur : Array Value} {t : TypeId} {fr : Nat × Nat} (hg : w.heap[g]? = some (.cells cur t fr)) (ht : t ≠ 68) : ∀ d ∈ l, d.v.ownBlock = none ∨ d.v.ownBlock ≠ some g := fun d hd => by
  rcases (h.own d hd).2 with ⟨e, _⟩ | ⟨g', cap, cur', e, _, hg', _⟩
  · exact .inl (by rw [e]; rfl)
  · refine .inr (fun e2 => ?_)
    rw [e] at e2
    have e3 : g' = g := by simpa [Value.ownBlock] using e2
    subst e3
    rw [hg] at hg'
    injection hg' with hg'
    injection hg' with _ h2
    exact ht h2
theorem OwnL.append (h : OwnL w lo l) (k : OwnL w lo m) (hx : ∀ a ∈ l, ∀ b ∈ m, ApartT a b) : OwnL w lo (l ++ m) :=
  ⟨fun d hd => by rcases List.mem_append.1 hd with hd | hd; exact h.own d hd; exact k.own d hd,
   fun d hd => by rcases List.mem_append.1 hd with hd | hd; exact h.len d hd; exact k.len d hd,
   List.pairwise_append.2 ⟨h.apart, k.apart, hx⟩⟩
theorem apartT_of_time {B lo' : Nat} (h : OwnL w lo l) (hB : w.heap.size ≤ B) (k : OwnL w' lo' m) (hB' : B ≤ lo') : ∀ a ∈ l, ∀ b ∈ m, ApartT a b := fun a ha b hb => by
  cases e : a.v.ownBlock with
  | none => exact .inl e
  | some i =>
    refine .inr (fun e2 => ?_)
    rw [e] at e2
    have h1 := h.lt ha i e
    have h2 := k.lt hb i e2.symm
    omega
theorem OwnL.one {d : BE} (h : w.ownsRow lo 68 3 d.v d.n (d.es.flatMap GE.cells)) (hs : d.es.length = d.n) : OwnL w lo [d] :=
  ⟨fun e he => by simp at he; subst he; exact h, fun e he => by simp at he; subst he; exact hs, by simp⟩
theorem OwnL.mono {lo' : Nat} (h : OwnL w lo l) (hl : lo' ≤ lo) : OwnL w lo' l := ⟨fun d hd => own_monoG (h.own d hd) hl, h.len, h.apart⟩
theorem OwnL.setLow (h : OwnL w lo l) {p : Addr} (hp : p.block < lo) (u : Value) : OwnL (w.setCell p u) lo l := ⟨fun d hd => own_lowG (h.own d hd) hp u, h.len, h.apart⟩
theorem OwnL.turn {d : BE} {ys : List GE} (h : OwnL w lo (l ++ d :: m)) (hg : w.grownBy w' d.v.ownBlock) (ho : w'.ownsRow lo 68 3 d.v d.n (ys.flatMap GE.cells)) (hs : ys.length = d.n) :
    OwnL w' lo (l ++ (⟨d.A, d.n, d.c, ys⟩ : BE) :: m) := by
  obtain ⟨a1, a2, a3⟩ := List.pairwise_append.1 h.apart
  obtain ⟨b1, b2⟩ := List.pairwise_cons.1 a2
  have hl : ∀ e ∈ l, w'.ownsRow lo 68 3 e.v e.n (e.es.flatMap GE.cells) := fun e he => (h.own e (List.mem_append_left _ he)).kept hg (a3 e he d (by simp))
  have hm : ∀ e ∈ m, w'.ownsRow lo 68 3 e.v e.n (e.es.flatMap GE.cells) := fun e he => by
    refine (h.own e (List.mem_append_right _ (by simp [he]))).kept hg ?_
    rcases b1 e he with h1 | h1
    · rw [h1]
      cases e.v.ownBlock <;> simp
    · exact .inr (fun e2 => h1 e2.symm)
  refine ⟨fun e he => ?_, fun e he => ?_, List.pairwise_append.2 ⟨a1, List.pairwise_cons.2 ⟨fun e he => b1 e he, b2⟩, fun e he f hf => ?_⟩⟩
  · rcases List.mem_append.1 he with he | he
    · exact hl e he
    · rcases List.mem_cons.1 he with rfl | he
      · exact ho
      · exact hm e he
  · rcases List.mem_append.1 he with he | he
    · exact h.len e (List.mem_append_left _ he)
    · rcases List.mem_cons.1 he with rfl | he
      · exact hs
      · exact h.len e (List.mem_append_right _ (by simp [he]))
  · rcases List.mem_cons.1 hf with rfl | hf
    · exact a3 e he d (by simp)
    · exact a3 e he f (by simp [hf])
end
/-- Batches of the call's own. -/
structure OwnT (w : World) (lo : Nat) (A : Option Addr) (n c : Nat) (bs : List BE) : Prop where
  row : w.ownsRow lo 146 1 (.slice A n c) n (bs.flatMap BE.cells)
  len : bs.length = n
  dat : OwnL w lo bs
section
variable {w w' : World} {n c lo : Nat} {A : Option Addr} {bs : List BE}
theorem SlT.below (h : SlT w A n bs) (hb : Below w.heap.size w w') : SlT w' A n bs := ⟨h.len, h.row.keep hb.size hb.block, fun e he => (h.each e he).below hb⟩
theorem SlT.at_ {j : Nat} (h : SlT w A n bs) (hj : j < n) : ∃ (b off : Nat) (e : BE), A = some ⟨b, off, none⟩ ∧ b < w.heap.size ∧ Hid (bs[j]? = some e) ∧ Hid (e.Ok w) ∧ w.cell? ⟨b, off + j, none⟩ = some (.slice e.A e.n e.c) := by
  obtain ⟨b, off, rfl, hb, hc⟩ := h.row.lies (by omega)
  have hl : j < bs.length := by have := h.len; omega
  have he : bs[j]? = some bs[j] := List.getElem?_eq_getElem hl
  refine ⟨b, off, bs[j], rfl, hb, he, h.each _ (List.getElem_mem hl), ?_⟩
  have h1 := hc (j * 1) _ (flat_get BE.cells 1 BE.cells_len bs j 0 _ he (by omega))
  rwa [Nat.mul_one] at h1
theorem OwnT.sl (h : OwnT w lo A n c bs) : SlT w A n bs := ⟨h.len, Row.of_own h.row, h.dat.ok⟩
theorem OwnT.below (h : OwnT w lo A n c bs) (hb : Below w.heap.size w w') : OwnT w' lo A n c bs := ⟨own_below h.row hb, h.len, h.dat.below hb⟩
theorem OwnT.mono {lo' : Nat} (h : OwnT w lo A n c bs) (hl : lo' ≤ lo) : OwnT w lo' A n c bs := ⟨own_monoG h.row hl, h.len, h.dat.mono hl⟩
/-- Where the blocks that are written were made elsewhere in time. -/
theorem OwnT.kept {row : Option Nat} (h : OwnT w lo A n c bs) (hg : w.grownBy w' row) (hne : ∀ k, row = some k → ¬ (lo ≤ k ∧ k < w.heap.size)) : OwnT w' lo A n c bs := by
  have hx : ∀ {e size m : Nat} {v : Value} {xs : List Value}, w.ownsRow lo e size v m xs → v.ownBlock = none ∨ v.ownBlock ≠ row := fun ho => by
    rename_i v _
    cases hv : v.ownBlock with
    | none => exact .inl rfl
    | some k => exact .inr (fun e => hne k e.symm (ho.lt k hv))
  exact ⟨h.row.kept hg (hx h.row), h.len, h.dat.kept hg (fun d hd => hx (h.dat.own d hd))⟩
end
theorem OwnL.grow {w w' : World} {lo lo' e size n : Nat} {l : List BE} {v : Value} {xs : List Value} (h : OwnL w lo l) (hv : w.ownsRow lo' e size v n xs) (hne : e ≠ 68) (hg : w.grownBy w' v.ownBlock) : OwnL w' lo l := by
  rcases hv.2 with ⟨rfl, _⟩ | ⟨g, cap, cur, rfl, _, hcell, _⟩
  · exact h.kept hg (fun d _ => by cases d.v.ownBlock <;> simp [Value.ownBlock])
  · exact h.kept hg (h.far hcell hne)
theorem Tryd.infoBatch : (Tryd.prog.info? 146).map (fun i => (i.zero, i.size, i.bytes)) = some (some (.agg #[.slice none 0 0]), 1, 24) := by kernel_rfl
theorem bat_built (w : World) : (w.alloc (.cells #[] 146)).ownsRow w.heap.size 146 1 (.slice (some ⟨w.heap.size, 0, none⟩) 0 0) 0 [] :=
  World.ownsRow_lit w #[] 0 (Nat.le_refl _) (by unfold maxLen; omega) rfl
theorem bat_reads (w : World) (e : BE) (t : TypeId) (g : Nat) (hg : g = w.heap.size) : Reads (w.alloc (.cells #[.slice e.A e.n e.c] t)) (g + 1) 1 (some ⟨g, 0, none⟩) 1 (BE.cells e) := by
  subst hg
  refine ⟨rfl, fun _ => ⟨_, rfl, by simp, fun j x hj => ?_⟩⟩
  match j, hj with
  | 0, hj => simp [BE.cells] at hj; subst hj; simp [Addr.add]
/-- New batches with these records. -/
def MadeT (w : World) (ls : List (List GE)) (e : Ending) (w' : World) : Prop :=
  ∃ A n c bs, e = .returned (.slice A n c) ∧ OwnT w' w.heap.size A n c bs ∧ bs.map BE.es = ls ∧ Below w.heap.size w w'
end Go.Proofs.YtmbabbapcjphgaaDoor
namespace Go.Proofs.YtmbabbapcjphgaaDoor

/-- The first of the least heads, with its place; 'b': the best so far. -/
def bestFrom : Nat → Option (Nat × GE) → List (List GE) → Option (Nat × GE)
  | _, b, [] => b
  | i, b, [] :: r => bestFrom (i + 1) b r
  | i, none, (x :: _) :: r => bestFrom (i + 1) (some (i, x)) r
  | i, some (j, y), (x :: _) :: r => bestFrom (i + 1) (if lessR x y then some (i, x) else some (j, y)) r
def bestR (rs : List (List GE)) : Option (Nat × GE) := bestFrom 0 none rs
def mergeR : Nat → List (List GE) → List GE
  | 0, _ => []
  | n + 1, rs => match bestR rs with
    | none => []
    | some (i, x) => x :: mergeR n (rs.modify i List.tail)
def totalR (rs : List (List GE)) : Nat := (rs.map List.length).sum
theorem bestFrom_none : ∀ (rs : List (List GE)) (i : Nat) (b : Option (Nat × GE)), bestFrom i b rs = none → b = none ∧ ∀ l ∈ rs, l = []
  | [], _, b, h => by simp only [bestFrom] at h; exact ⟨h, by simp⟩
  | [] :: r, i, b, h => by
    rw [bestFrom] at h
    obtain ⟨h1, h2⟩ := bestFrom_none r _ _ h
    exact ⟨h1, fun l hl => (List.mem_cons.1 hl).elim id (h2 l)⟩
  | (x :: t) :: r, i, none, h => by
    rw [bestFrom] at h
    cases (bestFrom_none r _ _ h).1
  | (x :: t) :: r, i, some (j, y), h => by
    rw [bestFrom] at h
    have := (bestFrom_none r _ _ h).1
    split at this <;> cases this
theorem bestFrom_some : ∀ (rs : List (List GE)) (i : Nat) (b : Option (Nat × GE)) (j : Nat) (x : GE), bestFrom i b rs = some (j, x) →
    (b = some (j, x) ∨ ∃ k t, j = i + k ∧ rs[k]? = some (x :: t)) ∧ (∀ j' y, b = some (j', y) → leR x y) ∧ ∀ l ∈ rs, ∀ y t, l = y :: t → leR x y
  | [], _, b, j, x, h => by
    simp only [bestFrom] at h
    exact ⟨.inl h, fun j' y e => by rw [h] at e; injection e with e; injection e with _ e; subst e; exact leR_refl _, by simp⟩
  | [] :: r, i, b, j, x, h => by
    rw [bestFrom] at h
    obtain ⟨h1, h2, h3⟩ := bestFrom_some r _ _ _ _ h
    refine ⟨h1.elim .inl (fun ⟨k, t, e, g⟩ => .inr ⟨k + 1, t, by omega, by simpa using g⟩), h2, fun l hl y t e => ?_⟩
    rcases List.mem_cons.1 hl with rfl | hl
    · cases e
    · exact h3 l hl y t e
  | (z :: t) :: r, i, none, j, x, h => by
    rw [bestFrom] at h
    obtain ⟨h1, h2, h3⟩ := bestFrom_some r _ _ _ _ h
    have hz : leR x z := h2 i z rfl
    refine ⟨.inr ?_, fun _ _ e => (by cases e), fun l hl y s e => ?_⟩
    · rcases h1 with e | ⟨k, s, e, g⟩
      · injection e with e
        injection e with e1 e2
        exact ⟨0, t, by omega, by rw [← e2]; rfl⟩
      · exact ⟨k + 1, s, by omega, by simpa using g⟩
    · rcases List.mem_cons.1 hl with rfl | hl
      · injection e with e1 _
        rw [← e1]; exact hz
      · exact h3 l hl y s e
  | (z :: t) :: r, i, some (q, y), j, x, h => by
    rw [bestFrom] at h
    obtain ⟨h1, h2, h3⟩ := bestFrom_some r _ _ _ _ h
    by_cases hl : lessR z y = true
    · rw [if_pos hl] at h1 h2
      have hz : leR x z := h2 i z rfl
      have hzy := leR_of_less hl
      refine ⟨.inr ?_, fun j' y' e => ?_, fun l hl' y' s e => ?_⟩
      · rcases h1 with e | ⟨k, s, e, g⟩
        · injection e with e
          injection e with e1 e2
          exact ⟨0, t, by omega, by rw [← e2]; rfl⟩
        · exact ⟨k + 1, s, by omega, by simpa using g⟩
      · injection e with e
        injection e with _ e
        rw [← e]; exact leR_trans hz hzy
      · rcases List.mem_cons.1 hl' with rfl | hl'
        · injection e with e1 _
          rw [← e1]; exact hz
        · exact h3 l hl' y' s e
    · rw [if_neg hl] at h1 h2
      have hy : leR x y := h2 q y rfl
      have hyz : leR y z := by unfold leR; simpa using hl
      refine ⟨h1.elim .inl (fun ⟨k, s, e, g⟩ => .inr ⟨k + 1, s, by omega, by simpa using g⟩), fun j' y' e => ?_, fun l hl' y' s e => ?_⟩
      · injection e with e
        injection e with _ e
        rw [← e]; exact hy
      · rcases List.mem_cons.1 hl' with rfl | hl'
        · injection e with e1 _
          rw [← e1]; exact leR_trans hy hyz
        · exact h3 l hl' y' s e
theorem bestR_some {rs : List (List GE)} {i : Nat} {x : GE} (h : bestR rs = some (i, x)) : ∃ t, rs[i]? = some (x :: t) ∧ ∀ l ∈ rs, ∀ y s, l = y :: s → leR x y := by
  obtain ⟨h1, _, h3⟩ := bestFrom_some rs 0 none i x h
  rcases h1 with e | ⟨k, t, e, g⟩
  · cases e
  · rw [Nat.zero_add] at e
    subst e
    exact ⟨t, g, h3⟩
theorem flat_modify : ∀ (rs : List (List GE)) (i : Nat) (x : GE) (t : List GE), rs[i]? = some (x :: t) → rs.flatten.Perm (x :: (rs.modify i List.tail).flatten)
  | [], _, _, _, h => by simp at h
  | l :: r, 0, x, t, h => by
    simp at h
    subst h
    simp
  | l :: r, i + 1, x, t, h => by
    have ih := flat_modify r i x t (by simpa using h)
    simp only [List.flatten_cons, List.modify_succ_cons]
    exact (ih.append_left l).trans List.perm_middle
theorem total_flat (rs : List (List GE)) : totalR rs = rs.flatten.length := by
  unfold totalR
  rw [List.length_flatten]
theorem merge_perm : ∀ (n : Nat) (rs : List (List GE)), totalR rs ≤ n → (mergeR n rs).Perm rs.flatten
  | 0, rs, h => by
    have : rs.flatten = [] := List.eq_nil_of_length_eq_zero (by rw [← total_flat]; omega)
    rw [this]
    exact List.Perm.refl _
  | n + 1, rs, h => by
    rw [mergeR]
    cases hb : bestR rs with
    | none =>
      have h2 := (bestFrom_none rs 0 none hb).2
      have : rs.flatten = [] := List.flatten_eq_nil_iff.2 h2
      rw [this]
    | some p =>
      obtain ⟨i, x⟩ := p
      obtain ⟨t, ht, _⟩ := bestR_some hb
      have hp := flat_modify rs i x t ht
      refine ((merge_perm n _ ?_).cons x).trans hp.symm
      have := hp.length_eq
      rw [List.length_cons] at this
      rw [total_flat] at h ⊢
      omega
theorem merge_sorted : ∀ (n : Nat) (rs : List (List GE)), totalR rs ≤ n → (∀ l ∈ rs, SortedR l) → SortedR (mergeR n rs)
  | 0, _, _, _ => by simp [mergeR, SortedR]
  | n + 1, rs, h, hs => by
    rw [mergeR]
    cases hb : bestR rs with
    | none => simp [SortedR]
    | some p =>
      obtain ⟨i, x⟩ := p
      obtain ⟨t, ht, hmin⟩ := bestR_some hb
      have hp := flat_modify rs i x t ht
      have hlen := hp.length_eq
      rw [List.length_cons] at hlen
      have htot : totalR (rs.modify i List.tail) ≤ n := by rw [total_flat] at h ⊢; omega
      have hs2 : ∀ l ∈ rs.modify i List.tail, SortedR l := by
        intro l hl
        obtain ⟨k, hk⟩ := List.mem_iff_getElem?.1 hl
        rw [List.getElem?_modify] at hk
        cases hq : rs[k]? with
        | none => rw [hq] at hk; simp at hk
        | some m =>
          rw [hq] at hk
          have hm := hs m (List.mem_of_getElem? hq)
          simp only [Option.map_eq_map, Option.map_some, Option.some.injEq] at hk
          split at hk
          · rw [← hk]; unfold SortedR at hm ⊢; exact hm.tail
          · rw [← hk]; exact hm
      show SortedR (x :: mergeR n (rs.modify i List.tail))
      unfold SortedR
      rw [List.pairwise_cons]
      refine ⟨fun z hz => ?_, merge_sorted n _ htot hs2⟩
      have hz2 : z ∈ rs.flatten := hp.mem_iff.2 (List.mem_cons_of_mem _ ((merge_perm n _ htot).mem_iff.1 hz))
      obtain ⟨l, hl, hzl⟩ := List.mem_flatten.1 hz2
      cases l with
      | nil => simp at hzl
      | cons y s =>
        have h1 := hmin _ hl y s rfl
        rcases List.mem_cons.1 hzl with rfl | hzl
        · exact h1
        · have h2 := hs _ hl
          unfold SortedR at h2
          exact leR_trans h1 ((List.pairwise_cons.1 h2).1 z hzl)
/-- Merging lists that are sorted is sorting. -/
theorem merge_is {n : Nat} {rs : List (List GE)} {l : List GE} (h : totalR rs ≤ n) (hs : ∀ m ∈ rs, SortedR m) (hp : rs.flatten.Perm l) : mergeR n rs = sortR l :=
  sorted_is (merge_sorted n rs h hs) ((merge_perm n rs h).trans hp)
/-! ### batches -/
theorem chunks_flat (k : Nat) (hk : 0 < k) : ∀ (n : Nat) (l : List GE), l.length ≤ n → (chunks k n l).flatten = l
  | 0, l, h => by
    obtain rfl : l = [] := List.eq_nil_of_length_eq_zero (by omega)
    rfl
  | n + 1, l, h => by
    rw [chunks]
    split
    · rename_i e
      rw [e]; rfl
    · rename_i e
      have hl : 0 < l.length := List.length_pos_iff.2 e
      rw [List.flatten_cons, chunks_flat k hk n _ (by rw [List.length_drop]; omega), List.take_append_drop]
def batchesR (k : Nat) (l : List GE) : List (List GE) := (chunks k l.length l).map sortR
theorem flat_sort : ∀ (bs : List (List GE)), (bs.map sortR).flatten.Perm bs.flatten
  | [] => List.Perm.refl _
  | b :: r => by
    rw [List.map_cons, List.flatten_cons, List.flatten_cons]
    exact (sortR_perm b).append (flat_sort r)
/-- Sorting in batches and merging is sorting at once. -/
theorem sortAll_is {k n : Nat} (hk : 0 < k) {l : List GE} (hn : l.length ≤ n) : mergeR n (batchesR k l) = sortR l := by
  have hp : (batchesR k l).flatten.Perm l := by
    have := flat_sort (chunks k l.length l)
    rw [chunks_flat k hk _ l (Nat.le_refl _)] at this
    exact this
  refine merge_is (by rw [total_flat, hp.length_eq]; exact hn) (fun m hm => ?_) hp
  obtain ⟨b, _, rfl⟩ := List.mem_map.1 hm
  exact sortR_sorted b
end Go.Proofs.YtmbabbapcjphgaaDoor
namespace Go.Proofs.YtmbabbapcjphgaaDoor

inductive Tr where
  | leaf (es : List GE)
  | pair (l : Tr) (hl : Option GE) (r : Tr) (hr : Option GE)
/-- Is the right side's first record given out? -/
def goR : Option GE → Option GE → Bool
  | none, _ => true
  | some _, none => false
  | some x, some y => lessR y x
def Tr.next : Tr → Option GE × Tr
  | .leaf [] => (none, .leaf [])
  | .leaf (e :: r) => (some e, .leaf r)
  | .pair l hl r hr => if goR hl hr then (hr, .pair l hl r.next.2 r.next.1) else (hl, .pair l.next.2 l.next.1 r hr)
/-- A first record has been drawn out of what stood for the lists rs. -/
def Drawn (R : List (List GE) → Prop) (h : Option GE) (rs : List (List GE)) : Prop :=
  match bestR rs with
  | none => h = none ∧ R rs
  | some (i, x) => h = some x ∧ R (rs.modify i List.tail)
def Rep : Tr → List (List GE) → Prop
  | .leaf es, rs => rs = [es]
  | .pair l hl r hr, rs => ∃ a b, rs = a ++ b ∧ Drawn (Rep l) hl a ∧ Drawn (Rep r) hr b
theorem bestFrom_append : ∀ (u v : List (List GE)) (i : Nat) (b : Option (Nat × GE)), bestFrom i b (u ++ v) = bestFrom (i + u.length) (bestFrom i b u) v
  | [], v, i, b => by simp [bestFrom]
  | [] :: r, v, i, b => by
    rw [List.cons_append, bestFrom, bestFrom_append r v, bestFrom, List.length_cons]
    congr 1; omega
  | (x :: t) :: r, v, i, none => by
    rw [List.cons_append, bestFrom, bestFrom_append r v, bestFrom, List.length_cons]
    congr 1; omega
  | (x :: t) :: r, v, i, some (j, y) => by
    rw [List.cons_append, bestFrom, bestFrom_append r v, bestFrom, List.length_cons]
    congr 1; omega
def shiftB (d : Nat) (p : Nat × GE) : Nat × GE := (d + p.1, p.2)
theorem bestFrom_shift (d : Nat) : ∀ (v : List (List GE)) (i : Nat) (b : Option (Nat × GE)), bestFrom (d + i) (b.map (shiftB d)) v = (bestFrom i b v).map (shiftB d)
  | [], i, b => by simp [bestFrom]
  | [] :: r, i, b => by rw [bestFrom, bestFrom, ← bestFrom_shift d r (i + 1) b, Nat.add_assoc]
  | (x :: t) :: r, i, none => by
    have := bestFrom_shift d r (i + 1) (some (i, x))
    rw [bestFrom, ← this]
    rfl
  | (x :: t) :: r, i, some (j, y) => by
    have := bestFrom_shift d r (i + 1) (if lessR x y then some (i, x) else some (j, y))
    rw [bestFrom, ← this, Option.map_some, shiftB, bestFrom]
    congr 1
    split <;> rfl
theorem bestFrom_from : ∀ (v : List (List GE)) (k i : Nat) (x : GE), bestFrom k (some (i, x)) v = match bestFrom k none v with
    | none => some (i, x)
    | some (j, y) => if lessR y x then some (j, y) else some (i, x)
  | [], k, i, x => by simp [bestFrom]
  | [] :: r, k, i, x => by rw [bestFrom, bestFrom_from r]; rfl
  | (z :: t) :: r, k, i, x => by
    rw [bestFrom, bestFrom, bestFrom_from r (k + 1) k z]
    by_cases h1 : lessR z x = true
    · rw [if_pos h1, bestFrom_from r (k + 1) k z]
      cases bestFrom (k + 1) none r with
      | none => simp [h1]
      | some p =>
        obtain ⟨j, y⟩ := p
        simp only
        by_cases h2 : lessR y z = true
        · have h3 : lessR y x = true := by rw [lessR_iff] at *; omega
          rw [if_pos h2]; simp [h3]
        · rw [if_neg h2]; simp [h1]
    · rw [if_neg h1, bestFrom_from r (k + 1) i x]
      cases bestFrom (k + 1) none r with
      | none => simp [h1]
      | some p =>
        obtain ⟨j, y⟩ := p
        simp only
        by_cases h2 : lessR y z = true
        · rw [if_pos h2]
        · have h3 : ¬ lessR y x = true := by
            have a1 : lessR z x = false := by simpa using h1
            have a2 : lessR y z = false := by simpa using h2
            rw [lessR_no] at a1 a2
            rw [lessR_iff]
            omega
          rw [if_neg h2]; simp [h1, h3]
theorem bestR_append (a b : List (List GE)) : bestR (a ++ b) = match bestR a, bestR b with
    | none, q => q.map (shiftB a.length)
    | some p, none => some p
    | some (i, x), some (j, y) => if lessR y x then some (a.length + j, y) else some (i, x) := by
  unfold bestR
  rw [bestFrom_append, Nat.zero_add]
  have hs := bestFrom_shift a.length b 0 none
  rw [Nat.add_zero, Option.map_none] at hs
  cases ha : bestFrom 0 none a with
  | none => rw [hs]
  | some p =>
    obtain ⟨i, x⟩ := p
    rw [bestFrom_from, hs]
    cases hb : bestFrom 0 none b with
    | none => rfl
    | some q =>
      obtain ⟨j, y⟩ := q
      rfl
theorem modify_left {α : Type} (f : α → α) : ∀ (a b : List α) (i : Nat), i < a.length → (a ++ b).modify i f = a.modify i f ++ b
  | [], _, _, h => by simp at h
  | x :: r, b, 0, _ => by simp
  | x :: r, b, i + 1, h => by
    rw [List.cons_append, List.modify_succ_cons, modify_left f r b i (by simpa using h), List.modify_succ_cons, List.cons_append]
theorem modify_right {α : Type} (f : α → α) : ∀ (a b : List α) (j : Nat), (a ++ b).modify (a.length + j) f = a ++ b.modify j f
  | [], b, j => by simp
  | x :: r, b, j => by
    rw [List.cons_append, List.length_cons, show r.length + 1 + j = (r.length + j) + 1 by omega, List.modify_succ_cons, modify_right f r b j, List.cons_append]
theorem bestR_lt {rs : List (List GE)} {i : Nat} {x : GE} (h : bestR rs = some (i, x)) : i < rs.length := by
  obtain ⟨t, ht, _⟩ := bestR_some h
  exact (List.getElem?_eq_some_iff.1 ht).1
theorem drawn_of_none {R : List (List GE) → Prop} {h : Option GE} {rs : List (List GE)} (hb : bestR rs = none) (h1 : h = none) (h2 : R rs) : Drawn R h rs := by
  unfold Drawn
  rw [hb]
  exact ⟨h1, h2⟩
theorem drawn_of_some {R : List (List GE) → Prop} {h : Option GE} {rs : List (List GE)} {i : Nat} {x : GE} (hb : bestR rs = some (i, x)) (h1 : h = some x) (h2 : R (rs.modify i List.tail)) : Drawn R h rs := by
  unfold Drawn
  rw [hb]
  exact ⟨h1, h2⟩
theorem next_drawn : ∀ (t : Tr) (rs : List (List GE)), Rep t rs → Drawn (Rep t.next.2) t.next.1 rs
  | .leaf [], rs, h => by
    simp only [Rep] at h
    subst h
    exact ⟨rfl, rfl⟩
  | .leaf (e :: r), rs, h => by
    simp only [Rep] at h
    subst h
    exact ⟨rfl, rfl⟩
  | .pair l hl r hr, rs, h => by
    obtain ⟨a, b, rfl, ha, hb⟩ := h
    have ha0 := ha
    have hb0 := hb
    have hap := bestR_append a b
    unfold Drawn at ha hb
    cases ea : bestR a with
    | none =>
      rw [ea] at ha hap
      obtain ⟨rfl, ha⟩ := ha
      have hn : (Tr.pair l none r hr).next = (hr, .pair l none r.next.2 r.next.1) := by rw [Tr.next, if_pos (by rfl)]
      rw [hn]
      cases eb : bestR b with
      | none =>
        rw [eb] at hb hap
        exact drawn_of_none hap hb.1 ⟨a, b, rfl, ha0, next_drawn r b hb.2⟩
      | some q =>
        obtain ⟨j, y⟩ := q
        rw [eb] at hb hap
        exact drawn_of_some (i := a.length + j) (x := y) hap hb.1 ⟨a, b.modify j List.tail, modify_right _ _ _ _, ha0, next_drawn r _ hb.2⟩
    | some p =>
      obtain ⟨i, x⟩ := p
      rw [ea] at ha hap
      obtain ⟨rfl, ha⟩ := ha
      have hi := bestR_lt ea
      cases eb : bestR b with
      | none =>
        rw [eb] at hb hap
        obtain ⟨rfl, hb⟩ := hb
        have hn : (Tr.pair l (some x) r none).next = (some x, .pair l.next.2 l.next.1 r none) := by rw [Tr.next, if_neg (by simp [goR])]
        rw [hn]
        exact drawn_of_some hap rfl ⟨a.modify i List.tail, b, modify_left _ _ _ _ hi, next_drawn l _ ha, hb0⟩
      | some q =>
        obtain ⟨j, y⟩ := q
        rw [eb] at hb hap
        obtain ⟨rfl, hb⟩ := hb
        cases hlt : lessR y x with
        | true =>
          have hn : (Tr.pair l (some x) r (some y)).next = (some y, .pair l (some x) r.next.2 r.next.1) := by rw [Tr.next, if_pos (by simp [goR, hlt])]
          rw [hn]
          simp only [hlt, if_true] at hap
          exact drawn_of_some (i := a.length + j) hap rfl ⟨a, b.modify j List.tail, modify_right _ _ _ _, ha0, next_drawn r _ hb⟩
        | false =>
          have hn : (Tr.pair l (some x) r (some y)).next = (some x, .pair l.next.2 l.next.1 r (some y)) := by rw [Tr.next, if_neg (by simp [goR, hlt])]
          rw [hn]
          simp only [hlt, Bool.false_eq_true, if_false] at hap
          exact drawn_of_some hap rfl ⟨a.modify i List.tail, b, modify_left _ _ _ _ hi, next_drawn l _ ha, hb0⟩
/-- Two trees under a new pair. -/
theorem pair_rep {l r : Tr} {a b : List (List GE)} (hl : Rep l a) (hr : Rep r b) : Rep (.pair l.next.2 l.next.1 r.next.2 r.next.1) (a ++ b) :=
  ⟨a, b, rfl, next_drawn l a hl, next_drawn r b hr⟩

/-! ### merging to the end -/
def mergeAll (rs : List (List GE)) : List GE := mergeR (totalR rs) rs
theorem total_step {rs : List (List GE)} {i : Nat} {x : GE} (h : bestR rs = some (i, x)) : totalR rs = totalR (rs.modify i List.tail) + 1 := by
  obtain ⟨t, ht, _⟩ := bestR_some h
  have hp := (flat_modify rs i x t ht).length_eq
  rw [total_flat, total_flat, hp, List.length_cons]
theorem merge_none {rs : List (List GE)} (h : bestR rs = none) : mergeAll rs = [] := by
  unfold mergeAll
  cases hn : totalR rs with
  | zero => rfl
  | succ n => rw [mergeR, h]
theorem merge_step {rs : List (List GE)} {i : Nat} {x : GE} (h : bestR rs = some (i, x)) : mergeAll rs = x :: mergeAll (rs.modify i List.tail) := by
  unfold mergeAll
  rw [total_step h, mergeR, h]
theorem mergeAll_len (rs : List (List GE)) : (mergeAll rs).length = totalR rs := by
  rw [total_flat]
  exact (merge_perm _ rs (Nat.le_refl _)).length_eq
theorem mergeAll_sort {k : Nat} (hk : 0 < k) (l : List GE) : mergeAll (batchesR k l) = sortR l := by
  have h := sortAll_is (k := k) (n := totalR (batchesR k l)) hk (l := l) (by
    rw [total_flat]
    have := flat_sort (chunks k l.length l)
    rw [chunks_flat k hk _ l (Nat.le_refl _)] at this
    exact Nat.le_of_eq this.length_eq.symm)
  exact h
end Go.Proofs.YtmbabbapcjphgaaDoor
namespace Go.Proofs.YtmbabbapcjphgaaDoor

theorem chunks_fuel (k : Nat) (hk : 0 < k) : ∀ (n m : Nat) (l : List GE), l.length ≤ n → l.length ≤ m → chunks k n l = chunks k m l
  | 0, 0, _, _, _ => rfl
  | 0, m + 1, l, h, _ => by
    obtain rfl : l = [] := List.eq_nil_of_length_eq_zero (by omega)
    simp [chunks]
  | n + 1, 0, l, _, h => by
    obtain rfl : l = [] := List.eq_nil_of_length_eq_zero (by omega)
    simp [chunks]
  | n + 1, m + 1, l, h1, h2 => by
    rw [chunks, chunks]
    split
    · rfl
    · rename_i hl
      have : 0 < l.length := List.length_pos_iff.2 hl
      rw [chunks_fuel k hk n m (l.drop k) (by rw [List.length_drop]; omega) (by rw [List.length_drop]; omega)]
theorem batchesR_nil (k : Nat) : batchesR k [] = [] := by simp [batchesR, chunks]
theorem batchesR_step {k : Nat} (hk : 0 < k) {l : List GE} (h : 0 < l.length) : batchesR k l = sortR (l.take k) :: batchesR k (l.drop k) := by
  obtain ⟨n, hn⟩ : ∃ n, l.length = n + 1 := ⟨l.length - 1, by omega⟩
  unfold batchesR
  rw [hn, chunks, if_neg (by intro e; rw [e] at h; simp at h), List.map_cons, chunks_fuel k hk n (l.drop k).length (l.drop k) (by rw [List.length_drop]; omega) (Nat.le_refl _)]
def batchesZ (b : Int) (l : List GE) : List (List GE) := if b < 1 then [] else batchesR b.toNat l
theorem batchesZ_no {b : Int} {l : List GE} (h : b < 1) : batchesZ b l = [] := if_pos h
theorem batchesZ_yes {b : Int} {l : List GE} (h : 1 ≤ b) : batchesZ b l = batchesR b.toNat l := if_neg (by omega)
theorem batches_more {b p q : Nat} (hb : 0 < b) {l : List GE} (hp : p < l.length) (hq : q = b ∨ (l.length - p ≤ b ∧ q = l.length - p)) : batchesR b (l.drop p) = sortR ((l.drop p).take q) :: batchesR b (l.drop (p + q)) := by
  rw [batchesR_step hb (by rw [List.length_drop]; omega), List.drop_drop]
  rcases hq with rfl | ⟨h1, rfl⟩
  · rfl
  · rw [List.take_of_length_le (by rw [List.length_drop]; omega), List.take_of_length_le (by rw [List.length_drop]; omega), List.drop_eq_nil_of_le (i := p + b) (by omega), List.drop_eq_nil_of_le (i := p + (l.length - p)) (by omega)]
theorem total_batches {b : Nat} (hb : 0 < b) (l : List GE) : totalR (batchesR b l) = l.length := by
  rw [total_flat]
  have := flat_sort (chunks b l.length l)
  rw [chunks_flat b hb _ l (Nat.le_refl _)] at this
  exact this.length_eq
theorem count_batches {b : Nat} (hb : 0 < b) : ∀ (n : Nat) (l : List GE), l.length ≤ n → (batchesR b l).length ≤ n
  | 0, l, h => by
    obtain rfl : l = [] := List.eq_nil_of_length_eq_zero (by omega)
    simp [batchesR_nil]
  | n + 1, l, h => by
    rcases Nat.eq_zero_or_pos l.length with h0 | h0
    · obtain rfl : l = [] := List.eq_nil_of_length_eq_zero h0
      simp [batchesR_nil]
    · rw [batchesR_step hb h0, List.length_cons]
      have := count_batches hb n (l.drop b) (by rw [List.length_drop]; omega)
      omega
theorem countZ (b : Int) (l : List GE) : (batchesZ b l).length ≤ l.length ∧ totalR (batchesZ b l) ≤ l.length := by
  by_cases h : b < 1
  · rw [batchesZ_no h]; simp [totalR]
  · rw [batchesZ_yes (by omega)]
    exact ⟨count_batches (by omega) _ l (Nat.le_refl _), by rw [total_batches (by omega)]; exact Nat.le_refl _⟩
end Go.Proofs.YtmbabbapcjphgaaDoor
namespace Go.Proofs.YtmbabbapcjphgaaDoor
open Go.RowKit

end Go.Proofs.YtmbabbapcjphgaaDoor
namespace Go.Proofs.YtmbabbapcjphgaaDoor
open Go.RowKit Go.Shelf
attribute [local go_sem] Oper.semAt_some

theorem rec_full {P : Option Addr} {n c l m : Nat} {es : List GE} {w : World} (hi : Int) (hr : SlG w P n es) (he : hi = (l : Int) + m) (hk : l + m ≤ n) (hc : n ≤ c) :
    ∃ P', (∀ W, (Instr.slice 65 (.slice P n c) (some (.int .i64 (l : Int))) (some (.int .i64 hi)) (some (.int .i64 hi))).run Tryd.prog W = .ok (.slice P' m m) W) ∧ SlG w P' m ((es.drop l).take m) := by
  refine ⟨if l + m = l then P else P.map (·.add (l * 3)), fun W => ?_, hr.piece hk _ (fun b off hb hm => ?_)⟩
  · rw [run_slice_lhm W _ _ _ _ recElem .i64 .i64 .i64 (l : Int) hi hi (by omega) (by omega) (by omega) (by omega), recElem', recSize, Int.toNat_natCast]
    have e : hi.toNat = l + m := by omega
    rw [e]
    show Result.ok (sliced P l (l + m) (l + m) 3) W = _
    unfold sliced
    rw [Nat.add_sub_cancel_left]
  · rw [if_neg (by omega), hb]
    simp [rec_add]

/-- A piece that is handed to the loop's body. -/
abbrev PcIn (wa : World) := { e : BE // SlG wa e.A e.n e.es ∧ e.n ≤ 1048576 ∧ 0 < e.n ∧ e.n ≤ e.c }
def piecesOf {wa : World} (ys : List (PcIn wa)) : List (List GE) := ys.map fun x => x.1.es
/-- What the loop's body may write: the caller's own box, and whatever is newer than the iterator's boxes. -/
abbrev KpC (wa w0 : World) : World → World → Prop := OnlyB (fun k => k = wa.heap.size ∨ w0.heap.size ≤ k)
/-- What the iterator reads between two rounds. -/
structure ChIn (wa w0 : World) (B1 B2 : Nat) (A : Option Addr) (n c : Nat) (es : List GE) (b : Nat) : Prop where
  d : SlG wa A n es
  le : n ≤ 1048576
  cap : n ≤ c
  b1 : 1 ≤ b
  b2 : b ≤ 9223372036854775807
  l1 : B1 < w0.heap.size
  l2 : B2 < w0.heap.size
  n1 : B1 ≠ wa.heap.size
  n2 : B2 ≠ wa.heap.size
  c1 : w0.cell? ⟨B1, 0, none⟩ = some (.slice A n c)
  c2 : w0.cell? ⟨B2, 0, none⟩ = some (.int .i64 (b : Int))
theorem OnlyB.cell0 {S : Nat → Prop} {w w' : World} (h : OnlyB S w w') {b : Nat} (hb : b < w.heap.size) (hn : ¬ S b) (i : Nat) : w'.cell? ⟨b, i, none⟩ = w.cell? ⟨b, i, none⟩ := by
  simp only [World.cell?, h.block b hb hn]
theorem OnlyB.drewN {S : Nat → Prop} {w w' : World} (h : OnlyB S w w') (k : Nat) : OnlyB S w (w'.drewN k) :=
  h.grown (row := none) (grownBy_drewN (World.grownBy.refl _ _) k) (fun i e => by cases e)
def chAll (b : Nat) (es : List GE) : List (List GE) := chunks b es.length es
theorem chAll_nil (b : Nat) : chAll b [] = [] := rfl
theorem chAll_step {b : Nat} (hb : 0 < b) {l : List GE} (h : 0 < l.length) : chAll b l = l.take b :: chAll b (l.drop b) := by
  obtain ⟨n, hn⟩ : ∃ n, l.length = n + 1 := ⟨l.length - 1, by omega⟩
  unfold chAll
  rw [hn, chunks, if_neg (by intro e; rw [e] at h; simp at h), chunks_fuel b hb n (l.drop b).length (l.drop b) (by rw [List.length_drop]; omega) (Nat.le_refl _)]
theorem chAll_more {b p q : Nat} (hb : 0 < b) {l : List GE} (hp : p < l.length) (hq : (q = b ∧ p + q ≤ l.length) ∨ (l.length - p ≤ b ∧ q = l.length - p)) : chAll b (l.drop p) = (l.drop p).take q :: chAll b (l.drop (p + b)) := by
  rw [chAll_step hb (by rw [List.length_drop]; omega), List.drop_drop]
  rcases hq with ⟨rfl, _⟩ | ⟨h1, rfl⟩
  · rfl
  · rw [List.take_of_length_le (by rw [List.length_drop]; omega), List.take_of_length_le (by rw [List.length_drop]; omega)]

set_option maxRecDepth 100000 in
set_option maxHeartbeats 4000000 in
theorem chunk1_in (F : Fence) (m : Nat) (hf : F.fn 86) (hro : F.round = none) (hm : 1 ≤ m) (l B1 B2 : Nat) (A : Option Addr) (n c : Nat) (es : List GE) (b : Nat) (wa w0 : World) (hI : ChIn wa w0 B1 B2 A n c es b) (J Jx : List (PcIn wa) → World → Prop) (W : World) (hab : AbidesFrom W.heap.size J)
    (hY : ∀ pre x W, J pre W → pre.length < 1048576 → YieldAt F (m - 1) Tryd.prog l #[.slice x.1.A x.1.n x.1.c] W fun e W' =>
      (e = .returned (.bool true) ∧ J (pre ++ [x]) W' ∧ KpC wa w0 W W') ∨ (e = .returned (.bool false) ∧ Jx (pre ++ [x]) W'))
    (hW : KpC wa w0 w0 W) (h0 : J [] W) :
    CallsIn F m Tryd.prog 86 #[.func (.yield l) #[] #[], .pointer (some ⟨B1, 0, none⟩), .pointer (some ⟨B2, 0, none⟩)] W fun e W' => (∃ v, e = .returned v) ∧
      ((∃ ys, piecesOf ys = chAll b es ∧ J ys W') ∨ (∃ pre, True ∧ Jx pre W')) := by
  have HI := Lib.hid hI
  have hn := hI.le
  have hb1 := hI.b1
  have hb2 := hI.b2
  have hl1 := hI.l1
  have hl2 := hI.l2
  have hn1 := hI.n1
  have hn2 := hI.n2
  clear hI
  rcases F with ⟨Ff, Fd, Fa, Fr⟩
  obtain rfl : Fr = none := hro
  have hmo : Tryd.prog.follows .mixedOrders = true := by kernel_rfl
  refine callsIn_of_wp Tryd.func86 rfl hf ?_ rfl
  simp only [Tryd.ntmps86, List.size_toArray, List.length_cons, List.length_nil, Nat.reduceAdd, Nat.reduceSub, Array.replicate_succ, Array.replicate_zero, List.push_toArray, List.append_toArray, List.nil_append, List.cons_append]
  gi_wp2
  gi_loopw [4] (fun v wr => ∃ (p : Nat) (pre : List (PcIn wa)), v = .int .i64 (p : Int) ∧ (p = 0 ∨ b ≤ p) ∧ p ≤ 9223372036854775807 ∧ (p < n → pre.length ≤ p) ∧ Hid (piecesOf pre ++ chAll b (es.drop p) = chAll b es) ∧ Hid (J pre wr) ∧ Hid (KpC wa w0 w0 wr)) (fun v _ => n - (intOf v).toNat)
  case atStart => exact ⟨0, [], rfl, .inl rfl, by omega, by simp, Lib.hid rfl, Lib.hid h0, Lib.hid hW⟩
  case round =>
    obtain ⟨p, pre, rfl, hpb, hpm, hpl, hall, hJ, hbel⟩ := hrel
    have d1 := (hbel.out.cell0 hl1 (by omega) 0).trans HI.out.c1
    have d2 := (hbel.out.cell0 hl2 (by omega) 0).trans HI.out.c2
    by_cases hlt : p < n
    · have hpl := hpl hlt
      obtain ⟨q, hq⟩ : ∃ q : Nat, q = min b (n - p) := ⟨_, rfl⟩
      have hq0 : 0 < q := by omega
      have hqn : p + q ≤ n := by omega
      have hpi : p + b ≤ 9223372036854775807 := by omega
      have hqq : (q = b ∧ p + q ≤ n) ∨ (n - p ≤ b ∧ q = n - p) := by omega
      obtain ⟨P0, hrun0, _⟩ := rec_from HI.out.d (k := p) (by omega) HI.out.cap
      obtain ⟨P', hrun, hsl⟩ := rec_full (l := p) (m := q) ((p : Int) + (q : Int)) HI.out.d rfl hqn HI.out.cap
      have hmin : (if n - p < b then ((n - p : Nat) : Int) else (b : Int)) = (q : Int) := by split <;> omega
      have HMORE := Lib.hid (chAll_more (b := b) (p := p) (q := q) (by omega) (l := es) (by rw [HI.out.d.len]; exact hlt) (by rw [HI.out.d.len]; exact hqq))
      have HX : SlG wa P' q ((es.drop p).take q) ∧ q ≤ 1048576 ∧ 0 < q ∧ q ≤ q := ⟨hsl, by omega, hq0, Nat.le_refl _⟩
      clear hq hqq hsl
      gi_wp2
      gi_region
      have hJ2 : J pre wr.drew := hab pre wr _ none hJ.out (grownBy_drewN (World.grownBy.refl _ _) 1) (fun r e => by cases e)
      have hk2 : KpC wa w0 w0 wr.drew := hbel.out.drewN 1
      obtain ⟨fn, tmps, assign, body, hy2, hR⟩ := hY pre ⟨⟨P', q, q, (es.drop p).take q⟩, HX⟩ _ hJ2 (by omega)
      gi_wp2
      refine hR.mono ?_
      rintro e W3 (⟨rfl, hJ3, hk3⟩ | ⟨rfl, hJx3⟩)
      · have d2 := ((hk2.trans hk3).cell0 hl2 (by omega) 0).trans HI.out.c2
        gi_wp2
        go_roundw
        case rel => exact ⟨p + b, pre ++ [⟨⟨P', q, q, (es.drop p).take q⟩, HX⟩], by go_num, .inr (by omega), by omega, by simp; omega, Lib.hid (by rw [← hall.out, HMORE.out, piecesOf, piecesOf, List.map_append, List.append_assoc]; rfl), Lib.hid hJ3, Lib.hid (hk2.trans hk3)⟩
        case measure => simp [intOf]; omega
      · gi_wp2
        refine bodyPost_ret (results_none rfl _ _ _) rfl ?_
        exact ⟨⟨_, rfl⟩, .inr ⟨_, trivial, hJx3⟩⟩
    · have HE := Lib.hid (hall.out)
      rw [List.drop_eq_nil_of_le (by rw [HI.out.d.len]; omega), chAll_nil, List.append_nil] at HE
      gi_wp2
      go_end0
      exact ⟨⟨_, rfl⟩, .inl ⟨_, HE.out, hJ.out⟩⟩

theorem chunk_stops (F : Fence) (m : Nat) (hf : F.fn 86) (hro : F.round = none) (hm : 1 ≤ m) (B1 B2 : Nat) (A : Option Addr) (n c : Nat) (es : List GE) (b : Nat) (wa w0 : World) (hI : ChIn wa w0 B1 B2 A n c es b) :
    SeqStopsK F m Tryd.prog 86 #[.pointer (some ⟨B1, 0, none⟩), .pointer (some ⟨B2, 0, none⟩)] (fun x : PcIn wa => #[Value.slice x.1.A x.1.n x.1.c]) (KpC wa w0) (fun ys => piecesOf ys = chAll b es) (fun _ => True) 1048576 w0 := fun l J Jx W hW hJ _ hY h0 =>
  chunk1_in F m hf hro hm l B1 B2 A n c es b wa w0 hI J Jx W hJ hY (OnlyB.below (OnlyB.refl _ _) hW) h0

set_option maxHeartbeats 1000000 in
/-- The records and the size are boxed; the function value captures both boxes. -/
theorem chunk_any (A : Option Addr) (n c b : Nat) (w : World) (hb : 1 ≤ b) :
    Calls Tryd.prog 73 #[.slice A n c, .int .i64 (b : Int)] w fun e w' => e = .returned (.func (.func 86) #[] #[.pointer (some ⟨w.heap.size, 0, none⟩), .pointer (some ⟨w.heap.size + 1, 0, none⟩)]) ∧ w' = (w.alloc (.cells #[.slice A n c] 65)).alloc (.cells #[.int .i64 (b : Int)] 3) := by
  go_enter Tryd.func73, Tryd.ntmps73
  go_wp2
  go_ret
  exact ⟨rfl, rfl⟩
end Go.Proofs.YtmbabbapcjphgaaDoor
namespace Go.Proofs.YtmbabbapcjphgaaDoor
open Go.RowKit

end Go.Proofs.YtmbabbapcjphgaaDoor
namespace Go.Proofs.YtmbabbapcjphgaaDoor
open Go.RowKit

/-! ### marks -/
def markT : Nat → List BE → List BE
  | _, [] => []
  | k, e :: r => ⟨e.A, e.n, e.c, markG k e.es⟩ :: markT (k + 3 * e.n) r
def endT : Nat → List BE → Nat
  | k, [] => k
  | k, e :: r => endT (k + 3 * e.n) r
theorem markT_append : ∀ (xs ys : List BE) (k : Nat), markT k (xs ++ ys) = markT k xs ++ markT (endT k xs) ys
  | [], _, _ => rfl
  | x :: r, ys, k => by simp [markT, endT, markT_append r ys]
theorem endT_append : ∀ (xs ys : List BE) (k : Nat), endT k (xs ++ ys) = endT (endT k xs) ys
  | [], _, _ => rfl
  | x :: r, ys, k => by simp [endT, endT_append r ys]
theorem endT_le : ∀ (xs : List BE) (k : Nat), k ≤ endT k xs
  | [], _ => Nat.le_refl _
  | x :: r, k => by
    have := endT_le r (k + 3 * x.n)
    simp only [endT]
    omega
theorem markT_len : ∀ (xs : List BE) (k : Nat), (markT k xs).length = xs.length
  | [], _ => rfl
  | x :: r, k => by simp [markT, markT_len r]
theorem markT_cells : ∀ (xs : List BE) (k : Nat), (markT k xs).flatMap BE.cells = xs.flatMap BE.cells
  | [], _ => rfl
  | x :: r, k => by simp [markT, markT_cells r, BE.cells]
def sumN (bs : List BE) : Nat := (bs.map BE.n).sum
theorem endT_sum : ∀ (xs : List BE) (k : Nat), endT k xs = k + 3 * sumN xs
  | [], k => by simp [endT, sumN]
  | x :: r, k => by
    rw [endT, endT_sum r]
    simp only [sumN, List.map_cons, List.sum_cons]
    omega
def blkT (bs : List BE) (b : Nat) : Prop := ∃ e ∈ bs, e.v.ownBlock = some b
def MarkedT (w : World) (lo kk k : Nat) (A : Option Addr) (n c : Nat) (bs : List BE) (e : Ending) (w' : World) : Prop :=
  e = .returned (.int .i64 (kk : Int)) ∧ OwnT w' lo A n c (markT k bs) ∧ OnlyB (blkT bs) w w'

end Go.Proofs.YtmbabbapcjphgaaDoor
namespace Go.Proofs.YtmbabbapcjphgaaDoor
open Go.RowKit

section
variable {w w' w0 : World} {n c lo lo0 lo1 : Nat} {A : Option Addr} {bs : List BE}
/-- Where each row lay when the batches were made. -/
theorem OwnT.blocks (h : OwnT w0 lo0 A n c bs) : (∀ k, (Value.slice A n c).ownBlock = some k → lo0 ≤ k ∧ k < w0.heap.size) ∧ ∀ d ∈ bs, ∀ k, d.v.ownBlock = some k → lo0 ≤ k ∧ k < w0.heap.size :=
  ⟨h.row.lt, fun d hd => (h.dat.own d hd).lt⟩
theorem OwnT.other {row : Option Nat} (h : OwnT w lo A n c bs) (h0 : OwnT w0 lo0 A n c bs) (hg : w.grownBy w' row) (hne : ∀ k, row = some k → ¬ (lo0 ≤ k ∧ k < w0.heap.size)) : OwnT w' lo A n c bs :=
  ⟨h.row.kept hg (ne_of_lt h0.blocks.1 hne), h.len, h.dat.kept hg (fun d hd => ne_of_lt (h0.blocks.2 d hd) hne)⟩
theorem OwnT.only {S : Nat → Prop} (h : OwnT w lo A n c bs) (h0 : OwnT w0 lo0 A n c bs) (hg : OnlyB S w w') (hne : ∀ k, S k → ¬ (lo0 ≤ k ∧ k < w0.heap.size)) : OwnT w' lo A n c bs :=
  ⟨hg.own h.row (fun k hk hs => hne k hs (h0.blocks.1 k hk)), h.len, fun d hd => hg.own (h.dat.own d hd) (fun k hk hs => hne k hs (h0.blocks.2 d hd k hk)), h.dat.len, h.dat.apart⟩
theorem OwnT.blk (h : OwnT w lo A n c bs) {k : Nat} (hk : blkT bs k) : lo ≤ k ∧ k < w.heap.size := by
  obtain ⟨d, hd, e⟩ := hk
  exact (h.dat.own d hd).lt k e
theorem total_sum {ls : List (List GE)} (hx : bs.map BE.es = ls) (hl : ∀ d ∈ bs, d.es.length = d.n) : sumN bs = totalR ls := by
  subst hx
  unfold sumN totalR
  rw [List.map_map]
  congr 1
  exact List.map_congr_left (fun d hd => (hl d hd).symm)
structure BatSmall (M n : Nat) (bs : List BE) (ls : List (List GE)) : Prop where
  c : n ≤ M
  e : ∀ d ∈ bs, d.n ≤ M
  s : endT 1 bs ≤ 1 + 3 * M
  q : endT 1 bs = 1 + 3 * totalR ls
  k : n = ls.length
  l : ∀ d ∈ bs, d.es.length = d.n
theorem OwnT.small {M : Nat} {ls : List (List GE)} (h : OwnT w lo A n c bs) (hx : bs.map BE.es = ls) (h1 : ls.length ≤ M) (h2 : totalR ls ≤ M) : BatSmall M n bs ls := by
  have e1 := total_sum hx h.dat.len
  have e2 : n = ls.length := by rw [← h.len, ← hx, List.length_map]
  refine ⟨by omega, fun d hd => ?_, by rw [endT_sum]; omega, by rw [endT_sum, e1], e2, h.dat.len⟩
  have := mem_sum (List.mem_map_of_mem (f := BE.n) hd)
  unfold sumN at e1
  omega
end
theorem batchesZ_len (b : Int) (es : List GE) : (batchesZ b es).length ≤ es.length := by
  by_cases h : b < 1
  · rw [batchesZ_no h]; exact Nat.zero_le _
  · rw [batchesZ_yes (by omega)]
    exact count_batches (by omega) _ es (Nat.le_refl _)
theorem batchesZ_total (b : Int) (es : List GE) : totalR (batchesZ b es) ≤ es.length := by
  by_cases h : b < 1
  · rw [batchesZ_no h]; exact Nat.zero_le _
  · rw [batchesZ_yes (by omega), total_batches (by omega)]
    exact Nat.le_refl _
end Go.Proofs.YtmbabbapcjphgaaDoor
namespace Go.Proofs.YtmbabbapcjphgaaDoor
open Go.RowKit Go.Sort

def cmpI (a b : Int) : Int := if a < b then -1 else if b < a then 1 else 0
def orI : List Int → Int
  | [] => 0
  | x :: r => if x = 0 then orI r else x
def cmpR (x y : GE) : Int := orI [cmpI x.f y.f, cmpI x.t y.t, cmpI x.w y.w]
theorem cmpI_lt (a b : Int) : cmpI a b < 0 ↔ a < b := by unfold cmpI; split <;> (try split) <;> omega
theorem cmpI_eq (a b : Int) : cmpI a b = 0 ↔ a = b := by unfold cmpI; split <;> (try split) <;> omega
theorem cmpR_lt (x y : GE) : cmpR x y < 0 ↔ lessR x y = true := by
  rw [lessR_iff]
  unfold cmpR orI orI orI orI
  have h1 := cmpI_lt x.f y.f
  have h2 := cmpI_lt x.t y.t
  have h3 := cmpI_lt x.w y.w
  have e1 := cmpI_eq x.f y.f
  have e2 := cmpI_eq x.t y.t
  have e3 := cmpI_eq x.w y.w
  split
  · split
    · split <;> omega
    · omega
  · omega
theorem cmpR_less (x y : GE) : decide (cmpR x y < 0) = lessR x y := by
  rw [Bool.eq_iff_iff, decide_eq_true_iff]
  exact cmpR_lt x y

theorem nan_any (a : Int) (w : World) : Calls Tryd.prog 90 #[.int .i64 a] w fun e w' => e = .returned (.bool false) ∧ w' = w := by
  have h : (a != a) = false := by simp
  go_enter Tryd.func90, Tryd.ntmps90
  go_wp2
  go_ret
  exact ⟨by simp, rfl⟩
theorem cmpI_any (a b : Int) (w : World) : Calls Tryd.prog 78 #[.int .i64 a, .int .i64 b] w fun e w' => e = .returned (.int .i64 (cmpI a b)) ∧ w' = w := by
  obtain ⟨r, hr⟩ : ∃ r, cmpI a b = r := ⟨_, rfl⟩
  have HR := Lib.hid hr
  rw [hr]
  clear hr
  by_cases h1 : a < b
  · have hr : r = -1 := by rw [← HR.out]; unfold cmpI; rw [if_pos h1]
    subst hr
    go_enter Tryd.func78, Tryd.ntmps78
    go_wp2_with (go_at_call 90; refine (nan_any _ _).mono ?_; rintro e w' ⟨rfl, rfl⟩)
    go_ret
    exact ⟨rfl, rfl⟩
  · by_cases h2 : b < a
    · have hr : r = 1 := by rw [← HR.out]; unfold cmpI; rw [if_neg h1, if_pos h2]
      subst hr
      go_enter Tryd.func78, Tryd.ntmps78
      go_wp2_with (go_at_call 90; refine (nan_any _ _).mono ?_; rintro e w' ⟨rfl, rfl⟩)
      go_ret
      exact ⟨rfl, rfl⟩
    · have hr : r = 0 := by rw [← HR.out]; unfold cmpI; rw [if_neg h1, if_neg h2]
      subst hr
      go_enter Tryd.func78, Tryd.ntmps78
      go_wp2_with (go_at_call 90; refine (nan_any _ _).mono ?_; rintro e w' ⟨rfl, rfl⟩)
      go_ret
      exact ⟨rfl, rfl⟩

theorem orI_skip {xs : List Int} {k : Nat} (h : xs[k]? = some 0) (e : orI (xs.drop k) = orI xs) : orI (xs.drop (k + 1)) = orI xs := by
  obtain ⟨hk, hx⟩ := List.getElem?_eq_some_iff.1 h
  rw [List.drop_eq_getElem_cons hk, hx, orI, if_pos rfl] at e
  exact e
theorem orI_hit {xs : List Int} {k : Nat} {x : Int} (h : xs[k]? = some x) (h0 : ¬ x = 0) (e : orI (xs.drop k) = orI xs) : orI xs = x := by
  obtain ⟨hk, hx⟩ := List.getElem?_eq_some_iff.1 h
  rw [List.drop_eq_getElem_cons hk, hx, orI, if_neg h0] at e
  exact e.symm
theorem orI_end {xs : List Int} {k : Nat} (h : xs.length ≤ k) (e : orI (xs.drop k) = orI xs) : orI xs = 0 := by
  rw [List.drop_eq_nil_of_le h] at e
  exact e.symm
theorem orI_any (A : Option Addr) (n c : Nat) (xs : List Int) (w : World) (hr : SlI w A n xs) (hn : n ≤ 1000) :
    Calls Tryd.prog 77 #[.slice A n c] w fun e w' => e = .returned (.int .i64 (orI xs)) ∧ w' = w := by
  have HR := Lib.hid hr
  have HL := Lib.hid hr.len
  clear hr
  go_enter Tryd.func77, Tryd.ntmps77
  go_wp2
  go_loop [8] (fun i => ∃ k : Nat, k ≤ n ∧ i = .int .i64 k ∧ Hid (orI (xs.drop k) = orI xs)) (fun i => n - (intOf i).toNat)
  case atStart => exact ⟨0, Nat.zero_le _, rfl, Lib.hid rfl⟩
  case round =>
    obtain ⟨k, hk, rfl, hd⟩ := hrel
    by_cases hlt : k < n
    · obtain ⟨b, off, x, rfl, hbw, he, c0⟩ := HR.out.at_ hlt
      by_cases hx : x = 0
      · subst hx
        have HD := Lib.hid (orI_skip he.out hd.out)
        go_wp2
        go_round
        case rel => exact ⟨k + 1, by omega, by go_num, HD⟩
        case measure => simp [intOf]; omega
      · have HD := Lib.hid (orI_hit he.out hx hd.out)
        have hx1 : (x == 0) = false := by simpa using hx
        have hx2 : (x != 0) = true := by simpa using hx
        go_wp2
        go_ret
        exact ⟨g_int HD.out.symm, rfl⟩
    · have HD := Lib.hid (orI_end (k := k) (by rw [HL.out]; omega) hd.out)
      go_wp2
      go_ret
      exact ⟨g_int HD.out.symm, rfl⟩

theorem three_lies (W : World) (r1 r2 r3 : Int) (t : TypeId) : SlI (W.alloc (.cells #[.int .i64 r1, .int .i64 r2, .int .i64 r3] t)) (some ⟨W.heap.size, 0, none⟩) 3 [r1, r2, r3] := by
  refine ⟨rfl, rfl, fun _ => ⟨_, _, rfl, by simp, fun j v hj => ?_⟩⟩
  match j, hj with
  | 0, hj => simp [vi] at hj; subst hj; simp
  | 1, hj => simp [vi] at hj; subst hj; simp
  | 2, hj => simp [vi] at hj; subst hj; simp

set_option maxRecDepth 100000 in
set_option maxHeartbeats 1000000 in
theorem cmpR_any (x y : GE) (w : World) :
    Calls Tryd.prog 61 #[.agg #[.int .i64 x.f, .int .i64 x.t, .int .i64 x.w], .agg #[.int .i64 y.f, .int .i64 y.t, .int .i64 y.w]] w fun e w' => e = .returned (.int .i64 (cmpR x y)) ∧ ∃ q os, w' = grow (w.drewN q) os := by
  have HC := Lib.hid (fun w' (h : SlI w' (some ⟨w.heap.size + 1 + 1, 0, none⟩) 3 [cmpI x.f y.f, cmpI x.t y.t, cmpI x.w y.w]) => orI_any (some ⟨w.heap.size + 1 + 1, 0, none⟩) 3 3 _ w' h (by omega))
  have HR : Hid (orI [cmpI x.f y.f, cmpI x.t y.t, cmpI x.w y.w] = cmpR x y) := Lib.hid rfl
  have K1 := Lib.hid (fun W => cmpI_any x.f y.f W)
  have K2 := Lib.hid (fun W => cmpI_any x.t y.t W)
  have K3 := Lib.hid (fun W => cmpI_any x.w y.w W)
  generalize cmpI x.f y.f = r1 at *
  generalize cmpI x.t y.t = r2 at *
  generalize cmpI x.w y.w = r3 at *
  go_enter Tryd.func61, Tryd.ntmps61
  go_wp2_with fail
  obtain ⟨W, hW⟩ : ∃ W : World, W = ((w.alloc (.cells #[.int .i64 x.f, .int .i64 x.t, .int .i64 x.w] 68)).alloc (.cells #[.int .i64 y.f, .int .i64 y.t, .int .i64 y.w] 68)).drew := ⟨_, rfl⟩
  have a0 : W.cell? ⟨w.heap.size, 0, none⟩ = some (.int .i64 x.f) := by rw [hW]; simp
  have a1 : W.cell? ⟨w.heap.size, 1, none⟩ = some (.int .i64 x.t) := by rw [hW]; simp
  have a2 : W.cell? ⟨w.heap.size, 2, none⟩ = some (.int .i64 x.w) := by rw [hW]; simp
  have b0 : W.cell? ⟨w.heap.size + 1, 0, none⟩ = some (.int .i64 y.f) := by rw [hW]; simp
  have b1 : W.cell? ⟨w.heap.size + 1, 1, none⟩ = some (.int .i64 y.t) := by rw [hW]; simp
  have b2 : W.cell? ⟨w.heap.size + 1, 2, none⟩ = some (.int .i64 y.w) := by rw [hW]; simp
  have hz : Hid (W.heap.size = w.heap.size + 1 + 1) := Lib.hid (by rw [hW]; simp)
  refine wp_region_still_tail 15 (by kernel_rfl) (by kernel_rfl) ?_
  simp only [List.take_succ_cons, List.take_zero, List.drop_succ_cons, List.drop_zero]
  change wpStill _ _ (World.drew _) _ _ _
  rw [← hW]
  change wpStill _ _ _ (fun a' => wpList _ _ _ _ a' (World.drew _)) _ _
  rw [← hW]
  have HW := Lib.hid hW
  clear hW
  repeat still_step
  still_call (K1.out _)
  repeat still_step
  still_call (K2.out _)
  repeat still_step
  still_call (K3.out _)
  refine wpStill_nil ?_
  rw [← hz.out] at HC
  have HL := Lib.hid (three_lies W r1 r2 r3 3)
  go_wp2_with (go_at_call 77; refine (HC.out _ HL.out).mono ?_; rintro e w' ⟨rfl, rfl⟩)
  go_ret
  refine ⟨g_int HR.out, 1, #[.cells #[.int .i64 x.f, .int .i64 x.t, .int .i64 x.w] 68, .cells #[.int .i64 y.f, .int .i64 y.t, .int .i64 y.w] 68, .cells #[.int .i64 r1, .int .i64 r2, .int .i64 r3] 3], ?_⟩
  rw [HW.out]
  simp only [alloc_eq_grow, drew_grow, grow_grow]
  rfl

theorem below_grow (w : World) (q : Nat) (os : Array Obj) : Below w.heap.size w (grow (w.drewN q) os) :=
  ⟨rfl, rfl, rfl, by rw [size_grow]; show w.heap.size ≤ w.heap.size + _; omega, fun k hk => heap_grow_old (w.drewN q) os hk⟩
theorem cmpR_num (x y : GE) (w : World) :
    Calls Tryd.prog 61 #[.agg #[.int .i64 x.f, .int .i64 x.t, .int .i64 x.w], .agg #[.int .i64 y.f, .int .i64 y.t, .int .i64 y.w]] w (GNum w (cmpR x y)) :=
  (cmpR_any x y w).mono fun _ _ ⟨he, q, os, hw⟩ => ⟨he, by rw [hw]; exact below_grow w q os⟩

set_option maxHeartbeats 400000 in
theorem implLess (x y : GE) (w : World) :
    Calls Tryd.prog 40 #[.agg #[.int .i64 x.f, .int .i64 x.t, .int .i64 x.w], .agg #[.int .i64 y.f, .int .i64 y.t, .int .i64 y.w]] w (GTell w (lessR x y)) := by
  have HC := Lib.hid (fun W => cmpR_num x y W)
  have HL := Lib.hid (cmpR_less x y)
  generalize cmpR x y = r at *
  go_enter Tryd.func40, Tryd.ntmps40
  go_wp2_with fail
  refine (HC.out _).mono ?_
  rintro e w1 ⟨rfl, hb⟩
  have HB := Lib.hid hb
  clear hb
  go_wp2
  go_ret
  exact ⟨g_bool HL.out, g_chain (below_a2 _ _ _) HB.out⟩

/-- No record from k on comes before its predecessor. -/
def upFrom (es : List GE) (k : Nat) : Prop := ∀ j, k ≤ j → ∀ x y, es[j]? = some x → es[j + 1]? = some y → lessR y x = false

end Go.Proofs.YtmbabbapcjphgaaDoor
