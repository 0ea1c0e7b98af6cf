/- The contracts of cmp.Compare, cmp.Or and of the program's comparison of two records (no condition). // Words for records in memory (no condition). // Words for rows of records that a call makes (plain lemmas over the model; no condition). // A block of cells that is known whole (plain lemmas over the model; no condition). // A block of cells that is known whole: see BlkB (no condition). // The contracts of the program's functions that ask whether a shard is valid. Condition: at most 2^20 edges. // The contract of the program's function that asks whether shards belong to consecutive intervals. Condition: at most 2^20 shards, of at most 2^20 edges each. // Maps from numbers to edges, and from records to edges, in memory: what stores leave, what a look-up finds (plain lemmas over the model; no condition). // A block of two writable cells, what grows while one block is written, a new record that reads (plain lemmas over the model; no condition). // What joining returns (no condition). // Rows of the call's own and blocks that are known whole, beside one another (plain lemmas over the model; no condition). // Shard edges: the contracts of the laws' helpers that leave marks and that look for them. Condition: at most 2^21 edges. -/
import Derived.Test.YtpgnappddddlpaaCGC
import Derived.Test.YtpgnappddddlpaaCGA
import Derived.StillTailTactics
import Derived.Sort.Grow
import Derived.RangeFuncBox
import Derived.Test.YtpgnappddddlpaaCGB
import Derived.Maps.OwnSet
import Derived.Maps.OwnOps
namespace Go.Proofs.Ytpgnappddddlpaa
open Go.RowKit Go.Sort

def cmpI (a b : Int) : Int := if a < b then -1 else if b < a then 1 else 0
def orI : List Int → Int
  | [] => 0
  | x :: r => if x = 0 then orI r else x
def cmpR (x y : GE) : Int := orI [cmpI x.f y.f, cmpI x.t y.t, cmpI x.w y.w]
theorem cmpI_lt (a b : Int) : cmpI a b < 0 ↔ a < b := by unfold cmpI; split <;> (try split) <;> omega
theorem cmpI_eq (a b : Int) : cmpI a b = 0 ↔ a = b := by unfold cmpI; split <;> (try split) <;> omega
theorem cmpR_lt (x y : GE) : cmpR x y < 0 ↔ lessR x y = true := by
  rw [lessR_iff]
  unfold cmpR orI orI orI orI
  have h1 := cmpI_lt x.f y.f
  have h2 := cmpI_lt x.t y.t
  have h3 := cmpI_lt x.w y.w
  have e1 := cmpI_eq x.f y.f
  have e2 := cmpI_eq x.t y.t
  have e3 := cmpI_eq x.w y.w
  split
  · split
    · split <;> omega
    · omega
  · omega
theorem cmpR_less (x y : GE) : decide (cmpR x y < 0) = lessR x y := by
  rw [Bool.eq_iff_iff, decide_eq_true_iff]
  exact cmpR_lt x y

theorem nan_any (a : Int) (w : World) : Calls Try.prog 175 #[.int .i64 a] w fun e w' => e = .returned (.bool false) ∧ w' = w := by
  have h : (a != a) = false := by simp
  go_enter Try.func175, Try.ntmps175
  go_wp2
  go_ret
  exact ⟨by simp, rfl⟩
theorem cmpI_any (a b : Int) (w : World) : Calls Try.prog 168 #[.int .i64 a, .int .i64 b] w fun e w' => e = .returned (.int .i64 (cmpI a b)) ∧ w' = w := by
  obtain ⟨r, hr⟩ : ∃ r, cmpI a b = r := ⟨_, rfl⟩
  have HR := Lib.hid hr
  rw [hr]
  clear hr
  by_cases h1 : a < b
  · have hr : r = -1 := by rw [← HR.out]; unfold cmpI; rw [if_pos h1]
    subst hr
    go_enter Try.func168, Try.ntmps168
    go_wp2_with (go_at_call 175; refine (nan_any _ _).mono ?_; rintro e w' ⟨rfl, rfl⟩)
    go_ret
    exact ⟨rfl, rfl⟩
  · by_cases h2 : b < a
    · have hr : r = 1 := by rw [← HR.out]; unfold cmpI; rw [if_neg h1, if_pos h2]
      subst hr
      go_enter Try.func168, Try.ntmps168
      go_wp2_with (go_at_call 175; refine (nan_any _ _).mono ?_; rintro e w' ⟨rfl, rfl⟩)
      go_ret
      exact ⟨rfl, rfl⟩
    · have hr : r = 0 := by rw [← HR.out]; unfold cmpI; rw [if_neg h1, if_neg h2]
      subst hr
      go_enter Try.func168, Try.ntmps168
      go_wp2_with (go_at_call 175; refine (nan_any _ _).mono ?_; rintro e w' ⟨rfl, rfl⟩)
      go_ret
      exact ⟨rfl, rfl⟩

theorem orI_skip {xs : List Int} {k : Nat} (h : xs[k]? = some 0) (e : orI (xs.drop k) = orI xs) : orI (xs.drop (k + 1)) = orI xs := by
  obtain ⟨hk, hx⟩ := List.getElem?_eq_some_iff.1 h
  rw [List.drop_eq_getElem_cons hk, hx, orI, if_pos rfl] at e
  exact e
theorem orI_hit {xs : List Int} {k : Nat} {x : Int} (h : xs[k]? = some x) (h0 : ¬ x = 0) (e : orI (xs.drop k) = orI xs) : orI xs = x := by
  obtain ⟨hk, hx⟩ := List.getElem?_eq_some_iff.1 h
  rw [List.drop_eq_getElem_cons hk, hx, orI, if_neg h0] at e
  exact e.symm
theorem orI_end {xs : List Int} {k : Nat} (h : xs.length ≤ k) (e : orI (xs.drop k) = orI xs) : orI xs = 0 := by
  rw [List.drop_eq_nil_of_le h] at e
  exact e.symm
theorem orI_any (A : Option Addr) (n c : Nat) (xs : List Int) (w : World) (hr : SlI w A n xs) (hn : n ≤ 1000) :
    Calls Try.prog 167 #[.slice A n c] w fun e w' => e = .returned (.int .i64 (orI xs)) ∧ w' = w := by
  have HR := Lib.hid hr
  have HL := Lib.hid hr.len
  clear hr
  go_enter Try.func167, Try.ntmps167
  go_wp2
  go_loop [8] (fun i => ∃ k : Nat, k ≤ n ∧ i = .int .i64 k ∧ Hid (orI (xs.drop k) = orI xs)) (fun i => n - (intOf i).toNat)
  case atStart => exact ⟨0, Nat.zero_le _, rfl, Lib.hid rfl⟩
  case round =>
    obtain ⟨k, hk, rfl, hd⟩ := hrel
    by_cases hlt : k < n
    · obtain ⟨b, off, x, rfl, hbw, he, c0⟩ := HR.out.at_ hlt
      by_cases hx : x = 0
      · subst hx
        have HD := Lib.hid (orI_skip he.out hd.out)
        go_wp2
        go_round
        case rel => exact ⟨k + 1, by omega, by go_num, HD⟩
        case measure => simp [intOf]; omega
      · have HD := Lib.hid (orI_hit he.out hx hd.out)
        have hx1 : (x == 0) = false := by simpa using hx
        have hx2 : (x != 0) = true := by simpa using hx
        go_wp2
        go_ret
        exact ⟨g_int HD.out.symm, rfl⟩
    · have HD := Lib.hid (orI_end (k := k) (by rw [HL.out]; omega) hd.out)
      go_wp2
      go_ret
      exact ⟨g_int HD.out.symm, rfl⟩

theorem three_lies (W : World) (r1 r2 r3 : Int) (t : TypeId) : SlI (W.alloc (.cells #[.int .i64 r1, .int .i64 r2, .int .i64 r3] t)) (some ⟨W.heap.size, 0, none⟩) 3 [r1, r2, r3] := by
  refine ⟨rfl, rfl, fun _ => ⟨_, _, rfl, by simp, fun j v hj => ?_⟩⟩
  match j, hj with
  | 0, hj => simp [vi] at hj; subst hj; simp
  | 1, hj => simp [vi] at hj; subst hj; simp
  | 2, hj => simp [vi] at hj; subst hj; simp

set_option maxRecDepth 100000 in
set_option maxHeartbeats 1000000 in
theorem cmpR_any (x y : GE) (w : World) :
    Calls Try.prog 159 #[.agg #[.int .i64 x.f, .int .i64 x.t, .int .i64 x.w], .agg #[.int .i64 y.f, .int .i64 y.t, .int .i64 y.w]] w fun e w' => e = .returned (.int .i64 (cmpR x y)) ∧ ∃ q os, w' = grow (w.drewN q) os := by
  have HC := Lib.hid (fun w' (h : SlI w' (some ⟨w.heap.size + 1 + 1, 0, none⟩) 3 [cmpI x.f y.f, cmpI x.t y.t, cmpI x.w y.w]) => orI_any (some ⟨w.heap.size + 1 + 1, 0, none⟩) 3 3 _ w' h (by omega))
  have HR : Hid (orI [cmpI x.f y.f, cmpI x.t y.t, cmpI x.w y.w] = cmpR x y) := Lib.hid rfl
  have K1 := Lib.hid (fun W => cmpI_any x.f y.f W)
  have K2 := Lib.hid (fun W => cmpI_any x.t y.t W)
  have K3 := Lib.hid (fun W => cmpI_any x.w y.w W)
  generalize cmpI x.f y.f = r1 at *
  generalize cmpI x.t y.t = r2 at *
  generalize cmpI x.w y.w = r3 at *
  go_enter Try.func159, Try.ntmps159
  go_wp2_with fail
  obtain ⟨W, hW⟩ : ∃ W : World, W = ((w.alloc (.cells #[.int .i64 x.f, .int .i64 x.t, .int .i64 x.w] 150)).alloc (.cells #[.int .i64 y.f, .int .i64 y.t, .int .i64 y.w] 150)).drew := ⟨_, rfl⟩
  have a0 : W.cell? ⟨w.heap.size, 0, none⟩ = some (.int .i64 x.f) := by rw [hW]; simp
  have a1 : W.cell? ⟨w.heap.size, 1, none⟩ = some (.int .i64 x.t) := by rw [hW]; simp
  have a2 : W.cell? ⟨w.heap.size, 2, none⟩ = some (.int .i64 x.w) := by rw [hW]; simp
  have b0 : W.cell? ⟨w.heap.size + 1, 0, none⟩ = some (.int .i64 y.f) := by rw [hW]; simp
  have b1 : W.cell? ⟨w.heap.size + 1, 1, none⟩ = some (.int .i64 y.t) := by rw [hW]; simp
  have b2 : W.cell? ⟨w.heap.size + 1, 2, none⟩ = some (.int .i64 y.w) := by rw [hW]; simp
  have hz : Hid (W.heap.size = w.heap.size + 1 + 1) := Lib.hid (by rw [hW]; simp)
  refine wp_region_still_tail 15 (by kernel_rfl) (by kernel_rfl) ?_
  simp only [List.take_succ_cons, List.take_zero, List.drop_succ_cons, List.drop_zero]
  change wpStill _ _ (World.drew _) _ _ _
  rw [← hW]
  change wpStill _ _ _ (fun a' => wpList _ _ _ _ a' (World.drew _)) _ _
  rw [← hW]
  have HW := Lib.hid hW
  clear hW
  repeat still_step
  still_call (K1.out _)
  repeat still_step
  still_call (K2.out _)
  repeat still_step
  still_call (K3.out _)
  refine wpStill_nil ?_
  rw [← hz.out] at HC
  have HL := Lib.hid (three_lies W r1 r2 r3 3)
  go_wp2_with (go_at_call 167; refine (HC.out _ HL.out).mono ?_; rintro e w' ⟨rfl, rfl⟩)
  go_ret
  refine ⟨g_int HR.out, 1, #[.cells #[.int .i64 x.f, .int .i64 x.t, .int .i64 x.w] 150, .cells #[.int .i64 y.f, .int .i64 y.t, .int .i64 y.w] 150, .cells #[.int .i64 r1, .int .i64 r2, .int .i64 r3] 3], ?_⟩
  rw [HW.out]
  simp only [alloc_eq_grow, drew_grow, grow_grow]
  rfl

theorem below_grow (w : World) (q : Nat) (os : Array Obj) : Below w.heap.size w (grow (w.drewN q) os) :=
  ⟨rfl, rfl, rfl, by rw [size_grow]; show w.heap.size ≤ w.heap.size + _; omega, fun k hk => heap_grow_old (w.drewN q) os hk⟩
theorem cmpR_num (x y : GE) (w : World) :
    Calls Try.prog 159 #[.agg #[.int .i64 x.f, .int .i64 x.t, .int .i64 x.w], .agg #[.int .i64 y.f, .int .i64 y.t, .int .i64 y.w]] w (GNum w (cmpR x y)) :=
  (cmpR_any x y w).mono fun _ _ ⟨he, q, os, hw⟩ => ⟨he, by rw [hw]; exact below_grow w q os⟩

set_option maxHeartbeats 400000 in
theorem implLess (x y : GE) (w : World) :
    Calls Try.prog 145 #[.agg #[.int .i64 x.f, .int .i64 x.t, .int .i64 x.w], .agg #[.int .i64 y.f, .int .i64 y.t, .int .i64 y.w]] w (GTell w (lessR x y)) := by
  have HC := Lib.hid (fun W => cmpR_num x y W)
  have HL := Lib.hid (cmpR_less x y)
  generalize cmpR x y = r at *
  go_enter Try.func145, Try.ntmps145
  go_wp2_with fail
  refine (HC.out _).mono ?_
  rintro e w1 ⟨rfl, hb⟩
  have HB := Lib.hid hb
  clear hb
  go_wp2
  go_ret
  exact ⟨g_bool HL.out, g_chain (below_a2 _ _ _) HB.out⟩

/-- No record from k on comes before its predecessor. -/
def upFrom (es : List GE) (k : Nat) : Prop := ∀ j, k ≤ j → ∀ x y, es[j]? = some x → es[j + 1]? = some y → lessR y x = false

end Go.Proofs.Ytpgnappddddlpaa
namespace Go.Proofs.Ytpgnappddddlpaa
open Go.RowKit

theorem Try.infoRec : (Try.prog.info? 150).map (fun i => (i.zero, i.size, i.bytes)) = some (some (.agg #[.int .i64 0, .int .i64 0, .int .i64 0]), 3, 24) := by kernel_rfl
/-- New edges. -/
def MadeRc (w : World) (es : List GE) (e : Ending) (w' : World) : Prop :=
  ∃ A c, e = .returned (.slice A es.length c) ∧ w'.ownsRow w.heap.size 150 3 (.slice A es.length c) es.length (es.flatMap GE.cells) ∧ Below w.heap.size w w'
end Go.Proofs.Ytpgnappddddlpaa
namespace Go.Proofs.Ytpgnappddddlpaa
open Go.RowKit

theorem rec_form {w : World} {base e size n : Nat} {v : Value} {xs : List Value} (h : w.ownsRow base e size v n xs) : ∃ A c, v = .slice A n c := by
  rcases h.2 with ⟨rfl, rfl⟩ | ⟨g, cap, _, rfl, _⟩
  · exact ⟨_, _, rfl⟩
  · exact ⟨_, _, rfl⟩
theorem rec_built (w : World) : (w.alloc (.cells #[] 150)).ownsRow w.heap.size 150 3 (.slice (some ⟨w.heap.size, 0, none⟩) 0 0) 0 [] :=
  World.ownsRow_lit w #[] 0 (Nat.le_refl _) (by unfold maxLen; omega) rfl
theorem rec_below {w w1 : World} {o : Obj} {k c : Nat} (hg : (w.alloc o).grownBy w1 (Value.slice (some ⟨w.heap.size, 0, none⟩) k c).ownBlock) : Below w.heap.size w w1 :=
  ((Below.refl _ _).alloc (Nat.le_refl _) o).grown hg (by simp) (fun j hj => by simp [Value.ownBlock] at hj; omega)
/-- A new row of records. -/
def RowRc (w : World) (n : Nat) (es : List GE) (e : Ending) (w' : World) : Prop :=
  ∃ A c, e = .returned (.slice A n c) ∧ w'.ownsRow w.heap.size 150 3 (.slice A n c) n (es.flatMap GE.cells) ∧ Below w.heap.size w w'
theorem rec_one (es : List GE) : ∀ u ∈ es.flatMap GE.cells, u.oneCell' = true := fun u hu => by
  obtain ⟨e, _, he⟩ := List.mem_flatMap.1 hu
  simp only [GE.cells, List.mem_cons, List.not_mem_nil, or_false] at he
  rcases he with rfl | rfl | rfl <;> rfl
theorem rec_reads (w : World) (e : GE) (t : TypeId) (g : Nat) (hg : g = w.heap.size) : Reads (w.alloc (.cells #[.int .i64 e.f, .int .i64 e.t, .int .i64 e.w] t)) (g + 1) 3 (some ⟨g, 0, none⟩) 1 (GE.cells e) := by
  subst hg
  refine ⟨rfl, fun _ => ⟨_, rfl, by simp, fun j x hj => ?_⟩⟩
  match j, hj with
  | 0, hj => simp [GE.cells] at hj; subst hj; simp [Addr.add]
  | 1, hj => simp [GE.cells] at hj; subst hj; simp [Addr.add]
  | 2, hj => simp [GE.cells] at hj; subst hj; simp [Addr.add]
/-- A block that holds one record. -/
structure RBox (w : World) (b : Nat) (e : GE) : Prop where
  lt : b < w.heap.size
  c0 : w.cell? ⟨b, 0, none⟩ = some (.int .i64 e.f)
  c1 : w.cell? ⟨b, 1, none⟩ = some (.int .i64 e.t)
  c2 : w.cell? ⟨b, 2, none⟩ = some (.int .i64 e.w)
theorem RBox.below {w w' : World} {b : Nat} {e : GE} (h : RBox w b e) (hb : Below w.heap.size w w') : RBox w' b e :=
  ⟨Nat.lt_of_lt_of_le h.lt hb.size, (hb.cell (p := ⟨b, 0, none⟩) h.lt).trans h.c0, (hb.cell (p := ⟨b, 1, none⟩) h.lt).trans h.c1, (hb.cell (p := ⟨b, 2, none⟩) h.lt).trans h.c2⟩
theorem RBox.drew {w : World} {b : Nat} {e : GE} (h : RBox w b e) : RBox w.drew b e := ⟨h.lt, h.c0, h.c1, h.c2⟩
theorem RowRc.made {w : World} {n : Nat} {es : List GE} {e : Ending} {w' : World} (h : RowRc w n es e w') (hl : es.length = n) : MadeRc w es e w' := by
  subst hl
  exact h
end Go.Proofs.Ytpgnappddddlpaa
namespace Go.Proofs.Ytpgnappddddlpaa
open Go.RowKit

def Blk (w : World) (b : Nat) (cs : Array Value) (t : TypeId) : Prop := w.heap[b]? = some (.cells cs t (0, 0))
section
variable {w w' : World} {b : Nat} {cs : Array Value} {t : TypeId}
theorem Blk.lt (h : Blk w b cs t) : b < w.heap.size := (Array.getElem?_eq_some_iff.1 h).1
theorem Blk.cell (h : Blk w b cs t) {i : Nat} {v : Value} (hv : cs[i]? = some v) : w.cell? ⟨b, i, none⟩ = some v := by simp [World.cell?, show w.heap[b]? = _ from h, hv]
theorem Blk.frozen (h : Blk w b cs t) (i : Nat) : w.frozen? ⟨b, i, none⟩ = false := by simp [World.frozen?, show w.heap[b]? = _ from h]
theorem Blk.new (w : World) (cs : Array Value) (t : TypeId) : Blk (w.alloc (.cells cs t)) w.heap.size cs t := World.alloc_heap_new w _
theorem Blk.keep (h : Blk w b cs t) (hk : w'.heap[b]? = w.heap[b]?) : Blk w' b cs t := hk.trans h
theorem Blk.below (h : Blk w b cs t) (hb : Below w.heap.size w w') : Blk w' b cs t := h.keep (hb.block b h.lt)
theorem Blk.alloc (h : Blk w b cs t) (o : Obj) : Blk (w.alloc o) b cs t := h.below (below_a1 w o)
theorem Blk.drew (h : Blk w b cs t) : Blk w.drew b cs t := h
theorem Blk.drewN (h : Blk w b cs t) (n : Nat) : Blk (w.drewN n) b cs t := h
theorem Blk.grown {row : Option Nat} (h : Blk w b cs t) (hg : w.grownBy w' row) (hr : row ≠ some b) : Blk w' b cs t := h.keep (hg.block b h.lt (fun e => hr e.symm))
theorem Blk.other (h : Blk w b cs t) {p : Addr} (hp : b ≠ p.block) (u : Value) : Blk (w.setCell p u) b cs t := h.keep (Below.heap_setCell w p u b hp)
theorem Blk.set (h : Blk w b cs t) (i : Nat) (u : Value) : Blk (w.setCell ⟨b, i, none⟩ u) b (cs.setIfInBounds i u) t := by
  have hlt := h.lt
  have h2 : w.heap[b]? = some (.cells cs t (0, 0)) := h
  unfold Blk World.setCell
  simp [Array.getElem?_modify, h2]
end
end Go.Proofs.Ytpgnappddddlpaa

namespace Go.Proofs.Ytpgnappddddlpaa
open Go.RowKit

theorem place_any (a b c : Int) (w : World) :
    Calls Try.prog 123 #[.int .i64 a, .int .i64 b, .int .i64 c] w fun e w' => e = .returned (.agg #[.int .i64 a, .int .i64 b, .int .i64 c]) ∧ Below w.heap.size w w' := by
  go_enter Try.func123, Try.ntmps123
  go_wp2
  refine bodyPost_ret (v := .agg #[.int .i64 a, .int .i64 b, .int .i64 c]) (by simp [results, Try.results123, go_sem]) rfl ⟨rfl, ?_⟩
  repeat (first | exact below_a1 _ _ | exact below_a2 _ _ _ | exact below_a3 _ _ _ _ | refine Below.setCell ?_ (by simp <;> omega) _)
theorem implEdge5Ok (lo hi : Int) (e : KE) (w : World) :
    Calls Try.prog 144 #[.agg #[.int .i64 e.f, .int .i64 e.t, .int .i64 e.w, .int .i64 e.i, .int .i64 e.v], .int .i64 lo, .int .i64 hi] w (GTell w (kedgeB lo hi e)) := by
  have HB := Lib.hid (below_a1 w (.cells #[.int .i64 e.f, .int .i64 e.t, .int .i64 e.w, .int .i64 e.i, .int .i64 e.v] 40))
  cases hv : kedgeB lo hi e with
  | true =>
    obtain ⟨h1, h2, h3, h4, h5, h6, h7, h8, h9, h10⟩ := kedgeB_iff hv
    clear hv
    go_enter Try.func144, Try.ntmps144
    go_wp2_with (go_at_call 107; refine (implNum_yes _ _ h9 h10).mono ?_; rintro e w' ⟨rfl, rfl⟩)
    go_ret
    exact ⟨rfl, HB.out⟩
  | false =>
    have hp := kedgeB_parts hv
    clear hv
    rcases hp with h1 | ⟨h1, h2⟩ | ⟨h1, h2, h3⟩ | ⟨h1, h2, h3, h4⟩ | ⟨h1, h2, h3, h4, h5⟩ | ⟨h1, h2, h3, h4, h5, h6⟩ | ⟨h1, h2, h3, h4, h5, h6, h7⟩ | ⟨h1, h2, h3, h4, h5, h6, h7, h8⟩ | ⟨h1, h2, h3, h4, h5, h6, h7, h8, h9⟩
    case inr.inr.inr.inr.inr.inr.inr.inr =>
      have h10 : e.v < 0 ∨ 281474976710655 < e.v := by omega
      clear h9
      go_enter Try.func144, Try.ntmps144
      go_wp2_with (go_at_call 107; refine (implNum_no _ _ h10).mono ?_; rintro e w' ⟨rfl, rfl⟩)
      go_ret
      exact ⟨rfl, HB.out⟩
    all_goals
      go_enter Try.func144, Try.ntmps144
      go_wp2
      go_ret
      exact ⟨g_bool (by first | rfl | (simp <;> omega)), HB.out⟩
theorem after_less (p q : Int) (e : KE) : lessR ⟨0, p, q⟩ ⟨0, e.f, e.i⟩ = afterB p q e := by
  rw [Bool.eq_iff_iff, lessR_iff]
  unfold afterB
  rw [decide_eq_true_iff]
  show ((0 : Int) < 0 ∨ ((0 : Int) = 0 ∧ (p < e.f ∨ (p = e.f ∧ q < e.i)))) ↔ _
  constructor
  · rintro (h | ⟨_, h⟩)
    · omega
    · exact h
  · exact fun h => .inr ⟨rfl, h⟩

set_option maxRecDepth 10000 in
set_option maxHeartbeats 4000000 in
theorem implShardOk (lo hi : Int) (A : Option Addr) (n c : Nat) (es : List KE) (w : World) (hr : SlK w A n es) (hn : n ≤ 1048576) :
    Calls Try.prog 106 #[.agg #[.int .i64 lo, .int .i64 hi, .slice A n c]] w (GTell w (shardB lo hi es)) := by
  have hel := hr.len
  have HB0 := Lib.hid (below_a1 w (.cells #[.int .i64 lo, .int .i64 hi, .slice A n c] 85))
  by_cases h1 : 0 ≤ lo
  · by_cases h2 : lo < hi
    · by_cases h3 : hi ≤ 150
      · by_cases h4 : n ≤ 400
        · rw [shardB_yes h1 h2 h3 (by omega)]
          have CE := Lib.hid (fun e W => implEdge5Ok lo hi e W)
          have CP := Lib.hid (fun b c W => place_any 0 b c W)
          have CL := Lib.hid (fun p q (e : KE) W => after_less p q e ▸ implLess ⟨0, p, q⟩ ⟨0, e.f, e.i⟩ W)
          have HR := Lib.hid hr
          have HEL := Lib.hid hel
          clear hr hel
          go_enter Try.func106, Try.ntmps106
          go_wp2_with fail
          refine (CP.out (-1) 0 _).mono ?_
          rintro e wp ⟨rfl, hbp⟩
          have XP := Lib.hid ((HBox.new w lo hi A n c 85).below hbp)
          have HBP := Lib.hid (g_chain HB0.out hbp)
          have LB0 := Lib.hid (Blk.new wp #[.int .i64 0, .int .i64 (-1), .int .i64 0] 150)
          have X0 := Lib.hid (XP.out.alloc (.cells #[.int .i64 0, .int .i64 (-1), .int .i64 0] 150))
          have HB1 := Lib.hid (g_chain HBP.out (below_a1 wp (.cells #[.int .i64 0, .int .i64 (-1), .int .i64 0] 150)))
          have hlp : w.heap.size < wp.heap.size := XP.out.lt
          obtain ⟨l0, x0, x1, x2⟩ := XP.out
          clear hbp
          go_wp2
          clear l0 x0 x1 x2
          go_loopw [32] (fun i wr => ∃ (k : Nat) (p q : Int), k ≤ n ∧ i = .int .i64 k ∧ Hid (HBox wr w.heap.size lo hi A n c) ∧ Hid (Below w.heap.size w wr) ∧ Hid (Blk wr wp.heap.size #[.int .i64 0, .int .i64 p, .int .i64 q] 150) ∧ Hid (runK lo hi p q (es.drop k) = runK lo hi (-1) 0 es)) (fun i _ => n - (intOf i).toNat)
          case atStart => exact ⟨0, -1, 0, Nat.zero_le _, rfl, X0, HB1, LB0, Lib.hid rfl⟩
          case round =>
            clear X0 HB1 LB0 XP HBP
            obtain ⟨k, p, q, hk, rfl, hx, hbel, hlb, hrun⟩ := hrel
            by_cases hlt : k < n
            · obtain ⟨b, off, e, rfl, hbw, he, c0, c1, c2, c3, c4⟩ := HR.out.at_ hlt
              have c0 := (hbel.out.cell (p := ⟨b, off + k * 5, none⟩) hbw).trans c0
              have c1 := (hbel.out.cell (p := ⟨b, off + k * 5 + 1, none⟩) hbw).trans c1
              have c2 := (hbel.out.cell (p := ⟨b, off + k * 5 + 2, none⟩) hbw).trans c2
              have c3 := (hbel.out.cell (p := ⟨b, off + k * 5 + 3, none⟩) hbw).trans c3
              have c4 := (hbel.out.cell (p := ⟨b, off + k * 5 + 4, none⟩) hbw).trans c4
              obtain ⟨l0, x0, x1, x2⟩ := hx.out
              have hwle : w.heap.size ≤ wr.heap.size := hbel.out.size
              go_wp2_with fail
              refine (CP.out e.f e.i _).mono ?_
              rintro e1 w1 ⟨rfl, hb1⟩
              have HB1 := Lib.hid (g_chain (below_a1 wr (.cells #[.int .i64 e.f, .int .i64 e.t, .int .i64 e.w, .int .i64 e.i, .int .i64 e.v] 40)) hb1)
              have X1 := Lib.hid ((hx.out.below HB1.out).alloc (.cells #[.int .i64 0, .int .i64 e.f, .int .i64 e.i] 150))
              have L1 := Lib.hid ((hlb.out.below HB1.out).below (below_a1 w1 (.cells #[.int .i64 0, .int .i64 e.f, .int .i64 e.i] 150)))
              have R1 := Lib.hid (Blk.new w1 #[.int .i64 0, .int .i64 e.f, .int .i64 e.i] 150)
              have HB2 := Lib.hid (g_chain HB1.out (below_a1 w1 (.cells #[.int .i64 0, .int .i64 e.f, .int .i64 e.i] 150)))
              have hl1 : wr.heap.size < w1.heap.size := by have := hb1.size; simp at this; omega
              have hy := fun i (v : Value) (hi : #[Value.int .i64 e.f, .int .i64 e.t, .int .i64 e.w, .int .i64 e.i, .int .i64 e.v][i]? = some v) => ((Blk.new wr #[Value.int .i64 e.f, .int .i64 e.t, .int .i64 e.w, .int .i64 e.i, .int .i64 e.v] 40).below hb1).cell hi
              have y0 := hy 0 _ rfl
              have y1 := hy 1 _ rfl
              have y2 := hy 2 _ rfl
              have y3 := hy 3 _ rfl
              have y4 := hy 4 _ rfl
              obtain ⟨z0, z1, z2, z3⟩ := (hx.out.below HB1.out)
              have HQ := Lib.hid (runK_drop he.out hrun.out)
              clear hb1 c0 c1 c2 c3 c4 l0 x0 x1 x2 hx hrun hy hlb
              cases hv : kedgeB lo hi e with
              | false =>
                have HV : Hid (runK lo hi (-1) 0 es = false) := Lib.hid (by rw [← HQ.out, hv]; rfl)
                have CE1 := Lib.hid (fun W => hv ▸ CE.out e W)
                go_wp2_with fail
                refine (CE1.out _).mono ?_
                rintro e2 w2 ⟨rfl, hb2⟩
                go_wp2
                go_ret
                rw [HV.out]
                exact ⟨rfl, g_chain hbel.out (g_chain HB2.out hb2)⟩
              | true =>
                have CE1 := Lib.hid (fun W => hv ▸ CE.out e W)
                cases ha : afterB p q e with
                | true =>
                  have HN : Hid (runK lo hi e.f e.i (es.drop (k + 1)) = runK lo hi (-1) 0 es) := Lib.hid (by rw [← HQ.out, hv, ha]; rfl)
                  have CL1 := Lib.hid (fun W => ha ▸ CL.out p q e W)
                  clear hv ha HQ
                  go_wp2_with fail
                  refine (CE1.out _).mono ?_
                  rintro e2 w2 ⟨rfl, hb2⟩
                  have L2 := Lib.hid (L1.out.below hb2)
                  have R2 := Lib.hid (R1.out.below hb2)
                  have X2 := Lib.hid (X1.out.below hb2)
                  have HB3 := Lib.hid (g_chain HB2.out hb2)
                  have q0 := L2.out.cell (i := 0) rfl
                  have q1 := L2.out.cell (i := 1) rfl
                  have q2 := L2.out.cell (i := 2) rfl
                  have r0 := R2.out.cell (i := 0) rfl
                  have r1 := R2.out.cell (i := 1) rfl
                  have r2 := R2.out.cell (i := 2) rfl
                  clear hb2
                  go_wp2_with fail
                  refine (CL1.out _).mono ?_
                  rintro e3 w3 ⟨rfl, hb3⟩
                  have L3 := Lib.hid (L2.out.below hb3)
                  have R3 := Lib.hid (R2.out.below hb3)
                  have X3 := Lib.hid (X2.out.below hb3)
                  have HB4 := Lib.hid (g_chain HB3.out hb3)
                  have f0 := L3.out.frozen 0
                  have f1 := L3.out.frozen 1
                  have f2 := L3.out.frozen 2
                  have hlt3 := L3.out.lt
                  have hlw : w.heap.size < wp.heap.size := hlp
                  clear q0 q1 q2 r0 r1 r2 hb3
                  have q0 := L3.out.cell (i := 0) rfl
                  have q1 := L3.out.cell (i := 1) rfl
                  have q2 := L3.out.cell (i := 2) rfl
                  have r0 := R3.out.cell (i := 0) rfl
                  have r1 := R3.out.cell (i := 1) rfl
                  have r2 := R3.out.cell (i := 2) rfl
                  go_wp2
                  go_roundw
                  case rel => exact ⟨k + 1, e.f, e.i, by omega, by go_num, Lib.hid (X3.out.keep (by simp) (by rw [Below.heap_setCell _ _ _ _ (by show w.heap.size ≠ wp.heap.size; omega), Below.heap_setCell _ _ _ _ (by show w.heap.size ≠ wp.heap.size; omega), Below.heap_setCell _ _ _ _ (by show w.heap.size ≠ wp.heap.size; omega)])), Lib.hid ((((g_chain hbel.out HB4.out).setCell (p := ⟨wp.heap.size, 0, none⟩) (by show w.heap.size ≤ wp.heap.size; omega) _).setCell (p := ⟨wp.heap.size, 1, none⟩) (by show w.heap.size ≤ wp.heap.size; omega) _).setCell (p := ⟨wp.heap.size, 2, none⟩) (by show w.heap.size ≤ wp.heap.size; omega) _), Lib.hid (((L3.out.set 0 _).set 1 _).set 2 _), HN⟩
                  case measure => simp [intOf]; omega
                | false =>
                  have HV : Hid (runK lo hi (-1) 0 es = false) := Lib.hid (by rw [← HQ.out, hv, ha]; rfl)
                  have CL1 := Lib.hid (fun W => ha ▸ CL.out p q e W)
                  clear hv ha HQ
                  go_wp2_with fail
                  refine (CE1.out _).mono ?_
                  rintro e2 w2 ⟨rfl, hb2⟩
                  have L2 := Lib.hid (L1.out.below hb2)
                  have R2 := Lib.hid (R1.out.below hb2)
                  have X2 := Lib.hid (X1.out.below hb2)
                  have HB3 := Lib.hid (g_chain HB2.out hb2)
                  have q0 := L2.out.cell (i := 0) rfl
                  have q1 := L2.out.cell (i := 1) rfl
                  have q2 := L2.out.cell (i := 2) rfl
                  have r0 := R2.out.cell (i := 0) rfl
                  have r1 := R2.out.cell (i := 1) rfl
                  have r2 := R2.out.cell (i := 2) rfl
                  clear hb2
                  go_wp2_with fail
                  refine (CL1.out _).mono ?_
                  rintro e3 w3 ⟨rfl, hb3⟩
                  go_wp2
                  go_ret
                  rw [HV.out]
                  exact ⟨rfl, g_chain hbel.out (g_chain HB3.out hb3)⟩
            · obtain rfl : k = n := by omega
              have HV : Hid (runK lo hi (-1) 0 es = true) := Lib.hid (by
                have h := hrun.out
                rw [List.drop_eq_nil_of_le (by rw [HEL.out]; exact Nat.le_refl _), runK] at h
                exact h.symm)
              go_wp2
              go_ret
              rw [HV.out]
              exact ⟨rfl, hbel.out⟩
        · have HV : Hid (shardB lo hi es = false) := Lib.hid (by simp [shardB, hel, h4])
          clear hr hel
          go_enter Try.func106, Try.ntmps106
          go_wp2
          go_ret
          rw [HV.out]
          exact ⟨g_bool (by first | rfl | (simp <;> omega)), HB0.out⟩
      · have HV : Hid (shardB lo hi es = false) := Lib.hid (by simp [shardB, h3])
        clear hr hel
        go_enter Try.func106, Try.ntmps106
        go_wp2
        go_ret
        rw [HV.out]
        exact ⟨g_bool (by first | rfl | (simp <;> omega)), HB0.out⟩
    · have HV : Hid (shardB lo hi es = false) := Lib.hid (by simp [shardB, h2])
      clear hr hel
      go_enter Try.func106, Try.ntmps106
      go_wp2
      go_ret
      rw [HV.out]
      exact ⟨g_bool (by first | rfl | (simp <;> omega)), HB0.out⟩
  · have HV : Hid (shardB lo hi es = false) := Lib.hid (by simp [shardB, h1])
    clear hr hel
    go_enter Try.func106, Try.ntmps106
    go_wp2
    go_ret
    rw [HV.out]
    exact ⟨g_bool (by first | rfl | (simp <;> omega)), HB0.out⟩
end Go.Proofs.Ytpgnappddddlpaa
namespace Go.Proofs.Ytpgnappddddlpaa
open Go.RowKit

set_option maxRecDepth 10000 in
set_option maxHeartbeats 2000000 in
theorem implDivides (N : Int) (A : Option Addr) (n c : Nat) (bs : List HE) (w : World) (hr : SlH w A n bs) (hn : n ≤ 1048576) (hs : ∀ e ∈ bs, e.n ≤ 1048576) :
    Calls Try.prog 142 #[.int .i64 N, .slice A n c] w (GTell w (chainB N 0 (sdL bs))) := by
  have HR := Lib.hid hr
  have HL := Lib.hid hr.len
  have HS := Lib.hid hs
  clear hr hs
  go_enter Try.func142, Try.ntmps142
  go_wp2
  go_loopw [5, 10] (fun v i wr => ∃ (k : Nat) (a : Int), k ≤ n ∧ i = .int .i64 k ∧ v = .int .i64 a ∧ Hid (chainB N 0 (sdL bs) = chainB N a ((sdL bs).drop k)) ∧ Hid (Below w.heap.size w wr)) (fun _ i _ => n - (intOf i).toNat)
  case atStart => exact ⟨0, 0, Nat.zero_le _, rfl, rfl, Lib.hid rfl, Lib.hid (Below.refl _ _)⟩
  case round =>
    obtain ⟨k, a, hk, rfl, rfl, hch, hbel⟩ := hrel
    by_cases hlt : k < n
    · obtain ⟨b, off, e, rfl, hbw, he, hok, c0, c1, c2⟩ := HR.out.at_ hlt
      have c0 := (hbel.out.cell (p := ⟨b, off + k * 3, none⟩) hbw).trans c0
      have c1 := (hbel.out.cell (p := ⟨b, off + k * 3 + 1, none⟩) hbw).trans c1
      have c2 := (hbel.out.cell (p := ⟨b, off + k * 3 + 2, none⟩) hbw).trans c2
      have C := Lib.hid (fun W (h : Below w.heap.size w W) => implShardOk e.lo e.hi e.A e.n e.c e.es W (hok.out.rd.below h) (HS.out e (List.mem_of_getElem? he.out)))
      have HA := Lib.hid (g_chain hbel.out (below_a1 wr (.cells #[.int .i64 e.lo, .int .i64 e.hi, .slice e.A e.n e.c] 85)))
      have HC := Lib.hid (hch.out.trans (chain_step he.out))
      clear hch hok
      go_wp2_with fail
      refine (C.out _ HA.out).mono ?_
      rintro e1 w1 ⟨rfl, hb1⟩
      have X1 := Lib.hid ((HBox.new wr e.lo e.hi e.A e.n e.c 85).below hb1)
      have HB := Lib.hid (g_chain HA.out hb1)
      obtain ⟨l0, x0, x1, x2⟩ := X1.out
      clear hb1 C c0 c1 c2
      cases hv : shardB e.lo e.hi e.es with
      | false =>
        have HV : Hid (chainB N 0 (sdL bs) = false) := Lib.hid (by rw [HC.out, hv]; rfl)
        clear hv
        go_wp2
        go_ret
        rw [HV.out]
        exact ⟨rfl, HB.out⟩
      | true =>
        by_cases hq : e.lo = a
        · have HN : Hid (chainB N 0 (sdL bs) = chainB N e.hi ((sdL bs).drop (k + 1))) := Lib.hid (by rw [HC.out, hv, decide_eq_true hq]; rfl)
          clear hv HC
          go_wp2
          go_roundw
          case rel => exact ⟨k + 1, e.hi, by omega, by go_num, rfl, HN, HB⟩
          case measure => simp [intOf]; omega
        · have HV : Hid (chainB N 0 (sdL bs) = false) := Lib.hid (by rw [HC.out, decide_eq_false hq]; simp)
          have hq2 : (e.lo == a) = false := by simpa using hq
          clear hv HC
          go_wp2
          go_ret
          rw [HV.out]
          exact ⟨rfl, HB.out⟩
    · obtain rfl : k = n := by omega
      have HV : Hid (chainB N 0 (sdL bs) = decide (a = N)) := Lib.hid (by
        have h := hch.out
        rw [List.drop_eq_nil_of_le (by rw [sdL_len, HL.out]; exact Nat.le_refl _), chainB] at h
        exact h)
      by_cases hq : a = N
      · go_wp2
        go_ret
        rw [HV.out]
        exact ⟨g_bool (by simp [hq]), hbel.out⟩
      · have hq2 : (a == N) = false := by simpa using hq
        go_wp2
        go_ret
        rw [HV.out]
        exact ⟨g_bool (by simp [hq]), hbel.out⟩
end Go.Proofs.Ytpgnappddddlpaa
namespace Go.Proofs.Ytpgnappddddlpaa
open Go.RowKit Go.Maps

def rawE : Value → Option (DataW Value × List MemPlace) := fun v => some (.held v, [])
theorem lookup_known {P : Program} (w : World) {ops : Array Oper} {rest : List Oper} {o : Oper} {a : Act} {Q : Exit → Act → World → Prop}
    (hg : o.guard = none) (m x : Operand) (t : TypeId) (hop : o.op = Op.lookup t m x true)
    (k e : TypeId) (K : Keyed P k) (ht : P.underlying t = some (.map k e)) {z : Value} (hz : (zeroValue e).run P w = .ok z w) (b n : Nat) (D : DataW Value)
    (hm : a.eval m = .map (some b)) (hown : w.ownsMap P k rawE b n D) (key : Value) (kl : Lit) (hx : a.eval x = key) (hkey : keyOf P k key = some kl) (v0 : Value) (ok : Bool)
    (hat : D.atKey kl (.held z) = .held v0) (hh : Maps.has D kl = ok)
    (hK : wpList P ops Q rest (a.put o.dst (.tuple #[v0, .bool ok])) w) : wpList P ops Q (o :: rest) a w :=
  wpList_lookup_own_ok w hg m x t hop k e K ht rawE hz (.held z) [] rfl b n D hm hown key kl hx hkey (fun v ps hv => by
    have h1 : DataW.held v = D.atKey kl (.held z) := by
      unfold rawE at hv
      injection hv with hv
      exact congrArg Prod.fst hv
    rw [hat] at h1
    injection h1 with h1
    subst h1
    rw [hh]
    exact hK)
theorem lookup_plain {P : Program} (w : World) {k t e : TypeId} (K : Keyed P k) (ht : P.underlying t = some (.map k e)) {z : Value} (hz : (zeroValue e).run P w = .ok z w) {b n : Nat} {D : DataW Value}
    (hown : w.ownsMap P k rawE b n D) {key : Value} {kl : Lit} (hkey : keyOf P k key = some kl) {v0 : Value} (hat : D.atKey kl (.held z) = .held v0) : (Instr.lookup t (.map (some b)) key false).run P w = .ok v0 w := by
  obtain ⟨v, ps, hrun, hv⟩ := hown.lookup K ht hz (zd := .held z) (zp := []) rfl hkey
  have h1 : DataW.held v = D.atKey kl (.held z) := by
    unfold rawE at hv
    injection hv with hv
    exact congrArg Prod.fst hv
  rw [hat] at h1
  injection h1 with h1
  rw [← h1]
  exact hrun

theorem Try.keyedInt : Keyed Try.prog 3 := int_keyed Try.underlying3
theorem keyIdx {x : Int} (h : (Lit.int .i64 x).wf = true) : keyOf Try.prog 3 (.int .i64 x) = some (.int .i64 x) := keyOf_int_mk Try.underlying3 h

/-- Block mb is a map that bears, under their numbers, the edges of F. -/
structure ByIdx (w : World) (mb n : Nat) (F : List KE) : Prop where
  map : ∃ D : DataW Value, w.ownsMap Try.prog 3 rawE mb n D ∧ IsMap D ∧
    (∀ x : Int, (∃ e ∈ F, e.i = x) → Maps.has D (.int .i64 x) = true ∧ ∃ e ∈ F, e.i = x ∧ ∀ z, D.atKey (.int .i64 x) z = .held e.ge.v) ∧
    (∀ x : Int, (¬ ∃ e ∈ F, e.i = x) → Maps.has D (.int .i64 x) = false ∧ ∀ z, D.atKey (.int .i64 x) z = z)
section
variable {w w' : World} {mb n : Nat} {F : List KE}
theorem ByIdx.new (w : World) : ByIdx (w.alloc (.map #[] 0)) w.heap.size 0 [] :=
  ⟨.map [], World.ownsMap_made _ _ _ _, isMap_empty, fun x h => absurd h (by simp), fun x _ => ⟨rfl, fun z => rfl⟩⟩
theorem ByIdx.kept {row : Option Nat} (h : ByIdx w mb n F) (hg : w.grownBy w' row) (hne : some mb ≠ row) : ByIdx w' mb n F := by
  obtain ⟨D, h1, h2⟩ := h.map
  exact ⟨D, h1.kept hg hne, h2⟩
theorem ByIdx.below (h : ByIdx w mb n F) (hb : Below w.heap.size w w') : ByIdx w' mb n F := h.kept (grownBy_of_below hb none) (by simp)
theorem ByIdx.lt (h : ByIdx w mb n F) : mb < w.heap.size := by
  obtain ⟨D, h1, _⟩ := h.map
  exact h1.lt
theorem ByIdx.put {D : DataW Value} {e : KE} (ho : w'.ownsMap Try.prog 3 rawE mb (n + 1) (D.put (.int .i64 e.i) (.held e.ge.v))) (hm : IsMap D)
    (h1 : ∀ x : Int, (∃ e ∈ F, e.i = x) → Maps.has D (.int .i64 x) = true ∧ ∃ e ∈ F, e.i = x ∧ ∀ z, D.atKey (.int .i64 x) z = .held e.ge.v)
    (h2 : ∀ x : Int, (¬ ∃ e ∈ F, e.i = x) → Maps.has D (.int .i64 x) = false ∧ ∀ z, D.atKey (.int .i64 x) z = z) : ByIdx w' mb (n + 1) (F ++ [e]) := by
  refine ⟨_, ho, hm.put _ _, fun x hx => ?_, fun x hx => ?_⟩
  · by_cases he : e.i = x
    · subst he
      exact ⟨has_put_same hm (k := .int .i64 e.i) trivial _, e, by simp, rfl, fun z => atKey_put_same hm (k := .int .i64 e.i) trivial _ z⟩
    · have hne : Lit.int .i64 x ≠ Lit.int .i64 e.i := fun h => he (by injection h with _ h; exact h.symm)
      obtain ⟨a, ha, hax⟩ := hx
      have ha2 : a ∈ F := by
        rcases List.mem_append.1 ha with ha | ha
        · exact ha
        · simp at ha
          subst ha
          exact absurd hax he
      obtain ⟨q1, b, hb, hbx, q2⟩ := h1 x ⟨a, ha2, hax⟩
      exact ⟨(has_put_other hne _).trans q1, b, List.mem_append_left _ hb, hbx, fun z => (atKey_put_other hne _ z).trans (q2 z)⟩
  · have he : ¬ e.i = x := fun he => hx ⟨e, by simp, he⟩
    have hne : Lit.int .i64 x ≠ Lit.int .i64 e.i := fun h => he (by injection h with _ h; exact h.symm)
    obtain ⟨q1, q2⟩ := h2 x (fun ⟨a, ha, hax⟩ => hx ⟨a, List.mem_append_left _ ha, hax⟩)
    exact ⟨(has_put_other hne _).trans q1, fun z => (atKey_put_other hne _ z).trans (q2 z)⟩
end
end Go.Proofs.Ytpgnappddddlpaa
namespace Go.Proofs.Ytpgnappddddlpaa
open Go.RowKit

theorem grown_up {a b c : World} {row r2 : Option Nat} (h : a.grownBy b row) (k : b.grownBy c r2) (hr : ∀ j, r2 = some j → a.heap.size ≤ j) : a.grownBy c row :=
  ⟨k.os.trans h.os, k.tape.trans h.tape, k.output.trans h.output, Nat.le_trans h.size k.size, fun i hi hn => (k.block i (Nat.lt_of_lt_of_le hi h.size) (fun e => by have := hr i e.symm; omega)).trans (h.block i hi hn)⟩
theorem grown_below {a b c : World} {row : Option Nat} (h : a.grownBy b row) (k : Below b.heap.size b c) : a.grownBy c row := grownBy_trans h (grownBy_of_below k row)
theorem grown_set {a b : World} {g i : Nat} (h : a.grownBy b (some g)) (u : Value) : a.grownBy (b.setCell ⟨g, i, none⟩ u) (some g) :=
  ⟨h.os, h.tape, h.output, by simpa using h.size, fun j hj hn => (Below.heap_setCell b ⟨g, i, none⟩ u j (fun e => hn (by rw [e]))).trans (h.block j hj hn)⟩
theorem grown_drew {a b : World} {row : Option Nat} (h : a.grownBy b row) : a.grownBy b.drew row := ⟨h.os, h.tape, h.output, h.size, h.block⟩

/-- A block of two cells that may be written. -/
structure DBox (w : World) (b : Nat) (v0 v1 : Value) : Prop where
  lt : b < w.heap.size
  c0 : w.cell? ⟨b, 0, none⟩ = some v0
  c1 : w.cell? ⟨b, 1, none⟩ = some v1
  f : ∀ i, w.frozen? ⟨b, i, none⟩ = false
section
variable {w w' : World} {b : Nat} {v0 v1 : Value}
theorem DBox.keep (h : DBox w b v0 v1) (hs : w.heap.size ≤ w'.heap.size) (hk : w'.heap[b]? = w.heap[b]?) : DBox w' b v0 v1 :=
  ⟨Nat.lt_of_lt_of_le h.lt hs, (World.cell?_of_block (a := ⟨b, 0, none⟩) hk).trans h.c0, (World.cell?_of_block (a := ⟨b, 1, none⟩) hk).trans h.c1, fun i => (World.frozen?_of_block (a := ⟨b, i, none⟩) hk).trans (h.f i)⟩
theorem DBox.below (h : DBox w b v0 v1) (hb : Below w.heap.size w w') : DBox w' b v0 v1 := h.keep hb.size (hb.block b h.lt)
theorem DBox.grown {row : Option Nat} (h : DBox w b v0 v1) (hg : w.grownBy w' row) (hr : row ≠ some b) : DBox w' b v0 v1 := h.keep hg.size (hg.block b h.lt (fun e => hr e.symm))
theorem DBox.new (w : World) (v0 v1 : Value) (t : TypeId) : DBox (w.alloc (.cells #[v0, v1] t)) w.heap.size v0 v1 := ⟨by simp, by simp, by simp, fun i => by simp⟩
theorem DBox.alloc (h : DBox w b v0 v1) (o : Obj) : DBox (w.alloc o) b v0 v1 := h.below (below_a1 w o)
theorem DBox.drew (h : DBox w b v0 v1) : DBox w.drew b v0 v1 := ⟨h.lt, h.c0, h.c1, h.f⟩
theorem DBox.far (h : DBox w b v0 v1) {p : Addr} (hp : b ≠ p.block) (u : Value) : DBox (w.setCell p u) b v0 v1 := h.keep (by simp) (Below.heap_setCell w p u b hp)
theorem DBox.set1 (h : DBox w b v0 v1) (u : Value) : DBox (w.setCell ⟨b, 1, none⟩ u) b v0 u :=
  ⟨by simpa using h.lt, by rw [World.cell?_setCell_other _ _ _ _ (by simp)]; exact h.c0, World.cell?_setCell_same' _ _ _ (by rw [h.c1]; rfl), fun i => by simpa using h.f i⟩
end

theorem three_reads (w : World) (a b c : Int) (t : TypeId) (g : Nat) (hg : g = w.heap.size) : Reads (w.alloc (.cells #[.int .i64 a, .int .i64 b, .int .i64 c] t)) (g + 1) 3 (some ⟨g, 0, none⟩) 1 [.int .i64 a, .int .i64 b, .int .i64 c] := by
  subst hg
  refine ⟨rfl, fun _ => ⟨_, rfl, by simp, fun j x hj => ?_⟩⟩
  match j, hj with
  | 0, hj => simp at hj; subst hj; simp [Addr.add]
  | 1, hj => simp at hj; subst hj; simp [Addr.add]
  | 2, hj => simp at hj; subst hj; simp [Addr.add]
theorem own_formG {w : World} {base e size n : Nat} {v : Value} {xs : List Value} (h : w.ownsRow base e size v n xs) : ∃ A c, v = .slice A n c ∧ n ≤ c := by
  rcases h.2 with ⟨rfl, rfl⟩ | ⟨g, cap, _, rfl, _, _, hc, _⟩
  · exact ⟨_, _, rfl, Nat.le_refl _⟩
  · exact ⟨_, _, rfl, hc⟩
end Go.Proofs.Ytpgnappddddlpaa
namespace Go.Proofs.Ytpgnappddddlpaa
open Go.RowKit

/-- A graph and whether there is one. -/
def MadeJ (w : World) (N : Int) (es : List GE) (ok : Bool) (e : Ending) (w' : World) : Prop :=
  ∃ A c, e = .returned (.tuple #[.agg #[.int .i64 N, .slice A es.length c], .bool ok]) ∧ w'.ownsRow w.heap.size 145 3 (.slice A es.length c) es.length (es.flatMap GE.cells) ∧ Below w.heap.size w w'

end Go.Proofs.Ytpgnappddddlpaa
namespace Go.Proofs.Ytpgnappddddlpaa
open Go.RowKit
set_option linter.unusedVariables false

/-- Rows of two kinds of element lie in two blocks. -/
theorem own_types {w : World} {lo1 lo2 e1 e2 s1 s2 n1 n2 : Nat} {v1 v2 : Value} {xs1 xs2 : List Value} (h1 : w.ownsRow lo1 e1 s1 v1 n1 xs1) (h2 : w.ownsRow lo2 e2 s2 v2 n2 xs2) (hne : e1 ≠ e2) : v1.ownBlock = none ∨ v2.ownBlock ≠ v1.ownBlock := by
  rcases h1.2 with ⟨rfl, _⟩ | ⟨g, cap, cur, rfl, _, hb, _⟩
  · exact .inl rfl
  · rcases h2.2 with ⟨rfl, _⟩ | ⟨g2, cap2, cur2, rfl, _, hb2, _⟩
    · exact .inr (by simp [Value.ownBlock])
    · refine .inr (fun e => ?_)
      simp [Value.ownBlock] at e
      subst e
      rw [hb] at hb2
      injection hb2 with h
      injection h with _ h _
      exact hne h
theorem grown_cell (w : World) (b i : Nat) (u : Value) : w.grownBy (w.setCell ⟨b, i, none⟩ u) (some b) :=
  ⟨rfl, rfl, rfl, by simp, fun k _ hk => Below.heap_setCell w ⟨b, i, none⟩ u k (fun e => hk (by rw [show k = b from e]))⟩
theorem grown_trans' {a b c : World} {row : Option Nat} (h : a.grownBy b row) (k : b.grownBy c row) : a.grownBy c row := h.trans k
/-- A row of one type does not lie in a block of another. -/
theorem own_kind {w : World} {lo e size n b : Nat} {v : Value} {xs : List Value} {cs : Array Value} {t : TypeId} (h : w.ownsRow lo e size v n xs) (hb : Blk w b cs t) (hne : e ≠ t) : v.ownBlock ≠ some b := by
  rcases h.2 with ⟨rfl, _⟩ | ⟨g, cap, cur, rfl, _, hg, _⟩
  · simp [Value.ownBlock]
  · intro e3
    have e3 : g = b := by simpa [Value.ownBlock] using e3
    subst e3
    have h9 : w.heap[g]? = some (.cells cs t (0, 0)) := hb
    rw [hg] at h9
    injection h9 with h9
    injection h9 with _ h2
    exact absurd h2 hne
theorem own_kept {w w' : World} {lo e size n g : Nat} {v : Value} {xs : List Value} (h : w.ownsRow lo e size v n xs) (hg : w.grownBy w' (some g)) (hne : v.ownBlock ≠ some g) : w'.ownsRow lo e size v n xs :=
  h.kept hg (.inr hne)
/-- A row of later days lies elsewhere. -/
theorem own_time {w2 : World} {v1 v2 : Value} {l1 sz lo2 e s n : Nat} {xs : List Value} (hlt : ∀ b, v1.ownBlock = some b → l1 ≤ b ∧ b < sz) (h2 : w2.ownsRow lo2 e s v2 n xs) (hle : sz ≤ lo2) : v1.ownBlock = none ∨ v2.ownBlock ≠ v1.ownBlock := by
  cases hv : v1.ownBlock with
  | none => exact .inl rfl
  | some b =>
    right
    intro e
    have a := (hlt b hv).2
    have c := (h2.lt b e).1
    omega
theorem own_old {v : Value} {l sz g : Nat} (hlt : ∀ b, v.ownBlock = some b → l ≤ b ∧ b < sz) (hle : sz ≤ g) : v.ownBlock = none ∨ v.ownBlock ≠ some g := by
  cases hv : v.ownBlock with
  | none => exact .inl rfl
  | some b =>
    right
    intro e
    injection e with e
    have a := (hlt b hv).2
    omega
theorem ap_symm {a b : Option Nat} (h : a = none ∨ b ≠ a) : b = none ∨ a ≠ b := by
  rcases h with h | h
  · cases b with
    | none => exact .inl rfl
    | some x => exact .inr (by rw [h]; simp)
  · exact .inr (fun e => h e.symm)
theorem OnlyB.blk {S : Nat → Prop} {w w' : World} {b : Nat} {cs : Array Value} {t : TypeId} (h : OnlyB S w w') (hb : Blk w b cs t) (hn : ¬ S b) : Blk w' b cs t := hb.keep (h.block b hb.lt hn)
/-- Nothing is written but in blocks from l to h, and new ones. -/
def Wr (l h : Nat) (w w' : World) : Prop := OnlyB (fun g => l ≤ g ∧ g < h) w w'
section
variable {w w' w0 : World} {l h l1 h1 lo e sz n c b : Nat} {A : Option Addr} {xs : List Value} {v : Value}
theorem Wr.of_grown {row : Option Nat} (hg : w.grownBy w' row) (hr : ∀ g, row = some g → l ≤ g ∧ g < h) : Wr l h w w' := (OnlyB.refl _ w).grown hg hr
theorem Wr.of_only {S : Nat → Prop} (ho : OnlyB S w w') (hr : ∀ g, S g → l ≤ g ∧ g < h) : Wr l h w w' := ho.mono hr
theorem Wr.size (hw : Wr l h w w') : w.heap.size ≤ w'.heap.size := OnlyB.size hw
theorem Wr.blk {cs : Array Value} {t : TypeId} (hw : Wr l h w w') (hb : Blk w b cs t) (hd : b < l ∨ h ≤ b) : Blk w' b cs t := hb.keep (OnlyB.block hw b hb.lt (fun hh => by have h1 := hh.1; have h2 := hh.2; omega))
theorem Wr.own (hw : Wr l h w w') (ho : w.ownsRow lo e sz v n xs) (ha : ∀ g, v.ownBlock = some g → l1 ≤ g ∧ g < h1) (hd : h1 ≤ l ∨ h ≤ l1) : w'.ownsRow lo e sz v n xs :=
  OnlyB.own ho hw (fun g hg hh => by have h2 := ha g hg; have h3 := hh.1; have h4 := hh.2; omega)
theorem Wr.orig {base : Nat} (hw : Wr l h w w') (hb : Below base w0 w) (hs : base ≤ w.heap.size) (hl : base ≤ l) : Below base w0 w' := hb.trans (OnlyB.toBelow hw hs (fun k hk => by have h1 := hk.1; omega))
end
end Go.Proofs.Ytpgnappddddlpaa
namespace Go.Proofs.Ytpgnappddddlpaa
open Go.RowKit

def Marked5 (w : World) (lo kk : Nat) (A : Option Addr) (n c k : Nat) (es : List KE) (e : Ending) (w' : World) : Prop :=
  e = .returned (.int .i64 (kk : Int)) ∧ w'.ownsRow lo 40 5 (.slice A n c) n ((mark5 k es).flatMap KE.cells) ∧ w.grownBy w' (Value.slice A n c).ownBlock

set_option maxRecDepth 10000 in
set_option maxHeartbeats 2000000 in
theorem markKs_any (A : Option Addr) (n c lo k : Nat) (es : List KE) (w : World) (ho : w.ownsRow lo 40 5 (.slice A n c) n (es.flatMap KE.cells)) (hl : es.length = n) (hn : n ≤ 2097152) (hk : k ≤ 16777216) :
    Calls Try.prog 128 #[.slice A n c, .int .i64 (k : Int)] w (Marked5 w lo (k + 5 * n) A n c k es) := by
  have HL := Lib.hid hl
  rcases Nat.eq_zero_or_pos n with rfl | hpos
  · obtain rfl : es = [] := List.eq_nil_of_length_eq_zero hl
    have HO := Lib.hid ho
    clear ho hl
    go_enter Try.func128, Try.ntmps128
    go_wp2
    go_loopw [1, 5] (fun q i wr => i = .int .i64 0 ∧ q = .int .i64 (k : Int) ∧ wr = w) (fun _ _ _ => 0)
    case atStart => exact ⟨rfl, rfl, rfl⟩
    case round =>
      obtain ⟨rfl, rfl, rfl⟩ := hrel
      go_wp2
      go_ret
      exact ⟨rfl, HO.out, World.grownBy.refl _ _⟩
  · obtain ⟨g, rfl⟩ := g_own_at ho hpos
    have HO : Hid (w.ownsRow lo 40 5 (.slice (some ⟨g, 0, none⟩) n c) n ((mark5 k (es.take 0) ++ es.drop 0).flatMap KE.cells)) := Lib.hid ho
    clear ho hl
    go_enter Try.func128, Try.ntmps128
    go_wp2
    go_loopw [1, 5] (fun q i wr => ∃ j : Nat, j ≤ n ∧ i = .int .i64 j ∧ q = .int .i64 ((k + 5 * j : Nat) : Int) ∧ Hid (wr.ownsRow lo 40 5 (.slice (some ⟨g, 0, none⟩) n c) n ((mark5 k (es.take j) ++ es.drop j).flatMap KE.cells)) ∧ Hid (w.grownBy wr (some g))) (fun _ i _ => n - (intOf i).toNat)
    case atStart => exact ⟨0, Nat.zero_le _, rfl, rfl, HO, Lib.hid (World.grownBy.refl _ _)⟩
    case round =>
      clear HO
      obtain ⟨j, hj, rfl, rfl, hown, hgr⟩ := hrel
      by_cases hlt : j < n
      · obtain ⟨e, he⟩ : ∃ e, es[j]? = some e := ⟨es[j]'(by rw [HL.out]; exact hlt), List.getElem?_eq_getElem _⟩
        have hmk : (mark5 k (es.take j)).length = j := by rw [mark5_len, List.length_take, HL.out]; omega
        have hown2 := hown.out
        rw [g_drop es j e he] at hown2
        have hq := fun i (hi : i < 5) => (hown2.cellAt (j * 5 + i) (by omega)).trans (flat_get KE.cells 5 KE.cells_len _ j i e (g_get _ _ _ _ hmk) hi)
        have hc0 : wr.cell? ⟨g, j * 5, none⟩ = some (.int .i64 e.f) := hq 0 (by omega)
        have hc1 : wr.cell? ⟨g, j * 5 + 1, none⟩ = some (.int .i64 e.t) := hq 1 (by omega)
        have hc2 : wr.cell? ⟨g, j * 5 + 2, none⟩ = some (.int .i64 e.w) := hq 2 (by omega)
        have hc3 : wr.cell? ⟨g, j * 5 + 3, none⟩ = some (.int .i64 e.i) := hq 3 (by omega)
        have hc4 : wr.cell? ⟨g, j * 5 + 4, none⟩ = some (.int .i64 e.v) := hq 4 (by omega)
        have hf0 := hown2.frozenAt (j * 5)
        have hf1 := hown2.frozenAt (j * 5 + 1)
        have hf2 := hown2.frozenAt (j * 5 + 2)
        have hf3 := hown2.frozenAt (j * 5 + 3)
        have hf4 := hown2.frozenAt (j * 5 + 4)
        have HS := Lib.hid (k_lay (e := ⟨((k + 5 * j : Nat) : Int), ((k + 5 * j : Nat) : Int) + 1, ((k + 5 * j : Nat) : Int) + 2, ((k + 5 * j : Nat) : Int) + 3, ((k + 5 * j : Nat) : Int) + 4⟩) hown2 hmk)
        have hb1 : ((k + 5 * j : Nat) : Int) + 1 + 1 = ((k + 5 * j : Nat) : Int) + 2 := by omega
        have hb2 : ((k + 5 * j : Nat) : Int) + 2 + 1 = ((k + 5 * j : Nat) : Int) + 3 := by omega
        have hb3 : ((k + 5 * j : Nat) : Int) + 3 + 1 = ((k + 5 * j : Nat) : Int) + 4 := by omega
        have HE := Lib.hid he
        clear hown hown2 hq he hmk
        have hq0 : k + 5 * j ≤ 40000000 := by omega
        obtain ⟨q, hq⟩ : ∃ q, q = k + 5 * j := ⟨_, rfl⟩
        rw [← hq] at HS hb1 hb2 hb3 hq0
        have HQ := Lib.hid hq
        simp only [← hq]
        clear hq
        go_wp2
        go_roundw
        case rel =>
          refine ⟨j + 1, by omega, by go_num, ?_, Lib.hid ?_, Lib.hid (hgr.out.trans ?_)⟩
          · have := HQ.out
            exact congrArg (Value.int .i64) (by first | omega | (simp only [IntKind.wrap_i64]; omega))
          · have h := HS.out.1
            rw [g_take es j e HE.out, mark5_snoc, List.length_take, HL.out, show min j n = j by omega, ← HQ.out, List.append_assoc]
            exact h
          · exact HS.out.2
        case measure => simp [intOf]; omega
      · obtain rfl : j = n := by omega
        go_wp2
        go_ret
        refine ⟨rfl, ?_, hgr.out⟩
        have h := hown.out
        rw [List.take_of_length_le (by rw [HL.out]; exact Nat.le_refl _), List.drop_eq_nil_of_le (by rw [HL.out]; exact Nat.le_refl _), List.append_nil] at h
        exact h

set_option maxRecDepth 10000 in
set_option maxHeartbeats 1000000 in
theorem heldKs_any (A : Option Addr) (n c k : Nat) (es : List KE) (w : World) (hr : SlK w A n (mark5 k es)) (hn : n ≤ 2097152) (hk : k ≤ 16777216) :
    Calls Try.prog 129 #[.slice A n c, .int .i64 (k : Int)] w (GNum w ((k + 5 * n : Nat) : Int)) := by
  have HR := Lib.hid hr
  have HL : Hid (es.length = n) := Lib.hid (by rw [← hr.len, mark5_len])
  have HG := Lib.hid (fun j (h : j < es.length) => mark5_get es k j h)
  clear hr
  go_enter Try.func129, Try.ntmps129
  go_wp2
  go_loopw [1, 5] (fun q i wr => ∃ j : Nat, j ≤ n ∧ i = .int .i64 j ∧ q = .int .i64 ((k + 5 * j : Nat) : Int) ∧ wr = w) (fun _ i _ => n - (intOf i).toNat)
  case atStart => exact ⟨0, Nat.zero_le _, rfl, rfl, rfl⟩
  case round =>
    obtain ⟨j, hj, rfl, rfl, rfl⟩ := hrel
    by_cases hlt : j < n
    · obtain ⟨b, off, e, rfl, hbw, he, c0, c1, c2, c3, c4⟩ := HR.out.at_ hlt
      have hee : e = ⟨((k + 5 * j : Nat) : Int), ((k + 5 * j : Nat) : Int) + 1, ((k + 5 * j : Nat) : Int) + 2, ((k + 5 * j : Nat) : Int) + 3, ((k + 5 * j : Nat) : Int) + 4⟩ := by
        have h1 := he.out
        rw [HG.out j (by rw [HL.out]; exact hlt)] at h1
        injection h1 with h1
        exact h1.symm
      subst hee
      clear he
      have hq0 : k + 5 * j ≤ 40000000 := by omega
      obtain ⟨q, hq⟩ : ∃ q, q = k + 5 * j := ⟨_, rfl⟩
      simp only [← hq] at c0 c1 c2 c3 c4 hq0 ⊢
      have hb1 : (q : Int) + 1 + 1 = (q : Int) + 2 := by omega
      have hb2 : (q : Int) + 2 + 1 = (q : Int) + 3 := by omega
      have hb3 : (q : Int) + 3 + 1 = (q : Int) + 4 := by omega
      have HQ := Lib.hid hq
      clear hq
      go_wp2
      go_roundw
      case rel =>
        refine ⟨j + 1, by omega, by go_num, ?_, by first | rfl | trivial⟩
        have := HQ.out
        exact congrArg (Value.int .i64) (by first | omega | (simp only [IntKind.wrap_i64]; omega))
      case measure => simp [intOf]; omega
    · obtain rfl : j = n := by omega
      go_wp2
      go_ret
      exact ⟨by first | rfl | trivial, Below.refl _ _⟩
end Go.Proofs.Ytpgnappddddlpaa
