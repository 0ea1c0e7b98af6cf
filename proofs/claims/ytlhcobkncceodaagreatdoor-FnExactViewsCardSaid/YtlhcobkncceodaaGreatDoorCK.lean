/- Words for slices of edges and of numbers in memory (plain lemmas over the model; no condition): 'SlG': a slice that reads as a list of edges; 'SlI': one that reads as a list of numbers; what is laid record by record. // Words that all texts on lists of records of three numbers share (no condition). // Words that all texts on graphs share (no condition). // Graphs: valid ones as data, and the contracts of the model's and the program's functions that ask it. Condition: at most 2^20 edges. -/
import Derived.Test.YtlhcobkncceodaaGreatDoorCJ
import Derived.Deep.QuietTactic
import Derived.Deep.RegionWith
import Derived.RegionTactic
import Derived.BigQuiet
namespace Go.Proofs.YtlhcobkncceodaaGreatDoor
open Go.RowKit

structure GE where
  f : Int
  t : Int
  w : Int
def GE.cells (e : GE) : List Value := [.int .i64 e.f, .int .i64 e.t, .int .i64 e.w]
def GE.v (e : GE) : Value := .agg #[.int .i64 e.f, .int .i64 e.t, .int .i64 e.w]
theorem GE.cells_len (e : GE) : e.cells.length = 3 := rfl
theorem GE.cells_one (e : GE) : ∀ u ∈ e.cells, u.oneCell' = true := by
  intro u hu
  simp [GE.cells] at hu
  rcases hu with rfl | rfl | rfl <;> rfl
theorem edges_one (es : List GE) : ∀ u ∈ es.flatMap GE.cells, u.oneCell' = true := fun u hu => by
  obtain ⟨e, _, he⟩ := List.mem_flatMap.1 hu
  exact e.cells_one u he

/-- A slice of edges in memory. -/
structure SlG (w : World) (A : Option Addr) (n : Nat) (es : List GE) : Prop where
  len : es.length = n
  row : Row w 3 A n (es.flatMap GE.cells)
/-- A slice of numbers in memory. -/
def vi (xs : List Int) : List Value := xs.map (.int .i64)
theorem vi_len (xs : List Int) : (vi xs).length = xs.length := by simp [vi]
theorem vi_get (xs : List Int) (j : Nat) : (vi xs)[j]? = (xs[j]?).map (.int .i64) := by simp [vi]
theorem vi_append (xs ys : List Int) : vi (xs ++ ys) = vi xs ++ vi ys := by simp [vi]
theorem vi_one (xs : List Int) : ∀ u ∈ vi xs, u.oneCell' = true := by
  intro u hu
  simp only [vi, List.mem_map] at hu
  obtain ⟨n, _, rfl⟩ := hu
  rfl
structure SlI (w : World) (A : Option Addr) (n : Nat) (xs : List Int) : Prop where
  len : xs.length = n
  row : Row w 1 A n (vi xs)
section
variable {w w' : World} {n c lo e : Nat} {A : Option Addr} {es : List GE} {xs : List Int}
theorem SlG.keep (h : SlG w A n es) (hs : w.heap.size ≤ w'.heap.size) (hk : ∀ i, i < w.heap.size → w'.heap[i]? = w.heap[i]?) : SlG w' A n es := ⟨h.len, h.row.keep hs hk⟩
theorem SlG.below (h : SlG w A n es) (hb : Below w.heap.size w w') : SlG w' A n es := h.keep hb.size hb.block
theorem SlG.drewN (h : SlG w A n es) (m : Nat) : SlG (w.drewN m) A n es := ⟨h.len, h.row.drewN m⟩
theorem SlG.nil : SlG w A 0 [] := ⟨rfl, Row.nil⟩
theorem SlI.keep (h : SlI w A n xs) (hs : w.heap.size ≤ w'.heap.size) (hk : ∀ i, i < w.heap.size → w'.heap[i]? = w.heap[i]?) : SlI w' A n xs := ⟨h.len, h.row.keep hs hk⟩
theorem SlI.below (h : SlI w A n xs) (hb : Below w.heap.size w w') : SlI w' A n xs := h.keep hb.size hb.block
theorem SlI.drewN (h : SlI w A n xs) (m : Nat) : SlI (w.drewN m) A n xs := ⟨h.len, h.row.drewN m⟩
theorem SlI.nil : SlI w A 0 [] := ⟨rfl, Row.nil⟩
/-- The edge at place j, its three cells. -/
theorem SlG.at_ {j : Nat} (h : SlG w A n es) (hj : j < n) : ∃ (b off : Nat) (e : GE), A = some ⟨b, off, none⟩ ∧ b < w.heap.size ∧ Hid (es[j]? = some e) ∧
    w.cell? ⟨b, off + j * 3, none⟩ = some (.int .i64 e.f) ∧ w.cell? ⟨b, off + j * 3 + 1, none⟩ = some (.int .i64 e.t) ∧ w.cell? ⟨b, off + j * 3 + 2, none⟩ = some (.int .i64 e.w) := by
  obtain ⟨b, off, rfl, hb, hc⟩ := h.row.lies (by omega)
  have hl : j < es.length := by have := h.len; omega
  have he : es[j]? = some es[j] := List.getElem?_eq_getElem hl
  refine ⟨b, off, es[j], rfl, hb, he, ?_, ?_, ?_⟩
  · exact hc (j * 3) _ (flat_get GE.cells 3 GE.cells_len es j 0 _ he (by omega))
  · exact hc (j * 3 + 1) _ (flat_get GE.cells 3 GE.cells_len es j 1 _ he (by omega))
  · exact hc (j * 3 + 2) _ (flat_get GE.cells 3 GE.cells_len es j 2 _ he (by omega))
theorem SlI.at_ {j : Nat} (h : SlI w A n xs) (hj : j < n) : ∃ (b off : Nat) (x : Int), A = some ⟨b, off, none⟩ ∧ b < w.heap.size ∧ Hid (xs[j]? = some x) ∧ w.cell? ⟨b, off + j, none⟩ = some (.int .i64 x) := by
  obtain ⟨b, off, rfl, hb, hc⟩ := h.row.lies (by omega)
  have hl : j < xs.length := by have := h.len; omega
  have he : xs[j]? = some xs[j] := List.getElem?_eq_getElem hl
  exact ⟨b, off, xs[j], rfl, hb, he, hc j _ (by rw [vi_get, he]; rfl)⟩
theorem SlG.of_own (h : w.ownsRow lo e 3 (.slice A n c) n (es.flatMap GE.cells)) (hl : es.length = n) : SlG w A n es := ⟨hl, Row.of_own h⟩
theorem SlI.of_own (h : w.ownsRow lo e 1 (.slice A n c) n (vi xs)) : SlI w A n xs := ⟨by have := h.1; rw [vi_len] at this; omega, Row.of_own h⟩
end
theorem g_chain {w W W' : World} (h : Below w.heap.size w W) (k : Below W.heap.size W W') : Below w.heap.size w W' := h.trans (k.mono h.size)

/-! ### a row that is laid record by record -/
theorem g_rep {α : Type} (f : α → List Value) (z : α) (k : Nat) (hf : ∀ a, (f a).length = k) (hk : 0 < k) (cs : Array Value) (h : cs.toList = f z) (n : Nat) : (madeCells cs (n * k)).toList = (List.replicate n z).flatMap f := by
  have hs : cs.size = k := by rw [← Array.length_toList, h, hf]
  apply List.ext_getElem?
  intro i
  by_cases hi : i < n * k
  · have hj : i / k < n := Nat.div_lt_of_lt_mul (by rw [Nat.mul_comm]; exact hi)
    have hr : i % k < k := Nat.mod_lt _ hk
    have e := flat_get f k hf (List.replicate n z) (i / k) (i % k) z (by simp [hj]) hr
    rw [show i / k * k + i % k = i by rw [Nat.mul_comm]; exact Nat.div_add_mod i k] at e
    rw [e]
    simp only [madeCells, Array.toList_map, Array.toList_range, List.getElem?_map, List.getElem?_range hi, Option.map_some, hs]
    rw [← h, Array.getElem?_toList, getElem!_pos cs (i % k) (by omega), Array.getElem?_eq_getElem (by omega)]
  · rw [List.getElem?_eq_none (by simp [madeCells]; omega), List.getElem?_eq_none (by rw [flat_len f k hf]; simp; omega)]
theorem g_take {α : Type} (es : List α) (k : Nat) (e : α) (h : es[k]? = some e) : es.take (k + 1) = es.take k ++ [e] := by
  obtain ⟨hk, rfl⟩ := List.getElem?_eq_some_iff.1 h
  exact List.take_succ_eq_append_getElem hk
theorem g_drop {α : Type} (es : List α) (k : Nat) (e : α) (h : es[k]? = some e) : es.drop k = e :: es.drop (k + 1) := by
  obtain ⟨hk, rfl⟩ := List.getElem?_eq_some_iff.1 h
  exact List.drop_eq_getElem_cons hk
theorem g_set {α : Type} (made rest : List α) (x y : α) (k : Nat) (hm : made.length = k) : (made ++ x :: rest).set k y = made ++ y :: rest := by
  rw [List.set_append_right _ _ (by omega), hm, Nat.sub_self]
  rfl
theorem g_get {α : Type} (made rest : List α) (x : α) (k : Nat) (hm : made.length = k) : (made ++ x :: rest)[k]? = some x := by
  simp [hm]
theorem g_own_at {w : World} {lo t size n c : Nat} {A : Option Addr} {cs : List Value} (h : w.ownsRow lo t size (.slice A n c) n cs) (hn : 0 < n) : ∃ g, A = some ⟨g, 0, none⟩ := by
  obtain ⟨g, cap, hv, _⟩ := h.form hn
  injection hv with hv
  exact ⟨g, hv⟩
/-- Three cells of one edge stored. -/
theorem g_lay {w : World} {lo ty g c n k : Nat} {made rest : List GE} {x e : GE} (h : w.ownsRow lo ty 3 (.slice (some ⟨g, 0, none⟩) n c) n ((made ++ x :: rest).flatMap GE.cells)) (hm : made.length = k) :
    (((w.setCell ⟨g, k * 3, none⟩ (.int .i64 e.f)).setCell ⟨g, k * 3 + 1, none⟩ (.int .i64 e.t)).setCell ⟨g, k * 3 + 2, none⟩ (.int .i64 e.w)).ownsRow lo ty 3 (.slice (some ⟨g, 0, none⟩) n c) n ((made ++ e :: rest).flatMap GE.cells) ∧
      w.grownBy (((w.setCell ⟨g, k * 3, none⟩ (.int .i64 e.f)).setCell ⟨g, k * 3 + 1, none⟩ (.int .i64 e.t)).setCell ⟨g, k * 3 + 2, none⟩ (.int .i64 e.w)) (some g) := by
  have h1 := h.stored (k * 3) (.int .i64 e.f)
  have h2 := h1.1.stored (k * 3 + 1) (.int .i64 e.t)
  have h3 := h2.1.stored (k * 3 + 2) (.int .i64 e.w)
  have e1 := flat_set GE.cells 3 GE.cells_len (made ++ x :: rest) k 0 x ⟨e.f, x.t, x.w⟩ (.int .i64 e.f) (g_get _ _ _ _ hm) (by omega) rfl
  rw [Nat.add_zero, g_set _ _ _ _ _ hm] at e1
  have e2 := flat_set GE.cells 3 GE.cells_len (made ++ ⟨e.f, x.t, x.w⟩ :: rest) k 1 ⟨e.f, x.t, x.w⟩ ⟨e.f, e.t, x.w⟩ (.int .i64 e.t) (g_get _ _ _ _ hm) (by omega) rfl
  rw [g_set _ _ _ _ _ hm] at e2
  have e3 := flat_set GE.cells 3 GE.cells_len (made ++ ⟨e.f, e.t, x.w⟩ :: rest) k 2 ⟨e.f, e.t, x.w⟩ e (.int .i64 e.w) (g_get _ _ _ _ hm) (by omega) rfl
  rw [g_set _ _ _ _ _ hm] at e3
  rw [e1, e2, e3] at h3
  exact ⟨h3.1, (h1.2.trans h2.2).trans h3.2⟩
end Go.Proofs.YtlhcobkncceodaaGreatDoor
namespace Go.Proofs.YtlhcobkncceodaaGreatDoor
open Go.RowKit

theorem Tryz.infoInt : (Tryz.prog.info? 3).map (fun i => (i.zero, i.size, i.bytes)) = some (some (.int .i64 0), 1, 8) := by kernel_rfl

def GNum (w : World) (b : Int) (e : Ending) (w' : World) : Prop := e = .returned (.int .i64 b) ∧ Below w.heap.size w w'
def GTell (w : World) (b : Bool) (e : Ending) (w' : World) : Prop := e = .returned (.bool b) ∧ Below w.heap.size w w'
def leftG (left : Int) (n : Nat) : Int := if (n : Int) ≤ left then left - n else -1
theorem leftG_pos {left : Int} {n : Nat} (h : (n : Int) ≤ left) : leftG left n = left - n := if_pos h
theorem leftG_neg {left : Int} {n : Nat} (h : left < (n : Int)) : leftG left n = -1 := if_neg (by omega)
theorem g_int {k : IntKind} {a b : Int} (h : a = b) : Ending.returned (.int k a) = .returned (.int k b) := by rw [h]
theorem g_bool {a b : Bool} (h : a = b) : Ending.returned (.bool a) = .returned (.bool b) := by rw [h]

def zeroG : GE := ⟨0, 0, 0⟩
theorem rep_succ (n k : Nat) (h : k < n) : List.replicate (n - k) zeroG = zeroG :: List.replicate (n - (k + 1)) zeroG := by
  rw [show n - k = (n - (k + 1)) + 1 by omega, List.replicate_succ]

theorem own_lowG {w : World} {lo e size n : Nat} {v : Value} {xs : List Value} (h : w.ownsRow lo e size v n xs) {p : Addr} (hp : p.block < lo) (u : Value) : (w.setCell p u).ownsRow lo e size v n xs := by
  obtain ⟨h1, h2⟩ := h
  refine ⟨h1, ?_⟩
  rcases h2 with h2 | ⟨g, cap, cur, e, hb, hg, r⟩
  · exact .inl h2
  · exact .inr ⟨g, cap, cur, e, hb, (Below.heap_setCell w p u g (by omega)).trans hg, r⟩
theorem own_monoG {w : World} {lo lo' e size n : Nat} {v : Value} {xs : List Value} (h : w.ownsRow lo e size v n xs) (hl : lo' ≤ lo) : w.ownsRow lo' e size v n xs := by
  obtain ⟨h1, h2⟩ := h
  refine ⟨h1, ?_⟩
  rcases h2 with h2 | ⟨g, cap, cur, e, hb, r⟩
  · exact .inl h2
  · exact .inr ⟨g, cap, cur, e, by omega, r⟩

end Go.Proofs.YtlhcobkncceodaaGreatDoor
namespace Go.Proofs.YtlhcobkncceodaaGreatDoor
open Go.RowKit

theorem Tryz.infoEdge : (Tryz.prog.info? 113).map (fun i => (i.zero, i.size, i.bytes)) = some (some (.agg #[.int .i64 0, .int .i64 0, .int .i64 0]), 3, 24) := by kernel_rfl

/-- New edges. -/
def MadeG (w : World) (es : List GE) (e : Ending) (w' : World) : Prop :=
  ∃ A c, e = .returned (.slice A es.length c) ∧ w'.ownsRow w.heap.size 113 3 (.slice A es.length c) es.length (es.flatMap GE.cells) ∧ Below w.heap.size w w'
/-- A new graph. -/
def MadeGr (w : World) (N : Int) (es : List GE) (e : Ending) (w' : World) : Prop :=
  ∃ A c, e = .returned (.agg #[.int .i64 N, .slice A es.length c]) ∧ w'.ownsRow w.heap.size 113 3 (.slice A es.length c) es.length (es.flatMap GE.cells) ∧ Below w.heap.size w w'
end Go.Proofs.YtlhcobkncceodaaGreatDoor
namespace Go.Proofs.YtlhcobkncceodaaGreatDoor
open Go.RowKit

def edgeB (n : Int) (e : GE) : Bool := decide (0 ≤ e.f ∧ e.f < n ∧ 0 ≤ e.t ∧ e.t < n ∧ 0 ≤ e.w ∧ e.w ≤ 1000)
def graphB (n : Int) (es : List GE) : Bool := decide (0 ≤ n ∧ n ≤ 150 ∧ es.length ≤ 400) && es.all (edgeB n)
theorem edgeB_iff {n : Int} {e : GE} (h : edgeB n e = true) : 0 ≤ e.f ∧ e.f < n ∧ 0 ≤ e.t ∧ e.t < n ∧ 0 ≤ e.w ∧ e.w ≤ 1000 := of_decide_eq_true h
theorem graphB_iff {n : Int} {es : List GE} (h : graphB n es = true) : 0 ≤ n ∧ n ≤ 150 ∧ es.length ≤ 400 ∧ ∀ e ∈ es, edgeB n e = true := by
  unfold graphB at h
  rw [Bool.and_eq_true, decide_eq_true_iff, List.all_eq_true] at h
  exact ⟨h.1.1, h.1.2.1, h.1.2.2, h.2⟩
theorem graphB_no {n : Int} {es : List GE} {k : Nat} {e : GE} (h : es[k]? = some e) (he : edgeB n e = false) : graphB n es = false := by
  cases hh : graphB n es with
  | false => rfl
  | true =>
    have := (graphB_iff hh).2.2.2 e (List.mem_of_getElem? h)
    rw [he] at this
    cases this
theorem all_step {n : Int} {es : List GE} {k : Nat} {e : GE} (h : es[k]? = some e) (ha : ∀ x ∈ es.take k, edgeB n x = true) (he : edgeB n e = true) : ∀ x ∈ es.take (k + 1), edgeB n x = true := by
  rw [g_take es k e h]
  intro x hx
  rcases List.mem_append.1 hx with hx | hx
  · exact ha x hx
  · rw [List.mem_singleton.1 hx]; exact he

/-- Cells of a block that hold an edge. -/
structure EBox (w : World) (b : Nat) (e : GE) : Prop where
  lt : b < w.heap.size
  c0 : w.cell? ⟨b, 0, none⟩ = some (.int .i64 e.f)
  c1 : w.cell? ⟨b, 1, none⟩ = some (.int .i64 e.t)
  c2 : w.cell? ⟨b, 2, none⟩ = some (.int .i64 e.w)
/-- A block that holds a graph. -/
structure NBox (w : World) (b : Nat) (N : Int) (A : Option Addr) (n c : Nat) : Prop where
  lt : b < w.heap.size
  c0 : w.cell? ⟨b, 0, none⟩ = some (.int .i64 N)
  c1 : w.cell? ⟨b, 1, none⟩ = some (.slice A n c)
section
variable {w w' : World} {b n c : Nat} {N : Int} {A : Option Addr} {e : GE}
theorem NBox.keep (h : NBox w b N A n c) (hs : w.heap.size ≤ w'.heap.size) (hk : w'.heap[b]? = w.heap[b]?) : NBox w' b N A n c :=
  ⟨Nat.lt_of_lt_of_le h.lt hs, (World.cell?_of_block (a := ⟨b, 0, none⟩) hk).trans h.c0, (World.cell?_of_block (a := ⟨b, 1, none⟩) hk).trans h.c1⟩
theorem NBox.below (h : NBox w b N A n c) (hb : Below w.heap.size w w') : NBox w' b N A n c := h.keep hb.size (hb.block b h.lt)
theorem NBox.new (w : World) (N : Int) (A : Option Addr) (n c : Nat) (t : TypeId) : NBox (w.alloc (.cells #[.int .i64 N, .slice A n c] t)) w.heap.size N A n c := ⟨by simp, by simp, by simp⟩
theorem NBox.alloc (h : NBox w b N A n c) (o : Obj) : NBox (w.alloc o) b N A n c := h.below (below_a1 w o)
end

set_option maxRecDepth 10000 in
set_option maxHeartbeats 1000000 in
theorem implEdgeOk (e : GE) (N : Int) (w : World) :
    Calls Tryz.prog 89 #[.agg #[.int .i64 e.f, .int .i64 e.t, .int .i64 e.w], .int .i64 N] w (GTell w (edgeB N e)) := by
  obtain ⟨f, t, x⟩ := e
  by_cases h1 : 0 ≤ f
  · by_cases h2 : f < N
    · by_cases h3 : 0 ≤ t
      · by_cases h4 : t < N
        · by_cases h5 : 0 ≤ x
          · by_cases h6 : x ≤ 1000
            · have HV : Hid (edgeB N ⟨f, t, x⟩ = true) := Lib.hid (by simp [edgeB, h1, h2, h3, h4, h5, h6])
              go_enter Tryz.func89, Tryz.ntmps89
              go_wp2
              go_ret
              rw [HV.out]
              exact ⟨g_bool (by simp <;> omega), below_a1 _ _⟩
            · have HV : Hid (edgeB N ⟨f, t, x⟩ = false) := Lib.hid (by simp [edgeB, h6])
              go_enter Tryz.func89, Tryz.ntmps89
              go_wp2
              go_ret
              rw [HV.out]
              exact ⟨g_bool (by first | rfl | (simp <;> omega)), below_a1 _ _⟩
          · have HV : Hid (edgeB N ⟨f, t, x⟩ = false) := Lib.hid (by simp [edgeB, h5])
            go_enter Tryz.func89, Tryz.ntmps89
            go_wp2
            go_ret
            rw [HV.out]
            exact ⟨g_bool (by first | rfl | (simp <;> omega)), below_a1 _ _⟩
        · have HV : Hid (edgeB N ⟨f, t, x⟩ = false) := Lib.hid (by simp [edgeB, h4])
          go_enter Tryz.func89, Tryz.ntmps89
          go_wp2
          go_ret
          rw [HV.out]
          exact ⟨g_bool (by first | rfl | (simp <;> omega)), below_a1 _ _⟩
      · have HV : Hid (edgeB N ⟨f, t, x⟩ = false) := Lib.hid (by simp [edgeB, h3])
        go_enter Tryz.func89, Tryz.ntmps89
        go_wp2
        go_ret
        rw [HV.out]
        exact ⟨g_bool (by first | rfl | (simp <;> omega)), below_a1 _ _⟩
    · have HV : Hid (edgeB N ⟨f, t, x⟩ = false) := Lib.hid (by simp [edgeB, h2])
      go_enter Tryz.func89, Tryz.ntmps89
      go_wp2
      go_ret
      rw [HV.out]
      exact ⟨g_bool (by first | rfl | (simp <;> omega)), below_a1 _ _⟩
  · have HV : Hid (edgeB N ⟨f, t, x⟩ = false) := Lib.hid (by simp [edgeB, h1])
    go_enter Tryz.func89, Tryz.ntmps89
    go_wp2
    go_ret
    rw [HV.out]
    exact ⟨g_bool (by first | rfl | (simp <;> omega)), below_a1 _ _⟩

set_option maxRecDepth 10000 in
set_option maxHeartbeats 2000000 in
theorem implGraphOk (N : Int) (A : Option Addr) (n c : Nat) (es : List GE) (w : World) (hr : SlG w A n es) (hn : n ≤ 1048576) :
    Calls Tryz.prog 49 #[.agg #[.int .i64 N, .slice A n c]] w (GTell w (graphB N es)) := by
  have hel := hr.len
  by_cases h1 : 0 ≤ N
  · by_cases h2 : N ≤ 150
    · by_cases h3 : n ≤ 400
      · have CE := Lib.hid (fun e W => implEdgeOk e N W)
        have HR := Lib.hid hr
        have HG : Hid ((∀ x ∈ es, edgeB N x = true) → graphB N es = true) := Lib.hid (fun hh => by
          unfold graphB
          rw [Bool.and_eq_true, decide_eq_true_iff, List.all_eq_true]
          exact ⟨⟨h1, h2, by omega⟩, hh⟩)
        have HEL := Lib.hid hel
        clear hr hel
        go_enter Tryz.func49, Tryz.ntmps49
        go_wp2
        have X0 := Lib.hid (NBox.new w N A n c 25)
        have HB0 := Lib.hid (below_a1 w (.cells #[.int .i64 N, .slice A n c] 25))
        go_loopw [22] (fun i wr => ∃ k : Nat, k ≤ n ∧ i = .int .i64 k ∧ Hid (NBox wr w.heap.size N A n c) ∧ Hid (Below w.heap.size w wr) ∧ Hid (∀ x ∈ es.take k, edgeB N x = true)) (fun i _ => n - (intOf i).toNat)
        case atStart => exact ⟨0, Nat.zero_le _, rfl, X0, HB0, Lib.hid (by simp)⟩
        case round =>
          clear X0 HB0
          obtain ⟨k, hk, rfl, hx, hbel, hall⟩ := hrel
          by_cases hlt : k < n
          · obtain ⟨b, off, e, rfl, hbw, he, c0, c1, c2⟩ := HR.out.at_ hlt
            have c0 := (hbel.out.cell (p := ⟨b, off + k * 3, none⟩) hbw).trans c0
            have c1 := (hbel.out.cell (p := ⟨b, off + k * 3 + 1, none⟩) hbw).trans c1
            have c2 := (hbel.out.cell (p := ⟨b, off + k * 3 + 2, none⟩) hbw).trans c2
            obtain ⟨l0, x0, x1⟩ := hx.out
            have hwle : w.heap.size ≤ wr.heap.size := hbel.out.size
            go_wp2_with fail
            refine (CE.out e _).mono ?_
            rintro e1 w1 ⟨rfl, hb1⟩
            have HB1 := Lib.hid (g_chain (below_a1 wr (.cells #[.int .i64 e.f, .int .i64 e.t, .int .i64 e.w] 113)) hb1)
            have X1 := Lib.hid (hx.out.below HB1.out)
            clear hb1 c0 c1 c2 l0 x0 x1
            cases hv : edgeB N e with
            | true =>
              go_wp2
              go_roundw
              case rel => exact ⟨k + 1, by omega, by go_num, X1, Lib.hid (g_chain hbel.out HB1.out), Lib.hid (all_step he.out hall.out hv)⟩
              case measure => simp [intOf]; omega
            | false =>
              have HV := Lib.hid (graphB_no he.out hv)
              go_wp2
              go_ret
              rw [HV.out]
              exact ⟨rfl, g_chain hbel.out HB1.out⟩
          · obtain rfl : k = n := by omega
            have HV := Lib.hid (HG.out (fun x hx => hall.out x (by rw [List.take_of_length_le (by rw [HEL.out]; exact Nat.le_refl _)]; exact hx)))
            go_wp2
            go_ret
            rw [HV.out]
            exact ⟨rfl, hbel.out⟩
      · have HV : Hid (graphB N es = false) := Lib.hid (by simp [graphB, hel, h3])
        clear hr hel
        go_enter Tryz.func49, Tryz.ntmps49
        go_wp2
        go_ret
        rw [HV.out]
        exact ⟨g_bool (by first | rfl | (simp <;> omega)), below_a1 _ _⟩
    · have HV : Hid (graphB N es = false) := Lib.hid (by simp [graphB, h2])
      clear hr hel
      go_enter Tryz.func49, Tryz.ntmps49
      go_wp2
      go_ret
      rw [HV.out]
      exact ⟨g_bool (by first | rfl | (simp <;> omega)), below_a1 _ _⟩
  · have HV : Hid (graphB N es = false) := Lib.hid (by simp [graphB, h1])
    clear hr hel
    go_enter Tryz.func49, Tryz.ntmps49
    go_wp2
    go_ret
    rw [HV.out]
    exact ⟨g_bool (by first | rfl | (simp <;> omega)), below_a1 _ _⟩
end Go.Proofs.YtlhcobkncceodaaGreatDoor
