/- Words for reading a graph's text: a block of two writable cells, what grows while one block is written, slices of strings cut short (no condition). -/
import Derived.Test.YtggfjnmplokccaaDoorNumsS
namespace Go.Proofs.YtggfjnmplokccaaDoor
open Go.RowKit

theorem grown_up {a b c : World} {row r2 : Option Nat} (h : a.grownBy b row) (k : b.grownBy c r2) (hr : ∀ j, r2 = some j → a.heap.size ≤ j) : a.grownBy c row :=
  ⟨k.os.trans h.os, k.tape.trans h.tape, k.output.trans h.output, Nat.le_trans h.size k.size, fun i hi hn => (k.block i (Nat.lt_of_lt_of_le hi h.size) (fun e => by have := hr i e.symm; omega)).trans (h.block i hi hn)⟩
theorem grown_below {a b c : World} {row : Option Nat} (h : a.grownBy b row) (k : Below b.heap.size b c) : a.grownBy c row := grownBy_trans h (grownBy_of_below k row)
theorem grown_set {a b : World} {g i : Nat} (h : a.grownBy b (some g)) (u : Value) : a.grownBy (b.setCell ⟨g, i, none⟩ u) (some g) :=
  ⟨h.os, h.tape, h.output, by simpa using h.size, fun j hj hn => (Below.heap_setCell b ⟨g, i, none⟩ u j (fun e => hn (by rw [e]))).trans (h.block j hj hn)⟩
theorem grown_drew {a b : World} {row : Option Nat} (h : a.grownBy b row) : a.grownBy b.drew row := ⟨h.os, h.tape, h.output, h.size, h.block⟩

/-- A block of two cells that may be written. -/
structure DBox (w : World) (b : Nat) (v0 v1 : Value) : Prop where
  lt : b < w.heap.size
  c0 : w.cell? ⟨b, 0, none⟩ = some v0
  c1 : w.cell? ⟨b, 1, none⟩ = some v1
  f : ∀ i, w.frozen? ⟨b, i, none⟩ = false
section
variable {w w' : World} {b : Nat} {v0 v1 : Value}
theorem DBox.keep (h : DBox w b v0 v1) (hs : w.heap.size ≤ w'.heap.size) (hk : w'.heap[b]? = w.heap[b]?) : DBox w' b v0 v1 :=
  ⟨Nat.lt_of_lt_of_le h.lt hs, (World.cell?_of_block (a := ⟨b, 0, none⟩) hk).trans h.c0, (World.cell?_of_block (a := ⟨b, 1, none⟩) hk).trans h.c1, fun i => (World.frozen?_of_block (a := ⟨b, i, none⟩) hk).trans (h.f i)⟩
theorem DBox.below (h : DBox w b v0 v1) (hb : Below w.heap.size w w') : DBox w' b v0 v1 := h.keep hb.size (hb.block b h.lt)
theorem DBox.grown {row : Option Nat} (h : DBox w b v0 v1) (hg : w.grownBy w' row) (hr : row ≠ some b) : DBox w' b v0 v1 := h.keep hg.size (hg.block b h.lt (fun e => hr e.symm))
theorem DBox.new (w : World) (v0 v1 : Value) (t : TypeId) : DBox (w.alloc (.cells #[v0, v1] t)) w.heap.size v0 v1 := ⟨by simp, by simp, by simp, fun i => by simp⟩
theorem DBox.alloc (h : DBox w b v0 v1) (o : Obj) : DBox (w.alloc o) b v0 v1 := h.below (below_a1 w o)
theorem DBox.drew (h : DBox w b v0 v1) : DBox w.drew b v0 v1 := ⟨h.lt, h.c0, h.c1, h.f⟩
theorem DBox.far (h : DBox w b v0 v1) {p : Addr} (hp : b ≠ p.block) (u : Value) : DBox (w.setCell p u) b v0 v1 := h.keep (by simp) (Below.heap_setCell w p u b hp)
theorem DBox.set1 (h : DBox w b v0 v1) (u : Value) : DBox (w.setCell ⟨b, 1, none⟩ u) b v0 u :=
  ⟨by simpa using h.lt, by rw [World.cell?_setCell_other _ _ _ _ (by simp)]; exact h.c0, World.cell?_setCell_same' _ _ _ (by rw [h.c1]; rfl), fun i => by simpa using h.f i⟩
end

/-! ### slices of strings cut short -/
theorem strElem : Tryd.prog.underlying 39 = some (.slice (Tryd.prog.elem 39)) := by simp [Program.elem, Tryd.underlying39]
theorem strElem' : Tryd.prog.elem 39 = 9 := by simp [Program.elem, Tryd.underlying39]
theorem strSize (w : World) : (Go.sizeOf 9).run Tryd.prog w = .ok 1 w := by kernel_rfl
theorem r_add (b off k : Nat) : (⟨b, off, none⟩ : Addr).add k = ⟨b, off + k, none⟩ := by unfold Addr.add; split <;> simp_all
theorem rest_from {P : Option Addr} {n c : Nat} {ss : List ByteArray} {w : World} (hr : RdS w P n ss) (h1 : 1 ≤ n) (hc : n ≤ c) :
    ∃ P', (∀ W, (Instr.slice 39 (.slice P n c) (some (.int .i64 1)) none none).run Tryd.prog W = .ok (.slice P' (n - 1) (c - 1)) W) ∧ RdS w P' (n - 1) (ss.drop 1) := by
  refine ⟨if c = 1 then P else P.map (·.add (1 * 1)), fun W => ?_, ?_⟩
  · rw [run_slice_l W _ _ _ _ strElem .i64 1 (by omega) (by omega), strElem', strSize]
    rfl
  · obtain ⟨b, off, rfl, hb, hcell⟩ := hr.lies (by omega)
    have hl := hr.len
    refine ⟨by rw [List.length_drop, hl], fun hn => ?_⟩
    rw [if_neg (by omega)]
    refine ⟨b, off + 1, by simp [r_add], hb, fun j s hs => ?_⟩
    rw [List.getElem?_drop] at hs
    rw [Nat.add_assoc]
    exact hcell (1 + j) s hs
theorem most_to {P : Option Addr} {n c m : Nat} {ss : List ByteArray} {w : World} (hr : RdS w P n ss) (hm : m ≤ n) (hc : n ≤ c) :
    ∃ P', (∀ W, (Instr.slice 39 (.slice P n c) none (some (.int .i64 (m : Int))) none).run Tryd.prog W = .ok (.slice P' m c) W) ∧ RdS w P' m (ss.take m) := by
  refine ⟨if c = 0 then P else P.map (·.add (0 * 1)), fun W => ?_, ?_⟩
  · rw [run_slice_h W _ _ _ _ strElem .i64 (m : Int) (by omega) (by omega), strElem', strSize, Int.toNat_natCast]
    rfl
  · have hl := hr.len
    refine ⟨by rw [List.length_take]; omega, fun hn => ?_⟩
    obtain ⟨b, off, rfl, hb, hcell⟩ := hr.lies (by omega)
    rw [if_neg (by omega)]
    refine ⟨b, off, by simp [r_add], hb, fun j s hs => hcell j s ?_⟩
    rw [List.getElem?_take] at hs
    split at hs
    · exact hs
    · cases hs

/-! ### what reading leaves -/
def ReadRes (w : World) (r : RG) (e : Ending) (w' : World) : Prop :=
  ∃ A c, e = .returned (.tuple #[.agg #[.int .i64 r.N, .slice A r.es.length c], .int .i64 r.c]) ∧ w'.ownsRow w.heap.size 36 3 (.slice A r.es.length c) r.es.length (r.es.flatMap GE.cells) ∧ Below w.heap.size w w'
theorem below_two {w W : World} (hb : Below w.heap.size w W) (u v : Value) : Below w.heap.size w ((W.setCell ⟨w.heap.size, 0, none⟩ u).setCell ⟨w.heap.size, 1, none⟩ v) :=
  (hb.setCell (p := ⟨w.heap.size, 0, none⟩) (Nat.le_refl _) _).setCell (p := ⟨w.heap.size, 1, none⟩) (Nat.le_refl _) _
theorem read_bad {w W : World} (c : Int) (hb : Below w.heap.size w W) (u v : Value) : ReadRes w (badG c) (.returned (.tuple #[.agg #[.int .i64 0, .slice none 0 0], .int .i64 c])) ((W.setCell ⟨w.heap.size, 0, none⟩ u).setCell ⟨w.heap.size, 1, none⟩ v) :=
  ⟨none, 0, rfl, World.ownsRow_nil _ _ _ _, below_two hb _ _⟩
theorem read_fine {w W : World} {N : Int} {A : Option Addr} {n c lo : Nat} {es : List GE} (hb : Below w.heap.size w W) (ho : W.ownsRow lo 36 3 (.slice A n c) n (es.flatMap GE.cells)) (hn : es.length = n) (hlo : w.heap.size < lo) (u v : Value) :
    ReadRes w ⟨N, es, 0⟩ (.returned (.tuple #[.agg #[.int .i64 N, .slice A n c], .int .i64 0])) ((W.setCell ⟨w.heap.size, 0, none⟩ u).setCell ⟨w.heap.size, 1, none⟩ v) := by
  subst hn
  exact ⟨A, c, rfl, own_monoG (own_lowG (own_lowG ho (p := ⟨w.heap.size, 0, none⟩) hlo u) (p := ⟨w.heap.size, 1, none⟩) hlo v) (Nat.le_of_lt hlo), below_two hb _ _⟩
theorem three_reads (w : World) (a b c : Int) (t : TypeId) (g : Nat) (hg : g = w.heap.size) : Reads (w.alloc (.cells #[.int .i64 a, .int .i64 b, .int .i64 c] t)) (g + 1) 3 (some ⟨g, 0, none⟩) 1 [.int .i64 a, .int .i64 b, .int .i64 c] := by
  subst hg
  refine ⟨rfl, fun _ => ⟨_, rfl, by simp, fun j x hj => ?_⟩⟩
  match j, hj with
  | 0, hj => simp at hj; subst hj; simp [Addr.add]
  | 1, hj => simp at hj; subst hj; simp [Addr.add]
  | 2, hj => simp at hj; subst hj; simp [Addr.add]
theorem flat_snocG (es : List GE) (e : GE) : (es ++ [e]).flatMap GE.cells = es.flatMap GE.cells ++ [.int .i64 e.f, .int .i64 e.t, .int .i64 e.w] := by
  rw [List.flatMap_append]
  rfl
theorem own_formG {w : World} {base e size n : Nat} {v : Value} {xs : List Value} (h : w.ownsRow base e size v n xs) : ∃ A c, v = .slice A n c ∧ n ≤ c := by
  rcases h.2 with ⟨rfl, rfl⟩ | ⟨g, cap, _, rfl, _, _, hc, _⟩
  · exact ⟨_, _, rfl, Nat.le_refl _⟩
  · exact ⟨_, _, rfl, hc⟩
theorem ReadRes.drew {w w' : World} {r : RG} {e : Ending} (h : ReadRes w r e w') : ReadRes w r e w'.drew := by
  obtain ⟨A, c, h1, h2, h3⟩ := h
  exact ⟨A, c, h1, h2, h3.drew⟩
end Go.Proofs.YtggfjnmplokccaaDoor
