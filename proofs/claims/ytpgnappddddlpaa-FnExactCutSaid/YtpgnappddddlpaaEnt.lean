/- Words for slices of bytes, of files and of operations in memory (plain lemmas over the model; no condition): a record bears its own slice of bytes and what that slice holds ('Dat', 'Ent', 'OpE'); 'Row': a slice that reads as a list of cells; 'OwnB': slices of bytes of the call's own, no two in one block. -/
import Derived.Test.YtpgnappddddlpaaAppend
namespace Go.Proofs.Ytpgnappddddlpaa
open Go.RowKit

/-- All old cells and all old marks read as before. -/
theorem bcell {W w1 : World} (hb : Below W.heap.size W w1) : (∀ b o, b < W.heap.size → w1.cell? ⟨b, o, none⟩ = W.cell? ⟨b, o, none⟩) ∧ (∀ b o, b < W.heap.size → w1.frozen? ⟨b, o, none⟩ = W.frozen? ⟨b, o, none⟩) :=
  ⟨fun b o h => hb.cell (p := ⟨b, o, none⟩) h, fun b o h => hb.frozen (p := ⟨b, o, none⟩) h⟩
theorem below_a1 (w : World) (o1 : Obj) : Below w.heap.size w (w.alloc o1) := (Below.refl _ _).alloc (Nat.le_refl _) _
theorem below_a2 (w : World) (o1 o2 : Obj) : Below w.heap.size w ((w.alloc o1).alloc o2) := (below_a1 w o1).alloc (by simp) _
theorem below_a3 (w : World) (o1 o2 o3 : Obj) : Below w.heap.size w (((w.alloc o1).alloc o2).alloc o3) := (below_a2 w o1 o2).alloc (by simp; omega) _

/-- Cells of blocks below B alone are written. -/
def Lows (B : Nat) (w w' : World) : Prop := ∀ k, B ≤ k → w'.heap[k]? = w.heap[k]?
theorem Lows.refl (B : Nat) (w : World) : Lows B w w := fun _ _ => rfl
theorem Lows.set {B : Nat} {w w' : World} (h : Lows B w w') {p : Addr} (hp : p.block < B) (u : Value) : Lows B w (w'.setCell p u) :=
  fun k hk => (Below.heap_setCell w' p u k (by omega)).trans (h k hk)

/-- A slice of bytes, and what it holds. -/
structure Dat where
  A : Option Addr
  n : Nat
  c : Nat
  xs : List Nat
def Dat.v (d : Dat) : Value := .slice d.A d.n d.c
structure Dat.Ok (w : World) (d : Dat) : Prop where
  rd : Rd w d.A d.n d.xs
  cap : d.n ≤ d.c
/-- A file. -/
structure Ent where
  nm : ByteArray
  d : Dat
def Ent.cells (e : Ent) : List Value := [.string e.nm, .slice e.d.A e.d.n e.d.c]
def Ent.file (e : Ent) : ByteArray × List Nat := (e.nm, e.d.xs)
/-- An operation. -/
structure OpE where
  kind : Int
  nm : ByteArray
  to : ByteArray
  d : Dat
def OpE.cells (o : OpE) : List Value := [.int .i64 o.kind, .string o.nm, .string o.to, .slice o.d.A o.d.n o.d.c]
def OpE.v (o : OpE) : Value := .agg #[.int .i64 o.kind, .string o.nm, .string o.to, .slice o.d.A o.d.n o.d.c]
def OpE.op (o : OpE) : Int × ByteArray × ByteArray × List Nat := (o.kind, o.nm, o.to, o.d.xs)
theorem Ent.cells_len (e : Ent) : e.cells.length = 2 := rfl
theorem OpE.cells_len (o : OpE) : o.cells.length = 4 := rfl

section
variable {w w' : World} {d : Dat}
theorem Dat.Ok.keep (h : d.Ok w) (hs : w.heap.size ≤ w'.heap.size) (hk : ∀ k, k < w.heap.size → w'.heap[k]? = w.heap[k]?) : d.Ok w' :=
  ⟨h.rd.keep hs fun p hp => World.cell?_of_block (hk p.block hp), h.cap⟩
theorem Dat.Ok.below (h : d.Ok w) (hb : Below w.heap.size w w') : d.Ok w' := h.keep hb.size hb.block
theorem Dat.Ok.drewN (h : d.Ok w) (k : Nat) : d.Ok (w.drewN k) := ⟨h.rd.drewN k, h.cap⟩
theorem Dat.Ok.alloc (h : d.Ok w) (o : Obj) : d.Ok (w.alloc o) := ⟨h.rd.alloc o, h.cap⟩
end

/-! ### cells one behind the other -/
theorem flat_len {α : Type} (f : α → List Value) (k : Nat) (hf : ∀ a, (f a).length = k) (es : List α) : (es.flatMap f).length = es.length * k := by
  induction es with
  | nil => simp
  | cons a r ih => rw [List.flatMap_cons, List.length_append, hf, ih, List.length_cons, Nat.add_mul, Nat.one_mul, Nat.add_comm]
theorem flat_get {α : Type} (f : α → List Value) (k : Nat) (hf : ∀ a, (f a).length = k) : ∀ (es : List α) (j i : Nat) (e : α), es[j]? = some e → i < k → (es.flatMap f)[j * k + i]? = (f e)[i]?
  | [], j, i, e, he, _ => by simp at he
  | a :: r, 0, i, e, he, hi => by
    simp at he
    subst he
    rw [List.flatMap_cons, Nat.zero_mul, Nat.zero_add, List.getElem?_append_left (by rw [hf]; exact hi)]
  | a :: r, j + 1, i, e, he, hi => by
    have he2 : r[j]? = some e := by simpa using he
    rw [List.flatMap_cons, List.getElem?_append_right (by rw [hf, Nat.add_mul]; omega), hf, Nat.add_mul, Nat.one_mul, show j * k + k + i - k = j * k + i by omega]
    exact flat_get f k hf r j i e he2 hi
theorem flat_set {α : Type} (f : α → List Value) (k : Nat) (hf : ∀ a, (f a).length = k) : ∀ (es : List α) (j i : Nat) (e e' : α) (u : Value), es[j]? = some e → i < k → f e' = (f e).set i u → (es.flatMap f).set (j * k + i) u = (es.set j e').flatMap f
  | [], j, i, e, _, _, he, _, _ => by simp at he
  | a :: r, 0, i, e, e', u, he, hi, h => by
    simp at he
    subst he
    rw [List.flatMap_cons, Nat.zero_mul, Nat.zero_add, List.set_append_left _ _ (by rw [hf]; exact hi), ← h, List.set_cons_zero, List.flatMap_cons]
  | a :: r, j + 1, i, e, e', u, he, hi, h => by
    have he2 : r[j]? = some e := by simpa using he
    rw [List.flatMap_cons, List.set_append_right _ _ (by rw [hf, Nat.add_mul]; omega), hf, Nat.add_mul, Nat.one_mul, show j * k + k + i - k = j * k + i by omega, flat_set f k hf r j i e e' u he2 hi h, List.set_cons_succ, List.flatMap_cons]
theorem flat_snoc {α : Type} (f : α → List Value) (es : List α) (e : α) : (es ++ [e]).flatMap f = es.flatMap f ++ f e := by simp

/-- The slice at A of n records of k cells each reads as the cells cs. -/
structure Row (w : World) (k : Nat) (A : Option Addr) (n : Nat) (cs : List Value) : Prop where
  len : cs.length = n * k
  lies : 0 < n → ∃ b off, A = some ⟨b, off, none⟩ ∧ b < w.heap.size ∧ ∀ (j : Nat) (u : Value), cs[j]? = some u → w.cell? ⟨b, off + j, none⟩ = some u

section
variable {w w' : World} {k n : Nat} {A : Option Addr} {cs : List Value}
theorem Row.keep (h : Row w k A n cs) (hs : w.heap.size ≤ w'.heap.size) (hk : ∀ i, i < w.heap.size → w'.heap[i]? = w.heap[i]?) : Row w' k A n cs :=
  ⟨h.len, fun hn => by
    obtain ⟨b, off, e, hb, hc⟩ := h.lies hn
    exact ⟨b, off, e, by omega, fun j u hu => (World.cell?_of_block (a := ⟨b, off + j, none⟩) (hk b hb)).trans (hc j u hu)⟩⟩
theorem Row.below (h : Row w k A n cs) (hb : Below w.heap.size w w') : Row w' k A n cs := h.keep hb.size hb.block
theorem Row.drewN (h : Row w k A n cs) (m : Nat) : Row (w.drewN m) k A n cs := ⟨h.len, h.lies⟩
theorem Row.alloc (h : Row w k A n cs) (o : Obj) : Row (w.alloc o) k A n cs := h.keep (by simp) fun i hi => Below.heap_alloc w o i hi
theorem Row.nil : Row w k A 0 [] := ⟨by simp, fun h => absurd h (by omega)⟩
theorem Row.reads (h : Row w k A n cs) : Reads w w.heap.size k A n cs :=
  ⟨h.len, fun hn => by
    obtain ⟨b, off, rfl, hb, hc⟩ := h.lies hn
    refine ⟨_, rfl, hb, fun j u hu => ?_⟩
    have hx2 : ((⟨b, off, none⟩ : Addr).add j) = ⟨b, off + j, none⟩ := by unfold Addr.add; split <;> simp_all
    rw [hx2]
    exact hc j u hu⟩
theorem Row.of_own {base e c : Nat} (h : w.ownsRow base e k (.slice A n c) n cs) : Row w k A n cs := by
  refine ⟨h.1, fun hn => ?_⟩
  obtain ⟨g, cap, hv, _, hlt⟩ := h.form hn
  have hA : A = some ⟨g, 0, none⟩ := by injection hv
  subst hA
  refine ⟨g, 0, rfl, hlt, fun j u hu => ?_⟩
  have := h.cells (g := g) rfl j u hu
  have hx : ((⟨g, 0, none⟩ : Addr).add j) = ⟨g, 0 + j, none⟩ := by unfold Addr.add; split <;> simp_all
  rw [hx] at this
  exact this
end

/-- A slice of files, a slice of operations, in memory. -/
structure SlF (w : World) (A : Option Addr) (n : Nat) (es : List Ent) : Prop where
  len : es.length = n
  row : Row w 2 A n (es.flatMap Ent.cells)
  each : ∀ e ∈ es, e.d.Ok w
structure SlO (w : World) (A : Option Addr) (n : Nat) (os : List OpE) : Prop where
  len : os.length = n
  row : Row w 4 A n (os.flatMap OpE.cells)
  each : ∀ o ∈ os, o.d.Ok w

section
variable {w w' : World} {n : Nat} {A : Option Addr} {es : List Ent} {os : List OpE}
theorem SlF.keep (h : SlF w A n es) (hs : w.heap.size ≤ w'.heap.size) (hk : ∀ i, i < w.heap.size → w'.heap[i]? = w.heap[i]?) : SlF w' A n es :=
  ⟨h.len, h.row.keep hs hk, fun e he => (h.each e he).keep hs hk⟩
theorem SlF.below (h : SlF w A n es) (hb : Below w.heap.size w w') : SlF w' A n es := h.keep hb.size hb.block
theorem SlF.drewN (h : SlF w A n es) (m : Nat) : SlF (w.drewN m) A n es := ⟨h.len, h.row.drewN m, fun e he => (h.each e he).drewN m⟩
theorem SlF.nil : SlF w A 0 [] := ⟨rfl, Row.nil, by simp⟩
theorem SlO.keep (h : SlO w A n os) (hs : w.heap.size ≤ w'.heap.size) (hk : ∀ i, i < w.heap.size → w'.heap[i]? = w.heap[i]?) : SlO w' A n os :=
  ⟨h.len, h.row.keep hs hk, fun e he => (h.each e he).keep hs hk⟩
theorem SlO.below (h : SlO w A n os) (hb : Below w.heap.size w w') : SlO w' A n os := h.keep hb.size hb.block
theorem SlO.drewN (h : SlO w A n os) (m : Nat) : SlO (w.drewN m) A n os := ⟨h.len, h.row.drewN m, fun e he => (h.each e he).drewN m⟩
theorem SlO.nil : SlO w A 0 [] := ⟨rfl, Row.nil, by simp⟩
/-- The file at place j, its two cells. -/
theorem SlF.at_ {j : Nat} (h : SlF w A n es) (hj : j < n) : ∃ (b off : Nat) (e : Ent), A = some ⟨b, off, none⟩ ∧ b < w.heap.size ∧ Hid (es[j]? = some e) ∧ Hid (e.d.Ok w) ∧
    w.cell? ⟨b, off + j * 2, none⟩ = some (.string e.nm) ∧ w.cell? ⟨b, off + j * 2 + 1, none⟩ = some (.slice e.d.A e.d.n e.d.c) := by
  obtain ⟨b, off, rfl, hb, hc⟩ := h.row.lies (by omega)
  have hl : j < es.length := by have := h.len; omega
  have he : es[j]? = some es[j] := List.getElem?_eq_getElem hl
  refine ⟨b, off, es[j], rfl, hb, he, h.each _ (List.getElem_mem hl), ?_, ?_⟩
  · exact hc (j * 2) _ (flat_get Ent.cells 2 Ent.cells_len es j 0 _ he (by omega))
  · exact hc (j * 2 + 1) _ (flat_get Ent.cells 2 Ent.cells_len es j 1 _ he (by omega))
theorem SlO.at_ {j : Nat} (h : SlO w A n os) (hj : j < n) : ∃ (b off : Nat) (o : OpE), A = some ⟨b, off, none⟩ ∧ b < w.heap.size ∧ Hid (os[j]? = some o) ∧ Hid (o.d.Ok w) ∧
    w.cell? ⟨b, off + j * 4, none⟩ = some (.int .i64 o.kind) ∧ w.cell? ⟨b, off + j * 4 + 1, none⟩ = some (.string o.nm) ∧ w.cell? ⟨b, off + j * 4 + 2, none⟩ = some (.string o.to) ∧ w.cell? ⟨b, off + j * 4 + 3, none⟩ = some (.slice o.d.A o.d.n o.d.c) := by
  obtain ⟨b, off, rfl, hb, hc⟩ := h.row.lies (by omega)
  have hl : j < os.length := by have := h.len; omega
  have he : os[j]? = some os[j] := List.getElem?_eq_getElem hl
  refine ⟨b, off, os[j], rfl, hb, he, h.each _ (List.getElem_mem hl), ?_, ?_, ?_, ?_⟩
  · exact hc (j * 4) _ (flat_get OpE.cells 4 OpE.cells_len os j 0 _ he (by omega))
  · exact hc (j * 4 + 1) _ (flat_get OpE.cells 4 OpE.cells_len os j 1 _ he (by omega))
  · exact hc (j * 4 + 2) _ (flat_get OpE.cells 4 OpE.cells_len os j 2 _ he (by omega))
  · exact hc (j * 4 + 3) _ (flat_get OpE.cells 4 OpE.cells_len os j 3 _ he (by omega))
end
end Go.Proofs.Ytpgnappddddlpaa
