/- The contracts of the functions that turn bits of a stored byte: the model's and the program's. -/
import Derived.Test.YtfcomnpoehpgiaaKDiskSync
namespace Go.Proofs.Ytfcomnpoehpgiaa
open Go.RowKit Go.Maps

theorem xor8 (a b : Nat) (ha : a < 256) (hb : b < 256) : bits .xor .u8 (a : Int) (b : Int) = ((a ^^^ b : Nat) : Int) := by
  have hx : a ^^^ b < 2 ^ 8 := Nat.xor_lt_two_pow (by omega) (by omega)
  have e8 : ∀ x : Nat, x < 256 → (BitVec.ofInt 8 (x : Int)).toNat = x := fun x hx => by
    rw [BitVec.ofInt_natCast, BitVec.toNat_ofNat]; exact Nat.mod_eq_of_lt (by omega)
  show IntKind.u8.wrap ((BitVec.ofInt 8 (a : Int) ^^^ BitVec.ofInt 8 (b : Int)).toNat : Int) = _
  rw [BitVec.toNat_xor, e8 a ha, e8 b hb]
  exact IntWalk.u8_in _ (by omega)
theorem xor_lt (a b : Nat) (ha : a < 256) (hb : b < 256) : a ^^^ b < 256 := Nat.xor_lt_two_pow (n := 8) (by omega) (by omega)

def hitK (s : ByteArray) (t : Int) (l : List FileD) : Option Nat := l.findIdx? fun f => decide (f.1 = s ∧ 0 ≤ t ∧ t < (f.2.length : Int))
def bentAt (l : List FileD) (k : Nat) (t g : Int) : List FileD := l.modify k fun f => (f.1, f.2.modify t.toNat fun x => x ^^^ g.toNat)
def bendK (r : DD) (s : ByteArray) (t g : Int) : Option Nat := if r.ok = true ∧ r.ops = [] ∧ 1 ≤ g ∧ g ≤ 255 then hitK s t r.fs else none
def bendD (r : DD) (s : ByteArray) (t g : Int) : DD := match bendK r s t g with
  | none => DD.zero
  | some k => ⟨r.room, r.fuse, bentAt r.fs k t g, []⟩
theorem bentAt_len (l : List FileD) (k : Nat) (t g : Int) : (bentAt l k t g).length = l.length := by simp [bentAt]
theorem bentAt_bulk : ∀ (l : List FileD) (k : Nat) (t g : Int), bulkF (bentAt l k t g) = bulkF l
  | [], k, t, g => by simp [bentAt]
  | f :: r, 0, t, g => by simp [bentAt, bulkF]
  | f :: r, k + 1, t, g => by
    have := bentAt_bulk r k t g
    simp only [bentAt, bulkF, List.modify_succ_cons, List.map_cons, List.sum_cons] at *
    omega
theorem bendD_bulk {r : DD} (hw : r.weight ≤ 1048576) (s : ByteArray) (t g : Int) : (bendD r s t g).bulk ≤ 2097152 := by
  unfold bendD
  split
  · exact zero_bulk
  · have h1 := bulkF_wt r.fs
    unfold DD.weight at hw
    unfold DD.bulk
    simp only [bentAt_bulk]
    simp [bulkO]
    omega

/-- One byte of a disk of the call's own is turned. -/
theorem OwnD.bend {W : World} {lo c d k j v : Nat} {A B : Option Addr} {es : List Ent} {e : Ent} (h : OwnD W lo A c B d es []) (hk : es[k]? = some e) (hj : j < e.d.n) (hv : v < 256) :
    ∃ g x, e.d.A = some ⟨g, 0, none⟩ ∧ lo ≤ g ∧ g < W.heap.size ∧ x < 256 ∧ Hid (e.d.xs[j]? = some x) ∧ W.cell? ⟨g, j, none⟩ = some (.int .u8 (x : Int)) ∧ W.frozen? ⟨g, j, none⟩ = false ∧
      OwnD (W.setCell ⟨g, j, none⟩ (.int .u8 (v : Int))) lo A c B d (es.set k ⟨e.nm, ⟨e.d.A, e.d.n, e.d.c, e.d.xs.set j v⟩⟩) [] := by
  have hmem := List.mem_of_getElem? hk
  have ho := h.f.dat.own e.d (List.mem_map.2 ⟨e, hmem, rfl⟩)
  have hsm := h.f.dat.small e.d (List.mem_map.2 ⟨e, hmem, rfl⟩)
  obtain ⟨g, hg⟩ := own_at ho (by omega)
  have hlt := ho.lt g (by rw [Dat.v, hg]; rfl)
  have hxl : e.d.xs.length = e.d.n := (h.okF e hmem).rd.len
  have hl : j < e.d.xs.length := by omega
  have ho2 : W.ownsRow lo 5 1 (.slice (some ⟨g, 0, none⟩) e.d.n e.d.c) e.d.n (vb e.d.xs) := by rw [← hg]; exact ho
  have hcell := ho2.cellAt j (by omega)
  rw [vb_get, List.getElem?_eq_getElem hl] at hcell
  have hst := ho2.stored j (.int .u8 (v : Int))
  have hset : (vb e.d.xs).set j (.int .u8 (v : Int)) = vb (e.d.xs.set j v) := by simp [vb, List.map_set]
  rw [hset] at hst
  have hsm2 : ∀ y ∈ e.d.xs.set j v, y < 256 := fun y hy => by
    rcases List.mem_or_eq_of_mem_set hy with hy | rfl
    · exact hsm y hy
    · exact hv
  have hkl : k < es.length := (List.getElem?_eq_some_iff.1 hk).1
  have hsplit : es = es.take k ++ e :: es.drop (k + 1) := by
    rw [← drop_at hk, List.take_append_drop]
  have hset2 : es.set k ⟨e.nm, ⟨e.d.A, e.d.n, e.d.c, e.d.xs.set j v⟩⟩ = es.take k ++ ⟨e.nm, ⟨e.d.A, e.d.n, e.d.c, e.d.xs.set j v⟩⟩ :: es.drop (k + 1) := by
    rw [List.set_eq_take_append_cons_drop, if_pos hkl]
  have hdat := h.f.dat
  rw [hsplit, List.map_append, List.map_cons] at hdat
  have hturn := hdat.turn (w' := W.setCell ⟨g, j, none⟩ (.int .u8 (v : Int))) (ys := e.d.xs.set j v) (by rw [Dat.v, hg]; exact hst.2) (by rw [hg]; exact hst.1) hsm2
  refine ⟨g, e.d.xs[j], hg, hlt.1, hlt.2, hsm _ (List.getElem_mem hl), Lib.hid (List.getElem?_eq_getElem hl), hcell, ho2.frozenAt j, ⟨⟨?_, ?_⟩, ⟨own_grow h.o.row ho2 (by decide) hst.2, OwnB.nil⟩, by simp⟩⟩
  · have hrow := own_grow h.f.row ho2 (by decide) (by exact hst.2)
    have hcs : (es.set k ⟨e.nm, ⟨e.d.A, e.d.n, e.d.c, e.d.xs.set j v⟩⟩).flatMap Ent.cells = es.flatMap Ent.cells := by
      rw [hset2]
      conv => rhs; rw [hsplit]
      simp [Ent.cells]
    rw [hcs, List.length_set]
    have hB := h.o.row
    exact hrow
  · rw [hset2, List.map_append, List.map_cons]
    exact hturn
theorem modify_at {α : Type} {f : α → α} : ∀ {l : List α} {k : Nat} {a : α}, l[k]? = some a → l.modify k f = l.set k (f a)
  | [], k, a, h => by simp at h
  | x :: r, 0, a, h => by simp at h; subst h; rfl
  | x :: r, k + 1, a, h => by
    rw [List.modify_succ_cons, List.set_cons_succ, modify_at (by simpa using h)]
theorem bent_files {es : List Ent} {k : Nat} {e : Ent} {t g : Int} {x : Nat} (hk : es[k]? = some e) (hx : e.d.xs[t.toNat]? = some x) {l : List FileD} (hl : es.map Ent.file = l) :
    (es.set k ⟨e.nm, ⟨e.d.A, e.d.n, e.d.c, e.d.xs.set t.toNat (x ^^^ g.toNat)⟩⟩).map Ent.file = bentAt l k t g := by
  subst hl
  have hkl := (List.getElem?_eq_some_iff.1 hk).1
  have hxl := (List.getElem?_eq_some_iff.1 hx).1
  unfold bentAt
  have e1 : (e.d.xs.modify t.toNat fun y => y ^^^ g.toNat) = e.d.xs.set t.toNat (x ^^^ g.toNat) := modify_at hx
  have e2 : (es.map Ent.file)[k]? = some e.file := by rw [List.getElem?_map, hk]; rfl
  rw [List.map_set, modify_at e2]
  simp only [Ent.file]
  rw [e1]
end Go.Proofs.Ytfcomnpoehpgiaa
