/- What functions that give a disk leave: a value in new memory of the call's own (the program's), or one that reads (the model's); boxes that hold a disk. -/
import Derived.Test.YtfcomnpoehpgiaaMarkDisk
namespace Go.Proofs.Ytfcomnpoehpgiaa
open Go.RowKit

/-- A disk as a datum. -/
structure DD where
  room : Int
  fuse : Int
  fs : List (ByteArray × List Nat)
  ops : List (Int × ByteArray × ByteArray × List Nat)
def DD.zero : DD := ⟨0, 0, [], []⟩

def ResD (w : World) (r : DD) (x : Value) (e : Ending) (w' : World) : Prop :=
  ∃ A n c B m d es os, e = .returned (.tuple #[.agg #[.int .i64 r.room, .int .i64 r.fuse, .slice A n c, .slice B m d], x]) ∧ es.map Ent.file = r.fs ∧ os.map OpE.op = r.ops ∧ es.length = n ∧ os.length = m ∧ OwnD w' w.heap.size A c B d es os ∧ Below w.heap.size w w'
def SeeD (w : World) (r : DD) (x : Value) (e : Ending) (w' : World) : Prop :=
  ∃ A n c B m d es os, e = .returned (.tuple #[.agg #[.int .i64 r.room, .int .i64 r.fuse, .slice A n c, .slice B m d], x]) ∧ es.map Ent.file = r.fs ∧ os.map OpE.op = r.ops ∧ SlF w' A n es ∧ SlO w' B m os ∧ Below w.heap.size w w'

/-- A block that holds four cells. -/
structure Box4 (w : World) (b : Nat) (v0 v1 v2 v3 : Value) : Prop where
  lt : b < w.heap.size
  c0 : w.cell? ⟨b, 0, none⟩ = some v0
  c1 : w.cell? ⟨b, 1, none⟩ = some v1
  c2 : w.cell? ⟨b, 2, none⟩ = some v2
  c3 : w.cell? ⟨b, 3, none⟩ = some v3
section
variable {w w' : World} {b : Nat} {v0 v1 v2 v3 : Value}
theorem Box4.keep (h : Box4 w b v0 v1 v2 v3) (hs : w.heap.size ≤ w'.heap.size) (hk : w'.heap[b]? = w.heap[b]?) : Box4 w' b v0 v1 v2 v3 :=
  ⟨Nat.lt_of_lt_of_le h.lt hs, (World.cell?_of_block (a := ⟨b, 0, none⟩) hk).trans h.c0, (World.cell?_of_block (a := ⟨b, 1, none⟩) hk).trans h.c1, (World.cell?_of_block (a := ⟨b, 2, none⟩) hk).trans h.c2, (World.cell?_of_block (a := ⟨b, 3, none⟩) hk).trans h.c3⟩
theorem Box4.below (h : Box4 w b v0 v1 v2 v3) (hb : Below w.heap.size w w') : Box4 w' b v0 v1 v2 v3 := h.keep hb.size (hb.block b h.lt)
theorem Box4.only {S : Nat → Prop} (h : Box4 w b v0 v1 v2 v3) (ho : Only S w w') (hs : ¬ S b) : Box4 w' b v0 v1 v2 v3 := h.keep ho.size (ho.block b h.lt hs)
theorem Box4.new (w : World) (v0 v1 v2 v3 : Value) (t : TypeId) : Box4 (w.alloc (.cells #[v0, v1, v2, v3] t)) w.heap.size v0 v1 v2 v3 := ⟨by simp, by simp, by simp, by simp, by simp⟩
theorem Box4.alloc (h : Box4 w b v0 v1 v2 v3) (o : Obj) : Box4 (w.alloc o) b v0 v1 v2 v3 := h.below (below_a1 w o)
theorem Box4.drewN (h : Box4 w b v0 v1 v2 v3) (k : Nat) : Box4 (w.drewN k) b v0 v1 v2 v3 := ⟨h.lt, h.c0, h.c1, h.c2, h.c3⟩
end

/-! ### how much there is -/
def bulkF (fs : List (ByteArray × List Nat)) : Nat := (fs.map fun f => 1 + f.2.length).sum
def bulkO (ops : List (Int × ByteArray × ByteArray × List Nat)) : Nat := (ops.map fun o => 3 + o.2.2.2.length).sum
def DD.bulk (r : DD) : Nat := bulkF r.fs + bulkO r.ops

theorem endEs_bulk {w : World} : ∀ (es : List Ent) (k : Nat), (∀ e ∈ es, e.d.Ok w) → endEs k es = k + bulkF (es.map Ent.file)
  | [], k, _ => by simp [endEs, bulkF]
  | e :: r, k, h => by
    have h1 := (h e (by simp)).rd.len
    have h2 := endEs_bulk r (k + 1 + e.d.n) (fun x hx => h x (by simp [hx]))
    simp only [endEs, h2, bulkF, List.map_cons, List.sum_cons, Ent.file]
    rw [h1]
    simp only [bulkF] at h2
    omega
theorem endOs_bulk {w : World} : ∀ (es : List OpE) (k : Nat), (∀ e ∈ es, e.d.Ok w) → endOs k es = k + bulkO (es.map OpE.op)
  | [], k, _ => by simp [endOs, bulkO]
  | e :: r, k, h => by
    have h1 := (h e (by simp)).rd.len
    have h2 := endOs_bulk r (k + 3 + e.d.n) (fun x hx => h x (by simp [hx]))
    simp only [endOs, h2, bulkO, List.map_cons, List.sum_cons, OpE.op]
    rw [h1]
    omega
theorem bulkF_each {w : World} {e : Ent} : ∀ {es : List Ent}, e ∈ es → e.d.Ok w → e.d.n ≤ bulkF (es.map Ent.file)
  | [], h, _ => by cases h
  | x :: r, h, ho => by
    simp only [bulkF, List.map_cons, List.sum_cons, Ent.file]
    rcases List.mem_cons.1 h with rfl | h
    · have := ho.rd.len
      omega
    · have := bulkF_each h ho
      simp only [bulkF] at this
      omega
theorem bulkO_each {w : World} {e : OpE} : ∀ {es : List OpE}, e ∈ es → e.d.Ok w → e.d.n ≤ bulkO (es.map OpE.op)
  | [], h, _ => by cases h
  | x :: r, h, ho => by
    simp only [bulkO, List.map_cons, List.sum_cons, OpE.op]
    rcases List.mem_cons.1 h with rfl | h
    · have := ho.rd.len
      omega
    · have := bulkO_each h ho
      simp only [bulkO] at this
      omega
theorem bulkF_len : ∀ (es : List Ent), es.length ≤ bulkF (es.map Ent.file)
  | [] => Nat.zero_le _
  | x :: r => by
    have := bulkF_len r
    simp only [bulkF, List.map_cons, List.sum_cons, List.length_cons] at *
    omega
theorem bulkO_len : ∀ (es : List OpE), es.length ≤ bulkO (es.map OpE.op)
  | [] => Nat.zero_le _
  | x :: r => by
    have := bulkO_len r
    simp only [bulkO, List.map_cons, List.sum_cons, List.length_cons] at *
    omega

/-- What the laws' helpers ask of a disk's size. -/
structure Fits (es : List Ent) (os : List OpE) : Prop where
  fl : es.length ≤ 2097152
  fe : ∀ e ∈ es, e.d.n ≤ 2097152
  ol : os.length ≤ 2097152
  oe : ∀ e ∈ os, e.d.n ≤ 2097152
  top : endOs (endEs 1 es) os ≤ 4194304
theorem fits_of {w : World} {r : DD} {es : List Ent} {os : List OpE} (hf : es.map Ent.file = r.fs) (ho : os.map OpE.op = r.ops) (h1 : ∀ e ∈ es, e.d.Ok w) (h2 : ∀ e ∈ os, e.d.Ok w) (hb : r.bulk ≤ 2097152) : Fits es os := by
  unfold DD.bulk at hb
  rw [← hf, ← ho] at hb
  refine ⟨?_, fun e he => ?_, ?_, fun e he => ?_, ?_⟩
  · have := bulkF_len es; omega
  · have := bulkF_each he (h1 e he); omega
  · have := bulkO_len os; omega
  · have := bulkO_each he (h2 e he); omega
  · rw [endOs_bulk os _ h2, endEs_bulk es _ h1]; omega
theorem OwnD.okF {w : World} {lo c d : Nat} {A B : Option Addr} {es : List Ent} {os : List OpE} (h : OwnD w lo A c B d es os) : ∀ e ∈ es, e.d.Ok w := h.f.sl.each
theorem OwnD.okO {w : World} {lo c d : Nat} {A B : Option Addr} {es : List Ent} {os : List OpE} (h : OwnD w lo A c B d es os) : ∀ e ∈ os, e.d.Ok w := h.o.sl.each

/-! ### boxes that hold a disk, from call to call of a law -/
/-- A disk that came in, in its box. -/
structure ABox (w W : World) (room fuse : Int) (A : Option Addr) (n c : Nat) (B : Option Addr) (m d : Nat) : Prop where
  box : Box4 W w.heap.size (.int .i64 room) (.int .i64 fuse) (.slice A n c) (.slice B m d)
  keep : Below w.heap.size w W
/-- The model's disk, in its box; it was made before the world anc. -/
structure WBox (anc W : World) (r : DD) (A : Option Addr) (n c : Nat) (B : Option Addr) (m d : Nat) (es : List Ent) (os : List OpE) : Prop where
  box : Box4 W anc.heap.size (.int .i64 r.room) (.int .i64 r.fuse) (.slice A n c) (.slice B m d)
  keep : Below anc.heap.size anc W
  f : SlF anc A n es
  o : SlO anc B m os
  hf : es.map Ent.file = r.fs
  ho : os.map OpE.op = r.ops
/-- A disk of the law's or of the program's own, in its box b; its blocks lie from lo on, ahead of the box. -/
structure GBox (W : World) (lo b : Nat) (r : DD) (A : Option Addr) (n c : Nat) (B : Option Addr) (m d : Nat) (es : List Ent) (os : List OpE) : Prop where
  box : Box4 W b (.int .i64 r.room) (.int .i64 r.fuse) (.slice A n c) (.slice B m d)
  own : OwnD W lo A c B d es os
  fl : es.length = n
  ol : os.length = m
  hf : es.map Ent.file = r.fs
  ho : os.map OpE.op = r.ops
  top : ∀ k, blkF A es k ∨ blkO B os k → k < b

section
variable {w W W' anc : World} {room fuse : Int} {r : DD} {A B : Option Addr} {n c m d lo b : Nat} {es : List Ent} {os : List OpE} {S : Nat → Prop}
theorem ABox.below (h : ABox w W room fuse A n c B m d) (hb : Below W.heap.size W W') : ABox w W' room fuse A n c B m d := ⟨h.box.below hb, h.keep.trans (hb.mono h.keep.size)⟩
theorem ABox.only (h : ABox w W room fuse A n c B m d) (ho : Only S W W') (hs : ∀ k, S k → w.heap.size < k) : ABox w W' room fuse A n c B m d :=
  ⟨h.box.only ho (fun hh => by have := hs _ hh; omega), h.keep.trans (ho.toBelow h.keep.size (fun k hk => by have := hs k hk; omega))⟩
theorem ABox.first (w : World) (room fuse : Int) (A : Option Addr) (n c : Nat) (B : Option Addr) (m d : Nat) (t : TypeId) : ABox w (w.alloc (.cells #[.int .i64 room, .int .i64 fuse, .slice A n c, .slice B m d] t)) room fuse A n c B m d := ⟨Box4.new _ _ _ _ _ _, below_a1 _ _⟩
theorem WBox.below (h : WBox anc W r A n c B m d es os) (hb : Below W.heap.size W W') : WBox anc W' r A n c B m d es os := ⟨h.box.below hb, h.keep.trans (hb.mono h.keep.size), h.f, h.o, h.hf, h.ho⟩
theorem WBox.only (h : WBox anc W r A n c B m d es os) (ho : Only S W W') (hs : ∀ k, S k → anc.heap.size < k) : WBox anc W' r A n c B m d es os :=
  ⟨h.box.only ho (fun hh => by have := hs _ hh; omega), h.keep.trans (ho.toBelow h.keep.size (fun k hk => by have := hs k hk; omega)), h.f, h.o, h.hf, h.ho⟩
theorem WBox.sf (h : WBox anc W r A n c B m d es os) : SlF W A n es := h.f.below h.keep
theorem WBox.so (h : WBox anc W r A n c B m d es os) : SlO W B m os := h.o.below h.keep
theorem WBox.first (hf : SlF anc A n es) (ho : SlO anc B m os) (h1 : es.map Ent.file = r.fs) (h2 : os.map OpE.op = r.ops) (t : TypeId) : WBox anc (anc.alloc (.cells #[.int .i64 r.room, .int .i64 r.fuse, .slice A n c, .slice B m d] t)) r A n c B m d es os :=
  ⟨Box4.new _ _ _ _ _ _, below_a1 _ _, hf, ho, h1, h2⟩
theorem GBox.below (h : GBox W lo b r A n c B m d es os) (hb : Below W.heap.size W W') : GBox W' lo b r A n c B m d es os := ⟨h.box.below hb, h.own.below hb, h.fl, h.ol, h.hf, h.ho, h.top⟩
theorem GBox.only (h : GBox W lo b r A n c B m d es os) (ho : Only S W W') (hs : ∀ k, S k → k < lo) (hb : lo ≤ b) : GBox W' lo b r A n c B m d es os :=
  ⟨h.box.only ho (fun hh => by have := hs _ hh; omega), h.own.keep (fun k hk hk2 => ho.block k hk2 (fun hh => by have := hs k hh; omega)), h.fl, h.ol, h.hf, h.ho, h.top⟩
theorem GBox.first (h : OwnD W lo A c B d es os) (hl : es.length = n) (hm : os.length = m) (h1 : es.map Ent.file = r.fs) (h2 : os.map OpE.op = r.ops) (t : TypeId) : GBox (W.alloc (.cells #[.int .i64 r.room, .int .i64 r.fuse, .slice A n c, .slice B m d] t)) lo W.heap.size r A n c B m d es os :=
  ⟨Box4.new _ _ _ _ _ _, h.below (below_a1 _ _), hl, hm, h1, h2, fun k hk => by
    rcases hk with hk | hk
    · exact (OwnD.inF h.f k hk).2
    · exact (OwnD.inO h.o k hk).2⟩
theorem GBox.sf (h : GBox W lo b r A n c B m d es os) : SlF W A n es := by have := h.own.f.sl; rw [h.fl] at this; exact this
theorem GBox.so (h : GBox W lo b r A n c B m d es os) : SlO W B m os := by have := h.own.o.sl; rw [h.ol] at this; exact this
theorem GBox.fits (h : GBox W lo b r A n c B m d es os) (hb : r.bulk ≤ 2097152) : Fits es os := fits_of h.hf h.ho h.own.okF h.own.okO hb
theorem GBox.inS (h : GBox W lo b r A n c B m d es os) (k : Nat) (hk : blkF A es k ∨ blkO B os k) : lo ≤ k ∧ k < b := by
  refine ⟨?_, h.top k hk⟩
  rcases hk with hk | hk
  · exact (OwnD.inF h.own.f k hk).1
  · exact (OwnD.inO h.own.o k hk).1

/-- The marks are in it. -/
structure MBox (W : World) (lo b : Nat) (r : DD) (A : Option Addr) (n c : Nat) (B : Option Addr) (m d : Nat) (es : List Ent) (os : List OpE) : Prop where
  box : Box4 W b (.int .i64 r.room) (.int .i64 r.fuse) (.slice A n c) (.slice B m d)
  own : OwnD W lo A c B d (markEs 1 es) (markOs (endEs 1 es) os)
  fl : es.length = n
  ol : os.length = m
theorem MBox.below (h : MBox W lo b r A n c B m d es os) (hb : Below W.heap.size W W') : MBox W' lo b r A n c B m d es os := ⟨h.box.below hb, h.own.below hb, h.fl, h.ol⟩
theorem MBox.sf (h : MBox W lo b r A n c B m d es os) : SlF W A n (markEs 1 es) := by have := h.own.f.sl; rw [markEs_length, h.fl] at this; exact this
theorem MBox.so (h : MBox W lo b r A n c B m d es os) : SlO W B m (markOs (endEs 1 es) os) := by have := h.own.o.sl; rw [markOs_length, h.ol] at this; exact this
theorem GBox.marked (h : GBox W lo b r A n c B m d es os) (ho : Only (fun k => blkF A es k ∨ blkO B os k) W W') (hD : OwnD W' lo A c B d (markEs 1 es) (markOs (endEs 1 es) os)) : MBox W' lo b r A n c B m d es os :=
  ⟨h.box.only ho (fun hh => by have := h.top _ hh; omega), hD, h.fl, h.ol⟩

/-- The calls of a law, over boxes. -/
theorem eq_boxes {es' : List Ent} {os' : List OpE} {A' B' : Option Addr} {n' c' m' d' : Nat} (hb : r.bulk ≤ 2097152) (hs : SlF W A n es) (ho : SlO W B m os) (h1 : es.map Ent.file = r.fs) (h2 : os.map OpE.op = r.ops)
    (hs' : SlF W A' n' es') (ho' : SlO W B' m' os') (h1' : es'.map Ent.file = r.fs) (h2' : os'.map OpE.op = r.ops) :
    Calls Try.prog 36 #[.agg #[.int .i64 r.room, .int .i64 r.fuse, .slice A n c, .slice B m d], .agg #[.int .i64 r.room, .int .i64 r.fuse, .slice A' n' c', .slice B' m' d']] W (Tells W true) := by
  have hl : n = n' := by rw [← hs.len, ← hs'.len]; have := congrArg List.length (h1.trans h1'.symm); simpa using this
  have hm : m = m' := by rw [← ho.len, ← ho'.len]; have := congrArg List.length (h2.trans h2'.symm); simpa using this
  subst hl hm
  have F := fits_of h1 h2 hs.each ho.each hb
  exact eqDisk_any r.room r.fuse A A' n c c' B B' m d d' es es' os os' W hs hs' (h1.trans h1'.symm) (by rw [← hs.len]; exact F.fl) F.fe ho ho' (h2.trans h2'.symm) (by rw [← ho.len]; exact F.ol) F.oe
theorem eq_gw {es' : List Ent} {os' : List OpE} {A' B' : Option Addr} {n' c' m' d' : Nat} (hb : r.bulk ≤ 2097152) (g : GBox W lo b r A n c B m d es os) (h : WBox anc W r A' n' c' B' m' d' es' os') :
    Calls Try.prog 36 #[.agg #[.int .i64 r.room, .int .i64 r.fuse, .slice A n c, .slice B m d], .agg #[.int .i64 r.room, .int .i64 r.fuse, .slice A' n' c', .slice B' m' d']] W (Tells W true) :=
  eq_boxes hb g.sf g.so g.hf g.ho h.sf h.so h.hf h.ho
theorem mark_g (hb : r.bulk ≤ 2097152) (g : GBox W lo b r A n c B m d es os) :
    Calls Try.prog 39 #[.agg #[.int .i64 r.room, .int .i64 r.fuse, .slice A n c, .slice B m d], .int .i64 1] W (MarkedD W lo 1 A c B d es os) := by
  have F := g.fits hb
  have := markDisk_any r.room r.fuse A c B d lo 1 es os W g.own F.fl F.fe F.ol F.oe (by omega) F.top
  rw [g.fl, g.ol] at this
  exact this
theorem held_m (F : Fits es os) (g : MBox W lo b r A n c B m d es os) :
    Calls Try.prog 40 #[.agg #[.int .i64 r.room, .int .i64 r.fuse, .slice A n c, .slice B m d], .int .i64 1] W (Nums W (endOs (endEs 1 es) os)) :=
  heldDisk_any r.room r.fuse A n c B m d 1 es os W g.sf g.so (by rw [← g.fl]; exact F.fl) F.fe (by rw [← g.ol]; exact F.ol) F.oe (by omega) F.top
end
end Go.Proofs.Ytfcomnpoehpgiaa
