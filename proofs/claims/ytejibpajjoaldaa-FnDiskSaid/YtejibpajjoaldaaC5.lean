/- What functions that give a disk leave: a value in new memory of the call's own (the program's), or one that reads (the model's); boxes that hold a disk. // Plain mathematics of files by name: sorted lists of files, what operations make of them, valid disks (no program; no condition). // The contracts of the model's small functions on lists of files. Condition: at most 2^20 files. // The contract of the model's function that puts a file into a list of files. Condition: at most 2^19 files. // 'append' onto a slice without spare room, whoever owns it: nothing comes and it stays, or it lies in new memory of the call's own (plain lemmas over the model; no condition beyond the lengths). // The contracts of the model's functions that ask whether an operation fits and that do it. -/
import Derived.Deep.RegionHeld3
import Derived.Deep.RegionLaw
import Derived.Deep.Upon
import Derived.Laws.Strings
import Derived.WideAt
import Derived.Test.YtejibpajjoaldaaC1
import Derived.Test.YtejibpajjoaldaaC2
import Derived.Test.YtejibpajjoaldaaC3
namespace Go.Proofs.Ytejibpajjoaldaa
open Go.RowKit

/-- A disk as a datum. -/
structure DD where
  room : Int
  fuse : Int
  fs : List (ByteArray × List Nat)
  ops : List (Int × ByteArray × ByteArray × List Nat)
def DD.zero : DD := ⟨0, 0, [], []⟩

def ResD (w : World) (r : DD) (x : Value) (e : Ending) (w' : World) : Prop :=
  ∃ A n c B m d es os, e = .returned (.tuple #[.agg #[.int .i64 r.room, .int .i64 r.fuse, .slice A n c, .slice B m d], x]) ∧ es.map Ent.file = r.fs ∧ os.map OpE.op = r.ops ∧ es.length = n ∧ os.length = m ∧ OwnD w' w.heap.size A c B d es os ∧ Below w.heap.size w w'
def SeeD (w : World) (r : DD) (x : Value) (e : Ending) (w' : World) : Prop :=
  ∃ A n c B m d es os, e = .returned (.tuple #[.agg #[.int .i64 r.room, .int .i64 r.fuse, .slice A n c, .slice B m d], x]) ∧ es.map Ent.file = r.fs ∧ os.map OpE.op = r.ops ∧ SlF w' A n es ∧ SlO w' B m os ∧ Below w.heap.size w w'

/-- A block that holds four cells. -/
structure Box4 (w : World) (b : Nat) (v0 v1 v2 v3 : Value) : Prop where
  lt : b < w.heap.size
  c0 : w.cell? ⟨b, 0, none⟩ = some v0
  c1 : w.cell? ⟨b, 1, none⟩ = some v1
  c2 : w.cell? ⟨b, 2, none⟩ = some v2
  c3 : w.cell? ⟨b, 3, none⟩ = some v3
section
variable {w w' : World} {b : Nat} {v0 v1 v2 v3 : Value}
theorem Box4.keep (h : Box4 w b v0 v1 v2 v3) (hs : w.heap.size ≤ w'.heap.size) (hk : w'.heap[b]? = w.heap[b]?) : Box4 w' b v0 v1 v2 v3 :=
  ⟨Nat.lt_of_lt_of_le h.lt hs, (World.cell?_of_block (a := ⟨b, 0, none⟩) hk).trans h.c0, (World.cell?_of_block (a := ⟨b, 1, none⟩) hk).trans h.c1, (World.cell?_of_block (a := ⟨b, 2, none⟩) hk).trans h.c2, (World.cell?_of_block (a := ⟨b, 3, none⟩) hk).trans h.c3⟩
theorem Box4.below (h : Box4 w b v0 v1 v2 v3) (hb : Below w.heap.size w w') : Box4 w' b v0 v1 v2 v3 := h.keep hb.size (hb.block b h.lt)
theorem Box4.only {S : Nat → Prop} (h : Box4 w b v0 v1 v2 v3) (ho : Only S w w') (hs : ¬ S b) : Box4 w' b v0 v1 v2 v3 := h.keep ho.size (ho.block b h.lt hs)
theorem Box4.new (w : World) (v0 v1 v2 v3 : Value) (t : TypeId) : Box4 (w.alloc (.cells #[v0, v1, v2, v3] t)) w.heap.size v0 v1 v2 v3 := ⟨by simp, by simp, by simp, by simp, by simp⟩
theorem Box4.alloc (h : Box4 w b v0 v1 v2 v3) (o : Obj) : Box4 (w.alloc o) b v0 v1 v2 v3 := h.below (below_a1 w o)
theorem Box4.drewN (h : Box4 w b v0 v1 v2 v3) (k : Nat) : Box4 (w.drewN k) b v0 v1 v2 v3 := ⟨h.lt, h.c0, h.c1, h.c2, h.c3⟩
end

/-! ### how much there is -/
def bulkF (fs : List (ByteArray × List Nat)) : Nat := (fs.map fun f => 1 + f.2.length).sum
def bulkO (ops : List (Int × ByteArray × ByteArray × List Nat)) : Nat := (ops.map fun o => 3 + o.2.2.2.length).sum
def DD.bulk (r : DD) : Nat := bulkF r.fs + bulkO r.ops

theorem endEs_bulk {w : World} : ∀ (es : List Ent) (k : Nat), (∀ e ∈ es, e.d.Ok w) → endEs k es = k + bulkF (es.map Ent.file)
  | [], k, _ => by simp [endEs, bulkF]
  | e :: r, k, h => by
    have h1 := (h e (by simp)).rd.len
    have h2 := endEs_bulk r (k + 1 + e.d.n) (fun x hx => h x (by simp [hx]))
    simp only [endEs, h2, bulkF, List.map_cons, List.sum_cons, Ent.file]
    rw [h1]
    simp only [bulkF] at h2
    omega
theorem endOs_bulk {w : World} : ∀ (es : List OpE) (k : Nat), (∀ e ∈ es, e.d.Ok w) → endOs k es = k + bulkO (es.map OpE.op)
  | [], k, _ => by simp [endOs, bulkO]
  | e :: r, k, h => by
    have h1 := (h e (by simp)).rd.len
    have h2 := endOs_bulk r (k + 3 + e.d.n) (fun x hx => h x (by simp [hx]))
    simp only [endOs, h2, bulkO, List.map_cons, List.sum_cons, OpE.op]
    rw [h1]
    omega
theorem bulkF_each {w : World} {e : Ent} : ∀ {es : List Ent}, e ∈ es → e.d.Ok w → e.d.n ≤ bulkF (es.map Ent.file)
  | [], h, _ => by cases h
  | x :: r, h, ho => by
    simp only [bulkF, List.map_cons, List.sum_cons, Ent.file]
    rcases List.mem_cons.1 h with rfl | h
    · have := ho.rd.len
      omega
    · have := bulkF_each h ho
      simp only [bulkF] at this
      omega
theorem bulkO_each {w : World} {e : OpE} : ∀ {es : List OpE}, e ∈ es → e.d.Ok w → e.d.n ≤ bulkO (es.map OpE.op)
  | [], h, _ => by cases h
  | x :: r, h, ho => by
    simp only [bulkO, List.map_cons, List.sum_cons, OpE.op]
    rcases List.mem_cons.1 h with rfl | h
    · have := ho.rd.len
      omega
    · have := bulkO_each h ho
      simp only [bulkO] at this
      omega
theorem bulkF_len : ∀ (es : List Ent), es.length ≤ bulkF (es.map Ent.file)
  | [] => Nat.zero_le _
  | x :: r => by
    have := bulkF_len r
    simp only [bulkF, List.map_cons, List.sum_cons, List.length_cons] at *
    omega
theorem bulkO_len : ∀ (es : List OpE), es.length ≤ bulkO (es.map OpE.op)
  | [] => Nat.zero_le _
  | x :: r => by
    have := bulkO_len r
    simp only [bulkO, List.map_cons, List.sum_cons, List.length_cons] at *
    omega

/-- What the laws' helpers ask of a disk's size. -/
structure Fits (es : List Ent) (os : List OpE) : Prop where
  fl : es.length ≤ 2097152
  fe : ∀ e ∈ es, e.d.n ≤ 2097152
  ol : os.length ≤ 2097152
  oe : ∀ e ∈ os, e.d.n ≤ 2097152
  top : endOs (endEs 1 es) os ≤ 4194304
theorem fits_of {w : World} {r : DD} {es : List Ent} {os : List OpE} (hf : es.map Ent.file = r.fs) (ho : os.map OpE.op = r.ops) (h1 : ∀ e ∈ es, e.d.Ok w) (h2 : ∀ e ∈ os, e.d.Ok w) (hb : r.bulk ≤ 2097152) : Fits es os := by
  unfold DD.bulk at hb
  rw [← hf, ← ho] at hb
  refine ⟨?_, fun e he => ?_, ?_, fun e he => ?_, ?_⟩
  · have := bulkF_len es; omega
  · have := bulkF_each he (h1 e he); omega
  · have := bulkO_len os; omega
  · have := bulkO_each he (h2 e he); omega
  · rw [endOs_bulk os _ h2, endEs_bulk es _ h1]; omega
theorem OwnD.okF {w : World} {lo c d : Nat} {A B : Option Addr} {es : List Ent} {os : List OpE} (h : OwnD w lo A c B d es os) : ∀ e ∈ es, e.d.Ok w := h.f.sl.each
theorem OwnD.okO {w : World} {lo c d : Nat} {A B : Option Addr} {es : List Ent} {os : List OpE} (h : OwnD w lo A c B d es os) : ∀ e ∈ os, e.d.Ok w := h.o.sl.each

/-! ### boxes that hold a disk, from call to call of a law -/
/-- A disk that came in, in its box. -/
structure ABox (w W : World) (room fuse : Int) (A : Option Addr) (n c : Nat) (B : Option Addr) (m d : Nat) : Prop where
  box : Box4 W w.heap.size (.int .i64 room) (.int .i64 fuse) (.slice A n c) (.slice B m d)
  keep : Below w.heap.size w W
/-- The model's disk, in its box; it was made before the world anc. -/
structure WBox (anc W : World) (r : DD) (A : Option Addr) (n c : Nat) (B : Option Addr) (m d : Nat) (es : List Ent) (os : List OpE) : Prop where
  box : Box4 W anc.heap.size (.int .i64 r.room) (.int .i64 r.fuse) (.slice A n c) (.slice B m d)
  keep : Below anc.heap.size anc W
  f : SlF anc A n es
  o : SlO anc B m os
  hf : es.map Ent.file = r.fs
  ho : os.map OpE.op = r.ops
/-- A disk of the law's or of the program's own, in its box b; its blocks lie from lo on, ahead of the box. -/
structure GBox (W : World) (lo b : Nat) (r : DD) (A : Option Addr) (n c : Nat) (B : Option Addr) (m d : Nat) (es : List Ent) (os : List OpE) : Prop where
  box : Box4 W b (.int .i64 r.room) (.int .i64 r.fuse) (.slice A n c) (.slice B m d)
  own : OwnD W lo A c B d es os
  fl : es.length = n
  ol : os.length = m
  hf : es.map Ent.file = r.fs
  ho : os.map OpE.op = r.ops
  top : ∀ k, blkF A es k ∨ blkO B os k → k < b

section
variable {w W W' anc : World} {room fuse : Int} {r : DD} {A B : Option Addr} {n c m d lo b : Nat} {es : List Ent} {os : List OpE} {S : Nat → Prop}
theorem ABox.below (h : ABox w W room fuse A n c B m d) (hb : Below W.heap.size W W') : ABox w W' room fuse A n c B m d := ⟨h.box.below hb, h.keep.trans (hb.mono h.keep.size)⟩
theorem ABox.only (h : ABox w W room fuse A n c B m d) (ho : Only S W W') (hs : ∀ k, S k → w.heap.size < k) : ABox w W' room fuse A n c B m d :=
  ⟨h.box.only ho (fun hh => by have := hs _ hh; omega), h.keep.trans (ho.toBelow h.keep.size (fun k hk => by have := hs k hk; omega))⟩
theorem ABox.first (w : World) (room fuse : Int) (A : Option Addr) (n c : Nat) (B : Option Addr) (m d : Nat) (t : TypeId) : ABox w (w.alloc (.cells #[.int .i64 room, .int .i64 fuse, .slice A n c, .slice B m d] t)) room fuse A n c B m d := ⟨Box4.new _ _ _ _ _ _, below_a1 _ _⟩
theorem WBox.below (h : WBox anc W r A n c B m d es os) (hb : Below W.heap.size W W') : WBox anc W' r A n c B m d es os := ⟨h.box.below hb, h.keep.trans (hb.mono h.keep.size), h.f, h.o, h.hf, h.ho⟩
theorem WBox.only (h : WBox anc W r A n c B m d es os) (ho : Only S W W') (hs : ∀ k, S k → anc.heap.size < k) : WBox anc W' r A n c B m d es os :=
  ⟨h.box.only ho (fun hh => by have := hs _ hh; omega), h.keep.trans (ho.toBelow h.keep.size (fun k hk => by have := hs k hk; omega)), h.f, h.o, h.hf, h.ho⟩
theorem WBox.sf (h : WBox anc W r A n c B m d es os) : SlF W A n es := h.f.below h.keep
theorem WBox.so (h : WBox anc W r A n c B m d es os) : SlO W B m os := h.o.below h.keep
theorem WBox.first (hf : SlF anc A n es) (ho : SlO anc B m os) (h1 : es.map Ent.file = r.fs) (h2 : os.map OpE.op = r.ops) (t : TypeId) : WBox anc (anc.alloc (.cells #[.int .i64 r.room, .int .i64 r.fuse, .slice A n c, .slice B m d] t)) r A n c B m d es os :=
  ⟨Box4.new _ _ _ _ _ _, below_a1 _ _, hf, ho, h1, h2⟩
theorem GBox.below (h : GBox W lo b r A n c B m d es os) (hb : Below W.heap.size W W') : GBox W' lo b r A n c B m d es os := ⟨h.box.below hb, h.own.below hb, h.fl, h.ol, h.hf, h.ho, h.top⟩
theorem GBox.only (h : GBox W lo b r A n c B m d es os) (ho : Only S W W') (hs : ∀ k, S k → k < lo) (hb : lo ≤ b) : GBox W' lo b r A n c B m d es os :=
  ⟨h.box.only ho (fun hh => by have := hs _ hh; omega), h.own.keep (fun k hk hk2 => ho.block k hk2 (fun hh => by have := hs k hh; omega)), h.fl, h.ol, h.hf, h.ho, h.top⟩
theorem GBox.first (h : OwnD W lo A c B d es os) (hl : es.length = n) (hm : os.length = m) (h1 : es.map Ent.file = r.fs) (h2 : os.map OpE.op = r.ops) (t : TypeId) : GBox (W.alloc (.cells #[.int .i64 r.room, .int .i64 r.fuse, .slice A n c, .slice B m d] t)) lo W.heap.size r A n c B m d es os :=
  ⟨Box4.new _ _ _ _ _ _, h.below (below_a1 _ _), hl, hm, h1, h2, fun k hk => by
    rcases hk with hk | hk
    · exact (OwnD.inF h.f k hk).2
    · exact (OwnD.inO h.o k hk).2⟩
theorem GBox.sf (h : GBox W lo b r A n c B m d es os) : SlF W A n es := by have := h.own.f.sl; rw [h.fl] at this; exact this
theorem GBox.so (h : GBox W lo b r A n c B m d es os) : SlO W B m os := by have := h.own.o.sl; rw [h.ol] at this; exact this
theorem GBox.fits (h : GBox W lo b r A n c B m d es os) (hb : r.bulk ≤ 2097152) : Fits es os := fits_of h.hf h.ho h.own.okF h.own.okO hb
theorem GBox.inS (h : GBox W lo b r A n c B m d es os) (k : Nat) (hk : blkF A es k ∨ blkO B os k) : lo ≤ k ∧ k < b := by
  refine ⟨?_, h.top k hk⟩
  rcases hk with hk | hk
  · exact (OwnD.inF h.own.f k hk).1
  · exact (OwnD.inO h.own.o k hk).1

/-- The marks are in it. -/
structure MBox (W : World) (lo b : Nat) (r : DD) (A : Option Addr) (n c : Nat) (B : Option Addr) (m d : Nat) (es : List Ent) (os : List OpE) : Prop where
  box : Box4 W b (.int .i64 r.room) (.int .i64 r.fuse) (.slice A n c) (.slice B m d)
  own : OwnD W lo A c B d (markEs 1 es) (markOs (endEs 1 es) os)
  fl : es.length = n
  ol : os.length = m
theorem MBox.below (h : MBox W lo b r A n c B m d es os) (hb : Below W.heap.size W W') : MBox W' lo b r A n c B m d es os := ⟨h.box.below hb, h.own.below hb, h.fl, h.ol⟩
theorem MBox.sf (h : MBox W lo b r A n c B m d es os) : SlF W A n (markEs 1 es) := by have := h.own.f.sl; rw [markEs_length, h.fl] at this; exact this
theorem MBox.so (h : MBox W lo b r A n c B m d es os) : SlO W B m (markOs (endEs 1 es) os) := by have := h.own.o.sl; rw [markOs_length, h.ol] at this; exact this
theorem GBox.marked (h : GBox W lo b r A n c B m d es os) (ho : Only (fun k => blkF A es k ∨ blkO B os k) W W') (hD : OwnD W' lo A c B d (markEs 1 es) (markOs (endEs 1 es) os)) : MBox W' lo b r A n c B m d es os :=
  ⟨h.box.only ho (fun hh => by have := h.top _ hh; omega), hD, h.fl, h.ol⟩

/-- The calls of a law, over boxes. -/
theorem eq_boxes {es' : List Ent} {os' : List OpE} {A' B' : Option Addr} {n' c' m' d' : Nat} (hb : r.bulk ≤ 2097152) (hs : SlF W A n es) (ho : SlO W B m os) (h1 : es.map Ent.file = r.fs) (h2 : os.map OpE.op = r.ops)
    (hs' : SlF W A' n' es') (ho' : SlO W B' m' os') (h1' : es'.map Ent.file = r.fs) (h2' : os'.map OpE.op = r.ops) :
    Calls Try.prog 23 #[.agg #[.int .i64 r.room, .int .i64 r.fuse, .slice A n c, .slice B m d], .agg #[.int .i64 r.room, .int .i64 r.fuse, .slice A' n' c', .slice B' m' d']] W (Tells W true) := by
  have hl : n = n' := by rw [← hs.len, ← hs'.len]; have := congrArg List.length (h1.trans h1'.symm); simpa using this
  have hm : m = m' := by rw [← ho.len, ← ho'.len]; have := congrArg List.length (h2.trans h2'.symm); simpa using this
  subst hl hm
  have F := fits_of h1 h2 hs.each ho.each hb
  exact eqDisk_any r.room r.fuse A A' n c c' B B' m d d' es es' os os' W hs hs' (h1.trans h1'.symm) (by rw [← hs.len]; exact F.fl) F.fe ho ho' (h2.trans h2'.symm) (by rw [← ho.len]; exact F.ol) F.oe
theorem eq_gw {es' : List Ent} {os' : List OpE} {A' B' : Option Addr} {n' c' m' d' : Nat} (hb : r.bulk ≤ 2097152) (g : GBox W lo b r A n c B m d es os) (h : WBox anc W r A' n' c' B' m' d' es' os') :
    Calls Try.prog 23 #[.agg #[.int .i64 r.room, .int .i64 r.fuse, .slice A n c, .slice B m d], .agg #[.int .i64 r.room, .int .i64 r.fuse, .slice A' n' c', .slice B' m' d']] W (Tells W true) :=
  eq_boxes hb g.sf g.so g.hf g.ho h.sf h.so h.hf h.ho
theorem mark_g (hb : r.bulk ≤ 2097152) (g : GBox W lo b r A n c B m d es os) :
    Calls Try.prog 25 #[.agg #[.int .i64 r.room, .int .i64 r.fuse, .slice A n c, .slice B m d], .int .i64 1] W (MarkedD W lo 1 A c B d es os) := by
  have F := g.fits hb
  have := markDisk_any r.room r.fuse A c B d lo 1 es os W g.own F.fl F.fe F.ol F.oe (by omega) F.top
  rw [g.fl, g.ol] at this
  exact this
theorem held_m (F : Fits es os) (g : MBox W lo b r A n c B m d es os) :
    Calls Try.prog 27 #[.agg #[.int .i64 r.room, .int .i64 r.fuse, .slice A n c, .slice B m d], .int .i64 1] W (Nums W (endOs (endEs 1 es) os)) :=
  heldDisk_any r.room r.fuse A n c B m d 1 es os W g.sf g.so (by rw [← g.fl]; exact F.fl) F.fe (by rw [← g.ol]; exact F.ol) F.oe (by omega) F.top
end
end Go.Proofs.Ytejibpajjoaldaa
namespace Go.Proofs.Ytejibpajjoaldaa
open Go.RowKit

abbrev FileD := ByteArray × List Nat
abbrev OpD := Int × ByteArray × ByteArray × List Nat

def ltB (a b : ByteArray) : Bool := Op.bytesLess a.toList b.toList
def gtN (a b : ByteArray) : Bool := !(Op.bytesLess a.toList b.toList || a.toList == b.toList)

section
variable {α β : Type} (key : α → ByteArray)
def hasK (s : ByteArray) (l : List α) : Bool := l.any fun e => decide (key e = s)
def lessK (s : ByteArray) (l : List α) : List α := l.filter fun e => decide (key e ≠ s)
def insK (x : α) : List α → List α
  | [] => [x]
  | e :: r => if gtN (key e) (key x) then x :: e :: r else e :: insK x r
def withK (x : α) (l : List α) : List α := insK key x (lessK key (key x) l)
def findK (s : ByteArray) (l : List α) : Option α := l.find? fun e => decide (key e = s)
end

section
variable {α β : Type} {key : α → ByteArray} {key' : β → ByteArray} {f : α → β} (hf : ∀ a, key' (f a) = key a)
include hf
theorem lessK_map (s : ByteArray) (l : List α) : (lessK key s l).map f = lessK key' s (l.map f) := by
  unfold lessK
  rw [List.filter_map]
  congr 1
  apply List.filter_congr
  intro a _
  simp [Function.comp, hf]
theorem insK_map (x : α) : ∀ l : List α, (insK key x l).map f = insK key' (f x) (l.map f)
  | [] => rfl
  | e :: r => by
    simp only [insK, List.map_cons, hf]
    split
    · rfl
    · simp [insK_map x r]
theorem withK_map (x : α) (l : List α) : (withK key x l).map f = withK key' (f x) (l.map f) := by
  unfold withK
  rw [insK_map hf, lessK_map hf, hf]
theorem hasK_map (s : ByteArray) (l : List α) : hasK key' s (l.map f) = hasK key s l := by
  unfold hasK
  rw [List.any_map]
  congr 1
  funext a
  simp [Function.comp, hf]
theorem findK_map (s : ByteArray) : ∀ l : List α, findK key' s (l.map f) = (findK key s l).map f
  | [] => rfl
  | e :: r => by
    unfold findK
    rw [List.map_cons, List.find?_cons, List.find?_cons, hf]
    by_cases h : key e = s
    · simp [h]
    · simp only [h, decide_false]
      exact findK_map s r
end

def hasF (s : ByteArray) (l : List FileD) : Bool := hasK Prod.fst s l
def lessF (s : ByteArray) (l : List FileD) : List FileD := lessK Prod.fst s l
def withF (x : FileD) (l : List FileD) : List FileD := withK Prod.fst x l
def dataF (s : ByteArray) (l : List FileD) : List Nat := ((findK Prod.fst s l).map Prod.snd).getD []
def totF (l : List FileD) : Nat := (l.map fun f => f.2.length).sum
def fitsF (l : List FileD) (o : OpD) : Bool :=
  if o.1 = 1 then hasF o.2.1 l || decide (l.length < 12) else if o.1 = 3 then hasF o.2.1 l && decide (o.2.2.1 ≠ o.2.1) else hasF o.2.1 l
def makeF (l : List FileD) (o : OpD) : List FileD :=
  if o.1 = 1 then withF (o.2.1, []) l else if o.1 = 2 then withF (o.2.1, dataF o.2.1 l ++ o.2.2.2) l else if o.1 = 3 then withF (o.2.2.1, dataF o.2.1 l) (lessF o.2.1 l) else lessF o.2.1 l

section
variable {α : Type} {key : α → ByteArray}
theorem hasK_find (s : ByteArray) : ∀ l : List α, hasK key s l = (findK key s l).isSome
  | [] => rfl
  | e :: r => by
    have ih := hasK_find s r
    unfold hasK findK at *
    rw [List.any_cons, List.find?_cons]
    by_cases h : key e = s
    · simp [h]
    · simp only [h, decide_false, Bool.false_or]
      exact ih
theorem lessK_len (s : ByteArray) (l : List α) : (lessK key s l).length ≤ l.length := List.length_filter_le _ _
theorem lessK_mem {s : ByteArray} {l : List α} {e : α} (h : e ∈ lessK key s l) : e ∈ l ∧ key e ≠ s := by
  unfold lessK at h
  simpa using h
theorem insK_len (x : α) : ∀ l : List α, (insK key x l).length = l.length + 1
  | [] => rfl
  | e :: r => by
    unfold insK
    split
    · simp
    · simp [insK_len x r]
theorem insK_mem {x e : α} : ∀ {l : List α}, e ∈ insK key x l ↔ e = x ∨ e ∈ l
  | [] => by simp [insK]
  | y :: r => by
    unfold insK
    split
    · simp
    · rw [List.mem_cons, insK_mem, List.mem_cons]
      constructor
      · rintro (h | h | h)
        · exact .inr (.inl h)
        · exact .inl h
        · exact .inr (.inr h)
      · rintro (h | h | h)
        · exact .inr (.inl h)
        · exact .inl h
        · exact .inr (.inr h)
theorem lessK_len_lt {s : ByteArray} : ∀ {l : List α}, hasK key s l = true → (lessK key s l).length < l.length
  | [], h => by simp [hasK] at h
  | e :: r, h => by
    unfold lessK
    rw [List.filter_cons]
    by_cases he : key e = s
    · have := lessK_len (key := key) s r
      unfold lessK at this
      simp [he] at *
      omega
    · have h2 : hasK key s r = true := by simpa [hasK, he] using h
      have := lessK_len_lt h2
      unfold lessK at this
      simp [he] at *
      omega
end

/-- The pieces of an insertion: what has been met, and whether it is laid. -/
theorem insK_split {α : Type} {key : α → ByteArray} (x : α) : ∀ (pre post : List α), (∀ e ∈ pre, gtN (key e) (key x) = false) → insK key x (pre ++ post) = pre ++ insK key x post
  | [], _, _ => rfl
  | e :: r, post, h => by
    rw [List.cons_append, insK, h e (by simp)]
    simp [insK_split x r post (fun a ha => h a (by simp [ha]))]

theorem dataF_len (s : ByteArray) : ∀ (l : List FileD), (dataF s l).length ≤ totF l
  | [] => by simp [dataF, findK]
  | e :: r => by
    have ih := dataF_len s r
    unfold dataF findK totF at *
    rw [List.find?_cons]
    by_cases h : e.1 = s
    · simp [h]
    · simp only [h, decide_false, List.map_cons, List.sum_cons]
      omega
theorem totF_cons (e : FileD) (l : List FileD) : totF (e :: l) = e.2.length + totF l := by simp [totF]
theorem totF_less (s : ByteArray) : ∀ (l : List FileD), totF (lessF s l) ≤ totF l
  | [] => Nat.le_refl _
  | e :: r => by
    have ih := totF_less s r
    unfold lessF lessK at *
    rw [List.filter_cons]
    split
    · rw [totF_cons, totF_cons]; omega
    · rw [totF_cons]; omega
theorem totF_ins (x : FileD) : ∀ (l : List FileD), totF (insK Prod.fst x l) = x.2.length + totF l
  | [] => by simp [insK, totF]
  | e :: r => by
    unfold insK
    split
    · rw [totF_cons]
    · rw [totF_cons, totF_cons, totF_ins x r]; omega
theorem totF_with (x : FileD) (l : List FileD) : totF (withF x l) ≤ x.2.length + totF l := by
  unfold withF withK
  rw [totF_ins]
  have := totF_less x.1 l
  unfold lessF at this
  omega
theorem len_with (x : FileD) (l : List FileD) : (withF x l).length ≤ l.length + 1 := by
  unfold withF withK
  rw [insK_len]
  have := lessK_len (key := Prod.fst) x.1 l
  omega
theorem len_with_has {x : FileD} {l : List FileD} (h : hasF x.1 l = true) : (withF x l).length ≤ l.length := by
  unfold withF withK
  rw [insK_len]
  have := lessK_len_lt (key := Prod.fst) h
  omega
theorem len_less (s : ByteArray) (l : List FileD) : (lessF s l).length ≤ l.length := lessK_len s l
theorem len_less_has {s : ByteArray} {l : List FileD} (h : hasF s l = true) : (lessF s l).length < l.length := lessK_len_lt h
theorem make_len {l : List FileD} {o : OpD} (h : fitsF l o = true) (hl : l.length ≤ 12) : (makeF l o).length ≤ 12 := by
  unfold fitsF at h
  unfold makeF
  split
  · rename_i h1
    rw [if_pos h1] at h
    by_cases hh : hasF o.2.1 l = true
    · have := len_with_has (x := (o.2.1, [])) hh
      omega
    · have := len_with (o.2.1, []) l
      simp [hh] at h
      omega
  · rename_i h1
    rw [if_neg h1] at h
    split
    · rename_i h2
      rw [if_neg (by omega)] at h
      have := len_with_has (x := (o.2.1, dataF o.2.1 l ++ o.2.2.2)) h
      omega
    · split
      · rename_i h2 h3
        rw [if_pos h3] at h
        simp at h
        have := len_with (o.2.2.1, dataF o.2.1 l) (lessF o.2.1 l)
        have := len_less_has h.1
        omega
      · have := len_less o.2.1 l
        omega
theorem make_tot (l : List FileD) (o : OpD) : totF (makeF l o) ≤ 2 * totF l + o.2.2.2.length := by
  have hd := dataF_len o.2.1 l
  have hl := totF_less o.2.1 l
  unfold makeF
  split
  · have := totF_with (o.2.1, []) l
    simp at this
    omega
  · split
    · have := totF_with (o.2.1, dataF o.2.1 l ++ o.2.2.2) l
      simp at this
      omega
    · split
      · have := totF_with (o.2.2.1, dataF o.2.1 l) (lessF o.2.1 l)
        simp at this
        omega
      · omega
end Go.Proofs.Ytejibpajjoaldaa
namespace Go.Proofs.Ytejibpajjoaldaa
open Go.RowKit

theorem toList_inj {a b : ByteArray} (h : a.toList = b.toList) : a = b := by
  rw [ByteArray.toList_eq, ByteArray.toList_eq] at h
  exact ByteArray.ext (Array.ext' h)
theorem str_ne {a b : ByteArray} (h : a ≠ b) : (a.toList == b.toList) = false := by
  simp only [beq_eq_false_iff_ne, ne_eq]
  exact fun e => h (toList_inj e)
theorem str_ne' {a b : ByteArray} (h : a ≠ b) : (a.toList != b.toList) = true := by
  simp only [bne_iff_ne, ne_eq]
  exact fun e => h (toList_inj e)
theorem str_eq {a b : ByteArray} (h : a = b) : (a.toList == b.toList) = true := by rw [h]; simp
theorem str_eq' {a b : ByteArray} (h : a = b) : (a.toList != b.toList) = false := by rw [h]; simp

def ixE (s : ByteArray) (l : List Ent) : Nat := l.findIdx fun e => decide (e.nm = s)
def atI (s : ByteArray) (l : List Ent) : Int := if hasK Ent.nm s l then (ixE s l : Int) else -1
theorem ixE_at {s : ByteArray} {l : List Ent} {k : Nat} {e : Ent} (hk : l[k]? = some e) (he : e.nm = s) (hall : ∀ (j : Nat) (x : Ent), j < k → l[j]? = some x → x.nm ≠ s) : atI s l = (k : Int) := by
  have h1 : hasK Ent.nm s l = true := by
    unfold hasK
    rw [List.any_eq_true]
    exact ⟨e, List.mem_of_getElem? hk, by simp [he]⟩
  unfold atI
  rw [if_pos h1]
  obtain ⟨hkl, hke⟩ := List.getElem?_eq_some_iff.1 hk
  have : ixE s l = k := by
    unfold ixE
    rw [List.findIdx_eq hkl]
    refine ⟨by simp [hke, he], fun j hj => ?_⟩
    have := hall j (l[j]'(by omega)) hj (List.getElem?_eq_getElem (by omega))
    simpa using this
  rw [this]
theorem ixE_none {s : ByteArray} {l : List Ent} (hall : ∀ (j : Nat) (x : Ent), l[j]? = some x → x.nm ≠ s) : atI s l = -1 := by
  have h1 : hasK Ent.nm s l = false := by
    unfold hasK
    rw [List.any_eq_false]
    intro e he
    obtain ⟨j, hj, rfl⟩ := List.getElem_of_mem he
    simpa using hall j _ (List.getElem?_eq_getElem hj)
  unfold atI
  rw [h1]
  rfl

set_option maxRecDepth 10000 in
set_option maxHeartbeats 1000000 in
theorem specAt (A : Option Addr) (n c : Nat) (es : List Ent) (s : ByteArray) (w : World) (hr : SlF w A n es) (hn : n ≤ 2097152) :
    Calls Try.prog 69 #[.slice A n c, .string s] w (Nums w (atI s es)) := by
  have HR := Lib.hid hr
  clear hr
  go_enter Try.func69, Try.ntmps69
  go_wp2
  go_loopw [9] (fun i wr => ∃ k : Nat, k ≤ n ∧ i = .int .i64 k ∧ Hid (∀ (j : Nat) (x : Ent), j < k → es[j]? = some x → x.nm ≠ s) ∧ Below w.heap.size w wr) (fun i _ => n - (intOf i).toNat)
  case atStart => exact ⟨0, Nat.zero_le _, rfl, Lib.hid (fun j x hj => absurd hj (by omega)), Below.refl _ _⟩
  case round =>
    obtain ⟨k, hk, rfl, hall, hbel⟩ := hrel
    by_cases hlt : k < n
    · obtain ⟨b, off, e, rfl, hbw, he, hok, c0, c1⟩ := HR.out.at_ hlt
      have c0 := (hbel.cell (p := ⟨b, off + k * 2, none⟩) hbw).trans c0
      have c1 := (hbel.cell (p := ⟨b, off + k * 2 + 1, none⟩) hbw).trans c1
      by_cases hnm : e.nm = s
      · have HV := Lib.hid (ixE_at he.out hnm hall.out)
        have hq := str_eq hnm
        have HB := Lib.hid hbel
        clear hbel hnm
        go_wp2
        go_ret
        exact ⟨ret_int HV.out.symm, HB.out.alloc HB.out.size _⟩
      · have hq := str_ne hnm
        have hnew : Hid (∀ (j : Nat) (x : Ent), j < k + 1 → es[j]? = some x → x.nm ≠ s) := Lib.hid (fun j x hj hx => by
          rcases Nat.lt_or_ge j k with h1 | h1
          · exact hall.out j x h1 hx
          · obtain rfl : j = k := by omega
            rw [he.out] at hx
            injection hx with hx
            rw [← hx]
            exact hnm)
        have HB := Lib.hid hbel
        clear hbel hnm
        go_wp2
        go_roundw
        case rel => exact ⟨k + 1, by omega, by go_num, hnew, HB.out.alloc HB.out.size _⟩
        case measure => simp [intOf]; omega
    · have HV := Lib.hid (ixE_none (s := s) (l := es) (fun j x hx => hall.out j x (by have := (List.getElem?_eq_some_iff.1 hx).1; have := HR.out.len; omega) hx))
      go_wp2
      go_ret
      exact ⟨ret_int HV.out.symm, hbel⟩

def totE (es : List Ent) : Nat := (es.map fun e => e.d.n).sum
theorem totE_step (es : List Ent) (k : Nat) (e : Ent) (h : es[k]? = some e) : totE (es.take (k + 1)) = totE (es.take k) + e.d.n := by
  rw [take_step es k e h]
  simp [totE]
theorem totE_le (es : List Ent) (k : Nat) : totE (es.take k) ≤ totE es := by
  have : totE es = totE (es.take k) + totE (es.drop k) := by unfold totE; rw [← List.sum_append, ← List.map_append, List.take_append_drop]
  omega
theorem totE_file {w : World} : ∀ (es : List Ent), (∀ e ∈ es, e.d.Ok w) → totE es = totF (es.map Ent.file)
  | [], _ => rfl
  | e :: r, h => by
    have := totE_file r (fun x hx => h x (by simp [hx]))
    have h2 := (h e (by simp)).rd.len
    simp only [totE, totF, List.map_cons, List.sum_cons, Ent.file] at *
    omega

set_option maxRecDepth 10000 in
set_option maxHeartbeats 1000000 in
theorem specBytes (A : Option Addr) (n c : Nat) (es : List Ent) (w : World) (hr : SlF w A n es) (hn : n ≤ 2097152) (ht : totE es ≤ 16777216) :
    Calls Try.prog 53 #[.slice A n c] w (Nums w (totE es)) := by
  have HR := Lib.hid hr
  clear hr
  go_enter Try.func53, Try.ntmps53
  go_wp2
  go_loopw [3, 8] (fun t i wr => ∃ k q : Nat, k ≤ n ∧ i = .int .i64 k ∧ t = .int .i64 (q : Int) ∧ Hid (q = totE (es.take k)) ∧ Below w.heap.size w wr) (fun _ i _ => n - (intOf i).toNat)
  case atStart => exact ⟨0, 0, Nat.zero_le _, rfl, rfl, Lib.hid rfl, Below.refl _ _⟩
  case round =>
    obtain ⟨k, q, hk, rfl, rfl, hq, hbel⟩ := hrel
    by_cases hlt : k < n
    · obtain ⟨b, off, e, rfl, hbw, he, hok, c0, c1⟩ := HR.out.at_ hlt
      have c0 := (hbel.cell (p := ⟨b, off + k * 2, none⟩) hbw).trans c0
      have c1 := (hbel.cell (p := ⟨b, off + k * 2 + 1, none⟩) hbw).trans c1
      have hst : q + e.d.n ≤ 16777216 := by
        have h1 := totE_step es k e he.out
        have h2 := totE_le es (k + 1)
        have h3 := hq.out
        omega
      have HST := Lib.hid (totE_step es k e he.out)
      have HB := Lib.hid hbel
      clear hbel
      go_wp2
      go_roundw
      case rel => exact ⟨k + 1, q + e.d.n, by omega, by go_num, by go_num, Lib.hid (by rw [HST.out, hq.out]), HB.out.alloc HB.out.size _⟩
      case measure => simp [intOf]; omega
    · have HV : Hid ((q : Int) = totE es) := Lib.hid (by
        have h1 := hq.out
        rw [List.take_of_length_le (by have := HR.out.len; omega)] at h1
        omega)
      go_wp2
      go_ret
      exact ⟨ret_int HV.out, hbel⟩

theorem two_reads (w : World) (u v : Value) (t : TypeId) (g : Nat) (hg : g = w.heap.size) : Reads (w.alloc (.cells #[u, v] t)) (g + 1) 2 (some ⟨g, 0, none⟩) 1 [u, v] := by
  subst hg
  refine ⟨rfl, fun _ => ⟨_, rfl, by simp, fun j x hj => ?_⟩⟩
  match j, hj with
  | 0, hj => simp at hj; subst hj; simp [Addr.add]
  | 1, hj => simp at hj; subst hj; simp [Addr.add]
theorem four_reads (w : World) (u v x y : Value) (t : TypeId) (g : Nat) (hg : g = w.heap.size) : Reads (w.alloc (.cells #[u, v, x, y] t)) (g + 1) 4 (some ⟨g, 0, none⟩) 1 [u, v, x, y] := by
  subst hg
  refine ⟨rfl, fun _ => ⟨_, rfl, by simp, fun j z hj => ?_⟩⟩
  match j, hj with
  | 0, hj => simp at hj; subst hj; simp [Addr.add]
  | 1, hj => simp at hj; subst hj; simp [Addr.add]
  | 2, hj => simp at hj; subst hj; simp [Addr.add]
  | 3, hj => simp at hj; subst hj; simp [Addr.add]
theorem Ent.cells_one (e : Ent) : ∀ u ∈ e.cells, u.oneCell' = true := by
  intro u hu
  simp only [Ent.cells, List.mem_cons, List.not_mem_nil, or_false] at hu
  rcases hu with rfl | rfl <;> rfl
theorem OpE.cells_one (e : OpE) : ∀ u ∈ e.cells, u.oneCell' = true := by
  intro u hu
  simp only [OpE.cells, List.mem_cons, List.not_mem_nil, or_false] at hu
  rcases hu with rfl | rfl | rfl | rfl <;> rfl
theorem below_app2 {w wr w2 : World} {e n size : Nat} {v : Value} {xs : List Value} {o1 o2 : Obj} (hbel : Below w.heap.size w wr) (hown : wr.ownsRow w.heap.size e size v n xs) (hg : ((wr.alloc o1).alloc o2).grownBy w2 v.ownBlock) : Below w.heap.size w w2 :=
  ((hbel.alloc hbel.size o1).alloc (by have := hbel.size; simp; omega) o2).grown hg (by have := hbel.size; simp; omega) (fun k hk => (hown.lt k hk).1)
theorem below_app1 {w wr w2 : World} {e n size : Nat} {v : Value} {xs : List Value} {o1 : Obj} (hbel : Below w.heap.size w wr) (hown : wr.ownsRow w.heap.size e size v n xs) (hg : (wr.alloc o1).grownBy w2 v.ownBlock) : Below w.heap.size w w2 :=
  (hbel.alloc hbel.size o1).grown hg (by have := hbel.size; simp; omega) (fun k hk => (hown.lt k hk).1)
theorem own_formK {w : World} {base e size n : Nat} {v : Value} {xs : List Value} (h : w.ownsRow base e size v n xs) : ∃ A c, v = .slice A n c := by
  rcases h.2 with ⟨rfl, rfl⟩ | ⟨g, cap, _, rfl, _⟩
  · exact ⟨_, _, rfl⟩
  · exact ⟨_, _, rfl⟩
theorem builtF_none (w : World) : (w.alloc (.cells #[] 87)).ownsRow w.heap.size 87 2 (.slice (some ⟨w.heap.size, 0, none⟩) 0 0) 0 [] :=
  World.ownsRow_lit w #[] 0 (Nat.le_refl _) (by unfold maxLen; omega) rfl

/-- A list of files that the model gives. -/
def GivesF (w : World) (es : List Ent) (e : Ending) (w' : World) : Prop :=
  ∃ A c, e = .returned (.slice A es.length c) ∧ w'.ownsRow w.heap.size 87 2 (.slice A es.length c) es.length (es.flatMap Ent.cells) ∧ Below w.heap.size w w'

theorem less_step_no {es : List Ent} {k : Nat} {e : Ent} {s : ByteArray} (h : es[k]? = some e) (hn : e.nm = s) : lessK Ent.nm s (es.take (k + 1)) = lessK Ent.nm s (es.take k) := by
  rw [take_step es k e h]
  simp [lessK, hn]
theorem less_step_yes {es : List Ent} {k : Nat} {e : Ent} {s : ByteArray} (h : es[k]? = some e) (hn : e.nm ≠ s) : lessK Ent.nm s (es.take (k + 1)) = lessK Ent.nm s (es.take k) ++ [e] := by
  rw [take_step es k e h]
  simp [lessK, hn]
theorem less_take_len (es : List Ent) (s : ByteArray) (k : Nat) : (lessK Ent.nm s (es.take k)).length ≤ k := by
  have h1 := lessK_len (key := Ent.nm) s (es.take k)
  have h2 := List.length_take_le k es
  omega

set_option maxRecDepth 10000 in
set_option maxHeartbeats 1000000 in
theorem specLess (A : Option Addr) (n c : Nat) (es : List Ent) (s : ByteArray) (w : World) (hr : SlF w A n es) (hn : n ≤ 1048576) :
    Calls Try.prog 90 #[.slice A n c, .string s] w (GivesF w (lessK Ent.nm s es)) := by
  obtain ⟨i0, hi, hz0, hz1, hz2⟩ := info_parts Try.infoFile
  have HR := Lib.hid hr
  clear hr
  go_enter Try.func90, Try.ntmps90
  go_wp2
  go_loopw [5, 11] (fun v i wr => ∃ (k : Nat) (out : List Ent), k ≤ n ∧ i = .int .i64 k ∧ Hid (out = lessK Ent.nm s (es.take k)) ∧ wr.ownsRow w.heap.size 87 2 v out.length (out.flatMap Ent.cells) ∧ Below w.heap.size w wr) (fun _ i _ => n - (intOf i).toNat)
  case atStart => exact ⟨0, [], Nat.zero_le _, rfl, Lib.hid rfl, builtF_none w, below_a1 _ _⟩
  case round =>
    obtain ⟨k, out, hk, rfl, hout, hown, hbel⟩ := hrel
    have hol : out.length ≤ k := by rw [hout.out]; exact less_take_len es s k
    by_cases hlt : k < n
    · obtain ⟨b, off, e, rfl, hbw, he, hok, c0, c1⟩ := HR.out.at_ hlt
      have c0 := (hbel.cell (p := ⟨b, off + k * 2, none⟩) hbw).trans c0
      have c1 := (hbel.cell (p := ⟨b, off + k * 2 + 1, none⟩) hbw).trans c1
      by_cases hnm : e.nm = s
      · have hq := str_eq hnm
        have hst := Lib.hid (less_step_no he.out hnm)
        have HB := Lib.hid hbel
        have HO := Lib.hid hown
        clear hbel hnm hown
        go_wp2
        go_roundw
        case rel => exact ⟨k + 1, out, by omega, by go_num, Lib.hid (by rw [hst.out, hout.out]), HO.out.alloc _, HB.out.alloc HB.out.size _⟩
        case measure => simp [intOf]; omega
      · have hq := str_ne hnm
        have hst := Lib.hid (less_step_yes he.out hnm)
        have HB := Lib.hid hbel
        have HO := Lib.hid hown
        have hws : w.heap.size ≤ wr.heap.size := hbel.size
        clear hbel hnm hown
        go_wp2_with (at_builtin; refine wpList_append_any _ rfl (.tmp 19) (.tmp 21) _ rfl w.heap.size 87 i0 _ 2 40 Try.underlying23 hi hz0 hz1 hz2 rfl (by omega) _ out.length (out.flatMap Ent.cells) rfl ((HO.out.alloc _).alloc _) ((wr.heap.size + 1) + 1) (some ⟨wr.heap.size + 1, 0, none⟩) 1 1 e.cells rfl (two_reads _ _ _ _ _ (by simp)) e.cells_one (by simp only [maxLen]; omega) (by omega) (by simp; omega) ?_; intro v2 w2 hown2 hg2 hat2)
        have hb2 : Below w.heap.size w w2 := below_app2 HB.out HO.out hg2
        have ho2 : w2.ownsRow w.heap.size 87 2 v2 (out ++ [e]).length ((out ++ [e]).flatMap Ent.cells) := by
          rw [flat_snoc, List.length_append]
          exact hown2
        clear hown2 hg2 hat2
        go_roundw
        case rel => exact ⟨k + 1, out ++ [e], by omega, by go_num, Lib.hid (by rw [hst.out, hout.out]), ho2, hb2⟩
        case measure => simp [intOf]; omega
    · have he : out = lessK Ent.nm s es := by rw [hout.out, List.take_of_length_le (by have := HR.out.len; omega)]
      obtain ⟨A2, c2, rfl⟩ := own_formK hown
      subst he
      go_wp2
      go_ret
      exact ⟨A2, c2, rfl, hown, hbel⟩
end Go.Proofs.Ytejibpajjoaldaa
namespace Go.Proofs.Ytejibpajjoaldaa
open Go.RowKit

theorem sl_of_own {w : World} {lo c : Nat} {A : Option Addr} {es : List Ent} (h : w.ownsRow lo 87 2 (.slice A es.length c) es.length (es.flatMap Ent.cells)) (he : ∀ e ∈ es, e.d.Ok w) : SlF w A es.length es := ⟨rfl, Row.of_own h, he⟩

theorem box2_0 (w : World) (a b : Value) (t : TypeId) (o : Obj) : ((w.alloc (.cells #[a, b] t)).alloc o).cell? ⟨w.heap.size, 0, none⟩ = some a := by
  rw [World.cell?_alloc_lt _ _ _ (by simp)]
  simp
theorem box2_1 (w : World) (a b : Value) (t : TypeId) (o : Obj) : ((w.alloc (.cells #[a, b] t)).alloc o).cell? ⟨w.heap.size, 1, none⟩ = some b := by
  rw [World.cell?_alloc_lt _ _ _ (by simp)]
  simp

/-- The list that is being made: it lies in block g or in blocks that are new since w1. -/
structure OutOk (g : Nat) (w1 wr : World) (v : Value) (out : List Ent) : Prop where
  own : wr.ownsRow g 87 2 v out.length (out.flatMap Ent.cells)
  blk : ∀ j, v.ownBlock = some j → j = g ∨ w1.heap.size ≤ j
  only : Only (fun j => j = g ∨ w1.heap.size ≤ j) w1 wr
theorem OutOk.app {g : Nat} {w1 wr W w2 : World} {v v2 : Value} {out : List Ent} {e : Ent} (h : OutOk g w1 wr v out) (hb : Below wr.heap.size wr W) (h2 : w2.ownsRow g 87 2 v2 (out.length + 1) (out.flatMap Ent.cells ++ e.cells)) (hg : W.grownBy w2 v.ownBlock)
    (hat : v2.ownBlock = v.ownBlock ∨ v2.ownBlock = some W.heap.size) : OutOk g w1 w2 v2 (out ++ [e]) := by
  refine ⟨by rw [flat_snoc, List.length_append]; exact h2, fun j hj => ?_, (h.only.below hb).grown hg h.blk⟩
  rcases hat with e1 | e1
  · exact h.blk j (e1 ▸ hj)
  · rw [e1] at hj
    injection hj with hj
    have := h.only.size
    have := hb.size
    exact .inr (by omega)
theorem OutOk.below {g : Nat} {w1 wr W : World} {v : Value} {out : List Ent} (h : OutOk g w1 wr v out) (hb : Below wr.heap.size wr W) : OutOk g w1 W v out := ⟨own_below h.own hb, h.blk, h.only.below hb⟩

/-- How far an insertion is. -/
def Laid (x : Ent) (ls out : List Ent) (k : Nat) (b : Bool) : Prop := insK Ent.nm x ls = out ++ (if b then ls.drop k else insK Ent.nm x (ls.drop k))
theorem Laid.start (x : Ent) (ls : List Ent) : Laid x ls [] 0 false := by simp [Laid]
theorem drop_at {α : Type} {ls : List α} {k : Nat} {e : α} (h : ls[k]? = some e) : ls.drop k = e :: ls.drop (k + 1) := by
  obtain ⟨hk, rfl⟩ := List.getElem?_eq_some_iff.1 h
  exact List.drop_eq_getElem_cons hk
theorem Laid.go {x e : Ent} {ls out : List Ent} {k : Nat} (h : Laid x ls out k true) (he : ls[k]? = some e) : Laid x ls (out ++ [e]) (k + 1) true := by
  unfold Laid at *
  rw [h, drop_at he]
  simp
theorem Laid.skip {x e : Ent} {ls out : List Ent} {k : Nat} (h : Laid x ls out k false) (he : ls[k]? = some e) (hg : gtN e.nm x.nm = false) : Laid x ls (out ++ [e]) (k + 1) false := by
  unfold Laid at *
  rw [h, drop_at he, insK, hg]
  simp
theorem Laid.put {x e : Ent} {ls out : List Ent} {k : Nat} (h : Laid x ls out k false) (he : ls[k]? = some e) (hg : gtN e.nm x.nm = true) : Laid x ls (out ++ [x] ++ [e]) (k + 1) true := by
  unfold Laid at *
  rw [h, drop_at he, insK, hg]
  simp
theorem Laid.end_yes {x : Ent} {ls out : List Ent} {k : Nat} (h : Laid x ls out k true) (hk : ls.length ≤ k) : insK Ent.nm x ls = out := by
  unfold Laid at h
  rw [h, List.drop_eq_nil_of_le hk]
  simp
theorem Laid.end_no {x : Ent} {ls out : List Ent} {k : Nat} (h : Laid x ls out k false) (hk : ls.length ≤ k) : insK Ent.nm x ls = out ++ [x] := by
  unfold Laid at h
  rw [h, List.drop_eq_nil_of_le hk]
  simp [insK]

set_option maxRecDepth 10000 in
set_option maxHeartbeats 2000000 in
theorem specWith (A : Option Addr) (n c : Nat) (es : List Ent) (x : Ent) (w : World) (hr : SlF w A n es) (hn : n ≤ 524288) :
    Calls Try.prog 89 #[.slice A n c, .agg #[.string x.nm, .slice x.d.A x.d.n x.d.c]] w (GivesF w (withK Ent.nm x es)) := by
  obtain ⟨i0, hi, hz0, hz1, hz2⟩ := info_parts Try.infoFile
  have HE := Lib.hid (fun e (he : e ∈ lessK Ent.nm x.nm es) => hr.each e (lessK_mem he).1)
  have C := Lib.hid (fun W (h : Below w.heap.size w W) => specLess A n c es x.nm W (hr.below h) (by omega))
  have hlen : (lessK Ent.nm x.nm es).length ≤ n := by rw [← hr.len]; exact lessK_len _ _
  have hwk : withK Ent.nm x es = insK Ent.nm x (lessK Ent.nm x.nm es) := rfl
  rw [hwk]
  generalize lessK Ent.nm x.nm es = ls at C HE hlen ⊢
  clear hr hwk
  go_enter Try.func89, Try.ntmps89
  go_wp2_with fail
  refine (C.out _ (below_a2 _ _ _)).mono ?_
  rintro e w1 ⟨A1, c1, rfl, ho1, hb1⟩
  have HB1 := Lib.hid ((below_a2 w _ _).trans (hb1.mono (by simp; omega)))
  have hx0 : w1.cell? ⟨w.heap.size, 0, none⟩ = some (.string x.nm) := (hb1.cell (p := ⟨w.heap.size, 0, none⟩) (by simp; omega)).trans (box2_0 _ _ _ _ _)
  have hx1 : w1.cell? ⟨w.heap.size, 1, none⟩ = some (.slice x.d.A x.d.n x.d.c) := (hb1.cell (p := ⟨w.heap.size, 1, none⟩) (by simp; omega)).trans (box2_1 _ _ _ _ _)
  have hw1 : w.heap.size + 1 < w1.heap.size := by have := hb1.size; simp at this; omega
  have ho0 : w1.ownsRow (w.heap.size + 1) 87 2 (.slice (some ⟨w.heap.size + 1, 0, none⟩) 0 0) 0 [] := by
    have := own_below (builtF_none (w.alloc (.cells #[.string x.nm, .slice x.d.A x.d.n x.d.c] 87))) hb1
    simpa using this
  have HO1 := Lib.hid ho1
  simp only [World.size_alloc] at HO1
  clear ho1 hb1
  go_wp2
  go_loopw [5, 6, 15] (fun v t i wr => ∃ (k : Nat) (b : Bool) (out : List Ent), k ≤ ls.length ∧ i = .int .i64 k ∧ t = .bool b ∧ Hid (Laid x ls out k b) ∧ out.length ≤ 2 * k ∧ OutOk (w.heap.size + 1) w1 wr v out) (fun _ _ i _ => ls.length - (intOf i).toNat)
  case atStart => exact ⟨0, false, [], Nat.zero_le _, rfl, rfl, Lib.hid (Laid.start x ls), Nat.zero_le _, ⟨ho0, fun j hj => .inl (by simpa [Value.ownBlock] using hj.symm), Only.refl _ _⟩⟩
  case round =>
    obtain ⟨k, b, out, hk, rfl, rfl, hlaid, hol, hout⟩ := hrel
    have hws : w1.heap.size ≤ wr.heap.size := hout.only.size
    have hbW : Below w.heap.size w wr := HB1.out.trans (hout.only.toBelow (by omega) (fun j hj => by omega))
    have x0 := (World.cell?_of_block (a := ⟨w.heap.size, 0, none⟩) (hout.only.block w.heap.size (by omega) (by omega))).trans hx0
    have x1 := (World.cell?_of_block (a := ⟨w.heap.size, 1, none⟩) (hout.only.block w.heap.size (by omega) (by omega))).trans hx1
    have hwx : w.heap.size < wr.heap.size := by omega
    have HO := Lib.hid hout
    by_cases hlt : k < ls.length
    · have hsl : SlF wr A1 ls.length ls := sl_of_own (own_only HO1.out hout.only (fun j hj hj2 => by have := HO1.out.lt j hj; omega)) (fun e he => (HE.out e he).below hbW)
      obtain ⟨b1, off, e, rfl, hbw, he, hok, c0, c1⟩ := hsl.at_ hlt
      clear hout hsl hbW hok hx0 hx1
      cases b with
      | true =>
        go_wp2_with (at_builtin; refine wpList_append_any _ rfl (.tmp 32) (.tmp 34) _ rfl (w.heap.size + 1) 87 i0 _ 2 40 Try.underlying23 hi hz0 hz1 hz2 rfl (by omega) _ out.length (out.flatMap Ent.cells) rfl ((HO.out.own.alloc _).alloc _) ((wr.heap.size + 1) + 1) (some ⟨wr.heap.size + 1, 0, none⟩) 1 1 e.cells rfl (two_reads _ _ _ _ _ (by simp)) e.cells_one (by simp only [maxLen];  omega) (by  omega) (by simp; omega) ?_; intro v2 w2 hown2 hg2 hat2)
        have HO2 := Lib.hid (HO.out.app (e := e) (below_a2 wr _ _) hown2 hg2 hat2)
        clear hown2 hg2 hat2
        go_roundw
        case rel => exact ⟨k + 1, true, out ++ [e], by omega, by go_num, rfl, Lib.hid (hlaid.out.go he.out), by simp; omega, HO2.out⟩
        case measure => simp [intOf]; omega
      | false =>
        by_cases hgt : gtN e.nm x.nm = true
        · have hq : (Op.bytesLess e.nm.toList x.nm.toList || e.nm.toList == x.nm.toList) = false := by unfold gtN at hgt; simpa only [Bool.not_eq_true'] using hgt
          have HG := Lib.hid hgt
          clear hgt
          go_wp2_with (first
            | (at_builtin; refine wpList_append_any _ rfl (.tmp 28) (.tmp 30) _ rfl (w.heap.size + 1) 87 i0 _ 2 40 Try.underlying23 hi hz0 hz1 hz2 rfl (by omega) _ out.length (out.flatMap Ent.cells) rfl ((HO.out.own.alloc _).alloc _) ((wr.heap.size + 1) + 1) (some ⟨wr.heap.size + 1, 0, none⟩) 1 1 x.cells rfl (two_reads _ _ _ _ _ (by simp)) x.cells_one (by simp only [maxLen];  omega) (by  omega) (by simp <;> omega) ?_; intro v2 w2 hown2 hg2 hat2; have HO2 := Lib.hid (HO.out.app (e := x) (below_a2 wr _ _) hown2 hg2 hat2); have f0 := (World.cell?_of_block (a := ⟨wr.heap.size, 0, none⟩) (hg2.block wr.heap.size (by simp <;> omega) (fun hh => by have := (HO.out.own.lt _ hh.symm).2; omega))).trans (box2_0 _ _ _ _ _); have f1 := (World.cell?_of_block (a := ⟨wr.heap.size, 1, none⟩) (hg2.block wr.heap.size (by simp <;> omega) (fun hh => by have := (HO.out.own.lt _ hh.symm).2; omega))).trans (box2_1 _ _ _ _ _); have hw2 : wr.heap.size + 1 + 1 ≤ w2.heap.size := (by have := hg2.size; simp at this <;> omega); have hol2 : (out ++ [x]).length ≤ 2 * k + 1 := (by simp <;> omega); clear hown2 hg2 hat2)
            | (at_builtin; refine wpList_append_any _ rfl (.tmp 32) (.tmp 34) _ rfl (w.heap.size + 1) 87 i0 _ 2 40 Try.underlying23 hi hz0 hz1 hz2 rfl (by omega) _ (out ++ [x]).length ((out ++ [x]).flatMap Ent.cells) rfl (HO2.out.own.alloc _) (w2.heap.size + 1) (some ⟨w2.heap.size, 0, none⟩) 1 1 e.cells rfl (two_reads _ _ _ _ _ (by simp)) e.cells_one (by simp only [maxLen];  omega) (by  omega) (by simp <;> omega) ?_; intro v3 w3 hown3 hg3 hat3))
          have HO3 := Lib.hid (HO2.out.app (e := e) (below_a1 w2 _) hown3 hg3 hat3)
          clear hown3 hg3 hat3
          go_roundw
          case rel => exact ⟨k + 1, true, out ++ [x] ++ [e], by omega, by go_num, rfl, Lib.hid (hlaid.out.put he.out HG.out), by simp; omega, HO3.out⟩
          case measure => simp [intOf]; omega
        · have hg0 : gtN e.nm x.nm = false := by simpa using hgt
          have hq : (Op.bytesLess e.nm.toList x.nm.toList || e.nm.toList == x.nm.toList) = true := by unfold gtN at hg0; simpa only [Bool.not_eq_false'] using hg0
          have HG := Lib.hid hg0
          clear hgt hg0
          go_wp2_with (at_builtin; refine wpList_append_any _ rfl (.tmp 32) (.tmp 34) _ rfl (w.heap.size + 1) 87 i0 _ 2 40 Try.underlying23 hi hz0 hz1 hz2 rfl (by omega) _ out.length (out.flatMap Ent.cells) rfl ((HO.out.own.alloc _).alloc _) ((wr.heap.size + 1) + 1) (some ⟨wr.heap.size + 1, 0, none⟩) 1 1 e.cells rfl (two_reads _ _ _ _ _ (by simp)) e.cells_one (by simp only [maxLen];  omega) (by  omega) (by simp; omega) ?_; intro v2 w2 hown2 hg2 hat2)
          have HO2 := Lib.hid (HO.out.app (e := e) (below_a2 wr _ _) hown2 hg2 hat2)
          clear hown2 hg2 hat2
          go_roundw
          case rel => exact ⟨k + 1, false, out ++ [e], by omega, by go_num, rfl, Lib.hid (hlaid.out.skip he.out HG.out), by simp; omega, HO2.out⟩
          case measure => simp [intOf]; omega
    · cases b with
      | true =>
        have HV := Lib.hid (hlaid.out.end_yes (by omega))
        obtain ⟨A2, c2, rfl⟩ := own_formK hout.own
        clear hx0 hx1
        go_wp2
        go_ret
        refine ⟨A2, c2, ?_, ?_, hbW⟩
        · rw [HV.out]; rfl
        · rw [HV.out]; exact own_mono HO.out.own (by omega)
      | false =>
        have HV := Lib.hid (hlaid.out.end_no (by omega))
        have HBW := Lib.hid hbW
        clear hx0 hx1 hout hbW
        go_wp2_with (at_builtin; refine wpList_append_any _ rfl (.tmp 39) (.tmp 41) _ rfl (w.heap.size + 1) 87 i0 _ 2 40 Try.underlying23 hi hz0 hz1 hz2 rfl (by omega) _ out.length (out.flatMap Ent.cells) rfl (HO.out.own.alloc _) (wr.heap.size + 1) (some ⟨wr.heap.size, 0, none⟩) 1 1 x.cells rfl (two_reads _ _ _ _ _ (by simp)) x.cells_one (by simp only [maxLen];  omega) (by  omega) (by simp; omega) ?_; intro v2 w2 hown2 hg2 hat2)
        have HO2 := Lib.hid (HO.out.app (e := x) (below_a1 wr _) hown2 hg2 hat2)
        have hb2 : Below w.heap.size w w2 := (HBW.out.alloc HBW.out.size _).grown hg2 (by simp; omega) (fun j hj => by have := HO.out.blk j hj; omega)
        obtain ⟨A2, c2, rfl⟩ := own_formK hown2
        clear hown2 hg2 hat2
        go_ret
        refine ⟨A2, c2, ?_, ?_, hb2⟩
        · rw [HV.out]; simp
        · rw [HV.out]
          have := own_mono HO2.out.own (Nat.le_succ w.heap.size)
          simpa using this
end Go.Proofs.Ytejibpajjoaldaa
namespace Go.Proofs.Ytejibpajjoaldaa
open Go.RowKit

/-- What an append onto a full slice gives: the slice itself, or a new row. -/
def FullApp (w : World) (e size : Nat) (A0 : Option Addr) (n m : Nat) (all : List Value) (v : Value) (w' : World) : Prop :=
  (m = 0 ∧ v = .slice A0 n n ∧ w' = w) ∨ (0 < m ∧ ∃ cap, v = .slice (some ⟨w.heap.size, 0, none⟩) (n + m) cap ∧ w'.ownsRow w.heap.size e size v (n + m) all ∧ Below w.heap.size w w')

section
variable {P : Program} (w : World)
theorem run_append_full (t ty e : TypeId) (i : TypeInfo) (z : Value) (size bytes : Nat) (ht : P.underlying t = some (.slice e)) (hi : P.info? e = some i) (hz : i.zero = some z)
    (hsize : i.size = size) (hby : i.bytes = bytes) (hzs : z.cells.size = size)
    (B0 : Nat) (A0 : Option Addr) (n : Nat) (olds : List Value) (hr0 : Reads w B0 size A0 n olds) (B : Nat) (A : Option Addr) (m c : Nat) (news : List Value) (hr : Reads w B size A m news)
    (h63 : n + m ≤ maxLen) (hbytes : (n + m) * bytes ≤ 140737488355328) :
    ∃ v w', (Builtin.append_ #[t, t] ty #[.slice A0 n n, .slice A m c]).run P w = .ok v w' ∧ FullApp w e size A0 n m (olds ++ news) v w' := by
  subst hsize hby
  rcases Nat.eq_zero_or_pos m with h0 | h0
  · subst h0
    refine ⟨.slice A0 n n, w, ?_, .inl ⟨rfl, rfl, rfl⟩⟩
    cases A <;> cases A0 <;> simp [Builtin.append_, run_underlying ht, sizeOf, typeInfo, hi, Builtin.lenOf, Builtin.firstCells, loadCells, loadCellsFrom, storeCells]
  · obtain ⟨a, rfl, _, hnews⟩ := hr.2 h0
    have hsmall : n + m ≤ 9223372036854775807 := by simp only [maxLen] at h63; omega
    have hlen : (olds ++ news).length = (n + m) * i.size := by rw [List.length_append, hr0.1, hr.1, Nat.add_mul]
    have key : ∀ (old : Nat), old < n + m → (w.drew.alloc (.cells (olds.toArray ++ news.toArray ++ Builtin.zeroCells z.cells (grownCap w (n + m) old e - (n + m))) e)).ownsRow w.heap.size e i.size (.slice (some ⟨w.heap.size, 0, none⟩) (n + m) (grownCap w (n + m) old e)) (n + m) (olds ++ news) ∧
        Below w.heap.size w (w.drew.alloc (.cells (olds.toArray ++ news.toArray ++ Builtin.zeroCells z.cells (grownCap w (n + m) old e - (n + m))) e)) := by
      intro old ho
      have hge := grownCap_ge w (n + m) old e
      have hcm : grownCap w (n + m) old e ≤ maxLen := grownCap_le_maxLen w (n + m) old e h63
      refine ⟨⟨hlen, .inr ⟨w.heap.size, _, _, rfl, Nat.le_refl _, heap_alloc_new w.drew _, hge, hcm, ?_, ?_⟩⟩, ⟨rfl, rfl, rfl, by simp, fun k hk => Below.heap_alloc w.drew _ k hk⟩⟩
      · simp only [Array.size_append, List.size_toArray, size_zeroCells, hzs, hr0.1, hr.1, ← Nat.add_mul]
        congr 1
        omega
      · simp only [Array.toList_append, List.append_assoc]
        rw [← List.append_assoc, ← hlen]
        exact List.take_left
    rcases A0 with _ | b
    · have hn : n = 0 := by
        rcases Nat.eq_zero_or_pos n with h | h
        · exact h
        · obtain ⟨_, h, _⟩ := hr0.2 h
          cases h
      subst hn
      have ho : olds = [] := List.eq_nil_of_length_eq_zero (by simpa using hr0.1)
      subst ho
      have hrun := run_append_nil (P := P) w t ty e i z ht hi hz a m c news hr.1 hnews (by omega) (by omega) (by have hb := hbytes; simp only [Nat.zero_add] at hb; omega)
      have hk := key 0 (by omega)
      simp only [Nat.zero_add, List.nil_append, Array.empty_append] at hk ⊢
      exact ⟨_, _, hrun, .inr ⟨h0, _, by rw [Nat.zero_add], by simpa using hk.1, hk.2⟩⟩
    · have holds : ∀ j u, olds[j]? = some u → w.cell? (b.add j) = some u := by
        intro j u hu
        rcases Nat.eq_zero_or_pos n with h | h
        · subst h
          have ho : olds = [] := List.eq_nil_of_length_eq_zero (by simpa using hr0.1)
          subst ho
          simp at hu
        · obtain ⟨b', hb, _, hc⟩ := hr0.2 h
          injection hb with hb
          subst hb
          exact hc j u hu
      have hrun := run_append_grow (P := P) w t ty e i z ht hi hz b n n olds hr0.1 holds a m c news hr.1 hnews (by omega) (by omega) (growslice_fits (by omega) hbytes)
      have hk := key n (by omega)
      exact ⟨_, _, hrun, .inr ⟨h0, _, rfl, hk.1, hk.2⟩⟩

theorem wp_append_full {o : Oper} {a : Act} {K : Act → World → Prop} {Q : Exit → Act → World → Prop} (s x : Operand) (t : TypeId)
    (ho : o.op = .call { callee := .builtin .append, args := #[s, x], argTypes := #[t, t] })
    (e : TypeId) (i : TypeInfo) (z : Value) (size bytes : Nat) (ht : P.underlying t = some (.slice e)) (hi : P.info? e = some i) (hz : i.zero = some z)
    (hsize : i.size = size) (hby : i.bytes = bytes) (hzs : z.cells.size = size)
    (B0 : Nat) (A0 : Option Addr) (n : Nat) (olds : List Value) (hs : a.eval s = .slice A0 n n) (hr0 : Reads w B0 size A0 n olds)
    (B : Nat) (A : Option Addr) (m c : Nat) (news : List Value) (hx : a.eval x = .slice A m c) (hr : Reads w B size A m news)
    (h63 : n + m ≤ maxLen) (hbytes : (n + m) * bytes ≤ 140737488355328)
    (h : ∀ v' w', FullApp w e size A0 n m (olds ++ news) v' w' → K (a.put o.dst v') w') : o.wp P a w K Q := by
  obtain ⟨v', w', hrun, h2⟩ := run_append_full (P := P) w t o.type e i z size bytes ht hi hz hsize hby hzs B0 A0 n olds hr0 B A m c news hr h63 hbytes
  unfold Oper.wp execOp
  simp only [ho, resolve, invoke, builtin, Sem.run_bind, Sem.run_pure, Result.andThen_ok, List.map_toArray, List.map_cons, List.map_nil, hs, hx, hrun]
  exact h v' w' h2
theorem wpList_append_full {ops : Array Oper} {rest : List Oper} {o : Oper} {a : Act} {Q : Exit → Act → World → Prop} (hgd : o.guard = none) (s x : Operand) (t : TypeId)
    (ho : o.op = .call { callee := .builtin .append, args := #[s, x], argTypes := #[t, t] })
    (e : TypeId) (i : TypeInfo) (z : Value) (size bytes : Nat) (ht : P.underlying t = some (.slice e)) (hi : P.info? e = some i) (hz : i.zero = some z)
    (hsize : i.size = size) (hby : i.bytes = bytes) (hzs : z.cells.size = size)
    (B0 : Nat) (A0 : Option Addr) (n : Nat) (olds : List Value) (hs : a.eval s = .slice A0 n n) (hr0 : Reads w B0 size A0 n olds)
    (B : Nat) (A : Option Addr) (m c : Nat) (news : List Value) (hx : a.eval x = .slice A m c) (hr : Reads w B size A m news)
    (h63 : n + m ≤ maxLen) (hbytes : (n + m) * bytes ≤ 140737488355328)
    (h : ∀ v' w', FullApp w e size A0 n m (olds ++ news) v' w' → wpList P ops Q rest (a.put o.dst v') w') : wpList P ops Q (o :: rest) a w :=
  wpList_plain hgd fun _ hK => wp_append_full w s x t ho e i z size bytes ht hi hz hsize hby hzs B0 A0 n olds hs hr0 B A m c news hx hr h63 hbytes fun v' w' h2 => hK _ _ (h v' w' h2)
theorem step_append_full {ops : Array Oper} {o : Oper} {a : Act} {K : Act → World → Prop} {Q : Exit → Act → World → Prop} {E : Prop} (hgd : o.guard = none) (s x : Operand) (t : TypeId)
    (ho : o.op = .call { callee := .builtin .append, args := #[s, x], argTypes := #[t, t] })
    (e : TypeId) (i : TypeInfo) (z : Value) (size bytes : Nat) (ht : P.underlying t = some (.slice e)) (hi : P.info? e = some i) (hz : i.zero = some z)
    (hsize : i.size = size) (hby : i.bytes = bytes) (hzs : z.cells.size = size)
    (B0 : Nat) (A0 : Option Addr) (n : Nat) (olds : List Value) (hs : a.eval s = .slice A0 n n) (hr0 : Reads w B0 size A0 n olds)
    (B : Nat) (A : Option Addr) (m c : Nat) (news : List Value) (hx : a.eval x = .slice A m c) (hr : Reads w B size A m news)
    (h63 : n + m ≤ maxLen) (hbytes : (n + m) * bytes ≤ 140737488355328)
    (h : ∀ v' w', FullApp w e size A0 n m (olds ++ news) v' w' → K (a.put o.dst v') w') :
    if Region.wanted o (yielded ops a.tmps) = true then Oper.wp P o a w K Q else E := by
  have hw : Region.wanted o (yielded ops a.tmps) = true := by simp [Region.wanted, hgd]
  rw [if_pos hw]
  exact wp_append_full w s x t ho e i z size bytes ht hi hz hsize hby hzs B0 A0 n olds hs hr0 B A m c news hx hr h63 hbytes h
end

/-- Of bytes: what comes back reads as all of them. -/
theorem FullApp.dat {w w' : World} {e : Nat} {A0 : Option Addr} {n m : Nat} {xs ys : List Nat} {v : Value} (h : FullApp w e 1 A0 n m (vb xs ++ vb ys) v w') (hx : Rd w A0 n xs) (hy : ys.length = m) (hs : ∀ y ∈ ys, y < 256) :
    ∃ A c, v = .slice A (n + m) c ∧ (⟨A, n + m, c, xs ++ ys⟩ : Dat).Ok w' ∧ Below w.heap.size w w' := by
  rcases h with ⟨rfl, rfl, rfl⟩ | ⟨_, cap, rfl, ho, hb⟩
  · have hye : ys = [] := List.eq_nil_of_length_eq_zero hy
    subst hye
    exact ⟨A0, n, rfl, ⟨by simpa using hx, Nat.le_refl _⟩, Below.refl _ _⟩
  · rw [← vb_append] at ho
    have hsm : ∀ x ∈ xs ++ ys, x < 256 := fun x hxx => by
      rcases List.mem_append.1 hxx with hxx | hxx
      · exact hx.small x hxx
      · exact hs x hxx
    exact ⟨_, cap, rfl, ⟨Rd.of_own ho hsm, own_cap ho⟩, hb⟩
/-- Onto nothing. -/
theorem FullApp.copy {w w' : World} {e : Nat} {A0 : Option Addr} {m : Nat} {ys : List Nat} {v : Value} (h : FullApp w e 1 A0 0 m ([] ++ vb ys) v w') (hy : ys.length = m) (hs : ∀ y ∈ ys, y < 256) :
    ∃ A c, v = .slice A m c ∧ (⟨A, m, c, ys⟩ : Dat).Ok w' ∧ Below w.heap.size w w' := by
  obtain ⟨A, c, h1, h2, h3⟩ := FullApp.dat (xs := []) h Rd.nil hy hs
  rw [Nat.zero_add] at h1 h2
  exact ⟨A, c, h1, h2, h3⟩
end Go.Proofs.Ytejibpajjoaldaa
namespace Go.Proofs.Ytejibpajjoaldaa
open Go.RowKit

theorem hasF_ents (s : ByteArray) (es : List Ent) : hasF s (es.map Ent.file) = hasK Ent.nm s es := hasK_map (f := Ent.file) (fun _ => rfl) s es
theorem atI_nonneg (s : ByteArray) (es : List Ent) : decide (0 ≤ atI s es) = hasK Ent.nm s es := by
  unfold atI
  split
  · rename_i h
    rw [h]
    simp
  · rename_i h
    have : hasK Ent.nm s es = false := by simpa using h
    rw [this]
    decide

set_option maxRecDepth 10000 in
set_option maxHeartbeats 1000000 in
theorem specFits (A : Option Addr) (n c : Nat) (es : List Ent) (o : OpE) (w : World) (hr : SlF w A n es) (hn : n ≤ 2097152) :
    Calls Try.prog 52 #[.slice A n c, .agg #[.int .i64 o.kind, .string o.nm, .string o.to, .slice o.d.A o.d.n o.d.c]] w (Tells w (fitsF (es.map Ent.file) o.op)) := by
  have C := Lib.hid (fun W (h : Below w.heap.size w W) => specAt A n c es o.nm W (hr.below h) hn)
  have HD := Lib.hid (atI_nonneg o.nm es)
  have hl : (es.map Ent.file).length = n := by rw [List.length_map]; exact hr.len
  have hhas := hasF_ents o.nm es
  obtain ⟨kind, nm, to, d⟩ := o
  simp only [OpE.op] at *
  by_cases h1 : kind = 1
  · have HV : Hid (fitsF (es.map Ent.file) (kind, nm, to, d.xs) = (hasK Ent.nm nm es || decide (n < 12))) := Lib.hid (by simp only [fitsF, h1, if_true, hhas, hl])
    subst h1
    have HD2 := HD.out
    generalize hasK Ent.nm nm es = b at HV HD2
    generalize atI nm es = q at C HD2
    clear hr hl hhas HD
    cases b with
    | true =>
      have hq : 0 ≤ q := by simpa using HD2
      clear HD2
      go_enter Try.func52, Try.ntmps52
      go_wp2_with fail
      refine (C.out _ (below_a1 _ _)).mono ?_
      rintro e w1 ⟨rfl, hb1⟩
      obtain ⟨hc, hf⟩ := bcell hb1
      go_wp2
      go_ret
      exact ⟨ret_bool (by rw [HV.out]; simp), (below_a1 _ _).trans (hb1.mono (by simp))⟩
    | false =>
      have hq : q < 0 := by simpa using HD2
      clear HD2
      go_enter Try.func52, Try.ntmps52
      go_wp2_with fail
      refine (C.out _ (below_a1 _ _)).mono ?_
      rintro e w1 ⟨rfl, hb1⟩
      obtain ⟨hc, hf⟩ := bcell hb1
      go_wp2
      go_ret
      exact ⟨ret_bool (by rw [HV.out, Bool.eq_iff_iff]; simp; omega), (below_a1 _ _).trans (hb1.mono (by simp))⟩
  · have e1 : (kind == 1) = false := by simpa using h1
    by_cases h3 : kind = 3
    · subst h3
      have HV : Hid (fitsF (es.map Ent.file) (3, nm, to, d.xs) = (hasK Ent.nm nm es && decide (to ≠ nm))) := Lib.hid (by simp [fitsF, hhas])
      have HD2 := HD.out
      generalize hasK Ent.nm nm es = b at HV HD2
      generalize atI nm es = q at C HD2
      clear hr hl hhas HD e1 h1
      cases b with
      | true =>
        have hq : 0 ≤ q := by simpa using HD2
        by_cases ht : to = nm
        · have hs := str_eq ht
          have HT := Lib.hid ht
          clear HD2 ht
          go_enter Try.func52, Try.ntmps52
          go_wp2_with fail
          refine (C.out _ (below_a1 _ _)).mono ?_
          rintro e w1 ⟨rfl, hb1⟩
          obtain ⟨hc, hf⟩ := bcell hb1
          go_wp2
          go_ret
          exact ⟨ret_bool (by rw [HV.out]; simp [HT.out]), (below_a1 _ _).trans (hb1.mono (by simp))⟩
        · have hs := str_ne ht
          have HT := Lib.hid ht
          clear HD2 ht
          go_enter Try.func52, Try.ntmps52
          go_wp2_with fail
          refine (C.out _ (below_a1 _ _)).mono ?_
          rintro e w1 ⟨rfl, hb1⟩
          obtain ⟨hc, hf⟩ := bcell hb1
          go_wp2
          go_ret
          exact ⟨ret_bool (by rw [HV.out]; simp [HT.out]), (below_a1 _ _).trans (hb1.mono (by simp))⟩
      | false =>
        have hq : q < 0 := by simpa using HD2
        clear HD2
        go_enter Try.func52, Try.ntmps52
        go_wp2_with fail
        refine (C.out _ (below_a1 _ _)).mono ?_
        rintro e w1 ⟨rfl, hb1⟩
        obtain ⟨hc, hf⟩ := bcell hb1
        go_wp2
        go_ret
        exact ⟨ret_bool (by rw [HV.out]; simp), (below_a1 _ _).trans (hb1.mono (by simp))⟩
    · have e3 : (kind == 3) = false := by simpa using h3
      have HV : Hid (fitsF (es.map Ent.file) (kind, nm, to, d.xs) = hasK Ent.nm nm es) := Lib.hid (by simp only [fitsF, h1, if_false, h3, hhas])
      have HD2 := HD.out
      generalize hasK Ent.nm nm es = b at HV HD2
      generalize atI nm es = q at C HD2
      clear hr hl hhas HD h1 h3
      cases b with
      | true =>
        have hq : 0 ≤ q := by simpa using HD2
        clear HD2
        go_enter Try.func52, Try.ntmps52
        go_wp2_with fail
        refine (C.out _ (below_a1 _ _)).mono ?_
        rintro e w1 ⟨rfl, hb1⟩
        obtain ⟨hc, hf⟩ := bcell hb1
        go_wp2
        go_ret
        exact ⟨ret_bool (by rw [HV.out]), (below_a1 _ _).trans (hb1.mono (by simp))⟩
      | false =>
        have hq : q < 0 := by simpa using HD2
        clear HD2
        go_enter Try.func52, Try.ntmps52
        go_wp2_with fail
        refine (C.out _ (below_a1 _ _)).mono ?_
        rintro e w1 ⟨rfl, hb1⟩
        obtain ⟨hc, hf⟩ := bcell hb1
        go_wp2
        go_ret
        exact ⟨ret_bool (by rw [HV.out]; simp; omega), (below_a1 _ _).trans (hb1.mono (by simp))⟩

theorem has_at (s : ByteArray) : ∀ (es : List Ent), hasK Ent.nm s es = true → ∃ (k : Nat) (e : Ent), es[k]? = some e ∧ e.nm = s ∧ (∀ (j : Nat) (x : Ent), j < k → es[j]? = some x → x.nm ≠ s) ∧ findK Ent.nm s es = some e
  | [], h => by simp [hasK] at h
  | a :: r, h => by
    by_cases ha : a.nm = s
    · exact ⟨0, a, rfl, ha, fun j x hj => absurd hj (by omega), by simp [findK, ha]⟩
    · have h2 : hasK Ent.nm s r = true := by simpa [hasK, ha] using h
      obtain ⟨k, e, h3, h4, h5, h6⟩ := has_at s r h2
      refine ⟨k + 1, e, by simpa using h3, h4, fun j x hj hx => ?_, by simpa [findK, ha] using h6⟩
      cases j with
      | zero => simp at hx; subst hx; exact ha
      | succ i => exact h5 i x (by omega) (by simpa using hx)
theorem dataF_at {s : ByteArray} {es : List Ent} {e : Ent} (h : findK Ent.nm s es = some e) : dataF s (es.map Ent.file) = e.d.xs := by
  unfold dataF
  rw [findK_map (f := Ent.file) (key := Ent.nm) (fun _ => rfl), h]
  rfl

/-- A list of files that the model gives, as data. -/
def SeesF (w : World) (fs : List FileD) (e : Ending) (w' : World) : Prop :=
  ∃ A c es, e = .returned (.slice A es.length c) ∧ es.map Ent.file = fs ∧ SlF w' A es.length es ∧ Below w.heap.size w w'

theorem GivesF.sees {w : World} {es : List Ent} {e : Ending} {w' : World} (h : GivesF w es e w') (ho : ∀ x ∈ es, x.d.Ok w) {fs : List FileD} (hf : es.map Ent.file = fs) : SeesF w fs e w' := by
  obtain ⟨A, c, he, hr, hb⟩ := h
  exact ⟨A, c, es, he, hf, sl_of_own hr (fun x hx => (ho x hx).below hb), hb⟩

theorem withK_ok {w : World} {x : Ent} {es : List Ent} (hx : x.d.Ok w) (he : ∀ e ∈ es, e.d.Ok w) : ∀ e ∈ withK Ent.nm x es, e.d.Ok w := fun e h => by
  rcases insK_mem.1 h with rfl | h
  · exact hx
  · exact he e (lessK_mem h).1

set_option maxRecDepth 10000 in
set_option maxHeartbeats 1000000 in
theorem specMake_1 (A : Option Addr) (n c : Nat) (es : List Ent) (nm to : ByteArray) (d : Dat) (w : World) (hr : SlF w A n es) (hn : n ≤ 524288) :
    Calls Try.prog 81 #[.slice A n c, .agg #[.int .i64 1, .string nm, .string to, .slice d.A d.n d.c]] w (SeesF w (makeF (es.map Ent.file) (1, nm, to, d.xs))) := by
  have C := Lib.hid (fun W (h : Below w.heap.size w W) => specWith A n c es ⟨nm, ⟨none, 0, 0, []⟩⟩ W (hr.below h) hn)
  have HK := Lib.hid (withK_ok (x := ⟨nm, ⟨none, 0, 0, []⟩⟩) (w := w) ⟨Rd.nil, Nat.le_refl _⟩ hr.each)
  have HV : Hid (makeF (es.map Ent.file) (1, nm, to, d.xs) = (withK Ent.nm ⟨nm, ⟨none, 0, 0, []⟩⟩ es).map Ent.file) := Lib.hid (by rw [withK_map (f := Ent.file) (key := Ent.nm) (key' := Prod.fst) (fun _ => rfl)]; rfl)
  clear hr
  go_enter Try.func81, Try.ntmps81
  go_wp2_with fail
  refine (C.out _ (below_a1 _ _)).mono ?_
  rintro e w1 ⟨A1, c1, rfl, ho1, hb1⟩
  go_wp2
  go_ret
  have hb := (below_a1 w _).trans (hb1.mono (by simp))
  exact ⟨A1, c1, _, rfl, HV.out.symm, sl_of_own ho1 (fun x hx => (HK.out x hx).below hb), hb⟩

set_option maxRecDepth 10000 in
set_option maxHeartbeats 1000000 in
theorem specMake_4 (A : Option Addr) (n c : Nat) (es : List Ent) (kind : Int) (nm to : ByteArray) (d : Dat) (w : World) (hr : SlF w A n es) (hn : n ≤ 524288) (h1 : kind ≠ 1) (h2 : kind ≠ 2) (h3 : kind ≠ 3) :
    Calls Try.prog 81 #[.slice A n c, .agg #[.int .i64 kind, .string nm, .string to, .slice d.A d.n d.c]] w (SeesF w (makeF (es.map Ent.file) (kind, nm, to, d.xs))) := by
  have C := Lib.hid (fun W (h : Below w.heap.size w W) => specLess A n c es nm W (hr.below h) (by omega))
  have HK := Lib.hid (fun e (he : e ∈ lessK Ent.nm nm es) => hr.each e (lessK_mem he).1)
  have HV : Hid (makeF (es.map Ent.file) (kind, nm, to, d.xs) = (lessK Ent.nm nm es).map Ent.file) := Lib.hid (by rw [lessK_map (f := Ent.file) (key := Ent.nm) (key' := Prod.fst) (fun _ => rfl)]; simp only [makeF, if_neg h1, if_neg h2, if_neg h3]; rfl)
  have e1 : (kind == 1) = false := by simpa using h1
  have e2 : (kind == 2) = false := by simpa using h2
  have e3 : (kind == 3) = false := by simpa using h3
  clear hr h1 h2 h3
  go_enter Try.func81, Try.ntmps81
  go_wp2_with fail
  refine (C.out _ (below_a1 _ _)).mono ?_
  rintro e w1 ⟨A1, c1, rfl, ho1, hb1⟩
  go_wp2
  go_ret
  have hb := (below_a1 w _).trans (hb1.mono (by simp))
  exact ⟨A1, c1, _, rfl, HV.out.symm, sl_of_own ho1 (fun x hx => (HK.out x hx).below hb), hb⟩

set_option maxRecDepth 10000 in
set_option maxHeartbeats 2000000 in
theorem specMake_2 (A : Option Addr) (n c : Nat) (es : List Ent) (nm to : ByteArray) (d : Dat) (w : World) (hr : SlF w A n es) (hn : n ≤ 524288) (hd : d.Ok w) (hh : hasK Ent.nm nm es = true) (hs : ∀ e ∈ es, e.d.n ≤ 1048576) (hs2 : d.n ≤ 1048576) :
    Calls Try.prog 81 #[.slice A n c, .agg #[.int .i64 2, .string nm, .string to, .slice d.A d.n d.c]] w (SeesF w (makeF (es.map Ent.file) (2, nm, to, d.xs))) := by
  obtain ⟨i0, hi, hz0, hz1, hz2⟩ := info_parts Try.infoByte
  obtain ⟨k, e, hk, he, hall, hfind⟩ := has_at nm es hh
  have hat := ixE_at hk he hall
  have C := Lib.hid (fun W (h : Below w.heap.size w W) => specAt A n c es nm W (hr.below h) (by omega))
  rw [hat] at C
  have hkn : k < n := by have := (List.getElem?_eq_some_iff.1 hk).1; have := hr.len; omega
  have D0 : ∀ W (_ : Below w.heap.size w W) (A2 : Option Addr) (n2 c2 : Nat) (xs2 : List Nat), Calls Try.prog 89 #[.slice A n c, .agg #[.string nm, .slice A2 n2 c2]] W (GivesF W (withK Ent.nm ⟨nm, ⟨A2, n2, c2, xs2⟩⟩ es)) := fun W h A2 n2 c2 xs2 => specWith A n c es ⟨nm, ⟨A2, n2, c2, xs2⟩⟩ W (hr.below h) hn
  have D := Lib.hid D0
  clear D0
  have HE := Lib.hid hr.each
  have HEO := Lib.hid (hr.each e (List.mem_of_getElem? hk))
  have hen := hs e (List.mem_of_getElem? hk)
  have HD := Lib.hid hd
  have HV : Hid (∀ y : Ent, y.nm = nm → y.d.xs = e.d.xs ++ d.xs → makeF (es.map Ent.file) (2, nm, to, d.xs) = (withK Ent.nm y es).map Ent.file) := Lib.hid (fun y h1 h2 => by
    rw [withK_map (f := Ent.file) (key := Ent.nm) (key' := Prod.fst) (fun _ => rfl)]
    simp only [makeF, withF, dataF_at hfind, Ent.file, h1, h2]
    rfl)
  obtain ⟨b, off, e0, rfl, hbw, he0, hok0, c0, c1⟩ := hr.at_ hkn
  have hee : e0 = e := by have := he0.out; rw [hk] at this; injection this with this; exact this.symm
  subst hee
  have HAT := Lib.hid hr.len
  clear hr hs hd hh hat hall hk he hfind he0 hok0 c0
  go_enter Try.func81, Try.ntmps81
  go_wp2_with fail
  refine (C.out _ (below_a1 _ _)).mono ?_
  rintro e1 w1 ⟨rfl, hb1⟩
  have HB1 := Lib.hid ((below_a1 w _).trans (hb1.mono (by simp)))
  have c1 := (HB1.out.cell (p := ⟨b, off + k * 2 + 1, none⟩) hbw).trans c1
  obtain ⟨l4, b0, b1, b2, b3⟩ := (Box4.new w (.int .i64 2) (.string nm) (.string to) (.slice d.A d.n d.c) 30).below hb1
  have hw1 : w.heap.size < w1.heap.size := l4
  have hbw1 : b < w1.heap.size := by have := HB1.out.size; omega
  clear hb1
  go_wp2
  go_region_held3 (fun W => W.cell? ⟨w.heap.size, 1, none⟩ = some (.string nm) ∧ W.cell? ⟨w.heap.size, 3, none⟩ = some (.slice d.A d.n d.c))
    (first
      | go_keep
      | (exact ⟨(hb9.cell (p := ⟨w.heap.size, 1, none⟩) (by omega)).trans (by simp [*]), (hb9.cell (p := ⟨w.heap.size, 3, none⟩) (by omega)).trans (by simp [*])⟩)
      | (exact ⟨(World.cell?_of_block (a := ⟨w.heap.size, 1, none⟩) (hg2.block w.heap.size (by omega) (fun hh => by have := (hown1.lt _ hh.symm).1; omega))).trans (by simp [*]), (World.cell?_of_block (a := ⟨w.heap.size, 3, none⟩) (hg2.block w.heap.size (by omega) (fun hh => by have := (hown1.lt _ hh.symm).1; omega))).trans (by simp [*])⟩)
      | (exact ⟨(World.cell?_of_block (a := ⟨w.heap.size, 1, none⟩) (hg1.block w.heap.size (by simp; omega) (fun hh => by simp [Value.ownBlock] at hh; omega))).trans (by simp [*]), (World.cell?_of_block (a := ⟨w.heap.size, 3, none⟩) (hg1.block w.heap.size (by simp; omega) (fun hh => by simp [Value.ownBlock] at hh; omega))).trans (by simp [*])⟩))
    (first
      | (refine step_append_any _ (by rfl) (.tmp 29) (.tmp 30) _ (by rfl) w1.heap.size 5 i0 _ 1 1 Try.underlying22 hi hz0 hz1 hz2 rfl (by omega) (.slice (some ⟨w1.heap.size, 0, none⟩) 0 0) 0 [] (by rfl) (built_none w1) w1.heap.size e0.d.A e0.d.n e0.d.c (vb e0.d.xs) (by rfl) ((HEO.out.rd.below HB1.out).reads.alloc (Nat.le_refl _) _) (vb_oneCell _) (by simp only [maxLen]; omega) (by omega) (by simp) ?_; intro v1 w2 hown1 hg1 hat1; have HB2 : Hid (Below w.heap.size w w2) := Lib.hid ((HB1.out.alloc HB1.out.size _).drew.grown hg1 (by simp; omega) (fun k hk => by simp [Value.ownBlock] at hk; omega)); have hw2 : w.heap.size < w2.heap.size := (by have := hg1.size; simp at this; omega); have hw12 : w1.heap.size ≤ w2.heap.size := (by have := hg1.size; simp at this; omega))
      | (refine step_append_any _ (by rfl) (.tmp 31) (.tmp 33) _ (by rfl) w1.heap.size 5 i0 _ 1 1 Try.underlying22 hi hz0 hz1 hz2 rfl (by omega) v1 (0 + e0.d.n) ([] ++ vb e0.d.xs) (by rfl) hown1 w2.heap.size d.A d.n d.c (vb d.xs) (by rfl) (HD.out.rd.below HB2.out).reads (vb_oneCell _) (by simp only [maxLen]; omega) (by omega) hw12 ?_; intro v2 w3 hown2 hg2 hat2; simp only [Nat.zero_add, List.nil_append] at hown2; have HB3 : Hid (Below w.heap.size w w3) := Lib.hid (HB2.out.grown hg2 (by omega) (fun k hk => by have := (hown1.lt k hk).1; omega)); obtain ⟨A2, c2, hv2⟩ := own_form hown2; subst hv2; have hw3 : w.heap.size < w3.heap.size := (by have := hg2.size; omega))
      | (go_at_call 89; ((with_reducible refine (D.out _ HB3.out _ _ _ (e0.d.xs ++ d.xs)).mono ?_)); rintro e1 w4 ⟨A4, c4, rfl, ho4, hb9⟩))
  all_goals
    go_wp2
    go_ret
    have hsm : ∀ x ∈ e0.d.xs ++ d.xs, x < 256 := fun x hx => by
      rcases List.mem_append.1 hx with hx | hx
      · exact HEO.out.rd.small x hx
      · exact HD.out.rd.small x hx
    have ho5 : w3.ownsRow w1.heap.size 5 1 (.slice A2 (e0.d.n + d.n) c2) (e0.d.n + d.n) (vb (e0.d.xs ++ d.xs)) := by rw [vb_append]; exact hown2
    have hok5 : (⟨A2, e0.d.n + d.n, c2, e0.d.xs ++ d.xs⟩ : Dat).Ok w3 := ⟨Rd.of_own ho5 hsm, own_cap ho5⟩
    exact ⟨A4, c4, _, rfl, (HV.out ⟨nm, ⟨A2, e0.d.n + d.n, c2, e0.d.xs ++ d.xs⟩⟩ rfl rfl).symm, sl_of_own ho4 (fun x hx => (withK_ok hok5 (fun e he => (HE.out e he).below HB3.out) x hx).keep hb9.size hb9.block), HB3.out.trans (hb9.mono HB3.out.size)⟩

theorem below_chain {w W W' : World} (h : Below w.heap.size w W) (k : Below W.heap.size W W') : Below w.heap.size w W' := h.trans (k.mono h.size)

set_option maxRecDepth 10000 in
set_option maxHeartbeats 2000000 in
theorem specMake_3 (A : Option Addr) (n c : Nat) (es : List Ent) (nm to : ByteArray) (d : Dat) (w : World) (hr : SlF w A n es) (hn : n ≤ 524288) (hh : hasK Ent.nm nm es = true) (hs : ∀ e ∈ es, e.d.n ≤ 1048576) :
    Calls Try.prog 81 #[.slice A n c, .agg #[.int .i64 3, .string nm, .string to, .slice d.A d.n d.c]] w (SeesF w (makeF (es.map Ent.file) (3, nm, to, d.xs))) := by
  obtain ⟨i0, hi, hz0, hz1, hz2⟩ := info_parts Try.infoByte
  obtain ⟨k, e, hk, he, hall, hfind⟩ := has_at nm es hh
  have hat := ixE_at hk he hall
  have C := Lib.hid (fun W (h : Below w.heap.size w W) => specAt A n c es nm W (hr.below h) (by omega))
  rw [hat] at C
  have hkn : k < n := by have := (List.getElem?_eq_some_iff.1 hk).1; have := hr.len; omega
  have C2 := Lib.hid (fun W (h : Below w.heap.size w W) => specLess A n c es nm W (hr.below h) (by omega))
  have HE := Lib.hid (fun e (he : e ∈ lessK Ent.nm nm es) => hr.each e (lessK_mem he).1)
  have hlen : (lessK Ent.nm nm es).length ≤ n := by rw [← hr.len]; exact lessK_len _ _
  have HEO := Lib.hid (hr.each e (List.mem_of_getElem? hk))
  have hen := hs e (List.mem_of_getElem? hk)
  have HV : Hid (∀ y : Ent, y.nm = to → y.d.xs = e.d.xs → makeF (es.map Ent.file) (3, nm, to, d.xs) = (withK Ent.nm y (lessK Ent.nm nm es)).map Ent.file) := Lib.hid (fun y h1 h2 => by
    rw [withK_map (f := Ent.file) (key := Ent.nm) (key' := Prod.fst) (fun _ => rfl), lessK_map (f := Ent.file) (key := Ent.nm) (key' := Prod.fst) (fun _ => rfl)]
    simp only [makeF, withF, lessF, dataF_at hfind, Ent.file, h1, h2]
    rfl)
  generalize lessK Ent.nm nm es = ls at C2 HE hlen HV
  have D0 : ∀ W (A5 : Option Addr) (c5 : Nat) (_ : SlF W A5 ls.length ls) (A2 : Option Addr) (n2 c2 : Nat) (xs2 : List Nat), Calls Try.prog 89 #[.slice A5 ls.length c5, .agg #[.string to, .slice A2 n2 c2]] W (GivesF W (withK Ent.nm ⟨to, ⟨A2, n2, c2, xs2⟩⟩ ls)) := fun W A5 c5 h A2 n2 c2 xs2 => specWith A5 ls.length c5 ls ⟨to, ⟨A2, n2, c2, xs2⟩⟩ W h (by omega)
  have D := Lib.hid D0
  obtain ⟨b, off, e0, rfl, hbw, he0, hok0, c0, c1⟩ := hr.at_ hkn
  have hee : e0 = e := by have := he0.out; rw [hk] at this; injection this with this; exact this.symm
  subst hee
  clear hr hs hh hat hall hk he hfind he0 hok0 c0 D0
  go_enter Try.func81, Try.ntmps81
  go_wp2_with fail
  refine (C.out _ (below_a1 _ _)).mono ?_
  rintro e1 w1 ⟨rfl, hb1⟩
  have HB1 := Lib.hid ((below_a1 w _).trans (hb1.mono (by simp)))
  have c1 := (HB1.out.cell (p := ⟨b, off + k * 2 + 1, none⟩) hbw).trans c1
  obtain ⟨l4, b0, b1, b2, b3⟩ := (Box4.new w (.int .i64 3) (.string nm) (.string to) (.slice d.A d.n d.c) 30).below hb1
  have hw1 : w.heap.size < w1.heap.size := l4
  have hbw1 : b < w1.heap.size := by have := HB1.out.size; omega
  clear hb1
  go_wp2
  go_region_held3 (fun W => W.cell? ⟨w.heap.size, 1, none⟩ = some (.string nm) ∧ W.cell? ⟨w.heap.size, 2, none⟩ = some (.string to))
    (first
      | go_keep
      | (exact ⟨(hb9.cell (p := ⟨w.heap.size, 1, none⟩) (by first | omega | (simp; omega))).trans (by simp [*]), (hb9.cell (p := ⟨w.heap.size, 2, none⟩) (by first | omega | (simp; omega))).trans (by simp [*])⟩)
      | (exact ⟨(hbA.cell (p := ⟨w.heap.size, 1, none⟩) (by first | omega | (simp; omega))).trans (by simp [*]), (hbA.cell (p := ⟨w.heap.size, 2, none⟩) (by first | omega | (simp; omega))).trans (by simp [*])⟩)
      | (exact ⟨(hb5.cell (p := ⟨w.heap.size, 1, none⟩) (by first | omega | (simp; omega))).trans (by simp [*]), (hb5.cell (p := ⟨w.heap.size, 2, none⟩) (by first | omega | (simp; omega))).trans (by simp [*])⟩))
    (first
      | (go_at_call 90; ((with_reducible refine (C2.out _ (by first | exact HB1.out.drew | exact (HB1.out.alloc HB1.out.size _).drew | exact HBA.out | exact HB5.out | exact HB5.out.alloc HB5.out.size _ | exact HBA.out.alloc HBA.out.size _)).mono ?_)); rintro e1 w5 ⟨A5, c5, rfl, ho5, hb5⟩; have HB5 : Hid (Below w.heap.size w w5) := Lib.hid (below_chain (by first | exact HB1.out.drew | exact (HB1.out.alloc HB1.out.size _).drew | exact HBA.out | exact HBA.out.alloc HBA.out.size _) hb5); have HL := Lib.hid (sl_of_own ho5 (fun x hx => (HE.out x hx).below HB5.out)); have hw5 : w.heap.size < w5.heap.size := (by have := hb5.size; first | omega | (simp at this; omega)))
      | (refine step_append_full _ rfl (.tmp 53) (.tmp 54) _ rfl 5 i0 _ 1 1 Try.underlying22 hi hz0 hz1 hz2 rfl 0 _ 0 [] rfl Reads.none_ _ e0.d.A e0.d.n e0.d.c (vb e0.d.xs) rfl ((HEO.out.rd.below (by first | exact HB1.out.drew | exact (HB1.out.alloc HB1.out.size _).drew | exact HBA.out | exact HB5.out | exact HB5.out.alloc HB5.out.size _ | exact HBA.out.alloc HBA.out.size _)).reads) (by simp only [maxLen]; omega) (by omega) ?_; intro vA wA hfa; obtain ⟨AA, cA, hvA, hokA, hbA⟩ := FullApp.copy hfa HEO.out.rd.len HEO.out.rd.small; subst hvA; have HKA := Lib.hid hokA; have HBA : Hid (Below w.heap.size w wA) := Lib.hid (below_chain (by first | exact HB1.out.drew | exact (HB1.out.alloc HB1.out.size _).drew | exact HB5.out | exact HB5.out.alloc HB5.out.size _) hbA); have hwA : w.heap.size < wA.heap.size := (by have := hbA.size; first | omega | (simp at this; omega)); (first | (have HLA := Lib.hid (HL.out.below (w' := wA) (by first | exact hbA | exact below_chain (below_a1 _ _) hbA))) | skip))
      | (go_at_call 89; ((with_reducible refine (D.out _ _ _ (by first | exact HLA.out | exact HL.out) _ _ _ e0.d.xs).mono ?_)); rintro e1 w4 ⟨A4, c4, rfl, ho4, hb9⟩))
  all_goals
    go_wp2
    go_ret
    have hb4 : Below w.heap.size w w4 := by first | exact below_chain HBA.out hb9 | exact below_chain HB5.out hb9
    have hok4 : (⟨AA, e0.d.n, cA, e0.d.xs⟩ : Dat).Ok w4 := by first | exact HKA.out.keep hb9.size hb9.block | exact (HKA.out.keep hb5.size hb5.block).keep hb9.size hb9.block
    exact ⟨A4, c4, _, rfl, (HV.out ⟨to, ⟨AA, e0.d.n, cA, e0.d.xs⟩⟩ rfl rfl).symm, sl_of_own ho4 (fun x hx => withK_ok hok4 (fun e he => (HE.out e he).below hb4) x hx), hb4⟩

theorem specMake (A : Option Addr) (n c : Nat) (es : List Ent) (o : OpE) (w : World) (hr : SlF w A n es) (hn : n ≤ 524288) (hd : o.d.Ok w) (hh : o.kind = 2 ∨ o.kind = 3 → hasF o.nm (es.map Ent.file) = true) (hs : ∀ e ∈ es, e.d.n ≤ 1048576) (hs2 : o.d.n ≤ 1048576) :
    Calls Try.prog 81 #[.slice A n c, .agg #[.int .i64 o.kind, .string o.nm, .string o.to, .slice o.d.A o.d.n o.d.c]] w (SeesF w (makeF (es.map Ent.file) o.op)) := by
  obtain ⟨kind, nm, to, d⟩ := o
  by_cases h1 : kind = 1
  · subst h1; exact specMake_1 A n c es nm to d w hr hn
  · by_cases h2 : kind = 2
    · subst h2
      have := hh (.inl rfl)
      rw [hasF_ents] at this
      exact specMake_2 A n c es nm to d w hr hn hd this hs hs2
    · by_cases h3 : kind = 3
      · subst h3
        have := hh (.inr rfl)
        rw [hasF_ents] at this
        exact specMake_3 A n c es nm to d w hr hn this hs
      · exact specMake_4 A n c es kind nm to d w hr hn h1 h2 h3
end Go.Proofs.Ytejibpajjoaldaa
