/- What a law has measured of a disk, said of the disk as a datum; the model's function that asks whether a disk is valid, at every such disk. -/
import Derived.Test.YtfcomnpoehpgiaaVis
import Derived.Test.YtfcomnpoehpgiaaOpen
namespace Go.Proofs.Ytfcomnpoehpgiaa
open Go.RowKit

def wtF (fs : List FileD) : Nat := (fs.map fun f => f.1.size + f.2.length).sum
def wtO (ops : List OpD) : Nat := (ops.map fun o => o.2.1.size + o.2.2.1.size + o.2.2.2.length).sum
def DD.weight (r : DD) : Nat := r.fs.length + wtF r.fs + (r.ops.length + wtO r.ops)

theorem wtF_ents {w : World} : ∀ (es : List Ent), (∀ e ∈ es, e.d.Ok w) → sumF es = wtF (es.map Ent.file)
  | [], _ => rfl
  | e :: r, h => by
    have ih := wtF_ents r (fun x hx => h x (by simp [hx]))
    have h2 := (h e (by simp)).rd.len
    simp only [sumF, wtF, List.map_cons, List.sum_cons, Ent.file, Ent.sz] at *
    omega
theorem wtO_ops {w : World} : ∀ (es : List OpE), (∀ e ∈ es, e.d.Ok w) → sumO es = wtO (es.map OpE.op)
  | [], _ => rfl
  | e :: r, h => by
    have ih := wtO_ops r (fun x hx => h x (by simp [hx]))
    have h2 := (h e (by simp)).rd.len
    simp only [sumO, wtO, List.map_cons, List.sum_cons, OpE.op, OpE.sz] at *
    omega
theorem wtF_each {f : FileD} : ∀ {l : List FileD}, f ∈ l → f.1.size + f.2.length ≤ wtF l
  | [], h => by cases h
  | x :: r, h => by
    simp only [wtF, List.map_cons, List.sum_cons]
    rcases List.mem_cons.1 h with rfl | h
    · omega
    · have := wtF_each h
      simp only [wtF] at this
      omega
theorem wtO_each {f : OpD} : ∀ {l : List OpD}, f ∈ l → f.2.1.size + f.2.2.1.size + f.2.2.2.length ≤ wtO l
  | [], h => by cases h
  | x :: r, h => by
    simp only [wtO, List.map_cons, List.sum_cons]
    rcases List.mem_cons.1 h with rfl | h
    · omega
    · have := wtO_each h
      simp only [wtO] at this
      omega
theorem totF_wt : ∀ (l : List FileD), totF l ≤ wtF l
  | [] => Nat.le_refl _
  | x :: r => by
    have := totF_wt r
    simp only [wtF, totF, List.map_cons, List.sum_cons] at *
    omega
theorem bulkF_wt : ∀ (l : List FileD), bulkF l ≤ l.length + wtF l
  | [] => Nat.le_refl _
  | x :: r => by
    have := bulkF_wt r
    simp only [wtF, bulkF, List.map_cons, List.sum_cons, List.length_cons] at *
    omega
theorem bulkO_wt : ∀ (l : List OpD), bulkO l ≤ 3 * l.length + wtO l
  | [] => Nat.le_refl _
  | x :: r => by
    have := bulkO_wt r
    simp only [wtO, bulkO, List.map_cons, List.sum_cons, List.length_cons] at *
    omega

section
variable {w : World} {r : DD} {A B : Option Addr} {n m : Nat} {es : List Ent} {os : List OpE}
theorem modest_of (hf : SlF w A n es) (ho : SlO w B m os) (h1 : es.map Ent.file = r.fs) (h2 : os.map OpE.op = r.ops) (hw : r.weight ≤ 1048576) : Modest n m es os := by
  unfold DD.weight at hw
  have l1 : es.length = r.fs.length := by rw [← h1, List.length_map]
  have l2 : os.length = r.ops.length := by rw [← h2, List.length_map]
  have l3 := hf.len
  have l4 := ho.len
  refine ⟨by omega, by omega, fun e he => ?_, ?_, fun o he => ?_⟩
  · have h3 := wtF_each (l := r.fs) (f := e.file) (by rw [← h1]; exact List.mem_map.2 ⟨e, he, rfl⟩)
    have h4 := (hf.each e he).rd.len
    simp only [Ent.file] at h3
    omega
  · rw [totE_file es hf.each, h1]
    have := totF_wt r.fs
    omega
  · have h3 := wtO_each (l := r.ops) (f := o.op) (by rw [← h2]; exact List.mem_map.2 ⟨o, he, rfl⟩)
    have h4 := (ho.each o he).rd.len
    simp only [OpE.op] at h3
    omega
theorem fits_w (h1 : es.map Ent.file = r.fs) (h2 : os.map OpE.op = r.ops) (k1 : ∀ e ∈ es, e.d.Ok w) (k2 : ∀ e ∈ os, e.d.Ok w) (hw : r.weight ≤ 1048576) : Fits es os := by
  unfold DD.weight at hw
  have l1 : es.length = r.fs.length := by rw [← h1, List.length_map]
  have l2 : os.length = r.ops.length := by rw [← h2, List.length_map]
  have b1 := bulkF_wt r.fs
  have b2 := bulkO_wt r.ops
  refine ⟨by omega, fun e he => ?_, by omega, fun o he => ?_, ?_⟩
  · have h3 := wtF_each (l := r.fs) (f := e.file) (by rw [← h1]; exact List.mem_map.2 ⟨e, he, rfl⟩)
    have h4 := (k1 e he).rd.len
    simp only [Ent.file] at h3
    omega
  · have h3 := wtO_each (l := r.ops) (f := o.op) (by rw [← h2]; exact List.mem_map.2 ⟨o, he, rfl⟩)
    have h4 := (k2 o he).rd.len
    simp only [OpE.op] at h3
    omega
  · rw [endOs_bulk os _ k2, endEs_bulk es _ k1, h1, h2]; omega
theorem ddOf_eq {room fuse : Int} (h1 : es.map Ent.file = r.fs) (h2 : os.map OpE.op = r.ops) (h3 : r.room = room) (h4 : r.fuse = fuse) : ddOf room fuse es os = r := by
  subst h3 h4
  unfold ddOf
  rw [h1, h2]
end

/-- The model's answer, at a disk that the law has measured. -/
theorem specOk (r : DD) (A : Option Addr) (n c : Nat) (B : Option Addr) (m d : Nat) (es : List Ent) (os : List OpE) (w : World) (hf : SlF w A n es) (ho : SlO w B m os) (h1 : es.map Ent.file = r.fs) (h2 : os.map OpE.op = r.ops) (hw : r.weight ≤ 1048576) :
    Calls Try.prog 34 #[.agg #[.int .i64 r.room, .int .i64 r.fuse, .slice A n c, .slice B m d]] w (Tells w r.ok) := by
  have hM := modest_of hf ho h1 h2 hw
  have hd := ddOf_eq (r := r) h1 h2 rfl rfl
  rw [← hd]
  by_cases h : 0 ≤ r.room ∧ r.room ≤ 200000 ∧ -1 ≤ r.fuse ∧ r.fuse ≤ 2000 ∧ n ≤ 12 ∧ m ≤ 60
  · obtain ⟨a1, a2, a3, a4, a5, a6⟩ := h
    exact specOk_in r.room r.fuse A n c B m d es os w hf ho hM a1 a2 a3 a4 a5 a6
  · have hl : limB (ddOf r.room r.fuse es os) = false := by
      rw [limB_I hf.len ho.len]
      unfold limI
      exact decide_eq_false h
    have e : DD.ok (ddOf r.room r.fuse es os) = false := by
      unfold DD.ok
      rw [okD_none_lim hl]
      rfl
    rw [e]
    exact specOk_lim r.room r.fuse A n c B m d w hM.fl hM.ol h
theorem implOkD (r : DD) (A : Option Addr) (n c : Nat) (B : Option Addr) (m d : Nat) (es : List Ent) (os : List OpE) (w : World) (hf : SlF w A n es) (ho : SlO w B m os) (h1 : es.map Ent.file = r.fs) (h2 : os.map OpE.op = r.ops) (hw : r.weight ≤ 1048576) :
    Calls Try.prog 19 #[.agg #[.int .i64 r.room, .int .i64 r.fuse, .slice A n c, .slice B m d]] w (Tells w r.ok) := by
  have := implOk r.room r.fuse A n c B m d es os w hf ho (modest_of hf ho h1 h2 hw)
  rw [ddOf_eq (r := r) h1 h2 rfl rfl] at this
  exact this

/-- The law's measuring of a disk that came in. -/
structure Meant (w : World) (r : DD) (A : Option Addr) (n : Nat) (B : Option Addr) (m : Nat) (es : List Ent) (os : List OpE) : Prop where
  f : SlF w A n es
  o : SlO w B m os
  hf : es.map Ent.file = r.fs
  ho : os.map OpE.op = r.ops
  wt : r.weight ≤ 1048576
theorem Meant.below {w W : World} {r : DD} {A : Option Addr} {n : Nat} {B : Option Addr} {m : Nat} {es : List Ent} {os : List OpE} (h : Meant w r A n B m es os) (hb : Below w.heap.size w W) : Meant W r A n B m es os := ⟨h.f.below hb, h.o.below hb, h.hf, h.ho, h.wt⟩
theorem Meant.modest {w : World} {r : DD} {A : Option Addr} {n : Nat} {B : Option Addr} {m : Nat} {es : List Ent} {os : List OpE} (h : Meant w r A n B m es os) : Modest n m es os := modest_of h.f h.o h.hf h.ho h.wt
theorem Meant.fits {w : World} {r : DD} {A : Option Addr} {n : Nat} {B : Option Addr} {m : Nat} {es : List Ent} {os : List OpE} (h : Meant w r A n B m es os) : Fits es os := fits_w h.hf h.ho h.f.each h.o.each h.wt
theorem Meant.copy {w : World} {r : DD} {A : Option Addr} {n : Nat} {B : Option Addr} {m : Nat} {es : List Ent} {os : List OpE} (h : Meant w r A n B m es os) (c d : Nat) :
    Calls Try.prog 35 #[.agg #[.int .i64 r.room, .int .i64 r.fuse, .slice A n c, .slice B m d]] w (MadeD w r.room r.fuse r.fs r.ops) := by
  have F := h.fits
  have l1 := h.f.len
  have l2 := h.o.len
  have := toDisk_any r.room r.fuse A n c B m d es os w h.f (by have := F.fl; omega) F.fe h.o (by have := F.ol; omega) F.oe
  rw [h.hf, h.ho] at this
  exact this
theorem meant_made {W : World} {r : DD} {A B : Option Addr} {c d lo : Nat} {es : List Ent} {os : List OpE} (h : OwnD W lo A c B d es os) (h1 : es.map Ent.file = r.fs) (h2 : os.map OpE.op = r.ops) (hw : r.weight ≤ 1048576) : Meant W r A es.length B os.length es os :=
  ⟨h.f.sl, h.o.sl, h1, h2, hw⟩
theorem DiskIn.sz {w W : World} {room fuse : Int} {A : Option Addr} {n : Nat} {B : Option Addr} {m : Nat} {es : List Ent} {os : List OpE} (h : DiskIn w room fuse A n B m es os) (hb : Below w.heap.size w W) (c d : Nat) (left : Int) (h0 : 0 ≤ left) (h1 : left ≤ 1048576) :
    Calls Try.prog 33 #[.agg #[.int .i64 room, .int .i64 fuse, .slice A n c, .slice B m d], .int .i64 left] W (Nums W (szI left (ddOf room fuse es os).weight)) := by
  have e : (ddOf room fuse es os).weight = n + sumF es + (m + sumO os) := by
    unfold DD.weight ddOf
    simp only [List.length_map]
    rw [← wtF_ents es h.f.each, ← wtO_ops os h.o.each, h.f.len, h.o.len]
  rw [e]
  exact szDisk_any room fuse A B n c m d es os left W (h.f.below hb) h.fl (fun e he => ⟨(h.fe e he).2.1, (h.fe e he).2.2⟩) (h.o.below hb) h.ol (fun e he => ⟨(h.oe e he).2.1, (h.oe e he).2.2.1, (h.oe e he).2.2.2.1⟩) h0 h1
theorem DiskIn.meant {w : World} {room fuse : Int} {A : Option Addr} {n : Nat} {B : Option Addr} {m : Nat} {es : List Ent} {os : List OpE} (h : DiskIn w room fuse A n B m es os) (hw : (ddOf room fuse es os).weight ≤ 1048576) : Meant w (ddOf room fuse es os) A n B m es os := ⟨h.f, h.o, rfl, rfl, hw⟩
theorem Meant.eq {w : World} {r : DD} {A A' : Option Addr} {n n' : Nat} {B B' : Option Addr} {m m' : Nat} {es es' : List Ent} {os os' : List OpE} (h : Meant w r A n B m es os) (k : Meant w r A' n' B' m' es' os') (c d c' d' : Nat) :
    Calls Try.prog 36 #[.agg #[.int .i64 r.room, .int .i64 r.fuse, .slice A n c, .slice B m d], .agg #[.int .i64 r.room, .int .i64 r.fuse, .slice A' n' c', .slice B' m' d']] w (Tells w true) := by
  have F := h.fits
  have e1 : n = n' := by rw [← h.f.len, ← k.f.len]; have := congrArg List.length (h.hf.trans k.hf.symm); simpa using this
  have e2 : m = m' := by rw [← h.o.len, ← k.o.len]; have := congrArg List.length (h.ho.trans k.ho.symm); simpa using this
  subst e1 e2
  exact eqDisk_any r.room r.fuse A A' n c c' B B' m d d' es es' os os' w h.f k.f (h.hf.trans k.hf.symm) (by rw [← h.f.len]; exact F.fl) F.fe h.o k.o (h.ho.trans k.ho.symm) (by rw [← h.o.len]; exact F.ol) F.oe
end Go.Proofs.Ytfcomnpoehpgiaa
