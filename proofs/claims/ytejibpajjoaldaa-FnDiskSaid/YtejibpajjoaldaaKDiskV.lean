/- A disk that reads, from call to call of a law; the calls of a law over it. -/
import Derived.Test.YtejibpajjoaldaaKMakeDisk
import Derived.Test.YtejibpajjoaldaaKMakeOps
import Derived.Test.YtejibpajjoaldaaKMakeCut
import Derived.Test.YtejibpajjoaldaaKSame
import Derived.Test.YtejibpajjoaldaaKImplDo
namespace Go.Proofs.Ytejibpajjoaldaa
open Go.RowKit Go.Maps

structure DV (W : World) (r : DD) (A : Option Addr) (n : Nat) (B : Option Addr) (m d : Nat) (es : List Ent) (os : List OpE) : Prop where
  f : SlF W A n es
  o : SlO W B m os
  hf : es.map Ent.file = r.fs
  ho : os.map OpE.op = r.ops
  cap : m ≤ d
  nice : Nice r
/-- A function that gives a disk and something beside it. -/
def GivesD (w : World) (r : DD) (x : Value) (e : Ending) (w' : World) : Prop :=
  ∃ A n c B m d es os, e = .returned (.tuple #[.agg #[.int .i64 r.room, .int .i64 r.fuse, .slice A n c, .slice B m d], x]) ∧ DV w' r A n B m d es os ∧ Below w.heap.size w w'
/-- A function that gives files. -/
def FilesN (w : World) (fs : List FileD) (e : Ending) (w' : World) : Prop :=
  ∃ A c es, e = .returned (.slice A fs.length c) ∧ es.map Ent.file = fs ∧ SlF w' A fs.length es ∧ Below w.heap.size w w'
theorem ResD.gives {w w' : World} {r : DD} {x : Value} {e : Ending} (h : ResD w r x e w') (hn : Nice r) : GivesD w r x e w' := by
  obtain ⟨A, n, c, B, m, d, es, os, he, h1, h2, rfl, rfl, h3, hb⟩ := h
  exact ⟨A, _, c, B, _, d, es, os, he, ⟨h3.f.sl, h3.o.sl, h1, h2, own_capK h3.o.row, hn⟩, hb⟩
theorem SeeC.gives {w w' : World} {r : DD} {x : Value} {e : Ending} (h : SeeC w r x e w') (hn : Nice r) : GivesD w r x e w' := by
  obtain ⟨A, n, c, B, m, d, es, os, he, h1, h2, h3, h4, h5, hb⟩ := h
  exact ⟨A, n, c, B, m, d, es, os, he, ⟨h3, h4, h1, h2, h5, hn⟩, hb⟩
theorem int_wf {z : Int} (h1 : -9223372036854775808 ≤ z) (h2 : z ≤ 9223372036854775807) : (Lit.int .i64 z).wf = true := by
  unfold Lit.wf
  rw [Bool.and_eq_true, decide_eq_true_iff, decide_eq_true_iff]
  exact ⟨h1, h2⟩
section
variable {W W' : World} {r : DD} {A B : Option Addr} {n c m d : Nat} {es : List Ent} {os : List OpE}
theorem DV.below (h : DV W r A n B m d es os) (hb : Below W.heap.size W W') : DV W' r A n B m d es os := ⟨h.f.below hb, h.o.below hb, h.hf, h.ho, h.cap, h.nice⟩
theorem DV.offG {b : Nat} (h : DV W r A n B m d es os) (hz : QBox W b) (ho : OffG b W W') : DV W' r A n B m d es os := ⟨h.f.offG hz ho, h.o.offG hz ho, h.hf, h.ho, h.cap, h.nice⟩
theorem DV.meant (h : DV W r A n B m d es os) : Meant W r A n B m es os := ⟨h.f, h.o, h.hf, h.ho, h.nice.weight⟩
theorem DV.ok (h : DV W r A n B m d es os) (c : Nat) :
    Calls Try.prog 12 #[.agg #[.int .i64 r.room, .int .i64 r.fuse, .slice A n c, .slice B m d]] W (Tells W true) := by
  have := implOkD r A n c B m d es os W h.f h.o h.hf h.ho h.nice.weight
  rw [h.nice.ok] at this
  exact this
theorem DV.doI (h : DV W r A n B m d es os) (c : Nat) (o : OpE) (h1 : o.d.Ok W) (h2 : o.nm.size ≤ 12 ∧ o.to.size ≤ 12 ∧ o.d.n ≤ 8) :
    Calls Try.prog 10 #[.agg #[.int .i64 r.room, .int .i64 r.fuse, .slice A n c, .slice B m d], .agg #[.int .i64 o.kind, .string o.nm, .string o.to, .slice o.d.A o.d.n o.d.c]] W (GivesD W (doA r o.op).1 (.int .i64 (doA r o.op).2)) :=
  (implDo r o A n c B m d es os W h.meant h1 (by omega)).mono fun _ _ hh => hh.gives (h.nice.doA (by show o.d.xs.length ≤ 8; rw [h1.rd.len]; exact h2.2.2))
theorem DV.doS (h : DV W r A n B m d es os) (c : Nat) (o : OpE) (h1 : o.d.Ok W) (h2 : o.nm.size ≤ 12 ∧ o.to.size ≤ 12 ∧ o.d.n ≤ 8) :
    Calls Try.prog 11 #[.agg #[.int .i64 r.room, .int .i64 r.fuse, .slice A n c, .slice B m d], .agg #[.int .i64 o.kind, .string o.nm, .string o.to, .slice o.d.A o.d.n o.d.c]] W (GivesD W (doA r o.op).1 (.int .i64 (doA r o.op).2)) :=
  (specDoC r o A n c B m d es os W h.meant h.cap h1 (by omega)).mono fun _ _ hh => hh.gives (h.nice.doA (by show o.d.xs.length ≤ 8; rw [h1.rd.len]; exact h2.2.2))
theorem Nice.crash (h : Nice r) (q k : Int) : Nice ⟨r.room, -1, crashF r q k, []⟩ := ⟨by have := (crashD_ok h.ok q k).1; rw [(crashD_ok h.ok q k).2] at this; exact this, by simp⟩
theorem DV.crash (h : DV W r A n B m d es os) (c : Nat) (q k : Int) (h1 : (Lit.int .i64 q).wf = true) (h2 : (Lit.int .i64 k).wf = true) :
    Calls Try.prog 14 #[.agg #[.int .i64 r.room, .int .i64 r.fuse, .slice A n c, .slice B m d], .int .i64 q, .int .i64 k] W (GivesD W ⟨r.room, -1, crashF r q k, []⟩ (.bool true)) :=
  (implCrash r q k h1 h2 A n c B m d es os W h.meant h.cap).mono fun _ _ hh => by
    rw [(crashD_ok h.nice.ok q k).2, h.nice.ok] at hh
    exact hh.gives (h.nice.crash q k)
theorem DV.all (h : DV W r A n B m d es os) (c : Nat) :
    Calls Try.prog 14 #[.agg #[.int .i64 r.room, .int .i64 r.fuse, .slice A n c, .slice B m d], .int .i64 99, .int .i64 0] W (GivesD W ⟨r.room, -1, r.seen, []⟩ (.bool true)) :=
  (implCrash r 99 0 (int_wf (by omega) (by omega)) (int_wf (by omega) (by omega)) A n c B m d es os W h.meant h.cap).mono fun _ _ hh => by
    have hc := h.nice.crash 99 0
    rw [← (crashD_ok h.nice.ok 99 0).2, crash_all h.nice.ok] at hc
    rw [crash_all h.nice.ok, h.nice.ok] at hh
    exact hh.gives hc
theorem DV.sync0 (h : DV W r A n B m d es os) (c : Nat) (hf : r.fuse = 0) :
    Calls Try.prog 17 #[.agg #[.int .i64 r.room, .int .i64 r.fuse, .slice A n c, .slice B m d]] W (GivesD W r (.int .i64 2)) :=
  (implSync r A n c B m d es os W h.meant).mono fun _ _ hh => by
    have e1 : syncD r = r := by unfold syncD; rw [h.nice.ok, if_pos rfl, if_pos hf]
    have e2 : syncC r = 2 := by unfold syncC; rw [h.nice.ok, if_pos rfl, if_pos hf]
    rw [e1, e2] at hh
    exact hh.gives h.nice
theorem DV.sync1 (h : DV W r A n B m d es os) (c : Nat) (hf : r.fuse ≠ 0) :
    Calls Try.prog 17 #[.agg #[.int .i64 r.room, .int .i64 r.fuse, .slice A n c, .slice B m d]] W (GivesD W ⟨r.room, burnF r.fuse, r.seen, []⟩ (.int .i64 0)) :=
  (implSync r A n c B m d es os W h.meant).mono fun _ _ hh => by
    have e1 : syncD r = ⟨r.room, burnF r.fuse, r.seen, []⟩ := by unfold syncD; rw [h.nice.ok, if_pos rfl, if_neg hf]
    have e2 : syncC r = 0 := by unfold syncC; rw [h.nice.ok, if_pos rfl, if_neg hf]
    have hn := h.nice.sync
    rw [e1] at hn
    rw [e1, e2] at hh
    exact hh.gives hn
theorem DV.seenS (h : DV W r A n B m d es os) (c : Nat) :
    Calls Try.prog 16 #[.agg #[.int .i64 r.room, .int .i64 r.fuse, .slice A n c, .slice B m d]] W (FilesN W r.seen) :=
  (specSeen r A n c B m d es os W h.meant h.cap).mono fun _ _ ⟨A2, c2, es2, he, hf, hs, hb⟩ => by
    have e : es2.length = r.seen.length := by rw [← hf, List.length_map]
    rw [e] at he hs
    exact ⟨A2, c2, es2, he, hf, hs, hb⟩
theorem DV.seenI (h : DV W r A n B m d es os) (c : Nat) (hl : r.ops = []) :
    Calls Try.prog 18 #[.agg #[.int .i64 r.room, .int .i64 r.fuse, .slice A n c, .slice B m d]] W (FilesN W r.fs) :=
  (implSeenF r A n c B m d es os W h.meant).mono fun _ _ ⟨A2, n2, c2, he, ⟨es2, hf, hn, ho⟩, hb⟩ => by
    have e0 : r.seen = r.fs := by
      rw [DD.seen_after h.nice.ok, hl]
      rfl
    rw [e0] at hf
    have e : n2 = r.fs.length := by rw [← hn, ← hf, List.length_map]
    have hs := ho.sl
    rw [hn] at hs
    rw [e] at he hs
    exact ⟨A2, c2, es2, he, hf, hs, hb⟩
theorem same_n {fs : List FileD} {A A' : Option Addr} {es es' : List Ent} (h1 : SlF W A fs.length es) (h2 : es.map Ent.file = fs) (h3 : SlF W A' fs.length es') (h4 : es'.map Ent.file = fs) (hl : fs.length ≤ 12) (c c' : Nat) :
    Calls Try.prog 15 #[.slice A fs.length c, .slice A' fs.length c'] W (Tells W true) :=
  sameFiles_any A A' fs.length c c' es es' W h1 h3 (h2.trans h4.symm) (by omega)
end
end Go.Proofs.Ytejibpajjoaldaa
