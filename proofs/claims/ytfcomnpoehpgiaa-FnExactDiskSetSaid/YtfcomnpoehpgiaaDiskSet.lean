/- The contracts of the model's and of the program's function that sets a disk's room and fuse. -/
import Derived.Test.YtfcomnpoehpgiaaSeenMath
import Derived.Test.YtfcomnpoehpgiaaImplCopy
namespace Go.Proofs.Ytfcomnpoehpgiaa
open Go.RowKit

/-- A disk's box, and the box of a result behind it. -/
theorem FBox.second (w : World) (o : Obj) (v0 v1 v2 v3 : Value) (t : TypeId) : FBox ((w.alloc o).alloc (.cells #[v0, v1, v2, v3] t)) (w.heap.size + 1) v0 v1 v2 v3 := by
  have h := FBox.new (w.alloc o) v0 v1 v2 v3 t
  rw [World.size_alloc] at h
  exact h
theorem OwnD.out4 {w : World} {lo c d b : Nat} {A B : Option Addr} {es : List Ent} {os : List OpE} (h : OwnD w lo A c B d es os) (hb : b < lo) (u0 u1 u2 u3 : Value) :
    OwnD ((((w.setCell ⟨b, 0, none⟩ u0).setCell ⟨b, 1, none⟩ u1).setCell ⟨b, 2, none⟩ u2).setCell ⟨b, 3, none⟩ u3) lo A c B d es os :=
  h.lows (Lows.set (Lows.set (Lows.set (Lows.set (Lows.refl _ _) hb _) hb _) hb _) hb _)
theorem below_out4 {w W : World} {b : Nat} (h : Below w.heap.size w W) (hb : w.heap.size ≤ b) (u0 u1 u2 u3 : Value) :
    Below w.heap.size w ((((W.setCell ⟨b, 0, none⟩ u0).setCell ⟨b, 1, none⟩ u1).setCell ⟨b, 2, none⟩ u2).setCell ⟨b, 3, none⟩ u3) :=
  Below.setCell (Below.setCell (Below.setCell (Below.setCell h hb _) hb _) hb _) hb _
theorem seeD_own {w W : World} {lo c d : Nat} {A B : Option Addr} {es : List Ent} {os : List OpE} {r : DD} {x : Value} (h : OwnD W lo A c B d es os) (h1 : es.map Ent.file = r.fs) (h2 : os.map OpE.op = r.ops) (hb : Below w.heap.size w W) :
    SeeD w r x (.returned (.tuple #[.agg #[.int .i64 r.room, .int .i64 r.fuse, .slice A es.length c, .slice B os.length d], x])) W :=
  ⟨A, es.length, c, B, os.length, d, es, os, rfl, h1, h2, h.f.sl, h.o.sl, hb⟩
theorem resD_own {w W : World} {lo c d : Nat} {A B : Option Addr} {es : List Ent} {os : List OpE} {r : DD} {x : Value} (h : OwnD W lo A c B d es os) (hl : w.heap.size ≤ lo) (h1 : es.map Ent.file = r.fs) (h2 : os.map OpE.op = r.ops) (hb : Below w.heap.size w W) :
    ResD w r x (.returned (.tuple #[.agg #[.int .i64 r.room, .int .i64 r.fuse, .slice A es.length c, .slice B os.length d], x])) W :=
  ⟨A, es.length, c, B, os.length, d, es, os, rfl, h1, h2, rfl, rfl, h.mono hl, hb⟩

def DD.with (r : DD) (room fuse : Int) : DD := ⟨room, fuse, r.fs, r.ops⟩
theorem DD.with_room (r : DD) (room fuse : Int) : (r.with room fuse).room = room := rfl
theorem DD.with_weight (r : DD) (room fuse : Int) : (r.with room fuse).weight = r.weight := rfl
def setOk (r : DD) (room fuse : Int) : Bool := r.ok && (r.with room fuse).ok
def setD (r : DD) (room fuse : Int) : DD := if setOk r room fuse then r.with room fuse else DD.zero
theorem bulk_wt {r : DD} (h : r.weight ≤ 1048576) (ho : r.ops.length ≤ 60) : r.bulk ≤ 2097152 := by
  unfold DD.weight at h
  have h1 := bulkF_wt r.fs
  have h2 := bulkO_wt r.ops
  unfold DD.bulk
  omega
theorem zero_bulk : DD.zero.bulk ≤ 2097152 := by simp [DD.bulk, DD.zero, bulkF, bulkO]
theorem setD_bulk {r : DD} (h : r.weight ≤ 1048576) (room fuse : Int) : (setD r room fuse).bulk ≤ 2097152 := by
  unfold setD
  split
  · rename_i hs
    unfold setOk at hs
    simp only [Bool.and_eq_true] at hs
    exact bulk_wt (r := r.with room fuse) h (DD.ok_lim hs.2).2.2.2.2.2
  · exact zero_bulk
theorem Meant.with {w : World} {r : DD} {A : Option Addr} {n : Nat} {B : Option Addr} {m : Nat} {es : List Ent} {os : List OpE} (h : Meant w r A n B m es os) (room fuse : Int) : Meant w (r.with room fuse) A n B m es os := ⟨h.f, h.o, h.hf, h.ho, h.wt⟩
/-- The model's and the program's copy of a disk that the law has measured. -/
theorem Meant.specCopy {w : World} {r : DD} {A : Option Addr} {n : Nat} {B : Option Addr} {m : Nat} {es : List Ent} {os : List OpE} (h : Meant w r A n B m es os) (c d : Nat) :
    Calls Try.prog 66 #[.agg #[.int .i64 r.room, .int .i64 r.fuse, .slice A n c, .slice B m d]] w (MadeD w r.room r.fuse r.fs r.ops) := by
  have M := h.modest
  have F := h.fits
  have := Go.Proofs.Ytfcomnpoehpgiaa.specCopy r.room r.fuse A n c B m d es os w h.f M.fl F.fe h.o M.ol F.oe
  rw [h.hf, h.ho] at this
  exact this
theorem Meant.implCopy {w : World} {r : DD} {A : Option Addr} {n : Nat} {B : Option Addr} {m : Nat} {es : List Ent} {os : List OpE} (h : Meant w r A n B m es os) (c d : Nat) :
    Calls Try.prog 61 #[.agg #[.int .i64 r.room, .int .i64 r.fuse, .slice A n c, .slice B m d]] w (MadeD w r.room r.fuse r.fs r.ops) := by
  have M := h.modest
  have F := h.fits
  have := Go.Proofs.Ytfcomnpoehpgiaa.implCopy r.room r.fuse A n c B m d es os w h.f M.fl F.fe h.o M.ol F.oe
  rw [h.hf, h.ho] at this
  exact this
theorem Meant.specOk {w : World} {r : DD} {A : Option Addr} {n : Nat} {B : Option Addr} {m : Nat} {es : List Ent} {os : List OpE} (h : Meant w r A n B m es os) (c d : Nat) :
    Calls Try.prog 34 #[.agg #[.int .i64 r.room, .int .i64 r.fuse, .slice A n c, .slice B m d]] w (Tells w r.ok) := Go.Proofs.Ytfcomnpoehpgiaa.specOk r A n c B m d es os w h.f h.o h.hf h.ho h.wt
theorem Meant.implOk {w : World} {r : DD} {A : Option Addr} {n : Nat} {B : Option Addr} {m : Nat} {es : List Ent} {os : List OpE} (h : Meant w r A n B m es os) (c d : Nat) :
    Calls Try.prog 19 #[.agg #[.int .i64 r.room, .int .i64 r.fuse, .slice A n c, .slice B m d]] w (Tells w r.ok) := Go.Proofs.Ytfcomnpoehpgiaa.implOkD r A n c B m d es os w h.f h.o h.hf h.ho h.wt

set_option maxRecDepth 10000 in
set_option maxHeartbeats 4000000 in
theorem specSet (r : DD) (room fuse : Int) (A : Option Addr) (n c : Nat) (B : Option Addr) (m d : Nat) (es : List Ent) (os : List OpE) (w : World) (h : Meant w r A n B m es os) :
    Calls Try.prog 54 #[.agg #[.int .i64 r.room, .int .i64 r.fuse, .slice A n c, .slice B m d], .int .i64 room, .int .i64 fuse] w (SeeD w (setD r room fuse) (.bool (setOk r room fuse))) := by
  have CC := Lib.hid (fun W (hb : Below w.heap.size w W) => (h.below hb).specCopy c d)
  have C1 := Lib.hid (fun W (hb : Below w.heap.size w W) => (h.below hb).specOk c d)
  have C2 := Lib.hid (fun W A n c B m d es os (h : Meant W (r.with room fuse) A n B m es os) => h.specOk c d)
  have HW := Lib.hid h.wt
  have HS : Hid (setOk r room fuse = (r.ok && (r.with room fuse).ok)) := Lib.hid rfl
  have HD : Hid (setD r room fuse = if setOk r room fuse then r.with room fuse else DD.zero) := Lib.hid rfl
  generalize setOk r room fuse = sok at HS HD ⊢
  generalize setD r room fuse = sd at HD ⊢
  clear h
  have F0 := Lib.hid ((FBox.new w (.int .i64 r.room) (.int .i64 r.fuse) (.slice A n c) (.slice B m d) 26).alloc (.cells #[.int .i64 0, .int .i64 0, .slice none 0 0, .slice none 0 0] 26))
  have F1 := Lib.hid (FBox.second w (.cells #[.int .i64 r.room, .int .i64 r.fuse, .slice A n c, .slice B m d] 26) (.int .i64 0) (.int .i64 0) (.slice none 0 0) (.slice none 0 0) 26)
  go_enter Try.func54, Try.ntmps54
  go_wp2_with fail
  refine (CC.out _ (below_a2 _ _ _)).mono ?_
  rintro e w1 ⟨A1, c1, B1, d1, es1, os1, rfl, hf1, ho1, hd1, hb1⟩
  have HB1 := Lib.hid (below_chain (below_a2 w _ _) hb1)
  have G0 := Lib.hid ((F0.out.below hb1).alloc (.cells #[.int .i64 room, .int .i64 fuse, .slice A1 es1.length c1, .slice B1 os1.length d1] 26))
  have G1 := Lib.hid ((F1.out.below hb1).alloc (.cells #[.int .i64 room, .int .i64 fuse, .slice A1 es1.length c1, .slice B1 os1.length d1] 26))
  have M1 := Lib.hid ((meant_made (r := r) hd1 hf1 ho1 HW.out).with room fuse)
  have HF1 := Lib.hid hf1
  have HO1 := Lib.hid ho1
  have HD1 : Hid (OwnD w1 (w.heap.size + 1 + 1) A1 c1 B1 d1 es1 os1) := Lib.hid (by rw [World.size_alloc, World.size_alloc] at hd1; exact hd1)
  clear hb1 hf1 ho1 hd1
  obtain ⟨⟨l0, x00, x01, x02, x03⟩, fr0⟩ := G0.out
  go_wp2_with fail
  refine (C1.out _ (HB1.out.alloc HB1.out.size _)).mono ?_
  rintro e w2 ⟨rfl, hb2⟩
  have HB2 := Lib.hid (below_chain (HB1.out.alloc HB1.out.size _) hb2)
  have B2 := Lib.hid hb2
  have K0 := Lib.hid (G0.out.below hb2)
  have K1 := Lib.hid (G1.out.below hb2)
  have K2 := Lib.hid ((FBox.new w1 (.int .i64 room) (.int .i64 fuse) (.slice A1 es1.length c1) (.slice B1 os1.length d1) 26).below hb2)
  have M2 := Lib.hid ((M1.out.below (below_a1 w1 _)).below hb2)
  clear l0 x00 x01 x02 x03 fr0 hb2 F0 F1 G0 G1
  obtain ⟨⟨l1, x10, x11, x12, x13⟩, fr1⟩ := K1.out
  obtain ⟨⟨l2, x20, x21, x22, x23⟩, fr2⟩ := K2.out
  have fr10 := fr1 0
  have fr11 := fr1 1
  have fr12 := fr1 2
  have fr13 := fr1 3
  clear fr1 fr2
  cases hr : r.ok with
  | false =>
    have e1 : sok = false := by rw [HS.out, hr]; rfl
    have e2 : sd = DD.zero := by rw [HD.out, e1]; rfl
    subst e1
    have HE2 := Lib.hid e2
    clear e2 HS HD
    go_wp2
    refine bodyPost_ret (v := .tuple #[.agg #[.int .i64 0, .int .i64 0, .slice none 0 0, .slice none 0 0], .bool false]) (by simp [results, Try.results54, go_sem, x10, x11, x12, x13]) rfl ?_
    rw [HE2.out]
    exact ⟨none, 0, 0, none, 0, 0, [], [], rfl, rfl, rfl, SlF.nil, SlO.nil, by first | exact HB2.out | exact Below.setCell (Below.setCell (Below.setCell (Below.setCell HB2.out (by simp <;> omega) _) (by simp <;> omega) _) (by simp <;> omega) _) (by simp <;> omega) _⟩
  | true =>
    go_wp2_with fail
    refine (C2.out _ _ _ _ _ _ _ _ _ M2.out).mono ?_
    rintro e w3 ⟨rfl, hb3⟩
    have HB3 := Lib.hid (below_chain HB2.out hb3)
    have B3 := Lib.hid hb3
    have M3 := Lib.hid (M2.out.below hb3)
    have J1 := Lib.hid (K1.out.below hb3)
    have J2 := Lib.hid (K2.out.below hb3)
    clear hb3 l1 x10 x11 x12 x13 l2 x20 x21 x22 x23 fr10 fr11 fr12 fr13
    obtain ⟨⟨l1, x10, x11, x12, x13⟩, fr1⟩ := J1.out
    obtain ⟨⟨l2, x20, x21, x22, x23⟩, fr2⟩ := J2.out
    have fr10 := fr1 0
    have fr11 := fr1 1
    have fr12 := fr1 2
    have fr13 := fr1 3
    clear fr1 fr2
    cases hr2 : (r.with room fuse).ok with
    | false =>
      have e1 : sok = false := by rw [HS.out, hr, hr2]; rfl
      have e2 : sd = DD.zero := by rw [HD.out, e1]; rfl
      subst e1
      have HE2 := Lib.hid e2
      clear e2 HS HD
      go_wp2
      refine bodyPost_ret (v := .tuple #[.agg #[.int .i64 0, .int .i64 0, .slice none 0 0, .slice none 0 0], .bool false]) (by simp [results, Try.results54, go_sem, x10, x11, x12, x13]) rfl ?_
      rw [HE2.out]
      exact ⟨none, 0, 0, none, 0, 0, [], [], rfl, rfl, rfl, SlF.nil, SlO.nil, by first | exact HB3.out | exact Below.setCell (Below.setCell (Below.setCell (Below.setCell HB3.out (by simp <;> omega) _) (by simp <;> omega) _) (by simp <;> omega) _) (by simp <;> omega) _⟩
    | true =>
      have e1 : sok = true := by rw [HS.out, hr, hr2]; rfl
      have e2 : sd = r.with room fuse := by rw [HD.out, e1]; rfl
      subst e1
      have HE2 := Lib.hid e2
      clear e2 HS HD
      go_wp2
      refine bodyPost_ret (v := .tuple #[.agg #[.int .i64 room, .int .i64 fuse, .slice A1 es1.length c1, .slice B1 os1.length d1], .bool true]) (by simp [results, Try.results54, go_sem, x10, x11, x12, x13]) rfl ?_
      rw [HE2.out]
      exact seeD_own (r := r.with room fuse) (((HD1.out.below (below_chain (below_a1 w1 _) B2.out)).below B3.out).out4 (by omega) _ _ _ _) HF1.out HO1.out (below_out4 HB3.out (by omega) _ _ _ _)

set_option maxRecDepth 10000 in
set_option maxHeartbeats 4000000 in
theorem implSet (r : DD) (room fuse : Int) (A : Option Addr) (n c : Nat) (B : Option Addr) (m d : Nat) (es : List Ent) (os : List OpE) (w : World) (h : Meant w r A n B m es os) :
    Calls Try.prog 55 #[.agg #[.int .i64 r.room, .int .i64 r.fuse, .slice A n c, .slice B m d], .int .i64 room, .int .i64 fuse] w (ResD w (setD r room fuse) (.bool (setOk r room fuse))) := by
  have CC : Hid (∀ W, Below w.heap.size w W → Calls Try.prog 61 #[.agg #[.int .i64 room, .int .i64 fuse, .slice A n c, .slice B m d]] W (MadeD W room fuse r.fs r.ops)) := Lib.hid (fun W hb => ((h.below hb).with room fuse).implCopy c d)
  have C1 := Lib.hid (fun W (hb : Below w.heap.size w W) => (h.below hb).implOk c d)
  have C2 := Lib.hid (fun W (hb : Below w.heap.size w W) => ((h.below hb).with room fuse).implOk c d)
  have HS : Hid (setOk r room fuse = (r.ok && (r.with room fuse).ok)) := Lib.hid rfl
  have HD : Hid (setD r room fuse = if setOk r room fuse then r.with room fuse else DD.zero) := Lib.hid rfl
  generalize setOk r room fuse = sok at HS HD ⊢
  generalize setD r room fuse = sd at HD ⊢
  clear h
  have F0 := Lib.hid ((FBox.new w (.int .i64 r.room) (.int .i64 r.fuse) (.slice A n c) (.slice B m d) 26).alloc (.cells #[.int .i64 0, .int .i64 0, .slice none 0 0, .slice none 0 0] 26))
  have F1 := Lib.hid (FBox.second w (.cells #[.int .i64 r.room, .int .i64 r.fuse, .slice A n c, .slice B m d] 26) (.int .i64 0) (.int .i64 0) (.slice none 0 0) (.slice none 0 0) 26)
  go_enter Try.func55, Try.ntmps55
  go_wp2_with fail
  refine (C1.out _ (below_a2 _ _ _)).mono ?_
  rintro e w1 ⟨rfl, hb1⟩
  have HB1 := Lib.hid (below_chain (below_a2 w _ _) hb1)
  have G0 := Lib.hid (F0.out.below hb1)
  have G1 := Lib.hid (F1.out.below hb1)
  clear hb1 F0 F1
  obtain ⟨⟨l0, x00, x01, x02, x03⟩, fr0⟩ := G0.out
  obtain ⟨⟨l1, x10, x11, x12, x13⟩, fr1⟩ := G1.out
  have fr00 := fr0 0
  have fr01 := fr0 1
  have fr10 := fr1 0
  have fr11 := fr1 1
  have fr12 := fr1 2
  have fr13 := fr1 3
  clear fr0 fr1
  cases hr : r.ok with
  | false =>
    have e1 : sok = false := by rw [HS.out, hr]; rfl
    have e2 : sd = DD.zero := by rw [HD.out, e1]; rfl
    subst e1
    have HE2 := Lib.hid e2
    clear e2 HS HD
    go_wp2
    refine bodyPost_ret (v := .tuple #[.agg #[.int .i64 0, .int .i64 0, .slice none 0 0, .slice none 0 0], .bool false]) (by simp [results, Try.results55, go_sem, x10, x11, x12, x13]) rfl ?_
    rw [HE2.out]
    exact ⟨none, 0, 0, none, 0, 0, [], [], rfl, rfl, rfl, rfl, rfl, OwnD.nil, below_out4 HB1.out (by omega) _ _ _ _⟩
  | true =>
    have X0 := Lib.hid ((G0.out.set0 (.int .i64 room)).set1 (.int .i64 fuse))
    have X1 := Lib.hid ((G1.out.far (p := ⟨w.heap.size, 0, none⟩) (by show w.heap.size + 1 ≠ w.heap.size; omega) (.int .i64 room)).far (p := ⟨w.heap.size, 1, none⟩) (by show w.heap.size + 1 ≠ w.heap.size; omega) (.int .i64 fuse))
    have X2 := Lib.hid ((HB1.out.setCell (p := ⟨w.heap.size, 0, none⟩) (Nat.le_refl _) (.int .i64 room)).setCell (p := ⟨w.heap.size, 1, none⟩) (Nat.le_refl _) (.int .i64 fuse))
    go_wp2_with fail
    refine (C2.out _ X2.out).mono ?_
    rintro e w2 ⟨rfl, hb2⟩
    have HB2 := Lib.hid (below_chain X2.out hb2)
    have K0 := Lib.hid (X0.out.below hb2)
    have K1 := Lib.hid (X1.out.below hb2)
    clear l0 x00 x01 x02 x03 l1 x10 x11 x12 x13 fr00 fr01 fr10 fr11 fr12 fr13 hb2 G0 G1 X0 X1 X2
    obtain ⟨⟨l0, x00, x01, x02, x03⟩, fr0⟩ := K0.out
    obtain ⟨⟨l1, x10, x11, x12, x13⟩, fr1⟩ := K1.out
    have fr10 := fr1 0
    have fr11 := fr1 1
    have fr12 := fr1 2
    have fr13 := fr1 3
    clear fr0 fr1
    cases hr2 : (r.with room fuse).ok with
    | false =>
      have e1 : sok = false := by rw [HS.out, hr, hr2]; rfl
      have e2 : sd = DD.zero := by rw [HD.out, e1]; rfl
      subst e1
      have HE2 := Lib.hid e2
      clear e2 HS HD
      go_wp2
      refine bodyPost_ret (v := .tuple #[.agg #[.int .i64 0, .int .i64 0, .slice none 0 0, .slice none 0 0], .bool false]) (by simp [results, Try.results55, go_sem, x10, x11, x12, x13]) rfl ?_
      rw [HE2.out]
      exact ⟨none, 0, 0, none, 0, 0, [], [], rfl, rfl, rfl, rfl, rfl, OwnD.nil, below_out4 HB2.out (by omega) _ _ _ _⟩
    | true =>
      have e1 : sok = true := by rw [HS.out, hr, hr2]; rfl
      have e2 : sd = r.with room fuse := by rw [HD.out, e1]; rfl
      subst e1
      have HE2 := Lib.hid e2
      clear e2 HS HD
      go_wp2_with fail
      refine (CC.out _ HB2.out).mono ?_
      rintro e w3 ⟨A1, c1, B1, d1, es1, os1, rfl, hf1, ho1, hd1, hb3⟩
      have HB3 := Lib.hid (below_chain HB2.out hb3)
      have J1 := Lib.hid (K1.out.below hb3)
      have HF1 := Lib.hid hf1
      have HO1 := Lib.hid ho1
      have HD1 := Lib.hid hd1
      have hle : w.heap.size + 1 < w2.heap.size := l1
      clear hb3 hf1 ho1 hd1 l1 x10 x11 x12 x13 l0 x00 x01 x02 x03 fr10 fr11 fr12 fr13
      obtain ⟨⟨l1, x10, x11, x12, x13⟩, fr1⟩ := J1.out
      have fr10 := fr1 0
      have fr11 := fr1 1
      have fr12 := fr1 2
      have fr13 := fr1 3
      clear fr1
      go_wp2
      refine bodyPost_ret (v := .tuple #[.agg #[.int .i64 room, .int .i64 fuse, .slice A1 es1.length c1, .slice B1 os1.length d1], .bool true]) (by simp [results, Try.results55, go_sem, x10, x11, x12, x13]) rfl ?_
      rw [HE2.out]
      exact resD_own (r := r.with room fuse) (HD1.out.out4 hle _ _ _ _) (by omega) HF1.out HO1.out (below_out4 HB3.out (by omega) _ _ _ _)
end Go.Proofs.Ytfcomnpoehpgiaa
