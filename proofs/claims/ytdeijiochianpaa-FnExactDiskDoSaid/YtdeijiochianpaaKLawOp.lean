/- More words for the walk of a law on a disk and an operation: the model's disk in a box that lies anywhere ahead of a world; the law's own operation in its box. -/
import Derived.Test.YtdeijiochianpaaKImplDo
import Derived.Test.YtdeijiochianpaaC9
namespace Go.Proofs.Ytdeijiochianpaa
open Go.RowKit Go.Maps

/-- A disk of the model in the box b; all that it reads lies in blocks of the world anc. -/
structure VBox (anc W : World) (b : Nat) (r : DD) (A : Option Addr) (n c : Nat) (B : Option Addr) (m d : Nat) (es : List Ent) (os : List OpE) : Prop where
  box : Box4 anc b (.int .i64 r.room) (.int .i64 r.fuse) (.slice A n c) (.slice B m d)
  keep : Below anc.heap.size anc W
  f : SlF anc A n es
  o : SlO anc B m os
  hf : es.map Ent.file = r.fs
  ho : os.map OpE.op = r.ops
section
variable {anc W W' : World} {b lo b2 n c m d n' c' m' d' : Nat} {r : DD} {A B A' B' : Option Addr} {es es' : List Ent} {os os' : List OpE}
theorem VBox.below (h : VBox anc W b r A n c B m d es os) (hb : Below W.heap.size W W') : VBox anc W' b r A n c B m d es os := ⟨h.box, below_chain h.keep hb, h.f, h.o, h.hf, h.ho⟩
theorem VBox.only {S : Nat → Prop} (h : VBox anc W b r A n c B m d es os) (ho : Only S W W') (hs : ∀ k, S k → anc.heap.size ≤ k) : VBox anc W' b r A n c B m d es os :=
  ⟨h.box, h.keep.trans (ho.toBelow h.keep.size hs), h.f, h.o, h.hf, h.ho⟩
theorem VBox.at_ (h : VBox anc W b r A n c B m d es os) : Box4 W b (.int .i64 r.room) (.int .i64 r.fuse) (.slice A n c) (.slice B m d) := h.box.below h.keep
theorem eq_gv (hb : r.bulk ≤ 2097152) (g : GBox W lo b2 r A n c B m d es os) (h : VBox anc W b r A' n' c' B' m' d' es' os') :
    Calls Try.prog 24 #[.agg #[.int .i64 r.room, .int .i64 r.fuse, .slice A n c, .slice B m d], .agg #[.int .i64 r.room, .int .i64 r.fuse, .slice A' n' c', .slice B' m' d']] W (Tells W true) :=
  eq_boxes hb g.sf g.so g.hf g.ho (h.f.below h.keep) (h.o.below h.keep) h.hf h.ho
theorem eq_vv {anc' : World} {b' : Nat} (hb : r.bulk ≤ 2097152) (g : VBox anc' W b' r A n c B m d es os) (h : VBox anc W b r A' n' c' B' m' d' es' os') :
    Calls Try.prog 24 #[.agg #[.int .i64 r.room, .int .i64 r.fuse, .slice A n c, .slice B m d], .agg #[.int .i64 r.room, .int .i64 r.fuse, .slice A' n' c', .slice B' m' d']] W (Tells W true) :=
  eq_boxes hb (g.f.below g.keep) (g.o.below g.keep) g.hf g.ho (h.f.below h.keep) (h.o.below h.keep) h.hf h.ho
end
/-- The law's own operation: its box and its data. -/
structure YBox (W : World) (lo b : Nat) (kind : Int) (nm to_ : ByteArray) (A : Option Addr) (n c : Nat) (xs : List Nat) : Prop where
  box : Box4 W b (.int .i64 kind) (.string nm) (.string to_) (.slice A n c)
  own : W.ownsRow lo 5 1 (.slice A n c) n (vb xs)
section
variable {W W' : World} {lo b n c : Nat} {kind : Int} {nm to_ : ByteArray} {A : Option Addr} {xs : List Nat}
theorem YBox.below (h : YBox W lo b kind nm to_ A n c xs) (hb : Below W.heap.size W W') : YBox W' lo b kind nm to_ A n c xs := ⟨h.box.below hb, own_below h.own hb⟩
theorem YBox.only {S : Nat → Prop} (h : YBox W lo b kind nm to_ A n c xs) (ho : Only S W W') (hs : ∀ k, S k → k < lo) (hb : lo ≤ b) : YBox W' lo b kind nm to_ A n c xs :=
  ⟨h.box.only ho (fun hh => by have := hs _ hh; omega), own_keep h.own (fun k hk hk2 => ho.block k hk2 (fun hh => by have := hs k hh; omega))⟩
end
/-- The marks in an operation's data. -/
theorem markFsOp_any (kind : Int) (nm to_ : ByteArray) (A : Option Addr) (n c lo k : Nat) (xs : List Nat) (W : World) (h : W.ownsRow lo 5 1 (.slice A n c) n (vb xs)) (hn : n ≤ 2097152) (hk : k ≤ 8388608) :
    Calls Try.prog 27 #[.agg #[.int .i64 kind, .string nm, .string to_, .slice A n c], .int .i64 (k : Int)] W fun e W' => e = .returned (.int .i64 ((k + n : Nat) : Int)) ∧ Only (fun j => (Value.slice A n c).ownBlock = some j) W W' := by
  have C := Lib.hid (fun W2 (hb : Below W.heap.size W W2) => markB_any A n c lo k xs W2 (own_below h hb) hn hk)
  clear h
  go_enter Try.func27, Try.ntmps27
  go_wp2_with fail
  refine (C.out _ (below_a1 _ _)).mono ?_
  rintro e w1 ⟨rfl, _, hg⟩
  have HG := Lib.hid (((Only.refl (fun j => (Value.slice A n c).ownBlock = some j) W).below (below_a1 W (.cells #[.int .i64 kind, .string nm, .string to_, .slice A n c] 30))).grown hg (fun i hi => hi))
  clear hg
  go_wp2
  go_ret
  exact ⟨rfl, HG.out⟩
theorem SlO.off {w w' : World} {b n : Nat} {A : Option Addr} {os : List OpE} (h : SlO w A n os) (hz : QBox w b) (ho : OffB b w w') : SlO w' A n os := by
  refine ⟨h.len, ⟨h.row.len, fun hn => ?_⟩, fun e he => (h.each e he).off hz ho⟩
  obtain ⟨b', off, e, hb, hc⟩ := h.row.lies hn
  obtain ⟨b2, off2, x, e2, _, _, _, _, c1, _⟩ := h.at_ hn
  obtain ⟨rfl, rfl⟩ : b' = b2 ∧ off = off2 := by
    rw [e] at e2
    injection e2 with h2
    injection h2 with h3 h4
    exact ⟨h3, h4⟩
  have hne : b' ≠ b := fun hh => by
    subst hh
    exact (hz.at_ c1).str
  have := ho.size
  exact ⟨b', off, e, by omega, fun j u hu => (World.cell?_of_block (a := ⟨b', off + j, none⟩) (ho.block b' hne)).trans (hc j u hu)⟩
theorem Box4.far4 {w : World} {b p : Nat} {v0 v1 v2 v3 : Value} (h : Box4 w b v0 v1 v2 v3) (hp : b ≠ p) (u0 u1 u2 u3 : Value) : Box4 ((((w.setCell ⟨p, 0, none⟩ u0).setCell ⟨p, 1, none⟩ u1).setCell ⟨p, 2, none⟩ u2).setCell ⟨p, 3, none⟩ u3) b v0 v1 v2 v3 :=
  h.keep (by simp) ((OffB.out4 w p u0 u1 u2 u3).block b hp)
theorem FBox.spare {w : World} {b p : Nat} {v0 v1 v2 v3 z0 z1 z2 z3 : Value} (_hz : FBox w p z0 z1 z2 z3) (h : Box4 w b v0 v1 v2 v3) (hp : b ≠ p) (u0 u1 u2 u3 : Value) : Box4 ((((w.setCell ⟨p, 0, none⟩ u0).setCell ⟨p, 1, none⟩ u1).setCell ⟨p, 2, none⟩ u2).setCell ⟨p, 3, none⟩ u3) b v0 v1 v2 v3 := h.far4 hp u0 u1 u2 u3
end Go.Proofs.Ytdeijiochianpaa
