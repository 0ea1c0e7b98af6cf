/- A tree of sources of records in memory (plain lemmas over the model; no condition). -/
import Derived.Test.YtbfdhlpncblahaaBat
import Derived.Test.YtbfdhlpncblahaaBlk
import Derived.Test.YtbfdhlpncblahaaTreeMath
namespace Go.Proofs.Ytbfdhlpncblahaa
open Go.RowKit

/-- A first record that may have been drawn, as its cells say. -/
def HdIs (h : Option GE) (f : GE) (b : Bool) : Prop :=
  match h with
  | none => b = false
  | some x => b = true ∧ f = x
def pairC (vl : Value) (fl : GE) (bl : Bool) (vr : Value) (fr : GE) (br : Bool) : Array Value :=
  #[vl, .int .i64 fl.f, .int .i64 fl.t, .int .i64 fl.w, .bool bl, vr, .int .i64 fr.f, .int .i64 fr.t, .int .i64 fr.w, .bool br]
/-- Whose source lies in the blocks from lo on, below hi; its lists read in the world w0. -/
def Src (w0 w : World) : Tr → Nat → Nat → Value → Prop
  | .leaf es, lo, hi, v => ∃ L A n c, lo ≤ L ∧ L < hi ∧ v = .iface 146 (.pointer (some ⟨L, 0, none⟩)) ∧ Blk w L #[.slice A n c] 148 ∧ SlG w0 A n es ∧ n ≤ c
  | .pair l hl r hr, lo, hi, v => ∃ m P vl fl bl vr fr br, lo ≤ m ∧ m ≤ P ∧ P < hi ∧ v = .iface 149 (.pointer (some ⟨P, 0, none⟩)) ∧
      Blk w P (pairC vl fl bl vr fr br) 156 ∧ HdIs hl fl bl ∧ HdIs hr fr br ∧ Src w0 w l lo m vl ∧ Src w0 w r m P vr
theorem Src.lt {w0 w : World} : ∀ {t : Tr} {lo hi : Nat} {v : Value}, Src w0 w t lo hi v → lo < hi
  | .leaf _, _, _, _, h => by
    obtain ⟨L, _, _, _, h1, h2, _⟩ := h
    omega
  | .pair _ _ _ _, _, _, _, h => by
    obtain ⟨m, P, _, _, _, _, _, _, h1, h2, h3, _⟩ := h
    omega
theorem Src.keep {w0 w w' : World} : ∀ {t : Tr} {lo hi : Nat} {v : Value}, Src w0 w t lo hi v → (∀ k, lo ≤ k → k < hi → k < w.heap.size → w'.heap[k]? = w.heap[k]?) → Src w0 w' t lo hi v
  | .leaf _, _, _, _, h, hk => by
    obtain ⟨L, A, n, c, h1, h2, h3, h4, h5⟩ := h
    exact ⟨L, A, n, c, h1, h2, h3, h4.keep (hk L h1 h2 h4.lt), h5⟩
  | .pair l _ r _, _, _, _, h, hk => by
    obtain ⟨m, P, vl, fl, bl, vr, fr, br, h1, h2, h3, h4, h5, h6, h7, h8, h9⟩ := h
    exact ⟨m, P, vl, fl, bl, vr, fr, br, h1, h2, h3, h4, h5.keep (hk P (by omega) h3 h5.lt), h6, h7, h8.keep (fun k a b c => hk k a (by omega) c), h9.keep (fun k a b c => hk k (by omega) (by omega) c)⟩
theorem Src.wide {w0 w : World} : ∀ {t : Tr} {lo hi lo' hi' : Nat} {v : Value}, Src w0 w t lo hi v → lo' ≤ lo → hi ≤ hi' → Src w0 w t lo' hi' v
  | .leaf _, _, _, _, _, _, h, ha, hb => by
    obtain ⟨L, A, n, c, h1, h2, h5⟩ := h
    exact ⟨L, A, n, c, by omega, by omega, h5⟩
  | .pair l _ r _, _, _, _, _, _, h, ha, hb => by
    obtain ⟨m, P, vl, fl, bl, vr, fr, br, h1, h2, h3, h4, h5, h6, h7, h8, h9⟩ := h
    exact ⟨m, P, vl, fl, bl, vr, fr, br, by omega, h2, by omega, h4, h5, h6, h7, h8.wide ha (Nat.le_refl _), h9⟩
/-- Nothing is written but in blocks from lo on, below hi, and new ones. -/
abbrev Within (lo hi : Nat) : World → World → Prop := OnlyB (fun k => lo ≤ k ∧ k < hi)
theorem Src.within {w0 w w' : World} {t : Tr} {lo hi a b : Nat} {v : Value} (h : Src w0 w t lo hi v) (k : Within a b w w') (hd : hi ≤ a ∨ b ≤ lo) : Src w0 w' t lo hi v :=
  h.keep (fun i h1 h2 h3 => k.block i h3 (fun e => by omega))
theorem Blk.within {w w' : World} {b : Nat} {cs : Array Value} {t : TypeId} {lo hi : Nat} (h : Blk w b cs t) (k : Within lo hi w w') (hd : b < lo ∨ hi ≤ b) : Blk w' b cs t :=
  h.keep (k.block b h.lt (fun e => by omega))
theorem Within.below {lo hi B : Nat} {w w' : World} (h : Within lo hi w w') (hB : B ≤ w.heap.size) (hl : B ≤ lo) : Below B w w' := h.toBelow hB (fun k hk => by omega)
theorem Within.wide {lo hi lo' hi' : Nat} {w w' : World} (h : Within lo hi w w') (hl : lo' ≤ lo) (hh : hi ≤ hi') : Within lo' hi' w w' := h.mono (fun k hk => by omega)
theorem Within.set {lo hi : Nat} {w w' : World} (h : Within lo hi w w') {p : Addr} (hp : lo ≤ p.block ∧ p.block < hi) (u : Value) : Within lo hi w (w'.setCell p u) :=
  h.trans ⟨rfl, rfl, rfl, by simp, fun k _ hn => Below.heap_setCell w' p u k (fun e => hn (by rw [e]; exact hp))⟩
theorem Within.drew {lo hi : Nat} {w w' : World} (h : Within lo hi w w') : Within lo hi w w'.drew := ⟨h.os, h.tape, h.output, h.size, h.block⟩
theorem Within.drewN {lo hi : Nat} {w w' : World} (h : Within lo hi w w') (n : Nat) : Within lo hi w (w'.drewN n) := ⟨h.os, h.tape, h.output, h.size, h.block⟩
theorem Within.alloc {lo hi : Nat} {w w' : World} (h : Within lo hi w w') (o : Obj) : Within lo hi w (w'.alloc o) := OnlyB.below h (below_a1 w' o)
theorem OnlyB.setNew {S : Nat → Prop} {w w' : World} (h : OnlyB S w w') {p : Addr} (hp : w.heap.size ≤ p.block) (u : Value) : OnlyB S w (w'.setCell p u) :=
  ⟨h.os, h.tape, h.output, by simpa using h.size, fun k hk hn => (Below.heap_setCell w' p u k (by omega)).trans (h.block k hk hn)⟩
theorem Within.setNew {lo hi : Nat} {w w' : World} (h : Within lo hi w w') {p : Addr} (hp : w.heap.size ≤ p.block) (u : Value) : Within lo hi w (w'.setCell p u) :=
  ⟨h.os, h.tape, h.output, by simpa using h.size, fun k hk hn => (Below.heap_setCell w' p u k (by omega)).trans (h.block k hk hn)⟩
/-- What a source's next answers. -/
def NextIs (w0 : World) (t : Tr) (lo hi : Nat) (v : Value) (w : World) (e : Ending) (w' : World) : Prop :=
  ∃ (f : GE) (b : Bool), e = .returned (.tuple #[.agg #[.int .i64 f.f, .int .i64 f.t, .int .i64 f.w], .bool b]) ∧ HdIs t.next.1 f b ∧ Src w0 w' t.next.2 lo hi v ∧ Within lo hi w w'
end Go.Proofs.Ytbfdhlpncblahaa
