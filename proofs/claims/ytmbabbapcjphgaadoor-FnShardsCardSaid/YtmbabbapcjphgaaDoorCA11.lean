/- Plain mathematics of merging by positions: what is left of each batch, the batch whose first record goes next (no condition). // A block of cells that is known whole (plain lemmas over the model; no condition). // A block of cells that is known whole: see BlkB (no condition). // The contract of the model's Merge. Condition: at most 2^20 batches and records. // A tree of sources of records in memory (plain lemmas over the model; no condition). -/
import Derived.Test.YtmbabbapcjphgaaDoorCA10
import Derived.Test.YtmbabbapcjphgaaDoorCA1
import Derived.RangeFuncBox
import Derived.Deep.Cut
import Derived.Deep.RegionLaw
import Derived.StillTailTactics
namespace Go.Proofs.YtmbabbapcjphgaaDoor

/-- What is left of each batch, behind these positions. -/
def rest (bs : List BE) (ats : List Nat) : List (List GE) := List.zipWith (fun e a => e.es.drop a) bs ats
def bestI : Option (Nat × GE) → Int
  | none => -1
  | some p => p.1
theorem rest_len {bs : List BE} {ats : List Nat} (h : ats.length = bs.length) : (rest bs ats).length = bs.length := by simp [rest, h]
theorem rest_at {bs : List BE} {ats : List Nat} {i : Nat} {e : BE} {a : Nat} (he : bs[i]? = some e) (ha : ats[i]? = some a) : (rest bs ats)[i]? = some (e.es.drop a) := by
  simp [rest, List.getElem?_zipWith, he, ha]
theorem rest_set : ∀ (bs : List BE) (ats : List Nat) (i a : Nat), ats[i]? = some a → rest bs (ats.set i (a + 1)) = (rest bs ats).modify i List.tail
  | [], ats, i, a, _ => by simp [rest]
  | _ :: _, [], i, a, h => by simp at h
  | e :: bs, x :: ats, 0, a, h => by
    simp at h
    subst h
    simp [rest]
  | e :: bs, x :: ats, i + 1, a, h => by
    have := rest_set bs ats i a (by simpa using h)
    unfold rest at this ⊢
    simp only [List.set_cons_succ, List.zipWith_cons_cons, List.modify_succ_cons, this]
theorem rest_zero : ∀ (bs : List BE), rest bs (List.replicate bs.length 0) = bs.map BE.es
  | [] => rfl
  | e :: bs => by
    have := rest_zero bs
    unfold rest at this ⊢
    simp [List.replicate_succ, this]
/-- The best of the first i, with one more batch. -/
def bestMore (i : Nat) (b : Option (Nat × GE)) (x : List GE) : Option (Nat × GE) := bestFrom i b [x]
theorem best_take {rs : List (List GE)} {i : Nat} {x : List GE} (h : rs[i]? = some x) : bestFrom 0 none (rs.take (i + 1)) = bestMore i (bestFrom 0 none (rs.take i)) x := by
  have hi : i < rs.length := (List.getElem?_eq_some_iff.1 h).1
  have h1 : rs.take (i + 1) = rs.take i ++ [x] := by
    rw [List.take_add_one, h]; rfl
  rw [h1, bestFrom_append, List.length_take, Nat.min_eq_left (by omega), Nat.zero_add]
  rfl
theorem bestMore_nil (i : Nat) (b : Option (Nat × GE)) : bestMore i b [] = b := by cases b <;> rfl
theorem bestMore_new (i : Nat) (x : GE) (t : List GE) : bestMore i none (x :: t) = some (i, x) := rfl
theorem bestMore_less {i j : Nat} {x y : GE} {t : List GE} (h : lessR x y = true) : bestMore i (some (j, y)) (x :: t) = some (i, x) := by simp [bestMore, bestFrom, h]
theorem bestMore_not {i j : Nat} {x y : GE} {t : List GE} (h : lessR x y = false) : bestMore i (some (j, y)) (x :: t) = some (j, y) := by simp [bestMore, bestFrom, h]
/-- The best of the first i lies among them. -/
theorem best_in {rs : List (List GE)} {i j : Nat} {y : GE} (h : bestFrom 0 none (rs.take i) = some (j, y)) : j < i ∧ ∃ t, rs[j]? = some (y :: t) := by
  have h1 : bestR (rs.take i) = some (j, y) := h
  have h2 := bestR_lt h1
  obtain ⟨t, ht, _⟩ := bestR_some h1
  rw [List.length_take] at h2
  rw [List.getElem?_take] at ht
  split at ht
  · exact ⟨by omega, t, ht⟩
  · cases ht
/-- A list that starts with y behind a position: there it stands. -/
theorem drop_cons {es : List GE} {a : Nat} {y : GE} {t : List GE} (h : es.drop a = y :: t) : es[a]? = some y := by
  have : (es.drop a)[0]? = some y := by rw [h]; rfl
  simpa using this
theorem drop_at {es : List GE} {a : Nat} {y : GE} (h : es[a]? = some y) : es.drop a = y :: es.drop (a + 1) := by
  obtain ⟨hl, rfl⟩ := List.getElem?_eq_some_iff.1 h
  exact List.drop_eq_getElem_cons hl
end Go.Proofs.YtmbabbapcjphgaaDoor
namespace Go.Proofs.YtmbabbapcjphgaaDoor
open Go.RowKit

def Blk (w : World) (b : Nat) (cs : Array Value) (t : TypeId) : Prop := w.heap[b]? = some (.cells cs t (0, 0))
section
variable {w w' : World} {b : Nat} {cs : Array Value} {t : TypeId}
theorem Blk.lt (h : Blk w b cs t) : b < w.heap.size := (Array.getElem?_eq_some_iff.1 h).1
theorem Blk.cell (h : Blk w b cs t) {i : Nat} {v : Value} (hv : cs[i]? = some v) : w.cell? ⟨b, i, none⟩ = some v := by simp [World.cell?, show w.heap[b]? = _ from h, hv]
theorem Blk.frozen (h : Blk w b cs t) (i : Nat) : w.frozen? ⟨b, i, none⟩ = false := by simp [World.frozen?, show w.heap[b]? = _ from h]
theorem Blk.new (w : World) (cs : Array Value) (t : TypeId) : Blk (w.alloc (.cells cs t)) w.heap.size cs t := World.alloc_heap_new w _
theorem Blk.keep (h : Blk w b cs t) (hk : w'.heap[b]? = w.heap[b]?) : Blk w' b cs t := hk.trans h
theorem Blk.below (h : Blk w b cs t) (hb : Below w.heap.size w w') : Blk w' b cs t := h.keep (hb.block b h.lt)
theorem Blk.alloc (h : Blk w b cs t) (o : Obj) : Blk (w.alloc o) b cs t := h.below (below_a1 w o)
theorem Blk.drew (h : Blk w b cs t) : Blk w.drew b cs t := h
theorem Blk.drewN (h : Blk w b cs t) (n : Nat) : Blk (w.drewN n) b cs t := h
theorem Blk.grown {row : Option Nat} (h : Blk w b cs t) (hg : w.grownBy w' row) (hr : row ≠ some b) : Blk w' b cs t := h.keep (hg.block b h.lt (fun e => hr e.symm))
theorem Blk.other (h : Blk w b cs t) {p : Addr} (hp : b ≠ p.block) (u : Value) : Blk (w.setCell p u) b cs t := h.keep (Below.heap_setCell w p u b hp)
theorem Blk.set (h : Blk w b cs t) (i : Nat) (u : Value) : Blk (w.setCell ⟨b, i, none⟩ u) b (cs.setIfInBounds i u) t := by
  have hlt := h.lt
  have h2 : w.heap[b]? = some (.cells cs t (0, 0)) := h
  unfold Blk World.setCell
  simp [Array.getElem?_modify, h2]
end
end Go.Proofs.YtmbabbapcjphgaaDoor

namespace Go.Proofs.YtmbabbapcjphgaaDoor
open Go.RowKit

theorem Tryd.infoInt2 : (Tryd.prog.info? 3).map (fun i => (i.zero, i.size, i.bytes)) = some (some (.int .i64 0), 1, 8) := by kernel_rfl
def vn (ats : List Nat) : List Value := ats.map fun (a : Nat) => .int .i64 (a : Int)
theorem vn_at {ats : List Nat} {j a : Nat} (h : ats[j]? = some a) : (vn ats)[j]? = some (.int .i64 (a : Int)) := by simp [vn, h]
theorem vn_zero (n : Nat) : vn (List.replicate n 0) = List.replicate n (.int .i64 0) := by simp [vn]
theorem rep_flat : ∀ (n : Nat), (List.replicate n (0 : Int)).flatMap (fun x : Int => [Value.int .i64 x]) = List.replicate n (.int .i64 0)
  | 0 => rfl
  | n + 1 => by rw [List.replicate_succ, List.flatMap_cons, rep_flat n]; rfl
theorem vn_set (ats : List Nat) (j a : Nat) : (vn ats).set j (.int .i64 (a : Int)) = vn (ats.set j a) := by simp [vn, List.map_set]
theorem own_types {w : World} {lo lo' e e' size size' n n' : Nat} {v v' : Value} {xs xs' : List Value} (h : w.ownsRow lo e size v n xs) (h' : w.ownsRow lo' e' size' v' n' xs') (hne : e ≠ e') : v.ownBlock = none ∨ v.ownBlock ≠ v'.ownBlock := by
  rcases h.2 with ⟨rfl, _⟩ | ⟨g, cap, cur, rfl, _, hg, _⟩
  · exact .inl rfl
  · refine .inr (fun eq => ?_)
    rcases h'.2 with ⟨rfl, _⟩ | ⟨g', cap', cur', rfl, _, hg', _⟩
    · simp [Value.ownBlock] at eq
    · have e3 : g = g' := by simpa [Value.ownBlock] using eq
      subst e3
      rw [hg] at hg'
      injection hg' with hg'
      injection hg' with _ h2
      exact hne h2
def sliceLenS : Value → Nat
  | .slice _ n _ => n
  | _ => 0
theorem own_drewS {w : World} {lo e size n : Nat} {v : Value} {xs : List Value} (h : w.ownsRow lo e size v n xs) : w.drew.ownsRow lo e size v n xs := h
theorem reads_drewS {w : World} {B size m : Nat} {A : Option Addr} {xs : List Value} (h : Reads w B size A m xs) : Reads w.drew B size A m xs := h
/-- What stands between two rounds of Merge. -/
structure SMSt (w wr : World) (g n : Nat) (bs : List BE) (P : Option Addr) (k c1 : Nat) (pre : List GE) (ats : List Nat) : Prop where
  row : wr.ownsRow w.heap.size 68 3 (.slice P k c1) k (pre.flatMap GE.cells)
  at_ : wr.ownsRow w.heap.size 3 1 (.slice (some ⟨g, 0, none⟩) n n) n (vn ats)
  la : ats.length = n
  len : pre.length = k
  bel : Below w.heap.size w wr
  all : pre ++ mergeAll (rest bs ats) = mergeAll (bs.map BE.es)
theorem SMSt.below {w wr wr' : World} {g n : Nat} {bs : List BE} {P : Option Addr} {k c1 : Nat} {pre : List GE} {ats : List Nat} (h : SMSt w wr g n bs P k c1 pre ats) (hb : Below wr.heap.size wr wr') : SMSt w wr' g n bs P k c1 pre ats :=
  ⟨own_below h.row hb, own_below h.at_ hb, h.la, h.len, g_chain h.bel hb, h.all⟩
theorem SMSt.cellAt {w wr : World} {g n : Nat} {bs : List BE} {P : Option Addr} {k c1 : Nat} {pre : List GE} {ats : List Nat} {j : Nat} (h : SMSt w wr g n bs P k c1 pre ats) (hj : j < n) : ∃ a, ats[j]? = some a ∧ wr.cell? ⟨g, j, none⟩ = some (.int .i64 (a : Int)) := by
  have hl := h.la
  obtain ⟨a, ha⟩ : ∃ a, ats[j]? = some a := ⟨ats[j], List.getElem?_eq_getElem (by omega)⟩
  exact ⟨a, ha, (h.at_.cellAt j (by omega)).trans (vn_at ha)⟩

end Go.Proofs.YtmbabbapcjphgaaDoor
namespace Go.Proofs.YtmbabbapcjphgaaDoor
open Go.RowKit

/-- A first record that may have been drawn, as its cells say. -/
def HdIs (h : Option GE) (f : GE) (b : Bool) : Prop :=
  match h with
  | none => b = false
  | some x => b = true ∧ f = x
def pairC (vl : Value) (fl : GE) (bl : Bool) (vr : Value) (fr : GE) (br : Bool) : Array Value :=
  #[vl, .int .i64 fl.f, .int .i64 fl.t, .int .i64 fl.w, .bool bl, vr, .int .i64 fr.f, .int .i64 fr.t, .int .i64 fr.w, .bool br]
/-- Whose source lies in the blocks from lo on, below hi; its lists read in the world w0. -/
def Src (w0 w : World) : Tr → Nat → Nat → Value → Prop
  | .leaf es, lo, hi, v => ∃ L A n c, lo ≤ L ∧ L < hi ∧ v = .iface 168 (.pointer (some ⟨L, 0, none⟩)) ∧ Blk w L #[.slice A n c] 170 ∧ SlG w0 A n es ∧ n ≤ c
  | .pair l hl r hr, lo, hi, v => ∃ m P vl fl bl vr fr br, lo ≤ m ∧ m ≤ P ∧ P < hi ∧ v = .iface 171 (.pointer (some ⟨P, 0, none⟩)) ∧
      Blk w P (pairC vl fl bl vr fr br) 181 ∧ HdIs hl fl bl ∧ HdIs hr fr br ∧ Src w0 w l lo m vl ∧ Src w0 w r m P vr
theorem Src.lt {w0 w : World} : ∀ {t : Tr} {lo hi : Nat} {v : Value}, Src w0 w t lo hi v → lo < hi
  | .leaf _, _, _, _, h => by
    obtain ⟨L, _, _, _, h1, h2, _⟩ := h
    omega
  | .pair _ _ _ _, _, _, _, h => by
    obtain ⟨m, P, _, _, _, _, _, _, h1, h2, h3, _⟩ := h
    omega
theorem Src.keep {w0 w w' : World} : ∀ {t : Tr} {lo hi : Nat} {v : Value}, Src w0 w t lo hi v → (∀ k, lo ≤ k → k < hi → k < w.heap.size → w'.heap[k]? = w.heap[k]?) → Src w0 w' t lo hi v
  | .leaf _, _, _, _, h, hk => by
    obtain ⟨L, A, n, c, h1, h2, h3, h4, h5⟩ := h
    exact ⟨L, A, n, c, h1, h2, h3, h4.keep (hk L h1 h2 h4.lt), h5⟩
  | .pair l _ r _, _, _, _, h, hk => by
    obtain ⟨m, P, vl, fl, bl, vr, fr, br, h1, h2, h3, h4, h5, h6, h7, h8, h9⟩ := h
    exact ⟨m, P, vl, fl, bl, vr, fr, br, h1, h2, h3, h4, h5.keep (hk P (by omega) h3 h5.lt), h6, h7, h8.keep (fun k a b c => hk k a (by omega) c), h9.keep (fun k a b c => hk k (by omega) (by omega) c)⟩
theorem Src.wide {w0 w : World} : ∀ {t : Tr} {lo hi lo' hi' : Nat} {v : Value}, Src w0 w t lo hi v → lo' ≤ lo → hi ≤ hi' → Src w0 w t lo' hi' v
  | .leaf _, _, _, _, _, _, h, ha, hb => by
    obtain ⟨L, A, n, c, h1, h2, h5⟩ := h
    exact ⟨L, A, n, c, by omega, by omega, h5⟩
  | .pair l _ r _, _, _, _, _, _, h, ha, hb => by
    obtain ⟨m, P, vl, fl, bl, vr, fr, br, h1, h2, h3, h4, h5, h6, h7, h8, h9⟩ := h
    exact ⟨m, P, vl, fl, bl, vr, fr, br, by omega, h2, by omega, h4, h5, h6, h7, h8.wide ha (Nat.le_refl _), h9⟩
/-- Nothing is written but in blocks from lo on, below hi, and new ones. -/
abbrev Within (lo hi : Nat) : World → World → Prop := OnlyB (fun k => lo ≤ k ∧ k < hi)
theorem Src.within {w0 w w' : World} {t : Tr} {lo hi a b : Nat} {v : Value} (h : Src w0 w t lo hi v) (k : Within a b w w') (hd : hi ≤ a ∨ b ≤ lo) : Src w0 w' t lo hi v :=
  h.keep (fun i h1 h2 h3 => k.block i h3 (fun e => by omega))
theorem Blk.within {w w' : World} {b : Nat} {cs : Array Value} {t : TypeId} {lo hi : Nat} (h : Blk w b cs t) (k : Within lo hi w w') (hd : b < lo ∨ hi ≤ b) : Blk w' b cs t :=
  h.keep (k.block b h.lt (fun e => by omega))
theorem Within.below {lo hi B : Nat} {w w' : World} (h : Within lo hi w w') (hB : B ≤ w.heap.size) (hl : B ≤ lo) : Below B w w' := h.toBelow hB (fun k hk => by omega)
theorem Within.wide {lo hi lo' hi' : Nat} {w w' : World} (h : Within lo hi w w') (hl : lo' ≤ lo) (hh : hi ≤ hi') : Within lo' hi' w w' := h.mono (fun k hk => by omega)
theorem Within.set {lo hi : Nat} {w w' : World} (h : Within lo hi w w') {p : Addr} (hp : lo ≤ p.block ∧ p.block < hi) (u : Value) : Within lo hi w (w'.setCell p u) :=
  h.trans ⟨rfl, rfl, rfl, by simp, fun k _ hn => Below.heap_setCell w' p u k (fun e => hn (by rw [e]; exact hp))⟩
theorem Within.drew {lo hi : Nat} {w w' : World} (h : Within lo hi w w') : Within lo hi w w'.drew := ⟨h.os, h.tape, h.output, h.size, h.block⟩
theorem Within.drewN {lo hi : Nat} {w w' : World} (h : Within lo hi w w') (n : Nat) : Within lo hi w (w'.drewN n) := ⟨h.os, h.tape, h.output, h.size, h.block⟩
theorem Within.alloc {lo hi : Nat} {w w' : World} (h : Within lo hi w w') (o : Obj) : Within lo hi w (w'.alloc o) := OnlyB.below h (below_a1 w' o)
theorem OnlyB.setNew {S : Nat → Prop} {w w' : World} (h : OnlyB S w w') {p : Addr} (hp : w.heap.size ≤ p.block) (u : Value) : OnlyB S w (w'.setCell p u) :=
  ⟨h.os, h.tape, h.output, by simpa using h.size, fun k hk hn => (Below.heap_setCell w' p u k (by omega)).trans (h.block k hk hn)⟩
theorem Within.setNew {lo hi : Nat} {w w' : World} (h : Within lo hi w w') {p : Addr} (hp : w.heap.size ≤ p.block) (u : Value) : Within lo hi w (w'.setCell p u) :=
  ⟨h.os, h.tape, h.output, by simpa using h.size, fun k hk hn => (Below.heap_setCell w' p u k (by omega)).trans (h.block k hk hn)⟩
/-- What a source's next answers. -/
def NextIs (w0 : World) (t : Tr) (lo hi : Nat) (v : Value) (w : World) (e : Ending) (w' : World) : Prop :=
  ∃ (f : GE) (b : Bool), e = .returned (.tuple #[.agg #[.int .i64 f.f, .int .i64 f.t, .int .i64 f.w], .bool b]) ∧ HdIs t.next.1 f b ∧ Src w0 w' t.next.2 lo hi v ∧ Within lo hi w w'
end Go.Proofs.YtmbabbapcjphgaaDoor
