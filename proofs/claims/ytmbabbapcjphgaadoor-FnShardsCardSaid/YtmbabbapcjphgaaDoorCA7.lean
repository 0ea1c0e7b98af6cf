/- The program's iterator over the intervals of ends: a closure that reads the slice between two rounds; its contract for whatever loop body. Condition: at most 2^20 ends. // Parted from YtmbabbapcjphgaaDoorGrEq: the contracts of the functions that only their own laws reach. // Words for data with depth (plain lemmas over the model; no condition): 'RdR lo hi w s cs d': the cells cs read in w as the datum d of the shape s, and every row that is looked into lies in a block from lo on and below hi; such a reading is kept where these blocks are. // What the opening of an argument that is a graph, or a list of records of three numbers, is told by (no condition). // The opening of an argument that is a graph. // Words for the walks of laws whose function answers numbers: rows of numbers of a call's own, from call to call. // The contract of the model's Cut. Condition: at most 2^20 edges. -/
import Derived.RangeFuncNested
import Derived.RangeFuncBound
import Derived.RangeFuncCalls
import Derived.RangeFuncLeaves
import Derived.RangeFuncBox
import Derived.Shelf.Abstract
import Derived.Shelf.RegionOpen
import Derived.WalkKit
import Derived.OwnWalkIn
import Derived.TacticsInMore
import Derived.LoopNIn
import Derived.LoopIn
import Derived.Test.YtmbabbapcjphgaaDoorCA2
import Derived.Test.YtmbabbapcjphgaaDoorCA1
import Derived.Below
import Derived.Laws.Rows
import Derived.Laws.OwnMore
import Derived.Deep.Draws
import Derived.Lib.Hide
import Derived.ChangeArms
import Derived.DataReads
import Derived.Test.YtmbabbapcjphgaaDoorCA15
namespace Go.Proofs.YtmbabbapcjphgaaDoor
open Go.RowKit Go.Shelf
attribute [local go_sem] Oper.semAt_some

set_option maxRecDepth 100000 in
set_option maxHeartbeats 2000000 in
theorem spans1_in {α : Type} (f : α → Int × Int) (ps : List α) (F : Fence) (m : Nat) (hf : F.fn 71) (hro : F.round = none) (hm : 1 ≤ m) (l Bs : Nat) (A : Option Addr) (n c : Nat) (es : List Int) (hps : ps.map f = pairsE 0 es) (w0 : World) (hI : SlI w0 A n es) (hn : n ≤ 1048576) (J Jx : List α → World → Prop)
    (hY : ∀ pre x W, J pre W → pre.length < n → YieldAt F (m - 1) Tryd.prog l #[.int .i64 (f x).1, .int .i64 (f x).2] W fun e W' =>
      (e = .returned (.bool true) ∧ J (pre ++ [x]) W' ∧ Below w0.heap.size W W') ∨ (e = .returned (.bool false) ∧ Jx (pre ++ [x]) W'))
    (W : World) (hW : Below w0.heap.size w0 W) (hBs : W.cell? ⟨Bs, 0, none⟩ = some (.slice A n c)) (h0 : J [] W) :
    CallsIn F m Tryd.prog 71 #[.func (.yield l) #[] #[], .pointer (some ⟨Bs, 0, none⟩)] W fun e W' => (∃ v, e = .returned v) ∧
      ((∃ ys, ys = ps ∧ J ys W') ∨ (∃ pre, (∃ k, k ≤ n ∧ pre = ps.take k) ∧ Jx pre W')) := by
  have hpl : ps.length = n := by have := congrArg List.length hps; rw [List.length_map, pairsE_len, hI.len] at this; exact this
  refine callsIn_of_wp Tryd.func71 rfl hf ?_ hro
  simp only [Tryd.ntmps71, List.size_toArray, List.length_cons, List.length_nil, Nat.reduceAdd, Nat.reduceSub, Array.replicate_succ, Array.replicate_zero, List.push_toArray, List.append_toArray, List.nil_append, List.cons_append]
  gi_wp2
  gi_loopw [3, 8] (fun v i wr => ∃ k : Nat, k ≤ n ∧ i = .int .i64 k ∧ v = .int .i64 (lastE 0 (es.take k)) ∧ J (ps.take k) wr ∧ Below w0.heap.size w0 wr)
    (fun _ i _ => n - (intOf i).toNat)
  case atStart => exact ⟨0, Nat.zero_le _, rfl, rfl, h0, hW⟩
  case round =>
    obtain ⟨k, hk, rfl, rfl, hJs, hnx⟩ := hrel
    by_cases hlt : k < n
    · obtain ⟨b, off, x, rfl, hbw, hx, hcx⟩ := hI.at_ hlt
      have hcx := (hnx.cell (p := ⟨b, off + k, none⟩) hbw).trans hcx
      have hpk : ps[k]? = some (ps[k]'(by omega)) := List.getElem?_eq_getElem (by omega)
      generalize ps[k]'(by omega) = y at hpk
      have hfy : f y = (lastE 0 (es.take k), x) := by
        have h1 : (ps.map f)[k]? = some (f y) := by rw [List.getElem?_map, hpk]; rfl
        rw [hps, pairsE_get es 0 k x hx.out] at h1
        injection h1 with h1
        exact h1.symm
      obtain ⟨fn, tmps, assign, body, hy, hR⟩ := hY _ y wr hJs (by rw [List.length_take]; omega)
      rw [hfy] at hy
      dsimp only at hy
      have hs : ps.take (k + 1) = ps.take k ++ [y] := g_take ps k y hpk
      have hl2 : lastE 0 (es.take (k + 1)) = x := last_step hx.out
      clear hx
      gi_wp2
      refine hR.mono ?_
      rintro e W3 (⟨rfl, hJ3, hk3⟩ | ⟨rfl, hJx3⟩)
      · gi_wp2
        go_roundw
        case rel => exact ⟨k + 1, by omega, by simp, by rw [hl2], by rw [hs]; exact hJ3, hnx.trans hk3⟩
        case measure => simp [intOf]; omega
      · gi_wp2
        refine bodyPost_ret (results_none rfl _ _ _) rfl ?_
        exact ⟨⟨_, rfl⟩, .inr ⟨_, ⟨k + 1, by omega, hs.symm⟩, hJx3⟩⟩
    · obtain rfl : k = n := by omega
      have he : ps.take k = ps := List.take_of_length_le (by omega)
      rw [he] at hJs
      gi_wp2
      go_end0
      exact ⟨⟨_, rfl⟩, .inl ⟨_, rfl, hJs⟩⟩

set_option maxHeartbeats 1000000 in
/-- The slice is boxed; the function value captures the box. -/
theorem spans_in (F : Fence) (m : Nat) (hf : F.fn 54) (hro : F.round = none) (A : Option Addr) (n c : Nat) (w : World) :
    CallsIn F m Tryd.prog 54 #[.slice A n c] w fun e w' => e = .returned (.func (.func 71) #[] #[.pointer (some ⟨w.heap.size, 0, none⟩)]) ∧ w' = w.alloc (.cells #[.slice A n c] 27) := by
  refine callsIn_of_wp Tryd.func54 rfl hf ?_ hro
  simp only [Tryd.ntmps54, List.size_toArray, List.length_cons, List.length_nil, Nat.reduceAdd, Nat.reduceSub, Array.replicate_succ, Array.replicate_zero, List.push_toArray, List.append_toArray, List.nil_append, List.cons_append]
  gi_wp2
  go_ret
  exact ⟨rfl, rfl⟩

theorem spans_stops {α : Type} (f : α → Int × Int) (ps : List α) (F : Fence) (m : Nat) (hf : F.fn 71) (hro : F.round = none) (hm : 1 ≤ m) (Bs : Nat) (A : Option Addr) (n c : Nat) (es : List Int) (hps : ps.map f = pairsE 0 es) (w0 : World) (hI : SlI w0 A n es) (hn : n ≤ 1048576) (w : World) (hw : Below w0.heap.size w0 w) (hBs : Bs < w.heap.size)
    (hc : w.cell? ⟨Bs, 0, none⟩ = some (.slice A n c)) :
    SeqStopsK F m Tryd.prog 71 #[.pointer (some ⟨Bs, 0, none⟩)] (fun x : α => #[Value.int .i64 (f x).1, Value.int .i64 (f x).2]) (Below w0.heap.size) (fun ys => ys = ps)
      (fun pre => ∃ k, k ≤ n ∧ pre = ps.take k) n w := fun l J Jx W hW _ _ hY h0 =>
  spans1_in f ps F m hf hro hm l Bs A n c es hps w0 hI hn J Jx hY W (hw.trans (hW.mono hw.size)) ((hW.cell (p := ⟨Bs, 0, none⟩) hBs).trans hc) h0

/-! ### what the pairs tell of the ends -/
theorem asc_pairs : ∀ (xs : List Int) (l : Int), (∀ p ∈ pairsE l xs, p.1 < p.2) → ascB l xs = true
  | [], _, _ => rfl
  | e :: r, l, h => by
    have h1 := h (l, e) (by simp [pairsE])
    have h2 := asc_pairs r e (fun p hp => h p (by simp [pairsE, hp]))
    simp only [ascB, Bool.and_eq_true, decide_eq_true_eq]
    exact ⟨h1, h2⟩
theorem asc_pairs_no : ∀ (xs : List Int) (l : Int) (p : Int × Int), p ∈ pairsE l xs → p.2 ≤ p.1 → ascB l xs = false
  | [], _, _, h, _ => by simp [pairsE] at h
  | e :: r, l, p, h, hp => by
    simp only [pairsE, List.mem_cons] at h
    simp only [ascB, Bool.and_eq_false_iff, decide_eq_false_iff_not]
    rcases h with rfl | h
    · exact .inl (by simp only at hp; omega)
    · exact .inr (asc_pairs_no r e p h hp)
def upP (ps : List (Int × Int)) : Prop := ∀ p ∈ ps, p.1 < p.2
def dnP (ps : List (Int × Int)) : Prop := ∃ p ∈ ps, p.2 ≤ p.1
theorem upP_snoc {ps : List (Int × Int)} {lo hi : Int} (h : upP ps) (hx : lo < hi) : upP (ps ++ [(lo, hi)]) := fun p hp => (List.mem_append.1 hp).elim (h p) (fun e => by simp at e; subst e; exact hx)
theorem dnP_snoc {ps : List (Int × Int)} {lo hi : Int} (hx : hi ≤ lo) : dnP (ps ++ [(lo, hi)]) := ⟨(lo, hi), by simp, hx⟩
def lastP (ps : List (Int × Int)) : Int := ((ps.getLast?).map Prod.snd).getD 0
theorem lastP_snoc (ps : List (Int × Int)) (p : Int × Int) : lastP (ps ++ [p]) = p.2 := by simp [lastP]
theorem lastP_pairs : ∀ (xs : List Int), lastP (pairsE 0 xs) = lastE 0 xs := by
  intro xs
  rcases List.eq_nil_or_concat xs with rfl | ⟨r, e, rfl⟩
  · rfl
  · rw [List.concat_eq_append, pairsE_snoc, lastP_snoc, lastE_snoc]
end Go.Proofs.YtmbabbapcjphgaaDoor
namespace Go.Proofs.YtmbabbapcjphgaaDoor
open Go.RowKit

end Go.Proofs.YtmbabbapcjphgaaDoor
namespace Go.Proofs.YtmbabbapcjphgaaDoor
open Go.RowKit

/-- Shapes of plain data; a struct is a chain of pairs. -/
inductive Sh where
  | int (k : IntKind)
  | bool
  | str
  | sl (e : Sh)
  | pair (a b : Sh)

def Sh.size : Sh → Nat
  | .int _ => 1
  | .bool => 1
  | .str => 1
  | .sl _ => 1
  | .pair a b => a.size + b.size
def Sh.D : Sh → Type
  | .int _ => Int
  | .bool => Bool
  | .str => ByteArray
  | .sl e => List e.D
  | .pair a b => a.D × b.D

/-- The cells from an address on. -/
def CellsAt (w : World) (b off : Nat) (cs : List Value) : Prop := ∀ (i : Nat) (v : Value), cs[i]? = some v → w.cell? ⟨b, off + i, none⟩ = some v
theorem CellsAt.same {w w' : World} {b off : Nat} {cs : List Value} (h : CellsAt w b off cs) (hb : w'.heap[b]? = w.heap[b]?) : CellsAt w' b off cs :=
  fun i v hv => (World.cell?_of_block (a := ⟨b, off + i, none⟩) hb).trans (h i v hv)

def RdR (lo hi : Nat) (w : World) : (s : Sh) → List Value → s.D → Prop
  | .int k, cs, n => cs = [.int k n] ∧ (Lit.int k n).wf = true
  | .bool, cs, b => cs = [.bool b]
  | .str, cs, x => cs = [.string x] ∧ ByteArray.size x ≤ maxLen
  | .sl e, cs, ds => ∃ A n c, cs = [.slice A n c] ∧ List.length ds = n ∧ n ≤ c ∧ c ≤ maxLen ∧ (0 < n → ∃ b off, A = some ⟨b, off, none⟩ ∧ lo ≤ b ∧ b < hi ∧
      ∀ (j : Nat) (d : e.D), (show List e.D from ds)[j]? = some d → ∃ es, es.length = e.size ∧ CellsAt w b (off + j * e.size) es ∧ RdR lo hi w e es d)
  | .pair a b, cs, d => ∃ c1 c2, cs = c1 ++ c2 ∧ c1.length = a.size ∧ RdR lo hi w a c1 d.1 ∧ RdR lo hi w b c2 d.2

theorem RdR.len {lo hi : Nat} {w : World} : ∀ {s : Sh} {cs : List Value} {d : s.D}, RdR lo hi w s cs d → cs.length = s.size
  | .int _, _, _, h => by rw [h.1]; rfl
  | .bool, _, _, h => by rw [show _ = _ from h]; rfl
  | .str, _, _, h => by rw [h.1]; rfl
  | .sl _, _, _, h => by obtain ⟨_, _, _, e, _⟩ := h; rw [e]; rfl
  | .pair _ _, _, _, h => by
    obtain ⟨c1, c2, e, h1, _, h2⟩ := h
    rw [e, List.length_append, h1, RdR.len h2]
    rfl

/-- Where the blocks from lo on and below hi are as they were, the reading is too; and the bounds may be widened. -/
theorem RdR.keep {lo hi lo' hi' : Nat} {w w' : World} (hl : lo' ≤ lo) (hh : hi ≤ hi') (hs : ∀ k, lo ≤ k → k < hi → w'.heap[k]? = w.heap[k]?) :
    ∀ {s : Sh} {cs : List Value} {d : s.D}, RdR lo hi w s cs d → RdR lo' hi' w' s cs d
  | .int _, _, _, h => h
  | .bool, _, _, h => h
  | .str, _, _, h => h
  | .sl e, _, _, h => by
    obtain ⟨A, n, c, e1, e2, e3, e4, h⟩ := h
    refine ⟨A, n, c, e1, e2, e3, e4, fun hn => ?_⟩
    obtain ⟨b, off, eA, hb1, hb2, h⟩ := h hn
    refine ⟨b, off, eA, by omega, by omega, fun j d hd => ?_⟩
    obtain ⟨es, hl2, hc, hr⟩ := h j d hd
    exact ⟨es, hl2, hc.same (hs b hb1 hb2), RdR.keep hl hh hs hr⟩
  | .pair _ _, _, _, h => by
    obtain ⟨c1, c2, e, h1, ha, hb⟩ := h
    exact ⟨c1, c2, e, h1, RdR.keep hl hh hs ha, RdR.keep hl hh hs hb⟩

theorem RdR.below {lo hi B : Nat} {w w' : World} {s : Sh} {cs : List Value} {d : s.D} (h : RdR lo hi w s cs d) (hb : Below B w w') (hB : hi ≤ B) : RdR lo hi w' s cs d :=
  h.keep (Nat.le_refl _) (Nat.le_refl _) (fun k _ hk => hb.block k (by omega))
theorem RdR.drewN {lo hi : Nat} {w : World} {s : Sh} {cs : List Value} {d : s.D} (h : RdR lo hi w s cs d) (k : Nat) : RdR lo hi (w.drewN k) s cs d :=
  RdR.keep (w := w) (w' := w.drewN k) (Nat.le_refl _) (Nat.le_refl _) (fun _ _ _ => rfl) h
theorem RdR.widen {lo hi lo' hi' : Nat} {w : World} {s : Sh} {cs : List Value} {d : s.D} (h : RdR lo hi w s cs d) (hl : lo' ≤ lo) (hh : hi ≤ hi') : RdR lo' hi' w s cs d :=
  h.keep hl hh (fun _ _ _ => rfl)

/-- The element at place j of a slice that reads so. -/
theorem RdR.at_ {lo hi : Nat} {w : World} {e : Sh} {A : Option Addr} {n c j : Nat} {ds : List e.D} (h : RdR lo hi w (.sl e) [.slice A n c] ds) (hj : j < n) :
    ∃ (b off : Nat) (es : List Value) (d : e.D), A = some ⟨b, off, none⟩ ∧ lo ≤ b ∧ b < hi ∧ Hid (ds[j]? = some d) ∧ es.length = e.size ∧ CellsAt w b (off + j * e.size) es ∧ RdR lo hi w e es d := by
  obtain ⟨A', n', c', e1, e2, _, _, h⟩ := h
  simp only [List.cons.injEq, Value.slice.injEq, and_true] at e1
  obtain ⟨rfl, rfl, rfl⟩ := e1
  obtain ⟨b, off, eA, hb1, hb2, h⟩ := h (by omega)
  have hl : j < List.length ds := by omega
  obtain ⟨es, h1, h2, h3⟩ := h j ds[j] (List.getElem?_eq_getElem hl)
  exact ⟨b, off, es, ds[j], eA, hb1, hb2, List.getElem?_eq_getElem hl, h1, h2, h3⟩
theorem add_plain (b off j : Nat) : ((⟨b, off, none⟩ : Addr).add j) = ⟨b, off + j, none⟩ := by unfold Addr.add; split <;> simp_all
theorem add_spot {w : World} {a : Addr} {v : Value} (h : w.cell? (a.add 0) = some v) : a.spot = none := by
  have h1 := World.cell?_spot h
  simpa [Addr.add] using h1

section
variable {H : Type} {enc : TypeId × Value → H} {P : Program} {w : World} {base : Nat} {spare : Nat → Bool} {held : Bool}

/-- Whatever reads at the type t (as the form reads arguments) reads as a datum of the shape s. -/
def Opens (enc : TypeId × Value → H) (P : Program) (w : World) (base : Nat) (spare : Nat → Bool) (held : Bool) (t : TypeId) (s : Sh) : Prop :=
  ∀ (fuel : Nat) (cs : List Value) (x : DataW H × List MemPlace), DataW.trod enc P w base spare held fuel t cs = some x → ∃ d : s.D, RdR 0 w.heap.size w s cs d
theorem opens_int {t : TypeId} {k : IntKind} (ht : P.underlying t = some (.int k)) : Opens enc P w base spare held t (.int k) := fun _ _ _ h => by
  obtain ⟨n, e, _, hw⟩ := DataW.trod_int ht h
  exact ⟨n, e, hw⟩
theorem opens_bool {t : TypeId} (ht : P.underlying t = some .bool) : Opens enc P w base spare held t .bool := fun _ _ _ h => by
  obtain ⟨b, e, _⟩ := DataW.trod_bool ht h
  exact ⟨b, e⟩
theorem opens_str {t : TypeId} (ht : P.underlying t = some .string) : Opens enc P w base spare held t .str := fun _ _ _ h => by
  obtain ⟨x, e, _, hw⟩ := DataW.trod_string ht h
  exact ⟨x, e, hw⟩
theorem opens_sl {t e : TypeId} {s : Sh} (ht : P.underlying t = some (.slice e)) (hc : P.cellsOf e = s.size) (hs : 0 < s.size) (ho : Opens enc P w base spare held e s) : Opens enc P w base spare held t (.sl s) := fun _ _ _ h => by
  rcases DataW.trod_slice ht h with ⟨rfl, _⟩ | ⟨a, len, cap, elems, rest, n, _, rfl, _, _, hl, hmx, hlen, hel, hsp1, hsp2⟩
  · exact ⟨([] : List s.D), none, 0, 0, rfl, rfl, Nat.le_refl _, Nat.zero_le _, fun h0 => absurd h0 (by omega)⟩
  · have each : ∀ i, i < len → ∃ (es : List Value) (d : s.D), es.length = s.size ∧ (∀ j, j < s.size → w.cell? (a.add (i * s.size + j)) = es[j]?) ∧ RdR 0 w.heap.size w s es d := by
      intro i hi
      have h1 := hel i hi
      rw [List.getElem?_eq_getElem (by omega), Option.bind_eq_some_iff] at h1
      obtain ⟨es, hes, htr⟩ := h1
      obtain ⟨_, h2, h3⟩ := World.cells?_some hes
      obtain ⟨d, hd⟩ := ho _ _ _ htr
      refine ⟨es, d, by rw [h2, hc], fun j hj => ?_, hd⟩
      have := h3 j (by rw [hc]; exact hj)
      rw [hc] at this
      rw [← this]
      congr 1
      unfold Addr.add
      by_cases h01 : i * s.size = 0 <;> by_cases h02 : j = 0 <;> simp [h01, h02, Nat.add_assoc]
    have hall : ∃ ds : List s.D, ds.length = len ∧ ∀ (i : Nat) (d : s.D), ds[i]? = some d → ∃ es : List Value, es.length = s.size ∧ (∀ j, j < s.size → w.cell? (a.add (i * s.size + j)) = es[j]?) ∧ RdR 0 w.heap.size w s es d := by
      clear hel h hl hlen hsp1 hsp2
      induction len with
      | zero => exact ⟨[], rfl, fun i d h => by simp at h⟩
      | succ m ih =>
        obtain ⟨ds, hd1, hd2⟩ := ih (fun i hi => each i (by omega))
        obtain ⟨es, d, h1, h2, h3⟩ := each m (by omega)
        refine ⟨ds ++ [d], by simp [hd1], fun i d' hi => ?_⟩
        rcases Nat.lt_trichotomy i m with hlt | heq | hgt
        · rw [List.getElem?_append_left (by omega)] at hi
          exact hd2 i d' hi
        · subst heq
          rw [List.getElem?_append_right (by omega), hd1, Nat.sub_self] at hi
          simp at hi
          subst hi
          exact ⟨es, h1, h2, h3⟩
        · rw [List.getElem?_eq_none (by simp; omega)] at hi
          cases hi
    obtain ⟨ds, hd1, hd2⟩ := hall
    refine ⟨ds, some a, len, cap, rfl, hd1, hl, hmx, fun h0 => ?_⟩
    obtain ⟨es0, d0, h1, h2, _⟩ := each 0 h0
    have hc0 : w.cell? (a.add 0) = some es0[0] := by
      have := h2 0 hs
      rw [Nat.zero_mul, Nat.add_zero] at this
      rw [this, List.getElem?_eq_getElem (by omega)]
    have hsp := add_spot hc0
    obtain ⟨b, off, sp⟩ := a
    simp only at hsp
    subst hsp
    have hlt : b < w.heap.size := by
      rw [add_plain] at hc0
      exact World.block_lt_of_cell? w _ hc0
    refine ⟨b, off, rfl, Nat.zero_le _, hlt, fun j d hj => ?_⟩
    obtain ⟨es, h3, h4, h5⟩ := hd2 j d hj
    refine ⟨es, h3, fun i v hv => ?_, h5⟩
    have hi : i < s.size := by have := (List.getElem?_eq_some_iff.1 hv).1; omega
    have := h4 i hi
    rw [add_plain, ← Nat.add_assoc] at this
    rw [this, hv]

/-- The fields of a struct from one on. -/
def OpensF (enc : TypeId × Value → H) (P : Program) (w : World) (base : Nat) (spare : Nat → Bool) (held : Bool) (fs : List Field) (off : Nat) (s : Sh) : Prop :=
  ∀ cs : List Value, (∀ f ∈ fs, ∃ (n : Nat) (y : DataW H × List MemPlace), DataW.trod enc P w base spare held n f.type ((cs.drop f.offset).take (P.cellsOf f.type)) = some y) → cs.length = off + s.size → ∃ d : s.D, RdR 0 w.heap.size w s (cs.drop off) d
theorem opensF_last {f : Field} {off : Nat} {s : Sh} (h1 : f.offset = off) (hc : P.cellsOf f.type = s.size) (ho : Opens enc P w base spare held f.type s) : OpensF enc P w base spare held [f] off s := fun cs hf hl => by
  obtain ⟨n, y, h⟩ := hf f (by simp)
  obtain ⟨d, hd⟩ := ho _ _ _ h
  rw [h1, hc, List.take_of_length_le (by rw [List.length_drop]; omega)] at hd
  exact ⟨d, hd⟩
theorem opensF_cons {f : Field} {fs : List Field} {off : Nat} {a b : Sh} (h1 : f.offset = off) (hc : P.cellsOf f.type = a.size) (ho : Opens enc P w base spare held f.type a) (hr : OpensF enc P w base spare held fs (off + a.size) b) :
    OpensF enc P w base spare held (f :: fs) off (.pair a b) := fun cs hf hl => by
  obtain ⟨n, y, h⟩ := hf f (by simp)
  obtain ⟨d, hd⟩ := ho _ _ _ h
  rw [h1, hc] at hd
  have hsz : (Sh.pair a b).size = a.size + b.size := rfl
  obtain ⟨d2, hd2⟩ := hr cs (fun g hg => hf g (by simp [hg])) (by rw [hl, hsz]; omega)
  refine ⟨(d, d2), _, _, ?_, hd.len, hd, hd2⟩
  rw [← List.drop_drop]
  exact (List.take_append_drop _ _).symm
theorem opens_struct {t : TypeId} {fs : Array Field} {s : Sh} (ht : P.underlying t = some (.struct fs)) (hc : P.cellsOf t = s.size) (hf : OpensF enc P w base spare held fs.toList 0 s) : Opens enc P w base spare held t s := fun _ cs _ h => by
  obtain ⟨xs, n, _, _, hl, hlen, hall⟩ := DataW.trod_struct ht h
  obtain ⟨d, hd⟩ := hf cs (fun f hfm => by
    obtain ⟨i, hi, he⟩ := List.getElem_of_mem hfm
    have hi2 : i < fs.size := by simpa using hi
    have h1 := hall i f (by rw [← he]; simp [hi2])
    rw [List.getElem?_eq_getElem (by omega)] at h1
    exact ⟨n, _, h1⟩) (by rw [hl, hc]; omega)
  exact ⟨d, by simpa using hd⟩
end
end Go.Proofs.YtmbabbapcjphgaaDoor
namespace Go.Proofs.YtmbabbapcjphgaaDoor
open Go.RowKit

def edgeSh : Sh := .pair (.int .i64) (.pair (.int .i64) (.int .i64))
def grSh : Sh := .pair (.int .i64) (.sl edgeSh)
theorem g_build {α : Type} (f : α → List Value) (k : Nat) (hf : ∀ a, (f a).length = k) (Q : α → Prop) (w : World) (b off : Nat) : ∀ (n : Nat), (∀ j, j < n → ∃ a, Q a ∧ ∀ (i : Nat) (v : Value), (f a)[i]? = some v → w.cell? ⟨b, off + j * k + i, none⟩ = some v) →
    ∃ es : List α, es.length = n ∧ (∀ (j : Nat) (v : Value), (es.flatMap f)[j]? = some v → w.cell? ⟨b, off + j, none⟩ = some v) ∧ ∀ a ∈ es, Q a
  | 0, _ => ⟨[], rfl, fun j v hv => by simp at hv, by simp⟩
  | m + 1, h => by
    obtain ⟨es, h1, h2, h3⟩ := g_build f k hf Q w b off m (fun j hj => h j (by omega))
    obtain ⟨a, ha, hc⟩ := h m (by omega)
    refine ⟨es ++ [a], by simp [h1], fun j v hv => ?_, fun x hx => ?_⟩
    · have hl : (es.flatMap f).length = m * k := by rw [flat_len f k hf, h1]
      rw [flat_snoc] at hv
      rcases Nat.lt_or_ge j (m * k) with hj | hj
      · rw [List.getElem?_append_left (by omega)] at hv
        exact h2 j v hv
      · rw [List.getElem?_append_right (by omega), hl] at hv
        have := hc (j - m * k) v hv
        rw [show off + m * k + (j - m * k) = off + j by omega] at this
        exact this
    · rcases List.mem_append.1 hx with hx | hx
      · exact h3 x hx
      · simp at hx
        subst hx
        exact ha

def EdgeIn (e : GE) : Prop := (Lit.int .i64 e.f).wf = true ∧ (Lit.int .i64 e.t).wf = true ∧ (Lit.int .i64 e.w).wf = true
theorem RdR.edge {lo hi : Nat} {w : World} {cs : List Value} {d : edgeSh.D} (h : RdR lo hi w edgeSh cs d) : ∃ e : GE, cs = e.cells ∧ EdgeIn e := by
  obtain ⟨c1, c2, e, h1, ⟨hk, hwf⟩, hb⟩ := h
  obtain ⟨c3, c4, e', h2, ⟨hk', hwf'⟩, hc, hwf''⟩ := hb
  exact ⟨⟨d.1, d.2.1, d.2.2⟩, by rw [e, hk, e', hk', hc]; rfl, hwf, hwf', hwf''⟩
/-- What a walk is told of a graph that came in. -/
structure GrIn (w : World) (N : Int) (A : Option Addr) (n : Nat) (es : List GE) : Prop where
  N : (Lit.int .i64 N).wf = true
  g : SlG w A n es
  l : n ≤ maxLen
  e : ∀ e ∈ es, EdgeIn e
theorem RdR.edges {lo hi : Nat} {w : World} {cs : List Value} {ds : List edgeSh.D} (h : RdR lo hi w (.sl edgeSh) cs ds) (hh : hi ≤ w.heap.size) : ∃ A n c es, cs = [.slice A n c] ∧ SlG w A n es ∧ n ≤ c ∧ n ≤ maxLen ∧ ∀ e ∈ es, EdgeIn e := by
  obtain ⟨A, n, c, e1, e2, e3, e4, h⟩ := h
  rcases Nat.eq_zero_or_pos n with h0 | h0
  · subst h0
    exact ⟨A, 0, c, [], e1, SlG.nil, e3, by omega, by simp⟩
  · obtain ⟨b, off, eA, _, hb, hall⟩ := h h0
    obtain ⟨es, h1, h2, h3⟩ := g_build GE.cells 3 GE.cells_len EdgeIn w b off n (fun j hj => by
      have hjl : j < ds.length := by omega
      obtain ⟨cs, _, hc, hr⟩ := hall j (ds[j]'hjl) (List.getElem?_eq_getElem hjl)
      obtain ⟨e, rfl, he⟩ := RdR.edge hr
      exact ⟨e, he, hc⟩)
    exact ⟨A, n, c, es, e1, ⟨h1, ⟨by rw [flat_len _ 3 GE.cells_len, h1], fun _ => ⟨b, off, eA, by omega, h2⟩⟩⟩, e3, by omega, h3⟩
theorem RdR.graph {lo hi : Nat} {w : World} {cs : List Value} {d : grSh.D} (h : RdR lo hi w grSh cs d) (hh : hi ≤ w.heap.size) : ∃ N A n c es, cs = [.int .i64 N, .slice A n c] ∧ GrIn w N A n es := by
  obtain ⟨c1, c2, e, h1, ⟨hk, hwf⟩, hb⟩ := h
  obtain ⟨A, n, c, es, ea, hg, _, hl, he⟩ := RdR.edges hb hh
  exact ⟨d.1, A, n, c, es, by rw [e, hk, ea]; rfl, ⟨hwf, hg, hl, he⟩⟩

end Go.Proofs.YtmbabbapcjphgaaDoor
namespace Go.Proofs.YtmbabbapcjphgaaDoor
open Go.RowKit

section
variable {H : Type} {enc : TypeId × Value → H} {w : World} {base : Nat} {spare : Nat → Bool} {held : Bool}
theorem Tryd.cellsGi : Tryd.prog.cellsOf 3 = 1 := by kernel_rfl
theorem Tryd.cellsEd : Tryd.prog.cellsOf 132 = 3 := by kernel_rfl
theorem Tryd.cellsSEd : Tryd.prog.cellsOf 47 = 1 := by kernel_rfl
theorem Tryd.cellsGr : Tryd.prog.cellsOf 49 = 2 := by kernel_rfl
theorem opensEdge : Opens enc Tryd.prog w base spare held 132 edgeSh :=
  opens_struct Tryd.underlying132 Tryd.cellsEd (opensF_cons rfl Tryd.cellsGi (opens_int Tryd.underlying3) (opensF_cons rfl Tryd.cellsGi (opens_int Tryd.underlying3) (opensF_last rfl Tryd.cellsGi (opens_int Tryd.underlying3))))
theorem opensGraph : Opens enc Tryd.prog w base spare held 49 grSh :=
  opens_struct Tryd.underlying49 Tryd.cellsGr (opensF_cons rfl Tryd.cellsGi (opens_int Tryd.underlying3) (opensF_last rfl Tryd.cellsSEd (opens_sl Tryd.underlying47 Tryd.cellsEd (by decide) opensEdge)))

set_option maxRecDepth 100000 in
theorem open_graph {r : Reach} {b0 : Nat} {v : Value} {d : DataW H} {p : List MemPlace} (hv : Value.okWide Tryd.prog w r b0 49 v) (h : DataW.Trod enc Tryd.prog w base spare held 49 v d p) :
    ∃ N A n c es, v = .agg #[.int .i64 N, .slice A n c] ∧ GrIn w N A n es := by
  obtain ⟨cs, rfl, _⟩ := Go.WideShapes.okWide_struct Tryd.underlying49 hv
  obtain ⟨fuel, hf⟩ := h
  obtain ⟨x, hx⟩ := opensGraph _ _ _ hf
  obtain ⟨N, A, n, c, es, he, hi⟩ := hx.graph (Nat.le_refl _)
  refine ⟨N, A, n, c, es, ?_, hi⟩
  have : cs.toList = [.int .i64 N, .slice A n c] := by simpa [Value.cells] using he
  cases cs
  simp only at this
  rw [this]
end
end Go.Proofs.YtmbabbapcjphgaaDoor
namespace Go.Proofs.YtmbabbapcjphgaaDoor
open Go.RowKit

section
variable {w w' : World} {lo n c : Nat} {A : Option Addr} {xs : List Int}
theorem OwI.cnt (h : OwI w lo A n c xs) : n = xs.length := by have := h.1; rw [vi_len] at this; omega
theorem OwI.below (h : OwI w lo A n c xs) (hb : Below w.heap.size w w') : OwI w' lo A n c xs := own_below h hb
theorem OwI.rd (h : OwI w lo A n c xs) : SlI w A n xs := SlI.of_own h
end
theorem degsOf_len (key : GE → Int) (N : Int) (es : List GE) : (degsOf key N es).length ≤ 150 := by
  unfold degsOf
  split
  · rename_i h
    have := graphB_iff h
    rw [degs_len]
    omega
  · simp
/-- The law's own graph: its box and its edges. -/
structure XBox (w : World) (lo b : Nat) (N : Int) (A : Option Addr) (n c : Nat) (es : List GE) : Prop where
  box : NBox w b N A n c
  own : w.ownsRow lo 45 3 (.slice A n c) n (es.flatMap GE.cells)
theorem XBox.below {w w' : World} {lo b n c : Nat} {N : Int} {A : Option Addr} {es : List GE} (h : XBox w lo b N A n c es) (hb : Below w.heap.size w w') : XBox w' lo b N A n c es := ⟨h.box.below hb, own_below h.own hb⟩
end Go.Proofs.YtmbabbapcjphgaaDoor
namespace Go.Proofs.YtmbabbapcjphgaaDoor
open Go.RowKit

theorem i_reads (w : World) (u : Value) (t : TypeId) (g : Nat) (hg : g = w.heap.size) : Reads (w.alloc (.cells #[u] t)) (g + 1) 1 (some ⟨g, 0, none⟩) 1 [u] := by
  subst hg
  refine ⟨rfl, fun _ => ⟨_, rfl, by simp, fun j x hj => ?_⟩⟩
  match j, hj with
  | 0, hj => simp at hj; subst hj; simp [Addr.add]
theorem i_built (w : World) : (w.alloc (.cells #[] 3)).ownsRow w.heap.size 3 1 (.slice (some ⟨w.heap.size, 0, none⟩) 0 0) 0 [] :=
  World.ownsRow_lit w #[] 0 (Nat.le_refl _) (by unfold maxLen; omega) rfl
theorem i_form {w : World} {base e size n : Nat} {v : Value} {xs : List Value} (h : w.ownsRow base e size v n xs) : ∃ A c, v = .slice A n c := by
  rcases h.2 with ⟨rfl, rfl⟩ | ⟨g, cap, _, rfl, _⟩
  · exact ⟨_, _, rfl⟩
  · exact ⟨_, _, rfl⟩
theorem i_one (x : Int) : ∀ u ∈ [Value.int .i64 x], u.oneCell' = true := by
  intro u hu
  simp at hu
  subst hu
  rfl
theorem vi_snoc (xs : List Int) (x : Int) : vi (xs ++ [x]) = vi xs ++ [.int .i64 x] := by rw [vi_append]; rfl
def MadeV (w : World) (xs : List Int) (e : Ending) (w' : World) : Prop :=
  ∃ A n c, e = .returned (.slice A n c) ∧ OwI w' w.heap.size A n c xs ∧ Below w.heap.size w w'

theorem cutR_no {N : Int} {es : List GE} {b : Int} (h : graphB N es = false ∨ b < 1 ∨ 400 < b) : cutR N es b = [] := by
  unfold cutR
  rw [if_neg]
  rintro ⟨h1, h2, h3⟩
  rcases h with h | h | h
  · rw [h1] at h; cases h
  · omega
  · omega
theorem cutR_yes {N : Int} {es : List GE} {b : Int} (h : graphB N es = true) (h1 : 1 ≤ b) (h2 : b ≤ 400) : cutR N es b = cutFrom b 0 (degsOf GE.t N es) := by
  unfold cutR degsOf
  rw [if_pos ⟨h, h1, h2⟩, if_pos h]

end Go.Proofs.YtmbabbapcjphgaaDoor
