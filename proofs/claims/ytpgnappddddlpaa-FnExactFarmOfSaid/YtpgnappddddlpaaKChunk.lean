/- slices.Chunk over records: its iterator's contract for whatever loop body. Condition: at most 2^20 records, a size from 1 on. -/
import Derived.RangeFuncNested
import Derived.RangeFuncBound
import Derived.RangeFuncCalls
import Derived.RangeFuncLeaves
import Derived.RangeFuncBox
import Derived.Shelf.Abstract
import Derived.Shelf.RegionOpen
import Derived.WalkKit
import Derived.OwnWalkIn
import Derived.TacticsInMore
import Derived.LoopNIn
import Derived.LoopIn
import Derived.Sort.QuietIn
import Derived.Test.YtpgnappddddlpaaCOQ
namespace Go.Proofs.Ytpgnappddddlpaa
open Go.RowKit Go.Shelf
attribute [local go_sem] Oper.semAt_some

theorem rec_full {P : Option Addr} {n c l m : Nat} {es : List GE} {w : World} (hi : Int) (hr : SlG w P n es) (he : hi = (l : Int) + m) (hk : l + m ≤ n) (hc : n ≤ c) :
    ∃ P', (∀ W, (Instr.slice 148 (.slice P n c) (some (.int .i64 (l : Int))) (some (.int .i64 hi)) (some (.int .i64 hi))).run Try.prog W = .ok (.slice P' m m) W) ∧ SlG w P' m ((es.drop l).take m) := by
  refine ⟨if l + m = l then P else P.map (·.add (l * 3)), fun W => ?_, hr.piece hk _ (fun b off hb hm => ?_)⟩
  · rw [run_slice_lhm W _ _ _ _ recElem .i64 .i64 .i64 (l : Int) hi hi (by omega) (by omega) (by omega) (by omega), recElem', recSize, Int.toNat_natCast]
    have e : hi.toNat = l + m := by omega
    rw [e]
    show Result.ok (sliced P l (l + m) (l + m) 3) W = _
    unfold sliced
    rw [Nat.add_sub_cancel_left]
  · rw [if_neg (by omega), hb]
    simp [rec_add]

/-- A piece that is handed to the loop's body. -/
abbrev PcIn (wa : World) := { e : BE // SlG wa e.A e.n e.es ∧ e.n ≤ 1048576 ∧ 0 < e.n ∧ e.n ≤ e.c }
def piecesOf {wa : World} (ys : List (PcIn wa)) : List (List GE) := ys.map fun x => x.1.es
/-- What the loop's body may write: the caller's own box, and whatever is newer than the iterator's boxes. -/
abbrev KpC (wa w0 : World) : World → World → Prop := OnlyB (fun k => k = wa.heap.size ∨ w0.heap.size ≤ k)
/-- What the iterator reads between two rounds. -/
structure ChIn (wa w0 : World) (B1 B2 : Nat) (A : Option Addr) (n c : Nat) (es : List GE) (b : Nat) : Prop where
  d : SlG wa A n es
  le : n ≤ 1048576
  cap : n ≤ c
  b1 : 1 ≤ b
  b2 : b ≤ 9223372036854775807
  l1 : B1 < w0.heap.size
  l2 : B2 < w0.heap.size
  n1 : B1 ≠ wa.heap.size
  n2 : B2 ≠ wa.heap.size
  c1 : w0.cell? ⟨B1, 0, none⟩ = some (.slice A n c)
  c2 : w0.cell? ⟨B2, 0, none⟩ = some (.int .i64 (b : Int))
theorem OnlyB.cell0 {S : Nat → Prop} {w w' : World} (h : OnlyB S w w') {b : Nat} (hb : b < w.heap.size) (hn : ¬ S b) (i : Nat) : w'.cell? ⟨b, i, none⟩ = w.cell? ⟨b, i, none⟩ := by
  simp only [World.cell?, h.block b hb hn]
theorem OnlyB.drewN {S : Nat → Prop} {w w' : World} (h : OnlyB S w w') (k : Nat) : OnlyB S w (w'.drewN k) :=
  h.grown (row := none) (grownBy_drewN (World.grownBy.refl _ _) k) (fun i e => by cases e)
def chAll (b : Nat) (es : List GE) : List (List GE) := chunks b es.length es
theorem chAll_nil (b : Nat) : chAll b [] = [] := rfl
theorem chAll_step {b : Nat} (hb : 0 < b) {l : List GE} (h : 0 < l.length) : chAll b l = l.take b :: chAll b (l.drop b) := by
  obtain ⟨n, hn⟩ : ∃ n, l.length = n + 1 := ⟨l.length - 1, by omega⟩
  unfold chAll
  rw [hn, chunks, if_neg (by intro e; rw [e] at h; simp at h), chunks_fuel b hb n (l.drop b).length (l.drop b) (by rw [List.length_drop]; omega) (Nat.le_refl _)]
theorem chAll_more {b p q : Nat} (hb : 0 < b) {l : List GE} (hp : p < l.length) (hq : (q = b ∧ p + q ≤ l.length) ∨ (l.length - p ≤ b ∧ q = l.length - p)) : chAll b (l.drop p) = (l.drop p).take q :: chAll b (l.drop (p + b)) := by
  rw [chAll_step hb (by rw [List.length_drop]; omega), List.drop_drop]
  rcases hq with ⟨rfl, _⟩ | ⟨h1, rfl⟩
  · rfl
  · rw [List.take_of_length_le (by rw [List.length_drop]; omega), List.take_of_length_le (by rw [List.length_drop]; omega)]

set_option maxRecDepth 100000 in
set_option maxHeartbeats 4000000 in
theorem chunk1_in (F : Fence) (m : Nat) (hf : F.fn 172) (hro : F.round = none) (hm : 1 ≤ m) (l B1 B2 : Nat) (A : Option Addr) (n c : Nat) (es : List GE) (b : Nat) (wa w0 : World) (hI : ChIn wa w0 B1 B2 A n c es b) (J Jx : List (PcIn wa) → World → Prop) (W : World) (hab : AbidesFrom W.heap.size J)
    (hY : ∀ pre x W, J pre W → pre.length < 1048576 → YieldAt F (m - 1) Try.prog l #[.slice x.1.A x.1.n x.1.c] W fun e W' =>
      (e = .returned (.bool true) ∧ J (pre ++ [x]) W' ∧ KpC wa w0 W W') ∨ (e = .returned (.bool false) ∧ Jx (pre ++ [x]) W'))
    (hW : KpC wa w0 w0 W) (h0 : J [] W) :
    CallsIn F m Try.prog 172 #[.func (.yield l) #[] #[], .pointer (some ⟨B1, 0, none⟩), .pointer (some ⟨B2, 0, none⟩)] W fun e W' => (∃ v, e = .returned v) ∧
      ((∃ ys, piecesOf ys = chAll b es ∧ J ys W') ∨ (∃ pre, True ∧ Jx pre W')) := by
  have HI := Lib.hid hI
  have hn := hI.le
  have hb1 := hI.b1
  have hb2 := hI.b2
  have hl1 := hI.l1
  have hl2 := hI.l2
  have hn1 := hI.n1
  have hn2 := hI.n2
  clear hI
  rcases F with ⟨Ff, Fd, Fa, Fr⟩
  obtain rfl : Fr = none := hro
  have hmo : Try.prog.follows .mixedOrders = true := by kernel_rfl
  refine callsIn_of_wp Try.func172 rfl hf ?_ rfl
  simp only [Try.ntmps172, List.size_toArray, List.length_cons, List.length_nil, Nat.reduceAdd, Nat.reduceSub, Array.replicate_succ, Array.replicate_zero, List.push_toArray, List.append_toArray, List.nil_append, List.cons_append]
  gi_wp2
  gi_loopw [4] (fun v wr => ∃ (p : Nat) (pre : List (PcIn wa)), v = .int .i64 (p : Int) ∧ (p = 0 ∨ b ≤ p) ∧ p ≤ 9223372036854775807 ∧ (p < n → pre.length ≤ p) ∧ Hid (piecesOf pre ++ chAll b (es.drop p) = chAll b es) ∧ Hid (J pre wr) ∧ Hid (KpC wa w0 w0 wr)) (fun v _ => n - (intOf v).toNat)
  case atStart => exact ⟨0, [], rfl, .inl rfl, by omega, by simp, Lib.hid rfl, Lib.hid h0, Lib.hid hW⟩
  case round =>
    obtain ⟨p, pre, rfl, hpb, hpm, hpl, hall, hJ, hbel⟩ := hrel
    have d1 := (hbel.out.cell0 hl1 (by omega) 0).trans HI.out.c1
    have d2 := (hbel.out.cell0 hl2 (by omega) 0).trans HI.out.c2
    by_cases hlt : p < n
    · have hpl := hpl hlt
      obtain ⟨q, hq⟩ : ∃ q : Nat, q = min b (n - p) := ⟨_, rfl⟩
      have hq0 : 0 < q := by omega
      have hqn : p + q ≤ n := by omega
      have hpi : p + b ≤ 9223372036854775807 := by omega
      have hqq : (q = b ∧ p + q ≤ n) ∨ (n - p ≤ b ∧ q = n - p) := by omega
      obtain ⟨P0, hrun0, _⟩ := rec_from HI.out.d (k := p) (by omega) HI.out.cap
      obtain ⟨P', hrun, hsl⟩ := rec_full (l := p) (m := q) ((p : Int) + (q : Int)) HI.out.d rfl hqn HI.out.cap
      have hmin : (if n - p < b then ((n - p : Nat) : Int) else (b : Int)) = (q : Int) := by split <;> omega
      have HMORE := Lib.hid (chAll_more (b := b) (p := p) (q := q) (by omega) (l := es) (by rw [HI.out.d.len]; exact hlt) (by rw [HI.out.d.len]; exact hqq))
      have HX : SlG wa P' q ((es.drop p).take q) ∧ q ≤ 1048576 ∧ 0 < q ∧ q ≤ q := ⟨hsl, by omega, hq0, Nat.le_refl _⟩
      clear hq hqq hsl
      gi_wp2
      gi_region
      have hJ2 : J pre wr.drew := hab pre wr _ none hJ.out (grownBy_drewN (World.grownBy.refl _ _) 1) (fun r e => by cases e)
      have hk2 : KpC wa w0 w0 wr.drew := hbel.out.drewN 1
      obtain ⟨fn, tmps, assign, body, hy2, hR⟩ := hY pre ⟨⟨P', q, q, (es.drop p).take q⟩, HX⟩ _ hJ2 (by omega)
      gi_wp2
      refine hR.mono ?_
      rintro e W3 (⟨rfl, hJ3, hk3⟩ | ⟨rfl, hJx3⟩)
      · have d2 := ((hk2.trans hk3).cell0 hl2 (by omega) 0).trans HI.out.c2
        gi_wp2
        go_roundw
        case rel => exact ⟨p + b, pre ++ [⟨⟨P', q, q, (es.drop p).take q⟩, HX⟩], by go_num, .inr (by omega), by omega, by simp; omega, Lib.hid (by rw [← hall.out, HMORE.out, piecesOf, piecesOf, List.map_append, List.append_assoc]; rfl), Lib.hid hJ3, Lib.hid (hk2.trans hk3)⟩
        case measure => simp [intOf]; omega
      · gi_wp2
        refine bodyPost_ret (results_none rfl _ _ _) rfl ?_
        exact ⟨⟨_, rfl⟩, .inr ⟨_, trivial, hJx3⟩⟩
    · have HE := Lib.hid (hall.out)
      rw [List.drop_eq_nil_of_le (by rw [HI.out.d.len]; omega), chAll_nil, List.append_nil] at HE
      gi_wp2
      go_end0
      exact ⟨⟨_, rfl⟩, .inl ⟨_, HE.out, hJ.out⟩⟩

theorem chunk_stops (F : Fence) (m : Nat) (hf : F.fn 172) (hro : F.round = none) (hm : 1 ≤ m) (B1 B2 : Nat) (A : Option Addr) (n c : Nat) (es : List GE) (b : Nat) (wa w0 : World) (hI : ChIn wa w0 B1 B2 A n c es b) :
    SeqStopsK F m Try.prog 172 #[.pointer (some ⟨B1, 0, none⟩), .pointer (some ⟨B2, 0, none⟩)] (fun x : PcIn wa => #[Value.slice x.1.A x.1.n x.1.c]) (KpC wa w0) (fun ys => piecesOf ys = chAll b es) (fun _ => True) 1048576 w0 := fun l J Jx W hW hJ _ hY h0 =>
  chunk1_in F m hf hro hm l B1 B2 A n c es b wa w0 hI J Jx W hJ hY (OnlyB.below (OnlyB.refl _ _) hW) h0

set_option maxHeartbeats 1000000 in
/-- The records and the size are boxed; the function value captures both boxes. -/
theorem chunk_any (A : Option Addr) (n c b : Nat) (w : World) (hb : 1 ≤ b) :
    Calls Try.prog 165 #[.slice A n c, .int .i64 (b : Int)] w fun e w' => e = .returned (.func (.func 172) #[] #[.pointer (some ⟨w.heap.size, 0, none⟩), .pointer (some ⟨w.heap.size + 1, 0, none⟩)]) ∧ w' = (w.alloc (.cells #[.slice A n c] 148)).alloc (.cells #[.int .i64 (b : Int)] 3) := by
  go_enter Try.func165, Try.ntmps165
  go_wp2
  go_ret
  exact ⟨rfl, rfl⟩
end Go.Proofs.Ytpgnappddddlpaa
