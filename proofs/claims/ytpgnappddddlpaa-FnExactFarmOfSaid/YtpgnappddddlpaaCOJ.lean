/- slices.Chunk over records: its iterator's contract for whatever loop body. Condition: at most 2^20 records, a size from 1 on. // Records: the contract of the laws' helper that finds the marks. Condition: at most 2^21. // The contracts of the laws' helpers that compare lists of batches, write marks into them and look for the marks. Condition: at most 2^21 of each. // Batches of the call's own behind writings elsewhere; how small they are (plain lemmas over the model; no condition). // The contracts of cmp.Compare, cmp.Or and of the program's comparison of two records (no condition). // The contracts of slices.Clone and slices.SortFunc over records and of the program's SortOne. Condition: at most 2^21 records. // The contract of the program's Batches: slices.Chunk's pieces, each sorted. Condition: at most 2^20 records. // Plain mathematics of merging by positions: what is left of each batch, the batch whose first record goes next (no condition). // A block of cells that is known whole: see BlkB (no condition). -/
import Derived.RangeFuncNested
import Derived.RangeFuncBound
import Derived.RangeFuncCalls
import Derived.RangeFuncLeaves
import Derived.RangeFuncBox
import Derived.Shelf.Abstract
import Derived.Shelf.RegionOpen
import Derived.WalkKit
import Derived.OwnWalkIn
import Derived.TacticsInMore
import Derived.LoopNIn
import Derived.LoopIn
import Derived.Sort.QuietIn
import Derived.Test.YtpgnappddddlpaaCOH
import Derived.Test.YtpgnappddddlpaaCOI
import Derived.StillTailTactics
import Derived.Test.YtpgnappddddlpaaCOF
import Derived.Test.YtpgnappddddlpaaCOA
import Derived.Sort.Grow
import Derived.Test.YtpgnappddddlpaaShelfRec
import Derived.Shelf.SlSortCmp.WholeK
import Derived.Shelf.SlSortCmp.NoneTotal
import Derived.Lib.SliceRun
import Derived.Maps.AppendAt
namespace Go.Proofs.Ytpgnappddddlpaa
open Go.RowKit Go.Shelf
attribute [local go_sem] Oper.semAt_some

theorem rec_full {P : Option Addr} {n c l m : Nat} {es : List GE} {w : World} (hi : Int) (hr : SlG w P n es) (he : hi = (l : Int) + m) (hk : l + m ≤ n) (hc : n ≤ c) :
    ∃ P', (∀ W, (Instr.slice 148 (.slice P n c) (some (.int .i64 (l : Int))) (some (.int .i64 hi)) (some (.int .i64 hi))).run Try.prog W = .ok (.slice P' m m) W) ∧ SlG w P' m ((es.drop l).take m) := by
  refine ⟨if l + m = l then P else P.map (·.add (l * 3)), fun W => ?_, hr.piece hk _ (fun b off hb hm => ?_)⟩
  · rw [run_slice_lhm W _ _ _ _ recElem .i64 .i64 .i64 (l : Int) hi hi (by omega) (by omega) (by omega) (by omega), recElem', recSize, Int.toNat_natCast]
    have e : hi.toNat = l + m := by omega
    rw [e]
    show Result.ok (sliced P l (l + m) (l + m) 3) W = _
    unfold sliced
    rw [Nat.add_sub_cancel_left]
  · rw [if_neg (by omega), hb]
    simp [rec_add]

/-- A piece that is handed to the loop's body. -/
abbrev PcIn (wa : World) := { e : BE // SlG wa e.A e.n e.es ∧ e.n ≤ 1048576 ∧ 0 < e.n ∧ e.n ≤ e.c }
def piecesOf {wa : World} (ys : List (PcIn wa)) : List (List GE) := ys.map fun x => x.1.es
/-- What the loop's body may write: the caller's own box, and whatever is newer than the iterator's boxes. -/
abbrev KpC (wa w0 : World) : World → World → Prop := OnlyB (fun k => k = wa.heap.size ∨ w0.heap.size ≤ k)
/-- What the iterator reads between two rounds. -/
structure ChIn (wa w0 : World) (B1 B2 : Nat) (A : Option Addr) (n c : Nat) (es : List GE) (b : Nat) : Prop where
  d : SlG wa A n es
  le : n ≤ 1048576
  cap : n ≤ c
  b1 : 1 ≤ b
  b2 : b ≤ 9223372036854775807
  l1 : B1 < w0.heap.size
  l2 : B2 < w0.heap.size
  n1 : B1 ≠ wa.heap.size
  n2 : B2 ≠ wa.heap.size
  c1 : w0.cell? ⟨B1, 0, none⟩ = some (.slice A n c)
  c2 : w0.cell? ⟨B2, 0, none⟩ = some (.int .i64 (b : Int))
theorem OnlyB.cell0 {S : Nat → Prop} {w w' : World} (h : OnlyB S w w') {b : Nat} (hb : b < w.heap.size) (hn : ¬ S b) (i : Nat) : w'.cell? ⟨b, i, none⟩ = w.cell? ⟨b, i, none⟩ := by
  simp only [World.cell?, h.block b hb hn]
theorem OnlyB.drewN {S : Nat → Prop} {w w' : World} (h : OnlyB S w w') (k : Nat) : OnlyB S w (w'.drewN k) :=
  h.grown (row := none) (grownBy_drewN (World.grownBy.refl _ _) k) (fun i e => by cases e)
def chAll (b : Nat) (es : List GE) : List (List GE) := chunks b es.length es
theorem chAll_nil (b : Nat) : chAll b [] = [] := rfl
theorem chAll_step {b : Nat} (hb : 0 < b) {l : List GE} (h : 0 < l.length) : chAll b l = l.take b :: chAll b (l.drop b) := by
  obtain ⟨n, hn⟩ : ∃ n, l.length = n + 1 := ⟨l.length - 1, by omega⟩
  unfold chAll
  rw [hn, chunks, if_neg (by intro e; rw [e] at h; simp at h), chunks_fuel b hb n (l.drop b).length (l.drop b) (by rw [List.length_drop]; omega) (Nat.le_refl _)]
theorem chAll_more {b p q : Nat} (hb : 0 < b) {l : List GE} (hp : p < l.length) (hq : (q = b ∧ p + q ≤ l.length) ∨ (l.length - p ≤ b ∧ q = l.length - p)) : chAll b (l.drop p) = (l.drop p).take q :: chAll b (l.drop (p + b)) := by
  rw [chAll_step hb (by rw [List.length_drop]; omega), List.drop_drop]
  rcases hq with ⟨rfl, _⟩ | ⟨h1, rfl⟩
  · rfl
  · rw [List.take_of_length_le (by rw [List.length_drop]; omega), List.take_of_length_le (by rw [List.length_drop]; omega)]

set_option maxRecDepth 100000 in
set_option maxHeartbeats 4000000 in
theorem chunk1_in (F : Fence) (m : Nat) (hf : F.fn 172) (hro : F.round = none) (hm : 1 ≤ m) (l B1 B2 : Nat) (A : Option Addr) (n c : Nat) (es : List GE) (b : Nat) (wa w0 : World) (hI : ChIn wa w0 B1 B2 A n c es b) (J Jx : List (PcIn wa) → World → Prop) (W : World) (hab : AbidesFrom W.heap.size J)
    (hY : ∀ pre x W, J pre W → pre.length < 1048576 → YieldAt F (m - 1) Try.prog l #[.slice x.1.A x.1.n x.1.c] W fun e W' =>
      (e = .returned (.bool true) ∧ J (pre ++ [x]) W' ∧ KpC wa w0 W W') ∨ (e = .returned (.bool false) ∧ Jx (pre ++ [x]) W'))
    (hW : KpC wa w0 w0 W) (h0 : J [] W) :
    CallsIn F m Try.prog 172 #[.func (.yield l) #[] #[], .pointer (some ⟨B1, 0, none⟩), .pointer (some ⟨B2, 0, none⟩)] W fun e W' => (∃ v, e = .returned v) ∧
      ((∃ ys, piecesOf ys = chAll b es ∧ J ys W') ∨ (∃ pre, True ∧ Jx pre W')) := by
  have HI := Lib.hid hI
  have hn := hI.le
  have hb1 := hI.b1
  have hb2 := hI.b2
  have hl1 := hI.l1
  have hl2 := hI.l2
  have hn1 := hI.n1
  have hn2 := hI.n2
  clear hI
  rcases F with ⟨Ff, Fd, Fa, Fr⟩
  obtain rfl : Fr = none := hro
  have hmo : Try.prog.follows .mixedOrders = true := by kernel_rfl
  refine callsIn_of_wp Try.func172 rfl hf ?_ rfl
  simp only [Try.ntmps172, List.size_toArray, List.length_cons, List.length_nil, Nat.reduceAdd, Nat.reduceSub, Array.replicate_succ, Array.replicate_zero, List.push_toArray, List.append_toArray, List.nil_append, List.cons_append]
  gi_wp2
  gi_loopw [4] (fun v wr => ∃ (p : Nat) (pre : List (PcIn wa)), v = .int .i64 (p : Int) ∧ (p = 0 ∨ b ≤ p) ∧ p ≤ 9223372036854775807 ∧ (p < n → pre.length ≤ p) ∧ Hid (piecesOf pre ++ chAll b (es.drop p) = chAll b es) ∧ Hid (J pre wr) ∧ Hid (KpC wa w0 w0 wr)) (fun v _ => n - (intOf v).toNat)
  case atStart => exact ⟨0, [], rfl, .inl rfl, by omega, by simp, Lib.hid rfl, Lib.hid h0, Lib.hid hW⟩
  case round =>
    obtain ⟨p, pre, rfl, hpb, hpm, hpl, hall, hJ, hbel⟩ := hrel
    have d1 := (hbel.out.cell0 hl1 (by omega) 0).trans HI.out.c1
    have d2 := (hbel.out.cell0 hl2 (by omega) 0).trans HI.out.c2
    by_cases hlt : p < n
    · have hpl := hpl hlt
      obtain ⟨q, hq⟩ : ∃ q : Nat, q = min b (n - p) := ⟨_, rfl⟩
      have hq0 : 0 < q := by omega
      have hqn : p + q ≤ n := by omega
      have hpi : p + b ≤ 9223372036854775807 := by omega
      have hqq : (q = b ∧ p + q ≤ n) ∨ (n - p ≤ b ∧ q = n - p) := by omega
      obtain ⟨P0, hrun0, _⟩ := rec_from HI.out.d (k := p) (by omega) HI.out.cap
      obtain ⟨P', hrun, hsl⟩ := rec_full (l := p) (m := q) ((p : Int) + (q : Int)) HI.out.d rfl hqn HI.out.cap
      have hmin : (if n - p < b then ((n - p : Nat) : Int) else (b : Int)) = (q : Int) := by split <;> omega
      have HMORE := Lib.hid (chAll_more (b := b) (p := p) (q := q) (by omega) (l := es) (by rw [HI.out.d.len]; exact hlt) (by rw [HI.out.d.len]; exact hqq))
      have HX : SlG wa P' q ((es.drop p).take q) ∧ q ≤ 1048576 ∧ 0 < q ∧ q ≤ q := ⟨hsl, by omega, hq0, Nat.le_refl _⟩
      clear hq hqq hsl
      gi_wp2
      gi_region
      have hJ2 : J pre wr.drew := hab pre wr _ none hJ.out (grownBy_drewN (World.grownBy.refl _ _) 1) (fun r e => by cases e)
      have hk2 : KpC wa w0 w0 wr.drew := hbel.out.drewN 1
      obtain ⟨fn, tmps, assign, body, hy2, hR⟩ := hY pre ⟨⟨P', q, q, (es.drop p).take q⟩, HX⟩ _ hJ2 (by omega)
      gi_wp2
      refine hR.mono ?_
      rintro e W3 (⟨rfl, hJ3, hk3⟩ | ⟨rfl, hJx3⟩)
      · have d2 := ((hk2.trans hk3).cell0 hl2 (by omega) 0).trans HI.out.c2
        gi_wp2
        go_roundw
        case rel => exact ⟨p + b, pre ++ [⟨⟨P', q, q, (es.drop p).take q⟩, HX⟩], by go_num, .inr (by omega), by omega, by simp; omega, Lib.hid (by rw [← hall.out, HMORE.out, piecesOf, piecesOf, List.map_append, List.append_assoc]; rfl), Lib.hid hJ3, Lib.hid (hk2.trans hk3)⟩
        case measure => simp [intOf]; omega
      · gi_wp2
        refine bodyPost_ret (results_none rfl _ _ _) rfl ?_
        exact ⟨⟨_, rfl⟩, .inr ⟨_, trivial, hJx3⟩⟩
    · have HE := Lib.hid (hall.out)
      rw [List.drop_eq_nil_of_le (by rw [HI.out.d.len]; omega), chAll_nil, List.append_nil] at HE
      gi_wp2
      go_end0
      exact ⟨⟨_, rfl⟩, .inl ⟨_, HE.out, hJ.out⟩⟩

theorem chunk_stops (F : Fence) (m : Nat) (hf : F.fn 172) (hro : F.round = none) (hm : 1 ≤ m) (B1 B2 : Nat) (A : Option Addr) (n c : Nat) (es : List GE) (b : Nat) (wa w0 : World) (hI : ChIn wa w0 B1 B2 A n c es b) :
    SeqStopsK F m Try.prog 172 #[.pointer (some ⟨B1, 0, none⟩), .pointer (some ⟨B2, 0, none⟩)] (fun x : PcIn wa => #[Value.slice x.1.A x.1.n x.1.c]) (KpC wa w0) (fun ys => piecesOf ys = chAll b es) (fun _ => True) 1048576 w0 := fun l J Jx W hW hJ _ hY h0 =>
  chunk1_in F m hf hro hm l B1 B2 A n c es b wa w0 hI J Jx W hJ hY (OnlyB.below (OnlyB.refl _ _) hW) h0

set_option maxHeartbeats 1000000 in
/-- The records and the size are boxed; the function value captures both boxes. -/
theorem chunk_any (A : Option Addr) (n c b : Nat) (w : World) (hb : 1 ≤ b) :
    Calls Try.prog 165 #[.slice A n c, .int .i64 (b : Int)] w fun e w' => e = .returned (.func (.func 172) #[] #[.pointer (some ⟨w.heap.size, 0, none⟩), .pointer (some ⟨w.heap.size + 1, 0, none⟩)]) ∧ w' = (w.alloc (.cells #[.slice A n c] 148)).alloc (.cells #[.int .i64 (b : Int)] 3) := by
  go_enter Try.func165, Try.ntmps165
  go_wp2
  go_ret
  exact ⟨rfl, rfl⟩
end Go.Proofs.Ytpgnappddddlpaa
namespace Go.Proofs.Ytpgnappddddlpaa
open Go.RowKit

end Go.Proofs.Ytpgnappddddlpaa
namespace Go.Proofs.Ytpgnappddddlpaa
open Go.RowKit

/-! ### marks -/
def markT : Nat → List BE → List BE
  | _, [] => []
  | k, e :: r => ⟨e.A, e.n, e.c, markG k e.es⟩ :: markT (k + 3 * e.n) r
def endT : Nat → List BE → Nat
  | k, [] => k
  | k, e :: r => endT (k + 3 * e.n) r
theorem markT_append : ∀ (xs ys : List BE) (k : Nat), markT k (xs ++ ys) = markT k xs ++ markT (endT k xs) ys
  | [], _, _ => rfl
  | x :: r, ys, k => by simp [markT, endT, markT_append r ys]
theorem endT_append : ∀ (xs ys : List BE) (k : Nat), endT k (xs ++ ys) = endT (endT k xs) ys
  | [], _, _ => rfl
  | x :: r, ys, k => by simp [endT, endT_append r ys]
theorem endT_le : ∀ (xs : List BE) (k : Nat), k ≤ endT k xs
  | [], _ => Nat.le_refl _
  | x :: r, k => by
    have := endT_le r (k + 3 * x.n)
    simp only [endT]
    omega
theorem markT_len : ∀ (xs : List BE) (k : Nat), (markT k xs).length = xs.length
  | [], _ => rfl
  | x :: r, k => by simp [markT, markT_len r]
theorem markT_cells : ∀ (xs : List BE) (k : Nat), (markT k xs).flatMap BE.cells = xs.flatMap BE.cells
  | [], _ => rfl
  | x :: r, k => by simp [markT, markT_cells r, BE.cells]
def sumN (bs : List BE) : Nat := (bs.map BE.n).sum
theorem endT_sum : ∀ (xs : List BE) (k : Nat), endT k xs = k + 3 * sumN xs
  | [], k => by simp [endT, sumN]
  | x :: r, k => by
    rw [endT, endT_sum r]
    simp only [sumN, List.map_cons, List.sum_cons]
    omega
def blkT (bs : List BE) (b : Nat) : Prop := ∃ e ∈ bs, e.v.ownBlock = some b
def MarkedT (w : World) (lo kk k : Nat) (A : Option Addr) (n c : Nat) (bs : List BE) (e : Ending) (w' : World) : Prop :=
  e = .returned (.int .i64 (kk : Int)) ∧ OwnT w' lo A n c (markT k bs) ∧ OnlyB (blkT bs) w w'

end Go.Proofs.Ytpgnappddddlpaa
namespace Go.Proofs.Ytpgnappddddlpaa
open Go.RowKit

section
variable {w w' w0 : World} {n c lo lo0 lo1 : Nat} {A : Option Addr} {bs : List BE}
/-- Where each row lay when the batches were made. -/
theorem OwnT.blocks (h : OwnT w0 lo0 A n c bs) : (∀ k, (Value.slice A n c).ownBlock = some k → lo0 ≤ k ∧ k < w0.heap.size) ∧ ∀ d ∈ bs, ∀ k, d.v.ownBlock = some k → lo0 ≤ k ∧ k < w0.heap.size :=
  ⟨h.row.lt, fun d hd => (h.dat.own d hd).lt⟩
theorem OwnT.other {row : Option Nat} (h : OwnT w lo A n c bs) (h0 : OwnT w0 lo0 A n c bs) (hg : w.grownBy w' row) (hne : ∀ k, row = some k → ¬ (lo0 ≤ k ∧ k < w0.heap.size)) : OwnT w' lo A n c bs :=
  ⟨h.row.kept hg (ne_of_lt h0.blocks.1 hne), h.len, h.dat.kept hg (fun d hd => ne_of_lt (h0.blocks.2 d hd) hne)⟩
theorem OwnT.only {S : Nat → Prop} (h : OwnT w lo A n c bs) (h0 : OwnT w0 lo0 A n c bs) (hg : OnlyB S w w') (hne : ∀ k, S k → ¬ (lo0 ≤ k ∧ k < w0.heap.size)) : OwnT w' lo A n c bs :=
  ⟨hg.own h.row (fun k hk hs => hne k hs (h0.blocks.1 k hk)), h.len, fun d hd => hg.own (h.dat.own d hd) (fun k hk hs => hne k hs (h0.blocks.2 d hd k hk)), h.dat.len, h.dat.apart⟩
theorem OwnT.blk (h : OwnT w lo A n c bs) {k : Nat} (hk : blkT bs k) : lo ≤ k ∧ k < w.heap.size := by
  obtain ⟨d, hd, e⟩ := hk
  exact (h.dat.own d hd).lt k e
theorem total_sum {ls : List (List GE)} (hx : bs.map BE.es = ls) (hl : ∀ d ∈ bs, d.es.length = d.n) : sumN bs = totalR ls := by
  subst hx
  unfold sumN totalR
  rw [List.map_map]
  congr 1
  exact List.map_congr_left (fun d hd => (hl d hd).symm)
structure BatSmall (M n : Nat) (bs : List BE) (ls : List (List GE)) : Prop where
  c : n ≤ M
  e : ∀ d ∈ bs, d.n ≤ M
  s : endT 1 bs ≤ 1 + 3 * M
  q : endT 1 bs = 1 + 3 * totalR ls
  k : n = ls.length
  l : ∀ d ∈ bs, d.es.length = d.n
theorem OwnT.small {M : Nat} {ls : List (List GE)} (h : OwnT w lo A n c bs) (hx : bs.map BE.es = ls) (h1 : ls.length ≤ M) (h2 : totalR ls ≤ M) : BatSmall M n bs ls := by
  have e1 := total_sum hx h.dat.len
  have e2 : n = ls.length := by rw [← h.len, ← hx, List.length_map]
  refine ⟨by omega, fun d hd => ?_, by rw [endT_sum]; omega, by rw [endT_sum, e1], e2, h.dat.len⟩
  have := mem_sum (List.mem_map_of_mem (f := BE.n) hd)
  unfold sumN at e1
  omega
end
theorem batchesZ_len (b : Int) (es : List GE) : (batchesZ b es).length ≤ es.length := by
  by_cases h : b < 1
  · rw [batchesZ_no h]; exact Nat.zero_le _
  · rw [batchesZ_yes (by omega)]
    exact count_batches (by omega) _ es (Nat.le_refl _)
theorem batchesZ_total (b : Int) (es : List GE) : totalR (batchesZ b es) ≤ es.length := by
  by_cases h : b < 1
  · rw [batchesZ_no h]; exact Nat.zero_le _
  · rw [batchesZ_yes (by omega), total_batches (by omega)]
    exact Nat.le_refl _
end Go.Proofs.Ytpgnappddddlpaa
namespace Go.Proofs.Ytpgnappddddlpaa
open Go.RowKit Go.Sort

def cmpI (a b : Int) : Int := if a < b then -1 else if b < a then 1 else 0
def orI : List Int → Int
  | [] => 0
  | x :: r => if x = 0 then orI r else x
def cmpR (x y : GE) : Int := orI [cmpI x.f y.f, cmpI x.t y.t, cmpI x.w y.w]
theorem cmpI_lt (a b : Int) : cmpI a b < 0 ↔ a < b := by unfold cmpI; split <;> (try split) <;> omega
theorem cmpI_eq (a b : Int) : cmpI a b = 0 ↔ a = b := by unfold cmpI; split <;> (try split) <;> omega
theorem cmpR_lt (x y : GE) : cmpR x y < 0 ↔ lessR x y = true := by
  rw [lessR_iff]
  unfold cmpR orI orI orI orI
  have h1 := cmpI_lt x.f y.f
  have h2 := cmpI_lt x.t y.t
  have h3 := cmpI_lt x.w y.w
  have e1 := cmpI_eq x.f y.f
  have e2 := cmpI_eq x.t y.t
  have e3 := cmpI_eq x.w y.w
  split
  · split
    · split <;> omega
    · omega
  · omega
theorem cmpR_less (x y : GE) : decide (cmpR x y < 0) = lessR x y := by
  rw [Bool.eq_iff_iff, decide_eq_true_iff]
  exact cmpR_lt x y

theorem nan_any (a : Int) (w : World) : Calls Try.prog 175 #[.int .i64 a] w fun e w' => e = .returned (.bool false) ∧ w' = w := by
  have h : (a != a) = false := by simp
  go_enter Try.func175, Try.ntmps175
  go_wp2
  go_ret
  exact ⟨by simp, rfl⟩
theorem cmpI_any (a b : Int) (w : World) : Calls Try.prog 168 #[.int .i64 a, .int .i64 b] w fun e w' => e = .returned (.int .i64 (cmpI a b)) ∧ w' = w := by
  obtain ⟨r, hr⟩ : ∃ r, cmpI a b = r := ⟨_, rfl⟩
  have HR := Lib.hid hr
  rw [hr]
  clear hr
  by_cases h1 : a < b
  · have hr : r = -1 := by rw [← HR.out]; unfold cmpI; rw [if_pos h1]
    subst hr
    go_enter Try.func168, Try.ntmps168
    go_wp2_with (go_at_call 175; refine (nan_any _ _).mono ?_; rintro e w' ⟨rfl, rfl⟩)
    go_ret
    exact ⟨rfl, rfl⟩
  · by_cases h2 : b < a
    · have hr : r = 1 := by rw [← HR.out]; unfold cmpI; rw [if_neg h1, if_pos h2]
      subst hr
      go_enter Try.func168, Try.ntmps168
      go_wp2_with (go_at_call 175; refine (nan_any _ _).mono ?_; rintro e w' ⟨rfl, rfl⟩)
      go_ret
      exact ⟨rfl, rfl⟩
    · have hr : r = 0 := by rw [← HR.out]; unfold cmpI; rw [if_neg h1, if_neg h2]
      subst hr
      go_enter Try.func168, Try.ntmps168
      go_wp2_with (go_at_call 175; refine (nan_any _ _).mono ?_; rintro e w' ⟨rfl, rfl⟩)
      go_ret
      exact ⟨rfl, rfl⟩

theorem orI_skip {xs : List Int} {k : Nat} (h : xs[k]? = some 0) (e : orI (xs.drop k) = orI xs) : orI (xs.drop (k + 1)) = orI xs := by
  obtain ⟨hk, hx⟩ := List.getElem?_eq_some_iff.1 h
  rw [List.drop_eq_getElem_cons hk, hx, orI, if_pos rfl] at e
  exact e
theorem orI_hit {xs : List Int} {k : Nat} {x : Int} (h : xs[k]? = some x) (h0 : ¬ x = 0) (e : orI (xs.drop k) = orI xs) : orI xs = x := by
  obtain ⟨hk, hx⟩ := List.getElem?_eq_some_iff.1 h
  rw [List.drop_eq_getElem_cons hk, hx, orI, if_neg h0] at e
  exact e.symm
theorem orI_end {xs : List Int} {k : Nat} (h : xs.length ≤ k) (e : orI (xs.drop k) = orI xs) : orI xs = 0 := by
  rw [List.drop_eq_nil_of_le h] at e
  exact e.symm
theorem orI_any (A : Option Addr) (n c : Nat) (xs : List Int) (w : World) (hr : SlI w A n xs) (hn : n ≤ 1000) :
    Calls Try.prog 167 #[.slice A n c] w fun e w' => e = .returned (.int .i64 (orI xs)) ∧ w' = w := by
  have HR := Lib.hid hr
  have HL := Lib.hid hr.len
  clear hr
  go_enter Try.func167, Try.ntmps167
  go_wp2
  go_loop [8] (fun i => ∃ k : Nat, k ≤ n ∧ i = .int .i64 k ∧ Hid (orI (xs.drop k) = orI xs)) (fun i => n - (intOf i).toNat)
  case atStart => exact ⟨0, Nat.zero_le _, rfl, Lib.hid rfl⟩
  case round =>
    obtain ⟨k, hk, rfl, hd⟩ := hrel
    by_cases hlt : k < n
    · obtain ⟨b, off, x, rfl, hbw, he, c0⟩ := HR.out.at_ hlt
      by_cases hx : x = 0
      · subst hx
        have HD := Lib.hid (orI_skip he.out hd.out)
        go_wp2
        go_round
        case rel => exact ⟨k + 1, by omega, by go_num, HD⟩
        case measure => simp [intOf]; omega
      · have HD := Lib.hid (orI_hit he.out hx hd.out)
        have hx1 : (x == 0) = false := by simpa using hx
        have hx2 : (x != 0) = true := by simpa using hx
        go_wp2
        go_ret
        exact ⟨g_int HD.out.symm, rfl⟩
    · have HD := Lib.hid (orI_end (k := k) (by rw [HL.out]; omega) hd.out)
      go_wp2
      go_ret
      exact ⟨g_int HD.out.symm, rfl⟩

theorem three_lies (W : World) (r1 r2 r3 : Int) (t : TypeId) : SlI (W.alloc (.cells #[.int .i64 r1, .int .i64 r2, .int .i64 r3] t)) (some ⟨W.heap.size, 0, none⟩) 3 [r1, r2, r3] := by
  refine ⟨rfl, rfl, fun _ => ⟨_, _, rfl, by simp, fun j v hj => ?_⟩⟩
  match j, hj with
  | 0, hj => simp [vi] at hj; subst hj; simp
  | 1, hj => simp [vi] at hj; subst hj; simp
  | 2, hj => simp [vi] at hj; subst hj; simp

set_option maxRecDepth 100000 in
set_option maxHeartbeats 1000000 in
theorem cmpR_any (x y : GE) (w : World) :
    Calls Try.prog 159 #[.agg #[.int .i64 x.f, .int .i64 x.t, .int .i64 x.w], .agg #[.int .i64 y.f, .int .i64 y.t, .int .i64 y.w]] w fun e w' => e = .returned (.int .i64 (cmpR x y)) ∧ ∃ q os, w' = grow (w.drewN q) os := by
  have HC := Lib.hid (fun w' (h : SlI w' (some ⟨w.heap.size + 1 + 1, 0, none⟩) 3 [cmpI x.f y.f, cmpI x.t y.t, cmpI x.w y.w]) => orI_any (some ⟨w.heap.size + 1 + 1, 0, none⟩) 3 3 _ w' h (by omega))
  have HR : Hid (orI [cmpI x.f y.f, cmpI x.t y.t, cmpI x.w y.w] = cmpR x y) := Lib.hid rfl
  have K1 := Lib.hid (fun W => cmpI_any x.f y.f W)
  have K2 := Lib.hid (fun W => cmpI_any x.t y.t W)
  have K3 := Lib.hid (fun W => cmpI_any x.w y.w W)
  generalize cmpI x.f y.f = r1 at *
  generalize cmpI x.t y.t = r2 at *
  generalize cmpI x.w y.w = r3 at *
  go_enter Try.func159, Try.ntmps159
  go_wp2_with fail
  obtain ⟨W, hW⟩ : ∃ W : World, W = ((w.alloc (.cells #[.int .i64 x.f, .int .i64 x.t, .int .i64 x.w] 150)).alloc (.cells #[.int .i64 y.f, .int .i64 y.t, .int .i64 y.w] 150)).drew := ⟨_, rfl⟩
  have a0 : W.cell? ⟨w.heap.size, 0, none⟩ = some (.int .i64 x.f) := by rw [hW]; simp
  have a1 : W.cell? ⟨w.heap.size, 1, none⟩ = some (.int .i64 x.t) := by rw [hW]; simp
  have a2 : W.cell? ⟨w.heap.size, 2, none⟩ = some (.int .i64 x.w) := by rw [hW]; simp
  have b0 : W.cell? ⟨w.heap.size + 1, 0, none⟩ = some (.int .i64 y.f) := by rw [hW]; simp
  have b1 : W.cell? ⟨w.heap.size + 1, 1, none⟩ = some (.int .i64 y.t) := by rw [hW]; simp
  have b2 : W.cell? ⟨w.heap.size + 1, 2, none⟩ = some (.int .i64 y.w) := by rw [hW]; simp
  have hz : Hid (W.heap.size = w.heap.size + 1 + 1) := Lib.hid (by rw [hW]; simp)
  refine wp_region_still_tail 15 (by kernel_rfl) (by kernel_rfl) ?_
  simp only [List.take_succ_cons, List.take_zero, List.drop_succ_cons, List.drop_zero]
  change wpStill _ _ (World.drew _) _ _ _
  rw [← hW]
  change wpStill _ _ _ (fun a' => wpList _ _ _ _ a' (World.drew _)) _ _
  rw [← hW]
  have HW := Lib.hid hW
  clear hW
  repeat still_step
  still_call (K1.out _)
  repeat still_step
  still_call (K2.out _)
  repeat still_step
  still_call (K3.out _)
  refine wpStill_nil ?_
  rw [← hz.out] at HC
  have HL := Lib.hid (three_lies W r1 r2 r3 3)
  go_wp2_with (go_at_call 167; refine (HC.out _ HL.out).mono ?_; rintro e w' ⟨rfl, rfl⟩)
  go_ret
  refine ⟨g_int HR.out, 1, #[.cells #[.int .i64 x.f, .int .i64 x.t, .int .i64 x.w] 150, .cells #[.int .i64 y.f, .int .i64 y.t, .int .i64 y.w] 150, .cells #[.int .i64 r1, .int .i64 r2, .int .i64 r3] 3], ?_⟩
  rw [HW.out]
  simp only [alloc_eq_grow, drew_grow, grow_grow]
  rfl

theorem below_grow (w : World) (q : Nat) (os : Array Obj) : Below w.heap.size w (grow (w.drewN q) os) :=
  ⟨rfl, rfl, rfl, by rw [size_grow]; show w.heap.size ≤ w.heap.size + _; omega, fun k hk => heap_grow_old (w.drewN q) os hk⟩
theorem cmpR_num (x y : GE) (w : World) :
    Calls Try.prog 159 #[.agg #[.int .i64 x.f, .int .i64 x.t, .int .i64 x.w], .agg #[.int .i64 y.f, .int .i64 y.t, .int .i64 y.w]] w (GNum w (cmpR x y)) :=
  (cmpR_any x y w).mono fun _ _ ⟨he, q, os, hw⟩ => ⟨he, by rw [hw]; exact below_grow w q os⟩

set_option maxHeartbeats 400000 in
theorem implLess (x y : GE) (w : World) :
    Calls Try.prog 145 #[.agg #[.int .i64 x.f, .int .i64 x.t, .int .i64 x.w], .agg #[.int .i64 y.f, .int .i64 y.t, .int .i64 y.w]] w (GTell w (lessR x y)) := by
  have HC := Lib.hid (fun W => cmpR_num x y W)
  have HL := Lib.hid (cmpR_less x y)
  generalize cmpR x y = r at *
  go_enter Try.func145, Try.ntmps145
  go_wp2_with fail
  refine (HC.out _).mono ?_
  rintro e w1 ⟨rfl, hb⟩
  have HB := Lib.hid hb
  clear hb
  go_wp2
  go_ret
  exact ⟨g_bool HL.out, g_chain (below_a2 _ _ _) HB.out⟩

/-- No record from k on comes before its predecessor. -/
def upFrom (es : List GE) (k : Nat) : Prop := ∀ j, k ≤ j → ∀ x y, es[j]? = some x → es[j + 1]? = some y → lessR y x = false

end Go.Proofs.Ytpgnappddddlpaa
namespace Go.Proofs.Ytpgnappddddlpaa
open Go.RowKit Go.Sort Go.Shelf

instance : Inhabited GE := ⟨zeroG⟩
theorem rec_get! (d : List GE) (i : Nat) (h : i < d.length) : d.toArray[i]! = d[i] := by
  rw [getElem!_pos d.toArray i (by simpa using h)]
  simp
theorem flatK_is (d : List GE) : (flatK GE.cells 3 d.toArray).toList = d.flatMap GE.cells := by
  apply List.ext_getElem?
  intro t
  by_cases h : t < d.length * 3
  · have hd : t / 3 < d.length := by omega
    have e := flat_get GE.cells 3 GE.cells_len d (t / 3) (t % 3) d[t / 3] (List.getElem?_eq_getElem hd) (by omega)
    rw [show t / 3 * 3 + t % 3 = t by omega] at e
    have hz : t < (flatK GE.cells 3 d.toArray).size := by simpa using h
    rw [e, Array.getElem?_toList, Array.getElem?_eq_getElem hz, ← getElem!_pos (flatK GE.cells 3 d.toArray) t hz, get_flatK _ _ _ _ (by simpa using h), rec_get! d _ hd]
    have hr : t % 3 < (GE.cells d[t / 3]).length := by rw [GE.cells_len]; omega
    rw [List.getElem?_eq_getElem hr, getElem!_pos (GE.cells d[t / 3]) (t % 3) hr]
  · rw [List.getElem?_eq_none (by simp; omega), List.getElem?_eq_none (by rw [flat_len GE.cells 3 GE.cells_len]; omega)]

theorem ltOf_is (x y : GE) : ltOf cmpR x y = lessR x y := by
  unfold ltOf
  exact cmpR_less x y
theorem swo_cmp : SWO (ltOf cmpR) where
  irrefl x := by rw [ltOf_is, lessR_no]; omega
  trans x y z h1 h2 := by rw [ltOf_is, lessR_iff] at *; omega
  ntrans x y z h1 h2 := by rw [ltOf_is, lessR_no] at *; omega
theorem sort_is (l : List GE) (d' : Array GE) (hp : PermIn 0 l.toArray.size l.toArray d') (hs : SortedIn (ltOf cmpR) 0 l.toArray.size d') : d'.toList = sortR l := by
  obtain ⟨h1, _, h3⟩ := hp
  have hsz : d'.size = l.length := by simpa using h1
  have e1 : d'.extract 0 l.toArray.size = d' := by rw [← h1]; simp
  have e2 : l.toArray.extract 0 l.toArray.size = l.toArray := by simp
  rw [e1, e2] at h3
  refine sorted_is ?_ h3
  unfold SortedR
  rw [List.pairwise_iff_getElem]
  intro i j hi hj hij
  unfold leR
  have hi' : i < d'.size := by simpa using hi
  have hj' : j < d'.size := by simpa using hj
  have h := hs i j (Nat.zero_le _) hij (by rw [← h1]; exact hj')
  rw [ltOf_is, getElem!_pos d' i hi', getElem!_pos d' j hj'] at h
  simpa using h

/-! ### the row behind the sort -/
theorem heap_putV {w : World} {g n : Nat} {os : Array Obj} {cur : Array Value} {e : TypeId} {fr : Nat × Nat} (d : Array Value) (hb : w.heap[g]? = some (.cells cur e fr)) :
    (grow (putRow id (Sort.ahead w n) g 0 d) os).heap[g]? = some (.cells (putCells id 0 d cur) e fr) := by
  have hg : g < w.heap.size := (Array.getElem?_eq_some_iff.1 hb).1
  rw [heap_grow_old _ _ (by simpa using hg)]
  simp [putRow, mapBlock, Sort.ahead, Array.getElem?_modify, hb, onCells]
theorem grownBy_putV {w : World} {g n : Nat} {os : Array Obj} (d : Array Value) : w.grownBy (grow (putRow id (Sort.ahead w n) g 0 d) os) (some g) := by
  refine ⟨rfl, rfl, rfl, by simp, fun k hk hne => ?_⟩
  rw [heap_grow_old _ _ (by simpa using hk)]
  have : g ≠ k := fun e => hne (by rw [e])
  simp [putRow, mapBlock, Sort.ahead, Array.getElem?_modify, this]
theorem take_putV (cur : Array Value) (ts : Array Value) (h : ts.size ≤ cur.size) : (putCells id 0 ts cur).toList.take ts.size = ts.toList := by
  apply List.ext_getElem?
  intro j
  by_cases hj : j < ts.size
  · rw [List.getElem?_take_of_lt hj, Array.getElem?_toList]
    simp [putCells, hj, show j < cur.size by omega]
  · rw [List.getElem?_take_eq_none (by omega), List.getElem?_eq_none (by simp; omega)]

def SortedBy (w : World) (lo g n c : Nat) (es : List GE) (e : Ending) (w' : World) : Prop :=
  e = .returned (.tuple #[]) ∧ w'.ownsRow lo 150 3 (.slice (some ⟨g, 0, none⟩) n c) n ((sortR es).flatMap GE.cells) ∧ w.grownBy w' (some g)
theorem isAggRec (w : World) : (isAgg 150).run Try.prog w = .ok true w := by kernel_rfl
theorem sizeRec (w : World) : (Go.sizeOf 150).run Try.prog w = .ok 3 w := by kernel_rfl
theorem cmp_lays (blk off size : Nat) (w : World) : CmpLays Try.prog 159 #[] GE.cells 3 cmpR blk off size w :=
  fun _ _ _ _ x y => cmpR_any x y _
theorem cells_one (x : GE) : ∀ v ∈ GE.cells x, v.oneCell' = true := by
  intro v hv
  simp only [GE.cells, List.mem_cons, List.not_mem_nil, or_false] at hv
  rcases hv with rfl | rfl | rfl <;> rfl
theorem sortFunc_any (lo g n c : Nat) (es : List GE) (w : World) (ho : w.ownsRow lo 150 3 (.slice (some ⟨g, 0, none⟩) n c) n (es.flatMap GE.cells)) (hl : es.length = n) (hn : n ≤ 2097152) :
    Calls Try.prog 174 #[.slice (some ⟨g, 0, none⟩) n c, .func (.func 159) #[] #[]] w (SortedBy w lo g n c es) := by
  subst hl
  have hcs := ho.1
  rcases ho.2 with ⟨h, _⟩ | ⟨g', cap, cur, hv, hbase, hb, h1, h2, h3, h4⟩
  · cases h
  · injection hv with e1 _ e3
    injection e1 with e1
    injection e1 with e1
    subst e1 e3
    have hg : g < w.heap.size := (Array.getElem?_eq_some_iff.1 hb).1
    have hH : HoldsK GE.cells 3 w g 0 es.toArray := by
      intro t ht
      have ht' : t < es.length * 3 := by simpa using ht
      refine ⟨?_, by simp [World.frozen?, hb]⟩
      have e5 : (cur.toList.take (es.length * 3))[t]? = (es.flatMap GE.cells)[t]? := by rw [h4]
      rw [List.getElem?_take_of_lt ht', ← flatK_is, Array.getElem?_toList, Array.getElem?_toList] at e5
      simp only [World.cell?, hb, Nat.zero_add, Option.isSome_none, Bool.false_eq_true, if_false]
      rw [e5, Array.getElem?_eq_getElem ht, getElem!_pos (flatK GE.cells 3 es.toArray) t ht]
      rfl
    have eg : ∀ args w, (callFunc 159 args).run Try.prog w = .ok (.enter 159 args) w := enters_of Try.func159 (by kernel_rfl) rfl
    have hcon := AnyQ.slices_SortFunc Try.sortR 3 isAggRec sizeRec GE.cells GE.cells_len cells_one cmpR swo_cmp 159 #[] g 0 c es.toArray w eg (cmp_lays g 0 es.toArray.size w) hH hg (by simp; omega)
    refine hcon.mono ?_
    rintro e w' ⟨rfl, d', m, os, hp, hs, rfl⟩
    have hd := sort_is es d' hp hs
    have hsz : d'.size = es.length := by have := hp.1; simpa using this
    have hda : d' = (sortR es).toArray := by rw [← hd]
    refine ⟨rfl, ⟨?_, .inr ⟨g, c, _, rfl, hbase, heap_putV _ hb, h1, h2, ?_, ?_⟩⟩, grownBy_putV _⟩
    · rw [flat_len GE.cells 3 GE.cells_len, ← hd]
      simp [hsz]
    · simp [putCells, h3]
    · have hf : (flatK GE.cells 3 d').size = es.length * 3 := by rw [size_flatK, hsz]
      rw [← hf, take_putV _ _ (by rw [hf, h3]; omega), hda, flatK_is]

set_option maxRecDepth 10000 in
theorem cloneR (A : Option Addr) (n c : Nat) (es : List GE) (w : World) (hr : SlG w A n es) (hn : n ≤ 2097152) :
    Calls Try.prog 173 #[.slice A n c] w (RowRc w n es) := by
  obtain ⟨i0, hi, hz0, hz1, hz2⟩ := info_parts Try.infoRec
  have HONE := Lib.hid (rec_one es)
  rcases A with _ | a
  · obtain rfl : n = 0 := by
      rcases Nat.eq_zero_or_pos n with h | h
      · exact h
      · obtain ⟨_, _, h, _⟩ := hr.row.lies h
        cases h
    obtain rfl : es = [] := List.eq_nil_of_length_eq_zero hr.len
    have e1 := fun w : World => Lib.run_eql_slice_nil (P := Try.prog) w 148 150 none 0 c 0 0 Try.underlying148
    go_enter Try.func173, Try.ntmps173
    go_wp2
    go_ret
    exact ⟨none, 0, rfl, World.ownsRow_nil _ _ _ _, Below.refl _ _⟩
  · have e1 := fun w : World => Lib.run_eql_slice_nil (P := Try.prog) w 148 150 (some a) n c 0 0 Try.underlying148
    go_enter Try.func173, Try.ntmps173
    go_wp2_with (at_builtin; refine wpList_append_any _ rfl (.tmp 5) (.tmp 6) _ rfl w.heap.size 150 i0 _ 3 24 Try.underlying148 hi hz0 hz1 hz2 rfl (by omega) (.slice (some ⟨w.heap.size, 0, none⟩) 0 0) 0 [] rfl (rec_built w) w.heap.size (some a) n c (es.flatMap GE.cells) rfl (hr.row.reads.alloc (Nat.le_refl _) _) HONE.out (by simp only [maxLen]; omega) (by omega) (by simp) ?_; intro v1 w1 hown1 hg1 hat1)
    obtain ⟨A1, c1, rfl⟩ := rec_form hown1
    go_ret
    exact ⟨A1, c1, by simp, by simpa using hown1, rec_below hg1⟩

theorem sortR_nil : sortR [] = [] := rfl
set_option maxRecDepth 10000 in
theorem implSortOne (A : Option Addr) (n c : Nat) (es : List GE) (w : World) (hr : SlG w A n es) (hn : n ≤ 2097152) :
    Calls Try.prog 166 #[.slice A n c] w (RowRc w n (sortR es)) := by
  have HC := Lib.hid (cloneR A n c es w hr hn)
  have HL := Lib.hid hr.len
  clear hr
  rcases Nat.eq_zero_or_pos n with rfl | hpos
  · have HS := Lib.hid (fun (p : Option Addr) (q : Nat) (W : World) => AnyF.slices_SortFunc_none (P := Try.prog) (ρ := Try.sortR_ren) { Try.sortR with } p q (.func (.func 159) #[] #[]) W)
    have HE : Hid (es = []) := Lib.hid (List.eq_nil_of_length_eq_zero HL.out)
    go_enter Try.func166, Try.ntmps166
    go_wp2_with fail
    refine HC.out.mono ?_
    rintro e w1 ⟨A1, c1, rfl, ho1, hb1⟩
    have HO := Lib.hid ho1
    have HB := Lib.hid hb1
    clear ho1 hb1
    go_wp2_with fail
    refine (HS.out A1 c1 _).mono ?_
    rintro e w2 ⟨rfl, rfl⟩
    go_wp2
    go_ret
    exact ⟨A1, c1, rfl, by rw [HE.out, sortR_nil, ← HE.out]; exact HO.out, HB.out⟩
  · go_enter Try.func166, Try.ntmps166
    go_wp2_with fail
    refine HC.out.mono ?_
    rintro e w1 ⟨A1, c1, rfl, ho1, hb1⟩
    obtain ⟨g, rfl⟩ := g_own_at ho1 hpos
    have HB := Lib.hid hb1
    have HG := Lib.hid ((ho1.lt g rfl).1)
    have HS := Lib.hid (sortFunc_any w.heap.size g n c1 es w1 ho1 HL.out hn)
    clear ho1 hb1
    go_wp2_with fail
    refine HS.out.mono ?_
    rintro e w2 ⟨rfl, ho2, hg2⟩
    have HO := Lib.hid ho2
    have HB2 := Lib.hid (HB.out.grown hg2 HB.out.size (fun j hj => by injection hj with hj; rw [← hj]; exact HG.out))
    clear ho2 hg2
    go_wp2
    go_ret
    exact ⟨_, c1, rfl, HO.out, HB2.out⟩
end Go.Proofs.Ytpgnappddddlpaa
namespace Go.Proofs.Ytpgnappddddlpaa
open Go.RowKit Go.Shelf
attribute [local go_sem] Oper.semAt_some

theorem own_ne {w : World} {lo e size n : Nat} {v : Value} {xs : List Value} {row : Option Nat} (h : w.ownsRow lo e size v n xs) (hr : ∀ r, row = some r → ∃ o : Obj, w.heap[r]? = some o ∧ o.isCells = false) : v.ownBlock = none ∨ v.ownBlock ≠ row := by
  rcases h.2 with ⟨rfl, _⟩ | ⟨g, cap, cur, rfl, _, hg, _⟩
  · exact .inl rfl
  · refine .inr (fun e => ?_)
    obtain ⟨o, ho, hc⟩ := hr g e.symm
    rw [hg] at ho
    cases ho
    cases hc
theorem OwnT.quiet {w w' : World} {lo n c : Nat} {A : Option Addr} {bs : List BE} {row : Option Nat} (h : OwnT w lo A n c bs) (hg : w.grownBy w' row) (hr : ∀ r, row = some r → ∃ o : Obj, w.heap[r]? = some o ∧ o.isCells = false) : OwnT w' lo A n c bs :=
  ⟨h.row.kept hg (own_ne h.row hr), h.len, h.dat.kept hg (fun d hd => own_ne (h.dat.own d hd) hr)⟩
theorem box_quiet {W W' : World} {row : Option Nat} {B : Nat} {t : TypeId} {v : Value} (h : Boxed W B t v) (hg : W.grownBy W' row) (hr : ∀ r, row = some r → ∃ o : Obj, W.heap[r]? = some o ∧ o.isCells = false) : Boxed W' B t v :=
  h.kept hg (fun e => by
    obtain ⟨o, ho, hc⟩ := hr B e.symm
    rw [show W.heap[B]? = _ from h] at ho
    cases ho
    cases hc)

theorem kpC_b {wa w0 : World} (W : World) (l : Nat) (o o' : Obj) (hl : w0.heap.size ≤ l) (_ : W.heap[l]? = some o) (_ : o.isCells = false) (_ : o.isWalk = false) : KpC wa w0 W (W.putObj l o') :=
  OnlyB.grown (OnlyB.refl _ _) (grownBy_putObj' W l o') (fun i e => by cases e; exact Or.inr hl)

/-- What stands when some pieces are sorted. -/
def BatInv (w : World) (pre : List (PcIn w)) (W : World) : Prop :=
  (∃ A' c' bs, Boxed W w.heap.size 185 (.slice A' pre.length c') ∧ OwnT W (w.heap.size + 3) A' pre.length c' bs ∧ bs.map BE.es = (piecesOf pre).map sortR ∧ w.heap.size + 3 ≤ W.heap.size) ∧ Below w.heap.size w W

theorem wpIn_append_own {F : Fence} {n : Nat} {P : Program} (w : World) {o : Oper} {a : Act} {K : Act → World → Prop} {Q : Exit → Act → World → Prop}
    (s x : Operand) (t : TypeId) (hop : o.op = Op.call { callee := Callee.builtin Builtin.append, args := #[s, x], argTypes := #[t, t] })
    (base : Nat) (e : TypeId) (i : TypeInfo) (z : Value) (size bytes : Nat) (h1 : P.underlying t = some (.slice e)) (h2 : P.info? e = some i) (h3 : i.zero = some z) (h4 : i.size = size) (h5 : i.bytes = bytes) (h6 : z.cells.size = size) (h7 : 0 < size)
    (v : Value) (k : Nat) (xs : List Value) (hs : a.eval s = v) (hown : w.ownsRow base e size v k xs) (ad : Addr) (m c : Nat) (news : List Value) (hx : a.eval x = .slice (some ad) m c) (hn : news.length = m * size)
    (hc : ∀ j u, news[j]? = some u → w.cell? (ad.add j) = some u) (h1c : ∀ u ∈ news, u.oneCell' = true) (b1 : k + m ≤ maxLen) (b2 : (k + m) * bytes ≤ 140737488355328) (b3 : base ≤ w.heap.size)
    (hK : ∀ v' w', w'.ownsRow base e size v' (k + m) (xs ++ news) → w.grownBy w' v.ownBlock → (v' = .slice none 0 0 ↔ v = .slice none 0 0 ∧ m = 0) → K (a.put o.dst v') w') :
    Oper.wpIn F n P o a w K Q := by
  obtain ⟨v', w', hrun, r1, r2, r3⟩ := run_append_own (P := P) w base t o.type e i z size bytes h1 h2 h3 h4 h5 h6 h7 v k xs hown ad m c news hn hc h1c b1 b2 b3
  unfold Oper.wpIn
  refine ⟨?_, ?_⟩
  · simp [Oper.about, hop, resolve, Target.leads, Sem.run_pure]
  · rw [Oper.semAt_plain F _ _ (by rw [hop]; intro c hc'; cases hc')]
    simp [execOp, hop, resolve, invoke, builtin, hs, hx, hrun, Result.andThen]
    exact hK v' w' r1 r2 r3

set_option maxRecDepth 100000 in
set_option maxHeartbeats 4000000 in
theorem implBatches_in (HSO : ∀ A n c es W, SlG W A n es → n ≤ 2097152 → Calls Try.prog 166 #[.slice A n c] W (RowRc W n (sortR es)))
    (A : Option Addr) (n c : Nat) (es : List GE) (b : Nat) (w : World) (hr : SlG w A n es) (hn : n ≤ 1048576) (hc : n ≤ c) (hb1 : 1 ≤ b) (hb2 : b ≤ 9223372036854775807) :
    CallsIn Fence.wide 3 Try.prog 155 #[.slice A n c, .int .i64 (b : Int)] w (MadeT w (batchesR b es)) := by
  obtain ⟨i0, hi, hz0, hz1, hz2⟩ := info_parts Try.infoBatch
  have HC := Lib.hid hc
  have HR := Lib.hid hr
  clear hr hc
  refine callsIn_of_wp_marks Try.func155 rfl trivial ?_ rfl
  simp only [Try.ntmps155, List.size_toArray, List.length_cons, List.length_nil, Nat.reduceAdd, Nat.reduceSub, Array.replicate_succ, Array.replicate_zero, List.push_toArray, List.append_toArray, List.nil_append, List.cons_append]
  have hlt : ¬ ((b : Int) < 1) := by omega
  gi_wp2
  refine ⟨trivial, (callsIn_wide.2 (chunk_any A n c b _ hb1)).mono ?_⟩
  rintro e w' ⟨rfl, rfl⟩
  gi_wp2
  have bO := ((Boxed.new w 185 (.slice none 0 0)).alloc (.cells #[.slice A n c] 148)).alloc (.cells #[.int .i64 (b : Int)] 3)
  have bS := (Boxed.new (w.alloc (.cells #[.slice none 0 0] 185)) 148 (.slice A n c)).alloc (.cells #[.int .i64 (b : Int)] 3)
  have bN := Boxed.new ((w.alloc (.cells #[.slice none 0 0] 185)).alloc (.cells #[.slice A n c] 148)) 3 (.int .i64 (b : Int))
  rw [World.size_alloc] at bS bN
  rw [World.size_alloc] at bN
  have hB0 : Below w.heap.size w (((w.alloc (.cells #[.slice none 0 0] 185)).alloc (.cells #[.slice A n c] 148)).alloc (.cells #[.int .i64 (b : Int)] 3)) := below_a3 _ _ _ _
  have hsz : (((w.alloc (.cells #[.slice none 0 0] 185)).alloc (.cells #[.slice A n c] 148)).alloc (.cells #[.int .i64 (b : Int)] 3)).heap.size = w.heap.size + 3 := by simp
  generalize (((w.alloc (.cells #[.slice none 0 0] 185)).alloc (.cells #[.slice A n c] 148)).alloc (.cells #[.int .i64 (b : Int)] 3)) = w0 at bO bS bN hB0 hsz ⊢
  have hI : ChIn w w0 (w.heap.size + 1) (w.heap.size + 1 + 1) A n c es b := ⟨HR.out, hn, HC.out, hb1, hb2, by omega, by omega, by omega, by omega, bS.cell, bN.cell⟩
  refine wpIn_rangeFunc_ownG rfl (by omega) (gf := 172) (lb := #[.pointer (some ⟨w.heap.size + 1, 0, none⟩), .pointer (some ⟨w.heap.size + 1 + 1, 0, none⟩)]) rfl trivial (enters_of Try.func172 (by kernel_rfl) rfl)
    (chunk_stops Fence.wide 2 trivial rfl (by omega) _ _ A n c es b w w0 hI) (fun h k => OnlyB.trans h k) kpC_b (Below.refl _ _) (fun _ => rfl)
    (BatInv w) (fun _ _ _ => False)
    (OwnFrom.and (Own.from (fun s A B row hs hg hr => by obtain ⟨A', c', bs, h1, h2, h3, h4⟩ := hs; exact ⟨A', c', bs, box_quiet h1 hg hr, h2.quiet hg hr, h3, Nat.le_trans h4 hg.size⟩) _) (ownFrom_below (Nat.le_refl _) (by omega)))
    (fun _ _ _ _ _ hs _ _ => hs)
    ⟨⟨none, 0, [], bO, ⟨World.ownsRow_nil _ _ _ _, rfl, OwnL.nil⟩, rfl, by omega⟩, hB0⟩
    (fun x => { tmps := #[.slice A n c, .int .i64 (b : Int), undef, undef, .slice none 0 0, .pointer (some ⟨w.heap.size, 0, none⟩), .slice x.1.A x.1.n x.1.c, .int .i64 (b : Int), .bool false, .slice A n c, .int .i64 (b : Int), .func (.func 172) #[] #[.pointer (some ⟨w.heap.size + 1, 0, none⟩), .pointer (some ⟨w.heap.size + 1 + 1, 0, none⟩)], .slice x.1.A x.1.n x.1.c, undef, undef, undef, undef, undef, undef, undef], defers := [] }) ?assign ?body ?done ?stop
  case assign =>
    intro l x W K hK
    gi_wp2
    exact hK
  case body =>
    rintro l pre x W ⟨⟨A', c', bs, hv, hown, hbs, hsW⟩, hB⟩ hlt
    have hc := hv.cell
    have HXD := Lib.hid x.2
    have hwD : Below w.heap.size w W.drew := below_drewN hB 1
    have CS := Lib.hid (callsIn_wide.2 (HSO x.1.A x.1.n x.1.c x.1.es W.drew (HXD.out.1.below hwD) (by have := HXD.out.2.1; omega)) : CallsIn Fence.wide 0 _ _ _ _ _)
    gi_wp2
    refine wpIn_region_any (by kernel_rfl) ?_
    change wpAnyIn _ _ _ _ _ _ _ _ _ (World.drew _)
    refine wpAnyIn_ready (rs := [0, 1]) (by kernel_rfl) (by simp) (BigFrame.allReadyIn_want rfl rfl (fun K hK => ?oa) (BigFrame.allReadyIn_want rfl rfl (fun K hK => ?ob) AllReadyIn.nil))
    all_goals (go_simp; refine hK _ _ ?_; clear hK K)
    case' oa => (refine wpAnyIn_ready (rs := [1]) (by kernel_rfl) (by simp) (BigFrame.allReadyIn_want rfl rfl (fun K hK => ?_) AllReadyIn.nil); go_simp; refine hK _ _ ?_; clear hK K; refine wpAnyIn_ready (rs := [2]) (by kernel_rfl) (by simp) (BigFrame.allReadyIn_want rfl rfl (fun K hK => ?_) AllReadyIn.nil))
    case' ob => (refine wpAnyIn_ready (rs := [0, 2]) (by kernel_rfl) (by simp) (BigFrame.allReadyIn_want rfl rfl (fun K hK => ?oc) (BigFrame.allReadyIn_want rfl rfl (fun K hK => ?od) AllReadyIn.nil)))
    case' oc => (go_simp; refine hK _ _ ?_; clear hK K; refine wpAnyIn_ready (rs := [2]) (by kernel_rfl) (by simp) (BigFrame.allReadyIn_want rfl rfl (fun K hK => ?_) AllReadyIn.nil))
    all_goals
      go_simp
      refine ⟨trivial, (CallsIn.inRound l CS.out).mono ?_⟩
      rintro e w2 ⟨A2, c2, rfl, ho2, hb2⟩
      have hbW : Below W.heap.size W w2 := g_chain (below_drewN (Below.refl _ W) 1) hb2
      have hv2 : Boxed w2 w.heap.size 185 (.slice A' pre.length c') := (hbW.block _ hv.lt).trans hv
      have hc2 := hv2.cell
      have hc3 := (hv2.alloc (.cells #[.slice A2 x.1.n c2] 196)).cell
      refine hK _ _ ?_
      clear hK K
    case' oa => (refine wpAnyIn_ready (rs := [3]) (by kernel_rfl) (by simp) (BigFrame.allReadyIn_want rfl rfl (fun K hK => ?_) AllReadyIn.nil); go_simp; refine hK _ _ ?_; clear hK K; refine wpAnyIn_ready (rs := [4]) (by kernel_rfl) (by simp) (BigFrame.allReadyIn_want rfl rfl (fun K hK => ?_) AllReadyIn.nil); go_simp; refine hK _ _ ?_; clear hK K)
    case' oc => (refine wpAnyIn_ready (rs := [3]) (by kernel_rfl) (by simp) (BigFrame.allReadyIn_want rfl rfl (fun K hK => ?_) AllReadyIn.nil); go_simp; refine hK _ _ ?_; clear hK K; refine wpAnyIn_ready (rs := [4]) (by kernel_rfl) (by simp) (BigFrame.allReadyIn_want rfl rfl (fun K hK => ?_) AllReadyIn.nil); go_simp; refine hK _ _ ?_; clear hK K)
    case' od => (refine wpAnyIn_ready (rs := [0, 3]) (by kernel_rfl) (by simp) (BigFrame.allReadyIn_want rfl rfl (fun K hK => ?oe) (BigFrame.allReadyIn_want rfl rfl (fun K hK => ?of) AllReadyIn.nil)))
    case' oe => (go_simp; refine hK _ _ ?_; clear hK K; refine wpAnyIn_ready (rs := [3]) (by kernel_rfl) (by simp) (BigFrame.allReadyIn_want rfl rfl (fun K hK => ?_) AllReadyIn.nil); go_simp; refine hK _ _ ?_; clear hK K; refine wpAnyIn_ready (rs := [4]) (by kernel_rfl) (by simp) (BigFrame.allReadyIn_want rfl rfl (fun K hK => ?_) AllReadyIn.nil); go_simp; refine hK _ _ ?_; clear hK K)
    case' of => (go_simp; refine hK _ _ ?_; clear hK K; refine wpAnyIn_ready (rs := [0, 4]) (by kernel_rfl) (by simp) (BigFrame.allReadyIn_want rfl rfl (fun K hK => ?og) (BigFrame.allReadyIn_want rfl rfl (fun K hK => ?oh) AllReadyIn.nil)))
    case' og => (go_simp; refine hK _ _ ?_; clear hK K; refine wpAnyIn_ready (rs := [4]) (by kernel_rfl) (by simp) (BigFrame.allReadyIn_want rfl rfl (fun K hK => ?_) AllReadyIn.nil); go_simp; refine hK _ _ ?_; clear hK K)
    case' oh => (go_simp; refine hK _ _ ?_; clear hK K; refine wpAnyIn_ready (rs := [0]) (by kernel_rfl) (by simp) (BigFrame.allReadyIn_want rfl rfl (fun K hK => ?_) AllReadyIn.nil); go_simp; refine hK _ _ ?_; clear hK K)
    all_goals
      have hO2 := hown.below hbW
      have hs2 := hbW.size
      have hrow := hO2.row.alloc (.cells #[.slice A2 x.1.n c2] 196)
      refine wpAnyIn_ready (rs := [5]) (by kernel_rfl) (by simp) (BigFrame.allReadyIn_want rfl rfl (fun K hK => ?_) AllReadyIn.nil)
      refine wpIn_append_own _ (.tmp 13) (.tmp 17) 185 rfl (w.heap.size + 3) 196 i0 _ 1 24 Try.underlying185 hi hz0 hz1 hz2 rfl (by omega) (.slice A' pre.length c') pre.length (bs.flatMap BE.cells) rfl hrow ⟨w2.heap.size, 0, none⟩ 1 1 (BE.cells ⟨A2, x.1.n, c2, sortR x.1.es⟩) rfl rfl (cell_one_new _ _ _) (BE.cells_one _) (by simp only [maxLen]; omega) (by omega) (by simp; omega) ?_
      intro v3 w3 hown3 hg3 hat3
      refine hK _ _ ?_
      clear hK K hat3
      obtain ⟨P3, cc3, rfl⟩ := rec_form hown3
      obtain ⟨hv3, hv4, -, hk4, hb4⟩ := hv2.appended (by decide) (own_monoG hO2.row (by omega)) (by omega) (Nat.le_refl _) (own_monoG hown3 (by omega : w.heap.size ≤ w.heap.size + 3)) hg3
      have hc4 := hv3.cell
      have hf4 := hv3.frozen
      refine wpAnyIn_ready (rs := [6]) (by kernel_rfl) (by simp) (BigFrame.allReadyIn_want rfl rfl (fun K hK => ?_) AllReadyIn.nil)
      go_simp
      refine hK _ _ ?_
      clear hK K
      refine wpAnyIn_done (by kernel_rfl) ?_ _
      gi_wp2
      have hone : OwnL w2 W.heap.size [⟨A2, x.1.n, c2, sortR x.1.es⟩] := OwnL.one (d := ⟨A2, x.1.n, c2, sortR x.1.es⟩) ho2 ((sortR_perm _).length_eq.trans HXD.out.1.len)
      have hall := hO2.dat.append (hone.mono hsW) (apartT_of_time hown.dat (Nat.le_refl _) hone (Nat.le_refl _))
      have hall2 := (hall.below (below_a1 w2 (.cells #[.slice A2 x.1.n c2] 196))).grow hrow (by decide) hg3
      have hpl : (pre ++ [x]).length = pre.length + 1 := by simp
      have hs3 := hg3.size
      refine ⟨KeepsOthers.from ((KeepsOthers.of_grownBy (grownBy_of_below hbW none) (fun j o e _ => by cases e)).trans hk4) _, ?_, ⟨P3, cc3, bs ++ [⟨A2, x.1.n, c2, sortR x.1.es⟩], ?_, ⟨?_, ?_, ?_⟩, ?_, ?_⟩, hB.trans ((hbW.mono hB.size).trans hb4)⟩
      · exact ((((OnlyB.refl _ W).below hbW).below (below_a1 w2 _)).grown hg3 (fun i e => .inr (by have := (hown.row.lt i e).1; omega))).grown (grownBy_setCell' w3 _ _) (fun i e => by cases e; exact .inl rfl)
      · rw [hpl]; exact hv4
      · rw [hpl, List.flatMap_append]; simpa using own_lowG hown3 (p := ⟨w.heap.size, 0, none⟩) (by show w.heap.size < w.heap.size + 3; omega) _
      · rw [hpl, List.length_append, hown.len]; rfl
      · exact hall2.setLow (p := ⟨w.heap.size, 0, none⟩) (by show w.heap.size < w.heap.size + 3; omega) _
      · rw [List.map_append, hbs, piecesOf, piecesOf, List.map_append, List.map_append]; rfl
      · simp at hs3 ⊢; omega
  case done =>
    rintro D ys W hD hys ⟨⟨A', c', bs, hv, hown, hbs, hsW⟩, hB⟩ hK
    have hc := hv.cell
    gi_wp2
    refine ⟨by simp, .inl ⟨_, _, rfl, run_takeDeferred hK, ?_⟩⟩
    exact ⟨_, results_tmp rfl _ _ _, A', _, c', bs, rfl, (hown.mono (by omega)).quiet (grownBy_putObj' W D (.deferred none)) (fun r e => by cases e; exact ⟨_, hK, rfl⟩), by rw [hbs, hys]; rfl, hB.trans (belowK_b (w := w) (Nat.le_refl _) W D _ _ (by omega) hK rfl rfl)⟩
  case stop =>
    rintro D c pre W _ _ h _
    exact h.elim

theorem wf_le {b : Int} (h : (Lit.int .i64 b).wf = true) : b ≤ 9223372036854775807 := by
  unfold Lit.wf at h
  rw [Bool.and_eq_true, decide_eq_true_iff, decide_eq_true_iff] at h
  have := h.2
  change b ≤ 9223372036854775807 at this
  exact this

set_option maxRecDepth 10000 in
theorem implBatches (A : Option Addr) (n c : Nat) (es : List GE) (b : Int) (w : World) (hr : SlG w A n es) (hn : n ≤ 1048576) (hc : n ≤ c) (hb : b ≤ 9223372036854775807) :
    Calls Try.prog 155 #[.slice A n c, .int .i64 b] w (MadeT w (batchesZ b es)) := by
  by_cases h1 : b < 1
  · have HV := Lib.hid (batchesZ_no (l := es) h1)
    go_enter Try.func155, Try.ntmps155
    go_wp2
    go_ret
    exact ⟨_, _, _, [], rfl, ⟨World.ownsRow_nil _ _ _ _, rfl, OwnL.nil⟩, by rw [HV.out]; rfl, Below.refl _ _⟩
  · obtain ⟨k, rfl⟩ : ∃ k : Nat, b = k := ⟨b.toNat, by omega⟩
    rw [batchesZ_yes (by omega), Int.toNat_natCast]
    exact callsIn_wide.1 (implBatches_in (fun A n c es W h hn => implSortOne A n c es W h hn) A n c es k w hr hn hc (by omega) (by omega))
end Go.Proofs.Ytpgnappddddlpaa
namespace Go.Proofs.Ytpgnappddddlpaa

/-- What is left of each batch, behind these positions. -/
def rest (bs : List BE) (ats : List Nat) : List (List GE) := List.zipWith (fun e a => e.es.drop a) bs ats
def bestI : Option (Nat × GE) → Int
  | none => -1
  | some p => p.1
theorem rest_len {bs : List BE} {ats : List Nat} (h : ats.length = bs.length) : (rest bs ats).length = bs.length := by simp [rest, h]
theorem rest_at {bs : List BE} {ats : List Nat} {i : Nat} {e : BE} {a : Nat} (he : bs[i]? = some e) (ha : ats[i]? = some a) : (rest bs ats)[i]? = some (e.es.drop a) := by
  simp [rest, List.getElem?_zipWith, he, ha]
theorem rest_set : ∀ (bs : List BE) (ats : List Nat) (i a : Nat), ats[i]? = some a → rest bs (ats.set i (a + 1)) = (rest bs ats).modify i List.tail
  | [], ats, i, a, _ => by simp [rest]
  | _ :: _, [], i, a, h => by simp at h
  | e :: bs, x :: ats, 0, a, h => by
    simp at h
    subst h
    simp [rest]
  | e :: bs, x :: ats, i + 1, a, h => by
    have := rest_set bs ats i a (by simpa using h)
    unfold rest at this ⊢
    simp only [List.set_cons_succ, List.zipWith_cons_cons, List.modify_succ_cons, this]
theorem rest_zero : ∀ (bs : List BE), rest bs (List.replicate bs.length 0) = bs.map BE.es
  | [] => rfl
  | e :: bs => by
    have := rest_zero bs
    unfold rest at this ⊢
    simp [List.replicate_succ, this]
/-- The best of the first i, with one more batch. -/
def bestMore (i : Nat) (b : Option (Nat × GE)) (x : List GE) : Option (Nat × GE) := bestFrom i b [x]
theorem best_take {rs : List (List GE)} {i : Nat} {x : List GE} (h : rs[i]? = some x) : bestFrom 0 none (rs.take (i + 1)) = bestMore i (bestFrom 0 none (rs.take i)) x := by
  have hi : i < rs.length := (List.getElem?_eq_some_iff.1 h).1
  have h1 : rs.take (i + 1) = rs.take i ++ [x] := by
    rw [List.take_add_one, h]; rfl
  rw [h1, bestFrom_append, List.length_take, Nat.min_eq_left (by omega), Nat.zero_add]
  rfl
theorem bestMore_nil (i : Nat) (b : Option (Nat × GE)) : bestMore i b [] = b := by cases b <;> rfl
theorem bestMore_new (i : Nat) (x : GE) (t : List GE) : bestMore i none (x :: t) = some (i, x) := rfl
theorem bestMore_less {i j : Nat} {x y : GE} {t : List GE} (h : lessR x y = true) : bestMore i (some (j, y)) (x :: t) = some (i, x) := by simp [bestMore, bestFrom, h]
theorem bestMore_not {i j : Nat} {x y : GE} {t : List GE} (h : lessR x y = false) : bestMore i (some (j, y)) (x :: t) = some (j, y) := by simp [bestMore, bestFrom, h]
/-- The best of the first i lies among them. -/
theorem best_in {rs : List (List GE)} {i j : Nat} {y : GE} (h : bestFrom 0 none (rs.take i) = some (j, y)) : j < i ∧ ∃ t, rs[j]? = some (y :: t) := by
  have h1 : bestR (rs.take i) = some (j, y) := h
  have h2 := bestR_lt h1
  obtain ⟨t, ht, _⟩ := bestR_some h1
  rw [List.length_take] at h2
  rw [List.getElem?_take] at ht
  split at ht
  · exact ⟨by omega, t, ht⟩
  · cases ht
/-- A list that starts with y behind a position: there it stands. -/
theorem drop_cons {es : List GE} {a : Nat} {y : GE} {t : List GE} (h : es.drop a = y :: t) : es[a]? = some y := by
  have : (es.drop a)[0]? = some y := by rw [h]; rfl
  simpa using this
theorem drop_at {es : List GE} {a : Nat} {y : GE} (h : es[a]? = some y) : es.drop a = y :: es.drop (a + 1) := by
  obtain ⟨hl, rfl⟩ := List.getElem?_eq_some_iff.1 h
  exact List.drop_eq_getElem_cons hl
end Go.Proofs.Ytpgnappddddlpaa

