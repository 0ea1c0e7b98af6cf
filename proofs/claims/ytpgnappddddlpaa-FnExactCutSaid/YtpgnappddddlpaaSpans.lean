/- The program's iterator over the intervals of ends: a closure that reads the slice between two rounds; its contract for whatever loop body. Condition: at most 2^20 ends. -/
import Derived.RangeFuncNested
import Derived.RangeFuncBound
import Derived.RangeFuncCalls
import Derived.RangeFuncLeaves
import Derived.RangeFuncBox
import Derived.Shelf.Abstract
import Derived.Shelf.RegionOpen
import Derived.WalkKit
import Derived.OwnWalkIn
import Derived.TacticsInMore
import Derived.LoopNIn
import Derived.LoopIn
import Derived.Test.YtpgnappddddlpaaEndsMath
namespace Go.Proofs.Ytpgnappddddlpaa
open Go.RowKit Go.Shelf
attribute [local go_sem] Oper.semAt_some

set_option maxRecDepth 100000 in
set_option maxHeartbeats 2000000 in
theorem spans1_in {α : Type} (f : α → Int × Int) (ps : List α) (F : Fence) (m : Nat) (hf : F.fn 163) (hro : F.round = none) (hm : 1 ≤ m) (l Bs : Nat) (A : Option Addr) (n c : Nat) (es : List Int) (hps : ps.map f = pairsE 0 es) (w0 : World) (hI : SlI w0 A n es) (hn : n ≤ 1048576) (J Jx : List α → World → Prop)
    (hY : ∀ pre x W, J pre W → pre.length < n → YieldAt F (m - 1) Try.prog l #[.int .i64 (f x).1, .int .i64 (f x).2] W fun e W' =>
      (e = .returned (.bool true) ∧ J (pre ++ [x]) W' ∧ Below w0.heap.size W W') ∨ (e = .returned (.bool false) ∧ Jx (pre ++ [x]) W'))
    (W : World) (hW : Below w0.heap.size w0 W) (hBs : W.cell? ⟨Bs, 0, none⟩ = some (.slice A n c)) (h0 : J [] W) :
    CallsIn F m Try.prog 163 #[.func (.yield l) #[] #[], .pointer (some ⟨Bs, 0, none⟩)] W fun e W' => (∃ v, e = .returned v) ∧
      ((∃ ys, ys = ps ∧ J ys W') ∨ (∃ pre, (∃ k, k ≤ n ∧ pre = ps.take k) ∧ Jx pre W')) := by
  have hpl : ps.length = n := by have := congrArg List.length hps; rw [List.length_map, pairsE_len, hI.len] at this; exact this
  refine callsIn_of_wp Try.func163 rfl hf ?_ hro
  simp only [Try.ntmps163, List.size_toArray, List.length_cons, List.length_nil, Nat.reduceAdd, Nat.reduceSub, Array.replicate_succ, Array.replicate_zero, List.push_toArray, List.append_toArray, List.nil_append, List.cons_append]
  gi_wp2
  gi_loopw [3, 8] (fun v i wr => ∃ k : Nat, k ≤ n ∧ i = .int .i64 k ∧ v = .int .i64 (lastE 0 (es.take k)) ∧ J (ps.take k) wr ∧ Below w0.heap.size w0 wr)
    (fun _ i _ => n - (intOf i).toNat)
  case atStart => exact ⟨0, Nat.zero_le _, rfl, rfl, h0, hW⟩
  case round =>
    obtain ⟨k, hk, rfl, rfl, hJs, hnx⟩ := hrel
    by_cases hlt : k < n
    · obtain ⟨b, off, x, rfl, hbw, hx, hcx⟩ := hI.at_ hlt
      have hcx := (hnx.cell (p := ⟨b, off + k, none⟩) hbw).trans hcx
      have hpk : ps[k]? = some (ps[k]'(by omega)) := List.getElem?_eq_getElem (by omega)
      generalize ps[k]'(by omega) = y at hpk
      have hfy : f y = (lastE 0 (es.take k), x) := by
        have h1 : (ps.map f)[k]? = some (f y) := by rw [List.getElem?_map, hpk]; rfl
        rw [hps, pairsE_get es 0 k x hx.out] at h1
        injection h1 with h1
        exact h1.symm
      obtain ⟨fn, tmps, assign, body, hy, hR⟩ := hY _ y wr hJs (by rw [List.length_take]; omega)
      rw [hfy] at hy
      dsimp only at hy
      have hs : ps.take (k + 1) = ps.take k ++ [y] := g_take ps k y hpk
      have hl2 : lastE 0 (es.take (k + 1)) = x := last_step hx.out
      clear hx
      gi_wp2
      refine hR.mono ?_
      rintro e W3 (⟨rfl, hJ3, hk3⟩ | ⟨rfl, hJx3⟩)
      · gi_wp2
        go_roundw
        case rel => exact ⟨k + 1, by omega, by simp, by rw [hl2], by rw [hs]; exact hJ3, hnx.trans hk3⟩
        case measure => simp [intOf]; omega
      · gi_wp2
        refine bodyPost_ret (results_none rfl _ _ _) rfl ?_
        exact ⟨⟨_, rfl⟩, .inr ⟨_, ⟨k + 1, by omega, hs.symm⟩, hJx3⟩⟩
    · obtain rfl : k = n := by omega
      have he : ps.take k = ps := List.take_of_length_le (by omega)
      rw [he] at hJs
      gi_wp2
      go_end0
      exact ⟨⟨_, rfl⟩, .inl ⟨_, rfl, hJs⟩⟩

set_option maxHeartbeats 1000000 in
/-- The slice is boxed; the function value captures the box. -/
theorem spans_in (F : Fence) (m : Nat) (hf : F.fn 153) (hro : F.round = none) (A : Option Addr) (n c : Nat) (w : World) :
    CallsIn F m Try.prog 153 #[.slice A n c] w fun e w' => e = .returned (.func (.func 163) #[] #[.pointer (some ⟨w.heap.size, 0, none⟩)]) ∧ w' = w.alloc (.cells #[.slice A n c] 23) := by
  refine callsIn_of_wp Try.func153 rfl hf ?_ hro
  simp only [Try.ntmps153, List.size_toArray, List.length_cons, List.length_nil, Nat.reduceAdd, Nat.reduceSub, Array.replicate_succ, Array.replicate_zero, List.push_toArray, List.append_toArray, List.nil_append, List.cons_append]
  gi_wp2
  go_ret
  exact ⟨rfl, rfl⟩

theorem spans_stops {α : Type} (f : α → Int × Int) (ps : List α) (F : Fence) (m : Nat) (hf : F.fn 163) (hro : F.round = none) (hm : 1 ≤ m) (Bs : Nat) (A : Option Addr) (n c : Nat) (es : List Int) (hps : ps.map f = pairsE 0 es) (w0 : World) (hI : SlI w0 A n es) (hn : n ≤ 1048576) (w : World) (hw : Below w0.heap.size w0 w) (hBs : Bs < w.heap.size)
    (hc : w.cell? ⟨Bs, 0, none⟩ = some (.slice A n c)) :
    SeqStopsK F m Try.prog 163 #[.pointer (some ⟨Bs, 0, none⟩)] (fun x : α => #[Value.int .i64 (f x).1, Value.int .i64 (f x).2]) (Below w0.heap.size) (fun ys => ys = ps)
      (fun pre => ∃ k, k ≤ n ∧ pre = ps.take k) n w := fun l J Jx W hW _ _ hY h0 =>
  spans1_in f ps F m hf hro hm l Bs A n c es hps w0 hI hn J Jx hY W (hw.trans (hW.mono hw.size)) ((hW.cell (p := ⟨Bs, 0, none⟩) hBs).trans hc) h0

/-! ### what the pairs tell of the ends -/
theorem asc_pairs : ∀ (xs : List Int) (l : Int), (∀ p ∈ pairsE l xs, p.1 < p.2) → ascB l xs = true
  | [], _, _ => rfl
  | e :: r, l, h => by
    have h1 := h (l, e) (by simp [pairsE])
    have h2 := asc_pairs r e (fun p hp => h p (by simp [pairsE, hp]))
    simp only [ascB, Bool.and_eq_true, decide_eq_true_eq]
    exact ⟨h1, h2⟩
theorem asc_pairs_no : ∀ (xs : List Int) (l : Int) (p : Int × Int), p ∈ pairsE l xs → p.2 ≤ p.1 → ascB l xs = false
  | [], _, _, h, _ => by simp [pairsE] at h
  | e :: r, l, p, h, hp => by
    simp only [pairsE, List.mem_cons] at h
    simp only [ascB, Bool.and_eq_false_iff, decide_eq_false_iff_not]
    rcases h with rfl | h
    · exact .inl (by simp only at hp; omega)
    · exact .inr (asc_pairs_no r e p h hp)
def upP (ps : List (Int × Int)) : Prop := ∀ p ∈ ps, p.1 < p.2
def dnP (ps : List (Int × Int)) : Prop := ∃ p ∈ ps, p.2 ≤ p.1
theorem upP_snoc {ps : List (Int × Int)} {lo hi : Int} (h : upP ps) (hx : lo < hi) : upP (ps ++ [(lo, hi)]) := fun p hp => (List.mem_append.1 hp).elim (h p) (fun e => by simp at e; subst e; exact hx)
theorem dnP_snoc {ps : List (Int × Int)} {lo hi : Int} (hx : hi ≤ lo) : dnP (ps ++ [(lo, hi)]) := ⟨(lo, hi), by simp, hx⟩
def lastP (ps : List (Int × Int)) : Int := ((ps.getLast?).map Prod.snd).getD 0
theorem lastP_snoc (ps : List (Int × Int)) (p : Int × Int) : lastP (ps ++ [p]) = p.2 := by simp [lastP]
theorem lastP_pairs : ∀ (xs : List Int), lastP (pairsE 0 xs) = lastE 0 xs := by
  intro xs
  rcases List.eq_nil_or_concat xs with rfl | ⟨r, e, rfl⟩
  · rfl
  · rw [List.concat_eq_append, pairsE_snoc, lastP_snoc, lastE_snoc]
end Go.Proofs.Ytpgnappddddlpaa
