/- Slices of numbers as arguments of the laws: the helper that copies one into new memory; the opening of one that came in. Condition: at most 2^21 numbers. -/
import Derived.Test.YtmbabbapcjphgaaIntEq
import Derived.Test.YtmbabbapcjphgaaGrOpen
import Derived.Test.YtmbabbapcjphgaaDegsB
namespace Go.Proofs.Ytmbabbapcjphgaa
open Go.RowKit

/-- The first k cells are those of xs, the rest nought. -/
def halfI (xs : List Int) (k : Nat) : List Int := xs.take k ++ List.replicate (xs.length - k) 0
theorem halfI_zero (xs : List Int) : halfI xs 0 = List.replicate xs.length 0 := by simp [halfI]
theorem halfI_full (xs : List Int) : halfI xs xs.length = xs := by simp [halfI]
theorem halfI_step (xs : List Int) (k : Nat) (x : Int) (h : xs[k]? = some x) : (vi (halfI xs k)).set k (.int .i64 x) = vi (halfI xs (k + 1)) := by
  have hk : k < xs.length := (List.getElem?_eq_some_iff.1 h).1
  have hx : xs[k] = x := (List.getElem?_eq_some_iff.1 h).2
  have : (halfI xs k).set k x = halfI xs (k + 1) := by
    unfold halfI
    rw [List.set_append_right _ _ (by simp; omega), List.take_succ_eq_append_getElem hk, List.append_assoc]
    congr 1
    rw [List.length_take, Nat.min_eq_left (by omega), Nat.sub_self, show xs.length - k = (xs.length - (k + 1)) + 1 by omega, List.replicate_succ]
    simp [hx]
  rw [← this]
  simp [vi, List.map_set]

def MadeN (w : World) (n : Nat) (xs : List Int) (e : Ending) (w' : World) : Prop :=
  ∃ A c, e = .returned (.slice A n c) ∧ OwI w' w.heap.size A n c xs ∧ Below w.heap.size w w'

set_option maxHeartbeats 400000 in
theorem copyInts_any (A : Option Addr) (n c : Nat) (xs : List Int) (w : World) (hr : SlI w A n xs) (hn : n ≤ 2097152) :
    Calls Try.prog 12 #[.slice A n c] w (MadeN w n xs) := by
  obtain ⟨i0, hi, hz0, hz1, hz2⟩ := info_parts Try.infoInt
  have hl := Lib.hid hr.len
  have HR := Lib.hid hr
  clear hr
  go_enter Try.func12, Try.ntmps12
  go_wp2_with (refine wpList_make_full _ rfl (.tmp 6) (.tmp 6) 22 rfl w.heap.size 3 i0 (.int .i64 0) 1 Try.underlying22 hi hz0 hz1 .i64 .i64 _ _ n rfl rfl rfl rfl (by rw [hz2]; omega) (by unfold maxLen; omega) (Nat.le_refl _) ?_; intro w1 hown hg)
  have hb1 : Below w.heap.size w w1 := (Below.refl _ _).grown hg (Nat.le_refl _) (by simp)
  have hown1 : w1.ownsRow w.heap.size 3 1 (.slice (some ⟨w.heap.size, 0, none⟩) n n) n (vi (halfI xs 0)) := by
    have h := hown
    rw [g_rep (fun x : Int => [Value.int .i64 x]) 0 1 (fun _ => rfl) (by omega) (Value.int .i64 0).cells rfl n, flat_one] at h
    rw [halfI_zero, hl.out]
    exact h
  clear hown hg
  go_loopw [4] (fun i wr => ∃ k : Nat, k ≤ n ∧ i = .int .i64 k ∧ wr.ownsRow w.heap.size 3 1 (.slice (some ⟨w.heap.size, 0, none⟩) n n) n (vi (halfI xs k)) ∧ Below w.heap.size w wr) (fun i _ => n - (intOf i).toNat)
  case atStart => exact ⟨0, Nat.zero_le _, rfl, hown1, hb1⟩
  case round =>
    obtain ⟨k, hk, rfl, hown, hbel⟩ := hrel
    by_cases hlt : k < n
    · obtain ⟨b, off, x, rfl, hbw, hxs, hc⟩ := HR.out.at_ hlt
      have hcell : wr.cell? ⟨b, off + k, none⟩ = some (.int .i64 x) := (hbel.cell (by exact hbw)).trans hc
      have hl2 : k < (vi (halfI xs k)).length := by rw [hown.1]; omega
      have hcell2 : wr.cell? ⟨w.heap.size, k, none⟩ = some (vi (halfI xs k))[k] := by rw [hown.cellAt k (by omega), List.getElem?_eq_getElem hl2]
      have hfr := hown.frozenAt k
      have hst := hown.stored k (.int .i64 x)
      rw [halfI_step xs k x hxs.out] at hst
      have hb2 := hbel.setCell (p := ⟨w.heap.size, k, none⟩) (Nat.le_refl _) (.int .i64 x)
      have hst1 := Lib.hid hst.1
      generalize (vi (halfI xs k))[k] = old at hcell2
      clear hst hown hl2 hc
      go_wp2
      go_roundw
      case rel => exact ⟨k + 1, by omega, by go_num, hst1.out, hb2⟩
      case measure => simp [intOf]; omega
    · obtain rfl : k = n := by omega
      go_wp2
      go_ret
      have e := hl.out
      subst e
      rw [halfI_full] at hown
      exact ⟨_, _, rfl, hown, hbel⟩

/-! ### one that came in -/
def NumIn (x : Int) : Prop := (Lit.int .i64 x).wf = true
/-- What a walk is told of a slice of numbers that came in. -/
structure IntsIn (w : World) (A : Option Addr) (n c : Nat) (xs : List Int) : Prop where
  g : SlI w A n xs
  l : n ≤ maxLen
  c : n ≤ c
  e : ∀ x ∈ xs, NumIn x
theorem flat_vi (xs : List Int) : xs.flatMap (fun x : Int => [Value.int .i64 x]) = vi xs := flat_one xs
theorem RdR.nums {lo hi : Nat} {w : World} {cs : List Value} {ds : List Int} (h : RdR lo hi w (.sl (.int .i64)) cs ds) (hh : hi ≤ w.heap.size) : ∃ A n c xs, cs = [.slice A n c] ∧ IntsIn w A n c xs := by
  obtain ⟨A, n, c, e1, e2, e3, e4, h⟩ := h
  rcases Nat.eq_zero_or_pos n with h0 | h0
  · subst h0
    exact ⟨A, 0, c, [], e1, ⟨SlI.nil, by omega, e3, by simp⟩⟩
  · obtain ⟨b, off, eA, _, hb, hall⟩ := h h0
    obtain ⟨xs, h1, h2, h3⟩ := g_build (fun x : Int => [Value.int .i64 x]) 1 (fun _ => rfl) NumIn w b off n (fun j hj => by
      have e5 : List.length (α := Int) ds = n := e2
      have hjl : j < List.length (α := Int) ds := by omega
      obtain ⟨cs, _, hc, hr⟩ := hall j (ds[j]'hjl) (List.getElem?_eq_getElem hjl)
      obtain ⟨rfl, hwf⟩ := hr
      exact ⟨_, hwf, hc⟩)
    rw [flat_vi] at h2
    exact ⟨A, n, c, xs, e1, ⟨⟨h1, ⟨by rw [vi_len, h1, Nat.mul_one], fun _ => ⟨b, off, eA, by omega, h2⟩⟩⟩, by omega, e3, h3⟩⟩

section
variable {H : Type} {enc : TypeId × Value → H} {w : World} {base : Nat} {spare : Nat → Bool} {held : Bool}
theorem Try.cellsSI : Try.prog.cellsOf 22 = 1 := by kernel_rfl
theorem opensNums : Opens enc Try.prog w base spare held 22 (.sl (.int .i64)) := opens_sl Try.underlying22 Try.cellsGi (by decide) (opens_int Try.underlying3)
set_option maxRecDepth 100000 in
theorem open_ints {r : Reach} {b0 : Nat} {v : Value} {d : DataW H} {p : List MemPlace} (hv : Value.okWide Try.prog w r b0 22 v) (h : DataW.Trod enc Try.prog w base spare held 22 v d p) :
    ∃ A n c xs, v = .slice A n c ∧ IntsIn w A n c xs := by
  obtain ⟨a, len, cap, rfl⟩ := Go.WideShapes.okWide_slice Try.underlying22 hv
  obtain ⟨fuel, hf⟩ := h
  obtain ⟨x, hx⟩ := opensNums _ _ _ hf
  obtain ⟨A, n, c, xs, he, hi⟩ := RdR.nums hx (Nat.le_refl _)
  have h9 : [Value.slice a len cap] = [.slice A n c] := by simpa [Value.cells] using he
  injection h9 with h9
  exact ⟨A, n, c, xs, h9, hi⟩
end
end Go.Proofs.Ytmbabbapcjphgaa
