/- The contracts of the two helpers of the laws: 'toByteS' makes a copy of a slice of bytes in new memory; 'eqByteS' of two slices that read as the same bytes returns true and writes nothing. Condition: at most 2^21 bytes. -/
import Derived.Test.YtbkchmkhaapmaaaDoorBase
namespace Go.Proofs.YtbkchmkhaapmaaaDoor
open Go.RowKit

/-- The first k cells are those of xs, the rest nought. -/
def half (xs : List Nat) (k : Nat) : List Nat := xs.take k ++ List.replicate (xs.length - k) 0

theorem half_zero (xs : List Nat) : half xs 0 = List.replicate xs.length 0 := by simp [half]

theorem half_full (xs : List Nat) : half xs xs.length = xs := by simp [half]

theorem half_step (xs : List Nat) (k x : Nat) (h : xs[k]? = some x) : (vb (half xs k)).set k (.int .u8 (x : Int)) = vb (half xs (k + 1)) := by
  have hk : k < xs.length := (List.getElem?_eq_some_iff.1 h).1
  have hx : xs[k] = x := (List.getElem?_eq_some_iff.1 h).2
  have : (half xs k).set k x = half xs (k + 1) := by
    unfold half
    rw [List.set_append_right _ _ (by simp; omega), List.take_succ_eq_append_getElem hk, List.append_assoc]
    congr 1
    rw [List.length_take, Nat.min_eq_left (by omega), Nat.sub_self, show xs.length - k = (xs.length - (k + 1)) + 1 by omega, List.replicate_succ]
    simp [hx]
  rw [← this]
  simp [vb, List.map_set]

set_option maxHeartbeats 400000 in
theorem copy_any (A : Option Addr) (n c : Nat) (xs : List Nat) (w : World) (hr : Rd w A n xs) (hn : n ≤ 2097152) :
    Calls Tryd.prog 52 #[.slice A n c] w (Made w n xs) := by
  obtain ⟨i0, hi, hz0, hz1, hz2⟩ := info_parts Tryd.infoByte
  have hl := Lib.hid hr.len
  go_enter Tryd.func52, Tryd.ntmps52
  go_wp2_with (refine wpList_make_full _ rfl (.tmp 6) (.tmp 6) 22 rfl w.heap.size 5 i0 (.int .u8 0) 1 Tryd.underlying22 hi hz0 hz1 .i64 .i64 _ _ n rfl rfl rfl rfl (by rw [hz2]; omega) (by unfold maxLen; omega) (Nat.le_refl _) ?_; intro w1 hown hg)
  have hb1 : Below w.heap.size w w1 := (Below.refl _ _).grown hg (Nat.le_refl _) (by simp)
  have hown1 : w1.ownsRow w.heap.size 5 1 (.slice (some ⟨w.heap.size, 0, none⟩) n n) n (vb (half xs 0)) := by
    have h := hown
    rw [half_zero, hl.out, show (Value.int IntKind.u8 0).cells = #[.int .u8 0] from rfl, toList_madeCells_one, Nat.mul_one] at *
    simpa [vb] using h
  clear hown hg
  go_loopw [4] (fun i wr => ∃ k : Nat, k ≤ n ∧ i = .int .i64 k ∧ wr.ownsRow w.heap.size 5 1 (.slice (some ⟨w.heap.size, 0, none⟩) n n) n (vb (half xs k)) ∧ Below w.heap.size w wr) (fun i _ => n - (intOf i).toNat)
  case atStart => exact ⟨0, Nat.zero_le _, rfl, hown1, hb1⟩
  case round =>
    obtain ⟨k, hk, rfl, hown, hbel⟩ := hrel
    by_cases hlt : k < n
    · obtain ⟨b, off, x, rfl, hbw, hx, hxs, hc⟩ := hr.at_ hlt
      have hcell : wr.cell? ⟨b, off + k, none⟩ = some (.int .u8 (x : Int)) := (hbel.cell (by exact hbw)).trans hc
      have hl2 : k < (vb (half xs k)).length := by rw [hown.1]; omega
      have hcell2 : wr.cell? ⟨w.heap.size, k, none⟩ = some (vb (half xs k))[k] := by rw [hown.cellAt k (by omega), List.getElem?_eq_getElem hl2]
      have hfr := hown.frozenAt k
      have hst := hown.stored k (.int .u8 (x : Int))
      rw [half_step xs k x hxs.out] at hst
      have hb2 := hbel.setCell (p := ⟨w.heap.size, k, none⟩) (Nat.le_refl _) (.int .u8 (x : Int))
      have hst1 := Lib.hid hst.1
      generalize (vb (half xs k))[k] = old at hcell2
      clear hst hown hl2 hc
      go_wp2
      go_roundw
      case rel => exact ⟨k + 1, by omega, by go_num, hst1.out, hb2⟩
      case measure => simp [intOf]; omega
    · have : k = n := by omega
      subst this
      go_wp2
      go_ret
      have e := hl.out
      subst e
      rw [half_full] at hown
      exact ⟨_, _, rfl, hown, hbel⟩

set_option maxHeartbeats 400000 in
theorem same_any (A B : Option Addr) (n c d : Nat) (xs : List Nat) (w : World) (ha : Rd w A n xs) (hb : Rd w B n xs) (hn : n ≤ 2097152) :
    Calls Tryd.prog 53 #[.slice A n c, .slice B n d] w fun e w' => e = .returned (.bool true) ∧ ∃ m, w' = w.drewN m := by
  go_enter Tryd.func53, Tryd.ntmps53
  go_wp2
  go_loopw [5] (fun i wr => ∃ k : Nat, k ≤ n ∧ i = .int .i64 k ∧ ∃ m, wr = w.drewN m) (fun i _ => n - (intOf i).toNat)
  case atStart => exact ⟨0, Nat.zero_le _, rfl, 0, rfl⟩
  case round =>
    obtain ⟨k, hk, rfl, m, rfl⟩ := hrel
    by_cases hlt : k < n
    · obtain ⟨b, off, x, rfl, hbw, hx, hxs, hc⟩ := ha.at_ hlt
      obtain ⟨b', off', x', rfl, hbw', hx', hxs', hc'⟩ := hb.at_ hlt
      obtain rfl : x = x' := by have := hxs.out.symm.trans hxs'.out; injection this
      go_wp2
      go_quiet (fail)
      go_wp2
      go_roundw
      case rel => exact ⟨k + 1, by omega, by go_num, _, rfl⟩
      case measure => simp [intOf]; omega
    · go_wp2
      go_ret
      exact ⟨rfl, m, rfl⟩
end Go.Proofs.YtbkchmkhaapmaaaDoor
