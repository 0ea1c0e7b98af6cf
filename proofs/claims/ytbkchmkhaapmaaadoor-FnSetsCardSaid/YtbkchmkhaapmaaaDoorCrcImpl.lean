/- The contract of the program's checksum, a closure over its register. Condition: at most 2^21 bytes. -/
import Derived.Test.YtbkchmkhaapmaaaDoorCrcMath
namespace Go.Proofs.YtbkchmkhaapmaaaDoor
open Go.RowKit

theorem and1_32 (s : Nat) (h : s < 4294967296) : bits .and .u32 (s : Int) 1 = (s : Int) % 2 := by
  have := u32_and_nat s 1 h (by omega)
  rw [Nat.and_one_is_mod] at this
  exact this

theorem crcBit_odd32 (s : Nat) (h : s < 4294967296) (ho : s % 2 = 1) : bits .xor .u32 ((s : Int) / 2) 3988292384 = ((crcBit s : Nat) : Int) := by
  have e1 : (s : Int) / 2 = ((s / 2 : Nat) : Int) := by omega
  have e2 : (3988292384 : Int) = ((3988292384 : Nat) : Int) := rfl
  rw [e1, e2, u32_xor_nat _ _ (by omega) (by omega), crcBit, if_pos ho]

theorem not32 (r : Nat) (h : r < 4294967296) : wrap64 (bits .xor .u32 IntKind.u32.max (r : Int)) = ((r ^^^ 4294967295 : Nat) : Int) := by
  have e1 : IntKind.u32.max = ((4294967295 : Nat) : Int) := by decide
  have hlt := xor_lt32 h (b := 4294967295) (by omega)
  rw [e1, u32_xor_nat _ _ (by omega) h, Nat.xor_comm, IntWalk.wrap64_in _ ⟨by omega, by omega⟩]

theorem grown_set {a w : World} {g : Nat} (h : a.grownBy w (some g)) (u : Value) : a.grownBy (w.setCell ⟨g, 0, none⟩ u) (some g) :=
  ⟨h.os, h.tape, h.output, by simpa using h.size, fun k hk hne => (Below.heap_setCell w ⟨g, 0, none⟩ u k (fun e => hne (by rw [e]))).trans (h.block k hk hne)⟩

set_option maxRecDepth 10000 in
set_option maxHeartbeats 1000000 in
theorem feedCrc (g x r : Nat) (w : World) (hg : w.heap[g]? = some (.cells #[.int .u32 (r : Int)] 69 (0, 0))) (hx : x < 256) (hr : r < 4294967296) :
    Calls Tryd.prog 63 #[.int .u8 (x : Int), .pointer (some ⟨g, 0, none⟩)] w fun e w' => e = .returned (.tuple #[]) ∧ w'.heap[g]? = some (.cells #[.int .u32 (crcByte r x : Nat)] 69 (0, 0)) ∧ w.grownBy w' (some g) := by
  have hc := cell_of_one hg
  have hf := free_of_one hg
  have hx1 := u32_xor_nat r x (by omega) (by omega)
  have hs1 : r ^^^ x < 4294967296 := xor_lt32 hr (by omega)
  have hb8 : Hid (crcByte r x = crcBits 8 (r ^^^ x)) := rfl
  generalize r ^^^ x = s0 at hx1 hs1 hb8
  have HG := Lib.hid hg
  clear hg
  go_enter Tryd.func63, Tryd.ntmps63
  go_wp2
  have hg0 := Lib.hid (one_setCell (u := .int .u32 (s0 : Int)) HG.out)
  have hgr0 : w.grownBy (w.setCell ⟨g, 0, none⟩ (.int .u32 (s0 : Int))) (some g) := grown_set (World.grownBy.refl _ _) _
  clear hc hf hx1
  go_loopw [3, 8] (fun _ i wr => ∃ j : Nat, j ≤ 8 ∧ i = .int .i64 (j : Int) ∧ wr.heap[g]? = some (.cells #[.int .u32 (crcBits j s0 : Nat)] 69 (0, 0)) ∧ w.grownBy wr (some g)) (fun _ i _ => 8 - (intOf i).toNat)
  case atStart => exact ⟨0, by omega, rfl, hg0.out, hgr0⟩
  case round =>
    obtain ⟨j, hj, rfl, hg, hgr⟩ := hrel
    have hs2 := crcBits_lt j s0 hs1
    have hst : Hid (crcBits (j + 1) s0 = crcBit (crcBits j s0)) := rfl
    obtain ⟨s, hs⟩ : ∃ s, s = crcBits j s0 := ⟨_, rfl⟩
    have HS := Lib.hid hs
    rw [← hs] at hs2 hst hg
    clear hs
    have hc := cell_of_one hg
    have hf := free_of_one hg
    have HG := Lib.hid hg
    have HGR := Lib.hid hgr
    clear hg hgr
    by_cases hlt2 : j < 8
    · have hand := and1_32 s hs2
      by_cases ho : s % 2 = 1
      · have ho2 : ((s : Int) % 2 == 1) = true := by rw [beq_iff_eq]; omega
        have hb := crcBit_odd32 s hs2 ho
        clear ho
        go_wp2
        go_roundw
        case rel => exact ⟨j + 1, by omega, by go_num, by rw [hst.out]; exact one_setCell (one_setCell HG.out), grown_set (grown_set HGR.out _) _⟩
        case measure => simp [intOf]; omega
      · have ho2 : ((s : Int) % 2 == 1) = false := beq_eq_false_iff_ne.mpr (by omega)
        have hb := Lib.hid (crcBit_even s ho)
        clear ho
        go_wp2
        go_roundw
        case rel => exact ⟨j + 1, by omega, by go_num, by rw [hst.out, ← hb.out]; exact one_setCell HG.out, grown_set HGR.out _⟩
        case measure => simp [intOf]; omega
    · obtain rfl : j = 8 := by omega
      go_wp2
      go_end0
      exact ⟨rfl, by rw [hb8.out, ← HS.out]; exact HG.out, HGR.out⟩

set_option maxRecDepth 10000 in
set_option maxHeartbeats 1000000 in
theorem implCrc (A : Option Addr) (n c : Nat) (xs : List Nat) (w : World) (hr : Rd w A n xs) (hn : n ≤ 2097152) :
    Calls Tryd.prog 48 #[.slice A n c] w fun e w' => e = .returned (.int .i64 ((crcAll xs ^^^ 4294967295 : Nat) : Int)) ∧ Below w.heap.size w w' := by
  have HL := Lib.hid hr.len
  go_enter Tryd.func48, Tryd.ntmps48
  go_wp2
  have hg0 : (w.alloc (.cells #[.int .u32 4294967295] 69)).heap[w.heap.size]? = some (.cells #[.int .u32 (crcAll (xs.take 0) : Nat)] 69 (0, 0)) := heap_alloc_new w _
  have hb0 : Below w.heap.size w (w.alloc (.cells #[.int .u32 4294967295] 69)) := (Below.refl _ _).alloc (Nat.le_refl _) _
  go_loopw [6, 10] (fun _ i wr => ∃ k : Nat, k ≤ n ∧ i = .int .i64 (k : Int) ∧ wr.heap[w.heap.size]? = some (.cells #[.int .u32 (crcAll (xs.take k) : Nat)] 69 (0, 0)) ∧ Below w.heap.size w wr) (fun _ i _ => n - (intOf i).toNat)
  case atStart => exact ⟨0, by omega, rfl, hg0, hb0⟩
  case round =>
    obtain ⟨k, hk, rfl, hg, hbel⟩ := hrel
    have hlt0 := crcAll_lt xs hr.small k
    by_cases hlt : k < n
    · obtain ⟨b, off, x, rfl, hbw, hx, hxs, hc⟩ := hr.at_ hlt
      have hcell : wr.cell? ⟨b, off + k, none⟩ = some (.int .u8 (x : Int)) := (hbel.cell (by exact hbw)).trans hc
      have C := Lib.hid (feedCrc w.heap.size x (crcAll (xs.take k)) wr hg hx hlt0)
      rw [← crcAll_snoc xs k x hxs.out] at C
      have HB := Lib.hid hbel
      clear hg hc hlt0 hbel
      go_wp2_with (go_at_call 63; refine C.out.mono ?_; rintro e w1 ⟨rfl, hg1, hgr1⟩)
      have hb1 := HB.out.grown hgr1 HB.out.size (by simp)
      go_roundw
      case rel => exact ⟨k + 1, by omega, by go_num, hg1, hb1⟩
      case measure => simp [intOf]; omega
    · obtain rfl : k = n := by omega
      rw [List.take_of_length_le (by rw [HL.out]; omega)] at hlt0 hg
      have hcell := cell_of_one hg
      obtain ⟨r, hr0⟩ : ∃ r, r = crcAll xs := ⟨_, rfl⟩
      rw [← hr0] at hcell hlt0
      have HR0 := Lib.hid hr0
      clear hg hr0
      have hn32 := Lib.hid (not32 r hlt0)
      go_wp2
      go_ret
      exact ⟨by rw [← HR0.out, ← hn32.out]; rfl, hbel⟩
end Go.Proofs.YtbkchmkhaapmaaaDoor
