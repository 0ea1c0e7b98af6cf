/- The contract of the program's function that asks whether shards belong to consecutive intervals. Condition: at most 2^20 shards, of at most 2^20 edges each. -/
import Derived.Test.YtbfdhlpncblahaaHeMath
import Derived.Test.YtbfdhlpncblahaaShOkI
namespace Go.Proofs.Ytbfdhlpncblahaa
open Go.RowKit

set_option maxRecDepth 10000 in
set_option maxHeartbeats 2000000 in
theorem implDivides (N : Int) (A : Option Addr) (n c : Nat) (bs : List HE) (w : World) (hr : SlH w A n bs) (hn : n ≤ 1048576) (hs : ∀ e ∈ bs, e.n ≤ 1048576) :
    Calls Try.prog 71 #[.int .i64 N, .slice A n c] w (GTell w (chainB N 0 (sdL bs))) := by
  have HR := Lib.hid hr
  have HL := Lib.hid hr.len
  have HS := Lib.hid hs
  clear hr hs
  go_enter Try.func71, Try.ntmps71
  go_wp2
  go_loopw [5, 10] (fun v i wr => ∃ (k : Nat) (a : Int), k ≤ n ∧ i = .int .i64 k ∧ v = .int .i64 a ∧ Hid (chainB N 0 (sdL bs) = chainB N a ((sdL bs).drop k)) ∧ Hid (Below w.heap.size w wr)) (fun _ i _ => n - (intOf i).toNat)
  case atStart => exact ⟨0, 0, Nat.zero_le _, rfl, rfl, Lib.hid rfl, Lib.hid (Below.refl _ _)⟩
  case round =>
    obtain ⟨k, a, hk, rfl, rfl, hch, hbel⟩ := hrel
    by_cases hlt : k < n
    · obtain ⟨b, off, e, rfl, hbw, he, hok, c0, c1, c2⟩ := HR.out.at_ hlt
      have c0 := (hbel.out.cell (p := ⟨b, off + k * 3, none⟩) hbw).trans c0
      have c1 := (hbel.out.cell (p := ⟨b, off + k * 3 + 1, none⟩) hbw).trans c1
      have c2 := (hbel.out.cell (p := ⟨b, off + k * 3 + 2, none⟩) hbw).trans c2
      have C := Lib.hid (fun W (h : Below w.heap.size w W) => implShardOk e.lo e.hi e.A e.n e.c e.es W (hok.out.rd.below h) (HS.out e (List.mem_of_getElem? he.out)))
      have HA := Lib.hid (g_chain hbel.out (below_a1 wr (.cells #[.int .i64 e.lo, .int .i64 e.hi, .slice e.A e.n e.c] 29)))
      have HC := Lib.hid (hch.out.trans (chain_step he.out))
      clear hch hok
      go_wp2_with fail
      refine (C.out _ HA.out).mono ?_
      rintro e1 w1 ⟨rfl, hb1⟩
      have X1 := Lib.hid ((HBox.new wr e.lo e.hi e.A e.n e.c 29).below hb1)
      have HB := Lib.hid (g_chain HA.out hb1)
      obtain ⟨l0, x0, x1, x2⟩ := X1.out
      clear hb1 C c0 c1 c2
      cases hv : shardB e.lo e.hi e.es with
      | false =>
        have HV : Hid (chainB N 0 (sdL bs) = false) := Lib.hid (by rw [HC.out, hv]; rfl)
        clear hv
        go_wp2
        go_ret
        rw [HV.out]
        exact ⟨rfl, HB.out⟩
      | true =>
        by_cases hq : e.lo = a
        · have HN : Hid (chainB N 0 (sdL bs) = chainB N e.hi ((sdL bs).drop (k + 1))) := Lib.hid (by rw [HC.out, hv, decide_eq_true hq]; rfl)
          clear hv HC
          go_wp2
          go_roundw
          case rel => exact ⟨k + 1, e.hi, by omega, by go_num, rfl, HN, HB⟩
          case measure => simp [intOf]; omega
        · have HV : Hid (chainB N 0 (sdL bs) = false) := Lib.hid (by rw [HC.out, decide_eq_false hq]; simp)
          have hq2 : (e.lo == a) = false := by simpa using hq
          clear hv HC
          go_wp2
          go_ret
          rw [HV.out]
          exact ⟨rfl, HB.out⟩
    · obtain rfl : k = n := by omega
      have HV : Hid (chainB N 0 (sdL bs) = decide (a = N)) := Lib.hid (by
        have h := hch.out
        rw [List.drop_eq_nil_of_le (by rw [sdL_len, HL.out]; exact Nat.le_refl _), chainB] at h
        exact h)
      by_cases hq : a = N
      · go_wp2
        go_ret
        rw [HV.out]
        exact ⟨g_bool (by simp [hq]), hbel.out⟩
      · have hq2 : (a == N) = false := by simpa using hq
        go_wp2
        go_ret
        rw [HV.out]
        exact ⟨g_bool (by simp [hq]), hbel.out⟩
end Go.Proofs.Ytbfdhlpncblahaa
