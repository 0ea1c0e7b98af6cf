/- The contract of the model's l10Told: the labels that the views tell. Conditions: at most 2^20 views, their values in their limits. -/
import Derived.Test.YtgmgpadijajkkaaLab
import Derived.Test.YtgmgpadijajkkaaNewI
import Derived.Test.YtgmgpadijajkkaaEdgeV
import Derived.Test.YtgmgpadijajkkaaAppend
namespace Go.Proofs.Ytgmgpadijajkkaa
open Go.RowKit

set_option maxRecDepth 10000 in
set_option maxHeartbeats 4000000 in
theorem specTold (A : Option Addr) (n c : Nat) (es : List VE) (w : World) (hr : SlV w A n es) (hn : n ≤ 1048576) (hv : ∀ e ∈ es, 0 ≤ e.v ∧ e.v ≤ 1099511627776) :
    Calls Try.prog 64 #[.slice A n c] w (MadeZ w (told es)) := by
  obtain ⟨i0, hi, hz0, hz1, hz2⟩ := info_parts Try.infoInt
  have HR := Lib.hid hr
  have HL := Lib.hid hr.len
  have HV := Lib.hid hv
  clear hr hv
  go_enter Try.func64, Try.ntmps64
  go_wp2
  go_loopw [3, 9] (fun o i wr => ∃ (k : Nat) (A1 : Option Addr) (c1 : Nat), k ≤ n ∧ i = .int .i64 (k : Int) ∧ o = .slice A1 (told (es.take k)).length c1 ∧ Hid (wr.ownsRow w.heap.size 3 1 (.slice A1 (told (es.take k)).length c1) (told (es.take k)).length (vi (told (es.take k)))) ∧ Hid (Below w.heap.size w wr)) (fun _ i _ => n - (intOf i).toNat)
  case atStart => exact ⟨0, some ⟨w.heap.size, 0, none⟩, 0, Nat.zero_le _, rfl, rfl, Lib.hid (lab_built w), Lib.hid (below_a1 _ _)⟩
  case round =>
    obtain ⟨k, A1, c1, hk, rfl, rfl, hown, hbel⟩ := hrel
    have hlen := told_len (es.take k)
    rw [List.length_take] at hlen
    obtain ⟨ms, HMS⟩ : ∃ ms, Hid (told (es.take k) = ms) := ⟨_, Lib.hid rfl⟩
    rw [HMS.out] at hown hlen
    rw [HMS.out]
    by_cases hlt : k < n
    · have hml : ms.length ≤ 2097152 := by omega
      clear hlen
      obtain ⟨b, off, e, rfl, hbw, he, c0, c1', c2, c3⟩ := HR.out.at_ hlt
      have c0 := (hbel.out.cell (p := ⟨b, off + k * 4, none⟩) hbw).trans c0
      have c1' := (hbel.out.cell (p := ⟨b, off + k * 4 + 1, none⟩) hbw).trans c1'
      have c2 := (hbel.out.cell (p := ⟨b, off + k * 4 + 2, none⟩) hbw).trans c2
      have c3 := (hbel.out.cell (p := ⟨b, off + k * 4 + 3, none⟩) hbw).trans c3
      have HN := Lib.hid (told_snoc he.out)
      obtain ⟨q, r, hq, hr, hq1, hr1⟩ := lab_parts (HV.out e (List.mem_of_getElem? he.out))
      have hq2 : IntKind.i64.wrap q = q := IntWalk.i64_in _ (by omega)
      have hd : IntKind.i64.wrap (Int.tdiv e.v 1000) = q := by rw [hq]; exact hq2
      cases hi9 : e.i with
      | true =>
        cases ho9 : e.o with
        | true =>
          rw [hi9] at c0
          rw [ho9] at c1'
          have HE : Hid (told (es.take (k + 1)) = ms ++ [q] ++ [r]) := Lib.hid (by rw [HN.out]; unfold VE.labs; rw [hi9, ho9, hq, hr]; simp only [HMS.out]; simp)
          have OV := Lib.hid (own_below hown.out (below_a1 wr (.cells #[.bool true, .bool true, .int .i64 e.w, .int .i64 e.v] 32)))
          have BV := Lib.hid (g_chain hbel.out (below_a1 wr (.cells #[.bool true, .bool true, .int .i64 e.w, .int .i64 e.v] 32)))
          have XV := Lib.hid (Blk.new wr #[.bool true, .bool true, .int .i64 e.w, .int .i64 e.v] 32)
          have hlo := hbel.out.size
          clear hi9 ho9
          have Opx := Lib.hid (OV.out.alloc (.cells #[.int .i64 q] 3))
          go_wp2_with (at_builtin; refine wpList_append_any _ rfl (.tmp 15) (.tmp 19) _ rfl w.heap.size 3 i0 _ 1 8 Try.underlying28 hi hz0 hz1 hz2 rfl (by omega) (.slice A1 ms.length c1) ms.length (vi ms) rfl Opx.out ((wr.heap.size + 1) + 1) (some ⟨(wr.heap.size + 1), 0, none⟩) 1 1 [.int .i64 q] rfl (lab_reads _ _ _ _ (by simp)) (lab_one _) (by simp only [maxLen]; omega) (by omega) (by simp; omega) ?_)
          intro vp wp hownp hgp _
          obtain ⟨A1p, c1p, rfl⟩ := lab_form hownp
          obtain ⟨msp, HMp⟩ : ∃ l, Hid (l = ms ++ [q]) := ⟨_, Lib.hid rfl⟩
          have hlep : ms.length + 1 = msp.length := by rw [HMp.out]; simp
          have Op : Hid (wp.ownsRow w.heap.size 3 1 (.slice A1p msp.length c1p) msp.length (vi msp)) := Lib.hid (by rw [HMp.out, lab_snoc, List.length_append]; exact hownp)
          have Bp : Hid (Below w.heap.size w wp) := Lib.hid (lab_below (g_chain BV.out (below_a1 _ _)) Opx.out (by have := (BV.out).size; simp; omega) hgp)
          have hlop := Bp.out.size
          have XP := Lib.hid ((XV.out.alloc (.cells #[.int .i64 q] 3)).grown hgp (lab_ne hown.out (Nat.le_refl _)))
          have hx1 := XP.out.cell (i := 1) rfl
          have hx3 := XP.out.cell (i := 3) rfl
          clear hownp hgp OV BV
          rw [hlep]
          have Ozx := Lib.hid (Op.out.alloc (.cells #[.int .i64 r] 3))
          go_wp2_with (at_builtin; refine wpList_append_any _ rfl (.tmp 23) (.tmp 27) _ rfl w.heap.size 3 i0 _ 1 8 Try.underlying28 hi hz0 hz1 hz2 rfl (by omega) (.slice A1p msp.length c1p) msp.length (vi msp) rfl Ozx.out (wp.heap.size + 1) (some ⟨wp.heap.size, 0, none⟩) 1 1 [.int .i64 r] rfl (lab_reads _ _ _ _ (by simp)) (lab_one _) (by simp only [maxLen]; omega) (by omega) (by simp; omega) ?_)
          intro vz wz hownz hgz _
          obtain ⟨A1z, c1z, rfl⟩ := lab_form hownz
          obtain ⟨msz, HMz⟩ : ∃ l, Hid (l = msp ++ [r]) := ⟨_, Lib.hid rfl⟩
          have hlez : msp.length + 1 = msz.length := by rw [HMz.out]; simp
          have Oz : Hid (wz.ownsRow w.heap.size 3 1 (.slice A1z msz.length c1z) msz.length (vi msz)) := Lib.hid (by rw [HMz.out, lab_snoc, List.length_append]; exact hownz)
          have Bz : Hid (Below w.heap.size w wz) := Lib.hid (lab_below (g_chain Bp.out (below_a1 _ _)) Ozx.out (by have := (Bp.out).size; simp; omega) hgz)
          have hloz := Bz.out.size
          clear hownz hgz
          rw [hlez]
          go_wp2
          go_roundw
          case rel => exact ⟨k + 1, A1z, c1z, by omega, by go_num, by rw [HE.out, ← HMp.out, ← HMz.out], Lib.hid (by rw [HE.out, ← HMp.out, ← HMz.out]; exact Oz.out), Bz⟩
          case measure => simp [intOf]; omega
        | false =>
          rw [hi9] at c0
          rw [ho9] at c1'
          have HE : Hid (told (es.take (k + 1)) = ms ++ [q]) := Lib.hid (by rw [HN.out]; unfold VE.labs; rw [hi9, ho9, hq, hr]; simp only [HMS.out]; simp)
          have OV := Lib.hid (own_below hown.out (below_a1 wr (.cells #[.bool true, .bool false, .int .i64 e.w, .int .i64 e.v] 32)))
          have BV := Lib.hid (g_chain hbel.out (below_a1 wr (.cells #[.bool true, .bool false, .int .i64 e.w, .int .i64 e.v] 32)))
          have XV := Lib.hid (Blk.new wr #[.bool true, .bool false, .int .i64 e.w, .int .i64 e.v] 32)
          have hlo := hbel.out.size
          clear hi9 ho9
          have Opx := Lib.hid (OV.out.alloc (.cells #[.int .i64 q] 3))
          go_wp2_with (at_builtin; refine wpList_append_any _ rfl (.tmp 15) (.tmp 19) _ rfl w.heap.size 3 i0 _ 1 8 Try.underlying28 hi hz0 hz1 hz2 rfl (by omega) (.slice A1 ms.length c1) ms.length (vi ms) rfl Opx.out ((wr.heap.size + 1) + 1) (some ⟨(wr.heap.size + 1), 0, none⟩) 1 1 [.int .i64 q] rfl (lab_reads _ _ _ _ (by simp)) (lab_one _) (by simp only [maxLen]; omega) (by omega) (by simp; omega) ?_)
          intro vp wp hownp hgp _
          obtain ⟨A1p, c1p, rfl⟩ := lab_form hownp
          obtain ⟨msp, HMp⟩ : ∃ l, Hid (l = ms ++ [q]) := ⟨_, Lib.hid rfl⟩
          have hlep : ms.length + 1 = msp.length := by rw [HMp.out]; simp
          have Op : Hid (wp.ownsRow w.heap.size 3 1 (.slice A1p msp.length c1p) msp.length (vi msp)) := Lib.hid (by rw [HMp.out, lab_snoc, List.length_append]; exact hownp)
          have Bp : Hid (Below w.heap.size w wp) := Lib.hid (lab_below (g_chain BV.out (below_a1 _ _)) Opx.out (by have := (BV.out).size; simp; omega) hgp)
          have hlop := Bp.out.size
          have XP := Lib.hid ((XV.out.alloc (.cells #[.int .i64 q] 3)).grown hgp (lab_ne hown.out (Nat.le_refl _)))
          have hx1 := XP.out.cell (i := 1) rfl
          have hx3 := XP.out.cell (i := 3) rfl
          clear hownp hgp OV BV
          rw [hlep]
          go_wp2
          go_roundw
          case rel => exact ⟨k + 1, A1p, c1p, by omega, by go_num, by rw [HE.out, ← HMp.out], Lib.hid (by rw [HE.out, ← HMp.out]; exact Op.out), Bp⟩
          case measure => simp [intOf]; omega
      | false =>
        cases ho9 : e.o with
        | true =>
          rw [hi9] at c0
          rw [ho9] at c1'
          have HE : Hid (told (es.take (k + 1)) = ms ++ [r]) := Lib.hid (by rw [HN.out]; unfold VE.labs; rw [hi9, ho9, hq, hr]; simp only [HMS.out]; simp)
          have OV := Lib.hid (own_below hown.out (below_a1 wr (.cells #[.bool false, .bool true, .int .i64 e.w, .int .i64 e.v] 32)))
          have BV := Lib.hid (g_chain hbel.out (below_a1 wr (.cells #[.bool false, .bool true, .int .i64 e.w, .int .i64 e.v] 32)))
          have XV := Lib.hid (Blk.new wr #[.bool false, .bool true, .int .i64 e.w, .int .i64 e.v] 32)
          have hlo := hbel.out.size
          clear hi9 ho9
          have Ozx := Lib.hid (OV.out.alloc (.cells #[.int .i64 r] 3))
          go_wp2_with (at_builtin; refine wpList_append_any _ rfl (.tmp 23) (.tmp 27) _ rfl w.heap.size 3 i0 _ 1 8 Try.underlying28 hi hz0 hz1 hz2 rfl (by omega) (.slice A1 ms.length c1) ms.length (vi ms) rfl Ozx.out ((wr.heap.size + 1) + 1) (some ⟨(wr.heap.size + 1), 0, none⟩) 1 1 [.int .i64 r] rfl (lab_reads _ _ _ _ (by simp)) (lab_one _) (by simp only [maxLen]; omega) (by omega) (by simp; omega) ?_)
          intro vz wz hownz hgz _
          obtain ⟨A1z, c1z, rfl⟩ := lab_form hownz
          obtain ⟨msz, HMz⟩ : ∃ l, Hid (l = ms ++ [r]) := ⟨_, Lib.hid rfl⟩
          have hlez : ms.length + 1 = msz.length := by rw [HMz.out]; simp
          have Oz : Hid (wz.ownsRow w.heap.size 3 1 (.slice A1z msz.length c1z) msz.length (vi msz)) := Lib.hid (by rw [HMz.out, lab_snoc, List.length_append]; exact hownz)
          have Bz : Hid (Below w.heap.size w wz) := Lib.hid (lab_below (g_chain BV.out (below_a1 _ _)) Ozx.out (by have := (BV.out).size; simp; omega) hgz)
          have hloz := Bz.out.size
          clear hownz hgz
          rw [hlez]
          go_wp2
          go_roundw
          case rel => exact ⟨k + 1, A1z, c1z, by omega, by go_num, by rw [HE.out, ← HMz.out], Lib.hid (by rw [HE.out, ← HMz.out]; exact Oz.out), Bz⟩
          case measure => simp [intOf]; omega
        | false =>
          rw [hi9] at c0
          rw [ho9] at c1'
          have HE : Hid (told (es.take (k + 1)) = ms) := Lib.hid (by rw [HN.out]; unfold VE.labs; rw [hi9, ho9, hq, hr]; simp only [HMS.out]; simp)
          have OV := Lib.hid (own_below hown.out (below_a1 wr (.cells #[.bool false, .bool false, .int .i64 e.w, .int .i64 e.v] 32)))
          have BV := Lib.hid (g_chain hbel.out (below_a1 wr (.cells #[.bool false, .bool false, .int .i64 e.w, .int .i64 e.v] 32)))
          have XV := Lib.hid (Blk.new wr #[.bool false, .bool false, .int .i64 e.w, .int .i64 e.v] 32)
          have hlo := hbel.out.size
          clear hi9 ho9
          go_wp2
          go_roundw
          case rel => exact ⟨k + 1, A1, c1, by omega, by go_num, by rw [HE.out], Lib.hid (by rw [HE.out]; exact OV.out), BV⟩
          case measure => simp [intOf]; omega
    · obtain rfl : k = n := by omega
      have HT : Hid (ms = told es) := Lib.hid (by rw [← HMS.out, List.take_of_length_le (by rw [HL.out]; exact Nat.le_refl _)])
      go_wp2
      go_ret
      rw [HT.out] at hown
      exact ⟨A1, c1, by rw [HT.out]; first | rfl | simp, hown.out, hbel.out⟩
end Go.Proofs.Ytgmgpadijajkkaa
