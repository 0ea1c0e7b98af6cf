/- The contract of the model's function that lists the members of a set. -/
import Derived.Test.YtlhcobkncceodaaGreatDoorKSetHasS
import Derived.Test.YtlhcobkncceodaaGreatDoorKSetMem
namespace Go.Proofs.YtlhcobkncceodaaGreatDoor
open Go.RowKit
set_option linter.unusedVariables false

theorem built_ints (w : World) : (w.alloc (.cells #[] 3)).ownsRow w.heap.size 3 1 (.slice (some ⟨w.heap.size, 0, none⟩) 0 0) 0 [] :=
  World.ownsRow_lit w #[] 0 (Nat.le_refl _) (by unfold maxLen; omega) rfl
theorem built_ints1 (w : World) (o : Obj) : ((w.alloc o).alloc (.cells #[] 3)).ownsRow (w.heap.size + 1) 3 1 (.slice (some ⟨w.heap.size + 1, 0, none⟩) 0 0) 0 [] := by
  have h := built_ints (w.alloc o)
  rw [World.size_alloc] at h
  exact h
theorem has_in {N k : Nat} {xs : List Nat} (hok : setB (N : Int) xs = true) (hk : k < N) : hasB (N : Int) xs (k : Int) = bitN xs k := by
  unfold hasB
  rw [hok, decide_eq_true (by omega : (0 : Int) ≤ (k : Int)), decide_eq_true (by omega : (k : Int) < (N : Int)), Int.toNat_natCast]
  rfl
set_option maxRecDepth 10000 in
set_option maxHeartbeats 8000000 in
theorem specMembers (N : Int) (A : Option Addr) (n c : Nat) (xs : List Nat) (w : World) (hr : Rd w A n xs) (hn : n ≤ 2097152) :
    Calls Tryz.prog 78 #[.agg #[.int .i64 N, .slice A n c]] w (MadeMs w (memsB N xs)) := by
  obtain ⟨i0, hi, hz0, hz1, hz2⟩ := info_parts Tryz.infoInt
  have HR := Lib.hid hr
  have HL := Lib.hid hr.len
  clear hr
  have C1 := Lib.hid (fun W (h : Below w.heap.size w W) => specSetOk N A n c xs W (HR.out.below h) hn)
  have HB0 := Lib.hid ((SBx.new w N A n c).below (below_a1 _ (.cells #[] 3)))
  have HOW := Lib.hid (built_ints1 w (.cells #[.int .i64 N, .slice A n c] 30))
  have HBA := Lib.hid (below_a2 w (.cells #[.int .i64 N, .slice A n c] 30) (.cells #[] 3))
  obtain ⟨l0, c00, c01, f00, f01⟩ := HB0.out.parts
  unfold memsB
  cases hok : setB N xs with
  | false =>
    rw [hok] at C1
    rw [if_neg (by simp)]
    by_cases h0 : 0 < N
    · have d1 : decide (0 < N) = true := by simp; omega
      go_enter Tryz.func78, Tryz.ntmps78
      go_wp2
      refine wp_loop_rounds 1 ?_
      rw [rounds_succ]
      go_wp2_with fail
      refine (C1.out _ HBA.out).mono ?_
      rintro e w1 ⟨rfl, hb1⟩
      have HO := Lib.hid (own_below HOW.out hb1)
      have HBW := Lib.hid (s_chain HBA.out hb1)
      clear hb1 l0 c00 c01 f00 f01
      go_wp2
      go_ret
      exact ⟨some ⟨w.heap.size + 1, 0, none⟩, 0, rfl, own_monoG (lo' := w.heap.size) HO.out (by omega), HBW.out⟩
    · have d1 : decide (0 < N) = false := by simp; omega
      go_enter Tryz.func78, Tryz.ntmps78
      go_wp2
      refine wp_loop_rounds 1 ?_
      rw [rounds_succ]
      go_wp2
      go_ret
      exact ⟨some ⟨w.heap.size + 1, 0, none⟩, 0, rfl, own_monoG (lo' := w.heap.size) HOW.out (by omega), HBA.out⟩
  | true =>
    rw [hok] at C1
    rw [if_pos rfl]
    have hdim := setB_dim hok
    obtain ⟨N, rfl⟩ : ∃ k : Nat, N = (k : Int) := ⟨N.toNat, by omega⟩
    have hN : N ≤ 150 := by omega
    have HOK := Lib.hid hok
    rw [Int.toNat_natCast]
    clear hdim hok
    go_enter Tryz.func78, Tryz.ntmps78
    go_wp2
    go_loopw [3, 4] (fun o i wr => ∃ (k : Nat) (A1 : Option Addr) (c1 : Nat), k ≤ N ∧ i = .int .i64 (k : Int) ∧ o = .slice A1 (memsR xs k).length c1 ∧ Hid (wr.ownsRow (w.heap.size + 1) 3 1 (.slice A1 (memsR xs k).length c1) (memsR xs k).length (vi (memsR xs k))) ∧ Hid (SBx wr w.heap.size (N : Int) A n c) ∧ Hid (Below w.heap.size w wr)) (fun _ i _ => N - (intOf i).toNat)
    case atStart => exact ⟨0, some ⟨w.heap.size + 1, 0, none⟩, 0, Nat.zero_le _, rfl, rfl, HOW, HB0, HBA⟩
    case round =>
      clear HOW HB0 HBA l0 c00 c01 f00 f01
      obtain ⟨k, A1, c1, hk, rfl, rfl, hown, hbx, hbel⟩ := hrel
      have hlen := mems_len xs k
      obtain ⟨l0, c00, c01, f00, f01⟩ := hbx.out.parts
      by_cases hlt : k < N
      · have C2 := Lib.hid (fun W (h : Below w.heap.size w W) => specHas (N : Int) (k : Int) A n c xs W (HR.out.below h) hn (WalkArith.wf_i64 (by omega)))
        rw [has_in HOK.out hlt] at C2
        have HST := Lib.hid (mems_step xs k)
        go_wp2_with fail
        refine (C1.out _ hbel.out).mono ?_
        rintro e w1 ⟨rfl, hb1⟩
        have O1 := Lib.hid (own_below hown.out hb1)
        have B1 := Lib.hid (s_chain hbel.out hb1)
        have Y1 := Lib.hid (hbx.out.below hb1)
        clear hb1 l0 c00 c01 f00 f01 hown hbel hbx
        obtain ⟨l0, c00, c01, f00, f01⟩ := Y1.out.parts
        go_wp2_with fail
        refine (C2.out _ B1.out).mono ?_
        rintro e w2 ⟨rfl, hb2⟩
        have O2 := Lib.hid (own_below O1.out hb2)
        have B2 := Lib.hid (s_chain B1.out hb2)
        have Y2 := Lib.hid (Y1.out.below hb2)
        clear hb2 l0 c00 c01 f00 f01 O1 B1 Y1
        obtain ⟨l0, c00, c01, f00, f01⟩ := Y2.out.parts
        cases hbt : bitN xs k with
        | true =>
          rw [hbt, if_pos rfl] at HST
          obtain ⟨ns, hns⟩ : ∃ ns, Hid (memsR xs (k + 1) = ns) := ⟨_, Lib.hid rfl⟩
          rw [hns.out] at HST
          generalize memsR xs k = ms at O2 hlen HST ⊢
          clear hbt
          go_wp2_with (at_builtin; refine wpList_append_any _ rfl (.tmp 19) (.tmp 21) _ rfl (w.heap.size + 1) 3 i0 _ 1 8 Tryz.underlying28 hi hz0 hz1 hz2 rfl (by omega) (.slice A1 ms.length c1) ms.length (vi ms) rfl (O2.out.alloc _) (w2.heap.size + 1) (some ⟨w2.heap.size, 0, none⟩) 1 1 [.int .i64 (k : Int)] rfl (mem_reads _ _) (mem_one _) (by simp only [maxLen]; omega) (by omega) (by simp; omega) ?_)
          intro v4 w4 hown4 hg4 _
          obtain ⟨A4, c4, rfl⟩ := own_form hown4
          have hle : ms.length + 1 = ns.length := by rw [HST.out]; simp
          have HO4 : Hid (w4.ownsRow (w.heap.size + 1) 3 1 (.slice A4 ns.length c4) ns.length (vi ns)) := Lib.hid (by rw [HST.out, mem_snoc, List.length_append]; exact hown4)
          have HY4 := Lib.hid ((Y2.out.below (below_a1 _ (.cells #[.int .i64 (k : Int)] 3))).grown hg4 (mem_ge O2.out (by omega)))
          have HB4 : Hid (Below w.heap.size w w4) := Lib.hid ((B2.out.alloc B2.out.size _).grown hg4 (by have := B2.out.size; simp; omega) (fun k hk => by have := (O2.out.lt k hk).1; omega))
          clear hown4 hg4 O2 B2 Y2 l0 c00 c01 f00 f01
          rw [hle]
          go_wp2
          go_roundw
          case rel => exact ⟨k + 1, A4, c4, by omega, by go_num, by rw [hns.out], Lib.hid (by rw [hns.out]; exact HO4.out), HY4, HB4⟩
          case measure => simp [intOf]; omega
        | false =>
          rw [hbt, if_neg (by simp)] at HST
          go_wp2
          go_roundw
          case rel => exact ⟨k + 1, A1, c1, by omega, by go_num, by rw [HST.out], Lib.hid (by rw [HST.out]; exact O2.out), Y2, B2⟩
          case measure => simp [intOf]; omega
      · obtain rfl : k = N := by omega
        have d1 : decide (k < k) = false := by simp
        go_wp2
        go_ret
        exact ⟨A1, c1, rfl, own_monoG (lo' := w.heap.size) hown.out (by omega), hbel.out⟩
end Go.Proofs.YtlhcobkncceodaaGreatDoor
