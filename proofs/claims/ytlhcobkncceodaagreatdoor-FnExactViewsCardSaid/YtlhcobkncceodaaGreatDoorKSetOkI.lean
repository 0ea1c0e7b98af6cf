/- The contract of the program's function that asks whether a set is valid. -/
import Derived.Test.YtlhcobkncceodaaGreatDoorKSetW
import Derived.Stop.BytesEq
namespace Go.Proofs.YtlhcobkncceodaaGreatDoor
open Go.RowKit
set_option linter.unusedVariables false

theorem okB_1 {N : Int} {xs : List Nat} (h : N < 0) : setB N xs = false := by
  rw [Bool.eq_false_iff]
  intro e
  have := setB_dim e
  omega
theorem okB_2 {N : Int} {xs : List Nat} (h : 150 < N) : setB N xs = false := by
  rw [Bool.eq_false_iff]
  intro e
  have := setB_dim e
  omega
theorem okB_3 {N : Int} {xs : List Nat} (h : xs.length ≠ bytesN N.toNat) : setB N xs = false := by
  rw [Bool.eq_false_iff]
  intro e
  have := setB_dim e
  omega
/-! ### two arrays of eight bytes are compared -/
def wL (x c : Nat) : List UInt8 := (List.range 8).map fun i => UInt8.ofNat (wE x c i)
theorem wE_lt {x c i : Nat} (h : i < 8) : wE x c i < 256 := by
  unfold wE
  split
  · exact (pow8 h).1
  · omega
theorem cell_nat {n : Nat} (h : n < 256) : Extern.Stop.cell (UInt8.ofNat n) = .int .u8 (n : Int) := by
  unfold Extern.Stop.cell
  rw [UInt8.toNat_ofNat', Nat.mod_eq_of_lt h]
  rfl
theorem wC_bytes (x c : Nat) : wC x c = ((wL x c).map Extern.Stop.cell).toArray := by
  unfold wC wL
  rw [show List.range 8 = [0, 1, 2, 3, 4, 5, 6, 7] from rfl]
  simp only [List.map_cons, List.map_nil]
  rw [cell_nat (wE_lt (by omega)), cell_nat (wE_lt (by omega)), cell_nat (wE_lt (by omega)), cell_nat (wE_lt (by omega)), cell_nat (wE_lt (by omega)), cell_nat (wE_lt (by omega)), cell_nat (wE_lt (by omega)), cell_nat (wE_lt (by omega))]
theorem wL_eq {x c d : Nat} : wL x c = wL x d ↔ ∀ i, i < 8 → wE x c i = wE x d i := by
  unfold wL
  rw [List.map_inj_left]
  constructor
  · intro h i hi
    have := h i (List.mem_range.2 hi)
    have h2 := congrArg UInt8.toNat this
    rw [UInt8.toNat_ofNat', UInt8.toNat_ofNat', Nat.mod_eq_of_lt (wE_lt hi), Nat.mod_eq_of_lt (wE_lt hi)] at h2
    exact h2
  · intro h i hi
    rw [h i (List.mem_range.1 hi)]
theorem Tryz.sizeU8 (w : World) : (sizeOf 5).run Tryz.prog w = .ok 1 w := by
  obtain ⟨i0, hi, hz0, hz1, hz2⟩ := info_parts Tryz.infoByte
  simp [sizeOf, typeInfo, hi, hz1]
theorem eq_wC (x c d : Nat) (w : World) : Sem.run Tryz.prog (Op.equalIn 10000 140 (Value.agg (wC x c)) (Value.agg (wC x d))) w = .ok (wL x c == wL x d) w := by
  rw [wC_bytes, wC_bytes]
  exact run_equalIn_bytes w 9998 140 5 8 Tryz.underlying140 Tryz.underlying5 Tryz.sizeU8 _ _ (by simp [wL]) (by simp [wL])
/-- The byte bears no bit from place c on. -/
theorem wL_full {x c : Nat} (hc : c ≤ 8) : wL x 8 = wL x c ↔ ∀ i, c ≤ i → i < 8 → x.testBit i = false := by
  rw [wL_eq]
  constructor
  · intro h i h1 h2
    have := h i h2
    unfold wE at this
    rw [if_neg (show ¬ (i < c ∧ x.testBit i = true) by omega)] at this
    rw [Bool.eq_false_iff]
    intro e
    rw [if_pos ⟨h2, e⟩] at this
    have := (pow8 h2).2
    omega
  · intro h i hi
    unfold wE
    by_cases hic : i < c
    · simp only [hic, hi, true_and]
    · rw [if_neg (by rw [h i (by omega) hi]; simp), if_neg (by omega)]
/-- How many vertices the byte at place i stands for. -/
def cN (N i : Nat) : Nat := min (N - 8 * i) 8
theorem okB_all {N : Nat} {xs : List Nat} (hN : N ≤ 150) (hl : xs.length = bytesN N) (h : ∀ i x, xs[i]? = some x → wL x 8 = wL x (cN N i)) : setB (N : Int) xs = true := by
  refine setB_iff.2 ⟨⟨by omega, by omega, by rw [Int.toNat_natCast]; exact hl⟩, fun v hv => ?_⟩
  rw [Int.toNat_natCast] at hv
  rcases Nat.lt_or_ge (v / 8) xs.length with h1 | h1
  · have hx := List.getElem?_eq_getElem h1
    rw [bit_at hx]
    exact (wL_full (by unfold cN; omega)).1 (h _ _ hx) (v % 8) (by unfold cN; omega) (by omega)
  · exact bitN_far (by omega)
theorem okB_no {N k x : Nat} {xs : List Nat} (hx : xs[k]? = some x) (h : ¬ wL x 8 = wL x (cN N k)) : setB (N : Int) xs = false := by
  rw [Bool.eq_false_iff]
  intro e
  refine h ((wL_full (by unfold cN; omega)).2 fun j h1 h2 => ?_)
  have := (setB_iff.1 e).2 (8 * k + j) (by rw [Int.toNat_natCast]; unfold cN at h1; omega)
  rw [bit_at (x := x) (by rw [show (8 * k + j) / 8 = k by omega]; exact hx), show (8 * k + j) % 8 = j by omega] at this
  exact this
set_option maxRecDepth 10000 in
set_option maxHeartbeats 8000000 in
theorem implSetOk (N : Int) (A : Option Addr) (n c : Nat) (xs : List Nat) (w : World) (hw : Wts w) (hr : Rd w A n xs) (hn : n ≤ 2097152) :
    Calls Tryz.prog 94 #[.agg #[.int .i64 N, .slice A n c]] w (GTell w (setB N xs)) := by
  have HW := Lib.hid hw
  have HL := Lib.hid hr.len
  have HR := Lib.hid hr
  clear hr hw
  by_cases h1 : N < 0
  · have d1 : decide (N < 0) = true := by simp; omega
    rw [okB_1 h1]
    clear h1
    go_enter Tryz.func94, Tryz.ntmps94
    go_wp2
    go_quiet (fail)
    go_wp2
    go_ret
    exact ⟨rfl, below_drewN (below_a1 _ _) _⟩
  · by_cases h2 : 150 < N
    · have d1 : decide (N < 0) = false := by simp; omega
      have d2 : decide (150 < N) = true := by simp; omega
      rw [okB_2 h2]
      clear h1 h2
      go_enter Tryz.func94, Tryz.ntmps94
      go_wp2
      go_quiet (fail)
      go_wp2
      go_ret
      exact ⟨rfl, below_drewN (below_a1 _ _) _⟩
    · obtain ⟨N, rfl⟩ : ∃ k : Nat, N = (k : Int) := ⟨N.toNat, by omega⟩
      have d1 : decide ((N : Int) < 0) = false := by simp
      have d2 : decide (150 < (N : Int)) = false := by simp; omega
      have CB := Lib.hid (fun W => bytesFor N W (by omega))
      by_cases h3 : n = bytesN N
      · have d3 : ((n : Int) == ((bytesN N : Nat) : Int)) = true := by simp; omega
        have d4 : ((n : Int) != ((bytesN N : Nat) : Int)) = false := by simp; omega
        have HN : Hid (n = bytesN N) := Lib.hid h3
        have hn8 : n ≤ 19 := by rw [h3]; unfold bytesN; omega
        clear h1 h3
        generalize bytesN N = q at d3 d4 CB
        go_enter Tryz.func94, Tryz.ntmps94
        go_wp2
        go_quiet (first | (go_at_call 109; exact Calls.quiet_of_same ((CB.out _).mono fun _ _ h => ⟨h.1, h.2.symm⟩)))
        have HB0 := Lib.hid (below_drewN (below_a1 w (.cells #[.int .i64 (N : Int), .slice A n c] 30)) nq)
        have BX0 := Lib.hid ((Box2.new w (.int .i64 (N : Int)) (.slice A n c) 30).below (below_drewN (Below.refl _ _) nq))
        go_wp2
        go_loopw [26] (fun i wr => ∃ k : Nat, k ≤ n ∧ i = .int .i64 k ∧ Hid (Below w.heap.size w wr) ∧ Hid (Box2 wr w.heap.size (.int .i64 (N : Int)) (.slice A n c)) ∧ Hid (∀ i x, i < k → xs[i]? = some x → wL x 8 = wL x (cN N i))) (fun i _ => n - (intOf i).toNat)
        case atStart => exact ⟨0, Nat.zero_le _, rfl, HB0, BX0, Lib.hid (fun i x hi => absurd hi (by omega))⟩
        case round =>
          clear HB0 BX0
          obtain ⟨k, hk, rfl, hb, hbx, hall⟩ := hrel
          obtain ⟨l0, c0, c1⟩ := hbx.out
          by_cases hlt : k < n
          · obtain ⟨b, off, x, rfl, hbw, hx, hxs, hc⟩ := HR.out.at_ hlt
            have hc := (hb.out.cell (p := ⟨b, off + k, none⟩) hbw).trans hc
            have CW := Lib.hid (fun W (h : Below wr.heap.size wr W) (z : Int) (h0 : 0 ≤ z) (h8 : z ≤ 8) => by
              have hz := weightsIn x z.toNat W ((HW.out.below hb.out).below h) hx (by omega)
              rw [Int.toNat_of_nonneg h0] at hz
              exact hz.mono (fun e w' he => (⟨wC x z.toNat, he.1, Lib.hid rfl, he.2⟩ : ∃ cs, e = .returned (.agg cs) ∧ Hid (cs = wC x z.toNat) ∧ Below W.heap.size W w')))
            have hlow : 1 ≤ (N : Int) - (k : Int) * 8 := by rw [HN.out] at hlt; unfold bytesN at hlt; omega
            have hcn : Hid (∀ z : Int, z = min ((N : Int) - (k : Int) * 8) 8 → z.toNat = cN N k) := Lib.hid (fun z hz => by unfold cN; omega)
            go_wp2_with fail
            all_goals
              have hz8 : (0 : Int) ≤ 8 ∧ (8 : Int) ≤ 8 := by omega
              refine (CW.out _ (Below.refl _ _) _ hz8.1 hz8.2).mono ?_
              rintro e wa ⟨cs1, rfl, h81, hba⟩
              have HBA := Lib.hid hba
              clear hba
              go_wp2_with fail
              refine (CW.out _ HBA.out _ (by omega) (by omega)).mono ?_
              rintro e wb ⟨cs2, rfl, h82, hbb⟩
              have e1 : cs1 = wC x 8 := h81.out
              have e2 : cs2 = wC x (cN N k) := h82.out.trans (congrArg (wC x) (hcn.out _ (by omega)))
              have HQ : Sem.run Tryz.prog (Op.equalIn 10000 140 (Value.agg cs1) (Value.agg cs2)) wb = .ok (wL x 8 == wL x (cN N k)) wb := by
                rw [e1, e2]
                exact eq_wC x 8 (cN N k) wb
              have HBB := Lib.hid (s_chain HBA.out hbb)
              clear hbb e1 e2 h81 h82
              cases hq : (wL x 8 == wL x (cN N k)) with
              | true =>
                rw [hq] at HQ
                have hq2 := Lib.hid (beq_iff_eq.1 hq)
                clear hq
                go_wp2
                go_roundw
                case rel =>
                  refine ⟨k + 1, by omega, by go_num, Lib.hid (s_chain hb.out HBB.out), Lib.hid (hbx.out.below HBB.out), Lib.hid (fun i y hi hy => ?_)⟩
                  rcases Nat.lt_or_ge i k with h9 | h9
                  · exact hall.out i y h9 hy
                  · obtain rfl : i = k := by omega
                    have e9 := hxs.out.symm.trans hy
                    injection e9 with e9
                    rw [← e9]
                    exact hq2.out
                case measure => simp [intOf]; omega
              | false =>
                rw [hq] at HQ
                have hq2 := Lib.hid (okB_no hxs.out (beq_eq_false_iff_ne.1 hq))
                clear hq
                go_wp2
                go_ret
                exact ⟨g_bool hq2.out.symm, s_chain hb.out HBB.out⟩
          · obtain rfl : k = n := by omega
            have hq2 := Lib.hid (okB_all (N := N) (xs := xs) (by omega) (HL.out.trans HN.out) (fun i x hx => hall.out i x (by have := (List.getElem?_eq_some_iff.1 hx).1; rw [HL.out] at this; exact this) hx))
            go_wp2
            go_ret
            exact ⟨g_bool hq2.out.symm, hb.out⟩
      · have d3 : ((n : Int) == ((bytesN N : Nat) : Int)) = false := by simp; omega
        have d4 : ((n : Int) != ((bytesN N : Nat) : Int)) = true := by simp; omega
        have HE := Lib.hid (okB_3 (N := (N : Int)) (xs := xs) (by rw [HL.out, Int.toNat_natCast]; exact h3))
        rw [HE.out]
        clear h1 h2 h3 HE
        generalize bytesN N = q at d3 d4 CB
        go_enter Tryz.func94, Tryz.ntmps94
        go_wp2
        go_quiet (first | (go_at_call 109; exact Calls.quiet_of_same ((CB.out _).mono fun _ _ h => ⟨h.1, h.2.symm⟩)))
        go_wp2
        go_ret
        exact ⟨rfl, below_drewN (below_a1 _ _) _⟩
end Go.Proofs.YtlhcobkncceodaaGreatDoor
