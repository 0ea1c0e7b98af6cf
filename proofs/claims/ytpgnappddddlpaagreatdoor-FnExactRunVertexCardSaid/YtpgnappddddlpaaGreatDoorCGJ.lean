/- The contracts of the model's functions that ask for the worth of a vertex's bit and whether a set is valid. // The contract of the model's function that copies a set. -/
import Derived.Test.YtpgnappddddlpaaGreatDoorCGC
import Derived.Test.YtpgnappddddlpaaGreatDoorCGH
namespace Go.Proofs.YtpgnappddddlpaaGreatDoor
open Go.RowKit
set_option linter.unusedVariables false

theorem s_div (v : Nat) : ((v : Int)).tdiv 8 = ((v / 8 : Nat) : Int) := by rw [Int.tdiv_eq_ediv_of_nonneg (by omega)]; omega
theorem s_mod (v : Nat) : ((v : Int)).tmod 8 = ((v % 8 : Nat) : Int) := by rw [Int.tmod_eq_emod_of_nonneg (by omega)]; omega
theorem s_bit {xs : List Nat} {v x : Nat} (h : xs[v / 8]? = some x) : bitN xs v = decide (x / 2 ^ (v % 8) % 2 = 1) := by
  unfold bitN
  rw [List.getD_eq_getElem?_getD, h, ← byteBit]
  rfl
set_option maxRecDepth 10000 in
set_option maxHeartbeats 4000000 in
theorem specBit (v : Nat) (w : World) (hv : v ≤ 1048576) :
    Calls Tryz.prog 51 #[.int .i64 (v : Int)] w fun e w' => e = .returned (.int .i64 ((2 ^ (v % 8) : Nat) : Int)) ∧ w = w' := by
  have hmv := s_mod v
  have hr8 : v % 8 < 8 := by omega
  generalize v % 8 = r at hmv hr8 ⊢
  obtain ⟨Q, hQ⟩ : ∃ Q, Hid (2 ^ r = Q) := ⟨_, Lib.hid rfl⟩
  rw [hQ.out]
  go_enter Tryz.func51, Tryz.ntmps51
  go_wp2
  go_loop [3, 4] (fun t i => ∃ k : Nat, k ≤ r ∧ i = .int .i64 k ∧ ∃ q : Nat, t = .int .i64 (q : Int) ∧ Hid (2 ^ k = q)) (fun _ i => r - (intOf i).toNat)
  case atStart => exact ⟨0, Nat.zero_le _, rfl, 1, rfl, Lib.hid (Nat.pow_zero 2)⟩
  case round =>
    obtain ⟨k, hk, rfl, q, rfl, hq⟩ := hrel
    have hq256 : q < 256 := by rw [← hq.out]; exact (pow8 (by omega)).1
    by_cases hlt : k < r
    · go_wp2
      go_round
      case rel => exact ⟨k + 1, by omega, by go_num, q * 2, by go_num, Lib.hid (by rw [Nat.pow_succ, hq.out])⟩
      case measure => simp [intOf]; omega
    · obtain rfl : k = r := by omega
      go_wp2
      go_ret
      exact ⟨by rw [← hQ.out, hq.out]; rfl, rfl⟩

theorem sokB_1 {N : Int} {xs : List Nat} (h : N < 0 ∨ 150 < N) : setB N xs = false := by
  rw [Bool.eq_false_iff]
  intro e
  have := setB_dim e
  omega
theorem sokB_3 {N : Int} {xs : List Nat} (h : xs.length ≠ bytesN N.toNat) : setB N xs = false := by
  rw [Bool.eq_false_iff]
  intro e
  have := setB_dim e
  omega
/-- The byte's quotient and its parity. -/
theorem s_quo (x q : Nat) : ((x : Int)).tdiv (q : Int) = ((x / q : Nat) : Int) := by rw [Int.tdiv_eq_ediv_of_nonneg (by omega)]; simp
theorem s_two (x : Nat) : ((x : Int)).tmod 2 = ((x % 2 : Nat) : Int) := by rw [Int.tmod_eq_emod_of_nonneg (by omega)]; omega
set_option maxRecDepth 10000 in
set_option maxHeartbeats 8000000 in
theorem specSetOk (N : Int) (A : Option Addr) (n c : Nat) (xs : List Nat) (w : World) (hr : Rd w A n xs) (hn : n ≤ 2097152) :
    Calls Tryz.prog 24 #[.agg #[.int .i64 N, .slice A n c]] w (GTell w (setB N xs)) := by
  have HL := Lib.hid hr.len
  have HR := Lib.hid hr
  clear hr
  by_cases h1 : N < 0
  · have d1 : decide (N < 0) = true := by simp; omega
    rw [sokB_1 (.inl h1)]
    clear h1
    go_enter Tryz.func24, Tryz.ntmps24
    go_wp2
    go_ret
    exact ⟨rfl, below_a1 _ _⟩
  · by_cases h2 : 150 < N
    · have d1 : decide (N < 0) = false := by simp; omega
      have d2 : decide (150 < N) = true := by simp; omega
      rw [sokB_1 (.inr h2)]
      clear h1 h2
      go_enter Tryz.func24, Tryz.ntmps24
      go_wp2
      go_ret
      exact ⟨rfl, below_a1 _ _⟩
    · obtain ⟨N, rfl⟩ : ∃ k : Nat, N = (k : Int) := ⟨N.toNat, by omega⟩
      have d1 : decide ((N : Int) < 0) = false := by simp
      have d2 : decide (150 < (N : Int)) = false := by simp; omega
      have hN : N ≤ 150 := by omega
      have hb1 : ((N : Int) + 7).tdiv 8 = ((bytesN N : Nat) : Int) := by rw [Int.tdiv_eq_ediv_of_nonneg (by omega)]; unfold bytesN; omega
      have hb2 : bytesN N ≤ 20 := by unfold bytesN; omega
      by_cases h3 : n = bytesN N
      · have d3 : ((n : Int) == ((bytesN N : Nat) : Int)) = true := by simp; omega
        have d4 : ((n : Int) != ((bytesN N : Nat) : Int)) = false := by simp; omega
        have HN : Hid (n = bytesN N) := Lib.hid h3
        have hn8 : n ≤ 20 := by omega
        have hN8 : N ≤ 8 * n := by rw [h3]; unfold bytesN; omega
        clear h1 h2 h3
        generalize bytesN N = q at d3 d4 hb1 hb2
        go_enter Tryz.func24, Tryz.ntmps24
        go_wp2
        go_loopw [3] (fun i wr => ∃ k : Nat, N ≤ k ∧ k ≤ 8 * n ∧ i = .int .i64 k ∧ Hid (Below w.heap.size w wr) ∧ Hid (SBx wr w.heap.size (N : Int) A n c) ∧ Hid (∀ v, N ≤ v → v < k → bitN xs v = false)) (fun i _ => 8 * n - (intOf i).toNat)
        case atStart => exact ⟨N, Nat.le_refl _, hN8, rfl, Lib.hid (below_a1 _ _), Lib.hid (SBx.new w (N : Int) A n c), Lib.hid (fun v h1 h2 => absurd h2 (by omega))⟩
        case round =>
          obtain ⟨k, hNk, hk, rfl, hb, hbx, hall⟩ := hrel
          obtain ⟨l0, c00, c01, f00, f01⟩ := hbx.out.parts
          by_cases hlt : k < 8 * n
          · have hkd : k / 8 < n := by omega
            obtain ⟨b, off, x, rfl, hbw, hx, hxs, hc⟩ := HR.out.at_ hkd
            have hc := (hb.out.cell (p := ⟨b, off + k / 8, none⟩) hbw).trans hc
            have CB := Lib.hid (fun W => specBit k W (by omega))
            have hdv := s_div k
            have hbt := Lib.hid (s_bit hxs.out)
            obtain ⟨hq1, hq2⟩ := pow8 (k := k % 8) (by omega)
            generalize 2 ^ (k % 8) = p at CB hbt hq1 hq2
            generalize k / 8 = d at hdv hc hkd
            have hwd : IntKind.i64.wrap (d : Int) = (d : Int) := IntWalk.i64_in _ (by omega)
            have hpz : ((p : Int) == 0) = false := by simp; omega
            have hqu := s_quo x p
            have hxp : x / p ≤ x := Nat.div_le_self _ _
            generalize x / p = y at hqu hbt hxp
            have hwy : IntKind.i64.wrap (y : Int) = (y : Int) := IntWalk.i64_in _ (by omega)
            have htw := s_two y
            have hy2 : y % 2 < 2 := by omega
            have hby : Hid (bitN xs k = decide (y % 2 = 1)) := hbt
            generalize y % 2 = z at htw hby hy2
            have hwz : IntKind.i64.wrap (z : Int) = (z : Int) := IntWalk.i64_in _ (by omega)
            clear hbt hxs
            by_cases hz : z = 1
            · subst hz
              have hd1 : (((1 : Nat) : Int) == 1) = true := by simp
              have HNO : Hid (setB (N : Int) xs = false) := Lib.hid (by
                rw [Bool.eq_false_iff]
                intro e
                have h9 := (setB_iff.1 e).2 k (by rw [Int.toNat_natCast]; exact hNk)
                rw [hby.out] at h9
                simp at h9)
              clear hby
              go_wp2
              go_quiet (first | (go_at_call 51; exact Calls.quiet_of_same ((CB.out _).mono fun _ _ h => ⟨h.1, h.2.symm⟩)))
              go_wp2
              go_ret
              exact ⟨g_bool HNO.out.symm, s_chain hb.out (below_drewN (Below.refl _ _) _)⟩
            · have hd1 : ((z : Int) == 1) = false := by simp; omega
              have HBY : Hid (bitN xs k = false) := Lib.hid (by rw [hby.out]; simp [hz])
              clear hby
              go_wp2
              go_quiet (first | (go_at_call 51; exact Calls.quiet_of_same ((CB.out _).mono fun _ _ h => ⟨h.1, h.2.symm⟩)))
              go_wp2
              go_roundw
              case rel =>
                refine ⟨k + 1, by omega, by omega, by go_num, Lib.hid (s_chain hb.out (below_drewN (Below.refl _ _) _)), Lib.hid (hbx.out.below (below_drewN (Below.refl _ _) _)), Lib.hid (fun v h1 h2 => ?_)⟩
                rcases Nat.lt_or_ge v k with h9 | h9
                · exact hall.out v h1 h9
                · obtain rfl : v = k := by omega
                  exact HBY.out
              case measure => simp [intOf]; omega
          · obtain rfl : k = 8 * n := by omega
            have HYES : Hid (setB (N : Int) xs = true) := Lib.hid (setB_iff.2 ⟨⟨by omega, by omega, by rw [Int.toNat_natCast, HL.out]; exact HN.out⟩, fun v hv => by
              rw [Int.toNat_natCast] at hv
              rcases Nat.lt_or_ge v (8 * n) with h9 | h9
              · exact hall.out v hv h9
              · exact bitN_far (by rw [HL.out]; exact h9)⟩)
            go_wp2
            go_ret
            exact ⟨g_bool HYES.out.symm, hb.out⟩
      · have d3 : ((n : Int) == ((bytesN N : Nat) : Int)) = false := by simp; omega
        have d4 : ((n : Int) != ((bytesN N : Nat) : Int)) = true := by simp; omega
        have HE := Lib.hid (sokB_3 (N := (N : Int)) (xs := xs) (by rw [HL.out, Int.toNat_natCast]; exact h3))
        rw [HE.out]
        clear h1 h2 h3 HE
        generalize bytesN N = q at d3 d4 hb1 hb2
        go_enter Tryz.func24, Tryz.ntmps24
        go_wp2
        go_ret
        exact ⟨rfl, below_a1 _ _⟩
end Go.Proofs.YtpgnappddddlpaaGreatDoor
namespace Go.Proofs.YtpgnappddddlpaaGreatDoor
open Go.RowKit
set_option linter.unusedVariables false

set_option maxRecDepth 10000 in
set_option maxHeartbeats 8000000 in
theorem specCopySet (N : Int) (A : Option Addr) (n c : Nat) (xs : List Nat) (w : World) (hr : Rd w A n xs) (hn : n ≤ 2097152) :
    Calls Tryz.prog 27 #[.agg #[.int .i64 N, .slice A n c]] w (MadeS w N xs) := by
  obtain ⟨i0, hi, hz0, hz1, hz2⟩ := info_parts Tryz.infoByte
  have HL := Lib.hid hr.len
  have HR := Lib.hid hr
  clear hr
  have HB0 := Lib.hid (((SBx.new w N A n c).below (below_a1 _ (.cells #[.int .i64 0, .slice none 0 0] 37))).below (below_a1 _ (.cells #[] 5)))
  have HB1 := Lib.hid ((SBx.new1 w (.cells #[.int .i64 N, .slice A n c] 37) 0 none 0 0).below (below_a1 _ (.cells #[] 5)))
  have HOW := Lib.hid (built_none ((w.alloc (.cells #[.int .i64 N, .slice A n c] 37)).alloc (.cells #[.int .i64 0, .slice none 0 0] 37)))
  have HB3 := Lib.hid (below_a3 w (.cells #[.int .i64 N, .slice A n c] 37) (.cells #[.int .i64 0, .slice none 0 0] 37) (.cells #[] 5))
  have HRS := Lib.hid ((HR.out.below HB3.out).reads)
  go_enter Tryz.func27, Tryz.ntmps27
  go_wp2_with (at_builtin; refine wpList_append_any _ rfl (.tmp 3) (.tmp 5) 28 rfl (w.heap.size + 1 + 1) 5 i0 _ 1 1 Tryz.underlying28 hi hz0 hz1 hz2 rfl (by omega) (.slice (some ⟨w.heap.size + 1 + 1, 0, none⟩) 0 0) 0 [] rfl (by have h := HOW.out; simp only [World.size_alloc] at h; exact h) _ A n c (vb xs) rfl HRS.out (vb_oneCell xs) (by simp only [maxLen]; omega) (by omega) (by simp) ?_)
  intro v3 w3 hown3 hg3 _
  have X0 := Lib.hid (HB0.out.grown hg3 (by show some (w.heap.size + 1 + 1) ≠ some _; intro e; injection e with e; omega))
  have X1 := Lib.hid (HB1.out.grown hg3 (by show some (w.heap.size + 1 + 1) ≠ some _; intro e; injection e with e; omega))
  have HBW := Lib.hid (HB3.out.grown hg3 HB3.out.size (fun k hk => by have hk2 : some (w.heap.size + 1 + 1) = some k := hk; injection hk2 with hk2; omega))
  obtain ⟨A3, c3, rfl⟩ := own_form hown3
  have HO := Lib.hid hown3
  clear hown3 hg3 HB0 HB1 HOW HB3 HRS
  obtain ⟨l0, c00, c01, f00, f01⟩ := X0.out.parts
  obtain ⟨l1, c10, c11, f10, f11⟩ := X1.out.parts
  have e := HL.out
  subst e
  go_wp2
  refine bodyPost_ret (v := .agg #[.int .i64 N, .slice A3 xs.length c3]) (by simp [results, Tryz.results27, go_sem, c10, c11]) rfl ?_
  refine ⟨A3, c3, rfl, ?_, below_set2 (HBW.out.setCell (Nat.le_refl _) _) (by omega) _ _⟩
  exact own_monoG (own_set2 (own_lowG HO.out (p := ⟨w.heap.size, 1, none⟩) (by show w.heap.size < _; omega) _) (by omega) _ _) (by omega)
end Go.Proofs.YtpgnappddddlpaaGreatDoor
