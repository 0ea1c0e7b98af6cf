/- The contracts of the functions on ends that only read: the model's EndsOk, IntervalOf and Span, the program's IntervalOf. Condition: at most 2^20 ends. -/
import Derived.Test.YtbfdhlpncblahaaEndsMath
namespace Go.Proofs.Ytbfdhlpncblahaa
open Go.RowKit

set_option maxRecDepth 10000 in
set_option maxHeartbeats 1000000 in
theorem specEndsOk (N : Int) (A : Option Addr) (n c : Nat) (es : List Int) (w : World) (hr : SlI w A n es) (hn : n ≤ 1048576) :
    Calls Try.prog 61 #[.int .i64 N, .slice A n c] w (GTell w (endsB N es)) := by
  have HR := Lib.hid hr
  have HL := Lib.hid hr.len
  clear hr
  go_enter Try.func61, Try.ntmps61
  go_wp2
  go_loop [5, 10] (fun v i => ∃ k : Nat, k ≤ n ∧ i = .int .i64 k ∧ v = .int .i64 (lastE 0 (es.take k)) ∧ Hid (ascB 0 (es.take k) = true)) (fun _ i => n - (intOf i).toNat)
  case atStart => exact ⟨0, Nat.zero_le _, rfl, rfl, Lib.hid rfl⟩
  case round =>
    obtain ⟨k, hk, rfl, rfl, hasc⟩ := hrel
    by_cases hlt : k < n
    · obtain ⟨b, off, x, rfl, hbw, hx, hc⟩ := HR.out.at_ hlt
      have HS := Lib.hid (asc_step hx.out hasc.out)
      have HT := Lib.hid (last_step (l := 0) hx.out)
      have HN := Lib.hid (fun h => ends_no (n := N) rfl hx.out hasc.out h)
      clear hasc hx
      generalize lastE 0 (es.take k) = q at HS HN ⊢
      by_cases hq : x ≤ q
      · have HV := Lib.hid (HN.out hq)
        clear HN HS HT
        go_wp2
        go_ret
        exact ⟨by rw [HV.out] <;> rfl, Below.refl _ _⟩
      · have HS2 : Hid (ascB 0 (es.take (k + 1)) = true) := Lib.hid (by rw [HS.out]; simp; omega)
        clear HN HS
        go_wp2
        go_round
        case rel => exact ⟨k + 1, by omega, by go_num, by rw [HT.out], HS2⟩
        case measure => simp [intOf]; omega
    · obtain rfl : k = n := by omega
      have he : es.take k = es := List.take_of_length_le (by rw [HL.out]; exact Nat.le_refl _)
      rw [he] at hasc ⊢
      have HV := Lib.hid (ends_yes (n := N) hasc.out)
      clear hasc he
      generalize lastE 0 es = q at HV ⊢
      by_cases h1 : 0 ≤ N
      · by_cases h2 : N ≤ 150
        · by_cases h3 : q = N
          · have HW : Hid (endsB N es = true) := Lib.hid (by rw [HV.out]; simp; omega)
            go_wp2
            go_ret
            exact ⟨by rw [HW.out] <;> rfl, Below.refl _ _⟩
          · have HW : Hid (endsB N es = false) := Lib.hid (by rw [HV.out]; simp; omega)
            have h4 : (q == N) = false := by simp; omega
            go_wp2
            go_ret
            exact ⟨by rw [HW.out] <;> rfl, Below.refl _ _⟩
        · have HW : Hid (endsB N es = false) := Lib.hid (by rw [HV.out]; simp; omega)
          go_wp2
          go_ret
          exact ⟨by rw [HW.out] <;> rfl, Below.refl _ _⟩
      · have HW : Hid (endsB N es = false) := Lib.hid (by rw [HV.out]; simp; omega)
        go_wp2
        go_ret
        exact ⟨by rw [HW.out] <;> rfl, Below.refl _ _⟩

theorem iv_no {es : List Int} {v : Int} (h : v < 0 ∨ es = [] ∨ lastE 0 es ≤ v) : ivE es v = -1 := if_pos h
theorem iv_yes {es : List Int} {v : Int} (h1 : 0 ≤ v) (h2 : es ≠ []) (h3 : v < lastE 0 es) : ivE es v = cntE v es := if_neg (by rintro (h | h | h); omega; exact h2 h; omega)

set_option maxRecDepth 10000 in
set_option maxHeartbeats 1000000 in
theorem specIv (A : Option Addr) (n c : Nat) (es : List Int) (v : Int) (w : World) (hr : SlI w A n es) (hn : n ≤ 1048576) :
    Calls Try.prog 50 #[.slice A n c, .int .i64 v] w (GNum w (ivE es v)) := by
  have HR := Lib.hid hr
  have HL := Lib.hid hr.len
  have hl := hr.len
  clear hr
  by_cases hv : v < 0
  · have HV := Lib.hid (iv_no (es := es) (.inl hv))
    go_enter Try.func50, Try.ntmps50
    go_wp2
    go_ret
    exact ⟨by rw [HV.out] <;> rfl, Below.refl _ _⟩
  · by_cases h0 : n = 0
    · subst h0
      obtain rfl : es = [] := List.eq_nil_of_length_eq_zero hl
      have HV := Lib.hid (iv_no (es := []) (v := v) (.inr (.inl rfl)))
      go_enter Try.func50, Try.ntmps50
      go_wp2
      go_ret
      exact ⟨by rw [HV.out] <;> rfl, Below.refl _ _⟩
    · obtain ⟨j, rfl⟩ : ∃ j, n = j + 1 := ⟨n - 1, by omega⟩
      obtain ⟨b, off, x, rfl, hbw, hx, hc⟩ := HR.out.at_ (j := j) (by omega)
      obtain rfl : lastE 0 es = x := by
        have h1 := lastE_get es 0 j hl
        rw [hx.out] at h1
        injection h1 with h1
        exact h1.symm
      have hne : es ≠ [] := fun h => by rw [h] at hl; simp at hl
      have e1 : ((j + 1 : Nat) : Int) - 1 = (j : Int) := by omega
      have e2 : IntKind.i64.wrap (((j + 1 : Nat) : Int) - 1) = (j : Int) := by rw [e1]; exact IntWalk.i64_in _ (by omega)
      have HA := Lib.hid (fun h => iv_no (es := es) (v := v) (.inr (.inr h)))
      have HB := Lib.hid (fun h => iv_yes (es := es) (v := v) (by omega) hne h)
      clear hx hne hl
      generalize lastE 0 es = q at HA HB hc
      by_cases hq : q ≤ v
      · have HV := Lib.hid (HA.out hq)
        clear HA HB
        go_enter Try.func50, Try.ntmps50
        go_wp2
        go_ret
        exact ⟨by rw [HV.out] <;> rfl, Below.refl _ _⟩
      · have HV := Lib.hid (HB.out (by omega))
        clear HA HB
        go_enter Try.func50, Try.ntmps50
        go_wp2
        go_loop [5, 25] (fun p i => ∃ k : Nat, k ≤ j + 1 ∧ i = .int .i64 k ∧ p = .int .i64 (cntE v (es.take k))) (fun _ i => (j + 1) - (intOf i).toNat)
        case atStart => exact ⟨0, Nat.zero_le _, rfl, rfl⟩
        case round =>
          obtain ⟨k, hk, rfl, rfl⟩ := hrel
          by_cases hlt : k < j + 1
          · obtain ⟨b', off', x, hA, hbw', hx, hc'⟩ := HR.out.at_ hlt
            obtain ⟨rfl, rfl⟩ : b = b' ∧ off = off' := by injection hA with hA; injection hA with h1 h2; exact ⟨h1, h2⟩
            have hb := cnt_bound v (es.take k)
            have hlk : ((es.take k).length : Int) ≤ 1048576 := by rw [List.length_take]; omega
            have HC := Lib.hid (cnt_step (v := v) hx.out)
            clear hx hA
            generalize cntE v (es.take k) = p at HC hb ⊢
            by_cases hxv : x ≤ v
            · have HC2 : Hid (cntE v (es.take (k + 1)) = p + 1) := Lib.hid (by rw [HC.out, if_pos hxv])
              go_wp2
              go_round
              case rel => exact ⟨k + 1, by omega, by go_num, by rw [HC2.out] <;> go_num⟩
              case measure => simp [intOf]; omega
            · have HC2 : Hid (cntE v (es.take (k + 1)) = p) := Lib.hid (by rw [HC.out, if_neg hxv]; omega)
              go_wp2
              go_round
              case rel => exact ⟨k + 1, by omega, by go_num, by rw [HC2.out]⟩
              case measure => simp [intOf]; omega
          · obtain rfl : k = j + 1 := by omega
            have he : es.take (j + 1) = es := List.take_of_length_le (by rw [HL.out]; exact Nat.le_refl _)
            rw [he]
            go_wp2
            go_ret
            exact ⟨by rw [HV.out] <;> rfl, Below.refl _ _⟩

set_option maxRecDepth 10000 in
set_option maxHeartbeats 1000000 in
theorem implIv (A : Option Addr) (n c : Nat) (es : List Int) (v : Int) (w : World) (hr : SlI w A n es) (hn : n ≤ 1048576) :
    Calls Try.prog 51 #[.slice A n c, .int .i64 v] w (GNum w (ivE es v)) := by
  have HR := Lib.hid hr
  have HL := Lib.hid hr.len
  have hl := hr.len
  clear hr
  by_cases h0 : n = 0
  · subst h0
    obtain rfl : es = [] := List.eq_nil_of_length_eq_zero hl
    have HV := Lib.hid (iv_no (es := []) (v := v) (.inr (.inl rfl)))
    go_enter Try.func51, Try.ntmps51
    go_wp2
    go_ret
    exact ⟨by rw [HV.out] <;> rfl, Below.refl _ _⟩
  · have hz : ((n : Int) == 0) = false := by simp; omega
    by_cases hv : v < 0
    · have HV := Lib.hid (iv_no (es := es) (.inl hv))
      go_enter Try.func51, Try.ntmps51
      go_wp2
      go_ret
      exact ⟨by rw [HV.out] <;> rfl, Below.refl _ _⟩
    · obtain ⟨j, rfl⟩ : ∃ j, n = j + 1 := ⟨n - 1, by omega⟩
      obtain ⟨b, off, x, rfl, hbw, hx, hc⟩ := HR.out.at_ (j := j) (by omega)
      obtain rfl : lastE 0 es = x := by
        have h1 := lastE_get es 0 j hl
        rw [hx.out] at h1
        injection h1 with h1
        exact h1.symm
      have hne : es ≠ [] := fun h => by rw [h] at hl; simp at hl
      have e1 : ((j + 1 : Nat) : Int) - 1 = (j : Int) := by omega
      have e2 : IntKind.i64.wrap (((j + 1 : Nat) : Int) - 1) = (j : Int) := by rw [e1]; exact IntWalk.i64_in _ (by omega)
      have HA := Lib.hid (fun h => iv_no (es := es) (v := v) (.inr (.inr h)))
      have HB := Lib.hid (fun h => iv_yes (es := es) (v := v) (by omega) hne h)
      clear hx hne hl
      generalize lastE 0 es = q at HA HB hc
      by_cases hq : q ≤ v
      · have HV := Lib.hid (HA.out hq)
        clear HA HB
        go_enter Try.func51, Try.ntmps51
        go_wp2
        go_ret
        exact ⟨by rw [HV.out] <;> rfl, Below.refl _ _⟩
      · have HV := Lib.hid (HB.out (by omega))
        clear HA HB
        go_enter Try.func51, Try.ntmps51
        go_wp2
        go_loop [5, 27] (fun p i => ∃ k : Nat, k ≤ j + 1 ∧ i = .int .i64 k ∧ p = .int .i64 (cntE v (es.take k))) (fun _ i => (j + 1) - (intOf i).toNat)
        case atStart => exact ⟨0, Nat.zero_le _, rfl, rfl⟩
        case round =>
          obtain ⟨k, hk, rfl, rfl⟩ := hrel
          by_cases hlt : k < j + 1
          · obtain ⟨b', off', x, hA, hbw', hx, hc'⟩ := HR.out.at_ hlt
            obtain ⟨rfl, rfl⟩ : b = b' ∧ off = off' := by injection hA with hA; injection hA with h1 h2; exact ⟨h1, h2⟩
            have hb := cnt_bound v (es.take k)
            have hlk : ((es.take k).length : Int) ≤ 1048576 := by rw [List.length_take]; omega
            have HC := Lib.hid (cnt_step (v := v) hx.out)
            clear hx hA
            generalize cntE v (es.take k) = p at HC hb ⊢
            by_cases hxv : x ≤ v
            · have HC2 : Hid (cntE v (es.take (k + 1)) = p + 1) := Lib.hid (by rw [HC.out, if_pos hxv])
              go_wp2
              go_round
              case rel => exact ⟨k + 1, by omega, by go_num, by rw [HC2.out] <;> go_num⟩
              case measure => simp [intOf]; omega
            · have HC2 : Hid (cntE v (es.take (k + 1)) = p) := Lib.hid (by rw [HC.out, if_neg hxv]; omega)
              go_wp2
              go_round
              case rel => exact ⟨k + 1, by omega, by go_num, by rw [HC2.out]⟩
              case measure => simp [intOf]; omega
          · obtain rfl : k = j + 1 := by omega
            have he : es.take (j + 1) = es := List.take_of_length_le (by rw [HL.out]; exact Nat.le_refl _)
            rw [he]
            go_wp2
            go_ret
            exact ⟨by rw [HV.out] <;> rfl, Below.refl _ _⟩

set_option maxRecDepth 10000 in
set_option maxHeartbeats 1000000 in
theorem specSpan (A : Option Addr) (n c : Nat) (es : List Int) (p : Int) (w : World) (hr : SlI w A n es) (hn : n ≤ 1048576) :
    Calls Try.prog 62 #[.slice A n c, .int .i64 p] w fun e w' => e = .returned (.tuple #[.int .i64 (spanR es p).1, .int .i64 (spanR es p).2]) ∧ Below w.heap.size w w' := by
  have HR := Lib.hid hr
  have hl := hr.len
  clear hr
  by_cases hp : p < 0
  · have HV := Lib.hid (span_no (xs := es) (.inl hp))
    rw [HV.out]
    go_enter Try.func62, Try.ntmps62
    go_wp2
    go_ret2
    exact ⟨rfl, Below.refl _ _⟩
  · by_cases hp2 : (n : Int) ≤ p
    · have HV := Lib.hid (span_no (xs := es) (p := p) (.inr (by omega)))
      rw [HV.out]
      go_enter Try.func62, Try.ntmps62
      go_wp2
      go_ret2
      exact ⟨rfl, Below.refl _ _⟩
    · obtain ⟨k, rfl⟩ : ∃ k : Nat, p = (k : Int) := ⟨p.toNat, by omega⟩
      obtain ⟨b, off, x, rfl, hbw, hx, hc⟩ := HR.out.at_ (j := k) (by omega)
      have HV := Lib.hid (span_yes hx.out)
      rw [HV.out]
      rcases Nat.eq_zero_or_pos k with rfl | hk
      · clear hx HV
        simp only [Nat.add_zero] at hc
        have h0n : 0 < n := by omega
        go_enter Try.func62, Try.ntmps62
        go_wp2
        go_region
        go_wp2
        go_ret2
        exact ⟨rfl, by first | exact Below.refl _ _ | exact (Below.refl _ _).drew⟩
      · obtain ⟨j, rfl⟩ : ∃ j, k = j + 1 := ⟨k - 1, by omega⟩
        obtain ⟨b', off', y, hA, hbw', hy, hc'⟩ := HR.out.at_ (j := j) (by omega)
        obtain ⟨rfl, rfl⟩ : b = b' ∧ off = off' := by injection hA with hA; injection hA with h1 h2; exact ⟨h1, h2⟩
        have hz : (((j + 1 : Nat) : Int) == 0) = false := by simp; omega
        have e1 : ((j + 1 : Nat) : Int) - 1 = (j : Int) := by omega
        have e2 : IntKind.i64.wrap (((j + 1 : Nat) : Int) - 1) = (j : Int) := by rw [e1]; exact IntWalk.i64_in _ (by omega)
        rw [lastE_take_succ hy.out]
        clear hx HV hy hA
        go_enter Try.func62, Try.ntmps62
        go_wp2
        go_region
        go_wp2
        go_ret2
        exact ⟨rfl, by first | exact Below.refl _ _ | exact (Below.refl _ _).drew | exact (Below.refl _ _).drew.drew⟩
end Go.Proofs.Ytbfdhlpncblahaa
