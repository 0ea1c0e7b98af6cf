/- The model's decoding of a list of numbers. Condition: at most 2^21 bytes. -/
import Derived.Test.YtmbabbapcjphgaaPackRes
import Derived.Test.YtmbabbapcjphgaaLReadM
import Derived.Test.YtmbabbapcjphgaaGetVarSpec
import Derived.Test.YtmbabbapcjphgaaGetFixSpec
namespace Go.Proofs.Ytmbabbapcjphgaa
open Go.RowKit

theorem one_readsN (w : World) (u : Value) : Reads (w.alloc (.cells #[u] 3)) (w.heap.size + 1) 1 (some ⟨w.heap.size, 0, none⟩) 1 [u] := by
  refine ⟨rfl, fun _ => ⟨_, rfl, by simp, fun j v hj => ?_⟩⟩
  match j, hj with
  | 0, hj => simp at hj; subst hj; simp [Addr.add]
theorem one_cellN (x : Int) : ∀ u ∈ [Value.int .i64 x], u.oneCell' = true := by intro u hu; simp at hu; subst hu; rfl
theorem pk_vi_snoc (xs : List Int) (x : Int) : vi (xs ++ [x]) = vi xs ++ [.int .i64 x] := by rw [vi_append]; rfl
theorem built_nums (w : World) : (w.alloc (.cells #[] 3)).ownsRow w.heap.size 3 1 (.slice (some ⟨w.heap.size, 0, none⟩) 0 0) 0 [] :=
  World.ownsRow_lit w #[] 0 (Nat.le_refl _) (by unfold maxLen; omega) rfl

set_option maxRecDepth 10000 in
set_option maxHeartbeats 2000000 in
theorem specListRead (A : Option Addr) (n c : Nat) (a : Int) (xs : List Nat) (w : World) (hr : Rd w A n xs) (hnc : n ≤ c) (hn : n ≤ 2097152) :
    Calls Try.prog 42 #[.slice A n c, .int .i64 a] w (MadeNP w (listR xs a n) (listP xs a n) (listG xs a n)) := by
  obtain ⟨i0, hi, hz0, hz1, hz2⟩ := info_parts Try.infoInt
  have HR := Lib.hid hr
  have HXL := Lib.hid hr.len
  have CV := Lib.hid (specGetVar A n c a xs w hr hn hnc)
  have hg0 := gvN_bounds xs a n
  cases hg : gv xs a n with
  | false =>
    rw [gvVal_no xs a n hg] at CV
    obtain ⟨hR, hP⟩ := listG_out (listG_no (n := n) (.inl hg))
    rw [listG_no (.inl hg), hR, hP]
    clear hr hg hR hP
    go_enter Try.func42, Try.ntmps42
    go_wp2_with fail
    refine CV.out.mono ?_
    rintro e w1 ⟨rfl, hb⟩
    go_wp2
    go_ret3
    exact MadeNP.no w _ hb
  | true =>
    have hgf := gvE_facts HXL.out hg
    obtain ⟨K, hK⟩ : ∃ K : Nat, (K : Int) = gvN xs a n := ⟨(gvN xs a n).toNat, by omega⟩
    obtain ⟨p, hp⟩ : ∃ p : Nat, (p : Int) = gvE xs a n := ⟨(gvE xs a n).toNat, by omega⟩
    rw [gvVal_yes xs a n hg, ← hK, ← hp] at CV
    rw [← hK] at hg0
    rw [← hp] at hgf
    by_cases hen : K ≤ 400 ∧ 6 * K ≤ n - p
    · obtain ⟨he1, he2⟩ := hen
      have hgo : listG xs a n = true := listG_yes hg (by omega) (by omega)
      obtain ⟨hR, hP⟩ := listG_in hgo
      have hf1 : ¬ ((n : Int) - (p : Int) < 6 * (K : Int)) := by omega
      have hRv : Hid (listR xs a n = listV xs (p : Int) K) := Lib.hid (by rw [hR, ← hp, ← hK, Int.toNat_natCast])
      have hPv : Hid (listP xs a n = (p : Int) + 6 * (K : Int)) := Lib.hid (by rw [hP, ← hp, ← hK])
      have hpn : p + 6 * K ≤ n := by omega
      have hgf2 : p ≤ n := by omega
      rw [hgo]
      clear hr hg hR hP hgo hK hp hgf
      go_enter Try.func42, Try.ntmps42
      go_wp2_with fail
      refine CV.out.mono ?_
      rintro e w1 ⟨rfl, hb⟩
      have HB := Lib.hid hb
      have HO1 := Lib.hid (own_monoG (built_nums w1) hb.size)
      have HB1 := Lib.hid (g_chain hb (below_a1 w1 (.cells #[] 3)))
      clear hb
      go_wp2
      go_loopw [8, 10, 11, 12, 13] (fun q o i _ _ wr => ∃ (j : Nat) (A1 : Option Addr) (c1 : Nat) (vs : List Int), j ≤ K ∧ i = .int .i64 (j : Int) ∧ q = .int .i64 ((p + 6 * j : Nat) : Int) ∧ o = .slice A1 vs.length c1 ∧ Hid (vs = listV xs (p : Int) j) ∧ Hid (wr.ownsRow w.heap.size 3 1 (.slice A1 vs.length c1) vs.length (vi vs)) ∧ Hid (Below w.heap.size w wr)) (fun _ _ i _ _ _ => K - (intOf i).toNat)
      case atStart => exact ⟨0, some ⟨w1.heap.size, 0, none⟩, 0, [], Nat.zero_le _, rfl, rfl, rfl, Lib.hid rfl, HO1, HB1⟩
      case round =>
        clear HO1 HB1 HB
        obtain ⟨j, A1, c1, vs, hj, rfl, rfl, rfl, hvs, hown, hbel⟩ := hrel
        by_cases hlt : j < K
        · have hvb : vs.length ≤ 400 := by rw [hvs.out, listV_len]; omega
          have CF := Lib.hid (specGetFix A n c ((p + 6 * j : Nat) : Int) xs wr (HR.out.below hbel.out) hn (by omega) (by omega))
          have hok : fixOk ((p + 6 * j : Nat) : Int) n = true := by unfold fixOk; rw [decide_eq_true_eq]; omega
          unfold fixVal at CF
          rw [hok, if_pos rfl] at CF
          have HST : Hid (vs ++ [((fixNat xs ((p + 6 * j : Nat) : Int).toNat 6 : Nat) : Int)] = listV xs (p : Int) (j + 1)) := Lib.hid (by rw [listV_succ, hvs.out, Int.toNat_natCast, Int.toNat_natCast])
          generalize ((fixNat xs ((p + 6 * j : Nat) : Int).toNat 6 : Nat) : Int) = v at CF HST
          clear hok
          obtain ⟨z, hz⟩ : ∃ z, z = p + 6 * j := ⟨_, rfl⟩
          rw [← hz] at CF
          have hzn : z ≤ n := by omega
          have HZ := Lib.hid hz
          simp only [← hz]
          clear hz
          go_wp2_with fail
          refine CF.out.mono ?_
          rintro e w3 ⟨rfl, rfl⟩
          have hls : w.heap.size ≤ wr.heap.size := hbel.out.size
          go_wp2_with (at_builtin; refine wpList_append_any _ rfl (.tmp 48) (.tmp 50) _ rfl w.heap.size 3 i0 _ 1 8 Try.underlying22 hi hz0 hz1 hz2 rfl (by omega) (.slice A1 vs.length c1) vs.length (vi vs) rfl (hown.out.alloc _) (wr.heap.size + 1) (some ⟨wr.heap.size, 0, none⟩) 1 1 [.int .i64 v] rfl (one_readsN _ _) (one_cellN _) (by simp only [maxLen]; omega) (by omega) (by simp; omega) ?_)
          intro v4 w4 hown4 hg4 _
          obtain ⟨A4, c4, rfl⟩ := own_form hown4
          have HO4 : Hid (w4.ownsRow w.heap.size 3 1 (.slice A4 (vs ++ [v]).length c4) (vs ++ [v]).length (vi (vs ++ [v]))) := Lib.hid (by rw [pk_vi_snoc, List.length_append]; exact hown4)
          have hle : vs.length + 1 = (vs ++ [v]).length := by simp
          have HB4 : Hid (Below w.heap.size w w4) := Lib.hid (((hbel.out.alloc hbel.out.size _).grown hg4 (by have := hbel.out.size; simp; omega) (fun k hk => (hown.out.lt k hk).1)))
          clear hown4 hg4 hls
          rw [hle]
          go_wp2
          go_roundw
          case rel => exact ⟨j + 1, A4, c4, vs ++ [v], by omega, by go_num, by have := HZ.out; exact congrArg (Value.int .i64) (by first | omega | (simp only [IntKind.wrap_i64]; omega)), rfl, HST, HO4, HB4⟩
          case measure => simp [intOf]; omega
        · obtain rfl : j = K := by omega
          have hvs2 : listR xs a n = vs := by rw [hRv.out, hvs.out]
          have hPv2 : listP xs a n = ((p + 6 * j : Nat) : Int) := by rw [hPv.out]; omega
          have HE := Lib.hid (And.intro hvs2 hPv2)
          clear hvs2 hPv2
          go_wp2
          go_ret3
          rw [HE.out.1, HE.out.2]
          exact ⟨A1, c1, rfl, hown.out, hbel.out⟩
    · have hno : listG xs a n = false := listG_no (by rcases Nat.lt_or_ge 400 K with h | h; exact .inr (.inl (by omega)); exact .inr (.inr (by omega)))
      obtain ⟨hR, hP⟩ := listG_out hno
      rw [hno, hR, hP]
      have hpn : p ≤ n := by omega
      rcases Nat.lt_or_ge 400 K with h | h
      · have hq : (400 : Int) < (K : Int) := by omega
        clear hr hg hR hP hno hK hp hgf hen
        go_enter Try.func42, Try.ntmps42
        go_wp2_with fail
        refine CV.out.mono ?_
        rintro e w1 ⟨rfl, hb⟩
        go_wp2
        go_ret3
        exact MadeNP.no w _ hb
      · have hq : (K : Int) ≤ 400 := by omega
        have hq2 : (n : Int) - (p : Int) < 6 * (K : Int) := by omega
        clear hr hg hR hP hno hK hp hgf hen
        go_enter Try.func42, Try.ntmps42
        go_wp2_with fail
        refine CV.out.mono ?_
        rintro e w1 ⟨rfl, hb⟩
        go_wp2
        go_ret3
        exact MadeNP.no w _ hb
end Go.Proofs.Ytmbabbapcjphgaa
