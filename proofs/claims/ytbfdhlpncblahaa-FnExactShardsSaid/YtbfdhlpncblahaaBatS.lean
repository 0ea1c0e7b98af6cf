/- The contract of the model's Batches. Condition: at most 2^20 records. -/
import Derived.Test.YtbfdhlpncblahaaSortS
import Derived.Test.YtbfdhlpncblahaaBat
import Derived.Test.YtbfdhlpncblahaaBatMath
namespace Go.Proofs.Ytbfdhlpncblahaa
open Go.RowKit

set_option maxRecDepth 100000 in
set_option maxHeartbeats 4000000 in
theorem specBatches (A : Option Addr) (n c : Nat) (es : List GE) (b : Int) (w : World) (hr : SlG w A n es) (hn : n ≤ 1048576) (hc : n ≤ c) :
    Calls Try.prog 42 #[.slice A n c, .int .i64 b] w (MadeT w (batchesZ b es)) := by
  obtain ⟨i0, hi, hz0, hz1, hz2⟩ := info_parts Try.infoBatch
  have HR := Lib.hid hr
  have HL := Lib.hid hr.len
  clear hr
  by_cases hb : b < 1
  · have HV := Lib.hid (batchesZ_no (l := es) hb)
    go_enter Try.func42, Try.ntmps42
    go_wp2
    go_ret
    exact ⟨_, _, _, [], rfl, ⟨bat_built w, rfl, OwnL.nil⟩, by rw [HV.out]; rfl, below_a1 _ _⟩
  · obtain ⟨bn, rfl⟩ : ∃ bn : Nat, b = bn := ⟨b.toNat, by omega⟩
    have hb1 : 1 ≤ bn := by omega
    have HV := Lib.hid (batchesZ_yes (b := (bn : Int)) (l := es) (by omega))
    have hbi : (1 : Int) ≤ (bn : Int) := by omega
    clear hb
    go_enter Try.func42, Try.ntmps42
    go_wp2
    go_loopw [5, 6] (fun v i wr => ∃ (p m cc : Nat) (P : Option Addr) (made : List BE), p ≤ n ∧ m ≤ p ∧ i = .int .i64 p ∧ v = .slice P m cc ∧ Hid (made.map BE.es ++ batchesR bn (es.drop p) = batchesR bn es) ∧ Hid (OwnT wr w.heap.size P m cc made) ∧ Hid (Below w.heap.size w wr)) (fun _ i _ => n - (intOf i).toNat)
    case atStart => exact ⟨0, 0, 0, _, [], Nat.zero_le _, Nat.le_refl _, rfl, rfl, Lib.hid rfl, Lib.hid ⟨bat_built w, rfl, OwnL.nil⟩, Lib.hid (below_a1 _ _)⟩
    case round =>
      obtain ⟨p, m, cc, P, made, hp, hm, rfl, rfl, hmade, hown, hbel⟩ := hrel
      by_cases hlt : p < n
      · by_cases hsm : (bn : Int) < (n : Int) - (p : Int)
        · obtain ⟨P', hrun, hsl⟩ := rec_mid (l := p) (m := bn) ((p : Int) + bn) HR.out rfl (by omega) hc
          have HMORE := Lib.hid (batches_more (b := bn) (p := p) (q := bn) hb1 (l := es) (by rw [HL.out]; exact hlt) (.inl rfl))
          have hne : ((p : Int) + bn == n) = false := by simp; omega
          have HSL := Lib.hid hsl
          have CS := Lib.hid (specSortOne P' bn (c - p) ((es.drop p).take bn) wr (HSL.out.below hbel.out) (by omega))
          clear hsl
          go_wp2_with fail
          refine CS.out.mono ?_
          rintro e w2 ⟨A2, c2, rfl, ho2, hb2⟩
          go_wp2_with (at_builtin; refine wpList_append_any _ rfl (.tmp 30) (.tmp 37) _ rfl w.heap.size 109 i0 _ 1 24 Try.underlying69 hi hz0 hz1 hz2 rfl (by omega) (.slice P m cc) m (made.flatMap BE.cells) rfl ((own_below hown.out.row hb2).alloc _) (w2.heap.size + 1) (some ⟨w2.heap.size, 0, none⟩) 1 1 (BE.cells ⟨A2, bn, c2, sortR ((es.drop p).take bn)⟩) rfl (bat_reads _ _ _ _ rfl) (BE.cells_one _) (by simp only [maxLen]; omega) (by omega) (by have := hbel.out.size; have := hb2.size; simp; omega) ?_; intro v3 w3 hown3 hg3 hat3)
          obtain ⟨P3, cc3, rfl⟩ := rec_form hown3
          have hone : OwnL w2 wr.heap.size [⟨A2, bn, c2, sortR ((es.drop p).take bn)⟩] := OwnL.one (d := ⟨A2, bn, c2, sortR ((es.drop p).take bn)⟩) ho2 (by rw [sortR_len]; exact HSL.out.len)
          have hall := (hown.out.dat.below hb2).append (hone.mono hbel.out.size) (apartT_of_time hown.out.dat (Nat.le_refl _) hone (Nat.le_refl _))
          have hrow := (own_below hown.out.row hb2).alloc (.cells #[.slice A2 bn c2] 109)
          have hall2 := (hall.below (below_a1 w2 (.cells #[.slice A2 bn c2] 109))).grow hrow (by decide) hg3
          have HT3 : Hid (OwnT w3 w.heap.size P3 (m + 1) cc3 (made ++ [⟨A2, bn, c2, sortR ((es.drop p).take bn)⟩])) := Lib.hid ⟨by rw [List.flatMap_append]; simpa using hown3, by simp [hown.out.len], hall2⟩
          have HB3 : Hid (Below w.heap.size w w3) := Lib.hid ((g_chain (g_chain hbel.out hb2) (below_a1 w2 _)).grown hg3 (by have := hbel.out.size; have := hb2.size; simp; omega) (fun j hj => (hown.out.row.lt j hj).1))
          clear hone hall hrow hall2 hown3 hg3 hat3 ho2 hb2
          go_wp2
          go_roundw
          case rel => exact ⟨p + bn, m + 1, cc3, P3, _, by omega, by omega, by go_num, rfl, Lib.hid (by rw [← hmade.out, HMORE.out, List.map_append, List.append_assoc]; rfl), HT3, HB3⟩
          case measure => simp [intOf]; omega
        · obtain ⟨q, hq⟩ : ∃ q, p + q = n := ⟨n - p, by omega⟩
          obtain ⟨P', hrun, hsl⟩ := rec_mid (l := p) (m := q) (n : Int) HR.out (by omega) (by omega) hc
          have HMORE : Hid (batchesR bn (es.drop p) = [sortR ((es.drop p).take q)]) := Lib.hid (by
            rw [batches_more (b := bn) (p := p) (q := q) hb1 (l := es) (by rw [HL.out]; exact hlt) (.inr ⟨by rw [HL.out]; omega, by rw [HL.out]; omega⟩), (List.drop_eq_nil_of_le (by rw [HL.out]; omega) : es.drop (p + q) = []), batchesR_nil])
          have hqn : q ≤ 1048576 := by omega
          clear hq
          have HSL := Lib.hid hsl
          have CS := Lib.hid (specSortOne P' q (c - p) ((es.drop p).take q) wr (HSL.out.below hbel.out) (by omega))
          clear hsl
          go_wp2_with fail
          refine CS.out.mono ?_
          rintro e w2 ⟨A2, c2, rfl, ho2, hb2⟩
          go_wp2_with (at_builtin; refine wpList_append_any _ rfl (.tmp 30) (.tmp 37) _ rfl w.heap.size 109 i0 _ 1 24 Try.underlying69 hi hz0 hz1 hz2 rfl (by omega) (.slice P m cc) m (made.flatMap BE.cells) rfl ((own_below hown.out.row hb2).alloc _) (w2.heap.size + 1) (some ⟨w2.heap.size, 0, none⟩) 1 1 (BE.cells ⟨A2, q, c2, sortR ((es.drop p).take q)⟩) rfl (bat_reads _ _ _ _ rfl) (BE.cells_one _) (by simp only [maxLen]; omega) (by omega) (by have := hbel.out.size; have := hb2.size; simp; omega) ?_; intro v3 w3 hown3 hg3 hat3)
          obtain ⟨P3, cc3, rfl⟩ := rec_form hown3
          have hone : OwnL w2 wr.heap.size [⟨A2, q, c2, sortR ((es.drop p).take q)⟩] := OwnL.one (d := ⟨A2, q, c2, sortR ((es.drop p).take q)⟩) ho2 (by rw [sortR_len]; exact HSL.out.len)
          have hall := (hown.out.dat.below hb2).append (hone.mono hbel.out.size) (apartT_of_time hown.out.dat (Nat.le_refl _) hone (Nat.le_refl _))
          have hrow := (own_below hown.out.row hb2).alloc (.cells #[.slice A2 q c2] 109)
          have hall2 := (hall.below (below_a1 w2 (.cells #[.slice A2 q c2] 109))).grow hrow (by decide) hg3
          have HT3 : Hid (OwnT w3 w.heap.size P3 (m + 1) cc3 (made ++ [⟨A2, q, c2, sortR ((es.drop p).take q)⟩])) := Lib.hid ⟨by rw [List.flatMap_append]; simpa using hown3, by simp [hown.out.len], hall2⟩
          have HB3 : Hid (Below w.heap.size w w3) := Lib.hid ((g_chain (g_chain hbel.out hb2) (below_a1 w2 _)).grown hg3 (by have := hbel.out.size; have := hb2.size; simp; omega) (fun j hj => (hown.out.row.lt j hj).1))
          clear hone hall hrow hall2 hown3 hg3 hat3 ho2 hb2
          go_wp2
          go_ret
          exact ⟨_, _, _, _, rfl, HT3.out, by rw [HV.out, Int.toNat_natCast, ← hmade.out, HMORE.out, List.map_append]; rfl, HB3.out⟩
      · obtain rfl : p = n := by omega
        go_wp2
        go_ret
        have h := hmade.out
        rw [List.drop_eq_nil_of_le (by rw [HL.out]; exact Nat.le_refl _), batchesR_nil, List.append_nil] at h
        exact ⟨_, _, _, made, rfl, hown.out, by rw [HV.out, Int.toNat_natCast, h], hbel.out⟩
end Go.Proofs.Ytbfdhlpncblahaa
