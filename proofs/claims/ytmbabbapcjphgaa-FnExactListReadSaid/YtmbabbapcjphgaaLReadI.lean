/- The program's decoding of a list of numbers. Condition: at most 2^21 bytes. -/
import Derived.Test.YtmbabbapcjphgaaPackI
import Derived.Test.YtmbabbapcjphgaaLReadM
namespace Go.Proofs.Ytmbabbapcjphgaa
open Go.RowKit

theorem one_readsI (w : World) (u : Value) : Reads (w.alloc (.cells #[u] 3)) (w.heap.size + 1) 1 (some ⟨w.heap.size, 0, none⟩) 1 [u] := by
  refine ⟨rfl, fun _ => ⟨_, rfl, by simp, fun j v hj => ?_⟩⟩
  match j, hj with
  | 0, hj => simp at hj; subst hj; simp [Addr.add]
theorem one_cellI (x : Int) : ∀ u ∈ [Value.int .i64 x], u.oneCell' = true := by intro u hu; simp at hu; subst hu; rfl
theorem own_ge {w : World} {lo e size n b : Nat} {v : Value} {xs : List Value} (h : w.ownsRow lo e size v n xs) (hb : b < lo) : v.ownBlock ≠ some b := fun e => by have := (h.lt b e).1; omega
theorem pk_vi_one (xs : List Int) (x : Int) : vi (xs ++ [x]) = vi xs ++ [.int .i64 x] := by rw [vi_append]; rfl
/-- Where the reading stands after j numbers. -/
def LPos (xs : List Nat) (a : Int) (n j : Nat) (vs : List Int) (pos : Int) : Prop :=
  (gv xs a n = true ∧ pos = gvE xs a n + 6 * j ∧ gvE xs a n + 6 * j ≤ n ∧ vs = listV xs (gvE xs a n) j) ∨ (pos = -1 ∧ listG xs a n = false)
theorem LPos.step {xs : List Nat} {a : Int} {n j : Nat} {vs : List Int} {pos : Int} (hl : xs.length = n) (h : LPos xs a n j vs pos) (hj : (j : Int) < gvN xs a n) : LPos xs a n (j + 1) (vs ++ [vF xs pos n]) (nxF pos n) := by
  rcases h with ⟨h1, h2, h3, h4⟩ | ⟨h1, h2⟩
  · have hp := gvE_facts hl h1
    by_cases hf : gvE xs a n + 6 * ((j + 1 : Nat) : Int) ≤ n
    · have hok : fixOk pos n = true := by unfold fixOk; rw [decide_eq_true_eq, h2]; omega
      refine .inl ⟨h1, ?_, hf, ?_⟩
      · unfold nxF; rw [hok, if_pos rfl, h2]; omega
      · rw [listV_succ, ← h4, vF, hok, if_pos rfl, h2, show (gvE xs a n + 6 * (j : Int)).toNat = (gvE xs a n).toNat + 6 * j by omega]
    · have hok : fixOk pos n = false := by unfold fixOk; rw [decide_eq_false_iff_not, h2]; omega
      exact .inr ⟨by unfold nxF; rw [hok]; rfl, listG_no (.inr (.inr (by omega)))⟩
  · have hok : fixOk pos n = false := by unfold fixOk; rw [decide_eq_false_iff_not, h1]; omega
    exact .inr ⟨by unfold nxF; rw [hok]; rfl, h2⟩

set_option maxRecDepth 10000 in
set_option maxHeartbeats 2000000 in
theorem implListRead (A : Option Addr) (n c : Nat) (a : Int) (xs : List Nat) (w : World) (hr : Rd w A n xs) (hn : n ≤ 2097152) :
    Calls Try.prog 43 #[.slice A n c, .int .i64 a] w (MadeNP w (listR xs a n) (listP xs a n) (listG xs a n)) := by
  obtain ⟨i0, hi, hz0, hz1, hz2⟩ := info_parts Try.infoInt
  have HR := Lib.hid hr
  have HXL := Lib.hid hr.len
  have CU := Lib.hid (unpacker_any A n c a w)
  have hg0 := gvN_bounds xs a n
  have HP0 : Hid (LPos xs a n 0 [] (nxV xs a n)) := Lib.hid (by
    cases hg : gv xs a n with
    | true => exact .inl ⟨hg, by rw [nxV_yes hg]; simp, by have := gvE_facts HXL.out hg; omega, rfl⟩
    | false => exact .inr ⟨by rw [nxV, hg]; rfl, listG_no (.inl hg)⟩)
  have CR := Lib.hid (fun W (h : UB W w.heap.size (w.heap.size + 1) A n c a) (h2 : Rd W A n xs) => readVar_any (xs := xs) h h2 hn)
  obtain ⟨K, hK⟩ : ∃ K : Nat, (K : Int) = gvN xs a n := ⟨(gvN xs a n).toNat, by omega⟩
  rw [← hK] at CR hg0
  generalize nxV xs a n = p0 at CR HP0
  have HK := Lib.hid hK
  clear hr hK
  go_enter Try.func43, Try.ntmps43
  go_wp2_with fail
  refine CU.out.mono ?_
  rintro e w1 ⟨rfl, hu, hb⟩
  have HU := Lib.hid hu
  have HB := Lib.hid hb
  clear hu hb
  go_wp2_with fail
  refine (CR.out _ HU.out (HR.out.below HB.out)).mono ?_
  rintro e w2 ⟨rfl, rfl⟩
  have HU2 := Lib.hid (HU.out.put (by omega) p0)
  have HB2 := Lib.hid (HB.out.setCell (p := ⟨w.heap.size + 1, 0, none⟩) (by simp) (.int .i64 p0))
  have HLO : Hid (w.heap.size + 2 ≤ (w1.setCell ⟨w.heap.size + 1, 0, none⟩ (.int .i64 p0)).heap.size) := Lib.hid (by have := HU2.out.a.lt; omega)
  generalize hwz : w1.setCell ⟨w.heap.size + 1, 0, none⟩ (.int .i64 p0) = wz at HU2 HB2 HLO
  clear HU HB hwz
  by_cases hbig : K ≤ 400
  · go_wp2
    go_loopw [10, 22] (fun o i wr => ∃ (j : Nat) (A1 : Option Addr) (c1 : Nat) (vs : List Int) (pos : Int), j ≤ K ∧ i = .int .i64 (j : Int) ∧ o = .slice A1 vs.length c1 ∧ Hid (vs.length = j) ∧ Hid (wr.ownsRow (w.heap.size + 2) 3 1 (.slice A1 vs.length c1) vs.length (vi vs)) ∧ Hid (UB wr w.heap.size (w.heap.size + 1) A n c pos) ∧ Hid (Below w.heap.size w wr) ∧ Hid (LPos xs a n j vs pos) ∧ Hid (w.heap.size + 2 ≤ wr.heap.size)) (fun _ i _ => K - (intOf i).toNat)
    case atStart => exact ⟨0, none, 0, [], p0, Nat.zero_le _, rfl, rfl, Lib.hid rfl, Lib.hid (World.ownsRow_nil _ _ _ _), HU2, HB2, HP0, HLO⟩
    case round =>
      clear HU2 HB2 HP0 HLO
      obtain ⟨j, A1, c1, vs, pos, hj, rfl, rfl, hvl, hown, hub, hbel, hpos, hlo⟩ := hrel
      by_cases hlt : j < K
      · have hvb : vs.length ≤ 400 := by rw [hvl.out]; omega
        have hpb : -9223372036854775808 ≤ pos ∧ pos ≤ 9223372036854775807 := by
          rcases hpos.out with ⟨h1, h2, h3, _⟩ | ⟨h1, _⟩
          · have := gvE_facts HXL.out h1; omega
          · omega
        have CF := Lib.hid (readFix_any hub.out (HR.out.below hbel.out) hn hpb.1 hpb.2)
        have HST := Lib.hid (hpos.out.step HXL.out (by rw [← HK.out]; omega))
        generalize vF xs pos n = v at CF HST
        generalize nxF pos n = q at CF HST
        clear hpb hpos
        go_wp2_with fail
        refine CF.out.mono ?_
        rintro e w3 ⟨rfl, rfl⟩
        have HO2 := Lib.hid (own_lowG hown.out (p := ⟨w.heap.size + 1, 0, none⟩) (by simp) (.int .i64 q))
        have HU3 := Lib.hid (hub.out.put (by omega) q)
        have HB3 := Lib.hid (hbel.out.setCell (p := ⟨w.heap.size + 1, 0, none⟩) (by simp) (.int .i64 q))
        have HL3 : Hid (w.heap.size + 2 ≤ (wr.setCell ⟨w.heap.size + 1, 0, none⟩ (.int .i64 q)).heap.size) := Lib.hid (by have := hlo.out; simpa using this)
        generalize hwy : wr.setCell ⟨w.heap.size + 1, 0, none⟩ (.int .i64 q) = wy at HO2 HU3 HB3 HL3
        clear hwy hown hub hbel
        have hls := HL3.out
        go_wp2_with (at_builtin; refine wpList_append_any _ rfl (.tmp 24) (.tmp 27) _ rfl (w.heap.size + 2) 3 i0 _ 1 8 Try.underlying22 hi hz0 hz1 hz2 rfl (by omega) (.slice A1 vs.length c1) vs.length (vi vs) rfl (HO2.out.alloc _) (wy.heap.size + 1) (some ⟨wy.heap.size, 0, none⟩) 1 1 [.int .i64 v] rfl (one_readsI _ _) (one_cellI _) (by simp only [maxLen]; omega) (by omega) (by simp; omega) ?_)
        intro v4 w4 hown4 hg4 _
        obtain ⟨A4, c4, rfl⟩ := own_form hown4
        have HO4 : Hid (w4.ownsRow (w.heap.size + 2) 3 1 (.slice A4 (vs ++ [v]).length c4) (vs ++ [v]).length (vi (vs ++ [v]))) := Lib.hid (by rw [pk_vi_one, List.length_append]; exact hown4)
        have hle : vs.length + 1 = (vs ++ [v]).length := by simp
        have HU4 : Hid (UB w4 w.heap.size (w.heap.size + 1) A n c q) := Lib.hid ⟨(HU3.out.b.alloc _).grown hg4 (own_ge HO2.out (by omega)), (HU3.out.a.alloc _).grown hg4 (own_ge HO2.out (by omega))⟩
        have HB4 : Hid (Below w.heap.size w w4) := Lib.hid ((HB3.out.alloc HB3.out.size _).grown hg4 (by have := HB3.out.size; simp; omega) (fun k hk => by have := ((HO2.out.alloc (.cells #[.int .i64 v] 3)).lt k hk).1; omega))
        have HL4 : Hid (w.heap.size + 2 ≤ w4.heap.size) := Lib.hid (by have := hg4.size; simp at this; omega)
        clear hown4 hg4 HO2 HU3 HB3 HL3 hls
        rw [hle]
        go_wp2
        go_roundw
        case rel => exact ⟨j + 1, A4, c4, vs ++ [v], q, by omega, by go_num, rfl, Lib.hid (by rw [← hle, hvl.out]), HO4, HU4, HB4, HST, HL4⟩
        case measure => simp [intOf]; omega
      · obtain rfl : j = K := by omega
        have CE := Lib.hid (end_any hub.out)
        rcases hpos.out with ⟨h1, h2, h3, h4⟩ | ⟨h1, h2⟩
        · have hgo : listG xs a n = true := listG_yes h1 (by rw [← HK.out]; omega) (by rw [← HK.out]; exact h3)
          obtain ⟨hR, hPp⟩ := listG_in hgo
          have hp0 : 0 ≤ pos := by have := gvE_facts HXL.out h1; omega
          have hPp2 : listP xs a n = pos := by rw [hPp, ← HK.out, h2]
          have hR2 : listR xs a n = vs := by rw [hR, ← HK.out, Int.toNat_natCast, h4]
          have HE := Lib.hid (And.intro hgo (And.intro hPp2 hR2))
          clear hpos h1 h2 h3 h4 hgo hR hPp hPp2 hR2
          go_wp2_with (go_at_call 104; refine CE.out.mono ?_; rintro e w5 ⟨rfl, rfl⟩)
          go_ret3
          rw [HE.out.1, HE.out.2.1, HE.out.2.2]
          exact ⟨A1, c1, rfl, own_monoG (lo' := w.heap.size) hown.out (by omega), hbel.out⟩
        · obtain ⟨hR, hPp⟩ := listG_out h2
          have HE := Lib.hid (And.intro h2 (And.intro hR hPp))
          have hp0 : pos < 0 := by omega
          clear hpos h2 hR hPp h1
          go_wp2_with (go_at_call 104; refine CE.out.mono ?_; rintro e w5 ⟨rfl, rfl⟩)
          go_ret3
          rw [HE.out.1, HE.out.2.1, HE.out.2.2]
          exact MadeNP.no w _ hbel.out
  · have hno : listG xs a n = false := listG_no (.inr (.inl (by rw [← HK.out]; omega)))
    obtain ⟨hR, hPp⟩ := listG_out hno
    have HE := Lib.hid (And.intro hno (And.intro hR hPp))
    have hb2 : (400 : Int) < (K : Int) := by omega
    clear hno hR hPp hbig
    go_wp2
    go_ret3
    rw [HE.out.1, HE.out.2.1, HE.out.2.2]
    exact MadeNP.no w _ HB2.out
end Go.Proofs.Ytmbabbapcjphgaa
