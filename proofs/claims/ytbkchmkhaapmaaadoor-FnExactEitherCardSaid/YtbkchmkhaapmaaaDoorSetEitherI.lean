/- The contract of the program's function that unites two sets. -/
import Derived.Test.YtbkchmkhaapmaaaDoorSetOkI
import Derived.Test.YtbkchmkhaapmaaaDoorSetCopyI
namespace Go.Proofs.YtbkchmkhaapmaaaDoor
open Go.RowKit
set_option linter.unusedVariables false

set_option maxRecDepth 10000 in
set_option maxHeartbeats 8000000 in
theorem implEither (N M : Int) (A B : Option Addr) (n c m d : Nat) (xs ys : List Nat) (w : World) (hw : Wts w) (hr : Rd w A n xs) (hr2 : Rd w B m ys) (hn : n ≤ 2097152) (hm : m ≤ 2097152) :
    Calls Tryd.prog 18 #[.agg #[.int .i64 N, .slice A n c], .agg #[.int .i64 M, .slice B m d]] w (MadeSB w (eitherN N M xs ys) (eitherX N M xs ys) (eitherB N M xs ys)) := by
  have HW := Lib.hid hw
  have HR := Lib.hid hr
  have HR2 := Lib.hid hr2
  have HL := Lib.hid hr.len
  have HL2 := Lib.hid hr2.len
  clear hr hw hr2
  have C1 := Lib.hid (fun W (h : Below w.heap.size w W) => implSetOk N A n c xs W (HW.out.below h) (HR.out.below h) hn)
  have C2 := Lib.hid (fun W (h : Below w.heap.size w W) => implSetOk M B m d ys W (HW.out.below h) (HR2.out.below h) hm)
  have C3 := Lib.hid (fun W (h : Below w.heap.size w W) => by have h9 := implCopySet N A n c xs W (HR.out.below h) hn; unfold MadeS at h9; rw [HL.out] at h9; exact h9)
  have HB0 := Lib.hid ((SBx.new w N A n c).below (below_a2 _ (.cells #[.int .i64 M, .slice B m d] 24) (.cells #[.int .i64 0, .slice none 0 0] 24)))
  have HB1 := Lib.hid ((SBx.new1 w (.cells #[.int .i64 N, .slice A n c] 24) M B m d).below (below_a1 _ (.cells #[.int .i64 0, .slice none 0 0] 24)))
  have HB2 := Lib.hid (SBx.new2 w (.cells #[.int .i64 N, .slice A n c] 24) (.cells #[.int .i64 M, .slice B m d] 24) 0 none 0 0)
  unfold eitherN eitherX
  cases hok : setB N xs with
  | false =>
    rw [hok] at C1
    have he : eitherB N M xs ys = false := by unfold eitherB; rw [hok]; rfl
    rw [he, if_neg (by simp), if_neg (by simp)]
    clear he
    go_enter Tryd.func18, Tryd.ntmps18
    go_wp2_with fail
    refine (C1.out _ (below_a3 _ _ _ _)).mono ?_
    rintro e w1 ⟨rfl, hb1⟩
    have X2 := Lib.hid (HB2.out.below hb1)
    have HBW := Lib.hid (s_chain (below_a3 _ _ _ _) hb1)
    clear hb1 HB0 HB1 HB2
    obtain ⟨l2, c20, c21, f20, f21⟩ := X2.out.parts
    go_wp2
    refine bodyPost_ret (v := .tuple #[.agg #[.int .i64 0, .slice none 0 0], .bool false]) (by simp [results, Tryd.results18, go_sem, c20, c21]) rfl ?_
    exact ⟨none, 0, rfl, own_nil _ _, below_set2 HBW.out (by omega) _ _⟩
  | true =>
    rw [hok] at C1
    cases hok2 : setB M ys with
    | false =>
      rw [hok2] at C2
      have he : eitherB N M xs ys = false := by unfold eitherB; rw [hok, hok2]; rfl
      rw [he, if_neg (by simp), if_neg (by simp)]
      clear he
      go_enter Tryd.func18, Tryd.ntmps18
      go_wp2_with fail
      refine (C1.out _ (below_a3 _ _ _ _)).mono ?_
      rintro e w1 ⟨rfl, hb1⟩
      have X1 := Lib.hid (HB1.out.below hb1)
      have X2 := Lib.hid (HB2.out.below hb1)
      have HBV := Lib.hid (s_chain (below_a3 _ _ _ _) hb1)
      clear hb1 HB0 HB1 HB2
      obtain ⟨l1, c10, c11, f10, f11⟩ := X1.out.parts
      go_wp2_with fail
      refine (C2.out _ HBV.out).mono ?_
      rintro e w2 ⟨rfl, hb2⟩
      have Y2 := Lib.hid (X2.out.below hb2)
      have HBW := Lib.hid (s_chain HBV.out hb2)
      clear hb2 l1 c10 c11 f10 f11
      obtain ⟨l2, c20, c21, f20, f21⟩ := Y2.out.parts
      go_wp2
      refine bodyPost_ret (v := .tuple #[.agg #[.int .i64 0, .slice none 0 0], .bool false]) (by simp [results, Tryd.results18, go_sem, c20, c21]) rfl ?_
      exact ⟨none, 0, rfl, own_nil _ _, below_set2 HBW.out (by omega) _ _⟩
    | true =>
      rw [hok2] at C2
      have hdim := setB_dim hok
      have hdim2 := setB_dim hok2
      obtain ⟨N, rfl⟩ : ∃ k : Nat, N = (k : Int) := ⟨N.toNat, by omega⟩
      obtain ⟨M, rfl⟩ : ∃ k : Nat, M = (k : Int) := ⟨M.toNat, by omega⟩
      have hN : N ≤ 150 := by omega
      have hM : M ≤ 150 := by omega
      have HD1 : Hid (n = bytesN N) := Lib.hid (by have := hdim.2.2; rw [Int.toNat_natCast, HL.out] at this; exact this)
      have HD2 : Hid (m = bytesN M) := Lib.hid (by have := hdim2.2.2; rw [Int.toNat_natCast, HL2.out] at this; exact this)
      clear hdim hdim2
      by_cases hNM : N = M
      · subst hNM
        have he : eitherB (N : Int) (N : Int) xs ys = true := by unfold eitherB; rw [hok, hok2]; simp
        rw [he, if_pos rfl, if_pos rfl]
        have hmn : m = n := by rw [HD1.out, HD2.out]
        subst hmn
        have HXY : Hid (xs.length = ys.length) := Lib.hid (HL.out.trans HL2.out.symm)
        have HXS := Lib.hid HR.out.small
        have hm20 : m ≤ 20 := by rw [HD1.out]; unfold bytesN; omega
        clear he hok hok2
        go_enter Tryd.func18, Tryd.ntmps18
        go_wp2_with fail
        refine (C1.out _ (below_a3 _ _ _ _)).mono ?_
        rintro e w1 ⟨rfl, hb1⟩
        have X0 := Lib.hid (HB0.out.below hb1)
        have X1 := Lib.hid (HB1.out.below hb1)
        have X2 := Lib.hid (HB2.out.below hb1)
        have HBV := Lib.hid (s_chain (below_a3 _ _ _ _) hb1)
        clear hb1 HB0 HB1 HB2
        obtain ⟨l1, c10, c11, f10, f11⟩ := X1.out.parts
        go_wp2_with fail
        refine (C2.out _ HBV.out).mono ?_
        rintro e w2 ⟨rfl, hb2⟩
        have Y0 := Lib.hid (X0.out.below hb2)
        have Y1 := Lib.hid (X1.out.below hb2)
        have Y2 := Lib.hid (X2.out.below hb2)
        have HBW := Lib.hid (s_chain HBV.out hb2)
        clear hb2 l1 c10 c11 f10 f11
        obtain ⟨l0, c00, c01, f00, f01⟩ := Y0.out.parts
        obtain ⟨l1, c10, c11, f10, f11⟩ := Y1.out.parts
        go_wp2_with fail
        refine (C3.out _ HBW.out).mono ?_
        rintro e w3 ⟨A3, c3, rfl, ho3, hb3⟩
        have hsz2 := Y2.out.parts.1
        have Z1 := Lib.hid ((Y1.out.below hb3).below (below_a1 _ (.cells #[.int .i64 (N : Int), .slice A3 m c3] 24)))
        have Z2 := Lib.hid ((Y2.out.below hb3).below (below_a1 _ (.cells #[.int .i64 (N : Int), .slice A3 m c3] 24)))
        have Z3 := Lib.hid (SBx.new w3 (N : Int) A3 m c3)
        have HBX := Lib.hid (s_chain (s_chain HBW.out hb3) (below_a1 _ (.cells #[.int .i64 (N : Int), .slice A3 m c3] 24)))
        have O3 : Hid (((w3.alloc (.cells #[.int .i64 (N : Int), .slice A3 m c3] 24))).ownsRow (w.heap.size + 3) 5 1 (.slice A3 m c3) m (vb (orTo xs ys 0))) := Lib.hid (by rw [orTo_zero]; exact own_monoG (own_below ho3 (below_a1 _ _)) (by omega))
        have hs3 := hb3.size
        have HRG := Lib.hid ho3.lt
        clear hb3 ho3 l0 c00 c01 f00 f01 l1 c10 c11 f10 f11
        have HRL : Hid (∀ k, (Value.slice A3 m c3).ownBlock = some k → w2.heap.size ≤ k ∧ k < w3.heap.size) := HRG
        clear HRG
        obtain ⟨l1, c10, c11, f10, f11⟩ := Z1.out.parts
        go_wp2
        go_loopw [30] (fun i wr => ∃ k : Nat, k ≤ m ∧ i = .int .i64 (k : Int) ∧ Hid (wr.ownsRow (w.heap.size + 3) 5 1 (.slice A3 m c3) m (vb (orTo xs ys k))) ∧ Hid (SBx wr (w.heap.size + 2) 0 none 0 0) ∧ Hid (SBx wr w3.heap.size (N : Int) A3 m c3) ∧ Hid (Below w.heap.size w wr)) (fun i _ => m - (intOf i).toNat)
        case atStart => exact ⟨0, Nat.zero_le _, rfl, O3, Z2, Z3, HBX⟩
        case round =>
          clear O3 Z1 Z2 Z3 HBX l1 c10 c11 f10 f11
          obtain ⟨k, hk, rfl, hown, hb2, hb3, hbel⟩ := hrel
          obtain ⟨l2, c20, c21, f20, f21⟩ := hb2.out.parts
          obtain ⟨l3, c30, c31, f30, f31⟩ := hb3.out.parts
          by_cases hlt : k < m
          · obtain ⟨b, off, y, rfl, hbw, hy, hys, hc⟩ := HR2.out.at_ hlt
            have hc := (hbel.out.cell (p := ⟨b, off + k, none⟩) hbw).trans hc
            obtain ⟨x, hx⟩ : ∃ x, xs[k]? = some x := ⟨_, List.getElem?_eq_getElem (by rw [HL.out]; exact hlt)⟩
            have hx256 := HXS.out x (List.mem_of_getElem? hx)
            obtain ⟨hat, hset⟩ := orTo_step HXY.out hx hys.out
            obtain ⟨g, cap, hvv, hbase, hglt⟩ := hown.out.form (by omega)
            obtain ⟨rfl, -, rfl⟩ : A3 = some ⟨g, 0, none⟩ ∧ m = m ∧ c3 = cap := by injection hvv with e1 e2 e3; exact ⟨e1, e2, e3⟩
            clear hvv
            have hgw := HRL.out g rfl
            have hc0 : wr.cell? ⟨g, k, none⟩ = some (.int .u8 (x : Int)) := by rw [hown.out.cellAt k (by omega), vb_get, hat]; rfl
            have hf0 := hown.out.frozenAt k
            have hst := hown.out.stored k (.int .u8 ((x ||| y : Nat) : Int))
            rw [vb_set, hset] at hst
            have HS := Lib.hid hst
            have hor := or8_nat hx256 hy
            generalize x ||| y = z at hor HS
            have HP := Lib.hid (hb2.out.grown HS.out.2 (by show some g ≠ some _; intro e; injection e with e; omega))
            have HQ := Lib.hid (hb3.out.grown HS.out.2 (by show some g ≠ some _; intro e; injection e with e; omega))
            have HZ := Lib.hid (hbel.out.grown HS.out.2 hbel.out.size (fun k hk => by have hk2 : some g = some k := hk; injection hk2 with hk2; omega))
            clear hst hat hset hx hown hb2 hb3 hbel
            go_wp2
            go_roundw
            case rel => exact ⟨k + 1, by omega, by go_num, Lib.hid HS.out.1, HP, HQ, HZ⟩
            case measure => simp [intOf]; omega
          · obtain rfl : k = m := by omega
            have hfull : orTo xs ys k = orX xs ys := by rw [← HL2.out]; exact orTo_full HXY.out
            have hlen : (orX xs ys).length = k := by rw [orX_len HXY.out]; exact HL.out
            rw [hfull] at hown
            have HLEN := Lib.hid hlen
            clear hfull hlen
            go_wp2
            refine bodyPost_ret (v := .tuple #[.agg #[.int .i64 (N : Int), .slice A3 k c3], .bool true]) (by simp [results, Tryd.results18, go_sem, c20, c21]) rfl ?_
            refine ⟨A3, c3, by rw [HLEN.out], ?_, below_set2 hbel.out (by omega) _ _⟩
            rw [HLEN.out]
            exact own_monoG (own_set2 hown.out (by omega) _ _) (by omega)
      · have he : eitherB (N : Int) (M : Int) xs ys = false := by unfold eitherB; rw [hok, hok2]; simp; omega
        have dne : ((N : Int) == (M : Int)) = false := by simp; omega
        have dne2 : ((N : Int) != (M : Int)) = true := by simp; omega
        rw [he, if_neg (by simp), if_neg (by simp)]
        clear he
        go_enter Tryd.func18, Tryd.ntmps18
        go_wp2_with fail
        refine (C1.out _ (below_a3 _ _ _ _)).mono ?_
        rintro e w1 ⟨rfl, hb1⟩
        have X0 := Lib.hid (HB0.out.below hb1)
        have X1 := Lib.hid (HB1.out.below hb1)
        have X2 := Lib.hid (HB2.out.below hb1)
        have HBV := Lib.hid (s_chain (below_a3 _ _ _ _) hb1)
        clear hb1 HB0 HB1 HB2
        obtain ⟨l1, c10, c11, f10, f11⟩ := X1.out.parts
        go_wp2_with fail
        refine (C2.out _ HBV.out).mono ?_
        rintro e w2 ⟨rfl, hb2⟩
        have Y0 := Lib.hid (X0.out.below hb2)
        have Y1 := Lib.hid (X1.out.below hb2)
        have Y2 := Lib.hid (X2.out.below hb2)
        have HBW := Lib.hid (s_chain HBV.out hb2)
        clear hb2 l1 c10 c11 f10 f11
        obtain ⟨l0, c00, c01, f00, f01⟩ := Y0.out.parts
        obtain ⟨l1, c10, c11, f10, f11⟩ := Y1.out.parts
        obtain ⟨l2, c20, c21, f20, f21⟩ := Y2.out.parts
        go_wp2
        refine bodyPost_ret (v := .tuple #[.agg #[.int .i64 0, .slice none 0 0], .bool false]) (by simp [results, Tryd.results18, go_sem, c20, c21]) rfl ?_
        exact ⟨none, 0, rfl, own_nil _ _, below_set2 HBW.out (by omega) _ _⟩
end Go.Proofs.YtbkchmkhaapmaaaDoor
