/- The contract of the model's function that makes the numbers of a power failure for a law. -/
import Derived.Test.YtejibpajjoaldaaKDrawCut
import Derived.Test.YtejibpajjoaldaaKDrawPut
namespace Go.Proofs.Ytejibpajjoaldaa
open Go.RowKit

theorem cut_at {w : World} {b y : Nat} (h : SlI w (some ⟨b, 0, none⟩) 9 cutNums) (hy : y < 9) : ∃ v, v ∈ cutNums ∧ w.cell? ⟨b, y, none⟩ = some (.int .i64 v) := by
  obtain ⟨b', off, v, hA, hb, hv, hc⟩ := h.at_ hy
  injection hA with hA
  injection hA with hA1 hA2
  subst hA1
  subst hA2
  rw [Nat.zero_add] at hc
  exact ⟨v, List.mem_of_getElem? hv.out, hc⟩
theorem Cur.drewK {w : World} {g : Nat} {A : Option Addr} {n c : Nat} {xs : List Nat} (h : Cur w g A n c xs) : Cur w.drew g A n c xs := ⟨h.rd.drew, h.le, h.ne, h.cells⟩

set_option maxRecDepth 10000 in
set_option maxHeartbeats 8000000 in
theorem makeCut (A : Option Addr) (n c : Nat) (xs : List Nat) (w : World) (hr : Rd w A n xs) (hn : n ≤ 1048576) :
    Calls Try.prog 13 #[.slice A n c] w (CutRes w) := by
  have C1 := Lib.hid (drawNew A n c xs w hr hn)
  clear hr
  go_enter Try.func13, Try.ntmps13
  go_wp2_with fail
  refine C1.out.mono ?_
  rintro e w1 ⟨rfl, hsz, hcur, hb1⟩
  obtain ⟨i, h, hi9, hh, hc⟩ := hcur.cells
  have c2 : w1.cell? ⟨w.heap.size, 2, none⟩ = some (.int .i64 h) := block_cell hc 2
  have f2 := block_free hc 2
  have hw := wrap64_range (h + 4321)
  have HC := Lib.hid (hcur.setH (wrap64 (h + 4321)) hw.1 hw.2)
  have HB := Lib.hid (hb1.setCell (p := ⟨w.heap.size, 2, none⟩) (Nat.le_refl _) (.int .i64 (wrap64 (h + 4321))))
  have C8 : Hid (∀ W, Cur W w.heap.size A n c xs → Calls Try.prog 40 #[.pointer (some ⟨w.heap.size, 0, none⟩), .int .i64 8] W (BelowRes W w.heap.size A n c xs 8)) := Lib.hid (fun W hc => drawBelow w.heap.size A n c 8 xs W hc (by omega) (by omega))
  have C9 : Hid (∀ W, Cur W w.heap.size A n c xs → Calls Try.prog 40 #[.pointer (some ⟨w.heap.size, 0, none⟩), .int .i64 9] W (BelowRes W w.heap.size A n c xs 9)) := Lib.hid (fun W hc => drawBelow w.heap.size A n c 9 xs W hc (by omega) (by omega))
  clear hcur hc hb1 hw C1
  go_wp2_with fail
  have hs1 : w.heap.size < (w1.setCell ⟨w.heap.size, 2, none⟩ (.int .i64 (wrap64 (h + 4321)))).heap.size := by simp; omega
  clear c2 f2
  generalize w1.setCell ⟨w.heap.size, 2, none⟩ (.int .i64 (wrap64 (h + 4321))) = W0 at HC HB hs1 ⊢
  have HD := Lib.hid HC.out.drewK
  have HDA := Lib.hid ((HC.out.grow (below_a1 W0 (.cells #[.int .i64 0, .int .i64 1, .int .i64 5, .int .i64 13, .int .i64 14, .int .i64 20, .int .i64 30, .int .i64 60, .int .i64 9999] 3))).drewK)
  have RD : Hid (SlI (W0.alloc (.cells #[.int .i64 0, .int .i64 1, .int .i64 5, .int .i64 13, .int .i64 14, .int .i64 20, .int .i64 30, .int .i64 60, .int .i64 9999] 3)).drew (some ⟨W0.heap.size, 0, none⟩) 9 cutNums) := Lib.hid ((cuts_row W0 3).drewN 1)
  have GD : Hid (Below w.heap.size w W0.drew) := Lib.hid (below_drewN HB.out 1)
  have GDA : Hid (Below w.heap.size w (W0.alloc (.cells #[.int .i64 0, .int .i64 1, .int .i64 5, .int .i64 13, .int .i64 14, .int .i64 20, .int .i64 30, .int .i64 60, .int .i64 9999] 3)).drew) := Lib.hid (below_drewN (HB.out.trans ((below_a1 W0 (.cells #[.int .i64 0, .int .i64 1, .int .i64 5, .int .i64 13, .int .i64 14, .int .i64 20, .int .i64 30, .int .i64 60, .int .i64 9999] 3)).mono HB.out.size)) 1)
  go_region_with (first
    | (go_at_call_of 40 (Value.int .i64 8); first
      | ((with_reducible refine (C8.out _ HD.out).mono ?_); rintro e1 wx ⟨q, hq, rfl, hcx, hgx⟩; have X := Lib.hid hcx; have XA := Lib.hid (hcx.grow (below_a1 wx (.cells #[.int .i64 0, .int .i64 1, .int .i64 5, .int .i64 13, .int .i64 14, .int .i64 20, .int .i64 30, .int .i64 60, .int .i64 9999] 3))); have XR := Lib.hid (cuts_row wx 3); have XG := Lib.hid (GD.out.grown hgx GD.out.size (fun k hk => by injection hk; omega)); have XGA := Lib.hid (XG.out.trans ((below_a1 wx (.cells #[.int .i64 0, .int .i64 1, .int .i64 5, .int .i64 13, .int .i64 14, .int .i64 20, .int .i64 30, .int .i64 60, .int .i64 9999] 3)).mono XG.out.size)); have hsx : W0.heap.size ≤ wx.heap.size := hgx.size; clear hcx hgx)
      | ((with_reducible refine (C8.out _ HDA.out).mono ?_); rintro e1 wx ⟨q, hq, rfl, hcx, hgx⟩; have X := Lib.hid hcx; have XG := Lib.hid (GDA.out.grown hgx GDA.out.size (fun k hk => by injection hk; omega)); have XR := Lib.hid (RD.out.other hgx (fun b off sp e he => by injection e with e; injection e with e; injection he with he; omega)); clear hcx hgx))
    | (go_at_call_of 40 (Value.int .i64 9); first
      | ((with_reducible refine (C9.out _ XA.out).mono ?_); rintro e1 wy ⟨y, hy, rfl, hcy, hgy⟩; have YG := Lib.hid (XGA.out.grown hgy XGA.out.size (fun k hk => by injection hk; omega)); obtain ⟨v, hv, hcv⟩ := cut_at (XR.out.other hgy (fun b off sp e he => by injection e with e; injection e with e; injection he with he; omega)) hy; clear hcy hgy)
      | ((with_reducible refine (C9.out _ X.out).mono ?_); rintro e1 wy ⟨y, hy, rfl, hcy, hgy⟩; first
        | (obtain ⟨v, hv, hcv⟩ := cut_at (XR.out.other hgy (fun b off sp e he => by injection e with e; injection e with e; injection he with he; omega)) hy; have YG := Lib.hid (XG.out.grown hgy XG.out.size (fun k hk => by injection hk; omega)); clear hcy hgy)
        | (obtain ⟨v, hv, hcv⟩ := cut_at (cuts_row wy 3) hy; have YG := Lib.hid ((XG.out.grown hgy XG.out.size (fun k hk => by injection hk; omega)).trans ((below_a1 wy (.cells #[.int .i64 0, .int .i64 1, .int .i64 5, .int .i64 13, .int .i64 14, .int .i64 20, .int .i64 30, .int .i64 60, .int .i64 9999] 3)).mono (Nat.le_trans XG.out.size hgy.size))); clear hcy hgy))))
  all_goals
    clear C8 C9 HC HB HD HDA RD GD GDA
    go_wp2
    refine bodyPost_ret (v := .tuple #[.int .i64 (q : Int), .int .i64 v]) (by simp [results, Try.results13, go_sem]) rfl ?_
    exact ⟨q, v, hq, hv, rfl, YG.out⟩
end Go.Proofs.Ytejibpajjoaldaa
