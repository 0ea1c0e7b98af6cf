/- The contract of the model's function that draws one number for a law. Condition: at most 2^20 bytes. -/
import Derived.Test.YtbkchmkhaapmaaaDoorDraw
import Derived.Test.YtbkchmkhaapmaaaDoorDrawKeep
namespace Go.Proofs.YtbkchmkhaapmaaaDoor
open Go.RowKit

set_option maxRecDepth 10000 in
theorem makeNum (A : Option Addr) (n c m : Nat) (xs : List Nat) (w : World) (hr : Rd w A n xs) (hn : n ≤ 1048576) (h0 : 0 < m) (hm : m ≤ 256) :
    Calls Tryd.prog 13 #[.slice A n c, .int .i64 (m : Int)] w fun e w' => ∃ x : Nat, x < m ∧ e = .returned (.int .i64 (x : Int)) ∧ Below w.heap.size w w' := by
  have C1 := Lib.hid (drawNew A n c xs w hr hn)
  clear hr
  go_enter Tryd.func13, Tryd.ntmps13
  go_wp2_with fail
  refine C1.out.mono ?_
  rintro e w1 ⟨rfl, hsz, hcur, hb1⟩
  obtain ⟨i, h, hi, hh, hc⟩ := hcur.cells
  have c2 : w1.cell? ⟨w.heap.size, 2, none⟩ = some (.int .i64 h) := block_cell hc 2
  have f2 := block_free hc 2
  have hw := wrap64_range (h + 777)
  have HC := Lib.hid (hcur.setH (wrap64 (h + 777)) hw.1 hw.2)
  have HB := Lib.hid (hb1.setCell (p := ⟨w.heap.size, 2, none⟩) (Nat.le_refl _) (.int .i64 (wrap64 (h + 777))))
  clear hcur hc hb1 hw
  go_wp2_with fail
  refine (drawBelow w.heap.size A n c m xs _ HC.out h0 hm).mono ?_
  rintro e w2 ⟨x, hx, rfl, hcu2, hgr⟩
  go_wp2
  go_ret
  exact ⟨x, hx, rfl, HB.out.grown hgr HB.out.size (fun k hk => by injection hk; omega)⟩

end Go.Proofs.YtbkchmkhaapmaaaDoor
