/- The contract of slices.Clip at bytes. -/
import Derived.Test.YtfcomnpoehpgiaaApplyAll
namespace Go.Proofs.Ytfcomnpoehpgiaa
open Go.RowKit Go.Maps

set_option maxRecDepth 10000 in
set_option maxHeartbeats 2000000 in
theorem implClip (d : Dat) (w : World) (hd : d.Ok w) (_hn : d.n ≤ 16777216) :
    Calls Try.prog 95 #[.slice d.A d.n d.c] w (fun e w' => (∃ A, e = .returned (.slice A d.n d.n) ∧ (⟨A, d.n, d.n, d.xs⟩ : Dat).Ok w') ∧ Below w.heap.size w w') := by
  have hc := hd.cap
  have HD := Lib.hid hd
  clear hd
  go_enter Try.func95, Try.ntmps95
  go_wp2
  go_ret
  exact ⟨⟨d.A, rfl, HD.out.rd, Nat.le_refl _⟩, Below.refl _ _⟩
end Go.Proofs.Ytfcomnpoehpgiaa
