/- The table of the weights as a row lists it: what the listed datum says of memory; it reads as before where nothing old is written. -/
import Derived.Test.YtlhcobkncceodaaGreatDoorRows
import Derived.Test.YtlhcobkncceodaaGreatDoorKSetB
import Derived.WalkKit
import Derived.ProofKit
import Derived.LaidMore
import Derived.Lay
import Derived.OpenShut
import Derived.ChangeVars
import Derived.Lib.LaidTab
namespace Go.Proofs.YtlhcobkncceodaaGreatDoor
open Go.ChangeShapes Go.WideShapes Go.ChangeAt Go.RowKit
set_option linter.unusedVariables false

def wtZ : List Int := [1, 2, 4, 8, 16, 32, 64, 128]
def wtV : Array Value := #[.int .u8 1, .int .u8 2, .int .u8 4, .int .u8 8, .int .u8 16, .int .u8 32, .int .u8 64, .int .u8 128]
theorem weights_data : [("loop.example/g00671/impl.weights", (Rows.laid_loop_example_g00671_impl_weights : DataW Unit))] = [("loop.example/g00671/impl.weights", (Lib.tabData .u8 wtZ : DataW Unit))] := by kernel_rfl
theorem weights_name : Tryz.prog.globalNamed "loop.example/g00671/impl.weights" = some 0 := by kernel_rfl
theorem weights_type : (Tryz.prog.globals[0]?).map (·.type) = some 140 := by kernel_rfl
theorem weights_var {W : World} (h : laidMet Tryz.prog [("loop.example/g00671/impl.weights", (Lib.tabData .u8 wtZ : DataW Unit))] W) : W.var? Tryz.prog "loop.example/g00671/impl.weights" = some wtV :=
  Lib.tabIs_of_head (g := 0) (t := 140) (e := 5) (n := 8) weights_name weights_type Tryz.underlying140 Tryz.underlying5 (by kernel_rfl) (by kernel_rfl) h
/-- How it reads, whatever the memory. -/
abbrev wtH {H : Type} : DataW H := Rows.laid_loop_example_g00671_impl_weights
theorem weights_reads {H : Type} (enc : TypeId × Value → H) (W : World) (sp : Nat → Bool) : DataW.trod enc Tryz.prog W 0 sp true 3 140 wtV.toList = some (wtH, []) := by kernel_rfl
theorem weights_trod {H : Type} (enc : TypeId × Value → H) {W : World} (h : W.var? Tryz.prog "loop.example/g00671/impl.weights" = some wtV) (sp : Nat → Bool) :
    DataW.TrodVars enc Tryz.prog W sp ["loop.example/g00671/impl.weights"] [wtH] (MemPlace.row ⟨0, 0, none⟩ wtV.size ++ []) :=
  trodVars_mk1 weights_name weights_type h (weights_reads enc W sp)
theorem weights_met {W : World} (h : W.var? Tryz.prog "loop.example/g00671/impl.weights" = some wtV) : Wts W := by
  have hc : ∀ i, i < 8 → W.cell? ⟨0, i, none⟩ = some (.int .u8 ((2 ^ i : Nat) : Int)) := by
    intro i hi
    have h0 := World.var?_cell weights_name h i
    rw [h0]
    have : i = 0 ∨ i = 1 ∨ i = 2 ∨ i = 3 ∨ i = 4 ∨ i = 5 ∨ i = 6 ∨ i = 7 := by omega
    rcases this with rfl | rfl | rfl | rfl | rfl | rfl | rfl | rfl <;> rfl
  exact ⟨World.block_lt_of_cell? W _ (hc 0 (by omega)), hc⟩
theorem weights_below {W W' : World} (h : W.var? Tryz.prog "loop.example/g00671/impl.weights" = some wtV) (hb : Below W.heap.size W W') : W'.var? Tryz.prog "loop.example/g00671/impl.weights" = some wtV := by
  have hl := (weights_met h).lt
  unfold World.var? at h ⊢
  rw [weights_name, Option.bind_some] at h ⊢
  rw [hb.block _ hl]
  exact h
end Go.Proofs.YtlhcobkncceodaaGreatDoor
