/-
  DERIVED. GIVEN WITH THE SEED: THE CARDS: each row of YtlhcobkncceodaaDoorRows.lean that lists a variable, with what it lists TIED to the program's text (the seventh form; the later family's looks); each row that meets fmt, with fmt's text TOLD by the authors' own Lean function (tested against real Go, not proved from fmt's source: count such statements apart). THE CARD IS WHAT COUNTS. Prove the row's statement (the work); the ties are given (YtlhcobkncceodaaDoorTie.lean); close each card by the builder's one call (the guide's Derived/Test/ToyasCard.lean, 'card_holds'). Laid BY PROGRAM, IN A SANDBOX (cutbox-door.mjs). By AI agents, Wed Nov 11 2026. No macro, syntax, notation, axiom, sorry.
-/
import Derived.Test.YtlhcobkncceodaaDoorRows
import GoSem.ClaimSeven
namespace Go.Proofs.YtlhcobkncceodaaDoor
namespace Rows

/-- THE TIED CARD OF 'laws.FnExactRunOk'. -/
def fnExactRunOkCard : Claim7 := { stood := { row := fnExactRunOkRow, standIns := [], harness := (true, "9c9ef5ee07c19cd067dbdef068650dcef3d6883e78d2f77b02880f45097a1364"), looks := false }, kinds := [], alts := [], laidByText := true, laidKinds := [.data], laidTests := true, laidLooks := .later }
def FnExactRunOkCardSaid : Prop := Claim7.holds Tryd.pinned (.plain (OpenSpec.ofChange fnExactRunOkSpec)) fnExactRunOkCard

/-- THE TIED CARD OF 'laws.FnExactRunNew'. -/
def fnExactRunNewCard : Claim7 := { stood := { row := fnExactRunNewRow, standIns := [], harness := (true, "9c9ef5ee07c19cd067dbdef068650dcef3d6883e78d2f77b02880f45097a1364"), looks := false }, kinds := [], alts := [], laidByText := true, laidKinds := [.data], laidTests := true, laidLooks := .later }
def FnExactRunNewCardSaid : Prop := Claim7.holds Tryd.pinned (.plain (OpenSpec.ofChange fnExactRunNewSpec)) fnExactRunNewCard

/-- THE SECOND FORM's CARD OF 'laws.FnExactRunOk'. -/
def fnExactRunOkUptoCard : Claim7 := { stood := { row := fnExactRunOkUptoRow, standIns := [], harness := (true, "9c9ef5ee07c19cd067dbdef068650dcef3d6883e78d2f77b02880f45097a1364"), looks := false }, kinds := [], alts := [], laidByText := true, laidKinds := [.data], laidTests := true, laidLooks := .later }
def FnExactRunOkUptoCardSaid : Prop := Claim7.holds Tryd.pinned (.plain (OpenSpec.upto fnExactRunOkSpec)) fnExactRunOkUptoCard

/-- THE SECOND FORM's CARD OF 'laws.FnExactRunNew'. -/
def fnExactRunNewUptoCard : Claim7 := { stood := { row := fnExactRunNewUptoRow, standIns := [], harness := (true, "9c9ef5ee07c19cd067dbdef068650dcef3d6883e78d2f77b02880f45097a1364"), looks := false }, kinds := [], alts := [], laidByText := true, laidKinds := [.data], laidTests := true, laidLooks := .later }
def FnExactRunNewUptoCardSaid : Prop := Claim7.holds Tryd.pinned (.plain (OpenSpec.upto fnExactRunNewSpec)) fnExactRunNewUptoCard
end Rows
end Go.Proofs.YtlhcobkncceodaaDoor
