/-
  DERIVED. GIVEN WITH THE SEED: THE CARDS: each row of YtlhcobkncceodaaGreatDoorRows.lean that lists a variable, with what it lists TIED to the program's text (the seventh form; the later family's looks); each row that meets fmt, with fmt's text TOLD by the authors' own Lean function (tested against real Go, not proved from fmt's source: count such statements apart). THE CARD IS WHAT COUNTS. Prove the row's statement (the work); the ties are given (YtlhcobkncceodaaGreatDoorTie.lean); close each card by the builder's one call (the guide's Derived/Test/ToyasCard.lean, 'card_holds'). Laid BY PROGRAM, IN A SANDBOX (cutbox-door.mjs). By AI agents, Wed Nov 11 2026. No macro, syntax, notation, axiom, sorry.
-/
import Derived.Test.YtlhcobkncceodaaGreatDoorRows
import GoSem.ClaimSeven
namespace Go.Proofs.YtlhcobkncceodaaGreatDoor
namespace Rows

/-- THE TIED CARD OF 'laws.FnFix'. -/
def fnFixCard : Claim7 := { stood := { row := fnFixRow, standIns := [], harness := (true, "5c509b02e362596e8d613e0147d1dc8c447eb702aa7eed13b413c57ca794e382"), looks := false }, kinds := [], alts := [], laidByText := true, laidKinds := [.data], laidTests := true, laidLooks := .later }
def FnFixCardSaid : Prop := Claim7.holds Tryz.pinned (.plain (OpenSpec.ofChange fnFixSpec)) fnFixCard

/-- THE TIED CARD OF 'laws.FnRunOk'. -/
def fnRunOkCard : Claim7 := { stood := { row := fnRunOkRow, standIns := [], harness := (true, "5c509b02e362596e8d613e0147d1dc8c447eb702aa7eed13b413c57ca794e382"), looks := false }, kinds := [], alts := [], laidByText := true, laidKinds := [.data], laidTests := true, laidLooks := .later }
def FnRunOkCardSaid : Prop := Claim7.holds Tryz.pinned (.plain (OpenSpec.ofChange fnRunOkSpec)) fnRunOkCard

/-- THE TIED CARD OF 'laws.FnExactViews'. -/
def fnExactViewsCard : Claim7 := { stood := { row := fnExactViewsRow, standIns := [], harness := (true, "5c509b02e362596e8d613e0147d1dc8c447eb702aa7eed13b413c57ca794e382"), looks := false }, kinds := [], alts := [], laidByText := true, laidKinds := [.data], laidTests := true, laidLooks := .later }
def FnExactViewsCardSaid : Prop := Claim7.holds Tryz.pinned (.plain (OpenSpec.ofChange fnExactViewsSpec)) fnExactViewsCard

/-- THE TIED CARD OF 'laws.FnExactRunVertex'. -/
def fnExactRunVertexCard : Claim7 := { stood := { row := fnExactRunVertexRow, standIns := [], harness := (true, "5c509b02e362596e8d613e0147d1dc8c447eb702aa7eed13b413c57ca794e382"), looks := false }, kinds := [], alts := [], laidByText := true, laidKinds := [.data], laidTests := true, laidLooks := .later }
def FnExactRunVertexCardSaid : Prop := Claim7.holds Tryz.pinned (.plain (OpenSpec.ofChange fnExactRunVertexSpec)) fnExactRunVertexCard

/-- THE TIED CARD OF 'laws.FnExactRunIter'. -/
def fnExactRunIterCard : Claim7 := { stood := { row := fnExactRunIterRow, standIns := [], harness := (true, "5c509b02e362596e8d613e0147d1dc8c447eb702aa7eed13b413c57ca794e382"), looks := false }, kinds := [], alts := [], laidByText := true, laidKinds := [.data], laidTests := true, laidLooks := .later }
def FnExactRunIterCardSaid : Prop := Claim7.holds Tryz.pinned (.plain (OpenSpec.ofChange fnExactRunIterSpec)) fnExactRunIterCard

/-- THE TIED CARD OF 'laws.FnExactRunAll'. -/
def fnExactRunAllCard : Claim7 := { stood := { row := fnExactRunAllRow, standIns := [], harness := (true, "5c509b02e362596e8d613e0147d1dc8c447eb702aa7eed13b413c57ca794e382"), looks := false }, kinds := [], alts := [], laidByText := true, laidKinds := [.data], laidTests := true, laidLooks := .later }
def FnExactRunAllCardSaid : Prop := Claim7.holds Tryz.pinned (.plain (OpenSpec.ofChange fnExactRunAllSpec)) fnExactRunAllCard

/-- THE SECOND FORM's CARD OF 'laws.FnFix'. -/
def fnFixUptoCard : Claim7 := { stood := { row := fnFixUptoRow, standIns := [], harness := (true, "5c509b02e362596e8d613e0147d1dc8c447eb702aa7eed13b413c57ca794e382"), looks := false }, kinds := [], alts := [], laidByText := true, laidKinds := [.data], laidTests := true, laidLooks := .later }
def FnFixUptoCardSaid : Prop := Claim7.holds Tryz.pinned (.plain (OpenSpec.upto fnFixSpec)) fnFixUptoCard

/-- THE SECOND FORM's CARD OF 'laws.FnRunOk'. -/
def fnRunOkUptoCard : Claim7 := { stood := { row := fnRunOkUptoRow, standIns := [], harness := (true, "5c509b02e362596e8d613e0147d1dc8c447eb702aa7eed13b413c57ca794e382"), looks := false }, kinds := [], alts := [], laidByText := true, laidKinds := [.data], laidTests := true, laidLooks := .later }
def FnRunOkUptoCardSaid : Prop := Claim7.holds Tryz.pinned (.plain (OpenSpec.upto fnRunOkSpec)) fnRunOkUptoCard

/-- THE SECOND FORM's CARD OF 'laws.FnExactViews'. -/
def fnExactViewsUptoCard : Claim7 := { stood := { row := fnExactViewsUptoRow, standIns := [], harness := (true, "5c509b02e362596e8d613e0147d1dc8c447eb702aa7eed13b413c57ca794e382"), looks := false }, kinds := [], alts := [], laidByText := true, laidKinds := [.data], laidTests := true, laidLooks := .later }
def FnExactViewsUptoCardSaid : Prop := Claim7.holds Tryz.pinned (.plain (OpenSpec.upto fnExactViewsSpec)) fnExactViewsUptoCard

/-- THE SECOND FORM's CARD OF 'laws.FnExactRunVertex'. -/
def fnExactRunVertexUptoCard : Claim7 := { stood := { row := fnExactRunVertexUptoRow, standIns := [], harness := (true, "5c509b02e362596e8d613e0147d1dc8c447eb702aa7eed13b413c57ca794e382"), looks := false }, kinds := [], alts := [], laidByText := true, laidKinds := [.data], laidTests := true, laidLooks := .later }
def FnExactRunVertexUptoCardSaid : Prop := Claim7.holds Tryz.pinned (.plain (OpenSpec.upto fnExactRunVertexSpec)) fnExactRunVertexUptoCard

/-- THE SECOND FORM's CARD OF 'laws.FnExactRunIter'. -/
def fnExactRunIterUptoCard : Claim7 := { stood := { row := fnExactRunIterUptoRow, standIns := [], harness := (true, "5c509b02e362596e8d613e0147d1dc8c447eb702aa7eed13b413c57ca794e382"), looks := false }, kinds := [], alts := [], laidByText := true, laidKinds := [.data], laidTests := true, laidLooks := .later }
def FnExactRunIterUptoCardSaid : Prop := Claim7.holds Tryz.pinned (.plain (OpenSpec.upto fnExactRunIterSpec)) fnExactRunIterUptoCard

/-- THE SECOND FORM's CARD OF 'laws.FnExactRunAll'. -/
def fnExactRunAllUptoCard : Claim7 := { stood := { row := fnExactRunAllUptoRow, standIns := [], harness := (true, "5c509b02e362596e8d613e0147d1dc8c447eb702aa7eed13b413c57ca794e382"), looks := false }, kinds := [], alts := [], laidByText := true, laidKinds := [.data], laidTests := true, laidLooks := .later }
def FnExactRunAllUptoCardSaid : Prop := Claim7.holds Tryz.pinned (.plain (OpenSpec.upto fnExactRunAllSpec)) fnExactRunAllUptoCard
end Rows
end Go.Proofs.YtlhcobkncceodaaGreatDoor
