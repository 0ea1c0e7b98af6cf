/-
  DERIVED. GIVEN WITH THE SEED: THE CARDS: each row of YtpgnappddddlpaaGreatDoorRows.lean that lists a variable, with what it lists TIED to the program's text (the seventh form; the later family's looks); each row that meets fmt, with fmt's text TOLD by the authors' own Lean function (tested against real Go, not proved from fmt's source: count such statements apart). THE CARD IS WHAT COUNTS. Prove the row's statement (the work); the ties are given (YtpgnappddddlpaaGreatDoorTie.lean); close each card by the builder's one call (the guide's Derived/Test/ToyasCard.lean, 'card_holds'). Laid BY PROGRAM, IN A SANDBOX (cutbox-door.mjs). By AI agents, Wed Nov 11 2026. No macro, syntax, notation, axiom, sorry.
-/
import Derived.Test.YtpgnappddddlpaaGreatDoorRows
import GoSem.ClaimSeven
namespace Go.Proofs.YtpgnappddddlpaaGreatDoor
namespace Rows

/-- THE TIED CARD OF 'laws.FnExactRunVertex'. -/
def fnExactRunVertexCard : Claim7 := { stood := { row := fnExactRunVertexRow, standIns := [], harness := (true, "9b49bf474ad93e5c41db4b16de62b1a9dacccdf7ea4f2122780b1dfdcd0c7107"), looks := false }, kinds := [], alts := [], laidByText := true, laidKinds := [.data], laidTests := true, laidLooks := .later }
def FnExactRunVertexCardSaid : Prop := Claim7.holds Tryz.pinned (.plain (OpenSpec.ofChange fnExactRunVertexSpec)) fnExactRunVertexCard

/-- THE SECOND FORM's CARD OF 'laws.FnExactRunVertex'. -/
def fnExactRunVertexUptoCard : Claim7 := { stood := { row := fnExactRunVertexUptoRow, standIns := [], harness := (true, "9b49bf474ad93e5c41db4b16de62b1a9dacccdf7ea4f2122780b1dfdcd0c7107"), looks := false }, kinds := [], alts := [], laidByText := true, laidKinds := [.data], laidTests := true, laidLooks := .later }
def FnExactRunVertexUptoCardSaid : Prop := Claim7.holds Tryz.pinned (.plain (OpenSpec.upto fnExactRunVertexSpec)) fnExactRunVertexUptoCard
end Rows
end Go.Proofs.YtpgnappddddlpaaGreatDoor
