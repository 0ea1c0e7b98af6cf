/-
  DERIVED. GIVEN WITH THE SEED: THE CARDS: each row of YtbkchmkhaapmaaaDoorRows.lean that lists a variable, with what it lists TIED to the program's text (the seventh form; the later family's looks); each row that meets fmt, with fmt's text TOLD by the authors' own Lean function (tested against real Go, not proved from fmt's source: count such statements apart). THE CARD IS WHAT COUNTS. Prove the row's statement (the work); the ties are given (YtbkchmkhaapmaaaDoorTie.lean); close each card by the builder's one call (the guide's Derived/Test/ToyasCard.lean, 'card_holds'). Laid BY PROGRAM, IN A SANDBOX (cutbox-door.mjs). By AI agents, Wed Nov 11 2026. No macro, syntax, notation, axiom, sorry.
-/
import Derived.Test.YtbkchmkhaapmaaaDoorRows
import GoSem.ClaimSeven
namespace Go.Proofs.YtbkchmkhaapmaaaDoor
namespace Rows

/-- THE TIED CARD OF 'laws.FnSets'. -/
def fnSetsCard : Claim7 := { stood := { row := fnSetsRow, standIns := [], harness := (true, "e9b4f5dd56dbc1285d12dadc30c6acd956d0c79907f02d64bb9b7e1e140af56a"), looks := false }, kinds := [], alts := [], laidByText := true, laidKinds := [.data], laidTests := true, laidLooks := .later }
def FnSetsCardSaid : Prop := Claim7.holds Tryd.pinned (.plain (OpenSpec.ofChange fnSetsSpec)) fnSetsCard

/-- THE TIED CARD OF 'laws.FnExactSetOk'. -/
def fnExactSetOkCard : Claim7 := { stood := { row := fnExactSetOkRow, standIns := [], harness := (true, "e9b4f5dd56dbc1285d12dadc30c6acd956d0c79907f02d64bb9b7e1e140af56a"), looks := false }, kinds := [], alts := [], laidByText := true, laidKinds := [.data], laidTests := true, laidLooks := .later }
def FnExactSetOkCardSaid : Prop := Claim7.holds Tryd.pinned (.plain (OpenSpec.ofChange fnExactSetOkSpec)) fnExactSetOkCard

/-- THE TIED CARD OF 'laws.FnExactSetNew'. -/
def fnExactSetNewCard : Claim7 := { stood := { row := fnExactSetNewRow, standIns := [], harness := (true, "e9b4f5dd56dbc1285d12dadc30c6acd956d0c79907f02d64bb9b7e1e140af56a"), looks := false }, kinds := [], alts := [], laidByText := true, laidKinds := [.data], laidTests := true, laidLooks := .later }
def FnExactSetNewCardSaid : Prop := Claim7.holds Tryd.pinned (.plain (OpenSpec.ofChange fnExactSetNewSpec)) fnExactSetNewCard

/-- THE TIED CARD OF 'laws.FnExactHas'. -/
def fnExactHasCard : Claim7 := { stood := { row := fnExactHasRow, standIns := [], harness := (true, "e9b4f5dd56dbc1285d12dadc30c6acd956d0c79907f02d64bb9b7e1e140af56a"), looks := false }, kinds := [], alts := [], laidByText := true, laidKinds := [.data], laidTests := true, laidLooks := .later }
def FnExactHasCardSaid : Prop := Claim7.holds Tryd.pinned (.plain (OpenSpec.ofChange fnExactHasSpec)) fnExactHasCard

/-- THE TIED CARD OF 'laws.FnExactWith'. -/
def fnExactWithCard : Claim7 := { stood := { row := fnExactWithRow, standIns := [], harness := (true, "e9b4f5dd56dbc1285d12dadc30c6acd956d0c79907f02d64bb9b7e1e140af56a"), looks := false }, kinds := [], alts := [], laidByText := true, laidKinds := [.data], laidTests := true, laidLooks := .later }
def FnExactWithCardSaid : Prop := Claim7.holds Tryd.pinned (.plain (OpenSpec.ofChange fnExactWithSpec)) fnExactWithCard

/-- THE TIED CARD OF 'laws.FnExactWithout'. -/
def fnExactWithoutCard : Claim7 := { stood := { row := fnExactWithoutRow, standIns := [], harness := (true, "e9b4f5dd56dbc1285d12dadc30c6acd956d0c79907f02d64bb9b7e1e140af56a"), looks := false }, kinds := [], alts := [], laidByText := true, laidKinds := [.data], laidTests := true, laidLooks := .later }
def FnExactWithoutCardSaid : Prop := Claim7.holds Tryd.pinned (.plain (OpenSpec.ofChange fnExactWithoutSpec)) fnExactWithoutCard

/-- THE TIED CARD OF 'laws.FnExactMembers'. -/
def fnExactMembersCard : Claim7 := { stood := { row := fnExactMembersRow, standIns := [], harness := (true, "e9b4f5dd56dbc1285d12dadc30c6acd956d0c79907f02d64bb9b7e1e140af56a"), looks := false }, kinds := [], alts := [], laidByText := true, laidKinds := [.data], laidTests := true, laidLooks := .later }
def FnExactMembersCardSaid : Prop := Claim7.holds Tryd.pinned (.plain (OpenSpec.ofChange fnExactMembersSpec)) fnExactMembersCard

/-- THE TIED CARD OF 'laws.FnExactEither'. -/
def fnExactEitherCard : Claim7 := { stood := { row := fnExactEitherRow, standIns := [], harness := (true, "e9b4f5dd56dbc1285d12dadc30c6acd956d0c79907f02d64bb9b7e1e140af56a"), looks := false }, kinds := [], alts := [], laidByText := true, laidKinds := [.data], laidTests := true, laidLooks := .later }
def FnExactEitherCardSaid : Prop := Claim7.holds Tryd.pinned (.plain (OpenSpec.ofChange fnExactEitherSpec)) fnExactEitherCard

/-- THE TIED CARD OF 'laws.FnExactDigest'. -/
def fnExactDigestCard : Claim7 := { stood := { row := fnExactDigestRow, standIns := [], harness := (true, "e9b4f5dd56dbc1285d12dadc30c6acd956d0c79907f02d64bb9b7e1e140af56a"), looks := false }, kinds := [], alts := [], laidByText := true, laidKinds := [.data], laidTests := true, laidLooks := .later }
def FnExactDigestCardSaid : Prop := Claim7.holds Tryd.pinned (.plain (OpenSpec.ofChange fnExactDigestSpec)) fnExactDigestCard

/-- THE SECOND FORM's CARD OF 'laws.FnSets'. -/
def fnSetsUptoCard : Claim7 := { stood := { row := fnSetsUptoRow, standIns := [], harness := (true, "e9b4f5dd56dbc1285d12dadc30c6acd956d0c79907f02d64bb9b7e1e140af56a"), looks := false }, kinds := [], alts := [], laidByText := true, laidKinds := [.data], laidTests := true, laidLooks := .later }
def FnSetsUptoCardSaid : Prop := Claim7.holds Tryd.pinned (.plain (OpenSpec.upto fnSetsSpec)) fnSetsUptoCard

/-- THE SECOND FORM's CARD OF 'laws.FnExactSetOk'. -/
def fnExactSetOkUptoCard : Claim7 := { stood := { row := fnExactSetOkUptoRow, standIns := [], harness := (true, "e9b4f5dd56dbc1285d12dadc30c6acd956d0c79907f02d64bb9b7e1e140af56a"), looks := false }, kinds := [], alts := [], laidByText := true, laidKinds := [.data], laidTests := true, laidLooks := .later }
def FnExactSetOkUptoCardSaid : Prop := Claim7.holds Tryd.pinned (.plain (OpenSpec.upto fnExactSetOkSpec)) fnExactSetOkUptoCard

/-- THE SECOND FORM's CARD OF 'laws.FnExactSetNew'. -/
def fnExactSetNewUptoCard : Claim7 := { stood := { row := fnExactSetNewUptoRow, standIns := [], harness := (true, "e9b4f5dd56dbc1285d12dadc30c6acd956d0c79907f02d64bb9b7e1e140af56a"), looks := false }, kinds := [], alts := [], laidByText := true, laidKinds := [.data], laidTests := true, laidLooks := .later }
def FnExactSetNewUptoCardSaid : Prop := Claim7.holds Tryd.pinned (.plain (OpenSpec.upto fnExactSetNewSpec)) fnExactSetNewUptoCard

/-- THE SECOND FORM's CARD OF 'laws.FnExactHas'. -/
def fnExactHasUptoCard : Claim7 := { stood := { row := fnExactHasUptoRow, standIns := [], harness := (true, "e9b4f5dd56dbc1285d12dadc30c6acd956d0c79907f02d64bb9b7e1e140af56a"), looks := false }, kinds := [], alts := [], laidByText := true, laidKinds := [.data], laidTests := true, laidLooks := .later }
def FnExactHasUptoCardSaid : Prop := Claim7.holds Tryd.pinned (.plain (OpenSpec.upto fnExactHasSpec)) fnExactHasUptoCard

/-- THE SECOND FORM's CARD OF 'laws.FnExactWith'. -/
def fnExactWithUptoCard : Claim7 := { stood := { row := fnExactWithUptoRow, standIns := [], harness := (true, "e9b4f5dd56dbc1285d12dadc30c6acd956d0c79907f02d64bb9b7e1e140af56a"), looks := false }, kinds := [], alts := [], laidByText := true, laidKinds := [.data], laidTests := true, laidLooks := .later }
def FnExactWithUptoCardSaid : Prop := Claim7.holds Tryd.pinned (.plain (OpenSpec.upto fnExactWithSpec)) fnExactWithUptoCard

/-- THE SECOND FORM's CARD OF 'laws.FnExactWithout'. -/
def fnExactWithoutUptoCard : Claim7 := { stood := { row := fnExactWithoutUptoRow, standIns := [], harness := (true, "e9b4f5dd56dbc1285d12dadc30c6acd956d0c79907f02d64bb9b7e1e140af56a"), looks := false }, kinds := [], alts := [], laidByText := true, laidKinds := [.data], laidTests := true, laidLooks := .later }
def FnExactWithoutUptoCardSaid : Prop := Claim7.holds Tryd.pinned (.plain (OpenSpec.upto fnExactWithoutSpec)) fnExactWithoutUptoCard

/-- THE SECOND FORM's CARD OF 'laws.FnExactMembers'. -/
def fnExactMembersUptoCard : Claim7 := { stood := { row := fnExactMembersUptoRow, standIns := [], harness := (true, "e9b4f5dd56dbc1285d12dadc30c6acd956d0c79907f02d64bb9b7e1e140af56a"), looks := false }, kinds := [], alts := [], laidByText := true, laidKinds := [.data], laidTests := true, laidLooks := .later }
def FnExactMembersUptoCardSaid : Prop := Claim7.holds Tryd.pinned (.plain (OpenSpec.upto fnExactMembersSpec)) fnExactMembersUptoCard

/-- THE SECOND FORM's CARD OF 'laws.FnExactEither'. -/
def fnExactEitherUptoCard : Claim7 := { stood := { row := fnExactEitherUptoRow, standIns := [], harness := (true, "e9b4f5dd56dbc1285d12dadc30c6acd956d0c79907f02d64bb9b7e1e140af56a"), looks := false }, kinds := [], alts := [], laidByText := true, laidKinds := [.data], laidTests := true, laidLooks := .later }
def FnExactEitherUptoCardSaid : Prop := Claim7.holds Tryd.pinned (.plain (OpenSpec.upto fnExactEitherSpec)) fnExactEitherUptoCard

/-- THE SECOND FORM's CARD OF 'laws.FnExactDigest'. -/
def fnExactDigestUptoCard : Claim7 := { stood := { row := fnExactDigestUptoRow, standIns := [], harness := (true, "e9b4f5dd56dbc1285d12dadc30c6acd956d0c79907f02d64bb9b7e1e140af56a"), looks := false }, kinds := [], alts := [], laidByText := true, laidKinds := [.data], laidTests := true, laidLooks := .later }
def FnExactDigestUptoCardSaid : Prop := Claim7.holds Tryd.pinned (.plain (OpenSpec.upto fnExactDigestSpec)) fnExactDigestUptoCard
end Rows
end Go.Proofs.YtbkchmkhaapmaaaDoor
