/-
  DERIVED. GIVEN WITH THE SEED: THE CARDS: each row of YtpgkjpomaffbmaaGreatDoorRows.lean that lists a variable, with what it lists TIED to the program's text (the seventh form; the later family's looks); each row that meets fmt, with fmt's text TOLD by the authors' own Lean function (tested against real Go, not proved from fmt's source: count such statements apart). THE CARD IS WHAT COUNTS. Prove the row's statement (the work); the ties are given (YtpgkjpomaffbmaaGreatDoorTie.lean); close each card by the builder's one call (the guide's Derived/Test/ToyasCard.lean, 'card_holds'). Laid BY PROGRAM, IN A SANDBOX (cutbox-door.mjs). By AI agents, Wed Nov 11 2026. No macro, syntax, notation, axiom, sorry.
-/
import Derived.Test.YtpgkjpomaffbmaaGreatDoorRows
import GoSem.ClaimSeven
namespace Go.Proofs.YtpgkjpomaffbmaaGreatDoor
namespace Rows

/-- THE TIED CARD OF 'berthshifttop.TopAuthority'. -/
def topAuthorityCard : Claim7 := { stood := { row := topAuthorityRow, standIns := [], harness := (true, "8c270f305aed827c07ecbd48a37c3d1175332d7604d95b60617926f28e4f3e09"), looks := true }, kinds := [], alts := [], laidByText := true, laidKinds := [.data], laidTests := true, laidLooks := .later }
def TopAuthorityCardSaid : Prop := Claim7.holds Tryz.pinned (.plain (OpenSpec.ofChange topAuthoritySpec)) topAuthorityCard

/-- THE TIED CARD OF 'berthshifttop.TopSealed'. -/
def topSealedCard : Claim7 := { stood := { row := topSealedRow, standIns := [], harness := (true, "8c270f305aed827c07ecbd48a37c3d1175332d7604d95b60617926f28e4f3e09"), looks := true }, kinds := [], alts := [], laidByText := true, laidKinds := [.data], laidTests := true, laidLooks := .later }
def TopSealedCardSaid : Prop := Claim7.holds Tryz.pinned (.plain (OpenSpec.ofChange topSealedSpec)) topSealedCard

/-- THE TIED CARD OF 'berthshifttop.TopAsked'. -/
def topAskedCard : Claim7 := { stood := { row := topAskedRow, standIns := [], harness := (true, "8c270f305aed827c07ecbd48a37c3d1175332d7604d95b60617926f28e4f3e09"), looks := true }, kinds := [], alts := [], laidByText := true, laidKinds := [.data], laidTests := true, laidLooks := .later }
def TopAskedCardSaid : Prop := Claim7.holds Tryz.pinned (.plain (OpenSpec.ofChange topAskedSpec)) topAskedCard

/-- THE TIED CARD OF 'berthshifttop.TopPlaces'. -/
def topPlacesCard : Claim7 := { stood := { row := topPlacesRow, standIns := [], harness := (true, "8c270f305aed827c07ecbd48a37c3d1175332d7604d95b60617926f28e4f3e09"), looks := true }, kinds := [], alts := [], laidByText := true, laidKinds := [.data], laidTests := true, laidLooks := .later }
def TopPlacesCardSaid : Prop := Claim7.holds Tryz.pinned (.plain (OpenSpec.ofChange topPlacesSpec)) topPlacesCard

/-- THE TIED CARD OF 'berthshifttop.TopAnswers'. -/
def topAnswersCard : Claim7 := { stood := { row := topAnswersRow, standIns := [], harness := (true, "8c270f305aed827c07ecbd48a37c3d1175332d7604d95b60617926f28e4f3e09"), looks := true }, kinds := [], alts := [], laidByText := true, laidKinds := [.data], laidTests := true, laidLooks := .later }
def TopAnswersCardSaid : Prop := Claim7.holds Tryz.pinned (.plain (OpenSpec.ofChange topAnswersSpec)) topAnswersCard

/-- THE TIED CARD OF 'berthshifttop.TopOthers'. -/
def topOthersCard : Claim7 := { stood := { row := topOthersRow, standIns := [], harness := (true, "8c270f305aed827c07ecbd48a37c3d1175332d7604d95b60617926f28e4f3e09"), looks := true }, kinds := [], alts := [], laidByText := true, laidKinds := [.data], laidTests := true, laidLooks := .later }
def TopOthersCardSaid : Prop := Claim7.holds Tryz.pinned (.plain (OpenSpec.ofChange topOthersSpec)) topOthersCard

/-- THE TIED CARD OF 'berthshifttop.TopUnsynced'. -/
def topUnsyncedCard : Claim7 := { stood := { row := topUnsyncedRow, standIns := [], harness := (true, "8c270f305aed827c07ecbd48a37c3d1175332d7604d95b60617926f28e4f3e09"), looks := true }, kinds := [], alts := [], laidByText := true, laidKinds := [.data], laidTests := true, laidLooks := .later }
def TopUnsyncedCardSaid : Prop := Claim7.holds Tryz.pinned (.plain (OpenSpec.ofChange topUnsyncedSpec)) topUnsyncedCard

/-- THE TIED CARD OF 'berthshifttop.TopTwice'. -/
def topTwiceCard : Claim7 := { stood := { row := topTwiceRow, standIns := [], harness := (true, "8c270f305aed827c07ecbd48a37c3d1175332d7604d95b60617926f28e4f3e09"), looks := true }, kinds := [], alts := [], laidByText := true, laidKinds := [.data], laidTests := true, laidLooks := .later }
def TopTwiceCardSaid : Prop := Claim7.holds Tryz.pinned (.plain (OpenSpec.ofChange topTwiceSpec)) topTwiceCard

/-- THE TIED CARD OF 'berthshifttop.TopPrefix'. -/
def topPrefixCard : Claim7 := { stood := { row := topPrefixRow, standIns := [], harness := (true, "8c270f305aed827c07ecbd48a37c3d1175332d7604d95b60617926f28e4f3e09"), looks := true }, kinds := [], alts := [], laidByText := true, laidKinds := [.data], laidTests := true, laidLooks := .later }
def TopPrefixCardSaid : Prop := Claim7.holds Tryz.pinned (.plain (OpenSpec.ofChange topPrefixSpec)) topPrefixCard

/-- THE TIED CARD OF 'berthshifttop.TopWhole'. -/
def topWholeCard : Claim7 := { stood := { row := topWholeRow, standIns := [], harness := (true, "8c270f305aed827c07ecbd48a37c3d1175332d7604d95b60617926f28e4f3e09"), looks := true }, kinds := [], alts := [], laidByText := true, laidKinds := [.data], laidTests := true, laidLooks := .later }
def TopWholeCardSaid : Prop := Claim7.holds Tryz.pinned (.plain (OpenSpec.ofChange topWholeSpec)) topWholeCard

/-- THE TIED CARD OF 'berthshifttop.TopHandles'. -/
def topHandlesCard : Claim7 := { stood := { row := topHandlesRow, standIns := [], harness := (true, "8c270f305aed827c07ecbd48a37c3d1175332d7604d95b60617926f28e4f3e09"), looks := true }, kinds := [], alts := [], laidByText := true, laidKinds := [.data], laidTests := true, laidLooks := .later }
def TopHandlesCardSaid : Prop := Claim7.holds Tryz.pinned (.plain (OpenSpec.ofChange topHandlesSpec)) topHandlesCard

/-- THE TIED CARD OF 'berthshifttop.TopEpochs'. -/
def topEpochsCard : Claim7 := { stood := { row := topEpochsRow, standIns := [], harness := (true, "8c270f305aed827c07ecbd48a37c3d1175332d7604d95b60617926f28e4f3e09"), looks := true }, kinds := [], alts := [], laidByText := true, laidKinds := [.data], laidTests := true, laidLooks := .later }
def TopEpochsCardSaid : Prop := Claim7.holds Tryz.pinned (.plain (OpenSpec.ofChange topEpochsSpec)) topEpochsCard

/-- THE SECOND FORM's CARD OF 'berthshifttop.TopAuthority'. -/
def topAuthorityUptoCard : Claim7 := { stood := { row := topAuthorityUptoRow, standIns := [], harness := (true, "8c270f305aed827c07ecbd48a37c3d1175332d7604d95b60617926f28e4f3e09"), looks := true }, kinds := [], alts := [], laidByText := true, laidKinds := [.data], laidTests := true, laidLooks := .later }
def TopAuthorityUptoCardSaid : Prop := Claim7.holds Tryz.pinned (.plain (OpenSpec.upto topAuthoritySpec)) topAuthorityUptoCard

/-- THE SECOND FORM's CARD OF 'berthshifttop.TopSealed'. -/
def topSealedUptoCard : Claim7 := { stood := { row := topSealedUptoRow, standIns := [], harness := (true, "8c270f305aed827c07ecbd48a37c3d1175332d7604d95b60617926f28e4f3e09"), looks := true }, kinds := [], alts := [], laidByText := true, laidKinds := [.data], laidTests := true, laidLooks := .later }
def TopSealedUptoCardSaid : Prop := Claim7.holds Tryz.pinned (.plain (OpenSpec.upto topSealedSpec)) topSealedUptoCard

/-- THE SECOND FORM's CARD OF 'berthshifttop.TopAsked'. -/
def topAskedUptoCard : Claim7 := { stood := { row := topAskedUptoRow, standIns := [], harness := (true, "8c270f305aed827c07ecbd48a37c3d1175332d7604d95b60617926f28e4f3e09"), looks := true }, kinds := [], alts := [], laidByText := true, laidKinds := [.data], laidTests := true, laidLooks := .later }
def TopAskedUptoCardSaid : Prop := Claim7.holds Tryz.pinned (.plain (OpenSpec.upto topAskedSpec)) topAskedUptoCard

/-- THE SECOND FORM's CARD OF 'berthshifttop.TopPlaces'. -/
def topPlacesUptoCard : Claim7 := { stood := { row := topPlacesUptoRow, standIns := [], harness := (true, "8c270f305aed827c07ecbd48a37c3d1175332d7604d95b60617926f28e4f3e09"), looks := true }, kinds := [], alts := [], laidByText := true, laidKinds := [.data], laidTests := true, laidLooks := .later }
def TopPlacesUptoCardSaid : Prop := Claim7.holds Tryz.pinned (.plain (OpenSpec.upto topPlacesSpec)) topPlacesUptoCard

/-- THE SECOND FORM's CARD OF 'berthshifttop.TopAnswers'. -/
def topAnswersUptoCard : Claim7 := { stood := { row := topAnswersUptoRow, standIns := [], harness := (true, "8c270f305aed827c07ecbd48a37c3d1175332d7604d95b60617926f28e4f3e09"), looks := true }, kinds := [], alts := [], laidByText := true, laidKinds := [.data], laidTests := true, laidLooks := .later }
def TopAnswersUptoCardSaid : Prop := Claim7.holds Tryz.pinned (.plain (OpenSpec.upto topAnswersSpec)) topAnswersUptoCard

/-- THE SECOND FORM's CARD OF 'berthshifttop.TopOthers'. -/
def topOthersUptoCard : Claim7 := { stood := { row := topOthersUptoRow, standIns := [], harness := (true, "8c270f305aed827c07ecbd48a37c3d1175332d7604d95b60617926f28e4f3e09"), looks := true }, kinds := [], alts := [], laidByText := true, laidKinds := [.data], laidTests := true, laidLooks := .later }
def TopOthersUptoCardSaid : Prop := Claim7.holds Tryz.pinned (.plain (OpenSpec.upto topOthersSpec)) topOthersUptoCard

/-- THE SECOND FORM's CARD OF 'berthshifttop.TopUnsynced'. -/
def topUnsyncedUptoCard : Claim7 := { stood := { row := topUnsyncedUptoRow, standIns := [], harness := (true, "8c270f305aed827c07ecbd48a37c3d1175332d7604d95b60617926f28e4f3e09"), looks := true }, kinds := [], alts := [], laidByText := true, laidKinds := [.data], laidTests := true, laidLooks := .later }
def TopUnsyncedUptoCardSaid : Prop := Claim7.holds Tryz.pinned (.plain (OpenSpec.upto topUnsyncedSpec)) topUnsyncedUptoCard

/-- THE SECOND FORM's CARD OF 'berthshifttop.TopTwice'. -/
def topTwiceUptoCard : Claim7 := { stood := { row := topTwiceUptoRow, standIns := [], harness := (true, "8c270f305aed827c07ecbd48a37c3d1175332d7604d95b60617926f28e4f3e09"), looks := true }, kinds := [], alts := [], laidByText := true, laidKinds := [.data], laidTests := true, laidLooks := .later }
def TopTwiceUptoCardSaid : Prop := Claim7.holds Tryz.pinned (.plain (OpenSpec.upto topTwiceSpec)) topTwiceUptoCard

/-- THE SECOND FORM's CARD OF 'berthshifttop.TopPrefix'. -/
def topPrefixUptoCard : Claim7 := { stood := { row := topPrefixUptoRow, standIns := [], harness := (true, "8c270f305aed827c07ecbd48a37c3d1175332d7604d95b60617926f28e4f3e09"), looks := true }, kinds := [], alts := [], laidByText := true, laidKinds := [.data], laidTests := true, laidLooks := .later }
def TopPrefixUptoCardSaid : Prop := Claim7.holds Tryz.pinned (.plain (OpenSpec.upto topPrefixSpec)) topPrefixUptoCard

/-- THE SECOND FORM's CARD OF 'berthshifttop.TopWhole'. -/
def topWholeUptoCard : Claim7 := { stood := { row := topWholeUptoRow, standIns := [], harness := (true, "8c270f305aed827c07ecbd48a37c3d1175332d7604d95b60617926f28e4f3e09"), looks := true }, kinds := [], alts := [], laidByText := true, laidKinds := [.data], laidTests := true, laidLooks := .later }
def TopWholeUptoCardSaid : Prop := Claim7.holds Tryz.pinned (.plain (OpenSpec.upto topWholeSpec)) topWholeUptoCard

/-- THE SECOND FORM's CARD OF 'berthshifttop.TopHandles'. -/
def topHandlesUptoCard : Claim7 := { stood := { row := topHandlesUptoRow, standIns := [], harness := (true, "8c270f305aed827c07ecbd48a37c3d1175332d7604d95b60617926f28e4f3e09"), looks := true }, kinds := [], alts := [], laidByText := true, laidKinds := [.data], laidTests := true, laidLooks := .later }
def TopHandlesUptoCardSaid : Prop := Claim7.holds Tryz.pinned (.plain (OpenSpec.upto topHandlesSpec)) topHandlesUptoCard

/-- THE SECOND FORM's CARD OF 'berthshifttop.TopEpochs'. -/
def topEpochsUptoCard : Claim7 := { stood := { row := topEpochsUptoRow, standIns := [], harness := (true, "8c270f305aed827c07ecbd48a37c3d1175332d7604d95b60617926f28e4f3e09"), looks := true }, kinds := [], alts := [], laidByText := true, laidKinds := [.data], laidTests := true, laidLooks := .later }
def TopEpochsUptoCardSaid : Prop := Claim7.holds Tryz.pinned (.plain (OpenSpec.upto topEpochsSpec)) topEpochsUptoCard
end Rows
end Go.Proofs.YtpgkjpomaffbmaaGreatDoor
