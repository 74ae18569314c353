/-
  DERIVED. GIVEN WITH THE SEED: THE CARDS: each row of YtmhifeahpnkpiaaGreatDoorRows.lean that lists a variable, with what it lists TIED to the program's text (the seventh form; the later family's looks); each row that meets fmt, with fmt's text TOLD by the authors' own Lean function (tested against real Go, not proved from fmt's source: count such statements apart). THE CARD IS WHAT COUNTS. Prove the row's statement (the work); the ties are given (YtmhifeahpnkpiaaGreatDoorTie.lean); close each card by the builder's one call (the guide's Derived/Test/ToyasCard.lean, 'card_holds'). Laid BY PROGRAM, IN A SANDBOX (cutbox-door.mjs). By AI agents, Wed Nov 11 2026. No macro, syntax, notation, axiom, sorry.
-/
import Derived.Test.YtmhifeahpnkpiaaGreatDoorRows
import GoSem.ClaimSeven
namespace Go.Proofs.YtmhifeahpnkpiaaGreatDoor
namespace Rows

/-- THE TIED CARD OF 'berthshiftlaw.ClusterRefuses'. -/
def clusterRefusesCard : Claim7 := { stood := { row := clusterRefusesRow, standIns := [], harness := (true, "8c1cd532d112b5f1b13463e5935b4ec2a84b8d8e499428abc1e0566194223d96"), looks := true }, kinds := [], alts := [], laidByText := true, laidKinds := [.data], laidTests := true, laidLooks := .later }
def ClusterRefusesCardSaid : Prop := Claim7.holds Tryz.pinned (.plain (OpenSpec.ofChange clusterRefusesSpec)) clusterRefusesCard

/-- THE TIED CARD OF 'berthshifttop.TopOne'. -/
def topOneCard : Claim7 := { stood := { row := topOneRow, standIns := [], harness := (true, "8c1cd532d112b5f1b13463e5935b4ec2a84b8d8e499428abc1e0566194223d96"), looks := true }, kinds := [], alts := [], laidByText := true, laidKinds := [.data], laidTests := true, laidLooks := .later }
def TopOneCardSaid : Prop := Claim7.holds Tryz.pinned (.plain (OpenSpec.ofChange topOneSpec)) topOneCard

/-- THE TIED CARD OF 'berthshifttop.TopDirectory'. -/
def topDirectoryCard : Claim7 := { stood := { row := topDirectoryRow, standIns := [], harness := (true, "8c1cd532d112b5f1b13463e5935b4ec2a84b8d8e499428abc1e0566194223d96"), looks := true }, kinds := [], alts := [], laidByText := true, laidKinds := [.data], laidTests := true, laidLooks := .later }
def TopDirectoryCardSaid : Prop := Claim7.holds Tryz.pinned (.plain (OpenSpec.ofChange topDirectorySpec)) topDirectoryCard

/-- THE TIED CARD OF 'berthshifttop.TopGrows'. -/
def topGrowsCard : Claim7 := { stood := { row := topGrowsRow, standIns := [], harness := (true, "8c1cd532d112b5f1b13463e5935b4ec2a84b8d8e499428abc1e0566194223d96"), looks := true }, kinds := [], alts := [], laidByText := true, laidKinds := [.data], laidTests := true, laidLooks := .later }
def TopGrowsCardSaid : Prop := Claim7.holds Tryz.pinned (.plain (OpenSpec.ofChange topGrowsSpec)) topGrowsCard

/-- THE TIED CARD OF 'berthshifttop.TopDown'. -/
def topDownCard : Claim7 := { stood := { row := topDownRow, standIns := [], harness := (true, "8c1cd532d112b5f1b13463e5935b4ec2a84b8d8e499428abc1e0566194223d96"), looks := true }, kinds := [], alts := [], laidByText := true, laidKinds := [.data], laidTests := true, laidLooks := .later }
def TopDownCardSaid : Prop := Claim7.holds Tryz.pinned (.plain (OpenSpec.ofChange topDownSpec)) topDownCard

/-- THE TIED CARD OF 'berthshifttop.TopMade'. -/
def topMadeCard : Claim7 := { stood := { row := topMadeRow, standIns := [], harness := (true, "8c1cd532d112b5f1b13463e5935b4ec2a84b8d8e499428abc1e0566194223d96"), looks := true }, kinds := [], alts := [], laidByText := true, laidKinds := [.data], laidTests := true, laidLooks := .later }
def TopMadeCardSaid : Prop := Claim7.holds Tryz.pinned (.plain (OpenSpec.ofChange topMadeSpec)) topMadeCard

/-- THE TIED CARD OF 'berthshifttop.TopFlying'. -/
def topFlyingCard : Claim7 := { stood := { row := topFlyingRow, standIns := [], harness := (true, "8c1cd532d112b5f1b13463e5935b4ec2a84b8d8e499428abc1e0566194223d96"), looks := true }, kinds := [], alts := [], laidByText := true, laidKinds := [.data], laidTests := true, laidLooks := .later }
def TopFlyingCardSaid : Prop := Claim7.holds Tryz.pinned (.plain (OpenSpec.ofChange topFlyingSpec)) topFlyingCard

/-- THE TIED CARD OF 'berthshifttop.TopLost'. -/
def topLostCard : Claim7 := { stood := { row := topLostRow, standIns := [], harness := (true, "8c1cd532d112b5f1b13463e5935b4ec2a84b8d8e499428abc1e0566194223d96"), looks := true }, kinds := [], alts := [], laidByText := true, laidKinds := [.data], laidTests := true, laidLooks := .later }
def TopLostCardSaid : Prop := Claim7.holds Tryz.pinned (.plain (OpenSpec.ofChange topLostSpec)) topLostCard

/-- THE TIED CARD OF 'berthshifttop.TopCalm'. -/
def topCalmCard : Claim7 := { stood := { row := topCalmRow, standIns := [], harness := (true, "8c1cd532d112b5f1b13463e5935b4ec2a84b8d8e499428abc1e0566194223d96"), looks := true }, kinds := [], alts := [], laidByText := true, laidKinds := [.data], laidTests := true, laidLooks := .later }
def TopCalmCardSaid : Prop := Claim7.holds Tryz.pinned (.plain (OpenSpec.ofChange topCalmSpec)) topCalmCard

/-- THE TIED CARD OF 'berthshifttop.TopNew'. -/
def topNewCard : Claim7 := { stood := { row := topNewRow, standIns := [], harness := (true, "8c1cd532d112b5f1b13463e5935b4ec2a84b8d8e499428abc1e0566194223d96"), looks := true }, kinds := [], alts := [], laidByText := true, laidKinds := [.data], laidTests := true, laidLooks := .later }
def TopNewCardSaid : Prop := Claim7.holds Tryz.pinned (.plain (OpenSpec.ofChange topNewSpec)) topNewCard

/-- THE TIED CARD OF 'berthshifttop.TopOrder'. -/
def topOrderCard : Claim7 := { stood := { row := topOrderRow, standIns := [], harness := (true, "8c1cd532d112b5f1b13463e5935b4ec2a84b8d8e499428abc1e0566194223d96"), looks := true }, kinds := [], alts := [], laidByText := true, laidKinds := [.data], laidTests := true, laidLooks := .later }
def TopOrderCardSaid : Prop := Claim7.holds Tryz.pinned (.plain (OpenSpec.ofChange topOrderSpec)) topOrderCard

/-- THE TIED CARD OF 'berthshifttop.TopRound'. -/
def topRoundCard : Claim7 := { stood := { row := topRoundRow, standIns := [], harness := (true, "8c1cd532d112b5f1b13463e5935b4ec2a84b8d8e499428abc1e0566194223d96"), looks := true }, kinds := [], alts := [], laidByText := true, laidKinds := [.data], laidTests := true, laidLooks := .later }
def TopRoundCardSaid : Prop := Claim7.holds Tryz.pinned (.plain (OpenSpec.ofChange topRoundSpec)) topRoundCard

/-- THE SECOND FORM's CARD OF 'berthshiftlaw.ClusterRefuses'. -/
def clusterRefusesUptoCard : Claim7 := { stood := { row := clusterRefusesUptoRow, standIns := [], harness := (true, "8c1cd532d112b5f1b13463e5935b4ec2a84b8d8e499428abc1e0566194223d96"), looks := true }, kinds := [], alts := [], laidByText := true, laidKinds := [.data], laidTests := true, laidLooks := .later }
def ClusterRefusesUptoCardSaid : Prop := Claim7.holds Tryz.pinned (.plain (OpenSpec.upto clusterRefusesSpec)) clusterRefusesUptoCard

/-- THE SECOND FORM's CARD OF 'berthshifttop.TopOne'. -/
def topOneUptoCard : Claim7 := { stood := { row := topOneUptoRow, standIns := [], harness := (true, "8c1cd532d112b5f1b13463e5935b4ec2a84b8d8e499428abc1e0566194223d96"), looks := true }, kinds := [], alts := [], laidByText := true, laidKinds := [.data], laidTests := true, laidLooks := .later }
def TopOneUptoCardSaid : Prop := Claim7.holds Tryz.pinned (.plain (OpenSpec.upto topOneSpec)) topOneUptoCard

/-- THE SECOND FORM's CARD OF 'berthshifttop.TopDirectory'. -/
def topDirectoryUptoCard : Claim7 := { stood := { row := topDirectoryUptoRow, standIns := [], harness := (true, "8c1cd532d112b5f1b13463e5935b4ec2a84b8d8e499428abc1e0566194223d96"), looks := true }, kinds := [], alts := [], laidByText := true, laidKinds := [.data], laidTests := true, laidLooks := .later }
def TopDirectoryUptoCardSaid : Prop := Claim7.holds Tryz.pinned (.plain (OpenSpec.upto topDirectorySpec)) topDirectoryUptoCard

/-- THE SECOND FORM's CARD OF 'berthshifttop.TopGrows'. -/
def topGrowsUptoCard : Claim7 := { stood := { row := topGrowsUptoRow, standIns := [], harness := (true, "8c1cd532d112b5f1b13463e5935b4ec2a84b8d8e499428abc1e0566194223d96"), looks := true }, kinds := [], alts := [], laidByText := true, laidKinds := [.data], laidTests := true, laidLooks := .later }
def TopGrowsUptoCardSaid : Prop := Claim7.holds Tryz.pinned (.plain (OpenSpec.upto topGrowsSpec)) topGrowsUptoCard

/-- THE SECOND FORM's CARD OF 'berthshifttop.TopDown'. -/
def topDownUptoCard : Claim7 := { stood := { row := topDownUptoRow, standIns := [], harness := (true, "8c1cd532d112b5f1b13463e5935b4ec2a84b8d8e499428abc1e0566194223d96"), looks := true }, kinds := [], alts := [], laidByText := true, laidKinds := [.data], laidTests := true, laidLooks := .later }
def TopDownUptoCardSaid : Prop := Claim7.holds Tryz.pinned (.plain (OpenSpec.upto topDownSpec)) topDownUptoCard

/-- THE SECOND FORM's CARD OF 'berthshifttop.TopMade'. -/
def topMadeUptoCard : Claim7 := { stood := { row := topMadeUptoRow, standIns := [], harness := (true, "8c1cd532d112b5f1b13463e5935b4ec2a84b8d8e499428abc1e0566194223d96"), looks := true }, kinds := [], alts := [], laidByText := true, laidKinds := [.data], laidTests := true, laidLooks := .later }
def TopMadeUptoCardSaid : Prop := Claim7.holds Tryz.pinned (.plain (OpenSpec.upto topMadeSpec)) topMadeUptoCard

/-- THE SECOND FORM's CARD OF 'berthshifttop.TopFlying'. -/
def topFlyingUptoCard : Claim7 := { stood := { row := topFlyingUptoRow, standIns := [], harness := (true, "8c1cd532d112b5f1b13463e5935b4ec2a84b8d8e499428abc1e0566194223d96"), looks := true }, kinds := [], alts := [], laidByText := true, laidKinds := [.data], laidTests := true, laidLooks := .later }
def TopFlyingUptoCardSaid : Prop := Claim7.holds Tryz.pinned (.plain (OpenSpec.upto topFlyingSpec)) topFlyingUptoCard

/-- THE SECOND FORM's CARD OF 'berthshifttop.TopLost'. -/
def topLostUptoCard : Claim7 := { stood := { row := topLostUptoRow, standIns := [], harness := (true, "8c1cd532d112b5f1b13463e5935b4ec2a84b8d8e499428abc1e0566194223d96"), looks := true }, kinds := [], alts := [], laidByText := true, laidKinds := [.data], laidTests := true, laidLooks := .later }
def TopLostUptoCardSaid : Prop := Claim7.holds Tryz.pinned (.plain (OpenSpec.upto topLostSpec)) topLostUptoCard

/-- THE SECOND FORM's CARD OF 'berthshifttop.TopCalm'. -/
def topCalmUptoCard : Claim7 := { stood := { row := topCalmUptoRow, standIns := [], harness := (true, "8c1cd532d112b5f1b13463e5935b4ec2a84b8d8e499428abc1e0566194223d96"), looks := true }, kinds := [], alts := [], laidByText := true, laidKinds := [.data], laidTests := true, laidLooks := .later }
def TopCalmUptoCardSaid : Prop := Claim7.holds Tryz.pinned (.plain (OpenSpec.upto topCalmSpec)) topCalmUptoCard

/-- THE SECOND FORM's CARD OF 'berthshifttop.TopNew'. -/
def topNewUptoCard : Claim7 := { stood := { row := topNewUptoRow, standIns := [], harness := (true, "8c1cd532d112b5f1b13463e5935b4ec2a84b8d8e499428abc1e0566194223d96"), looks := true }, kinds := [], alts := [], laidByText := true, laidKinds := [.data], laidTests := true, laidLooks := .later }
def TopNewUptoCardSaid : Prop := Claim7.holds Tryz.pinned (.plain (OpenSpec.upto topNewSpec)) topNewUptoCard

/-- THE SECOND FORM's CARD OF 'berthshifttop.TopOrder'. -/
def topOrderUptoCard : Claim7 := { stood := { row := topOrderUptoRow, standIns := [], harness := (true, "8c1cd532d112b5f1b13463e5935b4ec2a84b8d8e499428abc1e0566194223d96"), looks := true }, kinds := [], alts := [], laidByText := true, laidKinds := [.data], laidTests := true, laidLooks := .later }
def TopOrderUptoCardSaid : Prop := Claim7.holds Tryz.pinned (.plain (OpenSpec.upto topOrderSpec)) topOrderUptoCard

/-- THE SECOND FORM's CARD OF 'berthshifttop.TopRound'. -/
def topRoundUptoCard : Claim7 := { stood := { row := topRoundUptoRow, standIns := [], harness := (true, "8c1cd532d112b5f1b13463e5935b4ec2a84b8d8e499428abc1e0566194223d96"), looks := true }, kinds := [], alts := [], laidByText := true, laidKinds := [.data], laidTests := true, laidLooks := .later }
def TopRoundUptoCardSaid : Prop := Claim7.holds Tryz.pinned (.plain (OpenSpec.upto topRoundSpec)) topRoundUptoCard
end Rows
end Go.Proofs.YtmhifeahpnkpiaaGreatDoor
