/-
  NARROWER THAN 'FOR EVERY INPUT', by the rows' own cells (each row's printed sentence says how): TopAuthority: laid · TopSealed: laid · TopAsked: laid · TopPlaces: laid · TopAnswers: laid · TopOthers: laid · TopUnsynced: laid · TopTwice: laid · TopPrefix: laid · TopWhole: laid · TopHandles: laid · TopEpochs: laid.
  DERIVED. THE GIVEN ROWS OF THIS SEAT. 12 by the template 'for every input the law returns true; each argument reads behind the call as it read before'; 0 by the template 'total and deterministic' (their statements: YtpgkjpomaffbmaaGreatDoorTotals.lean).
  GIVEN WITH THE SEED: the statements are not yours to turn. If you find one false, say at which input.
  Laid BY PROGRAM, IN A SANDBOX (cutbox-rows.mjs): the forced cells as the released guide's own fill.sh prints them over the translation b78f9bf65ad1acda… (all of the seat's roots in one cut). By AI agents, Wed Nov 11 2026. No macro, syntax, notation, axiom, sorry.
-/
import Derived.Test.YtpgkjpomaffbmaaGreatDoorChecked
import GoSem.Claim
import GoSem.ClaimJoined
import GoSem.ClaimMapViews
import Derived.JoinedTies
import Derived.KernelRfl
namespace Go.Proofs.YtpgkjpomaffbmaaGreatDoor
/- THE CELL 'sum', in the pinned program and in every row, IS THE sha256 OF THE DUMP (.gsa) THAT YtpgkjpomaffbmaaGreatDoorProg.lean LOADS. Nothing in Lean hashes anything: it is a label: what it is worth is what the hold of that sum in a sandbox is worth. -/
noncomputable def Tryz.pinned : Pinned := { name := "ytpgkjpomaffbmaagreatdoor", sum := "b78f9bf65ad1acdac64b298c9a45b9012e30a848c3ff932d40b93826dcd8e6fa", checked := Tryz.checked }
namespace Rows
def none {H : Type} : Left H := { results := [], args := [] }

/- WHAT THE LISTED PACKAGE-LEVEL VARIABLES READ AS WHEN THE CALL BEGINS. Each datum BY PROGRAM (the guide's laid-datum.mjs) off the statement by which the dump's own 'gosem.cut.vars' lays the variable. In a bare row this is a premise. The card (YtpgkjpomaffbmaaGreatDoorCards.lean) ties it to the program's text. -/
def laid_berthshift_lines_kinds {H : Type} : DataW H := .agg [.agg [.lit (.string [109, 97, 107, 101]), .lit (.int .i64 1), .lit (.int .i64 0)], .agg [.lit (.string [109, 111, 118, 101]), .lit (.int .i64 10), .lit (.int .i64 0)], .agg [.lit (.string [115, 116, 101, 112]), .lit (.int .i64 3), .lit (.int .i64 0)], .agg [.lit (.string [115, 116, 97, 114, 116]), .lit (.int .i64 9), .lit (.int .i64 0)], .agg [.lit (.string [99, 114, 97, 115, 104]), .lit (.int .i64 8), .lit (.int .i64 0)], .agg [.lit (.string [99, 97, 114, 114, 121]), .lit (.int .i64 4), .lit (.int .i64 0)], .agg [.lit (.string [108, 111, 115, 101]), .lit (.int .i64 5), .lit (.int .i64 0)], .agg [.lit (.string [100, 111, 117, 98, 108, 101]), .lit (.int .i64 6), .lit (.int .i64 0)], .agg [.lit (.string [97, 108, 108]), .lit (.int .i64 7), .lit (.int .i64 0)], .agg [.lit (.string [112, 117, 98, 108, 105, 115, 104]), .lit (.int .i64 2), .lit (.int .i64 1)], .agg [.lit (.string [114, 101, 99, 101, 105, 118, 101]), .lit (.int .i64 2), .lit (.int .i64 2)], .agg [.lit (.string [97, 99, 107]), .lit (.int .i64 2), .lit (.int .i64 3)]]

/-- 'berthshifttop.TopAuthority': WHATEVER THE INPUT: true; the input reads as it did. -/
def topAuthoritySpec : ChangeSpec := { name := "topAuthority", fn := fun _ => fun
  | [d] => { results := [.lit (.bool true)], args := [d] }
  | _ => none }
def topAuthorityRow : OpenClaim := { program := "ytpgkjpomaffbmaagreatdoor", sum := "b78f9bf65ad1acdac64b298c9a45b9012e30a848c3ff932d40b93826dcd8e6fa", func := "berthshift/berthshifttop.TopAuthority", spec := "topAuthority", unfollowed := true, recurses := true, named := ["berthshift/lines.kinds"], apart := false, laid := [("berthshift/lines.kinds", laid_berthshift_lines_kinds)] }
def TopAuthoritySaid : Prop := topAuthorityRow.holds Tryz.pinned (OpenSpec.ofChange topAuthoritySpec)

/-- ITS FALSE NEIGHBOUR: 'it returns false'. Refute it at one input. -/
def topAuthorityWrong : ChangeSpec := { name := "topAuthority", fn := fun _ => fun
  | [d] => { results := [.lit (.bool false)], args := [d] }
  | _ => none }
def TopAuthorityWrongFalsely : Prop := topAuthorityRow.holds Tryz.pinned (OpenSpec.ofChange topAuthorityWrong)

/-- 'berthshifttop.TopSealed': WHATEVER THE INPUT: true; the input reads as it did. -/
def topSealedSpec : ChangeSpec := { name := "topSealed", fn := fun _ => fun
  | [d] => { results := [.lit (.bool true)], args := [d] }
  | _ => none }
def topSealedRow : OpenClaim := { program := "ytpgkjpomaffbmaagreatdoor", sum := "b78f9bf65ad1acdac64b298c9a45b9012e30a848c3ff932d40b93826dcd8e6fa", func := "berthshift/berthshifttop.TopSealed", spec := "topSealed", unfollowed := true, recurses := true, named := ["berthshift/lines.kinds"], apart := false, laid := [("berthshift/lines.kinds", laid_berthshift_lines_kinds)] }
def TopSealedSaid : Prop := topSealedRow.holds Tryz.pinned (OpenSpec.ofChange topSealedSpec)

/-- ITS FALSE NEIGHBOUR: 'it returns false'. Refute it at one input. -/
def topSealedWrong : ChangeSpec := { name := "topSealed", fn := fun _ => fun
  | [d] => { results := [.lit (.bool false)], args := [d] }
  | _ => none }
def TopSealedWrongFalsely : Prop := topSealedRow.holds Tryz.pinned (OpenSpec.ofChange topSealedWrong)

/-- 'berthshifttop.TopAsked': WHATEVER THE INPUT: true; the input reads as it did. -/
def topAskedSpec : ChangeSpec := { name := "topAsked", fn := fun _ => fun
  | [d] => { results := [.lit (.bool true)], args := [d] }
  | _ => none }
def topAskedRow : OpenClaim := { program := "ytpgkjpomaffbmaagreatdoor", sum := "b78f9bf65ad1acdac64b298c9a45b9012e30a848c3ff932d40b93826dcd8e6fa", func := "berthshift/berthshifttop.TopAsked", spec := "topAsked", unfollowed := true, recurses := true, named := ["berthshift/lines.kinds"], apart := false, laid := [("berthshift/lines.kinds", laid_berthshift_lines_kinds)] }
def TopAskedSaid : Prop := topAskedRow.holds Tryz.pinned (OpenSpec.ofChange topAskedSpec)

/-- ITS FALSE NEIGHBOUR: 'it returns false'. Refute it at one input. -/
def topAskedWrong : ChangeSpec := { name := "topAsked", fn := fun _ => fun
  | [d] => { results := [.lit (.bool false)], args := [d] }
  | _ => none }
def TopAskedWrongFalsely : Prop := topAskedRow.holds Tryz.pinned (OpenSpec.ofChange topAskedWrong)

/-- 'berthshifttop.TopPlaces': WHATEVER THE INPUT: true; the input reads as it did. -/
def topPlacesSpec : ChangeSpec := { name := "topPlaces", fn := fun _ => fun
  | [d] => { results := [.lit (.bool true)], args := [d] }
  | _ => none }
def topPlacesRow : OpenClaim := { program := "ytpgkjpomaffbmaagreatdoor", sum := "b78f9bf65ad1acdac64b298c9a45b9012e30a848c3ff932d40b93826dcd8e6fa", func := "berthshift/berthshifttop.TopPlaces", spec := "topPlaces", unfollowed := true, recurses := true, named := ["berthshift/lines.kinds"], apart := false, laid := [("berthshift/lines.kinds", laid_berthshift_lines_kinds)] }
def TopPlacesSaid : Prop := topPlacesRow.holds Tryz.pinned (OpenSpec.ofChange topPlacesSpec)

/-- ITS FALSE NEIGHBOUR: 'it returns false'. Refute it at one input. -/
def topPlacesWrong : ChangeSpec := { name := "topPlaces", fn := fun _ => fun
  | [d] => { results := [.lit (.bool false)], args := [d] }
  | _ => none }
def TopPlacesWrongFalsely : Prop := topPlacesRow.holds Tryz.pinned (OpenSpec.ofChange topPlacesWrong)

/-- 'berthshifttop.TopAnswers': WHATEVER THE INPUT: true; the input reads as it did. -/
def topAnswersSpec : ChangeSpec := { name := "topAnswers", fn := fun _ => fun
  | [d] => { results := [.lit (.bool true)], args := [d] }
  | _ => none }
def topAnswersRow : OpenClaim := { program := "ytpgkjpomaffbmaagreatdoor", sum := "b78f9bf65ad1acdac64b298c9a45b9012e30a848c3ff932d40b93826dcd8e6fa", func := "berthshift/berthshifttop.TopAnswers", spec := "topAnswers", unfollowed := true, recurses := true, named := ["berthshift/lines.kinds"], apart := false, laid := [("berthshift/lines.kinds", laid_berthshift_lines_kinds)] }
def TopAnswersSaid : Prop := topAnswersRow.holds Tryz.pinned (OpenSpec.ofChange topAnswersSpec)

/-- ITS FALSE NEIGHBOUR: 'it returns false'. Refute it at one input. -/
def topAnswersWrong : ChangeSpec := { name := "topAnswers", fn := fun _ => fun
  | [d] => { results := [.lit (.bool false)], args := [d] }
  | _ => none }
def TopAnswersWrongFalsely : Prop := topAnswersRow.holds Tryz.pinned (OpenSpec.ofChange topAnswersWrong)

/-- 'berthshifttop.TopOthers': WHATEVER THE INPUT: true; the input reads as it did. -/
def topOthersSpec : ChangeSpec := { name := "topOthers", fn := fun _ => fun
  | [d] => { results := [.lit (.bool true)], args := [d] }
  | _ => none }
def topOthersRow : OpenClaim := { program := "ytpgkjpomaffbmaagreatdoor", sum := "b78f9bf65ad1acdac64b298c9a45b9012e30a848c3ff932d40b93826dcd8e6fa", func := "berthshift/berthshifttop.TopOthers", spec := "topOthers", unfollowed := true, recurses := true, named := ["berthshift/lines.kinds"], apart := false, laid := [("berthshift/lines.kinds", laid_berthshift_lines_kinds)] }
def TopOthersSaid : Prop := topOthersRow.holds Tryz.pinned (OpenSpec.ofChange topOthersSpec)

/-- ITS FALSE NEIGHBOUR: 'it returns false'. Refute it at one input. -/
def topOthersWrong : ChangeSpec := { name := "topOthers", fn := fun _ => fun
  | [d] => { results := [.lit (.bool false)], args := [d] }
  | _ => none }
def TopOthersWrongFalsely : Prop := topOthersRow.holds Tryz.pinned (OpenSpec.ofChange topOthersWrong)

/-- 'berthshifttop.TopUnsynced': WHATEVER THE INPUT: true; the input reads as it did. -/
def topUnsyncedSpec : ChangeSpec := { name := "topUnsynced", fn := fun _ => fun
  | [d1, d2] => { results := [.lit (.bool true)], args := [d1, d2] }
  | _ => none }
def topUnsyncedRow : OpenClaim := { program := "ytpgkjpomaffbmaagreatdoor", sum := "b78f9bf65ad1acdac64b298c9a45b9012e30a848c3ff932d40b93826dcd8e6fa", func := "berthshift/berthshifttop.TopUnsynced", spec := "topUnsynced", unfollowed := true, recurses := true, named := ["berthshift/lines.kinds"], apart := false, laid := [("berthshift/lines.kinds", laid_berthshift_lines_kinds)] }
def TopUnsyncedSaid : Prop := topUnsyncedRow.holds Tryz.pinned (OpenSpec.ofChange topUnsyncedSpec)

/-- ITS FALSE NEIGHBOUR: 'it returns false'. Refute it at one input. -/
def topUnsyncedWrong : ChangeSpec := { name := "topUnsynced", fn := fun _ => fun
  | [d1, d2] => { results := [.lit (.bool false)], args := [d1, d2] }
  | _ => none }
def TopUnsyncedWrongFalsely : Prop := topUnsyncedRow.holds Tryz.pinned (OpenSpec.ofChange topUnsyncedWrong)

/-- 'berthshifttop.TopTwice': WHATEVER THE INPUT: true; the input reads as it did. -/
def topTwiceSpec : ChangeSpec := { name := "topTwice", fn := fun _ => fun
  | [d1, d2] => { results := [.lit (.bool true)], args := [d1, d2] }
  | _ => none }
def topTwiceRow : OpenClaim := { program := "ytpgkjpomaffbmaagreatdoor", sum := "b78f9bf65ad1acdac64b298c9a45b9012e30a848c3ff932d40b93826dcd8e6fa", func := "berthshift/berthshifttop.TopTwice", spec := "topTwice", unfollowed := true, recurses := true, named := ["berthshift/lines.kinds"], apart := false, laid := [("berthshift/lines.kinds", laid_berthshift_lines_kinds)] }
def TopTwiceSaid : Prop := topTwiceRow.holds Tryz.pinned (OpenSpec.ofChange topTwiceSpec)

/-- ITS FALSE NEIGHBOUR: 'it returns false'. Refute it at one input. -/
def topTwiceWrong : ChangeSpec := { name := "topTwice", fn := fun _ => fun
  | [d1, d2] => { results := [.lit (.bool false)], args := [d1, d2] }
  | _ => none }
def TopTwiceWrongFalsely : Prop := topTwiceRow.holds Tryz.pinned (OpenSpec.ofChange topTwiceWrong)

/-- 'berthshifttop.TopPrefix': WHATEVER THE INPUT: true; the input reads as it did. -/
def topPrefixSpec : ChangeSpec := { name := "topPrefix", fn := fun _ => fun
  | [d] => { results := [.lit (.bool true)], args := [d] }
  | _ => none }
def topPrefixRow : OpenClaim := { program := "ytpgkjpomaffbmaagreatdoor", sum := "b78f9bf65ad1acdac64b298c9a45b9012e30a848c3ff932d40b93826dcd8e6fa", func := "berthshift/berthshifttop.TopPrefix", spec := "topPrefix", unfollowed := true, recurses := true, named := ["berthshift/lines.kinds"], apart := false, laid := [("berthshift/lines.kinds", laid_berthshift_lines_kinds)] }
def TopPrefixSaid : Prop := topPrefixRow.holds Tryz.pinned (OpenSpec.ofChange topPrefixSpec)

/-- ITS FALSE NEIGHBOUR: 'it returns false'. Refute it at one input. -/
def topPrefixWrong : ChangeSpec := { name := "topPrefix", fn := fun _ => fun
  | [d] => { results := [.lit (.bool false)], args := [d] }
  | _ => none }
def TopPrefixWrongFalsely : Prop := topPrefixRow.holds Tryz.pinned (OpenSpec.ofChange topPrefixWrong)

/-- 'berthshifttop.TopWhole': WHATEVER THE INPUT: true; the input reads as it did. -/
def topWholeSpec : ChangeSpec := { name := "topWhole", fn := fun _ => fun
  | [d] => { results := [.lit (.bool true)], args := [d] }
  | _ => none }
def topWholeRow : OpenClaim := { program := "ytpgkjpomaffbmaagreatdoor", sum := "b78f9bf65ad1acdac64b298c9a45b9012e30a848c3ff932d40b93826dcd8e6fa", func := "berthshift/berthshifttop.TopWhole", spec := "topWhole", unfollowed := true, recurses := true, named := ["berthshift/lines.kinds"], apart := false, laid := [("berthshift/lines.kinds", laid_berthshift_lines_kinds)] }
def TopWholeSaid : Prop := topWholeRow.holds Tryz.pinned (OpenSpec.ofChange topWholeSpec)

/-- ITS FALSE NEIGHBOUR: 'it returns false'. Refute it at one input. -/
def topWholeWrong : ChangeSpec := { name := "topWhole", fn := fun _ => fun
  | [d] => { results := [.lit (.bool false)], args := [d] }
  | _ => none }
def TopWholeWrongFalsely : Prop := topWholeRow.holds Tryz.pinned (OpenSpec.ofChange topWholeWrong)

/-- 'berthshifttop.TopHandles': WHATEVER THE INPUT: true; the input reads as it did. -/
def topHandlesSpec : ChangeSpec := { name := "topHandles", fn := fun _ => fun
  | [d] => { results := [.lit (.bool true)], args := [d] }
  | _ => none }
def topHandlesRow : OpenClaim := { program := "ytpgkjpomaffbmaagreatdoor", sum := "b78f9bf65ad1acdac64b298c9a45b9012e30a848c3ff932d40b93826dcd8e6fa", func := "berthshift/berthshifttop.TopHandles", spec := "topHandles", unfollowed := true, recurses := true, named := ["berthshift/lines.kinds"], apart := false, laid := [("berthshift/lines.kinds", laid_berthshift_lines_kinds)] }
def TopHandlesSaid : Prop := topHandlesRow.holds Tryz.pinned (OpenSpec.ofChange topHandlesSpec)

/-- ITS FALSE NEIGHBOUR: 'it returns false'. Refute it at one input. -/
def topHandlesWrong : ChangeSpec := { name := "topHandles", fn := fun _ => fun
  | [d] => { results := [.lit (.bool false)], args := [d] }
  | _ => none }
def TopHandlesWrongFalsely : Prop := topHandlesRow.holds Tryz.pinned (OpenSpec.ofChange topHandlesWrong)

/-- 'berthshifttop.TopEpochs': WHATEVER THE INPUT: true; the input reads as it did. -/
def topEpochsSpec : ChangeSpec := { name := "topEpochs", fn := fun _ => fun
  | [d] => { results := [.lit (.bool true)], args := [d] }
  | _ => none }
def topEpochsRow : OpenClaim := { program := "ytpgkjpomaffbmaagreatdoor", sum := "b78f9bf65ad1acdac64b298c9a45b9012e30a848c3ff932d40b93826dcd8e6fa", func := "berthshift/berthshifttop.TopEpochs", spec := "topEpochs", unfollowed := true, recurses := true, named := ["berthshift/lines.kinds"], apart := false, laid := [("berthshift/lines.kinds", laid_berthshift_lines_kinds)] }
def TopEpochsSaid : Prop := topEpochsRow.holds Tryz.pinned (OpenSpec.ofChange topEpochsSpec)

/-- ITS FALSE NEIGHBOUR: 'it returns false'. Refute it at one input. -/
def topEpochsWrong : ChangeSpec := { name := "topEpochs", fn := fun _ => fun
  | [d] => { results := [.lit (.bool false)], args := [d] }
  | _ => none }
def TopEpochsWrongFalsely : Prop := topEpochsRow.holds Tryz.pinned (OpenSpec.ofChange topEpochsWrong)

/- THE SECOND FORM. 'bulk': how many values and letters a reading holds, each counted each time it is reached (what is shared counts as often as it is met; a slice's spare places count too). A statement '..UptoSaid' is the law's where the arguments, and the package variables that the reading takes, are together of bulk at most 1048576: NARROWER than '..Said'. Prove '..Said' where nothing that the law and all that it calls make is longer than what came in: it says more and counts as full. Else prove '..UptoSaid'. A law counts once. -/
mutual
def uptoBulk {H : Type} : DataW H → Nat
  | .lit (.string bytes) => bytes.length + 1
  | .lit _ => 1
  | .nil => 1
  | .ptr d => uptoBulk d + 1
  | .slice elems spare => uptoBulkAll elems + uptoBulkAll spare + 1
  | .agg parts => uptoBulkAll parts + 1
  | .iface _ d => uptoBulk d + 1
  | .map entries => uptoBulkEntries entries + 1
  | .held _ => 1
def uptoBulkAll {H : Type} : List (DataW H) → Nat
  | [] => 0
  | d :: r => uptoBulk d + uptoBulkAll r
def uptoBulkEntries {H : Type} : List (Lit × DataW H) → Nat
  | [] => 0
  | x :: r => uptoBulkEntry x + uptoBulkEntries r
def uptoBulkEntry {H : Type} : Lit × DataW H → Nat
  | (.string bytes, d) => bytes.length + uptoBulk d + 1
  | (_, d) => uptoBulk d + 1
 end
def uptoSmall : (H : Type) → List (DataW H) → Bool := fun _ ds => decide (uptoBulkAll ds ≤ 1048576)
def OpenSpec.upto (s : _root_.Go.ChangeSpec) : _root_.Go.OpenSpec := { _root_.Go.OpenSpec.ofChange s with cond := some uptoSmall }

/-- 'berthshifttop.TopAuthority', WHERE WHAT IT READS IS OF BULK AT MOST 1048576: true; the input reads as it did. -/
def topAuthorityUptoRow : OpenClaim := { program := "ytpgkjpomaffbmaagreatdoor", sum := "b78f9bf65ad1acdac64b298c9a45b9012e30a848c3ff932d40b93826dcd8e6fa", func := "berthshift/berthshifttop.TopAuthority", spec := "topAuthority", unfollowed := true, recurses := true, named := ["berthshift/lines.kinds"], apart := false, laid := [("berthshift/lines.kinds", laid_berthshift_lines_kinds)], narrowed := true }
def TopAuthorityUptoSaid : Prop := topAuthorityUptoRow.holds Tryz.pinned (OpenSpec.upto topAuthoritySpec)

/-- 'berthshifttop.TopSealed', WHERE WHAT IT READS IS OF BULK AT MOST 1048576: true; the input reads as it did. -/
def topSealedUptoRow : OpenClaim := { program := "ytpgkjpomaffbmaagreatdoor", sum := "b78f9bf65ad1acdac64b298c9a45b9012e30a848c3ff932d40b93826dcd8e6fa", func := "berthshift/berthshifttop.TopSealed", spec := "topSealed", unfollowed := true, recurses := true, named := ["berthshift/lines.kinds"], apart := false, laid := [("berthshift/lines.kinds", laid_berthshift_lines_kinds)], narrowed := true }
def TopSealedUptoSaid : Prop := topSealedUptoRow.holds Tryz.pinned (OpenSpec.upto topSealedSpec)

/-- 'berthshifttop.TopAsked', WHERE WHAT IT READS IS OF BULK AT MOST 1048576: true; the input reads as it did. -/
def topAskedUptoRow : OpenClaim := { program := "ytpgkjpomaffbmaagreatdoor", sum := "b78f9bf65ad1acdac64b298c9a45b9012e30a848c3ff932d40b93826dcd8e6fa", func := "berthshift/berthshifttop.TopAsked", spec := "topAsked", unfollowed := true, recurses := true, named := ["berthshift/lines.kinds"], apart := false, laid := [("berthshift/lines.kinds", laid_berthshift_lines_kinds)], narrowed := true }
def TopAskedUptoSaid : Prop := topAskedUptoRow.holds Tryz.pinned (OpenSpec.upto topAskedSpec)

/-- 'berthshifttop.TopPlaces', WHERE WHAT IT READS IS OF BULK AT MOST 1048576: true; the input reads as it did. -/
def topPlacesUptoRow : OpenClaim := { program := "ytpgkjpomaffbmaagreatdoor", sum := "b78f9bf65ad1acdac64b298c9a45b9012e30a848c3ff932d40b93826dcd8e6fa", func := "berthshift/berthshifttop.TopPlaces", spec := "topPlaces", unfollowed := true, recurses := true, named := ["berthshift/lines.kinds"], apart := false, laid := [("berthshift/lines.kinds", laid_berthshift_lines_kinds)], narrowed := true }
def TopPlacesUptoSaid : Prop := topPlacesUptoRow.holds Tryz.pinned (OpenSpec.upto topPlacesSpec)

/-- 'berthshifttop.TopAnswers', WHERE WHAT IT READS IS OF BULK AT MOST 1048576: true; the input reads as it did. -/
def topAnswersUptoRow : OpenClaim := { program := "ytpgkjpomaffbmaagreatdoor", sum := "b78f9bf65ad1acdac64b298c9a45b9012e30a848c3ff932d40b93826dcd8e6fa", func := "berthshift/berthshifttop.TopAnswers", spec := "topAnswers", unfollowed := true, recurses := true, named := ["berthshift/lines.kinds"], apart := false, laid := [("berthshift/lines.kinds", laid_berthshift_lines_kinds)], narrowed := true }
def TopAnswersUptoSaid : Prop := topAnswersUptoRow.holds Tryz.pinned (OpenSpec.upto topAnswersSpec)

/-- 'berthshifttop.TopOthers', WHERE WHAT IT READS IS OF BULK AT MOST 1048576: true; the input reads as it did. -/
def topOthersUptoRow : OpenClaim := { program := "ytpgkjpomaffbmaagreatdoor", sum := "b78f9bf65ad1acdac64b298c9a45b9012e30a848c3ff932d40b93826dcd8e6fa", func := "berthshift/berthshifttop.TopOthers", spec := "topOthers", unfollowed := true, recurses := true, named := ["berthshift/lines.kinds"], apart := false, laid := [("berthshift/lines.kinds", laid_berthshift_lines_kinds)], narrowed := true }
def TopOthersUptoSaid : Prop := topOthersUptoRow.holds Tryz.pinned (OpenSpec.upto topOthersSpec)

/-- 'berthshifttop.TopUnsynced', WHERE WHAT IT READS IS OF BULK AT MOST 1048576: true; the input reads as it did. -/
def topUnsyncedUptoRow : OpenClaim := { program := "ytpgkjpomaffbmaagreatdoor", sum := "b78f9bf65ad1acdac64b298c9a45b9012e30a848c3ff932d40b93826dcd8e6fa", func := "berthshift/berthshifttop.TopUnsynced", spec := "topUnsynced", unfollowed := true, recurses := true, named := ["berthshift/lines.kinds"], apart := false, laid := [("berthshift/lines.kinds", laid_berthshift_lines_kinds)], narrowed := true }
def TopUnsyncedUptoSaid : Prop := topUnsyncedUptoRow.holds Tryz.pinned (OpenSpec.upto topUnsyncedSpec)

/-- 'berthshifttop.TopTwice', WHERE WHAT IT READS IS OF BULK AT MOST 1048576: true; the input reads as it did. -/
def topTwiceUptoRow : OpenClaim := { program := "ytpgkjpomaffbmaagreatdoor", sum := "b78f9bf65ad1acdac64b298c9a45b9012e30a848c3ff932d40b93826dcd8e6fa", func := "berthshift/berthshifttop.TopTwice", spec := "topTwice", unfollowed := true, recurses := true, named := ["berthshift/lines.kinds"], apart := false, laid := [("berthshift/lines.kinds", laid_berthshift_lines_kinds)], narrowed := true }
def TopTwiceUptoSaid : Prop := topTwiceUptoRow.holds Tryz.pinned (OpenSpec.upto topTwiceSpec)

/-- 'berthshifttop.TopPrefix', WHERE WHAT IT READS IS OF BULK AT MOST 1048576: true; the input reads as it did. -/
def topPrefixUptoRow : OpenClaim := { program := "ytpgkjpomaffbmaagreatdoor", sum := "b78f9bf65ad1acdac64b298c9a45b9012e30a848c3ff932d40b93826dcd8e6fa", func := "berthshift/berthshifttop.TopPrefix", spec := "topPrefix", unfollowed := true, recurses := true, named := ["berthshift/lines.kinds"], apart := false, laid := [("berthshift/lines.kinds", laid_berthshift_lines_kinds)], narrowed := true }
def TopPrefixUptoSaid : Prop := topPrefixUptoRow.holds Tryz.pinned (OpenSpec.upto topPrefixSpec)

/-- 'berthshifttop.TopWhole', WHERE WHAT IT READS IS OF BULK AT MOST 1048576: true; the input reads as it did. -/
def topWholeUptoRow : OpenClaim := { program := "ytpgkjpomaffbmaagreatdoor", sum := "b78f9bf65ad1acdac64b298c9a45b9012e30a848c3ff932d40b93826dcd8e6fa", func := "berthshift/berthshifttop.TopWhole", spec := "topWhole", unfollowed := true, recurses := true, named := ["berthshift/lines.kinds"], apart := false, laid := [("berthshift/lines.kinds", laid_berthshift_lines_kinds)], narrowed := true }
def TopWholeUptoSaid : Prop := topWholeUptoRow.holds Tryz.pinned (OpenSpec.upto topWholeSpec)

/-- 'berthshifttop.TopHandles', WHERE WHAT IT READS IS OF BULK AT MOST 1048576: true; the input reads as it did. -/
def topHandlesUptoRow : OpenClaim := { program := "ytpgkjpomaffbmaagreatdoor", sum := "b78f9bf65ad1acdac64b298c9a45b9012e30a848c3ff932d40b93826dcd8e6fa", func := "berthshift/berthshifttop.TopHandles", spec := "topHandles", unfollowed := true, recurses := true, named := ["berthshift/lines.kinds"], apart := false, laid := [("berthshift/lines.kinds", laid_berthshift_lines_kinds)], narrowed := true }
def TopHandlesUptoSaid : Prop := topHandlesUptoRow.holds Tryz.pinned (OpenSpec.upto topHandlesSpec)

/-- 'berthshifttop.TopEpochs', WHERE WHAT IT READS IS OF BULK AT MOST 1048576: true; the input reads as it did. -/
def topEpochsUptoRow : OpenClaim := { program := "ytpgkjpomaffbmaagreatdoor", sum := "b78f9bf65ad1acdac64b298c9a45b9012e30a848c3ff932d40b93826dcd8e6fa", func := "berthshift/berthshifttop.TopEpochs", spec := "topEpochs", unfollowed := true, recurses := true, named := ["berthshift/lines.kinds"], apart := false, laid := [("berthshift/lines.kinds", laid_berthshift_lines_kinds)], narrowed := true }
def TopEpochsUptoSaid : Prop := topEpochsUptoRow.holds Tryz.pinned (OpenSpec.upto topEpochsSpec)

end Rows
end Go.Proofs.YtpgkjpomaffbmaaGreatDoor
