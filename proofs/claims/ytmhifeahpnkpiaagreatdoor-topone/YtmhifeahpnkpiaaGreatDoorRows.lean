/-
  NARROWER THAN 'FOR EVERY INPUT', by the rows' own cells (each row's printed sentence says how): ClusterRefuses: laid · TopOne: laid · TopDirectory: laid · TopGrows: laid · TopDown: laid · TopMade: laid · TopFlying: laid · TopLost: laid · TopCalm: laid · TopNew: laid · TopOrder: laid · TopRound: laid.
  DERIVED. THE GIVEN ROWS OF THIS SEAT. 12 by the template 'for every input the law returns true; each argument reads behind the call as it read before'; 0 by the template 'total and deterministic' (their statements: YtmhifeahpnkpiaaGreatDoorTotals.lean).
  GIVEN WITH THE SEED: the statements are not yours to turn. If you find one false, say at which input.
  Laid BY PROGRAM, IN A SANDBOX (cutbox-rows.mjs): the forced cells as the released guide's own fill.sh prints them over the translation 625289528a781f81… (all of the seat's roots in one cut). By AI agents, Wed Nov 11 2026. No macro, syntax, notation, axiom, sorry.
-/
import Derived.Test.YtmhifeahpnkpiaaGreatDoorChecked
import GoSem.Claim
import GoSem.ClaimJoined
import GoSem.ClaimMapViews
import Derived.JoinedTies
import Derived.KernelRfl
namespace Go.Proofs.YtmhifeahpnkpiaaGreatDoor
/- THE CELL 'sum', in the pinned program and in every row, IS THE sha256 OF THE DUMP (.gsa) THAT YtmhifeahpnkpiaaGreatDoorProg.lean LOADS. Nothing in Lean hashes anything: it is a label: what it is worth is what the hold of that sum in a sandbox is worth. -/
noncomputable def Tryz.pinned : Pinned := { name := "ytmhifeahpnkpiaagreatdoor", sum := "625289528a781f812613976ee1067d9628f96633ea114537dd702015edbe1a42", checked := Tryz.checked }
namespace Rows
def none {H : Type} : Left H := { results := [], args := [] }

/- WHAT THE LISTED PACKAGE-LEVEL VARIABLES READ AS WHEN THE CALL BEGINS. Each datum BY PROGRAM (the guide's laid-datum.mjs) off the statement by which the dump's own 'gosem.cut.vars' lays the variable. In a bare row this is a premise. The card (YtmhifeahpnkpiaaGreatDoorCards.lean) ties it to the program's text. -/
def laid_berthshift_lines_kinds {H : Type} : DataW H := .agg [.agg [.lit (.string [109, 97, 107, 101]), .lit (.int .i64 1), .lit (.int .i64 0)], .agg [.lit (.string [109, 111, 118, 101]), .lit (.int .i64 10), .lit (.int .i64 0)], .agg [.lit (.string [115, 116, 101, 112]), .lit (.int .i64 3), .lit (.int .i64 0)], .agg [.lit (.string [115, 116, 97, 114, 116]), .lit (.int .i64 9), .lit (.int .i64 0)], .agg [.lit (.string [99, 114, 97, 115, 104]), .lit (.int .i64 8), .lit (.int .i64 0)], .agg [.lit (.string [99, 97, 114, 114, 121]), .lit (.int .i64 4), .lit (.int .i64 0)], .agg [.lit (.string [108, 111, 115, 101]), .lit (.int .i64 5), .lit (.int .i64 0)], .agg [.lit (.string [100, 111, 117, 98, 108, 101]), .lit (.int .i64 6), .lit (.int .i64 0)], .agg [.lit (.string [97, 108, 108]), .lit (.int .i64 7), .lit (.int .i64 0)], .agg [.lit (.string [112, 117, 98, 108, 105, 115, 104]), .lit (.int .i64 2), .lit (.int .i64 1)], .agg [.lit (.string [114, 101, 99, 101, 105, 118, 101]), .lit (.int .i64 2), .lit (.int .i64 2)], .agg [.lit (.string [97, 99, 107]), .lit (.int .i64 2), .lit (.int .i64 3)]]

/-- 'berthshiftlaw.ClusterRefuses': WHATEVER THE INPUT: true; the input reads as it did. -/
def clusterRefusesSpec : ChangeSpec := { name := "clusterRefuses", fn := fun _ => fun
  | [d] => { results := [.lit (.bool true)], args := [d] }
  | _ => none }
def clusterRefusesRow : OpenClaim := { program := "ytmhifeahpnkpiaagreatdoor", sum := "625289528a781f812613976ee1067d9628f96633ea114537dd702015edbe1a42", func := "berthshift/berthshiftlaw.ClusterRefuses", spec := "clusterRefuses", unfollowed := true, recurses := true, named := ["berthshift/lines.kinds"], apart := false, laid := [("berthshift/lines.kinds", laid_berthshift_lines_kinds)] }
def ClusterRefusesSaid : Prop := clusterRefusesRow.holds Tryz.pinned (OpenSpec.ofChange clusterRefusesSpec)

/-- ITS FALSE NEIGHBOUR: 'it returns false'. Refute it at one input. -/
def clusterRefusesWrong : ChangeSpec := { name := "clusterRefuses", fn := fun _ => fun
  | [d] => { results := [.lit (.bool false)], args := [d] }
  | _ => none }
def ClusterRefusesWrongFalsely : Prop := clusterRefusesRow.holds Tryz.pinned (OpenSpec.ofChange clusterRefusesWrong)

/-- 'berthshifttop.TopOne': WHATEVER THE INPUT: true; the input reads as it did. -/
def topOneSpec : ChangeSpec := { name := "topOne", fn := fun _ => fun
  | [d] => { results := [.lit (.bool true)], args := [d] }
  | _ => none }
def topOneRow : OpenClaim := { program := "ytmhifeahpnkpiaagreatdoor", sum := "625289528a781f812613976ee1067d9628f96633ea114537dd702015edbe1a42", func := "berthshift/berthshifttop.TopOne", spec := "topOne", unfollowed := true, recurses := true, named := ["berthshift/lines.kinds"], apart := false, laid := [("berthshift/lines.kinds", laid_berthshift_lines_kinds)] }
def TopOneSaid : Prop := topOneRow.holds Tryz.pinned (OpenSpec.ofChange topOneSpec)

/-- ITS FALSE NEIGHBOUR: 'it returns false'. Refute it at one input. -/
def topOneWrong : ChangeSpec := { name := "topOne", fn := fun _ => fun
  | [d] => { results := [.lit (.bool false)], args := [d] }
  | _ => none }
def TopOneWrongFalsely : Prop := topOneRow.holds Tryz.pinned (OpenSpec.ofChange topOneWrong)

/-- 'berthshifttop.TopDirectory': WHATEVER THE INPUT: true; the input reads as it did. -/
def topDirectorySpec : ChangeSpec := { name := "topDirectory", fn := fun _ => fun
  | [d] => { results := [.lit (.bool true)], args := [d] }
  | _ => none }
def topDirectoryRow : OpenClaim := { program := "ytmhifeahpnkpiaagreatdoor", sum := "625289528a781f812613976ee1067d9628f96633ea114537dd702015edbe1a42", func := "berthshift/berthshifttop.TopDirectory", spec := "topDirectory", unfollowed := true, recurses := true, named := ["berthshift/lines.kinds"], apart := false, laid := [("berthshift/lines.kinds", laid_berthshift_lines_kinds)] }
def TopDirectorySaid : Prop := topDirectoryRow.holds Tryz.pinned (OpenSpec.ofChange topDirectorySpec)

/-- ITS FALSE NEIGHBOUR: 'it returns false'. Refute it at one input. -/
def topDirectoryWrong : ChangeSpec := { name := "topDirectory", fn := fun _ => fun
  | [d] => { results := [.lit (.bool false)], args := [d] }
  | _ => none }
def TopDirectoryWrongFalsely : Prop := topDirectoryRow.holds Tryz.pinned (OpenSpec.ofChange topDirectoryWrong)

/-- 'berthshifttop.TopGrows': WHATEVER THE INPUT: true; the input reads as it did. -/
def topGrowsSpec : ChangeSpec := { name := "topGrows", fn := fun _ => fun
  | [d] => { results := [.lit (.bool true)], args := [d] }
  | _ => none }
def topGrowsRow : OpenClaim := { program := "ytmhifeahpnkpiaagreatdoor", sum := "625289528a781f812613976ee1067d9628f96633ea114537dd702015edbe1a42", func := "berthshift/berthshifttop.TopGrows", spec := "topGrows", unfollowed := true, recurses := true, named := ["berthshift/lines.kinds"], apart := false, laid := [("berthshift/lines.kinds", laid_berthshift_lines_kinds)] }
def TopGrowsSaid : Prop := topGrowsRow.holds Tryz.pinned (OpenSpec.ofChange topGrowsSpec)

/-- ITS FALSE NEIGHBOUR: 'it returns false'. Refute it at one input. -/
def topGrowsWrong : ChangeSpec := { name := "topGrows", fn := fun _ => fun
  | [d] => { results := [.lit (.bool false)], args := [d] }
  | _ => none }
def TopGrowsWrongFalsely : Prop := topGrowsRow.holds Tryz.pinned (OpenSpec.ofChange topGrowsWrong)

/-- 'berthshifttop.TopDown': WHATEVER THE INPUT: true; the input reads as it did. -/
def topDownSpec : ChangeSpec := { name := "topDown", fn := fun _ => fun
  | [d1, d2, d3, d4] => { results := [.lit (.bool true)], args := [d1, d2, d3, d4] }
  | _ => none }
def topDownRow : OpenClaim := { program := "ytmhifeahpnkpiaagreatdoor", sum := "625289528a781f812613976ee1067d9628f96633ea114537dd702015edbe1a42", func := "berthshift/berthshifttop.TopDown", spec := "topDown", unfollowed := true, recurses := true, named := ["berthshift/lines.kinds"], apart := false, laid := [("berthshift/lines.kinds", laid_berthshift_lines_kinds)] }
def TopDownSaid : Prop := topDownRow.holds Tryz.pinned (OpenSpec.ofChange topDownSpec)

/-- ITS FALSE NEIGHBOUR: 'it returns false'. Refute it at one input. -/
def topDownWrong : ChangeSpec := { name := "topDown", fn := fun _ => fun
  | [d1, d2, d3, d4] => { results := [.lit (.bool false)], args := [d1, d2, d3, d4] }
  | _ => none }
def TopDownWrongFalsely : Prop := topDownRow.holds Tryz.pinned (OpenSpec.ofChange topDownWrong)

/-- 'berthshifttop.TopMade': WHATEVER THE INPUT: true; the input reads as it did. -/
def topMadeSpec : ChangeSpec := { name := "topMade", fn := fun _ => fun
  | [d1, d2, d3] => { results := [.lit (.bool true)], args := [d1, d2, d3] }
  | _ => none }
def topMadeRow : OpenClaim := { program := "ytmhifeahpnkpiaagreatdoor", sum := "625289528a781f812613976ee1067d9628f96633ea114537dd702015edbe1a42", func := "berthshift/berthshifttop.TopMade", spec := "topMade", unfollowed := true, recurses := true, named := ["berthshift/lines.kinds"], apart := false, laid := [("berthshift/lines.kinds", laid_berthshift_lines_kinds)] }
def TopMadeSaid : Prop := topMadeRow.holds Tryz.pinned (OpenSpec.ofChange topMadeSpec)

/-- ITS FALSE NEIGHBOUR: 'it returns false'. Refute it at one input. -/
def topMadeWrong : ChangeSpec := { name := "topMade", fn := fun _ => fun
  | [d1, d2, d3] => { results := [.lit (.bool false)], args := [d1, d2, d3] }
  | _ => none }
def TopMadeWrongFalsely : Prop := topMadeRow.holds Tryz.pinned (OpenSpec.ofChange topMadeWrong)

/-- 'berthshifttop.TopFlying': WHATEVER THE INPUT: true; the input reads as it did. -/
def topFlyingSpec : ChangeSpec := { name := "topFlying", fn := fun _ => fun
  | [d] => { results := [.lit (.bool true)], args := [d] }
  | _ => none }
def topFlyingRow : OpenClaim := { program := "ytmhifeahpnkpiaagreatdoor", sum := "625289528a781f812613976ee1067d9628f96633ea114537dd702015edbe1a42", func := "berthshift/berthshifttop.TopFlying", spec := "topFlying", unfollowed := true, recurses := true, named := ["berthshift/lines.kinds"], apart := false, laid := [("berthshift/lines.kinds", laid_berthshift_lines_kinds)] }
def TopFlyingSaid : Prop := topFlyingRow.holds Tryz.pinned (OpenSpec.ofChange topFlyingSpec)

/-- ITS FALSE NEIGHBOUR: 'it returns false'. Refute it at one input. -/
def topFlyingWrong : ChangeSpec := { name := "topFlying", fn := fun _ => fun
  | [d] => { results := [.lit (.bool false)], args := [d] }
  | _ => none }
def TopFlyingWrongFalsely : Prop := topFlyingRow.holds Tryz.pinned (OpenSpec.ofChange topFlyingWrong)

/-- 'berthshifttop.TopLost': WHATEVER THE INPUT: true; the input reads as it did. -/
def topLostSpec : ChangeSpec := { name := "topLost", fn := fun _ => fun
  | [d] => { results := [.lit (.bool true)], args := [d] }
  | _ => none }
def topLostRow : OpenClaim := { program := "ytmhifeahpnkpiaagreatdoor", sum := "625289528a781f812613976ee1067d9628f96633ea114537dd702015edbe1a42", func := "berthshift/berthshifttop.TopLost", spec := "topLost", unfollowed := true, recurses := true, named := ["berthshift/lines.kinds"], apart := false, laid := [("berthshift/lines.kinds", laid_berthshift_lines_kinds)] }
def TopLostSaid : Prop := topLostRow.holds Tryz.pinned (OpenSpec.ofChange topLostSpec)

/-- ITS FALSE NEIGHBOUR: 'it returns false'. Refute it at one input. -/
def topLostWrong : ChangeSpec := { name := "topLost", fn := fun _ => fun
  | [d] => { results := [.lit (.bool false)], args := [d] }
  | _ => none }
def TopLostWrongFalsely : Prop := topLostRow.holds Tryz.pinned (OpenSpec.ofChange topLostWrong)

/-- 'berthshifttop.TopCalm': WHATEVER THE INPUT: true; the input reads as it did. -/
def topCalmSpec : ChangeSpec := { name := "topCalm", fn := fun _ => fun
  | [d] => { results := [.lit (.bool true)], args := [d] }
  | _ => none }
def topCalmRow : OpenClaim := { program := "ytmhifeahpnkpiaagreatdoor", sum := "625289528a781f812613976ee1067d9628f96633ea114537dd702015edbe1a42", func := "berthshift/berthshifttop.TopCalm", spec := "topCalm", unfollowed := true, recurses := true, named := ["berthshift/lines.kinds"], apart := false, laid := [("berthshift/lines.kinds", laid_berthshift_lines_kinds)] }
def TopCalmSaid : Prop := topCalmRow.holds Tryz.pinned (OpenSpec.ofChange topCalmSpec)

/-- ITS FALSE NEIGHBOUR: 'it returns false'. Refute it at one input. -/
def topCalmWrong : ChangeSpec := { name := "topCalm", fn := fun _ => fun
  | [d] => { results := [.lit (.bool false)], args := [d] }
  | _ => none }
def TopCalmWrongFalsely : Prop := topCalmRow.holds Tryz.pinned (OpenSpec.ofChange topCalmWrong)

/-- 'berthshifttop.TopNew': WHATEVER THE INPUT: true; the input reads as it did. -/
def topNewSpec : ChangeSpec := { name := "topNew", fn := fun _ => fun
  | [d1, d2] => { results := [.lit (.bool true)], args := [d1, d2] }
  | _ => none }
def topNewRow : OpenClaim := { program := "ytmhifeahpnkpiaagreatdoor", sum := "625289528a781f812613976ee1067d9628f96633ea114537dd702015edbe1a42", func := "berthshift/berthshifttop.TopNew", spec := "topNew", unfollowed := true, recurses := true, named := ["berthshift/lines.kinds"], apart := false, laid := [("berthshift/lines.kinds", laid_berthshift_lines_kinds)] }
def TopNewSaid : Prop := topNewRow.holds Tryz.pinned (OpenSpec.ofChange topNewSpec)

/-- ITS FALSE NEIGHBOUR: 'it returns false'. Refute it at one input. -/
def topNewWrong : ChangeSpec := { name := "topNew", fn := fun _ => fun
  | [d1, d2] => { results := [.lit (.bool false)], args := [d1, d2] }
  | _ => none }
def TopNewWrongFalsely : Prop := topNewRow.holds Tryz.pinned (OpenSpec.ofChange topNewWrong)

/-- 'berthshifttop.TopOrder': WHATEVER THE INPUT: true; the input reads as it did. -/
def topOrderSpec : ChangeSpec := { name := "topOrder", fn := fun _ => fun
  | [d1, d2, d3] => { results := [.lit (.bool true)], args := [d1, d2, d3] }
  | _ => none }
def topOrderRow : OpenClaim := { program := "ytmhifeahpnkpiaagreatdoor", sum := "625289528a781f812613976ee1067d9628f96633ea114537dd702015edbe1a42", func := "berthshift/berthshifttop.TopOrder", spec := "topOrder", unfollowed := true, recurses := true, named := ["berthshift/lines.kinds"], apart := false, laid := [("berthshift/lines.kinds", laid_berthshift_lines_kinds)] }
def TopOrderSaid : Prop := topOrderRow.holds Tryz.pinned (OpenSpec.ofChange topOrderSpec)

/-- ITS FALSE NEIGHBOUR: 'it returns false'. Refute it at one input. -/
def topOrderWrong : ChangeSpec := { name := "topOrder", fn := fun _ => fun
  | [d1, d2, d3] => { results := [.lit (.bool false)], args := [d1, d2, d3] }
  | _ => none }
def TopOrderWrongFalsely : Prop := topOrderRow.holds Tryz.pinned (OpenSpec.ofChange topOrderWrong)

/-- 'berthshifttop.TopRound': WHATEVER THE INPUT: true; the input reads as it did. -/
def topRoundSpec : ChangeSpec := { name := "topRound", fn := fun _ => fun
  | [d1, d2] => { results := [.lit (.bool true)], args := [d1, d2] }
  | _ => none }
def topRoundRow : OpenClaim := { program := "ytmhifeahpnkpiaagreatdoor", sum := "625289528a781f812613976ee1067d9628f96633ea114537dd702015edbe1a42", func := "berthshift/berthshifttop.TopRound", spec := "topRound", unfollowed := true, recurses := true, named := ["berthshift/lines.kinds"], apart := false, laid := [("berthshift/lines.kinds", laid_berthshift_lines_kinds)] }
def TopRoundSaid : Prop := topRoundRow.holds Tryz.pinned (OpenSpec.ofChange topRoundSpec)

/-- ITS FALSE NEIGHBOUR: 'it returns false'. Refute it at one input. -/
def topRoundWrong : ChangeSpec := { name := "topRound", fn := fun _ => fun
  | [d1, d2] => { results := [.lit (.bool false)], args := [d1, d2] }
  | _ => none }
def TopRoundWrongFalsely : Prop := topRoundRow.holds Tryz.pinned (OpenSpec.ofChange topRoundWrong)

/- THE SECOND FORM. 'bulk': how many values and letters a reading holds, each counted each time it is reached (what is shared counts as often as it is met; a slice's spare places count too). A statement '..UptoSaid' is the law's where the arguments, and the package variables that the reading takes, are together of bulk at most 1048576: NARROWER than '..Said'. Prove '..Said' where nothing that the law and all that it calls make is longer than what came in: it says more and counts as full. Else prove '..UptoSaid'. A law counts once. -/
mutual
def uptoBulk {H : Type} : DataW H → Nat
  | .lit (.string bytes) => bytes.length + 1
  | .lit _ => 1
  | .nil => 1
  | .ptr d => uptoBulk d + 1
  | .slice elems spare => uptoBulkAll elems + uptoBulkAll spare + 1
  | .agg parts => uptoBulkAll parts + 1
  | .iface _ d => uptoBulk d + 1
  | .map entries => uptoBulkEntries entries + 1
  | .held _ => 1
def uptoBulkAll {H : Type} : List (DataW H) → Nat
  | [] => 0
  | d :: r => uptoBulk d + uptoBulkAll r
def uptoBulkEntries {H : Type} : List (Lit × DataW H) → Nat
  | [] => 0
  | x :: r => uptoBulkEntry x + uptoBulkEntries r
def uptoBulkEntry {H : Type} : Lit × DataW H → Nat
  | (.string bytes, d) => bytes.length + uptoBulk d + 1
  | (_, d) => uptoBulk d + 1
 end
def uptoSmall : (H : Type) → List (DataW H) → Bool := fun _ ds => decide (uptoBulkAll ds ≤ 1048576)
def OpenSpec.upto (s : _root_.Go.ChangeSpec) : _root_.Go.OpenSpec := { _root_.Go.OpenSpec.ofChange s with cond := some uptoSmall }

/-- 'berthshiftlaw.ClusterRefuses', WHERE WHAT IT READS IS OF BULK AT MOST 1048576: true; the input reads as it did. -/
def clusterRefusesUptoRow : OpenClaim := { program := "ytmhifeahpnkpiaagreatdoor", sum := "625289528a781f812613976ee1067d9628f96633ea114537dd702015edbe1a42", func := "berthshift/berthshiftlaw.ClusterRefuses", spec := "clusterRefuses", unfollowed := true, recurses := true, named := ["berthshift/lines.kinds"], apart := false, laid := [("berthshift/lines.kinds", laid_berthshift_lines_kinds)], narrowed := true }
def ClusterRefusesUptoSaid : Prop := clusterRefusesUptoRow.holds Tryz.pinned (OpenSpec.upto clusterRefusesSpec)

/-- 'berthshifttop.TopOne', WHERE WHAT IT READS IS OF BULK AT MOST 1048576: true; the input reads as it did. -/
def topOneUptoRow : OpenClaim := { program := "ytmhifeahpnkpiaagreatdoor", sum := "625289528a781f812613976ee1067d9628f96633ea114537dd702015edbe1a42", func := "berthshift/berthshifttop.TopOne", spec := "topOne", unfollowed := true, recurses := true, named := ["berthshift/lines.kinds"], apart := false, laid := [("berthshift/lines.kinds", laid_berthshift_lines_kinds)], narrowed := true }
def TopOneUptoSaid : Prop := topOneUptoRow.holds Tryz.pinned (OpenSpec.upto topOneSpec)

/-- 'berthshifttop.TopDirectory', WHERE WHAT IT READS IS OF BULK AT MOST 1048576: true; the input reads as it did. -/
def topDirectoryUptoRow : OpenClaim := { program := "ytmhifeahpnkpiaagreatdoor", sum := "625289528a781f812613976ee1067d9628f96633ea114537dd702015edbe1a42", func := "berthshift/berthshifttop.TopDirectory", spec := "topDirectory", unfollowed := true, recurses := true, named := ["berthshift/lines.kinds"], apart := false, laid := [("berthshift/lines.kinds", laid_berthshift_lines_kinds)], narrowed := true }
def TopDirectoryUptoSaid : Prop := topDirectoryUptoRow.holds Tryz.pinned (OpenSpec.upto topDirectorySpec)

/-- 'berthshifttop.TopGrows', WHERE WHAT IT READS IS OF BULK AT MOST 1048576: true; the input reads as it did. -/
def topGrowsUptoRow : OpenClaim := { program := "ytmhifeahpnkpiaagreatdoor", sum := "625289528a781f812613976ee1067d9628f96633ea114537dd702015edbe1a42", func := "berthshift/berthshifttop.TopGrows", spec := "topGrows", unfollowed := true, recurses := true, named := ["berthshift/lines.kinds"], apart := false, laid := [("berthshift/lines.kinds", laid_berthshift_lines_kinds)], narrowed := true }
def TopGrowsUptoSaid : Prop := topGrowsUptoRow.holds Tryz.pinned (OpenSpec.upto topGrowsSpec)

/-- 'berthshifttop.TopDown', WHERE WHAT IT READS IS OF BULK AT MOST 1048576: true; the input reads as it did. -/
def topDownUptoRow : OpenClaim := { program := "ytmhifeahpnkpiaagreatdoor", sum := "625289528a781f812613976ee1067d9628f96633ea114537dd702015edbe1a42", func := "berthshift/berthshifttop.TopDown", spec := "topDown", unfollowed := true, recurses := true, named := ["berthshift/lines.kinds"], apart := false, laid := [("berthshift/lines.kinds", laid_berthshift_lines_kinds)], narrowed := true }
def TopDownUptoSaid : Prop := topDownUptoRow.holds Tryz.pinned (OpenSpec.upto topDownSpec)

/-- 'berthshifttop.TopMade', WHERE WHAT IT READS IS OF BULK AT MOST 1048576: true; the input reads as it did. -/
def topMadeUptoRow : OpenClaim := { program := "ytmhifeahpnkpiaagreatdoor", sum := "625289528a781f812613976ee1067d9628f96633ea114537dd702015edbe1a42", func := "berthshift/berthshifttop.TopMade", spec := "topMade", unfollowed := true, recurses := true, named := ["berthshift/lines.kinds"], apart := false, laid := [("berthshift/lines.kinds", laid_berthshift_lines_kinds)], narrowed := true }
def TopMadeUptoSaid : Prop := topMadeUptoRow.holds Tryz.pinned (OpenSpec.upto topMadeSpec)

/-- 'berthshifttop.TopFlying', WHERE WHAT IT READS IS OF BULK AT MOST 1048576: true; the input reads as it did. -/
def topFlyingUptoRow : OpenClaim := { program := "ytmhifeahpnkpiaagreatdoor", sum := "625289528a781f812613976ee1067d9628f96633ea114537dd702015edbe1a42", func := "berthshift/berthshifttop.TopFlying", spec := "topFlying", unfollowed := true, recurses := true, named := ["berthshift/lines.kinds"], apart := false, laid := [("berthshift/lines.kinds", laid_berthshift_lines_kinds)], narrowed := true }
def TopFlyingUptoSaid : Prop := topFlyingUptoRow.holds Tryz.pinned (OpenSpec.upto topFlyingSpec)

/-- 'berthshifttop.TopLost', WHERE WHAT IT READS IS OF BULK AT MOST 1048576: true; the input reads as it did. -/
def topLostUptoRow : OpenClaim := { program := "ytmhifeahpnkpiaagreatdoor", sum := "625289528a781f812613976ee1067d9628f96633ea114537dd702015edbe1a42", func := "berthshift/berthshifttop.TopLost", spec := "topLost", unfollowed := true, recurses := true, named := ["berthshift/lines.kinds"], apart := false, laid := [("berthshift/lines.kinds", laid_berthshift_lines_kinds)], narrowed := true }
def TopLostUptoSaid : Prop := topLostUptoRow.holds Tryz.pinned (OpenSpec.upto topLostSpec)

/-- 'berthshifttop.TopCalm', WHERE WHAT IT READS IS OF BULK AT MOST 1048576: true; the input reads as it did. -/
def topCalmUptoRow : OpenClaim := { program := "ytmhifeahpnkpiaagreatdoor", sum := "625289528a781f812613976ee1067d9628f96633ea114537dd702015edbe1a42", func := "berthshift/berthshifttop.TopCalm", spec := "topCalm", unfollowed := true, recurses := true, named := ["berthshift/lines.kinds"], apart := false, laid := [("berthshift/lines.kinds", laid_berthshift_lines_kinds)], narrowed := true }
def TopCalmUptoSaid : Prop := topCalmUptoRow.holds Tryz.pinned (OpenSpec.upto topCalmSpec)

/-- 'berthshifttop.TopNew', WHERE WHAT IT READS IS OF BULK AT MOST 1048576: true; the input reads as it did. -/
def topNewUptoRow : OpenClaim := { program := "ytmhifeahpnkpiaagreatdoor", sum := "625289528a781f812613976ee1067d9628f96633ea114537dd702015edbe1a42", func := "berthshift/berthshifttop.TopNew", spec := "topNew", unfollowed := true, recurses := true, named := ["berthshift/lines.kinds"], apart := false, laid := [("berthshift/lines.kinds", laid_berthshift_lines_kinds)], narrowed := true }
def TopNewUptoSaid : Prop := topNewUptoRow.holds Tryz.pinned (OpenSpec.upto topNewSpec)

/-- 'berthshifttop.TopOrder', WHERE WHAT IT READS IS OF BULK AT MOST 1048576: true; the input reads as it did. -/
def topOrderUptoRow : OpenClaim := { program := "ytmhifeahpnkpiaagreatdoor", sum := "625289528a781f812613976ee1067d9628f96633ea114537dd702015edbe1a42", func := "berthshift/berthshifttop.TopOrder", spec := "topOrder", unfollowed := true, recurses := true, named := ["berthshift/lines.kinds"], apart := false, laid := [("berthshift/lines.kinds", laid_berthshift_lines_kinds)], narrowed := true }
def TopOrderUptoSaid : Prop := topOrderUptoRow.holds Tryz.pinned (OpenSpec.upto topOrderSpec)

/-- 'berthshifttop.TopRound', WHERE WHAT IT READS IS OF BULK AT MOST 1048576: true; the input reads as it did. -/
def topRoundUptoRow : OpenClaim := { program := "ytmhifeahpnkpiaagreatdoor", sum := "625289528a781f812613976ee1067d9628f96633ea114537dd702015edbe1a42", func := "berthshift/berthshifttop.TopRound", spec := "topRound", unfollowed := true, recurses := true, named := ["berthshift/lines.kinds"], apart := false, laid := [("berthshift/lines.kinds", laid_berthshift_lines_kinds)], narrowed := true }
def TopRoundUptoSaid : Prop := topRoundUptoRow.holds Tryz.pinned (OpenSpec.upto topRoundSpec)

end Rows
end Go.Proofs.YtmhifeahpnkpiaaGreatDoor
