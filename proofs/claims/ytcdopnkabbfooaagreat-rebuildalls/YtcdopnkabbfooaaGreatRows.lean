/-
  No cell of these rows narrows 'for every input' (looked for: loops, veiled, ifaces, maps, wideKeys, modest, calm, conditions, laid).
  DERIVED. THE GIVEN ROWS OF THIS SEAT. 7 by the template 'for every input the law returns true; each argument reads behind the call as it read before'; 0 by the template 'total and deterministic' (their statements: YtcdopnkabbfooaaGreatTotals.lean).
  GIVEN WITH THE SEED: the statements are not yours to turn. If you find one false, say at which input.
  Laid BY PROGRAM, IN A SANDBOX (cutbox-rows.mjs): the forced cells as the released guide's own fill.sh prints them over the translation af80eccc3bc4fe97… (all of the seat's roots in one cut). By AI agents, Wed Nov 11 2026. No macro, syntax, notation, axiom, sorry.
-/
import Derived.Test.YtcdopnkabbfooaaGreatChecked
import GoSem.Claim
import GoSem.ClaimJoined
import GoSem.ClaimMapViews
import Derived.JoinedTies
import Derived.KernelRfl
namespace Go.Proofs.YtcdopnkabbfooaaGreat
/- THE CELL 'sum', in the pinned program and in every row, IS THE sha256 OF THE DUMP (.gsa) THAT YtcdopnkabbfooaaGreatProg.lean LOADS. Nothing in Lean hashes anything: it is a label: what it is worth is what the hold of that sum in a sandbox is worth. -/
noncomputable def Tryz.pinned : Pinned := { name := "ytcdopnkabbfooaagreat", sum := "af80eccc3bc4fe9703a212b5898118039e360a2bdb0c747ba1a11edd4c1155f5", checked := Tryz.checked }
namespace Rows
def none {H : Type} : Left H := { results := [], args := [] }

/-- 'berthshiftlaw.RebuildApplies': WHATEVER THE INPUT: true; the input reads as it did. -/
def rebuildAppliesSpec : ChangeSpec := { name := "rebuildApplies", fn := fun _ => fun
  | [d1, d2] => { results := [.lit (.bool true)], args := [d1, d2] }
  | _ => none }
def rebuildAppliesRow : OpenClaim := { program := "ytcdopnkabbfooaagreat", sum := "af80eccc3bc4fe9703a212b5898118039e360a2bdb0c747ba1a11edd4c1155f5", func := "berthshift/berthshiftlaw.RebuildApplies", spec := "rebuildApplies", unfollowed := true, recurses := true, apart := false }
def RebuildAppliesSaid : Prop := rebuildAppliesRow.holds Tryz.pinned (OpenSpec.ofChange rebuildAppliesSpec)

/-- ITS FALSE NEIGHBOUR: 'it returns false'. Refute it at one input. -/
def rebuildAppliesWrong : ChangeSpec := { name := "rebuildApplies", fn := fun _ => fun
  | [d1, d2] => { results := [.lit (.bool false)], args := [d1, d2] }
  | _ => none }
def RebuildAppliesWrongFalsely : Prop := rebuildAppliesRow.holds Tryz.pinned (OpenSpec.ofChange rebuildAppliesWrong)

/-- 'berthshiftlaw.RebuildAlls': WHATEVER THE INPUT: true; the input reads as it did. -/
def rebuildAllsSpec : ChangeSpec := { name := "rebuildAlls", fn := fun _ => fun
  | [d] => { results := [.lit (.bool true)], args := [d] }
  | _ => none }
def rebuildAllsRow : OpenClaim := { program := "ytcdopnkabbfooaagreat", sum := "af80eccc3bc4fe9703a212b5898118039e360a2bdb0c747ba1a11edd4c1155f5", func := "berthshift/berthshiftlaw.RebuildAlls", spec := "rebuildAlls", unfollowed := true, recurses := true, apart := false }
def RebuildAllsSaid : Prop := rebuildAllsRow.holds Tryz.pinned (OpenSpec.ofChange rebuildAllsSpec)

/-- ITS FALSE NEIGHBOUR: 'it returns false'. Refute it at one input. -/
def rebuildAllsWrong : ChangeSpec := { name := "rebuildAlls", fn := fun _ => fun
  | [d] => { results := [.lit (.bool false)], args := [d] }
  | _ => none }
def RebuildAllsWrongFalsely : Prop := rebuildAllsRow.holds Tryz.pinned (OpenSpec.ofChange rebuildAllsWrong)

/-- 'berthshiftkeep.RebuildBack': WHATEVER THE INPUT: true; the input reads as it did. -/
def rebuildBackSpec : ChangeSpec := { name := "rebuildBack", fn := fun _ => fun
  | [d1, d2, d3, d4] => { results := [.lit (.bool true)], args := [d1, d2, d3, d4] }
  | _ => none }
def rebuildBackRow : OpenClaim := { program := "ytcdopnkabbfooaagreat", sum := "af80eccc3bc4fe9703a212b5898118039e360a2bdb0c747ba1a11edd4c1155f5", func := "berthshift/berthshiftkeep.RebuildBack", spec := "rebuildBack", unfollowed := true, recurses := true, apart := false }
def RebuildBackSaid : Prop := rebuildBackRow.holds Tryz.pinned (OpenSpec.ofChange rebuildBackSpec)

/-- ITS FALSE NEIGHBOUR: 'it returns false'. Refute it at one input. -/
def rebuildBackWrong : ChangeSpec := { name := "rebuildBack", fn := fun _ => fun
  | [d1, d2, d3, d4] => { results := [.lit (.bool false)], args := [d1, d2, d3, d4] }
  | _ => none }
def RebuildBackWrongFalsely : Prop := rebuildBackRow.holds Tryz.pinned (OpenSpec.ofChange rebuildBackWrong)

/-- 'berthshiftkeep.RebuildMove': WHATEVER THE INPUT: true; the input reads as it did. -/
def rebuildMoveSpec : ChangeSpec := { name := "rebuildMove", fn := fun _ => fun
  | [d1, d2, d3, d4] => { results := [.lit (.bool true)], args := [d1, d2, d3, d4] }
  | _ => none }
def rebuildMoveRow : OpenClaim := { program := "ytcdopnkabbfooaagreat", sum := "af80eccc3bc4fe9703a212b5898118039e360a2bdb0c747ba1a11edd4c1155f5", func := "berthshift/berthshiftkeep.RebuildMove", spec := "rebuildMove", unfollowed := true, recurses := true, apart := false }
def RebuildMoveSaid : Prop := rebuildMoveRow.holds Tryz.pinned (OpenSpec.ofChange rebuildMoveSpec)

/-- ITS FALSE NEIGHBOUR: 'it returns false'. Refute it at one input. -/
def rebuildMoveWrong : ChangeSpec := { name := "rebuildMove", fn := fun _ => fun
  | [d1, d2, d3, d4] => { results := [.lit (.bool false)], args := [d1, d2, d3, d4] }
  | _ => none }
def RebuildMoveWrongFalsely : Prop := rebuildMoveRow.holds Tryz.pinned (OpenSpec.ofChange rebuildMoveWrong)

/-- 'berthshiftkeep.RebuildCut': WHATEVER THE INPUT: true; the input reads as it did. -/
def rebuildCutSpec : ChangeSpec := { name := "rebuildCut", fn := fun _ => fun
  | [d1, d2, d3] => { results := [.lit (.bool true)], args := [d1, d2, d3] }
  | _ => none }
def rebuildCutRow : OpenClaim := { program := "ytcdopnkabbfooaagreat", sum := "af80eccc3bc4fe9703a212b5898118039e360a2bdb0c747ba1a11edd4c1155f5", func := "berthshift/berthshiftkeep.RebuildCut", spec := "rebuildCut", unfollowed := true, recurses := true, apart := false }
def RebuildCutSaid : Prop := rebuildCutRow.holds Tryz.pinned (OpenSpec.ofChange rebuildCutSpec)

/-- ITS FALSE NEIGHBOUR: 'it returns false'. Refute it at one input. -/
def rebuildCutWrong : ChangeSpec := { name := "rebuildCut", fn := fun _ => fun
  | [d1, d2, d3] => { results := [.lit (.bool false)], args := [d1, d2, d3] }
  | _ => none }
def RebuildCutWrongFalsely : Prop := rebuildCutRow.holds Tryz.pinned (OpenSpec.ofChange rebuildCutWrong)

/-- 'berthshiftkeep.RebuildMixed': WHATEVER THE INPUT: true; the input reads as it did. -/
def rebuildMixedSpec : ChangeSpec := { name := "rebuildMixed", fn := fun _ => fun
  | [d1, d2, d3] => { results := [.lit (.bool true)], args := [d1, d2, d3] }
  | _ => none }
def rebuildMixedRow : OpenClaim := { program := "ytcdopnkabbfooaagreat", sum := "af80eccc3bc4fe9703a212b5898118039e360a2bdb0c747ba1a11edd4c1155f5", func := "berthshift/berthshiftkeep.RebuildMixed", spec := "rebuildMixed", unfollowed := true, recurses := true, apart := false }
def RebuildMixedSaid : Prop := rebuildMixedRow.holds Tryz.pinned (OpenSpec.ofChange rebuildMixedSpec)

/-- ITS FALSE NEIGHBOUR: 'it returns false'. Refute it at one input. -/
def rebuildMixedWrong : ChangeSpec := { name := "rebuildMixed", fn := fun _ => fun
  | [d1, d2, d3] => { results := [.lit (.bool false)], args := [d1, d2, d3] }
  | _ => none }
def RebuildMixedWrongFalsely : Prop := rebuildMixedRow.holds Tryz.pinned (OpenSpec.ofChange rebuildMixedWrong)

/-- 'berthshiftkeep.RebuildOnce': WHATEVER THE INPUT: true; the input reads as it did. -/
def rebuildOnceSpec : ChangeSpec := { name := "rebuildOnce", fn := fun _ => fun
  | [d1, d2, d3] => { results := [.lit (.bool true)], args := [d1, d2, d3] }
  | _ => none }
def rebuildOnceRow : OpenClaim := { program := "ytcdopnkabbfooaagreat", sum := "af80eccc3bc4fe9703a212b5898118039e360a2bdb0c747ba1a11edd4c1155f5", func := "berthshift/berthshiftkeep.RebuildOnce", spec := "rebuildOnce", unfollowed := true, recurses := true, apart := false }
def RebuildOnceSaid : Prop := rebuildOnceRow.holds Tryz.pinned (OpenSpec.ofChange rebuildOnceSpec)

/-- ITS FALSE NEIGHBOUR: 'it returns false'. Refute it at one input. -/
def rebuildOnceWrong : ChangeSpec := { name := "rebuildOnce", fn := fun _ => fun
  | [d1, d2, d3] => { results := [.lit (.bool false)], args := [d1, d2, d3] }
  | _ => none }
def RebuildOnceWrongFalsely : Prop := rebuildOnceRow.holds Tryz.pinned (OpenSpec.ofChange rebuildOnceWrong)

/- THE SECOND FORM. 'bulk': how many values and letters a reading holds, each counted each time it is reached (what is shared counts as often as it is met; a slice's spare places count too). A statement '..UptoSaid' is the law's where the arguments, and the package variables that the reading takes, are together of bulk at most 1048576: NARROWER than '..Said'. Prove '..Said' where nothing that the law and all that it calls make is longer than what came in: it says more and counts as full. Else prove '..UptoSaid'. A law counts once. -/
mutual
def uptoBulk {H : Type} : DataW H → Nat
  | .lit (.string bytes) => bytes.length + 1
  | .lit _ => 1
  | .nil => 1
  | .ptr d => uptoBulk d + 1
  | .slice elems spare => uptoBulkAll elems + uptoBulkAll spare + 1
  | .agg parts => uptoBulkAll parts + 1
  | .iface _ d => uptoBulk d + 1
  | .map entries => uptoBulkEntries entries + 1
  | .held _ => 1
def uptoBulkAll {H : Type} : List (DataW H) → Nat
  | [] => 0
  | d :: r => uptoBulk d + uptoBulkAll r
def uptoBulkEntries {H : Type} : List (Lit × DataW H) → Nat
  | [] => 0
  | x :: r => uptoBulkEntry x + uptoBulkEntries r
def uptoBulkEntry {H : Type} : Lit × DataW H → Nat
  | (.string bytes, d) => bytes.length + uptoBulk d + 1
  | (_, d) => uptoBulk d + 1
 end
def uptoSmall : (H : Type) → List (DataW H) → Bool := fun _ ds => decide (uptoBulkAll ds ≤ 1048576)
def OpenSpec.upto (s : _root_.Go.ChangeSpec) : _root_.Go.OpenSpec := { _root_.Go.OpenSpec.ofChange s with cond := some uptoSmall }

/-- 'berthshiftlaw.RebuildApplies', WHERE WHAT IT READS IS OF BULK AT MOST 1048576: true; the input reads as it did. -/
def rebuildAppliesUptoRow : OpenClaim := { program := "ytcdopnkabbfooaagreat", sum := "af80eccc3bc4fe9703a212b5898118039e360a2bdb0c747ba1a11edd4c1155f5", func := "berthshift/berthshiftlaw.RebuildApplies", spec := "rebuildApplies", unfollowed := true, recurses := true, apart := false, narrowed := true }
def RebuildAppliesUptoSaid : Prop := rebuildAppliesUptoRow.holds Tryz.pinned (OpenSpec.upto rebuildAppliesSpec)

/-- 'berthshiftlaw.RebuildAlls', WHERE WHAT IT READS IS OF BULK AT MOST 1048576: true; the input reads as it did. -/
def rebuildAllsUptoRow : OpenClaim := { program := "ytcdopnkabbfooaagreat", sum := "af80eccc3bc4fe9703a212b5898118039e360a2bdb0c747ba1a11edd4c1155f5", func := "berthshift/berthshiftlaw.RebuildAlls", spec := "rebuildAlls", unfollowed := true, recurses := true, apart := false, narrowed := true }
def RebuildAllsUptoSaid : Prop := rebuildAllsUptoRow.holds Tryz.pinned (OpenSpec.upto rebuildAllsSpec)

/-- 'berthshiftkeep.RebuildBack', WHERE WHAT IT READS IS OF BULK AT MOST 1048576: true; the input reads as it did. -/
def rebuildBackUptoRow : OpenClaim := { program := "ytcdopnkabbfooaagreat", sum := "af80eccc3bc4fe9703a212b5898118039e360a2bdb0c747ba1a11edd4c1155f5", func := "berthshift/berthshiftkeep.RebuildBack", spec := "rebuildBack", unfollowed := true, recurses := true, apart := false, narrowed := true }
def RebuildBackUptoSaid : Prop := rebuildBackUptoRow.holds Tryz.pinned (OpenSpec.upto rebuildBackSpec)

/-- 'berthshiftkeep.RebuildMove', WHERE WHAT IT READS IS OF BULK AT MOST 1048576: true; the input reads as it did. -/
def rebuildMoveUptoRow : OpenClaim := { program := "ytcdopnkabbfooaagreat", sum := "af80eccc3bc4fe9703a212b5898118039e360a2bdb0c747ba1a11edd4c1155f5", func := "berthshift/berthshiftkeep.RebuildMove", spec := "rebuildMove", unfollowed := true, recurses := true, apart := false, narrowed := true }
def RebuildMoveUptoSaid : Prop := rebuildMoveUptoRow.holds Tryz.pinned (OpenSpec.upto rebuildMoveSpec)

/-- 'berthshiftkeep.RebuildCut', WHERE WHAT IT READS IS OF BULK AT MOST 1048576: true; the input reads as it did. -/
def rebuildCutUptoRow : OpenClaim := { program := "ytcdopnkabbfooaagreat", sum := "af80eccc3bc4fe9703a212b5898118039e360a2bdb0c747ba1a11edd4c1155f5", func := "berthshift/berthshiftkeep.RebuildCut", spec := "rebuildCut", unfollowed := true, recurses := true, apart := false, narrowed := true }
def RebuildCutUptoSaid : Prop := rebuildCutUptoRow.holds Tryz.pinned (OpenSpec.upto rebuildCutSpec)

/-- 'berthshiftkeep.RebuildMixed', WHERE WHAT IT READS IS OF BULK AT MOST 1048576: true; the input reads as it did. -/
def rebuildMixedUptoRow : OpenClaim := { program := "ytcdopnkabbfooaagreat", sum := "af80eccc3bc4fe9703a212b5898118039e360a2bdb0c747ba1a11edd4c1155f5", func := "berthshift/berthshiftkeep.RebuildMixed", spec := "rebuildMixed", unfollowed := true, recurses := true, apart := false, narrowed := true }
def RebuildMixedUptoSaid : Prop := rebuildMixedUptoRow.holds Tryz.pinned (OpenSpec.upto rebuildMixedSpec)

/-- 'berthshiftkeep.RebuildOnce', WHERE WHAT IT READS IS OF BULK AT MOST 1048576: true; the input reads as it did. -/
def rebuildOnceUptoRow : OpenClaim := { program := "ytcdopnkabbfooaagreat", sum := "af80eccc3bc4fe9703a212b5898118039e360a2bdb0c747ba1a11edd4c1155f5", func := "berthshift/berthshiftkeep.RebuildOnce", spec := "rebuildOnce", unfollowed := true, recurses := true, apart := false, narrowed := true }
def RebuildOnceUptoSaid : Prop := rebuildOnceUptoRow.holds Tryz.pinned (OpenSpec.upto rebuildOnceSpec)

end Rows
end Go.Proofs.YtcdopnkabbfooaaGreat
