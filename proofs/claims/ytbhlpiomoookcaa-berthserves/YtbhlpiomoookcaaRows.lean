/-
  No cell of these rows narrows 'for every input' (looked for: loops, veiled, ifaces, maps, wideKeys, modest, calm, conditions, laid).
  DERIVED. THE GIVEN ROWS OF THIS SEAT. 9 by the template 'for every input the law returns true; each argument reads behind the call as it read before'; 0 by the template 'total and deterministic' (their statements: YtbhlpiomoookcaaTotals.lean).
  GIVEN WITH THE SEED: the statements are not yours to turn. If you find one false, say at which input.
  Laid BY PROGRAM, IN A SANDBOX (cutbox-rows.mjs): the forced cells as the released guide's own fill.sh prints them over the translation 8517a29598bc5ef9… (all of the seat's roots in one cut). By AI agents, Wed Nov 11 2026. No macro, syntax, notation, axiom, sorry.
-/
import Derived.Test.YtbhlpiomoookcaaChecked
import GoSem.Claim
import GoSem.ClaimJoined
import GoSem.ClaimMapViews
import Derived.JoinedTies
import Derived.KernelRfl
namespace Go.Proofs.Ytbhlpiomoookcaa
/- THE CELL 'sum', in the pinned program and in every row, IS THE sha256 OF THE DUMP (.gsa) THAT YtbhlpiomoookcaaProg.lean LOADS. Nothing in Lean hashes anything: it is a label: what it is worth is what the hold of that sum in a sandbox is worth. -/
noncomputable def Try.pinned : Pinned := { name := "ytbhlpiomoookcaa", sum := "8517a29598bc5ef959f7c4adb0b828f8b0b0215c871f9b45d5405169c0874ee4", checked := Try.checked }
namespace Rows
def none {H : Type} : Left H := { results := [], args := [] }

/-- 'berthshiftlaw.QueueDoes': WHATEVER THE INPUT: true; the input reads as it did. -/
def queueDoesSpec : ChangeSpec := { name := "queueDoes", fn := fun _ => fun
  | [d1, d2] => { results := [.lit (.bool true)], args := [d1, d2] }
  | _ => none }
def queueDoesRow : OpenClaim := { program := "ytbhlpiomoookcaa", sum := "8517a29598bc5ef959f7c4adb0b828f8b0b0215c871f9b45d5405169c0874ee4", func := "berthshift/berthshiftlaw.QueueDoes", spec := "queueDoes", unfollowed := true, recurses := true, apart := false }
def QueueDoesSaid : Prop := queueDoesRow.holds Try.pinned (OpenSpec.ofChange queueDoesSpec)

/-- ITS FALSE NEIGHBOUR: 'it returns false'. Refute it at one input. -/
def queueDoesWrong : ChangeSpec := { name := "queueDoes", fn := fun _ => fun
  | [d1, d2] => { results := [.lit (.bool false)], args := [d1, d2] }
  | _ => none }
def QueueDoesWrongFalsely : Prop := queueDoesRow.holds Try.pinned (OpenSpec.ofChange queueDoesWrong)

/-- 'berthshiftlaw.HistoryReplays': WHATEVER THE INPUT: true; the input reads as it did. -/
def historyReplaysSpec : ChangeSpec := { name := "historyReplays", fn := fun _ => fun
  | [d] => { results := [.lit (.bool true)], args := [d] }
  | _ => none }
def historyReplaysRow : OpenClaim := { program := "ytbhlpiomoookcaa", sum := "8517a29598bc5ef959f7c4adb0b828f8b0b0215c871f9b45d5405169c0874ee4", func := "berthshift/berthshiftlaw.HistoryReplays", spec := "historyReplays", unfollowed := true, recurses := true, apart := false }
def HistoryReplaysSaid : Prop := historyReplaysRow.holds Try.pinned (OpenSpec.ofChange historyReplaysSpec)

/-- ITS FALSE NEIGHBOUR: 'it returns false'. Refute it at one input. -/
def historyReplaysWrong : ChangeSpec := { name := "historyReplays", fn := fun _ => fun
  | [d] => { results := [.lit (.bool false)], args := [d] }
  | _ => none }
def HistoryReplaysWrongFalsely : Prop := historyReplaysRow.holds Try.pinned (OpenSpec.ofChange historyReplaysWrong)

/-- 'berthshiftlaw.BerthChecks': WHATEVER THE INPUT: true; the input reads as it did. -/
def berthChecksSpec : ChangeSpec := { name := "berthChecks", fn := fun _ => fun
  | [d] => { results := [.lit (.bool true)], args := [d] }
  | _ => none }
def berthChecksRow : OpenClaim := { program := "ytbhlpiomoookcaa", sum := "8517a29598bc5ef959f7c4adb0b828f8b0b0215c871f9b45d5405169c0874ee4", func := "berthshift/berthshiftlaw.BerthChecks", spec := "berthChecks", unfollowed := true, recurses := true, apart := false }
def BerthChecksSaid : Prop := berthChecksRow.holds Try.pinned (OpenSpec.ofChange berthChecksSpec)

/-- ITS FALSE NEIGHBOUR: 'it returns false'. Refute it at one input. -/
def berthChecksWrong : ChangeSpec := { name := "berthChecks", fn := fun _ => fun
  | [d] => { results := [.lit (.bool false)], args := [d] }
  | _ => none }
def BerthChecksWrongFalsely : Prop := berthChecksRow.holds Try.pinned (OpenSpec.ofChange berthChecksWrong)

/-- 'berthshiftlaw.BerthServes': WHATEVER THE INPUT: true; the input reads as it did. -/
def berthServesSpec : ChangeSpec := { name := "berthServes", fn := fun _ => fun
  | [d1, d2] => { results := [.lit (.bool true)], args := [d1, d2] }
  | _ => none }
def berthServesRow : OpenClaim := { program := "ytbhlpiomoookcaa", sum := "8517a29598bc5ef959f7c4adb0b828f8b0b0215c871f9b45d5405169c0874ee4", func := "berthshift/berthshiftlaw.BerthServes", spec := "berthServes", unfollowed := true, recurses := true, apart := false }
def BerthServesSaid : Prop := berthServesRow.holds Try.pinned (OpenSpec.ofChange berthServesSpec)

/-- ITS FALSE NEIGHBOUR: 'it returns false'. Refute it at one input. -/
def berthServesWrong : ChangeSpec := { name := "berthServes", fn := fun _ => fun
  | [d1, d2] => { results := [.lit (.bool false)], args := [d1, d2] }
  | _ => none }
def BerthServesWrongFalsely : Prop := berthServesRow.holds Try.pinned (OpenSpec.ofChange berthServesWrong)

/-- 'berthshiftlaw.BerthMakes': WHATEVER THE INPUT: true; the input reads as it did. -/
def berthMakesSpec : ChangeSpec := { name := "berthMakes", fn := fun _ => fun
  | [d1, d2] => { results := [.lit (.bool true)], args := [d1, d2] }
  | _ => none }
def berthMakesRow : OpenClaim := { program := "ytbhlpiomoookcaa", sum := "8517a29598bc5ef959f7c4adb0b828f8b0b0215c871f9b45d5405169c0874ee4", func := "berthshift/berthshiftlaw.BerthMakes", spec := "berthMakes", unfollowed := true, recurses := true, apart := false }
def BerthMakesSaid : Prop := berthMakesRow.holds Try.pinned (OpenSpec.ofChange berthMakesSpec)

/-- ITS FALSE NEIGHBOUR: 'it returns false'. Refute it at one input. -/
def berthMakesWrong : ChangeSpec := { name := "berthMakes", fn := fun _ => fun
  | [d1, d2] => { results := [.lit (.bool false)], args := [d1, d2] }
  | _ => none }
def BerthMakesWrongFalsely : Prop := berthMakesRow.holds Try.pinned (OpenSpec.ofChange berthMakesWrong)

/-- 'berthshiftlaw.BerthGoes': WHATEVER THE INPUT: true; the input reads as it did. -/
def berthGoesSpec : ChangeSpec := { name := "berthGoes", fn := fun _ => fun
  | [d1, d2] => { results := [.lit (.bool true)], args := [d1, d2] }
  | _ => none }
def berthGoesRow : OpenClaim := { program := "ytbhlpiomoookcaa", sum := "8517a29598bc5ef959f7c4adb0b828f8b0b0215c871f9b45d5405169c0874ee4", func := "berthshift/berthshiftlaw.BerthGoes", spec := "berthGoes", unfollowed := true, recurses := true, apart := false }
def BerthGoesSaid : Prop := berthGoesRow.holds Try.pinned (OpenSpec.ofChange berthGoesSpec)

/-- ITS FALSE NEIGHBOUR: 'it returns false'. Refute it at one input. -/
def berthGoesWrong : ChangeSpec := { name := "berthGoes", fn := fun _ => fun
  | [d1, d2] => { results := [.lit (.bool false)], args := [d1, d2] }
  | _ => none }
def BerthGoesWrongFalsely : Prop := berthGoesRow.holds Try.pinned (OpenSpec.ofChange berthGoesWrong)

/-- 'berthshiftlaw.BerthParts': WHATEVER THE INPUT: true; the input reads as it did. -/
def berthPartsSpec : ChangeSpec := { name := "berthParts", fn := fun _ => fun
  | [d1, d2] => { results := [.lit (.bool true)], args := [d1, d2] }
  | _ => none }
def berthPartsRow : OpenClaim := { program := "ytbhlpiomoookcaa", sum := "8517a29598bc5ef959f7c4adb0b828f8b0b0215c871f9b45d5405169c0874ee4", func := "berthshift/berthshiftlaw.BerthParts", spec := "berthParts", unfollowed := true, recurses := true, apart := false }
def BerthPartsSaid : Prop := berthPartsRow.holds Try.pinned (OpenSpec.ofChange berthPartsSpec)

/-- ITS FALSE NEIGHBOUR: 'it returns false'. Refute it at one input. -/
def berthPartsWrong : ChangeSpec := { name := "berthParts", fn := fun _ => fun
  | [d1, d2] => { results := [.lit (.bool false)], args := [d1, d2] }
  | _ => none }
def BerthPartsWrongFalsely : Prop := berthPartsRow.holds Try.pinned (OpenSpec.ofChange berthPartsWrong)

/-- 'berthshiftlaw.BerthForgets': WHATEVER THE INPUT: true; the input reads as it did. -/
def berthForgetsSpec : ChangeSpec := { name := "berthForgets", fn := fun _ => fun
  | [d1, d2] => { results := [.lit (.bool true)], args := [d1, d2] }
  | _ => none }
def berthForgetsRow : OpenClaim := { program := "ytbhlpiomoookcaa", sum := "8517a29598bc5ef959f7c4adb0b828f8b0b0215c871f9b45d5405169c0874ee4", func := "berthshift/berthshiftlaw.BerthForgets", spec := "berthForgets", unfollowed := true, recurses := true, apart := false }
def BerthForgetsSaid : Prop := berthForgetsRow.holds Try.pinned (OpenSpec.ofChange berthForgetsSpec)

/-- ITS FALSE NEIGHBOUR: 'it returns false'. Refute it at one input. -/
def berthForgetsWrong : ChangeSpec := { name := "berthForgets", fn := fun _ => fun
  | [d1, d2] => { results := [.lit (.bool false)], args := [d1, d2] }
  | _ => none }
def BerthForgetsWrongFalsely : Prop := berthForgetsRow.holds Try.pinned (OpenSpec.ofChange berthForgetsWrong)

/-- 'berthshiftlaw.BerthWakes': WHATEVER THE INPUT: true; the input reads as it did. -/
def berthWakesSpec : ChangeSpec := { name := "berthWakes", fn := fun _ => fun
  | [d] => { results := [.lit (.bool true)], args := [d] }
  | _ => none }
def berthWakesRow : OpenClaim := { program := "ytbhlpiomoookcaa", sum := "8517a29598bc5ef959f7c4adb0b828f8b0b0215c871f9b45d5405169c0874ee4", func := "berthshift/berthshiftlaw.BerthWakes", spec := "berthWakes", unfollowed := true, recurses := true, apart := false }
def BerthWakesSaid : Prop := berthWakesRow.holds Try.pinned (OpenSpec.ofChange berthWakesSpec)

/-- ITS FALSE NEIGHBOUR: 'it returns false'. Refute it at one input. -/
def berthWakesWrong : ChangeSpec := { name := "berthWakes", fn := fun _ => fun
  | [d] => { results := [.lit (.bool false)], args := [d] }
  | _ => none }
def BerthWakesWrongFalsely : Prop := berthWakesRow.holds Try.pinned (OpenSpec.ofChange berthWakesWrong)

/- THE SECOND FORM. 'bulk': how many values and letters a reading holds, each counted each time it is reached (what is shared counts as often as it is met; a slice's spare places count too). A statement '..UptoSaid' is the law's where the arguments, and the package variables that the reading takes, are together of bulk at most 1048576: NARROWER than '..Said'. Prove '..Said' where nothing that the law and all that it calls make is longer than what came in: it says more and counts as full. Else prove '..UptoSaid'. A law counts once. -/
mutual
def uptoBulk {H : Type} : DataW H → Nat
  | .lit (.string bytes) => bytes.length + 1
  | .lit _ => 1
  | .nil => 1
  | .ptr d => uptoBulk d + 1
  | .slice elems spare => uptoBulkAll elems + uptoBulkAll spare + 1
  | .agg parts => uptoBulkAll parts + 1
  | .iface _ d => uptoBulk d + 1
  | .map entries => uptoBulkEntries entries + 1
  | .held _ => 1
def uptoBulkAll {H : Type} : List (DataW H) → Nat
  | [] => 0
  | d :: r => uptoBulk d + uptoBulkAll r
def uptoBulkEntries {H : Type} : List (Lit × DataW H) → Nat
  | [] => 0
  | x :: r => uptoBulkEntry x + uptoBulkEntries r
def uptoBulkEntry {H : Type} : Lit × DataW H → Nat
  | (.string bytes, d) => bytes.length + uptoBulk d + 1
  | (_, d) => uptoBulk d + 1
 end
def uptoSmall : (H : Type) → List (DataW H) → Bool := fun _ ds => decide (uptoBulkAll ds ≤ 1048576)
def OpenSpec.upto (s : _root_.Go.ChangeSpec) : _root_.Go.OpenSpec := { _root_.Go.OpenSpec.ofChange s with cond := some uptoSmall }

/-- 'berthshiftlaw.QueueDoes', WHERE WHAT IT READS IS OF BULK AT MOST 1048576: true; the input reads as it did. -/
def queueDoesUptoRow : OpenClaim := { program := "ytbhlpiomoookcaa", sum := "8517a29598bc5ef959f7c4adb0b828f8b0b0215c871f9b45d5405169c0874ee4", func := "berthshift/berthshiftlaw.QueueDoes", spec := "queueDoes", unfollowed := true, recurses := true, apart := false, narrowed := true }
def QueueDoesUptoSaid : Prop := queueDoesUptoRow.holds Try.pinned (OpenSpec.upto queueDoesSpec)

/-- 'berthshiftlaw.HistoryReplays', WHERE WHAT IT READS IS OF BULK AT MOST 1048576: true; the input reads as it did. -/
def historyReplaysUptoRow : OpenClaim := { program := "ytbhlpiomoookcaa", sum := "8517a29598bc5ef959f7c4adb0b828f8b0b0215c871f9b45d5405169c0874ee4", func := "berthshift/berthshiftlaw.HistoryReplays", spec := "historyReplays", unfollowed := true, recurses := true, apart := false, narrowed := true }
def HistoryReplaysUptoSaid : Prop := historyReplaysUptoRow.holds Try.pinned (OpenSpec.upto historyReplaysSpec)

/-- 'berthshiftlaw.BerthChecks', WHERE WHAT IT READS IS OF BULK AT MOST 1048576: true; the input reads as it did. -/
def berthChecksUptoRow : OpenClaim := { program := "ytbhlpiomoookcaa", sum := "8517a29598bc5ef959f7c4adb0b828f8b0b0215c871f9b45d5405169c0874ee4", func := "berthshift/berthshiftlaw.BerthChecks", spec := "berthChecks", unfollowed := true, recurses := true, apart := false, narrowed := true }
def BerthChecksUptoSaid : Prop := berthChecksUptoRow.holds Try.pinned (OpenSpec.upto berthChecksSpec)

/-- 'berthshiftlaw.BerthServes', WHERE WHAT IT READS IS OF BULK AT MOST 1048576: true; the input reads as it did. -/
def berthServesUptoRow : OpenClaim := { program := "ytbhlpiomoookcaa", sum := "8517a29598bc5ef959f7c4adb0b828f8b0b0215c871f9b45d5405169c0874ee4", func := "berthshift/berthshiftlaw.BerthServes", spec := "berthServes", unfollowed := true, recurses := true, apart := false, narrowed := true }
def BerthServesUptoSaid : Prop := berthServesUptoRow.holds Try.pinned (OpenSpec.upto berthServesSpec)

/-- 'berthshiftlaw.BerthMakes', WHERE WHAT IT READS IS OF BULK AT MOST 1048576: true; the input reads as it did. -/
def berthMakesUptoRow : OpenClaim := { program := "ytbhlpiomoookcaa", sum := "8517a29598bc5ef959f7c4adb0b828f8b0b0215c871f9b45d5405169c0874ee4", func := "berthshift/berthshiftlaw.BerthMakes", spec := "berthMakes", unfollowed := true, recurses := true, apart := false, narrowed := true }
def BerthMakesUptoSaid : Prop := berthMakesUptoRow.holds Try.pinned (OpenSpec.upto berthMakesSpec)

/-- 'berthshiftlaw.BerthGoes', WHERE WHAT IT READS IS OF BULK AT MOST 1048576: true; the input reads as it did. -/
def berthGoesUptoRow : OpenClaim := { program := "ytbhlpiomoookcaa", sum := "8517a29598bc5ef959f7c4adb0b828f8b0b0215c871f9b45d5405169c0874ee4", func := "berthshift/berthshiftlaw.BerthGoes", spec := "berthGoes", unfollowed := true, recurses := true, apart := false, narrowed := true }
def BerthGoesUptoSaid : Prop := berthGoesUptoRow.holds Try.pinned (OpenSpec.upto berthGoesSpec)

/-- 'berthshiftlaw.BerthParts', WHERE WHAT IT READS IS OF BULK AT MOST 1048576: true; the input reads as it did. -/
def berthPartsUptoRow : OpenClaim := { program := "ytbhlpiomoookcaa", sum := "8517a29598bc5ef959f7c4adb0b828f8b0b0215c871f9b45d5405169c0874ee4", func := "berthshift/berthshiftlaw.BerthParts", spec := "berthParts", unfollowed := true, recurses := true, apart := false, narrowed := true }
def BerthPartsUptoSaid : Prop := berthPartsUptoRow.holds Try.pinned (OpenSpec.upto berthPartsSpec)

/-- 'berthshiftlaw.BerthForgets', WHERE WHAT IT READS IS OF BULK AT MOST 1048576: true; the input reads as it did. -/
def berthForgetsUptoRow : OpenClaim := { program := "ytbhlpiomoookcaa", sum := "8517a29598bc5ef959f7c4adb0b828f8b0b0215c871f9b45d5405169c0874ee4", func := "berthshift/berthshiftlaw.BerthForgets", spec := "berthForgets", unfollowed := true, recurses := true, apart := false, narrowed := true }
def BerthForgetsUptoSaid : Prop := berthForgetsUptoRow.holds Try.pinned (OpenSpec.upto berthForgetsSpec)

/-- 'berthshiftlaw.BerthWakes', WHERE WHAT IT READS IS OF BULK AT MOST 1048576: true; the input reads as it did. -/
def berthWakesUptoRow : OpenClaim := { program := "ytbhlpiomoookcaa", sum := "8517a29598bc5ef959f7c4adb0b828f8b0b0215c871f9b45d5405169c0874ee4", func := "berthshift/berthshiftlaw.BerthWakes", spec := "berthWakes", unfollowed := true, recurses := true, apart := false, narrowed := true }
def BerthWakesUptoSaid : Prop := berthWakesUptoRow.holds Try.pinned (OpenSpec.upto berthWakesSpec)

end Rows
end Go.Proofs.Ytbhlpiomoookcaa
