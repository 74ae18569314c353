/-
  No cell of these rows narrows 'for every input' (looked for: loops, veiled, ifaces, maps, wideKeys, modest, calm, conditions, laid).
  DERIVED. THE GIVEN ROWS OF THIS SEAT. 6 by the template 'for every input the law returns true; each argument reads behind the call as it read before'; 0 by the template 'total and deterministic' (their statements: YtkimbkmmngjapabTotals.lean).
  GIVEN WITH THE SEED: the statements are not yours to turn. If you find one false, say at which input.
  Laid BY PROGRAM, IN A SANDBOX (cutbox-rows.mjs): the forced cells as the released guide's own fill.sh prints them over the translation 5a715e5ffc06bac9… (all of the seat's roots in one cut). By AI agents, Wed Nov 11 2026. No macro, syntax, notation, axiom, sorry.
-/
import Derived.Test.YtkimbkmmngjapabChecked
import GoSem.Claim
import GoSem.ClaimJoined
import GoSem.ClaimMapViews
import Derived.JoinedTies
import Derived.KernelRfl
namespace Go.Proofs.Ytkimbkmmngjapab
/- THE CELL 'sum', in the pinned program and in every row, IS THE sha256 OF THE DUMP (.gsa) THAT YtkimbkmmngjapabProg.lean LOADS. Nothing in Lean hashes anything: it is a label: what it is worth is what the hold of that sum in a sandbox is worth. -/
noncomputable def Try.pinned : Pinned := { name := "ytkimbkmmngjapab", sum := "5a715e5ffc06bac98d6e3b63e5d557a18b7b9495d850db98793375b884e1a9f2", checked := Try.checked }
namespace Rows
def none {H : Type} : Left H := { results := [], args := [] }

/-- 'berthshiftkeep.QueueAcked': WHATEVER THE INPUT: true; the input reads as it did. -/
def queueAckedSpec : ChangeSpec := { name := "queueAcked", fn := fun _ => fun
  | [d1, d2] => { results := [.lit (.bool true)], args := [d1, d2] }
  | _ => none }
def queueAckedRow : OpenClaim := { program := "ytkimbkmmngjapab", sum := "5a715e5ffc06bac98d6e3b63e5d557a18b7b9495d850db98793375b884e1a9f2", func := "berthshift/berthshiftkeep.QueueAcked", spec := "queueAcked", unfollowed := true, recurses := true, apart := false }
def QueueAckedSaid : Prop := queueAckedRow.holds Try.pinned (OpenSpec.ofChange queueAckedSpec)

/-- ITS FALSE NEIGHBOUR: 'it returns false'. Refute it at one input. -/
def queueAckedWrong : ChangeSpec := { name := "queueAcked", fn := fun _ => fun
  | [d1, d2] => { results := [.lit (.bool false)], args := [d1, d2] }
  | _ => none }
def QueueAckedWrongFalsely : Prop := queueAckedRow.holds Try.pinned (OpenSpec.ofChange queueAckedWrong)

/-- 'berthshiftkeep.QueueApart': WHATEVER THE INPUT: true; the input reads as it did. -/
def queueApartSpec : ChangeSpec := { name := "queueApart", fn := fun _ => fun
  | [d1, d2] => { results := [.lit (.bool true)], args := [d1, d2] }
  | _ => none }
def queueApartRow : OpenClaim := { program := "ytkimbkmmngjapab", sum := "5a715e5ffc06bac98d6e3b63e5d557a18b7b9495d850db98793375b884e1a9f2", func := "berthshift/berthshiftkeep.QueueApart", spec := "queueApart", unfollowed := true, recurses := true, apart := false }
def QueueApartSaid : Prop := queueApartRow.holds Try.pinned (OpenSpec.ofChange queueApartSpec)

/-- ITS FALSE NEIGHBOUR: 'it returns false'. Refute it at one input. -/
def queueApartWrong : ChangeSpec := { name := "queueApart", fn := fun _ => fun
  | [d1, d2] => { results := [.lit (.bool false)], args := [d1, d2] }
  | _ => none }
def QueueApartWrongFalsely : Prop := queueApartRow.holds Try.pinned (OpenSpec.ofChange queueApartWrong)

/-- 'berthshiftkeep.QueueEmpty': WHATEVER THE INPUT: true; the input reads as it did. -/
def queueEmptySpec : ChangeSpec := { name := "queueEmpty", fn := fun _ => fun
  | [d] => { results := [.lit (.bool true)], args := [d] }
  | _ => none }
def queueEmptyRow : OpenClaim := { program := "ytkimbkmmngjapab", sum := "5a715e5ffc06bac98d6e3b63e5d557a18b7b9495d850db98793375b884e1a9f2", func := "berthshift/berthshiftkeep.QueueEmpty", spec := "queueEmpty", unfollowed := true, recurses := true, apart := false }
def QueueEmptySaid : Prop := queueEmptyRow.holds Try.pinned (OpenSpec.ofChange queueEmptySpec)

/-- ITS FALSE NEIGHBOUR: 'it returns false'. Refute it at one input. -/
def queueEmptyWrong : ChangeSpec := { name := "queueEmpty", fn := fun _ => fun
  | [d] => { results := [.lit (.bool false)], args := [d] }
  | _ => none }
def QueueEmptyWrongFalsely : Prop := queueEmptyRow.holds Try.pinned (OpenSpec.ofChange queueEmptyWrong)

/-- 'berthshiftlaw.HistoryReplays': WHATEVER THE INPUT: true; the input reads as it did. -/
def historyReplaysSpec : ChangeSpec := { name := "historyReplays", fn := fun _ => fun
  | [d] => { results := [.lit (.bool true)], args := [d] }
  | _ => none }
def historyReplaysRow : OpenClaim := { program := "ytkimbkmmngjapab", sum := "5a715e5ffc06bac98d6e3b63e5d557a18b7b9495d850db98793375b884e1a9f2", func := "berthshift/berthshiftlaw.HistoryReplays", spec := "historyReplays", unfollowed := true, recurses := true, apart := false }
def HistoryReplaysSaid : Prop := historyReplaysRow.holds Try.pinned (OpenSpec.ofChange historyReplaysSpec)

/-- ITS FALSE NEIGHBOUR: 'it returns false'. Refute it at one input. -/
def historyReplaysWrong : ChangeSpec := { name := "historyReplays", fn := fun _ => fun
  | [d] => { results := [.lit (.bool false)], args := [d] }
  | _ => none }
def HistoryReplaysWrongFalsely : Prop := historyReplaysRow.holds Try.pinned (OpenSpec.ofChange historyReplaysWrong)

/-- 'berthshiftlaw.HistoryAnswers': WHATEVER THE INPUT: true; the input reads as it did. -/
def historyAnswersSpec : ChangeSpec := { name := "historyAnswers", fn := fun _ => fun
  | [d] => { results := [.lit (.bool true)], args := [d] }
  | _ => none }
def historyAnswersRow : OpenClaim := { program := "ytkimbkmmngjapab", sum := "5a715e5ffc06bac98d6e3b63e5d557a18b7b9495d850db98793375b884e1a9f2", func := "berthshift/berthshiftlaw.HistoryAnswers", spec := "historyAnswers", unfollowed := true, recurses := true, apart := false }
def HistoryAnswersSaid : Prop := historyAnswersRow.holds Try.pinned (OpenSpec.ofChange historyAnswersSpec)

/-- ITS FALSE NEIGHBOUR: 'it returns false'. Refute it at one input. -/
def historyAnswersWrong : ChangeSpec := { name := "historyAnswers", fn := fun _ => fun
  | [d] => { results := [.lit (.bool false)], args := [d] }
  | _ => none }
def HistoryAnswersWrongFalsely : Prop := historyAnswersRow.holds Try.pinned (OpenSpec.ofChange historyAnswersWrong)

/-- 'berthshiftlaw.HistoryCommons': WHATEVER THE INPUT: true; the input reads as it did. -/
def historyCommonsSpec : ChangeSpec := { name := "historyCommons", fn := fun _ => fun
  | [d1, d2] => { results := [.lit (.bool true)], args := [d1, d2] }
  | _ => none }
def historyCommonsRow : OpenClaim := { program := "ytkimbkmmngjapab", sum := "5a715e5ffc06bac98d6e3b63e5d557a18b7b9495d850db98793375b884e1a9f2", func := "berthshift/berthshiftlaw.HistoryCommons", spec := "historyCommons", apart := false }
def HistoryCommonsSaid : Prop := historyCommonsRow.holds Try.pinned (OpenSpec.ofChange historyCommonsSpec)

/-- ITS FALSE NEIGHBOUR: 'it returns false'. Refute it at one input. -/
def historyCommonsWrong : ChangeSpec := { name := "historyCommons", fn := fun _ => fun
  | [d1, d2] => { results := [.lit (.bool false)], args := [d1, d2] }
  | _ => none }
def HistoryCommonsWrongFalsely : Prop := historyCommonsRow.holds Try.pinned (OpenSpec.ofChange historyCommonsWrong)

/- THE SECOND FORM. 'bulk': how many values and letters a reading holds, each counted each time it is reached (what is shared counts as often as it is met; a slice's spare places count too). A statement '..UptoSaid' is the law's where the arguments, and the package variables that the reading takes, are together of bulk at most 1048576: NARROWER than '..Said'. Prove '..Said' where nothing that the law and all that it calls make is longer than what came in: it says more and counts as full. Else prove '..UptoSaid'. A law counts once. -/
mutual
def uptoBulk {H : Type} : DataW H → Nat
  | .lit (.string bytes) => bytes.length + 1
  | .lit _ => 1
  | .nil => 1
  | .ptr d => uptoBulk d + 1
  | .slice elems spare => uptoBulkAll elems + uptoBulkAll spare + 1
  | .agg parts => uptoBulkAll parts + 1
  | .iface _ d => uptoBulk d + 1
  | .map entries => uptoBulkEntries entries + 1
  | .held _ => 1
def uptoBulkAll {H : Type} : List (DataW H) → Nat
  | [] => 0
  | d :: r => uptoBulk d + uptoBulkAll r
def uptoBulkEntries {H : Type} : List (Lit × DataW H) → Nat
  | [] => 0
  | x :: r => uptoBulkEntry x + uptoBulkEntries r
def uptoBulkEntry {H : Type} : Lit × DataW H → Nat
  | (.string bytes, d) => bytes.length + uptoBulk d + 1
  | (_, d) => uptoBulk d + 1
 end
def uptoSmall : (H : Type) → List (DataW H) → Bool := fun _ ds => decide (uptoBulkAll ds ≤ 1048576)
def OpenSpec.upto (s : _root_.Go.ChangeSpec) : _root_.Go.OpenSpec := { _root_.Go.OpenSpec.ofChange s with cond := some uptoSmall }

/-- 'berthshiftkeep.QueueAcked', WHERE WHAT IT READS IS OF BULK AT MOST 1048576: true; the input reads as it did. -/
def queueAckedUptoRow : OpenClaim := { program := "ytkimbkmmngjapab", sum := "5a715e5ffc06bac98d6e3b63e5d557a18b7b9495d850db98793375b884e1a9f2", func := "berthshift/berthshiftkeep.QueueAcked", spec := "queueAcked", unfollowed := true, recurses := true, apart := false, narrowed := true }
def QueueAckedUptoSaid : Prop := queueAckedUptoRow.holds Try.pinned (OpenSpec.upto queueAckedSpec)

/-- 'berthshiftkeep.QueueApart', WHERE WHAT IT READS IS OF BULK AT MOST 1048576: true; the input reads as it did. -/
def queueApartUptoRow : OpenClaim := { program := "ytkimbkmmngjapab", sum := "5a715e5ffc06bac98d6e3b63e5d557a18b7b9495d850db98793375b884e1a9f2", func := "berthshift/berthshiftkeep.QueueApart", spec := "queueApart", unfollowed := true, recurses := true, apart := false, narrowed := true }
def QueueApartUptoSaid : Prop := queueApartUptoRow.holds Try.pinned (OpenSpec.upto queueApartSpec)

/-- 'berthshiftkeep.QueueEmpty', WHERE WHAT IT READS IS OF BULK AT MOST 1048576: true; the input reads as it did. -/
def queueEmptyUptoRow : OpenClaim := { program := "ytkimbkmmngjapab", sum := "5a715e5ffc06bac98d6e3b63e5d557a18b7b9495d850db98793375b884e1a9f2", func := "berthshift/berthshiftkeep.QueueEmpty", spec := "queueEmpty", unfollowed := true, recurses := true, apart := false, narrowed := true }
def QueueEmptyUptoSaid : Prop := queueEmptyUptoRow.holds Try.pinned (OpenSpec.upto queueEmptySpec)

/-- 'berthshiftlaw.HistoryReplays', WHERE WHAT IT READS IS OF BULK AT MOST 1048576: true; the input reads as it did. -/
def historyReplaysUptoRow : OpenClaim := { program := "ytkimbkmmngjapab", sum := "5a715e5ffc06bac98d6e3b63e5d557a18b7b9495d850db98793375b884e1a9f2", func := "berthshift/berthshiftlaw.HistoryReplays", spec := "historyReplays", unfollowed := true, recurses := true, apart := false, narrowed := true }
def HistoryReplaysUptoSaid : Prop := historyReplaysUptoRow.holds Try.pinned (OpenSpec.upto historyReplaysSpec)

/-- 'berthshiftlaw.HistoryAnswers', WHERE WHAT IT READS IS OF BULK AT MOST 1048576: true; the input reads as it did. -/
def historyAnswersUptoRow : OpenClaim := { program := "ytkimbkmmngjapab", sum := "5a715e5ffc06bac98d6e3b63e5d557a18b7b9495d850db98793375b884e1a9f2", func := "berthshift/berthshiftlaw.HistoryAnswers", spec := "historyAnswers", unfollowed := true, recurses := true, apart := false, narrowed := true }
def HistoryAnswersUptoSaid : Prop := historyAnswersUptoRow.holds Try.pinned (OpenSpec.upto historyAnswersSpec)

/-- 'berthshiftlaw.HistoryCommons', WHERE WHAT IT READS IS OF BULK AT MOST 1048576: true; the input reads as it did. -/
def historyCommonsUptoRow : OpenClaim := { program := "ytkimbkmmngjapab", sum := "5a715e5ffc06bac98d6e3b63e5d557a18b7b9495d850db98793375b884e1a9f2", func := "berthshift/berthshiftlaw.HistoryCommons", spec := "historyCommons", apart := false, narrowed := true }
def HistoryCommonsUptoSaid : Prop := historyCommonsUptoRow.holds Try.pinned (OpenSpec.upto historyCommonsSpec)

end Rows
end Go.Proofs.Ytkimbkmmngjapab
