/-
  No cell of these rows narrows 'for every input' (looked for: loops, veiled, ifaces, maps, wideKeys, modest, calm, conditions, laid).
  DERIVED. THE GIVEN ROWS OF THIS SEAT. 12 by the template 'for every input the law returns true; each argument reads behind the call as it read before'; 0 by the template 'total and deterministic' (their statements: YtkeipknbcjkomabTotals.lean).
  GIVEN WITH THE SEED: the statements are not yours to turn. If you find one false, say at which input.
  Laid BY PROGRAM, IN A SANDBOX (cutbox-rows.mjs): the forced cells as the released guide's own fill.sh prints them over the translation 886150a053abb5ec… (all of the seat's roots in one cut). By AI agents, Wed Nov 11 2026. No macro, syntax, notation, axiom, sorry.
-/
import Derived.Test.YtkeipknbcjkomabChecked
import GoSem.Claim
import GoSem.ClaimJoined
import GoSem.ClaimMapViews
import Derived.JoinedTies
import Derived.KernelRfl
namespace Go.Proofs.Ytkeipknbcjkomab
/- THE CELL 'sum', in the pinned program and in every row, IS THE sha256 OF THE DUMP (.gsa) THAT YtkeipknbcjkomabProg.lean LOADS. Nothing in Lean hashes anything: it is a label: what it is worth is what the hold of that sum in a sandbox is worth. -/
noncomputable def Try.pinned : Pinned := { name := "ytkeipknbcjkomab", sum := "886150a053abb5ec84e40c3206abda37451a483da0fb09bd3ea2aeddbf4bc1ef", checked := Try.checked }
namespace Rows
def none {H : Type} : Left H := { results := [], args := [] }

/-- 'berthshiftlaw.DirectoryChecks': WHATEVER THE INPUT: true; the input reads as it did. -/
def directoryChecksSpec : ChangeSpec := { name := "directoryChecks", fn := fun _ => fun
  | [d] => { results := [.lit (.bool true)], args := [d] }
  | _ => none }
def directoryChecksRow : OpenClaim := { program := "ytkeipknbcjkomab", sum := "886150a053abb5ec84e40c3206abda37451a483da0fb09bd3ea2aeddbf4bc1ef", func := "berthshift/berthshiftlaw.DirectoryChecks", spec := "directoryChecks", apart := false }
def DirectoryChecksSaid : Prop := directoryChecksRow.holds Try.pinned (OpenSpec.ofChange directoryChecksSpec)

/-- ITS FALSE NEIGHBOUR: 'it returns false'. Refute it at one input. -/
def directoryChecksWrong : ChangeSpec := { name := "directoryChecks", fn := fun _ => fun
  | [d] => { results := [.lit (.bool false)], args := [d] }
  | _ => none }
def DirectoryChecksWrongFalsely : Prop := directoryChecksRow.holds Try.pinned (OpenSpec.ofChange directoryChecksWrong)

/-- 'berthshiftlaw.DirectoryNews': WHATEVER THE INPUT: true; the input reads as it did. -/
def directoryNewsSpec : ChangeSpec := { name := "directoryNews", fn := fun _ => fun
  | [] => { results := [.lit (.bool true)], args := [] }
  | _ => none }
def directoryNewsRow : OpenClaim := { program := "ytkeipknbcjkomab", sum := "886150a053abb5ec84e40c3206abda37451a483da0fb09bd3ea2aeddbf4bc1ef", func := "berthshift/berthshiftlaw.DirectoryNews", spec := "directoryNews", apart := false }
def DirectoryNewsSaid : Prop := directoryNewsRow.holds Try.pinned (OpenSpec.ofChange directoryNewsSpec)

/-- ITS FALSE NEIGHBOUR: 'it returns false'. Refute it at one input. -/
def directoryNewsWrong : ChangeSpec := { name := "directoryNews", fn := fun _ => fun
  | [] => { results := [.lit (.bool false)], args := [] }
  | _ => none }
def DirectoryNewsWrongFalsely : Prop := directoryNewsRow.holds Try.pinned (OpenSpec.ofChange directoryNewsWrong)

/-- 'berthshiftlaw.DirectoryWheres': WHATEVER THE INPUT: true; the input reads as it did. -/
def directoryWheresSpec : ChangeSpec := { name := "directoryWheres", fn := fun _ => fun
  | [d1, d2] => { results := [.lit (.bool true)], args := [d1, d2] }
  | _ => none }
def directoryWheresRow : OpenClaim := { program := "ytkeipknbcjkomab", sum := "886150a053abb5ec84e40c3206abda37451a483da0fb09bd3ea2aeddbf4bc1ef", func := "berthshift/berthshiftlaw.DirectoryWheres", spec := "directoryWheres", apart := false }
def DirectoryWheresSaid : Prop := directoryWheresRow.holds Try.pinned (OpenSpec.ofChange directoryWheresSpec)

/-- ITS FALSE NEIGHBOUR: 'it returns false'. Refute it at one input. -/
def directoryWheresWrong : ChangeSpec := { name := "directoryWheres", fn := fun _ => fun
  | [d1, d2] => { results := [.lit (.bool false)], args := [d1, d2] }
  | _ => none }
def DirectoryWheresWrongFalsely : Prop := directoryWheresRow.holds Try.pinned (OpenSpec.ofChange directoryWheresWrong)

/-- 'berthshiftlaw.DirectoryMakes': WHATEVER THE INPUT: true; the input reads as it did. -/
def directoryMakesSpec : ChangeSpec := { name := "directoryMakes", fn := fun _ => fun
  | [d1, d2, d3] => { results := [.lit (.bool true)], args := [d1, d2, d3] }
  | _ => none }
def directoryMakesRow : OpenClaim := { program := "ytkeipknbcjkomab", sum := "886150a053abb5ec84e40c3206abda37451a483da0fb09bd3ea2aeddbf4bc1ef", func := "berthshift/berthshiftlaw.DirectoryMakes", spec := "directoryMakes", apart := false }
def DirectoryMakesSaid : Prop := directoryMakesRow.holds Try.pinned (OpenSpec.ofChange directoryMakesSpec)

/-- ITS FALSE NEIGHBOUR: 'it returns false'. Refute it at one input. -/
def directoryMakesWrong : ChangeSpec := { name := "directoryMakes", fn := fun _ => fun
  | [d1, d2, d3] => { results := [.lit (.bool false)], args := [d1, d2, d3] }
  | _ => none }
def DirectoryMakesWrongFalsely : Prop := directoryMakesRow.holds Try.pinned (OpenSpec.ofChange directoryMakesWrong)

/-- 'berthshiftlaw.DirectoryFlips': WHATEVER THE INPUT: true; the input reads as it did. -/
def directoryFlipsSpec : ChangeSpec := { name := "directoryFlips", fn := fun _ => fun
  | [d1, d2, d3, d4] => { results := [.lit (.bool true)], args := [d1, d2, d3, d4] }
  | _ => none }
def directoryFlipsRow : OpenClaim := { program := "ytkeipknbcjkomab", sum := "886150a053abb5ec84e40c3206abda37451a483da0fb09bd3ea2aeddbf4bc1ef", func := "berthshift/berthshiftlaw.DirectoryFlips", spec := "directoryFlips", apart := false }
def DirectoryFlipsSaid : Prop := directoryFlipsRow.holds Try.pinned (OpenSpec.ofChange directoryFlipsSpec)

/-- ITS FALSE NEIGHBOUR: 'it returns false'. Refute it at one input. -/
def directoryFlipsWrong : ChangeSpec := { name := "directoryFlips", fn := fun _ => fun
  | [d1, d2, d3, d4] => { results := [.lit (.bool false)], args := [d1, d2, d3, d4] }
  | _ => none }
def DirectoryFlipsWrongFalsely : Prop := directoryFlipsRow.holds Try.pinned (OpenSpec.ofChange directoryFlipsWrong)

/-- 'berthshiftkeep.FlipOnce': WHATEVER THE INPUT: true; the input reads as it did. -/
def flipOnceSpec : ChangeSpec := { name := "flipOnce", fn := fun _ => fun
  | [d1, d2, d3, d4] => { results := [.lit (.bool true)], args := [d1, d2, d3, d4] }
  | _ => none }
def flipOnceRow : OpenClaim := { program := "ytkeipknbcjkomab", sum := "886150a053abb5ec84e40c3206abda37451a483da0fb09bd3ea2aeddbf4bc1ef", func := "berthshift/berthshiftkeep.FlipOnce", spec := "flipOnce", apart := false }
def FlipOnceSaid : Prop := flipOnceRow.holds Try.pinned (OpenSpec.ofChange flipOnceSpec)

/-- ITS FALSE NEIGHBOUR: 'it returns false'. Refute it at one input. -/
def flipOnceWrong : ChangeSpec := { name := "flipOnce", fn := fun _ => fun
  | [d1, d2, d3, d4] => { results := [.lit (.bool false)], args := [d1, d2, d3, d4] }
  | _ => none }
def FlipOnceWrongFalsely : Prop := flipOnceRow.holds Try.pinned (OpenSpec.ofChange flipOnceWrong)

/-- 'berthshiftkeep.FlipRises': WHATEVER THE INPUT: true; the input reads as it did. -/
def flipRisesSpec : ChangeSpec := { name := "flipRises", fn := fun _ => fun
  | [d1, d2] => { results := [.lit (.bool true)], args := [d1, d2] }
  | _ => none }
def flipRisesRow : OpenClaim := { program := "ytkeipknbcjkomab", sum := "886150a053abb5ec84e40c3206abda37451a483da0fb09bd3ea2aeddbf4bc1ef", func := "berthshift/berthshiftkeep.FlipRises", spec := "flipRises", apart := false }
def FlipRisesSaid : Prop := flipRisesRow.holds Try.pinned (OpenSpec.ofChange flipRisesSpec)

/-- ITS FALSE NEIGHBOUR: 'it returns false'. Refute it at one input. -/
def flipRisesWrong : ChangeSpec := { name := "flipRises", fn := fun _ => fun
  | [d1, d2] => { results := [.lit (.bool false)], args := [d1, d2] }
  | _ => none }
def FlipRisesWrongFalsely : Prop := flipRisesRow.holds Try.pinned (OpenSpec.ofChange flipRisesWrong)

/-- 'berthshiftkeep.DirectoryApart': WHATEVER THE INPUT: true; the input reads as it did. -/
def directoryApartSpec : ChangeSpec := { name := "directoryApart", fn := fun _ => fun
  | [d1, d2, d3] => { results := [.lit (.bool true)], args := [d1, d2, d3] }
  | _ => none }
def directoryApartRow : OpenClaim := { program := "ytkeipknbcjkomab", sum := "886150a053abb5ec84e40c3206abda37451a483da0fb09bd3ea2aeddbf4bc1ef", func := "berthshift/berthshiftkeep.DirectoryApart", spec := "directoryApart", apart := false }
def DirectoryApartSaid : Prop := directoryApartRow.holds Try.pinned (OpenSpec.ofChange directoryApartSpec)

/-- ITS FALSE NEIGHBOUR: 'it returns false'. Refute it at one input. -/
def directoryApartWrong : ChangeSpec := { name := "directoryApart", fn := fun _ => fun
  | [d1, d2, d3] => { results := [.lit (.bool false)], args := [d1, d2, d3] }
  | _ => none }
def DirectoryApartWrongFalsely : Prop := directoryApartRow.holds Try.pinned (OpenSpec.ofChange directoryApartWrong)

/-- 'berthshiftlaw.QueueDoes': WHATEVER THE INPUT: true; the input reads as it did. -/
def queueDoesSpec : ChangeSpec := { name := "queueDoes", fn := fun _ => fun
  | [d1, d2] => { results := [.lit (.bool true)], args := [d1, d2] }
  | _ => none }
def queueDoesRow : OpenClaim := { program := "ytkeipknbcjkomab", sum := "886150a053abb5ec84e40c3206abda37451a483da0fb09bd3ea2aeddbf4bc1ef", func := "berthshift/berthshiftlaw.QueueDoes", spec := "queueDoes", unfollowed := true, recurses := true, apart := false }
def QueueDoesSaid : Prop := queueDoesRow.holds Try.pinned (OpenSpec.ofChange queueDoesSpec)

/-- ITS FALSE NEIGHBOUR: 'it returns false'. Refute it at one input. -/
def queueDoesWrong : ChangeSpec := { name := "queueDoes", fn := fun _ => fun
  | [d1, d2] => { results := [.lit (.bool false)], args := [d1, d2] }
  | _ => none }
def QueueDoesWrongFalsely : Prop := queueDoesRow.holds Try.pinned (OpenSpec.ofChange queueDoesWrong)

/-- 'berthshiftlaw.HistoryReplays': WHATEVER THE INPUT: true; the input reads as it did. -/
def historyReplaysSpec : ChangeSpec := { name := "historyReplays", fn := fun _ => fun
  | [d] => { results := [.lit (.bool true)], args := [d] }
  | _ => none }
def historyReplaysRow : OpenClaim := { program := "ytkeipknbcjkomab", sum := "886150a053abb5ec84e40c3206abda37451a483da0fb09bd3ea2aeddbf4bc1ef", func := "berthshift/berthshiftlaw.HistoryReplays", spec := "historyReplays", unfollowed := true, recurses := true, apart := false }
def HistoryReplaysSaid : Prop := historyReplaysRow.holds Try.pinned (OpenSpec.ofChange historyReplaysSpec)

/-- ITS FALSE NEIGHBOUR: 'it returns false'. Refute it at one input. -/
def historyReplaysWrong : ChangeSpec := { name := "historyReplays", fn := fun _ => fun
  | [d] => { results := [.lit (.bool false)], args := [d] }
  | _ => none }
def HistoryReplaysWrongFalsely : Prop := historyReplaysRow.holds Try.pinned (OpenSpec.ofChange historyReplaysWrong)

/-- 'berthshiftlaw.HistoryAnswers': WHATEVER THE INPUT: true; the input reads as it did. -/
def historyAnswersSpec : ChangeSpec := { name := "historyAnswers", fn := fun _ => fun
  | [d] => { results := [.lit (.bool true)], args := [d] }
  | _ => none }
def historyAnswersRow : OpenClaim := { program := "ytkeipknbcjkomab", sum := "886150a053abb5ec84e40c3206abda37451a483da0fb09bd3ea2aeddbf4bc1ef", func := "berthshift/berthshiftlaw.HistoryAnswers", spec := "historyAnswers", unfollowed := true, recurses := true, apart := false }
def HistoryAnswersSaid : Prop := historyAnswersRow.holds Try.pinned (OpenSpec.ofChange historyAnswersSpec)

/-- ITS FALSE NEIGHBOUR: 'it returns false'. Refute it at one input. -/
def historyAnswersWrong : ChangeSpec := { name := "historyAnswers", fn := fun _ => fun
  | [d] => { results := [.lit (.bool false)], args := [d] }
  | _ => none }
def HistoryAnswersWrongFalsely : Prop := historyAnswersRow.holds Try.pinned (OpenSpec.ofChange historyAnswersWrong)

/-- 'berthshiftkeep.TapeKeeps': WHATEVER THE INPUT: true; the input reads as it did. -/
def tapeKeepsSpec : ChangeSpec := { name := "tapeKeeps", fn := fun _ => fun
  | [d1, d2, d3, d4, d5] => { results := [.lit (.bool true)], args := [d1, d2, d3, d4, d5] }
  | _ => none }
def tapeKeepsRow : OpenClaim := { program := "ytkeipknbcjkomab", sum := "886150a053abb5ec84e40c3206abda37451a483da0fb09bd3ea2aeddbf4bc1ef", func := "berthshift/berthshiftkeep.TapeKeeps", spec := "tapeKeeps", unfollowed := true, recurses := true, apart := false }
def TapeKeepsSaid : Prop := tapeKeepsRow.holds Try.pinned (OpenSpec.ofChange tapeKeepsSpec)

/-- ITS FALSE NEIGHBOUR: 'it returns false'. Refute it at one input. -/
def tapeKeepsWrong : ChangeSpec := { name := "tapeKeeps", fn := fun _ => fun
  | [d1, d2, d3, d4, d5] => { results := [.lit (.bool false)], args := [d1, d2, d3, d4, d5] }
  | _ => none }
def TapeKeepsWrongFalsely : Prop := tapeKeepsRow.holds Try.pinned (OpenSpec.ofChange tapeKeepsWrong)

/- THE SECOND FORM. 'bulk': how many values and letters a reading holds, each counted each time it is reached (what is shared counts as often as it is met; a slice's spare places count too). A statement '..UptoSaid' is the law's where the arguments, and the package variables that the reading takes, are together of bulk at most 1048576: NARROWER than '..Said'. Prove '..Said' where nothing that the law and all that it calls make is longer than what came in: it says more and counts as full. Else prove '..UptoSaid'. A law counts once. -/
mutual
def uptoBulk {H : Type} : DataW H → Nat
  | .lit (.string bytes) => bytes.length + 1
  | .lit _ => 1
  | .nil => 1
  | .ptr d => uptoBulk d + 1
  | .slice elems spare => uptoBulkAll elems + uptoBulkAll spare + 1
  | .agg parts => uptoBulkAll parts + 1
  | .iface _ d => uptoBulk d + 1
  | .map entries => uptoBulkEntries entries + 1
  | .held _ => 1
def uptoBulkAll {H : Type} : List (DataW H) → Nat
  | [] => 0
  | d :: r => uptoBulk d + uptoBulkAll r
def uptoBulkEntries {H : Type} : List (Lit × DataW H) → Nat
  | [] => 0
  | x :: r => uptoBulkEntry x + uptoBulkEntries r
def uptoBulkEntry {H : Type} : Lit × DataW H → Nat
  | (.string bytes, d) => bytes.length + uptoBulk d + 1
  | (_, d) => uptoBulk d + 1
 end
def uptoSmall : (H : Type) → List (DataW H) → Bool := fun _ ds => decide (uptoBulkAll ds ≤ 1048576)
def OpenSpec.upto (s : _root_.Go.ChangeSpec) : _root_.Go.OpenSpec := { _root_.Go.OpenSpec.ofChange s with cond := some uptoSmall }

/-- 'berthshiftlaw.DirectoryChecks', WHERE WHAT IT READS IS OF BULK AT MOST 1048576: true; the input reads as it did. -/
def directoryChecksUptoRow : OpenClaim := { program := "ytkeipknbcjkomab", sum := "886150a053abb5ec84e40c3206abda37451a483da0fb09bd3ea2aeddbf4bc1ef", func := "berthshift/berthshiftlaw.DirectoryChecks", spec := "directoryChecks", apart := false, narrowed := true }
def DirectoryChecksUptoSaid : Prop := directoryChecksUptoRow.holds Try.pinned (OpenSpec.upto directoryChecksSpec)

/-- 'berthshiftlaw.DirectoryNews', WHERE WHAT IT READS IS OF BULK AT MOST 1048576: true; the input reads as it did. -/
def directoryNewsUptoRow : OpenClaim := { program := "ytkeipknbcjkomab", sum := "886150a053abb5ec84e40c3206abda37451a483da0fb09bd3ea2aeddbf4bc1ef", func := "berthshift/berthshiftlaw.DirectoryNews", spec := "directoryNews", apart := false, narrowed := true }
def DirectoryNewsUptoSaid : Prop := directoryNewsUptoRow.holds Try.pinned (OpenSpec.upto directoryNewsSpec)

/-- 'berthshiftlaw.DirectoryWheres', WHERE WHAT IT READS IS OF BULK AT MOST 1048576: true; the input reads as it did. -/
def directoryWheresUptoRow : OpenClaim := { program := "ytkeipknbcjkomab", sum := "886150a053abb5ec84e40c3206abda37451a483da0fb09bd3ea2aeddbf4bc1ef", func := "berthshift/berthshiftlaw.DirectoryWheres", spec := "directoryWheres", apart := false, narrowed := true }
def DirectoryWheresUptoSaid : Prop := directoryWheresUptoRow.holds Try.pinned (OpenSpec.upto directoryWheresSpec)

/-- 'berthshiftlaw.DirectoryMakes', WHERE WHAT IT READS IS OF BULK AT MOST 1048576: true; the input reads as it did. -/
def directoryMakesUptoRow : OpenClaim := { program := "ytkeipknbcjkomab", sum := "886150a053abb5ec84e40c3206abda37451a483da0fb09bd3ea2aeddbf4bc1ef", func := "berthshift/berthshiftlaw.DirectoryMakes", spec := "directoryMakes", apart := false, narrowed := true }
def DirectoryMakesUptoSaid : Prop := directoryMakesUptoRow.holds Try.pinned (OpenSpec.upto directoryMakesSpec)

/-- 'berthshiftlaw.DirectoryFlips', WHERE WHAT IT READS IS OF BULK AT MOST 1048576: true; the input reads as it did. -/
def directoryFlipsUptoRow : OpenClaim := { program := "ytkeipknbcjkomab", sum := "886150a053abb5ec84e40c3206abda37451a483da0fb09bd3ea2aeddbf4bc1ef", func := "berthshift/berthshiftlaw.DirectoryFlips", spec := "directoryFlips", apart := false, narrowed := true }
def DirectoryFlipsUptoSaid : Prop := directoryFlipsUptoRow.holds Try.pinned (OpenSpec.upto directoryFlipsSpec)

/-- 'berthshiftkeep.FlipOnce', WHERE WHAT IT READS IS OF BULK AT MOST 1048576: true; the input reads as it did. -/
def flipOnceUptoRow : OpenClaim := { program := "ytkeipknbcjkomab", sum := "886150a053abb5ec84e40c3206abda37451a483da0fb09bd3ea2aeddbf4bc1ef", func := "berthshift/berthshiftkeep.FlipOnce", spec := "flipOnce", apart := false, narrowed := true }
def FlipOnceUptoSaid : Prop := flipOnceUptoRow.holds Try.pinned (OpenSpec.upto flipOnceSpec)

/-- 'berthshiftkeep.FlipRises', WHERE WHAT IT READS IS OF BULK AT MOST 1048576: true; the input reads as it did. -/
def flipRisesUptoRow : OpenClaim := { program := "ytkeipknbcjkomab", sum := "886150a053abb5ec84e40c3206abda37451a483da0fb09bd3ea2aeddbf4bc1ef", func := "berthshift/berthshiftkeep.FlipRises", spec := "flipRises", apart := false, narrowed := true }
def FlipRisesUptoSaid : Prop := flipRisesUptoRow.holds Try.pinned (OpenSpec.upto flipRisesSpec)

/-- 'berthshiftkeep.DirectoryApart', WHERE WHAT IT READS IS OF BULK AT MOST 1048576: true; the input reads as it did. -/
def directoryApartUptoRow : OpenClaim := { program := "ytkeipknbcjkomab", sum := "886150a053abb5ec84e40c3206abda37451a483da0fb09bd3ea2aeddbf4bc1ef", func := "berthshift/berthshiftkeep.DirectoryApart", spec := "directoryApart", apart := false, narrowed := true }
def DirectoryApartUptoSaid : Prop := directoryApartUptoRow.holds Try.pinned (OpenSpec.upto directoryApartSpec)

/-- 'berthshiftlaw.QueueDoes', WHERE WHAT IT READS IS OF BULK AT MOST 1048576: true; the input reads as it did. -/
def queueDoesUptoRow : OpenClaim := { program := "ytkeipknbcjkomab", sum := "886150a053abb5ec84e40c3206abda37451a483da0fb09bd3ea2aeddbf4bc1ef", func := "berthshift/berthshiftlaw.QueueDoes", spec := "queueDoes", unfollowed := true, recurses := true, apart := false, narrowed := true }
def QueueDoesUptoSaid : Prop := queueDoesUptoRow.holds Try.pinned (OpenSpec.upto queueDoesSpec)

/-- 'berthshiftlaw.HistoryReplays', WHERE WHAT IT READS IS OF BULK AT MOST 1048576: true; the input reads as it did. -/
def historyReplaysUptoRow : OpenClaim := { program := "ytkeipknbcjkomab", sum := "886150a053abb5ec84e40c3206abda37451a483da0fb09bd3ea2aeddbf4bc1ef", func := "berthshift/berthshiftlaw.HistoryReplays", spec := "historyReplays", unfollowed := true, recurses := true, apart := false, narrowed := true }
def HistoryReplaysUptoSaid : Prop := historyReplaysUptoRow.holds Try.pinned (OpenSpec.upto historyReplaysSpec)

/-- 'berthshiftlaw.HistoryAnswers', WHERE WHAT IT READS IS OF BULK AT MOST 1048576: true; the input reads as it did. -/
def historyAnswersUptoRow : OpenClaim := { program := "ytkeipknbcjkomab", sum := "886150a053abb5ec84e40c3206abda37451a483da0fb09bd3ea2aeddbf4bc1ef", func := "berthshift/berthshiftlaw.HistoryAnswers", spec := "historyAnswers", unfollowed := true, recurses := true, apart := false, narrowed := true }
def HistoryAnswersUptoSaid : Prop := historyAnswersUptoRow.holds Try.pinned (OpenSpec.upto historyAnswersSpec)

/-- 'berthshiftkeep.TapeKeeps', WHERE WHAT IT READS IS OF BULK AT MOST 1048576: true; the input reads as it did. -/
def tapeKeepsUptoRow : OpenClaim := { program := "ytkeipknbcjkomab", sum := "886150a053abb5ec84e40c3206abda37451a483da0fb09bd3ea2aeddbf4bc1ef", func := "berthshift/berthshiftkeep.TapeKeeps", spec := "tapeKeeps", unfollowed := true, recurses := true, apart := false, narrowed := true }
def TapeKeepsUptoSaid : Prop := tapeKeepsUptoRow.holds Try.pinned (OpenSpec.upto tapeKeepsSpec)

end Rows
end Go.Proofs.Ytkeipknbcjkomab
