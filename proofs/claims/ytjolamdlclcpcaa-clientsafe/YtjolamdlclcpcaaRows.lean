/-
  No cell of these rows narrows 'for every input' (looked for: loops, veiled, ifaces, maps, wideKeys, modest, calm, conditions, laid).
  DERIVED. THE GIVEN ROWS OF THIS SEAT. 10 by the template 'for every input the law returns true; each argument reads behind the call as it read before'; 0 by the template 'total and deterministic' (their statements: YtjolamdlclcpcaaTotals.lean).
  GIVEN WITH THE SEED: the statements are not yours to turn. If you find one false, say at which input.
  Laid BY PROGRAM, IN A SANDBOX (cutbox-rows.mjs): the forced cells as the released guide's own fill.sh prints them over the translation 165f1b24812c1075… (all of the seat's roots in one cut). By AI agents, Wed Nov 11 2026. No macro, syntax, notation, axiom, sorry.
-/
import Derived.Test.YtjolamdlclcpcaaChecked
import GoSem.Claim
import GoSem.ClaimJoined
import GoSem.ClaimMapViews
import Derived.JoinedTies
import Derived.KernelRfl
namespace Go.Proofs.Ytjolamdlclcpcaa
/- THE CELL 'sum', in the pinned program and in every row, IS THE sha256 OF THE DUMP (.gsa) THAT YtjolamdlclcpcaaProg.lean LOADS. Nothing in Lean hashes anything: it is a label: what it is worth is what the hold of that sum in a sandbox is worth. -/
noncomputable def Try.pinned : Pinned := { name := "ytjolamdlclcpcaa", sum := "165f1b24812c1075dbcc7917796e66b12364d026134f5d1b1fa1e578a5694fc9", checked := Try.checked }
namespace Rows
def none {H : Type} : Left H := { results := [], args := [] }

/-- 'berthshiftlaw.ClientChecks': WHATEVER THE INPUT: true; the input reads as it did. -/
def clientChecksSpec : ChangeSpec := { name := "clientChecks", fn := fun _ => fun
  | [d] => { results := [.lit (.bool true)], args := [d] }
  | _ => none }
def clientChecksRow : OpenClaim := { program := "ytjolamdlclcpcaa", sum := "165f1b24812c1075dbcc7917796e66b12364d026134f5d1b1fa1e578a5694fc9", func := "berthshift/berthshiftlaw.ClientChecks", spec := "clientChecks", apart := false }
def ClientChecksSaid : Prop := clientChecksRow.holds Try.pinned (OpenSpec.ofChange clientChecksSpec)

/-- ITS FALSE NEIGHBOUR: 'it returns false'. Refute it at one input. -/
def clientChecksWrong : ChangeSpec := { name := "clientChecks", fn := fun _ => fun
  | [d] => { results := [.lit (.bool false)], args := [d] }
  | _ => none }
def ClientChecksWrongFalsely : Prop := clientChecksRow.holds Try.pinned (OpenSpec.ofChange clientChecksWrong)

/-- 'berthshiftlaw.ClientNews': WHATEVER THE INPUT: true; the input reads as it did. -/
def clientNewsSpec : ChangeSpec := { name := "clientNews", fn := fun _ => fun
  | [d] => { results := [.lit (.bool true)], args := [d] }
  | _ => none }
def clientNewsRow : OpenClaim := { program := "ytjolamdlclcpcaa", sum := "165f1b24812c1075dbcc7917796e66b12364d026134f5d1b1fa1e578a5694fc9", func := "berthshift/berthshiftlaw.ClientNews", spec := "clientNews", apart := false }
def ClientNewsSaid : Prop := clientNewsRow.holds Try.pinned (OpenSpec.ofChange clientNewsSpec)

/-- ITS FALSE NEIGHBOUR: 'it returns false'. Refute it at one input. -/
def clientNewsWrong : ChangeSpec := { name := "clientNews", fn := fun _ => fun
  | [d] => { results := [.lit (.bool false)], args := [d] }
  | _ => none }
def ClientNewsWrongFalsely : Prop := clientNewsRow.holds Try.pinned (OpenSpec.ofChange clientNewsWrong)

/-- 'berthshiftlaw.ClientSends': WHATEVER THE INPUT: true; the input reads as it did. -/
def clientSendsSpec : ChangeSpec := { name := "clientSends", fn := fun _ => fun
  | [d1, d2] => { results := [.lit (.bool true)], args := [d1, d2] }
  | _ => none }
def clientSendsRow : OpenClaim := { program := "ytjolamdlclcpcaa", sum := "165f1b24812c1075dbcc7917796e66b12364d026134f5d1b1fa1e578a5694fc9", func := "berthshift/berthshiftlaw.ClientSends", spec := "clientSends", unfollowed := true, recurses := true, apart := false }
def ClientSendsSaid : Prop := clientSendsRow.holds Try.pinned (OpenSpec.ofChange clientSendsSpec)

/-- ITS FALSE NEIGHBOUR: 'it returns false'. Refute it at one input. -/
def clientSendsWrong : ChangeSpec := { name := "clientSends", fn := fun _ => fun
  | [d1, d2] => { results := [.lit (.bool false)], args := [d1, d2] }
  | _ => none }
def ClientSendsWrongFalsely : Prop := clientSendsRow.holds Try.pinned (OpenSpec.ofChange clientSendsWrong)

/-- 'berthshiftlaw.ClientDones': WHATEVER THE INPUT: true; the input reads as it did. -/
def clientDonesSpec : ChangeSpec := { name := "clientDones", fn := fun _ => fun
  | [d1, d2] => { results := [.lit (.bool true)], args := [d1, d2] }
  | _ => none }
def clientDonesRow : OpenClaim := { program := "ytjolamdlclcpcaa", sum := "165f1b24812c1075dbcc7917796e66b12364d026134f5d1b1fa1e578a5694fc9", func := "berthshift/berthshiftlaw.ClientDones", spec := "clientDones", unfollowed := true, recurses := true, apart := false }
def ClientDonesSaid : Prop := clientDonesRow.holds Try.pinned (OpenSpec.ofChange clientDonesSpec)

/-- ITS FALSE NEIGHBOUR: 'it returns false'. Refute it at one input. -/
def clientDonesWrong : ChangeSpec := { name := "clientDones", fn := fun _ => fun
  | [d1, d2] => { results := [.lit (.bool false)], args := [d1, d2] }
  | _ => none }
def ClientDonesWrongFalsely : Prop := clientDonesRow.holds Try.pinned (OpenSpec.ofChange clientDonesWrong)

/-- 'berthshiftlaw.ClientLearns': WHATEVER THE INPUT: true; the input reads as it did. -/
def clientLearnsSpec : ChangeSpec := { name := "clientLearns", fn := fun _ => fun
  | [d1, d2, d3] => { results := [.lit (.bool true)], args := [d1, d2, d3] }
  | _ => none }
def clientLearnsRow : OpenClaim := { program := "ytjolamdlclcpcaa", sum := "165f1b24812c1075dbcc7917796e66b12364d026134f5d1b1fa1e578a5694fc9", func := "berthshift/berthshiftlaw.ClientLearns", spec := "clientLearns", apart := false }
def ClientLearnsSaid : Prop := clientLearnsRow.holds Try.pinned (OpenSpec.ofChange clientLearnsSpec)

/-- ITS FALSE NEIGHBOUR: 'it returns false'. Refute it at one input. -/
def clientLearnsWrong : ChangeSpec := { name := "clientLearns", fn := fun _ => fun
  | [d1, d2, d3] => { results := [.lit (.bool false)], args := [d1, d2, d3] }
  | _ => none }
def ClientLearnsWrongFalsely : Prop := clientLearnsRow.holds Try.pinned (OpenSpec.ofChange clientLearnsWrong)

/-- 'berthshiftlaw.ClientAsks': WHATEVER THE INPUT: true; the input reads as it did. -/
def clientAsksSpec : ChangeSpec := { name := "clientAsks", fn := fun _ => fun
  | [d1, d2] => { results := [.lit (.bool true)], args := [d1, d2] }
  | _ => none }
def clientAsksRow : OpenClaim := { program := "ytjolamdlclcpcaa", sum := "165f1b24812c1075dbcc7917796e66b12364d026134f5d1b1fa1e578a5694fc9", func := "berthshift/berthshiftlaw.ClientAsks", spec := "clientAsks", apart := false }
def ClientAsksSaid : Prop := clientAsksRow.holds Try.pinned (OpenSpec.ofChange clientAsksSpec)

/-- ITS FALSE NEIGHBOUR: 'it returns false'. Refute it at one input. -/
def clientAsksWrong : ChangeSpec := { name := "clientAsks", fn := fun _ => fun
  | [d1, d2] => { results := [.lit (.bool false)], args := [d1, d2] }
  | _ => none }
def ClientAsksWrongFalsely : Prop := clientAsksRow.holds Try.pinned (OpenSpec.ofChange clientAsksWrong)

/-- 'berthshiftkeep.ClientSafe': WHATEVER THE INPUT: true; the input reads as it did. -/
def clientSafeSpec : ChangeSpec := { name := "clientSafe", fn := fun _ => fun
  | [d] => { results := [.lit (.bool true)], args := [d] }
  | _ => none }
def clientSafeRow : OpenClaim := { program := "ytjolamdlclcpcaa", sum := "165f1b24812c1075dbcc7917796e66b12364d026134f5d1b1fa1e578a5694fc9", func := "berthshift/berthshiftkeep.ClientSafe", spec := "clientSafe", unfollowed := true, recurses := true, apart := false }
def ClientSafeSaid : Prop := clientSafeRow.holds Try.pinned (OpenSpec.ofChange clientSafeSpec)

/-- ITS FALSE NEIGHBOUR: 'it returns false'. Refute it at one input. -/
def clientSafeWrong : ChangeSpec := { name := "clientSafe", fn := fun _ => fun
  | [d] => { results := [.lit (.bool false)], args := [d] }
  | _ => none }
def ClientSafeWrongFalsely : Prop := clientSafeRow.holds Try.pinned (OpenSpec.ofChange clientSafeWrong)

/-- 'berthshiftkeep.ClientWaits': WHATEVER THE INPUT: true; the input reads as it did. -/
def clientWaitsSpec : ChangeSpec := { name := "clientWaits", fn := fun _ => fun
  | [d1, d2, d3] => { results := [.lit (.bool true)], args := [d1, d2, d3] }
  | _ => none }
def clientWaitsRow : OpenClaim := { program := "ytjolamdlclcpcaa", sum := "165f1b24812c1075dbcc7917796e66b12364d026134f5d1b1fa1e578a5694fc9", func := "berthshift/berthshiftkeep.ClientWaits", spec := "clientWaits", unfollowed := true, recurses := true, apart := false }
def ClientWaitsSaid : Prop := clientWaitsRow.holds Try.pinned (OpenSpec.ofChange clientWaitsSpec)

/-- ITS FALSE NEIGHBOUR: 'it returns false'. Refute it at one input. -/
def clientWaitsWrong : ChangeSpec := { name := "clientWaits", fn := fun _ => fun
  | [d1, d2, d3] => { results := [.lit (.bool false)], args := [d1, d2, d3] }
  | _ => none }
def ClientWaitsWrongFalsely : Prop := clientWaitsRow.holds Try.pinned (OpenSpec.ofChange clientWaitsWrong)

/-- 'berthshiftkeep.ClientLearnt': WHATEVER THE INPUT: true; the input reads as it did. -/
def clientLearntSpec : ChangeSpec := { name := "clientLearnt", fn := fun _ => fun
  | [d] => { results := [.lit (.bool true)], args := [d] }
  | _ => none }
def clientLearntRow : OpenClaim := { program := "ytjolamdlclcpcaa", sum := "165f1b24812c1075dbcc7917796e66b12364d026134f5d1b1fa1e578a5694fc9", func := "berthshift/berthshiftkeep.ClientLearnt", spec := "clientLearnt", apart := false }
def ClientLearntSaid : Prop := clientLearntRow.holds Try.pinned (OpenSpec.ofChange clientLearntSpec)

/-- ITS FALSE NEIGHBOUR: 'it returns false'. Refute it at one input. -/
def clientLearntWrong : ChangeSpec := { name := "clientLearnt", fn := fun _ => fun
  | [d] => { results := [.lit (.bool false)], args := [d] }
  | _ => none }
def ClientLearntWrongFalsely : Prop := clientLearntRow.holds Try.pinned (OpenSpec.ofChange clientLearntWrong)

/-- 'berthshiftkeep.ClientIds': WHATEVER THE INPUT: true; the input reads as it did. -/
def clientIdsSpec : ChangeSpec := { name := "clientIds", fn := fun _ => fun
  | [d1, d2] => { results := [.lit (.bool true)], args := [d1, d2] }
  | _ => none }
def clientIdsRow : OpenClaim := { program := "ytjolamdlclcpcaa", sum := "165f1b24812c1075dbcc7917796e66b12364d026134f5d1b1fa1e578a5694fc9", func := "berthshift/berthshiftkeep.ClientIds", spec := "clientIds", unfollowed := true, recurses := true, apart := false }
def ClientIdsSaid : Prop := clientIdsRow.holds Try.pinned (OpenSpec.ofChange clientIdsSpec)

/-- ITS FALSE NEIGHBOUR: 'it returns false'. Refute it at one input. -/
def clientIdsWrong : ChangeSpec := { name := "clientIds", fn := fun _ => fun
  | [d1, d2] => { results := [.lit (.bool false)], args := [d1, d2] }
  | _ => none }
def ClientIdsWrongFalsely : Prop := clientIdsRow.holds Try.pinned (OpenSpec.ofChange clientIdsWrong)

/- THE SECOND FORM. 'bulk': how many values and letters a reading holds, each counted each time it is reached (what is shared counts as often as it is met; a slice's spare places count too). A statement '..UptoSaid' is the law's where the arguments, and the package variables that the reading takes, are together of bulk at most 1048576: NARROWER than '..Said'. Prove '..Said' where nothing that the law and all that it calls make is longer than what came in: it says more and counts as full. Else prove '..UptoSaid'. A law counts once. -/
mutual
def uptoBulk {H : Type} : DataW H → Nat
  | .lit (.string bytes) => bytes.length + 1
  | .lit _ => 1
  | .nil => 1
  | .ptr d => uptoBulk d + 1
  | .slice elems spare => uptoBulkAll elems + uptoBulkAll spare + 1
  | .agg parts => uptoBulkAll parts + 1
  | .iface _ d => uptoBulk d + 1
  | .map entries => uptoBulkEntries entries + 1
  | .held _ => 1
def uptoBulkAll {H : Type} : List (DataW H) → Nat
  | [] => 0
  | d :: r => uptoBulk d + uptoBulkAll r
def uptoBulkEntries {H : Type} : List (Lit × DataW H) → Nat
  | [] => 0
  | x :: r => uptoBulkEntry x + uptoBulkEntries r
def uptoBulkEntry {H : Type} : Lit × DataW H → Nat
  | (.string bytes, d) => bytes.length + uptoBulk d + 1
  | (_, d) => uptoBulk d + 1
 end
def uptoSmall : (H : Type) → List (DataW H) → Bool := fun _ ds => decide (uptoBulkAll ds ≤ 1048576)
def OpenSpec.upto (s : _root_.Go.ChangeSpec) : _root_.Go.OpenSpec := { _root_.Go.OpenSpec.ofChange s with cond := some uptoSmall }

/-- 'berthshiftlaw.ClientChecks', WHERE WHAT IT READS IS OF BULK AT MOST 1048576: true; the input reads as it did. -/
def clientChecksUptoRow : OpenClaim := { program := "ytjolamdlclcpcaa", sum := "165f1b24812c1075dbcc7917796e66b12364d026134f5d1b1fa1e578a5694fc9", func := "berthshift/berthshiftlaw.ClientChecks", spec := "clientChecks", apart := false, narrowed := true }
def ClientChecksUptoSaid : Prop := clientChecksUptoRow.holds Try.pinned (OpenSpec.upto clientChecksSpec)

/-- 'berthshiftlaw.ClientNews', WHERE WHAT IT READS IS OF BULK AT MOST 1048576: true; the input reads as it did. -/
def clientNewsUptoRow : OpenClaim := { program := "ytjolamdlclcpcaa", sum := "165f1b24812c1075dbcc7917796e66b12364d026134f5d1b1fa1e578a5694fc9", func := "berthshift/berthshiftlaw.ClientNews", spec := "clientNews", apart := false, narrowed := true }
def ClientNewsUptoSaid : Prop := clientNewsUptoRow.holds Try.pinned (OpenSpec.upto clientNewsSpec)

/-- 'berthshiftlaw.ClientSends', WHERE WHAT IT READS IS OF BULK AT MOST 1048576: true; the input reads as it did. -/
def clientSendsUptoRow : OpenClaim := { program := "ytjolamdlclcpcaa", sum := "165f1b24812c1075dbcc7917796e66b12364d026134f5d1b1fa1e578a5694fc9", func := "berthshift/berthshiftlaw.ClientSends", spec := "clientSends", unfollowed := true, recurses := true, apart := false, narrowed := true }
def ClientSendsUptoSaid : Prop := clientSendsUptoRow.holds Try.pinned (OpenSpec.upto clientSendsSpec)

/-- 'berthshiftlaw.ClientDones', WHERE WHAT IT READS IS OF BULK AT MOST 1048576: true; the input reads as it did. -/
def clientDonesUptoRow : OpenClaim := { program := "ytjolamdlclcpcaa", sum := "165f1b24812c1075dbcc7917796e66b12364d026134f5d1b1fa1e578a5694fc9", func := "berthshift/berthshiftlaw.ClientDones", spec := "clientDones", unfollowed := true, recurses := true, apart := false, narrowed := true }
def ClientDonesUptoSaid : Prop := clientDonesUptoRow.holds Try.pinned (OpenSpec.upto clientDonesSpec)

/-- 'berthshiftlaw.ClientLearns', WHERE WHAT IT READS IS OF BULK AT MOST 1048576: true; the input reads as it did. -/
def clientLearnsUptoRow : OpenClaim := { program := "ytjolamdlclcpcaa", sum := "165f1b24812c1075dbcc7917796e66b12364d026134f5d1b1fa1e578a5694fc9", func := "berthshift/berthshiftlaw.ClientLearns", spec := "clientLearns", apart := false, narrowed := true }
def ClientLearnsUptoSaid : Prop := clientLearnsUptoRow.holds Try.pinned (OpenSpec.upto clientLearnsSpec)

/-- 'berthshiftlaw.ClientAsks', WHERE WHAT IT READS IS OF BULK AT MOST 1048576: true; the input reads as it did. -/
def clientAsksUptoRow : OpenClaim := { program := "ytjolamdlclcpcaa", sum := "165f1b24812c1075dbcc7917796e66b12364d026134f5d1b1fa1e578a5694fc9", func := "berthshift/berthshiftlaw.ClientAsks", spec := "clientAsks", apart := false, narrowed := true }
def ClientAsksUptoSaid : Prop := clientAsksUptoRow.holds Try.pinned (OpenSpec.upto clientAsksSpec)

/-- 'berthshiftkeep.ClientSafe', WHERE WHAT IT READS IS OF BULK AT MOST 1048576: true; the input reads as it did. -/
def clientSafeUptoRow : OpenClaim := { program := "ytjolamdlclcpcaa", sum := "165f1b24812c1075dbcc7917796e66b12364d026134f5d1b1fa1e578a5694fc9", func := "berthshift/berthshiftkeep.ClientSafe", spec := "clientSafe", unfollowed := true, recurses := true, apart := false, narrowed := true }
def ClientSafeUptoSaid : Prop := clientSafeUptoRow.holds Try.pinned (OpenSpec.upto clientSafeSpec)

/-- 'berthshiftkeep.ClientWaits', WHERE WHAT IT READS IS OF BULK AT MOST 1048576: true; the input reads as it did. -/
def clientWaitsUptoRow : OpenClaim := { program := "ytjolamdlclcpcaa", sum := "165f1b24812c1075dbcc7917796e66b12364d026134f5d1b1fa1e578a5694fc9", func := "berthshift/berthshiftkeep.ClientWaits", spec := "clientWaits", unfollowed := true, recurses := true, apart := false, narrowed := true }
def ClientWaitsUptoSaid : Prop := clientWaitsUptoRow.holds Try.pinned (OpenSpec.upto clientWaitsSpec)

/-- 'berthshiftkeep.ClientLearnt', WHERE WHAT IT READS IS OF BULK AT MOST 1048576: true; the input reads as it did. -/
def clientLearntUptoRow : OpenClaim := { program := "ytjolamdlclcpcaa", sum := "165f1b24812c1075dbcc7917796e66b12364d026134f5d1b1fa1e578a5694fc9", func := "berthshift/berthshiftkeep.ClientLearnt", spec := "clientLearnt", apart := false, narrowed := true }
def ClientLearntUptoSaid : Prop := clientLearntUptoRow.holds Try.pinned (OpenSpec.upto clientLearntSpec)

/-- 'berthshiftkeep.ClientIds', WHERE WHAT IT READS IS OF BULK AT MOST 1048576: true; the input reads as it did. -/
def clientIdsUptoRow : OpenClaim := { program := "ytjolamdlclcpcaa", sum := "165f1b24812c1075dbcc7917796e66b12364d026134f5d1b1fa1e578a5694fc9", func := "berthshift/berthshiftkeep.ClientIds", spec := "clientIds", unfollowed := true, recurses := true, apart := false, narrowed := true }
def ClientIdsUptoSaid : Prop := clientIdsUptoRow.holds Try.pinned (OpenSpec.upto clientIdsSpec)

end Rows
end Go.Proofs.Ytjolamdlclcpcaa
