/-
  No cell of these rows narrows 'for every input' (looked for: loops, veiled, ifaces, maps, wideKeys, modest, calm, conditions, laid).
  DERIVED. THE GIVEN ROWS OF THIS SEAT. 3 by the template 'for every input the law returns true; each argument reads behind the call as it read before'; 0 by the template 'total and deterministic' (their statements: YtbhlpiomoookcaaGreatTotals.lean).
  GIVEN WITH THE SEED: the statements are not yours to turn. If you find one false, say at which input.
  Laid BY PROGRAM, IN A SANDBOX (cutbox-rows.mjs): the forced cells as the released guide's own fill.sh prints them over the translation 357fceb5653c5ba2… (all of the seat's roots in one cut). By AI agents, Wed Nov 11 2026. No macro, syntax, notation, axiom, sorry.
-/
import Derived.Test.YtbhlpiomoookcaaGreatChecked
import GoSem.Claim
import GoSem.ClaimJoined
import GoSem.ClaimMapViews
import Derived.JoinedTies
import Derived.KernelRfl
namespace Go.Proofs.YtbhlpiomoookcaaGreat
/- THE CELL 'sum', in the pinned program and in every row, IS THE sha256 OF THE DUMP (.gsa) THAT YtbhlpiomoookcaaGreatProg.lean LOADS. Nothing in Lean hashes anything: it is a label: what it is worth is what the hold of that sum in a sandbox is worth. -/
noncomputable def Tryz.pinned : Pinned := { name := "ytbhlpiomoookcaagreat", sum := "357fceb5653c5ba2d9a68c9d0f97896e19aa7836ce3887d80840b0be6edbccbd", checked := Tryz.checked }
namespace Rows
def none {H : Type} : Left H := { results := [], args := [] }

/-- 'berthshiftlaw.BerthCaughts': WHATEVER THE INPUT: true; the input reads as it did. -/
def berthCaughtsSpec : ChangeSpec := { name := "berthCaughts", fn := fun _ => fun
  | [d1, d2] => { results := [.lit (.bool true)], args := [d1, d2] }
  | _ => none }
def berthCaughtsRow : OpenClaim := { program := "ytbhlpiomoookcaagreat", sum := "357fceb5653c5ba2d9a68c9d0f97896e19aa7836ce3887d80840b0be6edbccbd", func := "berthshift/berthshiftlaw.BerthCaughts", spec := "berthCaughts", unfollowed := true, recurses := true, apart := false }
def BerthCaughtsSaid : Prop := berthCaughtsRow.holds Tryz.pinned (OpenSpec.ofChange berthCaughtsSpec)

/-- ITS FALSE NEIGHBOUR: 'it returns false'. Refute it at one input. -/
def berthCaughtsWrong : ChangeSpec := { name := "berthCaughts", fn := fun _ => fun
  | [d1, d2] => { results := [.lit (.bool false)], args := [d1, d2] }
  | _ => none }
def BerthCaughtsWrongFalsely : Prop := berthCaughtsRow.holds Tryz.pinned (OpenSpec.ofChange berthCaughtsWrong)

/-- 'berthshiftlaw.BerthBegins': WHATEVER THE INPUT: true; the input reads as it did. -/
def berthBeginsSpec : ChangeSpec := { name := "berthBegins", fn := fun _ => fun
  | [d1, d2, d3] => { results := [.lit (.bool true)], args := [d1, d2, d3] }
  | _ => none }
def berthBeginsRow : OpenClaim := { program := "ytbhlpiomoookcaagreat", sum := "357fceb5653c5ba2d9a68c9d0f97896e19aa7836ce3887d80840b0be6edbccbd", func := "berthshift/berthshiftlaw.BerthBegins", spec := "berthBegins", unfollowed := true, recurses := true, apart := false }
def BerthBeginsSaid : Prop := berthBeginsRow.holds Tryz.pinned (OpenSpec.ofChange berthBeginsSpec)

/-- ITS FALSE NEIGHBOUR: 'it returns false'. Refute it at one input. -/
def berthBeginsWrong : ChangeSpec := { name := "berthBegins", fn := fun _ => fun
  | [d1, d2, d3] => { results := [.lit (.bool false)], args := [d1, d2, d3] }
  | _ => none }
def BerthBeginsWrongFalsely : Prop := berthBeginsRow.holds Tryz.pinned (OpenSpec.ofChange berthBeginsWrong)

/-- 'berthshiftlaw.BerthImports': WHATEVER THE INPUT: true; the input reads as it did. -/
def berthImportsSpec : ChangeSpec := { name := "berthImports", fn := fun _ => fun
  | [d1, d2, d3, d4, d5] => { results := [.lit (.bool true)], args := [d1, d2, d3, d4, d5] }
  | _ => none }
def berthImportsRow : OpenClaim := { program := "ytbhlpiomoookcaagreat", sum := "357fceb5653c5ba2d9a68c9d0f97896e19aa7836ce3887d80840b0be6edbccbd", func := "berthshift/berthshiftlaw.BerthImports", spec := "berthImports", unfollowed := true, recurses := true, apart := false }
def BerthImportsSaid : Prop := berthImportsRow.holds Tryz.pinned (OpenSpec.ofChange berthImportsSpec)

/-- ITS FALSE NEIGHBOUR: 'it returns false'. Refute it at one input. -/
def berthImportsWrong : ChangeSpec := { name := "berthImports", fn := fun _ => fun
  | [d1, d2, d3, d4, d5] => { results := [.lit (.bool false)], args := [d1, d2, d3, d4, d5] }
  | _ => none }
def BerthImportsWrongFalsely : Prop := berthImportsRow.holds Tryz.pinned (OpenSpec.ofChange berthImportsWrong)

/- THE SECOND FORM. 'bulk': how many values and letters a reading holds, each counted each time it is reached (what is shared counts as often as it is met; a slice's spare places count too). A statement '..UptoSaid' is the law's where the arguments, and the package variables that the reading takes, are together of bulk at most 1048576: NARROWER than '..Said'. Prove '..Said' where nothing that the law and all that it calls make is longer than what came in: it says more and counts as full. Else prove '..UptoSaid'. A law counts once. -/
mutual
def uptoBulk {H : Type} : DataW H → Nat
  | .lit (.string bytes) => bytes.length + 1
  | .lit _ => 1
  | .nil => 1
  | .ptr d => uptoBulk d + 1
  | .slice elems spare => uptoBulkAll elems + uptoBulkAll spare + 1
  | .agg parts => uptoBulkAll parts + 1
  | .iface _ d => uptoBulk d + 1
  | .map entries => uptoBulkEntries entries + 1
  | .held _ => 1
def uptoBulkAll {H : Type} : List (DataW H) → Nat
  | [] => 0
  | d :: r => uptoBulk d + uptoBulkAll r
def uptoBulkEntries {H : Type} : List (Lit × DataW H) → Nat
  | [] => 0
  | x :: r => uptoBulkEntry x + uptoBulkEntries r
def uptoBulkEntry {H : Type} : Lit × DataW H → Nat
  | (.string bytes, d) => bytes.length + uptoBulk d + 1
  | (_, d) => uptoBulk d + 1
 end
def uptoSmall : (H : Type) → List (DataW H) → Bool := fun _ ds => decide (uptoBulkAll ds ≤ 1048576)
def OpenSpec.upto (s : _root_.Go.ChangeSpec) : _root_.Go.OpenSpec := { _root_.Go.OpenSpec.ofChange s with cond := some uptoSmall }

/-- 'berthshiftlaw.BerthCaughts', WHERE WHAT IT READS IS OF BULK AT MOST 1048576: true; the input reads as it did. -/
def berthCaughtsUptoRow : OpenClaim := { program := "ytbhlpiomoookcaagreat", sum := "357fceb5653c5ba2d9a68c9d0f97896e19aa7836ce3887d80840b0be6edbccbd", func := "berthshift/berthshiftlaw.BerthCaughts", spec := "berthCaughts", unfollowed := true, recurses := true, apart := false, narrowed := true }
def BerthCaughtsUptoSaid : Prop := berthCaughtsUptoRow.holds Tryz.pinned (OpenSpec.upto berthCaughtsSpec)

/-- 'berthshiftlaw.BerthBegins', WHERE WHAT IT READS IS OF BULK AT MOST 1048576: true; the input reads as it did. -/
def berthBeginsUptoRow : OpenClaim := { program := "ytbhlpiomoookcaagreat", sum := "357fceb5653c5ba2d9a68c9d0f97896e19aa7836ce3887d80840b0be6edbccbd", func := "berthshift/berthshiftlaw.BerthBegins", spec := "berthBegins", unfollowed := true, recurses := true, apart := false, narrowed := true }
def BerthBeginsUptoSaid : Prop := berthBeginsUptoRow.holds Tryz.pinned (OpenSpec.upto berthBeginsSpec)

/-- 'berthshiftlaw.BerthImports', WHERE WHAT IT READS IS OF BULK AT MOST 1048576: true; the input reads as it did. -/
def berthImportsUptoRow : OpenClaim := { program := "ytbhlpiomoookcaagreat", sum := "357fceb5653c5ba2d9a68c9d0f97896e19aa7836ce3887d80840b0be6edbccbd", func := "berthshift/berthshiftlaw.BerthImports", spec := "berthImports", unfollowed := true, recurses := true, apart := false, narrowed := true }
def BerthImportsUptoSaid : Prop := berthImportsUptoRow.holds Tryz.pinned (OpenSpec.upto berthImportsSpec)

end Rows
end Go.Proofs.YtbhlpiomoookcaaGreat
