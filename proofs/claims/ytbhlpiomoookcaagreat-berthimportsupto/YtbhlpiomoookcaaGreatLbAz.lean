/- Berths in boxes, for the law rows. -/
import Derived.Test.YtbhlpiomoookcaaGreatRbL
import Derived.Test.YtbhlpiomoookcaaGreatKkAll
namespace Go.Proofs.YtbhlpiomoookcaaGreat
open Go.RowKit

/-- a berth in a box. -/
structure Kb (w wx : World) (R : Nat) (B : Bt) (a : Option Addr) (c : Nat) : Prop where
  b : bBlock wx R B.r B.e B.f B.t B.o a B.es.length c
  i : BIn wx B a c
  bel : Below w.heap.size w wx
theorem Kb.next {w wx wy : World} {R : Nat} {B : Bt} {a : Option Addr} {c : Nat} (h : Kb w wx R B a c) (b : Below wx.heap.size wx wy) : Kb w wy R B a c := ⟨h.b.next b, h.i.next b, Below.next h.bel b⟩
theorem Kb.new {w w1 w2 : World} {B : Bt} {a : Option Addr} {c : Nat} (i : BIn w2 B a c) (b0 : Below w.heap.size w w1) (b : Below w1.heap.size w1 w2) :
    ∃ W, W = w2.alloc (.cells (bCells B.r B.e B.f B.t B.o a B.es.length c) 24) ∧ Kb w W w2.heap.size B a c ∧ Below w2.heap.size w2 W :=
  ⟨_, rfl, ⟨bBlock.new _ _ _ _ _ _ _ _ _, i.next (below1 _ _), Below.next (Below.next b0 b) (below1 _ _)⟩, below1 _ _⟩
theorem Kb.new2 {w w1 w2 : World} {B : Bt} {a : Option Addr} {c : Nat} (cc he no bd : Int) (i : BIn w2 B a c) (b0 : Below w.heap.size w w1) (b : Below w1.heap.size w1 w2) :
    ∃ W, W = (w2.alloc (.cells (bCells B.r B.e B.f B.t B.o a B.es.length c) 24)).alloc (.cells #[.int .i64 cc, .int .i64 he, .int .i64 no, .int .i64 bd] 68) ∧ Kb w W w2.heap.size B a c ∧ ansBlock W (w2.heap.size + 1) cc he no bd ∧ Below w2.heap.size w2 W := by
  obtain ⟨W1, hW1, K1, d1⟩ := Kb.new i b0 b
  have hs : W1.heap.size = w2.heap.size + 1 := by rw [hW1]; simp
  have hA := ansBlock.new W1 cc he no bd
  rw [hs] at hA
  rw [← hW1]
  exact ⟨_, rfl, K1.next (below1 _ _), hA, Below.next d1 (below1 _ _)⟩
/-- what a call on a berth answers. -/
def Ans2 (w w' : World) (p : Bt × Int) (x : Ending) : Prop := ∃ y B' er, x = .returned (.tuple #[y, .int .i64 er]) ∧ p = (B', er) ∧ BOut w w' B' y ∧ Below w.heap.size w w'
theorem sameKb {w wx : World} {R R' : Nat} {B : Bt} {a a' : Option Addr} {c c' : Nat} (h : Kb w wx R B a c) (h' : Kb w wx R' B a' c') (hm : B.es.length ≤ 3000000000000) :
    Calls Tryz.prog 9 #[bVal B.r B.e B.f B.t B.o a B.es.length c, bVal B.r B.e B.f B.t B.o a' B.es.length c'] wx fun x w' => x = .returned (.bool true) ∧ Below wx.heap.size wx w' :=
  sameBerthL_yes _ _ _ _ _ _ _ _ _ _ _ _ h.i.row h'.i.row hm
end Go.Proofs.YtbhlpiomoookcaaGreat
