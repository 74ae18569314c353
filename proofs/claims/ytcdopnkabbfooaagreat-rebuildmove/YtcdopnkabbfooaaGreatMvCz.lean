/- The walk of berthshiftkeep.MoveWhole. -/
import Derived.Test.YtcdopnkabbfooaaGreatMvBz
import Derived.Test.YtcdopnkabbfooaaGreatRkBe
namespace Go.Proofs.YtcdopnkabbfooaaGreat
open Go.RowKit

/-- two berths in two new boxes. -/
theorem two_boxed {w V : World} {S T : Bt} {aS aT : Option Addr} {cS cT : Nat} (iS : BIn V S aS cS) (iT : BIn V T aT cT) (b : Below w.heap.size w V) :
    ∃ W, W = (V.alloc (.cells (bCells S.r S.e S.f S.t S.o aS S.es.length cS) 24)).alloc (.cells (bCells T.r T.e T.f T.t T.o aT T.es.length cT) 24) ∧ Kb w W V.heap.size S aS cS ∧ Kb w W (V.heap.size + 1) T aT cT := by
  obtain ⟨W1, hW1, K1, d1⟩ := Kb.new iS (Below.refl _ _) b
  obtain ⟨W2, hW2, K2, d2⟩ := Kb.new (w := w) (iT.next d1) (Below.next b d1) (Below.refl _ _)
  have hs : W1.heap.size = V.heap.size + 1 := by rw [hW1]; simp
  rw [hs] at K2
  rw [hW1] at hW2
  exact ⟨W2, hW2, K1.next d2, K2⟩
theorem forget_sld {B : Bt} {ep : Int} (ok : B.Ok) (hr : B.r = 3) (he : B.e < ep) : forgetOf B ep = (Bt.nob B.e, 0) := by
  unfold forgetOf
  rw [if_neg (fun h => h ok), if_neg (fun h => h hr), if_neg (by omega)]
end Go.Proofs.YtcdopnkabbfooaaGreat
