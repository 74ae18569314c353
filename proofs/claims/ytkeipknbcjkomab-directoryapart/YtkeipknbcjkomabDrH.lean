/- Two directories that are one, compared. -/
import Derived.Test.YtkeipknbcjkomabDrB
namespace Go.Proofs.Ytkeipknbcjkomab
open Go.RowKit

set_option maxRecDepth 20000 in
theorem run_equal_place (d : Nat) (x y : Int) (w : World) : (Op.equalIn (d + 1 + 1) 23 (plVal x y) (plVal x y)).run Try.prog w = .ok true w := by
  rw [run_equalIn_agg (P := Try.prog) w (d + 1) 23 _ _ Try.underlying23 (by kernel_rfl)]
  simp [go_sem]
set_option maxRecDepth 20000 in
theorem run_equal_places_at (d : Nat) (n e : Nat → Int) (w : World) : (Op.equalIn (d + 1 + 1 + 1) 24 (dirVal n e) (dirVal n e)).run Try.prog w = .ok true w := by
  have hp := run_equal_place d
  rw [Op.equalIn]
  generalize d + 1 + 1 = dd at hp ⊢
  simp only [Sem.run_bind, run_underlying Try.underlying24, Result.andThen_ok]
  simp [go_sem, List.range', hp]
theorem run_equal_places (n e : Nat → Int) (w : World) : (Op.equalIn 9999 24 (dirVal n e) (dirVal n e)).run Try.prog w = .ok true w := run_equal_places_at 9996 n e w
end Go.Proofs.Ytkeipknbcjkomab
