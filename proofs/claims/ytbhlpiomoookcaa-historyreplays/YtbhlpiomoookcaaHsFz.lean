/- The walk of berthshiftkeep.sameQueue, at two queues that are one. -/
import Derived.Test.YtbhlpiomoookcaaKkAll
import Derived.Deep.QuietTactic
import Derived.BigQuiet
namespace Go.Proofs.Ytbhlpiomoookcaa
open Go.RowKit

theorem Wins.same {ws vs : Nat → Value} {wt : Nat → Int} {wz : Nat → Nat → Bool} (h : Wins ws wt wz) (g : Wins vs wt wz) : wsList ws = wsList vs := by
  apply List.ext_getElem (by rw [wsList_len, wsList_len])
  intro i h1 h2
  rw [wsList_len] at h1
  have e : ∀ p, p < 4 → ∀ j, j < 9 → ws (9 * p + j) = vs (9 * p + j) := by
    intro p hp j hj
    obtain ⟨a, b⟩ := h p hp
    obtain ⟨c, d⟩ := g p hp
    rcases Nat.eq_zero_or_pos j with rfl | h0
    · rw [Nat.add_zero, a, c]
    · have b' := b (j - 1) (by omega)
      have d' := d (j - 1) (by omega)
      rw [show 9 * p + 1 + (j - 1) = 9 * p + j by omega] at b' d'
      rw [b', d']
  have := e (i / 9) (by omega) (i % 9) (by omega)
  rw [show 9 * (i / 9) + i % 9 = i by omega] at this
  have ea := wsList_get ws i h1
  have eb := wsList_get vs i h1
  rw [List.getElem?_eq_getElem (by rw [wsList_len]; exact h1)] at ea eb
  rw [Option.some.inj ea, Option.some.inj eb, this]
set_option maxRecDepth 20000 in
theorem run_equal_win (d : Nat) (t : Int) (s : Nat → Bool) (w : World) : (Op.equalIn (d + 1 + 1 + 1) 26 (winVal t s) (winVal t s)).run Try.prog w = .ok true w := by
  have hs := fun w => run_equal_seen_at d (s 0) (s 1) (s 2) (s 3) (s 4) (s 5) (s 6) (s 7) (s 0) (s 1) (s 2) (s 3) (s 4) (s 5) (s 6) (s 7) w
  simp only [beq_self_eq_true, Bool.and_self] at hs
  rw [run_equalIn_agg (P := Try.prog) w (d + 1 + 1) 26 _ _ Try.underlying26 (by kernel_rfl)]
  simp [go_sem, hs]
set_option maxRecDepth 20000 in
set_option maxHeartbeats 1000000 in
theorem run_equal_wins (d : Nat) {ws : Nat → Value} {wt : Nat → Int} {wz : Nat → Nat → Bool} (h : Wins ws wt wz) (w : World) : (Op.equalIn (d + 1 + 1 + 1 + 1) 27 (.agg (wsList ws).toArray) (.agg (wsList ws).toArray)).run Try.prog w = .ok true w := by
  have hp : ∀ p, p < 4 → ∀ w, (Op.equalIn (d + 1 + 1 + 1) 26 (.agg #[ws (9 * p), ws (9 * p + 1 + 0), ws (9 * p + 1 + 1), ws (9 * p + 1 + 2), ws (9 * p + 1 + 3), ws (9 * p + 1 + 4), ws (9 * p + 1 + 5), ws (9 * p + 1 + 6), ws (9 * p + 1 + 7)]) (.agg #[ws (9 * p), ws (9 * p + 1 + 0), ws (9 * p + 1 + 1), ws (9 * p + 1 + 2), ws (9 * p + 1 + 3), ws (9 * p + 1 + 4), ws (9 * p + 1 + 5), ws (9 * p + 1 + 6), ws (9 * p + 1 + 7)])).run Try.prog w = .ok true w := fun p hp w => by
    rw [h.nine p hp]
    exact run_equal_win d _ _ w
  have h0 := hp 0 (by omega)
  have h1 := hp 1 (by omega)
  have h2 := hp 2 (by omega)
  have h3 := hp 3 (by omega)
  simp only [Nat.mul_zero, Nat.zero_add, Nat.mul_one, Nat.reduceMul, Nat.reduceAdd, Nat.add_zero] at h0 h1 h2 h3
  rw [Op.equalIn]
  generalize d + 1 + 1 + 1 = dd at h0 h1 h2 h3 ⊢
  simp only [Sem.run_bind, run_underlying Try.underlying27, Result.andThen_ok]
  simp [go_sem, List.range', wsList, h0, h1, h2, h3]
end Go.Proofs.Ytbhlpiomoookcaa
