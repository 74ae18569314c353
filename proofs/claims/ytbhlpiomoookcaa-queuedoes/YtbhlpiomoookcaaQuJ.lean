/- The walk of berthshiftlaw.queues. -/
import Derived.Test.YtbhlpiomoookcaaQuI
namespace Go.Proofs.Ytbhlpiomoookcaa
open Go.RowKit

theorem ret_queues {W : World} {R : Nat} {ep nx gv : Int} {r l : Value} {ws : Nat → Value} {tmps : Array Value} (h : qBlock W R ep nx gv r l ws) (t : tmps.getD 2 undef = .pointer (some ⟨R, 0, none⟩)) :
    (results Try.f12 tmps).run Try.prog W = .ok (qVal ep nx gv r l ws) W :=
  results_cell_row Try.results12 tmps W R 29 _ (0, 0) _ t h Try.underlying29 rfl (by rw [qCells_size]; exact Try.infoQ)

set_option maxRecDepth 20000 in
set_option maxHeartbeats 4000000 in
theorem queues_any (ep nx gv : Int) (ra la : Option Addr) (rn rc ln lc : Nat) (R L : List Int) (ws : Nat → Value) (wt : Nat → Int) (wz : Nat → Nat → Bool) (w : World) (hR : RowK .i64 w ra (2 * rn) R) (hL : RowK .i64 w la (4 * ln) L) (hW : Wins ws wt wz) (hs1 : rn * 16 ≤ 140737488351232) (hs2 : ln * 32 ≤ 140737488351232) :
    Calls Try.prog 12 #[qVal ep nx gv (.slice ra rn rc) (.slice la ln lc) ws] w fun e w' => ∃ a1 c1 a2 c2, e = .returned (qVal ep nx gv (.slice a1 rn c1) (.slice a2 ln c2) ws) ∧ w'.ownsRow w.heap.size 76 2 (.slice a1 rn c1) rn (R.map (Value.int .i64)) ∧ w'.ownsRow w.heap.size 78 4 (.slice a2 ln c2) ln (L.map (Value.int .i64)) ∧ Below w.heap.size w w' := by
  have hcp : ∀ w1, Below w.heap.size w w1 → Calls Try.prog 36 _ w1 _ := fun w1 b => queueCopy_any ep nx gv ra la rn rc ln lc R L ws wt wz w1 (hR.below b) (hL.below b) hW hs1 hs2
  have HCP := veil hcp
  clear hcp hR hL
  go_enter Try.func12, Try.ntmps12
  go_wp2_with (first
    | (refine q_box 1 _ rfl rfl rfl rfl ?_; intro W1 q1 b1)
    | (refine q_alloc 2 rfl rfl rfl ?_; intro W2 z2 b2; have q2 := q1.next b2)
    | (refine q_loads _ rfl rfl rfl q2 ?_)
    | (go_at_call 36; refine (unveil HCP _ (Below.next b1 b2)).mono ?_; rintro e w3 ⟨v1, v2, rfl, o1, o2, b3⟩; obtain ⟨a1, c1, rfl⟩ := own_form o1; obtain ⟨a2, c2, rfl⟩ := own_form o2; have z3 := z2.next b3)
    | (refine q_store _ _ rfl rfl rfl rfl z3 hW ?_; intro W4 q4 t4))
  have s1 := q1.lt
  have s2 := z2.lt
  exact bodyPost_ret (ret_queues q4 rfl) rfl ⟨a1, c1, a2, c2, rfl, own_lower (t4.own o1 s2) (by omega), own_lower (t4.own o2 s2) (by omega), t4.under (Below.next (Below.next b1 b2) b3) (by omega)⟩
end Go.Proofs.Ytbhlpiomoookcaa
