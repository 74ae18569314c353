/- For every queue q, berthshiftlaw.QueueChecks(q) returns true: queue.Check answers what the document says, and q reads behind the call as before it; no condition on it. -/
import Derived.Test.YtiapkiimlaoaeaaRows
import Derived.Test.YtiapkiimlaoaeaaQuG
import Derived.Test.YtiapkiimlaoaeaaQuJ
import Derived.Test.YtiapkiimlaoaeaaQuO
namespace Go.Proofs.Ytiapkiimlaoaeaa
open Go.ChangeShapes Go.WideShapes Go.ChangeAt Go.RowKit

theorem own : ownKnob Try.prog.godebug = none := by kernel_rfl
theorem laidOut : laidOutB Try.prog = true := by kernel_rfl

theorem qcheck_num (ep nx gv : Int) (ra la : Option Addr) (rn rc ln lc : Nat) (R L : List Int) (ws : Nat → Value) (wt : Nat → Int) (wz : Nat → Nat → Bool) (w : World) (hR : RowK .i64 w ra (2 * rn) R) (hL : RowK .i64 w la (4 * ln) L) (hW : Wins ws wt wz) (hs : rn + ln ≤ 9223372036854775807) :
    Calls Try.prog 9 #[qVal ep nx gv (.slice ra rn rc) (.slice la ln lc) ws] w fun e w' => e = .returned (.int .i64 (okNum ep nx gv R rn L ln wt wz)) ∧ Below w.heap.size w w' := by
  rcases Classical.em (QueueOk ep nx gv R rn L ln wt wz) with h | h
  · rw [okNum_yes h]; exact qcheck_yes ep nx gv ra la rn rc ln lc R L ws wt wz w hR hL hW h
  · rw [okNum_no h]; exact qcheck_no ep nx gv ra la rn rc ln lc R L ws wt wz w hR hL hW hs h

set_option maxRecDepth 20000 in
set_option maxHeartbeats 4000000 in
theorem walk_QueueChecks (w : World) (ep nx gv : Int) (ra : Option Addr) (rn rc : Nat) (la : Option Addr) (ln lc : Nat) (R L : List Int) (ws : Nat → Value) (wt : Nat → Int) (wz : Nat → Nat → Bool) (qo : QueueIn w ep nx gv ra rn rc la ln lc R L ws wt wz) (hz : rc * 16 ≤ 140737488351232 ∧ lc * 32 ≤ 140737488351232) :
    Calls Try.prog 3 #[qVal ep nx gv (.slice ra rn rc) (.slice la ln lc) ws] w fun e w' => e = .returned (.bool true) ∧ Below w.heap.size w w' := by
  have h1 := qo.lenR
  have h2 := qo.lenL
  obtain ⟨z1, z2⟩ := hz
  have HQ : Hid (∀ w1, Below w.heap.size w w1 → Calls Try.prog 10 #[qVal ep nx gv (.slice ra rn rc) (.slice la ln lc) ws] w1 _) := veil fun w1 b => queues_any ep nx gv ra la rn rc ln lc R L ws wt wz w1 (qo.rowR.below b) (qo.rowL.below b) qo.wins (by omega) (by omega)
  have HF : Hid (∀ w1, Below w.heap.size w w1 → Calls Try.prog 11 #[qVal ep nx gv (.slice ra rn rc) (.slice la ln lc) ws] w1 _) := veil fun w1 b => queueFault_any ep nx gv ra la rn rc ln lc R L ws wt wz w1 (qo.rowR.below b) (qo.rowL.below b) qo.wins (by omega)
  have hwR := veil qo.rowR.wf
  have hwL := veil qo.rowL.wf
  have hW := veil qo.wins
  have hsum : rn + ln ≤ 9223372036854775807 := by omega
  clear qo
  generalize hN : okNum ep nx gv R rn L ln wt wz = N at HF
  have HN := veil hN
  clear hN
  go_enter Try.func3, Try.ntmps3
  go_wp2_with (first
    | (refine q_box 1 _ rfl rfl rfl rfl ?_; intro W1 q1 b1)
    | (refine q_loads _ rfl rfl rfl (by assumption) ?_)
    | (go_at_call 10; refine (unveil HQ _ b1).mono ?_; rintro e w2 ⟨a1, c1, a2, c2, rfl, o1, o2, b2⟩; obtain ⟨_, _, e1, r1, _⟩ := RowK.ofMany o1 (unveil hwR); obtain ⟨_, _, e2, r2, _⟩ := RowK.ofMany o2 (unveil hwL); cases e1; cases e2; have q2 := q1.next b2)
    | (go_at_call 9; refine (qcheck_num _ _ _ _ _ _ _ _ _ _ _ _ _ _ _ r1 r2 (unveil hW) hsum).mono ?_; rintro e w3 ⟨rfl, b3⟩; rw [unveil HN]; have q3 := q2.next b3)
    | (go_at_call 11; refine (unveil HF _ (Below.next (Below.next b1 b2) b3)).mono ?_; rintro e w4 ⟨rfl, b4⟩))
  go_ret
  exact ⟨by simp, Below.next (Below.next (Below.next b1 b2) b3) b4⟩

set_option linter.unusedVariables false in
set_option maxRecDepth 100000 in
theorem lifted_QueueChecks (os : Os) (started : os.Started) (H : Type) (enc : TypeId × Value → H) :
    ReturnsInHanded {} Try.checked os 3 .any (Rows.queueChecksSpec.pre6 enc Try.prog Try.f3 Rows.queueChecksRow.domain false) (Rows.queueChecksSpec.post enc Try.prog Try.f3 false true false false) := by
  refine returnsInHanded_of_change_sized (C := Try.checked) own started (by kernel_rfl) Try.func3
    (ChangeSpec.witness6 (enc := enc) (C := Try.checked) false ⟨#[], #[.agg #[.int .i64 0, .int .i64 0, .int .i64 0, .slice none 0 0, .slice none 0 0, .int .i64 0, .bool false, .bool false, .bool false, .bool false, .bool false, .bool false, .bool false, .bool false, .int .i64 0, .bool false, .bool false, .bool false, .bool false, .bool false, .bool false, .bool false, .bool false, .int .i64 0, .bool false, .bool false, .bool false, .bool false, .bool false, .bool false, .bool false, .bool false, .int .i64 0, .bool false, .bool false, .bool false, .bool false, .bool false, .bool false, .bool false, .bool false]], []⟩ 8 (by kernel_rfl) (by kernel_rfl) (by kernel_rfl) (by kernel_rfl)) ?_
  intro W base args ds gs before hval0 hW hcnd hsz0 _
  have hval : ∀ (j : Nat) t v, Try.f3.params[j]? = some t → args[j]? = some v → Value.okWide Try.prog W .any base t v := hval0
  have hsz : (DataW.weightsEach Try.prog (Try.f3.params.toList ++ Rows.queueChecksSpec.plain.varTypes Try.prog) (ds ++ gs)).all (· ≤ reachBytes) = true := hsz0
  have hW' := hW
  obtain ⟨p, q, hA0, hV, rfl, hfz, hnd⟩ := hW
  have hA : DataW.TrodAll enc Try.prog W 0 (fun _ => true) true Try.f3.params.toList args.toList ds p := hA0
  rw [Try.params3] at hA hval hsz
  have hK := hA
  have hlt : ∀ x ∈ p, x.block < W.heap.size := fun x hx => hW'.lt x (by simp [hx])
  obtain ⟨v0, vs0, d0, ds0, p0, q0, hargs, rfl, rfl, h0, r0⟩ := trodAll_cons hA
  obtain ⟨rfl, rfl, rfl⟩ := trodAll_nil r0
  obtain rfl : args = #[v0] := by cases args; simp_all
  obtain ⟨rfl, rfl⟩ := trodVars_none hV
  obtain ⟨ep0, nx0, gv0, ra0, rn0, rc0, la0, ln0, lc0, R0, L0, ws0, wt0, wz0, rfl, qo0, qs0⟩ := open_Queue (hval 0 29 v0 rfl rfl) h0
  have z0 := qs0 _ _ 0 hsz rfl rfl
  clear qs0
  clear hA0 hval0 hsz0
  refine (walk_QueueChecks W ep0 nx0 gv0 ra0 rn0 rc0 la0 ln0 lc0 R0 L0 ws0 wt0 wz0 qo0 z0).mono fun e W' ⟨he, bel⟩ => ?_
  subst he
  exact ⟨_, rfl, _, _, _, [], _, [], hW', trodAll_mk1 (shut_bool Try.underlying4 _), trodAll_stays laidOut (List.forall_mem_cons.2 ⟨⟨by kernel_rfl, of_decide_eq_true (by kernel_rfl)⟩, by intro t ht; cases ht⟩) hK bel hlt, rfl, bel.frame _, fun h => by cases h⟩

theorem queueChecks_holds : Rows.QueueChecksSaid :=
  OpenClaim.holds_of_wide 3 Try.f3 rfl rfl rfl rfl rfl rfl rfl ⟨rfl, rfl, rfl, rfl, rfl⟩ rfl rfl rfl rfl rfl (by kernel_rfl) Try.func3 (by kernel_rfl)
    (of_decide_eq_true (by kernel_rfl)) (by unfold Func.isWrapper; first | (rw [if_pos (by decide +kernel)]; kernel_rfl) | (rw [if_neg (by decide +kernel)]; exact ⟨rfl, rfl⟩))
    (fun os started H enc _ => lifted_QueueChecks os started H enc)
#print axioms queueChecks_holds
end Go.Proofs.Ytiapkiimlaoaeaa
