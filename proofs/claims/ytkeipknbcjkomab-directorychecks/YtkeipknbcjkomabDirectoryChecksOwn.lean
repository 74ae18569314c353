/- For every directory x, berthshiftlaw.DirectoryChecks(x) returns true: directory.Check answers what the document says; no condition on the argument. -/
import Derived.Test.YtkeipknbcjkomabRows
import Derived.Test.YtkeipknbcjkomabDrE
import Derived.Test.YtkeipknbcjkomabDrO
namespace Go.Proofs.Ytkeipknbcjkomab
open Go.ChangeShapes Go.WideShapes Go.ChangeAt Go.RowKit

theorem own : ownKnob Try.prog.godebug = none := by kernel_rfl
theorem laidOut : laidOutB Try.prog = true := by kernel_rfl

set_option maxRecDepth 20000 in
set_option maxHeartbeats 2000000 in
theorem walk_DirectoryChecks (w : World) (n e : Nat → Int) (_ : ∀ k, k < 4 → (Lit.int .i64 (n k)).wf = true ∧ (Lit.int .i64 (e k)).wf = true) :
    Calls Try.prog 3 #[dirVal n e] w fun r w' => r = .returned (.bool true) ∧ Below w.heap.size w w' := by
  by_cases ok : DirOk n e
  · go_enter Try.func3, Try.ntmps3
    go_wp2_with (first
      | (go_at_call 15; refine (dcheck_yes n e _ ok).mono ?_; rintro r w1 ⟨rfl, b1⟩; have D1 := (dirBlock.new w n e).next b1; obtain ⟨c0, c1, c2, c3, c4, c5, c6, c7⟩ := D1.cells)
      | (go_at_call 16; refine (fault_yes n e _ ok).mono ?_; rintro r w2 ⟨rfl, b2⟩))
    go_ret
    exact ⟨rfl, Below.next (Below.next (below1 _ _) b1) b2⟩
  · go_enter Try.func3, Try.ntmps3
    go_wp2_with (first
      | (go_at_call 15; refine (dcheck_no n e _ ok).mono ?_; rintro r w1 ⟨rfl, b1⟩; have D1 := (dirBlock.new w n e).next b1; obtain ⟨c0, c1, c2, c3, c4, c5, c6, c7⟩ := D1.cells)
      | (go_at_call 16; refine (fault_no n e _ ok).mono ?_; rintro r w2 ⟨rfl, b2⟩))
    go_ret
    exact ⟨rfl, Below.next (Below.next (below1 _ _) b1) b2⟩

set_option linter.unusedVariables false in
set_option maxRecDepth 100000 in
theorem lifted_DirectoryChecks (os : Os) (started : os.Started) (H : Type) (enc : TypeId × Value → H) :
    ReturnsInHanded {} Try.checked os 3 .any (Rows.directoryChecksSpec.pre6 enc Try.prog Try.f3 Rows.directoryChecksRow.domain false) (Rows.directoryChecksSpec.post enc Try.prog Try.f3 false true false false) := by
  refine returnsInHanded_of_change_sized (C := Try.checked) own started (by kernel_rfl) Try.func3
    (ChangeSpec.witness6 (enc := enc) (C := Try.checked) false ⟨#[], #[.agg #[.int .i64 0, .int .i64 0, .int .i64 0, .int .i64 0, .int .i64 0, .int .i64 0, .int .i64 0, .int .i64 0]], []⟩ 8 (by kernel_rfl) (by kernel_rfl) (by kernel_rfl) (by kernel_rfl)) ?_
  intro W base args ds gs before hval0 hW hcnd hsz0 _
  have hval : ∀ (j : Nat) t v, Try.f3.params[j]? = some t → args[j]? = some v → Value.okWide Try.prog W .any base t v := hval0
  have hsz : (DataW.weightsEach Try.prog (Try.f3.params.toList ++ Rows.directoryChecksSpec.plain.varTypes Try.prog) (ds ++ gs)).all (· ≤ reachBytes) = true := hsz0
  have hW' := hW
  obtain ⟨p, q, hA0, hV, rfl, hfz, hnd⟩ := hW
  have hA : DataW.TrodAll enc Try.prog W 0 (fun _ => true) true Try.f3.params.toList args.toList ds p := hA0
  rw [Try.params3] at hA hval hsz
  have hK := hA
  have hlt : ∀ x ∈ p, x.block < W.heap.size := fun x hx => hW'.lt x (by simp [hx])
  obtain ⟨v0, vs0, d0, ds0, p0, q0, hargs, rfl, rfl, h0, r0⟩ := trodAll_cons hA
  obtain ⟨rfl, rfl, rfl⟩ := trodAll_nil r0
  obtain rfl : args = #[v0] := by cases args; simp_all
  obtain ⟨rfl, rfl⟩ := trodVars_none hV
  obtain ⟨n0, e0, rfl, w0⟩ := open_Directory (hval 0 26 v0 rfl rfl) h0
  clear hA0 hval0 hsz0
  refine (walk_DirectoryChecks W n0 e0 w0).mono fun e W' ⟨he, bel⟩ => ?_
  subst he
  exact ⟨_, rfl, _, _, _, [], _, [], hW', trodAll_mk1 (shut_bool Try.underlying4 _), trodAll_stays laidOut (List.forall_mem_cons.2 ⟨⟨by kernel_rfl, of_decide_eq_true (by kernel_rfl)⟩, by intro t ht; cases ht⟩) hK bel hlt, rfl, bel.frame _, fun h => by cases h⟩

theorem directoryChecks_holds : Rows.DirectoryChecksSaid :=
  OpenClaim.holds_of_wide 3 Try.f3 rfl rfl rfl rfl rfl rfl rfl ⟨rfl, rfl, rfl, rfl, rfl⟩ rfl rfl rfl rfl rfl (by kernel_rfl) Try.func3 (by kernel_rfl)
    (of_decide_eq_true (by kernel_rfl)) (by unfold Func.isWrapper; first | (rw [if_pos (by decide +kernel)]; kernel_rfl) | (rw [if_neg (by decide +kernel)]; exact ⟨rfl, rfl⟩))
    (fun os started H enc _ => lifted_DirectoryChecks os started H enc)
#print axioms directoryChecks_holds
end Go.Proofs.Ytkeipknbcjkomab
