/- berthshiftlaw.DirectoryNews() returns true: directory.New answers what the document says, and that may be. -/
import Derived.Test.YtkeipknbcjkomabRows
import Derived.Test.YtkeipknbcjkomabDrH
import Derived.Test.YtkeipknbcjkomabDrG
namespace Go.Proofs.Ytkeipknbcjkomab
open Go.ChangeShapes Go.WideShapes Go.ChangeAt Go.RowKit

theorem own : ownKnob Try.prog.godebug = none := by kernel_rfl
theorem laidOut : laidOutB Try.prog = true := by kernel_rfl

set_option maxRecDepth 20000 in
set_option maxHeartbeats 2000000 in
theorem walk_DirectoryNews (w : World) :
    Calls Try.prog 4 #[] w fun r w' => r = .returned (.bool true) ∧ Below w.heap.size w w' := by
  have hq := run_equal_places
  go_enter Try.func4, Try.ntmps4
  go_wp2_with (first
    | (go_at_call 17; refine (new_any _).mono ?_; rintro r w1 ⟨rfl, b1⟩)
    | (go_at_call 18; refine (dirNew_any _).mono ?_; rintro r w2 ⟨rfl, b2⟩; have D2 := (dirBlock.new w1 (newF 4) zeroF).next b2; obtain ⟨c0, c1, c2, c3, c4, c5, c6, c7⟩ := D2.cells; have hl := D2.lt; have hn : w1.heap.size ≠ w2.heap.size := (by omega))
    | (go_at_call 15; refine (dcheck_yes (newF 4) zeroF _ new_ok).mono ?_; rintro r w3 ⟨rfl, b3⟩))
  go_ret
  exact ⟨rfl, Below.next (Below.next (Below.next (Below.next b1 (below1 _ _)) b2) (below1 _ _)) b3⟩

set_option linter.unusedVariables false in
set_option maxRecDepth 100000 in
theorem lifted_DirectoryNews (os : Os) (started : os.Started) (H : Type) (enc : TypeId × Value → H) :
    ReturnsInHanded {} Try.checked os 4 .any (Rows.directoryNewsSpec.pre6 enc Try.prog Try.f4 Rows.directoryNewsRow.domain false) (Rows.directoryNewsSpec.post enc Try.prog Try.f4 false true false false) := by
  refine returnsInHanded_of_change_sized (C := Try.checked) own started (by kernel_rfl) Try.func4
    (ChangeSpec.witness6 (enc := enc) (C := Try.checked) false ⟨#[], #[], []⟩ 8 (by kernel_rfl) (by kernel_rfl) (by kernel_rfl) (by kernel_rfl)) ?_
  intro W base args ds gs before hval0 hW hcnd hsz0 _
  have hval : ∀ (j : Nat) t v, Try.f4.params[j]? = some t → args[j]? = some v → Value.okWide Try.prog W .any base t v := hval0
  have hsz : (DataW.weightsEach Try.prog (Try.f4.params.toList ++ Rows.directoryNewsSpec.plain.varTypes Try.prog) (ds ++ gs)).all (· ≤ reachBytes) = true := hsz0
  have hW' := hW
  obtain ⟨p, q, hA0, hV, rfl, hfz, hnd⟩ := hW
  have hA : DataW.TrodAll enc Try.prog W 0 (fun _ => true) true Try.f4.params.toList args.toList ds p := hA0
  rw [Try.params4] at hA hval hsz
  have hK := hA
  have hlt : ∀ x ∈ p, x.block < W.heap.size := fun x hx => hW'.lt x (by simp [hx])
  obtain ⟨hargs, rfl, rfl⟩ := trodAll_nil hA
  obtain rfl : args = #[] := by cases args; simp_all
  obtain ⟨rfl, rfl⟩ := trodVars_none hV
  clear hA0 hval0 hsz0
  refine (walk_DirectoryNews W ).mono fun e W' ⟨he, bel⟩ => ?_
  subst he
  exact ⟨_, rfl, _, _, _, [], _, [], hW', trodAll_mk1 (shut_bool Try.underlying4 _), trodAll_stays laidOut (by intro t ht; cases ht) hK bel hlt, rfl, bel.frame _, fun h => by cases h⟩

theorem directoryNews_holds : Rows.DirectoryNewsSaid :=
  OpenClaim.holds_of_wide 4 Try.f4 rfl rfl rfl rfl rfl rfl rfl ⟨rfl, rfl, rfl, rfl, rfl⟩ rfl rfl rfl rfl rfl (by kernel_rfl) Try.func4 (by kernel_rfl)
    (of_decide_eq_true (by kernel_rfl)) (by unfold Func.isWrapper; first | (rw [if_pos (by decide +kernel)]; kernel_rfl) | (rw [if_neg (by decide +kernel)]; exact ⟨rfl, rfl⟩))
    (fun os started H enc _ => lifted_DirectoryNews os started H enc)
#print axioms directoryNews_holds
end Go.Proofs.Ytkeipknbcjkomab
