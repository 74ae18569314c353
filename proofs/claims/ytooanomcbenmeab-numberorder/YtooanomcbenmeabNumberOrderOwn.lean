/- For all ints a and b, berthshiftkeep.NumberOrder(a, b) returns true: greater numbers have greater bytes; no condition on a and b. -/
import Derived.Test.YtooanomcbenmeabRows
import Derived.Test.YtooanomcbenmeabKpA
namespace Go.Proofs.Ytooanomcbenmeab
open Go.ChangeShapes Go.WideShapes Go.ChangeAt Go.RowKit

theorem own : ownKnob Try.prog.godebug = none := by kernel_rfl
theorem laidOut : laidOutB Try.prog = true := by kernel_rfl

set_option maxHeartbeats 1000000 in
theorem walk_NumberOrder (w : World) (m : Int) (wm : (Lit.int .i64 m).wf = true) (n : Int) (wn : (Lit.int .i64 n).wf = true) :
    Calls Try.prog 4 #[.int .i64 m, .int .i64 n] w fun e w' => e = .returned (.bool true) ∧ Below w.heap.size w w' := by
  obtain ⟨x0, x1⟩ := pickedOf_range m 2147483648 (by omega)
  obtain ⟨y0, y1⟩ := pickedOf_range n 2147483648 (by omega)
  go_enter Try.func4, Try.ntmps4
  go_wp2_with fail
  refine (picked_any m 2147483648 _ wm (by omega) (by omega)).mono ?_
  rintro e w0 ⟨rfl, rfl⟩
  go_wp2_with fail
  refine (picked_any n 2147483648 _ wn (by omega) (by omega)).mono ?_
  rintro e w0 ⟨rfl, rfl⟩
  generalize pickedOf m 2147483648 = x at x0 x1
  generalize pickedOf n 2147483648 = y at y0 y1
  clear wm wn
  go_wp2_with fail
  refine (number_yes x _ x0 (by omega)).mono ?_
  rintro e w1 ⟨rfl, q1, b1⟩
  go_wp2_with fail
  refine (number_yes y _ y0 (by omega)).mono ?_
  rintro e w2 ⟨rfl, q2, b2⟩
  have c1 := run_string_row (P := Try.prog) 22 5 Try.underlying22 Try.underlying5 (cap := 4) (q1.below b2) 9 Try.underlying9
  have c2 := run_string_row (P := Try.prog) 22 5 Try.underlying22 Try.underlying5 (cap := 4) q2 9 Try.underlying9
  have HL := byteLess_four x y x0 (by omega) y0 (by omega)
  clear q1 q2
  go_wp2
  go_ret
  exact ⟨rfl, Below.next b1 b2⟩

set_option linter.unusedVariables false in
set_option maxRecDepth 100000 in
theorem lifted_NumberOrder (os : Os) (started : os.Started) (H : Type) (enc : TypeId × Value → H) :
    ReturnsInHanded {} Try.checked os 4 .any (Rows.numberOrderSpec.pre6 enc Try.prog Try.f4 Rows.numberOrderRow.domain false) (Rows.numberOrderSpec.post enc Try.prog Try.f4 false true false false) := by
  refine returnsInHanded_of_change_sized (C := Try.checked) own started (by kernel_rfl) Try.func4
    (ChangeSpec.witness6 (enc := enc) (C := Try.checked) false ⟨#[], #[.int .i64 0, .int .i64 0], []⟩ 8 (by kernel_rfl) (by kernel_rfl) (by kernel_rfl) (by kernel_rfl)) ?_
  intro W base args ds gs before hval0 hW hcnd hsz0 _
  have hval : ∀ (j : Nat) t v, Try.f4.params[j]? = some t → args[j]? = some v → Value.okWide Try.prog W .any base t v := hval0
  have hsz : (DataW.weightsEach Try.prog (Try.f4.params.toList ++ Rows.numberOrderSpec.plain.varTypes Try.prog) (ds ++ gs)).all (· ≤ reachBytes) = true := hsz0
  have hW' := hW
  obtain ⟨p, q, hA0, hV, rfl, hfz, hnd⟩ := hW
  have hA : DataW.TrodAll enc Try.prog W 0 (fun _ => true) true Try.f4.params.toList args.toList ds p := hA0
  rw [Try.params4] at hA hval hsz
  have hK := hA
  have hlt : ∀ x ∈ p, x.block < W.heap.size := fun x hx => hW'.lt x (by simp [hx])
  obtain ⟨v0, vs0, d0, ds0, p0, q0, hargs, rfl, rfl, h0, r0⟩ := trodAll_cons hA
  obtain ⟨v1, vs1, d1, ds1, p1, q1, rfl, rfl, rfl, h1, r1⟩ := trodAll_cons r0
  obtain ⟨rfl, rfl, rfl⟩ := trodAll_nil r1
  obtain rfl : args = #[v0, v1] := by cases args; simp_all
  obtain ⟨rfl, rfl⟩ := trodVars_none hV
  obtain ⟨a0, rfl, rfl, rfl, w0⟩ := open_int Try.underlying3 (hval 0 3 v0 rfl rfl) h0
  obtain ⟨a1, rfl, rfl, rfl, w1⟩ := open_int Try.underlying3 (hval 1 3 v1 rfl rfl) h1
  clear hA0 hval0 hsz0
  refine (walk_NumberOrder W a0 w0 a1 w1).mono fun e W' ⟨he, bel⟩ => ?_
  subst he
  exact ⟨_, rfl, _, _, _, [], _, [], hW', trodAll_mk1 (shut_bool Try.underlying4 _), trodAll_stays laidOut (List.forall_mem_cons.2 ⟨⟨by kernel_rfl, of_decide_eq_true (by kernel_rfl)⟩, List.forall_mem_cons.2 ⟨⟨by kernel_rfl, of_decide_eq_true (by kernel_rfl)⟩, by intro t ht; cases ht⟩⟩) hK bel hlt, rfl, bel.frame _, fun h => by cases h⟩

theorem numberOrder_holds : Rows.NumberOrderSaid :=
  OpenClaim.holds_of_wide 4 Try.f4 rfl rfl rfl rfl rfl rfl rfl ⟨rfl, rfl, rfl, rfl, rfl⟩ rfl rfl rfl rfl rfl (by kernel_rfl) Try.func4 (by kernel_rfl)
    (of_decide_eq_true (by kernel_rfl)) (by unfold Func.isWrapper; first | (rw [if_pos (by decide +kernel)]; kernel_rfl) | (rw [if_neg (by decide +kernel)]; exact ⟨rfl, rfl⟩))
    (fun os started H enc _ => lifted_NumberOrder os started H enc)
#print axioms numberOrder_holds
end Go.Proofs.Ytooanomcbenmeab
