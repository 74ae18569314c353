/- For every window w and every number id, berthshiftlaw.WindowTakes(w, id) returns true: window.Take answers what the document's answer (P3.3) says; the arguments read behind the call as before it; no condition on them. -/
import Derived.Test.YthbjnjbcmcollaaRows
import Derived.Test.YthbjnjbcmcollaaWdK
import Derived.Test.YthbjnjbcmcollaaWdO
namespace Go.Proofs.Ythbjnjbcmcollaa
open Go.ChangeShapes Go.WideShapes Go.ChangeAt Go.RowKit

theorem own : ownKnob Try.prog.godebug = none := by kernel_rfl
theorem laidOut : laidOutB Try.prog = true := by kernel_rfl

set_option maxHeartbeats 1000000 in
theorem walk_WindowTakes (w : World) (t : Int) (s : Nat → Bool) (_ : (Lit.int .i64 t).wf = true) (id : Int) (_ : (Lit.int .i64 id).wf = true) :
    Calls Try.prog 5 #[winVal t s, .int .i64 id] w fun e w' => e = .returned (.bool true) ∧ Below w.heap.size w w' := by
  obtain ⟨T, S, b, v, H1, H2⟩ : ∃ T S b v, (∀ w, Calls Try.prog 13 #[winVal t s, .int .i64 id] w fun e w' => e = .returned (.tuple #[winVal T S, .bool b, .int .i64 v]) ∧ Below w.heap.size w w') ∧
      (∀ w, Calls Try.prog 14 #[winVal t s, .int .i64 id] w fun e w' => e = .returned (.tuple #[winVal T S, .bool b, .int .i64 v]) ∧ Below w.heap.size w w') := by
    by_cases h : WinOk t s
    · by_cases hr : 0 ≤ id ∧ id ≤ 1073741824
      · by_cases hlow : id < t - 8
        · exact ⟨0, noneS, false, 9, fun w => take_low t id s w h hr.1 hr.2 hlow, fun w => idTaken_err t id 9 s w (by decide) fun w => idSeen_low t id s w h hr.1 hr.2 hlow⟩
        · cases hi : inWin t s id
          · exact ⟨takeT t id, takeS t s id, true, 0, fun w => take_new t id s w h hr.1 hr.2 (by omega) hi, fun w => idTaken_new t id s w h hr.1 hr.2 (by omega) hi⟩
          · exact ⟨t, s, false, 0, fun w => take_old t id s w h hr.1 hr.2 hi, fun w => idTaken_old t id s w h hr.1 hr.2 hi⟩
      · exact ⟨0, noneS, false, 2, fun w => take_range t id s w h hr, fun w => idTaken_err t id 2 s w (by decide) fun w => idSeen_range t id s w h hr⟩
    · exact ⟨0, noneS, false, 6, fun w => take_state t id s w h, fun w => idTaken_err t id 6 s w (by decide) fun w => idSeen_state t id s w h⟩
  have ev : (v == v) = true := by simp
  have eb : (b == b) = true := by simp
  have hq := run_equal_seen
  go_enter Try.func5, Try.ntmps5
  go_wp2_with fail
  obtain ⟨W, hW, wb0, B0, S0⟩ := one_box w t s
  rw [← hW]
  clear hW
  refine (H1 _).mono ?_
  rintro e w1 ⟨rfl, b1⟩
  have wb := wb0.next b1
  obtain ⟨c0, c1, c2, c3, c4, c5, c6, c7, c8⟩ := wb.cells
  have hRw := wb.lt
  have B1 := Below.next B0 b1
  go_wp2_with fail
  obtain ⟨W2, hW2, wc0, B2, S2⟩ := one_box w1 T S
  rw [← hW2]
  clear hW2 c0 c1 c2 c3 c4 c5 c6 c7 c8
  refine (H2 _).mono ?_
  rintro e w3 ⟨rfl, b3⟩
  have wc := wc0.next b3
  have hR := wc.lt
  have hR2 : ¬ w1.heap.size = w3.heap.size := by omega
  obtain ⟨c0, c1, c2, c3, c4, c5, c6, c7, c8⟩ := wc.cells
  have B3 := Below.next (Below.next B1 B2) b3
  clear wc wc0 wb wb0 H1 H2 S0 S2 b1 B0 B2 b3
  go_wp2
  go_ret
  exact ⟨rfl, Below.next B3 (below1 _ _)⟩

set_option linter.unusedVariables false in
set_option maxRecDepth 100000 in
theorem lifted_WindowTakes (os : Os) (started : os.Started) (H : Type) (enc : TypeId × Value → H) :
    ReturnsInHanded {} Try.checked os 5 .any (Rows.windowTakesSpec.pre6 enc Try.prog Try.f5 Rows.windowTakesRow.domain false) (Rows.windowTakesSpec.post enc Try.prog Try.f5 false true false false) := by
  refine returnsInHanded_of_change_sized (C := Try.checked) own started (by kernel_rfl) Try.func5
    (ChangeSpec.witness6 (enc := enc) (C := Try.checked) false ⟨#[], #[.agg #[.int .i64 0, .bool false, .bool false, .bool false, .bool false, .bool false, .bool false, .bool false, .bool false], .int .i64 0], []⟩ 8 (by kernel_rfl) (by kernel_rfl) (by kernel_rfl) (by kernel_rfl)) ?_
  intro W base args ds gs before hval0 hW hcnd hsz0 _
  have hval : ∀ (j : Nat) t v, Try.f5.params[j]? = some t → args[j]? = some v → Value.okWide Try.prog W .any base t v := hval0
  have hsz : (DataW.weightsEach Try.prog (Try.f5.params.toList ++ Rows.windowTakesSpec.plain.varTypes Try.prog) (ds ++ gs)).all (· ≤ reachBytes) = true := hsz0
  have hW' := hW
  obtain ⟨p, q, hA0, hV, rfl, hfz, hnd⟩ := hW
  have hA : DataW.TrodAll enc Try.prog W 0 (fun _ => true) true Try.f5.params.toList args.toList ds p := hA0
  rw [Try.params5] at hA hval hsz
  have hK := hA
  have hlt : ∀ x ∈ p, x.block < W.heap.size := fun x hx => hW'.lt x (by simp [hx])
  obtain ⟨v0, vs0, d0, ds0, p0, q0, hargs, rfl, rfl, h0, r0⟩ := trodAll_cons hA
  obtain ⟨v1, vs1, d1, ds1, p1, q1, rfl, rfl, rfl, h1, r1⟩ := trodAll_cons r0
  obtain ⟨rfl, rfl, rfl⟩ := trodAll_nil r1
  obtain rfl : args = #[v0, v1] := by cases args; simp_all
  obtain ⟨rfl, rfl⟩ := trodVars_none hV
  obtain ⟨t0, s0, rfl, w0⟩ := open_Window (hval 0 24 v0 rfl rfl) h0
  obtain ⟨a1, rfl, rfl, rfl, w1⟩ := open_int Try.underlying3 (hval 1 3 v1 rfl rfl) h1
  clear hA0 hval0 hsz0
  refine (walk_WindowTakes W t0 s0 w0 a1 w1).mono fun e W' ⟨he, bel⟩ => ?_
  subst he
  exact ⟨_, rfl, _, _, _, [], _, [], hW', trodAll_mk1 (shut_bool Try.underlying4 _), trodAll_stays laidOut (List.forall_mem_cons.2 ⟨⟨by kernel_rfl, of_decide_eq_true (by kernel_rfl)⟩, List.forall_mem_cons.2 ⟨⟨by kernel_rfl, of_decide_eq_true (by kernel_rfl)⟩, by intro t ht; cases ht⟩⟩) hK bel hlt, rfl, bel.frame _, fun h => by cases h⟩

theorem windowTakes_holds : Rows.WindowTakesSaid :=
  OpenClaim.holds_of_wide 5 Try.f5 rfl rfl rfl rfl rfl rfl rfl ⟨rfl, rfl, rfl, rfl, rfl⟩ rfl rfl rfl rfl rfl (by kernel_rfl) Try.func5 (by kernel_rfl)
    (of_decide_eq_true (by kernel_rfl)) (by unfold Func.isWrapper; first | (rw [if_pos (by decide +kernel)]; kernel_rfl) | (rw [if_neg (by decide +kernel)]; exact ⟨rfl, rfl⟩))
    (fun os started H enc _ => lifted_WindowTakes os started H enc)
#print axioms windowTakes_holds
end Go.Proofs.Ythbjnjbcmcollaa
