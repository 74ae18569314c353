/- For every directory and all numbers, berthshiftlaw.DirectoryFlips returns true: directory.Flip answers what the document says; no condition on the arguments. -/
import Derived.Test.YtkeipknbcjkomabRows
import Derived.Test.YtkeipknbcjkomabDrH
import Derived.Test.YtkeipknbcjkomabDrF
import Derived.Test.YtkeipknbcjkomabDrO
namespace Go.Proofs.Ytkeipknbcjkomab
open Go.ChangeShapes Go.WideShapes Go.ChangeAt Go.RowKit

theorem own : ownKnob Try.prog.godebug = none := by kernel_rfl
theorem laidOut : laidOutB Try.prog = true := by kernel_rfl

set_option maxRecDepth 20000 in
set_option maxHeartbeats 2000000 in
theorem walk_DirectoryFlips (w : World) (n e : Nat → Int) (_ : ∀ k, k < 4 → (Lit.int .i64 (n k)).wf = true ∧ (Lit.int .i64 (e k)).wf = true) (q : Int) (_ : (Lit.int .i64 q).wf = true) (ep : Int) (_ : (Lit.int .i64 ep).wf = true) (node : Int) (_ : (Lit.int .i64 node).wf = true) :
    Calls Try.prog 7 #[dirVal n e, .int .i64 q, .int .i64 ep, .int .i64 node] w fun r w' => r = .returned (.bool true) ∧ Below w.heap.size w w' := by
  have hq := run_equal_places
  go_enter Try.func7, Try.ntmps7
  go_wp2_with (first
    | (go_at_call 23; refine (flip_any n e q ep node _).mono ?_; rintro r w1 ⟨a, b, c, rfl, h1, b1⟩; obtain ⟨c0, c1, c2, c3, c4, c5, c6, c7⟩ := ((dirBlock.new w n e).next b1).cells; have hl := ((dirBlock.new w n e).next b1).lt; have hn : w.heap.size ≠ w1.heap.size := (by omega))
    | (go_at_call 24; refine (flippedTo_any n e q ep node _).mono ?_; rintro r w2 ⟨a', b', c', rfl, h2, b2⟩; obtain ⟨rfl, rfl, rfl⟩ := h1.one h2; obtain ⟨y0, y1, y2, y3, y4, y5, y6, y7⟩ := ((dirBlock.new w1 a b).next b2).cells; have hl2 := ((dirBlock.new w1 a b).next b2).lt; have hn2 : w1.heap.size ≠ w2.heap.size := (by omega)))
  go_ret
  exact ⟨by simp, Below.next (Below.next (Below.next (Below.next (below1 _ _) b1) (below1 _ _)) b2) (below1 _ _)⟩

set_option linter.unusedVariables false in
set_option maxRecDepth 100000 in
theorem lifted_DirectoryFlips (os : Os) (started : os.Started) (H : Type) (enc : TypeId × Value → H) :
    ReturnsInHanded {} Try.checked os 7 .any (Rows.directoryFlipsSpec.pre6 enc Try.prog Try.f7 Rows.directoryFlipsRow.domain false) (Rows.directoryFlipsSpec.post enc Try.prog Try.f7 false true false false) := by
  refine returnsInHanded_of_change_sized (C := Try.checked) own started (by kernel_rfl) Try.func7
    (ChangeSpec.witness6 (enc := enc) (C := Try.checked) false ⟨#[], #[.agg #[.int .i64 0, .int .i64 0, .int .i64 0, .int .i64 0, .int .i64 0, .int .i64 0, .int .i64 0, .int .i64 0], .int .i64 0, .int .i64 0, .int .i64 0], []⟩ 8 (by kernel_rfl) (by kernel_rfl) (by kernel_rfl) (by kernel_rfl)) ?_
  intro W base args ds gs before hval0 hW hcnd hsz0 _
  have hval : ∀ (j : Nat) t v, Try.f7.params[j]? = some t → args[j]? = some v → Value.okWide Try.prog W .any base t v := hval0
  have hsz : (DataW.weightsEach Try.prog (Try.f7.params.toList ++ Rows.directoryFlipsSpec.plain.varTypes Try.prog) (ds ++ gs)).all (· ≤ reachBytes) = true := hsz0
  have hW' := hW
  obtain ⟨p, q, hA0, hV, rfl, hfz, hnd⟩ := hW
  have hA : DataW.TrodAll enc Try.prog W 0 (fun _ => true) true Try.f7.params.toList args.toList ds p := hA0
  rw [Try.params7] at hA hval hsz
  have hK := hA
  have hlt : ∀ x ∈ p, x.block < W.heap.size := fun x hx => hW'.lt x (by simp [hx])
  obtain ⟨v0, vs0, d0, ds0, p0, q0, hargs, rfl, rfl, h0, r0⟩ := trodAll_cons hA
  obtain ⟨v1, vs1, d1, ds1, p1, q1, rfl, rfl, rfl, h1, r1⟩ := trodAll_cons r0
  obtain ⟨v2, vs2, d2, ds2, p2, q2, rfl, rfl, rfl, h2, r2⟩ := trodAll_cons r1
  obtain ⟨v3, vs3, d3, ds3, p3, q3, rfl, rfl, rfl, h3, r3⟩ := trodAll_cons r2
  obtain ⟨rfl, rfl, rfl⟩ := trodAll_nil r3
  obtain rfl : args = #[v0, v1, v2, v3] := by cases args; simp_all
  obtain ⟨rfl, rfl⟩ := trodVars_none hV
  obtain ⟨n0, e0, rfl, w0⟩ := open_Directory (hval 0 26 v0 rfl rfl) h0
  obtain ⟨a1, rfl, rfl, rfl, w1⟩ := open_int Try.underlying3 (hval 1 3 v1 rfl rfl) h1
  obtain ⟨a2, rfl, rfl, rfl, w2⟩ := open_int Try.underlying3 (hval 2 3 v2 rfl rfl) h2
  obtain ⟨a3, rfl, rfl, rfl, w3⟩ := open_int Try.underlying3 (hval 3 3 v3 rfl rfl) h3
  clear hA0 hval0 hsz0
  refine (walk_DirectoryFlips W n0 e0 w0 a1 w1 a2 w2 a3 w3).mono fun e W' ⟨he, bel⟩ => ?_
  subst he
  exact ⟨_, rfl, _, _, _, [], _, [], hW', trodAll_mk1 (shut_bool Try.underlying4 _), trodAll_stays laidOut (List.forall_mem_cons.2 ⟨⟨by kernel_rfl, of_decide_eq_true (by kernel_rfl)⟩, List.forall_mem_cons.2 ⟨⟨by kernel_rfl, of_decide_eq_true (by kernel_rfl)⟩, List.forall_mem_cons.2 ⟨⟨by kernel_rfl, of_decide_eq_true (by kernel_rfl)⟩, List.forall_mem_cons.2 ⟨⟨by kernel_rfl, of_decide_eq_true (by kernel_rfl)⟩, by intro t ht; cases ht⟩⟩⟩⟩) hK bel hlt, rfl, bel.frame _, fun h => by cases h⟩

theorem directoryFlips_holds : Rows.DirectoryFlipsSaid :=
  OpenClaim.holds_of_wide 7 Try.f7 rfl rfl rfl rfl rfl rfl rfl ⟨rfl, rfl, rfl, rfl, rfl⟩ rfl rfl rfl rfl rfl (by kernel_rfl) Try.func7 (by kernel_rfl)
    (of_decide_eq_true (by kernel_rfl)) (by unfold Func.isWrapper; first | (rw [if_pos (by decide +kernel)]; kernel_rfl) | (rw [if_neg (by decide +kernel)]; exact ⟨rfl, rfl⟩))
    (fun os started H enc _ => lifted_DirectoryFlips os started H enc)
#print axioms directoryFlips_holds
end Go.Proofs.Ytkeipknbcjkomab
