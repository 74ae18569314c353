/- For all deeds x and y, berthshiftkeep.RecordSize(x, y) returns true: a record with an event has forty bytes, another one sixteen, and the first four are its kind; the arguments read behind the call as before it; no condition on them. -/
import Derived.Test.YtooanomcbenmeacRows
import Derived.Test.YtooanomcbenmeacKpF
namespace Go.Proofs.Ytooanomcbenmeac
open Go.ChangeShapes Go.WideShapes Go.ChangeAt Go.RowKit

theorem own : ownKnob Try.prog.godebug = none := by kernel_rfl
theorem laidOut : laidOutB Try.prog = true := by kernel_rfl
theorem bcell {W w1 : World} (hb : Below W.heap.size W w1) : (∀ b o, b < W.heap.size → w1.cell? ⟨b, o, none⟩ = W.cell? ⟨b, o, none⟩) :=
  fun b o h => hb.cell (p := ⟨b, o, none⟩) h
theorem ee (x : Int) : (x == x) = true := by simp

set_option maxHeartbeats 1000000 in
theorem walk_RecordSize (w : World) (k a b c : Int) (wx : ∀ z ∈ [k, a, b, c], (Lit.int .i64 z).wf = true) (k' a' b' c' : Int) (wy : ∀ z ∈ [k', a', b', c'], (Lit.int .i64 z).wf = true) :
    Calls Try.prog 3 #[.agg #[.int .i64 k, .int .i64 a, .int .i64 b, .int .i64 c], .agg #[.int .i64 k', .int .i64 a', .int .i64 b', .int .i64 c']] w fun e w' => e = .returned (.bool true) ∧ Below w.heap.size w w' := by
  obtain ⟨x0, x1, x2, x3, x4, x5, x6, x7, x8, x9, hrec, hf, hzz⟩ := recOf_ok k a b c k' a' b' c'
  have HREC := hide hrec
  have HF := hide hf
  have HZZ := hide hzz
  have HX := hide wx
  have HY := hide wy
  clear hrec hf hzz wx wy
  go_enter Try.func3, Try.ntmps3
  go_wp2_with fail
  refine (record_of k a b c k' a' b' c' _ (unhide HX k (by simp)) (unhide HX a (by simp)) (unhide HX b (by simp)) (unhide HX c (by simp)) (unhide HY k' (by simp)) (unhide HY a' (by simp)) (unhide HY b' (by simp)) (unhide HY c' (by simp))).mono ?_
  rintro e w1 ⟨rfl, b1⟩
  rw [unhide HREC]
  simp only [recVal, List.map_cons, List.map_nil]
  have B1 := hide (below2t b1)
  clear b1
  go_wp2_with fail
  refine (encode_of _ _ _ _ _ _ _ _ _ _ _ (unhide HF)).mono ?_
  rintro e w2 ⟨g, n, rfl, hn, r2, b2⟩
  have hc2 := bcell b2
  have hz2 : w1.heap.size < w2.heap.size := by have := b2.size; simp at this; omega
  have B2 := hide (Below.next (unhide B1) (below1t b2))
  clear b2
  have hr0 := recordNums_range (unhide HF) x0 (by simp)
  have HT : Hid (takenOf (bytesOf x0 x1 x2 x3 x4 x5 x6 x7 x8 x9) = (x0, 0)) := hide (by
    unfold bytesOf
    split
    · exact takenOf_four x0 (fours [x1, x2, x3, x4, x5, x6, x7, x8, x9]) hr0.1 hr0.2
    · exact takenOf_four x0 (fours [x1, x2, x3]) hr0.1 hr0.2)
  clear hr0
  have W : (n = 40 ∧ (x0 == 2) = true) ∨ (n = 40 ∧ (x0 == 2) = false ∧ (x0 == 5) = true) ∨ (n = 16 ∧ (x0 == 2) = false ∧ (x0 == 5) = false) := by
    by_cases h2 : x0 = 2
    · exact .inl ⟨by rw [hn, if_pos (.inl h2)], by simpa using h2⟩
    · by_cases h5 : x0 = 5
      · exact .inr (.inl ⟨by rw [hn, if_pos (.inr h5)], by simpa using h2, by simpa using h5⟩)
      · exact .inr (.inr ⟨by rw [hn, if_neg (by omega)], by simpa using h2, by simpa using h5⟩)
  clear hn
  have s0 := ee x0
  rcases W with ⟨rfl, h2⟩ | ⟨rfl, h2, h5⟩ | ⟨rfl, h2, h5⟩
  all_goals
    go_wp2_with fail
    refine (take_any _ _ _ _ _ r2).mono ?_
    rintro e w3 ⟨rfl, q, rfl⟩
    rw [unhide HT]
    go_wp2
    go_ret
    exact ⟨rfl, (unhide B2).trans ⟨rfl, rfl, rfl, Nat.le_refl _, fun _ _ => rfl⟩⟩

set_option linter.unusedVariables false in
set_option maxRecDepth 100000 in
theorem lifted_RecordSize (os : Os) (started : os.Started) (H : Type) (enc : TypeId × Value → H) :
    ReturnsInHanded {} Try.checked os 3 .any (Rows.recordSizeSpec.pre6 enc Try.prog Try.f3 Rows.recordSizeRow.domain false) (Rows.recordSizeSpec.post enc Try.prog Try.f3 false true false false) := by
  refine returnsInHanded_of_change_sized (C := Try.checked) own started (by kernel_rfl) Try.func3
    (ChangeSpec.witness6 (enc := enc) (C := Try.checked) false ⟨#[], #[.agg #[.int .i64 0, .int .i64 0, .int .i64 0, .int .i64 0], .agg #[.int .i64 0, .int .i64 0, .int .i64 0, .int .i64 0]], []⟩ 8 (by kernel_rfl) (by kernel_rfl) (by kernel_rfl) (by kernel_rfl)) ?_
  intro W base args ds gs before hval0 hW hcnd hsz0 _
  have hval : ∀ (j : Nat) t v, Try.f3.params[j]? = some t → args[j]? = some v → Value.okWide Try.prog W .any base t v := hval0
  have hsz : (DataW.weightsEach Try.prog (Try.f3.params.toList ++ Rows.recordSizeSpec.plain.varTypes Try.prog) (ds ++ gs)).all (· ≤ reachBytes) = true := hsz0
  have hW' := hW
  obtain ⟨p, q, hA0, hV, rfl, hfz, hnd⟩ := hW
  have hA : DataW.TrodAll enc Try.prog W 0 (fun _ => true) true Try.f3.params.toList args.toList ds p := hA0
  rw [Try.params3] at hA hval hsz
  have hK := hA
  have hlt : ∀ x ∈ p, x.block < W.heap.size := fun x hx => hW'.lt x (by simp [hx])
  obtain ⟨v0, vs0, d0, ds0, p0, q0, hargs, rfl, rfl, h0, r0⟩ := trodAll_cons hA
  obtain ⟨v1, vs1, d1, ds1, p1, q1, rfl, rfl, rfl, h1, r1⟩ := trodAll_cons r0
  obtain ⟨rfl, rfl, rfl⟩ := trodAll_nil r1
  obtain rfl : args = #[v0, v1] := by cases args; simp_all
  obtain ⟨rfl, rfl⟩ := trodVars_none hV
  obtain ⟨x0a, x0b, x0c, x0d, rfl, w0⟩ := open_Deed (hval 0 23 v0 rfl rfl) h0
  obtain ⟨x1a, x1b, x1c, x1d, rfl, w1⟩ := open_Deed (hval 1 23 v1 rfl rfl) h1
  clear hA0 hval0 hsz0
  refine (walk_RecordSize W x0a x0b x0c x0d w0 x1a x1b x1c x1d w1).mono fun e W' ⟨he, bel⟩ => ?_
  subst he
  exact ⟨_, rfl, _, _, _, [], _, [], hW', trodAll_mk1 (shut_bool Try.underlying4 _), trodAll_stays laidOut (List.forall_mem_cons.2 ⟨⟨by kernel_rfl, of_decide_eq_true (by kernel_rfl)⟩, List.forall_mem_cons.2 ⟨⟨by kernel_rfl, of_decide_eq_true (by kernel_rfl)⟩, by intro t ht; cases ht⟩⟩) hK bel hlt, rfl, bel.frame _, fun h => by cases h⟩

theorem recordSize_holds : Rows.RecordSizeSaid :=
  OpenClaim.holds_of_wide 3 Try.f3 rfl rfl rfl rfl rfl rfl rfl ⟨rfl, rfl, rfl, rfl, rfl⟩ rfl rfl rfl rfl rfl (by kernel_rfl) Try.func3 (by kernel_rfl)
    (of_decide_eq_true (by kernel_rfl)) (by unfold Func.isWrapper; first | (rw [if_pos (by decide +kernel)]; kernel_rfl) | (rw [if_neg (by decide +kernel)]; exact ⟨rfl, rfl⟩))
    (fun os started H enc _ => lifted_RecordSize os started H enc)
#print axioms recordSize_holds
end Go.Proofs.Ytooanomcbenmeac
