/- For all deeds x and y, berthshiftkeep.RecordBack(x, y) returns true: a record is decoded as it was encoded; the arguments read behind the call as before it; no condition on them. -/
import Derived.Test.YtooanomcbenmeabRows
import Derived.Test.YtooanomcbenmeabKpF
namespace Go.Proofs.Ytooanomcbenmeab
open Go.ChangeShapes Go.WideShapes Go.ChangeAt Go.RowKit

theorem own : ownKnob Try.prog.godebug = none := by kernel_rfl
theorem laidOut : laidOutB Try.prog = true := by kernel_rfl
theorem bcell {W w1 : World} (hb : Below W.heap.size W w1) : (∀ b o, b < W.heap.size → w1.cell? ⟨b, o, none⟩ = W.cell? ⟨b, o, none⟩) :=
  fun b o h => hb.cell (p := ⟨b, o, none⟩) h
theorem ee (x : Int) : (x == x) = true := by simp

set_option maxHeartbeats 1000000 in
theorem walk_RecordBack (w : World) (k a b c : Int) (wx : ∀ z ∈ [k, a, b, c], (Lit.int .i64 z).wf = true) (k' a' b' c' : Int) (wy : ∀ z ∈ [k', a', b', c'], (Lit.int .i64 z).wf = true) :
    Calls Try.prog 5 #[.agg #[.int .i64 k, .int .i64 a, .int .i64 b, .int .i64 c], .agg #[.int .i64 k', .int .i64 a', .int .i64 b', .int .i64 c']] w fun e w' => e = .returned (.bool true) ∧ Below w.heap.size w w' := by
  obtain ⟨x0, x1, x2, x3, x4, x5, x6, x7, x8, x9, hrec, hf, hzz⟩ := recOf_ok k a b c k' a' b' c'
  have HREC := hide hrec
  have HF := hide hf
  have HZZ := hide hzz
  have HX := hide wx
  have HY := hide wy
  clear hrec hf hzz wx wy
  go_enter Try.func5, Try.ntmps5
  go_wp2_with fail
  refine (record_of k a b c k' a' b' c' _ (unhide HX k (by simp)) (unhide HX a (by simp)) (unhide HX b (by simp)) (unhide HX c (by simp)) (unhide HY k' (by simp)) (unhide HY a' (by simp)) (unhide HY b' (by simp)) (unhide HY c' (by simp))).mono ?_
  rintro e w1 ⟨rfl, b1⟩
  rw [unhide HREC]
  simp only [recVal, List.map_cons, List.map_nil]
  have B1 := hide (below2t b1)
  clear b1
  go_wp2_with fail
  refine (encode_of _ _ _ _ _ _ _ _ _ _ _ (unhide HF)).mono ?_
  rintro e w2 ⟨g, n, rfl, hn, r2, b2⟩
  have hn40 : n = 16 ∨ n = 40 := by
    by_cases h : x0 = 2 ∨ x0 = 5
    · rw [if_pos h] at hn; exact .inr hn
    · rw [if_neg h] at hn; exact .inl hn
  have HD : Hid (decodeOf (bytesOf x0 x1 x2 x3 x4 x5 x6 x7 x8 x9) = ([x0, x1, x2, x3, x4, x5, x6, x7, x8, x9], 0)) := hide (by
    have := decode_tail x0 x1 x2 x3 x4 x5 x6 x7 x8 x9 [] (unhide HF) (unhide HZZ)
    rw [List.append_nil] at this
    rw [this, if_pos rfl])
  clear hn
  have hc2 := bcell b2
  have hz2 : w1.heap.size < w2.heap.size := by have := b2.size; simp at this; omega
  have B2 := hide (Below.next (unhide B1) (below1t b2))
  clear b2
  go_wp2_with fail
  refine (decode_any _ n n _ _ r2 (Nat.le_refl _) (by omega)).mono ?_
  rintro e w3 ⟨rfl, b3⟩
  rw [unhide HD]
  simp only [recVal, List.map_cons, List.map_nil]
  have hc3 := bcell b3
  have hz3 : w1.heap.size < w3.heap.size := by have := b3.size; omega
  have B3 := hide (Below.next (unhide B2) b3)
  have s0 := ee x0
  have s1 := ee x1
  have s2 := ee x2
  have s3 := ee x3
  have s4 := ee x4
  have s5 := ee x5
  have s6 := ee x6
  have s7 := ee x7
  have s8 := ee x8
  have s9 := ee x9
  clear r2 b3
  rcases hn40 with rfl | rfl
  all_goals
    go_wp2
    go_ret
    exact ⟨rfl, Below.next (unhide B3) (below1 _ _)⟩

set_option linter.unusedVariables false in
set_option maxRecDepth 100000 in
theorem lifted_RecordBack (os : Os) (started : os.Started) (H : Type) (enc : TypeId × Value → H) :
    ReturnsInHanded {} Try.checked os 5 .any (Rows.recordBackSpec.pre6 enc Try.prog Try.f5 Rows.recordBackRow.domain false) (Rows.recordBackSpec.post enc Try.prog Try.f5 false true false false) := by
  refine returnsInHanded_of_change_sized (C := Try.checked) own started (by kernel_rfl) Try.func5
    (ChangeSpec.witness6 (enc := enc) (C := Try.checked) false ⟨#[], #[.agg #[.int .i64 0, .int .i64 0, .int .i64 0, .int .i64 0], .agg #[.int .i64 0, .int .i64 0, .int .i64 0, .int .i64 0]], []⟩ 8 (by kernel_rfl) (by kernel_rfl) (by kernel_rfl) (by kernel_rfl)) ?_
  intro W base args ds gs before hval0 hW hcnd hsz0 _
  have hval : ∀ (j : Nat) t v, Try.f5.params[j]? = some t → args[j]? = some v → Value.okWide Try.prog W .any base t v := hval0
  have hsz : (DataW.weightsEach Try.prog (Try.f5.params.toList ++ Rows.recordBackSpec.plain.varTypes Try.prog) (ds ++ gs)).all (· ≤ reachBytes) = true := hsz0
  have hW' := hW
  obtain ⟨p, q, hA0, hV, rfl, hfz, hnd⟩ := hW
  have hA : DataW.TrodAll enc Try.prog W 0 (fun _ => true) true Try.f5.params.toList args.toList ds p := hA0
  rw [Try.params5] at hA hval hsz
  have hK := hA
  have hlt : ∀ x ∈ p, x.block < W.heap.size := fun x hx => hW'.lt x (by simp [hx])
  obtain ⟨v0, vs0, d0, ds0, p0, q0, hargs, rfl, rfl, h0, r0⟩ := trodAll_cons hA
  obtain ⟨v1, vs1, d1, ds1, p1, q1, rfl, rfl, rfl, h1, r1⟩ := trodAll_cons r0
  obtain ⟨rfl, rfl, rfl⟩ := trodAll_nil r1
  obtain rfl : args = #[v0, v1] := by cases args; simp_all
  obtain ⟨rfl, rfl⟩ := trodVars_none hV
  obtain ⟨x0a, x0b, x0c, x0d, rfl, w0⟩ := open_Deed (hval 0 32 v0 rfl rfl) h0
  obtain ⟨x1a, x1b, x1c, x1d, rfl, w1⟩ := open_Deed (hval 1 32 v1 rfl rfl) h1
  clear hA0 hval0 hsz0
  refine (walk_RecordBack W x0a x0b x0c x0d w0 x1a x1b x1c x1d w1).mono fun e W' ⟨he, bel⟩ => ?_
  subst he
  exact ⟨_, rfl, _, _, _, [], _, [], hW', trodAll_mk1 (shut_bool Try.underlying4 _), trodAll_stays laidOut (List.forall_mem_cons.2 ⟨⟨by kernel_rfl, of_decide_eq_true (by kernel_rfl)⟩, List.forall_mem_cons.2 ⟨⟨by kernel_rfl, of_decide_eq_true (by kernel_rfl)⟩, by intro t ht; cases ht⟩⟩) hK bel hlt, rfl, bel.frame _, fun h => by cases h⟩

theorem recordBack_holds : Rows.RecordBackSaid :=
  OpenClaim.holds_of_wide 5 Try.f5 rfl rfl rfl rfl rfl rfl rfl ⟨rfl, rfl, rfl, rfl, rfl⟩ rfl rfl rfl rfl rfl (by kernel_rfl) Try.func5 (by kernel_rfl)
    (of_decide_eq_true (by kernel_rfl)) (by unfold Func.isWrapper; first | (rw [if_pos (by decide +kernel)]; kernel_rfl) | (rw [if_neg (by decide +kernel)]; exact ⟨rfl, rfl⟩))
    (fun os started H enc _ => lifted_RecordBack os started H enc)
#print axioms recordBack_holds
end Go.Proofs.Ytooanomcbenmeab
