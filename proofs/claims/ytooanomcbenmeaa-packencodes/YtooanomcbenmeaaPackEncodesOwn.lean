/- For every record r, berthshiftlaw.PackEncodes(r) returns true: pack.Encode answers what the document's answer (P1.5) says; r reads behind the call as before it; no condition on r. -/
import Derived.Test.YtooanomcbenmeaaRows
import Derived.Test.YtooanomcbenmeaaPkI
import Derived.Test.YtooanomcbenmeaaPkO
namespace Go.Proofs.Ytooanomcbenmeaa
open Go.ChangeShapes Go.WideShapes Go.ChangeAt Go.RowKit

theorem own : ownKnob Try.prog.godebug = none := by kernel_rfl
theorem laidOut : laidOutB Try.prog = true := by kernel_rfl
theorem bcell {W w1 : World} (hb : Below W.heap.size W w1) : (∀ b o, b < W.heap.size → w1.cell? ⟨b, o, none⟩ = W.cell? ⟨b, o, none⟩) :=
  fun b o h => hb.cell (p := ⟨b, o, none⟩) h

/- what Encode and RecordBytes answer alike. -/
theorem walk_yes (k q ep pe ek p i b he hn : Int) (w : World) (L : List Int) (n : Nat)
    (h1 : ∀ w : World, Calls Try.prog 19 #[.agg #[.int .i64 k, .int .i64 q, .int .i64 ep, .int .i64 pe, .int .i64 ek, .int .i64 p, .int .i64 i, .int .i64 b, .int .i64 he, .int .i64 hn]] w fun e w' => ∃ g, e = .returned (.tuple #[.slice (some ⟨g, 0, none⟩) n n, .int .i64 0]) ∧ RowK .u8 w' (some ⟨g, 0, none⟩) n L ∧ Below w.heap.size w w')
    (h2 : ∀ w : World, Calls Try.prog 20 #[.agg #[.int .i64 k, .int .i64 q, .int .i64 ep, .int .i64 pe, .int .i64 ek, .int .i64 p, .int .i64 i, .int .i64 b, .int .i64 he, .int .i64 hn]] w fun e w' => ∃ g cap, e = .returned (.tuple #[.slice (some ⟨g, 0, none⟩) n cap, .int .i64 0]) ∧ RowK .u8 w' (some ⟨g, 0, none⟩) n L ∧ Below w.heap.size w w') :
    Calls Try.prog 7 #[.agg #[.int .i64 k, .int .i64 q, .int .i64 ep, .int .i64 pe, .int .i64 ek, .int .i64 p, .int .i64 i, .int .i64 b, .int .i64 he, .int .i64 hn]] w fun e w' => e = .returned (.bool true) ∧ Below w.heap.size w w' := by
  have H1 : Hid (∀ w : World, _) := h1
  have H2 : Hid (∀ w : World, _) := h2
  clear h1 h2
  go_enter Try.func7, Try.ntmps7
  go_wp2_with fail
  refine (H1.out _).mono ?_
  rintro e w1 ⟨g, rfl, r1, b1⟩
  have hc := bcell b1
  have hz : w.heap.size < w1.heap.size := by have := b1.size; simp at this; omega
  go_wp2_with fail
  refine (H2.out _).mono ?_
  rintro e w2 ⟨g', cap, rfl, r2, b2⟩
  clear hc
  go_wp2_with fail
  refine (same_any _ _ _ _ _ _ _ _ _ (r1.below b2) r2).mono ?_
  rintro e w3 ⟨rfl, rfl⟩
  go_wp2
  go_ret
  exact ⟨by simp, Below.next (below1t b1) b2⟩

set_option linter.unusedVariables false in
set_option maxHeartbeats 400000 in
theorem walk_PackEncodes (w : World) (k q ep pe ek p i b he hn : Int) (hw : ∀ z ∈ [k, q, ep, pe, ek, p, i, b, he, hn], (Lit.int .i64 z).wf = true) :
    Calls Try.prog 7 #[.agg #[.int .i64 k, .int .i64 q, .int .i64 ep, .int .i64 pe, .int .i64 ek, .int .i64 p, .int .i64 i, .int .i64 b, .int .i64 he, .int .i64 hn]] w fun e w' => e = .returned (.bool true) ∧ Below w.heap.size w w' := by
  clear hw
  by_cases h : recordFault k q ep pe ek p i b he hn = 0
  · by_cases hk : k = 2 ∨ k = 5
    · refine walk_yes k q ep pe ek p i b he hn w (fours [k, q, ep, pe, ek, p, i, b, he, hn]) 40 (fun w => (encode_ten k q ep pe ek p i b he hn w h hk).mono ?_) (fun w => bytes_ten k q ep pe ek p i b he hn w h hk)
      rintro e w' ⟨g, he, _, hr, hb⟩
      exact ⟨g, he, hr, hb⟩
    · refine walk_yes k q ep pe ek p i b he hn w (fours [k, q, ep, pe]) 16 (fun w => (encode_four k q ep pe ek p i b he hn w h hk).mono ?_) (fun w => bytes_four k q ep pe ek p i b he hn w h hk)
      rintro e w' ⟨g, he, _, hr, hb⟩
      exact ⟨g, he, hr, hb⟩
  · have H : Hid (¬ recordFault k q ep pe ek p i b he hn = 0) := h
    clear h
    go_enter Try.func7, Try.ntmps7
    go_wp2_with fail
    refine (encode_no _ _ _ _ _ _ _ _ _ _ _ H.out).mono ?_
    rintro e w1 ⟨rfl, b1⟩
    have hc := bcell b1
    have hz : w.heap.size < w1.heap.size := by have := b1.size; simp at this; omega
    go_wp2_with fail
    refine (bytes_no _ _ _ _ _ _ _ _ _ _ _ H.out).mono ?_
    rintro e w2 ⟨rfl, b2⟩
    clear hc
    have ev : (recordFault k q ep pe ek p i b he hn == recordFault k q ep pe ek p i b he hn) = true := by simp
    go_wp2_with fail
    refine (same_any _ _ _ _ _ _ _ _ _ (RowK.nil _ _ _) (RowK.nil _ _ _)).mono ?_
    rintro e w3 ⟨rfl, rfl⟩
    go_wp2
    go_ret
    exact ⟨by simp, Below.next (below1t b1) b2⟩

set_option linter.unusedVariables false in
set_option maxRecDepth 100000 in
theorem lifted_PackEncodes (os : Os) (started : os.Started) (H : Type) (enc : TypeId × Value → H) :
    ReturnsInHanded {} Try.checked os 7 .any (Rows.packEncodesSpec.pre6 enc Try.prog Try.f7 Rows.packEncodesRow.domain false) (Rows.packEncodesSpec.post enc Try.prog Try.f7 false true false false) := by
  refine returnsInHanded_of_change_sized (C := Try.checked) own started (by kernel_rfl) Try.func7
    (ChangeSpec.witness6 (enc := enc) (C := Try.checked) false ⟨#[], #[.agg #[.int .i64 0, .int .i64 0, .int .i64 0, .int .i64 0, .int .i64 0, .int .i64 0, .int .i64 0, .int .i64 0, .int .i64 0, .int .i64 0]], []⟩ 8 (by kernel_rfl) (by kernel_rfl) (by kernel_rfl) (by kernel_rfl)) ?_
  intro W base args ds gs before hval0 hW hcnd hsz0 _
  have hval : ∀ (j : Nat) t v, Try.f7.params[j]? = some t → args[j]? = some v → Value.okWide Try.prog W .any base t v := hval0
  have hsz : (DataW.weightsEach Try.prog (Try.f7.params.toList ++ Rows.packEncodesSpec.plain.varTypes Try.prog) (ds ++ gs)).all (· ≤ reachBytes) = true := hsz0
  have hW' := hW
  obtain ⟨p, q, hA0, hV, rfl, hfz, hnd⟩ := hW
  have hA : DataW.TrodAll enc Try.prog W 0 (fun _ => true) true Try.f7.params.toList args.toList ds p := hA0
  rw [Try.params7] at hA hval hsz
  have hK := hA
  have hlt : ∀ x ∈ p, x.block < W.heap.size := fun x hx => hW'.lt x (by simp [hx])
  obtain ⟨v0, vs0, d0, ds0, p0, q0, hargs, rfl, rfl, h0, r0⟩ := trodAll_cons hA
  obtain ⟨rfl, rfl, rfl⟩ := trodAll_nil r0
  obtain rfl : args = #[v0] := by cases args; simp_all
  obtain ⟨rfl, rfl⟩ := trodVars_none hV
  obtain ⟨x0a, x0b, x0c, x0d, x0e, x0f, x0g, x0h, x0i, x0j, rfl, w0⟩ := open_Record (hval 0 39 v0 rfl rfl) h0
  clear hA0 hval0 hsz0
  refine (walk_PackEncodes W x0a x0b x0c x0d x0e x0f x0g x0h x0i x0j w0).mono fun e W' ⟨he, bel⟩ => ?_
  subst he
  exact ⟨_, rfl, _, _, _, [], _, [], hW', trodAll_mk1 (shut_bool Try.underlying4 _), trodAll_stays laidOut (List.forall_mem_cons.2 ⟨⟨by kernel_rfl, of_decide_eq_true (by kernel_rfl)⟩, by intro t ht; cases ht⟩) hK bel hlt, rfl, bel.frame _, fun h => by cases h⟩

theorem packEncodes_holds : Rows.PackEncodesSaid :=
  OpenClaim.holds_of_wide 7 Try.f7 rfl rfl rfl rfl rfl rfl rfl ⟨rfl, rfl, rfl, rfl, rfl⟩ rfl rfl rfl rfl rfl (by kernel_rfl) Try.func7 (by kernel_rfl)
    (of_decide_eq_true (by kernel_rfl)) (by unfold Func.isWrapper; first | (rw [if_pos (by decide +kernel)]; kernel_rfl) | (rw [if_neg (by decide +kernel)]; exact ⟨rfl, rfl⟩))
    (fun os started H enc _ => lifted_PackEncodes os started H enc)
#print axioms packEncodes_holds
end Go.Proofs.Ytooanomcbenmeaa
