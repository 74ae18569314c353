/- For every int n and every slice of bytes tail, berthshiftkeep.NumberBack(n, tail) returns true: a number is taken as it was put, whatever stands behind it; the arguments read behind the call as before it; no condition on them. -/
import Derived.Test.YtooanomcbenmeabRows
import Derived.Test.YtooanomcbenmeabKpA
namespace Go.Proofs.Ytooanomcbenmeab
open Go.ChangeShapes Go.WideShapes Go.ChangeAt Go.RowKit

theorem own : ownKnob Try.prog.godebug = none := by kernel_rfl
theorem laidOut : laidOutB Try.prog = true := by kernel_rfl

set_option maxHeartbeats 1000000 in
theorem walk_NumberBack (w : World) (n : Int) (wn : (Lit.int .i64 n).wf = true) (a : Option Addr) (len cap : Nat) (l : List Int) (h : RowK .u8 w a len l) (hc : len ≤ cap) (hn : a = none → cap = 0) (hz : cap * 1 ≤ 140737488351232) :
    Calls Try.prog 3 #[.int .i64 n, .slice a len cap] w fun e w' => e = .returned (.bool true) ∧ Below w.heap.size w w' := by
  obtain ⟨i0, hi, hz0, hz1, hz2⟩ := info_parts Try.info5
  obtain ⟨r0, r1⟩ := pickedOf_range n 2147483648 (by omega)
  have HR := h
  go_enter Try.func3, Try.ntmps3
  go_wp2_with fail
  refine (picked_any n 2147483648 _ wn (by omega) (by omega)).mono ?_
  rintro e w0 ⟨rfl, rfl⟩
  generalize pickedOf n 2147483648 = k at r0 r1
  go_wp2_with fail
  refine (number_yes k _ r0 (by omega)).mono ?_
  rintro e w1 ⟨rfl, q1, b1⟩
  have q2 := h.below b1
  have hs1 := b1.size
  clear h
  go_wp2_with (first | (at_builtin; refine wpList_append_row rfl _ (.tmp 20) 22 rfl w1.heap.size 5 i0 (.int .u8 0) 1 Try.underlying22 hi hz0 hz1 hz2 rfl .u8 (.slice none 0 0) 0 [] rfl (World.ownsRow_nil _ _ _ _) _ 4 4 (four k) rfl q1 (by simp) (by unfold maxLen; omega) (by omega) (Nat.le_refl _) ?_; intro v2 w2 hown2 hgrow2; have b2 : Below w1.heap.size w1 w2 := (Below.refl _ _).grown hgrow2 (Nat.le_refl _) (by simp [Value.ownBlock]); have q3 := q2.below b2; have hs2 := b2.size) | (at_builtin; refine wpList_append_row rfl (.tmp 21) (.tmp 22) 22 rfl w1.heap.size 5 i0 (.int .u8 0) 1 Try.underlying22 hi hz0 hz1 hz2 rfl .u8 _ _ _ rfl hown2 a len cap l rfl q3 hn (by unfold maxLen; omega) (by omega) hs2 ?_; intro v3 w3 hown3 hgrow3))
  obtain ⟨a3, cap3, rfl, q4, _, _, _, _⟩ := RowK.ofOwns hown3 (by
    intro u hu
    rcases List.mem_append.1 hu with h | h
    · exact four_wf k r0 (by omega) u (by simpa using h)
    · exact HR.wf u h)
  have b3 : Below w.heap.size w w3 := (Below.next b1 b2).grown hgrow3 (by have := b2.size; omega) (by intro t ht; have := (hown2.lt t ht).1; omega)
  clear hown2 hgrow2 hown3 hgrow3 q1 q2 q3
  refine (take_any _ _ _ _ _ q4).mono ?_
  rintro e w4 ⟨rfl, q, rfl⟩
  rw [show takenOf ([] ++ four k ++ l) = (k, 0) from takenOf_four k l r0 (by omega)]
  go_wp2_with fail
  refine (number_no (-1 - k) _ (by omega)).mono ?_
  rintro e w5 ⟨rfl, rfl⟩
  have ek : (k == k) = true := by simp
  go_wp2
  go_ret
  exact ⟨rfl, b3.trans ⟨rfl, rfl, rfl, Nat.le_refl _, fun _ _ => rfl⟩⟩

set_option linter.unusedVariables false in
set_option maxRecDepth 100000 in
theorem lifted_NumberBack (os : Os) (started : os.Started) (H : Type) (enc : TypeId × Value → H) :
    ReturnsInHanded {} Try.checked os 3 .any (Rows.numberBackSpec.pre6 enc Try.prog Try.f3 Rows.numberBackRow.domain false) (Rows.numberBackSpec.post enc Try.prog Try.f3 false true false false) := by
  refine returnsInHanded_of_change_sized (C := Try.checked) own started (by kernel_rfl) Try.func3
    (ChangeSpec.witness6 (enc := enc) (C := Try.checked) false ⟨#[], #[.int .i64 0, .slice none 0 0], []⟩ 8 (by kernel_rfl) (by kernel_rfl) (by kernel_rfl) (by kernel_rfl)) ?_
  intro W base args ds gs before hval0 hW hcnd hsz0 _
  have hval : ∀ (j : Nat) t v, Try.f3.params[j]? = some t → args[j]? = some v → Value.okWide Try.prog W .any base t v := hval0
  have hsz : (DataW.weightsEach Try.prog (Try.f3.params.toList ++ Rows.numberBackSpec.plain.varTypes Try.prog) (ds ++ gs)).all (· ≤ reachBytes) = true := hsz0
  have hW' := hW
  obtain ⟨p, q, hA0, hV, rfl, hfz, hnd⟩ := hW
  have hA : DataW.TrodAll enc Try.prog W 0 (fun _ => true) true Try.f3.params.toList args.toList ds p := hA0
  rw [Try.params3] at hA hval hsz
  have hK := hA
  have hlt : ∀ x ∈ p, x.block < W.heap.size := fun x hx => hW'.lt x (by simp [hx])
  obtain ⟨v0, vs0, d0, ds0, p0, q0, hargs, rfl, rfl, h0, r0⟩ := trodAll_cons hA
  obtain ⟨v1, vs1, d1, ds1, p1, q1, rfl, rfl, rfl, h1, r1⟩ := trodAll_cons r0
  obtain ⟨rfl, rfl, rfl⟩ := trodAll_nil r1
  obtain rfl : args = #[v0, v1] := by cases args; simp_all
  obtain ⟨rfl, rfl⟩ := trodVars_none hV
  obtain ⟨a0, rfl, rfl, rfl, w0⟩ := open_int Try.underlying3 (hval 0 3 v0 rfl rfl) h0
  obtain ⟨a1, len1, cap1, l1, rfl, w1, lc1, cm1, na1, hd1⟩ := open_row Try.underlying22 Try.underlying5 (by kernel_rfl) (hval 1 22 v1 rfl rfl) h1
  have z1 : cap1 * 1 ≤ 140737488351232 := open_sized (j := 1) (t := 22) (e := 5) hsz rfl rfl Try.underlying22 (by kernel_rfl) hd1
  clear hd1
  clear hA0 hval0 hsz0
  refine (walk_NumberBack W a0 w0 a1 len1 cap1 l1 w1 lc1 na1 z1).mono fun e W' ⟨he, bel⟩ => ?_
  subst he
  exact ⟨_, rfl, _, _, _, [], _, [], hW', trodAll_mk1 (shut_bool Try.underlying4 _), trodAll_stays laidOut (List.forall_mem_cons.2 ⟨⟨by kernel_rfl, of_decide_eq_true (by kernel_rfl)⟩, List.forall_mem_cons.2 ⟨⟨by kernel_rfl, of_decide_eq_true (by kernel_rfl)⟩, by intro t ht; cases ht⟩⟩) hK bel hlt, rfl, bel.frame _, fun h => by cases h⟩

theorem numberBack_holds : Rows.NumberBackSaid :=
  OpenClaim.holds_of_wide 3 Try.f3 rfl rfl rfl rfl rfl rfl rfl ⟨rfl, rfl, rfl, rfl, rfl⟩ rfl rfl rfl rfl rfl (by kernel_rfl) Try.func3 (by kernel_rfl)
    (of_decide_eq_true (by kernel_rfl)) (by unfold Func.isWrapper; first | (rw [if_pos (by decide +kernel)]; kernel_rfl) | (rw [if_neg (by decide +kernel)]; exact ⟨rfl, rfl⟩))
    (fun os started H enc _ => lifted_NumberBack os started H enc)
#print axioms numberBack_holds
end Go.Proofs.Ytooanomcbenmeab
