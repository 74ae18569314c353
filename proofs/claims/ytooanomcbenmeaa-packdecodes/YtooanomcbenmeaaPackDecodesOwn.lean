/- For every slice of bytes l, berthshiftlaw.PackDecodes(l) returns true: pack.Decode answers what the document's answer (P1.6) says, and changes none of its bytes; l reads behind the call as before it; no condition on l. -/
import Derived.Test.YtooanomcbenmeaaRows
import Derived.Test.YtooanomcbenmeaaPkL
import Derived.Test.YtooanomcbenmeaaPkN
namespace Go.Proofs.Ytooanomcbenmeaa
open Go.ChangeShapes Go.WideShapes Go.ChangeAt Go.RowKit

theorem own : ownKnob Try.prog.godebug = none := by kernel_rfl
theorem laidOut : laidOutB Try.prog = true := by kernel_rfl
theorem bcell {W w1 : World} (hb : Below W.heap.size W w1) : (∀ b o, b < W.heap.size → w1.cell? ⟨b, o, none⟩ = W.cell? ⟨b, o, none⟩) :=
  fun b o h => hb.cell (p := ⟨b, o, none⟩) h
theorem decode_len (l : List Int) : (decodeOf l).1.length = 10 := by
  unfold decodeOf
  repeat' split
  all_goals first | rfl | (unfold numsOf; split <;> rfl)

set_option maxHeartbeats 1000000 in
theorem walk_PackDecodes (w : World) (a : Option Addr) (len cap : Nat) (l : List Int) (h : RowK .u8 w a len l) (hc : len ≤ cap) (hn : a = none → cap = 0) (hz : cap * 1 ≤ 140737488351232) :
    Calls Try.prog 8 #[.slice a len cap] w fun e w' => e = .returned (.bool true) ∧ Below w.heap.size w w' := by
  go_enter Try.func8, Try.ntmps8
  go_wp2_with fail
  refine (octets_any a len cap l _ h hc hn hz).mono ?_
  rintro e w1 ⟨a1, cap1, rfl, r1, c1, n1, m1, b1⟩
  have HX : Hid ((decodeOf l).1.length = 10) := hide (decode_len l)
  go_wp2_with fail
  refine (decode_any a1 len cap1 l _ r1 c1 m1).mono ?_
  rintro e w2 ⟨rfl, b2⟩
  obtain ⟨zs, er, hd⟩ : ∃ zs er, decodeOf l = (zs, er) := ⟨_, _, rfl⟩
  rw [hd]
  rw [hd] at HX
  have HD := hide hd
  clear hd
  have hl := HX.out
  clear HX
  match zs, hl with
  | [x0, x1, x2, x3, x4, x5, x6, x7, x8, x9], _ =>
    simp only [recVal, List.map_cons, List.map_nil]
    go_wp2_with fail
    refine (recordOf_any a len cap l _ (((h.below b1).below b2).below (below1 _ _)) hc (by omega) hn).mono ?_
    rintro e w3 ⟨rfl, b3⟩
    rw [unhide HD]
    simp only [recVal, List.map_cons, List.map_nil]
    have b4 : Below w1.heap.size w1 w3 := Below.next b2 (below1t b3)
    have r5 := r1.below b4
    have r6 := (h.below b1).below b4
    have hc3 := bcell b3
    have hz3 : w2.heap.size < w3.heap.size := by have := b3.size; simp at this; omega
    have ee : (er == er) = true := by simp
    clear r1 h
    go_wp2_with (go_at_call 11; refine (same_any _ _ _ _ _ _ l l _ (r5.below (below1 _ _)) (r6.below (below1 _ _))).mono ?_; rintro e w5 ⟨rfl, rfl⟩)
    go_ret
    exact ⟨rfl, Below.next (Below.next b1 b4) (below1 _ _)⟩

set_option linter.unusedVariables false in
set_option maxRecDepth 100000 in
theorem lifted_PackDecodes (os : Os) (started : os.Started) (H : Type) (enc : TypeId × Value → H) :
    ReturnsInHanded {} Try.checked os 8 .any (Rows.packDecodesSpec.pre6 enc Try.prog Try.f8 Rows.packDecodesRow.domain false) (Rows.packDecodesSpec.post enc Try.prog Try.f8 false true false false) := by
  refine returnsInHanded_of_change_sized (C := Try.checked) own started (by kernel_rfl) Try.func8
    (ChangeSpec.witness6 (enc := enc) (C := Try.checked) false ⟨#[], #[.slice none 0 0], []⟩ 8 (by kernel_rfl) (by kernel_rfl) (by kernel_rfl) (by kernel_rfl)) ?_
  intro W base args ds gs before hval0 hW hcnd hsz0 _
  have hval : ∀ (j : Nat) t v, Try.f8.params[j]? = some t → args[j]? = some v → Value.okWide Try.prog W .any base t v := hval0
  have hsz : (DataW.weightsEach Try.prog (Try.f8.params.toList ++ Rows.packDecodesSpec.plain.varTypes Try.prog) (ds ++ gs)).all (· ≤ reachBytes) = true := hsz0
  have hW' := hW
  obtain ⟨p, q, hA0, hV, rfl, hfz, hnd⟩ := hW
  have hA : DataW.TrodAll enc Try.prog W 0 (fun _ => true) true Try.f8.params.toList args.toList ds p := hA0
  rw [Try.params8] at hA hval hsz
  have hK := hA
  have hlt : ∀ x ∈ p, x.block < W.heap.size := fun x hx => hW'.lt x (by simp [hx])
  obtain ⟨v0, vs0, d0, ds0, p0, q0, hargs, rfl, rfl, h0, r0⟩ := trodAll_cons hA
  obtain ⟨rfl, rfl, rfl⟩ := trodAll_nil r0
  obtain rfl : args = #[v0] := by cases args; simp_all
  obtain ⟨rfl, rfl⟩ := trodVars_none hV
  obtain ⟨a0, len0, cap0, l0, rfl, w0, lc0, cm0, na0, hd0⟩ := open_row Try.underlying22 Try.underlying5 (by kernel_rfl) (hval 0 22 v0 rfl rfl) h0
  have z0 : cap0 * 1 ≤ 140737488351232 := open_sized (j := 0) (t := 22) (e := 5) hsz rfl rfl Try.underlying22 (by kernel_rfl) hd0
  clear hd0
  clear hA0 hval0 hsz0
  refine (walk_PackDecodes W a0 len0 cap0 l0 w0 lc0 na0 z0).mono fun e W' ⟨he, bel⟩ => ?_
  subst he
  exact ⟨_, rfl, _, _, _, [], _, [], hW', trodAll_mk1 (shut_bool Try.underlying4 _), trodAll_stays laidOut (List.forall_mem_cons.2 ⟨⟨by kernel_rfl, of_decide_eq_true (by kernel_rfl)⟩, by intro t ht; cases ht⟩) hK bel hlt, rfl, bel.frame _, fun h => by cases h⟩

theorem packDecodes_holds : Rows.PackDecodesSaid :=
  OpenClaim.holds_of_wide 8 Try.f8 rfl rfl rfl rfl rfl rfl rfl ⟨rfl, rfl, rfl, rfl, rfl⟩ rfl rfl rfl rfl rfl (by kernel_rfl) Try.func8 (by kernel_rfl)
    (of_decide_eq_true (by kernel_rfl)) (by unfold Func.isWrapper; first | (rw [if_pos (by decide +kernel)]; kernel_rfl) | (rw [if_neg (by decide +kernel)]; exact ⟨rfl, rfl⟩))
    (fun os started H enc _ => lifted_PackDecodes os started H enc)
#print axioms packDecodes_holds
end Go.Proofs.Ytooanomcbenmeaa
