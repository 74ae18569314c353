/- For every slice of bytes l, berthshiftkeep.RecordFixed(l) returns true: no record has two forms; l reads behind the call as before it; no condition on l. -/
import Derived.Test.YtooanomcbenmeabRows
import Derived.Test.YtooanomcbenmeabKpB
import Derived.Test.YtooanomcbenmeabPkL
namespace Go.Proofs.Ytooanomcbenmeab
open Go.ChangeShapes Go.WideShapes Go.ChangeAt Go.RowKit

theorem own : ownKnob Try.prog.godebug = none := by kernel_rfl
theorem laidOut : laidOutB Try.prog = true := by kernel_rfl
theorem bcell {W w1 : World} (hb : Below W.heap.size W w1) : (∀ b o, b < W.heap.size → w1.cell? ⟨b, o, none⟩ = W.cell? ⟨b, o, none⟩) :=
  fun b o h => hb.cell (p := ⟨b, o, none⟩) h
theorem decode_len (l : List Int) : (decodeOf l).1.length = 10 := by
  unfold decodeOf
  repeat' split
  all_goals first | rfl | (unfold numsOf; split <;> rfl)

/-- a record that was decoded is encoded to its bytes. -/
theorem encode_back (l : List Int) (hw : ∀ u ∈ l, (Lit.int .u8 u).wf = true) (x0 x1 x2 x3 x4 x5 x6 x7 x8 x9 : Int) (hd : decodeOf l = ([x0, x1, x2, x3, x4, x5, x6, x7, x8, x9], 0)) (w : World) :
    Calls Try.prog 13 #[.agg #[.int .i64 x0, .int .i64 x1, .int .i64 x2, .int .i64 x3, .int .i64 x4, .int .i64 x5, .int .i64 x6, .int .i64 x7, .int .i64 x8, .int .i64 x9]] w fun e w' => ∃ g n, e = .returned (.tuple #[.slice (some ⟨g, 0, none⟩) n n, .int .i64 0]) ∧ RowK .u8 w' (some ⟨g, 0, none⟩) n l ∧ Below w.heap.size w w' := by
  obtain ⟨hz, hf, hc⟩ := decode_good hd
  rcases hc with ⟨hev, hl, he⟩ | ⟨hev, hl, he⟩
  · have hn : numsOf l = [numAt l 0, numAt l 1, numAt l 2, numAt l 3, numAt l 4, numAt l 5, numAt l 6, numAt l 7, numAt l 8, numAt l 9] := by unfold numsOf; rw [hev]; rfl
    have hF : faultOf l = recordFault (numAt l 0) (numAt l 1) (numAt l 2) (numAt l 3) (numAt l 4) (numAt l 5) (numAt l 6) (numAt l 7) (numAt l 8) (numAt l 9) := by unfold faultOf; rw [hn]; rfl
    have hb := wf_bytes_eq hw (n := 10) hl he
    rw [hn] at hz
    simp only [List.cons.injEq, and_true] at hz
    obtain ⟨rfl, rfl, rfl, rfl, rfl, rfl, rfl, rfl, rfl, rfl⟩ := hz
    refine (encode_ten _ _ _ _ _ _ _ _ _ _ w (hF.symm.trans hf) (by simpa [hasEv] using hev)).mono ?_
    rintro e w' ⟨g, rfl, _, hr, hB⟩
    refine ⟨g, 40, rfl, ?_, hB⟩
    have : fours [numAt l 0, numAt l 1, numAt l 2, numAt l 3, numAt l 4, numAt l 5, numAt l 6, numAt l 7, numAt l 8, numAt l 9] = l := hb
    rw [this] at hr
    exact hr
  · have hn : numsOf l = [numAt l 0, numAt l 1, numAt l 2, numAt l 3, 0, 0, 0, 0, 0, 0] := by unfold numsOf; rw [hev]; rfl
    have hF : faultOf l = recordFault (numAt l 0) (numAt l 1) (numAt l 2) (numAt l 3) 0 0 0 0 0 0 := by unfold faultOf; rw [hn]; rfl
    have hb := wf_bytes_eq hw (n := 4) hl he
    rw [hn] at hz
    simp only [List.cons.injEq, and_true] at hz
    obtain ⟨rfl, rfl, rfl, rfl, rfl, rfl, rfl, rfl, rfl, rfl⟩ := hz
    refine (encode_four _ _ _ _ _ _ _ _ _ _ w (hF.symm.trans hf) (by simpa [hasEv] using hev)).mono ?_
    rintro e w' ⟨g, rfl, _, hr, hB⟩
    refine ⟨g, 16, rfl, ?_, hB⟩
    have : fours [numAt l 0, numAt l 1, numAt l 2, numAt l 3] = l := hb
    rw [this] at hr
    exact hr

set_option maxHeartbeats 1000000 in
theorem walk_RecordFixed (w : World) (a : Option Addr) (len cap : Nat) (l : List Int) (h : RowK .u8 w a len l) (hc : len ≤ cap) (hn : a = none → cap = 0) (hz : cap * 1 ≤ 140737488351232) :
    Calls Try.prog 6 #[.slice a len cap] w fun e w' => e = .returned (.bool true) ∧ Below w.heap.size w w' := by
  obtain ⟨i0, hi, hz0, hz1, hz2⟩ := info_parts Try.info5
  have HH := hide h
  have HX : Hid ((decodeOf l).1.length = 10) := hide (decode_len l)
  go_enter Try.func6, Try.ntmps6
  go_wp2_with (at_builtin; refine wpList_append_row rfl _ _ 22 rfl w.heap.size 5 i0 (.int .u8 0) 1 Try.underlying22 hi hz0 hz1 hz2 rfl .u8 (.slice none 0 0) 0 [] rfl (World.ownsRow_nil _ _ _ _) a len cap l rfl h hn (by unfold maxLen; omega) (by omega) (Nat.le_refl _) ?_; intro v1 w1 hown hgrow)
  rw [Nat.zero_add, List.nil_append] at hown
  obtain ⟨a1, cap1, rfl, r1, c1, m1, _, _⟩ := RowK.ofOwns hown h.wf
  have b1 : Below w.heap.size w w1 := (Below.refl _ _).grown hgrow (Nat.le_refl _) (by simp [Value.ownBlock])
  unfold maxLen at m1
  clear hown hgrow h
  refine (decode_any a1 len cap1 l _ r1 c1 m1).mono ?_
  rintro e w2 ⟨rfl, b2⟩
  obtain ⟨zs, er, hd⟩ : ∃ zs er, decodeOf l = (zs, er) := ⟨_, _, rfl⟩
  rw [hd]
  rw [hd] at HX
  have hl := HX.out
  clear HX
  match zs, hl with
  | [x0, x1, x2, x3, x4, x5, x6, x7, x8, x9], _ =>
    simp only [recVal, List.map_cons, List.map_nil]
    have HD := hide hd
    clear hd
    by_cases he : er = 0
    · subst he
      go_wp2_with fail
      refine (encode_back l (unhide HH).wf x0 x1 x2 x3 x4 x5 x6 x7 x8 x9 (unhide HD) _).mono ?_
      rintro e w3 ⟨g, n, rfl, r3, b3⟩
      have b4 : Below w.heap.size w w3 := Below.next (Below.next b1 b2) (below1t b3)
      have k1 := run_string_row (P := Try.prog) 22 5 Try.underlying22 Try.underlying5 (cap := n) r3 9 Try.underlying9
      have k2 := run_string_row (P := Try.prog) 22 5 Try.underlying22 Try.underlying5 (cap := cap) ((unhide HH).below b4) 9 Try.underlying9
      have ee : ((strOfNums l).toList == (strOfNums l).toList) = true := by simp
      clear r3 b3
      go_wp2
      go_ret
      exact ⟨rfl, b4⟩
    · have hb := decode_bad (unhide HD) he
      have he' : (er != 0) = true := by simpa using he
      simp only [zeros, List.cons.injEq, and_true] at hb
      obtain ⟨rfl, rfl, rfl, rfl, rfl, rfl, rfl, rfl, rfl, rfl⟩ := hb
      clear he
      go_wp2
      go_ret
      exact ⟨rfl, Below.next (Below.next b1 b2) (below1 _ _)⟩

set_option linter.unusedVariables false in
set_option maxRecDepth 100000 in
theorem lifted_RecordFixed (os : Os) (started : os.Started) (H : Type) (enc : TypeId × Value → H) :
    ReturnsInHanded {} Try.checked os 6 .any (Rows.recordFixedSpec.pre6 enc Try.prog Try.f6 Rows.recordFixedRow.domain false) (Rows.recordFixedSpec.post enc Try.prog Try.f6 false true false false) := by
  refine returnsInHanded_of_change_sized (C := Try.checked) own started (by kernel_rfl) Try.func6
    (ChangeSpec.witness6 (enc := enc) (C := Try.checked) false ⟨#[], #[.slice none 0 0], []⟩ 8 (by kernel_rfl) (by kernel_rfl) (by kernel_rfl) (by kernel_rfl)) ?_
  intro W base args ds gs before hval0 hW hcnd hsz0 _
  have hval : ∀ (j : Nat) t v, Try.f6.params[j]? = some t → args[j]? = some v → Value.okWide Try.prog W .any base t v := hval0
  have hsz : (DataW.weightsEach Try.prog (Try.f6.params.toList ++ Rows.recordFixedSpec.plain.varTypes Try.prog) (ds ++ gs)).all (· ≤ reachBytes) = true := hsz0
  have hW' := hW
  obtain ⟨p, q, hA0, hV, rfl, hfz, hnd⟩ := hW
  have hA : DataW.TrodAll enc Try.prog W 0 (fun _ => true) true Try.f6.params.toList args.toList ds p := hA0
  rw [Try.params6] at hA hval hsz
  have hK := hA
  have hlt : ∀ x ∈ p, x.block < W.heap.size := fun x hx => hW'.lt x (by simp [hx])
  obtain ⟨v0, vs0, d0, ds0, p0, q0, hargs, rfl, rfl, h0, r0⟩ := trodAll_cons hA
  obtain ⟨rfl, rfl, rfl⟩ := trodAll_nil r0
  obtain rfl : args = #[v0] := by cases args; simp_all
  obtain ⟨rfl, rfl⟩ := trodVars_none hV
  obtain ⟨a0, len0, cap0, l0, rfl, w0, lc0, cm0, na0, hd0⟩ := open_row Try.underlying22 Try.underlying5 (by kernel_rfl) (hval 0 22 v0 rfl rfl) h0
  have z0 : cap0 * 1 ≤ 140737488351232 := open_sized (j := 0) (t := 22) (e := 5) hsz rfl rfl Try.underlying22 (by kernel_rfl) hd0
  clear hd0
  clear hA0 hval0 hsz0
  refine (walk_RecordFixed W a0 len0 cap0 l0 w0 lc0 na0 z0).mono fun e W' ⟨he, bel⟩ => ?_
  subst he
  exact ⟨_, rfl, _, _, _, [], _, [], hW', trodAll_mk1 (shut_bool Try.underlying4 _), trodAll_stays laidOut (List.forall_mem_cons.2 ⟨⟨by kernel_rfl, of_decide_eq_true (by kernel_rfl)⟩, by intro t ht; cases ht⟩) hK bel hlt, rfl, bel.frame _, fun h => by cases h⟩

theorem recordFixed_holds : Rows.RecordFixedSaid :=
  OpenClaim.holds_of_wide 6 Try.f6 rfl rfl rfl rfl rfl rfl rfl ⟨rfl, rfl, rfl, rfl, rfl⟩ rfl rfl rfl rfl rfl (by kernel_rfl) Try.func6 (by kernel_rfl)
    (of_decide_eq_true (by kernel_rfl)) (by unfold Func.isWrapper; first | (rw [if_pos (by decide +kernel)]; kernel_rfl) | (rw [if_neg (by decide +kernel)]; exact ⟨rfl, rfl⟩))
    (fun os started H enc _ => lifted_RecordFixed os started H enc)
#print axioms recordFixed_holds
end Go.Proofs.Ytooanomcbenmeab
