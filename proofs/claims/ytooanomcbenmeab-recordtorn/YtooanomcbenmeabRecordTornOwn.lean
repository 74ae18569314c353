/- For all deeds x and y, every int cut and every byte tail, berthshiftkeep.RecordTorn(x, y, cut, tail) returns true: what is torn is no record, nor what has something behind it; the arguments read behind the call as before it; no condition on them. -/
import Derived.Test.YtooanomcbenmeabRows
import Derived.Test.YtooanomcbenmeabKpF
namespace Go.Proofs.Ytooanomcbenmeab
open Go.ChangeShapes Go.WideShapes Go.ChangeAt Go.RowKit

theorem own : ownKnob Try.prog.godebug = none := by kernel_rfl
theorem laidOut : laidOutB Try.prog = true := by kernel_rfl
theorem bcell {W w1 : World} (hb : Below W.heap.size W w1) : (∀ b o, b < W.heap.size → w1.cell? ⟨b, o, none⟩ = W.cell? ⟨b, o, none⟩) :=
  fun b o h => hb.cell (p := ⟨b, o, none⟩) h
theorem ee (x : Int) : (x == x) = true := by simp

set_option maxHeartbeats 1000000 in
theorem walk_RecordTorn (w : World) (k a b c : Int) (wx : ∀ z ∈ [k, a, b, c], (Lit.int .i64 z).wf = true) (k' a' b' c' : Int) (wy : ∀ z ∈ [k', a', b', c'], (Lit.int .i64 z).wf = true) (cut : Int) (wcut : (Lit.int .i64 cut).wf = true) (tl : Int) (wtl : (Lit.int .u8 tl).wf = true) :
    Calls Try.prog 7 #[.agg #[.int .i64 k, .int .i64 a, .int .i64 b, .int .i64 c], .agg #[.int .i64 k', .int .i64 a', .int .i64 b', .int .i64 c'], .int .i64 cut, .int .u8 tl] w fun e w' => e = .returned (.bool true) ∧ Below w.heap.size w w' := by
  obtain ⟨x0, x1, x2, x3, x4, x5, x6, x7, x8, x9, hrec, hf, hzz⟩ := recOf_ok k a b c k' a' b' c'
  have HREC := hide hrec
  have HF := hide hf
  have HZZ := hide hzz
  have HX := hide wx
  have HY := hide wy
  clear hrec hf hzz wx wy
  obtain ⟨i0, hi, hz0, hz1, hz2⟩ := info_parts Try.info5
  go_enter Try.func7, Try.ntmps7
  go_wp2_with fail
  refine (record_of k a b c k' a' b' c' _ (unhide HX k (by simp)) (unhide HX a (by simp)) (unhide HX b (by simp)) (unhide HX c (by simp)) (unhide HY k' (by simp)) (unhide HY a' (by simp)) (unhide HY b' (by simp)) (unhide HY c' (by simp))).mono ?_
  rintro e w1 ⟨rfl, b1⟩
  rw [unhide HREC]
  simp only [recVal, List.map_cons, List.map_nil]
  have B1 := hide (below2t b1)
  clear b1
  go_wp2_with fail
  refine (encode_of _ _ _ _ _ _ _ _ _ _ _ (unhide HF)).mono ?_
  rintro e w2 ⟨g, n, rfl, hn, r2, b2⟩
  have hn40 : 16 ≤ n ∧ n ≤ 40 := by
    by_cases h : x0 = 2 ∨ x0 = 5
    · rw [if_pos h] at hn; omega
    · rw [if_neg h] at hn; omega
  have B2 := hide (Below.next (unhide B1) b2)
  have HN := hide hn
  clear b2 hn
  obtain ⟨n0, n1⟩ := hn40
  obtain ⟨p0, p1⟩ := pickedOf_range cut (n : Int) (by omega)
  have hn0 : ((n : Int) == 0) = false := by simp; omega
  go_wp2_with fail
  refine (picked_any cut (n : Int) _ wcut (by omega) (by omega)).mono ?_
  rintro e w3 ⟨rfl, rfl⟩
  obtain ⟨q, hq⟩ := Int.eq_ofNat_of_zero_le p0
  rw [hq]
  rw [hq] at p1
  have hqn : q < n := by omega
  have HD1 : Hid (decodeOf ((bytesOf x0 x1 x2 x3 x4 x5 x6 x7 x8 x9).take q) = (zeros, 4)) := hide (decode_torn x0 x1 x2 x3 x4 x5 x6 x7 x8 x9 q (unhide HF) (by rw [← unhide HN]; exact hqn))
  have HD2 : Hid (decodeOf (bytesOf x0 x1 x2 x3 x4 x5 x6 x7 x8 x9 ++ [tl]) = (zeros, 3)) := hide (by
    have := decode_tail x0 x1 x2 x3 x4 x5 x6 x7 x8 x9 [tl] (unhide HF) (unhide HZZ)
    rw [this, if_neg (by simp)])
  have HWF := hide (bytesOf_wf (unhide HF))
  clear hq p0
  generalize bytesOf x0 x1 x2 x3 x4 x5 x6 x7 x8 x9 = L at r2 HD1 HD2 HWF
  have r3 : RowK .u8 w2 (some ⟨g, 0, none⟩) q (L.take q) := ⟨by rw [List.length_take, r2.len_eq]; omega, fun u hu => r2.wf u (List.mem_of_mem_take hu), fun i hi => by
    obtain ⟨b0, o0, hb, hl, hc⟩ := r2.cell i (by omega)
    exact ⟨b0, o0, hb, hl, by rw [hc]; simp [hi]⟩⟩
  have R2 := hide r2
  clear r2
  go_wp2_with fail
  refine (decode_any _ q n _ _ r3 (by omega) (by omega)).mono ?_
  rintro e w4 ⟨rfl, b4⟩
  rw [unhide HD1]
  simp only [recVal, zeros, List.map_cons, List.map_nil]
  have B4 := hide (Below.next (unhide B2) b4)
  have r4 := ((unhide R2).below b4).below (below1 w4 (.cells #[.int .i64 0, .int .i64 0, .int .i64 0, .int .i64 0, .int .i64 0, .int .i64 0, .int .i64 0, .int .i64 0, .int .i64 0, .int .i64 0] 38))
  clear r3 b4 R2
  go_wp2_with (first | (at_builtin; refine wpList_append_row rfl _ (.tmp 40) 22 rfl (w4.heap.size + 1) 5 i0 (.int .u8 0) 1 Try.underlying22 hi hz0 hz1 hz2 rfl .u8 (.slice none 0 0) 0 [] rfl (World.ownsRow_nil _ _ _ _) _ n n L rfl r4 (by simp) (by unfold maxLen; omega) (by omega) (by simp) ?_; intro v5 w5 hown5 hgrow5; have b5 : Below (w4.heap.size + 1) (w4.alloc _) w5 := (Below.refl _ _).grown hgrow5 (by simp) (by simp [Value.ownBlock]); have hs5 : w4.heap.size + 1 ≤ w5.heap.size := (by have := b5.size; simpa using this)) | (at_builtin; refine wpList_append_own _ rfl (.tmp 41) (.tmp 43) 22 rfl (w4.heap.size + 1) 5 i0 (.int .u8 0) 1 1 Try.underlying22 hi hz0 hz1 hz2 rfl (by decide) _ _ _ rfl (hown5.alloc _) ⟨w5.heap.size, 0, none⟩ 1 1 [.int .u8 tl] rfl rfl (cell_one_new _ _ _) (ints_oneCell .u8 [tl]) (by unfold maxLen; omega) (by omega) (by simp; omega) ?_; intro v6 w6 hown6 hgrow6 _))
  have hown7 : w6.ownsRow (w4.heap.size + 1) 5 1 v6 (n + 1) ((L ++ [tl]).map (Value.int .u8)) := by simpa using hown6
  obtain ⟨a6, cap6, rfl, r6, c6, m6, _, _⟩ := RowK.ofOwns hown7 (by
    intro u hu
    rcases List.mem_append.1 hu with h | h
    · exact unhide HWF u h
    · simp at h; subst h; exact wtl)
  have B6 : Below w.heap.size w w6 := by
    have h1 : Below w.heap.size w (w4.alloc (.cells #[.int .i64 0, .int .i64 0, .int .i64 0, .int .i64 0, .int .i64 0, .int .i64 0, .int .i64 0, .int .i64 0, .int .i64 0, .int .i64 0] 38)) := Below.next (unhide B4) (below1 _ _)
    have h2 := (unhide B4).size
    have h3 : Below w.heap.size w w5 := h1.trans (b5.mono (by omega))
    exact (h3.alloc h3.size _).grown hgrow6 (by have := h3.size; simp; omega) (by intro t ht; have := (hown5.lt t ht).1; omega)
  unfold maxLen at m6
  clear hown5 hown6 hown7 hgrow5 hgrow6 r4 b5
  refine (decode_any a6 (n + 1) cap6 _ _ r6 c6 m6).mono ?_
  rintro e w7 ⟨rfl, b7⟩
  rw [unhide HD2]
  simp only [recVal, zeros, List.map_cons, List.map_nil]
  have B7 := Below.next B6 b7
  clear r6 b7 B6
  go_wp2
  go_ret
  exact ⟨rfl, Below.next B7 (below1 _ _)⟩

set_option linter.unusedVariables false in
set_option maxRecDepth 100000 in
theorem lifted_RecordTorn (os : Os) (started : os.Started) (H : Type) (enc : TypeId × Value → H) :
    ReturnsInHanded {} Try.checked os 7 .any (Rows.recordTornSpec.pre6 enc Try.prog Try.f7 Rows.recordTornRow.domain false) (Rows.recordTornSpec.post enc Try.prog Try.f7 false true false false) := by
  refine returnsInHanded_of_change_sized (C := Try.checked) own started (by kernel_rfl) Try.func7
    (ChangeSpec.witness6 (enc := enc) (C := Try.checked) false ⟨#[], #[.agg #[.int .i64 0, .int .i64 0, .int .i64 0, .int .i64 0], .agg #[.int .i64 0, .int .i64 0, .int .i64 0, .int .i64 0], .int .i64 0, .int .u8 0], []⟩ 8 (by kernel_rfl) (by kernel_rfl) (by kernel_rfl) (by kernel_rfl)) ?_
  intro W base args ds gs before hval0 hW hcnd hsz0 _
  have hval : ∀ (j : Nat) t v, Try.f7.params[j]? = some t → args[j]? = some v → Value.okWide Try.prog W .any base t v := hval0
  have hsz : (DataW.weightsEach Try.prog (Try.f7.params.toList ++ Rows.recordTornSpec.plain.varTypes Try.prog) (ds ++ gs)).all (· ≤ reachBytes) = true := hsz0
  have hW' := hW
  obtain ⟨p, q, hA0, hV, rfl, hfz, hnd⟩ := hW
  have hA : DataW.TrodAll enc Try.prog W 0 (fun _ => true) true Try.f7.params.toList args.toList ds p := hA0
  rw [Try.params7] at hA hval hsz
  have hK := hA
  have hlt : ∀ x ∈ p, x.block < W.heap.size := fun x hx => hW'.lt x (by simp [hx])
  obtain ⟨v0, vs0, d0, ds0, p0, q0, hargs, rfl, rfl, h0, r0⟩ := trodAll_cons hA
  obtain ⟨v1, vs1, d1, ds1, p1, q1, rfl, rfl, rfl, h1, r1⟩ := trodAll_cons r0
  obtain ⟨v2, vs2, d2, ds2, p2, q2, rfl, rfl, rfl, h2, r2⟩ := trodAll_cons r1
  obtain ⟨v3, vs3, d3, ds3, p3, q3, rfl, rfl, rfl, h3, r3⟩ := trodAll_cons r2
  obtain ⟨rfl, rfl, rfl⟩ := trodAll_nil r3
  obtain rfl : args = #[v0, v1, v2, v3] := by cases args; simp_all
  obtain ⟨rfl, rfl⟩ := trodVars_none hV
  obtain ⟨x0a, x0b, x0c, x0d, rfl, w0⟩ := open_Deed (hval 0 32 v0 rfl rfl) h0
  obtain ⟨x1a, x1b, x1c, x1d, rfl, w1⟩ := open_Deed (hval 1 32 v1 rfl rfl) h1
  obtain ⟨a2, rfl, rfl, rfl, w2⟩ := open_int Try.underlying3 (hval 2 3 v2 rfl rfl) h2
  obtain ⟨a3, rfl, rfl, rfl, w3⟩ := open_int Try.underlying5 (hval 3 5 v3 rfl rfl) h3
  clear hA0 hval0 hsz0
  refine (walk_RecordTorn W x0a x0b x0c x0d w0 x1a x1b x1c x1d w1 a2 w2 a3 w3).mono fun e W' ⟨he, bel⟩ => ?_
  subst he
  exact ⟨_, rfl, _, _, _, [], _, [], hW', trodAll_mk1 (shut_bool Try.underlying4 _), trodAll_stays laidOut (List.forall_mem_cons.2 ⟨⟨by kernel_rfl, of_decide_eq_true (by kernel_rfl)⟩, List.forall_mem_cons.2 ⟨⟨by kernel_rfl, of_decide_eq_true (by kernel_rfl)⟩, List.forall_mem_cons.2 ⟨⟨by kernel_rfl, of_decide_eq_true (by kernel_rfl)⟩, List.forall_mem_cons.2 ⟨⟨by kernel_rfl, of_decide_eq_true (by kernel_rfl)⟩, by intro t ht; cases ht⟩⟩⟩⟩) hK bel hlt, rfl, bel.frame _, fun h => by cases h⟩

theorem recordTorn_holds : Rows.RecordTornSaid :=
  OpenClaim.holds_of_wide 7 Try.f7 rfl rfl rfl rfl rfl rfl rfl ⟨rfl, rfl, rfl, rfl, rfl⟩ rfl rfl rfl rfl rfl (by kernel_rfl) Try.func7 (by kernel_rfl)
    (of_decide_eq_true (by kernel_rfl)) (by unfold Func.isWrapper; first | (rw [if_pos (by decide +kernel)]; kernel_rfl) | (rw [if_neg (by decide +kernel)]; exact ⟨rfl, rfl⟩))
    (fun os started H enc _ => lifted_RecordTorn os started H enc)
#print axioms recordTorn_holds
end Go.Proofs.Ytooanomcbenmeab
