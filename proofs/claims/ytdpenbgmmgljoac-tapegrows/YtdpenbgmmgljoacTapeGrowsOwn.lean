/- For every slice of bytes junk and all deeds x and y, berthshiftkeep.TapeGrows(junk, x, y) returns true: a record that is written stands behind all that was there, whatever that is; the arguments read behind the call as before it; no condition on them. -/
import Derived.Test.YtdpenbgmmgljoacRows
import Derived.Test.YtdpenbgmmgljoacKtA
import Derived.Test.YtdpenbgmmgljoacTpH
namespace Go.Proofs.Ytdpenbgmmgljoac
open Go.ChangeShapes Go.WideShapes Go.ChangeAt Go.RowKit

theorem own : ownKnob Try.prog.godebug = none := by kernel_rfl
theorem laidOut : laidOutB Try.prog = true := by kernel_rfl

/-- a deed in memory. -/
def deedBlock (w : World) (R : Nat) (k a b c : Int) : Prop := w.heap[R]? = some (.cells #[.int .i64 k, .int .i64 a, .int .i64 b, .int .i64 c] 36 (0, 0))
theorem deedBlock.cells {w : World} {R : Nat} {k a b c : Int} (h : deedBlock w R k a b c) : w.cell? ⟨R, 0, none⟩ = some (.int .i64 k) ∧ w.cell? ⟨R, 1, none⟩ = some (.int .i64 a) ∧ w.cell? ⟨R, 2, none⟩ = some (.int .i64 b) ∧ w.cell? ⟨R, 3, none⟩ = some (.int .i64 c) := by
  unfold deedBlock at h; simp [World.cell?, h]
theorem deedBlock.below {w w' : World} {R B : Nat} {k a b c : Int} (h : deedBlock w R k a b c) (hb : Below B w w') (hR : R < B) : deedBlock w' R k a b c := by
  unfold deedBlock at h ⊢; rw [← h]; exact hb.block R hR
theorem two_deeds (w : World) (k a b c k' a' b' c' : Int) :
    ∃ W, W = (w.alloc (.cells #[.int .i64 k, .int .i64 a, .int .i64 b, .int .i64 c] 36)).alloc (.cells #[.int .i64 k', .int .i64 a', .int .i64 b', .int .i64 c'] 36) ∧
    deedBlock W w.heap.size k a b c ∧ deedBlock W (w.heap.size + 1) k' a' b' c' ∧ Below w.heap.size w W ∧ W.heap.size = w.heap.size + 2 := by
  refine ⟨_, rfl, ?_, ?_, below2 _ _ _, by simp⟩
  · have h0 : deedBlock (w.alloc (.cells #[.int .i64 k, .int .i64 a, .int .i64 b, .int .i64 c] 36)) w.heap.size k a b c := heap_alloc_new w _
    exact h0.below (below1 _ _) (by simp)
  · have h0 := heap_alloc_new (w.alloc (.cells #[.int .i64 k, .int .i64 a, .int .i64 b, .int .i64 c] 36)) (.cells #[.int .i64 k', .int .i64 a', .int .i64 b', .int .i64 c'] 36)
    rw [alloc_size] at h0
    exact h0

set_option maxHeartbeats 2000000 in
theorem walk_TapeGrows (w : World) (p : Option Addr) (len cap : Nat) (l : List Int) (h : RowK .u8 w p len l) (hc : len ≤ cap) (hn : p = none → cap = 0) (hz : cap * 1 ≤ 140737488351232)
    (k a b c : Int) (wx : ∀ z ∈ [k, a, b, c], (Lit.int .i64 z).wf = true) (k' a' b' c' : Int) (wy : ∀ z ∈ [k', a', b', c'], (Lit.int .i64 z).wf = true) :
    Calls Try.prog 4 #[.slice p len cap, .agg #[.int .i64 k, .int .i64 a, .int .i64 b, .int .i64 c], .agg #[.int .i64 k', .int .i64 a', .int .i64 b', .int .i64 c']] w fun e w' => e = .returned (.bool true) ∧ Below w.heap.size w w' := by
  obtain ⟨x0, x1, x2, x3, x4, x5, x6, x7, x8, x9, hrec, hf, hzz⟩ := recOf_ok k a b c k' a' b' c'
  have HREC := hide hrec
  have HF := hide hf
  have HX := hide wx
  have HY := hide wy
  clear hrec hf hzz wx wy
  go_enter Try.func4, Try.ntmps4
  go_wp2_with fail
  obtain ⟨W, hW, d0, d1, B0, S0⟩ := two_deeds w k a b c k' a' b' c'
  rw [← hW]
  have r0 := h.below B0
  clear hW h
  refine (some_any p len cap 100 l _ r0 hc hn (by omega) (by omega)).mono ?_
  rintro e w1 ⟨a1, cap1, rfl, r1, c1, n1, m1, y1, b1, _⟩
  have e0 := d0.below b1 (by omega)
  have e1 := d1.below b1 (by omega)
  have B1 := Below.next B0 b1
  have z1 := b1.size
  clear d0 d1 B0 b1 r0
  have hn100 : min len 100 ≤ 100 := by omega
  generalize min len 100 = n at r1 c1 hn100 ⊢
  generalize l.take n = L at r1
  obtain ⟨f0, f1, f2, f3⟩ := e0.cells
  obtain ⟨g0, g1, g2, g3⟩ := e1.cells
  go_wp2_with fail
  refine (record_of k a b c k' a' b' c' _ (unhide HX k (by simp)) (unhide HX a (by simp)) (unhide HX b (by simp)) (unhide HX c (by simp)) (unhide HY k' (by simp)) (unhide HY a' (by simp)) (unhide HY b' (by simp)) (unhide HY c' (by simp))).mono ?_
  rintro e w2 ⟨rfl, b2⟩
  have r2 := r1.below b2
  have B2 := Below.next B1 b2
  have z2 := b2.size
  clear r1 B1 b2 f0 f1 f2 f3 g0 g1 g2 g3 e0 e1
  rw [unhide HREC]
  simp only [recVal, List.map_cons, List.map_nil]
  go_wp2_with fail
  refine (write_any a1 n cap1 L n x0 x1 x2 x3 x4 x5 x6 x7 x8 x9 _ r2 n1 (by omega) (by omega) (by omega) (unhide HF)).mono ?_
  have hbl := bytesOf_len x0 x1 x2 x3 x4 x5 x6 x7 x8 x9
  have hb1 : (bytesOf x0 x1 x2 x3 x4 x5 x6 x7 x8 x9).length ≤ 40 := by rw [hbl]; split <;> omega
  have hb2 : 16 ≤ (bytesOf x0 x1 x2 x3 x4 x5 x6 x7 x8 x9).length := by rw [hbl]; split <;> omega
  clear hbl
  generalize bytesOf x0 x1 x2 x3 x4 x5 x6 x7 x8 x9 = bs at hb1 hb2
  rintro e w3 (⟨hg, _⟩ | ⟨_, a3, cap3, rfl, r3, c3, n3, m3, y3, b3⟩)
  · exact absurd hg (by omega)
  have q3 := r2.below b3
  have B3 := Below.next B2 b3
  have z3 := b3.size
  clear r2 B2 b3
  have hl := q3.len_eq
  have rt := r3.take n (by omega)
  rw [List.take_left' hl] at rt
  obtain ⟨M, hM⟩ : ∃ M, n + (bs.length + 6) = M := ⟨_, rfl⟩
  rw [hM] at r3 c3 ⊢
  have hM1 : (n : Int) + 16 < (M : Int) := by omega
  have hM2 : M ≤ 200 := by omega
  have hM3 : (n : Int) ≤ (cap3 : Int) := by omega
  have hwr : IntKind.i64.wrap ((n : Int) + 16) = (n : Int) + 16 := by rw [IntKind.wrap_i64]; omega
  clear hM r3
  go_wp2_with fail
  obtain ⟨W4, hW4, tb, b4, S4⟩ : ∃ W4, W4 = w3.alloc (.cells #[.slice a3 M cap3, .int .i64 n] 25) ∧ tapeBlock W4 w3.heap.size a3 M cap3 n ∧ Below w3.heap.size w3 W4 ∧ W4.heap.size = w3.heap.size + 1 := ⟨_, rfl, tapeBlock.new w3 a3 M cap3 n, below1 _ _, alloc_size _ _⟩
  rw [← hW4]
  clear hW4
  have k0 := tb.cell0
  have k1 := tb.cell1
  have cs1 : ∀ q, (convert 23 9 (.slice a3 n cap3)).run Try.prog (W4.drewN q) = .ok (.string (strOfNums L)) (W4.drewN q) := fun q => run_string_row (P := Try.prog) 23 5 Try.underlying23 Try.underlying5 ((rt.below b4).below (belowN _ q)) 9 Try.underlying9
  have cs2 : ∀ q, (convert 23 9 (.slice a1 n cap1)).run Try.prog (W4.drewN q) = .ok (.string (strOfNums L)) (W4.drewN q) := fun q => run_string_row (P := Try.prog) 23 5 Try.underlying23 Try.underlying5 ((q3.below b4).below (belowN _ q)) 9 Try.underlying9
  have BB := hide (Below.next B3 b4)
  clear rt q3 B3 b4 tb
  go_quiet (fail)
  go_wp2
  go_ret
  exact ⟨rfl, Below.next (unhide BB) (belowN _ _)⟩

set_option linter.unusedVariables false in
set_option maxRecDepth 100000 in
theorem lifted_TapeGrows (os : Os) (started : os.Started) (H : Type) (enc : TypeId × Value → H) :
    ReturnsInHanded {} Try.checked os 4 .any (Rows.tapeGrowsSpec.pre6 enc Try.prog Try.f4 Rows.tapeGrowsRow.domain false) (Rows.tapeGrowsSpec.post enc Try.prog Try.f4 false true false false) := by
  refine returnsInHanded_of_change_sized (C := Try.checked) own started (by kernel_rfl) Try.func4
    (ChangeSpec.witness6 (enc := enc) (C := Try.checked) false ⟨#[], #[.slice none 0 0, .agg #[.int .i64 0, .int .i64 0, .int .i64 0, .int .i64 0], .agg #[.int .i64 0, .int .i64 0, .int .i64 0, .int .i64 0]], []⟩ 8 (by kernel_rfl) (by kernel_rfl) (by kernel_rfl) (by kernel_rfl)) ?_
  intro W base args ds gs before hval0 hW hcnd hsz0 _
  have hval : ∀ (j : Nat) t v, Try.f4.params[j]? = some t → args[j]? = some v → Value.okWide Try.prog W .any base t v := hval0
  have hsz : (DataW.weightsEach Try.prog (Try.f4.params.toList ++ Rows.tapeGrowsSpec.plain.varTypes Try.prog) (ds ++ gs)).all (· ≤ reachBytes) = true := hsz0
  have hW' := hW
  obtain ⟨p, q, hA0, hV, rfl, hfz, hnd⟩ := hW
  have hA : DataW.TrodAll enc Try.prog W 0 (fun _ => true) true Try.f4.params.toList args.toList ds p := hA0
  rw [Try.params4] at hA hval hsz
  have hK := hA
  have hlt : ∀ x ∈ p, x.block < W.heap.size := fun x hx => hW'.lt x (by simp [hx])
  obtain ⟨v0, vs0, d0, ds0, p0, q0, hargs, rfl, rfl, h0, r0⟩ := trodAll_cons hA
  obtain ⟨v1, vs1, d1, ds1, p1, q1, rfl, rfl, rfl, h1, r1⟩ := trodAll_cons r0
  obtain ⟨v2, vs2, d2, ds2, p2, q2, rfl, rfl, rfl, h2, r2⟩ := trodAll_cons r1
  obtain ⟨rfl, rfl, rfl⟩ := trodAll_nil r2
  obtain rfl : args = #[v0, v1, v2] := by cases args; simp_all
  obtain ⟨rfl, rfl⟩ := trodVars_none hV
  obtain ⟨a0, len0, cap0, l0, rfl, w0, lc0, cm0, na0, hd0⟩ := open_row Try.underlying23 Try.underlying5 (by kernel_rfl) (hval 0 23 v0 rfl rfl) h0
  have z0 : cap0 * 1 ≤ 140737488351232 := open_sized (j := 0) (t := 23) (e := 5) hsz rfl rfl Try.underlying23 (by kernel_rfl) hd0
  clear hd0
  obtain ⟨x1a, x1b, x1c, x1d, rfl, w1⟩ := open_Deed (hval 1 36 v1 rfl rfl) h1
  obtain ⟨x2a, x2b, x2c, x2d, rfl, w2⟩ := open_Deed (hval 2 36 v2 rfl rfl) h2
  clear hA0 hval0 hsz0
  refine (walk_TapeGrows W a0 len0 cap0 l0 w0 lc0 na0 z0 x1a x1b x1c x1d w1 x2a x2b x2c x2d w2).mono fun e W' ⟨he, bel⟩ => ?_
  subst he
  exact ⟨_, rfl, _, _, _, [], _, [], hW', trodAll_mk1 (shut_bool Try.underlying4 _), trodAll_stays laidOut (List.forall_mem_cons.2 ⟨⟨by kernel_rfl, of_decide_eq_true (by kernel_rfl)⟩, List.forall_mem_cons.2 ⟨⟨by kernel_rfl, of_decide_eq_true (by kernel_rfl)⟩, List.forall_mem_cons.2 ⟨⟨by kernel_rfl, of_decide_eq_true (by kernel_rfl)⟩, by intro t ht; cases ht⟩⟩⟩) hK bel hlt, rfl, bel.frame _, fun h => by cases h⟩

theorem tapeGrows_holds : Rows.TapeGrowsSaid :=
  OpenClaim.holds_of_wide 4 Try.f4 rfl rfl rfl rfl rfl rfl rfl ⟨rfl, rfl, rfl, rfl, rfl⟩ rfl rfl rfl rfl rfl (by kernel_rfl) Try.func4 (by kernel_rfl)
    (of_decide_eq_true (by kernel_rfl)) (by unfold Func.isWrapper; first | (rw [if_pos (by decide +kernel)]; kernel_rfl) | (rw [if_neg (by decide +kernel)]; exact ⟨rfl, rfl⟩))
    (fun os started H enc _ => lifted_TapeGrows os started H enc)
#print axioms tapeGrows_holds
end Go.Proofs.Ytdpenbgmmgljoac
