/- For every tape t (any bytes, any number of them synced) and every record r, berthshiftlaw.TapeWrites(t, r) returns true: tape.Write answers what the document's answer (P2.1, P2.3) says, and changes none of its bytes; t and r read behind the call as before it; no condition on t or r. -/
import Derived.Test.YtdpenbgmmgljoaaRows
import Derived.Test.YtdpenbgmmgljoaaTpI
import Derived.Test.YtdpenbgmmgljoaaTpO
namespace Go.Proofs.Ytdpenbgmmgljoaa
open Go.ChangeShapes Go.WideShapes Go.ChangeAt Go.RowKit

theorem own : ownKnob Try.prog.godebug = none := by kernel_rfl
theorem laidOut : laidOutB Try.prog = true := by kernel_rfl

/-- what Write answers: bytes, how many of them are synced, and the error. -/
def writeOut (l : List Int) (s x0 x1 x2 x3 x4 x5 x6 x7 x8 x9 : Int) : List Int × Int × Int :=
  if ¬ (l.length ≤ 100000 ∧ 0 ≤ s ∧ s ≤ l.length) then ([], 0, 6)
  else if ¬ recordFault x0 x1 x2 x3 x4 x5 x6 x7 x8 x9 = 0 then ([], 0, recordFault x0 x1 x2 x3 x4 x5 x6 x7 x8 x9)
  else if 100000 < l.length + ((bytesOf x0 x1 x2 x3 x4 x5 x6 x7 x8 x9).length + 6) then ([], 0, 14)
  else (l ++ frameOf (bytesOf x0 x1 x2 x3 x4 x5 x6 x7 x8 x9), s, 0)

theorem write_all (a : Option Addr) (len cap : Nat) (l : List Int) (s x0 x1 x2 x3 x4 x5 x6 x7 x8 x9 : Int) (w : World) (h : RowK .u8 w a len l) (hn : a = none → cap = 0) (hm : len ≤ 140737488351232) :
    Calls Try.prog 13 #[.agg #[.slice a len cap, .int .i64 s], .agg #[.int .i64 x0, .int .i64 x1, .int .i64 x2, .int .i64 x3, .int .i64 x4, .int .i64 x5, .int .i64 x6, .int .i64 x7, .int .i64 x8, .int .i64 x9]] w fun e w' =>
      ∃ a' n cap' L s' er, writeOut l s x0 x1 x2 x3 x4 x5 x6 x7 x8 x9 = (L, s', er) ∧ e = .returned (.tuple #[.agg #[.slice a' n cap', .int .i64 s'], .int .i64 er]) ∧ RowK .u8 w' a' n L ∧ Below w.heap.size w w' := by
  have hl := h.len_eq
  unfold writeOut
  rw [hl]
  by_cases may : len ≤ 100000 ∧ 0 ≤ s ∧ s ≤ len
  · rw [if_neg (not_not_intro may)]
    obtain ⟨h1, h2, h3⟩ := may
    by_cases hf : recordFault x0 x1 x2 x3 x4 x5 x6 x7 x8 x9 = 0
    · rw [if_neg (not_not_intro hf)]
      refine (write_any a len cap l s x0 x1 x2 x3 x4 x5 x6 x7 x8 x9 w h hn h1 h2 h3 hf).mono ?_
      rintro e w' (⟨hg, rfl, b⟩ | ⟨hg, a', cap', rfl, r, _, _, _, _, b⟩)
      · rw [if_pos hg]
        exact ⟨none, 0, 0, [], 0, 14, rfl, rfl, RowK.nil _ _ _, b⟩
      · rw [if_neg (by omega)]
        exact ⟨a', _, cap', _, s, 0, rfl, rfl, r, b⟩
    · rw [if_pos hf]
      refine (write_bad a len cap s x0 x1 x2 x3 x4 x5 x6 x7 x8 x9 w h1 h2 h3 hf).mono ?_
      rintro e w' ⟨rfl, b⟩
      exact ⟨none, 0, 0, [], 0, _, rfl, rfl, RowK.nil _ _ _, b⟩
  · rw [if_pos may]
    refine (write_no a len cap s x0 x1 x2 x3 x4 x5 x6 x7 x8 x9 w hm may).mono ?_
    rintro e w' ⟨rfl, b⟩
    exact ⟨none, 0, 0, [], 0, 6, rfl, rfl, RowK.nil _ _ _, b⟩

theorem written_all (a : Option Addr) (len cap : Nat) (l : List Int) (s x0 x1 x2 x3 x4 x5 x6 x7 x8 x9 : Int) (w : World) (h : RowK .u8 w a len l) (hm : len ≤ 140737488351232) :
    Calls Try.prog 14 #[.agg #[.slice a len cap, .int .i64 s], .agg #[.int .i64 x0, .int .i64 x1, .int .i64 x2, .int .i64 x3, .int .i64 x4, .int .i64 x5, .int .i64 x6, .int .i64 x7, .int .i64 x8, .int .i64 x9]] w fun e w' =>
      ∃ a' n cap' L s' er, writeOut l s x0 x1 x2 x3 x4 x5 x6 x7 x8 x9 = (L, s', er) ∧ e = .returned (.tuple #[.agg #[.slice a' n cap', .int .i64 s'], .int .i64 er]) ∧ RowK .u8 w' a' n L ∧ Below w.heap.size w w' := by
  have hl := h.len_eq
  unfold writeOut
  rw [hl]
  by_cases may : len ≤ 100000 ∧ 0 ≤ s ∧ s ≤ len
  · rw [if_neg (not_not_intro may)]
    obtain ⟨h1, h2, h3⟩ := may
    by_cases hf : recordFault x0 x1 x2 x3 x4 x5 x6 x7 x8 x9 = 0
    · rw [if_neg (not_not_intro hf)]
      refine (written_any a len cap l s x0 x1 x2 x3 x4 x5 x6 x7 x8 x9 w h h1 h2 h3 hf).mono ?_
      rintro e w' (⟨hg, rfl, b⟩ | ⟨hg, a', cap', rfl, r, b⟩)
      · rw [if_pos hg]
        exact ⟨none, 0, 0, [], 0, 14, rfl, rfl, RowK.nil _ _ _, b⟩
      · rw [if_neg (by omega)]
        exact ⟨a', _, cap', _, s, 0, rfl, rfl, r, b⟩
    · rw [if_pos hf]
      refine (written_bad a len cap s x0 x1 x2 x3 x4 x5 x6 x7 x8 x9 w h1 h2 h3 hf).mono ?_
      rintro e w' ⟨rfl, b⟩
      exact ⟨none, 0, 0, [], 0, _, rfl, rfl, RowK.nil _ _ _, b⟩
  · rw [if_pos may]
    refine (written_no a len cap s x0 x1 x2 x3 x4 x5 x6 x7 x8 x9 w hm may).mono ?_
    rintro e w' ⟨rfl, b⟩
    exact ⟨none, 0, 0, [], 0, 6, rfl, rfl, RowK.nil _ _ _, b⟩

theorem one_box (w : World) (a : Option Addr) (len cap : Nat) (s : Int) : ∃ W, W = w.alloc (.cells #[.slice a len cap, .int .i64 s] 27) ∧
    tapeBlock W w.heap.size a len cap s ∧ Below w.heap.size w W ∧ W.heap.size = w.heap.size + 1 :=
  ⟨_, rfl, tapeBlock.new w a len cap s, below1 _ _, by simp⟩
theorem pair_box (w : World) (a : Option Addr) (len cap : Nat) (s : Int) (x0 x1 x2 x3 x4 x5 x6 x7 x8 x9 : Int) :
    ∃ W, W = (w.alloc (.cells #[.slice a len cap, .int .i64 s] 27)).alloc (.cells #[.int .i64 x0, .int .i64 x1, .int .i64 x2, .int .i64 x3, .int .i64 x4, .int .i64 x5, .int .i64 x6, .int .i64 x7, .int .i64 x8, .int .i64 x9] 33) ∧
    tapeBlock W w.heap.size a len cap s ∧ recBlock W (w.heap.size + 1) [x0, x1, x2, x3, x4, x5, x6, x7, x8, x9] ∧ Below w.heap.size w W ∧ W.heap.size = w.heap.size + 1 + 1 := by
  refine ⟨_, rfl, (tapeBlock.new w a len cap s).below (below1 _ _) (by simp), ⟨rfl, ?_⟩, below2 _ _ _, by rw [alloc_size, alloc_size]⟩
  have := heap_alloc_new (w.alloc (.cells #[.slice a len cap, .int .i64 s] 27)) (.cells #[.int .i64 x0, .int .i64 x1, .int .i64 x2, .int .i64 x3, .int .i64 x4, .int .i64 x5, .int .i64 x6, .int .i64 x7, .int .i64 x8, .int .i64 x9] 33)
  rw [alloc_size] at this
  exact this

set_option maxHeartbeats 1000000 in
theorem walk_TapeWrites (w : World) (a : Option Addr) (len cap : Nat) (l : List Int) (s : Int) (h : RowK .u8 w a len l) (hc : len ≤ cap) (hn : a = none → cap = 0) (hz : cap * 1 ≤ 140737488351232) (_ : (Lit.int .i64 s).wf = true)
    (x0 x1 x2 x3 x4 x5 x6 x7 x8 x9 : Int) (_ : ∀ z ∈ [x0, x1, x2, x3, x4, x5, x6, x7, x8, x9], (Lit.int .i64 z).wf = true) :
    Calls Try.prog 4 #[.agg #[.slice a len cap, .int .i64 s], .agg #[.int .i64 x0, .int .i64 x1, .int .i64 x2, .int .i64 x3, .int .i64 x4, .int .i64 x5, .int .i64 x6, .int .i64 x7, .int .i64 x8, .int .i64 x9]] w fun e w' => e = .returned (.bool true) ∧ Below w.heap.size w w' := by
  go_enter Try.func4, Try.ntmps4
  go_wp2_with fail
  obtain ⟨W, hW, t0, g0, B0, S0⟩ := pair_box w a len cap s x0 x1 x2 x3 x4 x5 x6 x7 x8 x9
  rw [← hW]
  have r0 := h.below B0
  clear hW h
  refine (tapes_any a len cap l s _ r0 hc hn hz).mono ?_
  rintro e w1 ⟨a1, cap1, rfl, r1, c1, n1, m1, y1, b1⟩
  have t1 := t0.below b1 t0.lt
  have g1 := g0.below b1 g0.lt
  have q1 := r0.below b1
  have B1 := Below.next B0 b1
  have hz1 := b1.size
  clear t0 r0 b1 B0 g0
  have L1 := g1.lt
  have m0 := g1.cell 0 (by omega)
  have m1' := g1.cell 1 (by omega)
  have m2 := g1.cell 2 (by omega)
  have m3 := g1.cell 3 (by omega)
  have m4 := g1.cell 4 (by omega)
  have m5 := g1.cell 5 (by omega)
  have m6 := g1.cell 6 (by omega)
  have m7 := g1.cell 7 (by omega)
  have m8 := g1.cell 8 (by omega)
  have m9 := g1.cell 9 (by omega)
  simp only [List.getD_cons_zero, List.getD_cons_succ] at m0 m1' m2 m3 m4 m5 m6 m7 m8 m9
  go_wp2_with fail
  clear m0 m1' m2 m3 m4 m5 m6 m7 m8 m9
  obtain ⟨W2, hW, u2, b2, S2⟩ := one_box w1 a1 len cap1 s
  rw [← hW]
  clear hW
  have t2 := t1.below b2 t1.lt
  have g2 := g1.below b2 g1.lt
  have r2 := r1.below b2
  have q2 := q1.below b2
  have B2 := Below.next B1 b2
  clear t1 r1 q1 B1 b2 g1
  refine (write_all a1 len cap1 l s x0 x1 x2 x3 x4 x5 x6 x7 x8 x9 _ r2 n1 (by omega)).mono ?_
  rintro e w3 ⟨a3, n3, cap3, L, s3, er, hout, rfl, r3, b3⟩
  have HO := hide hout
  clear hout
  have t3 := t2.below b3 t2.lt
  have g3 := g2.below b3 g2.lt
  have u3 := u2.below b3 u2.lt
  have p3 := r2.below b3
  have q3 := q2.below b3
  have B3 := Below.next B2 b3
  have s3' := b3.size
  clear t2 u2 r2 q2 B2 b3 g2
  have L3 := t3.lt
  have L4 := g3.lt
  have k0 := t3.cell0
  have k1 := t3.cell1
  have m0 := g3.cell 0 (by omega)
  have m1' := g3.cell 1 (by omega)
  have m2 := g3.cell 2 (by omega)
  have m3 := g3.cell 3 (by omega)
  have m4 := g3.cell 4 (by omega)
  have m5 := g3.cell 5 (by omega)
  have m6 := g3.cell 6 (by omega)
  have m7 := g3.cell 7 (by omega)
  have m8 := g3.cell 8 (by omega)
  have m9 := g3.cell 9 (by omega)
  simp only [List.getD_cons_zero, List.getD_cons_succ] at m0 m1' m2 m3 m4 m5 m6 m7 m8 m9
  go_wp2_with fail
  clear m0 m1' m2 m3 m4 m5 m6 m7 m8 m9
  obtain ⟨W4, hW, v4, b4, S4⟩ := one_box w3 a3 n3 cap3 s3
  rw [← hW]
  clear hW
  have t4 := t3.below b4 t3.lt
  have u4 := u3.below b4 u3.lt
  have p4 := p3.below b4
  have q4 := q3.below b4
  have r4 := r3.below b4
  have B4 := Below.next B3 b4
  clear t3 u3 p3 q3 r3 B3 b4 k0 k1 g3
  refine (written_all a len cap l s x0 x1 x2 x3 x4 x5 x6 x7 x8 x9 _ q4 (by omega)).mono ?_
  rintro e w5 ⟨a5, n5, cap5, L', s5, er', hout, rfl, r5, b5⟩
  rw [unhide HO] at hout
  simp only [Prod.mk.injEq] at hout
  obtain ⟨rfl, rfl, rfl⟩ := hout
  clear HO
  have ee : (er == er) = true := by simp
  have t5 := t4.below b5 t4.lt
  have u5 := u4.below b5 u4.lt
  have v5 := v4.below b5 v4.lt
  have p5 := p4.below b5
  have q5 := q4.below b5
  have s5 := r4.below b5
  have B5 := Below.next B4 b5
  clear t4 u4 v4 p4 q4 r4 B4 b5
  have L0 := t5.lt
  have L1 := u5.lt
  have L2 := v5.lt
  have k0 := t5.cell0
  have k1 := t5.cell1
  have k2 := u5.cell0
  have k3 := u5.cell1
  have k4 := v5.cell0
  have k5 := v5.cell1
  go_wp2_with fail
  obtain ⟨W6, hW, z6, b6, S6⟩ := one_box w5 a5 n5 cap5 s3
  rw [← hW]
  clear hW k0 k1 k2 k3 k4 k5
  refine (sameTape_yes a3 a5 n3 cap3 n5 cap5 L s3 _ (s5.below b6) (r5.below b6)).mono ?_
  rintro e w7 ⟨rfl, b7⟩
  have b8 := Below.next b6 b7
  have t7 := t5.below b8 t5.lt
  have u7 := u5.below b8 u5.lt
  have k0 := t7.cell0
  have k1 := t7.cell1
  have k2 := u7.cell0
  have k3 := u7.cell1
  have p7 := p5.below b8
  have q7 := q5.below b8
  have B7 := Below.next B5 b8
  clear t5 u5 v5 z6 b6 b7 b8 p5 q5 r5 s5 B5 t7 u7
  go_wp2_with fail
  refine (sameTape_yes a1 a len cap1 len cap l s _ p7 q7).mono ?_
  rintro e w8 ⟨rfl, b8⟩
  go_wp2
  go_ret
  exact ⟨rfl, Below.next B7 b8⟩

set_option linter.unusedVariables false in
set_option maxRecDepth 100000 in
theorem lifted_TapeWrites (os : Os) (started : os.Started) (H : Type) (enc : TypeId × Value → H) :
    ReturnsInHanded {} Try.checked os 4 .any (Rows.tapeWritesSpec.pre6 enc Try.prog Try.f4 Rows.tapeWritesRow.domain false) (Rows.tapeWritesSpec.post enc Try.prog Try.f4 false true false false) := by
  refine returnsInHanded_of_change_sized (C := Try.checked) own started (by kernel_rfl) Try.func4
    (ChangeSpec.witness6 (enc := enc) (C := Try.checked) false ⟨#[], #[.agg #[.slice none 0 0, .int .i64 0], .agg #[.int .i64 0, .int .i64 0, .int .i64 0, .int .i64 0, .int .i64 0, .int .i64 0, .int .i64 0, .int .i64 0, .int .i64 0, .int .i64 0]], []⟩ 8 (by kernel_rfl) (by kernel_rfl) (by kernel_rfl) (by kernel_rfl)) ?_
  intro W base args ds gs before hval0 hW hcnd hsz0 _
  have hval : ∀ (j : Nat) t v, Try.f4.params[j]? = some t → args[j]? = some v → Value.okWide Try.prog W .any base t v := hval0
  have hsz : (DataW.weightsEach Try.prog (Try.f4.params.toList ++ Rows.tapeWritesSpec.plain.varTypes Try.prog) (ds ++ gs)).all (· ≤ reachBytes) = true := hsz0
  have hW' := hW
  obtain ⟨p, q, hA0, hV, rfl, hfz, hnd⟩ := hW
  have hA : DataW.TrodAll enc Try.prog W 0 (fun _ => true) true Try.f4.params.toList args.toList ds p := hA0
  rw [Try.params4] at hA hval hsz
  have hK := hA
  have hlt : ∀ x ∈ p, x.block < W.heap.size := fun x hx => hW'.lt x (by simp [hx])
  obtain ⟨v0, vs0, d0, ds0, p0, q0, hargs, rfl, rfl, h0, r0⟩ := trodAll_cons hA
  obtain ⟨v1, vs1, d1, ds1, p1, q1, rfl, rfl, rfl, h1, r1⟩ := trodAll_cons r0
  obtain ⟨rfl, rfl, rfl⟩ := trodAll_nil r1
  obtain rfl : args = #[v0, v1] := by cases args; simp_all
  obtain ⟨rfl, rfl⟩ := trodVars_none hV
  obtain ⟨a0, len0, cap0, l0, s0, da0, db0, rfl, w0, lc0, cm0, na0, ws0, rfl, hd0⟩ := open_Tape (hval 0 27 v0 rfl rfl) h0
  have z0 : cap0 * 1 ≤ 140737488351232 := sized_Tape (j := 0) hsz rfl rfl hd0
  clear hd0
  obtain ⟨x1a, x1b, x1c, x1d, x1e, x1f, x1g, x1h, x1i, x1j, rfl, w1⟩ := open_Record (hval 1 33 v1 rfl rfl) h1
  clear hA0 hval0 hsz0
  refine (walk_TapeWrites W a0 len0 cap0 l0 s0 w0 lc0 na0 z0 ws0 x1a x1b x1c x1d x1e x1f x1g x1h x1i x1j w1).mono fun e W' ⟨he, bel⟩ => ?_
  subst he
  exact ⟨_, rfl, _, _, _, [], _, [], hW', trodAll_mk1 (shut_bool Try.underlying4 _), trodAll_stays laidOut (List.forall_mem_cons.2 ⟨⟨by kernel_rfl, of_decide_eq_true (by kernel_rfl)⟩, List.forall_mem_cons.2 ⟨⟨by kernel_rfl, of_decide_eq_true (by kernel_rfl)⟩, by intro t ht; cases ht⟩⟩) hK bel hlt, rfl, bel.frame _, fun h => by cases h⟩

theorem tapeWrites_holds : Rows.TapeWritesSaid :=
  OpenClaim.holds_of_wide 4 Try.f4 rfl rfl rfl rfl rfl rfl rfl ⟨rfl, rfl, rfl, rfl, rfl⟩ rfl rfl rfl rfl rfl (by kernel_rfl) Try.func4 (by kernel_rfl)
    (of_decide_eq_true (by kernel_rfl)) (by unfold Func.isWrapper; first | (rw [if_pos (by decide +kernel)]; kernel_rfl) | (rw [if_neg (by decide +kernel)]; exact ⟨rfl, rfl⟩))
    (fun os started H enc _ => lifted_TapeWrites os started H enc)
#print axioms tapeWrites_holds
end Go.Proofs.Ytdpenbgmmgljoaa
