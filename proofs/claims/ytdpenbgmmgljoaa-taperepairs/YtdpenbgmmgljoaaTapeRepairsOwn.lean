/- For every tape t (any bytes, any number of them synced), berthshiftlaw.TapeRepairs(t) returns true: tape.Repair answers what the document's answer (P2.1, P2.7) says, and changes none of its bytes; t reads behind the call as before it; no condition on t. -/
import Derived.Test.YtdpenbgmmgljoaaRows
import Derived.Test.YtdpenbgmmgljoaaTpR
import Derived.Test.YtdpenbgmmgljoaaTpO
namespace Go.Proofs.Ytdpenbgmmgljoaa
open Go.ChangeShapes Go.WideShapes Go.ChangeAt Go.RowKit

theorem own : ownKnob Try.prog.godebug = none := by kernel_rfl
theorem laidOut : laidOutB Try.prog = true := by kernel_rfl

theorem one_box (w : World) (a : Option Addr) (len cap : Nat) (s : Int) : ∃ W, W = w.alloc (.cells #[.slice a len cap, .int .i64 s] 27) ∧
    tapeBlock W w.heap.size a len cap s ∧ Below w.heap.size w W ∧ W.heap.size = w.heap.size + 1 :=
  ⟨_, rfl, tapeBlock.new w a len cap s, below1 _ _, by simp⟩

set_option maxHeartbeats 1000000 in
theorem walk_TapeRepairs (w : World) (a : Option Addr) (len cap : Nat) (l : List Int) (s : Int) (h : RowK .u8 w a len l) (hc : len ≤ cap) (hn : a = none → cap = 0) (hz : cap * 1 ≤ 140737488351232) (_ : (Lit.int .i64 s).wf = true) :
    Calls Try.prog 8 #[.agg #[.slice a len cap, .int .i64 s]] w fun e w' => e = .returned (.bool true) ∧ Below w.heap.size w w' := by
  go_enter Try.func8, Try.ntmps8
  go_wp2_with fail
  obtain ⟨W, hW, t0, B0, S0⟩ := one_box w a len cap s
  rw [← hW]
  have r0 := h.below B0
  clear hW h
  refine (tapes_any a len cap l s _ r0 hc hn hz).mono ?_
  rintro e w1 ⟨a1, cap1, rfl, r1, c1, n1, m1, y1, b1⟩
  have t1 := t0.below b1 t0.lt
  have q1 := r0.below b1
  have B1 := Below.next B0 b1
  have hz1 := b1.size
  clear t0 r0 b1 B0
  go_wp2_with fail
  obtain ⟨W2, hW, u2, b2, S2⟩ := one_box w1 a1 len cap1 s
  rw [← hW]
  clear hW
  have t2 := t1.below b2 t1.lt
  have r2 := r1.below b2
  have q2 := q1.below b2
  have B2 := Below.next B1 b2
  clear t1 r1 q1 B1 b2
  refine (repair_all a1 len cap1 l s _ r2 n1 c1 m1 (by omega)).mono ?_
  rintro e w3 ⟨a3, n3, cap3, L, s3, er, hout, rfl, r3, b3⟩
  have HO := hide hout
  clear hout
  have t3 := t2.below b3 t2.lt
  have u3 := u2.below b3 u2.lt
  have p3 := r2.below b3
  have q3 := q2.below b3
  have B3 := Below.next B2 b3
  have s3' := b3.size
  clear t2 u2 r2 q2 B2 b3
  have L3 := t3.lt
  have k0 := t3.cell0
  have k1 := t3.cell1
  go_wp2_with fail
  obtain ⟨W4, hW, v4, b4, S4⟩ := one_box w3 a3 n3 cap3 s3
  rw [← hW]
  clear hW
  have t4 := t3.below b4 t3.lt
  have u4 := u3.below b4 u3.lt
  have p4 := p3.below b4
  have q4 := q3.below b4
  have r4 := r3.below b4
  have B4 := Below.next B3 b4
  clear t3 u3 p3 q3 r3 B3 b4 k0 k1
  refine (repaired_all a len cap l s _ q4 hc (by omega)).mono ?_
  rintro e w5 ⟨a5, n5, cap5, L', s5, er', hout, rfl, r5, b5⟩
  rw [unhide HO] at hout
  simp only [Prod.mk.injEq] at hout
  obtain ⟨rfl, rfl, rfl⟩ := hout
  clear HO
  have ee : (er == er) = true := by simp
  have t5 := t4.below b5 t4.lt
  have u5 := u4.below b5 u4.lt
  have v5 := v4.below b5 v4.lt
  have p5 := p4.below b5
  have q5 := q4.below b5
  have s5 := r4.below b5
  have B5 := Below.next B4 b5
  clear t4 u4 v4 p4 q4 r4 B4 b5
  have L0 := t5.lt
  have L1 := u5.lt
  have L2 := v5.lt
  have k0 := t5.cell0
  have k1 := t5.cell1
  have k2 := u5.cell0
  have k3 := u5.cell1
  have k4 := v5.cell0
  have k5 := v5.cell1
  go_wp2_with fail
  obtain ⟨W6, hW, z6, b6, S6⟩ := one_box w5 a5 n5 cap5 s3
  rw [← hW]
  clear hW k0 k1 k2 k3 k4 k5
  refine (sameTape_yes a3 a5 n3 cap3 n5 cap5 L s3 _ (s5.below b6) (r5.below b6)).mono ?_
  rintro e w7 ⟨rfl, b7⟩
  have b8 := Below.next b6 b7
  have t7 := t5.below b8 t5.lt
  have u7 := u5.below b8 u5.lt
  have k0 := t7.cell0
  have k1 := t7.cell1
  have k2 := u7.cell0
  have k3 := u7.cell1
  have p7 := p5.below b8
  have q7 := q5.below b8
  have B7 := Below.next B5 b8
  clear t5 u5 v5 z6 b6 b7 b8 p5 q5 r5 s5 B5 t7 u7
  go_wp2_with fail
  refine (sameTape_yes a1 a len cap1 len cap l s _ p7 q7).mono ?_
  rintro e w8 ⟨rfl, b8⟩
  go_wp2
  go_ret
  exact ⟨rfl, Below.next B7 b8⟩

set_option linter.unusedVariables false in
set_option maxRecDepth 100000 in
theorem lifted_TapeRepairs (os : Os) (started : os.Started) (H : Type) (enc : TypeId × Value → H) :
    ReturnsInHanded {} Try.checked os 8 .any (Rows.tapeRepairsSpec.pre6 enc Try.prog Try.f8 Rows.tapeRepairsRow.domain false) (Rows.tapeRepairsSpec.post enc Try.prog Try.f8 false true false false) := by
  refine returnsInHanded_of_change_sized (C := Try.checked) own started (by kernel_rfl) Try.func8
    (ChangeSpec.witness6 (enc := enc) (C := Try.checked) false ⟨#[], #[.agg #[.slice none 0 0, .int .i64 0]], []⟩ 8 (by kernel_rfl) (by kernel_rfl) (by kernel_rfl) (by kernel_rfl)) ?_
  intro W base args ds gs before hval0 hW hcnd hsz0 _
  have hval : ∀ (j : Nat) t v, Try.f8.params[j]? = some t → args[j]? = some v → Value.okWide Try.prog W .any base t v := hval0
  have hsz : (DataW.weightsEach Try.prog (Try.f8.params.toList ++ Rows.tapeRepairsSpec.plain.varTypes Try.prog) (ds ++ gs)).all (· ≤ reachBytes) = true := hsz0
  have hW' := hW
  obtain ⟨p, q, hA0, hV, rfl, hfz, hnd⟩ := hW
  have hA : DataW.TrodAll enc Try.prog W 0 (fun _ => true) true Try.f8.params.toList args.toList ds p := hA0
  rw [Try.params8] at hA hval hsz
  have hK := hA
  have hlt : ∀ x ∈ p, x.block < W.heap.size := fun x hx => hW'.lt x (by simp [hx])
  obtain ⟨v0, vs0, d0, ds0, p0, q0, hargs, rfl, rfl, h0, r0⟩ := trodAll_cons hA
  obtain ⟨rfl, rfl, rfl⟩ := trodAll_nil r0
  obtain rfl : args = #[v0] := by cases args; simp_all
  obtain ⟨rfl, rfl⟩ := trodVars_none hV
  obtain ⟨a0, len0, cap0, l0, s0, da0, db0, rfl, w0, lc0, cm0, na0, ws0, rfl, hd0⟩ := open_Tape (hval 0 27 v0 rfl rfl) h0
  have z0 : cap0 * 1 ≤ 140737488351232 := sized_Tape (j := 0) hsz rfl rfl hd0
  clear hd0
  clear hA0 hval0 hsz0
  refine (walk_TapeRepairs W a0 len0 cap0 l0 s0 w0 lc0 na0 z0 ws0).mono fun e W' ⟨he, bel⟩ => ?_
  subst he
  exact ⟨_, rfl, _, _, _, [], _, [], hW', trodAll_mk1 (shut_bool Try.underlying4 _), trodAll_stays laidOut (List.forall_mem_cons.2 ⟨⟨by kernel_rfl, of_decide_eq_true (by kernel_rfl)⟩, by intro t ht; cases ht⟩) hK bel hlt, rfl, bel.frame _, fun h => by cases h⟩

theorem tapeRepairs_holds : Rows.TapeRepairsSaid :=
  OpenClaim.holds_of_wide 8 Try.f8 rfl rfl rfl rfl rfl rfl rfl ⟨rfl, rfl, rfl, rfl, rfl⟩ rfl rfl rfl rfl rfl (by kernel_rfl) Try.func8 (by kernel_rfl)
    (of_decide_eq_true (by kernel_rfl)) (by unfold Func.isWrapper; first | (rw [if_pos (by decide +kernel)]; kernel_rfl) | (rw [if_neg (by decide +kernel)]; exact ⟨rfl, rfl⟩))
    (fun os started H enc _ => lifted_TapeRepairs os started H enc)
#print axioms tapeRepairs_holds
end Go.Proofs.Ytdpenbgmmgljoaa
