/- For every tape t (any bytes, any number of them synced), berthshiftlaw.TapeReads(t) returns true: tape.Read answers what the document's answer (P2.1, P2.6) says, and changes none of its bytes; t reads behind the call as before it; no condition on t. -/
import Derived.Test.YtdpenbgmmgljoaaRows
import Derived.Test.YtdpenbgmmgljoaaTpQ
import Derived.Test.YtdpenbgmmgljoaaTpO
namespace Go.Proofs.Ytdpenbgmmgljoaa
open Go.ChangeShapes Go.WideShapes Go.ChangeAt Go.RowKit

theorem own : ownKnob Try.prog.godebug = none := by kernel_rfl
theorem laidOut : laidOutB Try.prog = true := by kernel_rfl

theorem one_box (w : World) (a : Option Addr) (len cap : Nat) (s : Int) : ∃ W, W = w.alloc (.cells #[.slice a len cap, .int .i64 s] 27) ∧
    tapeBlock W w.heap.size a len cap s ∧ Below w.heap.size w W ∧ W.heap.size = w.heap.size + 1 :=
  ⟨_, rfl, tapeBlock.new w a len cap s, below1 _ _, by simp⟩

set_option maxHeartbeats 1000000 in
theorem walk_TapeReads (w : World) (a : Option Addr) (len cap : Nat) (l : List Int) (s : Int) (h : RowK .u8 w a len l) (hc : len ≤ cap) (hn : a = none → cap = 0) (hz : cap * 1 ≤ 140737488351232) (_ : (Lit.int .i64 s).wf = true) :
    Calls Try.prog 7 #[.agg #[.slice a len cap, .int .i64 s]] w fun e w' => e = .returned (.bool true) ∧ Below w.heap.size w w' := by
  go_enter Try.func7, Try.ntmps7
  go_wp2_with fail
  obtain ⟨W, hW, t0, B0, S0⟩ := one_box w a len cap s
  rw [← hW]
  have r0 := h.below B0
  clear hW h
  refine (tapes_any a len cap l s _ r0 hc hn hz).mono ?_
  rintro e w1 ⟨a1, cap1, rfl, r1, c1, n1, m1, y1, b1⟩
  have t1 := t0.below b1 t0.lt
  have q1 := r0.below b1
  have B1 := Below.next B0 b1
  have hz1 := b1.size
  clear t0 r0 b1 B0
  go_wp2_with fail
  obtain ⟨W2, hW, u2, b2, S2⟩ := one_box w1 a1 len cap1 s
  rw [← hW]
  clear hW
  have t2 := t1.below b2 t1.lt
  have r2 := r1.below b2
  have q2 := q1.below b2
  have B2 := Below.next B1 b2
  clear t1 r1 q1 B1 b2
  refine (read_all a1 len cap1 l s _ r2 n1 c1 m1 (by omega)).mono ?_
  rintro e w3 ⟨a3, n3, cap3, rs, k, er, hout, rfl, hn3, hm3, r3, _, _, b3⟩
  have HO := hide hout
  have HN3 := hide hn3
  clear hout hn3
  have t3 := t2.below b3 t2.lt
  have u3 := u2.below b3 u2.lt
  have p3 := r2.below b3
  have q3 := q2.below b3
  have B3 := Below.next B2 b3
  have s3' := b3.size
  clear t2 u2 r2 q2 B2 b3
  have k0 := t3.cell0
  have k1 := t3.cell1
  go_wp2_with fail
  refine (recordsOf_all a len cap l s _ q3 hc (by omega)).mono ?_
  rintro e w5 ⟨a5, n5, cap5, rs', k', er', hout, rfl, hn5, hm5, r5, _, b5⟩
  rw [unhide HO] at hout
  simp only [Prod.mk.injEq] at hout
  obtain ⟨rfl, rfl, rfl⟩ := hout
  have hn3 := unhide HN3
  clear HO HN3
  have ee : (er == er) = true := by simp
  have ek : ((k : Int) == (k : Int)) = true := by simp
  have t5 := t3.below b5 t3.lt
  have u5 := u3.below b5 u3.lt
  have p5 := p3.below b5
  have q5 := q3.below b5
  have s5 := r3.below b5
  have B5 := Below.next B3 b5
  clear t3 u3 p3 q3 r3 B3 b5 k0 k1
  have HN := hide hn3
  have HN' := hide hn5
  clear hn3 hn5
  go_wp2_with fail
  refine (sameRecords_yes a3 a5 n3 cap3 n5 cap5 rs _ s5 r5 (unhide HN) (unhide HN') (by omega)).mono ?_
  rintro e w7 ⟨rfl, m7, hw7⟩
  have b8 : Below w5.heap.size w5 w7 := by rw [hw7]; exact belowN _ _
  clear hw7
  have t7 := t5.below b8 t5.lt
  have u7 := u5.below b8 u5.lt
  have k0 := t7.cell0
  have k1 := t7.cell1
  have k2 := u7.cell0
  have k3 := u7.cell1
  have p7 := p5.below b8
  have q7 := q5.below b8
  have B7 := Below.next B5 b8
  clear t5 u5 b8 p5 q5 r5 s5 B5 t7 u7
  go_wp2_with fail
  refine (sameTape_yes a1 a len cap1 len cap l s _ p7 q7).mono ?_
  rintro e w8 ⟨rfl, b8⟩
  go_wp2
  go_ret
  exact ⟨rfl, Below.next B7 b8⟩

set_option linter.unusedVariables false in
set_option maxRecDepth 100000 in
theorem lifted_TapeReads (os : Os) (started : os.Started) (H : Type) (enc : TypeId × Value → H) :
    ReturnsInHanded {} Try.checked os 7 .any (Rows.tapeReadsSpec.pre6 enc Try.prog Try.f7 Rows.tapeReadsRow.domain false) (Rows.tapeReadsSpec.post enc Try.prog Try.f7 false true false false) := by
  refine returnsInHanded_of_change_sized (C := Try.checked) own started (by kernel_rfl) Try.func7
    (ChangeSpec.witness6 (enc := enc) (C := Try.checked) false ⟨#[], #[.agg #[.slice none 0 0, .int .i64 0]], []⟩ 8 (by kernel_rfl) (by kernel_rfl) (by kernel_rfl) (by kernel_rfl)) ?_
  intro W base args ds gs before hval0 hW hcnd hsz0 _
  have hval : ∀ (j : Nat) t v, Try.f7.params[j]? = some t → args[j]? = some v → Value.okWide Try.prog W .any base t v := hval0
  have hsz : (DataW.weightsEach Try.prog (Try.f7.params.toList ++ Rows.tapeReadsSpec.plain.varTypes Try.prog) (ds ++ gs)).all (· ≤ reachBytes) = true := hsz0
  have hW' := hW
  obtain ⟨p, q, hA0, hV, rfl, hfz, hnd⟩ := hW
  have hA : DataW.TrodAll enc Try.prog W 0 (fun _ => true) true Try.f7.params.toList args.toList ds p := hA0
  rw [Try.params7] at hA hval hsz
  have hK := hA
  have hlt : ∀ x ∈ p, x.block < W.heap.size := fun x hx => hW'.lt x (by simp [hx])
  obtain ⟨v0, vs0, d0, ds0, p0, q0, hargs, rfl, rfl, h0, r0⟩ := trodAll_cons hA
  obtain ⟨rfl, rfl, rfl⟩ := trodAll_nil r0
  obtain rfl : args = #[v0] := by cases args; simp_all
  obtain ⟨rfl, rfl⟩ := trodVars_none hV
  obtain ⟨a0, len0, cap0, l0, s0, da0, db0, rfl, w0, lc0, cm0, na0, ws0, rfl, hd0⟩ := open_Tape (hval 0 27 v0 rfl rfl) h0
  have z0 : cap0 * 1 ≤ 140737488351232 := sized_Tape (j := 0) hsz rfl rfl hd0
  clear hd0
  clear hA0 hval0 hsz0
  refine (walk_TapeReads W a0 len0 cap0 l0 s0 w0 lc0 na0 z0 ws0).mono fun e W' ⟨he, bel⟩ => ?_
  subst he
  exact ⟨_, rfl, _, _, _, [], _, [], hW', trodAll_mk1 (shut_bool Try.underlying4 _), trodAll_stays laidOut (List.forall_mem_cons.2 ⟨⟨by kernel_rfl, of_decide_eq_true (by kernel_rfl)⟩, by intro t ht; cases ht⟩) hK bel hlt, rfl, bel.frame _, fun h => by cases h⟩

theorem tapeReads_holds : Rows.TapeReadsSaid :=
  OpenClaim.holds_of_wide 7 Try.f7 rfl rfl rfl rfl rfl rfl rfl ⟨rfl, rfl, rfl, rfl, rfl⟩ rfl rfl rfl rfl rfl (by kernel_rfl) Try.func7 (by kernel_rfl)
    (of_decide_eq_true (by kernel_rfl)) (by unfold Func.isWrapper; first | (rw [if_pos (by decide +kernel)]; kernel_rfl) | (rw [if_neg (by decide +kernel)]; exact ⟨rfl, rfl⟩))
    (fun os started H enc _ => lifted_TapeReads os started H enc)
#print axioms tapeReads_holds
end Go.Proofs.Ytdpenbgmmgljoaa
