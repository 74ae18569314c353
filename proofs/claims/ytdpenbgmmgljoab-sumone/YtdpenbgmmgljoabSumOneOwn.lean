/- For every slice of bytes p and all numbers at and by, berthshiftkeep.SumOne(p, at, by) returns true: one changed byte changes the sum; the arguments read behind the call as before it; no condition on them. -/
import Derived.Test.YtdpenbgmmgljoabRows
import Derived.Test.YtdpenbgmmgljoabKtB
namespace Go.Proofs.Ytdpenbgmmgljoab
open Go.ChangeShapes Go.WideShapes Go.ChangeAt Go.RowKit

theorem own : ownKnob Try.prog.godebug = none := by kernel_rfl
theorem laidOut : laidOutB Try.prog = true := by kernel_rfl

set_option maxHeartbeats 2000000 in
theorem walk_SumOne (w : World) (p : Option Addr) (len cap : Nat) (l : List Int) (h : RowK .u8 w p len l) (hc : len ≤ cap) (hn : p = none → cap = 0) (hz : cap * 1 ≤ 140737488351232)
    (at' : Int) (wa : (Lit.int .i64 at').wf = true) (by' : Int) (wb : (Lit.int .i64 by').wf = true) :
    Calls Try.prog 3 #[.slice p len cap, .int .i64 at', .int .i64 by'] w fun e w' => e = .returned (.bool true) ∧ Below w.heap.size w w' := by
  go_enter Try.func3, Try.ntmps3
  go_wp2_with fail
  refine (some_any p len cap 500 l _ h hc hn (by omega) (by omega)).mono ?_
  rintro e w1 ⟨a1, cap1, rfl, r1, c1, n1, m1, y1, b1, o1⟩
  clear h
  have hn500 : min len 500 ≤ 500 := by omega
  generalize min len 500 = n at r1 c1 hn500 o1 ⊢
  generalize l.take n = L at r1 o1
  go_wp2_with fail
  refine (sum_any a1 n cap1 L _ r1 (by omega)).mono ?_
  rintro e w2 ⟨rfl, rfl⟩
  have hl := r1.len_eq
  by_cases h0 : n = 0
  · subst h0
    have hL : L = [] := List.length_eq_zero_iff.1 hl
    subst hL
    have hs1 : sumOf [] = 1 := rfl
    rw [hs1]
    go_wp2
    go_ret
    exact ⟨rfl, b1⟩
  · have hne : ((n : Int) == 0) = false := by simp; omega
    obtain ⟨g, off, rfl⟩ := r1.form (by omega)
    have hg := y1 _ rfl
    obtain ⟨i0, i1⟩ := pickedOf_range at' n (by omega)
    obtain ⟨j0, j1⟩ := pickedOf_range by' 255 (by omega)
    obtain ⟨I, hI⟩ : ∃ I, pickedOf at' n = I := ⟨_, rfl⟩
    obtain ⟨J, hJ⟩ : ∃ J, pickedOf by' 255 = J := ⟨_, rfl⟩
    rw [hI] at i0 i1
    rw [hJ] at j0 j1
    have HI := hide hI
    have HJ := hide hJ
    clear hI hJ
    have hit : I.toNat < n := by omega
    have kx := r1.at I.toNat hit
    have hxb := byte_bounds r1.wf I.toNat
    obtain ⟨x, hx⟩ : ∃ x, L.getD I.toNat 0 = x := ⟨_, rfl⟩
    rw [hx] at kx hxb
    have HX := hide hx
    clear hx
    have hwr : IntKind.i64.wrap (1 + J) = 1 + J := by rw [IntKind.wrap_i64]; omega
    have hw8 : IntKind.u8.wrap (1 + J) = 1 + J := by rw [IntKind.wrap_u8]; omega
    obtain ⟨X0, X1, X2⟩ := xor_byte x (1 + J) hxb.1 hxb.2 (by omega) (by omega)
    have hfz : ∀ o, w1.frozen? ⟨g, o, none⟩ = false := by
      rcases o1.2 with ⟨h', _⟩ | ⟨g', cap', cur, h', _, hh, _⟩
      · cases h'
      · simp only [Value.slice.injEq, Option.some.injEq, Addr.mk.injEq] at h'
        obtain ⟨⟨rfl, rfl, _⟩, _⟩ := h'
        intro o
        simp [World.frozen?, hh]
    go_wp2_with fail
    go_region_with (go_at_call 11; refine (picked_any _ _ _ (by assumption) (by omega) (by omega)).mono ?_; (first | rw [unhide HI] | rw [unhide HJ]); rintro e w' ⟨rfl, rfl⟩)
    all_goals
      generalize bits .xor .u8 x (1 + J) = z at X0 X1 X2 ⊢
      have r2 := r1.set I.toNat hit z (WalkArith.wf_u8 (by omega))
      have B2 : Hid (Below w.heap.size w ((w1.setCell ⟨g, off + I.toNat, none⟩ (.int .u8 z)).drew)) := hide (Below.next ((SameBut.set g (off + I.toNat) w1 (.int .u8 z)).under b1 hg) (belowN _ 1))
      have r3 : RowK .u8 (w1.setCell ⟨g, off + I.toNat, none⟩ (.int .u8 z)).drew (some ⟨g, off, none⟩) n (L.set I.toNat z) := r2.below (belowN _ 1)
      have hsum := sum_one (l := L) (i := I.toNat) (z := z) (by omega) X0 X1 (by rw [unhide HX]; exact hxb.1) (by rw [unhide HX]; exact hxb.2) (by rw [unhide HX]; exact X2)
      have sb := sumOf_bounds L
      generalize (w1.setCell ⟨g, off + I.toNat, none⟩ (.int .u8 z)).drew = w3 at B2 r3 ⊢
      clear r1 r2 o1 kx hfz y1
      go_wp2_with fail
      refine (sum_any (some ⟨g, off, none⟩) n cap1 (L.set I.toNat z) _ r3 (by omega)).mono ?_
      rintro e w4 ⟨rfl, rfl⟩
      generalize sumOf (L.set I.toNat z) = s2 at hsum ⊢
      generalize sumOf L = s1 at hsum sb ⊢
      obtain ⟨sb0, sb1⟩ := sb
      have HS := hide hsum
      have t1 : (s1 == s2) = false := by simpa using hsum
      clear r3 hsum
      go_wp2
      all_goals first
        | exact absurd (by assumption) (unhide HS)
        | (go_ret
           refine ⟨?_, unhide B2⟩
           show Ending.returned (Value.bool (s1 != s2)) = _
           rw [show (s1 != s2) = true by rw [bne, t1]; rfl])

set_option linter.unusedVariables false in
set_option maxRecDepth 100000 in
theorem lifted_SumOne (os : Os) (started : os.Started) (H : Type) (enc : TypeId × Value → H) :
    ReturnsInHanded {} Try.checked os 3 .any (Rows.sumOneSpec.pre6 enc Try.prog Try.f3 Rows.sumOneRow.domain false) (Rows.sumOneSpec.post enc Try.prog Try.f3 false true false false) := by
  refine returnsInHanded_of_change_sized (C := Try.checked) own started (by kernel_rfl) Try.func3
    (ChangeSpec.witness6 (enc := enc) (C := Try.checked) false ⟨#[], #[.slice none 0 0, .int .i64 0, .int .i64 0], []⟩ 8 (by kernel_rfl) (by kernel_rfl) (by kernel_rfl) (by kernel_rfl)) ?_
  intro W base args ds gs before hval0 hW hcnd hsz0 _
  have hval : ∀ (j : Nat) t v, Try.f3.params[j]? = some t → args[j]? = some v → Value.okWide Try.prog W .any base t v := hval0
  have hsz : (DataW.weightsEach Try.prog (Try.f3.params.toList ++ Rows.sumOneSpec.plain.varTypes Try.prog) (ds ++ gs)).all (· ≤ reachBytes) = true := hsz0
  have hW' := hW
  obtain ⟨p, q, hA0, hV, rfl, hfz, hnd⟩ := hW
  have hA : DataW.TrodAll enc Try.prog W 0 (fun _ => true) true Try.f3.params.toList args.toList ds p := hA0
  rw [Try.params3] at hA hval hsz
  have hK := hA
  have hlt : ∀ x ∈ p, x.block < W.heap.size := fun x hx => hW'.lt x (by simp [hx])
  obtain ⟨v0, vs0, d0, ds0, p0, q0, hargs, rfl, rfl, h0, r0⟩ := trodAll_cons hA
  obtain ⟨v1, vs1, d1, ds1, p1, q1, rfl, rfl, rfl, h1, r1⟩ := trodAll_cons r0
  obtain ⟨v2, vs2, d2, ds2, p2, q2, rfl, rfl, rfl, h2, r2⟩ := trodAll_cons r1
  obtain ⟨rfl, rfl, rfl⟩ := trodAll_nil r2
  obtain rfl : args = #[v0, v1, v2] := by cases args; simp_all
  obtain ⟨rfl, rfl⟩ := trodVars_none hV
  obtain ⟨a0, len0, cap0, l0, rfl, w0, lc0, cm0, na0, hd0⟩ := open_row Try.underlying22 Try.underlying5 (by kernel_rfl) (hval 0 22 v0 rfl rfl) h0
  have z0 : cap0 * 1 ≤ 140737488351232 := open_sized (j := 0) (t := 22) (e := 5) hsz rfl rfl Try.underlying22 (by kernel_rfl) hd0
  clear hd0
  obtain ⟨a1, rfl, rfl, rfl, w1⟩ := open_int Try.underlying3 (hval 1 3 v1 rfl rfl) h1
  obtain ⟨a2, rfl, rfl, rfl, w2⟩ := open_int Try.underlying3 (hval 2 3 v2 rfl rfl) h2
  clear hA0 hval0 hsz0
  refine (walk_SumOne W a0 len0 cap0 l0 w0 lc0 na0 z0 a1 w1 a2 w2).mono fun e W' ⟨he, bel⟩ => ?_
  subst he
  exact ⟨_, rfl, _, _, _, [], _, [], hW', trodAll_mk1 (shut_bool Try.underlying4 _), trodAll_stays laidOut (List.forall_mem_cons.2 ⟨⟨by kernel_rfl, of_decide_eq_true (by kernel_rfl)⟩, List.forall_mem_cons.2 ⟨⟨by kernel_rfl, of_decide_eq_true (by kernel_rfl)⟩, List.forall_mem_cons.2 ⟨⟨by kernel_rfl, of_decide_eq_true (by kernel_rfl)⟩, by intro t ht; cases ht⟩⟩⟩) hK bel hlt, rfl, bel.frame _, fun h => by cases h⟩

theorem sumOne_holds : Rows.SumOneSaid :=
  OpenClaim.holds_of_wide 3 Try.f3 rfl rfl rfl rfl rfl rfl rfl ⟨rfl, rfl, rfl, rfl, rfl⟩ rfl rfl rfl rfl rfl (by kernel_rfl) Try.func3 (by kernel_rfl)
    (of_decide_eq_true (by kernel_rfl)) (by unfold Func.isWrapper; first | (rw [if_pos (by decide +kernel)]; kernel_rfl) | (rw [if_neg (by decide +kernel)]; exact ⟨rfl, rfl⟩))
    (fun os started H enc _ => lifted_SumOne os started H enc)
#print axioms sumOne_holds
end Go.Proofs.Ytdpenbgmmgljoab
