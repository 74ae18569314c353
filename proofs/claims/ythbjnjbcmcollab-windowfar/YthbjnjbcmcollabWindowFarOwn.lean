/- For all numbers a and jump, berthshiftkeep.WindowFar(a, jump) returns true: a jump forgets all that is too far behind: it is refused, not new; no condition on the arguments. -/
import Derived.Test.YthbjnjbcmcollabRows
import Derived.Test.YthbjnjbcmcollabWdE
import Derived.Test.YthbjnjbcmcollabKpP
namespace Go.Proofs.Ythbjnjbcmcollab
open Go.ChangeShapes Go.WideShapes Go.ChangeAt Go.RowKit

theorem own : ownKnob Try.prog.godebug = none := by kernel_rfl
theorem laidOut : laidOutB Try.prog = true := by kernel_rfl

set_option maxHeartbeats 2000000 in
theorem walk_WindowFar (w : World) (low : Int) (wl : (Lit.int .i64 low).wf = true) (gap : Int) (wg : (Lit.int .i64 gap).wf = true) :
    Calls Try.prog 3 #[.int .i64 low, .int .i64 gap] w fun e w' => e = .returned (.bool true) ∧ Below w.heap.size w w' := by
  have p1 := pickedOf_range low 1000 (by decide)
  have H1 := fun w => picked_any low 1000 w wl (by decide) (by decide)
  generalize pickedOf low 1000 = n at p1 H1
  have p2 := pickedOf_range gap 1000 (by decide)
  have H2 := fun w => picked_any gap 1000 w wg (by decide) (by decide)
  generalize pickedOf gap 1000 = g at p2 H2
  obtain ⟨m, hm⟩ : ∃ m, m = n + 8 + g := ⟨_, rfl⟩
  have ok0 : WinOk 0 noneS := WinOk.none
  have e1 : takeT 0 n = n + 1 := by unfold takeT; rw [if_pos (by omega)]
  have ok1 := ok0.take (id := n) (by omega) (by omega)
  have T1 := fun w => take_new 0 n noneS w ok0 (by omega) (by omega) (by omega) (inWin_none 0 n)
  have i1 : ∀ x, n + 1 - 8 ≤ x → inWin (n + 1) (takeS 0 noneS n) x = decide (x = n) := by
    intro x hx
    have := inWin_take (t := 0) (id := n) (x := x) (s := noneS) (by rw [e1]; exact hx)
    rw [e1, inWin_none] at this
    rw [this, Bool.or_false]
  rw [e1] at ok1 T1
  generalize takeS 0 noneS n = s1 at ok1 T1 i1
  simp only [winVal, noneS] at T1
  have e2 : takeT (n + 1) m = m + 1 := by unfold takeT; rw [if_pos (by omega)]
  have ok2 := ok1.take (id := m) (by omega) (by omega)
  have T2 := fun w => take_new (n + 1) m s1 w ok1 (by omega) (by omega) (by omega) (by rw [i1 m (by omega)]; simp; omega)
  have i2 : ∀ x, m + 1 - 8 ≤ x → inWin (m + 1) (takeS (n + 1) s1 m) x = (decide (x = m) || decide (x = n)) := by
    intro x hx
    have := inWin_take (t := n + 1) (id := m) (x := x) (s := s1) (by rw [e2]; exact hx)
    rw [e2] at this
    rw [this, i1 x (by omega)]
  rw [e2] at ok2 T2
  generalize takeS (n + 1) s1 m = s2 at ok2 T2 i2
  have T3 := fun w => take_low (m + 1) n s2 w ok2 (by omega) (by omega) (by omega)
  have T4 := fun w => take_new (m + 1) (m - 8 + 1) s2 w ok2 (by omega) (by omega) (by omega) (by rw [i2 (m - 8 + 1) (by omega)]; simp; omega)
  have e3 : takeT (m + 1) (m - 8 + 1) = m + 1 := by unfold takeT; rw [if_neg (by omega)]
  rw [e3] at T4
  generalize takeS (m + 1) s2 (m - 8 + 1) = s3 at T4
  clear i1 i2 ok0 ok1 ok2 e1 e2 e3
  simp only [winVal, noneS] at T3
  have em : (m + 1 == m + 1) = true := by simp
  subst hm
  go_enter Try.func3, Try.ntmps3
  go_wp2_with fail
  refine (H1 _).mono ?_
  rintro e w1 ⟨rfl, rfl⟩
  go_wp2_with fail
  refine (H2 _).mono ?_
  rintro e w1 ⟨rfl, rfl⟩
  go_wp2_with fail
  refine (T1 _).mono ?_
  rintro e w2 ⟨rfl, b2⟩
  clear H1 H2 T1
  go_wp2_with fail
  obtain ⟨W, hW, wb0, B0, S0⟩ := one_box w2 (n + 1) s1
  rw [← hW]
  clear hW
  refine (T2 _).mono ?_
  rintro e w4 ⟨rfl, b4⟩
  have wb := wb0.next b4
  have B4 := Below.next (Below.next b2 B0) b4
  have hz2 := b2.size
  obtain ⟨c0, c1, c2, c3, c4, c5, c6, c7, c8⟩ := wb.cells
  have cf := wb.free
  clear T2 wb0 b2 B0 b4 S0
  go_wp2_with fail
  obtain ⟨W4, hW4, wb4, B5⟩ : ∃ W4, W4 = winStore w4 w2.heap.size (n + 8 + g + 1) s2 ∧ winBlock W4 w2.heap.size (n + 8 + g + 1) s2 ∧ Below w.heap.size w W4 := ⟨_, rfl, wb.store (n + 8 + g + 1) s2, winStore_below B4 _ hz2 _ _⟩
  unfold winStore at hW4
  rw [← hW4]
  clear hW4 wb B4 c0 c1 c2 c3 c4 c5 c6 c7 c8 cf
  refine (T3 _).mono ?_
  rintro e w6 ⟨rfl, b6⟩
  have wb6 := wb4.next b6
  have B6 := Below.next B5 b6
  clear T3 wb4 b6 B5
  obtain ⟨c0, c1, c2, c3, c4, c5, c6, c7, c8⟩ := wb6.cells
  have hR := wb6.lt
  have hR2 : ¬ w2.heap.size = w6.heap.size := by omega
  go_wp2_with fail
  obtain ⟨W7, hW7, B7⟩ : ∃ W7, W7 = w6.alloc (.cells #[.int .i64 0, .bool false, .bool false, .bool false, .bool false, .bool false, .bool false, .bool false, .bool false] 25) ∧ Below w6.heap.size w6 W7 := ⟨_, rfl, below1 _ _⟩
  rw [← hW7]
  clear hW7 c0 c1 c2 c3 c4 c5 c6 c7 c8
  refine (T4 _).mono ?_
  rintro e w8 ⟨rfl, b8⟩
  have B8 := Below.next (Below.next B6 B7) b8
  clear T4 wb6 B6 B7 b8
  go_wp2
  go_ret
  exact ⟨rfl, Below.next B8 (below1 _ _)⟩

set_option linter.unusedVariables false in
set_option maxRecDepth 100000 in
theorem lifted_WindowFar (os : Os) (started : os.Started) (H : Type) (enc : TypeId × Value → H) :
    ReturnsInHanded {} Try.checked os 3 .any (Rows.windowFarSpec.pre6 enc Try.prog Try.f3 Rows.windowFarRow.domain false) (Rows.windowFarSpec.post enc Try.prog Try.f3 false true false false) := by
  refine returnsInHanded_of_change_sized (C := Try.checked) own started (by kernel_rfl) Try.func3
    (ChangeSpec.witness6 (enc := enc) (C := Try.checked) false ⟨#[], #[.int .i64 0, .int .i64 0], []⟩ 8 (by kernel_rfl) (by kernel_rfl) (by kernel_rfl) (by kernel_rfl)) ?_
  intro W base args ds gs before hval0 hW hcnd hsz0 _
  have hval : ∀ (j : Nat) t v, Try.f3.params[j]? = some t → args[j]? = some v → Value.okWide Try.prog W .any base t v := hval0
  have hsz : (DataW.weightsEach Try.prog (Try.f3.params.toList ++ Rows.windowFarSpec.plain.varTypes Try.prog) (ds ++ gs)).all (· ≤ reachBytes) = true := hsz0
  have hW' := hW
  obtain ⟨p, q, hA0, hV, rfl, hfz, hnd⟩ := hW
  have hA : DataW.TrodAll enc Try.prog W 0 (fun _ => true) true Try.f3.params.toList args.toList ds p := hA0
  rw [Try.params3] at hA hval hsz
  have hK := hA
  have hlt : ∀ x ∈ p, x.block < W.heap.size := fun x hx => hW'.lt x (by simp [hx])
  obtain ⟨v0, vs0, d0, ds0, p0, q0, hargs, rfl, rfl, h0, r0⟩ := trodAll_cons hA
  obtain ⟨v1, vs1, d1, ds1, p1, q1, rfl, rfl, rfl, h1, r1⟩ := trodAll_cons r0
  obtain ⟨rfl, rfl, rfl⟩ := trodAll_nil r1
  obtain rfl : args = #[v0, v1] := by cases args; simp_all
  obtain ⟨rfl, rfl⟩ := trodVars_none hV
  obtain ⟨a0, rfl, rfl, rfl, w0⟩ := open_int Try.underlying3 (hval 0 3 v0 rfl rfl) h0
  obtain ⟨a1, rfl, rfl, rfl, w1⟩ := open_int Try.underlying3 (hval 1 3 v1 rfl rfl) h1
  clear hA0 hval0 hsz0
  refine (walk_WindowFar W a0 w0 a1 w1).mono fun e W' ⟨he, bel⟩ => ?_
  subst he
  exact ⟨_, rfl, _, _, _, [], _, [], hW', trodAll_mk1 (shut_bool Try.underlying4 _), trodAll_stays laidOut (List.forall_mem_cons.2 ⟨⟨by kernel_rfl, of_decide_eq_true (by kernel_rfl)⟩, List.forall_mem_cons.2 ⟨⟨by kernel_rfl, of_decide_eq_true (by kernel_rfl)⟩, by intro t ht; cases ht⟩⟩) hK bel hlt, rfl, bel.frame _, fun h => by cases h⟩

theorem windowFar_holds : Rows.WindowFarSaid :=
  OpenClaim.holds_of_wide 3 Try.f3 rfl rfl rfl rfl rfl rfl rfl ⟨rfl, rfl, rfl, rfl, rfl⟩ rfl rfl rfl rfl rfl (by kernel_rfl) Try.func3 (by kernel_rfl)
    (of_decide_eq_true (by kernel_rfl)) (by unfold Func.isWrapper; first | (rw [if_pos (by decide +kernel)]; kernel_rfl) | (rw [if_neg (by decide +kernel)]; exact ⟨rfl, rfl⟩))
    (fun os started H enc _ => lifted_WindowFar os started H enc)
#print axioms windowFar_holds
end Go.Proofs.Ythbjnjbcmcollab
