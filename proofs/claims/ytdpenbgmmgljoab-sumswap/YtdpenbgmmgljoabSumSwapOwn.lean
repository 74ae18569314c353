/- For every slice of bytes p and every number at, berthshiftkeep.SumSwap(p, at) returns true: two unlike neighbours that change places change the sum, two alike ones do not; the arguments read behind the call as before it; no condition on them. -/
import Derived.Test.YtdpenbgmmgljoabRows
import Derived.Test.YtdpenbgmmgljoabKtB
namespace Go.Proofs.Ytdpenbgmmgljoab
open Go.ChangeShapes Go.WideShapes Go.ChangeAt Go.RowKit

theorem own : ownKnob Try.prog.godebug = none := by kernel_rfl
theorem laidOut : laidOutB Try.prog = true := by kernel_rfl

theorem split_two (L : List Int) (i : Nat) (h : i + 1 < L.length) : ∃ A C u v, L = A ++ u :: v :: C ∧ A.length = i := by
  refine ⟨L.take i, L.drop (i + 2), L[i]'(by omega), L[i + 1]'h, ?_, by simp; omega⟩
  rw [← List.drop_eq_getElem_cons h, ← List.drop_eq_getElem_cons (show i < L.length by omega), List.take_append_drop]
theorem own_form {w : World} {base e n : Nat} {a : Option Addr} {cap : Nat} {xs : List Value} (h : w.ownsRow base e 1 (.slice a n cap) n xs) (hn : 0 < n) : ∃ g, a = some ⟨g, 0, none⟩ ∧ base ≤ g ∧ g < w.heap.size ∧ ∀ o, w.frozen? ⟨g, o, none⟩ = false := by
  rcases h.2 with ⟨_, rfl⟩ | ⟨g', cap', cur, h', hb, hh, _⟩
  · omega
  · simp only [Value.slice.injEq] at h'
    obtain ⟨rfl, _, _⟩ := h'
    exact ⟨g', rfl, hb, (h.lt g' rfl).2, fun o => by simp [World.frozen?, hh]⟩

set_option maxHeartbeats 2000000 in
theorem walk_SumSwap (w : World) (p : Option Addr) (len cap : Nat) (l : List Int) (h : RowK .u8 w p len l) (hc : len ≤ cap) (hn : p = none → cap = 0) (hz : cap * 1 ≤ 140737488351232)
    (at' : Int) (wa : (Lit.int .i64 at').wf = true) :
    Calls Try.prog 4 #[.slice p len cap, .int .i64 at'] w fun e w' => e = .returned (.bool true) ∧ Below w.heap.size w w' := by
  go_enter Try.func4, Try.ntmps4
  go_wp2_with fail
  refine (some_any p len cap 500 l _ h hc hn (by omega) (by omega)).mono ?_
  rintro e w1 ⟨a1, cap1, rfl, r1, c1, n1, m1, y1, b1, o1⟩
  clear h
  have hn500 : min len 500 ≤ 500 := by omega
  generalize min len 500 = n at r1 c1 hn500 o1 ⊢
  generalize l.take n = L at r1 o1
  have hl := r1.len_eq
  by_cases h2 : n < 2
  · have hd : (n : Int) < 2 := by omega
    have q1 : RowK .u8 (w1.alloc (.cells #[.int .u8 1, .int .u8 2] 5)) (some ⟨w1.heap.size, 0, none⟩) 2 [1, 2] := RowK.ofOwn (World.ownsRow_lit (base := w1.heap.size) (e := 5) (size := 1) w1 ([1, 2].map (Value.int .u8)).toArray 2 (Nat.le_refl _) (by decide) rfl) rfl (by decide)
    have q2 : RowK .u8 ((w1.alloc (.cells #[.int .u8 1, .int .u8 2] 5)).alloc (.cells #[.int .u8 2, .int .u8 1] 5)) (some ⟨w1.heap.size + 1, 0, none⟩) 2 [2, 1] := by
      have := RowK.ofOwn (World.ownsRow_lit (base := (w1.alloc (.cells #[.int .u8 1, .int .u8 2] 5)).heap.size) (e := 5) (size := 1) (w1.alloc (.cells #[.int .u8 1, .int .u8 2] 5)) ([2, 1].map (Value.int .u8)).toArray 2 (Nat.le_refl _) (by decide) rfl) (l := [2, 1]) (k := .u8) rfl (by decide)
      simpa using this
    go_wp2_with fail
    refine (sum_any (some ⟨w1.heap.size, 0, none⟩) 2 2 [1, 2] _ q1 (by omega)).mono ?_
    rintro e w2 ⟨rfl, rfl⟩
    rw [show sumOf [1, 2] = 393220 from rfl]
    go_wp2_with fail
    refine (sum_any (some ⟨w1.heap.size + 1, 0, none⟩) 2 2 [2, 1] _ q2 (by omega)).mono ?_
    rintro e w2 ⟨rfl, rfl⟩
    rw [show sumOf [2, 1] = 458756 from rfl]
    go_wp2
    go_ret
    exact ⟨rfl, Below.next b1 (below2 _ _ _)⟩
  · have hd : ¬ (n : Int) < 2 := by omega
    have hwr : IntKind.i64.wrap ((n : Int) - 1) = (n : Int) - 1 := by rw [IntKind.wrap_i64]; omega
    obtain ⟨i0, i1⟩ := pickedOf_range at' ((n : Int) - 1) (by omega)
    obtain ⟨I, hI⟩ : ∃ I, pickedOf at' ((n : Int) - 1) = I := ⟨_, rfl⟩
    rw [hI] at i0 i1
    have HI := hide hI
    clear hI
    go_wp2_with fail
    refine (picked_any _ _ _ wa (by omega) (by omega)).mono ?_
    rw [unhide HI]
    rintro e w' ⟨rfl, rfl⟩
    obtain ⟨i, rfl⟩ : ∃ i : Nat, I = (i : Int) := ⟨I.toNat, by omega⟩
    obtain ⟨A, C, u, v, hL, hA⟩ := split_two L i (by omega)
    obtain ⟨g1, rfl, hg1, hs1, _⟩ := own_form o1 (by omega)
    have hu := byte_bounds r1.wf i
    have hv := byte_bounds r1.wf (i + 1)
    have e1 : L.getD i 0 = u := by rw [hL]; simp [List.getD_eq_getElem?_getD, ← hA]
    have e2 : L.getD (i + 1) 0 = v := by rw [hL]; simp [List.getD_eq_getElem?_getD, ← hA]
    rw [e1] at hu
    rw [e2] at hv
    have HL := hide hL
    clear hL
    go_wp2_with fail
    refine (some_any (some ⟨g1, 0, none⟩) n cap1 500 L _ r1 c1 n1 (by omega) (by omega)).mono ?_
    have hmin : min n 500 = n := by omega
    rw [hmin, List.take_of_length_le (by omega)]
    rintro e w2 ⟨a2, cap2, rfl, r2, c2, n2, m2, y2, b2, o2⟩
    obtain ⟨g2, rfl, hg2, hs2, hf2⟩ := own_form o2 (by omega)
    have q2 := r1.below b2
    have B2 := Below.next b1 b2
    have k1 := q2.at (i + 1) (by omega)
    have k0 := q2.at i (by omega)
    rw [e1, Nat.zero_add] at k0
    rw [e2, Nat.zero_add] at k1
    have j0 := r2.at i (by omega)
    have j1 := r2.at (i + 1) (by omega)
    rw [e1, Nat.zero_add] at j0
    rw [e2, Nat.zero_add] at j1
    have hgg : g1 ≠ g2 := by omega
    have t1 : (i : Int) + 1 < (n : Int) := by omega
    have t2 : (i : Int) < (n : Int) := by omega
    have t3 : IntKind.i64.wrap ((i : Int) + 1) = (i : Int) + 1 := by rw [IntKind.wrap_i64]; omega
    clear o1 o2 hmin
    go_wp2_with fail
    obtain ⟨W3, hW3, q3, r3, B3⟩ : ∃ W3, W3 = (w2.setCell ⟨g2, i, none⟩ (.int .u8 v)).setCell ⟨g2, i + 1, none⟩ (.int .u8 u) ∧ RowK .u8 W3 (some ⟨g1, 0, none⟩) n L ∧ RowK .u8 W3 (some ⟨g2, 0, none⟩) n (A ++ v :: u :: C) ∧ Below w.heap.size w W3 := by
      refine ⟨_, rfl, ?_, ?_, ?_⟩
      · exact (SameBut.set g2 (i + 1) _ _).row ((SameBut.set g2 i w2 _).row q2 (fun x hx _ => by simp at hx; subst hx; exact hgg)) (fun x hx _ => by simp at hx; subst hx; exact hgg)
      · have s1 := r2.set i (by omega) v (WalkArith.wf_u8 (by omega))
        rw [Nat.zero_add] at s1
        have s2 := s1.set (i + 1) (by omega) u (WalkArith.wf_u8 (by omega))
        rw [Nat.zero_add] at s2
        have hS : (L.set i v).set (i + 1) u = A ++ v :: u :: C := by rw [unhide HL]; simp [← hA]
        rw [hS] at s2
        exact s2
      · exact (SameBut.set g2 (i + 1) _ _).under ((SameBut.set g2 i w2 _).under B2 (by omega)) (by omega)
    rw [← hW3]
    clear hW3 k0 k1 j0 j1 r2 q2 r1 hf2 B2 b1 b2
    refine (sum_any (some ⟨g1, 0, none⟩) n cap1 L _ q3 (by omega)).mono ?_
    rintro e w4 ⟨rfl, rfl⟩
    go_wp2_with fail
    refine (sum_any (some ⟨g2, 0, none⟩) n cap2 (A ++ v :: u :: C) _ r3 (by omega)).mono ?_
    rintro e w4 ⟨rfl, rfl⟩
    have hsw := sum_swap A C u v hu.1 hu.2 hv.1 hv.2
    rw [← unhide HL] at hsw
    have k0 := q3.at i (by omega)
    have k1 := q3.at (i + 1) (by omega)
    rw [e1, Nat.zero_add] at k0
    rw [e2, Nat.zero_add] at k1
    generalize sumOf (A ++ v :: u :: C) = s2 at hsw ⊢
    generalize sumOf L = s1 at hsw ⊢
    clear q3 r3 e1 e2 HL
    by_cases huv : u = v
    · have hss := hsw.2 huv
      subst hss
      subst huv
      have z1 : (s1 == s1) = true := by simp
      have z2 : (u == u) = true := by simp
      clear hsw
      go_wp2_with fail
      go_quiet (fail)
      go_wp2
      go_ret
      exact ⟨rfl, Below.next B3 (belowN _ _)⟩
    · have hss : ¬ s1 = s2 := fun hh => huv (hsw.1 hh)
      have z1 : (s1 == s2) = false := by simpa using hss
      have z2 : (u == v) = false := by simpa using huv
      clear hsw hss huv
      go_wp2_with fail
      go_quiet (fail)
      go_wp2
      go_ret
      exact ⟨rfl, Below.next B3 (belowN _ _)⟩

set_option linter.unusedVariables false in
set_option maxRecDepth 100000 in
theorem lifted_SumSwap (os : Os) (started : os.Started) (H : Type) (enc : TypeId × Value → H) :
    ReturnsInHanded {} Try.checked os 4 .any (Rows.sumSwapSpec.pre6 enc Try.prog Try.f4 Rows.sumSwapRow.domain false) (Rows.sumSwapSpec.post enc Try.prog Try.f4 false true false false) := by
  refine returnsInHanded_of_change_sized (C := Try.checked) own started (by kernel_rfl) Try.func4
    (ChangeSpec.witness6 (enc := enc) (C := Try.checked) false ⟨#[], #[.slice none 0 0, .int .i64 0], []⟩ 8 (by kernel_rfl) (by kernel_rfl) (by kernel_rfl) (by kernel_rfl)) ?_
  intro W base args ds gs before hval0 hW hcnd hsz0 _
  have hval : ∀ (j : Nat) t v, Try.f4.params[j]? = some t → args[j]? = some v → Value.okWide Try.prog W .any base t v := hval0
  have hsz : (DataW.weightsEach Try.prog (Try.f4.params.toList ++ Rows.sumSwapSpec.plain.varTypes Try.prog) (ds ++ gs)).all (· ≤ reachBytes) = true := hsz0
  have hW' := hW
  obtain ⟨p, q, hA0, hV, rfl, hfz, hnd⟩ := hW
  have hA : DataW.TrodAll enc Try.prog W 0 (fun _ => true) true Try.f4.params.toList args.toList ds p := hA0
  rw [Try.params4] at hA hval hsz
  have hK := hA
  have hlt : ∀ x ∈ p, x.block < W.heap.size := fun x hx => hW'.lt x (by simp [hx])
  obtain ⟨v0, vs0, d0, ds0, p0, q0, hargs, rfl, rfl, h0, r0⟩ := trodAll_cons hA
  obtain ⟨v1, vs1, d1, ds1, p1, q1, rfl, rfl, rfl, h1, r1⟩ := trodAll_cons r0
  obtain ⟨rfl, rfl, rfl⟩ := trodAll_nil r1
  obtain rfl : args = #[v0, v1] := by cases args; simp_all
  obtain ⟨rfl, rfl⟩ := trodVars_none hV
  obtain ⟨a0, len0, cap0, l0, rfl, w0, lc0, cm0, na0, hd0⟩ := open_row Try.underlying22 Try.underlying5 (by kernel_rfl) (hval 0 22 v0 rfl rfl) h0
  have z0 : cap0 * 1 ≤ 140737488351232 := open_sized (j := 0) (t := 22) (e := 5) hsz rfl rfl Try.underlying22 (by kernel_rfl) hd0
  clear hd0
  obtain ⟨a1, rfl, rfl, rfl, w1⟩ := open_int Try.underlying3 (hval 1 3 v1 rfl rfl) h1
  clear hA0 hval0 hsz0
  refine (walk_SumSwap W a0 len0 cap0 l0 w0 lc0 na0 z0 a1 w1).mono fun e W' ⟨he, bel⟩ => ?_
  subst he
  exact ⟨_, rfl, _, _, _, [], _, [], hW', trodAll_mk1 (shut_bool Try.underlying4 _), trodAll_stays laidOut (List.forall_mem_cons.2 ⟨⟨by kernel_rfl, of_decide_eq_true (by kernel_rfl)⟩, List.forall_mem_cons.2 ⟨⟨by kernel_rfl, of_decide_eq_true (by kernel_rfl)⟩, by intro t ht; cases ht⟩⟩) hK bel hlt, rfl, bel.frame _, fun h => by cases h⟩

theorem sumSwap_holds : Rows.SumSwapSaid :=
  OpenClaim.holds_of_wide 4 Try.f4 rfl rfl rfl rfl rfl rfl rfl ⟨rfl, rfl, rfl, rfl, rfl⟩ rfl rfl rfl rfl rfl (by kernel_rfl) Try.func4 (by kernel_rfl)
    (of_decide_eq_true (by kernel_rfl)) (by unfold Func.isWrapper; first | (rw [if_pos (by decide +kernel)]; kernel_rfl) | (rw [if_neg (by decide +kernel)]; exact ⟨rfl, rfl⟩))
    (fun os started H enc _ => lifted_SumSwap os started H enc)
#print axioms sumSwap_holds
end Go.Proofs.Ytdpenbgmmgljoab
