/- The walk of PlanCalm. -/
import Derived.Test.YtmkbidglfnpgjaaPnT
namespace Go.Proofs.Ytmkbidglfnpgjaa
open Go.RowKit

theorem gap_ge (l : List Ld) (n : Nat) (hn : 0 < n) : 0 ≤ gapOf (works l n) := by
  have hl := works_len l n
  have ib := (busyOf_is (works l n) (by omega)).1
  have ii := (idleOf_is (works l n) (by omega)).1
  have := ib.ge _ ii.lt
  unfold gapOf
  omega
/-- one queue alone. -/
theorem one_work (q : Nat) (wv n : Int) : workAt [⟨2, q, wv⟩] n = if (q : Int) = n then wv else 0 := by
  simp [workAt]
theorem one_gap (q M : Nat) (wv : Int) (hq : q < M) (hw : 0 ≤ wv) : gapOf (works [⟨2, q, wv⟩] M) ≤ wv ∧ (1 < M → gapOf (works [⟨2, q, wv⟩] M) = wv) ∧ (M = 1 → gapOf (works [⟨2, q, wv⟩] M) = 0) := by
  have hl := works_len [⟨2, (q : Int), wv⟩] M
  have ib := (busyOf_is (works [⟨2, (q : Int), wv⟩] M) (by omega)).1
  have ii := (idleOf_is (works [⟨2, (q : Int), wv⟩] M) (by omega)).1
  have h1 := ib.lt
  have h2 := ii.lt
  have h0 := gap_ge [⟨2, (q : Int), wv⟩] M (by omega)
  have gb := ib.ge q (by omega)
  have gi := ii.le
  rw [works_at _ M q hq, works_at _ M _ (by omega)] at gb
  have key : gapOf (works [⟨2, (q : Int), wv⟩] M) ≤ wv := by
    rw [gapOf_at _ M (by omega), one_work, one_work]
    split <;> split <;> omega
  refine ⟨key, fun hM => ?_, fun hM => ?_⟩
  · obtain ⟨r, hr, hne⟩ : ∃ r, r < M ∧ r ≠ q := by
      by_cases e : q = 0
      · exact ⟨1, hM, by omega⟩
      · exact ⟨0, by omega, fun h => e h.symm⟩
    have gr := gi r (by omega)
    rw [works_at _ M r hr, works_at _ M _ (by omega)] at gr
    rw [one_work, one_work] at gr gb
    rw [if_neg (show ¬ (q : Int) = (r : Int) by omega)] at gr
    rw [if_pos rfl] at gb
    have e := gapOf_at [⟨2, (q : Int), wv⟩] M (by omega)
    rw [one_work, one_work] at e
    omega
  · subst hM
    have := gap_one [⟨2, (q : Int), wv⟩]
    omega
theorem plansF_none {m : Nat} {ws : List Int} {rest : List Ld} (h : ∀ j, j < rest.length → ¬ Cand (busyOf ws) (gapOf ws) (ldAt rest j)) : plansF m ws rest = [] := by
  rcases goes_is ws rest with e | ⟨j, e, hj, hc⟩
  · exact plansF_stop e
  · exact absurd hc (h j hj)
theorem one_plans (q M m : Nat) (wv : Int) (hq : q < M) (hw : 0 ≤ wv) : plansF m (works [⟨2, q, wv⟩] M) [⟨2, q, wv⟩] = [] := by
  refine plansF_none (fun j hj hc => ?_)
  obtain rfl : j = 0 := by simp at hj; omega
  have h1 := hc.2.1
  have h2 := (one_gap q M wv hq hw).1
  have e : (ldAt [⟨2, (q : Int), wv⟩] 0).w = wv := rfl
  rw [e] at h1
  omega
theorem one_rise (q M : Nat) (wv : Int) (hq : q < M) (hw : 0 ≤ wv) (hw2 : wv ≤ 1073741824) : Rise M [⟨2, q, wv⟩] := by
  refine ⟨fun k hk => ?_, fun k hk => ?_⟩
  · obtain rfl : k = 0 := by simp at hk; omega
    exact ⟨by show (0 : Int) ≤ 2; decide, by show (2 : Int) ≤ 3; decide, by show (0 : Int) ≤ (q : Int); omega, by show (q : Int) < (M : Int); omega, hw, hw2⟩
  · simp at hk
/-- all nodes have the same work. -/
def cLds (wv : Int) : Nat → List Ld
  | 0 => []
  | k + 1 => cLds wv k ++ [⟨k, k, wv⟩]
theorem cLds_len (wv : Int) : ∀ n, (cLds wv n).length = n
  | 0 => rfl
  | n + 1 => by rw [cLds, List.length_append, cLds_len wv n]; rfl
theorem cLds_at (wv : Int) : ∀ n k, k < n → ldAt (cLds wv n) k = ⟨k, k, wv⟩
  | 0, k, h => absurd h (Nat.not_lt_zero _)
  | n + 1, k, h => by
    have hl := cLds_len wv n
    rw [cLds, ldAt, List.getD_eq_getElem?_getD]
    by_cases e : k < n
    · rw [List.getElem?_append_left (by omega)]
      have := cLds_at wv n k e
      rwa [ldAt, List.getD_eq_getElem?_getD] at this
    · obtain rfl : k = n := by omega
      rw [List.getElem?_append_right (by omega), hl, Nat.sub_self]
      rfl
theorem cLds_rise (wv : Int) (M : Nat) (hw : 0 ≤ wv) (hw2 : wv ≤ 1073741824) (k : Nat) (h4 : k ≤ 4) (hM : k ≤ M) : Rise M (cLds wv k) := by
  refine ⟨fun j hj => ?_, fun j hj => ?_⟩
  · rw [cLds_len] at hj
    rw [cLds_at wv k j hj]
    exact ⟨by show (0 : Int) ≤ (j : Int); omega, by show (j : Int) ≤ 3; omega, by show (0 : Int) ≤ (j : Int); omega, by show (j : Int) < (M : Int); omega, hw, hw2⟩
  · rw [cLds_len] at hj
    rw [cLds_at wv k j (by omega), cLds_at wv k (j + 1) hj]
    show (j : Int) < ((j + 1 : Nat) : Int)
    omega
theorem cLds_work (wv : Int) (n : Nat) : ∀ k, workAt (cLds wv k) n = if n < k then wv else 0
  | 0 => by simp [cLds, workAt]
  | k + 1 => by
    rw [cLds, workAt_append, cLds_work wv n k]
    have e : workAt [⟨(k : Int), (k : Int), wv⟩] (n : Int) = if (k : Int) = (n : Int) then wv else 0 := by simp [workAt]
    rw [e]
    by_cases h1 : n < k
    · rw [if_pos h1, if_neg (by omega), if_pos (by omega)]; omega
    · rw [if_neg h1]
      by_cases h2 : n = k
      · rw [if_pos (by omega), if_pos (by omega)]; omega
      · rw [if_neg (by omega), if_neg (by omega)]; omega
theorem cLds_gap (wv : Int) (M : Nat) (hM : 0 < M) : gapOf (works (cLds wv M) M) = 0 := by
  have h0 := gap_ge (cLds wv M) M hM
  have h1 : ¬ 0 < gapOf (works (cLds wv M) M) := fun h => by
    obtain ⟨i, hi, hne⟩ := (gap_pos _ M hM).1 h
    have e0 : workAt (cLds wv M) 0 = wv := by have := cLds_work wv 0 M; rw [if_pos hM] at this; exact this
    rw [cLds_work wv i M, if_pos hi, e0] at hne
    exact hne rfl
  omega
theorem cLds_plans (wv : Int) (M m : Nat) (hM : 0 < M) : plansF m (works (cLds wv M) M) (cLds wv M) = [] := by
  refine plansF_none (fun j hj hc => ?_)
  have h1 := hc.2.1
  have h2 := hc.2.2
  rw [cLds_gap wv M hM] at h1
  omega
theorem one_row (W : World) (q : Nat) (wv : Int) (h : (Lit.int .i64 2).wf = true ∧ (Lit.int .i64 (q : Int)).wf = true ∧ (Lit.int .i64 wv).wf = true) : RowK .i64 (W.alloc (.cells #[.int .i64 2, .int .i64 q, .int .i64 wv] 41)) (some ⟨W.heap.size, 0, none⟩) 3 [2, (q : Int), wv] := by
  have nb : ldBlock (W.alloc (.cells #[.int .i64 2, .int .i64 q, .int .i64 wv] 41)) W.heap.size ⟨2, q, wv⟩ := heap_alloc_new W _
  obtain ⟨c0, c1, c2⟩ := nb.cells
  refine ⟨rfl, ?_, fun i hi => ⟨W.heap.size, 0, rfl, nb.lt, ?_⟩⟩
  · intro u hu
    simp only [List.mem_cons, List.not_mem_nil, or_false] at hu
    rcases hu with rfl | rfl | rfl
    · exact h.1
    · exact h.2.1
    · exact h.2.2
  · rw [Nat.zero_add]
    match i, hi with
    | 0, _ => exact c0
    | 1, _ => exact c1
    | 2, _ => exact c2
set_option maxRecDepth 20000 in
set_option maxHeartbeats 4000000 in
theorem walk_PlanCalm (w : World) (zw : Int) (ww : (Lit.int .i64 zw).wf = true) (zn : Int) (wn : (Lit.int .i64 zn).wf = true) (za : Int) (wa : (Lit.int .i64 za).wf = true) :
    Calls Try.prog 7 #[.int .i64 zw, .int .i64 zn, .int .i64 za] w fun e w' => e = .returned (.bool true) ∧ Below w.heap.size w w' := by
  obtain ⟨i3, hi3, hz30, hz31, hz32⟩ := info_ofP Try.infoLoad
  have r1 := pickedOf_range zn 5 (by omega)
  have P1 := fun w => (picked_any zn 5 w wn (by omega) (by omega)).mono (fun _ _ h => (⟨h.1, h.2.symm⟩ : _ ∧ _ = w))
  obtain ⟨p, hp⟩ : ∃ p : Nat, pickedOf zn 5 = p := ⟨(pickedOf zn 5).toNat, by omega⟩
  rw [hp] at P1 r1
  have r2 := pickedOf_range zw 1000 (by omega)
  have P2 := fun w => (picked_any zw 1000 w ww (by omega) (by omega)).mono (fun _ _ h => (⟨h.1, h.2.symm⟩ : _ ∧ _ = w))
  generalize pickedOf zw 1000 = wv at *
  have r3 := pickedOf_range za (1 + (p : Int)) (by omega)
  have P3 := fun w => (picked_any za (1 + (p : Int)) w wa (by omega) (by omega)).mono (fun _ _ h => (⟨h.1, h.2.symm⟩ : _ ∧ _ = w))
  obtain ⟨q, hq⟩ : ∃ q : Nat, pickedOf za (1 + (p : Int)) = q := ⟨(pickedOf za (1 + (p : Int))).toNat, by omega⟩
  rw [hq] at P3 r3
  clear hp hq wn wa ww
  obtain ⟨M, hM⟩ : ∃ M : Nat, M = 1 + p := ⟨_, rfl⟩
  have hMi : (1 : Int) + (p : Int) = (M : Int) := by omega
  have HMi := veil hMi
  have hqM : q < M := by omega
  have hw0 := r2.1
  have hw1 := r2.2
  obtain ⟨_, og1, og2⟩ := one_gap q M wv hqM hw0
  have o1 := one_rise q M wv hqM hw0 (by omega)
  have HB1 : Hid (∀ a1 c1 w1 (z : Int), z = M → RowK .i64 w1 a1 3 [2, (q : Int), wv] → (a1 = none → c1 = 0) → Calls Try.prog 11 #[.slice a1 1 c1, .int .i64 z, .int .i64 4] w1 fun e w' => ∃ a2 c2, e = .returned (.tuple #[.slice a2 0 c2, .int .i64 0]) ∧ Below w1.heap.size w1 w') := veil fun a1 c1 w1 z hz h hc => by
    subst hz
    have := balance_row (nodes := M) (m := 4) (l := [⟨2, (q : Int), wv⟩]) (n := 1) rfl h hc (by omega) (by omega) (by omega) o1
    rw [one_plans q M 4 wv hqM hw0] at this
    refine this.mono ?_
    rintro e w' ⟨a2, c2, rfl, _, b⟩
    exact ⟨a2, c2, rfl, b⟩
  have HS1 : Hid (∀ a1 c1 w1 (z : Int), z = M → RowK .i64 w1 a1 3 [2, (q : Int), wv] → Calls Try.prog 8 #[.slice a1 1 c1, .int .i64 z] w1 fun e w' => e = .returned (.tuple #[.int .i64 (gapOf (works [⟨2, (q : Int), wv⟩] M)), .int .i64 0]) ∧ Below w1.heap.size w1 w') := veil fun a1 c1 w1 z hz h => by
    subst hz
    exact spread_row (l := [⟨2, (q : Int), wv⟩]) (n := 1) rfl h (by omega) (by omega) o1
  generalize gapOf (works [⟨2, (q : Int), wv⟩] M) = g1 at *
  clear o1
  have HB2 : Hid (M ≤ 4 → ∀ a1 c1 w1 (z : Int), z = M → RowK .i64 w1 a1 (3 * M) (ldFlat (cLds wv M)) → (a1 = none → c1 = 0) → Calls Try.prog 11 #[.slice a1 M c1, .int .i64 z, .int .i64 4] w1 fun e w' => ∃ a2 c2, e = .returned (.tuple #[.slice a2 0 c2, .int .i64 0]) ∧ Below w1.heap.size w1 w') := veil fun hM4 a1 c1 w1 z hz h hc => by
    subst hz
    have := balance_row (nodes := M) (m := 4) (l := cLds wv M) (n := M) (cLds_len wv M) h hc (by omega) (by omega) (by omega) (cLds_rise wv M hw0 (by omega) M hM4 (Nat.le_refl _))
    rw [cLds_plans wv M 4 (by omega)] at this
    refine this.mono ?_
    rintro e w' ⟨a2, c2, rfl, _, b⟩
    exact ⟨a2, c2, rfl, b⟩
  have HS2 : Hid (M ≤ 4 → ∀ a1 c1 w1 (z : Int), z = M → RowK .i64 w1 a1 (3 * M) (ldFlat (cLds wv M)) → Calls Try.prog 8 #[.slice a1 M c1, .int .i64 z] w1 fun e w' => e = .returned (.tuple #[.int .i64 0, .int .i64 0]) ∧ Below w1.heap.size w1 w') := veil fun hM4 a1 c1 w1 z hz h => by
    subst hz
    have := spread_row (l := cLds wv M) (n := M) (a := a1) (c := c1) (w := w1) (cLds_len wv M) h (by omega) (by omega) (cLds_rise wv M hw0 (by omega) M hM4 (Nat.le_refl _))
    rwa [cLds_gap wv M (by omega)] at this
  have HWf : Hid (∀ k, k ≤ 4 → k ≤ M → ∀ u ∈ ldFlat (cLds wv k), (Lit.int .i64 u).wf = true) := veil fun k h4 hk => flat_wf M (by omega) _ (cLds_rise wv M hw0 (by omega) k h4 hk).mem
  have HTk : Hid (∀ k : Nat, ldFlat (cLds wv k) ++ [(k : Int), (k : Int), wv] = ldFlat (cLds wv (k + 1))) := veil fun k => by rw [cLds, ldFlat_append]; rfl
  have HC0 : Hid (∀ k, 0 < k → (ldFlat (cLds wv k)).getD 2 0 = wv) := veil fun k hk => by
    have := (ldFlat_at (cLds wv k) 0).2.2
    rw [cLds_at wv k 0 hk] at this
    exact this
  have HLn : Hid (∀ k, (ldFlat (cLds wv k)).length = 3 * k) := veil fun k => by rw [ldFlat_len, cLds_len]
  have w1f : Hid ((Lit.int .i64 2).wf = true ∧ (Lit.int .i64 (q : Int)).wf = true ∧ (Lit.int .i64 wv).wf = true) := veil ⟨by decide, lit_wf (by omega) (by omega), lit_wf (by omega) (by omega)⟩
  have HM1 := veil hM
  clear hM hMi r3
  go_enter Try.func7, Try.ntmps7
  go_wp2_with (go_at_call 15; first | (refine (P1 _).mono ?_; rintro _ w ⟨rfl, rfl⟩; clear P1) | (refine (P2 _).mono ?_; rintro _ w ⟨rfl, rfl⟩; clear P2))
  go_loopw [9, 10] (fun v t wr => ∃ k : Nat, ∃ aN cN, k ≤ M ∧ k ≤ 4 ∧ t = .int .i64 k ∧ v = .slice aN k cN ∧ wr.ownsRow w.heap.size 41 3 v k ((ldFlat (cLds wv k)).map (Value.int .i64)) ∧ Below w.heap.size w wr) (fun _ t _ => 4 - (intOf t).toNat)
  case atStart => exact ⟨0, _, _, Nat.zero_le _, Nat.zero_le _, rfl, rfl, World.ownsRow_nil _ _ _ _, Below.refl _ _⟩
  case round =>
    obtain ⟨k, aN, cN, hkM, hk4, rfl, rfl, ow, bel⟩ := hrel
    by_cases hlt : k < M ∧ k < 4
    · have c1 : (k : Int) < 1 + (p : Int) := by have := unveil HMi; omega
      have c2 : k < 4 := hlt.2
      have hT := unveil HTk k
      have hws : w.heap.size ≤ wr.heap.size := bel.size
      have b5 : Below wr.heap.size wr (wr.alloc (.cells #[.int .i64 k, .int .i64 k, .int .i64 wv] 41)) := below1 _ _
      have HO5 : Hid ((wr.alloc (.cells #[.int .i64 k, .int .i64 k, .int .i64 wv] 41)).ownsRow w.heap.size 41 3 (.slice aN k cN) k ((ldFlat (cLds wv k)).map (Value.int .i64))) := veil (own_still ow (fun g _ hg => b5.block g hg))
      have HG : Hid (∀ w4, (wr.alloc (.cells #[.int .i64 k, .int .i64 k, .int .i64 wv] 41)).grownBy w4 (Value.slice aN k cN).ownBlock → Below w.heap.size w w4) := veil fun w4 g => (bel.trans (b5.mono bel.size)).grown g (by have := b5.size; omega) (fun q hq => (ow.lt q hq).1)
      have HT := veil hT
      have HL2 : Hid (k + 1 ≤ M) := veil hlt.1
      clear ow bel b5 hT hlt
      go_wp2_with (at_builtin; refine wpList_append_own _ rfl _ _ 22 rfl w.heap.size 41 i3 _ 3 24 Try.underlying22 hi3 hz30 hz31 hz32 rfl (by decide) (.slice aN k cN) k ((ldFlat (cLds wv k)).map (Value.int .i64)) rfl (unveil HO5) ⟨wr.heap.size, 0, none⟩ 1 1 ([(k : Int), (k : Int), wv].map (Value.int .i64)) rfl rfl (news3 _ _ _ _ _) (ints_oneCell _ _) (by unfold maxLen; omega) (by omega) (by simp; omega) ?_; intro v' w4 own4 grow4 _; obtain ⟨a', cap', rfl⟩ := own_form own4; rw [← List.map_append, unveil HT] at own4; have HO4 := veil own4; have HB4 := veil (unveil HG w4 grow4); clear own4 grow4)
      all_goals (go_roundw <;> first | exact ⟨k + 1, _, _, unveil HL2, by omega, by go_num, rfl, unveil HO4, unveil HB4⟩ | (simp [intOf]; omega))
    · obtain ⟨g, rfl⟩ : ∃ g, aN = some ⟨g, 0, none⟩ := by
        rcases ow.2 with ⟨_, h0⟩ | ⟨g, _, _, e, _⟩
        · omega
        · simp only [Value.slice.injEq] at e
          exact ⟨g, e.1⟩
      obtain ⟨a', c', ev, rr, _, _, _, _⟩ := RowK.ofMany ow (unveil HWf k hk4 hkM)
      cases ev
      have cw := rr.at 2 (by omega)
      rw [unveil HC0 k (by omega), Nat.zero_add] at cw
      have fw : wr.frozen? ⟨g, 2, none⟩ = false := World.ownsRow.frozenAt ow 2
      have hgl := ow.lt g rfl
      by_cases hM5 : 4 < M
      · have c1 : (4 : Int) < 1 + (p : Int) := by have := unveil HMi; omega
        obtain rfl : k = 4 := by omega
        have hg1 := og1 (by omega)
        have BL := veil (show Below w.heap.size w (wr.setCell ⟨g, 2, none⟩ (.int .i64 0)) from bel.setCell hgl.1 _)
        clear ow rr bel hlt hgl HB2 HS2 og1 og2 HWf HTk HC0 HLn hkM hk4
        subst hg1
        go_upto_region 10 with (fail)
        generalize wr.setCell ⟨g, 2, none⟩ (.int .i64 0) = W1 at BL ⊢
        clear cw fw
        have R1 := veil (one_row W1 q g1 (unveil w1f))
        have B2 := veil (Below.next (unveil BL) (below1 W1 (.cells #[.int .i64 2, .int .i64 q, .int .i64 g1] 41)))
        go_wp2_with (first
          | (go_at_call 15; refine (P3 _).mono ?_; rintro _ W1 ⟨rfl, rfl⟩; clear P3)
          | (go_at_call 11; refine (unveil HB1 _ _ _ _ (by first | exact unveil HMi | (rw [IntKind.wrap_i64]; omega)) (unveil R1) (fun h => by cases h)).mono ?_; rintro _ w3 ⟨a3, c3, rfl, b3⟩; have B3 := veil (Below.next (unveil B2) b3); have R3 := veil ((unveil R1).below b3); clear b3 HB1)
          | (go_at_call 8; refine (unveil HS1 _ _ _ _ (by first | exact unveil HMi | (rw [IntKind.wrap_i64]; omega)) (unveil R3)).mono ?_; rintro _ w4 ⟨rfl, b4⟩; have B4 := veil (Below.next (unveil B3) b4); clear b4 HS1))
        go_ret
        exact ⟨by first | rfl | simp, unveil B4⟩
      · have c1 : ¬ (4 : Int) < 1 + (p : Int) := by have := unveil HMi; omega
        obtain rfl : k = M := by omega
        have c0 : ¬ (k : Int) < 1 + (p : Int) := by have := unveil HMi; omega
        have HB2' := veil (unveil HB2 (by omega))
        have HS2' := veil (unveil HS2 (by omega))
        have BL := veil bel
        have RR := veil rr
        have HAtl : Hid (∀ wx, RowK .i64 wx (some ⟨g, 0, none⟩) (3 * k) (ldFlat (cLds wv k)) → wx.cell? ⟨g, 2, none⟩ = some (.int .i64 wv)) := veil fun wx r => by
          have := r.at 2 (by omega)
          rw [unveil HC0 k (by omega), Nat.zero_add] at this
          exact this
        clear ow rr bel hlt hgl HB2 HS2 HWf HTk HC0 HLn cw fw
        have R1 := veil (one_row wr q wv (unveil w1f))
        have B2 := veil (Below.next (unveil BL) (below1 wr (.cells #[.int .i64 2, .int .i64 q, .int .i64 wv] 41)))
        have RR2 := veil ((unveil RR).below (below1 wr (.cells #[.int .i64 2, .int .i64 q, .int .i64 wv] 41)))
        go_upto_region 17 with (first
          | (go_at_call 15; refine (P3 _).mono ?_; rintro _ wr ⟨rfl, rfl⟩; clear P3)
          | (go_at_call 11; first
              | (refine (unveil HB1 _ _ _ _ (by first | exact unveil HMi | (rw [IntKind.wrap_i64]; omega)) (unveil R1) (fun h => by cases h)).mono ?_; rintro _ w3 ⟨a3, c3, rfl, b3⟩; have B3 := veil (Below.next (unveil B2) b3); have R3 := veil ((unveil R1).below b3); have RR3 := veil ((unveil RR2).below b3); clear b3 HB1)
              | (refine (unveil HB2' _ _ _ _ (by first | exact unveil HMi | (rw [IntKind.wrap_i64]; omega)) (unveil RR4) (fun h => by cases h)).mono ?_; rintro _ w5 ⟨a5, c5, rfl, b5⟩; have B5 := veil (Below.next (unveil B4) b5); have RR5 := veil ((unveil RR4).below b5); clear b5 HB2'))
          | (go_at_call 8; first
              | (refine (unveil HS1 _ _ _ _ (by first | exact unveil HMi | (rw [IntKind.wrap_i64]; omega)) (unveil R3)).mono ?_; rintro _ w4 ⟨rfl, b4⟩; have B4 := veil (Below.next (unveil B3) b4); have RR4 := veil ((unveil RR3).below b4); clear b4 HS1)
              | (refine (unveil HS2' _ _ _ _ (by first | exact unveil HMi | (rw [IntKind.wrap_i64]; omega)) (unveil RR5)).mono ?_; rintro _ w6 ⟨rfl, b6⟩; have B6 := veil (Below.next (unveil B5) b6); have RR6 := veil ((unveil RR5).below b6); clear b6 HS2')))
        have cl := unveil HAtl _ (unveil RR6)
        by_cases hk1 : k = 1
        · have hg := og2 hk1
          have hp1 : ((1 : Int) + (p : Int) == 1) = true := by have := unveil HMi; simp; omega
          have hp0 : p = 0 := by have := unveil HMi; omega
          subst hg
          subst hp0
          go_wp2
          go_ret
          exact ⟨by first | rfl | simp, unveil B6⟩
        · have hg := og1 (by omega)
          have hp1 : ((1 : Int) + (p : Int) == 1) = false := by have := unveil HMi; simp; omega
          have hp2 : (1 : Int) < 1 + (p : Int) := by have := unveil HMi; omega
          have hp3 : 0 < p := by omega
          subst hg
          go_wp2
          all_goals (try go_ret)
          all_goals exact ⟨by first | rfl | simp, unveil B6⟩
end Go.Proofs.Ytmkbidglfnpgjaa
