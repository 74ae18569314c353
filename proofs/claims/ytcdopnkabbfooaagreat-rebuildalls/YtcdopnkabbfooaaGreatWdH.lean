/- Walks of berthshiftref.WindowFault (windows that may not be) and IdSeen. -/
import Derived.Test.YtcdopnkabbfooaaGreatWdG
namespace Go.Proofs.YtcdopnkabbfooaaGreat
open Go.RowKit

theorem mem_getD {l : List Int} {k : Nat} (h : k < l.length) : l.getD k 0 ∈ l := by
  rw [List.getD_eq_getElem?_getD, List.getElem?_eq_getElem h]; simp

/-- the window of the ids of a window whose last id was not taken is another one. -/
theorem ids_other {t : Int} {s : Nat → Bool} (hh : t ≤ 1073741825) (hi : ∀ i : Nat, i < 8 → s i = true → 8 ≤ t + i) (hz : ¬ t = 0) (h7 : s 7 = false) (a : Option Addr) (cap : Nat) :
    ∃ T S, (t == T) = false ∧ ∀ w, RowK .i64 w a (idsTo t s 8).length (idsTo t s 8) → Calls Tryz.prog 103 #[.slice a (idsTo t s 8).length cap] w fun e w' => e = .returned (winVal T S) ∧ Below w.heap.size w w' := by
  have hln := length_idsTo t s 8
  have hp := idsTo_sorted t s 8
  have hb : ∀ x ∈ idsTo t s 8, 0 ≤ x ∧ x < t - 1 := by
    intro x hx
    obtain ⟨i, hi8, hs, rfl⟩ := mem_idsTo.1 hx
    have := hi i hi8 hs
    have h7' : i ≠ 7 := by intro e; rw [e, h7] at hs; cases hs
    omega
  by_cases hn : idsTo t s 8 = []
  · rw [hn]
    exact ⟨0, noneS, by simp [hz], fun w _ => windowOf_nil a cap w⟩
  · have hlast := hb _ (last_mem hn)
    refine ⟨topOf (idsTo t s 8), seenOf (topOf (idsTo t s 8)) (idsTo t s 8), by simp; omega, fun w r => windowOf_any a _ cap _ w r (List.length_pos_iff.2 hn) (by omega) ?_⟩
    intro x hx
    have h1 := hb x hx
    have h2 := last_great hp hx
    omega

set_option maxRecDepth 20000 in
set_option maxHeartbeats 2000000 in
theorem windowFault_no (t : Int) (s : Nat → Bool) (w : World) (h : ¬ WinOk t s) :
    Calls Tryz.prog 100 #[winVal t s] w fun e w' => e = .returned (.int .i64 6) ∧ Below w.heap.size w w' := by
  by_cases hr : 0 ≤ t ∧ t ≤ 1073741825
  case neg => exact windowFault_range t s w hr
  obtain ⟨hl, hh⟩ := hr
  have hq := run_equal_seen
  go_enter Tryz.func100, Tryz.ntmps100
  go_wp2_with fail
  obtain ⟨W, hW, wb0, B0, S0⟩ := one_box w t s
  rw [← hW]
  clear hW
  refine (winIn_yes t 0 1073741825 _ hl hh).mono ?_
  rintro e w1 ⟨rfl, rfl⟩
  obtain ⟨c0, c1, c2, c3, c4, c5, c6, c7, c8⟩ := wb0.cells
  go_wp2_with fail
  refine (idsOf_any t s _ hl hh).mono ?_
  rintro e w2 ⟨a, cap, rfl, r2, k2, n2, m2, b2⟩
  clear c0 c1 c2 c3 c4 c5 c6 c7 c8
  have wb := wb0.next b2
  have B2 := Below.next B0 b2
  obtain ⟨c0, c1, c2, c3, c4, c5, c6, c7, c8⟩ := wb.cells
  clear wb0 B0 S0 b2
  have hp := idsTo_sorted t s 8
  by_cases hi : ∀ i : Nat, i < 8 → s i = true → 8 ≤ t + i
  · have hz : ¬ t = 0 := fun hz => h ⟨hl, hh, hi, .inl hz⟩
    have h7 : s 7 = false := by
      cases h7 : s 7
      · rfl
      · exact absurd ⟨hl, hh, hi, .inr h7⟩ h
    obtain ⟨T, S, hT, hC⟩ := ids_other hh hi hz h7 a cap
    have HC := veil hC
    have HP : Hid (∀ x ∈ idsTo t s 8, 0 ≤ x) := veil (by
      intro x hx
      obtain ⟨i, hi8, hs, rfl⟩ := mem_idsTo.1 hx
      have := hi i hi8 hs
      omega)
    clear hC hp hi h hz h7
    generalize idsTo t s 8 = l at r2 k2 HC HP ⊢
    obtain ⟨n, hn⟩ : ∃ n, n = l.length := ⟨_, rfl⟩
    rw [← hn] at r2 k2 HC ⊢
    have HN := veil hn
    clear hn
    by_cases hz : n = 0
    · subst hz
      go_wp2_with fail
      first | go_region_with (go_at_call 103; refine (unveil HC _ (by first | exact r2 | exact r2.below (belowN _ 1))).mono ?_; rintro e w5 ⟨rfl, bb⟩; have b5 : Below w2.heap.size w2 w5 := (by first | exact bb | exact Below.next (belowN _ _) bb); obtain ⟨q0, q1, q2, q3, q4, q5, q6, q7, q8⟩ := (wb.next b5).cells) | fail
      all_goals
        go_wp2
        go_ret
        exact ⟨rfl, Below.next B2 b5⟩
    · obtain ⟨b, off, rfl⟩ := r2.form (by omega)
      have hx := r2.at 0 (by omega)
      rw [Nat.add_zero] at hx
      have h0 := unveil HP (l.getD 0 0) (mem_getD (by have := unveil HN; omega))
      generalize l.getD 0 0 = x at hx h0
      have hn1 : (0 : Int) < (n : Int) := by omega
      have hx0 : decide (x < 0) = false := by simp; omega
      go_wp2_with fail
      first | go_region_with (go_at_call 103; refine (unveil HC _ (by first | exact r2 | exact r2.below (belowN _ 1))).mono ?_; rintro e w5 ⟨rfl, bb⟩; have b5 : Below w2.heap.size w2 w5 := (by first | exact bb | exact Below.next (belowN _ _) bb); obtain ⟨q0, q1, q2, q3, q4, q5, q6, q7, q8⟩ := (wb.next b5).cells) | fail
      all_goals
        go_wp2
        go_ret
        exact ⟨rfl, Below.next B2 b5⟩
  · obtain ⟨i, hi8, hsi, hneg⟩ : ∃ i : Nat, i < 8 ∧ s i = true ∧ ¬ 8 ≤ t + i := by
      apply Classical.byContradiction
      intro hcon
      exact hi (fun i h1 h2 => Classical.byContradiction fun h3 => hcon ⟨i, h1, h2, h3⟩)
    have hm : t - 8 + (i : Int) ∈ idsTo t s 8 := mem_idsTo.2 ⟨i, hi8, hsi, rfl⟩
    have hf := first_least hp hm
    have hpos : 0 < (idsTo t s 8).length := List.length_pos_iff.2 (by intro h0; rw [h0] at hm; cases hm)
    clear hm hsi hi h hp
    generalize idsTo t s 8 = l at r2 k2 hf hpos ⊢
    obtain ⟨n, hn⟩ : ∃ n, n = l.length := ⟨_, rfl⟩
    rw [← hn] at r2 k2 hpos ⊢
    clear hn
    obtain ⟨b, off, rfl⟩ := r2.form hpos
    have hx := r2.at 0 hpos
    rw [Nat.add_zero] at hx
    generalize l.getD 0 0 = x at hx hf
    have hn1 : (0 : Int) < (n : Int) := by omega
    have hx0 : x < 0 := by omega
    go_wp2_with fail
    first | go_region_with (fail) | fail
    all_goals
      go_wp2
      go_ret
      exact ⟨rfl, B2.drew⟩
end Go.Proofs.YtcdopnkabbfooaaGreat
