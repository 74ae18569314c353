/- The walk of berthshiftkeep.QueueKeeps. -/
import Derived.Test.YtkeipknbcjkomaaQkE
namespace Go.Proofs.Ytkeipknbcjkomaa
open Go.RowKit

theorem evFlat_wf {es : List Ev} (h : ∀ v ∈ es, v.Ok) : ∀ u ∈ evFlat es, (Lit.int .i64 u).wf = true := by
  intro u hu
  obtain ⟨v, hv, hu⟩ := List.mem_flatMap.1 hu
  have hb : 0 ≤ u ∧ u ≤ 1073741824 := by
    simp only [evCells, List.mem_cons, List.not_mem_nil, or_false] at hu
    rcases Ev.cases (h v hv) with c | c | c | c <;> omega
  exact wf_in (by omega) (by omega)
set_option maxRecDepth 20000 in
set_option maxHeartbeats 4000000 in
theorem walk_QueueKeeps (w : World) (a : Option Addr) (len cap : Nat) (D : List Int) (h : RowK .i64 w a (4 * len) D) (_ : len ≤ cap) (_ : cap ≤ maxLen) (_ : a = none → cap = 0) :
    Calls Try.prog 3 #[.slice a len cap] w fun r w' => r = .returned (.bool true) ∧ Below w.heap.size w w' := by
  have HP := played_any a len cap 60 D w h (by omega)
  go_enter Try.func3, Try.ntmps3
  go_upto_region 2 with (first
    | (go_at_call 15; refine HP.mono ?_; rintro r W1 ⟨s, es, ans, x, ve, va, rfl, hist, hl, _, hfirst, ⟨⟨a1, c1, a2, c2, ws, rfl, r1, r2, l1, l2, n1, n2, hW, f1, f2⟩⟩, oe, oa, B1⟩; have HH := veil hist; have HF := veil hfirst; obtain ⟨ae, ce, rfl, re, _, _, _, _⟩ := RowK.ofMany oe (evFlat_wf fun v hv => (hist.like v hv).ok); obtain ⟨aa, ca, rfl⟩ := own_form oa; clear hist hfirst oe oa f1 f2 HP)
    | (refine q_alloc 3 rfl rfl rfl ?_; intro W2 z2 b2)
    | (refine q_store (ra := a1) (la := a2) (ws' := ws) _ _ rfl rfl rfl rfl z2 hW ?_; intro W3 q3 t3; obtain ⟨X3, b3, B3⟩ := boxed r1 r2 n1 n2 hW B1 b2 t3 q3; have HX3 := veil X3; have HB3 := veil B3; have HE3 := veil (re.below b3); clear z2 b2 q3 t3 r1 r2 n1 n2 B1 b3 X3 B3 re))
  have hist := unveil HH
  have sm := hist.small hl
  obtain ⟨e1, e4, e3, _⟩ := hist.counts
  have HC : ∀ (n : Nat) (k : Int), Calls Try.prog 16 #[.slice ae es.length ce, .int .i64 k] (W3.drewN n) fun e w' => e = .returned (.int .i64 (cnt es k)) ∧ w' = W3.drewN n := fun n k => by
    have := count_any ae es.length ce (evFlat es) k (W3.drewN n) ((unveil HE3).below (belowN _ n)) (by omega)
    rw [cntTo_all] at this
    exact this
  obtain ⟨g0, g1, g2, g3, g4⟩ := (unveil HX3).q.heads
  rw [e4] at g0
  rw [e1] at g1
  have hb1 : cnt es 1 ≤ 60 := Nat.le_trans (cnt_le es 1) hl
  have hal : ans.length = es.length := hist.len
  have hfirst := unveil HF
  rw [e1] at hfirst
  rw [hal]
  have hs1 : IntKind.i64.wrap ((s.rn : Int) + (s.ln : Int)) = ((s.rn + s.ln : Nat) : Int) := by rw [IntKind.wrap_i64]; omega
  have hs2 : IntKind.i64.wrap ((cnt es 1 : Int) - (cnt es 3 : Int)) = ((s.rn + s.ln : Nat) : Int) := by rw [IntKind.wrap_i64]; omega
  clear hist sm e1 e4 e3 HH HF hal
  have hlb := hb1
  rcases Nat.eq_zero_or_pos len with h0 | h0
  · subst h0
    have HK : ∀ w, Calls Try.prog 17 #[.int .i64 0, .int .i64 8] w fun e w' => e = .returned (.int .i64 (pickedOf 0 8)) ∧ w' = w := fun w => (picked_any 0 8 w (by decide) (by omega) (by omega)).mono fun _ _ h => ⟨h.1, h.2.symm⟩
    clear h hfirst
    go_quiet (first
      | (go_at_call 16; refine Calls.quiet_of_same (HC _ _))
      | (go_at_call 17; refine Calls.quiet_of_same (HK _)))
    go_wp2
    go_ret
    exact ⟨by first | (simp; done) | (simp; omega), Below.next (unveil HB3) (belowN _ _)⟩
  · have hl0 : ((len : Int) == 0) = false := by simp; omega
    have hl1 : ¬ len = 0 := by omega
    have rD := h.below (unveil HB3)
    obtain ⟨g, off, rfl⟩ := h.form (by omega)
    have k0 : W3.cell? ⟨g, off, none⟩ = some (.int .i64 (D.getD 0 0)) := rD.at 0 (by omega)
    have hf := hfirst h0 (by omega)
    have wd : (Lit.int .i64 (D.getD 0 0)).wf = true := getD_fits D h.wf _
    have HK : ∀ w, Calls Try.prog 17 #[.int .i64 (D.getD 0 0), .int .i64 8] w fun e w' => e = .returned (.int .i64 (pickedOf (D.getD 0 0) 8)) ∧ w' = w := fun w => (picked_any _ 8 w wd (by omega) (by omega)).mono fun _ _ h => ⟨h.1, h.2.symm⟩
    generalize pickedOf (D.getD 0 0) 8 = pk at hf HK
    generalize D.getD 0 0 = d0 at k0 HK
    clear h hfirst rD wd
    by_cases hp : 2 < pk
    · have hp1 : decide (2 < pk) = true := by simp [hp]
      clear hf
      go_quiet (first
        | (go_at_call 16; refine Calls.quiet_of_same (HC _ _))
        | (go_at_call 17; refine Calls.quiet_of_same (HK _)))
      go_wp2
      go_ret
      exact ⟨by first | (simp; done) | (simp; omega), Below.next (unveil HB3) (belowN _ _)⟩
    · have hp1 : decide (2 < pk) = false := by simp [hp]
      have hn := (hf (by omega)).2
      have hn1 : decide ((0 : Int) < (cnt es 1 : Int)) = true := by simp; omega
      clear hf
      go_quiet (first
        | (go_at_call 16; refine Calls.quiet_of_same (HC _ _))
        | (go_at_call 17; refine Calls.quiet_of_same (HK _)))
      go_wp2
      go_ret
      exact ⟨by first | (simp; done) | (simp; omega), Below.next (unveil HB3) (belowN _ _)⟩
end Go.Proofs.Ytkeipknbcjkomaa
