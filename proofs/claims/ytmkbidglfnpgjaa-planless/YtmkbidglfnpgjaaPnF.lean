/- Walk of plan.Spread. -/
import Derived.Test.YtmkbidglfnpgjaaPnE
namespace Go.Proofs.Ytmkbidglfnpgjaa
open Go.RowKit

theorem loadsOf_cases (nodes : Int) (l : List Ld) : (loadsOf nodes l ≠ 0) ∨ (loadsOf nodes l = 0 ∧ 1 ≤ nodes ∧ nodes ≤ 5 ∧ Rise nodes l) := by
  by_cases h : 1 ≤ nodes ∧ nodes ≤ 5
  · by_cases hr : Rise nodes l
    · exact .inr ⟨loadsOf_yes h.1 h.2 hr, h.1, h.2, hr⟩
    · exact .inl (by rw [loadsOf_no h.1 h.2 hr]; decide)
  · exact .inl (by rw [loadsOf_range h]; decide)
/-- how much more the busiest has. -/
noncomputable def spreadOf (nodes : Int) (l : List Ld) : Int := if loadsOf nodes l = 0 then gapOf (works l nodes.toNat) else 0
theorem Rise.wsB {nodes : Nat} {l : List Ld} (h : Rise nodes l) (j : Nat) (hj : j < nodes) : 0 ≤ (works l nodes).getD j 0 ∧ (works l nodes).getD j 0 ≤ 4294967296 := by
  rw [works_at l nodes j hj]; exact h.work j
theorem Rise.wsWf {nodes : Nat} {l : List Ld} (h : Rise nodes l) : ∀ u ∈ works l nodes, (Lit.int .i64 u).wf = true := by
  intro u hu
  simp only [works, List.mem_map, List.mem_range] at hu
  obtain ⟨n, _, rfl⟩ := hu
  have := h.work n
  simp [Lit.wf, IntKind.min, IntKind.max, IntKind.signed, IntKind.bits]
  omega
set_option maxRecDepth 20000 in
set_option maxHeartbeats 2000000 in
theorem spread_any (nodes : Int) (a : Option Addr) (c : Nat) (l : List Ld) (w : World) (hA : RowK .i64 w a (3 * l.length) (ldFlat l)) (hl : l.length ≤ 9223372036854775806) :
    Calls Try.prog 8 #[.slice a l.length c, .int .i64 nodes] w fun e w' => e = .returned (.tuple #[.int .i64 (spreadOf nodes l), .int .i64 (loadsOf nodes l)]) ∧ Below w.heap.size w w' := by
  have HC := check_any nodes a c l w hA hl
  rcases loadsOf_cases nodes l with h0 | ⟨h0, h1, h5, hr⟩
  · have e1 : spreadOf nodes l = 0 := by unfold spreadOf; rw [if_neg h0]
    rw [e1]
    clear e1
    generalize loadsOf nodes l = e0 at *
    generalize l.length = n at *
    have hb : (e0 != 0) = true := by simpa using h0
    clear hA
    go_enter Try.func8, Try.ntmps8
    go_wp2_with (go_at_call 19; refine HC.mono ?_; rintro _ w1 ⟨rfl, b1⟩; have B1 := veil b1; clear b1 HC)
    exact bodyPost_ret (v := .tuple #[.int .i64 0, .int .i64 e0]) (by simp [results, Try.results8, go_sem]) rfl ⟨rfl, unveil B1⟩
  · obtain ⟨m, rfl⟩ : ∃ m : Nat, nodes = m := ⟨nodes.toNat, by omega⟩
    have e1 : spreadOf (m : Int) l = gapOf (works l m) := by unfold spreadOf; rw [if_pos h0]; rfl
    rw [e1]
    rw [h0] at HC ⊢
    have hlen := works_len l m
    obtain ⟨ib, _⟩ := busyOf_is (works l m) (by omega)
    obtain ⟨ii, _⟩ := idleOf_is (works l m) (by omega)
    have hb1 := ib.lt
    have hi1 := ii.lt
    have vb := hr.wsB (busyOf (works l m)) (by omega)
    have vi := hr.wsB (idleOf (works l m)) (by omega)
    have HT : Hid (∀ w1, Below w.heap.size w w1 → Calls Try.prog 20 #[.slice a l.length c, .int .i64 m] w1 fun e w' => e = .returned (.slice (some ⟨w1.heap.size, 0, none⟩) m m) ∧ wsRow w' w1.heap.size w1.heap.size (works l m) ∧ Below w1.heap.size w1 w') := veil fun w1 b1 => tally_any m a c l w1 (hA.below b1) (by omega) (by omega) hr
    have hwf := hr.wsWf
    obtain ⟨gp, hgp⟩ : ∃ gp, gp = gapOf (works l m) := ⟨_, rfl⟩
    rw [← hgp]
    have HG : Hid (gp = (works l m).getD (busyOf (works l m)) 0 - (works l m).getD (idleOf (works l m)) 0) := veil hgp
    clear hgp
    have HW := veil hwf
    clear hwf hr hA e1 h0 ib ii
    generalize works l m = ws at *
    generalize hN : l.length = n at *
    have H0 : Hid (0 < ws.length) := veil (by omega)
    have H9 : Hid (ws.length ≤ 9223372036854775806) := veil (by omega)
    have HLn := veil hlen
    have hbm : busyOf ws < m := by omega
    have him : idleOf ws < m := by omega
    clear hlen hN hl hb1 hi1
    go_enter Try.func8, Try.ntmps8
    go_wp2_with (first | (go_at_call 19; refine HC.mono ?_; rintro _ w1 ⟨rfl, b1⟩; have B1 := veil b1; clear b1 HC) | (go_at_call 20; refine (unveil HT w1 (unveil B1)).mono ?_; rintro _ w2 ⟨rfl, o2, b2⟩; have O2 := veil o2; have B2 := veil (Below.next (unveil B1) b2); clear o2 b2 B1 HT))
    have hrow := (unveil O2).row (unveil HW)
    obtain ⟨y0, _⟩ := (unveil O2).at (busyOf ws) (by rw [unveil HLn]; exact hbm)
    obtain ⟨z0, _⟩ := (unveil O2).at (idleOf ws) (by rw [unveil HLn]; exact him)
    have HB : ∀ q, Calls Try.prog 21 #[.slice (some ⟨w1.heap.size, 0, none⟩) m m] (w2.drewN q) fun e w' => e = .returned (.int .i64 (busyOf ws)) ∧ w' = w2.drewN q := fun q => by
      have := busiest_row w1.heap.size ws.length ws (w2.drewN q) (hrow.below (belowN _ _)) (unveil H9) (unveil H0)
      rwa [unveil HLn] at this
    have HI : ∀ q, Calls Try.prog 22 #[.slice (some ⟨w1.heap.size, 0, none⟩) m m] (w2.drewN q) fun e w' => e = .returned (.int .i64 (idleOf ws)) ∧ w' = w2.drewN q := fun q => by
      have := idlest_row w1.heap.size ws.length ws (w2.drewN q) (hrow.below (belowN _ _)) (unveil H9) (unveil H0)
      rwa [unveil HLn] at this
    clear hrow O2
    generalize busyOf ws = bu at *
    generalize idleOf ws = id at *
    generalize ws.getD bu 0 = y at *
    generalize ws.getD id 0 = z at *
    have hgp := unveil HG
    go_quiet (first | (go_at_call 21; refine Calls.quiet_of_same (HB _)) | (go_at_call 22; refine Calls.quiet_of_same (HI _)))
    go_wp2
    subst hgp
    exact bodyPost_ret (v := .tuple #[.int .i64 (y - z), .int .i64 0]) (by simp [results, Try.results8, go_sem]) rfl ⟨rfl, below_n (unveil B2) _⟩
end Go.Proofs.Ytmkbidglfnpgjaa
