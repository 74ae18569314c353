/- The walk of PlanMore. -/
import Derived.Test.YtmkbidglfnpgjaaPnS
namespace Go.Proofs.Ytmkbidglfnpgjaa
open Go.RowKit

theorem plansOf_is {nodes m : Nat} {l : List Ld} (h1 : 1 ≤ nodes) (h5 : nodes ≤ 5) (hm : m ≤ 4) (hr : Rise nodes l) : balOf nodes m l = 0 ∧ plansOf nodes m l = plansF m (works l nodes) l := by
  have h0 := loadsOf_yes (l := l) (nodes := (nodes : Int)) (by omega) (by omega) hr
  have h2 : balOf nodes m l = 0 := by unfold balOf; rw [if_pos h0, if_pos ⟨by omega, by omega⟩]
  exact ⟨h2, by unfold plansOf; rw [if_pos h2]; rfl⟩
theorem spreadOf_is {nodes : Nat} {l : List Ld} (h1 : 1 ≤ nodes) (h5 : nodes ≤ 5) (hr : Rise nodes l) : loadsOf nodes l = 0 ∧ spreadOf nodes l = gapOf (works l nodes) := by
  have h0 := loadsOf_yes (l := l) (nodes := (nodes : Int)) (by omega) (by omega) hr
  exact ⟨h0, by unfold spreadOf; rw [if_pos h0]; rfl⟩
/-- Balance of loads that may be, as a row. -/
theorem balance_row {nodes m : Nat} {l : List Ld} {a : Option Addr} {n c : Nat} {w : World} (hn : l.length = n) (hA : RowK .i64 w a (3 * n) (ldFlat l)) (hc : a = none → c = 0) (h1 : 1 ≤ nodes) (h5 : nodes ≤ 5) (hm : m ≤ 4) (hr : Rise nodes l) :
    Calls Try.prog 11 #[.slice a n c, .int .i64 nodes, .int .i64 m] w fun e w' => ∃ a2 c2, e = .returned (.tuple #[.slice a2 (plansF m (works l nodes) l).length c2, .int .i64 0]) ∧ RowK .i64 w' a2 (3 * (plansF m (works l nodes) l).length) (plFlat (plansF m (works l nodes) l)) ∧ Below w.heap.size w w' := by
  subst hn
  obtain ⟨e1, e2⟩ := plansOf_is h1 h5 hm hr
  have := balance_any nodes m a c l w hA (by have := hr.len; omega) hc
  have hw := plansOf_wf nodes m l
  rw [e1, e2] at this
  rw [e2] at hw
  refine this.mono ?_
  rintro e w' ⟨v, rfl, o, b⟩
  obtain ⟨a2, c2, rfl, r, _⟩ := RowK.ofMany o hw
  exact ⟨a2, c2, rfl, r, b⟩
theorem spread_row {nodes : Nat} {l : List Ld} {a : Option Addr} {n c : Nat} {w : World} (hn : l.length = n) (hA : RowK .i64 w a (3 * n) (ldFlat l)) (h1 : 1 ≤ nodes) (h5 : nodes ≤ 5) (hr : Rise nodes l) :
    Calls Try.prog 8 #[.slice a n c, .int .i64 nodes] w fun e w' => e = .returned (.tuple #[.int .i64 (gapOf (works l nodes)), .int .i64 0]) ∧ Below w.heap.size w w' := by
  subst hn
  obtain ⟨e1, e2⟩ := spreadOf_is h1 h5 hr
  have := spread_any nodes a c l w hA (by have := hr.len; omega)
  rwa [e1, e2] at this
theorem gap_one (l : List Ld) : ¬ 0 < gapOf (works l 1) := fun h => by
  obtain ⟨i, hi, hne⟩ := (gap_pos l 1 (by omega)).1 h
  obtain rfl : i = 0 := by omega
  exact hne rfl
/-- a row's first ones. -/
theorem RowK.part {w : World} {a : Option Addr} {k n : Nat} {D E : List Int} (h : RowK .i64 w a n D) (hk : k ≤ n) (hE : ∀ i, i < k → E.getD i 0 = D.getD i 0) (hl : E.length = k) (hw : ∀ u ∈ E, (Lit.int .i64 u).wf = true) : RowK .i64 w a k E :=
  ⟨hl, hw, fun i hi => by
    obtain ⟨b, off, e, h1, h2⟩ := h.cell i (by omega)
    exact ⟨b, off, e, h1, by rw [h2, hE i hi]⟩⟩
theorem plFlat_take (l : List Pl) (k : Nat) : ∀ i, i < 3 * k → (plFlat (l.take k)).getD i 0 = (plFlat l).getD i 0 := by
  induction l generalizing k with
  | nil => intro i _; simp [plFlat]
  | cons x l ih =>
    intro i hi
    cases k with
    | zero => omega
    | succ k =>
      simp only [List.take_succ_cons, plFlat]
      match i, hi with
      | 0, _ => simp
      | 1, _ => simp
      | 2, _ => simp
      | i + 3, hi => simpa using ih k i (by omega)
set_option maxRecDepth 20000 in
set_option maxHeartbeats 4000000 in
theorem walk_PlanMore (w : World) (a0 : Option Addr) (len cap : Nat) (D : List Int) (hA : RowK .i64 w a0 (2 * len) D) (hc : len ≤ cap) (_ : a0 = none → cap = 0) (hz : cap * 16 ≤ 140737488351232) (zn : Int) (wn : (Lit.int .i64 zn).wf = true) (za : Int) (wa : (Lit.int .i64 za).wf = true) (zb : Int) (wb : (Lit.int .i64 zb).wf = true) :
    Calls Try.prog 6 #[.slice a0 len cap, .int .i64 zn, .int .i64 za, .int .i64 zb] w fun e w' => e = .returned (.bool true) ∧ Below w.heap.size w w' := by
  have r1 := pickedOf_range zn 5 (by omega)
  have P1 := fun w => (picked_any zn 5 w wn (by omega) (by omega)).mono (fun _ _ h => (⟨h.1, h.2.symm⟩ : _ ∧ _ = w))
  obtain ⟨p, hp⟩ : ∃ p : Nat, pickedOf zn 5 = p := ⟨(pickedOf zn 5).toNat, by omega⟩
  rw [hp] at P1 r1
  have r2 := pickedOf_range za 5 (by omega)
  have P2 := fun w => (picked_any za 5 w wa (by omega) (by omega)).mono (fun _ _ h => (⟨h.1, h.2.symm⟩ : _ ∧ _ = w))
  obtain ⟨x, hx⟩ : ∃ p : Nat, pickedOf za 5 = p := ⟨(pickedOf za 5).toNat, by omega⟩
  rw [hx] at P2 r2
  have r3 := pickedOf_range zb ((x : Int) + 1) (by omega)
  have P3 := fun w => (picked_any zb ((x : Int) + 1) w wb (by omega) (by omega)).mono (fun _ _ h => (⟨h.1, h.2.symm⟩ : _ ∧ _ = w))
  obtain ⟨y, hy⟩ : ∃ p : Nat, pickedOf zb ((x : Int) + 1) = p := ⟨(pickedOf zb ((x : Int) + 1)).toNat, by omega⟩
  rw [hy] at P3 r3
  clear hp hx hy wn wa wb
  obtain ⟨M, hM⟩ : ∃ M : Nat, M = 1 + p := ⟨_, rfl⟩
  have hMi : (1 : Int) + (p : Int) = (M : Int) := by omega
  have HMi := veil hMi
  have HK : Hid (∀ z : Int, z = M → Calls Try.prog 16 #[.slice a0 len cap, .int .i64 z] w fun e w' => ∃ a1 c1, e = .returned (.slice a1 (min len 4) c1) ∧ RowK .i64 w' a1 (3 * (min len 4)) (ldFlat (kLds D M (min len 4))) ∧ (a1 = none → c1 = 0) ∧ Below w.heap.size w w') := veil fun z hz => by
    subst hz
    refine (keepLoads_any a0 len cap D M w hA (by omega) (by omega) (by omega)).mono ?_
    rintro e w' ⟨v, rfl, o, b⟩
    have hr := kLds_rise D M (by omega) (min len 4) (by omega)
    obtain ⟨a1, c1, rfl, r, _, _, h3, _⟩ := RowK.ofMany o (flat_wf M (by omega) _ hr.mem)
    rw [kLds_len] at r ⊢
    exact ⟨a1, c1, rfl, r, h3, b⟩
  have hr := kLds_rise D M (by omega) (min len 4) (by omega)
  have hln := kLds_len D M (min len 4)
  generalize kLds D M (min len 4) = L at *
  generalize min len 4 = n at *
  have HBx : Hid (∀ a1 c1 w1 (z : Int), z = M → RowK .i64 w1 a1 (3 * n) (ldFlat L) → (a1 = none → c1 = 0) → Calls Try.prog 11 #[.slice a1 n c1, .int .i64 z, .int .i64 x] w1 fun e w' => ∃ a2 c2, e = .returned (.tuple #[.slice a2 (plansF x (works L M) L).length c2, .int .i64 0]) ∧ RowK .i64 w' a2 (3 * (plansF x (works L M) L).length) (plFlat (plansF x (works L M) L)) ∧ Below w1.heap.size w1 w') := veil fun a1 c1 w1 z hz h hc => by subst hz; exact balance_row hln h hc (by omega) (by omega) (by omega) hr
  have HBy : Hid (∀ a1 c1 w1 (z : Int), z = M → RowK .i64 w1 a1 (3 * n) (ldFlat L) → (a1 = none → c1 = 0) → Calls Try.prog 11 #[.slice a1 n c1, .int .i64 z, .int .i64 y] w1 fun e w' => ∃ a2 c2, e = .returned (.tuple #[.slice a2 (plansF y (works L M) L).length c2, .int .i64 0]) ∧ RowK .i64 w' a2 (3 * (plansF y (works L M) L).length) (plFlat (plansF y (works L M) L)) ∧ Below w1.heap.size w1 w') := veil fun a1 c1 w1 z hz h hc => by subst hz; exact balance_row hln h hc (by omega) (by omega) (by omega) hr
  have HSp : Hid (∀ a1 c1 w1 (z : Int), z = M → RowK .i64 w1 a1 (3 * n) (ldFlat L) → Calls Try.prog 8 #[.slice a1 n c1, .int .i64 z] w1 fun e w' => e = .returned (.tuple #[.int .i64 (gapOf (works L M)), .int .i64 0]) ∧ Below w1.heap.size w1 w') := veil fun a1 c1 w1 z hz h => by subst hz; exact spread_row hln h (by omega) (by omega) hr
  have HBu : Hid (∀ a1 c1 w1 (z : Int), z = M → RowK .i64 w1 a1 (3 * n) (ldFlat L) → Calls Try.prog 17 #[.slice a1 n c1, .int .i64 z] w1 fun e w' => e = .returned (.bool (decide (0 < gapOf (works L M)))) ∧ Below w1.heap.size w1 w') := veil fun a1 c1 w1 z hz h => by
    subst hz
    have := busy_any M a1 c1 L w1 (by rw [hln]; exact h) (by omega) (by omega) hr
    rwa [hln] at this
  have hless : plansF y (works L M) L = (plansF x (works L M) L).take y := plansF_less x y _ _ (by omega)
  have hpl := plansF_len x (works L M) L
  have HG1 : Hid (M = 1 → ¬ 0 < gapOf (works L M)) := veil fun h => by subst h; exact gap_one L
  rw [hless] at HBy
  clear hless hr hA
  generalize plansF x (works L M) L = PM at *
  have hty : (PM.take y).length = min y PM.length := List.length_take
  have HPP := veil (fun i hi => plFlat_take PM y i hi)
  rw [hty] at HBy
  have HTL : Hid (∀ i, i < min y PM.length → 3 * i + 2 < 3 * y) := veil fun i hi => by omega
  generalize gapOf (works L M) = gp at *
  generalize ldFlat L = F at *
  generalize plFlat (PM.take y) = E1 at *
  generalize plFlat PM = E2 at *
  generalize PM.length = np at *
  clear hln hty
  obtain ⟨nq, hnq⟩ : ∃ q, q = min y np := ⟨_, rfl⟩
  rw [← hnq] at HBy HTL
  have hqy : nq ≤ y := by omega
  have hqn : nq ≤ np := by omega
  have hmin : (min (np : Int) (y : Int)) = (nq : Int) := by omega
  have Hnq := veil hnq
  clear hnq
  have hx5 : x < 5 := by omega
  have hM1 : 1 ≤ M := by omega
  have hM5 : M ≤ 5 := by omega
  have HM1 : Hid (M = 1 + p) := veil hM
  clear hM hMi
  go_enter Try.func6, Try.ntmps6
  go_upto_region 8 with (first
    | (go_at_call 15; first | (refine (P1 _).mono ?_; rintro _ w ⟨rfl, rfl⟩; clear P1) | (refine (P2 _).mono ?_; rintro _ w1 ⟨rfl, rfl⟩; clear P2) | (refine (P3 _).mono ?_; rintro _ w1 ⟨rfl, rfl⟩; clear P3))
    | (go_at_call 16; refine (unveil HK _ (by first | exact unveil HMi | (rw [IntKind.wrap_i64]; omega))).mono ?_; rintro _ w1 ⟨a1, c1, rfl, rL, hn1, b1⟩; have R1 := veil rL; have B1 := veil b1; clear rL b1 HK)
    | (go_at_call 11; first | (refine (unveil HBx a1 c1 w1 _ (by first | exact unveil HMi | (rw [IntKind.wrap_i64]; omega)) (unveil R1) hn1).mono ?_; rintro _ w2 ⟨a2, c2, rfl, r2, b2⟩; have R12 := veil ((unveil R1).below b2); have B2 := veil (Below.next (unveil B1) b2); have R2 := veil r2; clear r2 b2 HBx R1 B1) | (refine (unveil HBy a1 c1 w2 _ (by first | exact unveil HMi | (rw [IntKind.wrap_i64]; omega)) (unveil R12) hn1).mono ?_; rintro _ w3 ⟨a3, c3, rfl, r3, b3⟩; have R13 := veil ((unveil R12).below b3); have B3 := veil (Below.next (unveil B2) b3); have R23 := veil ((unveil R2).below b3); have R3 := veil r3; clear r3 b3 HBy R12 B2 R2))
    | (go_at_call 8; refine (unveil HSp a1 c1 w3 _ (by first | exact unveil HMi | (rw [IntKind.wrap_i64]; omega)) (unveil R13)).mono ?_; rintro _ w4 ⟨rfl, b4⟩; have R14 := veil ((unveil R13).below b4); have B4 := veil (Below.next (unveil B3) b4); have R24 := veil ((unveil R23).below b4); have R34 := veil ((unveil R3).below b4); clear b4 HSp R13 B3 R23 R3))
  have HBu1 := unveil HBu a1 c1 w4 _ (unveil HMi) (unveil R14)
  clear HBu
  go_cut [82] (fun v wx => v = .bool false ∧ Below w4.heap.size w4 wx)
  case first =>
    by_cases hp0 : 0 < p
    · cases hgp : decide (0 < gp) with
      | true =>
        rw [hgp] at HBu1
        go_wp2_with (go_at_call 17; refine HBu1.mono ?_; rintro _ w5 ⟨rfl, b5⟩; have B5 := veil b5; clear b5 HBu1)
        go_meet
        exact ⟨by first | rfl | simp, unveil B5⟩
      | false =>
        rw [hgp] at HBu1
        go_wp2_with (go_at_call 17; refine HBu1.mono ?_; rintro _ w5 ⟨rfl, b5⟩; have B5 := veil b5; clear b5 HBu1)
        go_meet
        exact ⟨by first | rfl | simp, unveil B5⟩
    · have hgp : decide (0 < gp) = false := decide_eq_false (by have := unveil HG1 (by have := unveil HM1; omega); omega)
      clear HBu1
      go_wp2
      go_meet
      exact ⟨by first | rfl | simp, Below.refl _ _⟩
  case rest =>
    obtain ⟨rfl, b5⟩ := hcut
    have B5 := veil (Below.next (unveil B4) b5)
    have R25 := veil ((unveil R24).below b5)
    have R35 := veil ((unveil R34).below b5)
    obtain ⟨W5, hW5⟩ : ∃ W5, W5 = wc := ⟨_, rfl⟩
    subst hW5
    clear b5 B4 R24 R34 R14 HBu1 HG1
    go_wp2
    go_loopw [19] (fun t wr => ∃ k : Nat, k ≤ nq ∧ t = .int .i64 k ∧ Below W5.heap.size W5 wr) (fun t _ => nq - (intOf t).toNat)
    case atStart => exact ⟨0, Nat.zero_le _, rfl, Below.refl _ _⟩
    case round =>
      obtain ⟨k, hk, rfl, bel⟩ := hrel
      by_cases hlt : k < nq
      · have rA := (unveil R35).below bel
        have rB := (unveil R25).below bel
        obtain ⟨b1, o1, rfl⟩ := rA.form (by omega)
        obtain ⟨b2, o2, rfl⟩ := rB.form (by omega)
        have e0 := unveil HPP (3 * k) (by omega)
        have e1 := unveil HPP (3 * k + 1) (by omega)
        have e2 := unveil HPP (3 * k + 2) (by omega)
        have x0 := rA.at (3 * k) (by omega)
        have x1 := rA.at (3 * k + 1) (by omega)
        have x2 := rA.at (3 * k + 2) (by omega)
        have y0 := rB.at (3 * k) (by omega)
        have y1 := rB.at (3 * k + 1) (by omega)
        have y2 := rB.at (3 * k + 2) (by omega)
        rw [e0] at x0
        rw [e1] at x1
        rw [e2] at x2
        rw [← Nat.add_assoc] at x1 x2 y1 y2
        rw [Nat.mul_comm 3 k] at x0 x1 x2 y0 y1 y2
        have BL := veil bel
        clear rA rB bel e0 e1 e2
        generalize E2.getD (k * 3) 0 = p0 at *
        generalize E2.getD (k * 3 + 1) 0 = p1 at *
        generalize E2.getD (k * 3 + 2) 0 = p2 at *
        go_wp2_with fail
        go_quiet (fail)
        go_wp2
        go_roundw
        case rel => exact ⟨k + 1, by omega, by go_num, below_n (unveil BL) _⟩
        case measure => simp [intOf]; omega
      · have BL := veil bel
        clear bel
        go_wp2
        go_ret
        exact ⟨rfl, Below.next (unveil B5) (unveil BL)⟩
end Go.Proofs.Ytmkbidglfnpgjaa
