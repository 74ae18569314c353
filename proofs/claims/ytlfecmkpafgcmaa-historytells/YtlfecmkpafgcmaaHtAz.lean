/- The walk of berthshiftkeep.HistoryTells. -/
import Derived.Test.YtlfecmkpafgcmaaHsQ
import Derived.Test.YtlfecmkpafgcmaaHsFG
import Derived.Test.YtlfecmkpafgcmaaQaD
import Derived.Deep.QuietTactic
import Derived.BigQuiet
namespace Go.Proofs.Ytlfecmkpafgcmaa
open Go.RowKit

set_option maxRecDepth 20000 in
set_option maxHeartbeats 8000000 in
theorem walk_HistoryTells (w : World) (a : Option Addr) (len cap : Nat) (D : List Int) (h : RowK .i64 w a (4 * len) D) (_ : len ≤ cap) (_ : cap ≤ maxLen) (_ : a = none → cap = 0) :
    Calls Try.prog 4 #[.slice a len cap] w fun r w' => r = .returned (.bool true) ∧ Below w.heap.size w w' := by
  have HP := played_any a len cap 60 D w h (by omega)
  have HRow : Hid (∀ W, Below w.heap.size w W → RowK .i64 W a (4 * len) D) := veil fun W b => h.below b
  have hDw := veil h.wf
  clear h
  go_enter Try.func4, Try.ntmps4
  go_upto_region 2 with (first
    | (go_at_call 10; refine HP.mono ?_; rintro r W1 ⟨s, es, ans, x, ve, va, rfl, hist, hl, _, hfst, ⟨⟨a1, c1, a2, c2, ws, rfl, r1, r2, l1, l2, n1, n2, hW, f1, f2⟩⟩, oe, oa, B1⟩; have HH := veil hist; have HFst := veil hfst; obtain ⟨ae, ce, rfl, re, hce, _, hne, _⟩ := RowK.ofMany oe (evFlat_wf fun v hv => (hist.like v hv).ok); obtain ⟨aw, cw, rfl, rw', _⟩ := RowK.ofMany oa hist.tells.an_wf; clear hist oe oa f1 f2 HP hfst)
    | (refine q_alloc 3 rfl rfl rfl ?_; intro W2 z2 b2)
    | (refine q_store (ra := a1) (la := a2) (ws' := ws) _ _ rfl rfl rfl rfl z2 hW ?_; intro W3 q3 t3; obtain ⟨X3, b3, B3⟩ := boxed r1 r2 n1 n2 hW B1 b2 t3 q3; have HX3 := veil X3; have HB3 := veil B3; have HE3 := veil (re.below b3); have HA3 := veil (rw'.below b3); clear z2 b2 q3 t3 r1 r2 n1 n2 B1 b3 X3 B3 re rw'))
  have HRp := veil (replay_all es ae ce W3 (unveil HE3))
  have htl := (unveil HH).tells
  have hel := htl.len
  go_upto_region 3 with (first
    | (go_at_call 11; refine (unveil HRp).mono ?_; rintro e W4 ⟨x, er, s4, rfl, rv, ⟨⟨p1, d1, p2, d2, vs, rfl, t1, t2, _, _, m1, m2, hV, _, _⟩⟩, b4⟩; obtain ⟨rfl, rfl⟩ := rv.one (.told ans (by omega) htl); clear HRp rv)
    | (refine q_alloc 7 rfl rfl rfl ?_; intro W5 z5 b5)
    | (refine q_store (ra := p1) (la := p2) (ws' := vs) _ _ rfl rfl rfl rfl z5 hV ?_; intro W6 q6 t6; have X6 : Bx W6 W4.heap.size s4 p1 d1 p2 d2 vs := ⟨q6, t6.row (t1.below b5) (fun x hx h0 => by have := t1.blk_lt x hx h0; omega), t6.row (t2.below b5) (fun x hx h0 => by have := t2.blk_lt x hx h0; omega), m1, m2, hV⟩; have b6 := t6.under b5 (Nat.le_refl _); have B6 := Below.next b4 b6; have HX6 := veil X6; have X36 := (unveil HX3).next B6; have HX36 := veil X36; have HE6 := veil ((unveil HE3).below B6); have HA6 := veil ((unveil HA3).below B6); have HB6 := veil (Below.next (unveil HB3) B6); clear z5 b5 q6 t6 X6 b6 B6 X36 t1 t2 b4 HX3 HE3 HA3 HB3))
  have HAn := veil (answers_any es ae ce W6 (unveil HE6))
  go_upto_region 4 with (go_at_call 6; refine (unveil HAn).mono ?_; rintro e W7 ⟨vb, er, rfl, av, b7⟩; have HAv := veil av; have HX7 := veil ((unveil HX6).next b7); have HX37 := veil ((unveil HX36).next b7); have HA7 := veil ((unveil HA6).below b7); have HB7 := veil (Below.next (unveil HB6) b7); clear HAn av HX6 HX36 HA6 HB6 HE6 b7)
  have hav : er = 0 ∧ ∃ ag cg, vb = .slice ag ans.length cg ∧ RowK .i64 W7 ag (4 * ans.length) (anFlat ans) := by
    cases unveil HAv with
    | bad h0 rv => exact absurd (rv.one (.told ans (by omega) htl)).2 h0
    | told ans' h0 ht own =>
      obtain ⟨_, rfl⟩ := ht.one htl
      obtain ⟨ag, cg, rfl, rg, _⟩ := RowK.ofMany own htl.an_wf
      exact ⟨rfl, ag, cg, rfl, rg⟩
  obtain ⟨rfl, ag, cg, rfl, rg⟩ := hav
  have HG7 := veil rg
  have hsz := htl.wf.ok.count.sz
  have HSQ := veil (sameQueue_yes s4 p1 d1 p2 d2 vs a1 c1 a2 c2 ws W7 (unveil HX7).r1 (unveil HX7).r2 (unveil HX37).r1 (unveil HX37).r2 (unveil HX7).wins (unveil HX37).wins hsz)
  have q7 := (unveil HX7).q
  have q37 := (unveil HX37).q
  have hbe : ((ans.length : Int) != (ans.length : Int)) = false := by simp
  clear HAv rg htl
  go_upto_region 6 with (first
    | (refine q_loads _ rfl rfl rfl q7 ?_)
    | (refine q_loads _ rfl rfl rfl q37 ?_)
    | (go_at_call 12; refine (unveil HSQ).mono ?_; rintro r W8 ⟨rfl, b8⟩; have HA8 := veil ((unveil HA7).below b8); have HG8 := veil ((unveil HG7).below b8); have HB8 := veil (Below.next (unveil HB7) b8); clear HSQ q7 q37 b8))
  have hnone : ∃ (b1 b2 : Bool), True := ⟨true, true, trivial⟩
  obtain ⟨x0, hx0⟩ : ∃ x, x = D.getD 0 0 := ⟨_, rfl⟩
  have hPk := fun W => picked_any x0 8 W (by rw [hx0]; exact getD_fits D (unveil hDw) _) (by decide) (by decide)
  have HX0 := veil hx0
  have hcase : len = 0 ∨ (0 < len ∧ ¬ pickedOf x0 8 ≤ 2) ∨ (0 < len ∧ pickedOf x0 8 ≤ 2 ∧ 0 < es.length) := by
    rcases Nat.eq_zero_or_pos len with h0 | h0
    · exact .inl h0
    · by_cases h1 : pickedOf x0 8 ≤ 2
      · exact .inr (.inr ⟨h0, h1, by have := (unveil HFst h0 (by decide) (by rw [← hx0]; exact h1)).1; exact List.length_pos_iff.2 this⟩)
      · exact .inr (.inl ⟨h0, h1⟩)
  have hcell : 0 < len → ∃ b off, a = some ⟨b, off, none⟩ ∧ W8.cell? ⟨b, off, none⟩ = some (.int .i64 x0) := fun h0 => by
    have r := unveil HRow W8 (unveil HB8)
    obtain ⟨b, off, rfl⟩ := r.form (by omega)
    exact ⟨b, off, rfl, by rw [hx0]; exact r.at 0 (by omega)⟩
  clear hx0 hnone hbe
  have hgo : Hid True := veil trivial
  rcases hcase with h0 | ⟨h0, h1⟩ | ⟨h0, h1, h2⟩
  case inl =>
    subst h0
    clear hcell hPk
    go_upto_region 9 with fail
    go_loopw [11] (fun t wr => ∃ k m : Nat, k ≤ ans.length ∧ t = .int .i64 k ∧ wr = W8.drewN m) (fun t _ => ans.length - (intOf t).toNat)
    case atStart => exact ⟨0, 0, Nat.zero_le _, rfl, rfl⟩
    case round =>
      obtain ⟨k, m, hk, rfl, rfl⟩ := hrel
      have hk' : k = ans.length := by omega
      subst hk'
      go_wp2
      go_ret
      exact ⟨rfl, Below.next (unveil HB8) (belowN _ _)⟩
  case inr.inl =>
    obtain ⟨b, off, rfl, k0⟩ := hcell h0
    generalize pickedOf x0 8 = pk at hPk h1
    go_upto_region 8 with (go_at_call 13; refine (hPk _).mono ?_; rintro r w1 ⟨rfl, rfl⟩)
    clear hPk k0
    go_upto_region 9 with fail
    go_loopw [11] (fun t wr => ∃ k m : Nat, k ≤ ans.length ∧ t = .int .i64 k ∧ wr = W8.drewN m) (fun t _ => ans.length - (intOf t).toNat)
    case atStart => exact ⟨0, 0, Nat.zero_le _, rfl, rfl⟩
    case round =>
      obtain ⟨k, m, hk, rfl, rfl⟩ := hrel
      have hx := unveil HA8
      have hy := unveil HG8
      by_cases hlt : k < ans.length
      · obtain ⟨bx, ox, rfl⟩ := hx.form (by omega)
        obtain ⟨by', oy, rfl⟩ := hy.form (by omega)
        obtain ⟨m0, m1, m2, m3⟩ := hx.four k hlt
        obtain ⟨n0, n1, n2, n3⟩ := hy.four k hlt
        generalize (anFlat ans).getD (4 * k) 0 = y0 at m0 n0
        generalize (anFlat ans).getD (4 * k + 1) 0 = y1 at m1 n1
        generalize (anFlat ans).getD (4 * k + 2) 0 = y2 at m2 n2
        generalize (anFlat ans).getD (4 * k + 3) 0 = y3 at m3 n3
        clear hx hy
        have hki : (k : Int) < (ans.length : Int) := by omega
        go_wp2_with fail
        go_quiet (fail)
        clear m0 m1 m2 m3 n0 n1 n2 n3
        go_wp2
        go_roundw
        case rel => exact ⟨k + 1, m + nq, by omega, by go_num, by first | exact (World.drewN_add _ _ _).symm | exact World.drewN_add _ _ _ | exact World.drewN_drewN _ _ _ | rfl | simp⟩
        case measure => simp [intOf]; omega
      · have hk' : k = ans.length := by omega
        subst hk'
        clear hx hy
        go_wp2
        go_ret
        exact ⟨rfl, Below.next (unveil HB8) (belowN _ _)⟩
  case inr.inr =>
    obtain ⟨b, off, rfl, k0⟩ := hcell h0
    have hbe0 : ((es.length : Int) == 0) = false := by simp only [beq_eq_false_iff_ne, ne_eq]; omega
    generalize pickedOf x0 8 = pk at hPk h1
    go_upto_region 8 with (go_at_call 13; refine (hPk _).mono ?_; rintro r w1 ⟨rfl, rfl⟩)
    clear hPk k0
    go_upto_region 9 with fail
    go_loopw [11] (fun t wr => ∃ k m : Nat, k ≤ ans.length ∧ t = .int .i64 k ∧ wr = W8.drewN m) (fun t _ => ans.length - (intOf t).toNat)
    case atStart => exact ⟨0, 0, Nat.zero_le _, rfl, rfl⟩
    case round =>
      obtain ⟨k, m, hk, rfl, rfl⟩ := hrel
      have hx := unveil HA8
      have hy := unveil HG8
      by_cases hlt : k < ans.length
      · obtain ⟨bx, ox, rfl⟩ := hx.form (by omega)
        obtain ⟨by', oy, rfl⟩ := hy.form (by omega)
        obtain ⟨m0, m1, m2, m3⟩ := hx.four k hlt
        obtain ⟨n0, n1, n2, n3⟩ := hy.four k hlt
        generalize (anFlat ans).getD (4 * k) 0 = y0 at m0 n0
        generalize (anFlat ans).getD (4 * k + 1) 0 = y1 at m1 n1
        generalize (anFlat ans).getD (4 * k + 2) 0 = y2 at m2 n2
        generalize (anFlat ans).getD (4 * k + 3) 0 = y3 at m3 n3
        clear hx hy
        have hki : (k : Int) < (ans.length : Int) := by omega
        go_wp2_with fail
        go_quiet (fail)
        clear m0 m1 m2 m3 n0 n1 n2 n3
        go_wp2
        go_roundw
        case rel => exact ⟨k + 1, m + nq, by omega, by go_num, by first | exact (World.drewN_add _ _ _).symm | exact World.drewN_add _ _ _ | exact World.drewN_drewN _ _ _ | rfl | simp⟩
        case measure => simp [intOf]; omega
      · have hk' : k = ans.length := by omega
        subst hk'
        clear hx hy
        go_wp2
        go_ret
        exact ⟨rfl, Below.next (unveil HB8) (belowN _ _)⟩
end Go.Proofs.Ytlfecmkpafgcmaa
