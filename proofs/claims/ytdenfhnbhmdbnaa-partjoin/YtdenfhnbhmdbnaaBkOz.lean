/- The walk of berthshiftkeep.PartJoin. -/
import Derived.Test.YtdenfhnbhmdbnaaBkPrt
namespace Go.Proofs.Ytdenfhnbhmdbnaa
open Go.RowKit

set_option maxRecDepth 20000 in
set_option maxHeartbeats 4000000 in
theorem walk_PartJoin (w : World) (ep : Int) (wep : (Lit.int .i64 ep).wf = true) (a0 : Option Addr) (len cap : Nat) (D : List Int) (h : RowK .i64 w a0 (4 * len) D) (_ : len ≤ cap) (_ : cap ≤ maxLen) (_ : a0 = none → cap = 0) (sl : Bool) :
    Calls Try.prog 6 #[.int .i64 ep, .slice a0 len cap, .bool sl] w fun r w' => r = .returned (.bool true) ∧ Below w.heap.size w w' := by
  have HSv := kserved_any ep a0 len cap 40 D w h wep (by omega)
  clear h
  obtain ⟨i6, hi6, hz60, hz61, hz62⟩ := info_of Try.infoEvent
  go_enter Try.func6, Try.ntmps6
  go_upto_region 2 with (go_at_call 14; refine HSv.mono ?_; rintro x V1 ⟨E, es, s, ans, y, rfl, hist, hl, nb, hE1, hE2, ⟨⟨a, c, rfl, i1, u1⟩⟩, b1⟩; clear HSv)
  obtain ⟨W1, hW1, K1, _⟩ := Kb.new i1 (Below.refl _ _) b1
  rw [← hW1]
  obtain ⟨Rb, hR⟩ : ∃ R, R = V1.heap.size := ⟨_, rfl⟩
  rw [← hR] at K1 ⊢
  clear hW1 hR i1 u1 b1
  have ht := hist.tells
  have HH := veil hist
  have HNB := veil nb
  clear hist nb
  have HKb := veil K1
  clear K1
  have HC := go_act E es s ans a c W1 2 (unveil HKb).i ht (by omega) hE1 hE2 (by omega) (by omega)
  obtain ⟨xb0, xb1, xb2, xb3, xb4, xb5⟩ := (unveil HKb).b.cells
  have lb := (unveil HKb).b.lt
  go_upto_region 3 with (first | (go_at_call 15; refine HC.mono ?_; rintro x V3 ⟨a3, c3, rfl, i3, u3, b3⟩; clear HC xb0 xb1 xb2 xb3 xb4 xb5 lb; obtain ⟨xb0, xb1, xb2, xb3, xb4, xb5⟩ := ((unveil HKb).next b3).b.cells; have xf := ((unveil HKb).next b3).b.free))
  obtain ⟨W3, hW3, K3, t3⟩ := (unveil HKb).put (B' := (Bt.drn E 2 0 es)) i3 u3 b3
  rw [← hW3]
  clear hW3 xf xb0 xb1 xb2 xb3 xb4 xb5
  clear HKb
  have HKb := veil K3
  clear K3 i3 u3 b3 t3
  cases sl with
  | false =>
    go_upto_region 8 with fail
    obtain ⟨B, hB⟩ : ∃ B, B = Bt.drn E 2 0 es := ⟨_, rfl⟩
    have K1 := unveil HKb
    rw [← hB] at K1
    have ok : B.Ok := by rw [hB]; exact ht.drn_ok (by omega) hE1 (by omega) (by omega) (by omega) (by omega) (by omega)
    have hr : B.r = 2 ∨ B.r = 3 := by rw [hB]; exact .inl rfl
    have hse : ¬ B.r = 3 := by rw [hB]; show ¬ (2 : Int) = 3; decide
    have hl' : B.es.length ≤ 40 := by rw [hB]; exact hl
    clear hB ht hl HKb
    have hl := hl'
    clear hl'
    have HKb := veil K1
    clear K1
    obtain ⟨WB, hWB⟩ : ∃ WB, WB = W3 := ⟨_, rfl⟩
    rw [← hWB] at HKb ⊢
    obtain ⟨aB, haB⟩ : ∃ aB, aB = a3 := ⟨_, rfl⟩
    obtain ⟨cB, hcB⟩ : ∃ cB, cB = c3 := ⟨_, rfl⟩
    rw [← haB, ← hcB] at HKb
    clear haB hcB hWB
    obtain ⟨n, hn⟩ : ∃ n, B.es.length = n := ⟨_, rfl⟩
    have HN := veil hn
    have hn40 : n ≤ 40 := by omega
    have K0 := unveil HKb
    have hlen0 := K0.b.lt
    have HSE := veil hse
    clear HKb hse
    have hb5 : bBlock WB Rb B.r B.e B.f B.t B.o aB n cB := by have := K0.b; rw [hn] at this; exact this
    have HP : Hid (∀ (k : Nat) (W : World), Below WB.heap.size WB W → k ≤ n → Calls Try.prog 25 #[bVal B.r B.e B.f B.t B.o aB n cB, .int .i64 k] W fun x w' => ∃ a' c' n' l lt, x = .returned (.tuple #[.slice a' n' c', .bool lt, .int .i64 0]) ∧ Hid (n' = l.length ∧ l = (B.es.drop k).take 3 ∧ lt = decide (B.r = 3 ∧ n ≤ k + 3) ∧ PartOut W w' l a' c') ∧ Below W.heap.size W w') := veil fun k W bb hk => by
      have := bpart_any B aB cB k W (K0.i.next bb)
      rw [hn] at this
      refine this.mono ?_
      rintro x w' ⟨a', c', n', l, lt, er, rfl, e1, hp, po, b'⟩
      have hto : tellOf B k = 0 := by
        unfold tellOf
        rw [if_neg (fun h => h ok), if_neg (fun h => h hr), if_neg (fun h => h ⟨by omega, by rw [hn]; omega⟩)]
      unfold partOf at hp
      rw [if_neg (fun h => h hto)] at hp
      simp only [Int.toNat_natCast, Prod.mk.injEq] at hp
      obtain ⟨g1, g2, g3⟩ := hp
      subst g3
      exact ⟨a', c', n', l, lt, rfl, veil ⟨e1, g1.symm, by rw [← g2, hn], po⟩, b'⟩
    have HK0 := veil K0
    have HRR := veil hr
    clear K0 hr hn hl ok
    go_upto_region 9 with fail
    go_upto_region 10 with fail
    go_loopw [12, 13] (fun v i wr => ∃ (m k : Nat), m ≤ n + 1 ∧ i = .int .i64 m ∧ k = min (3 * m) n ∧ (0 < m → k < n) ∧ wr.ownsRow WB.heap.size 37 6 v k ((evFlat (B.es.take k)).map (Value.int .i64)) ∧ Below WB.heap.size WB wr) (fun _ i _ => n + 1 - (intOf i).toNat)
    case atStart => exact ⟨0, 0, by omega, rfl, by omega, fun h => absurd h (Nat.lt_irrefl _), by simpa [evFlat] using World.ownsRow_nil _ _ _ _, Below.refl _ _⟩
    case round =>
      obtain ⟨m, k, hm, rfl, hk, hkm, own, bel⟩ := hrel
      obtain ⟨av, cv, rfl⟩ := own_form own
      have HKM := veil (And.intro hk hkm)
      have hkn : k ≤ n := by omega
      by_cases hmn : m ≤ n
      case neg => exact absurd (hkm (by omega)) (by omega)
      case pos =>
      have hmn' : (m : Int) ≤ (n : Int) := by omega
      clear hk hkm
      have hP := unveil HP k wr bel hkn
      have kB := hb5.below bel hlen0
      obtain ⟨x0, x1, x2, x3, x4, x5⟩ := kB.cells
      have HO := veil own
      have HBel := veil bel
      clear own bel kB
      go_upto_region 13 with (go_at_call 25; refine hP.mono ?_; rintro x V5 ⟨a5, n5c, n5, l5, lt5, rfl, HPO, b5⟩; clear hP x0 x1 x2 x3 x4 x5)
      obtain ⟨q1, q2, q3, q4⟩ := unveil HPO
      have hl5 : n5 = min 3 (n - k) := by rw [q1, q2, List.length_take, List.length_drop, unveil HN]
      have hn53 : ¬ (3 : Int) < (n5 : Int) := by omega
      have hro : RowK .i64 V5 a5 (6 * n5) (evFlat l5) := by have := q4.row; rw [← q1] at this; exact this
      have hni := q4.nil
      have own5 := veil (own_still (unveil HO) (fun g _ hg => b5.block g hg))
      have HB5 := veil (Below.next (unveil HBel) b5)
      have HL5 := veil (And.intro hl5 (And.intro q2 q3))
      have hsz5 := (Below.next (unveil HBel) b5).size
      have HG : Hid (∀ w4, V5.grownBy w4 (Value.slice av k cv).ownBlock → Below WB.heap.size WB w4) := veil fun w4 gg => (unveil HB5).grown gg hsz5 (fun q hq => ((unveil own5).lt q hq).1)
      clear q1 q2 q3 q4 HPO HO HBel hl5 b5
      go_upto_region 16 with (at_builtin; refine wpList_append_rows rfl _ _ 25 rfl WB.heap.size 37 i6 _ 6 48 Try.underlying25 hi6 hz60 hz61 hz62 rfl (by decide) (.slice av k cv) k (evFlat (B.es.take k)) rfl (unveil own5) a5 n5 n5c (evFlat l5) rfl hro hni (by unfold maxLen; omega) (by omega) hsz5 ?_; intro v6 W6 o6 g6; have HO6 := veil o6; have HB6 := veil (unveil HG W6 g6); clear o6 g6)
      obtain ⟨k2, hk2⟩ : ∃ k2, k + n5 = k2 := ⟨_, rfl⟩
      have o6 := unveil HO6
      obtain ⟨d1, d2, d3⟩ := unveil HL5
      have hfl : evFlat (B.es.take k) ++ evFlat l5 = evFlat (B.es.take k2) := by
        rw [← evFlat_append, ← hk2, d1, List.take_add, d2]
        congr 2
        rcases Nat.lt_or_ge (n - k) 3 with h3 | h3
        · rw [Nat.min_eq_right (by omega), List.take_of_length_le (by rw [List.length_drop, unveil HN]; omega), List.take_of_length_le (by rw [List.length_drop, unveil HN]; omega)]
        · rw [Nat.min_eq_left h3]
      rw [hfl, hk2] at o6
      obtain ⟨a6, c6, rfl⟩ := own_form o6
      have hk2n : k2 = min (3 * (m + 1)) n := by
        obtain ⟨g1, g2⟩ := unveil HKM
        rcases Nat.eq_zero_or_pos m with h0 | h0 <;> omega
      have hlt5 : lt5 = (false && decide (k2 = n)) := by
        rw [d3]
        have hs := unveil HSE
        have : (n ≤ k + 3) ↔ k2 = n := by omega
        simp only [Bool.false_and, decide_eq_false_iff_not]; intro h; exact hs h.1
      have HX := veil hk2n
      have HO7 := veil o6
      have HLT := veil hlt5
      clear o6 hfl d1 d2 d3 HL5 HO6 own5 HB5 HG hk2n hlt5 hk2
      have kB := hb5.below (unveil HB6) hlen0
      obtain ⟨x0, x1, x2, x3, x4, x5⟩ := kB.cells
      clear kB
      by_cases hend : k2 = n
      · subst hend
        have hl5 : lt5 = false := by rw [unveil HLT, decide_eq_true rfl, Bool.and_true]
        subst hl5
        have row6 : RowK .i64 W6 a6 (6 * k2) (evFlat B.es) := by
          obtain ⟨aa, cc, e, rr, _⟩ := RowK.ofMany (unveil HO7) (fun u hu => by
            have hw := (unveil HK0).i.row.wf
            refine hw u ?_
            rw [← unveil HN, List.take_length] at hu
            exact hu)
          cases e
          rw [← unveil HN, List.take_length] at rr
          rw [← unveil HN]
          exact rr
        have rowB := (unveil HK0).i.row.below (unveil HB6)
        rw [unveil HN] at rowB
        have HSm := sameEventsK_below a6 aB k2 c6 cB (evFlat B.es) W6 row6 rowB (by omega)
        have e3 : (B.r == 3) = false := by
          have hs := unveil HSE
          simpa using hs
        have e1 : ((k2 : Int) == (k2 : Int)) = true := by simp
        clear row6 rowB HO7
        go_wp2_with (go_at_call 24; refine HSm.mono ?_; rintro x W9 ⟨rfl, b9⟩; have kB := (hb5.below (unveil HB6) hlen0).next b9; clear HSm x0 x1 x2 x3 x4 x5; obtain ⟨x0, x1, x2, x3, x4, x5⟩ := kB.cells; clear kB)
        go_ret
        exact ⟨by simp, Below.next (Below.next (unveil HK0).bel (unveil HB6)) b9⟩
      · have hl5 : lt5 = false := by rw [unveil HLT, decide_eq_false hend, Bool.and_false]
        subst hl5
        have e1 : ((k2 : Int) == (n : Int)) = false := by rw [int_beq, decide_eq_false hend]
        go_wp2
        refine ⟨⟨m + 1, k2, by omega, by go_num, unveil HX, fun _ => by have := unveil HX; omega, unveil HO7, unveil HB6⟩, by simp [intOf]; omega⟩
  | true =>
    go_upto_region 4 with fail
    have HC := caught_all E es s ans a3 c3 W3 2 0 (unveil HKb).i ht (by omega) hE1 hE2 (by omega) (by omega) (by omega) (by omega)
    obtain ⟨xb0, xb1, xb2, xb3, xb4, xb5⟩ := (unveil HKb).b.cells
    have lb := (unveil HKb).b.lt
    go_upto_region 5 with (first | (go_at_call 22; refine HC.mono ?_; rintro x V4 ⟨a4, c4, rfl, i4, u4, b4⟩; clear HC xb0 xb1 xb2 xb3 xb4 xb5 lb))
    have hfr : ∀ x, a4 = some x → 0 < es.length → x.block ≠ Rb := fun x hx _ => by have := u4 x hx; have := (unveil HKb).b.lt; omega
    obtain ⟨W4, hW4, K4, d4⟩ := Kb.new (B := (Bt.sld E 2 es)) i4 (unveil HKb).bel b4
    rw [← hW4]
    clear hW4
    have HKn := veil ((unveil HKb).next (Below.next b4 d4))
    clear HKb
    have HKb := HKn
    clear HKn
    obtain ⟨Rn, hR⟩ : ∃ R, R = V4.heap.size := ⟨_, rfl⟩
    rw [← hR] at K4 ⊢
    clear hR
    have HKn := veil K4
    clear K4 i4 u4 b4 d4
    obtain ⟨xn0, xn1, xn2, xn3, xn4, xn5⟩ := (unveil HKn).b.cells
    have ln := (unveil HKn).b.lt
    obtain ⟨xb0, xb1, xb2, xb3, xb4, xb5⟩ := (unveil HKb).b.cells
    have lb := (unveil HKb).b.lt
    have xbf := (unveil HKb).b.free
    go_upto_region 8 with fail
    clear xn0 xn1 xn2 xn3 xn4 xn5 ln xb0 xb1 xb2 xb3 xb4 xb5 lb
    obtain ⟨WB, hWB, kB, bB, tB⟩ := b_stored (unveil HKb).b (unveil HKb).bel (unveil HKb).up 3 E 0 2 0 a4 es.length c4
    rw [← hWB]
    obtain ⟨B, hB⟩ : ∃ B, B = Bt.sld E 2 es := ⟨_, rfl⟩
    have K1 : Kb w WB Rb (Bt.sld E 2 es) a4 c4 := ⟨kB, (unveil HKn).i.turned tB hfr, hfr, bB, (unveil HKb).up⟩
    have ok : B.Ok := by rw [hB]; exact ht.sld_ok (by omega) hE1 (by omega) (by omega) (by omega)
    have hr : B.r = 2 ∨ B.r = 3 := by rw [hB]; exact .inr rfl
    have hse : B.r = 3 := by rw [hB]
    have hl' : B.es.length ≤ 40 := by rw [hB]; exact hl
    rw [← hB] at K1
    clear hB ht hl HKb HKn kB bB tB hWB hfr xbf
    have hl := hl'
    clear hl'
    have HKb := veil K1
    clear K1
    obtain ⟨aB, haB⟩ : ∃ aB, aB = a4 := ⟨_, rfl⟩
    obtain ⟨cB, hcB⟩ : ∃ cB, cB = c4 := ⟨_, rfl⟩
    rw [← haB, ← hcB] at HKb
    clear haB hcB
    obtain ⟨n, hn⟩ : ∃ n, B.es.length = n := ⟨_, rfl⟩
    have HN := veil hn
    have hn40 : n ≤ 40 := by omega
    have K0 := unveil HKb
    have hlen0 := K0.b.lt
    have HSE := veil hse
    clear HKb hse
    have hb5 : bBlock WB Rb B.r B.e B.f B.t B.o aB n cB := by have := K0.b; rw [hn] at this; exact this
    have HP : Hid (∀ (k : Nat) (W : World), Below WB.heap.size WB W → k ≤ n → Calls Try.prog 25 #[bVal B.r B.e B.f B.t B.o aB n cB, .int .i64 k] W fun x w' => ∃ a' c' n' l lt, x = .returned (.tuple #[.slice a' n' c', .bool lt, .int .i64 0]) ∧ Hid (n' = l.length ∧ l = (B.es.drop k).take 3 ∧ lt = decide (B.r = 3 ∧ n ≤ k + 3) ∧ PartOut W w' l a' c') ∧ Below W.heap.size W w') := veil fun k W bb hk => by
      have := bpart_any B aB cB k W (K0.i.next bb)
      rw [hn] at this
      refine this.mono ?_
      rintro x w' ⟨a', c', n', l, lt, er, rfl, e1, hp, po, b'⟩
      have hto : tellOf B k = 0 := by
        unfold tellOf
        rw [if_neg (fun h => h ok), if_neg (fun h => h hr), if_neg (fun h => h ⟨by omega, by rw [hn]; omega⟩)]
      unfold partOf at hp
      rw [if_neg (fun h => h hto)] at hp
      simp only [Int.toNat_natCast, Prod.mk.injEq] at hp
      obtain ⟨g1, g2, g3⟩ := hp
      subst g3
      exact ⟨a', c', n', l, lt, rfl, veil ⟨e1, g1.symm, by rw [← g2, hn], po⟩, b'⟩
    have HK0 := veil K0
    have HRR := veil hr
    clear K0 hr hn hl ok
    go_upto_region 9 with fail
    go_upto_region 10 with fail
    go_loopw [12, 13] (fun v i wr => ∃ (m k : Nat), m ≤ n + 1 ∧ i = .int .i64 m ∧ k = min (3 * m) n ∧ (0 < m → k < n) ∧ wr.ownsRow WB.heap.size 37 6 v k ((evFlat (B.es.take k)).map (Value.int .i64)) ∧ Below WB.heap.size WB wr) (fun _ i _ => n + 1 - (intOf i).toNat)
    case atStart => exact ⟨0, 0, by omega, rfl, by omega, fun h => absurd h (Nat.lt_irrefl _), by simpa [evFlat] using World.ownsRow_nil _ _ _ _, Below.refl _ _⟩
    case round =>
      obtain ⟨m, k, hm, rfl, hk, hkm, own, bel⟩ := hrel
      obtain ⟨av, cv, rfl⟩ := own_form own
      have HKM := veil (And.intro hk hkm)
      have hkn : k ≤ n := by omega
      by_cases hmn : m ≤ n
      case neg => exact absurd (hkm (by omega)) (by omega)
      case pos =>
      have hmn' : (m : Int) ≤ (n : Int) := by omega
      clear hk hkm
      have hP := unveil HP k wr bel hkn
      have kB := hb5.below bel hlen0
      obtain ⟨x0, x1, x2, x3, x4, x5⟩ := kB.cells
      have HO := veil own
      have HBel := veil bel
      clear own bel kB
      go_upto_region 13 with (go_at_call 25; refine hP.mono ?_; rintro x V5 ⟨a5, n5c, n5, l5, lt5, rfl, HPO, b5⟩; clear hP x0 x1 x2 x3 x4 x5)
      obtain ⟨q1, q2, q3, q4⟩ := unveil HPO
      have hl5 : n5 = min 3 (n - k) := by rw [q1, q2, List.length_take, List.length_drop, unveil HN]
      have hn53 : ¬ (3 : Int) < (n5 : Int) := by omega
      have hro : RowK .i64 V5 a5 (6 * n5) (evFlat l5) := by have := q4.row; rw [← q1] at this; exact this
      have hni := q4.nil
      have own5 := veil (own_still (unveil HO) (fun g _ hg => b5.block g hg))
      have HB5 := veil (Below.next (unveil HBel) b5)
      have HL5 := veil (And.intro hl5 (And.intro q2 q3))
      have hsz5 := (Below.next (unveil HBel) b5).size
      have HG : Hid (∀ w4, V5.grownBy w4 (Value.slice av k cv).ownBlock → Below WB.heap.size WB w4) := veil fun w4 gg => (unveil HB5).grown gg hsz5 (fun q hq => ((unveil own5).lt q hq).1)
      clear q1 q2 q3 q4 HPO HO HBel hl5 b5
      go_upto_region 16 with (at_builtin; refine wpList_append_rows rfl _ _ 25 rfl WB.heap.size 37 i6 _ 6 48 Try.underlying25 hi6 hz60 hz61 hz62 rfl (by decide) (.slice av k cv) k (evFlat (B.es.take k)) rfl (unveil own5) a5 n5 n5c (evFlat l5) rfl hro hni (by unfold maxLen; omega) (by omega) hsz5 ?_; intro v6 W6 o6 g6; have HO6 := veil o6; have HB6 := veil (unveil HG W6 g6); clear o6 g6)
      obtain ⟨k2, hk2⟩ : ∃ k2, k + n5 = k2 := ⟨_, rfl⟩
      have o6 := unveil HO6
      obtain ⟨d1, d2, d3⟩ := unveil HL5
      have hfl : evFlat (B.es.take k) ++ evFlat l5 = evFlat (B.es.take k2) := by
        rw [← evFlat_append, ← hk2, d1, List.take_add, d2]
        congr 2
        rcases Nat.lt_or_ge (n - k) 3 with h3 | h3
        · rw [Nat.min_eq_right (by omega), List.take_of_length_le (by rw [List.length_drop, unveil HN]; omega), List.take_of_length_le (by rw [List.length_drop, unveil HN]; omega)]
        · rw [Nat.min_eq_left h3]
      rw [hfl, hk2] at o6
      obtain ⟨a6, c6, rfl⟩ := own_form o6
      have hk2n : k2 = min (3 * (m + 1)) n := by
        obtain ⟨g1, g2⟩ := unveil HKM
        rcases Nat.eq_zero_or_pos m with h0 | h0 <;> omega
      have hlt5 : lt5 = (true && decide (k2 = n)) := by
        rw [d3]
        have hs := unveil HSE
        have : (n ≤ k + 3) ↔ k2 = n := by omega
        simp only [Bool.true_and, decide_eq_decide]; rw [this]; exact ⟨fun h => h.2, fun h => ⟨hs, h⟩⟩
      have HX := veil hk2n
      have HO7 := veil o6
      have HLT := veil hlt5
      clear o6 hfl d1 d2 d3 HL5 HO6 own5 HB5 HG hk2n hlt5 hk2
      have kB := hb5.below (unveil HB6) hlen0
      obtain ⟨x0, x1, x2, x3, x4, x5⟩ := kB.cells
      clear kB
      by_cases hend : k2 = n
      · subst hend
        have hl5 : lt5 = true := by rw [unveil HLT, decide_eq_true rfl, Bool.and_true]
        subst hl5
        have row6 : RowK .i64 W6 a6 (6 * k2) (evFlat B.es) := by
          obtain ⟨aa, cc, e, rr, _⟩ := RowK.ofMany (unveil HO7) (fun u hu => by
            have hw := (unveil HK0).i.row.wf
            refine hw u ?_
            rw [← unveil HN, List.take_length] at hu
            exact hu)
          cases e
          rw [← unveil HN, List.take_length] at rr
          rw [← unveil HN]
          exact rr
        have rowB := (unveil HK0).i.row.below (unveil HB6)
        rw [unveil HN] at rowB
        have HSm := sameEventsK_below a6 aB k2 c6 cB (evFlat B.es) W6 row6 rowB (by omega)
        have e3 : (B.r == 3) = true := by
          have hs := unveil HSE
          rw [hs]; rfl
        have e1 : ((k2 : Int) == (k2 : Int)) = true := by simp
        clear row6 rowB HO7
        go_wp2_with (go_at_call 24; refine HSm.mono ?_; rintro x W9 ⟨rfl, b9⟩; have kB := (hb5.below (unveil HB6) hlen0).next b9; clear HSm x0 x1 x2 x3 x4 x5; obtain ⟨x0, x1, x2, x3, x4, x5⟩ := kB.cells; clear kB)
        go_ret
        exact ⟨by simp, Below.next (Below.next (unveil HK0).bel (unveil HB6)) b9⟩
      · have hl5 : lt5 = false := by rw [unveil HLT, decide_eq_false hend, Bool.and_false]
        subst hl5
        have e1 : ((k2 : Int) == (n : Int)) = false := by rw [int_beq, decide_eq_false hend]
        go_wp2
        refine ⟨⟨m + 1, k2, by omega, by go_num, unveil HX, fun _ => by have := unveil HX; omega, unveil HO7, unveil HB6⟩, by simp [intOf]; omega⟩
end Go.Proofs.Ytdenfhnbhmdbnaa
