/- The walk of berthshiftkeep.MoveRounds. -/
import Derived.Test.YtdenfhnbhmdbnaaBkAll
namespace Go.Proofs.Ytdenfhnbhmdbnaa
open Go.RowKit

set_option maxRecDepth 20000 in
set_option maxHeartbeats 4000000 in
theorem walk_MoveRounds (w : World) (ep : Int) (wep : (Lit.int .i64 ep).wf = true) (a0 : Option Addr) (len cap : Nat) (D : List Int) (h : RowK .i64 w a0 (4 * len) D) (_ : len ≤ cap) (_ : cap ≤ maxLen) (_ : a0 = none → cap = 0) (ah : Option Addr) (hlen hcap : Nat) (L : List Int) (hH : RowK .i64 w ah hlen L) (_ : hlen ≤ hcap) (_ : ah = none → hcap = 0) (_ : hcap * 8 ≤ 140737488351232) :
    Calls Try.prog 5 #[.int .i64 ep, .slice a0 len cap, .slice ah hlen hcap] w fun r w' => r = .returned (.bool true) ∧ Below w.heap.size w w' := by
  have HSv := kserved_any ep a0 len cap 30 D w h wep (by omega)
  clear h
  go_enter Try.func5, Try.ntmps5
  go_upto_region 2 with (go_at_call 14; refine HSv.mono ?_; rintro x V1 ⟨E, es, s, ans, y, rfl, hist, hl, nb, hE1, hE2, ⟨⟨a, c, rfl, i1, u1⟩⟩, b1⟩; clear HSv)
  obtain ⟨W1, hW1, K1, _⟩ := Kb.new i1 (Below.refl _ _) b1
  rw [← hW1]
  obtain ⟨Rb, hR⟩ : ∃ R, R = V1.heap.size := ⟨_, rfl⟩
  rw [← hR] at K1 ⊢
  clear hW1 hR i1 u1 b1
  have ht := hist.tells
  have HH := veil hist
  have HNB := veil nb
  clear hist nb
  have HKb := veil K1
  clear K1
  have HC := go_act E es s ans a c W1 2 (unveil HKb).i ht (by omega) hE1 hE2 (by omega) (by omega)
  obtain ⟨xb0, xb1, xb2, xb3, xb4, xb5⟩ := (unveil HKb).b.cells
  have lb := (unveil HKb).b.lt
  go_upto_region 3 with (first | (go_at_call 15; refine HC.mono ?_; rintro x V3 ⟨a3, c3, rfl, i3, u3, b3⟩; clear HC xb0 xb1 xb2 xb3 xb4 xb5 lb; obtain ⟨xb0, xb1, xb2, xb3, xb4, xb5⟩ := ((unveil HKb).next b3).b.cells; have xf := ((unveil HKb).next b3).b.free))
  obtain ⟨W3, hW3, K3, t3⟩ := (unveil HKb).put (B' := (Bt.drn E 2 0 es)) i3 u3 b3
  rw [← hW3]
  clear hW3 xf xb0 xb1 xb2 xb3 xb4 xb5
  clear HKb
  have HKb := veil K3
  clear K3 i3 u3 b3 t3
  go_upto_region 5 with fail
  have K0 := unveil HKb
  clear HKb
  go_upto_region 6 with fail
  go_loopw [10] (fun i wr => ∃ (m : Nat) (B : Bt) (a : Option Addr) (c : Nat), m ≤ 5 ∧ i = .int .i64 m ∧ Kb w wr Rb B a c ∧ Hid ((B = Bt.drn E 2 m es ∧ m ≤ 4) ∨ (B = Bt.sld E 2 es ∧ 0 < m))) (fun i _ => 5 - (intOf i).toNat)
  case atStart => exact ⟨0, _, a3, c3, by omega, rfl, K0, veil (.inl ⟨rfl, by omega⟩)⟩
  case round =>
    obtain ⟨m, B, aB, cB, hm5, rfl, KB, HI⟩ := hrel
    clear K0
    rcases unveil HI with ⟨rfl, hm4⟩ | ⟨rfl, hm0⟩
    case inr =>
      clear HI
      obtain ⟨x0, x1, x2, x3, x4, x5⟩ := KB.b.cells
      have HKB := veil KB
      clear KB
      by_cases h5 : m ≤ 4
      · go_wp2
        go_ret
        exact ⟨by simp <;> omega, (unveil HKB).bel⟩
      · go_wp2
        go_ret
        exact ⟨by simp, (unveil HKB).bel⟩
    case inl =>
    clear HI
    have hm4' : (m : Int) ≤ 4 := by omega
    obtain ⟨x0, x1, x2, x3, x4, x5⟩ := KB.b.cells
    have HKB := veil KB
    clear KB
    go_upto_region 11 with fail
    have ok := ht.drn_ok (E := E) (t := 2) (o := (m : Int)) (by omega) hE1 (by omega) (by omega) (by omega) (by omega) hm4'
    have hw1 : IntKind.i64.wrap ((es.length : Int) + 1) = (es.length : Int) + 1 := by rw [IntKind.wrap_i64]; omega
    have hwm : IntKind.i64.wrap ((m : Int) + 1) = (m : Int) + 1 := by rw [IntKind.wrap_i64]; omega
    by_cases hin : m < hlen
    · have hrow := (hH.below (unveil HKB).bel)
      obtain ⟨g, off, rfl⟩ := hH.form (by omega)
      have hz := hrow.at m hin
      obtain ⟨z, hzz⟩ : ∃ z, z = L.getD m 0 := ⟨_, rfl⟩
      rw [← hzz] at hz
      have wz : (Lit.int .i64 z).wf = true := by rw [hzz]; exact getD_fits L hH.wf _
      clear hzz hrow
      have p0 := pickedOf_range z ((es.length : Int) + 1) (by omega)
      have Pp : ∀ w, Calls Try.prog 16 #[.int .i64 z, .int .i64 ((es.length : Int) + 1)] w fun e w' => e = .returned (.int .i64 (pickedOf z ((es.length : Int) + 1))) ∧ w' = w := fun w => (picked_any z ((es.length : Int) + 1) w wz (by omega) (by omega)).mono fun _ _ h => ⟨h.1, h.2.symm⟩
      generalize pickedOf z ((es.length : Int) + 1) = p at p0 Pp
      go_upto_region 12 with fail
      go_quiet (first | (go_at_call 16; refine Calls.quiet_of_same (Pp _)))
      clear hz Pp x0 x1 x2 x3 x4 x5
      obtain ⟨W6, hW6⟩ : ∃ W6, W6 = wr.drewN nq := ⟨_, rfl⟩
      have bq := belowN wr nq
      rw [← hW6] at bq ⊢
      have HKn := veil ((unveil HKB).next bq)
      clear HKB hW6 bq
      have HKB := HKn
      clear HKn
      go_upto_region 13 with fail
      obtain ⟨B2, hB2⟩ : ∃ B2 : Bt, (B2 = Bt.sld E 2 es ∨ (B2 = Bt.drn E 2 ((m : Int) + 1) es ∧ m < 4)) ∧ caughtOf (Bt.drn E 2 m es) p = (B2, 0) := by
        have hto : tellOf (Bt.drn E 2 m es) p = 0 := by
          unfold tellOf
          rw [if_neg (fun h => h ok), if_neg (fun h => h (.inl rfl)), if_neg (fun h => h ⟨by omega, by show p ≤ (es.length : Int); omega⟩)]
        unfold caughtOf
        rw [if_neg (fun h => h hto), if_neg (by show ¬ (2 : Int) = 3; omega)]
        by_cases hc : (p : Int) = (es.length : Int) ∨ (m : Int) = 4
        · rw [if_pos hc]; exact ⟨_, .inl rfl, rfl⟩
        · rw [if_neg hc]; exact ⟨_, .inr ⟨rfl, by omega⟩, rfl⟩
      obtain ⟨hB2, hcg⟩ := hB2
      have HB2 := veil hB2
      have he2 : B2.es = es := by rcases hB2 with h | ⟨h, _⟩ <;> rw [h]
      have HE2 := veil he2
      clear hB2 he2
      have HC := bt_out (bcaught_any (Bt.drn E 2 m es) aB cB p W6 (unveil HKB).i) (B2 := B2) (er2 := 0) hcg
      clear hcg
      obtain ⟨x0, x1, x2, x3, x4, x5⟩ := (unveil HKB).b.cells
      go_upto_region 14 with (first | (go_at_call 22; refine HC.mono ?_; rintro x V9 ⟨a9, c9, rfl, i9, u9, b9⟩; clear HC x0 x1 x2 x3 x4 x5))
      obtain ⟨W9, hW9, K9, d9⟩ := Kb.new (B := B2) i9 (unveil HKB).bel b9
      rw [← hW9]
      have hlb := (unveil HKB).b.lt
      have hlv := b9.size
      have hf9 : ∀ x, a9 = some x → 0 < B2.es.length → x.block ≠ Rb := fun x hx _ => by have := u9 x hx; omega
      have HKn := veil (((unveil HKB).next b9).next d9)
      clear HKB
      have HKB := HKn
      clear HKn hW9 i9 u9 b9 d9
      obtain ⟨Rn, hRn⟩ : ∃ R, R = V9.heap.size := ⟨_, rfl⟩
      have hRbn : Rb ≠ Rn := by omega
      rw [← hRn] at K9 ⊢
      clear hRn hlb hlv
      have he2 := unveil HE2
      have hrw := K9.i.row
      rw [he2] at hrw
      have HSm : Hid (∀ W, Below W9.heap.size W9 W → Calls Try.prog 24 #[.slice a9 es.length c9, .slice aB es.length cB] W fun e w' => e = .returned (.bool true) ∧ Below W.heap.size W w') := veil fun W b => sameEventsK_below a9 aB es.length c9 cB (evFlat es) W (hrw.below b) ((unveil HKB).i.row.below b) (by omega)
      have hSm := unveil HSm W9 (Below.refl _ _)
      have hen : B2.es.length = es.length := by rw [he2]
      clear HSm hrw
      obtain ⟨x0, x1, x2, x3, x4, x5⟩ := (unveil HKB).b.cells
      obtain ⟨y0, y1, y2, y3, y4, y5⟩ := K9.b.cells
      rw [hen] at y5
      have HK9 := veil K9
      have HEN := veil (And.intro hen he2)
      clear K9 hen he2
      have hrole : ((B2.r == 2) = false) ∨ ((B2.r == 2) = true ∧ (B2.o != (m : Int) + 1) = false) := by
        rcases unveil HB2 with h | ⟨h, _⟩
        · left; rw [h]; rfl
        · right; rw [h]; exact ⟨rfl, by simp⟩
      rcases hrole with e1 | ⟨e1, e2⟩
      all_goals
        go_upto_region 16 with (go_at_call 24; refine hSm.mono ?_; rintro x W10 ⟨rfl, b10⟩; clear hSm x0 x1 x2 x3 x4 x5 y0 y1 y2 y3 y4 y5)
        have KB := (unveil HKB).next b10
        have KN := (unveil HK9).next b10
        obtain ⟨x0, x1, x2, x3, x4, x5⟩ := KB.b.cells
        have xf := KB.b.free
        obtain ⟨y0, y1, y2, y3, y4, y5⟩ := KN.b.cells
        have HKB2 := veil KB
        have HKN2 := veil KN
        clear KB KN
        go_wp2
        obtain ⟨W11, hW11, k11, b11, t11⟩ := b_stored (unveil HKB2).b (unveil HKB2).bel (unveil HKB2).up B2.r B2.e B2.f B2.t B2.o a9 B2.es.length c9
        rw [← hW11]
        have K11 : Kb w W11 Rb B2 a9 c9 := ⟨k11, (unveil HKN2).i.turned t11 hf9, hf9, b11, (unveil HKB2).up⟩
        refine ⟨⟨m + 1, B2, a9, c9, by omega, by go_num, K11, veil ?_⟩, by simp [intOf]; omega⟩
        rcases unveil HB2 with h | ⟨h, h4⟩
        · exact .inr ⟨h, by omega⟩
        · exact .inl ⟨by rw [h]; push_cast; rfl, by omega⟩
    · go_upto_region 13 with fail
      clear x0 x1 x2 x3 x4 x5
      obtain ⟨B2, hB2⟩ : ∃ B2 : Bt, (B2 = Bt.sld E 2 es ∨ (B2 = Bt.drn E 2 ((m : Int) + 1) es ∧ m < 4)) ∧ caughtOf (Bt.drn E 2 m es) 0 = (B2, 0) := by
        have hto : tellOf (Bt.drn E 2 m es) 0 = 0 := by
          unfold tellOf
          rw [if_neg (fun h => h ok), if_neg (fun h => h (.inl rfl)), if_neg (fun h => h ⟨by omega, by show 0 ≤ (es.length : Int); omega⟩)]
        unfold caughtOf
        rw [if_neg (fun h => h hto), if_neg (by show ¬ (2 : Int) = 3; omega)]
        by_cases hc : (0 : Int) = (es.length : Int) ∨ (m : Int) = 4
        · rw [if_pos hc]; exact ⟨_, .inl rfl, rfl⟩
        · rw [if_neg hc]; exact ⟨_, .inr ⟨rfl, by omega⟩, rfl⟩
      obtain ⟨hB2, hcg⟩ := hB2
      have HB2 := veil hB2
      have he2 : B2.es = es := by rcases hB2 with h | ⟨h, _⟩ <;> rw [h]
      have HE2 := veil he2
      clear hB2 he2
      have HC := bt_out (bcaught_any (Bt.drn E 2 m es) aB cB 0 wr (unveil HKB).i) (B2 := B2) (er2 := 0) hcg
      clear hcg
      obtain ⟨x0, x1, x2, x3, x4, x5⟩ := (unveil HKB).b.cells
      go_upto_region 14 with (first | (go_at_call 22; refine HC.mono ?_; rintro x V9 ⟨a9, c9, rfl, i9, u9, b9⟩; clear HC x0 x1 x2 x3 x4 x5))
      obtain ⟨W9, hW9, K9, d9⟩ := Kb.new (B := B2) i9 (unveil HKB).bel b9
      rw [← hW9]
      have hlb := (unveil HKB).b.lt
      have hlv := b9.size
      have hf9 : ∀ x, a9 = some x → 0 < B2.es.length → x.block ≠ Rb := fun x hx _ => by have := u9 x hx; omega
      have HKn := veil (((unveil HKB).next b9).next d9)
      clear HKB
      have HKB := HKn
      clear HKn hW9 i9 u9 b9 d9
      obtain ⟨Rn, hRn⟩ : ∃ R, R = V9.heap.size := ⟨_, rfl⟩
      have hRbn : Rb ≠ Rn := by omega
      rw [← hRn] at K9 ⊢
      clear hRn hlb hlv
      have he2 := unveil HE2
      have hrw := K9.i.row
      rw [he2] at hrw
      have HSm : Hid (∀ W, Below W9.heap.size W9 W → Calls Try.prog 24 #[.slice a9 es.length c9, .slice aB es.length cB] W fun e w' => e = .returned (.bool true) ∧ Below W.heap.size W w') := veil fun W b => sameEventsK_below a9 aB es.length c9 cB (evFlat es) W (hrw.below b) ((unveil HKB).i.row.below b) (by omega)
      have hSm := unveil HSm W9 (Below.refl _ _)
      have hen : B2.es.length = es.length := by rw [he2]
      clear HSm hrw
      obtain ⟨x0, x1, x2, x3, x4, x5⟩ := (unveil HKB).b.cells
      obtain ⟨y0, y1, y2, y3, y4, y5⟩ := K9.b.cells
      rw [hen] at y5
      have HK9 := veil K9
      have HEN := veil (And.intro hen he2)
      clear K9 hen he2
      have hrole : ((B2.r == 2) = false) ∨ ((B2.r == 2) = true ∧ (B2.o != (m : Int) + 1) = false) := by
        rcases unveil HB2 with h | ⟨h, _⟩
        · left; rw [h]; rfl
        · right; rw [h]; exact ⟨rfl, by simp⟩
      rcases hrole with e1 | ⟨e1, e2⟩
      all_goals
        go_upto_region 16 with (go_at_call 24; refine hSm.mono ?_; rintro x W10 ⟨rfl, b10⟩; clear hSm x0 x1 x2 x3 x4 x5 y0 y1 y2 y3 y4 y5)
        have KB := (unveil HKB).next b10
        have KN := (unveil HK9).next b10
        obtain ⟨x0, x1, x2, x3, x4, x5⟩ := KB.b.cells
        have xf := KB.b.free
        obtain ⟨y0, y1, y2, y3, y4, y5⟩ := KN.b.cells
        have HKB2 := veil KB
        have HKN2 := veil KN
        clear KB KN
        go_wp2
        obtain ⟨W11, hW11, k11, b11, t11⟩ := b_stored (unveil HKB2).b (unveil HKB2).bel (unveil HKB2).up B2.r B2.e B2.f B2.t B2.o a9 B2.es.length c9
        rw [← hW11]
        have K11 : Kb w W11 Rb B2 a9 c9 := ⟨k11, (unveil HKN2).i.turned t11 hf9, hf9, b11, (unveil HKB2).up⟩
        refine ⟨⟨m + 1, B2, a9, c9, by omega, by go_num, K11, veil ?_⟩, by simp [intOf]; omega⟩
        rcases unveil HB2 with h | ⟨h, h4⟩
        · exact .inr ⟨h, by omega⟩
        · exact .inl ⟨by rw [h]; push_cast; rfl, by omega⟩
end Go.Proofs.Ytdenfhnbhmdbnaa
