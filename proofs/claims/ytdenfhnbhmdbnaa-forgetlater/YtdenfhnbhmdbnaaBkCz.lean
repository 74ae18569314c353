/- The walk of berthshiftkeep.ForgetLater. -/
import Derived.Test.YtdenfhnbhmdbnaaBkAll
namespace Go.Proofs.Ytdenfhnbhmdbnaa
open Go.RowKit

set_option maxRecDepth 20000 in
set_option maxHeartbeats 4000000 in
theorem walk_ForgetLater (w : World) (ep : Int) (wep : (Lit.int .i64 ep).wf = true) (a0 : Option Addr) (len cap : Nat) (D : List Int) (h : RowK .i64 w a0 (4 * len) D) (_ : len ≤ cap) (_ : cap ≤ maxLen) (_ : a0 = none → cap = 0) (bn : Int) (wbn : (Lit.int .i64 bn).wf = true) :
    Calls Try.prog 12 #[.int .i64 ep, .slice a0 len cap, .int .i64 bn] w fun r w' => r = .returned (.bool true) ∧ Below w.heap.size w w' := by
  have HSv := kserved_any ep a0 len cap 30 D w h wep (by omega)
  clear h
  have p0 := pickedOf_range bn 7 (by decide)
  have Pp : ∀ w, Calls Try.prog 16 #[.int .i64 bn, .int .i64 7] w fun e w' => e = .returned (.int .i64 (pickedOf bn 7)) ∧ w' = w := fun w => (picked_any bn 7 w wbn (by decide) (by decide)).mono fun _ _ h => ⟨h.1, h.2.symm⟩
  generalize pickedOf bn 7 = p at p0 Pp
  go_enter Try.func12, Try.ntmps12
  go_upto_region 2 with (go_at_call 14; refine HSv.mono ?_; rintro x V1 ⟨E, es, s, ans, y, rfl, hist, hl, nb, hE1, hE2, ⟨⟨a, c, rfl, i1, u1⟩⟩, b1⟩; clear HSv)
  obtain ⟨W1, hW1, K1, _⟩ := Kb.new i1 (Below.refl _ _) b1
  rw [← hW1]
  obtain ⟨Rb, hR⟩ : ∃ R, R = V1.heap.size := ⟨_, rfl⟩
  rw [← hR] at K1 ⊢
  clear hW1 hR i1 u1 b1
  have ht := hist.tells
  have HH := veil hist
  have HNB := veil nb
  clear hist nb
  have HKb := veil K1
  clear K1
  have HC := go_act E es s ans a c W1 2 (unveil HKb).i ht (by omega) hE1 hE2 (by omega) (by omega)
  obtain ⟨xb0, xb1, xb2, xb3, xb4, xb5⟩ := (unveil HKb).b.cells
  have lb := (unveil HKb).b.lt
  go_upto_region 3 with (first | (go_at_call 15; refine HC.mono ?_; rintro x V3 ⟨a3, c3, rfl, i3, u3, b3⟩; clear HC xb0 xb1 xb2 xb3 xb4 xb5 lb; obtain ⟨xb0, xb1, xb2, xb3, xb4, xb5⟩ := ((unveil HKb).next b3).b.cells; have xf := ((unveil HKb).next b3).b.free))
  obtain ⟨W3, hW3, K3, t3⟩ := (unveil HKb).put (B' := (Bt.drn E 2 0 es)) i3 u3 b3
  rw [← hW3]
  clear hW3 xf xb0 xb1 xb2 xb3 xb4 xb5
  clear HKb
  have HKb := veil K3
  clear K3 i3 u3 b3 t3
  have HC := caught_all E es s ans a3 c3 W3 2 0 (unveil HKb).i ht (by omega) hE1 hE2 (by omega) (by omega) (by omega) (by omega)
  obtain ⟨xb0, xb1, xb2, xb3, xb4, xb5⟩ := (unveil HKb).b.cells
  have lb := (unveil HKb).b.lt
  go_upto_region 4 with (first | (go_at_call 22; refine HC.mono ?_; rintro x V4 ⟨a4, c4, rfl, i4, u4, b4⟩; clear HC xb0 xb1 xb2 xb3 xb4 xb5 lb; obtain ⟨xb0, xb1, xb2, xb3, xb4, xb5⟩ := ((unveil HKb).next b4).b.cells; have xf := ((unveil HKb).next b4).b.free))
  obtain ⟨W4, hW4, K4, t4⟩ := (unveil HKb).put (B' := (Bt.sld E 2 es)) i4 u4 b4
  rw [← hW4]
  clear hW4 xf xb0 xb1 xb2 xb3 xb4 xb5
  clear HKb
  have HKb := veil K4
  clear K4 i4 u4 b4 t4
  obtain ⟨xb0, xb1, xb2, xb3, xb4, xb5⟩ := (unveil HKb).b.cells
  have lb := (unveil HKb).b.lt
  have hw1 : IntKind.i64.wrap (E + p) = E + p := by rw [IntKind.wrap_i64]; omega
  have hw2 : IntKind.i64.wrap (E + p - 3) = E + p - 3 := by rw [IntKind.wrap_i64]; omega
  go_quiet (first | (go_at_call 16; refine Calls.quiet_of_same (Pp _)))
  clear xb0 xb1 xb2 xb3 xb4 xb5 lb
  obtain ⟨W5, hW5⟩ : ∃ W5, W5 = W4.drewN nq := ⟨_, rfl⟩
  have bq := belowN W4 nq
  rw [← hW5] at bq ⊢
  clear hW5
  have HKn := veil ((unveil HKb).next bq)
  clear HKb
  have HKb := HKn
  clear HKn
  clear bq
  obtain ⟨N, hN⟩ : ∃ N, N = E + p - 3 := ⟨_, rfl⟩
  rw [← hN]
  clear hw1 hw2 hN
  have ok := ht.sld_ok (E := E) (t := 2) (by omega) hE1 (by omega) (by omega) (by omega)
  by_cases hlt : E < N
  case pos =>
    have HC := bt_out (bforget_any (Bt.sld E 2 es) a4 c4 N W5 (unveil HKb).i) (B2 := Bt.nob E) (by unfold forgetOf; rw [if_neg (fun h => h ok), if_neg (fun h => h rfl), if_neg (by show ¬ N ≤ E; omega)])
    obtain ⟨xb0, xb1, xb2, xb3, xb4, xb5⟩ := (unveil HKb).b.cells
    have lb := (unveil HKb).b.lt
    go_upto_region 6 with (first | (go_at_call 29; refine HC.mono ?_; rintro x V6 ⟨a6, c6, rfl, i6, u6, b6⟩; clear HC xb0 xb1 xb2 xb3 xb4 xb5 lb))
    obtain ⟨W6, hW6, K6, d6⟩ : ∃ W, W = V6.alloc (.cells (bCells 0 E 0 0 0 a6 0 c6) 27) ∧ Kb w W V6.heap.size (Bt.nob E) a6 c6 ∧ Below V6.heap.size V6 W := Kb.new (B := (Bt.nob E)) i6 (unveil HKb).bel b6
    rw [← hW6]
    clear hW6
    have HKn := veil ((unveil HKb).next (Below.next b6 d6))
    clear HKb
    have HKb := HKn
    clear HKn
    obtain ⟨Rx, hR⟩ : ∃ R, R = V6.heap.size := ⟨_, rfl⟩
    rw [← hR] at K6 ⊢
    clear hR
    have HKx := veil K6
    clear K6 i6 u6 b6 d6
    obtain ⟨xb0, xb1, xb2, xb3, xb4, xb5⟩ := (unveil HKb).b.cells
    have lb := (unveil HKb).b.lt
    go_upto_region 7 with fail
    clear xb0 xb1 xb2 xb3 xb4 xb5 lb
    have HC := bt_out (bbegin_any (Bt.nob E) a6 c6 E 1 W6 (unveil HKx).i) (B2 := Bt.zero) (by unfold beginOf; rw [if_neg (fun h => h (nob_ok (by omega) (by omega))), if_neg (fun h => h ⟨⟨hE1, by omega⟩, by omega, by omega⟩), if_neg (by show ¬ ((0 : Int) = 1 ∨ (0 : Int) = 2 ∨ (0 : Int) = 3); omega), if_neg (by show ¬ ((0 : Int) = 4 ∧ E = E ∧ (0 : Int) = 1); omega), if_pos (Int.le_refl _)])
    obtain ⟨xb0, xb1, xb2, xb3, xb4, xb5⟩ := (unveil HKb).b.cells
    have lb := (unveil HKb).b.lt
    obtain ⟨xx0, xx1, xx2, xx3, xx4, xx5⟩ := (unveil HKx).b.cells
    have lx := (unveil HKx).b.lt
    go_upto_region 8 with (first | (go_at_call 26; refine HC.mono ?_; rintro x V7 ⟨a7, c7, rfl, i7, u7, b7⟩; clear HC xb0 xb1 xb2 xb3 xb4 xb5 lb xx0 xx1 xx2 xx3 xx4 xx5 lx))
    obtain ⟨W7, hW7, K7, d7⟩ := Kb.new (B := Bt.zero) i7 (unveil HKb).bel b7
    rw [← hW7]
    clear hW7
    have HKn := veil ((unveil HKb).next (Below.next b7 d7))
    clear HKb
    have HKb := HKn
    clear HKn
    have HKn := veil ((unveil HKx).next (Below.next b7 d7))
    clear HKx
    have HKx := HKn
    clear HKn
    clear K7 i7 u7 b7 d7
    have hw1 : IntKind.i64.wrap (E + 1) = E + 1 := by rw [IntKind.wrap_i64]; omega
    have HC := bt_out (bbegin_any (Bt.nob E) a6 c6 (E + 1) 1 W7 (unveil HKx).i) (B2 := Bt.imp (E + 1) 1 []) (by unfold beginOf; rw [if_neg (fun h => h (nob_ok (by omega) (by omega))), if_neg (fun h => h ⟨⟨by omega, by omega⟩, by omega, by omega⟩), if_neg (by show ¬ ((0 : Int) = 1 ∨ (0 : Int) = 2 ∨ (0 : Int) = 3); omega), if_neg (by show ¬ ((0 : Int) = 4 ∧ E = E + 1 ∧ (0 : Int) = 1); omega), if_neg (by show ¬ E + 1 ≤ E; omega)])
    obtain ⟨xb0, xb1, xb2, xb3, xb4, xb5⟩ := (unveil HKb).b.cells
    have lb := (unveil HKb).b.lt
    obtain ⟨xx0, xx1, xx2, xx3, xx4, xx5⟩ := (unveil HKx).b.cells
    have lx := (unveil HKx).b.lt
    go_upto_region 9 with (first | (go_at_call 26; refine HC.mono ?_; rintro x V8 ⟨a8, c8, rfl, i8, u8, b8⟩; clear HC xb0 xb1 xb2 xb3 xb4 xb5 lb xx0 xx1 xx2 xx3 xx4 xx5 lx))
    obtain ⟨W8, hW8, K8, d8⟩ : ∃ W, W = V8.alloc (.cells (bCells 4 (E + 1) 1 0 0 a8 0 c8) 27) ∧ Kb w W V8.heap.size (Bt.imp (E + 1) 1 []) a8 c8 ∧ Below V8.heap.size V8 W := Kb.new (B := (Bt.imp (E + 1) 1 [])) i8 (unveil HKb).bel b8
    rw [← hW8]
    clear hW8
    have HKn := veil ((unveil HKb).next (Below.next b8 d8))
    clear HKb
    have HKb := HKn
    clear HKn
    have HKn := veil ((unveil HKx).next (Below.next b8 d8))
    clear HKx
    have HKx := HKn
    clear HKn
    clear K8 i8 u8 b8 d8
    obtain ⟨xb0, xb1, xb2, xb3, xb4, xb5⟩ := (unveil HKb).b.cells
    have lb := (unveil HKb).b.lt
    obtain ⟨xx0, xx1, xx2, xx3, xx4, xx5⟩ := (unveil HKx).b.cells
    have lx := (unveil HKx).b.lt
    go_wp2
    go_ret
    exact ⟨by simp, (unveil HKb).bel⟩
  case neg =>
  have HC := bt_out (bforget_any (Bt.sld E 2 es) a4 c4 N W5 (unveil HKb).i) (B2 := Bt.zero) (by unfold forgetOf; rw [if_neg (fun h => h ok), if_neg (fun h => h rfl), if_pos (by show N ≤ E; omega)])
  obtain ⟨xb0, xb1, xb2, xb3, xb4, xb5⟩ := (unveil HKb).b.cells
  have lb := (unveil HKb).b.lt
  go_upto_region 6 with (first | (go_at_call 29; refine HC.mono ?_; rintro x V6 ⟨a6, c6, rfl, i6, u6, b6⟩; clear HC xb0 xb1 xb2 xb3 xb4 xb5 lb))
  obtain ⟨W6, hW6, K6, d6⟩ := Kb.new (B := Bt.zero) i6 (unveil HKb).bel b6
  rw [← hW6]
  clear hW6
  have HKn := veil ((unveil HKb).next (Below.next b6 d6))
  clear HKb
  have HKb := HKn
  clear HKn
  clear K6 i6 u6 b6 d6
  obtain ⟨xb0, xb1, xb2, xb3, xb4, xb5⟩ := (unveil HKb).b.cells
  have lb := (unveil HKb).b.lt
  go_wp2
  go_ret
  exact ⟨by simp, (unveil HKb).bel⟩
end Go.Proofs.Ytdenfhnbhmdbnaa
