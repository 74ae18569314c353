/- The walk of berthshiftkeep.BeginNewer. -/
import Derived.Test.YtdenfhnbhmdbnaaBkImp
namespace Go.Proofs.Ytdenfhnbhmdbnaa
open Go.RowKit

set_option maxRecDepth 20000 in
set_option maxHeartbeats 4000000 in
theorem walk_BeginNewer (w : World) (pa : Int) (wpa : (Lit.int .i64 pa).wf = true) (pb : Int) (wpb : (Lit.int .i64 pb).wf = true) (a0 : Option Addr) (len cap : Nat) (D : List Int) (h : RowK .i64 w a0 (4 * len) D) (_ : len ≤ cap) (_ : cap ≤ maxLen) (_ : a0 = none → cap = 0) :
    Calls Try.prog 8 #[.int .i64 pa, .int .i64 pb, .slice a0 len cap] w fun r w' => r = .returned (.bool true) ∧ Below w.heap.size w w' := by
  have HSv := kserved_any 0 a0 len cap 20 D w h (by decide) (by omega)
  clear h
  have p0 := pickedOf_range pa 100 (by decide)
  have Pp : ∀ w, Calls Try.prog 16 #[.int .i64 pa, .int .i64 100] w fun e w' => e = .returned (.int .i64 (pickedOf pa 100)) ∧ w' = w := fun w => (picked_any pa 100 w wpa (by decide) (by decide)).mono fun _ _ h => ⟨h.1, h.2.symm⟩
  generalize pickedOf pa 100 = p at p0 Pp
  have q0 := pickedOf_range pb 100 (by decide)
  have Pq : ∀ w, Calls Try.prog 16 #[.int .i64 pb, .int .i64 100] w fun e w' => e = .returned (.int .i64 (pickedOf pb 100)) ∧ w' = w := fun w => (picked_any pb 100 w wpb (by decide) (by decide)).mono fun _ _ h => ⟨h.1, h.2.symm⟩
  generalize pickedOf pb 100 = q at q0 Pq
  have hw1 : IntKind.i64.wrap (1 + p) = 1 + p := by rw [IntKind.wrap_i64]; omega
  have hw2 : IntKind.i64.wrap (1 + q) = 1 + q := by rw [IntKind.wrap_i64]; omega
  obtain ⟨X, hX⟩ : ∃ X, 1 + p = X := ⟨_, rfl⟩
  obtain ⟨Y, hY⟩ : ∃ Y, 1 + q = Y := ⟨_, rfl⟩
  have hXb : 1 ≤ X ∧ X ≤ 100 := by omega
  have hYb : 1 ≤ Y ∧ Y ≤ 100 := by omega
  rw [hX] at hw1
  rw [hY] at hw2
  clear p0 q0
  have hw1' : IntKind.i64.wrap (1 + p) = X := by rw [hX]; exact hw1
  have hw2' : IntKind.i64.wrap (1 + q) = Y := by rw [hY]; exact hw2
  clear hX hY hw1 hw2
  go_enter Try.func8, Try.ntmps8
  go_upto_region 2 with (go_at_call 14; refine HSv.mono ?_; rintro x V1 ⟨E, es, s, ans, y, rfl, hist, hl, nb, hE1, hE2, ⟨⟨a, c, rfl, i1, u1⟩⟩, b1⟩; clear HSv)
  obtain ⟨W1, hW1, K1, _⟩ := Kb.new i1 (Below.refl _ _) b1
  rw [← hW1]
  obtain ⟨Rs, hR⟩ : ∃ R, R = V1.heap.size := ⟨_, rfl⟩
  rw [← hR] at K1 ⊢
  clear hW1 hR i1 u1 b1
  have ht := hist.tells
  have HH := veil hist
  have HNB := veil nb
  clear hist nb
  have HKs := veil K1
  clear K1
  go_upto_region 4 with (first | (go_at_call 16; refine (Pp _).mono ?_; rintro x w9 ⟨rfl, hw9⟩; subst w9; clear Pp) | (go_at_call 16; refine (Pq _).mono ?_; rintro x w9 ⟨rfl, hw9⟩; subst w9; clear Pq))
  clear hw1' hw2'
  have HC := begin_first X 1 hXb.1 (by omega) (by omega) (by omega) W1
  go_upto_region 5 with (first | (go_at_call 26; refine HC.mono ?_; rintro x V3 ⟨a3, c3, rfl, i3, u3, b3⟩; clear HC ))
  obtain ⟨W3, hW3, K3, d3⟩ : ∃ W, W = V3.alloc (.cells (bCells 4 X 1 0 0 a3 0 c3) 27) ∧ Kb w W V3.heap.size (Bt.imp X 1 []) a3 c3 ∧ Below V3.heap.size V3 W := Kb.new (B := (Bt.imp X 1 [])) i3 (unveil HKs).bel b3
  rw [← hW3]
  clear hW3
  have hr_s_t : ∀ x, a = some x → 0 < (Bt.act E es).es.length → x.block < V3.heap.size := fun x hx h0 => Nat.lt_of_lt_of_le ((unveil HKs).i.row.blk_lt x hx (by omega)) b3.size
  have hR_s_t : Rs < V3.heap.size := Nat.lt_of_lt_of_le (unveil HKs).b.lt b3.size
  have HKn := veil ((unveil HKs).next (Below.next b3 d3))
  clear HKs
  have HKs := HKn
  clear HKn
  obtain ⟨Rt, hR⟩ : ∃ R, R = V3.heap.size := ⟨_, rfl⟩
  rw [← hR] at K3 hr_s_t hR_s_t ⊢
  clear hR
  have HKt := veil K3
  clear K3 i3 u3 b3 d3
  have HIm : Calls Try.prog 27 #[bVal 4 X 1 0 0 a3 0 c3, .int .i64 X, .int .i64 0, .slice a es.length c, .bool false] W3 fun x w' => ∃ a' c', x = .returned (.tuple #[bVal 4 X 1 0 0 a' es.length c', .int .i64 0]) ∧ BIn w' (Bt.imp X 1 es) a' c' ∧ (∀ x, a' = some x → W3.heap.size ≤ x.block) ∧ Below W3.heap.size W3 w' := bt_out (bimport_any (Bt.imp X 1 []) a3 c3 X 0 es a es.length c false W3 (unveil HKt).i (unveil HKs).i.row rfl (unveil HKs).i.cap (unveil HKs).i.nil) (B2 := Bt.imp X 1 es) (er2 := 0) (import_first hXb.1 (by omega) (by omega) (by omega) ht (by omega))
  have HC := HIm
  obtain ⟨xt0, xt1, xt2, xt3, xt4, xt5⟩ := (unveil HKt).b.cells
  have lt := (unveil HKt).b.lt
  obtain ⟨xs0, xs1, xs2, xs3, xs4, xs5⟩ := (unveil HKs).b.cells
  have ls := (unveil HKs).b.lt
  go_upto_region 6 with (first | (go_at_call 27; refine HC.mono ?_; rintro x V4 ⟨a4, c4, rfl, i4, u4, b4⟩; clear HC xt0 xt1 xt2 xt3 xt4 xt5 lt xs0 xs1 xs2 xs3 xs4 xs5 ls; obtain ⟨xt0, xt1, xt2, xt3, xt4, xt5⟩ := ((unveil HKt).next b4).b.cells; have xf := ((unveil HKt).next b4).b.free))
  obtain ⟨W4, hW4, K4, t4⟩ := (unveil HKt).put (B' := (Bt.imp X 1 es)) i4 u4 b4
  rw [← hW4]
  clear hW4 xf xt0 xt1 xt2 xt3 xt4 xt5
  have HKn := veil (((unveil HKs).next b4).turned t4 (by omega) (fun x hx h0 => by have := hr_s_t x hx h0; omega) (unveil HKt).up)
  clear HKs
  have HKs := HKn
  clear HKn
  clear HKt
  have HKt := veil K4
  clear K4 i4 u4 b4 t4
  clear HIm
  have ok := ht.imp_ok (E := X) (f := 1) (by omega) hXb.1 (by omega) (by omega) (by omega)
  rcases Int.lt_trichotomy X Y with hlt | heq | hgt
  · have HC := bt_out (bbegin_any (Bt.imp X 1 es) a4 c4 Y 1 W4 (unveil HKt).i) (B2 := (Bt.imp Y 1 [])) (er2 := 0) (by unfold beginOf; rw [if_neg (fun h => h ok), if_neg (fun h => h ⟨⟨hYb.1, by omega⟩, by omega, by omega⟩), if_neg (by show ¬ ((4 : Int) = 1 ∨ (4 : Int) = 2 ∨ (4 : Int) = 3); omega), if_neg (by show ¬ ((4 : Int) = 4 ∧ X = Y ∧ (1 : Int) = 1); omega), if_neg (by show ¬ Y ≤ X; omega)])
    obtain ⟨xt0, xt1, xt2, xt3, xt4, xt5⟩ := (unveil HKt).b.cells
    have lt := (unveil HKt).b.lt
    go_upto_region 7 with (first | (go_at_call 26; refine HC.mono ?_; rintro x V5 ⟨a5, c5, rfl, i5, u5, b5⟩; clear HC xt0 xt1 xt2 xt3 xt4 xt5 lt))
    obtain ⟨W5, hW5, K5, d5⟩ : ∃ W, W = V5.alloc (.cells (bCells 4 Y 1 0 0 a5 0 c5) 27) ∧ Kb w W V5.heap.size (Bt.imp Y 1 []) a5 c5 ∧ Below V5.heap.size V5 W := Kb.new (B := (Bt.imp Y 1 [])) i5 (unveil HKs).bel b5
    rw [← hW5]
    clear hW5
    have HKn := veil ((unveil HKs).next (Below.next b5 d5))
    clear HKs
    have HKs := HKn
    clear HKn
    have HKn := veil ((unveil HKt).next (Below.next b5 d5))
    clear HKt
    have HKt := HKn
    clear HKn
    obtain ⟨Ru, hR⟩ : ∃ R, R = V5.heap.size := ⟨_, rfl⟩
    rw [← hR] at K5 ⊢
    clear hR
    have HKu := veil K5
    clear K5 i5 u5 b5 d5
    have HC := bt_out (bbegin_any (Bt.imp X 1 es) a4 c4 X 2 W5 (unveil HKt).i) (B2 := Bt.zero) (er2 := 15) (by unfold beginOf; rw [if_neg (fun h => h ok), if_neg (fun h => h ⟨⟨hXb.1, by omega⟩, by omega, by omega⟩), if_neg (by show ¬ ((4 : Int) = 1 ∨ (4 : Int) = 2 ∨ (4 : Int) = 3); omega), if_neg (by show ¬ ((4 : Int) = 4 ∧ X = X ∧ (1 : Int) = 2); omega), if_pos (Int.le_refl _)])
    obtain ⟨xt0, xt1, xt2, xt3, xt4, xt5⟩ := (unveil HKt).b.cells
    have lt := (unveil HKt).b.lt
    go_upto_region 8 with (first | (go_at_call 26; refine HC.mono ?_; rintro x V6 ⟨a6, c6, rfl, i6, u6, b6⟩; clear HC xt0 xt1 xt2 xt3 xt4 xt5 lt))
    obtain ⟨W6, hW6, K6, d6⟩ := Kb.new (B := Bt.zero) i6 (unveil HKs).bel b6
    rw [← hW6]
    clear hW6
    have HKn := veil ((unveil HKs).next (Below.next b6 d6))
    clear HKs
    have HKs := HKn
    clear HKn
    have HKn := veil ((unveil HKt).next (Below.next b6 d6))
    clear HKt
    have HKt := HKn
    clear HKn
    have HKn := veil ((unveil HKu).next (Below.next b6 d6))
    clear HKu
    have HKu := HKn
    clear HKn
    clear K6 i6 u6 b6 d6
    obtain ⟨xu0, xu1, xu2, xu3, xu4, xu5⟩ := (unveil HKu).b.cells
    go_wp2
    go_ret
    exact ⟨by simp, (unveil HKs).bel⟩
  · have HEQ := veil heq
    clear heq
    have HC := bt_out (bbegin_any (Bt.imp X 1 es) a4 c4 Y 1 W4 (unveil HKt).i) (B2 := (Bt.imp X 1 es)) (er2 := 0) (by unfold beginOf; rw [if_neg (fun h => h ok), if_neg (fun h => h ⟨⟨hYb.1, by omega⟩, by omega, by omega⟩), if_neg (by show ¬ ((4 : Int) = 1 ∨ (4 : Int) = 2 ∨ (4 : Int) = 3); omega), if_pos ⟨rfl, unveil HEQ, rfl⟩])
    obtain ⟨xt0, xt1, xt2, xt3, xt4, xt5⟩ := (unveil HKt).b.cells
    have lt := (unveil HKt).b.lt
    go_upto_region 7 with (first | (go_at_call 26; refine HC.mono ?_; rintro x V5 ⟨a5, c5, rfl, i5, u5, b5⟩; clear HC xt0 xt1 xt2 xt3 xt4 xt5 lt))
    obtain ⟨W5, hW5, K5, d5⟩ := Kb.new (B := (Bt.imp X 1 es)) i5 (unveil HKs).bel b5
    rw [← hW5]
    clear hW5
    have HKn := veil ((unveil HKs).next (Below.next b5 d5))
    clear HKs
    have HKs := HKn
    clear HKn
    have HKn := veil ((unveil HKt).next (Below.next b5 d5))
    clear HKt
    have HKt := HKn
    clear HKn
    obtain ⟨Ru, hR⟩ : ∃ R, R = V5.heap.size := ⟨_, rfl⟩
    rw [← hR] at K5 ⊢
    clear hR
    have HKu := veil K5
    clear K5 i5 u5 b5 d5
    have HC := bt_out (bbegin_any (Bt.imp X 1 es) a4 c4 X 2 W5 (unveil HKt).i) (B2 := Bt.zero) (er2 := 15) (by unfold beginOf; rw [if_neg (fun h => h ok), if_neg (fun h => h ⟨⟨hXb.1, by omega⟩, by omega, by omega⟩), if_neg (by show ¬ ((4 : Int) = 1 ∨ (4 : Int) = 2 ∨ (4 : Int) = 3); omega), if_neg (by show ¬ ((4 : Int) = 4 ∧ X = X ∧ (1 : Int) = 2); omega), if_pos (Int.le_refl _)])
    obtain ⟨xt0, xt1, xt2, xt3, xt4, xt5⟩ := (unveil HKt).b.cells
    have lt := (unveil HKt).b.lt
    go_upto_region 8 with (first | (go_at_call 26; refine HC.mono ?_; rintro x V6 ⟨a6, c6, rfl, i6, u6, b6⟩; clear HC xt0 xt1 xt2 xt3 xt4 xt5 lt))
    obtain ⟨W6, hW6, K6, d6⟩ := Kb.new (B := Bt.zero) i6 (unveil HKs).bel b6
    rw [← hW6]
    clear hW6
    have HKn := veil ((unveil HKs).next (Below.next b6 d6))
    clear HKs
    have HKs := HKn
    clear HKn
    have HKn := veil ((unveil HKt).next (Below.next b6 d6))
    clear HKt
    have HKt := HKn
    clear HKn
    have HKn := veil ((unveil HKu).next (Below.next b6 d6))
    clear HKu
    have HKu := HKn
    clear HKn
    clear K6 i6 u6 b6 d6
    obtain ⟨xu0, xu1, xu2, xu3, xu4, xu5⟩ := (unveil HKu).b.cells
    obtain ⟨xs0, xs1, xs2, xs3, xs4, xs5⟩ := (unveil HKs).b.cells
    have HSm := sameEventsK_below a5 a es.length c5 c (evFlat es) W6 (unveil HKu).i.row (unveil HKs).i.row (by omega)
    have e1 : ¬ X < Y := by have := unveil HEQ; omega
    have e2 : (Y == X) = true := by have := unveil HEQ; simp; omega
    go_wp2_with (go_at_call 24; refine HSm.mono ?_; rintro x W10 ⟨rfl, b10⟩; clear HSm; obtain ⟨uu0, uu1, uu2, uu3, uu4, uu5⟩ := ((unveil HKu).next b10).b.cells; clear xu0 xu1 xu2 xu3 xu4 xu5 xs0 xs1 xs2 xs3 xs4 xs5)
    go_ret
    exact ⟨by simp, Below.next (unveil HKs).bel b10⟩
  · have HC := bt_out (bbegin_any (Bt.imp X 1 es) a4 c4 Y 1 W4 (unveil HKt).i) (B2 := Bt.zero) (er2 := 15) (by unfold beginOf; rw [if_neg (fun h => h ok), if_neg (fun h => h ⟨⟨hYb.1, by omega⟩, by omega, by omega⟩), if_neg (by show ¬ ((4 : Int) = 1 ∨ (4 : Int) = 2 ∨ (4 : Int) = 3); omega), if_neg (by show ¬ ((4 : Int) = 4 ∧ X = Y ∧ (1 : Int) = 1); omega), if_pos (by show Y ≤ X; omega)])
    obtain ⟨xt0, xt1, xt2, xt3, xt4, xt5⟩ := (unveil HKt).b.cells
    have lt := (unveil HKt).b.lt
    go_upto_region 7 with (first | (go_at_call 26; refine HC.mono ?_; rintro x V5 ⟨a5, c5, rfl, i5, u5, b5⟩; clear HC xt0 xt1 xt2 xt3 xt4 xt5 lt))
    obtain ⟨W5, hW5, K5, d5⟩ := Kb.new (B := Bt.zero) i5 (unveil HKs).bel b5
    rw [← hW5]
    clear hW5
    have HKn := veil ((unveil HKs).next (Below.next b5 d5))
    clear HKs
    have HKs := HKn
    clear HKn
    have HKn := veil ((unveil HKt).next (Below.next b5 d5))
    clear HKt
    have HKt := HKn
    clear HKn
    obtain ⟨Ru, hR⟩ : ∃ R, R = V5.heap.size := ⟨_, rfl⟩
    rw [← hR] at K5 ⊢
    clear hR
    have HKu := veil K5
    clear K5 i5 u5 b5 d5
    have HC := bt_out (bbegin_any (Bt.imp X 1 es) a4 c4 X 2 W5 (unveil HKt).i) (B2 := Bt.zero) (er2 := 15) (by unfold beginOf; rw [if_neg (fun h => h ok), if_neg (fun h => h ⟨⟨hXb.1, by omega⟩, by omega, by omega⟩), if_neg (by show ¬ ((4 : Int) = 1 ∨ (4 : Int) = 2 ∨ (4 : Int) = 3); omega), if_neg (by show ¬ ((4 : Int) = 4 ∧ X = X ∧ (1 : Int) = 2); omega), if_pos (Int.le_refl _)])
    obtain ⟨xt0, xt1, xt2, xt3, xt4, xt5⟩ := (unveil HKt).b.cells
    have lt := (unveil HKt).b.lt
    go_upto_region 8 with (first | (go_at_call 26; refine HC.mono ?_; rintro x V6 ⟨a6, c6, rfl, i6, u6, b6⟩; clear HC xt0 xt1 xt2 xt3 xt4 xt5 lt))
    obtain ⟨W6, hW6, K6, d6⟩ := Kb.new (B := Bt.zero) i6 (unveil HKs).bel b6
    rw [← hW6]
    clear hW6
    have HKn := veil ((unveil HKs).next (Below.next b6 d6))
    clear HKs
    have HKs := HKn
    clear HKn
    have HKn := veil ((unveil HKt).next (Below.next b6 d6))
    clear HKt
    have HKt := HKn
    clear HKn
    have HKn := veil ((unveil HKu).next (Below.next b6 d6))
    clear HKu
    have HKu := HKn
    clear HKn
    clear K6 i6 u6 b6 d6
    have hz : Bt.zero.r = 0 := rfl
    obtain ⟨xu0, xu1, xu2, xu3, xu4, xu5⟩ := (unveil HKu).b.cells
    rw [hz] at xu0
    have e1 : ¬ X < Y := by omega
    have e2 : (Y == X) = false := by simp; omega
    go_wp2
    go_ret
    exact ⟨by simp, (unveil HKs).bel⟩
end Go.Proofs.Ytdenfhnbhmdbnaa
