/- Walks of berth.Begin, Wake (by beg_gen.py). -/
import Derived.Test.YtbhlpiomoookcaaBeAll
namespace Go.Proofs.Ytbhlpiomoookcaa
open Go.RowKit

theorem ret_bWake {W : World} {R : Nat} {r e f t o : Int} {a : Option Addr} {n c : Nat} {er : Int} {tmps : Array Value} (d : bBlock W R r e f t o a n c) (t1 : tmps[2]? = some (.pointer (some ⟨R, 0, none⟩))) (t2 : tmps[3]? = some (.int .i64 er)) :
    (results Try.f34 tmps).run Try.prog W = .ok (.tuple #[bVal r e f t o a n c, .int .i64 er]) W := by
  simp [results, Try.results34, t1, t2, asAddr, load_berth d]
set_option maxRecDepth 20000 in
set_option maxHeartbeats 4000000 in
theorem bwake_any (B : Bt) (a : Option Addr) (c : Nat)  (w : World) (hb : BIn w B a c) : Calls Try.prog 34 #[bVal B.r B.e B.f B.t B.o a B.es.length c] w fun x w' => ∃ y B' er, x = .returned (.tuple #[y, .int .i64 er]) ∧ wakeOf B = (B', er) ∧ BOut w w' B' y ∧ Below w.heap.size w w' := by
  have HS := fun w => serves_any B.r B.e B.f B.t B.o a B.es.length c w
  by_cases ok : B.Ok
  case neg =>
    go_enter Try.func34, Try.ntmps34
    go_upto_region 1 with fail
    obtain ⟨W1, hW1, M1⟩ := Mb.made w B a c
    rw [← hW1]
    clear hW1
    have HC := bcheck_no B a c W1 (hb.next M1.bel) ok
    obtain ⟨x0, x1, x2, x3, x4, x5⟩ := M1.b.cells
    have HM := veil M1
    clear M1
    go_wp2_with (first | (go_at_call 20; refine HC.mono ?_; rintro x W2 ⟨rfl, b2⟩; clear HC x0 x1 x2 x3 x4 x5; have M2 := (unveil HM).next b2; obtain ⟨x0, x1, x2, x3, x4, x5⟩ := M2.b.cells; have HM2 := veil M2; clear M2 b2 HM) | (go_at_call 55; refine (refuse_any _ _).mono ?_; rintro x W9 ⟨rfl, b9⟩; have M9 := (unveil HM2).next b9; clear x0 x1 x2 x3 x4 x5; obtain ⟨z0, z1, z2, z3, z4, z5⟩ := M9.z.cells; have zf := M9.z.free; have HM9 := veil M9; clear M9 b9 HM2))
    obtain ⟨W4, hW4, d4, b4, _⟩ := b_stored (unveil HM9).z (unveil HM9).bel (show w.heap.size ≤ w.heap.size + 1 by omega) 0 0 0 0 0 none 0 0
    rw [← hW4]
    exact bodyPost_ret (ret_bWake d4 rfl rfl) rfl ⟨_, _, _, rfl, by unfold wakeOf; rw [if_pos ok], BOut.zero _ _, b4⟩
  case pos =>
  by_cases h3 : B.r = 1 ∨ B.r = 2
  case neg =>
    rw [decide_eq_false h3] at HS
    have H3 := veil h3
    clear h3
    go_enter Try.func34, Try.ntmps34
    go_upto_region 1 with fail
    obtain ⟨W1, hW1, M1⟩ := Mb.made w B a c
    rw [← hW1]
    clear hW1
    have HC := bcheck_yes B a c W1 (hb.next M1.bel) ok
    obtain ⟨x0, x1, x2, x3, x4, x5⟩ := M1.b.cells
    have HM := veil M1
    clear M1
    go_upto_region 4 with (first | (go_at_call 20; refine HC.mono ?_; rintro x W2 ⟨rfl, b2⟩; clear HC x0 x1 x2 x3 x4 x5; have M2 := (unveil HM).next b2; obtain ⟨x0, x1, x2, x3, x4, x5⟩ := M2.b.cells; have HM2 := veil M2; clear M2 b2 HM) | (go_at_call 62; refine (HS _).mono ?_; rintro x W3 ⟨rfl, b3⟩; have M3 := (unveil HM2).next b3; clear HM2 x0 x1 x2 x3 x4 x5; obtain ⟨x0, x1, x2, x3, x4, x5⟩ := M3.b.cells; have HM2 := veil M3; clear M3 b3 ))
    obtain ⟨W6, hW6⟩ : ∃ W6, W6 = W3 := ⟨_, rfl⟩
    have k6 := (unveil HM2).b
    have z6 := (unveil HM2).z
    have B6 := (unveil HM2).bel
    rw [← hW6] at k6 z6 B6 ⊢
    have i6 : BIn W6 B a c := hb.next B6
    have HW := bwith_none B a c W6 i6 ok.len
    obtain ⟨y0, y1, y2, y3, y4, y5⟩ := k6.cells
    have HZ := veil z6
    have HB := veil B6
    clear hW6 x0 x1 x2 x3 x4 x5 k6 z6 B6 i6
    go_wp2_with (go_at_call 54; refine HW.mono ?_; rintro x W5 ⟨y, rfl, ⟨⟨a', c', rfl, i5, u5⟩⟩, b5⟩; have z5 := (unveil HZ).next b5; obtain ⟨z0, z1, z2, z3, z4, z5'⟩ := z5.cells; have zf := z5.free; have HZ5 := veil z5; have HB5 := veil (Below.next (unveil HB) b5); have HI5 := veil i5; have HU5 := veil u5; have hs5 := (unveil HB).size; clear HW y0 y1 y2 y3 y4 y5 z5 b5 i5 u5)
    obtain ⟨W4, hW4, d4, b4, t4⟩ := b_stored (unveil HZ5) (unveil HB5) (show w.heap.size ≤ w.heap.size + 1 by omega) (B.r) (B.e) (B.f) (B.t) (B.o) a' B.es.length c'
    rw [← hW4]
    have hz := (unveil HZ).lt
    exact bodyPost_ret (ret_bWake d4 rfl rfl) rfl ⟨_, B, 0, rfl, by unfold wakeOf; rw [if_neg (fun h => h ok), if_pos (unveil H3)], ⟨a', c', rfl, (unveil HI5).turned t4 (fun x hx _ => by have := unveil HU5 x hx; omega), fun x hx => by have := unveil HU5 x hx; omega⟩, b4⟩
  case pos =>
  rw [decide_eq_true h3] at HS
  have H3 := veil h3
  clear h3
  go_enter Try.func34, Try.ntmps34
  go_upto_region 1 with fail
  obtain ⟨W1, hW1, M1⟩ := Mb.made w B a c
  rw [← hW1]
  clear hW1
  have HC := bcheck_yes B a c W1 (hb.next M1.bel) ok
  obtain ⟨x0, x1, x2, x3, x4, x5⟩ := M1.b.cells
  have HM := veil M1
  clear M1
  go_upto_region 5 with (first | (go_at_call 20; refine HC.mono ?_; rintro x W2 ⟨rfl, b2⟩; clear HC x0 x1 x2 x3 x4 x5; have M2 := (unveil HM).next b2; obtain ⟨x0, x1, x2, x3, x4, x5⟩ := M2.b.cells; have HM2 := veil M2; clear M2 b2 HM) | (go_at_call 62; refine (HS _).mono ?_; rintro x W3 ⟨rfl, b3⟩; have M3 := (unveil HM2).next b3; clear HM2 x0 x1 x2 x3 x4 x5; obtain ⟨x0, x1, x2, x3, x4, x5⟩ := M3.b.cells; have HM2 := veil M3; clear M3 b3 ))
  obtain ⟨B2, hB2⟩ : ∃ B2, B2 = B.broken := ⟨_, rfl⟩
  have HBK := broken_any B a c W3 (hb.next (unveil HM2).bel) (by have := ok.len; omega)
  rw [← hB2] at HBK
  have HB2 := veil hB2
  clear hB2
  have hlt := (unveil HM2).b.lt
  have hlz := (unveil HM2).z.lt
  go_upto_region 6 with (go_at_call 63; refine HBK.mono ?_; rintro x W4 ⟨y, rfl, ⟨⟨a', c', rfl, i4, u4⟩⟩, b4⟩; have M4 := (unveil HM2).next b4; clear x0 x1 x2 x3 x4 x5 HBK; obtain ⟨x0, x1, x2, x3, x4, x5⟩ := M4.b.cells; have xf := M4.b.free; have HM4 := veil M4; have HI4 := veil i4; have HU4 := veil u4; clear M4 i4 u4 b4)
  obtain ⟨W5, hW5, k5, b5, t5⟩ := b_stored (unveil HM4).b (unveil HM4).bel (Nat.le_refl _) B2.r B2.e B2.f B2.t B2.o a' B2.es.length c'
  rw [← hW5]
  have M5 : Mb w W5 B2 a' c' := ⟨k5, (unveil HM4).z.turned t5 (by omega), b5⟩
  have i5 : BIn W5 B2 a' c' := (unveil HI4).turned t5 (fun x hx _ => by have := unveil HU4 x hx; omega)
  clear hW5 k5 b5 t5 x0 x1 x2 x3 x4 x5 xf HM2 HM4 HI4
  obtain ⟨x0, x1, x2, x3, x4, x5⟩ := M5.b.cells
  by_cases ok2 : B2.Ok
  case neg =>
    have HC := bcheck_no B2 a' c' W5 i5 ok2
    have HM := veil M5
    clear M5 i5
    go_wp2_with (first | (go_at_call 20; refine HC.mono ?_; rintro x W2 ⟨rfl, b2⟩; clear HC x0 x1 x2 x3 x4 x5; have M2 := (unveil HM).next b2; obtain ⟨x0, x1, x2, x3, x4, x5⟩ := M2.b.cells; have HM2 := veil M2; clear M2 b2 HM) | (go_at_call 55; refine (refuse_any _ _).mono ?_; rintro x W9 ⟨rfl, b9⟩; have M9 := (unveil HM2).next b9; clear x0 x1 x2 x3 x4 x5; obtain ⟨z0, z1, z2, z3, z4, z5⟩ := M9.z.cells; have zf := M9.z.free; have HM9 := veil M9; clear M9 b9 HM2))
    obtain ⟨W4, hW4, d4, b4, _⟩ := b_stored (unveil HM9).z (unveil HM9).bel (show w.heap.size ≤ w.heap.size + 1 by omega) 0 0 0 0 0 none 0 0
    rw [← hW4]
    exact bodyPost_ret (ret_bWake d4 rfl rfl) rfl ⟨_, _, _, rfl, by unfold wakeOf; rw [if_neg (fun h => h ok), if_neg (fun h => h (unveil H3)), if_pos (by rw [← unveil HB2]; exact ok2)], BOut.zero _ _, b4⟩
  case pos =>
  have HC := bcheck_yes B2 a' c' W5 i5 ok2
  have HM := veil M5
  have HI5 := veil i5
  clear M5 i5
  go_upto_region 8 with (first | (go_at_call 20; refine HC.mono ?_; rintro x W7 ⟨rfl, b7⟩; clear HC x0 x1 x2 x3 x4 x5; have M7 := (unveil HM).next b7; obtain ⟨x0, x1, x2, x3, x4, x5⟩ := M7.b.cells; have HM7 := veil M7; have HI7 := veil ((unveil HI5).next b7); clear M7 b7 HM HI5))
  obtain ⟨z0, z1, z2, z3, z4, z5⟩ := (unveil HM7).z.cells
  have zf := (unveil HM7).z.free
  go_wp2
  obtain ⟨W8, hW8, d8, b8, t8⟩ := b_stored (unveil HM7).z (unveil HM7).bel (show w.heap.size ≤ w.heap.size + 1 by omega) B2.r B2.e B2.f B2.t B2.o a' B2.es.length c'
  rw [← hW8]
  exact bodyPost_ret (ret_bWake d8 rfl rfl) rfl ⟨_, B2, 0, rfl, by unfold wakeOf; rw [if_neg (fun h => h ok), if_neg (fun h => h (unveil H3)), if_neg (fun h => h (by rw [← unveil HB2]; exact ok2)), unveil HB2], ⟨a', c', rfl, (unveil HI7).turned t8 (fun x hx _ => by have := unveil HU4 x hx; omega), fun x hx => by have := unveil HU4 x hx; omega⟩, b8⟩
end Go.Proofs.Ytbhlpiomoookcaa
