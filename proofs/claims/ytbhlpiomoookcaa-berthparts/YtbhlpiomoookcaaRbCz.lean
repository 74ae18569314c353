/- The document's answer's BerthMade, Forgotten, Gone. -/
import Derived.Test.YtbhlpiomoookcaaRbAz
import Derived.Test.YtbhlpiomoookcaaRbL
namespace Go.Proofs.Ytbhlpiomoookcaa
open Go.RowKit
theorem ret_bMade {W : World} {R : Nat} {r e f t o : Int} {a : Option Addr} {n c : Nat} {er : Int} {tmps : Array Value} (d : bBlock W R r e f t o a n c) (t1 : tmps[4]? = some (.pointer (some ⟨R, 0, none⟩))) (t2 : tmps[5]? = some (.int .i64 er)) :
    (results Try.f27 tmps).run Try.prog W = .ok (.tuple #[bVal r e f t o a n c, .int .i64 er]) W := by
  simp [results, Try.results27, t1, t2, asAddr, load_berth d]
set_option maxRecDepth 20000 in
set_option maxHeartbeats 4000000 in
theorem bmade_any (B : Bt) (a : Option Addr) (c : Nat) (ep : Int) (w : World) (hb : BIn w B a c) : Calls Try.prog 27 #[bVal B.r B.e B.f B.t B.o a B.es.length c, .int .i64 ep] w fun x w' => ∃ y B' er, x = .returned (.tuple #[y, .int .i64 er]) ∧ makeOf B ep = (B', er) ∧ BOut w w' B' y ∧ Below w.heap.size w w' := by
  by_cases ok : B.Ok
  case neg =>
    go_enter Try.func27, Try.ntmps27
    go_upto_region 1 with fail
    obtain ⟨W1, hW1, M1⟩ := Mb.made w B a c
    rw [← hW1]
    clear hW1
    have HC := faultB_no B a c W1 (hb.next M1.bel) ok
    obtain ⟨x0, x1, x2, x3, x4, x5⟩ := M1.b.cells
    have HM := veil M1
    clear M1
    go_wp2_with (first | (go_at_call 22; refine HC.mono ?_; rintro x W2 ⟨rfl, b2⟩; clear HC x0 x1 x2 x3 x4 x5; have M2 := (unveil HM).next b2; obtain ⟨x0, x1, x2, x3, x4, x5⟩ := M2.b.cells; obtain ⟨z0, z1, z2, z3, z4, z5⟩ := M2.z.cells; have zf := M2.z.free; have HM2 := veil M2; clear M2 b2 HM))
    obtain ⟨W4, hW4, d4, b4, _⟩ := b_stored (unveil HM2).z (unveil HM2).bel (show w.heap.size ≤ w.heap.size + 1 by omega) 0 0 0 0 0 none 0 0
    rw [← hW4]
    exact bodyPost_ret (ret_bMade d4 rfl rfl) rfl ⟨_, Bt.zero, _, rfl, by simp [makeOf, ok], BOut.zero _ _, b4⟩
  case pos =>
  by_cases h1 : 1 ≤ ep ∧ ep ≤ 1048576
  case neg =>
    have HE := inB_no ep 1 1048576 h1
    go_enter Try.func27, Try.ntmps27
    go_upto_region 1 with fail
    obtain ⟨W1, hW1, M1⟩ := Mb.made w B a c
    rw [← hW1]
    clear hW1
    have HC := faultB_yes B a c W1 (hb.next M1.bel) ok
    obtain ⟨x0, x1, x2, x3, x4, x5⟩ := M1.b.cells
    have HM := veil M1
    clear M1
    go_wp2_with (first | (go_at_call 22; refine HC.mono ?_; rintro x W2 ⟨rfl, b2⟩; clear HC x0 x1 x2 x3 x4 x5; have M2 := (unveil HM).next b2; obtain ⟨x0, x1, x2, x3, x4, x5⟩ := M2.b.cells; obtain ⟨z0, z1, z2, z3, z4, z5⟩ := M2.z.cells; have zf := M2.z.free; have HM2 := veil M2; clear M2 b2 HM) | (go_at_call 51; refine (HE _).mono ?_; rintro x w3 ⟨rfl, hw3⟩; subst w3))
    obtain ⟨W4, hW4, d4, b4, _⟩ := b_stored (unveil HM2).z (unveil HM2).bel (show w.heap.size ≤ w.heap.size + 1 by omega) 0 0 0 0 0 none 0 0
    rw [← hW4]
    exact bodyPost_ret (ret_bMade d4 rfl rfl) rfl ⟨_, Bt.zero, _, rfl, by simp [makeOf, ok, h1], BOut.zero _ _, b4⟩
  case pos =>
  have HE := inB_yes ep 1 1048576 h1
  have H1 := veil h1
  clear h1
  have hr0 : 0 ≤ B.r := by have := ok.stand; unfold Bt.Stand standP at this; omega
  by_cases h2 : 0 < B.r
  case pos =>
    have HG : Hid (¬ B.r = 0) := veil (by omega)
    go_enter Try.func27, Try.ntmps27
    go_upto_region 1 with fail
    obtain ⟨W1, hW1, M1⟩ := Mb.made w B a c
    rw [← hW1]
    clear hW1
    have HC := faultB_yes B a c W1 (hb.next M1.bel) ok
    obtain ⟨x0, x1, x2, x3, x4, x5⟩ := M1.b.cells
    have HM := veil M1
    clear M1
    go_wp2_with (first | (go_at_call 22; refine HC.mono ?_; rintro x W2 ⟨rfl, b2⟩; clear HC x0 x1 x2 x3 x4 x5; have M2 := (unveil HM).next b2; obtain ⟨x0, x1, x2, x3, x4, x5⟩ := M2.b.cells; obtain ⟨z0, z1, z2, z3, z4, z5⟩ := M2.z.cells; have zf := M2.z.free; have HM2 := veil M2; clear M2 b2 HM) | (go_at_call 51; refine (HE _).mono ?_; rintro x w3 ⟨rfl, hw3⟩; subst w3))
    obtain ⟨W4, hW4, d4, b4, _⟩ := b_stored (unveil HM2).z (unveil HM2).bel (show w.heap.size ≤ w.heap.size + 1 by omega) 0 0 0 0 0 none 0 0
    rw [← hW4]
    exact bodyPost_ret (ret_bMade d4 rfl rfl) rfl ⟨_, Bt.zero, _, rfl, by have := unveil HG; simp [makeOf, ok, unveil H1, this], BOut.zero _ _, b4⟩
  case neg =>
  have HG : Hid (B.r = 0) := veil (by omega)
  by_cases h3 : ep ≤ B.e
  case pos =>
    go_enter Try.func27, Try.ntmps27
    go_upto_region 1 with fail
    obtain ⟨W1, hW1, M1⟩ := Mb.made w B a c
    rw [← hW1]
    clear hW1
    have HC := faultB_yes B a c W1 (hb.next M1.bel) ok
    obtain ⟨x0, x1, x2, x3, x4, x5⟩ := M1.b.cells
    have HM := veil M1
    clear M1
    go_wp2_with (first | (go_at_call 22; refine HC.mono ?_; rintro x W2 ⟨rfl, b2⟩; clear HC x0 x1 x2 x3 x4 x5; have M2 := (unveil HM).next b2; obtain ⟨x0, x1, x2, x3, x4, x5⟩ := M2.b.cells; obtain ⟨z0, z1, z2, z3, z4, z5⟩ := M2.z.cells; have zf := M2.z.free; have HM2 := veil M2; clear M2 b2 HM) | (go_at_call 51; refine (HE _).mono ?_; rintro x w3 ⟨rfl, hw3⟩; subst w3))
    obtain ⟨W4, hW4, d4, b4, _⟩ := b_stored (unveil HM2).z (unveil HM2).bel (show w.heap.size ≤ w.heap.size + 1 by omega) 0 0 0 0 0 none 0 0
    rw [← hW4]
    exact bodyPost_ret (ret_bMade d4 rfl rfl) rfl ⟨_, Bt.zero, _, rfl, by have := unveil HG; simp [makeOf, ok, unveil H1, this, h3], BOut.zero _ _, b4⟩
  case neg =>
    go_enter Try.func27, Try.ntmps27
    go_upto_region 1 with fail
    obtain ⟨W1, hW1, M1⟩ := Mb.made w B a c
    rw [← hW1]
    clear hW1
    have HC := faultB_yes B a c W1 (hb.next M1.bel) ok
    obtain ⟨x0, x1, x2, x3, x4, x5⟩ := M1.b.cells
    have HM := veil M1
    clear M1
    go_wp2_with (first | (go_at_call 22; refine HC.mono ?_; rintro x W2 ⟨rfl, b2⟩; clear HC x0 x1 x2 x3 x4 x5; have M2 := (unveil HM).next b2; obtain ⟨x0, x1, x2, x3, x4, x5⟩ := M2.b.cells; obtain ⟨z0, z1, z2, z3, z4, z5⟩ := M2.z.cells; have zf := M2.z.free; have HM2 := veil M2; clear M2 b2 HM) | (go_at_call 51; refine (HE _).mono ?_; rintro x w3 ⟨rfl, hw3⟩; subst w3))
    obtain ⟨W4, hW4, d4, b4, _⟩ := b_stored (unveil HM2).z (unveil HM2).bel (show w.heap.size ≤ w.heap.size + 1 by omega) 1 ep 0 0 0 none 0 0
    rw [← hW4]
    exact bodyPost_ret (ret_bMade d4 rfl rfl) rfl ⟨_, ⟨1, ep, 0, 0, 0, []⟩, _, rfl, by have := unveil HG; simp [makeOf, ok, unveil H1, this, h3], ⟨none, 0, rfl, ⟨RowK.nil _ _ _, Nat.le_refl _, fun _ => rfl⟩, fun x hx => by cases hx⟩, b4⟩
theorem ret_bForgotten {W : World} {R : Nat} {r e f t o : Int} {a : Option Addr} {n c : Nat} {er : Int} {tmps : Array Value} (d : bBlock W R r e f t o a n c) (t1 : tmps[4]? = some (.pointer (some ⟨R, 0, none⟩))) (t2 : tmps[5]? = some (.int .i64 er)) :
    (results Try.f33 tmps).run Try.prog W = .ok (.tuple #[bVal r e f t o a n c, .int .i64 er]) W := by
  simp [results, Try.results33, t1, t2, asAddr, load_berth d]
set_option maxRecDepth 20000 in
set_option maxHeartbeats 4000000 in
theorem bforgotten_any (B : Bt) (a : Option Addr) (c : Nat) (ep : Int) (w : World) (hb : BIn w B a c) : Calls Try.prog 33 #[bVal B.r B.e B.f B.t B.o a B.es.length c, .int .i64 ep] w fun x w' => ∃ y B' er, x = .returned (.tuple #[y, .int .i64 er]) ∧ forgetOf B ep = (B', er) ∧ BOut w w' B' y ∧ Below w.heap.size w w' := by
  by_cases ok : B.Ok
  case neg =>
    go_enter Try.func33, Try.ntmps33
    go_upto_region 1 with fail
    obtain ⟨W1, hW1, M1⟩ := Mb.made w B a c
    rw [← hW1]
    clear hW1
    have HC := faultB_no B a c W1 (hb.next M1.bel) ok
    obtain ⟨x0, x1, x2, x3, x4, x5⟩ := M1.b.cells
    have HM := veil M1
    clear M1
    go_wp2_with (first | (go_at_call 22; refine HC.mono ?_; rintro x W2 ⟨rfl, b2⟩; clear HC x0 x1 x2 x3 x4 x5; have M2 := (unveil HM).next b2; obtain ⟨x0, x1, x2, x3, x4, x5⟩ := M2.b.cells; obtain ⟨z0, z1, z2, z3, z4, z5⟩ := M2.z.cells; have zf := M2.z.free; have HM2 := veil M2; clear M2 b2 HM))
    obtain ⟨W4, hW4, d4, b4, _⟩ := b_stored (unveil HM2).z (unveil HM2).bel (show w.heap.size ≤ w.heap.size + 1 by omega) 0 0 0 0 0 none 0 0
    rw [← hW4]
    exact bodyPost_ret (ret_bForgotten d4 rfl rfl) rfl ⟨_, Bt.zero, _, rfl, by simp [forgetOf, ok], BOut.zero _ _, b4⟩
  case pos =>
  by_cases h2 : B.r = 3
  case neg =>
    go_enter Try.func33, Try.ntmps33
    go_upto_region 1 with fail
    obtain ⟨W1, hW1, M1⟩ := Mb.made w B a c
    rw [← hW1]
    clear hW1
    have HC := faultB_yes B a c W1 (hb.next M1.bel) ok
    obtain ⟨x0, x1, x2, x3, x4, x5⟩ := M1.b.cells
    have HM := veil M1
    clear M1
    go_wp2_with (first | (go_at_call 22; refine HC.mono ?_; rintro x W2 ⟨rfl, b2⟩; clear HC x0 x1 x2 x3 x4 x5; have M2 := (unveil HM).next b2; obtain ⟨x0, x1, x2, x3, x4, x5⟩ := M2.b.cells; obtain ⟨z0, z1, z2, z3, z4, z5⟩ := M2.z.cells; have zf := M2.z.free; have HM2 := veil M2; clear M2 b2 HM))
    obtain ⟨W4, hW4, d4, b4, _⟩ := b_stored (unveil HM2).z (unveil HM2).bel (show w.heap.size ≤ w.heap.size + 1 by omega) 0 0 0 0 0 none 0 0
    rw [← hW4]
    exact bodyPost_ret (ret_bForgotten d4 rfl rfl) rfl ⟨_, Bt.zero, _, rfl, by simp [forgetOf, ok, h2], BOut.zero _ _, b4⟩
  case pos =>
  by_cases h3 : ep ≤ B.e
  case pos =>
    have Vh2 := veil h2
    clear h2
    go_enter Try.func33, Try.ntmps33
    go_upto_region 1 with fail
    obtain ⟨W1, hW1, M1⟩ := Mb.made w B a c
    rw [← hW1]
    clear hW1
    have HC := faultB_yes B a c W1 (hb.next M1.bel) ok
    obtain ⟨x0, x1, x2, x3, x4, x5⟩ := M1.b.cells
    have HM := veil M1
    clear M1
    go_upto_region 2 with (go_at_call 22; refine HC.mono ?_; rintro x W2 ⟨rfl, b2⟩; clear HC x0 x1 x2 x3 x4 x5; have M2 := (unveil HM).next b2; obtain ⟨x0, x1, x2, x3, x4, x5⟩ := M2.b.cells; obtain ⟨z0, z1, z2, z3, z4, z5⟩ := M2.z.cells; have zf := M2.z.free; have HM2 := veil M2; clear M2 b2 HM)
    have h2 := unveil Vh2
    go_wp2
    obtain ⟨W4, hW4, d4, b4, _⟩ := b_stored (unveil HM2).z (unveil HM2).bel (show w.heap.size ≤ w.heap.size + 1 by omega) 0 0 0 0 0 none 0 0
    rw [← hW4]
    exact bodyPost_ret (ret_bForgotten d4 rfl rfl) rfl ⟨_, Bt.zero, _, rfl, by simp [forgetOf, ok, h2, h3], BOut.zero _ _, b4⟩
  case neg =>
    have Vh2 := veil h2
    clear h2
    go_enter Try.func33, Try.ntmps33
    go_upto_region 1 with fail
    obtain ⟨W1, hW1, M1⟩ := Mb.made w B a c
    rw [← hW1]
    clear hW1
    have HC := faultB_yes B a c W1 (hb.next M1.bel) ok
    obtain ⟨x0, x1, x2, x3, x4, x5⟩ := M1.b.cells
    have HM := veil M1
    clear M1
    go_upto_region 2 with (go_at_call 22; refine HC.mono ?_; rintro x W2 ⟨rfl, b2⟩; clear HC x0 x1 x2 x3 x4 x5; have M2 := (unveil HM).next b2; obtain ⟨x0, x1, x2, x3, x4, x5⟩ := M2.b.cells; obtain ⟨z0, z1, z2, z3, z4, z5⟩ := M2.z.cells; have zf := M2.z.free; have HM2 := veil M2; clear M2 b2 HM)
    have h2 := unveil Vh2
    go_wp2
    obtain ⟨W4, hW4, d4, b4, _⟩ := b_stored (unveil HM2).z (unveil HM2).bel (show w.heap.size ≤ w.heap.size + 1 by omega) 0 B.e 0 0 0 none 0 0
    rw [← hW4]
    exact bodyPost_ret (ret_bForgotten d4 rfl rfl) rfl ⟨_, ⟨0, B.e, 0, 0, 0, []⟩, _, rfl, by simp [forgetOf, ok, h2, h3], ⟨none, 0, rfl, ⟨RowK.nil _ _ _, Nat.le_refl _, fun _ => rfl⟩, fun x hx => by cases hx⟩, b4⟩
end Go.Proofs.Ytbhlpiomoookcaa
