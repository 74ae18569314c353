/- The document's answer's Gone. -/
import Derived.Test.YtbhlpiomoookcaaRbCz
namespace Go.Proofs.Ytbhlpiomoookcaa
open Go.RowKit
theorem ret_bGone {W : World} {R : Nat} {r e f t o : Int} {a : Option Addr} {n c : Nat} {er : Int} {tmps : Array Value} (d : bBlock W R r e f t o a n c) (t1 : tmps[4]? = some (.pointer (some ⟨R, 0, none⟩))) (t2 : tmps[5]? = some (.int .i64 er)) :
    (results Try.f29 tmps).run Try.prog W = .ok (.tuple #[bVal r e f t o a n c, .int .i64 er]) W := by
  simp [results, Try.results29, t1, t2, asAddr, load_berth d]
set_option maxRecDepth 20000 in
set_option maxHeartbeats 4000000 in
theorem bgone_any (B : Bt) (a : Option Addr) (c : Nat) (ep : Int) (w : World) (hb : BIn w B a c) (hs : B.es.length * 48 ≤ 140737488351232) : Calls Try.prog 29 #[bVal B.r B.e B.f B.t B.o a B.es.length c, .int .i64 ep] w fun x w' => ∃ y B' er, x = .returned (.tuple #[y, .int .i64 er]) ∧ goesOf B ep = (B', er) ∧ BOut w w' B' y ∧ Below w.heap.size w w' := by
  by_cases ok : B.Ok
  case neg =>
    go_enter Try.func29, Try.ntmps29
    go_upto_region 1 with fail
    obtain ⟨W1, hW1, M1⟩ := Mb.made w B a c
    rw [← hW1]
    clear hW1
    have HC := faultB_no B a c W1 (hb.next M1.bel) ok
    obtain ⟨x0, x1, x2, x3, x4, x5⟩ := M1.b.cells
    have HM := veil M1
    clear M1
    go_wp2_with (first | (go_at_call 22; refine HC.mono ?_; rintro x W2 ⟨rfl, b2⟩; clear HC x0 x1 x2 x3 x4 x5; have M2 := (unveil HM).next b2; obtain ⟨x0, x1, x2, x3, x4, x5⟩ := M2.b.cells; obtain ⟨z0, z1, z2, z3, z4, z5⟩ := M2.z.cells; have zf := M2.z.free; have HM2 := veil M2; clear M2 b2 HM))
    obtain ⟨W4, hW4, d4, b4, _⟩ := b_stored (unveil HM2).z (unveil HM2).bel (show w.heap.size ≤ w.heap.size + 1 by omega) 0 0 0 0 0 none 0 0
    rw [← hW4]
    exact bodyPost_ret (ret_bGone d4 rfl rfl) rfl ⟨_, Bt.zero, _, rfl, by simp [goesOf, ok], BOut.zero _ _, b4⟩
  case pos =>
  by_cases h1 : 0 ≤ ep ∧ ep ≤ 4
  case neg =>
    have HE := inB_no ep 0 4 h1
    go_enter Try.func29, Try.ntmps29
    go_upto_region 1 with fail
    obtain ⟨W1, hW1, M1⟩ := Mb.made w B a c
    rw [← hW1]
    clear hW1
    have HC := faultB_yes B a c W1 (hb.next M1.bel) ok
    obtain ⟨x0, x1, x2, x3, x4, x5⟩ := M1.b.cells
    have HM := veil M1
    clear M1
    go_wp2_with (first | (go_at_call 22; refine HC.mono ?_; rintro x W2 ⟨rfl, b2⟩; clear HC x0 x1 x2 x3 x4 x5; have M2 := (unveil HM).next b2; obtain ⟨x0, x1, x2, x3, x4, x5⟩ := M2.b.cells; obtain ⟨z0, z1, z2, z3, z4, z5⟩ := M2.z.cells; have zf := M2.z.free; have HM2 := veil M2; clear M2 b2 HM) | (go_at_call 51; refine (HE _).mono ?_; rintro x w3 ⟨rfl, hw3⟩; subst w3))
    obtain ⟨W4, hW4, d4, b4, _⟩ := b_stored (unveil HM2).z (unveil HM2).bel (show w.heap.size ≤ w.heap.size + 1 by omega) 0 0 0 0 0 none 0 0
    rw [← hW4]
    exact bodyPost_ret (ret_bGone d4 rfl rfl) rfl ⟨_, Bt.zero, _, rfl, by simp [goesOf, ok, h1], BOut.zero _ _, b4⟩
  case pos =>
  have HE := inB_yes ep 0 4 h1
  have H1 := veil h1
  clear h1
  by_cases h2 : B.r = 2
  case pos =>
    have Vh2 := veil h2
    clear h2
    go_enter Try.func29, Try.ntmps29
    go_upto_region 1 with fail
    obtain ⟨W1, hW1, M1⟩ := Mb.made w B a c
    rw [← hW1]
    clear hW1
    have HC := faultB_yes B a c W1 (hb.next M1.bel) ok
    obtain ⟨x0, x1, x2, x3, x4, x5⟩ := M1.b.cells
    have HM := veil M1
    clear M1
    go_upto_region 2 with (go_at_call 22; refine HC.mono ?_; rintro x W2 ⟨rfl, b2⟩; clear HC x0 x1 x2 x3 x4 x5; have M2 := (unveil HM).next b2; obtain ⟨x0, x1, x2, x3, x4, x5⟩ := M2.b.cells; obtain ⟨z0, z1, z2, z3, z4, z5⟩ := M2.z.cells; have zf := M2.z.free; have HM2 := veil M2; clear M2 b2 HM)
    have h2 := unveil Vh2
    go_wp2_with (first | (go_at_call 51; refine (HE _).mono ?_; rintro x w3 ⟨rfl, hw3⟩; subst w3))
    obtain ⟨W4, hW4, d4, b4, _⟩ := b_stored (unveil HM2).z (unveil HM2).bel (show w.heap.size ≤ w.heap.size + 1 by omega) 0 0 0 0 0 none 0 0
    rw [← hW4]
    exact bodyPost_ret (ret_bGone d4 rfl rfl) rfl ⟨_, Bt.zero, _, rfl, by simp [goesOf, ok, unveil H1, h2], BOut.zero _ _, b4⟩
  case neg =>
  by_cases h3 : B.r = 3
  case pos =>
    have Vh3 := veil h3
    clear h3
    go_enter Try.func29, Try.ntmps29
    go_upto_region 1 with fail
    obtain ⟨W1, hW1, M1⟩ := Mb.made w B a c
    rw [← hW1]
    clear hW1
    have HC := faultB_yes B a c W1 (hb.next M1.bel) ok
    obtain ⟨x0, x1, x2, x3, x4, x5⟩ := M1.b.cells
    have HM := veil M1
    clear M1
    go_upto_region 2 with (go_at_call 22; refine HC.mono ?_; rintro x W2 ⟨rfl, b2⟩; clear HC x0 x1 x2 x3 x4 x5; have M2 := (unveil HM).next b2; obtain ⟨x0, x1, x2, x3, x4, x5⟩ := M2.b.cells; obtain ⟨z0, z1, z2, z3, z4, z5⟩ := M2.z.cells; have zf := M2.z.free; have HM2 := veil M2; clear M2 b2 HM)
    have h3 := unveil Vh3
    go_wp2_with (first | (go_at_call 51; refine (HE _).mono ?_; rintro x w3 ⟨rfl, hw3⟩; subst w3))
    obtain ⟨W4, hW4, d4, b4, _⟩ := b_stored (unveil HM2).z (unveil HM2).bel (show w.heap.size ≤ w.heap.size + 1 by omega) 0 0 0 0 0 none 0 0
    rw [← hW4]
    exact bodyPost_ret (ret_bGone d4 rfl rfl) rfl ⟨_, Bt.zero, _, rfl, by simp [goesOf, ok, unveil H1, h3], BOut.zero _ _, b4⟩
  case neg =>
  by_cases h4 : B.r = 1
  case neg =>
    have h4b : (B.r != 1) = true := by simp [h4]
    have h2b : (B.r == 2) = false := by simp [h2]
    have h3b : (B.r == 3) = false := by simp [h3]
    go_enter Try.func29, Try.ntmps29
    go_upto_region 1 with fail
    obtain ⟨W1, hW1, M1⟩ := Mb.made w B a c
    rw [← hW1]
    clear hW1
    have HC := faultB_yes B a c W1 (hb.next M1.bel) ok
    obtain ⟨x0, x1, x2, x3, x4, x5⟩ := M1.b.cells
    have HM := veil M1
    clear M1
    go_wp2_with (first | (go_at_call 22; refine HC.mono ?_; rintro x W2 ⟨rfl, b2⟩; clear HC x0 x1 x2 x3 x4 x5; have M2 := (unveil HM).next b2; obtain ⟨x0, x1, x2, x3, x4, x5⟩ := M2.b.cells; obtain ⟨z0, z1, z2, z3, z4, z5⟩ := M2.z.cells; have zf := M2.z.free; have HM2 := veil M2; clear M2 b2 HM) | (go_at_call 51; refine (HE _).mono ?_; rintro x w3 ⟨rfl, hw3⟩; subst w3))
    obtain ⟨W4, hW4, d4, b4, _⟩ := b_stored (unveil HM2).z (unveil HM2).bel (show w.heap.size ≤ w.heap.size + 1 by omega) 0 0 0 0 0 none 0 0
    rw [← hW4]
    exact bodyPost_ret (ret_bGone d4 rfl rfl) rfl ⟨_, Bt.zero, _, rfl, by simp [goesOf, ok, unveil H1, h2, h3, h4], BOut.zero _ _, b4⟩
  case pos =>
  by_cases h5 : B.e = 1048576
  case pos =>
    have Vh4 := veil h4
    clear h4
    have Vh5 := veil h5
    clear h5
    go_enter Try.func29, Try.ntmps29
    go_upto_region 1 with fail
    obtain ⟨W1, hW1, M1⟩ := Mb.made w B a c
    rw [← hW1]
    clear hW1
    have HC := faultB_yes B a c W1 (hb.next M1.bel) ok
    obtain ⟨x0, x1, x2, x3, x4, x5⟩ := M1.b.cells
    have HM := veil M1
    clear M1
    go_upto_region 2 with (go_at_call 22; refine HC.mono ?_; rintro x W2 ⟨rfl, b2⟩; clear HC x0 x1 x2 x3 x4 x5; have M2 := (unveil HM).next b2; obtain ⟨x0, x1, x2, x3, x4, x5⟩ := M2.b.cells; obtain ⟨z0, z1, z2, z3, z4, z5⟩ := M2.z.cells; have zf := M2.z.free; have HM2 := veil M2; clear M2 b2 HM)
    have h4 := unveil Vh4
    have h5 := unveil Vh5
    go_wp2_with (first | (go_at_call 51; refine (HE _).mono ?_; rintro x w3 ⟨rfl, hw3⟩; subst w3))
    obtain ⟨W4, hW4, d4, b4, _⟩ := b_stored (unveil HM2).z (unveil HM2).bel (show w.heap.size ≤ w.heap.size + 1 by omega) 0 0 0 0 0 none 0 0
    rw [← hW4]
    exact bodyPost_ret (ret_bGone d4 rfl rfl) rfl ⟨_, Bt.zero, _, rfl, by simp [goesOf, ok, unveil H1, h4, h5], BOut.zero _ _, b4⟩
  case neg =>
    have HG : Hid (goesOf B ep = (⟨2, B.e, 0, ep, 0, B.es⟩, 0)) := veil (by
      have hst := ok.stand
      unfold Bt.Stand standP at hst
      have hf0 : B.f = 0 := by omega
      have ho0 : B.o = 0 := by omega
      simp [goesOf, ok, unveil H1, h4, h5, hf0, ho0])
    have Vh4 := veil h4
    clear h4
    go_enter Try.func29, Try.ntmps29
    go_upto_region 1 with fail
    obtain ⟨W1, hW1, M1⟩ := Mb.made w B a c
    rw [← hW1]
    clear hW1
    have HC := faultB_yes B a c W1 (hb.next M1.bel) ok
    obtain ⟨x0, x1, x2, x3, x4, x5⟩ := M1.b.cells
    have HM := veil M1
    clear M1
    go_upto_region 2 with (go_at_call 22; refine HC.mono ?_; rintro x W2 ⟨rfl, b2⟩; clear HC x0 x1 x2 x3 x4 x5; have M2 := (unveil HM).next b2; obtain ⟨x0, x1, x2, x3, x4, x5⟩ := M2.b.cells; obtain ⟨z0, z1, z2, z3, z4, z5⟩ := M2.z.cells; have zf := M2.z.free; have HM2 := veil M2; clear M2 b2 HM)
    have h4 := unveil Vh4
    go_upto_region 12 with (first | (go_at_call 51; refine (HE _).mono ?_; rintro x w3 ⟨rfl, hw3⟩; subst w3))
    have HCp : Hid (∀ W, Below W2.heap.size W2 W → Calls Try.prog 45 #[.slice a B.es.length c] W fun e w' => ∃ v, e = .returned v ∧ w'.ownsRow W.heap.size 33 6 v B.es.length ((evFlat B.es).map (Value.int .i64)) ∧ Below W.heap.size W w') := veil fun W hw => eventsCopy_any a B.es.length c (evFlat B.es) W ((hb.row.below (unveil HM2).bel).below hw) hs
    have hWf := veil hb.row.wf
    clear hb h2 h3 h4 h5
    first | go_region_with (first | (go_at_call 45; refine (unveil HCp _ (by first | with_reducible exact below_drew _ | exact below_drew _)).mono ?_; rintro x W5 ⟨v5, rfl, o5, b5⟩; obtain ⟨a5, c5, rfl, r5, l5, n5, f5⟩ := own_events (unveil hWf) rfl o5; have B5 : Below W2.heap.size W2 W5 := (by first | with_reducible exact Below.next (below_drew _) b5 | exact Below.next (below_drew _) b5); have M5 := (unveil HM2).next B5; have hlt5 := (unveil HM2).z.lt; have f5' : ∀ x, a5 = some x → W2.heap.size ≤ x.block := (fun x hx => by have := f5 x hx; simpa using this); clear x0 x1 x2 x3 x4 x5 z0 z1 z2 z3 z4 z5 zf; obtain ⟨x0, x1, x2, x3, x4, x5⟩ := M5.b.cells; obtain ⟨z0, z1, z2, z3, z4, z5⟩ := M5.z.cells; have zf := M5.z.free; have HM5 := veil M5; clear M5 B5 o5 b5 f5)) | fail
    all_goals (try go_wp2)
    all_goals
      obtain ⟨W6, hW6, d6, b6, T6⟩ := b_stored (unveil HM5).z (unveil HM5).bel (show w.heap.size ≤ w.heap.size + 1 by omega) 2 B.e 0 ep 0 a5 B.es.length c5
      rw [← hW6]
      exact bodyPost_ret (ret_bGone d6 rfl rfl) rfl ⟨_, _, _, rfl, unveil HG, ⟨a5, c5, rfl, ⟨T6.row r5 (fun x hx _ => by have := f5' x hx; omega), l5, n5⟩, fun x hx => by have := f5' x hx; omega⟩, b6⟩
end Go.Proofs.Ytbhlpiomoookcaa
