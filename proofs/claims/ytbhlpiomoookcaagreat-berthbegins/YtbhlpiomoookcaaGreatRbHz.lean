/- The document's answer's CaughtUp and Begun. -/
import Derived.Test.YtbhlpiomoookcaaGreatRbCF
namespace Go.Proofs.YtbhlpiomoookcaaGreat
open Go.RowKit
theorem ret_bCaughtUp {W : World} {R : Nat} {r e f t o : Int} {a : Option Addr} {n c : Nat} {er : Int} {tmps : Array Value} (d : bBlock W R r e f t o a n c) (t1 : tmps[4]? = some (.pointer (some ⟨R, 0, none⟩))) (t2 : tmps[5]? = some (.int .i64 er)) :
    (results Tryz.f8 tmps).run Tryz.prog W = .ok (.tuple #[bVal r e f t o a n c, .int .i64 er]) W := by
  simp [results, Tryz.results8, t1, t2, asAddr, load_berth d]
section
variable {w wx : World} {X Z base : Nat} {es : List Ev} {r e f t o : Int} {a : Option Addr} {c : Nat}
theorem Ob.put4 (h : Ob w wx X base es r e f t o a c) (hZ : Z < base) (z : bBlock wx Z 0 0 0 0 0 none 0 0) (bel : Below w.heap.size w wx) (y : Int) :
    ∃ W, W = wx.setCell ⟨X, 4, none⟩ (.int .i64 y) ∧ Ob w W X base es r e f t y a c ∧ bBlock W Z 0 0 0 0 0 none 0 0 ∧ Below w.heap.size w W ∧ Turned X wx W := by
  have T1 := Turned.set X 4 wx (.int .i64 y)
  have d1 : bBlock (wx.setCell ⟨X, 4, none⟩ (.int .i64 y)) X r e f t y a es.length c := by
    have := heap_setB (k := 4) (v := .int .i64 y) h.b
    unfold bBlock; rw [this]; rfl
  have := h.up
  have := h.upX
  exact ⟨_, rfl, h.set T1 d1, z.turned T1 (by omega), T1.under bel (by omega), T1⟩
theorem Ob.put0 (h : Ob w wx X base es r e f t o a c) (hZ : Z < base) (z : bBlock wx Z 0 0 0 0 0 none 0 0) (bel : Below w.heap.size w wx) (y : Int) :
    ∃ W, W = wx.setCell ⟨X, 0, none⟩ (.int .i64 y) ∧ Ob w W X base es y e f t o a c ∧ bBlock W Z 0 0 0 0 0 none 0 0 ∧ Below w.heap.size w W ∧ Turned X wx W := by
  have T1 := Turned.set X 0 wx (.int .i64 y)
  have d1 : bBlock (wx.setCell ⟨X, 0, none⟩ (.int .i64 y)) X y e f t o a es.length c := by
    have := heap_setB (k := 0) (v := .int .i64 y) h.b
    unfold bBlock; rw [this]; rfl
  have := h.up
  have := h.upX
  exact ⟨_, rfl, h.set T1 d1, z.turned T1 (by omega), T1.under bel (by omega), T1⟩
end
set_option maxRecDepth 20000 in
set_option maxHeartbeats 4000000 in
theorem bcaughtUp_any (B : Bt) (a : Option Addr) (c : Nat) (hv : Int) (w : World) (hb : BIn w B a c) (hs : B.es.length * 48 ≤ 140737488351232) : Calls Tryz.prog 8 #[bVal B.r B.e B.f B.t B.o a B.es.length c, .int .i64 hv] w fun x w' => ∃ y B' er, x = .returned (.tuple #[y, .int .i64 er]) ∧ caughtOf B hv = (B', er) ∧ BOut w w' B' y ∧ Below w.heap.size w w' := by
  obtain ⟨g, hg⟩ : ∃ g, tellOf B hv = g := ⟨_, rfl⟩
  have HG := veil hg
  go_enter Tryz.func8, Tryz.ntmps8
  go_upto_region 1 with fail
  obtain ⟨W1, hW1, M1⟩ := Mb.made w B a c
  rw [← hW1]
  clear hW1
  have HC := leaving_any B a c hv W1 (hb.next M1.bel)
  rw [hg] at HC
  obtain ⟨x0, x1, x2, x3, x4, x5⟩ := M1.b.cells
  have HM := veil M1
  clear M1 hg
  go_upto_region 2 with (go_at_call 20; refine HC.mono ?_; rintro x W2 ⟨rfl, b2⟩; clear HC x0 x1 x2 x3 x4 x5; have M2 := (unveil HM).next b2; obtain ⟨x0, x1, x2, x3, x4, x5⟩ := M2.b.cells; obtain ⟨z0, z1, z2, z3, z4, z5⟩ := M2.z.cells; have zf := M2.z.free; have HM2 := veil M2; clear M2 b2 HM)
  by_cases h0 : g = 0
  case neg =>
    go_wp2
    obtain ⟨W4, hW4, d4, b4, _⟩ := b_stored (unveil HM2).z (unveil HM2).bel (show w.heap.size ≤ w.heap.size + 1 by omega) 0 0 0 0 0 none 0 0
    rw [← hW4]
    exact bodyPost_ret (ret_bCaughtUp d4 rfl rfl) rfl ⟨_, Bt.zero, g, rfl, by have := unveil HG; simp [caughtOf, this, h0], BOut.zero _ _, b4⟩
  case pos =>
  subst h0
  obtain ⟨ok, hr23, hh0, hh1⟩ := tell_zero (unveil HG)
  have hlen : B.es.length ≤ 2000 := ok.len
  have hst := ok.stand
  unfold Bt.Stand standP at hst
  have HCp := veil (bcopy_own B a c W2 (hb.next (unveil HM2).bel) hs)
  have hWf := veil hb.row.wf
  clear hb ok
  go_upto_region 4 with fail
  go_upto_region 5 with (go_at_call 16; refine (unveil HCp).mono ?_; rintro x W3 ⟨a3, c3, rfl, o3, i3, f3, b3⟩; have M3 := (unveil HM2).next b3; have hlt3 := (unveil HM2).z.lt; have hb3 := b3.size; clear HCp x0 x1 x2 x3 x4 x5 z0 z1 z2 z3 z4 z5 zf; have HO3 := veil o3; have HM3 := veil M3; clear HM2 M3 o3 i3 f3 b3)
  obtain ⟨W4, hW4, d4, b4⟩ : ∃ W, W = W3.alloc (.cells (bCells B.r B.e B.f B.t B.o a3 B.es.length c3) 24) ∧ bBlock W W3.heap.size B.r B.e B.f B.t B.o a3 B.es.length c3 ∧ Below W3.heap.size W3 W := ⟨_, rfl, bBlock.new _ _ _ _ _ _ _ _ _, below1 _ _⟩
  rw [← hW4]
  clear hW4
  have M4 := (unveil HM3).next b4
  have O4 : Ob w W4 W3.heap.size W2.heap.size B.es B.r B.e B.f B.t B.o a3 c3 := ⟨d4, own_still (unveil HO3) (fun g _ hg => b4.block g hg), by omega, hb3⟩
  have hX4 := d4.lt
  obtain ⟨X, hX⟩ : ∃ X, X = W3.heap.size := ⟨_, rfl⟩
  rw [← hX] at O4 hX4 hb3 ⊢
  clear hX d4 HM3 HO3 b4
  obtain ⟨x0, x1, x2, x3, x4, x5⟩ := M4.b.cells
  obtain ⟨y0, y1, y2, y3, y4, y5⟩ := O4.b.cells
  have yf := O4.b.free
  obtain ⟨z0, z1, z2, z3, z4, z5⟩ := M4.z.cells
  have zf := M4.z.free
  have HM4 := veil M4
  have HO4 := veil O4
  clear M4 O4
  by_cases hr2 : B.r = 2
  case neg =>
    have hr2b : (B.r == 2) = false := by simp [hr2]
    have HR3 : Hid (B.r = 3) := veil (by omega)
    clear hr23 hst hr2
    go_wp2
    obtain ⟨W5, hW5, d5, b5, T5⟩ := b_stored (unveil HM4).z (unveil HM4).bel (show w.heap.size ≤ w.heap.size + 1 by omega) B.r B.e B.f B.t B.o a3 B.es.length c3
    rw [← hW5]
    obtain ⟨r4, l4, n4, f4⟩ := (unveil HO4).row (unveil hWf)
    exact bodyPost_ret (ret_bCaughtUp d5 rfl rfl) rfl ⟨_, B, 0, rfl, by have h1 := unveil HG; have h2 := unveil HR3; simp [caughtOf, h1, h2], ⟨a3, c3, rfl, ⟨T5.row r4 (fun x hx _ => by have := f4 x hx; omega), l4, n4⟩, fun x hx => by have := f4 x hx; omega⟩, b5⟩
  case pos =>
  have ho : 0 ≤ B.o ∧ B.o ≤ 4 := by omega
  have HR2 := veil hr2
  have hr2b : (B.r == 2) = true := by simp [hr2]
  clear hr23 hst hr2
  go_upto_region 7 with fail
  obtain ⟨W5, hW5, O5, z5', B5, T5⟩ := Ob.put4 (unveil HO4) (show w.heap.size + 1 < W2.heap.size from hlt3) (unveil HM4).z (unveil HM4).bel (B.o + 1)
  rw [← hW5]
  have d5 := (unveil HM4).b.turned T5 (by omega)
  clear hW5 x0 x1 x2 x3 x4 x5 y0 y1 y2 y3 y4 y5 z0 z1 z2 z3 z4 z5 zf yf HM4 HO4 hX4 T5
  obtain ⟨x0, x1, x2, x3, x4, x5⟩ := d5.cells
  obtain ⟨y0, y1, y2, y3, y4, y5⟩ := O5.b.cells
  have yf := O5.b.free
  have HO5 := veil O5
  have HZ5 := veil z5'
  have HB5 := veil B5
  clear O5 z5' B5 d5
  have hcase : hv = (B.es.length : Int) ∨ (¬ hv = (B.es.length : Int) ∧ B.o = 4) ∨ (¬ hv = (B.es.length : Int) ∧ ¬ B.o = 4) := by omega
  rcases hcase with hq | ⟨hq, ho4⟩ | ⟨hq, ho4⟩
  · have hqb : (hv == (B.es.length : Int)) = true := by simp [hq]
    have HQ := veil hq
    clear hq
    go_upto_region 10 with fail
    obtain ⟨W6, hW6, O6, z6, B6, T6⟩ := Ob.put0 (unveil HO5) (show w.heap.size + 1 < W2.heap.size from hlt3) (unveil HZ5) (unveil HB5) 3
    rw [← hW6]
    obtain ⟨W7, hW7, O7, z7, B7, T7⟩ := Ob.put4 O6 (show w.heap.size + 1 < W2.heap.size from hlt3) z6 B6 0
    rw [← hW7]
    clear hW6 hW7 T6 T7 O6 z6 B6 x0 x1 x2 x3 x4 x5 y0 y1 y2 y3 y4 y5 yf
    obtain ⟨y0, y1, y2, y3, y4, y5⟩ := O7.b.cells
    obtain ⟨z0, z1, z2, z3, z4, z5⟩ := z7.cells
    have zf := z7.free
    have HO7 := veil O7
    have HZ7 := veil z7
    have HB7 := veil B7
    clear O7 z7 B7
    go_wp2
    obtain ⟨W8, hW8, d8, b8, T8⟩ := b_stored (unveil HZ7) (unveil HB7) (show w.heap.size ≤ w.heap.size + 1 by omega) 3 B.e B.f B.t 0 a3 B.es.length c3
    rw [← hW8]
    obtain ⟨r4, l4, n4, f4⟩ := (unveil HO7).row (unveil hWf)
    exact bodyPost_ret (ret_bCaughtUp d8 rfl rfl) rfl ⟨_, ⟨3, B.e, B.f, B.t, 0, B.es⟩, 0, rfl, by unfold caughtOf; rw [if_neg (fun h => h (unveil HG)), if_neg (by have := unveil HR2; omega), if_pos (Or.inl (unveil HQ))], ⟨a3, c3, rfl, ⟨T8.row r4 (fun x hx _ => by have := f4 x hx; omega), l4, n4⟩, fun x hx => by have := f4 x hx; omega⟩, b8⟩
  · have hqb : (hv == (B.es.length : Int)) = false := by simp [hq]
    have h4 : (4 : Int) < B.o + 1 := by omega
    have HQ := veil ho4
    clear hq ho4
    go_upto_region 10 with fail
    obtain ⟨W6, hW6, O6, z6, B6, T6⟩ := Ob.put0 (unveil HO5) (show w.heap.size + 1 < W2.heap.size from hlt3) (unveil HZ5) (unveil HB5) 3
    rw [← hW6]
    obtain ⟨W7, hW7, O7, z7, B7, T7⟩ := Ob.put4 O6 (show w.heap.size + 1 < W2.heap.size from hlt3) z6 B6 0
    rw [← hW7]
    clear hW6 hW7 T6 T7 O6 z6 B6 x0 x1 x2 x3 x4 x5 y0 y1 y2 y3 y4 y5 yf
    obtain ⟨y0, y1, y2, y3, y4, y5⟩ := O7.b.cells
    obtain ⟨z0, z1, z2, z3, z4, z5⟩ := z7.cells
    have zf := z7.free
    have HO7 := veil O7
    have HZ7 := veil z7
    have HB7 := veil B7
    clear O7 z7 B7
    go_wp2
    obtain ⟨W8, hW8, d8, b8, T8⟩ := b_stored (unveil HZ7) (unveil HB7) (show w.heap.size ≤ w.heap.size + 1 by omega) 3 B.e B.f B.t 0 a3 B.es.length c3
    rw [← hW8]
    obtain ⟨r4, l4, n4, f4⟩ := (unveil HO7).row (unveil hWf)
    exact bodyPost_ret (ret_bCaughtUp d8 rfl rfl) rfl ⟨_, ⟨3, B.e, B.f, B.t, 0, B.es⟩, 0, rfl, by have h1 := unveil HG; have h2 := unveil HR2; have h3 := unveil HQ; simp [caughtOf, h1, h2, h3], ⟨a3, c3, rfl, ⟨T8.row r4 (fun x hx _ => by have := f4 x hx; omega), l4, n4⟩, fun x hx => by have := f4 x hx; omega⟩, b8⟩
  · have hqb : (hv == (B.es.length : Int)) = false := by simp [hq]
    have h4 : ¬ (4 : Int) < B.o + 1 := by omega
    have HQ := veil hq
    have HQ4 := veil ho4
    clear hq ho4
    go_upto_region 10 with fail
    obtain ⟨z0, z1, z2, z3, z4, z5⟩ := (unveil HZ5).cells
    have zf := (unveil HZ5).free
    go_wp2
    obtain ⟨W8, hW8, d8, b8, T8⟩ := b_stored (unveil HZ5) (unveil HB5) (show w.heap.size ≤ w.heap.size + 1 by omega) B.r B.e B.f B.t (B.o + 1) a3 B.es.length c3
    rw [← hW8]
    obtain ⟨r4, l4, n4, f4⟩ := (unveil HO5).row (unveil hWf)
    exact bodyPost_ret (ret_bCaughtUp d8 rfl rfl) rfl ⟨_, ⟨B.r, B.e, B.f, B.t, B.o + 1, B.es⟩, 0, rfl, by have h1 := unveil HG; have h2 := unveil HR2; have h3 := unveil HQ; have h5 := unveil HQ4; simp [caughtOf, h1, h2, h3, h5], ⟨a3, c3, rfl, ⟨T8.row r4 (fun x hx _ => by have := f4 x hx; omega), l4, n4⟩, fun x hx => by have := f4 x hx; omega⟩, b8⟩
theorem ret_bBegun {W : World} {R : Nat} {r e f t o : Int} {a : Option Addr} {n c : Nat} {er : Int} {tmps : Array Value} (d : bBlock W R r e f t o a n c) (t1 : tmps[6]? = some (.pointer (some ⟨R, 0, none⟩))) (t2 : tmps[7]? = some (.int .i64 er)) :
    (results Tryz.f11 tmps).run Tryz.prog W = .ok (.tuple #[bVal r e f t o a n c, .int .i64 er]) W := by
  simp [results, Tryz.results11, t1, t2, asAddr, load_berth d]
set_option maxRecDepth 20000 in
set_option maxHeartbeats 4000000 in
theorem bbegun_any (B : Bt) (a : Option Addr) (c : Nat) (ep fr : Int) (w : World) (hb : BIn w B a c) (hs : B.es.length * 48 ≤ 140737488351232) : Calls Tryz.prog 11 #[bVal B.r B.e B.f B.t B.o a B.es.length c, .int .i64 ep, .int .i64 fr] w fun x w' => ∃ y B' er, x = .returned (.tuple #[y, .int .i64 er]) ∧ beginOf B ep fr = (B', er) ∧ BOut w w' B' y ∧ Below w.heap.size w w' := by
  by_cases ok : B.Ok
  case neg =>
    go_enter Tryz.func11, Tryz.ntmps11
    go_upto_region 1 with fail
    obtain ⟨W1, hW1, M1⟩ := Mb.made w B a c
    rw [← hW1]
    clear hW1
    have HC := faultB_no B a c W1 (hb.next M1.bel) ok
    obtain ⟨x0, x1, x2, x3, x4, x5⟩ := M1.b.cells
    have HM := veil M1
    clear M1
    go_upto_region 2 with (go_at_call 25; refine HC.mono ?_; rintro x W2 ⟨rfl, b2⟩; clear HC x0 x1 x2 x3 x4 x5; have M2 := (unveil HM).next b2; obtain ⟨x0, x1, x2, x3, x4, x5⟩ := M2.b.cells; obtain ⟨z0, z1, z2, z3, z4, z5⟩ := M2.z.cells; have zf := M2.z.free; have HM2 := veil M2; clear M2 b2 HM)
    go_wp2
    obtain ⟨W4, hW4, d4, b4, _⟩ := b_stored (unveil HM2).z (unveil HM2).bel (show w.heap.size ≤ w.heap.size + 1 by omega) 0 0 0 0 0 none 0 0
    rw [← hW4]
    exact bodyPost_ret (ret_bBegun d4 rfl rfl) rfl ⟨_, Bt.zero, _, rfl, by simp [beginOf, ok], BOut.zero _ _, b4⟩
  case pos =>
  by_cases h1 : 1 ≤ ep ∧ ep ≤ 1048576
  case neg =>
    have HE1 := inB_no ep 1 1048576 h1
    have H1 := veil h1
    clear h1
    go_enter Tryz.func11, Tryz.ntmps11
    go_upto_region 1 with fail
    obtain ⟨W1, hW1, M1⟩ := Mb.made w B a c
    rw [← hW1]
    clear hW1
    have HC := faultB_yes B a c W1 (hb.next M1.bel) ok
    obtain ⟨x0, x1, x2, x3, x4, x5⟩ := M1.b.cells
    have HM := veil M1
    clear M1
    go_upto_region 2 with (go_at_call 25; refine HC.mono ?_; rintro x W2 ⟨rfl, b2⟩; clear HC x0 x1 x2 x3 x4 x5; have M2 := (unveil HM).next b2; obtain ⟨x0, x1, x2, x3, x4, x5⟩ := M2.b.cells; obtain ⟨z0, z1, z2, z3, z4, z5⟩ := M2.z.cells; have zf := M2.z.free; have HM2 := veil M2; clear M2 b2 HM)
    go_wp2_with (first | (go_at_call 26; refine (HE1 _).mono ?_; rintro x w3 ⟨rfl, hw3⟩; subst w3; clear HE1))
    obtain ⟨W4, hW4, d4, b4, _⟩ := b_stored (unveil HM2).z (unveil HM2).bel (show w.heap.size ≤ w.heap.size + 1 by omega) 0 0 0 0 0 none 0 0
    rw [← hW4]
    exact bodyPost_ret (ret_bBegun d4 rfl rfl) rfl ⟨_, Bt.zero, _, rfl, by have h1 := unveil H1; simp only [beginOf]; rw [if_neg (by simpa using ok), if_pos (fun h => h1 h.1)], BOut.zero _ _, b4⟩
  case pos =>
  have HE1 := inB_yes ep 1 1048576 h1
  have H1 := veil h1
  clear h1
  by_cases h2 : 0 ≤ fr ∧ fr ≤ 4
  case neg =>
    have HE2 := inB_no fr 0 4 h2
    have H2 := veil h2
    clear h2
    go_enter Tryz.func11, Tryz.ntmps11
    go_upto_region 1 with fail
    obtain ⟨W1, hW1, M1⟩ := Mb.made w B a c
    rw [← hW1]
    clear hW1
    have HC := faultB_yes B a c W1 (hb.next M1.bel) ok
    obtain ⟨x0, x1, x2, x3, x4, x5⟩ := M1.b.cells
    have HM := veil M1
    clear M1
    go_upto_region 2 with (go_at_call 25; refine HC.mono ?_; rintro x W2 ⟨rfl, b2⟩; clear HC x0 x1 x2 x3 x4 x5; have M2 := (unveil HM).next b2; obtain ⟨x0, x1, x2, x3, x4, x5⟩ := M2.b.cells; obtain ⟨z0, z1, z2, z3, z4, z5⟩ := M2.z.cells; have zf := M2.z.free; have HM2 := veil M2; clear M2 b2 HM)
    go_wp2_with (first | (go_at_call 26; refine (HE1 _).mono ?_; rintro x w3 ⟨rfl, hw3⟩; subst w3; clear HE1) | (go_at_call 26; refine (HE2 _).mono ?_; rintro x w3 ⟨rfl, hw3⟩; subst w3; clear HE2))
    obtain ⟨W4, hW4, d4, b4, _⟩ := b_stored (unveil HM2).z (unveil HM2).bel (show w.heap.size ≤ w.heap.size + 1 by omega) 0 0 0 0 0 none 0 0
    rw [← hW4]
    exact bodyPost_ret (ret_bBegun d4 rfl rfl) rfl ⟨_, Bt.zero, _, rfl, by have h2 := unveil H2; simp only [beginOf]; rw [if_neg (by simpa using ok), if_pos (fun h => h2 h.2)], BOut.zero _ _, b4⟩
  case pos =>
  have HE2 := inB_yes fr 0 4 h2
  have H2 := veil h2
  clear h2
  have H12 : Hid (¬ ¬ ((1 ≤ ep ∧ ep ≤ 1048576) ∧ (0 ≤ fr ∧ fr ≤ 4))) := veil (fun h => h ⟨unveil H1, unveil H2⟩)
  by_cases h3 : 1 ≤ B.r ∧ B.r ≤ 3
  case pos =>
    have HE3 := inB_yes B.r 1 3 h3
    have H3 := veil h3
    clear h3
    go_enter Tryz.func11, Tryz.ntmps11
    go_upto_region 1 with fail
    obtain ⟨W1, hW1, M1⟩ := Mb.made w B a c
    rw [← hW1]
    clear hW1
    have HC := faultB_yes B a c W1 (hb.next M1.bel) ok
    obtain ⟨x0, x1, x2, x3, x4, x5⟩ := M1.b.cells
    have HM := veil M1
    clear M1
    go_upto_region 2 with (go_at_call 25; refine HC.mono ?_; rintro x W2 ⟨rfl, b2⟩; clear HC x0 x1 x2 x3 x4 x5; have M2 := (unveil HM).next b2; obtain ⟨x0, x1, x2, x3, x4, x5⟩ := M2.b.cells; obtain ⟨z0, z1, z2, z3, z4, z5⟩ := M2.z.cells; have zf := M2.z.free; have HM2 := veil M2; clear M2 b2 HM)
    go_wp2_with (first | (go_at_call 26; refine (HE1 _).mono ?_; rintro x w3 ⟨rfl, hw3⟩; subst w3; clear HE1) | (go_at_call 26; refine (HE2 _).mono ?_; rintro x w3 ⟨rfl, hw3⟩; subst w3; clear HE2) | (go_at_call 26; refine (HE3 _).mono ?_; rintro x w3 ⟨rfl, hw3⟩; subst w3; clear HE3))
    obtain ⟨W4, hW4, d4, b4, _⟩ := b_stored (unveil HM2).z (unveil HM2).bel (show w.heap.size ≤ w.heap.size + 1 by omega) 0 0 0 0 0 none 0 0
    rw [← hW4]
    exact bodyPost_ret (ret_bBegun d4 rfl rfl) rfl ⟨_, Bt.zero, _, rfl, by have h3 := unveil H3; simp only [beginOf]; rw [if_neg (by simpa using ok), if_neg (unveil H12), if_pos (by omega)], BOut.zero _ _, b4⟩
  case neg =>
  have HE3 := inB_no B.r 1 3 h3
  have H3 : Hid (¬ (B.r = 1 ∨ B.r = 2 ∨ B.r = 3)) := veil (by omega)
  clear h3
  by_cases h4 : B.e < ep
  case pos =>
    go_enter Tryz.func11, Tryz.ntmps11
    go_upto_region 1 with fail
    obtain ⟨W1, hW1, M1⟩ := Mb.made w B a c
    rw [← hW1]
    clear hW1
    have HC := faultB_yes B a c W1 (hb.next M1.bel) ok
    obtain ⟨x0, x1, x2, x3, x4, x5⟩ := M1.b.cells
    have HM := veil M1
    clear M1
    go_upto_region 2 with (go_at_call 25; refine HC.mono ?_; rintro x W2 ⟨rfl, b2⟩; clear HC x0 x1 x2 x3 x4 x5; have M2 := (unveil HM).next b2; obtain ⟨x0, x1, x2, x3, x4, x5⟩ := M2.b.cells; obtain ⟨z0, z1, z2, z3, z4, z5⟩ := M2.z.cells; have zf := M2.z.free; have HM2 := veil M2; clear M2 b2 HM)
    go_wp2_with (first | (go_at_call 26; refine (HE1 _).mono ?_; rintro x w3 ⟨rfl, hw3⟩; subst w3; clear HE1) | (go_at_call 26; refine (HE2 _).mono ?_; rintro x w3 ⟨rfl, hw3⟩; subst w3; clear HE2) | (go_at_call 26; refine (HE3 _).mono ?_; rintro x w3 ⟨rfl, hw3⟩; subst w3; clear HE3))
    obtain ⟨W4, hW4, d4, b4, _⟩ := b_stored (unveil HM2).z (unveil HM2).bel (show w.heap.size ≤ w.heap.size + 1 by omega) 4 ep fr 0 0 none 0 0
    rw [← hW4]
    exact bodyPost_ret (ret_bBegun d4 rfl rfl) rfl ⟨_, ⟨4, ep, fr, 0, 0, []⟩, _, rfl, by simp only [beginOf]; rw [if_neg (by simpa using ok), if_neg (unveil H12), if_neg (unveil H3), if_neg (by omega), if_neg (by omega)], ⟨none, 0, rfl, ⟨RowK.nil _ _ _, Nat.le_refl _, fun _ => rfl⟩, fun x hx => by cases hx⟩, b4⟩
  case neg =>
  by_cases h5 : B.r = 4 ∧ B.e = ep ∧ B.f = fr
  case neg =>
    have hc : (B.r == 4) = false ∨ ((B.r == 4) = true ∧ (ep == B.e) = false) ∨ ((B.r == 4) = true ∧ (ep == B.e) = true ∧ (fr == B.f) = false) := by
      simp only [beq_eq_false_iff_ne, beq_iff_eq, ne_eq]
      omega
    have H5 := veil h5
    clear h5
    rcases hc with e1 | ⟨e1, e2⟩ | ⟨e1, e2, e3⟩
    all_goals
      go_enter Tryz.func11, Tryz.ntmps11
      go_upto_region 1 with fail
      obtain ⟨W1, hW1, M1⟩ := Mb.made w B a c
      rw [← hW1]
      clear hW1
      have HC := faultB_yes B a c W1 (hb.next M1.bel) ok
      obtain ⟨x0, x1, x2, x3, x4, x5⟩ := M1.b.cells
      have HM := veil M1
      clear M1
      go_upto_region 2 with (go_at_call 25; refine HC.mono ?_; rintro x W2 ⟨rfl, b2⟩; clear HC x0 x1 x2 x3 x4 x5; have M2 := (unveil HM).next b2; obtain ⟨x0, x1, x2, x3, x4, x5⟩ := M2.b.cells; obtain ⟨z0, z1, z2, z3, z4, z5⟩ := M2.z.cells; have zf := M2.z.free; have HM2 := veil M2; clear M2 b2 HM)
      go_wp2_with (first | (go_at_call 26; refine (HE1 _).mono ?_; rintro x w3 ⟨rfl, hw3⟩; subst w3; clear HE1) | (go_at_call 26; refine (HE2 _).mono ?_; rintro x w3 ⟨rfl, hw3⟩; subst w3; clear HE2) | (go_at_call 26; refine (HE3 _).mono ?_; rintro x w3 ⟨rfl, hw3⟩; subst w3; clear HE3))
      obtain ⟨W4, hW4, d4, b4, _⟩ := b_stored (unveil HM2).z (unveil HM2).bel (show w.heap.size ≤ w.heap.size + 1 by omega) 0 0 0 0 0 none 0 0
      rw [← hW4]
      exact bodyPost_ret (ret_bBegun d4 rfl rfl) rfl ⟨_, Bt.zero, _, rfl, by simp only [beginOf]; rw [if_neg (by simpa using ok), if_neg (unveil H12), if_neg (unveil H3), if_neg (unveil H5), if_pos (by omega)], BOut.zero _ _, b4⟩
  case pos =>
    have H5 := veil h5
    have e1 : (B.r == 4) = true := by simp [h5.1]
    have e2 : (ep == B.e) = true := by simp [h5.2.1]
    have e3 : (fr == B.f) = true := by simp [h5.2.2]
    clear h5
    go_enter Tryz.func11, Tryz.ntmps11
    go_upto_region 1 with fail
    obtain ⟨W1, hW1, M1⟩ := Mb.made w B a c
    rw [← hW1]
    clear hW1
    have HC := faultB_yes B a c W1 (hb.next M1.bel) ok
    obtain ⟨x0, x1, x2, x3, x4, x5⟩ := M1.b.cells
    have HM := veil M1
    clear M1
    go_upto_region 2 with (go_at_call 25; refine HC.mono ?_; rintro x W2 ⟨rfl, b2⟩; clear HC x0 x1 x2 x3 x4 x5; have M2 := (unveil HM).next b2; obtain ⟨x0, x1, x2, x3, x4, x5⟩ := M2.b.cells; obtain ⟨z0, z1, z2, z3, z4, z5⟩ := M2.z.cells; have zf := M2.z.free; have HM2 := veil M2; clear M2 b2 HM)
    go_upto_region 11 with (first | (go_at_call 26; refine (HE1 _).mono ?_; rintro x w3 ⟨rfl, hw3⟩; subst w3; clear HE1) | (go_at_call 26; refine (HE2 _).mono ?_; rintro x w3 ⟨rfl, hw3⟩; subst w3; clear HE2) | (go_at_call 26; refine (HE3 _).mono ?_; rintro x w3 ⟨rfl, hw3⟩; subst w3; clear HE3))
    have HCp := veil (bcopy_any B a c W2 (hb.next (unveil HM2).bel) hs)
    go_wp2_with (go_at_call 16; refine (unveil HCp).mono ?_; rintro x W3 ⟨y, rfl, ⟨a3, c3, rfl, i3, f3⟩, b3⟩; have M3 := (unveil HM2).next b3; have hlt3 := (unveil HM2).z.lt; clear HCp x0 x1 x2 x3 x4 x5 z0 z1 z2 z3 z4 z5 zf; obtain ⟨z0, z1, z2, z3, z4, z5⟩ := M3.z.cells; have zf := M3.z.free; have HM3 := veil M3; have HI3 := veil i3; clear HM2 M3 i3 b3)
    obtain ⟨W4, hW4, d4, b4, T4⟩ := b_stored (unveil HM3).z (unveil HM3).bel (show w.heap.size ≤ w.heap.size + 1 by omega) B.r B.e B.f B.t B.o a3 B.es.length c3
    rw [← hW4]
    exact bodyPost_ret (ret_bBegun d4 rfl rfl) rfl ⟨_, B, 0, rfl, by simp only [beginOf]; rw [if_neg (by simpa using ok), if_neg (unveil H12), if_neg (unveil H3), if_pos (unveil H5)], ⟨a3, c3, rfl, (unveil HI3).turned T4 (fun x hx _ => by have := f3 x hx; omega), fun x hx => by have := f3 x hx; omega⟩, b4⟩
end Go.Proofs.YtbhlpiomoookcaaGreat
