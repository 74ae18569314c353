/- Texts put together: RbC, RbE. -/
import Derived.Test.YtbhlpiomoookcaaRbAz
import Derived.Test.YtbhlpiomoookcaaRbL
import Derived.Test.YtbhlpiomoookcaaBeAll
namespace Go.Proofs.Ytbhlpiomoookcaa
open Go.RowKit
theorem ret_bMade {W : World} {R : Nat} {r e f t o : Int} {a : Option Addr} {n c : Nat} {er : Int} {tmps : Array Value} (d : bBlock W R r e f t o a n c) (t1 : tmps[4]? = some (.pointer (some ⟨R, 0, none⟩))) (t2 : tmps[5]? = some (.int .i64 er)) :
    (results Try.f27 tmps).run Try.prog W = .ok (.tuple #[bVal r e f t o a n c, .int .i64 er]) W := by
  simp [results, Try.results27, t1, t2, asAddr, load_berth d]
set_option maxRecDepth 20000 in
set_option maxHeartbeats 4000000 in
theorem bmade_any (B : Bt) (a : Option Addr) (c : Nat) (ep : Int) (w : World) (hb : BIn w B a c) : Calls Try.prog 27 #[bVal B.r B.e B.f B.t B.o a B.es.length c, .int .i64 ep] w fun x w' => ∃ y B' er, x = .returned (.tuple #[y, .int .i64 er]) ∧ makeOf B ep = (B', er) ∧ BOut w w' B' y ∧ Below w.heap.size w w' := by
  by_cases ok : B.Ok
  case neg =>
    go_enter Try.func27, Try.ntmps27
    go_upto_region 1 with fail
    obtain ⟨W1, hW1, M1⟩ := Mb.made w B a c
    rw [← hW1]
    clear hW1
    have HC := faultB_no B a c W1 (hb.next M1.bel) ok
    obtain ⟨x0, x1, x2, x3, x4, x5⟩ := M1.b.cells
    have HM := veil M1
    clear M1
    go_wp2_with (first | (go_at_call 22; refine HC.mono ?_; rintro x W2 ⟨rfl, b2⟩; clear HC x0 x1 x2 x3 x4 x5; have M2 := (unveil HM).next b2; obtain ⟨x0, x1, x2, x3, x4, x5⟩ := M2.b.cells; obtain ⟨z0, z1, z2, z3, z4, z5⟩ := M2.z.cells; have zf := M2.z.free; have HM2 := veil M2; clear M2 b2 HM))
    obtain ⟨W4, hW4, d4, b4, _⟩ := b_stored (unveil HM2).z (unveil HM2).bel (show w.heap.size ≤ w.heap.size + 1 by omega) 0 0 0 0 0 none 0 0
    rw [← hW4]
    exact bodyPost_ret (ret_bMade d4 rfl rfl) rfl ⟨_, Bt.zero, _, rfl, by simp [makeOf, ok], BOut.zero _ _, b4⟩
  case pos =>
  by_cases h1 : 1 ≤ ep ∧ ep ≤ 1048576
  case neg =>
    have HE := inB_no ep 1 1048576 h1
    go_enter Try.func27, Try.ntmps27
    go_upto_region 1 with fail
    obtain ⟨W1, hW1, M1⟩ := Mb.made w B a c
    rw [← hW1]
    clear hW1
    have HC := faultB_yes B a c W1 (hb.next M1.bel) ok
    obtain ⟨x0, x1, x2, x3, x4, x5⟩ := M1.b.cells
    have HM := veil M1
    clear M1
    go_wp2_with (first | (go_at_call 22; refine HC.mono ?_; rintro x W2 ⟨rfl, b2⟩; clear HC x0 x1 x2 x3 x4 x5; have M2 := (unveil HM).next b2; obtain ⟨x0, x1, x2, x3, x4, x5⟩ := M2.b.cells; obtain ⟨z0, z1, z2, z3, z4, z5⟩ := M2.z.cells; have zf := M2.z.free; have HM2 := veil M2; clear M2 b2 HM) | (go_at_call 51; refine (HE _).mono ?_; rintro x w3 ⟨rfl, hw3⟩; subst w3))
    obtain ⟨W4, hW4, d4, b4, _⟩ := b_stored (unveil HM2).z (unveil HM2).bel (show w.heap.size ≤ w.heap.size + 1 by omega) 0 0 0 0 0 none 0 0
    rw [← hW4]
    exact bodyPost_ret (ret_bMade d4 rfl rfl) rfl ⟨_, Bt.zero, _, rfl, by simp [makeOf, ok, h1], BOut.zero _ _, b4⟩
  case pos =>
  have HE := inB_yes ep 1 1048576 h1
  have H1 := veil h1
  clear h1
  have hr0 : 0 ≤ B.r := by have := ok.stand; unfold Bt.Stand standP at this; omega
  by_cases h2 : 0 < B.r
  case pos =>
    have HG : Hid (¬ B.r = 0) := veil (by omega)
    go_enter Try.func27, Try.ntmps27
    go_upto_region 1 with fail
    obtain ⟨W1, hW1, M1⟩ := Mb.made w B a c
    rw [← hW1]
    clear hW1
    have HC := faultB_yes B a c W1 (hb.next M1.bel) ok
    obtain ⟨x0, x1, x2, x3, x4, x5⟩ := M1.b.cells
    have HM := veil M1
    clear M1
    go_wp2_with (first | (go_at_call 22; refine HC.mono ?_; rintro x W2 ⟨rfl, b2⟩; clear HC x0 x1 x2 x3 x4 x5; have M2 := (unveil HM).next b2; obtain ⟨x0, x1, x2, x3, x4, x5⟩ := M2.b.cells; obtain ⟨z0, z1, z2, z3, z4, z5⟩ := M2.z.cells; have zf := M2.z.free; have HM2 := veil M2; clear M2 b2 HM) | (go_at_call 51; refine (HE _).mono ?_; rintro x w3 ⟨rfl, hw3⟩; subst w3))
    obtain ⟨W4, hW4, d4, b4, _⟩ := b_stored (unveil HM2).z (unveil HM2).bel (show w.heap.size ≤ w.heap.size + 1 by omega) 0 0 0 0 0 none 0 0
    rw [← hW4]
    exact bodyPost_ret (ret_bMade d4 rfl rfl) rfl ⟨_, Bt.zero, _, rfl, by have := unveil HG; simp [makeOf, ok, unveil H1, this], BOut.zero _ _, b4⟩
  case neg =>
  have HG : Hid (B.r = 0) := veil (by omega)
  by_cases h3 : ep ≤ B.e
  case pos =>
    go_enter Try.func27, Try.ntmps27
    go_upto_region 1 with fail
    obtain ⟨W1, hW1, M1⟩ := Mb.made w B a c
    rw [← hW1]
    clear hW1
    have HC := faultB_yes B a c W1 (hb.next M1.bel) ok
    obtain ⟨x0, x1, x2, x3, x4, x5⟩ := M1.b.cells
    have HM := veil M1
    clear M1
    go_wp2_with (first | (go_at_call 22; refine HC.mono ?_; rintro x W2 ⟨rfl, b2⟩; clear HC x0 x1 x2 x3 x4 x5; have M2 := (unveil HM).next b2; obtain ⟨x0, x1, x2, x3, x4, x5⟩ := M2.b.cells; obtain ⟨z0, z1, z2, z3, z4, z5⟩ := M2.z.cells; have zf := M2.z.free; have HM2 := veil M2; clear M2 b2 HM) | (go_at_call 51; refine (HE _).mono ?_; rintro x w3 ⟨rfl, hw3⟩; subst w3))
    obtain ⟨W4, hW4, d4, b4, _⟩ := b_stored (unveil HM2).z (unveil HM2).bel (show w.heap.size ≤ w.heap.size + 1 by omega) 0 0 0 0 0 none 0 0
    rw [← hW4]
    exact bodyPost_ret (ret_bMade d4 rfl rfl) rfl ⟨_, Bt.zero, _, rfl, by have := unveil HG; simp [makeOf, ok, unveil H1, this, h3], BOut.zero _ _, b4⟩
  case neg =>
    go_enter Try.func27, Try.ntmps27
    go_upto_region 1 with fail
    obtain ⟨W1, hW1, M1⟩ := Mb.made w B a c
    rw [← hW1]
    clear hW1
    have HC := faultB_yes B a c W1 (hb.next M1.bel) ok
    obtain ⟨x0, x1, x2, x3, x4, x5⟩ := M1.b.cells
    have HM := veil M1
    clear M1
    go_wp2_with (first | (go_at_call 22; refine HC.mono ?_; rintro x W2 ⟨rfl, b2⟩; clear HC x0 x1 x2 x3 x4 x5; have M2 := (unveil HM).next b2; obtain ⟨x0, x1, x2, x3, x4, x5⟩ := M2.b.cells; obtain ⟨z0, z1, z2, z3, z4, z5⟩ := M2.z.cells; have zf := M2.z.free; have HM2 := veil M2; clear M2 b2 HM) | (go_at_call 51; refine (HE _).mono ?_; rintro x w3 ⟨rfl, hw3⟩; subst w3))
    obtain ⟨W4, hW4, d4, b4, _⟩ := b_stored (unveil HM2).z (unveil HM2).bel (show w.heap.size ≤ w.heap.size + 1 by omega) 1 ep 0 0 0 none 0 0
    rw [← hW4]
    exact bodyPost_ret (ret_bMade d4 rfl rfl) rfl ⟨_, ⟨1, ep, 0, 0, 0, []⟩, _, rfl, by have := unveil HG; simp [makeOf, ok, unveil H1, this, h3], ⟨none, 0, rfl, ⟨RowK.nil _ _ _, Nat.le_refl _, fun _ => rfl⟩, fun x hx => by cases hx⟩, b4⟩
theorem ret_bForgotten {W : World} {R : Nat} {r e f t o : Int} {a : Option Addr} {n c : Nat} {er : Int} {tmps : Array Value} (d : bBlock W R r e f t o a n c) (t1 : tmps[4]? = some (.pointer (some ⟨R, 0, none⟩))) (t2 : tmps[5]? = some (.int .i64 er)) :
    (results Try.f33 tmps).run Try.prog W = .ok (.tuple #[bVal r e f t o a n c, .int .i64 er]) W := by
  simp [results, Try.results33, t1, t2, asAddr, load_berth d]
set_option maxRecDepth 20000 in
set_option maxHeartbeats 4000000 in
theorem bforgotten_any (B : Bt) (a : Option Addr) (c : Nat) (ep : Int) (w : World) (hb : BIn w B a c) : Calls Try.prog 33 #[bVal B.r B.e B.f B.t B.o a B.es.length c, .int .i64 ep] w fun x w' => ∃ y B' er, x = .returned (.tuple #[y, .int .i64 er]) ∧ forgetOf B ep = (B', er) ∧ BOut w w' B' y ∧ Below w.heap.size w w' := by
  by_cases ok : B.Ok
  case neg =>
    go_enter Try.func33, Try.ntmps33
    go_upto_region 1 with fail
    obtain ⟨W1, hW1, M1⟩ := Mb.made w B a c
    rw [← hW1]
    clear hW1
    have HC := faultB_no B a c W1 (hb.next M1.bel) ok
    obtain ⟨x0, x1, x2, x3, x4, x5⟩ := M1.b.cells
    have HM := veil M1
    clear M1
    go_wp2_with (first | (go_at_call 22; refine HC.mono ?_; rintro x W2 ⟨rfl, b2⟩; clear HC x0 x1 x2 x3 x4 x5; have M2 := (unveil HM).next b2; obtain ⟨x0, x1, x2, x3, x4, x5⟩ := M2.b.cells; obtain ⟨z0, z1, z2, z3, z4, z5⟩ := M2.z.cells; have zf := M2.z.free; have HM2 := veil M2; clear M2 b2 HM))
    obtain ⟨W4, hW4, d4, b4, _⟩ := b_stored (unveil HM2).z (unveil HM2).bel (show w.heap.size ≤ w.heap.size + 1 by omega) 0 0 0 0 0 none 0 0
    rw [← hW4]
    exact bodyPost_ret (ret_bForgotten d4 rfl rfl) rfl ⟨_, Bt.zero, _, rfl, by simp [forgetOf, ok], BOut.zero _ _, b4⟩
  case pos =>
  by_cases h2 : B.r = 3
  case neg =>
    go_enter Try.func33, Try.ntmps33
    go_upto_region 1 with fail
    obtain ⟨W1, hW1, M1⟩ := Mb.made w B a c
    rw [← hW1]
    clear hW1
    have HC := faultB_yes B a c W1 (hb.next M1.bel) ok
    obtain ⟨x0, x1, x2, x3, x4, x5⟩ := M1.b.cells
    have HM := veil M1
    clear M1
    go_wp2_with (first | (go_at_call 22; refine HC.mono ?_; rintro x W2 ⟨rfl, b2⟩; clear HC x0 x1 x2 x3 x4 x5; have M2 := (unveil HM).next b2; obtain ⟨x0, x1, x2, x3, x4, x5⟩ := M2.b.cells; obtain ⟨z0, z1, z2, z3, z4, z5⟩ := M2.z.cells; have zf := M2.z.free; have HM2 := veil M2; clear M2 b2 HM))
    obtain ⟨W4, hW4, d4, b4, _⟩ := b_stored (unveil HM2).z (unveil HM2).bel (show w.heap.size ≤ w.heap.size + 1 by omega) 0 0 0 0 0 none 0 0
    rw [← hW4]
    exact bodyPost_ret (ret_bForgotten d4 rfl rfl) rfl ⟨_, Bt.zero, _, rfl, by simp [forgetOf, ok, h2], BOut.zero _ _, b4⟩
  case pos =>
  by_cases h3 : ep ≤ B.e
  case pos =>
    have Vh2 := veil h2
    clear h2
    go_enter Try.func33, Try.ntmps33
    go_upto_region 1 with fail
    obtain ⟨W1, hW1, M1⟩ := Mb.made w B a c
    rw [← hW1]
    clear hW1
    have HC := faultB_yes B a c W1 (hb.next M1.bel) ok
    obtain ⟨x0, x1, x2, x3, x4, x5⟩ := M1.b.cells
    have HM := veil M1
    clear M1
    go_upto_region 2 with (go_at_call 22; refine HC.mono ?_; rintro x W2 ⟨rfl, b2⟩; clear HC x0 x1 x2 x3 x4 x5; have M2 := (unveil HM).next b2; obtain ⟨x0, x1, x2, x3, x4, x5⟩ := M2.b.cells; obtain ⟨z0, z1, z2, z3, z4, z5⟩ := M2.z.cells; have zf := M2.z.free; have HM2 := veil M2; clear M2 b2 HM)
    have h2 := unveil Vh2
    go_wp2
    obtain ⟨W4, hW4, d4, b4, _⟩ := b_stored (unveil HM2).z (unveil HM2).bel (show w.heap.size ≤ w.heap.size + 1 by omega) 0 0 0 0 0 none 0 0
    rw [← hW4]
    exact bodyPost_ret (ret_bForgotten d4 rfl rfl) rfl ⟨_, Bt.zero, _, rfl, by simp [forgetOf, ok, h2, h3], BOut.zero _ _, b4⟩
  case neg =>
    have Vh2 := veil h2
    clear h2
    go_enter Try.func33, Try.ntmps33
    go_upto_region 1 with fail
    obtain ⟨W1, hW1, M1⟩ := Mb.made w B a c
    rw [← hW1]
    clear hW1
    have HC := faultB_yes B a c W1 (hb.next M1.bel) ok
    obtain ⟨x0, x1, x2, x3, x4, x5⟩ := M1.b.cells
    have HM := veil M1
    clear M1
    go_upto_region 2 with (go_at_call 22; refine HC.mono ?_; rintro x W2 ⟨rfl, b2⟩; clear HC x0 x1 x2 x3 x4 x5; have M2 := (unveil HM).next b2; obtain ⟨x0, x1, x2, x3, x4, x5⟩ := M2.b.cells; obtain ⟨z0, z1, z2, z3, z4, z5⟩ := M2.z.cells; have zf := M2.z.free; have HM2 := veil M2; clear M2 b2 HM)
    have h2 := unveil Vh2
    go_wp2
    obtain ⟨W4, hW4, d4, b4, _⟩ := b_stored (unveil HM2).z (unveil HM2).bel (show w.heap.size ≤ w.heap.size + 1 by omega) 0 B.e 0 0 0 none 0 0
    rw [← hW4]
    exact bodyPost_ret (ret_bForgotten d4 rfl rfl) rfl ⟨_, ⟨0, B.e, 0, 0, 0, []⟩, _, rfl, by simp [forgetOf, ok, h2, h3], ⟨none, 0, rfl, ⟨RowK.nil _ _ _, Nat.le_refl _, fun _ => rfl⟩, fun x hx => by cases hx⟩, b4⟩
end Go.Proofs.Ytbhlpiomoookcaa

namespace Go.Proofs.Ytbhlpiomoookcaa
open Go.RowKit
theorem ret_bWoken {W : World} {R : Nat} {r e f t o : Int} {a : Option Addr} {n c : Nat} {er : Int} {tmps : Array Value} (d : bBlock W R r e f t o a n c) (t1 : tmps[2]? = some (.pointer (some ⟨R, 0, none⟩))) (t2 : tmps[3]? = some (.int .i64 er)) :
    (results Try.f35 tmps).run Try.prog W = .ok (.tuple #[bVal r e f t o a n c, .int .i64 er]) W := by
  simp [results, Try.results35, t1, t2, asAddr, load_berth d]
/-- a copy in a box, its events one's own. -/
structure Ob (w wx : World) (X base : Nat) (es : List Ev) (r e f t o : Int) (a : Option Addr) (c : Nat) : Prop where
  b : bBlock wx X r e f t o a es.length c
  own : wx.ownsRow base 33 6 (.slice a es.length c) es.length ((evFlat es).map (Value.int .i64))
  up : w.heap.size < base
  upX : base ≤ X
section
variable {w wx wy W6 W8 : World} {X Z base : Nat} {es : List Ev} {r e f t o : Int} {a a8 : Option Addr} {c c8 n8 : Nat}
theorem Ob.lt (h : Ob w wx X base es r e f t o a c) : X < wx.heap.size := h.b.lt
theorem Ob.row (h : Ob w wx X base es r e f t o a c) (hw : ∀ u ∈ evFlat es, (Lit.int .i64 u).wf = true) : RowK .i64 wx a (6 * es.length) (evFlat es) ∧ es.length ≤ c ∧ (a = none → c = 0) ∧ (∀ x, a = some x → base ≤ x.block) := by
  obtain ⟨_, _, e, r, l, _, n, x⟩ := RowK.ofMany h.own hw
  cases e
  exact ⟨r, l, n, x⟩
theorem Ob.next (h : Ob w wx X base es r e f t o a c) (b : Below wx.heap.size wx wy) : Ob w wy X base es r e f t o a c := ⟨h.b.next b, own_still h.own (fun g _ hg => b.block g hg), h.up, h.upX⟩
theorem Ob.set (h : Ob w wx X base es r e f t o a c) (T : Turned X wx wy) {r' e' f' t' o' : Int} (d : bBlock wy X r' e' f' t' o' a es.length c) : Ob w wy X base es r' e' f' t' o' a c :=
  ⟨d, T.owns h.own (own_off h.own h.b (by decide)), h.up, h.upX⟩
theorem Ob.three (h : Ob w wx X base es r e f t o a c) (hZ : Z < base) (z : bBlock wx Z 0 0 0 0 0 none 0 0) (bel : Below w.heap.size w wx) :
    ∃ W, W = ((wx.setCell ⟨X, 0, none⟩ (.int .i64 1)).setCell ⟨X, 3, none⟩ (.int .i64 0)).setCell ⟨X, 4, none⟩ (.int .i64 0) ∧ Ob w W X base es 1 e f 0 0 a c ∧ bBlock W Z 0 0 0 0 0 none 0 0 ∧ Below w.heap.size w W := by
  have T1 := Turned.set X 0 wx (.int .i64 1)
  have d1 : bBlock (wx.setCell ⟨X, 0, none⟩ (.int .i64 1)) X 1 e f t o a es.length c := by
    have := heap_setB (k := 0) (v := .int .i64 1) h.b
    unfold bBlock; rw [this]; rfl
  have T2 := Turned.set X 3 (wx.setCell ⟨X, 0, none⟩ (.int .i64 1)) (.int .i64 0)
  have d2 : bBlock ((wx.setCell ⟨X, 0, none⟩ (.int .i64 1)).setCell ⟨X, 3, none⟩ (.int .i64 0)) X 1 e f 0 o a es.length c := by
    have := heap_setB (k := 3) (v := .int .i64 0) d1
    unfold bBlock; rw [this]; rfl
  have T3 := Turned.set X 4 ((wx.setCell ⟨X, 0, none⟩ (.int .i64 1)).setCell ⟨X, 3, none⟩ (.int .i64 0)) (.int .i64 0)
  have d3 : bBlock (((wx.setCell ⟨X, 0, none⟩ (.int .i64 1)).setCell ⟨X, 3, none⟩ (.int .i64 0)).setCell ⟨X, 4, none⟩ (.int .i64 0)) X 1 e f 0 0 a es.length c := by
    have := heap_setB (k := 4) (v := .int .i64 0) d2
    unfold bBlock; rw [this]; rfl
  have T := (T1.trans T2).trans T3
  have := h.up
  have := h.upX
  exact ⟨_, rfl, h.set T d3, z.turned T (by omega), T.under bel (by omega)⟩
theorem Ob.grown (h : Ob w wx X base es r e f t o a c) (b : Below wx.heap.size wx W6) (gr : W6.grownBy W8 (Value.slice a es.length c).ownBlock) (bel : Below w.heap.size w wx) : bBlock W8 X r e f t o a es.length c ∧ Below w.heap.size w W8 ∧ (∀ Y, Y < base → W8.heap[Y]? = wx.heap[Y]?) := by
  have keep : ∀ Y, Y < wx.heap.size → (∀ g, (Value.slice a es.length c).ownBlock = some g → g ≠ Y) → W8.heap[Y]? = wx.heap[Y]? := fun Y hY hne => by
    rw [gr.block Y (by have := b.size; omega) (fun e => hne Y e.symm rfl), b.block Y hY]
  have hlt := h.lt
  have hup := h.up
  have hupX := h.upX
  refine ⟨?_, ?_, ?_⟩
  · unfold bBlock
    rw [keep X hlt (own_off h.own h.b (by decide))]
    exact h.b
  · exact (bel.trans (b.mono bel.size)).grown gr (by have := b.size; have := bel.size; omega) (fun q hq => by have := (h.own.lt q hq).1; omega)
  · intro Y hY
    exact keep Y (by omega) (fun g hg => by have := (h.own.lt g hg).1; omega)
/-- an event put behind the copy's. -/
theorem Ob.more (v : Ev) (d8 : bBlock W8 X r e f t o a n8 c) (hw : ∀ u ∈ evFlat es, (Lit.int .i64 u).wf = true) (hv : ∀ u ∈ evCells v, (Lit.int .i64 u).wf = true)
    (own : W8.ownsRow base 33 6 (.slice a8 (es.length + 1) c8) (es.length + 1) ((evFlat es).map (Value.int .i64) ++ (evCells v).map (Value.int .i64))) (_ : w.heap.size < base) (_ : base ≤ X) :
    ∃ W, W = W8.setCell ⟨X, 5, none⟩ (.slice a8 (es.length + 1) c8) ∧ bBlock W X r e f t o a8 (es.length + 1) c8 ∧ Turned X W8 W ∧ RowK .i64 W a8 (6 * (es.length + 1)) (evFlat (es ++ [v])) ∧ es.length + 1 ≤ c8 ∧ (a8 = none → c8 = 0) ∧ (∀ x, a8 = some x → base ≤ x.block) := by
  have T := Turned.set X 5 W8 (.slice a8 (es.length + 1) c8)
  have d : bBlock (W8.setCell ⟨X, 5, none⟩ (.slice a8 (es.length + 1) c8)) X r e f t o a8 (es.length + 1) c8 := by
    have := heap_setB (k := 5) (v := .slice a8 (es.length + 1) c8) d8
    unfold bBlock; rw [this]; rfl
  have o2 := T.owns own (own_off own d8 (by decide))
  rw [← List.map_append, ← evFlat_snoc] at o2
  obtain ⟨_, _, e', r', l, _, n, x⟩ := RowK.ofMany o2 (by
    rw [evFlat_snoc]
    intro u hu
    rcases List.mem_append.1 hu with hu | hu
    · exact hw u hu
    · exact hv u hu)
  cases e'
  exact ⟨_, rfl, d, T, r', l, n, x⟩
end
set_option maxRecDepth 20000 in
set_option maxHeartbeats 4000000 in
theorem bwoken_any (B : Bt) (a : Option Addr) (c : Nat)  (w : World) (hb : BIn w B a c) (hs : B.es.length * 48 ≤ 140737488351232) : Calls Try.prog 35 #[bVal B.r B.e B.f B.t B.o a B.es.length c] w fun x w' => ∃ y B' er, x = .returned (.tuple #[y, .int .i64 er]) ∧ wakeOf B = (B', er) ∧ BOut w w' B' y ∧ Below w.heap.size w w' := by
  obtain ⟨i6, hi6, hz60, hz61, hz62⟩ := info_of Try.infoEvent
  by_cases ok : B.Ok
  case neg =>
    go_enter Try.func35, Try.ntmps35
    go_upto_region 1 with fail
    obtain ⟨W1, hW1, M1⟩ := Mb.made w B a c
    rw [← hW1]
    clear hW1
    have HC := faultB_no B a c W1 (hb.next M1.bel) ok
    obtain ⟨x0, x1, x2, x3, x4, x5⟩ := M1.b.cells
    have HM := veil M1
    clear M1
    go_wp2_with (first | (go_at_call 22; refine HC.mono ?_; rintro x W2 ⟨rfl, b2⟩; clear HC x0 x1 x2 x3 x4 x5; have M2 := (unveil HM).next b2; obtain ⟨x0, x1, x2, x3, x4, x5⟩ := M2.b.cells; obtain ⟨z0, z1, z2, z3, z4, z5⟩ := M2.z.cells; have zf := M2.z.free; have HM2 := veil M2; clear M2 b2 HM))
    obtain ⟨W4, hW4, d4, b4, _⟩ := b_stored (unveil HM2).z (unveil HM2).bel (show w.heap.size ≤ w.heap.size + 1 by omega) 0 0 0 0 0 none 0 0
    rw [← hW4]
    exact bodyPost_ret (ret_bWoken d4 rfl rfl) rfl ⟨_, Bt.zero, _, rfl, by simp [wakeOf, ok], BOut.zero _ _, b4⟩
  case pos =>
  go_enter Try.func35, Try.ntmps35
  go_upto_region 1 with fail
  obtain ⟨W1, hW1, M1⟩ := Mb.made w B a c
  rw [← hW1]
  clear hW1
  have HC := faultB_yes B a c W1 (hb.next M1.bel) ok
  obtain ⟨x0, x1, x2, x3, x4, x5⟩ := M1.b.cells
  have HM := veil M1
  clear M1
  go_upto_region 4 with (go_at_call 22; refine HC.mono ?_; rintro x W2 ⟨rfl, b2⟩; clear HC x0 x1 x2 x3 x4 x5; have M2 := (unveil HM).next b2; obtain ⟨x0, x1, x2, x3, x4, x5⟩ := M2.b.cells; obtain ⟨z0, z1, z2, z3, z4, z5⟩ := M2.z.cells; have zf := M2.z.free; have HM2 := veil M2; clear M2 b2 HM)
  have HCp := veil (bcopy_own B a c W2 (hb.next (unveil HM2).bel) hs)
  have hWf := veil hb.row.wf
  go_upto_region 5 with (go_at_call 50; refine (unveil HCp).mono ?_; rintro x W3 ⟨a3, c3, rfl, o3, i3, f3, b3⟩; have M3 := (unveil HM2).next b3; have hlt3 := (unveil HM2).z.lt; have hb3 := b3.size; clear HCp x0 x1 x2 x3 x4 x5 z0 z1 z2 z3 z4 z5 zf; have HO3 := veil o3; have HM3 := veil M3; clear HM2 M3 o3 i3 f3 b3)
  obtain ⟨W4, hW4, d4, b4⟩ : ∃ W, W = W3.alloc (.cells (bCells B.r B.e B.f B.t B.o a3 B.es.length c3) 49) ∧ bBlock W W3.heap.size B.r B.e B.f B.t B.o a3 B.es.length c3 ∧ Below W3.heap.size W3 W := ⟨_, rfl, bBlock.new _ _ _ _ _ _ _ _ _, below1 _ _⟩
  rw [← hW4]
  clear hW4
  have M4 := (unveil HM3).next b4
  have O4 : Ob w W4 W3.heap.size W2.heap.size B.es B.r B.e B.f B.t B.o a3 c3 := ⟨d4, own_still (unveil HO3) (fun g _ hg => b4.block g hg), by omega, hb3⟩
  have hX4 := d4.lt
  obtain ⟨X, hX⟩ : ∃ X, X = W3.heap.size := ⟨_, rfl⟩
  rw [← hX] at O4 hX4 hb3 ⊢
  clear hX d4 HM3 HO3 b4
  obtain ⟨x0, x1, x2, x3, x4, x5⟩ := M4.b.cells
  obtain ⟨y0, y1, y2, y3, y4, y5⟩ := O4.b.cells
  have yf := O4.b.free
  obtain ⟨z0, z1, z2, z3, z4, z5⟩ := M4.z.cells
  have zf := M4.z.free
  have HM4 := veil M4
  have HO4 := veil O4
  clear M4 O4
  by_cases hsv : B.r = 1 ∨ B.r = 2
  case neg =>
    have hr1 : ¬ B.r = 1 := fun h => hsv (.inl h)
    have hr2 : ¬ B.r = 2 := fun h => hsv (.inr h)
    have hr1b : (B.r != 1) = true := by simp [hr1]
    have hr2b : (B.r != 2) = true := by simp [hr2]
    clear hsv
    go_wp2
    obtain ⟨W5, hW5, d5, b5, T5⟩ := b_stored (unveil HM4).z (unveil HM4).bel (show w.heap.size ≤ w.heap.size + 1 by omega) B.r B.e B.f B.t B.o a3 B.es.length c3
    rw [← hW5]
    obtain ⟨r4, l4, n4, f4⟩ := (unveil HO4).row (unveil hWf)
    exact bodyPost_ret (ret_bWoken d5 rfl rfl) rfl ⟨_, _, _, rfl, by simp [wakeOf, ok, hr1, hr2], ⟨a3, c3, rfl, ⟨T5.row r4 (fun x hx _ => by have := f4 x hx; omega), l4, n4⟩, fun x hx => by have := f4 x hx; omega⟩, b5⟩
  case pos =>
  have hf0 : B.f = 0 := by have hst := ok.stand; unfold Bt.Stand standP at hst; omega
  have HSV := veil hsv
  have hlen : B.es.length ≤ 2000 := ok.len
  have hr12 : B.r = 1 ∨ (¬ B.r = 1 ∧ B.r = 2) := by omega
  have HOK := veil ok
  have HF0 := veil hf0
  clear hsv ok hb hf0
  rcases hr12 with hr1 | ⟨hr1, hr2⟩
  all_goals
    go_upto_region 10 with fail
    obtain ⟨W5, hW5, O5, z5', B5⟩ := Ob.three (unveil HO4) (show w.heap.size + 1 < W2.heap.size from hlt3) (unveil HM4).z (unveil HM4).bel
    rw [← hW5]
    rw [unveil HF0] at O5
    have hX5 := O5.lt
    clear hW5 x0 x1 x2 x3 x4 x5 y0 y1 y2 y3 y4 y5 z0 z1 z2 z3 z4 z5 zf yf HM4 HO4 hX4
    obtain ⟨y0, y1, y2, y3, y4, y5⟩ := O5.b.cells
    have HOw : Hid ((W5.alloc (.cells #[.int .i64 4, .int .i64 0, .int .i64 0, .int .i64 0, .int .i64 0, .int .i64 0] 33)).ownsRow W2.heap.size 33 6 (.slice a3 B.es.length c3) B.es.length ((evFlat B.es).map (Value.int .i64))) := veil (own_still O5.own (fun g _ hg => (below1 W5 _).block g hg))
    have HO5 := veil O5
    have HZ5 := veil z5'
    have HB5 := veil B5
    clear O5 z5' B5
    go_upto_region 11 with (at_builtin; refine wpList_append_own _ rfl _ _ 42 rfl W2.heap.size 33 i6 _ 6 48 Try.underlying42 hi6 hz60 hz61 hz62 rfl (by decide) (.slice a3 B.es.length c3) B.es.length ((evFlat B.es).map (Value.int .i64)) rfl (unveil HOw) ⟨W5.heap.size, 0, none⟩ 1 1 ((evCells Ev.brk).map (Value.int .i64)) rfl rfl (news6 _ _ _ _ _ _ _ _) (ints_oneCell _ _) (by unfold maxLen; omega) (by omega) (by simp; omega) ?_; intro v' W8 own8 grow8 _; obtain ⟨a8, c8, rfl⟩ := own_form own8; obtain ⟨d8, B8, k8⟩ := Ob.grown (unveil HO5) (below1 W5 _) grow8 (unveil HB5); clear y0 y1 y2 y3 y4 y5; obtain ⟨y0, y1, y2, y3, y4, y5⟩ := d8.cells; have yf := d8.free; have HD8 := veil d8; have HB8 := veil B8; have HK8 := veil k8; have HOn := veil own8; clear d8 B8 k8 own8 grow8 HOw)
    obtain ⟨W9, hW9, d9, T9, r9, l9, n9, f9⟩ := Ob.more (w := w) Ev.brk (unveil HD8) (unveil hWf) (by decide) (unveil HOn) (by omega) hb3
    rw [← hW9]
    have z9 : bBlock W9 (w.heap.size + 1) 0 0 0 0 0 none 0 0 := (T9.block _ (by omega)).trans ((unveil HK8 _ hlt3).trans (unveil HZ5))
    have B9 := T9.under (unveil HB8) (by omega)
    clear hW9 T9 HD8 HB8 HK8 HOn HZ5 HB5 HO5 y0 y1 y2 y3 y4 y5 yf hX5
    obtain ⟨y0, y1, y2, y3, y4, y5⟩ := d9.cells
    have i9 : BIn W9 B.broken a8 c8 := ⟨by simpa [Bt.broken] using r9, by simpa [Bt.broken] using l9, n9⟩
    by_cases okb : B.broken.Ok
    case pos =>
      have HFt : Hid (Calls Try.prog 22 #[bVal 1 B.e 0 0 0 a8 (B.es.length + 1) c8] W9 fun x w' => x = .returned (.int .i64 0) ∧ Below W9.heap.size W9 w') := veil (by have := faultB_yes B.broken a8 c8 W9 i9 okb; simpa [Bt.broken] using this)
      have HW : Hid (wakeOf B = (B.broken, 0)) := veil (by have h1 := unveil HOK; have h2 := unveil HSV; simp [wakeOf, h1, h2, okb])
      have HD9 := veil d9
      have HZ9 := veil z9
      have HB9 := veil B9
      clear d9 z9 B9 i9 okb HSV
      go_wp2_with (go_at_call 22; refine (unveil HFt).mono ?_; rintro x W10 ⟨rfl, b10⟩; clear y0 y1 y2 y3 y4 y5 HFt; have d10 := (unveil HD9).next b10; obtain ⟨y0, y1, y2, y3, y4, y5⟩ := d10.cells; have zz := (unveil HZ9).next b10; obtain ⟨z0, z1, z2, z3, z4, z5⟩ := zz.cells; have zf := zz.free; have HB10 := veil (Below.next (unveil HB9) b10); have HR10 := veil (r9.below b10); have HZ10 := veil zz; clear d10 zz b10)
      obtain ⟨W11, hW11, d11, b11, T11⟩ := b_stored (unveil HZ10) (unveil HB10) (show w.heap.size ≤ w.heap.size + 1 by omega) 1 B.e 0 0 0 a8 (B.es.length + 1) c8
      rw [← hW11]
      exact bodyPost_ret (ret_bWoken d11 rfl rfl) rfl ⟨_, _, _, rfl, unveil HW, ⟨a8, c8, by simp [Bt.broken], ⟨by simpa [Bt.broken] using T11.row (unveil HR10) (fun x hx _ => by have := f9 x hx; omega), by simpa [Bt.broken] using l9, n9⟩, fun x hx => by have := f9 x hx; omega⟩, b11⟩
    case neg =>
      have HFt : Hid (Calls Try.prog 22 #[bVal 1 B.e 0 0 0 a8 (B.es.length + 1) c8] W9 fun x w' => x = .returned (.int .i64 6) ∧ Below W9.heap.size W9 w') := veil (by have := faultB_no B.broken a8 c8 W9 i9 okb; simpa [Bt.broken] using this)
      have HW : Hid (wakeOf B = (Bt.zero, 14)) := veil (by have h1 := unveil HOK; have h2 := unveil HSV; simp [wakeOf, h1, h2, okb])
      have HZ9 := veil z9
      have HB9 := veil B9
      clear d9 z9 B9 i9 okb HSV
      go_wp2_with (go_at_call 22; refine (unveil HFt).mono ?_; rintro x W10 ⟨rfl, b10⟩; clear y0 y1 y2 y3 y4 y5 HFt; have zz := (unveil HZ9).next b10; obtain ⟨z0, z1, z2, z3, z4, z5⟩ := zz.cells; have zf := zz.free; have HB10 := veil (Below.next (unveil HB9) b10); have HZ10 := veil zz; clear zz b10)
      obtain ⟨W11, hW11, d11, b11, T11⟩ := b_stored (unveil HZ10) (unveil HB10) (show w.heap.size ≤ w.heap.size + 1 by omega) 0 0 0 0 0 none 0 0
      rw [← hW11]
      exact bodyPost_ret (ret_bWoken d11 rfl rfl) rfl ⟨_, _, _, rfl, unveil HW, BOut.zero _ _, b11⟩
end Go.Proofs.Ytbhlpiomoookcaa
