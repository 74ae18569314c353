/- Texts put together: RbC, RbE, RbF. -/
import Derived.Test.YtbhlpiomoookcaaGreatRbAz
import Derived.Test.YtbhlpiomoookcaaGreatRbL
import Derived.Test.YtbhlpiomoookcaaGreatBeAll
import Derived.Test.YtbhlpiomoookcaaGreatPaIm
import Derived.Deep.QuietTactic
import Derived.BigQuiet
namespace Go.Proofs.YtbhlpiomoookcaaGreat
open Go.RowKit
end Go.Proofs.YtbhlpiomoookcaaGreat

namespace Go.Proofs.YtbhlpiomoookcaaGreat
open Go.RowKit
/-- a copy in a box, its events one's own. -/
structure Ob (w wx : World) (X base : Nat) (es : List Ev) (r e f t o : Int) (a : Option Addr) (c : Nat) : Prop where
  b : bBlock wx X r e f t o a es.length c
  own : wx.ownsRow base 50 6 (.slice a es.length c) es.length ((evFlat es).map (Value.int .i64))
  up : w.heap.size < base
  upX : base ≤ X
section
variable {w wx wy W6 W8 : World} {X Z base : Nat} {es : List Ev} {r e f t o : Int} {a a8 : Option Addr} {c c8 n8 : Nat}
theorem Ob.lt (h : Ob w wx X base es r e f t o a c) : X < wx.heap.size := h.b.lt
theorem Ob.row (h : Ob w wx X base es r e f t o a c) (hw : ∀ u ∈ evFlat es, (Lit.int .i64 u).wf = true) : RowK .i64 wx a (6 * es.length) (evFlat es) ∧ es.length ≤ c ∧ (a = none → c = 0) ∧ (∀ x, a = some x → base ≤ x.block) := by
  obtain ⟨_, _, e, r, l, _, n, x⟩ := RowK.ofMany h.own hw
  cases e
  exact ⟨r, l, n, x⟩
theorem Ob.next (h : Ob w wx X base es r e f t o a c) (b : Below wx.heap.size wx wy) : Ob w wy X base es r e f t o a c := ⟨h.b.next b, own_still h.own (fun g _ hg => b.block g hg), h.up, h.upX⟩
theorem Ob.set (h : Ob w wx X base es r e f t o a c) (T : Turned X wx wy) {r' e' f' t' o' : Int} (d : bBlock wy X r' e' f' t' o' a es.length c) : Ob w wy X base es r' e' f' t' o' a c :=
  ⟨d, T.owns h.own (own_off h.own h.b (by decide)), h.up, h.upX⟩
theorem Ob.three (h : Ob w wx X base es r e f t o a c) (hZ : Z < base) (z : bBlock wx Z 0 0 0 0 0 none 0 0) (bel : Below w.heap.size w wx) :
    ∃ W, W = ((wx.setCell ⟨X, 0, none⟩ (.int .i64 1)).setCell ⟨X, 3, none⟩ (.int .i64 0)).setCell ⟨X, 4, none⟩ (.int .i64 0) ∧ Ob w W X base es 1 e f 0 0 a c ∧ bBlock W Z 0 0 0 0 0 none 0 0 ∧ Below w.heap.size w W := by
  have T1 := Turned.set X 0 wx (.int .i64 1)
  have d1 : bBlock (wx.setCell ⟨X, 0, none⟩ (.int .i64 1)) X 1 e f t o a es.length c := by
    have := heap_setB (k := 0) (v := .int .i64 1) h.b
    unfold bBlock; rw [this]; rfl
  have T2 := Turned.set X 3 (wx.setCell ⟨X, 0, none⟩ (.int .i64 1)) (.int .i64 0)
  have d2 : bBlock ((wx.setCell ⟨X, 0, none⟩ (.int .i64 1)).setCell ⟨X, 3, none⟩ (.int .i64 0)) X 1 e f 0 o a es.length c := by
    have := heap_setB (k := 3) (v := .int .i64 0) d1
    unfold bBlock; rw [this]; rfl
  have T3 := Turned.set X 4 ((wx.setCell ⟨X, 0, none⟩ (.int .i64 1)).setCell ⟨X, 3, none⟩ (.int .i64 0)) (.int .i64 0)
  have d3 : bBlock (((wx.setCell ⟨X, 0, none⟩ (.int .i64 1)).setCell ⟨X, 3, none⟩ (.int .i64 0)).setCell ⟨X, 4, none⟩ (.int .i64 0)) X 1 e f 0 0 a es.length c := by
    have := heap_setB (k := 4) (v := .int .i64 0) d2
    unfold bBlock; rw [this]; rfl
  have T := (T1.trans T2).trans T3
  have := h.up
  have := h.upX
  exact ⟨_, rfl, h.set T d3, z.turned T (by omega), T.under bel (by omega)⟩
theorem Ob.grown (h : Ob w wx X base es r e f t o a c) (b : Below wx.heap.size wx W6) (gr : W6.grownBy W8 (Value.slice a es.length c).ownBlock) (bel : Below w.heap.size w wx) : bBlock W8 X r e f t o a es.length c ∧ Below w.heap.size w W8 ∧ (∀ Y, Y < base → W8.heap[Y]? = wx.heap[Y]?) := by
  have keep : ∀ Y, Y < wx.heap.size → (∀ g, (Value.slice a es.length c).ownBlock = some g → g ≠ Y) → W8.heap[Y]? = wx.heap[Y]? := fun Y hY hne => by
    rw [gr.block Y (by have := b.size; omega) (fun e => hne Y e.symm rfl), b.block Y hY]
  have hlt := h.lt
  have hup := h.up
  have hupX := h.upX
  refine ⟨?_, ?_, ?_⟩
  · unfold bBlock
    rw [keep X hlt (own_off h.own h.b (by decide))]
    exact h.b
  · exact (bel.trans (b.mono bel.size)).grown gr (by have := b.size; have := bel.size; omega) (fun q hq => by have := (h.own.lt q hq).1; omega)
  · intro Y hY
    exact keep Y (by omega) (fun g hg => by have := (h.own.lt g hg).1; omega)
/-- an event put behind the copy's. -/
theorem Ob.more (v : Ev) (d8 : bBlock W8 X r e f t o a n8 c) (hw : ∀ u ∈ evFlat es, (Lit.int .i64 u).wf = true) (hv : ∀ u ∈ evCells v, (Lit.int .i64 u).wf = true)
    (own : W8.ownsRow base 50 6 (.slice a8 (es.length + 1) c8) (es.length + 1) ((evFlat es).map (Value.int .i64) ++ (evCells v).map (Value.int .i64))) (_ : w.heap.size < base) (_ : base ≤ X) :
    ∃ W, W = W8.setCell ⟨X, 5, none⟩ (.slice a8 (es.length + 1) c8) ∧ bBlock W X r e f t o a8 (es.length + 1) c8 ∧ Turned X W8 W ∧ RowK .i64 W a8 (6 * (es.length + 1)) (evFlat (es ++ [v])) ∧ es.length + 1 ≤ c8 ∧ (a8 = none → c8 = 0) ∧ (∀ x, a8 = some x → base ≤ x.block) := by
  have T := Turned.set X 5 W8 (.slice a8 (es.length + 1) c8)
  have d : bBlock (W8.setCell ⟨X, 5, none⟩ (.slice a8 (es.length + 1) c8)) X r e f t o a8 (es.length + 1) c8 := by
    have := heap_setB (k := 5) (v := .slice a8 (es.length + 1) c8) d8
    unfold bBlock; rw [this]; rfl
  have o2 := T.owns own (own_off own d8 (by decide))
  rw [← List.map_append, ← evFlat_snoc] at o2
  obtain ⟨_, _, e', r', l, _, n, x⟩ := RowK.ofMany o2 (by
    rw [evFlat_snoc]
    intro u hu
    rcases List.mem_append.1 hu with hu | hu
    · exact hw u hu
    · exact hv u hu)
  cases e'
  exact ⟨_, rfl, d, T, r', l, n, x⟩
end
end Go.Proofs.YtbhlpiomoookcaaGreat

namespace Go.Proofs.YtbhlpiomoookcaaGreat
open Go.RowKit
set_option maxRecDepth 20000 in
set_option maxHeartbeats 4000000 in
theorem leaving_any (B : Bt) (a : Option Addr) (c : Nat) (hv : Int) (w : World) (hb : BIn w B a c) : Calls Tryz.prog 20 #[bVal B.r B.e B.f B.t B.o a B.es.length c, .int .i64 hv] w fun x w' => x = .returned (.int .i64 (tellOf B hv)) ∧ Below w.heap.size w w' := by
  by_cases ok : B.Ok
  case neg =>
    rw [show tellOf B hv = 6 by simp [tellOf, ok]]
    go_enter Tryz.func20, Tryz.ntmps20
    go_upto_region 1 with fail
    obtain ⟨W1, hW1, d1, b1⟩ := one_b w B a c
    rw [← hW1]
    clear hW1
    have HC := faultB_no B a c W1 (hb.next b1) ok
    obtain ⟨x0, x1, x2, x3, x4, x5⟩ := d1.cells
    have HD1 := veil d1
    have HB1 := veil b1
    clear d1 b1
    go_wp2_with (first | (go_at_call 25; refine HC.mono ?_; rintro x W2 ⟨rfl, b2⟩; clear HC x0 x1 x2 x3 x4 x5; have d2 := (unveil HD1).next b2; obtain ⟨x0, x1, x2, x3, x4, x5⟩ := d2.cells; have HB2 := veil (Below.next (unveil HB1) b2); clear d2 b2))
    go_ret
    exact ⟨rfl, unveil HB2⟩
  case pos =>
  have hr23 : (¬ B.r = 2 ∧ ¬ B.r = 3) ∨ B.r = 2 ∨ (¬ B.r = 2 ∧ B.r = 3) := by omega
  rcases hr23 with ⟨h2, h3⟩ | h2 | ⟨h2, h3⟩
  · rw [show tellOf B hv = 7 by simp [tellOf, ok, h2, h3]]
    have h2b : (B.r != 2) = true := by simp [h2]
    have h3b : (B.r != 3) = true := by simp [h3]
    go_enter Tryz.func20, Tryz.ntmps20
    go_upto_region 1 with fail
    obtain ⟨W1, hW1, d1, b1⟩ := one_b w B a c
    rw [← hW1]
    clear hW1
    have HC := faultB_yes B a c W1 (hb.next b1) ok
    obtain ⟨x0, x1, x2, x3, x4, x5⟩ := d1.cells
    have HD1 := veil d1
    have HB1 := veil b1
    clear d1 b1
    go_wp2_with (first | (go_at_call 25; refine HC.mono ?_; rintro x W2 ⟨rfl, b2⟩; clear HC x0 x1 x2 x3 x4 x5; have d2 := (unveil HD1).next b2; obtain ⟨x0, x1, x2, x3, x4, x5⟩ := d2.cells; have HB2 := veil (Below.next (unveil HB1) b2); clear d2 b2))
    go_ret
    exact ⟨rfl, unveil HB2⟩
  · by_cases h4 : 0 ≤ hv ∧ hv ≤ (B.es.length : Int)
    · rw [show tellOf B hv = 0 by simp [tellOf, ok, h2, h4]]
      have HE := inB_yes hv 0 (B.es.length : Int) h4
      clear h4
      have Vh2 := veil h2
      clear h2
      go_enter Tryz.func20, Tryz.ntmps20
      go_upto_region 1 with fail
      obtain ⟨W1, hW1, d1, b1⟩ := one_b w B a c
      rw [← hW1]
      clear hW1
      have HC := faultB_yes B a c W1 (hb.next b1) ok
      obtain ⟨x0, x1, x2, x3, x4, x5⟩ := d1.cells
      have HD1 := veil d1
      have HB1 := veil b1
      clear d1 b1
      go_upto_region 2 with (go_at_call 25; refine HC.mono ?_; rintro x W2 ⟨rfl, b2⟩; clear HC x0 x1 x2 x3 x4 x5; have d2 := (unveil HD1).next b2; obtain ⟨x0, x1, x2, x3, x4, x5⟩ := d2.cells; have HB2 := veil (Below.next (unveil HB1) b2); clear d2 b2)
      have h2 := unveil Vh2
      go_wp2_with (first | (go_at_call 26; refine (HE _).mono ?_; rintro x w3 ⟨rfl, hw3⟩; subst w3))
      go_ret
      exact ⟨rfl, unveil HB2⟩
    · rw [show tellOf B hv = 2 by simp only [tellOf]; rw [if_neg (by simpa using ok), if_neg (by simp [h2]), if_pos h4]]
      have HE := inB_no hv 0 (B.es.length : Int) h4
      clear h4
      have Vh2 := veil h2
      clear h2
      go_enter Tryz.func20, Tryz.ntmps20
      go_upto_region 1 with fail
      obtain ⟨W1, hW1, d1, b1⟩ := one_b w B a c
      rw [← hW1]
      clear hW1
      have HC := faultB_yes B a c W1 (hb.next b1) ok
      obtain ⟨x0, x1, x2, x3, x4, x5⟩ := d1.cells
      have HD1 := veil d1
      have HB1 := veil b1
      clear d1 b1
      go_upto_region 2 with (go_at_call 25; refine HC.mono ?_; rintro x W2 ⟨rfl, b2⟩; clear HC x0 x1 x2 x3 x4 x5; have d2 := (unveil HD1).next b2; obtain ⟨x0, x1, x2, x3, x4, x5⟩ := d2.cells; have HB2 := veil (Below.next (unveil HB1) b2); clear d2 b2)
      have h2 := unveil Vh2
      go_wp2_with (first | (go_at_call 26; refine (HE _).mono ?_; rintro x w3 ⟨rfl, hw3⟩; subst w3))
      go_ret
      exact ⟨rfl, unveil HB2⟩
  · by_cases h4 : 0 ≤ hv ∧ hv ≤ (B.es.length : Int)
    · rw [show tellOf B hv = 0 by simp [tellOf, ok, h3, h4]]
      have HE := inB_yes hv 0 (B.es.length : Int) h4
      clear h4
      have Vh3 := veil h3
      clear h3
      go_enter Tryz.func20, Tryz.ntmps20
      go_upto_region 1 with fail
      obtain ⟨W1, hW1, d1, b1⟩ := one_b w B a c
      rw [← hW1]
      clear hW1
      have HC := faultB_yes B a c W1 (hb.next b1) ok
      obtain ⟨x0, x1, x2, x3, x4, x5⟩ := d1.cells
      have HD1 := veil d1
      have HB1 := veil b1
      clear d1 b1
      go_upto_region 2 with (go_at_call 25; refine HC.mono ?_; rintro x W2 ⟨rfl, b2⟩; clear HC x0 x1 x2 x3 x4 x5; have d2 := (unveil HD1).next b2; obtain ⟨x0, x1, x2, x3, x4, x5⟩ := d2.cells; have HB2 := veil (Below.next (unveil HB1) b2); clear d2 b2)
      have h3 := unveil Vh3
      go_wp2_with (first | (go_at_call 26; refine (HE _).mono ?_; rintro x w3 ⟨rfl, hw3⟩; subst w3))
      go_ret
      exact ⟨rfl, unveil HB2⟩
    · rw [show tellOf B hv = 2 by simp only [tellOf]; rw [if_neg (by simpa using ok), if_neg (by simp [h3]), if_pos h4]]
      have HE := inB_no hv 0 (B.es.length : Int) h4
      clear h4
      have Vh3 := veil h3
      clear h3
      go_enter Tryz.func20, Tryz.ntmps20
      go_upto_region 1 with fail
      obtain ⟨W1, hW1, d1, b1⟩ := one_b w B a c
      rw [← hW1]
      clear hW1
      have HC := faultB_yes B a c W1 (hb.next b1) ok
      obtain ⟨x0, x1, x2, x3, x4, x5⟩ := d1.cells
      have HD1 := veil d1
      have HB1 := veil b1
      clear d1 b1
      go_upto_region 2 with (go_at_call 25; refine HC.mono ?_; rintro x W2 ⟨rfl, b2⟩; clear HC x0 x1 x2 x3 x4 x5; have d2 := (unveil HD1).next b2; obtain ⟨x0, x1, x2, x3, x4, x5⟩ := d2.cells; have HB2 := veil (Below.next (unveil HB1) b2); clear d2 b2)
      have h3 := unveil Vh3
      go_wp2_with (first | (go_at_call 26; refine (HE _).mono ?_; rintro x w3 ⟨rfl, hw3⟩; subst w3))
      go_ret
      exact ⟨rfl, unveil HB2⟩
theorem take_drop_snoc (es : List Ev) (h k : Nat) (hk : h + k < es.length) : (es.drop h).take (k + 1) = (es.drop h).take k ++ [es[h + k]] := by
  rw [List.take_succ_eq_append_getElem (by rw [List.length_drop]; omega)]
  simp
/-- PartOf on its way. -/
structure Pf (w wr : World) (B : Bt) (a : Option Addr) (c h k : Nat) (v : Value) : Prop where
  b : bBlock wr w.heap.size B.r B.e B.f B.t B.o a B.es.length c
  own : wr.ownsRow (w.heap.size + 1) 50 6 v k ((evFlat ((B.es.drop h).take k)).map (Value.int .i64))
  bel : Below w.heap.size w wr
end Go.Proofs.YtbhlpiomoookcaaGreat
