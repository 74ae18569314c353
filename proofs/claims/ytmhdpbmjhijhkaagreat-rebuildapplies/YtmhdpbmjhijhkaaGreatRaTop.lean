/- Texts put together: RdL, RdM1, RdM2, RdM3, RdM4, RdM5, RdM6, RdM7, RdN, RdO, WdO, QuO, HsO, BeO. -/
import Derived.Test.YtmhdpbmjhijhkaaGreatRaDeed
import Derived.Test.YtmhdpbmjhijhkaaGreatRaBth
import Derived.Test.YtmhdpbmjhijhkaaGreatWdA
import Derived.Test.YtmhdpbmjhijhkaaGreatQuB
import Derived.Test.YtmhdpbmjhijhkaaGreatRaLow
import Derived.Deep.Slices
namespace Go.Proofs.YtmhdpbmjhijhkaaGreat
open Go.RowKit

theorem ret_applied {W : World} {R : Nat} {r e f t o : Int} {a : Option Addr} {n c : Nat} {er : Int} {tmps : Array Value} (d : bBlock W R r e f t o a n c) (t4 : tmps[4]? = some (.pointer (some ⟨R, 0, none⟩))) (t5 : tmps[5]? = some (.int .i64 er)) :
    (results Tryz.f12 tmps).run Tryz.prog W = .ok (.tuple #[bVal r e f t o a n c, .int .i64 er]) W := by
  simp [results, Tryz.results12, t4, t5, asAddr, load_berth d]
/-- the boxes: the arguments, the answer, and the copy with its own events. -/
structure Rf (w wx : World) (base X : Nat) (B : Bt) (a : Option Addr) (c : Nat) (r : Rec) (D : Bt) (a2 : Option Addr) (c2 : Nat) : Prop where
  m : Mr w wx B a c r
  x : bBlock wx X D.r D.e D.f D.t D.o a2 D.es.length c2
  own : wx.ownsRow base 28 6 (.slice a2 D.es.length c2) D.es.length ((evFlat D.es).map (Value.int .i64))
  up : w.heap.size + 2 < base
  hX : w.heap.size + 2 < X
  le : base ≤ wx.heap.size
/-- the same ahead of the last look: the events are a row that lies elsewhere. -/
structure Rt (w wx : World) (X : Nat) (B : Bt) (a : Option Addr) (c : Nat) (r : Rec) (D : Bt) (a2 : Option Addr) (c2 : Nat) : Prop where
  m : Mr w wx B a c r
  x : bBlock wx X D.r D.e D.f D.t D.o a2 D.es.length c2
  inn : BIn wx D a2 c2
  ap : ∀ y, a2 = some y → w.heap.size + 2 < y.block
  hX : w.heap.size + 2 < X
section
variable {w wx wy : World} {base X : Nat} {B D : Bt} {a a2 : Option Addr} {c c2 : Nat} {r : Rec}
theorem Rf.made {wz : World} (h : Mr w wx B a c r) (own : wz.ownsRow wx.heap.size 28 6 (.slice a2 B.es.length c2) B.es.length ((evFlat B.es).map (Value.int .i64))) (b : Below wx.heap.size wx wz) : ∃ W, W = wz.alloc (.cells (bCells B.r B.e B.f B.t B.o a2 B.es.length c2) 24) ∧ Rf w W wx.heap.size wz.heap.size B a c r B a2 c2 :=
  ⟨_, rfl, (h.next b).next (below1 _ _), bBlock.new _ _ _ _ _ _ _ _ _, below_still own (below1 _ _), h.z.lt, by have := h.z.lt; have := b.size; omega, by have := b.size; simp; omega⟩
theorem Rf.turn (h : Rf w wx base X B a c r D a2 c2) (t : Turned X wx wy) {D' : Bt} (he : D'.es = D.es) (x : bBlock wy X D'.r D'.e D'.f D'.t D'.o a2 D.es.length c2) : Rf w wy base X B a c r D' a2 c2 := by
  refine ⟨h.m.turned t h.hX, by rw [he]; exact x, by rw [he]; exact t.owns h.own (own_off h.own h.x (by decide)), h.up, h.hX, by rw [t.size]; exact h.le⟩
theorem Rf.last (h : Rf w wx base X B a c r D a2 c2) (hw : ∀ u ∈ evFlat D.es, (Lit.int .i64 u).wf = true) : Rt w wx X B a c r D a2 c2 := by
  obtain ⟨a', c', e1, r1, h1, _, h3, h4⟩ := RowK.ofMany h.own hw
  cases e1
  exact ⟨h.m, h.x, ⟨r1, h1, h3⟩, fun y hy => by have := h4 y hy; have := h.up; omega, h.hX⟩
/-- one event more. -/
theorem Rf.added {W : World} {x : Ev} {v : Option Addr} {vc : Nat} {ob : Obj} (h : Rf w wx base X B a c r D a2 c2)
    (own : W.ownsRow base 28 6 (.slice v (D.es.length + 1) vc) (D.es.length + 1) ((evFlat D.es).map (Value.int .i64) ++ [x.k, x.p, x.i, x.b, x.he, x.hn].map (Value.int .i64))) (g : (wx.alloc ob).grownBy W (Value.slice a2 D.es.length c2).ownBlock) :
    bBlock W X D.r D.e D.f D.t D.o a2 D.es.length c2 ∧ Rf w (W.setCell ⟨X, 5, none⟩ (.slice v (D.es.length + 1) vc)) base X B a c r (D.more [x]) v vc := by
  have hlo : ∀ q, (Value.slice a2 D.es.length c2).ownBlock = some q → w.heap.size + 2 < q := fun q hq => by have := (h.own.lt q hq).1; have := h.up; omega
  have hX' : ∀ q, (Value.slice a2 D.es.length c2).ownBlock = some q → q ≠ X := own_off h.own h.x (by decide)
  have m1 := h.m.next (below1 wx ob)
  have x1 := h.x.next (below1 wx ob)
  have m2 : Mr w W B a c r := ⟨(g.block _ m1.b.lt (fun e => by have := hlo _ e.symm; omega)).trans m1.b, (g.block _ (block_lt m1.rc) (fun e => by have := hlo _ e.symm; omega)).trans m1.rc, (g.block _ m1.z.lt (fun e => by have := hlo _ e.symm; omega)).trans m1.z, m1.bel.grown g m1.bel.size (fun k hk => by have := hlo k hk; omega)⟩
  have x2 : bBlock W X D.r D.e D.f D.t D.o a2 D.es.length c2 := (g.block _ x1.lt (fun e => hX' _ e.symm rfl)).trans x1
  have t := Turned.set X 5 W (.slice v (D.es.length + 1) vc)
  have hl : (D.more [x]).es.length = D.es.length + 1 := by simp [Bt.more]
  have e1 : (evFlat (D.more [x]).es).map (Value.int .i64) = (evFlat D.es).map (Value.int .i64) ++ [x.k, x.p, x.i, x.b, x.he, x.hn].map (Value.int .i64) := by simp only [Bt.more]; rw [evFlat_append, List.map_append]; rfl
  refine ⟨x2, m2.turned t h.hX, ?_, ?_, h.up, h.hX, by rw [t.size]; have h1 := g.size; have h2 := h.le; simp at h1; omega⟩
  · rw [hl]
    have := x2
    unfold bBlock at this ⊢
    rw [heap_setB this]
    simp [Bt.more]
  · rw [hl, e1]
    exact t.owns own (own_off own x2 (by decide))
theorem Rt.next (h : Rt w wx X B a c r D a2 c2) (b : Below wx.heap.size wx wy) : Rt w wy X B a c r D a2 c2 := ⟨h.m.next b, h.x.next b, h.inn.next b, h.ap, h.hX⟩
/-- no berth is answered. -/
theorem Rt.no (h : Rt w wx X B a c r D a2 c2) {er : Int} (hA : applyOf B r = (Bt.zero, er)) : ∃ W, W = (((((wx.setCell ⟨w.heap.size + 2, 0, none⟩ (.int .i64 0)).setCell ⟨w.heap.size + 2, 1, none⟩ (.int .i64 0)).setCell ⟨w.heap.size + 2, 2, none⟩ (.int .i64 0)).setCell ⟨w.heap.size + 2, 3, none⟩ (.int .i64 0)).setCell ⟨w.heap.size + 2, 4, none⟩ (.int .i64 0)).setCell ⟨w.heap.size + 2, 5, none⟩ (.slice none 0 0) ∧ bBlock W (w.heap.size + 2) 0 0 0 0 0 none 0 0 ∧ ApplyR w W B r (.returned (.tuple #[bVal 0 0 0 0 0 none 0 0, .int .i64 er])) := by
  obtain ⟨W4, hW4, d4, b4, _⟩ := b_stored h.m.z h.m.bel (show w.heap.size ≤ w.heap.size + 2 by omega) 0 0 0 0 0 none 0 0
  exact ⟨W4, hW4, d4, ApplyR.none hA b4⟩
/-- the copy is answered. -/
theorem Rt.yes (h : Rt w wx X B a c r D a2 c2) (hA : applyOf B r = (D, 0)) : ∃ W, W = (((((wx.setCell ⟨w.heap.size + 2, 0, none⟩ (.int .i64 D.r)).setCell ⟨w.heap.size + 2, 1, none⟩ (.int .i64 D.e)).setCell ⟨w.heap.size + 2, 2, none⟩ (.int .i64 D.f)).setCell ⟨w.heap.size + 2, 3, none⟩ (.int .i64 D.t)).setCell ⟨w.heap.size + 2, 4, none⟩ (.int .i64 D.o)).setCell ⟨w.heap.size + 2, 5, none⟩ (.slice a2 D.es.length c2) ∧ bBlock W (w.heap.size + 2) D.r D.e D.f D.t D.o a2 D.es.length c2 ∧ ApplyR w W B r (.returned (.tuple #[bVal D.r D.e D.f D.t D.o a2 D.es.length c2, .int .i64 0])) := by
  obtain ⟨W4, hW4, d4, b4, t4⟩ := b_stored h.m.z h.m.bel (show w.heap.size ≤ w.heap.size + 2 by omega) D.r D.e D.f D.t D.o a2 D.es.length c2
  exact ⟨W4, hW4, d4, ApplyR.some hA (h.inn.turned t4 (fun y hy _ => by have := h.ap y hy; omega)) b4⟩
end
end Go.Proofs.YtmhdpbmjhijhkaaGreat

namespace Go.Proofs.YtmhdpbmjhijhkaaGreat
open Go.RowKit

set_option maxRecDepth 20000 in
set_option maxHeartbeats 8000000 in
theorem applied_1 (B : Bt) (a : Option Addr) (c : Nat) (r : Rec) (w : World) (hb : BIn w B a c) (hw : ∀ u ∈ evFlat B.es, (Lit.int .i64 u).wf = true) (hv : ∀ u ∈ evFlat [r.v], (Lit.int .i64 u).wf = true) (ok : B.Ok) (hf : r.fault = 0) (hk : r.k = 1) :
    Calls Tryz.prog 12 #[bVal B.r B.e B.f B.t B.o a B.es.length c, recIn r] w fun x w' => ApplyR w w' B r x := by
  have HP : ∀ w, Calls Tryz.prog 33 #[recIn r] w fun x w' => x = .returned (.int .i64 0) ∧ Below w.heap.size w w' := fun w => by have := recordFault_any r.k r.q r.e r.p r.v.k r.v.p r.v.i r.v.b r.v.he r.v.hn w; rw [show recordFault r.k r.q r.e r.p r.v.k r.v.p r.v.i r.v.b r.v.he r.v.hn = 0 from hf] at this; exact this
  have HOK := veil ok
  have HF := veil hf
  have HWF := veil hw
  have HVF := veil hv
  have HS : Hid (B.es.length * 48 ≤ 140737488351232) := veil (by have := ok.len; omega)
  have HL := veil ok.len
  have q1 : (r.k == 1) = true := by simp [hk]
  have q2 : (r.k == 2) = false := by simp [hk]
  have q3 : (r.k == 3) = false := by simp [hk]
  have q4 : (r.k == 4) = false := by simp [hk]
  have q5 : (r.k == 5) = false := by simp [hk]
  have q6 : (r.k == 6) = false := by simp [hk]
  have hd : (r.p = 0 ∧ B.r = 0 ∧ B.e < r.e → deedOf B r = some (⟨1, r.e, 0, 0, 0, []⟩ : Bt)) ∧ (¬ (r.p = 0 ∧ B.r = 0 ∧ B.e < r.e) → deedOf B r = none) := by
    unfold deedOf
    rw [ if_pos hk]
    exact ⟨fun h => if_pos h, fun h => if_neg h⟩
  by_cases hall : r.p = 0 ∧ B.r = 0 ∧ B.e < r.e
  case neg =>
    have HAP := veil (apply_none ok hf (hd.2 hall))
    have hcs : ((r.p == 0) = true ∧ (B.r == 0) = true ∧ (decide (B.e < r.e)) = false) ∨ ((r.p == 0) = true ∧ (B.r == 0) = false ∧ (decide (B.e < r.e)) = true) ∨ ((r.p == 0) = true ∧ (B.r == 0) = false ∧ (decide (B.e < r.e)) = false) ∨ ((r.p == 0) = false ∧ (B.r == 0) = true ∧ (decide (B.e < r.e)) = true) ∨ ((r.p == 0) = false ∧ (B.r == 0) = true ∧ (decide (B.e < r.e)) = false) ∨ ((r.p == 0) = false ∧ (B.r == 0) = false ∧ (decide (B.e < r.e)) = true) ∨ ((r.p == 0) = false ∧ (B.r == 0) = false ∧ (decide (B.e < r.e)) = false) := by
      have hn : ¬ ((r.p == 0) = true ∧ (B.r == 0) = true ∧ (decide (B.e < r.e)) = true) := by
        intro h
        exact hall (by simpa using h)
      clear hall hd
      generalize (r.p == 0) = b0 at hn ⊢
      generalize (B.r == 0) = b1 at hn ⊢
      generalize (decide (B.e < r.e)) = b2 at hn ⊢
      revert hn
      cases b0 <;> cases b1 <;> cases b2 <;> simp
    clear hd hall
    rcases hcs with ⟨e1, e2, e3⟩ | ⟨e1, e2, e3⟩ | ⟨e1, e2, e3⟩ | ⟨e1, e2, e3⟩ | ⟨e1, e2, e3⟩ | ⟨e1, e2, e3⟩ | ⟨e1, e2, e3⟩
    all_goals
      clear hk hf
      go_enter Tryz.func12, Tryz.ntmps12
      go_upto_region 1 with fail
      obtain ⟨W1, hW1, M1⟩ := Mr.made w B a c r
      rw [← hW1]
      clear hW1
      have HC := faultB_yes B a c W1 (hb.next M1.bel) ok
      have HBI := veil (hb.next M1.bel)
      obtain ⟨x0, x1, x2, x3, x4, x5⟩ := M1.b.cells
      have HM := veil M1
      clear M1 ok hb hw hv
      go_upto_region 6 with (first | (go_at_call 32; refine HC.mono ?_; rintro x W2 ⟨rfl, b2⟩; clear HC x0 x1 x2 x3 x4 x5; have M2 := (unveil HM).next b2; obtain ⟨r0, r1, r2, r3, r4, r5, r6, r7, r8, r9⟩ := M2.rc.cells; have HM2 := veil M2; have HB2 := veil ((unveil HBI).next b2); clear M2 b2 HM HBI) | (go_at_call 33; refine (HP _).mono ?_; rintro x W3 ⟨rfl, b3⟩; clear HP r0 r1 r2 r3 r4 r5 r6 r7 r8 r9; have M3 := (unveil HM2).next b3; obtain ⟨x0, x1, x2, x3, x4, x5⟩ := M3.b.cells; have HM3 := veil M3; have HB3 := veil ((unveil HB2).next b3); clear M3 b3 HM2 HB2))
      go_upto_region 7 with (go_at_call 27; refine (bcopy_own B a c _ (unveil HB3) (unveil HS)).mono ?_; rintro x W4 ⟨a2, c2, rfl, own4, i4, u4, b4⟩; have HR4 := veil (Rf.made (unveil HM3) own4 b4); have HB4 := veil ((unveil HB3).next b4); clear own4 i4 u4 b4 x0 x1 x2 x3 x4 x5)
      obtain ⟨W5, hW5, R5⟩ := unveil HR4
      rw [← hW5]
      have HB5 : Hid (BIn W5 B a c) := veil (by rw [hW5]; exact (unveil HB4).next (below1 _ _))
      obtain ⟨x0, x1, x2, x3, x4, x5⟩ := R5.m.b.cells
      obtain ⟨r0, r1, r2, r3, r4, r5, r6, r7, r8, r9⟩ := R5.m.rc.cells
      obtain ⟨k0, k1, k2, k3, k4, k5⟩ := R5.x.cells
      have kf := R5.x.free
      have HR5 := veil R5
      clear hW5 R5 HR4 HB4 HM3 HB3
      go_upto_region 34 with fail
      obtain ⟨D, hDe⟩ : ∃ D : Bt, D = ⟨1, r.e, 0, 0, 0, []⟩ := ⟨_, rfl⟩
      obtain ⟨W8, hW8, d8, _, t8⟩ := b_stored (unveil HR5).x (Below.refl W4.heap.size W5) (Nat.le_refl _) 1 r.e 0 0 0 none 0 0
      rw [← hW8]
      obtain ⟨a8, ha8⟩ : ∃ a8 : Option Addr, a8 = none := ⟨_, rfl⟩
      obtain ⟨c8, hc8⟩ : ∃ c8 : Nat, c8 = 0 := ⟨_, rfl⟩
      have R8 : Rt w W8 W4.heap.size B a c r D a8 c8 := by
        rw [hDe, ha8, hc8]
        exact ⟨(unveil HR5).m.turned t8 (unveil HR5).hX, d8, ⟨RowK.nil _ _ _, Nat.le_refl _, fun _ => rfl⟩, (fun y hy => by cases hy), (unveil HR5).hX⟩
      have H8 := veil R8
      clear hW8 R8 HR5 HB5 d8 t8 ha8 hc8 x0 x1 x2 x3 x4 x5 r0 r1 r2 r3 r4 r5 r6 r7 r8 r9 k0 k1 k2 k3 k4 k5 kf
      obtain ⟨x0, x1, x2, x3, x4, x5⟩ := (unveil H8).m.b.cells
      obtain ⟨z0, z1, z2, z3, z4, z5⟩ := (unveil H8).m.z.cells
      have zf := (unveil H8).m.z.free
      go_wp2
      obtain ⟨W9, hW9, d9, A9⟩ := (unveil H8).no (unveil HAP)
      rw [← hW9]
      exact bodyPost_ret (ret_applied d9 rfl rfl) rfl A9
  case pos =>
  have HDO0 := veil (hd.1 hall)
  have e1 : (r.p == 0) = true := by simpa using hall.1
  have e2 : (B.r == 0) = true := by simpa using hall.2.1
  have e3 : (decide (B.e < r.e)) = true := by simpa using hall.2.2
  have f1 : (B.r == 2) = false := by have := hall; simp; omega
  clear hd hall
  clear hk hf
  go_enter Tryz.func12, Tryz.ntmps12
  go_upto_region 1 with fail
  obtain ⟨W1, hW1, M1⟩ := Mr.made w B a c r
  rw [← hW1]
  clear hW1
  have HC := faultB_yes B a c W1 (hb.next M1.bel) ok
  have HBI := veil (hb.next M1.bel)
  obtain ⟨x0, x1, x2, x3, x4, x5⟩ := M1.b.cells
  have HM := veil M1
  clear M1 ok hb hw hv
  go_upto_region 6 with (first | (go_at_call 32; refine HC.mono ?_; rintro x W2 ⟨rfl, b2⟩; clear HC x0 x1 x2 x3 x4 x5; have M2 := (unveil HM).next b2; obtain ⟨r0, r1, r2, r3, r4, r5, r6, r7, r8, r9⟩ := M2.rc.cells; have HM2 := veil M2; have HB2 := veil ((unveil HBI).next b2); clear M2 b2 HM HBI) | (go_at_call 33; refine (HP _).mono ?_; rintro x W3 ⟨rfl, b3⟩; clear HP r0 r1 r2 r3 r4 r5 r6 r7 r8 r9; have M3 := (unveil HM2).next b3; obtain ⟨x0, x1, x2, x3, x4, x5⟩ := M3.b.cells; have HM3 := veil M3; have HB3 := veil ((unveil HB2).next b3); clear M3 b3 HM2 HB2))
  go_upto_region 7 with (go_at_call 27; refine (bcopy_own B a c _ (unveil HB3) (unveil HS)).mono ?_; rintro x W4 ⟨a2, c2, rfl, own4, i4, u4, b4⟩; have HR4 := veil (Rf.made (unveil HM3) own4 b4); have HB4 := veil ((unveil HB3).next b4); clear own4 i4 u4 b4 x0 x1 x2 x3 x4 x5)
  obtain ⟨W5, hW5, R5⟩ := unveil HR4
  rw [← hW5]
  have HB5 : Hid (BIn W5 B a c) := veil (by rw [hW5]; exact (unveil HB4).next (below1 _ _))
  obtain ⟨x0, x1, x2, x3, x4, x5⟩ := R5.m.b.cells
  obtain ⟨r0, r1, r2, r3, r4, r5, r6, r7, r8, r9⟩ := R5.m.rc.cells
  obtain ⟨k0, k1, k2, k3, k4, k5⟩ := R5.x.cells
  have kf := R5.x.free
  have HR5 := veil R5
  clear hW5 R5 HR4 HB4 HM3 HB3
  go_upto_region 34 with fail
  obtain ⟨D, hDe⟩ : ∃ D : Bt, D = ⟨1, r.e, 0, 0, 0, []⟩ := ⟨_, rfl⟩
  obtain ⟨W8, hW8, d8, _, t8⟩ := b_stored (unveil HR5).x (Below.refl W4.heap.size W5) (Nat.le_refl _) 1 r.e 0 0 0 none 0 0
  rw [← hW8]
  obtain ⟨a8, ha8⟩ : ∃ a8 : Option Addr, a8 = none := ⟨_, rfl⟩
  obtain ⟨c8, hc8⟩ : ∃ c8 : Nat, c8 = 0 := ⟨_, rfl⟩
  have R8 : Rt w W8 W4.heap.size B a c r D a8 c8 := by
    rw [hDe, ha8, hc8]
    exact ⟨(unveil HR5).m.turned t8 (unveil HR5).hX, d8, ⟨RowK.nil _ _ _, Nat.le_refl _, fun _ => rfl⟩, (fun y hy => by cases hy), (unveil HR5).hX⟩
  have H8 := veil R8
  clear hW8 R8 HR5 HB5 d8 t8 ha8 hc8 x0 x1 x2 x3 x4 x5 r0 r1 r2 r3 r4 r5 r6 r7 r8 r9 k0 k1 k2 k3 k4 k5 kf
  have HDO : Hid (deedOf B r = some D) := veil (by rw [hDe]; exact unveil HDO0)
  clear hDe HDO0
  by_cases hD : D.Ok
  case neg =>
    have HAP := veil (apply_bad (unveil HOK) (unveil HF) (unveil HDO) hD)
    have HC := faultB_no D a8 c8 _ (unveil H8).inn hD
    clear hD
    obtain ⟨x0, x1, x2, x3, x4, x5⟩ := (unveil H8).m.b.cells
    obtain ⟨k0, k1, k2, k3, k4, k5⟩ := (unveil H8).x.cells
    go_wp2_with (go_at_call 32; refine HC.mono ?_; rintro x WE ⟨rfl, bE⟩; clear HC x0 x1 x2 x3 x4 x5 k0 k1 k2 k3 k4 k5; have HE := veil ((unveil H8).next bE); obtain ⟨k0, k1, k2, k3, k4, k5⟩ := (unveil HE).x.cells; obtain ⟨z0, z1, z2, z3, z4, z5⟩ := (unveil HE).m.z.cells; have zf := (unveil HE).m.z.free; clear bE)
    obtain ⟨W9, hW9, d9, A9⟩ := (unveil HE).no (unveil HAP)
    rw [← hW9]
    exact bodyPost_ret (ret_applied d9 rfl rfl) rfl A9
  case pos =>
    have HAP := veil (apply_good (unveil HOK) (unveil HF) (unveil HDO) hD)
    have HC := faultB_yes D a8 c8 _ (unveil H8).inn hD
    clear hD
    obtain ⟨x0, x1, x2, x3, x4, x5⟩ := (unveil H8).m.b.cells
    obtain ⟨k0, k1, k2, k3, k4, k5⟩ := (unveil H8).x.cells
    go_wp2_with (go_at_call 32; refine HC.mono ?_; rintro x WE ⟨rfl, bE⟩; clear HC x0 x1 x2 x3 x4 x5 k0 k1 k2 k3 k4 k5; have HE := veil ((unveil H8).next bE); obtain ⟨k0, k1, k2, k3, k4, k5⟩ := (unveil HE).x.cells; obtain ⟨z0, z1, z2, z3, z4, z5⟩ := (unveil HE).m.z.cells; have zf := (unveil HE).m.z.free; clear bE)
    obtain ⟨W9, hW9, d9, A9⟩ := (unveil HE).yes (unveil HAP)
    rw [← hW9]
    exact bodyPost_ret (ret_applied d9 rfl rfl) rfl A9
end Go.Proofs.YtmhdpbmjhijhkaaGreat

namespace Go.Proofs.YtmhdpbmjhijhkaaGreat
open Go.RowKit

set_option maxRecDepth 20000 in
set_option maxHeartbeats 8000000 in
theorem applied_2 (B : Bt) (a : Option Addr) (c : Nat) (r : Rec) (w : World) (hb : BIn w B a c) (hw : ∀ u ∈ evFlat B.es, (Lit.int .i64 u).wf = true) (hv : ∀ u ∈ evFlat [r.v], (Lit.int .i64 u).wf = true) (ok : B.Ok) (hf : r.fault = 0) (hk : r.k = 2) :
    Calls Tryz.prog 12 #[bVal B.r B.e B.f B.t B.o a B.es.length c, recIn r] w fun x w' => ApplyR w w' B r x := by
  have HP : ∀ w, Calls Tryz.prog 33 #[recIn r] w fun x w' => x = .returned (.int .i64 0) ∧ Below w.heap.size w w' := fun w => by have := recordFault_any r.k r.q r.e r.p r.v.k r.v.p r.v.i r.v.b r.v.he r.v.hn w; rw [show recordFault r.k r.q r.e r.p r.v.k r.v.p r.v.i r.v.b r.v.he r.v.hn = 0 from hf] at this; exact this
  have HOK := veil ok
  have HF := veil hf
  have HWF := veil hw
  have HVF := veil hv
  have HS : Hid (B.es.length * 48 ≤ 140737488351232) := veil (by have := ok.len; omega)
  have HL := veil ok.len
  have q1 : (r.k == 1) = false := by simp [hk]
  have q2 : (r.k == 2) = true := by simp [hk]
  have q3 : (r.k == 3) = false := by simp [hk]
  have q4 : (r.k == 4) = false := by simp [hk]
  have q5 : (r.k == 5) = false := by simp [hk]
  have q6 : (r.k == 6) = false := by simp [hk]
  have hd : (r.p = 0 ∧ B.e = r.e ∧ B.r = 1 → deedOf B r = some (B.more [r.v])) ∧ (¬ (r.p = 0 ∧ B.e = r.e ∧ B.r = 1) → deedOf B r = none) := by
    unfold deedOf
    rw [if_neg (by omega), if_pos hk]
    exact ⟨fun h => if_pos h, fun h => if_neg h⟩
  obtain ⟨i6, hi6, hz60, hz61, hz62⟩ := info_of Tryz.infoEvent
  by_cases hall : r.p = 0 ∧ B.e = r.e ∧ B.r = 1
  case neg =>
    have HAP := veil (apply_none ok hf (hd.2 hall))
    have hcs : ((r.p == 0) = false ∧ (B.e == r.e) = false) ∨ ((r.p == 0) = false ∧ (B.e == r.e) = true) ∨ ((r.p == 0) = true ∧ (B.e == r.e) = false) ∨ ((r.p == 0) = true ∧ (B.e == r.e) = true ∧ (B.r == 1) = false) := by
      by_cases h1 : r.p = 0 <;> by_cases h2 : B.e = r.e <;> by_cases h3 : B.r = 1 <;> simp [h1, h2, h3]
      exact hall ⟨h1, h2, h3⟩
    clear hd hall
    rcases hcs with ⟨e1, e2⟩ | ⟨e1, e2⟩ | ⟨e1, e2⟩ | ⟨e1, e2, e3⟩
    all_goals
      clear hk hf
      go_enter Tryz.func12, Tryz.ntmps12
      go_upto_region 1 with fail
      obtain ⟨W1, hW1, M1⟩ := Mr.made w B a c r
      rw [← hW1]
      clear hW1
      have HC := faultB_yes B a c W1 (hb.next M1.bel) ok
      have HBI := veil (hb.next M1.bel)
      obtain ⟨x0, x1, x2, x3, x4, x5⟩ := M1.b.cells
      have HM := veil M1
      clear M1 ok hb hw hv
      go_upto_region 6 with (first | (go_at_call 32; refine HC.mono ?_; rintro x W2 ⟨rfl, b2⟩; clear HC x0 x1 x2 x3 x4 x5; have M2 := (unveil HM).next b2; obtain ⟨r0, r1, r2, r3, r4, r5, r6, r7, r8, r9⟩ := M2.rc.cells; have HM2 := veil M2; have HB2 := veil ((unveil HBI).next b2); clear M2 b2 HM HBI) | (go_at_call 33; refine (HP _).mono ?_; rintro x W3 ⟨rfl, b3⟩; clear HP r0 r1 r2 r3 r4 r5 r6 r7 r8 r9; have M3 := (unveil HM2).next b3; obtain ⟨x0, x1, x2, x3, x4, x5⟩ := M3.b.cells; have HM3 := veil M3; have HB3 := veil ((unveil HB2).next b3); clear M3 b3 HM2 HB2))
      go_upto_region 7 with (go_at_call 27; refine (bcopy_own B a c _ (unveil HB3) (unveil HS)).mono ?_; rintro x W4 ⟨a2, c2, rfl, own4, i4, u4, b4⟩; have HR4 := veil (Rf.made (unveil HM3) own4 b4); have HB4 := veil ((unveil HB3).next b4); clear own4 i4 u4 b4 x0 x1 x2 x3 x4 x5)
      obtain ⟨W5, hW5, R5⟩ := unveil HR4
      rw [← hW5]
      have HB5 : Hid (BIn W5 B a c) := veil (by rw [hW5]; exact (unveil HB4).next (below1 _ _))
      obtain ⟨x0, x1, x2, x3, x4, x5⟩ := R5.m.b.cells
      obtain ⟨r0, r1, r2, r3, r4, r5, r6, r7, r8, r9⟩ := R5.m.rc.cells
      obtain ⟨k0, k1, k2, k3, k4, k5⟩ := R5.x.cells
      have kf := R5.x.free
      have HR5 := veil R5
      clear hW5 R5 HR4 HB4 HM3 HB3
      go_upto_region 17 with fail
      have hz5 := (unveil HR5).m.z.lt
      have g3 := (unveil HR5).own.alloc (.cells #[.int .i64 r.v.k, .int .i64 r.v.p, .int .i64 r.v.i, .int .i64 r.v.b, .int .i64 r.v.he, .int .i64 r.v.hn] 28)
      have g4 := six_news W5 r.v.k r.v.p r.v.i r.v.b r.v.he r.v.hn 28
      have G1 : Hid (B.es.length + 1 ≤ maxLen) := veil (by have := unveil HL; unfold maxLen; omega)
      have G2 : Hid ((B.es.length + 1) * 48 ≤ 140737488355328) := veil (by have := unveil HL; omega)
      have G3 := veil g3
      have G4 := veil g4
      have G5 : Hid (W3.heap.size ≤ W5.heap.size) := veil (unveil HR5).le
      clear g3 g4
      go_upto_region 34 with (at_builtin; refine wpList_append_own _ rfl (.tmp 86) (.tmp 89) 22 rfl W3.heap.size 28 i6 _ 6 48 Tryz.underlying22 hi6 hz60 hz61 hz62 rfl (by decide) (.slice a2 B.es.length c2) B.es.length ((evFlat B.es).map (Value.int .i64)) rfl (unveil G3) ⟨W5.heap.size, 0, none⟩ 1 1 ([r.v.k, r.v.p, r.v.i, r.v.b, r.v.he, r.v.hn].map (Value.int .i64)) rfl rfl (unveil G4) (ints_oneCell .i64 _) (unveil G1) (unveil G2) (by have := unveil G5; simp; omega) ?_; intro v7 W7 own7 grow7 _; obtain ⟨a8, c8, rfl⟩ := own_form own7; have HR7 := veil ((unveil HR5).added own7 grow7); clear x0 x1 x2 x3 x4 x5 r0 r1 r2 r3 r4 r5 r6 r7 r8 r9 k0 k1 k2 k3 k4 k5 kf own7 grow7; have k5 := (unveil HR7).1.cells.2.2.2.2.2; have kf := (unveil HR7).1.free)
      obtain ⟨D, hDe⟩ : ∃ D, D = B.more [r.v] := ⟨_, rfl⟩
      obtain ⟨W8, hW8, R8⟩ : ∃ W8, W8 = W7.setCell ⟨W4.heap.size, 5, none⟩ (.slice a8 (B.es.length + 1) c8) ∧ Rt w W8 W4.heap.size B a c r D a8 c8 := ⟨_, rfl, by rw [hDe]; exact (unveil HR7).2.last (wf_more (unveil HWF) (unveil HVF))⟩
      rw [← hW8]
      have H8 := veil R8
      clear hW8 R8 HR7 k5 kf G1 G2 G3 G4 G5 HR5 HB5 hz5
      obtain ⟨x0, x1, x2, x3, x4, x5⟩ := (unveil H8).m.b.cells
      obtain ⟨z0, z1, z2, z3, z4, z5⟩ := (unveil H8).m.z.cells
      have zf := (unveil H8).m.z.free
      go_wp2
      obtain ⟨W9, hW9, d9, A9⟩ := (unveil H8).no (unveil HAP)
      rw [← hW9]
      exact bodyPost_ret (ret_applied d9 rfl rfl) rfl A9
  case pos =>
  have HDO' := hd.1 hall
  have e1 : (r.p == 0) = true := by simp [hall.1]
  have e2 : (B.e == r.e) = true := by simp [hall.2.1]
  have e3 : (B.r == 1) = true := by simp [hall.2.2]
  have e4 : (B.r == 2) = false := by simp [hall.2.2]
  have HDO0 := veil HDO'
  clear HDO' hd hall
  clear hk hf
  go_enter Tryz.func12, Tryz.ntmps12
  go_upto_region 1 with fail
  obtain ⟨W1, hW1, M1⟩ := Mr.made w B a c r
  rw [← hW1]
  clear hW1
  have HC := faultB_yes B a c W1 (hb.next M1.bel) ok
  have HBI := veil (hb.next M1.bel)
  obtain ⟨x0, x1, x2, x3, x4, x5⟩ := M1.b.cells
  have HM := veil M1
  clear M1 ok hb hw hv
  go_upto_region 6 with (first | (go_at_call 32; refine HC.mono ?_; rintro x W2 ⟨rfl, b2⟩; clear HC x0 x1 x2 x3 x4 x5; have M2 := (unveil HM).next b2; obtain ⟨r0, r1, r2, r3, r4, r5, r6, r7, r8, r9⟩ := M2.rc.cells; have HM2 := veil M2; have HB2 := veil ((unveil HBI).next b2); clear M2 b2 HM HBI) | (go_at_call 33; refine (HP _).mono ?_; rintro x W3 ⟨rfl, b3⟩; clear HP r0 r1 r2 r3 r4 r5 r6 r7 r8 r9; have M3 := (unveil HM2).next b3; obtain ⟨x0, x1, x2, x3, x4, x5⟩ := M3.b.cells; have HM3 := veil M3; have HB3 := veil ((unveil HB2).next b3); clear M3 b3 HM2 HB2))
  go_upto_region 7 with (go_at_call 27; refine (bcopy_own B a c _ (unveil HB3) (unveil HS)).mono ?_; rintro x W4 ⟨a2, c2, rfl, own4, i4, u4, b4⟩; have HR4 := veil (Rf.made (unveil HM3) own4 b4); have HB4 := veil ((unveil HB3).next b4); clear own4 i4 u4 b4 x0 x1 x2 x3 x4 x5)
  obtain ⟨W5, hW5, R5⟩ := unveil HR4
  rw [← hW5]
  have HB5 : Hid (BIn W5 B a c) := veil (by rw [hW5]; exact (unveil HB4).next (below1 _ _))
  obtain ⟨x0, x1, x2, x3, x4, x5⟩ := R5.m.b.cells
  obtain ⟨r0, r1, r2, r3, r4, r5, r6, r7, r8, r9⟩ := R5.m.rc.cells
  obtain ⟨k0, k1, k2, k3, k4, k5⟩ := R5.x.cells
  have kf := R5.x.free
  have HR5 := veil R5
  clear hW5 R5 HR4 HB4 HM3 HB3
  go_upto_region 17 with fail
  have hz5 := (unveil HR5).m.z.lt
  have g3 := (unveil HR5).own.alloc (.cells #[.int .i64 r.v.k, .int .i64 r.v.p, .int .i64 r.v.i, .int .i64 r.v.b, .int .i64 r.v.he, .int .i64 r.v.hn] 28)
  have g4 := six_news W5 r.v.k r.v.p r.v.i r.v.b r.v.he r.v.hn 28
  have G1 : Hid (B.es.length + 1 ≤ maxLen) := veil (by have := unveil HL; unfold maxLen; omega)
  have G2 : Hid ((B.es.length + 1) * 48 ≤ 140737488355328) := veil (by have := unveil HL; omega)
  have G3 := veil g3
  have G4 := veil g4
  have G5 : Hid (W3.heap.size ≤ W5.heap.size) := veil (unveil HR5).le
  clear g3 g4
  go_upto_region 34 with (at_builtin; refine wpList_append_own _ rfl (.tmp 86) (.tmp 89) 22 rfl W3.heap.size 28 i6 _ 6 48 Tryz.underlying22 hi6 hz60 hz61 hz62 rfl (by decide) (.slice a2 B.es.length c2) B.es.length ((evFlat B.es).map (Value.int .i64)) rfl (unveil G3) ⟨W5.heap.size, 0, none⟩ 1 1 ([r.v.k, r.v.p, r.v.i, r.v.b, r.v.he, r.v.hn].map (Value.int .i64)) rfl rfl (unveil G4) (ints_oneCell .i64 _) (unveil G1) (unveil G2) (by have := unveil G5; simp; omega) ?_; intro v7 W7 own7 grow7 _; obtain ⟨a8, c8, rfl⟩ := own_form own7; have HR7 := veil ((unveil HR5).added own7 grow7); clear x0 x1 x2 x3 x4 x5 r0 r1 r2 r3 r4 r5 r6 r7 r8 r9 k0 k1 k2 k3 k4 k5 kf own7 grow7; have k5 := (unveil HR7).1.cells.2.2.2.2.2; have kf := (unveil HR7).1.free)
  obtain ⟨D, hDe⟩ : ∃ D, D = B.more [r.v] := ⟨_, rfl⟩
  obtain ⟨W8, hW8, R8⟩ : ∃ W8, W8 = W7.setCell ⟨W4.heap.size, 5, none⟩ (.slice a8 (B.es.length + 1) c8) ∧ Rt w W8 W4.heap.size B a c r D a8 c8 := ⟨_, rfl, by rw [hDe]; exact (unveil HR7).2.last (wf_more (unveil HWF) (unveil HVF))⟩
  rw [← hW8]
  have H8 := veil R8
  clear hW8 R8 HR7 k5 kf G1 G2 G3 G4 G5 HR5 HB5 hz5
  have HDO : Hid (deedOf B r = some D) := veil (by rw [hDe]; exact unveil HDO0)
  have hes : D.es.length = B.es.length + 1 := by rw [hDe]; simp [Bt.more]
  have hD0 : D.r = B.r ∧ D.e = B.e ∧ D.f = B.f ∧ D.t = B.t ∧ D.o = B.o := by rw [hDe]; exact ⟨rfl, rfl, rfl, rfl, rfl⟩
  clear hDe HDO0 hes hD0
  by_cases hD : D.Ok
  case neg =>
    have HAP := veil (apply_bad (unveil HOK) (unveil HF) (unveil HDO) hD)
    have HC := faultB_no D a8 c8 _ (unveil H8).inn hD
    clear hD
    obtain ⟨x0, x1, x2, x3, x4, x5⟩ := (unveil H8).m.b.cells
    obtain ⟨k0, k1, k2, k3, k4, k5⟩ := (unveil H8).x.cells
    go_wp2_with (go_at_call 32; refine HC.mono ?_; rintro x WE ⟨rfl, bE⟩; clear HC x0 x1 x2 x3 x4 x5 k0 k1 k2 k3 k4 k5; have HE := veil ((unveil H8).next bE); obtain ⟨k0, k1, k2, k3, k4, k5⟩ := (unveil HE).x.cells; obtain ⟨z0, z1, z2, z3, z4, z5⟩ := (unveil HE).m.z.cells; have zf := (unveil HE).m.z.free; clear bE)
    obtain ⟨W9, hW9, d9, A9⟩ := (unveil HE).no (unveil HAP)
    rw [← hW9]
    exact bodyPost_ret (ret_applied d9 rfl rfl) rfl A9
  case pos =>
    have HAP := veil (apply_good (unveil HOK) (unveil HF) (unveil HDO) hD)
    have HC := faultB_yes D a8 c8 _ (unveil H8).inn hD
    clear hD
    obtain ⟨x0, x1, x2, x3, x4, x5⟩ := (unveil H8).m.b.cells
    obtain ⟨k0, k1, k2, k3, k4, k5⟩ := (unveil H8).x.cells
    go_wp2_with (go_at_call 32; refine HC.mono ?_; rintro x WE ⟨rfl, bE⟩; clear HC x0 x1 x2 x3 x4 x5 k0 k1 k2 k3 k4 k5; have HE := veil ((unveil H8).next bE); obtain ⟨k0, k1, k2, k3, k4, k5⟩ := (unveil HE).x.cells; obtain ⟨z0, z1, z2, z3, z4, z5⟩ := (unveil HE).m.z.cells; have zf := (unveil HE).m.z.free; clear bE)
    obtain ⟨W9, hW9, d9, A9⟩ := (unveil HE).yes (unveil HAP)
    rw [← hW9]
    exact bodyPost_ret (ret_applied d9 rfl rfl) rfl A9
end Go.Proofs.YtmhdpbmjhijhkaaGreat

namespace Go.Proofs.YtmhdpbmjhijhkaaGreat
open Go.RowKit

set_option maxRecDepth 20000 in
set_option maxHeartbeats 8000000 in
theorem applied_3 (B : Bt) (a : Option Addr) (c : Nat) (r : Rec) (w : World) (hb : BIn w B a c) (hw : ∀ u ∈ evFlat B.es, (Lit.int .i64 u).wf = true) (hv : ∀ u ∈ evFlat [r.v], (Lit.int .i64 u).wf = true) (ok : B.Ok) (hf : r.fault = 0) (hk : r.k = 3) :
    Calls Tryz.prog 12 #[bVal B.r B.e B.f B.t B.o a B.es.length c, recIn r] w fun x w' => ApplyR w w' B r x := by
  have HP : ∀ w, Calls Tryz.prog 33 #[recIn r] w fun x w' => x = .returned (.int .i64 0) ∧ Below w.heap.size w w' := fun w => by have := recordFault_any r.k r.q r.e r.p r.v.k r.v.p r.v.i r.v.b r.v.he r.v.hn w; rw [show recordFault r.k r.q r.e r.p r.v.k r.v.p r.v.i r.v.b r.v.he r.v.hn = 0 from hf] at this; exact this
  have HOK := veil ok
  have HF := veil hf
  have HWF := veil hw
  have HVF := veil hv
  have HS : Hid (B.es.length * 48 ≤ 140737488351232) := veil (by have := ok.len; omega)
  have HL := veil ok.len
  have q1 : (r.k == 1) = false := by simp [hk]
  have q2 : (r.k == 2) = false := by simp [hk]
  have q3 : (r.k == 3) = true := by simp [hk]
  have q4 : (r.k == 4) = false := by simp [hk]
  have q5 : (r.k == 5) = false := by simp [hk]
  have q6 : (r.k == 6) = false := by simp [hk]
  have hd : (B.e = r.e ∧ B.r = 1 → deedOf B r = some (⟨3, B.e, B.f, r.p, B.o, B.es⟩ : Bt)) ∧ (¬ (B.e = r.e ∧ B.r = 1) → deedOf B r = none) := by
    unfold deedOf
    rw [if_neg (by omega), if_neg (by omega), if_pos hk]
    exact ⟨fun h => if_pos h, fun h => if_neg h⟩
  by_cases hall : B.e = r.e ∧ B.r = 1
  case neg =>
    have HAP := veil (apply_none ok hf (hd.2 hall))
    have hcs : ((r.p == 0) = true ∧ (B.e == r.e) = true ∧ (B.r == 1) = false) ∨ ((r.p == 0) = true ∧ (B.e == r.e) = false ∧ (B.r == 1) = true) ∨ ((r.p == 0) = true ∧ (B.e == r.e) = false ∧ (B.r == 1) = false) ∨ ((r.p == 0) = false ∧ (B.e == r.e) = true ∧ (B.r == 1) = false) ∨ ((r.p == 0) = false ∧ (B.e == r.e) = false ∧ (B.r == 1) = true) ∨ ((r.p == 0) = false ∧ (B.e == r.e) = false ∧ (B.r == 1) = false) := by
      have hn : ¬ ((B.e == r.e) = true ∧ (B.r == 1) = true) := by
        intro h
        exact hall (by simpa using h)
      clear hall hd
      generalize (r.p == 0) = b0
      generalize (B.e == r.e) = b1 at hn ⊢
      generalize (B.r == 1) = b2 at hn ⊢
      revert hn
      cases b0 <;> cases b1 <;> cases b2 <;> simp
    clear hd hall
    rcases hcs with ⟨e1, e2, e3⟩ | ⟨e1, e2, e3⟩ | ⟨e1, e2, e3⟩ | ⟨e1, e2, e3⟩ | ⟨e1, e2, e3⟩ | ⟨e1, e2, e3⟩
    all_goals
      clear hk hf
      go_enter Tryz.func12, Tryz.ntmps12
      go_upto_region 1 with fail
      obtain ⟨W1, hW1, M1⟩ := Mr.made w B a c r
      rw [← hW1]
      clear hW1
      have HC := faultB_yes B a c W1 (hb.next M1.bel) ok
      have HBI := veil (hb.next M1.bel)
      obtain ⟨x0, x1, x2, x3, x4, x5⟩ := M1.b.cells
      have HM := veil M1
      clear M1 ok hb hw hv
      go_upto_region 6 with (first | (go_at_call 32; refine HC.mono ?_; rintro x W2 ⟨rfl, b2⟩; clear HC x0 x1 x2 x3 x4 x5; have M2 := (unveil HM).next b2; obtain ⟨r0, r1, r2, r3, r4, r5, r6, r7, r8, r9⟩ := M2.rc.cells; have HM2 := veil M2; have HB2 := veil ((unveil HBI).next b2); clear M2 b2 HM HBI) | (go_at_call 33; refine (HP _).mono ?_; rintro x W3 ⟨rfl, b3⟩; clear HP r0 r1 r2 r3 r4 r5 r6 r7 r8 r9; have M3 := (unveil HM2).next b3; obtain ⟨x0, x1, x2, x3, x4, x5⟩ := M3.b.cells; have HM3 := veil M3; have HB3 := veil ((unveil HB2).next b3); clear M3 b3 HM2 HB2))
      go_upto_region 7 with (go_at_call 27; refine (bcopy_own B a c _ (unveil HB3) (unveil HS)).mono ?_; rintro x W4 ⟨a2, c2, rfl, own4, i4, u4, b4⟩; have HR4 := veil (Rf.made (unveil HM3) own4 b4); have HB4 := veil ((unveil HB3).next b4); clear own4 i4 u4 b4 x0 x1 x2 x3 x4 x5)
      obtain ⟨W5, hW5, R5⟩ := unveil HR4
      rw [← hW5]
      have HB5 : Hid (BIn W5 B a c) := veil (by rw [hW5]; exact (unveil HB4).next (below1 _ _))
      obtain ⟨x0, x1, x2, x3, x4, x5⟩ := R5.m.b.cells
      obtain ⟨r0, r1, r2, r3, r4, r5, r6, r7, r8, r9⟩ := R5.m.rc.cells
      obtain ⟨k0, k1, k2, k3, k4, k5⟩ := R5.x.cells
      have kf := R5.x.free
      have HR5 := veil R5
      clear hW5 R5 HR4 HB4 HM3 HB3
      go_upto_region 34 with fail
      obtain ⟨D, hDe⟩ : ∃ D : Bt, D = ⟨3, B.e, B.f, r.p, B.o, B.es⟩ := ⟨_, rfl⟩
      obtain ⟨W8, hW8, R8⟩ : ∃ W8, W8 = (W5.setCell ⟨W4.heap.size, 0, none⟩ (.int .i64 3)).setCell ⟨W4.heap.size, 3, none⟩ (.int .i64 r.p) ∧ Rt w W8 W4.heap.size B a c r D a2 c2 := by
        refine ⟨_, rfl, ?_⟩
        rw [hDe]
        refine Rf.last (base := W3.heap.size) ((unveil HR5).turn ((Turned.set _ _ _ _).trans (Turned.set _ _ _ _)) rfl ?_) (unveil HWF)
        have := (unveil HR5).x
        unfold bBlock at this ⊢
        rw [heap_setB (heap_setB this)]
        simp
      rw [← hW8]
      have H8 := veil R8
      clear hW8 R8 HR5 HB5 x0 x1 x2 x3 x4 x5 r0 r1 r2 r3 r4 r5 r6 r7 r8 r9 k0 k1 k2 k3 k4 k5 kf
      obtain ⟨a8, ha8⟩ : ∃ a8, a8 = a2 := ⟨_, rfl⟩
      obtain ⟨c8, hc8⟩ : ∃ c8, c8 = c2 := ⟨_, rfl⟩
      rw [← ha8, ← hc8] at H8
      clear ha8 hc8
      obtain ⟨x0, x1, x2, x3, x4, x5⟩ := (unveil H8).m.b.cells
      obtain ⟨z0, z1, z2, z3, z4, z5⟩ := (unveil H8).m.z.cells
      have zf := (unveil H8).m.z.free
      go_wp2
      obtain ⟨W9, hW9, d9, A9⟩ := (unveil H8).no (unveil HAP)
      rw [← hW9]
      exact bodyPost_ret (ret_applied d9 rfl rfl) rfl A9
  case pos =>
  have HDO0 := veil (hd.1 hall)
  have e1 : (B.e == r.e) = true := by simpa using hall.1
  have e2 : (B.r == 1) = true := by simpa using hall.2
  have f1 : (B.r == 2) = false := by have := hall; simp; omega
  clear hd hall
  cases hx : (r.p == 0)
  all_goals
    clear hk hf
    go_enter Tryz.func12, Tryz.ntmps12
    go_upto_region 1 with fail
    obtain ⟨W1, hW1, M1⟩ := Mr.made w B a c r
    rw [← hW1]
    clear hW1
    have HC := faultB_yes B a c W1 (hb.next M1.bel) ok
    have HBI := veil (hb.next M1.bel)
    obtain ⟨x0, x1, x2, x3, x4, x5⟩ := M1.b.cells
    have HM := veil M1
    clear M1 ok hb hw hv
    go_upto_region 6 with (first | (go_at_call 32; refine HC.mono ?_; rintro x W2 ⟨rfl, b2⟩; clear HC x0 x1 x2 x3 x4 x5; have M2 := (unveil HM).next b2; obtain ⟨r0, r1, r2, r3, r4, r5, r6, r7, r8, r9⟩ := M2.rc.cells; have HM2 := veil M2; have HB2 := veil ((unveil HBI).next b2); clear M2 b2 HM HBI) | (go_at_call 33; refine (HP _).mono ?_; rintro x W3 ⟨rfl, b3⟩; clear HP r0 r1 r2 r3 r4 r5 r6 r7 r8 r9; have M3 := (unveil HM2).next b3; obtain ⟨x0, x1, x2, x3, x4, x5⟩ := M3.b.cells; have HM3 := veil M3; have HB3 := veil ((unveil HB2).next b3); clear M3 b3 HM2 HB2))
    go_upto_region 7 with (go_at_call 27; refine (bcopy_own B a c _ (unveil HB3) (unveil HS)).mono ?_; rintro x W4 ⟨a2, c2, rfl, own4, i4, u4, b4⟩; have HR4 := veil (Rf.made (unveil HM3) own4 b4); have HB4 := veil ((unveil HB3).next b4); clear own4 i4 u4 b4 x0 x1 x2 x3 x4 x5)
    obtain ⟨W5, hW5, R5⟩ := unveil HR4
    rw [← hW5]
    have HB5 : Hid (BIn W5 B a c) := veil (by rw [hW5]; exact (unveil HB4).next (below1 _ _))
    obtain ⟨x0, x1, x2, x3, x4, x5⟩ := R5.m.b.cells
    obtain ⟨r0, r1, r2, r3, r4, r5, r6, r7, r8, r9⟩ := R5.m.rc.cells
    obtain ⟨k0, k1, k2, k3, k4, k5⟩ := R5.x.cells
    have kf := R5.x.free
    have HR5 := veil R5
    clear hW5 R5 HR4 HB4 HM3 HB3
    go_upto_region 34 with fail
    obtain ⟨D, hDe⟩ : ∃ D : Bt, D = ⟨3, B.e, B.f, r.p, B.o, B.es⟩ := ⟨_, rfl⟩
    obtain ⟨W8, hW8, R8⟩ : ∃ W8, W8 = (W5.setCell ⟨W4.heap.size, 0, none⟩ (.int .i64 3)).setCell ⟨W4.heap.size, 3, none⟩ (.int .i64 r.p) ∧ Rt w W8 W4.heap.size B a c r D a2 c2 := by
      refine ⟨_, rfl, ?_⟩
      rw [hDe]
      refine Rf.last (base := W3.heap.size) ((unveil HR5).turn ((Turned.set _ _ _ _).trans (Turned.set _ _ _ _)) rfl ?_) (unveil HWF)
      have := (unveil HR5).x
      unfold bBlock at this ⊢
      rw [heap_setB (heap_setB this)]
      simp
    rw [← hW8]
    have H8 := veil R8
    clear hW8 R8 HR5 HB5 x0 x1 x2 x3 x4 x5 r0 r1 r2 r3 r4 r5 r6 r7 r8 r9 k0 k1 k2 k3 k4 k5 kf
    obtain ⟨a8, ha8⟩ : ∃ a8, a8 = a2 := ⟨_, rfl⟩
    obtain ⟨c8, hc8⟩ : ∃ c8, c8 = c2 := ⟨_, rfl⟩
    rw [← ha8, ← hc8] at H8
    clear ha8 hc8
    have HDO : Hid (deedOf B r = some D) := veil (by rw [hDe]; exact unveil HDO0)
    clear hDe HDO0
    by_cases hD : D.Ok
    case neg =>
      have HAP := veil (apply_bad (unveil HOK) (unveil HF) (unveil HDO) hD)
      have HC := faultB_no D a8 c8 _ (unveil H8).inn hD
      clear hD
      obtain ⟨x0, x1, x2, x3, x4, x5⟩ := (unveil H8).m.b.cells
      obtain ⟨k0, k1, k2, k3, k4, k5⟩ := (unveil H8).x.cells
      go_wp2_with (go_at_call 32; refine HC.mono ?_; rintro x WE ⟨rfl, bE⟩; clear HC x0 x1 x2 x3 x4 x5 k0 k1 k2 k3 k4 k5; have HE := veil ((unveil H8).next bE); obtain ⟨k0, k1, k2, k3, k4, k5⟩ := (unveil HE).x.cells; obtain ⟨z0, z1, z2, z3, z4, z5⟩ := (unveil HE).m.z.cells; have zf := (unveil HE).m.z.free; clear bE)
      obtain ⟨W9, hW9, d9, A9⟩ := (unveil HE).no (unveil HAP)
      rw [← hW9]
      exact bodyPost_ret (ret_applied d9 rfl rfl) rfl A9
    case pos =>
      have HAP := veil (apply_good (unveil HOK) (unveil HF) (unveil HDO) hD)
      have HC := faultB_yes D a8 c8 _ (unveil H8).inn hD
      clear hD
      obtain ⟨x0, x1, x2, x3, x4, x5⟩ := (unveil H8).m.b.cells
      obtain ⟨k0, k1, k2, k3, k4, k5⟩ := (unveil H8).x.cells
      go_wp2_with (go_at_call 32; refine HC.mono ?_; rintro x WE ⟨rfl, bE⟩; clear HC x0 x1 x2 x3 x4 x5 k0 k1 k2 k3 k4 k5; have HE := veil ((unveil H8).next bE); obtain ⟨k0, k1, k2, k3, k4, k5⟩ := (unveil HE).x.cells; obtain ⟨z0, z1, z2, z3, z4, z5⟩ := (unveil HE).m.z.cells; have zf := (unveil HE).m.z.free; clear bE)
      obtain ⟨W9, hW9, d9, A9⟩ := (unveil HE).yes (unveil HAP)
      rw [← hW9]
      exact bodyPost_ret (ret_applied d9 rfl rfl) rfl A9
end Go.Proofs.YtmhdpbmjhijhkaaGreat

namespace Go.Proofs.YtmhdpbmjhijhkaaGreat
open Go.RowKit

set_option maxRecDepth 20000 in
set_option maxHeartbeats 8000000 in
theorem applied_4 (B : Bt) (a : Option Addr) (c : Nat) (r : Rec) (w : World) (hb : BIn w B a c) (hw : ∀ u ∈ evFlat B.es, (Lit.int .i64 u).wf = true) (hv : ∀ u ∈ evFlat [r.v], (Lit.int .i64 u).wf = true) (ok : B.Ok) (hf : r.fault = 0) (hk : r.k = 4) :
    Calls Tryz.prog 12 #[bVal B.r B.e B.f B.t B.o a B.es.length c, recIn r] w fun x w' => ApplyR w w' B r x := by
  have HP : ∀ w, Calls Tryz.prog 33 #[recIn r] w fun x w' => x = .returned (.int .i64 0) ∧ Below w.heap.size w w' := fun w => by have := recordFault_any r.k r.q r.e r.p r.v.k r.v.p r.v.i r.v.b r.v.he r.v.hn w; rw [show recordFault r.k r.q r.e r.p r.v.k r.v.p r.v.i r.v.b r.v.he r.v.hn = 0 from hf] at this; exact this
  have HOK := veil ok
  have HF := veil hf
  have HWF := veil hw
  have HVF := veil hv
  have HS : Hid (B.es.length * 48 ≤ 140737488351232) := veil (by have := ok.len; omega)
  have HL := veil ok.len
  have q1 : (r.k == 1) = false := by simp [hk]
  have q2 : (r.k == 2) = false := by simp [hk]
  have q3 : (r.k == 3) = false := by simp [hk]
  have q4 : (r.k == 4) = true := by simp [hk]
  have q5 : (r.k == 5) = false := by simp [hk]
  have q6 : (r.k == 6) = false := by simp [hk]
  obtain ⟨D, er, hDB⟩ : ∃ D er, beginOf B r.e r.p = (D, er) := ⟨_, _, rfl⟩
  have HBg : ∀ w, BIn w B a c → Calls Tryz.prog 34 #[bVal B.r B.e B.f B.t B.o a B.es.length c, .int .i64 r.e, .int .i64 r.p] w fun x w' => ∃ a' c', x = .returned (.tuple #[bVal D.r D.e D.f D.t D.o a' D.es.length c', .int .i64 er]) ∧ BIn w' D a' c' ∧ (∀ y, a' = some y → w.heap.size ≤ y.block) ∧ Below w.heap.size w w' := fun w h => (bbegun_any B a c r.e r.p w h (unveil HS)).mono fun x w' ⟨y, B', er', h1, h2, h3, h4⟩ => by
    rw [hDB] at h2
    obtain ⟨rfl, rfl⟩ := Prod.mk.inj h2
    obtain ⟨a', c', rfl, i3, u3⟩ := h3
    exact ⟨a', c', h1, i3, u3, h4⟩
  have hd : deedOf B r = if er = 0 then some D else none := by
    unfold deedOf
    rw [if_neg (by omega), if_neg (by omega), if_neg (by omega), if_pos hk, hDB]
  have hr2 : er = 0 → ¬ B.r = 2 := by
    intro h0 h2
    unfold beginOf at hDB
    rw [if_neg (fun g => g ok)] at hDB
    split at hDB
    · have := (Prod.mk.inj hDB).2; omega
    · rw [if_pos (.inr (.inl h2))] at hDB
      have := (Prod.mk.inj hDB).2; omega
  by_cases hall : er = 0
  case neg =>
    rw [if_neg hall] at hd
    have HAP := veil (apply_none ok hf hd)
    have e2 : (er == 0) = false := by simp [hall]
    clear hd hall hr2 hDB
    cases hx : (r.p == 0)
    all_goals
      clear hk hf
      go_enter Tryz.func12, Tryz.ntmps12
      go_upto_region 1 with fail
      obtain ⟨W1, hW1, M1⟩ := Mr.made w B a c r
      rw [← hW1]
      clear hW1
      have HC := faultB_yes B a c W1 (hb.next M1.bel) ok
      have HBI := veil (hb.next M1.bel)
      obtain ⟨x0, x1, x2, x3, x4, x5⟩ := M1.b.cells
      have HM := veil M1
      clear M1 ok hb hw hv
      go_upto_region 6 with (first | (go_at_call 32; refine HC.mono ?_; rintro x W2 ⟨rfl, b2⟩; clear HC x0 x1 x2 x3 x4 x5; have M2 := (unveil HM).next b2; obtain ⟨r0, r1, r2, r3, r4, r5, r6, r7, r8, r9⟩ := M2.rc.cells; have HM2 := veil M2; have HB2 := veil ((unveil HBI).next b2); clear M2 b2 HM HBI) | (go_at_call 33; refine (HP _).mono ?_; rintro x W3 ⟨rfl, b3⟩; clear HP r0 r1 r2 r3 r4 r5 r6 r7 r8 r9; have M3 := (unveil HM2).next b3; obtain ⟨x0, x1, x2, x3, x4, x5⟩ := M3.b.cells; have HM3 := veil M3; have HB3 := veil ((unveil HB2).next b3); clear M3 b3 HM2 HB2))
      go_upto_region 7 with (go_at_call 27; refine (bcopy_own B a c _ (unveil HB3) (unveil HS)).mono ?_; rintro x W4 ⟨a2, c2, rfl, own4, i4, u4, b4⟩; have HR4 := veil (Rf.made (unveil HM3) own4 b4); have HB4 := veil ((unveil HB3).next b4); clear own4 i4 u4 b4 x0 x1 x2 x3 x4 x5)
      obtain ⟨W5, hW5, R5⟩ := unveil HR4
      rw [← hW5]
      have HB5 : Hid (BIn W5 B a c) := veil (by rw [hW5]; exact (unveil HB4).next (below1 _ _))
      obtain ⟨x0, x1, x2, x3, x4, x5⟩ := R5.m.b.cells
      obtain ⟨r0, r1, r2, r3, r4, r5, r6, r7, r8, r9⟩ := R5.m.rc.cells
      obtain ⟨k0, k1, k2, k3, k4, k5⟩ := R5.x.cells
      have kf := R5.x.free
      have HR5 := veil R5
      clear hW5 R5 HR4 HB4 HM3 HB3
      have hc := HBg W5 (unveil HB5)
      clear HBg
      go_upto_region 24 with (go_at_call 34; refine hc.mono ?_; rintro x W6 ⟨a8, c8, rfl, i6, u6, b6⟩; have HX6 := veil (And.intro ((unveil HR5).m.next b6) ((unveil HR5).x.next b6)); have HI6 := veil i6; have HU6 := veil u6; clear hc i6 u6 b6 x0 x1 x2 x3 x4 x5 r0 r1 r2 r3 r4 r5 r6 r7 r8 r9 k0 k1 k2 k3 k4 k5 kf)
      obtain ⟨W7, hW7, d7, b7⟩ : ∃ W7, W7 = W6.alloc (.cells (bCells D.r D.e D.f D.t D.o a8 D.es.length c8) 24) ∧ bBlock W7 W6.heap.size D.r D.e D.f D.t D.o a8 D.es.length c8 ∧ Below W6.heap.size W6 W7 := ⟨_, rfl, bBlock.new _ _ _ _ _ _ _ _ _, below1 _ _⟩
      rw [← hW7]
      have m7 := (unveil HX6).1.next b7
      have x7 := (unveil HX6).2.next b7
      have i7 := (unveil HI6).next b7
      have hX5 := (unveil HR5).x.lt
      obtain ⟨y0, y1, y2, y3, y4, y5⟩ := d7.cells
      obtain ⟨x0, x1, x2, x3, x4, x5⟩ := m7.b.cells
      obtain ⟨k0, k1, k2, k3, k4, k5⟩ := x7.cells
      have kf := x7.free
      have M7 := veil m7
      have X7 := veil x7
      have I7 := veil i7
      have HX := veil (unveil HR5).hX
      clear hW7 d7 b7 m7 x7 i7 HX6 HI6 HR5 HB5
      go_upto_region 34 with fail
      obtain ⟨W8, hW8, d8, _, t8⟩ := b_stored (unveil X7) (Below.refl W4.heap.size W7) (Nat.le_refl _) D.r D.e D.f D.t D.o a8 D.es.length c8
      rw [← hW8]
      have R8 : Rt w W8 W4.heap.size B a c r D a8 c8 :=
        ⟨(unveil M7).turned t8 (unveil HX), d8, (unveil I7).turned t8 (fun y hy _ => by have := unveil HU6 y hy; omega), (fun y hy => by have := unveil HU6 y hy; have := unveil HX; omega), unveil HX⟩
      have H8 := veil R8
      clear hW8 R8 d8 t8 M7 X7 I7 HU6 HX x0 x1 x2 x3 x4 x5 y0 y1 y2 y3 y4 y5 k0 k1 k2 k3 k4 k5 kf
      obtain ⟨x0, x1, x2, x3, x4, x5⟩ := (unveil H8).m.b.cells
      obtain ⟨z0, z1, z2, z3, z4, z5⟩ := (unveil H8).m.z.cells
      have zf := (unveil H8).m.z.free
      go_wp2
      obtain ⟨W9, hW9, d9, A9⟩ := (unveil H8).no (unveil HAP)
      rw [← hW9]
      exact bodyPost_ret (ret_applied d9 rfl rfl) rfl A9
  case pos =>
  rw [if_pos hall] at hd
  have HDO := veil hd
  have e2 : (er == 0) = true := by simp [hall]
  have f1 : (B.r == 2) = false := by simp [hr2 hall]
  clear hd hall hr2 hDB
  cases hx : (r.p == 0)
  all_goals
    clear hk hf
    go_enter Tryz.func12, Tryz.ntmps12
    go_upto_region 1 with fail
    obtain ⟨W1, hW1, M1⟩ := Mr.made w B a c r
    rw [← hW1]
    clear hW1
    have HC := faultB_yes B a c W1 (hb.next M1.bel) ok
    have HBI := veil (hb.next M1.bel)
    obtain ⟨x0, x1, x2, x3, x4, x5⟩ := M1.b.cells
    have HM := veil M1
    clear M1 ok hb hw hv
    go_upto_region 6 with (first | (go_at_call 32; refine HC.mono ?_; rintro x W2 ⟨rfl, b2⟩; clear HC x0 x1 x2 x3 x4 x5; have M2 := (unveil HM).next b2; obtain ⟨r0, r1, r2, r3, r4, r5, r6, r7, r8, r9⟩ := M2.rc.cells; have HM2 := veil M2; have HB2 := veil ((unveil HBI).next b2); clear M2 b2 HM HBI) | (go_at_call 33; refine (HP _).mono ?_; rintro x W3 ⟨rfl, b3⟩; clear HP r0 r1 r2 r3 r4 r5 r6 r7 r8 r9; have M3 := (unveil HM2).next b3; obtain ⟨x0, x1, x2, x3, x4, x5⟩ := M3.b.cells; have HM3 := veil M3; have HB3 := veil ((unveil HB2).next b3); clear M3 b3 HM2 HB2))
    go_upto_region 7 with (go_at_call 27; refine (bcopy_own B a c _ (unveil HB3) (unveil HS)).mono ?_; rintro x W4 ⟨a2, c2, rfl, own4, i4, u4, b4⟩; have HR4 := veil (Rf.made (unveil HM3) own4 b4); have HB4 := veil ((unveil HB3).next b4); clear own4 i4 u4 b4 x0 x1 x2 x3 x4 x5)
    obtain ⟨W5, hW5, R5⟩ := unveil HR4
    rw [← hW5]
    have HB5 : Hid (BIn W5 B a c) := veil (by rw [hW5]; exact (unveil HB4).next (below1 _ _))
    obtain ⟨x0, x1, x2, x3, x4, x5⟩ := R5.m.b.cells
    obtain ⟨r0, r1, r2, r3, r4, r5, r6, r7, r8, r9⟩ := R5.m.rc.cells
    obtain ⟨k0, k1, k2, k3, k4, k5⟩ := R5.x.cells
    have kf := R5.x.free
    have HR5 := veil R5
    clear hW5 R5 HR4 HB4 HM3 HB3
    have hc := HBg W5 (unveil HB5)
    clear HBg
    go_upto_region 24 with (go_at_call 34; refine hc.mono ?_; rintro x W6 ⟨a8, c8, rfl, i6, u6, b6⟩; have HX6 := veil (And.intro ((unveil HR5).m.next b6) ((unveil HR5).x.next b6)); have HI6 := veil i6; have HU6 := veil u6; clear hc i6 u6 b6 x0 x1 x2 x3 x4 x5 r0 r1 r2 r3 r4 r5 r6 r7 r8 r9 k0 k1 k2 k3 k4 k5 kf)
    obtain ⟨W7, hW7, d7, b7⟩ : ∃ W7, W7 = W6.alloc (.cells (bCells D.r D.e D.f D.t D.o a8 D.es.length c8) 24) ∧ bBlock W7 W6.heap.size D.r D.e D.f D.t D.o a8 D.es.length c8 ∧ Below W6.heap.size W6 W7 := ⟨_, rfl, bBlock.new _ _ _ _ _ _ _ _ _, below1 _ _⟩
    rw [← hW7]
    have m7 := (unveil HX6).1.next b7
    have x7 := (unveil HX6).2.next b7
    have i7 := (unveil HI6).next b7
    have hX5 := (unveil HR5).x.lt
    obtain ⟨y0, y1, y2, y3, y4, y5⟩ := d7.cells
    obtain ⟨x0, x1, x2, x3, x4, x5⟩ := m7.b.cells
    obtain ⟨k0, k1, k2, k3, k4, k5⟩ := x7.cells
    have kf := x7.free
    have M7 := veil m7
    have X7 := veil x7
    have I7 := veil i7
    have HX := veil (unveil HR5).hX
    clear hW7 d7 b7 m7 x7 i7 HX6 HI6 HR5 HB5
    go_upto_region 34 with fail
    obtain ⟨W8, hW8, d8, _, t8⟩ := b_stored (unveil X7) (Below.refl W4.heap.size W7) (Nat.le_refl _) D.r D.e D.f D.t D.o a8 D.es.length c8
    rw [← hW8]
    have R8 : Rt w W8 W4.heap.size B a c r D a8 c8 :=
      ⟨(unveil M7).turned t8 (unveil HX), d8, (unveil I7).turned t8 (fun y hy _ => by have := unveil HU6 y hy; omega), (fun y hy => by have := unveil HU6 y hy; have := unveil HX; omega), unveil HX⟩
    have H8 := veil R8
    clear hW8 R8 d8 t8 M7 X7 I7 HU6 HX x0 x1 x2 x3 x4 x5 y0 y1 y2 y3 y4 y5 k0 k1 k2 k3 k4 k5 kf
    by_cases hD : D.Ok
    case neg =>
      have HAP := veil (apply_bad (unveil HOK) (unveil HF) (unveil HDO) hD)
      have HC := faultB_no D a8 c8 _ (unveil H8).inn hD
      clear hD
      obtain ⟨x0, x1, x2, x3, x4, x5⟩ := (unveil H8).m.b.cells
      obtain ⟨k0, k1, k2, k3, k4, k5⟩ := (unveil H8).x.cells
      go_wp2_with (go_at_call 32; refine HC.mono ?_; rintro x WE ⟨rfl, bE⟩; clear HC x0 x1 x2 x3 x4 x5 k0 k1 k2 k3 k4 k5; have HE := veil ((unveil H8).next bE); obtain ⟨k0, k1, k2, k3, k4, k5⟩ := (unveil HE).x.cells; obtain ⟨z0, z1, z2, z3, z4, z5⟩ := (unveil HE).m.z.cells; have zf := (unveil HE).m.z.free; clear bE)
      obtain ⟨W9, hW9, d9, A9⟩ := (unveil HE).no (unveil HAP)
      rw [← hW9]
      exact bodyPost_ret (ret_applied d9 rfl rfl) rfl A9
    case pos =>
      have HAP := veil (apply_good (unveil HOK) (unveil HF) (unveil HDO) hD)
      have HC := faultB_yes D a8 c8 _ (unveil H8).inn hD
      clear hD
      obtain ⟨x0, x1, x2, x3, x4, x5⟩ := (unveil H8).m.b.cells
      obtain ⟨k0, k1, k2, k3, k4, k5⟩ := (unveil H8).x.cells
      go_wp2_with (go_at_call 32; refine HC.mono ?_; rintro x WE ⟨rfl, bE⟩; clear HC x0 x1 x2 x3 x4 x5 k0 k1 k2 k3 k4 k5; have HE := veil ((unveil H8).next bE); obtain ⟨k0, k1, k2, k3, k4, k5⟩ := (unveil HE).x.cells; obtain ⟨z0, z1, z2, z3, z4, z5⟩ := (unveil HE).m.z.cells; have zf := (unveil HE).m.z.free; clear bE)
      obtain ⟨W9, hW9, d9, A9⟩ := (unveil HE).yes (unveil HAP)
      rw [← hW9]
      exact bodyPost_ret (ret_applied d9 rfl rfl) rfl A9
end Go.Proofs.YtmhdpbmjhijhkaaGreat

namespace Go.Proofs.YtmhdpbmjhijhkaaGreat
open Go.RowKit

set_option maxRecDepth 20000 in
set_option maxHeartbeats 8000000 in
theorem applied_5 (B : Bt) (a : Option Addr) (c : Nat) (r : Rec) (w : World) (hb : BIn w B a c) (hw : ∀ u ∈ evFlat B.es, (Lit.int .i64 u).wf = true) (hv : ∀ u ∈ evFlat [r.v], (Lit.int .i64 u).wf = true) (ok : B.Ok) (hf : r.fault = 0) (hk : r.k = 5) :
    Calls Tryz.prog 12 #[bVal B.r B.e B.f B.t B.o a B.es.length c, recIn r] w fun x w' => ApplyR w w' B r x := by
  have HP : ∀ w, Calls Tryz.prog 33 #[recIn r] w fun x w' => x = .returned (.int .i64 0) ∧ Below w.heap.size w w' := fun w => by have := recordFault_any r.k r.q r.e r.p r.v.k r.v.p r.v.i r.v.b r.v.he r.v.hn w; rw [show recordFault r.k r.q r.e r.p r.v.k r.v.p r.v.i r.v.b r.v.he r.v.hn = 0 from hf] at this; exact this
  have HOK := veil ok
  have HF := veil hf
  have HWF := veil hw
  have HVF := veil hv
  have HS : Hid (B.es.length * 48 ≤ 140737488351232) := veil (by have := ok.len; omega)
  have HL := veil ok.len
  have q1 : (r.k == 1) = false := by simp [hk]
  have q2 : (r.k == 2) = false := by simp [hk]
  have q3 : (r.k == 3) = false := by simp [hk]
  have q4 : (r.k == 4) = false := by simp [hk]
  have q5 : (r.k == 5) = true := by simp [hk]
  have q6 : (r.k == 6) = false := by simp [hk]
  have hd : (r.p = 0 ∧ B.e = r.e ∧ B.r = 4 → deedOf B r = some (B.more [r.v])) ∧ (¬ (r.p = 0 ∧ B.e = r.e ∧ B.r = 4) → deedOf B r = none) := by
    unfold deedOf
    rw [if_neg (by omega), if_neg (by omega), if_neg (by omega), if_neg (by omega), if_pos hk]
    exact ⟨fun h => if_pos h, fun h => if_neg h⟩
  obtain ⟨i6, hi6, hz60, hz61, hz62⟩ := info_of Tryz.infoEvent
  by_cases hall : r.p = 0 ∧ B.e = r.e ∧ B.r = 4
  case neg =>
    have HAP := veil (apply_none ok hf (hd.2 hall))
    have hcs : ((r.p == 0) = false ∧ (B.e == r.e) = false) ∨ ((r.p == 0) = false ∧ (B.e == r.e) = true) ∨ ((r.p == 0) = true ∧ (B.e == r.e) = false) ∨ ((r.p == 0) = true ∧ (B.e == r.e) = true ∧ (B.r == 4) = false) := by
      by_cases h1 : r.p = 0 <;> by_cases h2 : B.e = r.e <;> by_cases h3 : B.r = 4 <;> simp [h1, h2, h3]
      exact hall ⟨h1, h2, h3⟩
    clear hd hall
    rcases hcs with ⟨e1, e2⟩ | ⟨e1, e2⟩ | ⟨e1, e2⟩ | ⟨e1, e2, e3⟩
    all_goals
      clear hk hf
      go_enter Tryz.func12, Tryz.ntmps12
      go_upto_region 1 with fail
      obtain ⟨W1, hW1, M1⟩ := Mr.made w B a c r
      rw [← hW1]
      clear hW1
      have HC := faultB_yes B a c W1 (hb.next M1.bel) ok
      have HBI := veil (hb.next M1.bel)
      obtain ⟨x0, x1, x2, x3, x4, x5⟩ := M1.b.cells
      have HM := veil M1
      clear M1 ok hb hw hv
      go_upto_region 6 with (first | (go_at_call 32; refine HC.mono ?_; rintro x W2 ⟨rfl, b2⟩; clear HC x0 x1 x2 x3 x4 x5; have M2 := (unveil HM).next b2; obtain ⟨r0, r1, r2, r3, r4, r5, r6, r7, r8, r9⟩ := M2.rc.cells; have HM2 := veil M2; have HB2 := veil ((unveil HBI).next b2); clear M2 b2 HM HBI) | (go_at_call 33; refine (HP _).mono ?_; rintro x W3 ⟨rfl, b3⟩; clear HP r0 r1 r2 r3 r4 r5 r6 r7 r8 r9; have M3 := (unveil HM2).next b3; obtain ⟨x0, x1, x2, x3, x4, x5⟩ := M3.b.cells; have HM3 := veil M3; have HB3 := veil ((unveil HB2).next b3); clear M3 b3 HM2 HB2))
      go_upto_region 7 with (go_at_call 27; refine (bcopy_own B a c _ (unveil HB3) (unveil HS)).mono ?_; rintro x W4 ⟨a2, c2, rfl, own4, i4, u4, b4⟩; have HR4 := veil (Rf.made (unveil HM3) own4 b4); have HB4 := veil ((unveil HB3).next b4); clear own4 i4 u4 b4 x0 x1 x2 x3 x4 x5)
      obtain ⟨W5, hW5, R5⟩ := unveil HR4
      rw [← hW5]
      have HB5 : Hid (BIn W5 B a c) := veil (by rw [hW5]; exact (unveil HB4).next (below1 _ _))
      obtain ⟨x0, x1, x2, x3, x4, x5⟩ := R5.m.b.cells
      obtain ⟨r0, r1, r2, r3, r4, r5, r6, r7, r8, r9⟩ := R5.m.rc.cells
      obtain ⟨k0, k1, k2, k3, k4, k5⟩ := R5.x.cells
      have kf := R5.x.free
      have HR5 := veil R5
      clear hW5 R5 HR4 HB4 HM3 HB3
      go_upto_region 28 with fail
      have hz5 := (unveil HR5).m.z.lt
      have g3 := (unveil HR5).own.alloc (.cells #[.int .i64 r.v.k, .int .i64 r.v.p, .int .i64 r.v.i, .int .i64 r.v.b, .int .i64 r.v.he, .int .i64 r.v.hn] 28)
      have g4 := six_news W5 r.v.k r.v.p r.v.i r.v.b r.v.he r.v.hn 28
      have G1 : Hid (B.es.length + 1 ≤ maxLen) := veil (by have := unveil HL; unfold maxLen; omega)
      have G2 : Hid ((B.es.length + 1) * 48 ≤ 140737488355328) := veil (by have := unveil HL; omega)
      have G3 := veil g3
      have G4 := veil g4
      have G5 : Hid (W3.heap.size ≤ W5.heap.size) := veil (unveil HR5).le
      clear g3 g4
      go_upto_region 34 with (at_builtin; refine wpList_append_own _ rfl (.tmp 136) (.tmp 139) 22 rfl W3.heap.size 28 i6 _ 6 48 Tryz.underlying22 hi6 hz60 hz61 hz62 rfl (by decide) (.slice a2 B.es.length c2) B.es.length ((evFlat B.es).map (Value.int .i64)) rfl (unveil G3) ⟨W5.heap.size, 0, none⟩ 1 1 ([r.v.k, r.v.p, r.v.i, r.v.b, r.v.he, r.v.hn].map (Value.int .i64)) rfl rfl (unveil G4) (ints_oneCell .i64 _) (unveil G1) (unveil G2) (by have := unveil G5; simp; omega) ?_; intro v7 W7 own7 grow7 _; obtain ⟨a8, c8, rfl⟩ := own_form own7; have HR7 := veil ((unveil HR5).added own7 grow7); clear x0 x1 x2 x3 x4 x5 r0 r1 r2 r3 r4 r5 r6 r7 r8 r9 k0 k1 k2 k3 k4 k5 kf own7 grow7; have k5 := (unveil HR7).1.cells.2.2.2.2.2; have kf := (unveil HR7).1.free)
      obtain ⟨D, hDe⟩ : ∃ D, D = B.more [r.v] := ⟨_, rfl⟩
      obtain ⟨W8, hW8, R8⟩ : ∃ W8, W8 = W7.setCell ⟨W4.heap.size, 5, none⟩ (.slice a8 (B.es.length + 1) c8) ∧ Rt w W8 W4.heap.size B a c r D a8 c8 := ⟨_, rfl, by rw [hDe]; exact (unveil HR7).2.last (wf_more (unveil HWF) (unveil HVF))⟩
      rw [← hW8]
      have H8 := veil R8
      clear hW8 R8 HR7 k5 kf G1 G2 G3 G4 G5 HR5 HB5 hz5
      obtain ⟨x0, x1, x2, x3, x4, x5⟩ := (unveil H8).m.b.cells
      obtain ⟨z0, z1, z2, z3, z4, z5⟩ := (unveil H8).m.z.cells
      have zf := (unveil H8).m.z.free
      go_wp2
      obtain ⟨W9, hW9, d9, A9⟩ := (unveil H8).no (unveil HAP)
      rw [← hW9]
      exact bodyPost_ret (ret_applied d9 rfl rfl) rfl A9
  case pos =>
  have HDO' := hd.1 hall
  have e1 : (r.p == 0) = true := by simp [hall.1]
  have e2 : (B.e == r.e) = true := by simp [hall.2.1]
  have e3 : (B.r == 4) = true := by simp [hall.2.2]
  have e4 : (B.r == 2) = false := by simp [hall.2.2]
  have HDO0 := veil HDO'
  clear HDO' hd hall
  clear hk hf
  go_enter Tryz.func12, Tryz.ntmps12
  go_upto_region 1 with fail
  obtain ⟨W1, hW1, M1⟩ := Mr.made w B a c r
  rw [← hW1]
  clear hW1
  have HC := faultB_yes B a c W1 (hb.next M1.bel) ok
  have HBI := veil (hb.next M1.bel)
  obtain ⟨x0, x1, x2, x3, x4, x5⟩ := M1.b.cells
  have HM := veil M1
  clear M1 ok hb hw hv
  go_upto_region 6 with (first | (go_at_call 32; refine HC.mono ?_; rintro x W2 ⟨rfl, b2⟩; clear HC x0 x1 x2 x3 x4 x5; have M2 := (unveil HM).next b2; obtain ⟨r0, r1, r2, r3, r4, r5, r6, r7, r8, r9⟩ := M2.rc.cells; have HM2 := veil M2; have HB2 := veil ((unveil HBI).next b2); clear M2 b2 HM HBI) | (go_at_call 33; refine (HP _).mono ?_; rintro x W3 ⟨rfl, b3⟩; clear HP r0 r1 r2 r3 r4 r5 r6 r7 r8 r9; have M3 := (unveil HM2).next b3; obtain ⟨x0, x1, x2, x3, x4, x5⟩ := M3.b.cells; have HM3 := veil M3; have HB3 := veil ((unveil HB2).next b3); clear M3 b3 HM2 HB2))
  go_upto_region 7 with (go_at_call 27; refine (bcopy_own B a c _ (unveil HB3) (unveil HS)).mono ?_; rintro x W4 ⟨a2, c2, rfl, own4, i4, u4, b4⟩; have HR4 := veil (Rf.made (unveil HM3) own4 b4); have HB4 := veil ((unveil HB3).next b4); clear own4 i4 u4 b4 x0 x1 x2 x3 x4 x5)
  obtain ⟨W5, hW5, R5⟩ := unveil HR4
  rw [← hW5]
  have HB5 : Hid (BIn W5 B a c) := veil (by rw [hW5]; exact (unveil HB4).next (below1 _ _))
  obtain ⟨x0, x1, x2, x3, x4, x5⟩ := R5.m.b.cells
  obtain ⟨r0, r1, r2, r3, r4, r5, r6, r7, r8, r9⟩ := R5.m.rc.cells
  obtain ⟨k0, k1, k2, k3, k4, k5⟩ := R5.x.cells
  have kf := R5.x.free
  have HR5 := veil R5
  clear hW5 R5 HR4 HB4 HM3 HB3
  go_upto_region 28 with fail
  have hz5 := (unveil HR5).m.z.lt
  have g3 := (unveil HR5).own.alloc (.cells #[.int .i64 r.v.k, .int .i64 r.v.p, .int .i64 r.v.i, .int .i64 r.v.b, .int .i64 r.v.he, .int .i64 r.v.hn] 28)
  have g4 := six_news W5 r.v.k r.v.p r.v.i r.v.b r.v.he r.v.hn 28
  have G1 : Hid (B.es.length + 1 ≤ maxLen) := veil (by have := unveil HL; unfold maxLen; omega)
  have G2 : Hid ((B.es.length + 1) * 48 ≤ 140737488355328) := veil (by have := unveil HL; omega)
  have G3 := veil g3
  have G4 := veil g4
  have G5 : Hid (W3.heap.size ≤ W5.heap.size) := veil (unveil HR5).le
  clear g3 g4
  go_upto_region 34 with (at_builtin; refine wpList_append_own _ rfl (.tmp 136) (.tmp 139) 22 rfl W3.heap.size 28 i6 _ 6 48 Tryz.underlying22 hi6 hz60 hz61 hz62 rfl (by decide) (.slice a2 B.es.length c2) B.es.length ((evFlat B.es).map (Value.int .i64)) rfl (unveil G3) ⟨W5.heap.size, 0, none⟩ 1 1 ([r.v.k, r.v.p, r.v.i, r.v.b, r.v.he, r.v.hn].map (Value.int .i64)) rfl rfl (unveil G4) (ints_oneCell .i64 _) (unveil G1) (unveil G2) (by have := unveil G5; simp; omega) ?_; intro v7 W7 own7 grow7 _; obtain ⟨a8, c8, rfl⟩ := own_form own7; have HR7 := veil ((unveil HR5).added own7 grow7); clear x0 x1 x2 x3 x4 x5 r0 r1 r2 r3 r4 r5 r6 r7 r8 r9 k0 k1 k2 k3 k4 k5 kf own7 grow7; have k5 := (unveil HR7).1.cells.2.2.2.2.2; have kf := (unveil HR7).1.free)
  obtain ⟨D, hDe⟩ : ∃ D, D = B.more [r.v] := ⟨_, rfl⟩
  obtain ⟨W8, hW8, R8⟩ : ∃ W8, W8 = W7.setCell ⟨W4.heap.size, 5, none⟩ (.slice a8 (B.es.length + 1) c8) ∧ Rt w W8 W4.heap.size B a c r D a8 c8 := ⟨_, rfl, by rw [hDe]; exact (unveil HR7).2.last (wf_more (unveil HWF) (unveil HVF))⟩
  rw [← hW8]
  have H8 := veil R8
  clear hW8 R8 HR7 k5 kf G1 G2 G3 G4 G5 HR5 HB5 hz5
  have HDO : Hid (deedOf B r = some D) := veil (by rw [hDe]; exact unveil HDO0)
  have hes : D.es.length = B.es.length + 1 := by rw [hDe]; simp [Bt.more]
  have hD0 : D.r = B.r ∧ D.e = B.e ∧ D.f = B.f ∧ D.t = B.t ∧ D.o = B.o := by rw [hDe]; exact ⟨rfl, rfl, rfl, rfl, rfl⟩
  clear hDe HDO0 hes hD0
  by_cases hD : D.Ok
  case neg =>
    have HAP := veil (apply_bad (unveil HOK) (unveil HF) (unveil HDO) hD)
    have HC := faultB_no D a8 c8 _ (unveil H8).inn hD
    clear hD
    obtain ⟨x0, x1, x2, x3, x4, x5⟩ := (unveil H8).m.b.cells
    obtain ⟨k0, k1, k2, k3, k4, k5⟩ := (unveil H8).x.cells
    go_wp2_with (go_at_call 32; refine HC.mono ?_; rintro x WE ⟨rfl, bE⟩; clear HC x0 x1 x2 x3 x4 x5 k0 k1 k2 k3 k4 k5; have HE := veil ((unveil H8).next bE); obtain ⟨k0, k1, k2, k3, k4, k5⟩ := (unveil HE).x.cells; obtain ⟨z0, z1, z2, z3, z4, z5⟩ := (unveil HE).m.z.cells; have zf := (unveil HE).m.z.free; clear bE)
    obtain ⟨W9, hW9, d9, A9⟩ := (unveil HE).no (unveil HAP)
    rw [← hW9]
    exact bodyPost_ret (ret_applied d9 rfl rfl) rfl A9
  case pos =>
    have HAP := veil (apply_good (unveil HOK) (unveil HF) (unveil HDO) hD)
    have HC := faultB_yes D a8 c8 _ (unveil H8).inn hD
    clear hD
    obtain ⟨x0, x1, x2, x3, x4, x5⟩ := (unveil H8).m.b.cells
    obtain ⟨k0, k1, k2, k3, k4, k5⟩ := (unveil H8).x.cells
    go_wp2_with (go_at_call 32; refine HC.mono ?_; rintro x WE ⟨rfl, bE⟩; clear HC x0 x1 x2 x3 x4 x5 k0 k1 k2 k3 k4 k5; have HE := veil ((unveil H8).next bE); obtain ⟨k0, k1, k2, k3, k4, k5⟩ := (unveil HE).x.cells; obtain ⟨z0, z1, z2, z3, z4, z5⟩ := (unveil HE).m.z.cells; have zf := (unveil HE).m.z.free; clear bE)
    obtain ⟨W9, hW9, d9, A9⟩ := (unveil HE).yes (unveil HAP)
    rw [← hW9]
    exact bodyPost_ret (ret_applied d9 rfl rfl) rfl A9
end Go.Proofs.YtmhdpbmjhijhkaaGreat

namespace Go.Proofs.YtmhdpbmjhijhkaaGreat
open Go.RowKit

set_option maxRecDepth 20000 in
set_option maxHeartbeats 8000000 in
theorem applied_6 (B : Bt) (a : Option Addr) (c : Nat) (r : Rec) (w : World) (hb : BIn w B a c) (hw : ∀ u ∈ evFlat B.es, (Lit.int .i64 u).wf = true) (hv : ∀ u ∈ evFlat [r.v], (Lit.int .i64 u).wf = true) (ok : B.Ok) (hf : r.fault = 0) (hk : r.k = 6) :
    Calls Tryz.prog 12 #[bVal B.r B.e B.f B.t B.o a B.es.length c, recIn r] w fun x w' => ApplyR w w' B r x := by
  have HP : ∀ w, Calls Tryz.prog 33 #[recIn r] w fun x w' => x = .returned (.int .i64 0) ∧ Below w.heap.size w w' := fun w => by have := recordFault_any r.k r.q r.e r.p r.v.k r.v.p r.v.i r.v.b r.v.he r.v.hn w; rw [show recordFault r.k r.q r.e r.p r.v.k r.v.p r.v.i r.v.b r.v.he r.v.hn = 0 from hf] at this; exact this
  have HOK := veil ok
  have HF := veil hf
  have HWF := veil hw
  have HVF := veil hv
  have HS : Hid (B.es.length * 48 ≤ 140737488351232) := veil (by have := ok.len; omega)
  have HL := veil ok.len
  have q1 : (r.k == 1) = false := by simp [hk]
  have q2 : (r.k == 2) = false := by simp [hk]
  have q3 : (r.k == 3) = false := by simp [hk]
  have q4 : (r.k == 4) = false := by simp [hk]
  have q5 : (r.k == 5) = false := by simp [hk]
  have q6 : (r.k == 6) = true := by simp [hk]
  have hd : (r.p = 0 ∧ B.e = r.e ∧ B.r = 4 → deedOf B r = some (⟨1, B.e, 0, B.t, B.o, B.es ++ [Ev.brk]⟩ : Bt)) ∧ (¬ (r.p = 0 ∧ B.e = r.e ∧ B.r = 4) → deedOf B r = none) := by
    unfold deedOf
    rw [if_neg (by omega), if_neg (by omega), if_neg (by omega), if_neg (by omega), if_neg (by omega), if_pos hk]
    exact ⟨fun h => if_pos h, fun h => if_neg h⟩
  by_cases hall : r.p = 0 ∧ B.e = r.e ∧ B.r = 4
  case neg =>
    have HAP := veil (apply_none ok hf (hd.2 hall))
    have hcs : ((r.p == 0) = true ∧ (B.e == r.e) = true ∧ (B.r == 4) = false) ∨ ((r.p == 0) = true ∧ (B.e == r.e) = false ∧ (B.r == 4) = true) ∨ ((r.p == 0) = true ∧ (B.e == r.e) = false ∧ (B.r == 4) = false) ∨ ((r.p == 0) = false ∧ (B.e == r.e) = true ∧ (B.r == 4) = true) ∨ ((r.p == 0) = false ∧ (B.e == r.e) = true ∧ (B.r == 4) = false) ∨ ((r.p == 0) = false ∧ (B.e == r.e) = false ∧ (B.r == 4) = true) ∨ ((r.p == 0) = false ∧ (B.e == r.e) = false ∧ (B.r == 4) = false) := by
      have hn : ¬ ((r.p == 0) = true ∧ (B.e == r.e) = true ∧ (B.r == 4) = true) := by
        intro h
        exact hall (by simpa using h)
      clear hall hd
      generalize (r.p == 0) = b0 at hn ⊢
      generalize (B.e == r.e) = b1 at hn ⊢
      generalize (B.r == 4) = b2 at hn ⊢
      revert hn
      cases b0 <;> cases b1 <;> cases b2 <;> simp
    clear hd hall
    rcases hcs with ⟨e1, e2, e3⟩ | ⟨e1, e2, e3⟩ | ⟨e1, e2, e3⟩ | ⟨e1, e2, e3⟩ | ⟨e1, e2, e3⟩ | ⟨e1, e2, e3⟩ | ⟨e1, e2, e3⟩
    all_goals
      obtain ⟨i6, hi6, hz60, hz61, hz62⟩ := info_of Tryz.infoEvent
      clear hk hf
      go_enter Tryz.func12, Tryz.ntmps12
      go_upto_region 1 with fail
      obtain ⟨W1, hW1, M1⟩ := Mr.made w B a c r
      rw [← hW1]
      clear hW1
      have HC := faultB_yes B a c W1 (hb.next M1.bel) ok
      have HBI := veil (hb.next M1.bel)
      obtain ⟨x0, x1, x2, x3, x4, x5⟩ := M1.b.cells
      have HM := veil M1
      clear M1 ok hb hw hv
      go_upto_region 6 with (first | (go_at_call 32; refine HC.mono ?_; rintro x W2 ⟨rfl, b2⟩; clear HC x0 x1 x2 x3 x4 x5; have M2 := (unveil HM).next b2; obtain ⟨r0, r1, r2, r3, r4, r5, r6, r7, r8, r9⟩ := M2.rc.cells; have HM2 := veil M2; have HB2 := veil ((unveil HBI).next b2); clear M2 b2 HM HBI) | (go_at_call 33; refine (HP _).mono ?_; rintro x W3 ⟨rfl, b3⟩; clear HP r0 r1 r2 r3 r4 r5 r6 r7 r8 r9; have M3 := (unveil HM2).next b3; obtain ⟨x0, x1, x2, x3, x4, x5⟩ := M3.b.cells; have HM3 := veil M3; have HB3 := veil ((unveil HB2).next b3); clear M3 b3 HM2 HB2))
      go_upto_region 7 with (go_at_call 27; refine (bcopy_own B a c _ (unveil HB3) (unveil HS)).mono ?_; rintro x W4 ⟨a2, c2, rfl, own4, i4, u4, b4⟩; have HR4 := veil (Rf.made (unveil HM3) own4 b4); have HB4 := veil ((unveil HB3).next b4); clear own4 i4 u4 b4 x0 x1 x2 x3 x4 x5)
      obtain ⟨W5, hW5, R5⟩ := unveil HR4
      rw [← hW5]
      have HB5 : Hid (BIn W5 B a c) := veil (by rw [hW5]; exact (unveil HB4).next (below1 _ _))
      obtain ⟨x0, x1, x2, x3, x4, x5⟩ := R5.m.b.cells
      obtain ⟨r0, r1, r2, r3, r4, r5, r6, r7, r8, r9⟩ := R5.m.rc.cells
      obtain ⟨k0, k1, k2, k3, k4, k5⟩ := R5.x.cells
      have kf := R5.x.free
      have HR5 := veil R5
      clear hW5 R5 HR4 HB4 HM3 HB3
      go_upto_region 33 with fail
      obtain ⟨W6, hW6, R6⟩ : ∃ W6, W6 = (W5.setCell ⟨W4.heap.size, 0, none⟩ (.int .i64 1)).setCell ⟨W4.heap.size, 2, none⟩ (.int .i64 0) ∧ Rf w W6 W3.heap.size W4.heap.size B a c r ⟨1, B.e, 0, B.t, B.o, B.es⟩ a2 c2 := by
        refine ⟨_, rfl, (unveil HR5).turn ((Turned.set _ _ _ _).trans (Turned.set _ _ _ _)) rfl ?_⟩
        have := (unveil HR5).x
        unfold bBlock at this ⊢
        rw [heap_setB (heap_setB this)]
        simp
      rw [← hW6]
      clear hW6 x0 x1 x2 x3 x4 x5 r0 r1 r2 r3 r4 r5 r6 r7 r8 r9 k0 k1 k2 k3 k4 k5 kf
      obtain ⟨k0, k1, k2, k3, k4, k5⟩ := R6.x.cells
      have g3 := R6.own.alloc (.cells #[.int .i64 4, .int .i64 0, .int .i64 0, .int .i64 0, .int .i64 0, .int .i64 0] 28)
      have g4 := six_news W6 4 0 0 0 0 0 28
      have G1 : Hid (B.es.length + 1 ≤ maxLen) := veil (by have := unveil HL; unfold maxLen; omega)
      have G2 : Hid ((B.es.length + 1) * 48 ≤ 140737488355328) := veil (by have := unveil HL; omega)
      have G3 := veil g3
      have G4 := veil g4
      have G5 : Hid (W3.heap.size ≤ W6.heap.size) := veil R6.le
      have HR6 := veil R6
      clear g3 g4 R6
      go_upto_region 34 with (at_builtin; refine wpList_append_own _ rfl (.tmp 156) (.tmp 158) 22 rfl W3.heap.size 28 i6 _ 6 48 Tryz.underlying22 hi6 hz60 hz61 hz62 rfl (by decide) (.slice a2 B.es.length c2) B.es.length ((evFlat B.es).map (Value.int .i64)) rfl (unveil G3) ⟨W6.heap.size, 0, none⟩ 1 1 ([4, 0, 0, 0, 0, 0].map (Value.int .i64)) rfl rfl (unveil G4) (ints_oneCell .i64 _) (unveil G1) (unveil G2) (by have := unveil G5; simp; omega) ?_; intro v7 W7 own7 grow7 _; obtain ⟨a8, c8, rfl⟩ := own_form own7; have HR7 := veil ((unveil HR6).added (x := Ev.brk) own7 grow7); clear k0 k1 k2 k3 k4 k5 own7 grow7; have k5 := (unveil HR7).1.cells.2.2.2.2.2; have kf := (unveil HR7).1.free)
      obtain ⟨D, hDe⟩ : ∃ D : Bt, D = ⟨1, B.e, 0, B.t, B.o, B.es ++ [Ev.brk]⟩ := ⟨_, rfl⟩
      obtain ⟨W8, hW8, R8⟩ : ∃ W8, W8 = W7.setCell ⟨W4.heap.size, 5, none⟩ (.slice a8 (B.es.length + 1) c8) ∧ Rt w W8 W4.heap.size B a c r D a8 c8 := ⟨_, rfl, by rw [hDe]; exact (unveil HR7).2.last (wf_more (unveil HWF) (by decide))⟩
      rw [← hW8]
      have H8 := veil R8
      clear hW8 R8 HR7 HR6 k5 kf G1 G2 G3 G4 G5 HR5 HB5
      obtain ⟨x0, x1, x2, x3, x4, x5⟩ := (unveil H8).m.b.cells
      obtain ⟨z0, z1, z2, z3, z4, z5⟩ := (unveil H8).m.z.cells
      have zf := (unveil H8).m.z.free
      go_wp2
      obtain ⟨W9, hW9, d9, A9⟩ := (unveil H8).no (unveil HAP)
      rw [← hW9]
      exact bodyPost_ret (ret_applied d9 rfl rfl) rfl A9
  case pos =>
  have HDO0 := veil (hd.1 hall)
  have e1 : (r.p == 0) = true := by simpa using hall.1
  have e2 : (B.e == r.e) = true := by simpa using hall.2.1
  have e3 : (B.r == 4) = true := by simpa using hall.2.2
  have f1 : (B.r == 2) = false := by have := hall; simp; omega
  clear hd hall
  obtain ⟨i6, hi6, hz60, hz61, hz62⟩ := info_of Tryz.infoEvent
  clear hk hf
  go_enter Tryz.func12, Tryz.ntmps12
  go_upto_region 1 with fail
  obtain ⟨W1, hW1, M1⟩ := Mr.made w B a c r
  rw [← hW1]
  clear hW1
  have HC := faultB_yes B a c W1 (hb.next M1.bel) ok
  have HBI := veil (hb.next M1.bel)
  obtain ⟨x0, x1, x2, x3, x4, x5⟩ := M1.b.cells
  have HM := veil M1
  clear M1 ok hb hw hv
  go_upto_region 6 with (first | (go_at_call 32; refine HC.mono ?_; rintro x W2 ⟨rfl, b2⟩; clear HC x0 x1 x2 x3 x4 x5; have M2 := (unveil HM).next b2; obtain ⟨r0, r1, r2, r3, r4, r5, r6, r7, r8, r9⟩ := M2.rc.cells; have HM2 := veil M2; have HB2 := veil ((unveil HBI).next b2); clear M2 b2 HM HBI) | (go_at_call 33; refine (HP _).mono ?_; rintro x W3 ⟨rfl, b3⟩; clear HP r0 r1 r2 r3 r4 r5 r6 r7 r8 r9; have M3 := (unveil HM2).next b3; obtain ⟨x0, x1, x2, x3, x4, x5⟩ := M3.b.cells; have HM3 := veil M3; have HB3 := veil ((unveil HB2).next b3); clear M3 b3 HM2 HB2))
  go_upto_region 7 with (go_at_call 27; refine (bcopy_own B a c _ (unveil HB3) (unveil HS)).mono ?_; rintro x W4 ⟨a2, c2, rfl, own4, i4, u4, b4⟩; have HR4 := veil (Rf.made (unveil HM3) own4 b4); have HB4 := veil ((unveil HB3).next b4); clear own4 i4 u4 b4 x0 x1 x2 x3 x4 x5)
  obtain ⟨W5, hW5, R5⟩ := unveil HR4
  rw [← hW5]
  have HB5 : Hid (BIn W5 B a c) := veil (by rw [hW5]; exact (unveil HB4).next (below1 _ _))
  obtain ⟨x0, x1, x2, x3, x4, x5⟩ := R5.m.b.cells
  obtain ⟨r0, r1, r2, r3, r4, r5, r6, r7, r8, r9⟩ := R5.m.rc.cells
  obtain ⟨k0, k1, k2, k3, k4, k5⟩ := R5.x.cells
  have kf := R5.x.free
  have HR5 := veil R5
  clear hW5 R5 HR4 HB4 HM3 HB3
  go_upto_region 33 with fail
  obtain ⟨W6, hW6, R6⟩ : ∃ W6, W6 = (W5.setCell ⟨W4.heap.size, 0, none⟩ (.int .i64 1)).setCell ⟨W4.heap.size, 2, none⟩ (.int .i64 0) ∧ Rf w W6 W3.heap.size W4.heap.size B a c r ⟨1, B.e, 0, B.t, B.o, B.es⟩ a2 c2 := by
    refine ⟨_, rfl, (unveil HR5).turn ((Turned.set _ _ _ _).trans (Turned.set _ _ _ _)) rfl ?_⟩
    have := (unveil HR5).x
    unfold bBlock at this ⊢
    rw [heap_setB (heap_setB this)]
    simp
  rw [← hW6]
  clear hW6 x0 x1 x2 x3 x4 x5 r0 r1 r2 r3 r4 r5 r6 r7 r8 r9 k0 k1 k2 k3 k4 k5 kf
  obtain ⟨k0, k1, k2, k3, k4, k5⟩ := R6.x.cells
  have g3 := R6.own.alloc (.cells #[.int .i64 4, .int .i64 0, .int .i64 0, .int .i64 0, .int .i64 0, .int .i64 0] 28)
  have g4 := six_news W6 4 0 0 0 0 0 28
  have G1 : Hid (B.es.length + 1 ≤ maxLen) := veil (by have := unveil HL; unfold maxLen; omega)
  have G2 : Hid ((B.es.length + 1) * 48 ≤ 140737488355328) := veil (by have := unveil HL; omega)
  have G3 := veil g3
  have G4 := veil g4
  have G5 : Hid (W3.heap.size ≤ W6.heap.size) := veil R6.le
  have HR6 := veil R6
  clear g3 g4 R6
  go_upto_region 34 with (at_builtin; refine wpList_append_own _ rfl (.tmp 156) (.tmp 158) 22 rfl W3.heap.size 28 i6 _ 6 48 Tryz.underlying22 hi6 hz60 hz61 hz62 rfl (by decide) (.slice a2 B.es.length c2) B.es.length ((evFlat B.es).map (Value.int .i64)) rfl (unveil G3) ⟨W6.heap.size, 0, none⟩ 1 1 ([4, 0, 0, 0, 0, 0].map (Value.int .i64)) rfl rfl (unveil G4) (ints_oneCell .i64 _) (unveil G1) (unveil G2) (by have := unveil G5; simp; omega) ?_; intro v7 W7 own7 grow7 _; obtain ⟨a8, c8, rfl⟩ := own_form own7; have HR7 := veil ((unveil HR6).added (x := Ev.brk) own7 grow7); clear k0 k1 k2 k3 k4 k5 own7 grow7; have k5 := (unveil HR7).1.cells.2.2.2.2.2; have kf := (unveil HR7).1.free)
  obtain ⟨D, hDe⟩ : ∃ D : Bt, D = ⟨1, B.e, 0, B.t, B.o, B.es ++ [Ev.brk]⟩ := ⟨_, rfl⟩
  obtain ⟨W8, hW8, R8⟩ : ∃ W8, W8 = W7.setCell ⟨W4.heap.size, 5, none⟩ (.slice a8 (B.es.length + 1) c8) ∧ Rt w W8 W4.heap.size B a c r D a8 c8 := ⟨_, rfl, by rw [hDe]; exact (unveil HR7).2.last (wf_more (unveil HWF) (by decide))⟩
  rw [← hW8]
  have H8 := veil R8
  clear hW8 R8 HR7 HR6 k5 kf G1 G2 G3 G4 G5 HR5 HB5
  have HDO : Hid (deedOf B r = some D) := veil (by rw [hDe]; exact unveil HDO0)
  clear hDe HDO0
  by_cases hD : D.Ok
  case neg =>
    have HAP := veil (apply_bad (unveil HOK) (unveil HF) (unveil HDO) hD)
    have HC := faultB_no D a8 c8 _ (unveil H8).inn hD
    clear hD
    obtain ⟨x0, x1, x2, x3, x4, x5⟩ := (unveil H8).m.b.cells
    obtain ⟨k0, k1, k2, k3, k4, k5⟩ := (unveil H8).x.cells
    go_wp2_with (go_at_call 32; refine HC.mono ?_; rintro x WE ⟨rfl, bE⟩; clear HC x0 x1 x2 x3 x4 x5 k0 k1 k2 k3 k4 k5; have HE := veil ((unveil H8).next bE); obtain ⟨k0, k1, k2, k3, k4, k5⟩ := (unveil HE).x.cells; obtain ⟨z0, z1, z2, z3, z4, z5⟩ := (unveil HE).m.z.cells; have zf := (unveil HE).m.z.free; clear bE)
    obtain ⟨W9, hW9, d9, A9⟩ := (unveil HE).no (unveil HAP)
    rw [← hW9]
    exact bodyPost_ret (ret_applied d9 rfl rfl) rfl A9
  case pos =>
    have HAP := veil (apply_good (unveil HOK) (unveil HF) (unveil HDO) hD)
    have HC := faultB_yes D a8 c8 _ (unveil H8).inn hD
    clear hD
    obtain ⟨x0, x1, x2, x3, x4, x5⟩ := (unveil H8).m.b.cells
    obtain ⟨k0, k1, k2, k3, k4, k5⟩ := (unveil H8).x.cells
    go_wp2_with (go_at_call 32; refine HC.mono ?_; rintro x WE ⟨rfl, bE⟩; clear HC x0 x1 x2 x3 x4 x5 k0 k1 k2 k3 k4 k5; have HE := veil ((unveil H8).next bE); obtain ⟨k0, k1, k2, k3, k4, k5⟩ := (unveil HE).x.cells; obtain ⟨z0, z1, z2, z3, z4, z5⟩ := (unveil HE).m.z.cells; have zf := (unveil HE).m.z.free; clear bE)
    obtain ⟨W9, hW9, d9, A9⟩ := (unveil HE).yes (unveil HAP)
    rw [← hW9]
    exact bodyPost_ret (ret_applied d9 rfl rfl) rfl A9
end Go.Proofs.YtmhdpbmjhijhkaaGreat

namespace Go.Proofs.YtmhdpbmjhijhkaaGreat
open Go.RowKit

set_option maxRecDepth 20000 in
set_option maxHeartbeats 8000000 in
theorem applied_7 (B : Bt) (a : Option Addr) (c : Nat) (r : Rec) (w : World) (hb : BIn w B a c) (hw : ∀ u ∈ evFlat B.es, (Lit.int .i64 u).wf = true) (hv : ∀ u ∈ evFlat [r.v], (Lit.int .i64 u).wf = true) (ok : B.Ok) (hf : r.fault = 0) (hk : r.k = 7) :
    Calls Tryz.prog 12 #[bVal B.r B.e B.f B.t B.o a B.es.length c, recIn r] w fun x w' => ApplyR w w' B r x := by
  have HP : ∀ w, Calls Tryz.prog 33 #[recIn r] w fun x w' => x = .returned (.int .i64 0) ∧ Below w.heap.size w w' := fun w => by have := recordFault_any r.k r.q r.e r.p r.v.k r.v.p r.v.i r.v.b r.v.he r.v.hn w; rw [show recordFault r.k r.q r.e r.p r.v.k r.v.p r.v.i r.v.b r.v.he r.v.hn = 0 from hf] at this; exact this
  have HOK := veil ok
  have HF := veil hf
  have HWF := veil hw
  have HVF := veil hv
  have HS : Hid (B.es.length * 48 ≤ 140737488351232) := veil (by have := ok.len; omega)
  have HL := veil ok.len
  have q1 : (r.k == 1) = false := by simp [hk]
  have q2 : (r.k == 2) = false := by simp [hk]
  have q3 : (r.k == 3) = false := by simp [hk]
  have q4 : (r.k == 4) = false := by simp [hk]
  have q5 : (r.k == 5) = false := by simp [hk]
  have q6 : (r.k == 6) = false := by simp [hk]
  have hd : (r.p = 0 ∧ B.e = r.e ∧ B.r = 3 → deedOf B r = some (⟨0, B.e, 0, 0, 0, []⟩ : Bt)) ∧ (¬ (r.p = 0 ∧ B.e = r.e ∧ B.r = 3) → deedOf B r = none) := by
    unfold deedOf
    rw [if_neg (by omega), if_neg (by omega), if_neg (by omega), if_neg (by omega), if_neg (by omega), if_neg (by omega)]
    exact ⟨fun h => if_pos h, fun h => if_neg h⟩
  by_cases hall : r.p = 0 ∧ B.e = r.e ∧ B.r = 3
  case neg =>
    have HAP := veil (apply_none ok hf (hd.2 hall))
    have hcs : ((r.p == 0) = true ∧ (B.e == r.e) = true ∧ (B.r == 3) = false) ∨ ((r.p == 0) = true ∧ (B.e == r.e) = false ∧ (B.r == 3) = true) ∨ ((r.p == 0) = true ∧ (B.e == r.e) = false ∧ (B.r == 3) = false) ∨ ((r.p == 0) = false ∧ (B.e == r.e) = true ∧ (B.r == 3) = true) ∨ ((r.p == 0) = false ∧ (B.e == r.e) = true ∧ (B.r == 3) = false) ∨ ((r.p == 0) = false ∧ (B.e == r.e) = false ∧ (B.r == 3) = true) ∨ ((r.p == 0) = false ∧ (B.e == r.e) = false ∧ (B.r == 3) = false) := by
      have hn : ¬ ((r.p == 0) = true ∧ (B.e == r.e) = true ∧ (B.r == 3) = true) := by
        intro h
        exact hall (by simpa using h)
      clear hall hd
      generalize (r.p == 0) = b0 at hn ⊢
      generalize (B.e == r.e) = b1 at hn ⊢
      generalize (B.r == 3) = b2 at hn ⊢
      revert hn
      cases b0 <;> cases b1 <;> cases b2 <;> simp
    clear hd hall
    rcases hcs with ⟨e1, e2, e3⟩ | ⟨e1, e2, e3⟩ | ⟨e1, e2, e3⟩ | ⟨e1, e2, e3⟩ | ⟨e1, e2, e3⟩ | ⟨e1, e2, e3⟩ | ⟨e1, e2, e3⟩
    all_goals
      clear hk hf
      go_enter Tryz.func12, Tryz.ntmps12
      go_upto_region 1 with fail
      obtain ⟨W1, hW1, M1⟩ := Mr.made w B a c r
      rw [← hW1]
      clear hW1
      have HC := faultB_yes B a c W1 (hb.next M1.bel) ok
      have HBI := veil (hb.next M1.bel)
      obtain ⟨x0, x1, x2, x3, x4, x5⟩ := M1.b.cells
      have HM := veil M1
      clear M1 ok hb hw hv
      go_upto_region 6 with (first | (go_at_call 32; refine HC.mono ?_; rintro x W2 ⟨rfl, b2⟩; clear HC x0 x1 x2 x3 x4 x5; have M2 := (unveil HM).next b2; obtain ⟨r0, r1, r2, r3, r4, r5, r6, r7, r8, r9⟩ := M2.rc.cells; have HM2 := veil M2; have HB2 := veil ((unveil HBI).next b2); clear M2 b2 HM HBI) | (go_at_call 33; refine (HP _).mono ?_; rintro x W3 ⟨rfl, b3⟩; clear HP r0 r1 r2 r3 r4 r5 r6 r7 r8 r9; have M3 := (unveil HM2).next b3; obtain ⟨x0, x1, x2, x3, x4, x5⟩ := M3.b.cells; have HM3 := veil M3; have HB3 := veil ((unveil HB2).next b3); clear M3 b3 HM2 HB2))
      go_upto_region 7 with (go_at_call 27; refine (bcopy_own B a c _ (unveil HB3) (unveil HS)).mono ?_; rintro x W4 ⟨a2, c2, rfl, own4, i4, u4, b4⟩; have HR4 := veil (Rf.made (unveil HM3) own4 b4); have HB4 := veil ((unveil HB3).next b4); clear own4 i4 u4 b4 x0 x1 x2 x3 x4 x5)
      obtain ⟨W5, hW5, R5⟩ := unveil HR4
      rw [← hW5]
      have HB5 : Hid (BIn W5 B a c) := veil (by rw [hW5]; exact (unveil HB4).next (below1 _ _))
      obtain ⟨x0, x1, x2, x3, x4, x5⟩ := R5.m.b.cells
      obtain ⟨r0, r1, r2, r3, r4, r5, r6, r7, r8, r9⟩ := R5.m.rc.cells
      obtain ⟨k0, k1, k2, k3, k4, k5⟩ := R5.x.cells
      have kf := R5.x.free
      have HR5 := veil R5
      clear hW5 R5 HR4 HB4 HM3 HB3
      go_upto_region 34 with fail
      obtain ⟨D, hDe⟩ : ∃ D : Bt, D = ⟨0, B.e, 0, 0, 0, []⟩ := ⟨_, rfl⟩
      obtain ⟨W8, hW8, d8, _, t8⟩ := b_stored (unveil HR5).x (Below.refl W4.heap.size W5) (Nat.le_refl _) 0 B.e 0 0 0 none 0 0
      rw [← hW8]
      obtain ⟨a8, ha8⟩ : ∃ a8 : Option Addr, a8 = none := ⟨_, rfl⟩
      obtain ⟨c8, hc8⟩ : ∃ c8 : Nat, c8 = 0 := ⟨_, rfl⟩
      have R8 : Rt w W8 W4.heap.size B a c r D a8 c8 := by
        rw [hDe, ha8, hc8]
        exact ⟨(unveil HR5).m.turned t8 (unveil HR5).hX, d8, ⟨RowK.nil _ _ _, Nat.le_refl _, fun _ => rfl⟩, (fun y hy => by cases hy), (unveil HR5).hX⟩
      have H8 := veil R8
      clear hW8 R8 HR5 HB5 d8 t8 ha8 hc8 x0 x1 x2 x3 x4 x5 r0 r1 r2 r3 r4 r5 r6 r7 r8 r9 k0 k1 k2 k3 k4 k5 kf
      obtain ⟨x0, x1, x2, x3, x4, x5⟩ := (unveil H8).m.b.cells
      obtain ⟨z0, z1, z2, z3, z4, z5⟩ := (unveil H8).m.z.cells
      have zf := (unveil H8).m.z.free
      go_wp2
      obtain ⟨W9, hW9, d9, A9⟩ := (unveil H8).no (unveil HAP)
      rw [← hW9]
      exact bodyPost_ret (ret_applied d9 rfl rfl) rfl A9
  case pos =>
  have HDO0 := veil (hd.1 hall)
  have e1 : (r.p == 0) = true := by simpa using hall.1
  have e2 : (B.e == r.e) = true := by simpa using hall.2.1
  have e3 : (B.r == 3) = true := by simpa using hall.2.2
  have f1 : (B.r == 2) = false := by have := hall; simp; omega
  clear hd hall
  clear hk hf
  go_enter Tryz.func12, Tryz.ntmps12
  go_upto_region 1 with fail
  obtain ⟨W1, hW1, M1⟩ := Mr.made w B a c r
  rw [← hW1]
  clear hW1
  have HC := faultB_yes B a c W1 (hb.next M1.bel) ok
  have HBI := veil (hb.next M1.bel)
  obtain ⟨x0, x1, x2, x3, x4, x5⟩ := M1.b.cells
  have HM := veil M1
  clear M1 ok hb hw hv
  go_upto_region 6 with (first | (go_at_call 32; refine HC.mono ?_; rintro x W2 ⟨rfl, b2⟩; clear HC x0 x1 x2 x3 x4 x5; have M2 := (unveil HM).next b2; obtain ⟨r0, r1, r2, r3, r4, r5, r6, r7, r8, r9⟩ := M2.rc.cells; have HM2 := veil M2; have HB2 := veil ((unveil HBI).next b2); clear M2 b2 HM HBI) | (go_at_call 33; refine (HP _).mono ?_; rintro x W3 ⟨rfl, b3⟩; clear HP r0 r1 r2 r3 r4 r5 r6 r7 r8 r9; have M3 := (unveil HM2).next b3; obtain ⟨x0, x1, x2, x3, x4, x5⟩ := M3.b.cells; have HM3 := veil M3; have HB3 := veil ((unveil HB2).next b3); clear M3 b3 HM2 HB2))
  go_upto_region 7 with (go_at_call 27; refine (bcopy_own B a c _ (unveil HB3) (unveil HS)).mono ?_; rintro x W4 ⟨a2, c2, rfl, own4, i4, u4, b4⟩; have HR4 := veil (Rf.made (unveil HM3) own4 b4); have HB4 := veil ((unveil HB3).next b4); clear own4 i4 u4 b4 x0 x1 x2 x3 x4 x5)
  obtain ⟨W5, hW5, R5⟩ := unveil HR4
  rw [← hW5]
  have HB5 : Hid (BIn W5 B a c) := veil (by rw [hW5]; exact (unveil HB4).next (below1 _ _))
  obtain ⟨x0, x1, x2, x3, x4, x5⟩ := R5.m.b.cells
  obtain ⟨r0, r1, r2, r3, r4, r5, r6, r7, r8, r9⟩ := R5.m.rc.cells
  obtain ⟨k0, k1, k2, k3, k4, k5⟩ := R5.x.cells
  have kf := R5.x.free
  have HR5 := veil R5
  clear hW5 R5 HR4 HB4 HM3 HB3
  go_upto_region 34 with fail
  obtain ⟨D, hDe⟩ : ∃ D : Bt, D = ⟨0, B.e, 0, 0, 0, []⟩ := ⟨_, rfl⟩
  obtain ⟨W8, hW8, d8, _, t8⟩ := b_stored (unveil HR5).x (Below.refl W4.heap.size W5) (Nat.le_refl _) 0 B.e 0 0 0 none 0 0
  rw [← hW8]
  obtain ⟨a8, ha8⟩ : ∃ a8 : Option Addr, a8 = none := ⟨_, rfl⟩
  obtain ⟨c8, hc8⟩ : ∃ c8 : Nat, c8 = 0 := ⟨_, rfl⟩
  have R8 : Rt w W8 W4.heap.size B a c r D a8 c8 := by
    rw [hDe, ha8, hc8]
    exact ⟨(unveil HR5).m.turned t8 (unveil HR5).hX, d8, ⟨RowK.nil _ _ _, Nat.le_refl _, fun _ => rfl⟩, (fun y hy => by cases hy), (unveil HR5).hX⟩
  have H8 := veil R8
  clear hW8 R8 HR5 HB5 d8 t8 ha8 hc8 x0 x1 x2 x3 x4 x5 r0 r1 r2 r3 r4 r5 r6 r7 r8 r9 k0 k1 k2 k3 k4 k5 kf
  have HDO : Hid (deedOf B r = some D) := veil (by rw [hDe]; exact unveil HDO0)
  clear hDe HDO0
  by_cases hD : D.Ok
  case neg =>
    have HAP := veil (apply_bad (unveil HOK) (unveil HF) (unveil HDO) hD)
    have HC := faultB_no D a8 c8 _ (unveil H8).inn hD
    clear hD
    obtain ⟨x0, x1, x2, x3, x4, x5⟩ := (unveil H8).m.b.cells
    obtain ⟨k0, k1, k2, k3, k4, k5⟩ := (unveil H8).x.cells
    go_wp2_with (go_at_call 32; refine HC.mono ?_; rintro x WE ⟨rfl, bE⟩; clear HC x0 x1 x2 x3 x4 x5 k0 k1 k2 k3 k4 k5; have HE := veil ((unveil H8).next bE); obtain ⟨k0, k1, k2, k3, k4, k5⟩ := (unveil HE).x.cells; obtain ⟨z0, z1, z2, z3, z4, z5⟩ := (unveil HE).m.z.cells; have zf := (unveil HE).m.z.free; clear bE)
    obtain ⟨W9, hW9, d9, A9⟩ := (unveil HE).no (unveil HAP)
    rw [← hW9]
    exact bodyPost_ret (ret_applied d9 rfl rfl) rfl A9
  case pos =>
    have HAP := veil (apply_good (unveil HOK) (unveil HF) (unveil HDO) hD)
    have HC := faultB_yes D a8 c8 _ (unveil H8).inn hD
    clear hD
    obtain ⟨x0, x1, x2, x3, x4, x5⟩ := (unveil H8).m.b.cells
    obtain ⟨k0, k1, k2, k3, k4, k5⟩ := (unveil H8).x.cells
    go_wp2_with (go_at_call 32; refine HC.mono ?_; rintro x WE ⟨rfl, bE⟩; clear HC x0 x1 x2 x3 x4 x5 k0 k1 k2 k3 k4 k5; have HE := veil ((unveil H8).next bE); obtain ⟨k0, k1, k2, k3, k4, k5⟩ := (unveil HE).x.cells; obtain ⟨z0, z1, z2, z3, z4, z5⟩ := (unveil HE).m.z.cells; have zf := (unveil HE).m.z.free; clear bE)
    obtain ⟨W9, hW9, d9, A9⟩ := (unveil HE).yes (unveil HAP)
    rw [← hW9]
    exact bodyPost_ret (ret_applied d9 rfl rfl) rfl A9
end Go.Proofs.YtmhdpbmjhijhkaaGreat

namespace Go.Proofs.YtmhdpbmjhijhkaaGreat
open Go.RowKit

set_option maxRecDepth 20000 in
set_option maxHeartbeats 4000000 in
theorem apply_no (B : Bt) (a : Option Addr) (c : Nat) (r : Rec) (w : World) (hb : BIn w B a c) (ok : ¬ B.Ok) :
    Calls Tryz.prog 11 #[bVal B.r B.e B.f B.t B.o a B.es.length c, recIn r] w fun x w' => ApplyR w w' B r x := by
  have HA := veil (apply_state (r := r) ok)
  go_enter Tryz.func11, Tryz.ntmps11
  go_upto_region 1 with fail
  obtain ⟨W1, hW1, M1⟩ := Mr.made w B a c r
  rw [← hW1]
  clear hW1
  have HC := bcheck_no B a c W1 (hb.next M1.bel) ok
  obtain ⟨x0, x1, x2, x3, x4, x5⟩ := M1.b.cells
  have HM := veil M1
  clear M1 ok hb
  go_wp2_with (go_at_call 28; refine HC.mono ?_; rintro x W2 ⟨rfl, b2⟩; clear HC x0 x1 x2 x3 x4 x5; have M2 := (unveil HM).next b2; obtain ⟨z0, z1, z2, z3, z4, z5⟩ := M2.z.cells; have zf := M2.z.free; have HM2 := veil M2; clear M2 b2 HM)
  obtain ⟨W4, hW4, d4, b4, _⟩ := b_stored (unveil HM2).z (unveil HM2).bel (show w.heap.size ≤ w.heap.size + 2 by omega) 0 0 0 0 0 none 0 0
  rw [← hW4]
  exact bodyPost_ret (ret_apply d4 rfl rfl) rfl (ApplyR.none (unveil HA) b4)
theorem tells_oks {es : List Ev} {s : St} {ans : List An} (h : Tells es s ans) : ∀ v ∈ es, v.Ok := by
  induction h with
  | nil => intro v hv; cases hv
  | snoc h hv st ih =>
    intro v hv'
    rcases List.mem_append.1 hv' with h1 | h1
    · exact ih v h1
    · rw [List.mem_singleton.1 h1]; exact hv
theorem ok_wf {B : Bt} (ok : B.Ok) : ∀ u ∈ evFlat B.es, (Lit.int .i64 u).wf = true := by
  obtain ⟨s, ans, h⟩ := ok.told
  exact evFlat_wf (tells_oks h)
theorem apply_full (B : Bt) (a : Option Addr) (c : Nat) (r : Rec) (w : World) (hb : BIn w B a c) (hv : ∀ u ∈ evFlat [r.v], (Lit.int .i64 u).wf = true) :
    Calls Tryz.prog 11 #[bVal B.r B.e B.f B.t B.o a B.es.length c, recIn r] w fun x w' => ApplyR w w' B r x := by
  by_cases ok : B.Ok
  · exact apply_any B a c r w hb (ok_wf ok) hv
  · exact apply_no B a c r w hb ok
set_option maxRecDepth 20000 in
set_option maxHeartbeats 4000000 in
theorem applied_no (B : Bt) (a : Option Addr) (c : Nat) (r : Rec) (w : World) (hb : BIn w B a c) (ok : ¬ B.Ok) :
    Calls Tryz.prog 12 #[bVal B.r B.e B.f B.t B.o a B.es.length c, recIn r] w fun x w' => ApplyR w w' B r x := by
  have HA := veil (apply_state (r := r) ok)
  go_enter Tryz.func12, Tryz.ntmps12
  go_upto_region 1 with fail
  obtain ⟨W1, hW1, M1⟩ := Mr.made w B a c r
  rw [← hW1]
  clear hW1
  have HC := faultB_no B a c W1 (hb.next M1.bel) ok
  obtain ⟨x0, x1, x2, x3, x4, x5⟩ := M1.b.cells
  have HM := veil M1
  clear M1 ok hb
  go_wp2_with (go_at_call 32; refine HC.mono ?_; rintro x W2 ⟨rfl, b2⟩; clear HC x0 x1 x2 x3 x4 x5; have M2 := (unveil HM).next b2; obtain ⟨z0, z1, z2, z3, z4, z5⟩ := M2.z.cells; have zf := M2.z.free; have HM2 := veil M2; clear M2 b2 HM)
  obtain ⟨W4, hW4, d4, b4, _⟩ := b_stored (unveil HM2).z (unveil HM2).bel (show w.heap.size ≤ w.heap.size + 2 by omega) 0 0 0 0 0 none 0 0
  rw [← hW4]
  exact bodyPost_ret (ret_applied d4 rfl rfl) rfl (ApplyR.none (unveil HA) b4)
set_option maxRecDepth 20000 in
set_option maxHeartbeats 4000000 in
theorem applied_fault (B : Bt) (a : Option Addr) (c : Nat) (r : Rec) (w : World) (hb : BIn w B a c) (ok : B.Ok) (hf : ¬ r.fault = 0) :
    Calls Tryz.prog 12 #[bVal B.r B.e B.f B.t B.o a B.es.length c, recIn r] w fun x w' => ApplyR w w' B r x := by
  have HP : ∀ w, Calls Tryz.prog 33 #[recIn r] w fun x w' => x = .returned (.int .i64 r.fault) ∧ Below w.heap.size w w' := fun w => recordFault_any _ _ _ _ _ _ _ _ _ _ w
  have HA := veil (apply_fault ok hf)
  have e1 : (r.fault != 0) = true := by simp [hf]
  generalize r.fault = fl at *
  go_enter Tryz.func12, Tryz.ntmps12
  go_upto_region 1 with fail
  obtain ⟨W1, hW1, M1⟩ := Mr.made w B a c r
  rw [← hW1]
  clear hW1
  have HC := faultB_yes B a c W1 (hb.next M1.bel) ok
  obtain ⟨x0, x1, x2, x3, x4, x5⟩ := M1.b.cells
  have HM := veil M1
  clear M1 ok hb hf
  go_wp2_with (first | (go_at_call 32; refine HC.mono ?_; rintro x W2 ⟨rfl, b2⟩; clear HC x0 x1 x2 x3 x4 x5; have M2 := (unveil HM).next b2; obtain ⟨r0, r1, r2, r3, r4, r5, r6, r7, r8, r9⟩ := M2.rc.cells; have HM2 := veil M2; clear M2 b2 HM) | (go_at_call 33; refine (HP _).mono ?_; rintro x W3 ⟨rfl, b3⟩; clear HP r0 r1 r2 r3 r4 r5 r6 r7 r8 r9; have M3 := (unveil HM2).next b3; obtain ⟨z0, z1, z2, z3, z4, z5⟩ := M3.z.cells; have zf := M3.z.free; have HM3 := veil M3; clear M3 b3 HM2))
  obtain ⟨W4, hW4, d4, b4, _⟩ := b_stored (unveil HM3).z (unveil HM3).bel (show w.heap.size ≤ w.heap.size + 2 by omega) 0 0 0 0 0 none 0 0
  rw [← hW4]
  exact bodyPost_ret (ret_applied d4 rfl rfl) rfl (ApplyR.none (unveil HA) b4)
theorem applied_full (B : Bt) (a : Option Addr) (c : Nat) (r : Rec) (w : World) (hb : BIn w B a c) (hv : ∀ u ∈ evFlat [r.v], (Lit.int .i64 u).wf = true) :
    Calls Tryz.prog 12 #[bVal B.r B.e B.f B.t B.o a B.es.length c, recIn r] w fun x w' => ApplyR w w' B r x := by
  by_cases ok : B.Ok
  case neg => exact applied_no B a c r w hb ok
  case pos =>
  by_cases hf : r.fault = 0
  case neg => exact applied_fault B a c r w hb ok hf
  case pos =>
  have hw := ok_wf ok
  rcases Rec.kinds hf with h | h | h | h | h | h | h
  · exact applied_1 B a c r w hb hw hv ok hf h
  · exact applied_2 B a c r w hb hw hv ok hf h
  · exact applied_3 B a c r w hb hw hv ok hf h
  · exact applied_4 B a c r w hb hw hv ok hf h
  · exact applied_5 B a c r w hb hw hv ok hf h
  · exact applied_6 B a c r w hb hw hv ok hf h
  · exact applied_7 B a c r w hb hw hv ok hf h
end Go.Proofs.YtmhdpbmjhijhkaaGreat

namespace Go.Proofs.YtmhdpbmjhijhkaaGreat
open Go.RowKit

theorem rc_next {w w' : World} {R : Nat} {r : Rec} (h : rcBlock w R r) (b : Below w.heap.size w w') : rcBlock w' R r := (b.block _ (block_lt h)).trans h
theorem apply_len (B : Bt) (r : Rec) : (applyOf B r).1.es.length ≤ 3000000000000 := by
  unfold applyOf
  split
  · exact Nat.zero_le _
  · split
    · exact Nat.zero_le _
    · split
      · exact Nat.zero_le _
      · rename_i D _
        split
        · rename_i hD; have := hD.len; show D.es.length ≤ _; omega
        · exact Nat.zero_le _
set_option maxRecDepth 20000 in
set_option maxHeartbeats 4000000 in
theorem walk_RebuildApplies (w : World) (B : Bt) (a : Option Addr) (cap : Nat) (bi : BIn w B a cap) (z : cap * 48 ≤ 140737488351232) (k q ep pe ek p i b he hn : Int) (hw : ∀ z ∈ [k, q, ep, pe, ek, p, i, b, he, hn], (Lit.int .i64 z).wf = true) :
    Calls Tryz.prog 3 #[bVal B.r B.e B.f B.t B.o a B.es.length cap, .agg #[.int .i64 k, .int .i64 q, .int .i64 ep, .int .i64 pe, .int .i64 ek, .int .i64 p, .int .i64 i, .int .i64 b, .int .i64 he, .int .i64 hn]] w fun r w' => r = .returned (.bool true) ∧ Below w.heap.size w w' := by
  have hcap := bi.cap
  have hs : B.es.length * 48 ≤ 140737488351232 := by omega
  have hm : B.es.length ≤ 3000000000000 := by omega
  obtain ⟨r, hr⟩ : ∃ r : Rec, r = ⟨k, q, ep, pe, ⟨ek, p, i, b, he, hn⟩⟩ := ⟨_, rfl⟩
  have hv : ∀ u ∈ evFlat [r.v], (Lit.int .i64 u).wf = true := by
    intro u hu
    rw [hr] at hu
    refine hw u ?_
    have : u ∈ [ek, p, i, b, he, hn] := by simpa [evFlat, evCells] using hu
    exact List.mem_append_right [k, q, ep, pe] this
  have hin : (Value.agg #[.int .i64 k, .int .i64 q, .int .i64 ep, .int .i64 pe, .int .i64 ek, .int .i64 p, .int .i64 i, .int .i64 b, .int .i64 he, .int .i64 hn]) = recIn r := by rw [hr]
  rw [hin]
  clear hin hr hw
  obtain ⟨D, er, hD⟩ : ∃ D er, applyOf B r = (D, er) := ⟨_, _, rfl⟩
  have hm' : D.es.length ≤ 3000000000000 := by have := apply_len B r; rw [hD] at this; exact this
  have HA : Hid (∀ a c W, BIn W B a c → Calls Tryz.prog 11 #[bVal B.r B.e B.f B.t B.o a B.es.length c, recIn r] W fun x w' => ∃ a' c', x = .returned (.tuple #[bVal D.r D.e D.f D.t D.o a' D.es.length c', .int .i64 er]) ∧ BIn w' D a' c' ∧ Below W.heap.size W w') := veil fun a c W h => (apply_full B a c r W h hv).mono fun x w' g => by
    unfold ApplyR at g
    rw [hD] at g
    exact g
  have HR : Hid (∀ a c W, BIn W B a c → Calls Tryz.prog 12 #[bVal B.r B.e B.f B.t B.o a B.es.length c, recIn r] W fun x w' => ∃ a' c', x = .returned (.tuple #[bVal D.r D.e D.f D.t D.o a' D.es.length c', .int .i64 er]) ∧ BIn w' D a' c' ∧ Below W.heap.size W w') := veil fun a c W h => (applied_full B a c r W h hv).mono fun x w' g => by
    unfold ApplyR at g
    rw [hD] at g
    exact g
  clear hD hv
  go_enter Tryz.func3, Tryz.ntmps3
  go_upto_region 1 with fail
  obtain ⟨W0, hW0, K0, _⟩ := Kb.new bi (Below.refl _ _) (Below.refl _ _)
  have hs0 : W0.heap.size = w.heap.size + 1 := by rw [hW0]; simp
  rw [← hW0]
  clear hW0
  obtain ⟨W1, hW1, C1, b1⟩ : ∃ W1, W1 = W0.alloc (.cells #[.int .i64 r.k, .int .i64 r.q, .int .i64 r.e, .int .i64 r.p, .int .i64 r.v.k, .int .i64 r.v.p, .int .i64 r.v.i, .int .i64 r.v.b, .int .i64 r.v.he, .int .i64 r.v.hn] 30) ∧ rcBlock W1 (w.heap.size + 1) r ∧ Below W0.heap.size W0 W1 := ⟨_, rfl, by rw [← hs0]; exact heap_alloc_new W0 _, below1 _ _⟩
  rw [← hW1]
  have K1 := K0.next b1
  clear hW1 K0 b1 hs0
  obtain ⟨x0, x1, x2, x3, x4, x5⟩ := K1.b.cells
  have HBs := veil (berths_any B a cap W1 K1.i hs)
  have HKx := veil K1
  have HC := veil C1
  clear K1 C1
  go_upto_region 2 with (go_at_call 10; refine (unveil HBs).mono ?_; rintro x W2 ⟨y, rfl, ⟨a2, c2, rfl, i2, f2⟩, b2⟩; have K2 := (unveil HKx).next b2; have C2 := rc_next (unveil HC) b2; clear HBs HKx HC x0 x1 x2 x3 x4 x5; have HKx := veil K2; have HC := veil C2; have HI2 := veil i2; clear K2 i2 b2 f2 C2)
  obtain ⟨W3, hW3, K3, b3⟩ := Kb.new (w := w) (unveil HI2) (unveil HKx).bel (Below.refl _ _)
  rw [← hW3]
  clear hW3
  have Kx3 := (unveil HKx).next b3
  have C3 := rc_next (unveil HC) b3
  clear HKx HI2 b3 HC
  have HKx := veil Kx3
  obtain ⟨g0, g1, g2, g3, g4, g5⟩ := K3.b.cells
  obtain ⟨r0, r1, r2, r3, r4, r5, r6, r7, r8, r9⟩ := C3.cells
  have HF := veil (unveil HA a2 c2 W3 K3.i)
  have HKc := veil K3
  have HC := veil C3
  clear K3 Kx3 C3 HA
  go_upto_region 3 with (go_at_call 11; refine (unveil HF).mono ?_; rintro x W4 ⟨a4, c4, rfl, i4, b4⟩; have HI4 := veil i4; have Kx4 := (unveil HKx).next b4; have Kc4 := (unveil HKc).next b4; have C4 := rc_next (unveil HC) b4; clear HF HKx HKc HC g0 g1 g2 g3 g4 g5 r0 r1 r2 r3 r4 r5 r6 r7 r8 r9 i4 b4; have HKx := veil Kx4; have HKc := veil Kc4; have HC := veil C4; clear Kx4 Kc4 C4)
  obtain ⟨W5, hW5, K5, b5⟩ := Kb.new (w := w) (unveil HI4) (unveil HKx).bel (Below.refl _ _)
  rw [← hW5]
  clear hW5
  have Kx5 := (unveil HKx).next b5
  have Kc5 := (unveil HKc).next b5
  have C5 := rc_next (unveil HC) b5
  clear HKx HI4 HKc b5 HC
  obtain ⟨x0, x1, x2, x3, x4, x5⟩ := Kx5.b.cells
  obtain ⟨r0, r1, r2, r3, r4, r5, r6, r7, r8, r9⟩ := C5.cells
  have HD := veil (unveil HR a cap W5 Kx5.i)
  have HKx := veil Kx5
  have HKa := veil K5
  have HKc := veil Kc5
  clear Kx5 K5 Kc5 C5 HR
  go_upto_region 4 with (go_at_call 12; refine (unveil HD).mono ?_; rintro x W6 ⟨a6, c6, rfl, i6, b6⟩; have HI6 := veil i6; have Kx6 := (unveil HKx).next b6; have Ka6 := (unveil HKa).next b6; have Kc6 := (unveil HKc).next b6; clear HD HKx HKa x0 x1 x2 x3 x4 x5 r0 r1 r2 r3 r4 r5 r6 r7 r8 r9 i6 b6 HKc; have HKx := veil Kx6; have HKa := veil Ka6; have HKc := veil Kc6; clear Kx6 Ka6 Kc6)
  obtain ⟨W7, hW7, K7, b7⟩ := Kb.new (w := w) (unveil HI6) (unveil HKx).bel (Below.refl _ _)
  rw [← hW7]
  clear hW7
  have Kx7 := (unveil HKx).next b7
  have Ka7 := (unveil HKa).next b7
  have Kc7 := (unveil HKc).next b7
  obtain ⟨p0, p1, p2, p3, p4, p5⟩ := Ka7.b.cells
  obtain ⟨q0, q1, q2, q3, q4, q5⟩ := K7.b.cells
  have HS1 := veil (sameKb Ka7 K7 hm')
  have HKx := veil Kx7
  have HKc := veil Kc7
  clear Ka7 K7 Kx7 b7 Kc7
  go_wp2_with (first | (go_at_call 13; refine (unveil HS1).mono ?_; rintro x W8 ⟨rfl, b8⟩; clear HS1 p0 p1 p2 p3 p4 p5 q0 q1 q2 q3 q4 q5; have Kc8 := (unveil HKc).next b8; have Kx8 := (unveil HKx).next b8; obtain ⟨p0, p1, p2, p3, p4, p5⟩ := Kc8.b.cells; obtain ⟨q0, q1, q2, q3, q4, q5⟩ := Kx8.b.cells; have HS2 := veil (sameKb Kc8 Kx8 hm); have HB8 := veil Kx8.bel; clear Kc8 Kx8 b8) | (go_at_call 13; refine (unveil HS2).mono ?_; rintro x W9 ⟨rfl, b9⟩; clear HS2))
  go_ret
  exact ⟨by first | rfl | simp, Below.next (unveil HB8) b9⟩
end Go.Proofs.YtmhdpbmjhijhkaaGreat

namespace Go.Proofs.YtmhdpbmjhijhkaaGreat
open Go.ChangeShapes Go.WideShapes Go.ChangeAt Go.RowKit

theorem cells_intW : Tryz.prog.cellsOf 3 = 1 := by kernel_rfl
theorem cells_boolW : Tryz.prog.cellsOf 4 = 1 := by kernel_rfl
theorem cells_seen : Tryz.prog.cellsOf 87 = 8 := by kernel_rfl
theorem cells_window : Tryz.prog.cellsOf 89 = 9 := by kernel_rfl

section
variable {H : Type} {enc : TypeId × Value → H} {W : World} {base : Nat} {sp : Nat → Bool} {held : Bool}

theorem bools_seen {fuel : Nat} {cs : List Value} {x : DataW H × List MemPlace} (h : DataW.trod enc Tryz.prog W base sp held fuel 87 cs = some x) : ∃ s : Nat → Bool, ∀ i, i < 8 → cs[i]? = some (.bool (s i)) := by
  obtain ⟨xs, n, _, _, hl, hlen, hf⟩ := DataW.trod_array Tryz.underlying87 h
  rw [cells_boolW] at hf
  have hb : ∀ i, i < 8 → ∃ b, cs[i]? = some (.bool b) := by
    intro i hi
    have hx : xs[i]? = some (xs[i]'(by omega)) := List.getElem?_eq_getElem (by omega)
    have := hf i hi
    rw [hx, Nat.mul_one] at this
    obtain ⟨b, hb, _⟩ := DataW.trod_bool Tryz.underlying4 this
    refine ⟨b, ?_⟩
    have h0 : ((cs.drop i).take 1)[0]? = some (.bool b) := by rw [hb]; rfl
    simpa using h0
  refine ⟨fun i => match cs[i]? with | some (.bool b) => b | _ => false, fun i hi => ?_⟩
  obtain ⟨b, hb⟩ := hb i hi
  simp only [hb]

set_option maxRecDepth 20000 in
theorem window_cells {fuel : Nat} {cs : List Value} {x : DataW H × List MemPlace} (h : DataW.trod enc Tryz.prog W base sp held fuel 89 cs = some x) (hsz : cs.length = 9) :
    ∃ (t : Int) (s : Nat → Bool), cs = [.int .i64 t, .bool (s 0), .bool (s 1), .bool (s 2), .bool (s 3), .bool (s 4), .bool (s 5), .bool (s 6), .bool (s 7)] ∧ (Lit.int .i64 t).wf = true := by
  obtain ⟨xs, n, _, _, _, hlen, hf⟩ := DataW.trod_struct Tryz.underlying89 h
  match xs, hlen with
  | [y0, y1], _ =>
    have f0 : DataW.trod enc Tryz.prog W base sp held n 3 ((cs.drop 0).take (Tryz.prog.cellsOf 3)) = some y0 := hf 0 _ rfl
    rw [cells_intW] at f0
    have f1 : DataW.trod enc Tryz.prog W base sp held n 87 ((cs.drop 1).take (Tryz.prog.cellsOf 87)) = some y1 := hf 1 _ rfl
    rw [cells_seen] at f1
    obtain ⟨t, ht, _, hw⟩ := DataW.trod_int Tryz.underlying3 f0
    obtain ⟨s, hs⟩ := bools_seen f1
    refine ⟨t, s, ?_, hw⟩
    match cs, hsz with
    | [v0, v1, v2, v3, v4, v5, v6, v7, v8], _ =>
      have e0 : v0 = .int .i64 t := by simpa using ht
      have e1 : v1 = .bool (s 0) := by simpa using hs 0 (by omega)
      have e2 : v2 = .bool (s 1) := by simpa using hs 1 (by omega)
      have e3 : v3 = .bool (s 2) := by simpa using hs 2 (by omega)
      have e4 : v4 = .bool (s 3) := by simpa using hs 3 (by omega)
      have e5 : v5 = .bool (s 4) := by simpa using hs 4 (by omega)
      have e6 : v6 = .bool (s 5) := by simpa using hs 5 (by omega)
      have e7 : v7 = .bool (s 6) := by simpa using hs 6 (by omega)
      have e8 : v8 = .bool (s 7) := by simpa using hs 7 (by omega)
      rw [e0, e1, e2, e3, e4, e5, e6, e7, e8]

set_option maxRecDepth 20000 in
theorem open_Window {r : Reach} {b0 : Nat} {v : Value} {d : DataW H} {p : List MemPlace} (hv : Value.okWide Tryz.prog W r b0 89 v) (h : DataW.Trod enc Tryz.prog W base sp held 89 v d p) :
    ∃ (t : Int) (s : Nat → Bool), v = winVal t s ∧ (Lit.int .i64 t).wf = true := by
  obtain ⟨cs, n, rfl, hsz, hf⟩ := open_struct Tryz.underlying89 hv h
  rw [cells_window] at hsz
  obtain ⟨t, s, hz, hw⟩ := window_cells hf (by simpa using hsz)
  exact ⟨t, s, by rw [← Array.toArray_toList (xs := cs), hz], hw⟩
end
end Go.Proofs.YtmhdpbmjhijhkaaGreat

namespace Go.Proofs.YtmhdpbmjhijhkaaGreat
open Go.ChangeShapes Go.WideShapes Go.ChangeAt Go.RowKit

theorem cells_queue : Tryz.prog.cellsOf 92 = 41 := by kernel_rfl
theorem cells_messages : Tryz.prog.cellsOf 85 = 1 := by kernel_rfl
theorem cells_leases : Tryz.prog.cellsOf 86 = 1 := by kernel_rfl
theorem cells_windows : Tryz.prog.cellsOf 90 = 36 := by kernel_rfl
theorem cells_message : Tryz.prog.cellsOf 131 = 2 := by kernel_rfl
theorem cells_lease : Tryz.prog.cellsOf 133 = 4 := by kernel_rfl
theorem bytes_message : Tryz.prog.bytesOf 131 = 16 := by kernel_rfl
theorem bytes_lease : Tryz.prog.bytesOf 133 = 32 := by kernel_rfl

/-- a queue's rows, as they came in. -/
structure QueueIn (W : World) (ep nx gv : Int) (ra : Option Addr) (rn rc : Nat) (la : Option Addr) (ln lc : Nat) (R L : List Int) (ws : Nat → Value) (wt : Nat → Int) (wz : Nat → Nat → Bool) : Prop where
  rowR : RowK .i64 W ra (2 * rn) R
  rowL : RowK .i64 W la (4 * ln) L
  wins : Wins ws wt wz
  lenR : rn ≤ rc
  lenL : ln ≤ lc
  nilR : ra = none → rc = 0
  nilL : la = none → lc = 0
  wep : (Lit.int .i64 ep).wf = true
  wnx : (Lit.int .i64 nx).wf = true
  wgv : (Lit.int .i64 gv).wf = true

section
variable {H : Type} {enc : TypeId × Value → H} {W : World}

theorem ints_message {base : Nat} {sp : Nat → Bool} {held : Bool} {fuel : Nat} {cs : List Value} {x : DataW H × List MemPlace} (h : DataW.trod enc Tryz.prog W base sp held fuel 131 cs = some x) : Ints cs ∧ cs.length = 2 := by
  obtain ⟨xs, n, _, _, hl, hlen, hf⟩ := DataW.trod_struct Tryz.underlying131 h
  rw [cells_message] at hl
  refine ⟨?_, hl⟩
  match xs, hlen with
  | [y0, y1], _ =>
    have f0 : DataW.trod enc Tryz.prog W base sp held n 3 ((cs.drop 0).take (Tryz.prog.cellsOf 3)) = some y0 := hf 0 _ rfl
    have f1 : DataW.trod enc Tryz.prog W base sp held n 3 ((cs.drop 1).take (Tryz.prog.cellsOf 3)) = some y1 := hf 1 _ rfl
    rw [cells_int] at f0 f1
    exact ints_step (o := 0) (n := 1) (ints_int Tryz.underlying3 f0) (ints_step (o := 1) (n := 1) (ints_int Tryz.underlying3 f1) (ints_end (by omega)))
theorem ints_lease {base : Nat} {sp : Nat → Bool} {held : Bool} {fuel : Nat} {cs : List Value} {x : DataW H × List MemPlace} (h : DataW.trod enc Tryz.prog W base sp held fuel 133 cs = some x) : Ints cs ∧ cs.length = 4 := by
  obtain ⟨xs, n, _, _, hl, hlen, hf⟩ := DataW.trod_struct Tryz.underlying133 h
  rw [cells_lease] at hl
  refine ⟨?_, hl⟩
  match xs, hlen with
  | [y0, y1], _ =>
    have f0 : DataW.trod enc Tryz.prog W base sp held n 26 ((cs.drop 0).take (Tryz.prog.cellsOf 26)) = some y0 := hf 0 _ rfl
    have f1 : DataW.trod enc Tryz.prog W base sp held n 131 ((cs.drop 2).take (Tryz.prog.cellsOf 131)) = some y1 := hf 1 _ rfl
    rw [cells_handle] at f0
    rw [cells_message] at f1
    exact ints_step (o := 0) (n := 2) (ints_handle f0) (ints_step (o := 2) (n := 2) (ints_message f1).1 (ints_end (by omega)))

/-- the number that a cell holds. -/
def numOfCell (w : World) (a : Addr) : Int := match w.cell? a with
  | some (.int .i64 z) => z
  | _ => 0

/-- a slice of structs of numbers, by its cell. -/
theorem open_many {t e : TypeId} {size : Nat} (ht : Tryz.prog.underlying t = some (.slice e)) (hc : Tryz.prog.cellsOf e = size) (h0 : 0 < size)
    (hints : ∀ {fuel : Nat} {cs : List Value} {x : DataW H × List MemPlace}, DataW.trod enc Tryz.prog W 0 (fun _ => true) true fuel e cs = some x → Ints cs ∧ cs.length = size)
    {fuel : Nat} {cs : List Value} {d : DataW H} {p : List MemPlace} (hf : DataW.trod enc Tryz.prog W 0 (fun _ => true) true fuel t cs = some (d, p)) :
    ∃ a len cap D, cs = [.slice a len cap] ∧ RowK .i64 W a (size * len) D ∧ len ≤ cap ∧ cap ≤ maxLen ∧ (a = none → cap = 0) ∧ ((d = .nil ∧ cap = 0) ∨ ∃ es sp, d = .slice es sp ∧ es.length + sp.length = cap) := by
  rcases Go.Deep.open_slice ht hf with ⟨rfl, hx⟩ | ⟨x, l, c, m, n, Dd, Pl, rfl, _, hl, hm, hmm, hx, hall⟩
  · simp only [Prod.mk.injEq] at hx
    exact ⟨none, 0, 0, [], rfl, RowK.nil _ _ _, Nat.le_refl _, by unfold maxLen; omega, fun _ => rfl, .inl ⟨hx.1, rfl⟩⟩
  · simp only [if_true] at hmm
    subst hmm
    simp only [Prod.mk.injEq] at hx
    have hdat : (d = .nil ∧ m = 0) ∨ ∃ es sp, d = .slice es sp ∧ es.length + sp.length = m := .inr ⟨_, _, hx.1, by simp; omega⟩
    have key : ∀ i, i < l → ∀ t, t < size → ∃ z, W.cell? ((x.add (i * size)).add t) = some (.int .i64 z) ∧ (Lit.int .i64 z).wf = true := by
      intro i hi t ht
      obtain ⟨cs', h1, h2⟩ := hall i (by omega)
      rw [hc] at h1
      obtain ⟨⟨zs, rfl, hw⟩, hl4⟩ := hints h2
      have hl4' : zs.length = size := by simpa using hl4
      have h3 := (World.cells?_some h1).2.2 t ht
      rw [h3, List.getElem?_map, List.getElem?_eq_getElem (show t < zs.length by omega)]
      exact ⟨zs[t]'(by omega), rfl, hw _ (List.getElem_mem _)⟩
    obtain ⟨b, off, spot⟩ := x
    by_cases hl0 : l = 0
    · subst hl0
      exact ⟨_, _, _, [], rfl, RowK.nil _ _ _, hl, hm, by simp, hdat⟩
    have hspot : spot = none := by
      obtain ⟨z, hz, _⟩ := key 0 (by omega) 0 (by omega)
      simpa [Addr.add] using World.cell?_spot hz
    subst hspot
    have hadd : ∀ i t, ((⟨b, off, none⟩ : Addr).add i).add t = ⟨b, off + (i + t), none⟩ := by
      intro i t
      have h1 : ∀ (o j : Nat), (⟨b, o, none⟩ : Addr).add j = ⟨b, o + j, none⟩ := fun o j => by unfold Addr.add; split <;> simp_all
      rw [h1, h1, Nat.add_assoc]
    have cell : ∀ j, j < size * l → W.cell? ⟨b, off + j, none⟩ = some (.int .i64 (numOfCell W ⟨b, off + j, none⟩)) ∧ (Lit.int .i64 (numOfCell W ⟨b, off + j, none⟩)).wf = true := by
      intro j hj
      obtain ⟨z, hz, hw⟩ := key (j / size) (Nat.div_lt_of_lt_mul hj) (j % size) (Nat.mod_lt _ h0)
      rw [hadd, Nat.mul_comm (j / size) size, Nat.div_add_mod] at hz
      have hn : numOfCell W ⟨b, off + j, none⟩ = z := by unfold numOfCell; rw [hz]
      rw [hn]
      exact ⟨hz, hw⟩
    refine ⟨_, _, _, (List.range (size * l)).map (fun j => numOfCell W ⟨b, off + j, none⟩), rfl, ⟨by simp, ?_, ?_⟩, hl, hm, by simp, hdat⟩
    · intro u hu
      simp only [List.mem_map, List.mem_range] at hu
      obtain ⟨j, hj, rfl⟩ := hu
      exact (cell j hj).2
    · intro j hj
      have hcj := (cell j hj).1
      refine ⟨b, off, rfl, ?_, ?_⟩
      · unfold World.cell? at hcj
        by_cases hbl : b < W.heap.size
        · exact hbl
        · simp [Array.getElem?_eq_none (show W.heap.size ≤ b by omega)] at hcj
      · rw [hcj]
        simp [List.getD_eq_getElem?_getD, hj]

/-- four windows, by their cells. -/
theorem open_wins {base : Nat} {sp : Nat → Bool} {held : Bool} {fuel : Nat} {cs : List Value} {x : DataW H × List MemPlace} (h : DataW.trod enc Tryz.prog W base sp held fuel 90 cs = some x) (hsz : cs.length = 36) :
    ∃ ws wt wz, cs = wsList ws ∧ Wins ws wt wz := by
  obtain ⟨xs, n, _, _, hl, hlen, hf⟩ := DataW.trod_array Tryz.underlying90 h
  rw [cells_window] at hf
  have hp : ∀ p, p < 4 → ∃ (t : Int) (s : Nat → Bool), (cs.drop (p * 9)).take 9 = [.int .i64 t, .bool (s 0), .bool (s 1), .bool (s 2), .bool (s 3), .bool (s 4), .bool (s 5), .bool (s 6), .bool (s 7)] := by
    intro p hp
    have hx : xs[p]? = some (xs[p]'(by omega)) := List.getElem?_eq_getElem (by omega)
    have := hf p hp
    rw [hx] at this
    obtain ⟨t, s, h1, _⟩ := window_cells this (by simp; omega)
    exact ⟨t, s, h1⟩
  obtain ⟨wt, hwt⟩ : ∃ wt : Nat → Int, ∀ p, p < 4 → ∃ s : Nat → Bool, (cs.drop (p * 9)).take 9 = [.int .i64 (wt p), .bool (s 0), .bool (s 1), .bool (s 2), .bool (s 3), .bool (s 4), .bool (s 5), .bool (s 6), .bool (s 7)] := by
    obtain ⟨t0, h0⟩ := hp 0 (by omega)
    obtain ⟨t1, h1⟩ := hp 1 (by omega)
    obtain ⟨t2, h2⟩ := hp 2 (by omega)
    obtain ⟨t3, h3⟩ := hp 3 (by omega)
    exact ⟨fun p => match p with | 0 => t0 | 1 => t1 | 2 => t2 | _ => t3, below4 h0 h1 h2 h3⟩
  obtain ⟨wz, hwz⟩ : ∃ wz : Nat → Nat → Bool, ∀ p, p < 4 → (cs.drop (p * 9)).take 9 = [.int .i64 (wt p), .bool (wz p 0), .bool (wz p 1), .bool (wz p 2), .bool (wz p 3), .bool (wz p 4), .bool (wz p 5), .bool (wz p 6), .bool (wz p 7)] := by
    obtain ⟨s0, h0⟩ := hwt 0 (by omega)
    obtain ⟨s1, h1⟩ := hwt 1 (by omega)
    obtain ⟨s2, h2⟩ := hwt 2 (by omega)
    obtain ⟨s3, h3⟩ := hwt 3 (by omega)
    exact ⟨fun p => match p with | 0 => s0 | 1 => s1 | 2 => s2 | _ => s3, below4 h0 h1 h2 h3⟩
  refine ⟨fun i => cs.getD i undef, wt, wz, ?_, ?_⟩
  · apply List.ext_getElem?
    intro i
    rcases Nat.lt_or_ge i 36 with hi | hi
    · rw [wsList_get _ i hi, List.getD_eq_getElem?_getD, List.getElem?_eq_getElem (by omega)]; rfl
    · rw [List.getElem?_eq_none (by omega), List.getElem?_eq_none (by rw [wsList_len]; exact hi)]
  · intro p hp'
    have hg : ∀ j, j < 9 → cs[9 * p + j]? = ((cs.drop (p * 9)).take 9)[j]? := by
      intro j hj
      rw [List.getElem?_take, if_pos hj, List.getElem?_drop, Nat.mul_comm]
    have h9 := hwz p hp'
    refine ⟨?_, ?_⟩
    · have := hg 0 (by omega)
      rw [h9] at this
      simp only [List.getD_eq_getElem?_getD]
      rw [Nat.add_zero] at this
      rw [this]; rfl
    · intro j hj
      have := hg (1 + j) (by omega)
      rw [h9] at this
      simp only [List.getD_eq_getElem?_getD]
      rw [Nat.add_assoc, this]
      revert j
      refine below8 ?_ ?_ ?_ ?_ ?_ ?_ ?_ ?_ <;> (intros; rfl)

set_option maxRecDepth 20000 in
set_option maxHeartbeats 1000000 in
theorem open_Queue {r : Reach} {b0 : Nat} {v : Value} {d : DataW H} {p : List MemPlace} (hv : Value.okWide Tryz.prog W r b0 92 v) (h : DataW.Trod enc Tryz.prog W 0 (fun _ => true) true 92 v d p) :
    ∃ ep nx gv ra rn rc la ln lc R L ws wt wz, v = qVal ep nx gv (.slice ra rn rc) (.slice la ln lc) ws ∧ QueueIn W ep nx gv ra rn rc la ln lc R L ws wt wz ∧
      ∀ (ts : List TypeId) (ds : List (DataW H)) (j : Nat), (DataW.weightsEach Tryz.prog ts ds).all (· ≤ reachBytes) = true → ts[j]? = some 92 → ds[j]? = some d → rc * 16 ≤ 140737488351232 ∧ lc * 32 ≤ 140737488351232 := by
  obtain ⟨cs, n, rfl, hsz, hf⟩ := open_struct Tryz.underlying92 hv h
  rw [cells_queue] at hsz
  obtain ⟨xs, m, _, hx, hl, hlen, hfs⟩ := DataW.trod_struct Tryz.underlying92 hf
  obtain ⟨cs⟩ := cs
  have hsz' : cs.length = 41 := by simpa using hsz
  match xs, hlen with
  | [y0, y1, y2, y3, y4, y5], _ =>
    have f0 : DataW.trod enc Tryz.prog W 0 (fun _ => true) true m 3 ((cs.drop 0).take (Tryz.prog.cellsOf 3)) = some y0 := hfs 0 _ rfl
    have f1 : DataW.trod enc Tryz.prog W 0 (fun _ => true) true m 3 ((cs.drop 1).take (Tryz.prog.cellsOf 3)) = some y1 := hfs 1 _ rfl
    have f2 : DataW.trod enc Tryz.prog W 0 (fun _ => true) true m 3 ((cs.drop 2).take (Tryz.prog.cellsOf 3)) = some y2 := hfs 2 _ rfl
    have f3 : DataW.trod enc Tryz.prog W 0 (fun _ => true) true m 85 ((cs.drop 3).take (Tryz.prog.cellsOf 85)) = some y3 := hfs 3 _ rfl
    have f4 : DataW.trod enc Tryz.prog W 0 (fun _ => true) true m 86 ((cs.drop 4).take (Tryz.prog.cellsOf 86)) = some y4 := hfs 4 _ rfl
    have f5 : DataW.trod enc Tryz.prog W 0 (fun _ => true) true m 90 ((cs.drop 5).take (Tryz.prog.cellsOf 90)) = some y5 := hfs 5 _ rfl
    rw [cells_int] at f0 f1 f2
    rw [cells_messages] at f3
    rw [cells_leases] at f4
    rw [cells_windows] at f5
    obtain ⟨ep, he, _, wep⟩ := DataW.trod_int Tryz.underlying3 f0
    obtain ⟨nx, hn, _, wnx⟩ := DataW.trod_int Tryz.underlying3 f1
    obtain ⟨gv, hg, _, wgv⟩ := DataW.trod_int Tryz.underlying3 f2
    obtain ⟨ra, rn, rc, R, hr, rowR, lenR, _, nilR, datR⟩ := open_many Tryz.underlying85 cells_message (by decide) ints_message (d := y3.1) (p := y3.2) f3
    obtain ⟨la, ln, lc, L, hll, rowL, lenL, _, nilL, datL⟩ := open_many Tryz.underlying86 cells_lease (by decide) ints_lease (d := y4.1) (p := y4.2) f4
    obtain ⟨ws, wt, wz, hws, wins⟩ := open_wins f5 (by simp; omega)
    refine ⟨ep, nx, gv, ra, rn, rc, la, ln, lc, R, L, ws, wt, wz, ?_, ⟨rowR, rowL, wins, lenR, lenL, nilR, nilL, wep, wnx, wgv⟩, ?_⟩
    · have e : cs = qList ep nx gv (.slice ra rn rc) (.slice la ln lc) ws := by
        match cs, hsz' with
        | v0 :: v1 :: v2 :: v3 :: v4 :: rest, hr36 =>
          simp at he hn hg hr hll
          have : rest = wsList ws := by
            rw [← hws]
            simp only [List.drop_succ_cons, List.drop_zero]
            exact (List.take_of_length_le (by simp at hr36; omega)).symm
          rw [he, hn, hg, hr, hll, this]
          rfl
      show Value.agg (List.toArray cs) = _
      rw [e]; rfl
    · intro ts ds j hall ht hd
      have hx1 : d = .agg [y0.1, y1.1, y2.1, y3.1, y4.1, y5.1] := by simpa using (Prod.mk.inj hx).1
      subst hx1
      constructor
      · rcases datR with ⟨_, rfl⟩ | ⟨es, sp, he', rfl⟩
        · simp
        · have := List.all_eq_true.1 hall _ (DataW.weights_mem_each ht hd ((es.length + sp.length) * Tryz.prog.bytesOf 131) (by rw [he']; simp [DataW.weights, DataW.weightsEach, Tryz.underlying92, Tryz.underlying85]))
          rw [bytes_message] at this
          exact of_decide_eq_true this
      · rcases datL with ⟨_, rfl⟩ | ⟨es, sp, he', rfl⟩
        · simp
        · have := List.all_eq_true.1 hall _ (DataW.weights_mem_each ht hd ((es.length + sp.length) * Tryz.prog.bytesOf 133) (by rw [he']; simp [DataW.weights, DataW.weightsEach, Tryz.underlying92, Tryz.underlying86]))
          rw [bytes_lease] at this
          exact of_decide_eq_true this
end
end Go.Proofs.YtmhdpbmjhijhkaaGreat

namespace Go.Proofs.YtmhdpbmjhijhkaaGreat
open Go.ChangeShapes Go.WideShapes Go.ChangeAt Go.RowKit

section
variable {H : Type} {enc : TypeId × Value → H} {W : World}
theorem ints_event6 {base : Nat} {sp : Nat → Bool} {held : Bool} {fuel : Nat} {cs : List Value} {x : DataW H × List MemPlace} (h : DataW.trod enc Tryz.prog W base sp held fuel 28 cs = some x) : Ints cs ∧ cs.length = 6 := by
  obtain ⟨xs, n, _, _, hl, hlen, hf⟩ := DataW.trod_struct Tryz.underlying28 h
  rw [cells_event] at hl
  exact ⟨ints_event h, hl⟩
set_option maxRecDepth 20000 in
theorem open_Events {r : Reach} {b0 : Nat} {v : Value} {d : DataW H} {p : List MemPlace} (hv : Value.okWide Tryz.prog W r b0 22 v) (h : DataW.Trod enc Tryz.prog W 0 (fun _ => true) true 22 v d p) :
    ∃ a len cap D, v = .slice a len cap ∧ RowK .i64 W a (6 * len) D ∧ len ≤ cap ∧ cap ≤ maxLen ∧ (a = none → cap = 0) ∧ ((d = .nil ∧ cap = 0) ∨ ∃ es sp, d = .slice es sp ∧ es.length + sp.length = cap) := by
  obtain ⟨a, len, cap, rfl⟩ := okWide_slice Tryz.underlying22 hv
  obtain ⟨fuel, hf⟩ := h
  obtain ⟨a', len', cap', D, hcs, r1⟩ := open_many Tryz.underlying22 cells_event (by decide) ints_event6 hf
  simp [Value.cells] at hcs
  obtain ⟨rfl, rfl, rfl⟩ := hcs
  exact ⟨_, _, _, D, rfl, r1⟩
end
end Go.Proofs.YtmhdpbmjhijhkaaGreat

namespace Go.Proofs.YtmhdpbmjhijhkaaGreat
open Go.ChangeShapes Go.WideShapes Go.ChangeAt Go.RowKit

theorem cells_berth : Tryz.prog.cellsOf 24 = 6 := by kernel_rfl
theorem cells_events : Tryz.prog.cellsOf 22 = 1 := by kernel_rfl
theorem bytes_event : Tryz.prog.bytesOf 28 = 48 := by kernel_rfl
/-- events out of a row of numbers. -/
def evsOf (D : List Int) : Nat → List Ev
  | 0 => []
  | n + 1 => evsOf D n ++ [⟨D.getD (6 * n) 0, D.getD (6 * n + 1) 0, D.getD (6 * n + 2) 0, D.getD (6 * n + 3) 0, D.getD (6 * n + 4) 0, D.getD (6 * n + 5) 0⟩]
theorem evsOf_len (D : List Int) : ∀ n, (evsOf D n).length = n
  | 0 => rfl
  | n + 1 => by rw [evsOf, List.length_append, evsOf_len D n]; rfl
theorem evFlat_evsOf (D : List Int) : ∀ n, 6 * n ≤ D.length → evFlat (evsOf D n) = D.take (6 * n)
  | 0, _ => by simp [evsOf, evFlat]
  | n + 1, h => by
    rw [evsOf, evFlat_snoc, evFlat_evsOf D n (by omega), take_six D n (by omega)]
    rfl
theorem evFlat_of_row {w : World} {a : Option Addr} {n : Nat} {D : List Int} (h : RowK .i64 w a (6 * n) D) : RowK .i64 w a (6 * (evsOf D n).length) (evFlat (evsOf D n)) := by
  rw [evsOf_len, evFlat_evsOf D n (by have := h.len_eq; omega), List.take_of_length_le (by have := h.len_eq; omega)]
  exact h
section
variable {H : Type} {enc : TypeId × Value → H} {W : World}
set_option maxRecDepth 20000 in
set_option maxHeartbeats 1000000 in
theorem open_Berth {r : Reach} {b0 : Nat} {v : Value} {d : DataW H} {p : List MemPlace} (hv : Value.okWide Tryz.prog W r b0 24 v) (h : DataW.Trod enc Tryz.prog W 0 (fun _ => true) true 24 v d p) :
    ∃ (B : Bt) (a : Option Addr) (c : Nat), v = bVal B.r B.e B.f B.t B.o a B.es.length c ∧ BIn W B a c ∧
      ∀ (ts : List TypeId) (ds : List (DataW H)) (j : Nat), (DataW.weightsEach Tryz.prog ts ds).all (· ≤ reachBytes) = true → ts[j]? = some 24 → ds[j]? = some d → c * 48 ≤ 140737488351232 := by
  obtain ⟨cs, n, rfl, hsz, hf⟩ := open_struct Tryz.underlying24 hv h
  rw [cells_berth] at hsz
  obtain ⟨xs, m, _, hx, hl, hlen, hfs⟩ := DataW.trod_struct Tryz.underlying24 hf
  obtain ⟨cs⟩ := cs
  have hsz' : cs.length = 6 := by simpa using hsz
  match xs, hlen with
  | [y0, y1, y2, y3, y4, y5], _ =>
    have f0 : DataW.trod enc Tryz.prog W 0 (fun _ => true) true m 3 ((cs.drop 0).take (Tryz.prog.cellsOf 3)) = some y0 := hfs 0 _ rfl
    have f1 : DataW.trod enc Tryz.prog W 0 (fun _ => true) true m 3 ((cs.drop 1).take (Tryz.prog.cellsOf 3)) = some y1 := hfs 1 _ rfl
    have f2 : DataW.trod enc Tryz.prog W 0 (fun _ => true) true m 3 ((cs.drop 2).take (Tryz.prog.cellsOf 3)) = some y2 := hfs 2 _ rfl
    have f3 : DataW.trod enc Tryz.prog W 0 (fun _ => true) true m 3 ((cs.drop 3).take (Tryz.prog.cellsOf 3)) = some y3 := hfs 3 _ rfl
    have f4 : DataW.trod enc Tryz.prog W 0 (fun _ => true) true m 3 ((cs.drop 4).take (Tryz.prog.cellsOf 3)) = some y4 := hfs 4 _ rfl
    have f5 : DataW.trod enc Tryz.prog W 0 (fun _ => true) true m 22 ((cs.drop 5).take (Tryz.prog.cellsOf 22)) = some y5 := hfs 5 _ rfl
    rw [cells_int] at f0 f1 f2 f3 f4
    rw [cells_events] at f5
    obtain ⟨z0, e0, _, _⟩ := DataW.trod_int Tryz.underlying3 f0
    obtain ⟨z1, e1, _, _⟩ := DataW.trod_int Tryz.underlying3 f1
    obtain ⟨z2, e2, _, _⟩ := DataW.trod_int Tryz.underlying3 f2
    obtain ⟨z3, e3, _, _⟩ := DataW.trod_int Tryz.underlying3 f3
    obtain ⟨z4, e4, _, _⟩ := DataW.trod_int Tryz.underlying3 f4
    obtain ⟨a, len, cap, D, e5, row, len', _, nil, dat⟩ := open_many Tryz.underlying22 cells_event (by decide) ints_event6 (d := y5.1) (p := y5.2) f5
    refine ⟨⟨z0, z1, z2, z3, z4, evsOf D len⟩, a, cap, ?_, ⟨evFlat_of_row row, by rw [evsOf_len]; exact len', nil⟩, ?_⟩
    · match cs, hsz' with
      | [v0, v1, v2, v3, v4, v5], _ =>
        simp at e0 e1 e2 e3 e4 e5
        rw [e0, e1, e2, e3, e4, e5, evsOf_len]
    · intro ts ds j hall ht hd
      have hx1 : d = .agg [y0.1, y1.1, y2.1, y3.1, y4.1, y5.1] := by simpa using (Prod.mk.inj hx).1
      subst hx1
      rcases dat with ⟨_, rfl⟩ | ⟨es, sp, he', rfl⟩
      · simp
      · have := List.all_eq_true.1 hall _ (DataW.weights_mem_each ht hd ((es.length + sp.length) * Tryz.prog.bytesOf 28) (by rw [he']; simp [DataW.weights, DataW.weightsEach, Tryz.underlying24, Tryz.underlying22]))
        rw [bytes_event] at this
        exact of_decide_eq_true this
end
end Go.Proofs.YtmhdpbmjhijhkaaGreat
