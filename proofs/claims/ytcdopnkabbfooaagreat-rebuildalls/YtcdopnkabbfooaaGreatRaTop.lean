/- Texts put together: RdK, RdL, RdM1, RdM2, RdM3, RdM4, RdM5, RdM6, RdM7, RdN. -/
import Derived.Test.YtcdopnkabbfooaaGreatRaDeed
import Derived.Test.YtcdopnkabbfooaaGreatRaBth
namespace Go.Proofs.YtcdopnkabbfooaaGreat
open Go.RowKit

theorem ret_apply {W : World} {R : Nat} {r e f t o : Int} {a : Option Addr} {n c : Nat} {er : Int} {tmps : Array Value} (d : bBlock W R r e f t o a n c) (t4 : tmps[4]? = some (.pointer (some ⟨R, 0, none⟩))) (t5 : tmps[5]? = some (.int .i64 er)) :
    (results Tryz.f11 tmps).run Tryz.prog W = .ok (.tuple #[bVal r e f t o a n c, .int .i64 er]) W := by
  simp [results, Tryz.results11, t4, t5, asAddr, load_berth d]
/-- what Apply answers. -/
def ApplyR (w w' : World) (B : Bt) (r : Rec) (x : Ending) : Prop := ∃ a c, x = .returned (.tuple #[bVal (applyOf B r).1.r (applyOf B r).1.e (applyOf B r).1.f (applyOf B r).1.t (applyOf B r).1.o a (applyOf B r).1.es.length c, .int .i64 (applyOf B r).2]) ∧ BIn w' (applyOf B r).1 a c ∧ Below w.heap.size w w'
theorem ApplyR.none {w w' : World} {B : Bt} {r : Rec} {er : Int} (h : applyOf B r = (Bt.zero, er)) (b : Below w.heap.size w w') : ApplyR w w' B r (.returned (.tuple #[bVal 0 0 0 0 0 none 0 0, .int .i64 er])) := by
  unfold ApplyR
  rw [h]
  exact ⟨Option.none, 0, rfl, ⟨RowK.nil _ _ _, Nat.le_refl _, fun _ => rfl⟩, b⟩
theorem ApplyR.some {w w' : World} {B D : Bt} {r : Rec} {a : Option Addr} {c : Nat} (h : applyOf B r = (D, 0)) (i : BIn w' D a c) (b : Below w.heap.size w w') : ApplyR w w' B r (.returned (.tuple #[bVal D.r D.e D.f D.t D.o a D.es.length c, .int .i64 0])) := by
  unfold ApplyR
  rw [h]
  exact ⟨a, c, rfl, i, b⟩
/-- a berth and its own events, the record, the answer's box, all in their boxes. -/
structure Ap (w wx : World) (base : Nat) (B : Bt) (a : Option Addr) (c : Nat) (r : Rec) : Prop where
  m : Mr w wx B a c r
  own : wx.ownsRow base 28 6 (.slice a B.es.length c) B.es.length ((evFlat B.es).map (Value.int .i64))
  up : w.heap.size + 2 < base
  le : base ≤ wx.heap.size
theorem Ap.next {w wx wy : World} {base : Nat} {B : Bt} {a : Option Addr} {c : Nat} {r : Rec} (h : Ap w wx base B a c r) (b : Below wx.heap.size wx wy) : Ap w wy base B a c r :=
  ⟨h.m.next b, below_still h.own b, h.up, Nat.le_trans h.le b.size⟩
theorem Ap.grown {w wx wy : World} {base : Nat} {B : Bt} {a : Option Addr} {c : Nat} {r : Rec} (h : Ap w wx base B a c r) (g : wx.grownBy wy (Value.slice a B.es.length c).ownBlock) : bBlock wy (w.heap.size + 2) 0 0 0 0 0 none 0 0 ∧ Below w.heap.size w wy :=
  ⟨(g.block _ h.m.z.lt (fun e => by have := (h.own.lt _ e.symm).1; have := h.up; omega)).trans h.m.z, h.m.bel.grown g h.m.bel.size (fun k hk => by have := (h.own.lt k hk).1; have := h.up; omega)⟩
/-- the events put into a row of the call's own. -/
theorem Ap.made {w wx W : World} {B : Bt} {a v : Option Addr} {c vc : Nat} {r : Rec} (h : Mr w wx B a c r) (own : W.ownsRow wx.heap.size 28 6 (.slice v B.es.length vc) B.es.length ((evFlat B.es).map (Value.int .i64))) (b : Below wx.heap.size wx W) : ∃ W3, W3 = W.setCell ⟨w.heap.size, 5, none⟩ (.slice v B.es.length vc) ∧ Ap w W3 wx.heap.size B v vc r := by
  have t := Turned.set w.heap.size 5 W (.slice v B.es.length vc)
  have h2 := h.next b
  have hz := h.z.lt
  refine ⟨_, rfl, ⟨?_, (t.block _ (by omega)).trans h2.rc, h2.z.turned t (by omega), t.under h2.bel (Nat.le_refl _)⟩, t.owns own (fun g hg => by have := (own.lt g hg).1; omega), hz, by rw [t.size]; exact b.size⟩
  have := h2.b
  unfold bBlock at this ⊢
  rw [heap_setB this]
  simp
set_option maxRecDepth 20000 in
set_option maxHeartbeats 4000000 in
theorem apply_any (B : Bt) (a : Option Addr) (c : Nat) (r : Rec) (w : World) (hb : BIn w B a c) (hw : ∀ u ∈ evFlat B.es, (Lit.int .i64 u).wf = true) (hv : ∀ u ∈ evFlat [r.v], (Lit.int .i64 u).wf = true) :
    Calls Tryz.prog 11 #[bVal B.r B.e B.f B.t B.o a B.es.length c, recIn r] w fun x w' => ApplyR w w' B r x := by
  have HP : ∀ w, Calls Tryz.prog 29 #[recIn r] w fun x w' => x = .returned (.int .i64 r.fault) ∧ Below w.heap.size w w' := fun w => record_any _ _ _ _ _ _ _ _ _ _ w
  by_cases ok : B.Ok
  case neg =>
    have HA := veil (apply_state (r := r) ok)
    go_enter Tryz.func11, Tryz.ntmps11
    go_upto_region 1 with fail
    obtain ⟨W1, hW1, M1⟩ := Mr.made w B a c r
    rw [← hW1]
    clear hW1
    have HC := bcheck_no B a c W1 (hb.next M1.bel) ok
    obtain ⟨x0, x1, x2, x3, x4, x5⟩ := M1.b.cells
    have HM := veil M1
    clear M1 ok hb hw hv HP
    go_wp2_with (go_at_call 28; refine HC.mono ?_; rintro x W2 ⟨rfl, b2⟩; clear HC x0 x1 x2 x3 x4 x5; have M2 := (unveil HM).next b2; obtain ⟨z0, z1, z2, z3, z4, z5⟩ := M2.z.cells; have zf := M2.z.free; have HM2 := veil M2; clear M2 b2 HM)
    obtain ⟨W4, hW4, d4, b4, _⟩ := b_stored (unveil HM2).z (unveil HM2).bel (show w.heap.size ≤ w.heap.size + 2 by omega) 0 0 0 0 0 none 0 0
    rw [← hW4]
    exact bodyPost_ret (ret_apply d4 rfl rfl) rfl (ApplyR.none (unveil HA) b4)
  case pos =>
  by_cases hf : r.fault = 0
  case neg =>
    have HA := veil (apply_fault ok hf)
    have e1 : (r.fault != 0) = true := by simp [hf]
    generalize r.fault = fl at *
    go_enter Tryz.func11, Tryz.ntmps11
    go_upto_region 1 with fail
    obtain ⟨W1, hW1, M1⟩ := Mr.made w B a c r
    rw [← hW1]
    clear hW1
    have HC := bcheck_yes B a c W1 (hb.next M1.bel) ok
    obtain ⟨x0, x1, x2, x3, x4, x5⟩ := M1.b.cells
    have HM := veil M1
    clear M1 ok hb hw hv hf
    go_wp2_with (first | (go_at_call 28; refine HC.mono ?_; rintro x W2 ⟨rfl, b2⟩; clear HC x0 x1 x2 x3 x4 x5; have M2 := (unveil HM).next b2; obtain ⟨r0, r1, r2, r3, r4, r5, r6, r7, r8, r9⟩ := M2.rc.cells; have HM2 := veil M2; clear M2 b2 HM) | (go_at_call 29; refine (HP _).mono ?_; rintro x W3 ⟨rfl, b3⟩; clear HP r0 r1 r2 r3 r4 r5 r6 r7 r8 r9; have M3 := (unveil HM2).next b3; obtain ⟨z0, z1, z2, z3, z4, z5⟩ := M3.z.cells; have zf := M3.z.free; have HM3 := veil M3; clear M3 b3 HM2))
    obtain ⟨W4, hW4, d4, b4, _⟩ := b_stored (unveil HM3).z (unveil HM3).bel (show w.heap.size ≤ w.heap.size + 2 by omega) 0 0 0 0 0 none 0 0
    rw [← hW4]
    exact bodyPost_ret (ret_apply d4 rfl rfl) rfl (ApplyR.none (unveil HA) b4)
  case pos =>
  have hk := Rec.kinds hf
  rw [hf] at HP
  obtain ⟨o, ho⟩ : ∃ o, deedOf B r = o := ⟨_, rfl⟩
  have HO := veil ho
  have HF := veil hf
  have HK := veil hk
  have HOK := veil ok
  have HWF := veil hw
  have HVF := veil hv
  have HS : Hid (B.es.length * 48 ≤ 140737488351232) := veil (by have := ok.len; omega)
  have HNL := veil hb.nil
  go_enter Tryz.func11, Tryz.ntmps11
  go_upto_region 1 with fail
  obtain ⟨W1, hW1, M1⟩ := Mr.made w B a c r
  rw [← hW1]
  clear hW1
  have HC := bcheck_yes B a c W1 (hb.next M1.bel) ok
  have HBI := veil (hb.next M1.bel)
  obtain ⟨x0, x1, x2, x3, x4, x5⟩ := M1.b.cells
  have HM := veil M1
  clear M1 ok hb hw hv hf hk ho
  go_upto_region 7 with (first | (go_at_call 28; refine HC.mono ?_; rintro x W2 ⟨rfl, b2⟩; clear HC x0 x1 x2 x3 x4 x5; have M2 := (unveil HM).next b2; obtain ⟨r0, r1, r2, r3, r4, r5, r6, r7, r8, r9⟩ := M2.rc.cells; have HM2 := veil M2; have HB2 := veil ((unveil HBI).next b2); clear M2 b2 HM HBI) | (go_at_call 29; refine (HP _).mono ?_; rintro x W3 ⟨rfl, b3⟩; clear HP r0 r1 r2 r3 r4 r5 r6 r7 r8 r9; have M3 := (unveil HM2).next b3; obtain ⟨x0, x1, x2, x3, x4, x5⟩ := M3.b.cells; have HM3 := veil M3; have HB3 := veil ((unveil HB2).next b3); clear M3 b3 HM2 HB2))
  go_upto_region 8 with (go_at_call 30; refine (clone_ev a c B.es _ (unveil HB3).row (unveil HNL) (unveil HS)).mono ?_; rintro x W4 ⟨v4, rfl, own4, b4⟩; obtain ⟨a4, c4, rfl⟩ := own_form own4; have M4 := (unveil HM3).next b4; clear x0 x1 x2 x3 x4 x5; have x5 := M4.b.cells.2.2.2.2.2; have xf := M4.b.free; have HA4 := veil (Ap.made (unveil HM3) own4 b4); clear M4 own4 b4)
  obtain ⟨W5, hW5, A5⟩ := unveil HA4
  rw [← hW5]
  clear hW5 x5 xf HA4 HM3 HB3
  have r0 : W5.cell? ⟨w.heap.size + 1, 0, none⟩ = some (.int .i64 r.k) := A5.m.rc.cells.1
  have hl5 : w.heap.size + 1 < W5.heap.size := by have := A5.m.z.lt; omega
  have hn5 : w.heap.size + 1 ≠ W5.heap.size := by omega
  have HA5 := veil A5
  clear A5
  go_cut [8] (fun p wx => Doer wx p B a4 c4 r o ∧ Below W5.heap.size W5 wx)
  case first =>
    go_region_with (go_at_call 31; refine (deeds_any _).mono ?_; rintro e W7 ⟨v1, v2, v3, v5, v6, v7, rfl, t7, b7⟩; have B7 : Below W5.heap.size W5 W7 := (by first | with_reducible exact Below.next (below_drew _) b7 | exact Below.next (below_drew _) b7); obtain ⟨v, hlk', hdo⟩ : ∃ v, (Instr.lookup 64 (.map (some W5.heap.size)) (.int .i64 r.k) false).run Tryz.prog W7 = .ok v W7 ∧ Doer W7 v B a4 c4 r o := (by have hq := Table.doer t7 ((unveil HA5).next B7).own ((unveil HA5).next B7).le (unveil HOK) (unveil HWF) (unveil HVF) (unveil HK); rw [unveil HO] at hq; exact hq); have hlk := hlk'; clear hlk'; have v7 : W7.cell? ⟨w.heap.size + 1, 0, none⟩ = some (.int .i64 r.k) := (B7.cell (p := ⟨w.heap.size + 1, 0, none⟩) hl5).trans r0; have HB7 := veil B7; have HDO := veil hdo; clear t7 b7 B7 hdo)
    all_goals (try go_wp2_with fail)
    all_goals go_meet
    all_goals exact ⟨unveil HDO, unveil HB7⟩
  case rest =>
    obtain ⟨⟨g, cap, rfl, heg, HN⟩, b8⟩ := hcut
    have A8 := (unveil HA5).next b8
    have HN8 := veil (HN _ (Below.refl _ _))
    obtain ⟨x0, x1, x2, x3, x4, x5⟩ := A8.m.b.cells
    clear r0
    obtain ⟨r0, r1, r2, r3, r4, r5, r6, r7, r8, r9⟩ := A8.m.rc.cells
    have HA8 := veil A8
    clear A8 b8 HN hl5 hn5 HA5
    go_step
    go_step
    cases o with
    | none =>
      have HAP := veil (apply_none (unveil HOK) (unveil HF) (unveil HO))
      go_upto_region 10 with (go_at_fn g; refine (unveil HN8).mono ?_; rintro x W9 ⟨rfl, g9⟩; have HG9 := veil ((unveil HA8).grown g9); clear g9 x0 x1 x2 x3 x4 x5 r0 r1 r2 r3 r4 r5 r6 r7 r8 r9)
      obtain ⟨W10, hW10, b10⟩ : ∃ W10, W10 = W9.alloc (.cells (bCells 0 0 0 0 0 none 0 0) 24) ∧ Below W9.heap.size W9 W10 := ⟨_, rfl, below1 _ _⟩
      rw [← hW10]
      have Z10 := veil ((unveil HG9).1.next b10)
      have L10 := veil (Below.next (unveil HG9).2 b10)
      obtain ⟨z0, z1, z2, z3, z4, z5⟩ := (unveil Z10).cells
      have zf := (unveil Z10).free
      clear hW10 b10 HG9 HA8 HN8 heg
      go_wp2
      obtain ⟨W4, hW4, d4, b4, _⟩ := b_stored (unveil Z10) (unveil L10) (show w.heap.size ≤ w.heap.size + 2 by omega) 0 0 0 0 0 none 0 0
      rw [← hW4]
      exact bodyPost_ret (ret_apply d4 rfl rfl) rfl (ApplyR.none (unveil HAP) b4)
    | some D =>
      go_upto_region 10 with (go_at_fn g; refine (unveil HN8).mono ?_; rintro x W9 ⟨⟨a9, c9, rfl, i9⟩, g9⟩; have HG9 := veil ((unveil HA8).grown g9); have HI9 := veil i9; clear g9 i9 x0 x1 x2 x3 x4 x5 r0 r1 r2 r3 r4 r5 r6 r7 r8 r9)
      obtain ⟨W10, hW10, k10, b10⟩ : ∃ W10, W10 = W9.alloc (.cells (bCells D.r D.e D.f D.t D.o a9 D.es.length c9) 24) ∧ bBlock W10 W9.heap.size D.r D.e D.f D.t D.o a9 D.es.length c9 ∧ Below W9.heap.size W9 W10 := ⟨_, rfl, bBlock.new _ _ _ _ _ _ _ _ _, below1 _ _⟩
      rw [← hW10]
      have Z10 := veil ((unveil HG9).1.next b10)
      have L10 := veil (Below.next (unveil HG9).2 b10)
      have I10 := veil ((unveil HI9).next b10)
      have K10 := veil k10
      obtain ⟨k0, k1, k2, k3, k4, k5⟩ := k10.cells
      clear hW10 b10 HG9 HA8 HN8 heg HI9 k10
      by_cases hD : D.Ok
      case neg =>
        have HAP := veil (apply_bad (unveil HOK) (unveil HF) (unveil HO) hD)
        have HC := bcheck_no D a9 c9 W10 (unveil I10).inn hD
        clear hD
        go_wp2_with (go_at_call 28; refine HC.mono ?_; rintro x W11 ⟨rfl, b11⟩; clear HC k0 k1 k2 k3 k4 k5; have Z11 := veil ((unveil Z10).next b11); have L11 := veil (Below.next (unveil L10) b11); obtain ⟨z0, z1, z2, z3, z4, z5⟩ := (unveil Z11).cells; have zf := (unveil Z11).free; clear b11)
        obtain ⟨W4, hW4, d4, b4, _⟩ := b_stored (unveil Z11) (unveil L11) (show w.heap.size ≤ w.heap.size + 2 by omega) 0 0 0 0 0 none 0 0
        rw [← hW4]
        exact bodyPost_ret (ret_apply d4 rfl rfl) rfl (ApplyR.none (unveil HAP) b4)
      case pos =>
        have HAP := veil (apply_good (unveil HOK) (unveil HF) (unveil HO) hD)
        have HC := bcheck_yes D a9 c9 W10 (unveil I10).inn hD
        clear hD
        go_wp2_with (go_at_call 28; refine HC.mono ?_; rintro x W11 ⟨rfl, b11⟩; clear HC k0 k1 k2 k3 k4 k5; have Z11 := veil ((unveil Z10).next b11); have L11 := veil (Below.next (unveil L10) b11); have I11 := veil ((unveil I10).next b11); obtain ⟨k0, k1, k2, k3, k4, k5⟩ := ((unveil K10).next b11).cells; obtain ⟨z0, z1, z2, z3, z4, z5⟩ := (unveil Z11).cells; have zf := (unveil Z11).free; clear b11)
        obtain ⟨W4, hW4, d4, b4, t4⟩ := b_stored (unveil Z11) (unveil L11) (show w.heap.size ≤ w.heap.size + 2 by omega) D.r D.e D.f D.t D.o a9 D.es.length c9
        rw [← hW4]
        exact bodyPost_ret (ret_apply d4 rfl rfl) rfl (ApplyR.some (unveil HAP) ((unveil I11).turned t4 (unveil Z11) (by decide)).inn b4)
end Go.Proofs.YtcdopnkabbfooaaGreat

namespace Go.Proofs.YtcdopnkabbfooaaGreat
open Go.RowKit

theorem ret_applied {W : World} {R : Nat} {r e f t o : Int} {a : Option Addr} {n c : Nat} {er : Int} {tmps : Array Value} (d : bBlock W R r e f t o a n c) (t4 : tmps[4]? = some (.pointer (some ⟨R, 0, none⟩))) (t5 : tmps[5]? = some (.int .i64 er)) :
    (results Tryz.f12 tmps).run Tryz.prog W = .ok (.tuple #[bVal r e f t o a n c, .int .i64 er]) W := by
  simp [results, Tryz.results12, t4, t5, asAddr, load_berth d]
/-- the boxes: the arguments, the answer, and the copy with its own events. -/
structure Rf (w wx : World) (base X : Nat) (B : Bt) (a : Option Addr) (c : Nat) (r : Rec) (D : Bt) (a2 : Option Addr) (c2 : Nat) : Prop where
  m : Mr w wx B a c r
  x : bBlock wx X D.r D.e D.f D.t D.o a2 D.es.length c2
  own : wx.ownsRow base 28 6 (.slice a2 D.es.length c2) D.es.length ((evFlat D.es).map (Value.int .i64))
  up : w.heap.size + 2 < base
  hX : w.heap.size + 2 < X
  le : base ≤ wx.heap.size
/-- the same ahead of the last look: the events are a row that lies elsewhere. -/
structure Rt (w wx : World) (X : Nat) (B : Bt) (a : Option Addr) (c : Nat) (r : Rec) (D : Bt) (a2 : Option Addr) (c2 : Nat) : Prop where
  m : Mr w wx B a c r
  x : bBlock wx X D.r D.e D.f D.t D.o a2 D.es.length c2
  inn : BIn wx D a2 c2
  ap : ∀ y, a2 = some y → w.heap.size + 2 < y.block
  hX : w.heap.size + 2 < X
section
variable {w wx wy : World} {base X : Nat} {B D : Bt} {a a2 : Option Addr} {c c2 : Nat} {r : Rec}
theorem Rf.made {wz : World} (h : Mr w wx B a c r) (own : wz.ownsRow wx.heap.size 28 6 (.slice a2 B.es.length c2) B.es.length ((evFlat B.es).map (Value.int .i64))) (b : Below wx.heap.size wx wz) : ∃ W, W = wz.alloc (.cells (bCells B.r B.e B.f B.t B.o a2 B.es.length c2) 24) ∧ Rf w W wx.heap.size wz.heap.size B a c r B a2 c2 :=
  ⟨_, rfl, (h.next b).next (below1 _ _), bBlock.new _ _ _ _ _ _ _ _ _, below_still own (below1 _ _), h.z.lt, by have := h.z.lt; have := b.size; omega, by have := b.size; simp; omega⟩
theorem Rf.turn (h : Rf w wx base X B a c r D a2 c2) (t : Turned X wx wy) {D' : Bt} (he : D'.es = D.es) (x : bBlock wy X D'.r D'.e D'.f D'.t D'.o a2 D.es.length c2) : Rf w wy base X B a c r D' a2 c2 := by
  refine ⟨h.m.turned t h.hX, by rw [he]; exact x, by rw [he]; exact t.owns h.own (own_off h.own h.x (by decide)), h.up, h.hX, by rw [t.size]; exact h.le⟩
theorem Rf.last (h : Rf w wx base X B a c r D a2 c2) (hw : ∀ u ∈ evFlat D.es, (Lit.int .i64 u).wf = true) : Rt w wx X B a c r D a2 c2 := by
  obtain ⟨a', c', e1, r1, h1, _, h3, h4⟩ := RowK.ofMany h.own hw
  cases e1
  exact ⟨h.m, h.x, ⟨r1, h1, h3⟩, fun y hy => by have := h4 y hy; have := h.up; omega, h.hX⟩
/-- one event more. -/
theorem Rf.added {W : World} {x : Ev} {v : Option Addr} {vc : Nat} {ob : Obj} (h : Rf w wx base X B a c r D a2 c2)
    (own : W.ownsRow base 28 6 (.slice v (D.es.length + 1) vc) (D.es.length + 1) ((evFlat D.es).map (Value.int .i64) ++ [x.k, x.p, x.i, x.b, x.he, x.hn].map (Value.int .i64))) (g : (wx.alloc ob).grownBy W (Value.slice a2 D.es.length c2).ownBlock) :
    bBlock W X D.r D.e D.f D.t D.o a2 D.es.length c2 ∧ Rf w (W.setCell ⟨X, 5, none⟩ (.slice v (D.es.length + 1) vc)) base X B a c r (D.more [x]) v vc := by
  have hlo : ∀ q, (Value.slice a2 D.es.length c2).ownBlock = some q → w.heap.size + 2 < q := fun q hq => by have := (h.own.lt q hq).1; have := h.up; omega
  have hX' : ∀ q, (Value.slice a2 D.es.length c2).ownBlock = some q → q ≠ X := own_off h.own h.x (by decide)
  have m1 := h.m.next (below1 wx ob)
  have x1 := h.x.next (below1 wx ob)
  have m2 : Mr w W B a c r := ⟨(g.block _ m1.b.lt (fun e => by have := hlo _ e.symm; omega)).trans m1.b, (g.block _ (block_lt m1.rc) (fun e => by have := hlo _ e.symm; omega)).trans m1.rc, (g.block _ m1.z.lt (fun e => by have := hlo _ e.symm; omega)).trans m1.z, m1.bel.grown g m1.bel.size (fun k hk => by have := hlo k hk; omega)⟩
  have x2 : bBlock W X D.r D.e D.f D.t D.o a2 D.es.length c2 := (g.block _ x1.lt (fun e => hX' _ e.symm rfl)).trans x1
  have t := Turned.set X 5 W (.slice v (D.es.length + 1) vc)
  have hl : (D.more [x]).es.length = D.es.length + 1 := by simp [Bt.more]
  have e1 : (evFlat (D.more [x]).es).map (Value.int .i64) = (evFlat D.es).map (Value.int .i64) ++ [x.k, x.p, x.i, x.b, x.he, x.hn].map (Value.int .i64) := by simp only [Bt.more]; rw [evFlat_append, List.map_append]; rfl
  refine ⟨x2, m2.turned t h.hX, ?_, ?_, h.up, h.hX, by rw [t.size]; have h1 := g.size; have h2 := h.le; simp at h1; omega⟩
  · rw [hl]
    have := x2
    unfold bBlock at this ⊢
    rw [heap_setB this]
    simp [Bt.more]
  · rw [hl, e1]
    exact t.owns own (own_off own x2 (by decide))
theorem Rt.next (h : Rt w wx X B a c r D a2 c2) (b : Below wx.heap.size wx wy) : Rt w wy X B a c r D a2 c2 := ⟨h.m.next b, h.x.next b, h.inn.next b, h.ap, h.hX⟩
/-- no berth is answered. -/
theorem Rt.no (h : Rt w wx X B a c r D a2 c2) {er : Int} (hA : applyOf B r = (Bt.zero, er)) : ∃ W, W = (((((wx.setCell ⟨w.heap.size + 2, 0, none⟩ (.int .i64 0)).setCell ⟨w.heap.size + 2, 1, none⟩ (.int .i64 0)).setCell ⟨w.heap.size + 2, 2, none⟩ (.int .i64 0)).setCell ⟨w.heap.size + 2, 3, none⟩ (.int .i64 0)).setCell ⟨w.heap.size + 2, 4, none⟩ (.int .i64 0)).setCell ⟨w.heap.size + 2, 5, none⟩ (.slice none 0 0) ∧ bBlock W (w.heap.size + 2) 0 0 0 0 0 none 0 0 ∧ ApplyR w W B r (.returned (.tuple #[bVal 0 0 0 0 0 none 0 0, .int .i64 er])) := by
  obtain ⟨W4, hW4, d4, b4, _⟩ := b_stored h.m.z h.m.bel (show w.heap.size ≤ w.heap.size + 2 by omega) 0 0 0 0 0 none 0 0
  exact ⟨W4, hW4, d4, ApplyR.none hA b4⟩
/-- the copy is answered. -/
theorem Rt.yes (h : Rt w wx X B a c r D a2 c2) (hA : applyOf B r = (D, 0)) : ∃ W, W = (((((wx.setCell ⟨w.heap.size + 2, 0, none⟩ (.int .i64 D.r)).setCell ⟨w.heap.size + 2, 1, none⟩ (.int .i64 D.e)).setCell ⟨w.heap.size + 2, 2, none⟩ (.int .i64 D.f)).setCell ⟨w.heap.size + 2, 3, none⟩ (.int .i64 D.t)).setCell ⟨w.heap.size + 2, 4, none⟩ (.int .i64 D.o)).setCell ⟨w.heap.size + 2, 5, none⟩ (.slice a2 D.es.length c2) ∧ bBlock W (w.heap.size + 2) D.r D.e D.f D.t D.o a2 D.es.length c2 ∧ ApplyR w W B r (.returned (.tuple #[bVal D.r D.e D.f D.t D.o a2 D.es.length c2, .int .i64 0])) := by
  obtain ⟨W4, hW4, d4, b4, t4⟩ := b_stored h.m.z h.m.bel (show w.heap.size ≤ w.heap.size + 2 by omega) D.r D.e D.f D.t D.o a2 D.es.length c2
  exact ⟨W4, hW4, d4, ApplyR.some hA (h.inn.turned t4 (fun y hy _ => by have := h.ap y hy; omega)) b4⟩
end
end Go.Proofs.YtcdopnkabbfooaaGreat

namespace Go.Proofs.YtcdopnkabbfooaaGreat
open Go.RowKit

set_option maxRecDepth 20000 in
set_option maxHeartbeats 8000000 in
theorem applied_1 (B : Bt) (a : Option Addr) (c : Nat) (r : Rec) (w : World) (hb : BIn w B a c) (hw : ∀ u ∈ evFlat B.es, (Lit.int .i64 u).wf = true) (hv : ∀ u ∈ evFlat [r.v], (Lit.int .i64 u).wf = true) (ok : B.Ok) (hf : r.fault = 0) (hk : r.k = 1) :
    Calls Tryz.prog 12 #[bVal B.r B.e B.f B.t B.o a B.es.length c, recIn r] w fun x w' => ApplyR w w' B r x := by
  have HP : ∀ w, Calls Tryz.prog 33 #[recIn r] w fun x w' => x = .returned (.int .i64 0) ∧ Below w.heap.size w w' := fun w => by have := recordFault_any r.k r.q r.e r.p r.v.k r.v.p r.v.i r.v.b r.v.he r.v.hn w; rw [show recordFault r.k r.q r.e r.p r.v.k r.v.p r.v.i r.v.b r.v.he r.v.hn = 0 from hf] at this; exact this
  have HOK := veil ok
  have HF := veil hf
  have HWF := veil hw
  have HVF := veil hv
  have HS : Hid (B.es.length * 48 ≤ 140737488351232) := veil (by have := ok.len; omega)
  have HL := veil ok.len
  have q1 : (r.k == 1) = true := by simp [hk]
  have q2 : (r.k == 2) = false := by simp [hk]
  have q3 : (r.k == 3) = false := by simp [hk]
  have q4 : (r.k == 4) = false := by simp [hk]
  have q5 : (r.k == 5) = false := by simp [hk]
  have q6 : (r.k == 6) = false := by simp [hk]
  have hd : (r.p = 0 ∧ B.r = 0 ∧ B.e < r.e → deedOf B r = some (⟨1, r.e, 0, 0, 0, []⟩ : Bt)) ∧ (¬ (r.p = 0 ∧ B.r = 0 ∧ B.e < r.e) → deedOf B r = none) := by
    unfold deedOf
    rw [ if_pos hk]
    exact ⟨fun h => if_pos h, fun h => if_neg h⟩
  by_cases hall : r.p = 0 ∧ B.r = 0 ∧ B.e < r.e
  case neg =>
    have HAP := veil (apply_none ok hf (hd.2 hall))
    have hcs : ((r.p == 0) = true ∧ (B.r == 0) = true ∧ (decide (B.e < r.e)) = false) ∨ ((r.p == 0) = true ∧ (B.r == 0) = false ∧ (decide (B.e < r.e)) = true) ∨ ((r.p == 0) = true ∧ (B.r == 0) = false ∧ (decide (B.e < r.e)) = false) ∨ ((r.p == 0) = false ∧ (B.r == 0) = true ∧ (decide (B.e < r.e)) = true) ∨ ((r.p == 0) = false ∧ (B.r == 0) = true ∧ (decide (B.e < r.e)) = false) ∨ ((r.p == 0) = false ∧ (B.r == 0) = false ∧ (decide (B.e < r.e)) = true) ∨ ((r.p == 0) = false ∧ (B.r == 0) = false ∧ (decide (B.e < r.e)) = false) := by
      have hn : ¬ ((r.p == 0) = true ∧ (B.r == 0) = true ∧ (decide (B.e < r.e)) = true) := by
        intro h
        exact hall (by simpa using h)
      clear hall hd
      generalize (r.p == 0) = b0 at hn ⊢
      generalize (B.r == 0) = b1 at hn ⊢
      generalize (decide (B.e < r.e)) = b2 at hn ⊢
      revert hn
      cases b0 <;> cases b1 <;> cases b2 <;> simp
    clear hd hall
    rcases hcs with ⟨e1, e2, e3⟩ | ⟨e1, e2, e3⟩ | ⟨e1, e2, e3⟩ | ⟨e1, e2, e3⟩ | ⟨e1, e2, e3⟩ | ⟨e1, e2, e3⟩ | ⟨e1, e2, e3⟩
    all_goals
      clear hk hf
      go_enter Tryz.func12, Tryz.ntmps12
      go_upto_region 1 with fail
      obtain ⟨W1, hW1, M1⟩ := Mr.made w B a c r
      rw [← hW1]
      clear hW1
      have HC := faultB_yes B a c W1 (hb.next M1.bel) ok
      have HBI := veil (hb.next M1.bel)
      obtain ⟨x0, x1, x2, x3, x4, x5⟩ := M1.b.cells
      have HM := veil M1
      clear M1 ok hb hw hv
      go_upto_region 6 with (first | (go_at_call 32; refine HC.mono ?_; rintro x W2 ⟨rfl, b2⟩; clear HC x0 x1 x2 x3 x4 x5; have M2 := (unveil HM).next b2; obtain ⟨r0, r1, r2, r3, r4, r5, r6, r7, r8, r9⟩ := M2.rc.cells; have HM2 := veil M2; have HB2 := veil ((unveil HBI).next b2); clear M2 b2 HM HBI) | (go_at_call 33; refine (HP _).mono ?_; rintro x W3 ⟨rfl, b3⟩; clear HP r0 r1 r2 r3 r4 r5 r6 r7 r8 r9; have M3 := (unveil HM2).next b3; obtain ⟨x0, x1, x2, x3, x4, x5⟩ := M3.b.cells; have HM3 := veil M3; have HB3 := veil ((unveil HB2).next b3); clear M3 b3 HM2 HB2))
      go_upto_region 7 with (go_at_call 27; refine (bcopy_own B a c _ (unveil HB3) (unveil HS)).mono ?_; rintro x W4 ⟨a2, c2, rfl, own4, i4, u4, b4⟩; have HR4 := veil (Rf.made (unveil HM3) own4 b4); have HB4 := veil ((unveil HB3).next b4); clear own4 i4 u4 b4 x0 x1 x2 x3 x4 x5)
      obtain ⟨W5, hW5, R5⟩ := unveil HR4
      rw [← hW5]
      have HB5 : Hid (BIn W5 B a c) := veil (by rw [hW5]; exact (unveil HB4).next (below1 _ _))
      obtain ⟨x0, x1, x2, x3, x4, x5⟩ := R5.m.b.cells
      obtain ⟨r0, r1, r2, r3, r4, r5, r6, r7, r8, r9⟩ := R5.m.rc.cells
      obtain ⟨k0, k1, k2, k3, k4, k5⟩ := R5.x.cells
      have kf := R5.x.free
      have HR5 := veil R5
      clear hW5 R5 HR4 HB4 HM3 HB3
      go_upto_region 34 with fail
      obtain ⟨D, hDe⟩ : ∃ D : Bt, D = ⟨1, r.e, 0, 0, 0, []⟩ := ⟨_, rfl⟩
      obtain ⟨W8, hW8, d8, _, t8⟩ := b_stored (unveil HR5).x (Below.refl W4.heap.size W5) (Nat.le_refl _) 1 r.e 0 0 0 none 0 0
      rw [← hW8]
      obtain ⟨a8, ha8⟩ : ∃ a8 : Option Addr, a8 = none := ⟨_, rfl⟩
      obtain ⟨c8, hc8⟩ : ∃ c8 : Nat, c8 = 0 := ⟨_, rfl⟩
      have R8 : Rt w W8 W4.heap.size B a c r D a8 c8 := by
        rw [hDe, ha8, hc8]
        exact ⟨(unveil HR5).m.turned t8 (unveil HR5).hX, d8, ⟨RowK.nil _ _ _, Nat.le_refl _, fun _ => rfl⟩, (fun y hy => by cases hy), (unveil HR5).hX⟩
      have H8 := veil R8
      clear hW8 R8 HR5 HB5 d8 t8 ha8 hc8 x0 x1 x2 x3 x4 x5 r0 r1 r2 r3 r4 r5 r6 r7 r8 r9 k0 k1 k2 k3 k4 k5 kf
      obtain ⟨x0, x1, x2, x3, x4, x5⟩ := (unveil H8).m.b.cells
      obtain ⟨z0, z1, z2, z3, z4, z5⟩ := (unveil H8).m.z.cells
      have zf := (unveil H8).m.z.free
      go_wp2
      obtain ⟨W9, hW9, d9, A9⟩ := (unveil H8).no (unveil HAP)
      rw [← hW9]
      exact bodyPost_ret (ret_applied d9 rfl rfl) rfl A9
  case pos =>
  have HDO0 := veil (hd.1 hall)
  have e1 : (r.p == 0) = true := by simpa using hall.1
  have e2 : (B.r == 0) = true := by simpa using hall.2.1
  have e3 : (decide (B.e < r.e)) = true := by simpa using hall.2.2
  have f1 : (B.r == 2) = false := by have := hall; simp; omega
  clear hd hall
  clear hk hf
  go_enter Tryz.func12, Tryz.ntmps12
  go_upto_region 1 with fail
  obtain ⟨W1, hW1, M1⟩ := Mr.made w B a c r
  rw [← hW1]
  clear hW1
  have HC := faultB_yes B a c W1 (hb.next M1.bel) ok
  have HBI := veil (hb.next M1.bel)
  obtain ⟨x0, x1, x2, x3, x4, x5⟩ := M1.b.cells
  have HM := veil M1
  clear M1 ok hb hw hv
  go_upto_region 6 with (first | (go_at_call 32; refine HC.mono ?_; rintro x W2 ⟨rfl, b2⟩; clear HC x0 x1 x2 x3 x4 x5; have M2 := (unveil HM).next b2; obtain ⟨r0, r1, r2, r3, r4, r5, r6, r7, r8, r9⟩ := M2.rc.cells; have HM2 := veil M2; have HB2 := veil ((unveil HBI).next b2); clear M2 b2 HM HBI) | (go_at_call 33; refine (HP _).mono ?_; rintro x W3 ⟨rfl, b3⟩; clear HP r0 r1 r2 r3 r4 r5 r6 r7 r8 r9; have M3 := (unveil HM2).next b3; obtain ⟨x0, x1, x2, x3, x4, x5⟩ := M3.b.cells; have HM3 := veil M3; have HB3 := veil ((unveil HB2).next b3); clear M3 b3 HM2 HB2))
  go_upto_region 7 with (go_at_call 27; refine (bcopy_own B a c _ (unveil HB3) (unveil HS)).mono ?_; rintro x W4 ⟨a2, c2, rfl, own4, i4, u4, b4⟩; have HR4 := veil (Rf.made (unveil HM3) own4 b4); have HB4 := veil ((unveil HB3).next b4); clear own4 i4 u4 b4 x0 x1 x2 x3 x4 x5)
  obtain ⟨W5, hW5, R5⟩ := unveil HR4
  rw [← hW5]
  have HB5 : Hid (BIn W5 B a c) := veil (by rw [hW5]; exact (unveil HB4).next (below1 _ _))
  obtain ⟨x0, x1, x2, x3, x4, x5⟩ := R5.m.b.cells
  obtain ⟨r0, r1, r2, r3, r4, r5, r6, r7, r8, r9⟩ := R5.m.rc.cells
  obtain ⟨k0, k1, k2, k3, k4, k5⟩ := R5.x.cells
  have kf := R5.x.free
  have HR5 := veil R5
  clear hW5 R5 HR4 HB4 HM3 HB3
  go_upto_region 34 with fail
  obtain ⟨D, hDe⟩ : ∃ D : Bt, D = ⟨1, r.e, 0, 0, 0, []⟩ := ⟨_, rfl⟩
  obtain ⟨W8, hW8, d8, _, t8⟩ := b_stored (unveil HR5).x (Below.refl W4.heap.size W5) (Nat.le_refl _) 1 r.e 0 0 0 none 0 0
  rw [← hW8]
  obtain ⟨a8, ha8⟩ : ∃ a8 : Option Addr, a8 = none := ⟨_, rfl⟩
  obtain ⟨c8, hc8⟩ : ∃ c8 : Nat, c8 = 0 := ⟨_, rfl⟩
  have R8 : Rt w W8 W4.heap.size B a c r D a8 c8 := by
    rw [hDe, ha8, hc8]
    exact ⟨(unveil HR5).m.turned t8 (unveil HR5).hX, d8, ⟨RowK.nil _ _ _, Nat.le_refl _, fun _ => rfl⟩, (fun y hy => by cases hy), (unveil HR5).hX⟩
  have H8 := veil R8
  clear hW8 R8 HR5 HB5 d8 t8 ha8 hc8 x0 x1 x2 x3 x4 x5 r0 r1 r2 r3 r4 r5 r6 r7 r8 r9 k0 k1 k2 k3 k4 k5 kf
  have HDO : Hid (deedOf B r = some D) := veil (by rw [hDe]; exact unveil HDO0)
  clear hDe HDO0
  by_cases hD : D.Ok
  case neg =>
    have HAP := veil (apply_bad (unveil HOK) (unveil HF) (unveil HDO) hD)
    have HC := faultB_no D a8 c8 _ (unveil H8).inn hD
    clear hD
    obtain ⟨x0, x1, x2, x3, x4, x5⟩ := (unveil H8).m.b.cells
    obtain ⟨k0, k1, k2, k3, k4, k5⟩ := (unveil H8).x.cells
    go_wp2_with (go_at_call 32; refine HC.mono ?_; rintro x WE ⟨rfl, bE⟩; clear HC x0 x1 x2 x3 x4 x5 k0 k1 k2 k3 k4 k5; have HE := veil ((unveil H8).next bE); obtain ⟨k0, k1, k2, k3, k4, k5⟩ := (unveil HE).x.cells; obtain ⟨z0, z1, z2, z3, z4, z5⟩ := (unveil HE).m.z.cells; have zf := (unveil HE).m.z.free; clear bE)
    obtain ⟨W9, hW9, d9, A9⟩ := (unveil HE).no (unveil HAP)
    rw [← hW9]
    exact bodyPost_ret (ret_applied d9 rfl rfl) rfl A9
  case pos =>
    have HAP := veil (apply_good (unveil HOK) (unveil HF) (unveil HDO) hD)
    have HC := faultB_yes D a8 c8 _ (unveil H8).inn hD
    clear hD
    obtain ⟨x0, x1, x2, x3, x4, x5⟩ := (unveil H8).m.b.cells
    obtain ⟨k0, k1, k2, k3, k4, k5⟩ := (unveil H8).x.cells
    go_wp2_with (go_at_call 32; refine HC.mono ?_; rintro x WE ⟨rfl, bE⟩; clear HC x0 x1 x2 x3 x4 x5 k0 k1 k2 k3 k4 k5; have HE := veil ((unveil H8).next bE); obtain ⟨k0, k1, k2, k3, k4, k5⟩ := (unveil HE).x.cells; obtain ⟨z0, z1, z2, z3, z4, z5⟩ := (unveil HE).m.z.cells; have zf := (unveil HE).m.z.free; clear bE)
    obtain ⟨W9, hW9, d9, A9⟩ := (unveil HE).yes (unveil HAP)
    rw [← hW9]
    exact bodyPost_ret (ret_applied d9 rfl rfl) rfl A9
end Go.Proofs.YtcdopnkabbfooaaGreat

namespace Go.Proofs.YtcdopnkabbfooaaGreat
open Go.RowKit

set_option maxRecDepth 20000 in
set_option maxHeartbeats 8000000 in
theorem applied_2 (B : Bt) (a : Option Addr) (c : Nat) (r : Rec) (w : World) (hb : BIn w B a c) (hw : ∀ u ∈ evFlat B.es, (Lit.int .i64 u).wf = true) (hv : ∀ u ∈ evFlat [r.v], (Lit.int .i64 u).wf = true) (ok : B.Ok) (hf : r.fault = 0) (hk : r.k = 2) :
    Calls Tryz.prog 12 #[bVal B.r B.e B.f B.t B.o a B.es.length c, recIn r] w fun x w' => ApplyR w w' B r x := by
  have HP : ∀ w, Calls Tryz.prog 33 #[recIn r] w fun x w' => x = .returned (.int .i64 0) ∧ Below w.heap.size w w' := fun w => by have := recordFault_any r.k r.q r.e r.p r.v.k r.v.p r.v.i r.v.b r.v.he r.v.hn w; rw [show recordFault r.k r.q r.e r.p r.v.k r.v.p r.v.i r.v.b r.v.he r.v.hn = 0 from hf] at this; exact this
  have HOK := veil ok
  have HF := veil hf
  have HWF := veil hw
  have HVF := veil hv
  have HS : Hid (B.es.length * 48 ≤ 140737488351232) := veil (by have := ok.len; omega)
  have HL := veil ok.len
  have q1 : (r.k == 1) = false := by simp [hk]
  have q2 : (r.k == 2) = true := by simp [hk]
  have q3 : (r.k == 3) = false := by simp [hk]
  have q4 : (r.k == 4) = false := by simp [hk]
  have q5 : (r.k == 5) = false := by simp [hk]
  have q6 : (r.k == 6) = false := by simp [hk]
  have hd : (r.p = 0 ∧ B.e = r.e ∧ B.r = 1 → deedOf B r = some (B.more [r.v])) ∧ (¬ (r.p = 0 ∧ B.e = r.e ∧ B.r = 1) → deedOf B r = none) := by
    unfold deedOf
    rw [if_neg (by omega), if_pos hk]
    exact ⟨fun h => if_pos h, fun h => if_neg h⟩
  obtain ⟨i6, hi6, hz60, hz61, hz62⟩ := info_of Tryz.infoEvent
  by_cases hall : r.p = 0 ∧ B.e = r.e ∧ B.r = 1
  case neg =>
    have HAP := veil (apply_none ok hf (hd.2 hall))
    have hcs : ((r.p == 0) = false ∧ (B.e == r.e) = false) ∨ ((r.p == 0) = false ∧ (B.e == r.e) = true) ∨ ((r.p == 0) = true ∧ (B.e == r.e) = false) ∨ ((r.p == 0) = true ∧ (B.e == r.e) = true ∧ (B.r == 1) = false) := by
      by_cases h1 : r.p = 0 <;> by_cases h2 : B.e = r.e <;> by_cases h3 : B.r = 1 <;> simp [h1, h2, h3]
      exact hall ⟨h1, h2, h3⟩
    clear hd hall
    rcases hcs with ⟨e1, e2⟩ | ⟨e1, e2⟩ | ⟨e1, e2⟩ | ⟨e1, e2, e3⟩
    all_goals
      clear hk hf
      go_enter Tryz.func12, Tryz.ntmps12
      go_upto_region 1 with fail
      obtain ⟨W1, hW1, M1⟩ := Mr.made w B a c r
      rw [← hW1]
      clear hW1
      have HC := faultB_yes B a c W1 (hb.next M1.bel) ok
      have HBI := veil (hb.next M1.bel)
      obtain ⟨x0, x1, x2, x3, x4, x5⟩ := M1.b.cells
      have HM := veil M1
      clear M1 ok hb hw hv
      go_upto_region 6 with (first | (go_at_call 32; refine HC.mono ?_; rintro x W2 ⟨rfl, b2⟩; clear HC x0 x1 x2 x3 x4 x5; have M2 := (unveil HM).next b2; obtain ⟨r0, r1, r2, r3, r4, r5, r6, r7, r8, r9⟩ := M2.rc.cells; have HM2 := veil M2; have HB2 := veil ((unveil HBI).next b2); clear M2 b2 HM HBI) | (go_at_call 33; refine (HP _).mono ?_; rintro x W3 ⟨rfl, b3⟩; clear HP r0 r1 r2 r3 r4 r5 r6 r7 r8 r9; have M3 := (unveil HM2).next b3; obtain ⟨x0, x1, x2, x3, x4, x5⟩ := M3.b.cells; have HM3 := veil M3; have HB3 := veil ((unveil HB2).next b3); clear M3 b3 HM2 HB2))
      go_upto_region 7 with (go_at_call 27; refine (bcopy_own B a c _ (unveil HB3) (unveil HS)).mono ?_; rintro x W4 ⟨a2, c2, rfl, own4, i4, u4, b4⟩; have HR4 := veil (Rf.made (unveil HM3) own4 b4); have HB4 := veil ((unveil HB3).next b4); clear own4 i4 u4 b4 x0 x1 x2 x3 x4 x5)
      obtain ⟨W5, hW5, R5⟩ := unveil HR4
      rw [← hW5]
      have HB5 : Hid (BIn W5 B a c) := veil (by rw [hW5]; exact (unveil HB4).next (below1 _ _))
      obtain ⟨x0, x1, x2, x3, x4, x5⟩ := R5.m.b.cells
      obtain ⟨r0, r1, r2, r3, r4, r5, r6, r7, r8, r9⟩ := R5.m.rc.cells
      obtain ⟨k0, k1, k2, k3, k4, k5⟩ := R5.x.cells
      have kf := R5.x.free
      have HR5 := veil R5
      clear hW5 R5 HR4 HB4 HM3 HB3
      go_upto_region 17 with fail
      have hz5 := (unveil HR5).m.z.lt
      have g3 := (unveil HR5).own.alloc (.cells #[.int .i64 r.v.k, .int .i64 r.v.p, .int .i64 r.v.i, .int .i64 r.v.b, .int .i64 r.v.he, .int .i64 r.v.hn] 28)
      have g4 := six_news W5 r.v.k r.v.p r.v.i r.v.b r.v.he r.v.hn 28
      have G1 : Hid (B.es.length + 1 ≤ maxLen) := veil (by have := unveil HL; unfold maxLen; omega)
      have G2 : Hid ((B.es.length + 1) * 48 ≤ 140737488355328) := veil (by have := unveil HL; omega)
      have G3 := veil g3
      have G4 := veil g4
      have G5 : Hid (W3.heap.size ≤ W5.heap.size) := veil (unveil HR5).le
      clear g3 g4
      go_upto_region 34 with (at_builtin; refine wpList_append_own _ rfl (.tmp 86) (.tmp 89) 22 rfl W3.heap.size 28 i6 _ 6 48 Tryz.underlying22 hi6 hz60 hz61 hz62 rfl (by decide) (.slice a2 B.es.length c2) B.es.length ((evFlat B.es).map (Value.int .i64)) rfl (unveil G3) ⟨W5.heap.size, 0, none⟩ 1 1 ([r.v.k, r.v.p, r.v.i, r.v.b, r.v.he, r.v.hn].map (Value.int .i64)) rfl rfl (unveil G4) (ints_oneCell .i64 _) (unveil G1) (unveil G2) (by have := unveil G5; simp; omega) ?_; intro v7 W7 own7 grow7 _; obtain ⟨a8, c8, rfl⟩ := own_form own7; have HR7 := veil ((unveil HR5).added own7 grow7); clear x0 x1 x2 x3 x4 x5 r0 r1 r2 r3 r4 r5 r6 r7 r8 r9 k0 k1 k2 k3 k4 k5 kf own7 grow7; have k5 := (unveil HR7).1.cells.2.2.2.2.2; have kf := (unveil HR7).1.free)
      obtain ⟨D, hDe⟩ : ∃ D, D = B.more [r.v] := ⟨_, rfl⟩
      obtain ⟨W8, hW8, R8⟩ : ∃ W8, W8 = W7.setCell ⟨W4.heap.size, 5, none⟩ (.slice a8 (B.es.length + 1) c8) ∧ Rt w W8 W4.heap.size B a c r D a8 c8 := ⟨_, rfl, by rw [hDe]; exact (unveil HR7).2.last (wf_more (unveil HWF) (unveil HVF))⟩
      rw [← hW8]
      have H8 := veil R8
      clear hW8 R8 HR7 k5 kf G1 G2 G3 G4 G5 HR5 HB5 hz5
      obtain ⟨x0, x1, x2, x3, x4, x5⟩ := (unveil H8).m.b.cells
      obtain ⟨z0, z1, z2, z3, z4, z5⟩ := (unveil H8).m.z.cells
      have zf := (unveil H8).m.z.free
      go_wp2
      obtain ⟨W9, hW9, d9, A9⟩ := (unveil H8).no (unveil HAP)
      rw [← hW9]
      exact bodyPost_ret (ret_applied d9 rfl rfl) rfl A9
  case pos =>
  have HDO' := hd.1 hall
  have e1 : (r.p == 0) = true := by simp [hall.1]
  have e2 : (B.e == r.e) = true := by simp [hall.2.1]
  have e3 : (B.r == 1) = true := by simp [hall.2.2]
  have e4 : (B.r == 2) = false := by simp [hall.2.2]
  have HDO0 := veil HDO'
  clear HDO' hd hall
  clear hk hf
  go_enter Tryz.func12, Tryz.ntmps12
  go_upto_region 1 with fail
  obtain ⟨W1, hW1, M1⟩ := Mr.made w B a c r
  rw [← hW1]
  clear hW1
  have HC := faultB_yes B a c W1 (hb.next M1.bel) ok
  have HBI := veil (hb.next M1.bel)
  obtain ⟨x0, x1, x2, x3, x4, x5⟩ := M1.b.cells
  have HM := veil M1
  clear M1 ok hb hw hv
  go_upto_region 6 with (first | (go_at_call 32; refine HC.mono ?_; rintro x W2 ⟨rfl, b2⟩; clear HC x0 x1 x2 x3 x4 x5; have M2 := (unveil HM).next b2; obtain ⟨r0, r1, r2, r3, r4, r5, r6, r7, r8, r9⟩ := M2.rc.cells; have HM2 := veil M2; have HB2 := veil ((unveil HBI).next b2); clear M2 b2 HM HBI) | (go_at_call 33; refine (HP _).mono ?_; rintro x W3 ⟨rfl, b3⟩; clear HP r0 r1 r2 r3 r4 r5 r6 r7 r8 r9; have M3 := (unveil HM2).next b3; obtain ⟨x0, x1, x2, x3, x4, x5⟩ := M3.b.cells; have HM3 := veil M3; have HB3 := veil ((unveil HB2).next b3); clear M3 b3 HM2 HB2))
  go_upto_region 7 with (go_at_call 27; refine (bcopy_own B a c _ (unveil HB3) (unveil HS)).mono ?_; rintro x W4 ⟨a2, c2, rfl, own4, i4, u4, b4⟩; have HR4 := veil (Rf.made (unveil HM3) own4 b4); have HB4 := veil ((unveil HB3).next b4); clear own4 i4 u4 b4 x0 x1 x2 x3 x4 x5)
  obtain ⟨W5, hW5, R5⟩ := unveil HR4
  rw [← hW5]
  have HB5 : Hid (BIn W5 B a c) := veil (by rw [hW5]; exact (unveil HB4).next (below1 _ _))
  obtain ⟨x0, x1, x2, x3, x4, x5⟩ := R5.m.b.cells
  obtain ⟨r0, r1, r2, r3, r4, r5, r6, r7, r8, r9⟩ := R5.m.rc.cells
  obtain ⟨k0, k1, k2, k3, k4, k5⟩ := R5.x.cells
  have kf := R5.x.free
  have HR5 := veil R5
  clear hW5 R5 HR4 HB4 HM3 HB3
  go_upto_region 17 with fail
  have hz5 := (unveil HR5).m.z.lt
  have g3 := (unveil HR5).own.alloc (.cells #[.int .i64 r.v.k, .int .i64 r.v.p, .int .i64 r.v.i, .int .i64 r.v.b, .int .i64 r.v.he, .int .i64 r.v.hn] 28)
  have g4 := six_news W5 r.v.k r.v.p r.v.i r.v.b r.v.he r.v.hn 28
  have G1 : Hid (B.es.length + 1 ≤ maxLen) := veil (by have := unveil HL; unfold maxLen; omega)
  have G2 : Hid ((B.es.length + 1) * 48 ≤ 140737488355328) := veil (by have := unveil HL; omega)
  have G3 := veil g3
  have G4 := veil g4
  have G5 : Hid (W3.heap.size ≤ W5.heap.size) := veil (unveil HR5).le
  clear g3 g4
  go_upto_region 34 with (at_builtin; refine wpList_append_own _ rfl (.tmp 86) (.tmp 89) 22 rfl W3.heap.size 28 i6 _ 6 48 Tryz.underlying22 hi6 hz60 hz61 hz62 rfl (by decide) (.slice a2 B.es.length c2) B.es.length ((evFlat B.es).map (Value.int .i64)) rfl (unveil G3) ⟨W5.heap.size, 0, none⟩ 1 1 ([r.v.k, r.v.p, r.v.i, r.v.b, r.v.he, r.v.hn].map (Value.int .i64)) rfl rfl (unveil G4) (ints_oneCell .i64 _) (unveil G1) (unveil G2) (by have := unveil G5; simp; omega) ?_; intro v7 W7 own7 grow7 _; obtain ⟨a8, c8, rfl⟩ := own_form own7; have HR7 := veil ((unveil HR5).added own7 grow7); clear x0 x1 x2 x3 x4 x5 r0 r1 r2 r3 r4 r5 r6 r7 r8 r9 k0 k1 k2 k3 k4 k5 kf own7 grow7; have k5 := (unveil HR7).1.cells.2.2.2.2.2; have kf := (unveil HR7).1.free)
  obtain ⟨D, hDe⟩ : ∃ D, D = B.more [r.v] := ⟨_, rfl⟩
  obtain ⟨W8, hW8, R8⟩ : ∃ W8, W8 = W7.setCell ⟨W4.heap.size, 5, none⟩ (.slice a8 (B.es.length + 1) c8) ∧ Rt w W8 W4.heap.size B a c r D a8 c8 := ⟨_, rfl, by rw [hDe]; exact (unveil HR7).2.last (wf_more (unveil HWF) (unveil HVF))⟩
  rw [← hW8]
  have H8 := veil R8
  clear hW8 R8 HR7 k5 kf G1 G2 G3 G4 G5 HR5 HB5 hz5
  have HDO : Hid (deedOf B r = some D) := veil (by rw [hDe]; exact unveil HDO0)
  have hes : D.es.length = B.es.length + 1 := by rw [hDe]; simp [Bt.more]
  have hD0 : D.r = B.r ∧ D.e = B.e ∧ D.f = B.f ∧ D.t = B.t ∧ D.o = B.o := by rw [hDe]; exact ⟨rfl, rfl, rfl, rfl, rfl⟩
  clear hDe HDO0 hes hD0
  by_cases hD : D.Ok
  case neg =>
    have HAP := veil (apply_bad (unveil HOK) (unveil HF) (unveil HDO) hD)
    have HC := faultB_no D a8 c8 _ (unveil H8).inn hD
    clear hD
    obtain ⟨x0, x1, x2, x3, x4, x5⟩ := (unveil H8).m.b.cells
    obtain ⟨k0, k1, k2, k3, k4, k5⟩ := (unveil H8).x.cells
    go_wp2_with (go_at_call 32; refine HC.mono ?_; rintro x WE ⟨rfl, bE⟩; clear HC x0 x1 x2 x3 x4 x5 k0 k1 k2 k3 k4 k5; have HE := veil ((unveil H8).next bE); obtain ⟨k0, k1, k2, k3, k4, k5⟩ := (unveil HE).x.cells; obtain ⟨z0, z1, z2, z3, z4, z5⟩ := (unveil HE).m.z.cells; have zf := (unveil HE).m.z.free; clear bE)
    obtain ⟨W9, hW9, d9, A9⟩ := (unveil HE).no (unveil HAP)
    rw [← hW9]
    exact bodyPost_ret (ret_applied d9 rfl rfl) rfl A9
  case pos =>
    have HAP := veil (apply_good (unveil HOK) (unveil HF) (unveil HDO) hD)
    have HC := faultB_yes D a8 c8 _ (unveil H8).inn hD
    clear hD
    obtain ⟨x0, x1, x2, x3, x4, x5⟩ := (unveil H8).m.b.cells
    obtain ⟨k0, k1, k2, k3, k4, k5⟩ := (unveil H8).x.cells
    go_wp2_with (go_at_call 32; refine HC.mono ?_; rintro x WE ⟨rfl, bE⟩; clear HC x0 x1 x2 x3 x4 x5 k0 k1 k2 k3 k4 k5; have HE := veil ((unveil H8).next bE); obtain ⟨k0, k1, k2, k3, k4, k5⟩ := (unveil HE).x.cells; obtain ⟨z0, z1, z2, z3, z4, z5⟩ := (unveil HE).m.z.cells; have zf := (unveil HE).m.z.free; clear bE)
    obtain ⟨W9, hW9, d9, A9⟩ := (unveil HE).yes (unveil HAP)
    rw [← hW9]
    exact bodyPost_ret (ret_applied d9 rfl rfl) rfl A9
end Go.Proofs.YtcdopnkabbfooaaGreat

namespace Go.Proofs.YtcdopnkabbfooaaGreat
open Go.RowKit

set_option maxRecDepth 20000 in
set_option maxHeartbeats 8000000 in
theorem applied_3 (B : Bt) (a : Option Addr) (c : Nat) (r : Rec) (w : World) (hb : BIn w B a c) (hw : ∀ u ∈ evFlat B.es, (Lit.int .i64 u).wf = true) (hv : ∀ u ∈ evFlat [r.v], (Lit.int .i64 u).wf = true) (ok : B.Ok) (hf : r.fault = 0) (hk : r.k = 3) :
    Calls Tryz.prog 12 #[bVal B.r B.e B.f B.t B.o a B.es.length c, recIn r] w fun x w' => ApplyR w w' B r x := by
  have HP : ∀ w, Calls Tryz.prog 33 #[recIn r] w fun x w' => x = .returned (.int .i64 0) ∧ Below w.heap.size w w' := fun w => by have := recordFault_any r.k r.q r.e r.p r.v.k r.v.p r.v.i r.v.b r.v.he r.v.hn w; rw [show recordFault r.k r.q r.e r.p r.v.k r.v.p r.v.i r.v.b r.v.he r.v.hn = 0 from hf] at this; exact this
  have HOK := veil ok
  have HF := veil hf
  have HWF := veil hw
  have HVF := veil hv
  have HS : Hid (B.es.length * 48 ≤ 140737488351232) := veil (by have := ok.len; omega)
  have HL := veil ok.len
  have q1 : (r.k == 1) = false := by simp [hk]
  have q2 : (r.k == 2) = false := by simp [hk]
  have q3 : (r.k == 3) = true := by simp [hk]
  have q4 : (r.k == 4) = false := by simp [hk]
  have q5 : (r.k == 5) = false := by simp [hk]
  have q6 : (r.k == 6) = false := by simp [hk]
  have hd : (B.e = r.e ∧ B.r = 1 → deedOf B r = some (⟨3, B.e, B.f, r.p, B.o, B.es⟩ : Bt)) ∧ (¬ (B.e = r.e ∧ B.r = 1) → deedOf B r = none) := by
    unfold deedOf
    rw [if_neg (by omega), if_neg (by omega), if_pos hk]
    exact ⟨fun h => if_pos h, fun h => if_neg h⟩
  by_cases hall : B.e = r.e ∧ B.r = 1
  case neg =>
    have HAP := veil (apply_none ok hf (hd.2 hall))
    have hcs : ((r.p == 0) = true ∧ (B.e == r.e) = true ∧ (B.r == 1) = false) ∨ ((r.p == 0) = true ∧ (B.e == r.e) = false ∧ (B.r == 1) = true) ∨ ((r.p == 0) = true ∧ (B.e == r.e) = false ∧ (B.r == 1) = false) ∨ ((r.p == 0) = false ∧ (B.e == r.e) = true ∧ (B.r == 1) = false) ∨ ((r.p == 0) = false ∧ (B.e == r.e) = false ∧ (B.r == 1) = true) ∨ ((r.p == 0) = false ∧ (B.e == r.e) = false ∧ (B.r == 1) = false) := by
      have hn : ¬ ((B.e == r.e) = true ∧ (B.r == 1) = true) := by
        intro h
        exact hall (by simpa using h)
      clear hall hd
      generalize (r.p == 0) = b0
      generalize (B.e == r.e) = b1 at hn ⊢
      generalize (B.r == 1) = b2 at hn ⊢
      revert hn
      cases b0 <;> cases b1 <;> cases b2 <;> simp
    clear hd hall
    rcases hcs with ⟨e1, e2, e3⟩ | ⟨e1, e2, e3⟩ | ⟨e1, e2, e3⟩ | ⟨e1, e2, e3⟩ | ⟨e1, e2, e3⟩ | ⟨e1, e2, e3⟩
    all_goals
      clear hk hf
      go_enter Tryz.func12, Tryz.ntmps12
      go_upto_region 1 with fail
      obtain ⟨W1, hW1, M1⟩ := Mr.made w B a c r
      rw [← hW1]
      clear hW1
      have HC := faultB_yes B a c W1 (hb.next M1.bel) ok
      have HBI := veil (hb.next M1.bel)
      obtain ⟨x0, x1, x2, x3, x4, x5⟩ := M1.b.cells
      have HM := veil M1
      clear M1 ok hb hw hv
      go_upto_region 6 with (first | (go_at_call 32; refine HC.mono ?_; rintro x W2 ⟨rfl, b2⟩; clear HC x0 x1 x2 x3 x4 x5; have M2 := (unveil HM).next b2; obtain ⟨r0, r1, r2, r3, r4, r5, r6, r7, r8, r9⟩ := M2.rc.cells; have HM2 := veil M2; have HB2 := veil ((unveil HBI).next b2); clear M2 b2 HM HBI) | (go_at_call 33; refine (HP _).mono ?_; rintro x W3 ⟨rfl, b3⟩; clear HP r0 r1 r2 r3 r4 r5 r6 r7 r8 r9; have M3 := (unveil HM2).next b3; obtain ⟨x0, x1, x2, x3, x4, x5⟩ := M3.b.cells; have HM3 := veil M3; have HB3 := veil ((unveil HB2).next b3); clear M3 b3 HM2 HB2))
      go_upto_region 7 with (go_at_call 27; refine (bcopy_own B a c _ (unveil HB3) (unveil HS)).mono ?_; rintro x W4 ⟨a2, c2, rfl, own4, i4, u4, b4⟩; have HR4 := veil (Rf.made (unveil HM3) own4 b4); have HB4 := veil ((unveil HB3).next b4); clear own4 i4 u4 b4 x0 x1 x2 x3 x4 x5)
      obtain ⟨W5, hW5, R5⟩ := unveil HR4
      rw [← hW5]
      have HB5 : Hid (BIn W5 B a c) := veil (by rw [hW5]; exact (unveil HB4).next (below1 _ _))
      obtain ⟨x0, x1, x2, x3, x4, x5⟩ := R5.m.b.cells
      obtain ⟨r0, r1, r2, r3, r4, r5, r6, r7, r8, r9⟩ := R5.m.rc.cells
      obtain ⟨k0, k1, k2, k3, k4, k5⟩ := R5.x.cells
      have kf := R5.x.free
      have HR5 := veil R5
      clear hW5 R5 HR4 HB4 HM3 HB3
      go_upto_region 34 with fail
      obtain ⟨D, hDe⟩ : ∃ D : Bt, D = ⟨3, B.e, B.f, r.p, B.o, B.es⟩ := ⟨_, rfl⟩
      obtain ⟨W8, hW8, R8⟩ : ∃ W8, W8 = (W5.setCell ⟨W4.heap.size, 0, none⟩ (.int .i64 3)).setCell ⟨W4.heap.size, 3, none⟩ (.int .i64 r.p) ∧ Rt w W8 W4.heap.size B a c r D a2 c2 := by
        refine ⟨_, rfl, ?_⟩
        rw [hDe]
        refine Rf.last (base := W3.heap.size) ((unveil HR5).turn ((Turned.set _ _ _ _).trans (Turned.set _ _ _ _)) rfl ?_) (unveil HWF)
        have := (unveil HR5).x
        unfold bBlock at this ⊢
        rw [heap_setB (heap_setB this)]
        simp
      rw [← hW8]
      have H8 := veil R8
      clear hW8 R8 HR5 HB5 x0 x1 x2 x3 x4 x5 r0 r1 r2 r3 r4 r5 r6 r7 r8 r9 k0 k1 k2 k3 k4 k5 kf
      obtain ⟨a8, ha8⟩ : ∃ a8, a8 = a2 := ⟨_, rfl⟩
      obtain ⟨c8, hc8⟩ : ∃ c8, c8 = c2 := ⟨_, rfl⟩
      rw [← ha8, ← hc8] at H8
      clear ha8 hc8
      obtain ⟨x0, x1, x2, x3, x4, x5⟩ := (unveil H8).m.b.cells
      obtain ⟨z0, z1, z2, z3, z4, z5⟩ := (unveil H8).m.z.cells
      have zf := (unveil H8).m.z.free
      go_wp2
      obtain ⟨W9, hW9, d9, A9⟩ := (unveil H8).no (unveil HAP)
      rw [← hW9]
      exact bodyPost_ret (ret_applied d9 rfl rfl) rfl A9
  case pos =>
  have HDO0 := veil (hd.1 hall)
  have e1 : (B.e == r.e) = true := by simpa using hall.1
  have e2 : (B.r == 1) = true := by simpa using hall.2
  have f1 : (B.r == 2) = false := by have := hall; simp; omega
  clear hd hall
  cases hx : (r.p == 0)
  all_goals
    clear hk hf
    go_enter Tryz.func12, Tryz.ntmps12
    go_upto_region 1 with fail
    obtain ⟨W1, hW1, M1⟩ := Mr.made w B a c r
    rw [← hW1]
    clear hW1
    have HC := faultB_yes B a c W1 (hb.next M1.bel) ok
    have HBI := veil (hb.next M1.bel)
    obtain ⟨x0, x1, x2, x3, x4, x5⟩ := M1.b.cells
    have HM := veil M1
    clear M1 ok hb hw hv
    go_upto_region 6 with (first | (go_at_call 32; refine HC.mono ?_; rintro x W2 ⟨rfl, b2⟩; clear HC x0 x1 x2 x3 x4 x5; have M2 := (unveil HM).next b2; obtain ⟨r0, r1, r2, r3, r4, r5, r6, r7, r8, r9⟩ := M2.rc.cells; have HM2 := veil M2; have HB2 := veil ((unveil HBI).next b2); clear M2 b2 HM HBI) | (go_at_call 33; refine (HP _).mono ?_; rintro x W3 ⟨rfl, b3⟩; clear HP r0 r1 r2 r3 r4 r5 r6 r7 r8 r9; have M3 := (unveil HM2).next b3; obtain ⟨x0, x1, x2, x3, x4, x5⟩ := M3.b.cells; have HM3 := veil M3; have HB3 := veil ((unveil HB2).next b3); clear M3 b3 HM2 HB2))
    go_upto_region 7 with (go_at_call 27; refine (bcopy_own B a c _ (unveil HB3) (unveil HS)).mono ?_; rintro x W4 ⟨a2, c2, rfl, own4, i4, u4, b4⟩; have HR4 := veil (Rf.made (unveil HM3) own4 b4); have HB4 := veil ((unveil HB3).next b4); clear own4 i4 u4 b4 x0 x1 x2 x3 x4 x5)
    obtain ⟨W5, hW5, R5⟩ := unveil HR4
    rw [← hW5]
    have HB5 : Hid (BIn W5 B a c) := veil (by rw [hW5]; exact (unveil HB4).next (below1 _ _))
    obtain ⟨x0, x1, x2, x3, x4, x5⟩ := R5.m.b.cells
    obtain ⟨r0, r1, r2, r3, r4, r5, r6, r7, r8, r9⟩ := R5.m.rc.cells
    obtain ⟨k0, k1, k2, k3, k4, k5⟩ := R5.x.cells
    have kf := R5.x.free
    have HR5 := veil R5
    clear hW5 R5 HR4 HB4 HM3 HB3
    go_upto_region 34 with fail
    obtain ⟨D, hDe⟩ : ∃ D : Bt, D = ⟨3, B.e, B.f, r.p, B.o, B.es⟩ := ⟨_, rfl⟩
    obtain ⟨W8, hW8, R8⟩ : ∃ W8, W8 = (W5.setCell ⟨W4.heap.size, 0, none⟩ (.int .i64 3)).setCell ⟨W4.heap.size, 3, none⟩ (.int .i64 r.p) ∧ Rt w W8 W4.heap.size B a c r D a2 c2 := by
      refine ⟨_, rfl, ?_⟩
      rw [hDe]
      refine Rf.last (base := W3.heap.size) ((unveil HR5).turn ((Turned.set _ _ _ _).trans (Turned.set _ _ _ _)) rfl ?_) (unveil HWF)
      have := (unveil HR5).x
      unfold bBlock at this ⊢
      rw [heap_setB (heap_setB this)]
      simp
    rw [← hW8]
    have H8 := veil R8
    clear hW8 R8 HR5 HB5 x0 x1 x2 x3 x4 x5 r0 r1 r2 r3 r4 r5 r6 r7 r8 r9 k0 k1 k2 k3 k4 k5 kf
    obtain ⟨a8, ha8⟩ : ∃ a8, a8 = a2 := ⟨_, rfl⟩
    obtain ⟨c8, hc8⟩ : ∃ c8, c8 = c2 := ⟨_, rfl⟩
    rw [← ha8, ← hc8] at H8
    clear ha8 hc8
    have HDO : Hid (deedOf B r = some D) := veil (by rw [hDe]; exact unveil HDO0)
    clear hDe HDO0
    by_cases hD : D.Ok
    case neg =>
      have HAP := veil (apply_bad (unveil HOK) (unveil HF) (unveil HDO) hD)
      have HC := faultB_no D a8 c8 _ (unveil H8).inn hD
      clear hD
      obtain ⟨x0, x1, x2, x3, x4, x5⟩ := (unveil H8).m.b.cells
      obtain ⟨k0, k1, k2, k3, k4, k5⟩ := (unveil H8).x.cells
      go_wp2_with (go_at_call 32; refine HC.mono ?_; rintro x WE ⟨rfl, bE⟩; clear HC x0 x1 x2 x3 x4 x5 k0 k1 k2 k3 k4 k5; have HE := veil ((unveil H8).next bE); obtain ⟨k0, k1, k2, k3, k4, k5⟩ := (unveil HE).x.cells; obtain ⟨z0, z1, z2, z3, z4, z5⟩ := (unveil HE).m.z.cells; have zf := (unveil HE).m.z.free; clear bE)
      obtain ⟨W9, hW9, d9, A9⟩ := (unveil HE).no (unveil HAP)
      rw [← hW9]
      exact bodyPost_ret (ret_applied d9 rfl rfl) rfl A9
    case pos =>
      have HAP := veil (apply_good (unveil HOK) (unveil HF) (unveil HDO) hD)
      have HC := faultB_yes D a8 c8 _ (unveil H8).inn hD
      clear hD
      obtain ⟨x0, x1, x2, x3, x4, x5⟩ := (unveil H8).m.b.cells
      obtain ⟨k0, k1, k2, k3, k4, k5⟩ := (unveil H8).x.cells
      go_wp2_with (go_at_call 32; refine HC.mono ?_; rintro x WE ⟨rfl, bE⟩; clear HC x0 x1 x2 x3 x4 x5 k0 k1 k2 k3 k4 k5; have HE := veil ((unveil H8).next bE); obtain ⟨k0, k1, k2, k3, k4, k5⟩ := (unveil HE).x.cells; obtain ⟨z0, z1, z2, z3, z4, z5⟩ := (unveil HE).m.z.cells; have zf := (unveil HE).m.z.free; clear bE)
      obtain ⟨W9, hW9, d9, A9⟩ := (unveil HE).yes (unveil HAP)
      rw [← hW9]
      exact bodyPost_ret (ret_applied d9 rfl rfl) rfl A9
end Go.Proofs.YtcdopnkabbfooaaGreat

namespace Go.Proofs.YtcdopnkabbfooaaGreat
open Go.RowKit

set_option maxRecDepth 20000 in
set_option maxHeartbeats 8000000 in
theorem applied_4 (B : Bt) (a : Option Addr) (c : Nat) (r : Rec) (w : World) (hb : BIn w B a c) (hw : ∀ u ∈ evFlat B.es, (Lit.int .i64 u).wf = true) (hv : ∀ u ∈ evFlat [r.v], (Lit.int .i64 u).wf = true) (ok : B.Ok) (hf : r.fault = 0) (hk : r.k = 4) :
    Calls Tryz.prog 12 #[bVal B.r B.e B.f B.t B.o a B.es.length c, recIn r] w fun x w' => ApplyR w w' B r x := by
  have HP : ∀ w, Calls Tryz.prog 33 #[recIn r] w fun x w' => x = .returned (.int .i64 0) ∧ Below w.heap.size w w' := fun w => by have := recordFault_any r.k r.q r.e r.p r.v.k r.v.p r.v.i r.v.b r.v.he r.v.hn w; rw [show recordFault r.k r.q r.e r.p r.v.k r.v.p r.v.i r.v.b r.v.he r.v.hn = 0 from hf] at this; exact this
  have HOK := veil ok
  have HF := veil hf
  have HWF := veil hw
  have HVF := veil hv
  have HS : Hid (B.es.length * 48 ≤ 140737488351232) := veil (by have := ok.len; omega)
  have HL := veil ok.len
  have q1 : (r.k == 1) = false := by simp [hk]
  have q2 : (r.k == 2) = false := by simp [hk]
  have q3 : (r.k == 3) = false := by simp [hk]
  have q4 : (r.k == 4) = true := by simp [hk]
  have q5 : (r.k == 5) = false := by simp [hk]
  have q6 : (r.k == 6) = false := by simp [hk]
  obtain ⟨D, er, hDB⟩ : ∃ D er, beginOf B r.e r.p = (D, er) := ⟨_, _, rfl⟩
  have HBg : ∀ w, BIn w B a c → Calls Tryz.prog 34 #[bVal B.r B.e B.f B.t B.o a B.es.length c, .int .i64 r.e, .int .i64 r.p] w fun x w' => ∃ a' c', x = .returned (.tuple #[bVal D.r D.e D.f D.t D.o a' D.es.length c', .int .i64 er]) ∧ BIn w' D a' c' ∧ (∀ y, a' = some y → w.heap.size ≤ y.block) ∧ Below w.heap.size w w' := fun w h => (bbegun_any B a c r.e r.p w h (unveil HS)).mono fun x w' ⟨y, B', er', h1, h2, h3, h4⟩ => by
    rw [hDB] at h2
    obtain ⟨rfl, rfl⟩ := Prod.mk.inj h2
    obtain ⟨a', c', rfl, i3, u3⟩ := h3
    exact ⟨a', c', h1, i3, u3, h4⟩
  have hd : deedOf B r = if er = 0 then some D else none := by
    unfold deedOf
    rw [if_neg (by omega), if_neg (by omega), if_neg (by omega), if_pos hk, hDB]
  have hr2 : er = 0 → ¬ B.r = 2 := by
    intro h0 h2
    unfold beginOf at hDB
    rw [if_neg (fun g => g ok)] at hDB
    split at hDB
    · have := (Prod.mk.inj hDB).2; omega
    · rw [if_pos (.inr (.inl h2))] at hDB
      have := (Prod.mk.inj hDB).2; omega
  by_cases hall : er = 0
  case neg =>
    rw [if_neg hall] at hd
    have HAP := veil (apply_none ok hf hd)
    have e2 : (er == 0) = false := by simp [hall]
    clear hd hall hr2 hDB
    cases hx : (r.p == 0)
    all_goals
      clear hk hf
      go_enter Tryz.func12, Tryz.ntmps12
      go_upto_region 1 with fail
      obtain ⟨W1, hW1, M1⟩ := Mr.made w B a c r
      rw [← hW1]
      clear hW1
      have HC := faultB_yes B a c W1 (hb.next M1.bel) ok
      have HBI := veil (hb.next M1.bel)
      obtain ⟨x0, x1, x2, x3, x4, x5⟩ := M1.b.cells
      have HM := veil M1
      clear M1 ok hb hw hv
      go_upto_region 6 with (first | (go_at_call 32; refine HC.mono ?_; rintro x W2 ⟨rfl, b2⟩; clear HC x0 x1 x2 x3 x4 x5; have M2 := (unveil HM).next b2; obtain ⟨r0, r1, r2, r3, r4, r5, r6, r7, r8, r9⟩ := M2.rc.cells; have HM2 := veil M2; have HB2 := veil ((unveil HBI).next b2); clear M2 b2 HM HBI) | (go_at_call 33; refine (HP _).mono ?_; rintro x W3 ⟨rfl, b3⟩; clear HP r0 r1 r2 r3 r4 r5 r6 r7 r8 r9; have M3 := (unveil HM2).next b3; obtain ⟨x0, x1, x2, x3, x4, x5⟩ := M3.b.cells; have HM3 := veil M3; have HB3 := veil ((unveil HB2).next b3); clear M3 b3 HM2 HB2))
      go_upto_region 7 with (go_at_call 27; refine (bcopy_own B a c _ (unveil HB3) (unveil HS)).mono ?_; rintro x W4 ⟨a2, c2, rfl, own4, i4, u4, b4⟩; have HR4 := veil (Rf.made (unveil HM3) own4 b4); have HB4 := veil ((unveil HB3).next b4); clear own4 i4 u4 b4 x0 x1 x2 x3 x4 x5)
      obtain ⟨W5, hW5, R5⟩ := unveil HR4
      rw [← hW5]
      have HB5 : Hid (BIn W5 B a c) := veil (by rw [hW5]; exact (unveil HB4).next (below1 _ _))
      obtain ⟨x0, x1, x2, x3, x4, x5⟩ := R5.m.b.cells
      obtain ⟨r0, r1, r2, r3, r4, r5, r6, r7, r8, r9⟩ := R5.m.rc.cells
      obtain ⟨k0, k1, k2, k3, k4, k5⟩ := R5.x.cells
      have kf := R5.x.free
      have HR5 := veil R5
      clear hW5 R5 HR4 HB4 HM3 HB3
      have hc := HBg W5 (unveil HB5)
      clear HBg
      go_upto_region 24 with (go_at_call 34; refine hc.mono ?_; rintro x W6 ⟨a8, c8, rfl, i6, u6, b6⟩; have HX6 := veil (And.intro ((unveil HR5).m.next b6) ((unveil HR5).x.next b6)); have HI6 := veil i6; have HU6 := veil u6; clear hc i6 u6 b6 x0 x1 x2 x3 x4 x5 r0 r1 r2 r3 r4 r5 r6 r7 r8 r9 k0 k1 k2 k3 k4 k5 kf)
      obtain ⟨W7, hW7, d7, b7⟩ : ∃ W7, W7 = W6.alloc (.cells (bCells D.r D.e D.f D.t D.o a8 D.es.length c8) 24) ∧ bBlock W7 W6.heap.size D.r D.e D.f D.t D.o a8 D.es.length c8 ∧ Below W6.heap.size W6 W7 := ⟨_, rfl, bBlock.new _ _ _ _ _ _ _ _ _, below1 _ _⟩
      rw [← hW7]
      have m7 := (unveil HX6).1.next b7
      have x7 := (unveil HX6).2.next b7
      have i7 := (unveil HI6).next b7
      have hX5 := (unveil HR5).x.lt
      obtain ⟨y0, y1, y2, y3, y4, y5⟩ := d7.cells
      obtain ⟨x0, x1, x2, x3, x4, x5⟩ := m7.b.cells
      obtain ⟨k0, k1, k2, k3, k4, k5⟩ := x7.cells
      have kf := x7.free
      have M7 := veil m7
      have X7 := veil x7
      have I7 := veil i7
      have HX := veil (unveil HR5).hX
      clear hW7 d7 b7 m7 x7 i7 HX6 HI6 HR5 HB5
      go_upto_region 34 with fail
      obtain ⟨W8, hW8, d8, _, t8⟩ := b_stored (unveil X7) (Below.refl W4.heap.size W7) (Nat.le_refl _) D.r D.e D.f D.t D.o a8 D.es.length c8
      rw [← hW8]
      have R8 : Rt w W8 W4.heap.size B a c r D a8 c8 :=
        ⟨(unveil M7).turned t8 (unveil HX), d8, (unveil I7).turned t8 (fun y hy _ => by have := unveil HU6 y hy; omega), (fun y hy => by have := unveil HU6 y hy; have := unveil HX; omega), unveil HX⟩
      have H8 := veil R8
      clear hW8 R8 d8 t8 M7 X7 I7 HU6 HX x0 x1 x2 x3 x4 x5 y0 y1 y2 y3 y4 y5 k0 k1 k2 k3 k4 k5 kf
      obtain ⟨x0, x1, x2, x3, x4, x5⟩ := (unveil H8).m.b.cells
      obtain ⟨z0, z1, z2, z3, z4, z5⟩ := (unveil H8).m.z.cells
      have zf := (unveil H8).m.z.free
      go_wp2
      obtain ⟨W9, hW9, d9, A9⟩ := (unveil H8).no (unveil HAP)
      rw [← hW9]
      exact bodyPost_ret (ret_applied d9 rfl rfl) rfl A9
  case pos =>
  rw [if_pos hall] at hd
  have HDO := veil hd
  have e2 : (er == 0) = true := by simp [hall]
  have f1 : (B.r == 2) = false := by simp [hr2 hall]
  clear hd hall hr2 hDB
  cases hx : (r.p == 0)
  all_goals
    clear hk hf
    go_enter Tryz.func12, Tryz.ntmps12
    go_upto_region 1 with fail
    obtain ⟨W1, hW1, M1⟩ := Mr.made w B a c r
    rw [← hW1]
    clear hW1
    have HC := faultB_yes B a c W1 (hb.next M1.bel) ok
    have HBI := veil (hb.next M1.bel)
    obtain ⟨x0, x1, x2, x3, x4, x5⟩ := M1.b.cells
    have HM := veil M1
    clear M1 ok hb hw hv
    go_upto_region 6 with (first | (go_at_call 32; refine HC.mono ?_; rintro x W2 ⟨rfl, b2⟩; clear HC x0 x1 x2 x3 x4 x5; have M2 := (unveil HM).next b2; obtain ⟨r0, r1, r2, r3, r4, r5, r6, r7, r8, r9⟩ := M2.rc.cells; have HM2 := veil M2; have HB2 := veil ((unveil HBI).next b2); clear M2 b2 HM HBI) | (go_at_call 33; refine (HP _).mono ?_; rintro x W3 ⟨rfl, b3⟩; clear HP r0 r1 r2 r3 r4 r5 r6 r7 r8 r9; have M3 := (unveil HM2).next b3; obtain ⟨x0, x1, x2, x3, x4, x5⟩ := M3.b.cells; have HM3 := veil M3; have HB3 := veil ((unveil HB2).next b3); clear M3 b3 HM2 HB2))
    go_upto_region 7 with (go_at_call 27; refine (bcopy_own B a c _ (unveil HB3) (unveil HS)).mono ?_; rintro x W4 ⟨a2, c2, rfl, own4, i4, u4, b4⟩; have HR4 := veil (Rf.made (unveil HM3) own4 b4); have HB4 := veil ((unveil HB3).next b4); clear own4 i4 u4 b4 x0 x1 x2 x3 x4 x5)
    obtain ⟨W5, hW5, R5⟩ := unveil HR4
    rw [← hW5]
    have HB5 : Hid (BIn W5 B a c) := veil (by rw [hW5]; exact (unveil HB4).next (below1 _ _))
    obtain ⟨x0, x1, x2, x3, x4, x5⟩ := R5.m.b.cells
    obtain ⟨r0, r1, r2, r3, r4, r5, r6, r7, r8, r9⟩ := R5.m.rc.cells
    obtain ⟨k0, k1, k2, k3, k4, k5⟩ := R5.x.cells
    have kf := R5.x.free
    have HR5 := veil R5
    clear hW5 R5 HR4 HB4 HM3 HB3
    have hc := HBg W5 (unveil HB5)
    clear HBg
    go_upto_region 24 with (go_at_call 34; refine hc.mono ?_; rintro x W6 ⟨a8, c8, rfl, i6, u6, b6⟩; have HX6 := veil (And.intro ((unveil HR5).m.next b6) ((unveil HR5).x.next b6)); have HI6 := veil i6; have HU6 := veil u6; clear hc i6 u6 b6 x0 x1 x2 x3 x4 x5 r0 r1 r2 r3 r4 r5 r6 r7 r8 r9 k0 k1 k2 k3 k4 k5 kf)
    obtain ⟨W7, hW7, d7, b7⟩ : ∃ W7, W7 = W6.alloc (.cells (bCells D.r D.e D.f D.t D.o a8 D.es.length c8) 24) ∧ bBlock W7 W6.heap.size D.r D.e D.f D.t D.o a8 D.es.length c8 ∧ Below W6.heap.size W6 W7 := ⟨_, rfl, bBlock.new _ _ _ _ _ _ _ _ _, below1 _ _⟩
    rw [← hW7]
    have m7 := (unveil HX6).1.next b7
    have x7 := (unveil HX6).2.next b7
    have i7 := (unveil HI6).next b7
    have hX5 := (unveil HR5).x.lt
    obtain ⟨y0, y1, y2, y3, y4, y5⟩ := d7.cells
    obtain ⟨x0, x1, x2, x3, x4, x5⟩ := m7.b.cells
    obtain ⟨k0, k1, k2, k3, k4, k5⟩ := x7.cells
    have kf := x7.free
    have M7 := veil m7
    have X7 := veil x7
    have I7 := veil i7
    have HX := veil (unveil HR5).hX
    clear hW7 d7 b7 m7 x7 i7 HX6 HI6 HR5 HB5
    go_upto_region 34 with fail
    obtain ⟨W8, hW8, d8, _, t8⟩ := b_stored (unveil X7) (Below.refl W4.heap.size W7) (Nat.le_refl _) D.r D.e D.f D.t D.o a8 D.es.length c8
    rw [← hW8]
    have R8 : Rt w W8 W4.heap.size B a c r D a8 c8 :=
      ⟨(unveil M7).turned t8 (unveil HX), d8, (unveil I7).turned t8 (fun y hy _ => by have := unveil HU6 y hy; omega), (fun y hy => by have := unveil HU6 y hy; have := unveil HX; omega), unveil HX⟩
    have H8 := veil R8
    clear hW8 R8 d8 t8 M7 X7 I7 HU6 HX x0 x1 x2 x3 x4 x5 y0 y1 y2 y3 y4 y5 k0 k1 k2 k3 k4 k5 kf
    by_cases hD : D.Ok
    case neg =>
      have HAP := veil (apply_bad (unveil HOK) (unveil HF) (unveil HDO) hD)
      have HC := faultB_no D a8 c8 _ (unveil H8).inn hD
      clear hD
      obtain ⟨x0, x1, x2, x3, x4, x5⟩ := (unveil H8).m.b.cells
      obtain ⟨k0, k1, k2, k3, k4, k5⟩ := (unveil H8).x.cells
      go_wp2_with (go_at_call 32; refine HC.mono ?_; rintro x WE ⟨rfl, bE⟩; clear HC x0 x1 x2 x3 x4 x5 k0 k1 k2 k3 k4 k5; have HE := veil ((unveil H8).next bE); obtain ⟨k0, k1, k2, k3, k4, k5⟩ := (unveil HE).x.cells; obtain ⟨z0, z1, z2, z3, z4, z5⟩ := (unveil HE).m.z.cells; have zf := (unveil HE).m.z.free; clear bE)
      obtain ⟨W9, hW9, d9, A9⟩ := (unveil HE).no (unveil HAP)
      rw [← hW9]
      exact bodyPost_ret (ret_applied d9 rfl rfl) rfl A9
    case pos =>
      have HAP := veil (apply_good (unveil HOK) (unveil HF) (unveil HDO) hD)
      have HC := faultB_yes D a8 c8 _ (unveil H8).inn hD
      clear hD
      obtain ⟨x0, x1, x2, x3, x4, x5⟩ := (unveil H8).m.b.cells
      obtain ⟨k0, k1, k2, k3, k4, k5⟩ := (unveil H8).x.cells
      go_wp2_with (go_at_call 32; refine HC.mono ?_; rintro x WE ⟨rfl, bE⟩; clear HC x0 x1 x2 x3 x4 x5 k0 k1 k2 k3 k4 k5; have HE := veil ((unveil H8).next bE); obtain ⟨k0, k1, k2, k3, k4, k5⟩ := (unveil HE).x.cells; obtain ⟨z0, z1, z2, z3, z4, z5⟩ := (unveil HE).m.z.cells; have zf := (unveil HE).m.z.free; clear bE)
      obtain ⟨W9, hW9, d9, A9⟩ := (unveil HE).yes (unveil HAP)
      rw [← hW9]
      exact bodyPost_ret (ret_applied d9 rfl rfl) rfl A9
end Go.Proofs.YtcdopnkabbfooaaGreat

namespace Go.Proofs.YtcdopnkabbfooaaGreat
open Go.RowKit

set_option maxRecDepth 20000 in
set_option maxHeartbeats 8000000 in
theorem applied_5 (B : Bt) (a : Option Addr) (c : Nat) (r : Rec) (w : World) (hb : BIn w B a c) (hw : ∀ u ∈ evFlat B.es, (Lit.int .i64 u).wf = true) (hv : ∀ u ∈ evFlat [r.v], (Lit.int .i64 u).wf = true) (ok : B.Ok) (hf : r.fault = 0) (hk : r.k = 5) :
    Calls Tryz.prog 12 #[bVal B.r B.e B.f B.t B.o a B.es.length c, recIn r] w fun x w' => ApplyR w w' B r x := by
  have HP : ∀ w, Calls Tryz.prog 33 #[recIn r] w fun x w' => x = .returned (.int .i64 0) ∧ Below w.heap.size w w' := fun w => by have := recordFault_any r.k r.q r.e r.p r.v.k r.v.p r.v.i r.v.b r.v.he r.v.hn w; rw [show recordFault r.k r.q r.e r.p r.v.k r.v.p r.v.i r.v.b r.v.he r.v.hn = 0 from hf] at this; exact this
  have HOK := veil ok
  have HF := veil hf
  have HWF := veil hw
  have HVF := veil hv
  have HS : Hid (B.es.length * 48 ≤ 140737488351232) := veil (by have := ok.len; omega)
  have HL := veil ok.len
  have q1 : (r.k == 1) = false := by simp [hk]
  have q2 : (r.k == 2) = false := by simp [hk]
  have q3 : (r.k == 3) = false := by simp [hk]
  have q4 : (r.k == 4) = false := by simp [hk]
  have q5 : (r.k == 5) = true := by simp [hk]
  have q6 : (r.k == 6) = false := by simp [hk]
  have hd : (r.p = 0 ∧ B.e = r.e ∧ B.r = 4 → deedOf B r = some (B.more [r.v])) ∧ (¬ (r.p = 0 ∧ B.e = r.e ∧ B.r = 4) → deedOf B r = none) := by
    unfold deedOf
    rw [if_neg (by omega), if_neg (by omega), if_neg (by omega), if_neg (by omega), if_pos hk]
    exact ⟨fun h => if_pos h, fun h => if_neg h⟩
  obtain ⟨i6, hi6, hz60, hz61, hz62⟩ := info_of Tryz.infoEvent
  by_cases hall : r.p = 0 ∧ B.e = r.e ∧ B.r = 4
  case neg =>
    have HAP := veil (apply_none ok hf (hd.2 hall))
    have hcs : ((r.p == 0) = false ∧ (B.e == r.e) = false) ∨ ((r.p == 0) = false ∧ (B.e == r.e) = true) ∨ ((r.p == 0) = true ∧ (B.e == r.e) = false) ∨ ((r.p == 0) = true ∧ (B.e == r.e) = true ∧ (B.r == 4) = false) := by
      by_cases h1 : r.p = 0 <;> by_cases h2 : B.e = r.e <;> by_cases h3 : B.r = 4 <;> simp [h1, h2, h3]
      exact hall ⟨h1, h2, h3⟩
    clear hd hall
    rcases hcs with ⟨e1, e2⟩ | ⟨e1, e2⟩ | ⟨e1, e2⟩ | ⟨e1, e2, e3⟩
    all_goals
      clear hk hf
      go_enter Tryz.func12, Tryz.ntmps12
      go_upto_region 1 with fail
      obtain ⟨W1, hW1, M1⟩ := Mr.made w B a c r
      rw [← hW1]
      clear hW1
      have HC := faultB_yes B a c W1 (hb.next M1.bel) ok
      have HBI := veil (hb.next M1.bel)
      obtain ⟨x0, x1, x2, x3, x4, x5⟩ := M1.b.cells
      have HM := veil M1
      clear M1 ok hb hw hv
      go_upto_region 6 with (first | (go_at_call 32; refine HC.mono ?_; rintro x W2 ⟨rfl, b2⟩; clear HC x0 x1 x2 x3 x4 x5; have M2 := (unveil HM).next b2; obtain ⟨r0, r1, r2, r3, r4, r5, r6, r7, r8, r9⟩ := M2.rc.cells; have HM2 := veil M2; have HB2 := veil ((unveil HBI).next b2); clear M2 b2 HM HBI) | (go_at_call 33; refine (HP _).mono ?_; rintro x W3 ⟨rfl, b3⟩; clear HP r0 r1 r2 r3 r4 r5 r6 r7 r8 r9; have M3 := (unveil HM2).next b3; obtain ⟨x0, x1, x2, x3, x4, x5⟩ := M3.b.cells; have HM3 := veil M3; have HB3 := veil ((unveil HB2).next b3); clear M3 b3 HM2 HB2))
      go_upto_region 7 with (go_at_call 27; refine (bcopy_own B a c _ (unveil HB3) (unveil HS)).mono ?_; rintro x W4 ⟨a2, c2, rfl, own4, i4, u4, b4⟩; have HR4 := veil (Rf.made (unveil HM3) own4 b4); have HB4 := veil ((unveil HB3).next b4); clear own4 i4 u4 b4 x0 x1 x2 x3 x4 x5)
      obtain ⟨W5, hW5, R5⟩ := unveil HR4
      rw [← hW5]
      have HB5 : Hid (BIn W5 B a c) := veil (by rw [hW5]; exact (unveil HB4).next (below1 _ _))
      obtain ⟨x0, x1, x2, x3, x4, x5⟩ := R5.m.b.cells
      obtain ⟨r0, r1, r2, r3, r4, r5, r6, r7, r8, r9⟩ := R5.m.rc.cells
      obtain ⟨k0, k1, k2, k3, k4, k5⟩ := R5.x.cells
      have kf := R5.x.free
      have HR5 := veil R5
      clear hW5 R5 HR4 HB4 HM3 HB3
      go_upto_region 28 with fail
      have hz5 := (unveil HR5).m.z.lt
      have g3 := (unveil HR5).own.alloc (.cells #[.int .i64 r.v.k, .int .i64 r.v.p, .int .i64 r.v.i, .int .i64 r.v.b, .int .i64 r.v.he, .int .i64 r.v.hn] 28)
      have g4 := six_news W5 r.v.k r.v.p r.v.i r.v.b r.v.he r.v.hn 28
      have G1 : Hid (B.es.length + 1 ≤ maxLen) := veil (by have := unveil HL; unfold maxLen; omega)
      have G2 : Hid ((B.es.length + 1) * 48 ≤ 140737488355328) := veil (by have := unveil HL; omega)
      have G3 := veil g3
      have G4 := veil g4
      have G5 : Hid (W3.heap.size ≤ W5.heap.size) := veil (unveil HR5).le
      clear g3 g4
      go_upto_region 34 with (at_builtin; refine wpList_append_own _ rfl (.tmp 136) (.tmp 139) 22 rfl W3.heap.size 28 i6 _ 6 48 Tryz.underlying22 hi6 hz60 hz61 hz62 rfl (by decide) (.slice a2 B.es.length c2) B.es.length ((evFlat B.es).map (Value.int .i64)) rfl (unveil G3) ⟨W5.heap.size, 0, none⟩ 1 1 ([r.v.k, r.v.p, r.v.i, r.v.b, r.v.he, r.v.hn].map (Value.int .i64)) rfl rfl (unveil G4) (ints_oneCell .i64 _) (unveil G1) (unveil G2) (by have := unveil G5; simp; omega) ?_; intro v7 W7 own7 grow7 _; obtain ⟨a8, c8, rfl⟩ := own_form own7; have HR7 := veil ((unveil HR5).added own7 grow7); clear x0 x1 x2 x3 x4 x5 r0 r1 r2 r3 r4 r5 r6 r7 r8 r9 k0 k1 k2 k3 k4 k5 kf own7 grow7; have k5 := (unveil HR7).1.cells.2.2.2.2.2; have kf := (unveil HR7).1.free)
      obtain ⟨D, hDe⟩ : ∃ D, D = B.more [r.v] := ⟨_, rfl⟩
      obtain ⟨W8, hW8, R8⟩ : ∃ W8, W8 = W7.setCell ⟨W4.heap.size, 5, none⟩ (.slice a8 (B.es.length + 1) c8) ∧ Rt w W8 W4.heap.size B a c r D a8 c8 := ⟨_, rfl, by rw [hDe]; exact (unveil HR7).2.last (wf_more (unveil HWF) (unveil HVF))⟩
      rw [← hW8]
      have H8 := veil R8
      clear hW8 R8 HR7 k5 kf G1 G2 G3 G4 G5 HR5 HB5 hz5
      obtain ⟨x0, x1, x2, x3, x4, x5⟩ := (unveil H8).m.b.cells
      obtain ⟨z0, z1, z2, z3, z4, z5⟩ := (unveil H8).m.z.cells
      have zf := (unveil H8).m.z.free
      go_wp2
      obtain ⟨W9, hW9, d9, A9⟩ := (unveil H8).no (unveil HAP)
      rw [← hW9]
      exact bodyPost_ret (ret_applied d9 rfl rfl) rfl A9
  case pos =>
  have HDO' := hd.1 hall
  have e1 : (r.p == 0) = true := by simp [hall.1]
  have e2 : (B.e == r.e) = true := by simp [hall.2.1]
  have e3 : (B.r == 4) = true := by simp [hall.2.2]
  have e4 : (B.r == 2) = false := by simp [hall.2.2]
  have HDO0 := veil HDO'
  clear HDO' hd hall
  clear hk hf
  go_enter Tryz.func12, Tryz.ntmps12
  go_upto_region 1 with fail
  obtain ⟨W1, hW1, M1⟩ := Mr.made w B a c r
  rw [← hW1]
  clear hW1
  have HC := faultB_yes B a c W1 (hb.next M1.bel) ok
  have HBI := veil (hb.next M1.bel)
  obtain ⟨x0, x1, x2, x3, x4, x5⟩ := M1.b.cells
  have HM := veil M1
  clear M1 ok hb hw hv
  go_upto_region 6 with (first | (go_at_call 32; refine HC.mono ?_; rintro x W2 ⟨rfl, b2⟩; clear HC x0 x1 x2 x3 x4 x5; have M2 := (unveil HM).next b2; obtain ⟨r0, r1, r2, r3, r4, r5, r6, r7, r8, r9⟩ := M2.rc.cells; have HM2 := veil M2; have HB2 := veil ((unveil HBI).next b2); clear M2 b2 HM HBI) | (go_at_call 33; refine (HP _).mono ?_; rintro x W3 ⟨rfl, b3⟩; clear HP r0 r1 r2 r3 r4 r5 r6 r7 r8 r9; have M3 := (unveil HM2).next b3; obtain ⟨x0, x1, x2, x3, x4, x5⟩ := M3.b.cells; have HM3 := veil M3; have HB3 := veil ((unveil HB2).next b3); clear M3 b3 HM2 HB2))
  go_upto_region 7 with (go_at_call 27; refine (bcopy_own B a c _ (unveil HB3) (unveil HS)).mono ?_; rintro x W4 ⟨a2, c2, rfl, own4, i4, u4, b4⟩; have HR4 := veil (Rf.made (unveil HM3) own4 b4); have HB4 := veil ((unveil HB3).next b4); clear own4 i4 u4 b4 x0 x1 x2 x3 x4 x5)
  obtain ⟨W5, hW5, R5⟩ := unveil HR4
  rw [← hW5]
  have HB5 : Hid (BIn W5 B a c) := veil (by rw [hW5]; exact (unveil HB4).next (below1 _ _))
  obtain ⟨x0, x1, x2, x3, x4, x5⟩ := R5.m.b.cells
  obtain ⟨r0, r1, r2, r3, r4, r5, r6, r7, r8, r9⟩ := R5.m.rc.cells
  obtain ⟨k0, k1, k2, k3, k4, k5⟩ := R5.x.cells
  have kf := R5.x.free
  have HR5 := veil R5
  clear hW5 R5 HR4 HB4 HM3 HB3
  go_upto_region 28 with fail
  have hz5 := (unveil HR5).m.z.lt
  have g3 := (unveil HR5).own.alloc (.cells #[.int .i64 r.v.k, .int .i64 r.v.p, .int .i64 r.v.i, .int .i64 r.v.b, .int .i64 r.v.he, .int .i64 r.v.hn] 28)
  have g4 := six_news W5 r.v.k r.v.p r.v.i r.v.b r.v.he r.v.hn 28
  have G1 : Hid (B.es.length + 1 ≤ maxLen) := veil (by have := unveil HL; unfold maxLen; omega)
  have G2 : Hid ((B.es.length + 1) * 48 ≤ 140737488355328) := veil (by have := unveil HL; omega)
  have G3 := veil g3
  have G4 := veil g4
  have G5 : Hid (W3.heap.size ≤ W5.heap.size) := veil (unveil HR5).le
  clear g3 g4
  go_upto_region 34 with (at_builtin; refine wpList_append_own _ rfl (.tmp 136) (.tmp 139) 22 rfl W3.heap.size 28 i6 _ 6 48 Tryz.underlying22 hi6 hz60 hz61 hz62 rfl (by decide) (.slice a2 B.es.length c2) B.es.length ((evFlat B.es).map (Value.int .i64)) rfl (unveil G3) ⟨W5.heap.size, 0, none⟩ 1 1 ([r.v.k, r.v.p, r.v.i, r.v.b, r.v.he, r.v.hn].map (Value.int .i64)) rfl rfl (unveil G4) (ints_oneCell .i64 _) (unveil G1) (unveil G2) (by have := unveil G5; simp; omega) ?_; intro v7 W7 own7 grow7 _; obtain ⟨a8, c8, rfl⟩ := own_form own7; have HR7 := veil ((unveil HR5).added own7 grow7); clear x0 x1 x2 x3 x4 x5 r0 r1 r2 r3 r4 r5 r6 r7 r8 r9 k0 k1 k2 k3 k4 k5 kf own7 grow7; have k5 := (unveil HR7).1.cells.2.2.2.2.2; have kf := (unveil HR7).1.free)
  obtain ⟨D, hDe⟩ : ∃ D, D = B.more [r.v] := ⟨_, rfl⟩
  obtain ⟨W8, hW8, R8⟩ : ∃ W8, W8 = W7.setCell ⟨W4.heap.size, 5, none⟩ (.slice a8 (B.es.length + 1) c8) ∧ Rt w W8 W4.heap.size B a c r D a8 c8 := ⟨_, rfl, by rw [hDe]; exact (unveil HR7).2.last (wf_more (unveil HWF) (unveil HVF))⟩
  rw [← hW8]
  have H8 := veil R8
  clear hW8 R8 HR7 k5 kf G1 G2 G3 G4 G5 HR5 HB5 hz5
  have HDO : Hid (deedOf B r = some D) := veil (by rw [hDe]; exact unveil HDO0)
  have hes : D.es.length = B.es.length + 1 := by rw [hDe]; simp [Bt.more]
  have hD0 : D.r = B.r ∧ D.e = B.e ∧ D.f = B.f ∧ D.t = B.t ∧ D.o = B.o := by rw [hDe]; exact ⟨rfl, rfl, rfl, rfl, rfl⟩
  clear hDe HDO0 hes hD0
  by_cases hD : D.Ok
  case neg =>
    have HAP := veil (apply_bad (unveil HOK) (unveil HF) (unveil HDO) hD)
    have HC := faultB_no D a8 c8 _ (unveil H8).inn hD
    clear hD
    obtain ⟨x0, x1, x2, x3, x4, x5⟩ := (unveil H8).m.b.cells
    obtain ⟨k0, k1, k2, k3, k4, k5⟩ := (unveil H8).x.cells
    go_wp2_with (go_at_call 32; refine HC.mono ?_; rintro x WE ⟨rfl, bE⟩; clear HC x0 x1 x2 x3 x4 x5 k0 k1 k2 k3 k4 k5; have HE := veil ((unveil H8).next bE); obtain ⟨k0, k1, k2, k3, k4, k5⟩ := (unveil HE).x.cells; obtain ⟨z0, z1, z2, z3, z4, z5⟩ := (unveil HE).m.z.cells; have zf := (unveil HE).m.z.free; clear bE)
    obtain ⟨W9, hW9, d9, A9⟩ := (unveil HE).no (unveil HAP)
    rw [← hW9]
    exact bodyPost_ret (ret_applied d9 rfl rfl) rfl A9
  case pos =>
    have HAP := veil (apply_good (unveil HOK) (unveil HF) (unveil HDO) hD)
    have HC := faultB_yes D a8 c8 _ (unveil H8).inn hD
    clear hD
    obtain ⟨x0, x1, x2, x3, x4, x5⟩ := (unveil H8).m.b.cells
    obtain ⟨k0, k1, k2, k3, k4, k5⟩ := (unveil H8).x.cells
    go_wp2_with (go_at_call 32; refine HC.mono ?_; rintro x WE ⟨rfl, bE⟩; clear HC x0 x1 x2 x3 x4 x5 k0 k1 k2 k3 k4 k5; have HE := veil ((unveil H8).next bE); obtain ⟨k0, k1, k2, k3, k4, k5⟩ := (unveil HE).x.cells; obtain ⟨z0, z1, z2, z3, z4, z5⟩ := (unveil HE).m.z.cells; have zf := (unveil HE).m.z.free; clear bE)
    obtain ⟨W9, hW9, d9, A9⟩ := (unveil HE).yes (unveil HAP)
    rw [← hW9]
    exact bodyPost_ret (ret_applied d9 rfl rfl) rfl A9
end Go.Proofs.YtcdopnkabbfooaaGreat

namespace Go.Proofs.YtcdopnkabbfooaaGreat
open Go.RowKit

set_option maxRecDepth 20000 in
set_option maxHeartbeats 8000000 in
theorem applied_6 (B : Bt) (a : Option Addr) (c : Nat) (r : Rec) (w : World) (hb : BIn w B a c) (hw : ∀ u ∈ evFlat B.es, (Lit.int .i64 u).wf = true) (hv : ∀ u ∈ evFlat [r.v], (Lit.int .i64 u).wf = true) (ok : B.Ok) (hf : r.fault = 0) (hk : r.k = 6) :
    Calls Tryz.prog 12 #[bVal B.r B.e B.f B.t B.o a B.es.length c, recIn r] w fun x w' => ApplyR w w' B r x := by
  have HP : ∀ w, Calls Tryz.prog 33 #[recIn r] w fun x w' => x = .returned (.int .i64 0) ∧ Below w.heap.size w w' := fun w => by have := recordFault_any r.k r.q r.e r.p r.v.k r.v.p r.v.i r.v.b r.v.he r.v.hn w; rw [show recordFault r.k r.q r.e r.p r.v.k r.v.p r.v.i r.v.b r.v.he r.v.hn = 0 from hf] at this; exact this
  have HOK := veil ok
  have HF := veil hf
  have HWF := veil hw
  have HVF := veil hv
  have HS : Hid (B.es.length * 48 ≤ 140737488351232) := veil (by have := ok.len; omega)
  have HL := veil ok.len
  have q1 : (r.k == 1) = false := by simp [hk]
  have q2 : (r.k == 2) = false := by simp [hk]
  have q3 : (r.k == 3) = false := by simp [hk]
  have q4 : (r.k == 4) = false := by simp [hk]
  have q5 : (r.k == 5) = false := by simp [hk]
  have q6 : (r.k == 6) = true := by simp [hk]
  have hd : (r.p = 0 ∧ B.e = r.e ∧ B.r = 4 → deedOf B r = some (⟨1, B.e, 0, B.t, B.o, B.es ++ [Ev.brk]⟩ : Bt)) ∧ (¬ (r.p = 0 ∧ B.e = r.e ∧ B.r = 4) → deedOf B r = none) := by
    unfold deedOf
    rw [if_neg (by omega), if_neg (by omega), if_neg (by omega), if_neg (by omega), if_neg (by omega), if_pos hk]
    exact ⟨fun h => if_pos h, fun h => if_neg h⟩
  by_cases hall : r.p = 0 ∧ B.e = r.e ∧ B.r = 4
  case neg =>
    have HAP := veil (apply_none ok hf (hd.2 hall))
    have hcs : ((r.p == 0) = true ∧ (B.e == r.e) = true ∧ (B.r == 4) = false) ∨ ((r.p == 0) = true ∧ (B.e == r.e) = false ∧ (B.r == 4) = true) ∨ ((r.p == 0) = true ∧ (B.e == r.e) = false ∧ (B.r == 4) = false) ∨ ((r.p == 0) = false ∧ (B.e == r.e) = true ∧ (B.r == 4) = true) ∨ ((r.p == 0) = false ∧ (B.e == r.e) = true ∧ (B.r == 4) = false) ∨ ((r.p == 0) = false ∧ (B.e == r.e) = false ∧ (B.r == 4) = true) ∨ ((r.p == 0) = false ∧ (B.e == r.e) = false ∧ (B.r == 4) = false) := by
      have hn : ¬ ((r.p == 0) = true ∧ (B.e == r.e) = true ∧ (B.r == 4) = true) := by
        intro h
        exact hall (by simpa using h)
      clear hall hd
      generalize (r.p == 0) = b0 at hn ⊢
      generalize (B.e == r.e) = b1 at hn ⊢
      generalize (B.r == 4) = b2 at hn ⊢
      revert hn
      cases b0 <;> cases b1 <;> cases b2 <;> simp
    clear hd hall
    rcases hcs with ⟨e1, e2, e3⟩ | ⟨e1, e2, e3⟩ | ⟨e1, e2, e3⟩ | ⟨e1, e2, e3⟩ | ⟨e1, e2, e3⟩ | ⟨e1, e2, e3⟩ | ⟨e1, e2, e3⟩
    all_goals
      obtain ⟨i6, hi6, hz60, hz61, hz62⟩ := info_of Tryz.infoEvent
      clear hk hf
      go_enter Tryz.func12, Tryz.ntmps12
      go_upto_region 1 with fail
      obtain ⟨W1, hW1, M1⟩ := Mr.made w B a c r
      rw [← hW1]
      clear hW1
      have HC := faultB_yes B a c W1 (hb.next M1.bel) ok
      have HBI := veil (hb.next M1.bel)
      obtain ⟨x0, x1, x2, x3, x4, x5⟩ := M1.b.cells
      have HM := veil M1
      clear M1 ok hb hw hv
      go_upto_region 6 with (first | (go_at_call 32; refine HC.mono ?_; rintro x W2 ⟨rfl, b2⟩; clear HC x0 x1 x2 x3 x4 x5; have M2 := (unveil HM).next b2; obtain ⟨r0, r1, r2, r3, r4, r5, r6, r7, r8, r9⟩ := M2.rc.cells; have HM2 := veil M2; have HB2 := veil ((unveil HBI).next b2); clear M2 b2 HM HBI) | (go_at_call 33; refine (HP _).mono ?_; rintro x W3 ⟨rfl, b3⟩; clear HP r0 r1 r2 r3 r4 r5 r6 r7 r8 r9; have M3 := (unveil HM2).next b3; obtain ⟨x0, x1, x2, x3, x4, x5⟩ := M3.b.cells; have HM3 := veil M3; have HB3 := veil ((unveil HB2).next b3); clear M3 b3 HM2 HB2))
      go_upto_region 7 with (go_at_call 27; refine (bcopy_own B a c _ (unveil HB3) (unveil HS)).mono ?_; rintro x W4 ⟨a2, c2, rfl, own4, i4, u4, b4⟩; have HR4 := veil (Rf.made (unveil HM3) own4 b4); have HB4 := veil ((unveil HB3).next b4); clear own4 i4 u4 b4 x0 x1 x2 x3 x4 x5)
      obtain ⟨W5, hW5, R5⟩ := unveil HR4
      rw [← hW5]
      have HB5 : Hid (BIn W5 B a c) := veil (by rw [hW5]; exact (unveil HB4).next (below1 _ _))
      obtain ⟨x0, x1, x2, x3, x4, x5⟩ := R5.m.b.cells
      obtain ⟨r0, r1, r2, r3, r4, r5, r6, r7, r8, r9⟩ := R5.m.rc.cells
      obtain ⟨k0, k1, k2, k3, k4, k5⟩ := R5.x.cells
      have kf := R5.x.free
      have HR5 := veil R5
      clear hW5 R5 HR4 HB4 HM3 HB3
      go_upto_region 33 with fail
      obtain ⟨W6, hW6, R6⟩ : ∃ W6, W6 = (W5.setCell ⟨W4.heap.size, 0, none⟩ (.int .i64 1)).setCell ⟨W4.heap.size, 2, none⟩ (.int .i64 0) ∧ Rf w W6 W3.heap.size W4.heap.size B a c r ⟨1, B.e, 0, B.t, B.o, B.es⟩ a2 c2 := by
        refine ⟨_, rfl, (unveil HR5).turn ((Turned.set _ _ _ _).trans (Turned.set _ _ _ _)) rfl ?_⟩
        have := (unveil HR5).x
        unfold bBlock at this ⊢
        rw [heap_setB (heap_setB this)]
        simp
      rw [← hW6]
      clear hW6 x0 x1 x2 x3 x4 x5 r0 r1 r2 r3 r4 r5 r6 r7 r8 r9 k0 k1 k2 k3 k4 k5 kf
      obtain ⟨k0, k1, k2, k3, k4, k5⟩ := R6.x.cells
      have g3 := R6.own.alloc (.cells #[.int .i64 4, .int .i64 0, .int .i64 0, .int .i64 0, .int .i64 0, .int .i64 0] 28)
      have g4 := six_news W6 4 0 0 0 0 0 28
      have G1 : Hid (B.es.length + 1 ≤ maxLen) := veil (by have := unveil HL; unfold maxLen; omega)
      have G2 : Hid ((B.es.length + 1) * 48 ≤ 140737488355328) := veil (by have := unveil HL; omega)
      have G3 := veil g3
      have G4 := veil g4
      have G5 : Hid (W3.heap.size ≤ W6.heap.size) := veil R6.le
      have HR6 := veil R6
      clear g3 g4 R6
      go_upto_region 34 with (at_builtin; refine wpList_append_own _ rfl (.tmp 156) (.tmp 158) 22 rfl W3.heap.size 28 i6 _ 6 48 Tryz.underlying22 hi6 hz60 hz61 hz62 rfl (by decide) (.slice a2 B.es.length c2) B.es.length ((evFlat B.es).map (Value.int .i64)) rfl (unveil G3) ⟨W6.heap.size, 0, none⟩ 1 1 ([4, 0, 0, 0, 0, 0].map (Value.int .i64)) rfl rfl (unveil G4) (ints_oneCell .i64 _) (unveil G1) (unveil G2) (by have := unveil G5; simp; omega) ?_; intro v7 W7 own7 grow7 _; obtain ⟨a8, c8, rfl⟩ := own_form own7; have HR7 := veil ((unveil HR6).added (x := Ev.brk) own7 grow7); clear k0 k1 k2 k3 k4 k5 own7 grow7; have k5 := (unveil HR7).1.cells.2.2.2.2.2; have kf := (unveil HR7).1.free)
      obtain ⟨D, hDe⟩ : ∃ D : Bt, D = ⟨1, B.e, 0, B.t, B.o, B.es ++ [Ev.brk]⟩ := ⟨_, rfl⟩
      obtain ⟨W8, hW8, R8⟩ : ∃ W8, W8 = W7.setCell ⟨W4.heap.size, 5, none⟩ (.slice a8 (B.es.length + 1) c8) ∧ Rt w W8 W4.heap.size B a c r D a8 c8 := ⟨_, rfl, by rw [hDe]; exact (unveil HR7).2.last (wf_more (unveil HWF) (by decide))⟩
      rw [← hW8]
      have H8 := veil R8
      clear hW8 R8 HR7 HR6 k5 kf G1 G2 G3 G4 G5 HR5 HB5
      obtain ⟨x0, x1, x2, x3, x4, x5⟩ := (unveil H8).m.b.cells
      obtain ⟨z0, z1, z2, z3, z4, z5⟩ := (unveil H8).m.z.cells
      have zf := (unveil H8).m.z.free
      go_wp2
      obtain ⟨W9, hW9, d9, A9⟩ := (unveil H8).no (unveil HAP)
      rw [← hW9]
      exact bodyPost_ret (ret_applied d9 rfl rfl) rfl A9
  case pos =>
  have HDO0 := veil (hd.1 hall)
  have e1 : (r.p == 0) = true := by simpa using hall.1
  have e2 : (B.e == r.e) = true := by simpa using hall.2.1
  have e3 : (B.r == 4) = true := by simpa using hall.2.2
  have f1 : (B.r == 2) = false := by have := hall; simp; omega
  clear hd hall
  obtain ⟨i6, hi6, hz60, hz61, hz62⟩ := info_of Tryz.infoEvent
  clear hk hf
  go_enter Tryz.func12, Tryz.ntmps12
  go_upto_region 1 with fail
  obtain ⟨W1, hW1, M1⟩ := Mr.made w B a c r
  rw [← hW1]
  clear hW1
  have HC := faultB_yes B a c W1 (hb.next M1.bel) ok
  have HBI := veil (hb.next M1.bel)
  obtain ⟨x0, x1, x2, x3, x4, x5⟩ := M1.b.cells
  have HM := veil M1
  clear M1 ok hb hw hv
  go_upto_region 6 with (first | (go_at_call 32; refine HC.mono ?_; rintro x W2 ⟨rfl, b2⟩; clear HC x0 x1 x2 x3 x4 x5; have M2 := (unveil HM).next b2; obtain ⟨r0, r1, r2, r3, r4, r5, r6, r7, r8, r9⟩ := M2.rc.cells; have HM2 := veil M2; have HB2 := veil ((unveil HBI).next b2); clear M2 b2 HM HBI) | (go_at_call 33; refine (HP _).mono ?_; rintro x W3 ⟨rfl, b3⟩; clear HP r0 r1 r2 r3 r4 r5 r6 r7 r8 r9; have M3 := (unveil HM2).next b3; obtain ⟨x0, x1, x2, x3, x4, x5⟩ := M3.b.cells; have HM3 := veil M3; have HB3 := veil ((unveil HB2).next b3); clear M3 b3 HM2 HB2))
  go_upto_region 7 with (go_at_call 27; refine (bcopy_own B a c _ (unveil HB3) (unveil HS)).mono ?_; rintro x W4 ⟨a2, c2, rfl, own4, i4, u4, b4⟩; have HR4 := veil (Rf.made (unveil HM3) own4 b4); have HB4 := veil ((unveil HB3).next b4); clear own4 i4 u4 b4 x0 x1 x2 x3 x4 x5)
  obtain ⟨W5, hW5, R5⟩ := unveil HR4
  rw [← hW5]
  have HB5 : Hid (BIn W5 B a c) := veil (by rw [hW5]; exact (unveil HB4).next (below1 _ _))
  obtain ⟨x0, x1, x2, x3, x4, x5⟩ := R5.m.b.cells
  obtain ⟨r0, r1, r2, r3, r4, r5, r6, r7, r8, r9⟩ := R5.m.rc.cells
  obtain ⟨k0, k1, k2, k3, k4, k5⟩ := R5.x.cells
  have kf := R5.x.free
  have HR5 := veil R5
  clear hW5 R5 HR4 HB4 HM3 HB3
  go_upto_region 33 with fail
  obtain ⟨W6, hW6, R6⟩ : ∃ W6, W6 = (W5.setCell ⟨W4.heap.size, 0, none⟩ (.int .i64 1)).setCell ⟨W4.heap.size, 2, none⟩ (.int .i64 0) ∧ Rf w W6 W3.heap.size W4.heap.size B a c r ⟨1, B.e, 0, B.t, B.o, B.es⟩ a2 c2 := by
    refine ⟨_, rfl, (unveil HR5).turn ((Turned.set _ _ _ _).trans (Turned.set _ _ _ _)) rfl ?_⟩
    have := (unveil HR5).x
    unfold bBlock at this ⊢
    rw [heap_setB (heap_setB this)]
    simp
  rw [← hW6]
  clear hW6 x0 x1 x2 x3 x4 x5 r0 r1 r2 r3 r4 r5 r6 r7 r8 r9 k0 k1 k2 k3 k4 k5 kf
  obtain ⟨k0, k1, k2, k3, k4, k5⟩ := R6.x.cells
  have g3 := R6.own.alloc (.cells #[.int .i64 4, .int .i64 0, .int .i64 0, .int .i64 0, .int .i64 0, .int .i64 0] 28)
  have g4 := six_news W6 4 0 0 0 0 0 28
  have G1 : Hid (B.es.length + 1 ≤ maxLen) := veil (by have := unveil HL; unfold maxLen; omega)
  have G2 : Hid ((B.es.length + 1) * 48 ≤ 140737488355328) := veil (by have := unveil HL; omega)
  have G3 := veil g3
  have G4 := veil g4
  have G5 : Hid (W3.heap.size ≤ W6.heap.size) := veil R6.le
  have HR6 := veil R6
  clear g3 g4 R6
  go_upto_region 34 with (at_builtin; refine wpList_append_own _ rfl (.tmp 156) (.tmp 158) 22 rfl W3.heap.size 28 i6 _ 6 48 Tryz.underlying22 hi6 hz60 hz61 hz62 rfl (by decide) (.slice a2 B.es.length c2) B.es.length ((evFlat B.es).map (Value.int .i64)) rfl (unveil G3) ⟨W6.heap.size, 0, none⟩ 1 1 ([4, 0, 0, 0, 0, 0].map (Value.int .i64)) rfl rfl (unveil G4) (ints_oneCell .i64 _) (unveil G1) (unveil G2) (by have := unveil G5; simp; omega) ?_; intro v7 W7 own7 grow7 _; obtain ⟨a8, c8, rfl⟩ := own_form own7; have HR7 := veil ((unveil HR6).added (x := Ev.brk) own7 grow7); clear k0 k1 k2 k3 k4 k5 own7 grow7; have k5 := (unveil HR7).1.cells.2.2.2.2.2; have kf := (unveil HR7).1.free)
  obtain ⟨D, hDe⟩ : ∃ D : Bt, D = ⟨1, B.e, 0, B.t, B.o, B.es ++ [Ev.brk]⟩ := ⟨_, rfl⟩
  obtain ⟨W8, hW8, R8⟩ : ∃ W8, W8 = W7.setCell ⟨W4.heap.size, 5, none⟩ (.slice a8 (B.es.length + 1) c8) ∧ Rt w W8 W4.heap.size B a c r D a8 c8 := ⟨_, rfl, by rw [hDe]; exact (unveil HR7).2.last (wf_more (unveil HWF) (by decide))⟩
  rw [← hW8]
  have H8 := veil R8
  clear hW8 R8 HR7 HR6 k5 kf G1 G2 G3 G4 G5 HR5 HB5
  have HDO : Hid (deedOf B r = some D) := veil (by rw [hDe]; exact unveil HDO0)
  clear hDe HDO0
  by_cases hD : D.Ok
  case neg =>
    have HAP := veil (apply_bad (unveil HOK) (unveil HF) (unveil HDO) hD)
    have HC := faultB_no D a8 c8 _ (unveil H8).inn hD
    clear hD
    obtain ⟨x0, x1, x2, x3, x4, x5⟩ := (unveil H8).m.b.cells
    obtain ⟨k0, k1, k2, k3, k4, k5⟩ := (unveil H8).x.cells
    go_wp2_with (go_at_call 32; refine HC.mono ?_; rintro x WE ⟨rfl, bE⟩; clear HC x0 x1 x2 x3 x4 x5 k0 k1 k2 k3 k4 k5; have HE := veil ((unveil H8).next bE); obtain ⟨k0, k1, k2, k3, k4, k5⟩ := (unveil HE).x.cells; obtain ⟨z0, z1, z2, z3, z4, z5⟩ := (unveil HE).m.z.cells; have zf := (unveil HE).m.z.free; clear bE)
    obtain ⟨W9, hW9, d9, A9⟩ := (unveil HE).no (unveil HAP)
    rw [← hW9]
    exact bodyPost_ret (ret_applied d9 rfl rfl) rfl A9
  case pos =>
    have HAP := veil (apply_good (unveil HOK) (unveil HF) (unveil HDO) hD)
    have HC := faultB_yes D a8 c8 _ (unveil H8).inn hD
    clear hD
    obtain ⟨x0, x1, x2, x3, x4, x5⟩ := (unveil H8).m.b.cells
    obtain ⟨k0, k1, k2, k3, k4, k5⟩ := (unveil H8).x.cells
    go_wp2_with (go_at_call 32; refine HC.mono ?_; rintro x WE ⟨rfl, bE⟩; clear HC x0 x1 x2 x3 x4 x5 k0 k1 k2 k3 k4 k5; have HE := veil ((unveil H8).next bE); obtain ⟨k0, k1, k2, k3, k4, k5⟩ := (unveil HE).x.cells; obtain ⟨z0, z1, z2, z3, z4, z5⟩ := (unveil HE).m.z.cells; have zf := (unveil HE).m.z.free; clear bE)
    obtain ⟨W9, hW9, d9, A9⟩ := (unveil HE).yes (unveil HAP)
    rw [← hW9]
    exact bodyPost_ret (ret_applied d9 rfl rfl) rfl A9
end Go.Proofs.YtcdopnkabbfooaaGreat

namespace Go.Proofs.YtcdopnkabbfooaaGreat
open Go.RowKit

set_option maxRecDepth 20000 in
set_option maxHeartbeats 8000000 in
theorem applied_7 (B : Bt) (a : Option Addr) (c : Nat) (r : Rec) (w : World) (hb : BIn w B a c) (hw : ∀ u ∈ evFlat B.es, (Lit.int .i64 u).wf = true) (hv : ∀ u ∈ evFlat [r.v], (Lit.int .i64 u).wf = true) (ok : B.Ok) (hf : r.fault = 0) (hk : r.k = 7) :
    Calls Tryz.prog 12 #[bVal B.r B.e B.f B.t B.o a B.es.length c, recIn r] w fun x w' => ApplyR w w' B r x := by
  have HP : ∀ w, Calls Tryz.prog 33 #[recIn r] w fun x w' => x = .returned (.int .i64 0) ∧ Below w.heap.size w w' := fun w => by have := recordFault_any r.k r.q r.e r.p r.v.k r.v.p r.v.i r.v.b r.v.he r.v.hn w; rw [show recordFault r.k r.q r.e r.p r.v.k r.v.p r.v.i r.v.b r.v.he r.v.hn = 0 from hf] at this; exact this
  have HOK := veil ok
  have HF := veil hf
  have HWF := veil hw
  have HVF := veil hv
  have HS : Hid (B.es.length * 48 ≤ 140737488351232) := veil (by have := ok.len; omega)
  have HL := veil ok.len
  have q1 : (r.k == 1) = false := by simp [hk]
  have q2 : (r.k == 2) = false := by simp [hk]
  have q3 : (r.k == 3) = false := by simp [hk]
  have q4 : (r.k == 4) = false := by simp [hk]
  have q5 : (r.k == 5) = false := by simp [hk]
  have q6 : (r.k == 6) = false := by simp [hk]
  have hd : (r.p = 0 ∧ B.e = r.e ∧ B.r = 3 → deedOf B r = some (⟨0, B.e, 0, 0, 0, []⟩ : Bt)) ∧ (¬ (r.p = 0 ∧ B.e = r.e ∧ B.r = 3) → deedOf B r = none) := by
    unfold deedOf
    rw [if_neg (by omega), if_neg (by omega), if_neg (by omega), if_neg (by omega), if_neg (by omega), if_neg (by omega)]
    exact ⟨fun h => if_pos h, fun h => if_neg h⟩
  by_cases hall : r.p = 0 ∧ B.e = r.e ∧ B.r = 3
  case neg =>
    have HAP := veil (apply_none ok hf (hd.2 hall))
    have hcs : ((r.p == 0) = true ∧ (B.e == r.e) = true ∧ (B.r == 3) = false) ∨ ((r.p == 0) = true ∧ (B.e == r.e) = false ∧ (B.r == 3) = true) ∨ ((r.p == 0) = true ∧ (B.e == r.e) = false ∧ (B.r == 3) = false) ∨ ((r.p == 0) = false ∧ (B.e == r.e) = true ∧ (B.r == 3) = true) ∨ ((r.p == 0) = false ∧ (B.e == r.e) = true ∧ (B.r == 3) = false) ∨ ((r.p == 0) = false ∧ (B.e == r.e) = false ∧ (B.r == 3) = true) ∨ ((r.p == 0) = false ∧ (B.e == r.e) = false ∧ (B.r == 3) = false) := by
      have hn : ¬ ((r.p == 0) = true ∧ (B.e == r.e) = true ∧ (B.r == 3) = true) := by
        intro h
        exact hall (by simpa using h)
      clear hall hd
      generalize (r.p == 0) = b0 at hn ⊢
      generalize (B.e == r.e) = b1 at hn ⊢
      generalize (B.r == 3) = b2 at hn ⊢
      revert hn
      cases b0 <;> cases b1 <;> cases b2 <;> simp
    clear hd hall
    rcases hcs with ⟨e1, e2, e3⟩ | ⟨e1, e2, e3⟩ | ⟨e1, e2, e3⟩ | ⟨e1, e2, e3⟩ | ⟨e1, e2, e3⟩ | ⟨e1, e2, e3⟩ | ⟨e1, e2, e3⟩
    all_goals
      clear hk hf
      go_enter Tryz.func12, Tryz.ntmps12
      go_upto_region 1 with fail
      obtain ⟨W1, hW1, M1⟩ := Mr.made w B a c r
      rw [← hW1]
      clear hW1
      have HC := faultB_yes B a c W1 (hb.next M1.bel) ok
      have HBI := veil (hb.next M1.bel)
      obtain ⟨x0, x1, x2, x3, x4, x5⟩ := M1.b.cells
      have HM := veil M1
      clear M1 ok hb hw hv
      go_upto_region 6 with (first | (go_at_call 32; refine HC.mono ?_; rintro x W2 ⟨rfl, b2⟩; clear HC x0 x1 x2 x3 x4 x5; have M2 := (unveil HM).next b2; obtain ⟨r0, r1, r2, r3, r4, r5, r6, r7, r8, r9⟩ := M2.rc.cells; have HM2 := veil M2; have HB2 := veil ((unveil HBI).next b2); clear M2 b2 HM HBI) | (go_at_call 33; refine (HP _).mono ?_; rintro x W3 ⟨rfl, b3⟩; clear HP r0 r1 r2 r3 r4 r5 r6 r7 r8 r9; have M3 := (unveil HM2).next b3; obtain ⟨x0, x1, x2, x3, x4, x5⟩ := M3.b.cells; have HM3 := veil M3; have HB3 := veil ((unveil HB2).next b3); clear M3 b3 HM2 HB2))
      go_upto_region 7 with (go_at_call 27; refine (bcopy_own B a c _ (unveil HB3) (unveil HS)).mono ?_; rintro x W4 ⟨a2, c2, rfl, own4, i4, u4, b4⟩; have HR4 := veil (Rf.made (unveil HM3) own4 b4); have HB4 := veil ((unveil HB3).next b4); clear own4 i4 u4 b4 x0 x1 x2 x3 x4 x5)
      obtain ⟨W5, hW5, R5⟩ := unveil HR4
      rw [← hW5]
      have HB5 : Hid (BIn W5 B a c) := veil (by rw [hW5]; exact (unveil HB4).next (below1 _ _))
      obtain ⟨x0, x1, x2, x3, x4, x5⟩ := R5.m.b.cells
      obtain ⟨r0, r1, r2, r3, r4, r5, r6, r7, r8, r9⟩ := R5.m.rc.cells
      obtain ⟨k0, k1, k2, k3, k4, k5⟩ := R5.x.cells
      have kf := R5.x.free
      have HR5 := veil R5
      clear hW5 R5 HR4 HB4 HM3 HB3
      go_upto_region 34 with fail
      obtain ⟨D, hDe⟩ : ∃ D : Bt, D = ⟨0, B.e, 0, 0, 0, []⟩ := ⟨_, rfl⟩
      obtain ⟨W8, hW8, d8, _, t8⟩ := b_stored (unveil HR5).x (Below.refl W4.heap.size W5) (Nat.le_refl _) 0 B.e 0 0 0 none 0 0
      rw [← hW8]
      obtain ⟨a8, ha8⟩ : ∃ a8 : Option Addr, a8 = none := ⟨_, rfl⟩
      obtain ⟨c8, hc8⟩ : ∃ c8 : Nat, c8 = 0 := ⟨_, rfl⟩
      have R8 : Rt w W8 W4.heap.size B a c r D a8 c8 := by
        rw [hDe, ha8, hc8]
        exact ⟨(unveil HR5).m.turned t8 (unveil HR5).hX, d8, ⟨RowK.nil _ _ _, Nat.le_refl _, fun _ => rfl⟩, (fun y hy => by cases hy), (unveil HR5).hX⟩
      have H8 := veil R8
      clear hW8 R8 HR5 HB5 d8 t8 ha8 hc8 x0 x1 x2 x3 x4 x5 r0 r1 r2 r3 r4 r5 r6 r7 r8 r9 k0 k1 k2 k3 k4 k5 kf
      obtain ⟨x0, x1, x2, x3, x4, x5⟩ := (unveil H8).m.b.cells
      obtain ⟨z0, z1, z2, z3, z4, z5⟩ := (unveil H8).m.z.cells
      have zf := (unveil H8).m.z.free
      go_wp2
      obtain ⟨W9, hW9, d9, A9⟩ := (unveil H8).no (unveil HAP)
      rw [← hW9]
      exact bodyPost_ret (ret_applied d9 rfl rfl) rfl A9
  case pos =>
  have HDO0 := veil (hd.1 hall)
  have e1 : (r.p == 0) = true := by simpa using hall.1
  have e2 : (B.e == r.e) = true := by simpa using hall.2.1
  have e3 : (B.r == 3) = true := by simpa using hall.2.2
  have f1 : (B.r == 2) = false := by have := hall; simp; omega
  clear hd hall
  clear hk hf
  go_enter Tryz.func12, Tryz.ntmps12
  go_upto_region 1 with fail
  obtain ⟨W1, hW1, M1⟩ := Mr.made w B a c r
  rw [← hW1]
  clear hW1
  have HC := faultB_yes B a c W1 (hb.next M1.bel) ok
  have HBI := veil (hb.next M1.bel)
  obtain ⟨x0, x1, x2, x3, x4, x5⟩ := M1.b.cells
  have HM := veil M1
  clear M1 ok hb hw hv
  go_upto_region 6 with (first | (go_at_call 32; refine HC.mono ?_; rintro x W2 ⟨rfl, b2⟩; clear HC x0 x1 x2 x3 x4 x5; have M2 := (unveil HM).next b2; obtain ⟨r0, r1, r2, r3, r4, r5, r6, r7, r8, r9⟩ := M2.rc.cells; have HM2 := veil M2; have HB2 := veil ((unveil HBI).next b2); clear M2 b2 HM HBI) | (go_at_call 33; refine (HP _).mono ?_; rintro x W3 ⟨rfl, b3⟩; clear HP r0 r1 r2 r3 r4 r5 r6 r7 r8 r9; have M3 := (unveil HM2).next b3; obtain ⟨x0, x1, x2, x3, x4, x5⟩ := M3.b.cells; have HM3 := veil M3; have HB3 := veil ((unveil HB2).next b3); clear M3 b3 HM2 HB2))
  go_upto_region 7 with (go_at_call 27; refine (bcopy_own B a c _ (unveil HB3) (unveil HS)).mono ?_; rintro x W4 ⟨a2, c2, rfl, own4, i4, u4, b4⟩; have HR4 := veil (Rf.made (unveil HM3) own4 b4); have HB4 := veil ((unveil HB3).next b4); clear own4 i4 u4 b4 x0 x1 x2 x3 x4 x5)
  obtain ⟨W5, hW5, R5⟩ := unveil HR4
  rw [← hW5]
  have HB5 : Hid (BIn W5 B a c) := veil (by rw [hW5]; exact (unveil HB4).next (below1 _ _))
  obtain ⟨x0, x1, x2, x3, x4, x5⟩ := R5.m.b.cells
  obtain ⟨r0, r1, r2, r3, r4, r5, r6, r7, r8, r9⟩ := R5.m.rc.cells
  obtain ⟨k0, k1, k2, k3, k4, k5⟩ := R5.x.cells
  have kf := R5.x.free
  have HR5 := veil R5
  clear hW5 R5 HR4 HB4 HM3 HB3
  go_upto_region 34 with fail
  obtain ⟨D, hDe⟩ : ∃ D : Bt, D = ⟨0, B.e, 0, 0, 0, []⟩ := ⟨_, rfl⟩
  obtain ⟨W8, hW8, d8, _, t8⟩ := b_stored (unveil HR5).x (Below.refl W4.heap.size W5) (Nat.le_refl _) 0 B.e 0 0 0 none 0 0
  rw [← hW8]
  obtain ⟨a8, ha8⟩ : ∃ a8 : Option Addr, a8 = none := ⟨_, rfl⟩
  obtain ⟨c8, hc8⟩ : ∃ c8 : Nat, c8 = 0 := ⟨_, rfl⟩
  have R8 : Rt w W8 W4.heap.size B a c r D a8 c8 := by
    rw [hDe, ha8, hc8]
    exact ⟨(unveil HR5).m.turned t8 (unveil HR5).hX, d8, ⟨RowK.nil _ _ _, Nat.le_refl _, fun _ => rfl⟩, (fun y hy => by cases hy), (unveil HR5).hX⟩
  have H8 := veil R8
  clear hW8 R8 HR5 HB5 d8 t8 ha8 hc8 x0 x1 x2 x3 x4 x5 r0 r1 r2 r3 r4 r5 r6 r7 r8 r9 k0 k1 k2 k3 k4 k5 kf
  have HDO : Hid (deedOf B r = some D) := veil (by rw [hDe]; exact unveil HDO0)
  clear hDe HDO0
  by_cases hD : D.Ok
  case neg =>
    have HAP := veil (apply_bad (unveil HOK) (unveil HF) (unveil HDO) hD)
    have HC := faultB_no D a8 c8 _ (unveil H8).inn hD
    clear hD
    obtain ⟨x0, x1, x2, x3, x4, x5⟩ := (unveil H8).m.b.cells
    obtain ⟨k0, k1, k2, k3, k4, k5⟩ := (unveil H8).x.cells
    go_wp2_with (go_at_call 32; refine HC.mono ?_; rintro x WE ⟨rfl, bE⟩; clear HC x0 x1 x2 x3 x4 x5 k0 k1 k2 k3 k4 k5; have HE := veil ((unveil H8).next bE); obtain ⟨k0, k1, k2, k3, k4, k5⟩ := (unveil HE).x.cells; obtain ⟨z0, z1, z2, z3, z4, z5⟩ := (unveil HE).m.z.cells; have zf := (unveil HE).m.z.free; clear bE)
    obtain ⟨W9, hW9, d9, A9⟩ := (unveil HE).no (unveil HAP)
    rw [← hW9]
    exact bodyPost_ret (ret_applied d9 rfl rfl) rfl A9
  case pos =>
    have HAP := veil (apply_good (unveil HOK) (unveil HF) (unveil HDO) hD)
    have HC := faultB_yes D a8 c8 _ (unveil H8).inn hD
    clear hD
    obtain ⟨x0, x1, x2, x3, x4, x5⟩ := (unveil H8).m.b.cells
    obtain ⟨k0, k1, k2, k3, k4, k5⟩ := (unveil H8).x.cells
    go_wp2_with (go_at_call 32; refine HC.mono ?_; rintro x WE ⟨rfl, bE⟩; clear HC x0 x1 x2 x3 x4 x5 k0 k1 k2 k3 k4 k5; have HE := veil ((unveil H8).next bE); obtain ⟨k0, k1, k2, k3, k4, k5⟩ := (unveil HE).x.cells; obtain ⟨z0, z1, z2, z3, z4, z5⟩ := (unveil HE).m.z.cells; have zf := (unveil HE).m.z.free; clear bE)
    obtain ⟨W9, hW9, d9, A9⟩ := (unveil HE).yes (unveil HAP)
    rw [← hW9]
    exact bodyPost_ret (ret_applied d9 rfl rfl) rfl A9
end Go.Proofs.YtcdopnkabbfooaaGreat

namespace Go.Proofs.YtcdopnkabbfooaaGreat
open Go.RowKit

set_option maxRecDepth 20000 in
set_option maxHeartbeats 4000000 in
theorem apply_no (B : Bt) (a : Option Addr) (c : Nat) (r : Rec) (w : World) (hb : BIn w B a c) (ok : ¬ B.Ok) :
    Calls Tryz.prog 11 #[bVal B.r B.e B.f B.t B.o a B.es.length c, recIn r] w fun x w' => ApplyR w w' B r x := by
  have HA := veil (apply_state (r := r) ok)
  go_enter Tryz.func11, Tryz.ntmps11
  go_upto_region 1 with fail
  obtain ⟨W1, hW1, M1⟩ := Mr.made w B a c r
  rw [← hW1]
  clear hW1
  have HC := bcheck_no B a c W1 (hb.next M1.bel) ok
  obtain ⟨x0, x1, x2, x3, x4, x5⟩ := M1.b.cells
  have HM := veil M1
  clear M1 ok hb
  go_wp2_with (go_at_call 28; refine HC.mono ?_; rintro x W2 ⟨rfl, b2⟩; clear HC x0 x1 x2 x3 x4 x5; have M2 := (unveil HM).next b2; obtain ⟨z0, z1, z2, z3, z4, z5⟩ := M2.z.cells; have zf := M2.z.free; have HM2 := veil M2; clear M2 b2 HM)
  obtain ⟨W4, hW4, d4, b4, _⟩ := b_stored (unveil HM2).z (unveil HM2).bel (show w.heap.size ≤ w.heap.size + 2 by omega) 0 0 0 0 0 none 0 0
  rw [← hW4]
  exact bodyPost_ret (ret_apply d4 rfl rfl) rfl (ApplyR.none (unveil HA) b4)
theorem tells_oks {es : List Ev} {s : St} {ans : List An} (h : Tells es s ans) : ∀ v ∈ es, v.Ok := by
  induction h with
  | nil => intro v hv; cases hv
  | snoc h hv st ih =>
    intro v hv'
    rcases List.mem_append.1 hv' with h1 | h1
    · exact ih v h1
    · rw [List.mem_singleton.1 h1]; exact hv
theorem ok_wf {B : Bt} (ok : B.Ok) : ∀ u ∈ evFlat B.es, (Lit.int .i64 u).wf = true := by
  obtain ⟨s, ans, h⟩ := ok.told
  exact evFlat_wf (tells_oks h)
theorem apply_full (B : Bt) (a : Option Addr) (c : Nat) (r : Rec) (w : World) (hb : BIn w B a c) (hv : ∀ u ∈ evFlat [r.v], (Lit.int .i64 u).wf = true) :
    Calls Tryz.prog 11 #[bVal B.r B.e B.f B.t B.o a B.es.length c, recIn r] w fun x w' => ApplyR w w' B r x := by
  by_cases ok : B.Ok
  · exact apply_any B a c r w hb (ok_wf ok) hv
  · exact apply_no B a c r w hb ok
set_option maxRecDepth 20000 in
set_option maxHeartbeats 4000000 in
theorem applied_no (B : Bt) (a : Option Addr) (c : Nat) (r : Rec) (w : World) (hb : BIn w B a c) (ok : ¬ B.Ok) :
    Calls Tryz.prog 12 #[bVal B.r B.e B.f B.t B.o a B.es.length c, recIn r] w fun x w' => ApplyR w w' B r x := by
  have HA := veil (apply_state (r := r) ok)
  go_enter Tryz.func12, Tryz.ntmps12
  go_upto_region 1 with fail
  obtain ⟨W1, hW1, M1⟩ := Mr.made w B a c r
  rw [← hW1]
  clear hW1
  have HC := faultB_no B a c W1 (hb.next M1.bel) ok
  obtain ⟨x0, x1, x2, x3, x4, x5⟩ := M1.b.cells
  have HM := veil M1
  clear M1 ok hb
  go_wp2_with (go_at_call 32; refine HC.mono ?_; rintro x W2 ⟨rfl, b2⟩; clear HC x0 x1 x2 x3 x4 x5; have M2 := (unveil HM).next b2; obtain ⟨z0, z1, z2, z3, z4, z5⟩ := M2.z.cells; have zf := M2.z.free; have HM2 := veil M2; clear M2 b2 HM)
  obtain ⟨W4, hW4, d4, b4, _⟩ := b_stored (unveil HM2).z (unveil HM2).bel (show w.heap.size ≤ w.heap.size + 2 by omega) 0 0 0 0 0 none 0 0
  rw [← hW4]
  exact bodyPost_ret (ret_applied d4 rfl rfl) rfl (ApplyR.none (unveil HA) b4)
set_option maxRecDepth 20000 in
set_option maxHeartbeats 4000000 in
theorem applied_fault (B : Bt) (a : Option Addr) (c : Nat) (r : Rec) (w : World) (hb : BIn w B a c) (ok : B.Ok) (hf : ¬ r.fault = 0) :
    Calls Tryz.prog 12 #[bVal B.r B.e B.f B.t B.o a B.es.length c, recIn r] w fun x w' => ApplyR w w' B r x := by
  have HP : ∀ w, Calls Tryz.prog 33 #[recIn r] w fun x w' => x = .returned (.int .i64 r.fault) ∧ Below w.heap.size w w' := fun w => recordFault_any _ _ _ _ _ _ _ _ _ _ w
  have HA := veil (apply_fault ok hf)
  have e1 : (r.fault != 0) = true := by simp [hf]
  generalize r.fault = fl at *
  go_enter Tryz.func12, Tryz.ntmps12
  go_upto_region 1 with fail
  obtain ⟨W1, hW1, M1⟩ := Mr.made w B a c r
  rw [← hW1]
  clear hW1
  have HC := faultB_yes B a c W1 (hb.next M1.bel) ok
  obtain ⟨x0, x1, x2, x3, x4, x5⟩ := M1.b.cells
  have HM := veil M1
  clear M1 ok hb hf
  go_wp2_with (first | (go_at_call 32; refine HC.mono ?_; rintro x W2 ⟨rfl, b2⟩; clear HC x0 x1 x2 x3 x4 x5; have M2 := (unveil HM).next b2; obtain ⟨r0, r1, r2, r3, r4, r5, r6, r7, r8, r9⟩ := M2.rc.cells; have HM2 := veil M2; clear M2 b2 HM) | (go_at_call 33; refine (HP _).mono ?_; rintro x W3 ⟨rfl, b3⟩; clear HP r0 r1 r2 r3 r4 r5 r6 r7 r8 r9; have M3 := (unveil HM2).next b3; obtain ⟨z0, z1, z2, z3, z4, z5⟩ := M3.z.cells; have zf := M3.z.free; have HM3 := veil M3; clear M3 b3 HM2))
  obtain ⟨W4, hW4, d4, b4, _⟩ := b_stored (unveil HM3).z (unveil HM3).bel (show w.heap.size ≤ w.heap.size + 2 by omega) 0 0 0 0 0 none 0 0
  rw [← hW4]
  exact bodyPost_ret (ret_applied d4 rfl rfl) rfl (ApplyR.none (unveil HA) b4)
theorem applied_full (B : Bt) (a : Option Addr) (c : Nat) (r : Rec) (w : World) (hb : BIn w B a c) (hv : ∀ u ∈ evFlat [r.v], (Lit.int .i64 u).wf = true) :
    Calls Tryz.prog 12 #[bVal B.r B.e B.f B.t B.o a B.es.length c, recIn r] w fun x w' => ApplyR w w' B r x := by
  by_cases ok : B.Ok
  case neg => exact applied_no B a c r w hb ok
  case pos =>
  by_cases hf : r.fault = 0
  case neg => exact applied_fault B a c r w hb ok hf
  case pos =>
  have hw := ok_wf ok
  rcases Rec.kinds hf with h | h | h | h | h | h | h
  · exact applied_1 B a c r w hb hw hv ok hf h
  · exact applied_2 B a c r w hb hw hv ok hf h
  · exact applied_3 B a c r w hb hw hv ok hf h
  · exact applied_4 B a c r w hb hw hv ok hf h
  · exact applied_5 B a c r w hb hw hv ok hf h
  · exact applied_6 B a c r w hb hw hv ok hf h
  · exact applied_7 B a c r w hb hw hv ok hf h
end Go.Proofs.YtcdopnkabbfooaaGreat
