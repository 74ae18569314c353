/- The walk of a desk's receive where a message is handed out. -/
import Derived.Test.YtcdopnkabbfooaaGreatQuQ
namespace Go.Proofs.YtcdopnkabbfooaaGreat
open Go.RowKit

theorem two_ev (w : World) (k p i b he hn : Int) : ∃ W, W = (w.alloc (.cells #[.int .i64 k, .int .i64 p, .int .i64 i, .int .i64 b, .int .i64 he, .int .i64 hn] 28)).alloc (.cells #[.int .i64 0, .int .i64 0, .int .i64 0, .int .i64 0] 75) ∧
    ansBlock W (w.heap.size + 1) 0 0 0 0 ∧ Below w.heap.size w W ∧ W.heap.size = w.heap.size + 2 ∧ W.heap[w.heap.size]? = some (.cells #[.int .i64 k, .int .i64 p, .int .i64 i, .int .i64 b, .int .i64 he, .int .i64 hn] 28 (0, 0)) := by
  obtain ⟨h1, h2⟩ := ev_ans (Below.refl _ ((w.alloc (.cells #[.int .i64 k, .int .i64 p, .int .i64 i, .int .i64 b, .int .i64 he, .int .i64 hn] 28)).alloc (.cells #[.int .i64 0, .int .i64 0, .int .i64 0, .int .i64 0] 75)))
  exact ⟨_, rfl, h1, h2, by simp, heap_alloc2_old w _ _⟩
/-- a message and a handle that the call has made, behind a cut. -/
structure Pair (w wx : World) (M H : Nat) (x0 x1 ep gv : Int) : Prop where
  m : wx.heap[M]? = some (.cells #[.int .i64 x0, .int .i64 x1] 131 (0, 0))
  h : wx.heap[H]? = some (.cells #[.int .i64 ep, .int .i64 gv] 26 (0, 0))
  bel : Below w.heap.size w wx
  upM : w.heap.size ≤ M
  upH : w.heap.size ≤ H

theorem Pair.mh (w : World) (x0 x1 ep gv : Int) : Pair w ((w.alloc (.cells #[.int .i64 x0, .int .i64 x1] 131)).alloc (.cells #[.int .i64 ep, .int .i64 gv] 26)).drew w.heap.size (w.heap.size + 1) x0 x1 ep gv :=
  ⟨heap_alloc2_old w _ _, heap_alloc2_new w _ _, Below.next (below2 _ _ _) ⟨rfl, rfl, rfl, Nat.le_refl _, fun _ _ => rfl⟩, Nat.le_refl _, Nat.le_succ _⟩
theorem Pair.hm (w : World) (x0 x1 ep gv : Int) : Pair w ((w.alloc (.cells #[.int .i64 ep, .int .i64 gv] 26)).alloc (.cells #[.int .i64 x0, .int .i64 x1] 131)).drew (w.heap.size + 1) w.heap.size x0 x1 ep gv :=
  ⟨heap_alloc2_new w _ _, heap_alloc2_old w _ _, Below.next (below2 _ _ _) ⟨rfl, rfl, rfl, Nat.le_refl _, fun _ _ => rfl⟩, Nat.le_succ _, Nat.le_refl _⟩

/-- a receive on its way. -/
structure Rc (w wx : World) (base B : Nat) (ep nx gv : Int) (v1 : Value) (a2 : Option Addr) (ln c2 : Nat) (L : List Int) (ws : Nat → Value) (g rn c1 : Nat) (R : List Int) (M H A : Nat) (x0 x1 gv0 : Int) : Prop where
  d : dBlock wx B ep nx gv v1 (.slice a2 ln c2) ws
  o1 : wx.ownsRow base 131 2 (.slice (some ⟨g, 0, none⟩) rn c1) rn (R.map (Value.int .i64))
  o2 : wx.ownsRow base 133 4 (.slice a2 ln c2) ln (L.map (Value.int .i64))
  m : wx.heap[M]? = some (.cells #[.int .i64 x0, .int .i64 x1] 131 (0, 0))
  h : wx.heap[H]? = some (.cells #[.int .i64 ep, .int .i64 gv0] 26 (0, 0))
  a : ansBlock wx A 0 0 0 0
  bel : Below base w wx
  up : base ≤ B
section
variable {w wx W5 w5 : World} {base B : Nat} {ep nx gv : Int} {v1 : Value} {a2 a3 : Option Addr} {ln c2 c3 : Nat} {L : List Int} {ws : Nat → Value} {g rn c1 : Nat} {R : List Int} {M H A : Nat} {x0 x1 gv0 : Int}
theorem block_lt {w : World} {X : Nat} {o : Obj} (h : w.heap[X]? = some o) : X < w.heap.size := by
  rcases Nat.lt_or_ge X w.heap.size with h' | h'
  · exact h'
  · rw [Array.getElem?_eq_none h'] at h; cases h
theorem types_apart {w : World} {X Y : Nat} {cs cs' : Array Value} {t t' : TypeId} (h : w.heap[X]? = some (.cells cs t (0, 0))) (h' : w.heap[Y]? = some (.cells cs' t' (0, 0))) (ht : t ≠ t') : X ≠ Y := by
  rintro rfl
  rw [h] at h'
  simp only [Option.some.injEq, Obj.cells.injEq] at h'
  exact ht h'.2.1
theorem Rc.turn (C : Rc w wx base B ep nx gv v1 a2 ln c2 L ws g rn c1 R M H A x0 x1 gv0) {wy : World} (t : Turned B wx wy) {ep' nx' gv' : Int} {v1' : Value} (hep : ep' = ep) (d : dBlock wy B ep' nx' gv' v1' (.slice a2 ln c2) ws) : Rc w wy base B ep nx' gv' v1' a2 ln c2 L ws g rn c1 R M H A x0 x1 gv0 := by
  subst hep
  exact ⟨d, t.owns C.o1 (own_off C.o1 C.d (by decide)), t.owns C.o2 (own_off C.o2 C.d (by decide)), (t.block M (types_apart C.m C.d (by decide))).trans C.m, (t.block H (types_apart C.h C.d (by decide))).trans C.h, C.a.turned t (types_apart C.a C.d (by decide)), t.under C.bel C.up, C.up⟩
theorem Rc.lease (C : Rc w wx base B ep nx gv v1 a2 ln c2 L ws g rn c1 R M H A x0 x1 gv0) (b5 : Below wx.heap.size wx W5) (gr : W5.grownBy w5 (Value.slice a2 ln c2).ownBlock) (ys : List Int) (hbase : base ≤ wx.heap.size)
    (own : w5.ownsRow base 133 4 (.slice a3 (ln + 1) c3) (ln + 1) ((L ++ ys).map (Value.int .i64))) :
    dBlock w5 B ep nx gv v1 (.slice a2 ln c2) ws ∧ Rc w (w5.setCell ⟨B, 4, none⟩ (.slice a3 (ln + 1) c3)) base B ep nx gv v1 a3 (ln + 1) c3 (L ++ ys) ws g rn c1 R M H A x0 x1 gv0 := by
  have keep : ∀ X o, wx.heap[X]? = some o → (Value.slice a2 ln c2).ownBlock ≠ some X → w5.heap[X]? = some o := by
    intro X o hX hne
    have hl := block_lt hX
    rw [gr.block X (by have := b5.size; omega) (fun e => hne e.symm), b5.block X hl]
    exact hX
  have hB : dBlock w5 B ep nx gv v1 (.slice a2 ln c2) ws := keep B _ C.d (fun e => own_off C.o2 C.d (by decide) B e rfl)
  have t := Turned.set B 4 w5 (.slice a3 (ln + 1) c3)
  have hM := keep M _ C.m (fun e => own_off C.o2 C.m (by decide) M e rfl)
  have hH := keep H _ C.h (fun e => own_off C.o2 C.h (by decide) H e rfl)
  have hA : ansBlock w5 A 0 0 0 0 := keep A _ C.a (fun e => own_off C.o2 C.a (by decide) A e rfl)
  have o1' : w5.ownsRow base 131 2 (.slice (some ⟨g, 0, none⟩) rn c1) rn (R.map (Value.int .i64)) :=
    own_grown (own_still C.o1 (fun q _ hq => b5.block q hq)) gr (fun q h1 h2 => own_apart C.o1 C.o2 (by decide) q h1 h2)
  have hbel : Below base w w5 := (C.bel.trans (b5.mono hbase)).grown gr (by have := b5.size; omega) (fun q hq => (C.o2.lt q hq).1)
  exact ⟨hB, hB.leases _, t.owns o1' (own_off o1' hB (by decide)), t.owns own (own_off own hB (by decide)), (t.block M (types_apart hM hB (by decide))).trans hM, (t.block H (types_apart hH hB (by decide))).trans hH, hA.turned t (types_apart hA hB (by decide)), t.under hbel C.up, C.up⟩
end
theorem wf_in {x : Int} (h0 : 0 ≤ x) (h1 : x ≤ 1073741825) : (Lit.int .i64 x).wf = true := by
  exact WalkArith.wf_i64 ⟨by omega, by omega⟩
/-- the first message cut off. -/
theorem row_cut {w : World} {g o rn : Nat} {R : List Int} (h : RowK .i64 w (some ⟨g, 0, none⟩) (2 * rn) R) (hr : 0 < rn) (ho : 1 < rn → o = 2) : RowK .i64 w (some ⟨g, o, none⟩) (2 * (rn - 1)) (R.drop 2) := by
  have hl := h.len_eq
  refine ⟨by simp; omega, fun u hu => h.wf u (List.mem_of_mem_drop hu), fun i hi => ?_⟩
  refine ⟨g, o, rfl, h.lt (by omega), ?_⟩
  have := h.at (2 + i) (by omega)
  rw [ho (by omega)]
  rw [Nat.zero_add] at this
  rw [this]
  simp [List.getD_eq_getElem?_getD]

set_option maxRecDepth 20000 in
set_option maxHeartbeats 4000000 in
theorem receive_yes (base B g : Nat) (ep nx gv : Int) (rn c1 : Nat) (a2 : Option Addr) (ln c2 : Nat) (R L : List Int) (ws : Nat → Value) (wt : Nat → Int) (wz : Nat → Nat → Bool) (k p i b he hn : Int) (w : World) (D : Desk w base B ep nx gv (some ⟨g, 0, none⟩) rn c1 a2 ln c2 R L ws) (hW : Wins ws wt wz) (hbase : base ≤ w.heap.size) (h0 : 0 < rn) (hs : rn + ln ≤ 500) (g0 : 0 ≤ gv) (g1 : gv < 1073741824) (wep : (Lit.int .i64 ep).wf = true) :
    Calls Tryz.prog 97 #[.pointer (some ⟨B, 0, none⟩), evVal k p i b he hn] w fun e w' => e = .returned (.tuple #[ansVal 0 ep gv (R.getD 1 0), .bool true]) ∧ DeskOut w' base B ep nx (gv + 1) (rn - 1) (R.drop 2) (ln + 1) (L ++ [ep, gv, R.getD 0 0, R.getD 1 0]) wt wz ∧ Below base w w' := by
  obtain ⟨i2, hi2, hz20, hz21, hz22⟩ := info_of Tryz.infoLease
  obtain ⟨d0, d1, d2, d3, d4⟩ := D.d.heads
  have hBl := D.d.lt
  have hBn : B ≠ w.heap.size := by omega
  have hBn2 : B ≠ w.heap.size + 1 := by omega
  have hgz : ¬ gv = 1073741824 := by omega
  have hrz : ¬ rn = 0 := by omega
  go_enter Tryz.func97, Tryz.ntmps97
  go_wp2_with fail
  obtain ⟨W2, hW2, z2, b2, s2, -⟩ := two_ev w k p i b he hn
  rw [← hW2]
  clear hW2 d0 d1 d2 d3 d4 hBn hBn2
  have D2 := D.next b2
  have hA : W2.heap.size = w.heap.size + 2 := s2
  obtain ⟨x0, hx0⟩ : ∃ x, x = R.getD 0 0 := ⟨_, rfl⟩
  obtain ⟨x1, hx1⟩ : ∃ x, x = R.getD 1 0 := ⟨_, rfl⟩
  obtain ⟨_, _, e1, r1, l1, _, n1, y1⟩ := RowK.ofMany D2.o1 D2.wR
  cases e1
  have k0 : W2.cell? ⟨g, 0, none⟩ = some (.int .i64 x0) := by rw [hx0]; exact r1.at 0 (by omega)
  have k1 : W2.cell? ⟨g, 1, none⟩ = some (.int .i64 x1) := by rw [hx1]; exact r1.at 1 (by omega)
  have hgl : g < W2.heap.size := r1.lt (by omega)
  obtain ⟨d0, d1, d2, d3, d4⟩ := D2.d.heads
  have hBl2 := D2.d.lt
  have hBn : B ≠ W2.heap.size := by omega
  have hBn2 : B ≠ W2.heap.size + 1 := by omega
  have hgn : g ≠ W2.heap.size := by omega
  have hgn2 : g ≠ W2.heap.size + 1 := by omega
  have HX : Hid (x0 = R.getD 0 0 ∧ x1 = R.getD 1 0) := veil ⟨hx0, hx1⟩
  have hwR := veil D2.wR
  have hwLL : Hid (∀ u ∈ L ++ [ep, gv, x0, x1], (Lit.int .i64 u).wf = true) := veil (by
    intro u hu
    rcases List.mem_append.1 hu with hu | hu
    · exact D2.wL u hu
    · simp only [List.mem_cons, List.not_mem_nil, or_false] at hu
      rcases hu with rfl | rfl | rfl | rfl
      · exact wep
      · exact wf_in (by omega) (by omega)
      · rw [hx0]; exact getD_fits R D2.wR _
      · rw [hx1]; exact getD_fits R D2.wR _)
  have HD2 := veil D2
  have HZ2 := veil z2
  have HB2 := veil b2
  have HA := veil hA
  clear D D2 r1 y1 n1 hx0 hx1 z2 b2 s2 hA
  go_cut [6, 7] (fun p6 p7 wx => ∃ M H, p6 = .pointer (some ⟨M, 0, none⟩) ∧ p7 = .pointer (some ⟨H, 0, none⟩) ∧ Pair W2 wx M H x0 x1 ep gv)
  case first =>
    go_region_held3 (fun w' => w'.cell? ⟨B, 3, none⟩ = some (.slice (some ⟨g, 0, none⟩) rn c1) ∧ w'.cell? ⟨B, 0, none⟩ = some (.int .i64 ep) ∧ w'.cell? ⟨B, 2, none⟩ = some (.int .i64 gv) ∧ w'.cell? ⟨g, 0, none⟩ = some (.int .i64 x0) ∧ w'.cell? ⟨g, 1, none⟩ = some (.int .i64 x1)) (go_keep) (fail)
    all_goals (try go_wp2_with fail)
    all_goals go_meet
    all_goals first | exact ⟨_, _, rfl, rfl, Pair.mh _ _ _ _ _⟩ | exact ⟨_, _, rfl, rfl, Pair.hm _ _ _ _ _⟩
  case rest =>
    obtain ⟨M, H, rfl, rfl, PP⟩ := hcut
    obtain ⟨W3, h3⟩ : ∃ W3, W3 = wc := ⟨_, rfl⟩
    subst h3
    clear d0 d1 d2 d3 d4 k0 k1 hBn hBn2 hgn hgn2 hBl2
    have D3 := (unveil HD2).next PP.bel
    have l3 : W2.heap.size ≤ W3.heap.size := PP.bel.size
    have lA : w.heap.size + 2 = W2.heap.size := (unveil HA).symm
    have C3 : Rc w W3 base B ep nx gv (.slice (some ⟨g, 0, none⟩) rn c1) a2 ln c2 L ws g rn c1 R M H (w.heap.size + 1) x0 x1 gv :=
      ⟨D3.d, D3.o1, D3.o2, PP.m, PP.h, (unveil HZ2).next PP.bel, ((unveil HB2).mono hbase).trans (PP.bel.mono (by omega)), D3.up⟩
    have hrow : Hid (rn ≤ c1) := veil l1
    obtain ⟨d0, d1, d2, d3, d4⟩ := C3.d.heads
    have df := C3.d.free
    have HC3 := veil C3
    have hb3 : base ≤ W3.heap.size := by omega
    clear D3 PP C3 HD2 HZ2 HB2 HA lA hgl
    go_step
    go_step
    go_cut [] (fun wx => ∃ o c', (1 < rn → o = 2) ∧ rn - 1 ≤ c' ∧ wx.heap.size = W3.heap.size ∧ Rc w wx base B ep nx gv (.slice (some ⟨g, o, none⟩) (rn - 1) c') a2 ln c2 L ws g rn c1 R M H (w.heap.size + 1) x0 x1 gv)
    case first =>
      go_wp2_with fail
      all_goals go_meet
      · rename_i hc
        have T := Turned.set B 3 W3 (.slice (some ⟨g, 0, none⟩) (rn - 1) 0)
        exact ⟨0, 0, fun h => by have := unveil hrow; omega, by have := unveil hrow; omega, T.size, (unveil HC3).turn T rfl ((unveil HC3).d.ready _)⟩
      · have T := Turned.set B 3 W3 (.slice (some ⟨g, 2, none⟩) (rn - 1) (c1 - 1))
        exact ⟨2, c1 - 1, fun _ => rfl, by have := unveil hrow; omega, T.size, (unveil HC3).turn T rfl ((unveil HC3).d.ready _)⟩
    case rest =>
      obtain ⟨o, c', ho, hoc, hs4, C4⟩ := hcut
      obtain ⟨W4, h4⟩ : ∃ W4, W4 = wc := ⟨_, rfl⟩
      subst h4
      clear d0 d1 d2 d3 d4 df HC3 l3
      have hb4 : base ≤ W4.heap.size := by omega
      obtain ⟨d0, d1, d2, d3, d4⟩ := C4.d.heads
      have df := C4.d.free
      have m0 : W4.cell? ⟨M, 0, none⟩ = some (.int .i64 x0) := by have := C4.m; simp [World.cell?, this]
      have m1 : W4.cell? ⟨M, 1, none⟩ = some (.int .i64 x1) := by have := C4.m; simp [World.cell?, this]
      have q0 : W4.cell? ⟨H, 0, none⟩ = some (.int .i64 ep) := by have := C4.h; simp [World.cell?, this]
      have q1 : W4.cell? ⟨H, 1, none⟩ = some (.int .i64 gv) := by have := C4.h; simp [World.cell?, this]
      have lM := block_lt C4.m
      have lH := block_lt C4.h
      have lB := C4.d.lt
      have nM : M ≠ W4.heap.size := by omega
      have nH : H ≠ W4.heap.size := by omega
      have nB : B ≠ W4.heap.size := by omega
      have b5 : Below W4.heap.size W4 (W4.alloc (.cells #[.int .i64 ep, .int .i64 gv, .int .i64 x0, .int .i64 x1] 133)).drew := Below.next (below1 _ _) ⟨rfl, rfl, rfl, Nat.le_refl _, fun _ _ => rfl⟩
      have HO5 : Hid ((W4.alloc (.cells #[.int .i64 ep, .int .i64 gv, .int .i64 x0, .int .i64 x1] 133)).drew.ownsRow base 133 4 (.slice a2 ln c2) ln (L.map (Value.int .i64))) := veil (own_still C4.o2 (fun q _ hq => b5.block q hq))
      have HC4 := veil C4
      have HB5 := veil b5
      clear C4 b5 hs4
      go_wp2_with fail
      go_cut [] (fun wx => ∃ a3 c3, Rc w wx base B ep nx gv (.slice (some ⟨g, o, none⟩) (rn - 1) c') a3 (ln + 1) c3 (L ++ [ep, gv, x0, x1]) ws g rn c1 R M H (w.heap.size + 1) x0 x1 gv)
      case first =>
        go_region_law (refine step_append_many rfl (.tmp 60) (.tmp 64) 86 rfl base 133 i2 _ 4 32 Tryz.underlying86 hi2 hz20 hz21 hz22 rfl (by decide) (.slice a2 ln c2) ln L rfl (unveil HO5) ⟨W4.heap.size, 0, none⟩ 1 1 [ep, gv, x0, x1] rfl rfl (news4 _ _ _ _ _ _) (by unfold maxLen; omega) (by omega) (by simp; omega) ?_; intro v' w5 own5 grow5; obtain ⟨a3, c3, rfl⟩ := own_form own5; obtain ⟨e5, C5⟩ := (unveil HC4).lease (unveil HB5) grow5 [ep, gv, x0, x1] hb4 own5; have k4 := e5.heads.2.2.2.2; have f4 := e5.free; have HC5 := veil C5; clear C5 e5 own5 grow5)
        all_goals (try go_wp2_with fail)
        all_goals go_meet
        all_goals exact ⟨_, _, unveil HC5⟩
      case rest =>
        obtain ⟨a3, c3, C6⟩ := hcut
        obtain ⟨W6, h6⟩ : ∃ W6, W6 = wc := ⟨_, rfl⟩
        subst h6
        clear d0 d1 d2 d3 d4 df m0 m1 q0 q1 lM lH lB nM nH nB HO5 HC4 HB5 hb4
        obtain ⟨d0, d1, d2, d3, d4⟩ := C6.d.heads
        have df := C6.d.free
        have m1 : W6.cell? ⟨M, 1, none⟩ = some (.int .i64 x1) := by have := C6.m; simp [World.cell?, this]
        have q0 : W6.cell? ⟨H, 0, none⟩ = some (.int .i64 ep) := by have := C6.h; simp [World.cell?, this]
        have q1 : W6.cell? ⟨H, 1, none⟩ = some (.int .i64 gv) := by have := C6.h; simp [World.cell?, this]
        obtain ⟨y0, y1, y2, y3⟩ := C6.a.cells
        have yf := C6.a.free
        have nM : M ≠ B := types_apart C6.m C6.d (by decide)
        have nH : H ≠ B := types_apart C6.h C6.d (by decide)
        have nA : w.heap.size + 1 ≠ B := types_apart C6.a C6.d (by decide)
        have HC6 := veil C6
        have hwL : Hid (∀ u ∈ L ++ [ep, gv, x0, x1], (Lit.int .i64 u).wf = true) := hwLL
        clear C6
        go_wp2
        have C7 := (unveil HC6).turn (Turned.set B 2 W6 (.int .i64 (gv + 1))) rfl ((unveil HC6).d.given (gv + 1))
        have T8 := ans_turned (W6.setCell ⟨B, 2, none⟩ (.int .i64 (gv + 1))) (w.heap.size + 1) 0 ep gv x1
        have o1 := T8.owns C7.o1 (own_off C7.o1 C7.a (by decide))
        have o2 := T8.owns C7.o2 (own_off C7.o2 C7.a (by decide))
        obtain ⟨_, _, e1, r1, _, _, _, y1⟩ := RowK.ofMany o1 (unveil hwR)
        obtain ⟨_, _, e2, r2, l2, _, n2, y2⟩ := RowK.ofMany o2 (unveil hwL)
        cases e1; cases e2
        refine bodyPost_ret (ret_receive (C7.a.store 0 ep gv x1) rfl rfl) rfl ⟨by rw [(unveil HX).2], ⟨some ⟨g, o, none⟩, c', a3, c3, ws, C7.d.turned T8 (fun e => nA e.symm), row_cut r1 h0 ho, ?_, hoc, l2, by simp, n2, hW, fun x hx => by cases hx; exact (y1 ⟨g, 0, none⟩ rfl : base ≤ g), y2⟩, T8.under C7.bel (by omega)⟩
        rw [← (unveil HX).1, ← (unveil HX).2]
        exact r2
end Go.Proofs.YtcdopnkabbfooaaGreat
