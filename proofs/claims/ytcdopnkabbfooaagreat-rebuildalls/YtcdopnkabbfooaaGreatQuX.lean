/- The walk of a desk's ack. -/
import Derived.Test.YtcdopnkabbfooaaGreatQuW
import Derived.Test.YtcdopnkabbfooaaGreatQuM
namespace Go.Proofs.YtcdopnkabbfooaaGreat
open Go.RowKit Go.Lib

theorem ret_ack {W : World} {R : Nat} {c he no bd : Int} {b : Bool} {tmps : Array Value} (h : ansBlock W R c he no bd) (t : tmps[4]? = some (.pointer (some ⟨R, 0, none⟩))) (tb : tmps[5]? = some (.bool b)) :
    (results Tryz.f98 tmps).run Tryz.prog W = .ok (.tuple #[ansVal c he no bd, .bool b]) W := by
  obtain ⟨k0, k1, k2, k3⟩ := h.cells
  simp [results, Tryz.results98, go_sem, k0, k1, k2, k3, t, tb]
/-- a lease's four numbers. -/
abbrev Quad := Int × Int × Int × Int
abbrev encQ (x : Quad) : List Value := [.int .i64 x.1, .int .i64 x.2.1, .int .i64 x.2.2.1, .int .i64 x.2.2.2]
def quadAt (L : List Int) (j : Nat) : Quad := (L.getD (4 * j) 0, L.getD (4 * j + 1) 0, L.getD (4 * j + 2) 0, L.getD (4 * j + 3) 0)
def quadsOf (L : List Int) (n : Nat) : List Quad := (List.range n).map (quadAt L)
theorem quadsOf_len (L : List Int) (n : Nat) : (quadsOf L n).length = n := by simp [quadsOf]
theorem quadsOf_at (L : List Int) (n j : Nat) (h : j < n) : (quadsOf L n)[j]! = quadAt L j := by
  simp [quadsOf, h]
/-- is it the handle? -/
def isHandle (he hn : Int) (x : Quad) : Bool := x.1 == he && x.2.1 == hn

set_option maxRecDepth 20000 in
set_option maxHeartbeats 2000000 in
theorem ackPred {w : World} {E : Nat} {k p i b he hn : Int} (hE : w.heap[E]? = some (.cells #[.int .i64 k, .int .i64 p, .int .i64 i, .int .i64 b, .int .i64 he, .int .i64 hn] 28 (0, 0))) :
    PredBelow Tryz.prog 112 #[.pointer (some ⟨E, 0, none⟩)] (fun x : Quad => .agg (encQ x).toArray) (isHandle he hn) w := by
  rintro W ⟨x0, x1, x2, x3⟩ hb
  have e1 : W.heap[E]? = _ := (hb.block E (block_lt hE)).trans hE
  have hl := block_lt e1
  have k4 : W.cell? ⟨E, 4, none⟩ = some (.int .i64 he) := by simp [World.cell?, e1]
  have k5 : W.cell? ⟨E, 5, none⟩ = some (.int .i64 hn) := by simp [World.cell?, e1]
  have hn1 : E ≠ W.heap.size := by omega
  clear hE e1
  show Calls Tryz.prog 112 #[.agg #[.int .i64 x0, .int .i64 x1, .int .i64 x2, .int .i64 x3], .pointer (some ⟨E, 0, none⟩)] W _
  go_enter Tryz.func112, Tryz.ntmps112
  go_wp2
  all_goals (go_ret; exact ⟨by simp_all [isHandle], hb.alloc hb.size _⟩)
theorem index_none (fv : Value) (w : World) : Calls Tryz.prog 111 #[.slice none 0 0, fv] w fun e w' => e = .returned (.int .i64 (-1)) ∧ w' = w := by
  go_enter Tryz.func111, Tryz.ntmps111
  go_wp2
  go_loopw [5, 8] (fun _ s8 wr => s8 = .int .i64 0 ∧ wr = w) (fun _ _ _ => 0)
  case atStart => exact ⟨rfl, rfl⟩
  case round =>
    obtain ⟨rfl, rfl⟩ := hrel
    go_wp2
    go_ret
    exact ⟨rfl, rfl⟩
/-- where the lease with a handle lies, or -1. -/
def ackAt (he hn : Int) (L : List Int) (ln : Nat) : Int := Lib.idxBy (fun _ y => isHandle he hn y) ((quadsOf L ln).take ln) default
theorem index_any {W : World} {base E ln c2 : Nat} {a2 : Option Addr} {L : List Int} {k p i b he hn : Int} (hE : W.heap[E]? = some (.cells #[.int .i64 k, .int .i64 p, .int .i64 i, .int .i64 b, .int .i64 he, .int .i64 hn] 28 (0, 0)))
    (ow : W.ownsRow base 133 4 (.slice a2 ln c2) ln (L.map (Value.int .i64))) (hl : ln ≤ 500) :
    Calls Tryz.prog 111 #[.slice a2 ln c2, .func (.func 112) #[] #[.pointer (some ⟨E, 0, none⟩)]] W fun e w' => e = .returned (.int .i64 (ackAt he hn L ln)) ∧ Below W.heap.size W w' := by
  have hcells : ∀ g, _ → _ := fun g h => ow.cells (g := g) h
  have hlen : L.length = ln * 4 := by have := ow.1; simpa using this
  rcases ow.2 with ⟨h0, h1⟩ | ⟨g, cap, cur, e, _, hg, _⟩
  · subst h1
    cases h0
    refine (index_none _ W).mono ?_
    rintro e w' ⟨rfl, rfl⟩
    exact ⟨by simp [ackAt, quadsOf, Lib.idxBy, Lib.idxByFrom], Below.refl _ _⟩
  · cases e
    have eg : ∀ args w, (callFunc 112 args).run Tryz.prog w = .ok (.enter 112 args) w := enters_of Tryz.func112 (by kernel_rfl) rfl
    have cell : ∀ j, j < ln * 4 → W.cell? ⟨g, j, none⟩ = some (.int .i64 (L.getD j 0)) := fun j hj => by
      have := hcells g rfl j (.int .i64 (L.getD j 0)) (by simp [List.getElem?_eq_getElem (show j < L.length by omega)])
      simpa [Addr.add_mid] using this
    exact AnyQ.slices_IndexFunc Tryz.laysIndex 4 Tryz.isAgg133 Tryz.sizeOf133 encQ (fun _ => rfl) (isHandle he hn) 112 #[.pointer (some ⟨E, 0, none⟩)] eg g 0 ln c2 (quadsOf L ln) W (ackPred hE) (by rw [quadsOf_len]; exact Nat.le_refl _) (by omega) (block_lt hg) (fun j hj i v hi => by
      rw [quadsOf_len] at hj
      rw [quadsOf_at L ln j hj] at hi
      rw [Nat.zero_add]
      match i, hi with
      | 0, hi => simp [encQ, quadAt] at hi; rw [← hi, cell _ (by omega)]; simp [Nat.mul_comm]
      | 1, hi => simp [encQ, quadAt] at hi; rw [← hi, cell _ (by omega)]; simp [Nat.mul_comm]
      | 2, hi => simp [encQ, quadAt] at hi; rw [← hi, cell _ (by omega)]; simp [Nat.mul_comm]
      | 3, hi => simp [encQ, quadAt] at hi; rw [← hi, cell _ (by omega)]; simp [Nat.mul_comm]
      | i + 4, hi => simp [encQ] at hi)
/-- a desk of which a lease was taken out. -/
structure Dl (w wx : World) (base B : Nat) (ep nx gv : Int) (a1 : Option Addr) (rn c1 : Nat) (R : List Int) (g ln c2 : Nat) (L : List Int) (ws : Nat → Value) (A : Nat) : Prop where
  d : dBlock wx B ep nx gv (.slice a1 rn c1) (.slice (some ⟨g, 0, none⟩) ln c2) ws
  o1 : wx.ownsRow base 131 2 (.slice a1 rn c1) rn (R.map (Value.int .i64))
  row : RowK .i64 wx (some ⟨g, 0, none⟩) (4 * ln) L
  off : g ≠ A
  le : ln ≤ c2
  a : ansBlock wx A 0 0 0 0
  bel : Below base w wx
  up : base ≤ B
  low : base ≤ g
section
variable {w wx wy : World} {base B g : Nat} {ep nx gv : Int} {a1 : Option Addr} {rn ln c1 c2 : Nat} {R L L' : List Int} {ws : Nat → Value} {A : Nat} {wt : Nat → Int} {wz : Nat → Nat → Bool}
/-- a lease taken out. -/
theorem Pc.deleted (C : Pc w wx base B ep nx gv a1 rn c1 R (some ⟨g, 0, none⟩) ln c2 L ws A) (t : Turned g wx wy) (hl : L'.length = 4 * (ln - 1)) (hc : ∀ j, j < 4 * (ln - 1) → wy.cell? ⟨g, j, none⟩ = some (.int .i64 (L'.getD j 0)))
    (wL : ∀ u ∈ L', (Lit.int .i64 u).wf = true) :
    dBlock wy B ep nx gv (.slice a1 rn c1) (.slice (some ⟨g, 0, none⟩) ln c2) ws ∧ Dl w (wy.setCell ⟨B, 4, none⟩ (.slice (some ⟨g, 0, none⟩) (ln - 1) c2)) base B ep nx gv a1 rn c1 R g (ln - 1) c2 L' ws A := by
  have gB : g ≠ B := own_off C.o2 C.d (by decide) g rfl
  have gA : g ≠ A := own_off C.o2 C.a (by decide) g rfl
  have nA : A ≠ B := types_apart C.a C.d (by decide)
  have hg := C.o2.lt g rfl
  have dy : dBlock wy B ep nx gv (.slice a1 rn c1) (.slice (some ⟨g, 0, none⟩) ln c2) ws := C.d.turned t (fun e => gB e.symm)
  have ay : ansBlock wy A 0 0 0 0 := C.a.turned t (fun e => gA e.symm)
  have o1y := t.owns C.o1 (fun q hq e => own_apart C.o1 C.o2 (by decide) q hq (by rw [e]; rfl))
  have T2 := Turned.set B 4 wy (.slice (some ⟨g, 0, none⟩) (ln - 1) c2)
  have lc : ln ≤ c2 := by
    rcases C.o2.2 with ⟨h, _⟩ | ⟨g', cap, cur, e, _, _, h, _⟩
    · cases h
    · cases e; exact h
  refine ⟨dy, dy.leases _, T2.owns o1y (own_off o1y dy (by decide)), ?_, gA, by omega, ay.turned T2 nA, T2.under (t.under C.bel hg.1) C.up, C.up, hg.1⟩
  generalize wy.setCell ⟨B, 4, none⟩ (.slice (some ⟨g, 0, none⟩) (ln - 1) c2) = wv at T2 ⊢
  refine ⟨hl, wL, fun j hj => ⟨g, 0, rfl, by rw [T2.size, t.size]; exact hg.2, ?_⟩⟩
  rw [Nat.zero_add, ← hc j hj]
  exact World.cell?_of_block (T2.block g gB)
theorem Dl.turn (C : Dl w wx base B ep nx gv a1 rn c1 R g ln c2 L ws A) (T : Turned A wx wy) (wR : ∀ u ∈ R, (Lit.int .i64 u).wf = true) (hW : Wins ws wt wz) (hA : base ≤ A) : DeskOut wy base B ep nx gv rn R ln L wt wz ∧ Below base w wy := by
  have nA : A ≠ B := types_apart C.a C.d (by decide)
  have o1z := T.owns C.o1 (own_off C.o1 C.a (by decide))
  obtain ⟨_, _, e1, r1, l1, _, n1, x1⟩ := RowK.ofMany o1z wR
  cases e1
  refine ⟨⟨a1, c1, some ⟨g, 0, none⟩, c2, ws, C.d.turned T (fun e => nA e.symm), r1, T.row C.row (fun x hx _ => by cases hx; exact C.off), l1, C.le, n1, (by intro h; cases h), hW, x1, ?_⟩, T.under C.bel hA⟩
  intro x hx
  cases hx
  exact C.low
end
theorem ackAt_cases (he hn : Int) (L : List Int) (ln : Nat) : ackAt he hn L ln = -1 ∨ ∃ m : Nat, m < ln ∧ ackAt he hn L ln = m := by
  by_cases h : ∃ m, m < ln ∧ isHandle he hn (quadAt L m) = true
  · right
    have hP : ∃ m, m < ln ∧ isHandle he hn (quadAt L m) = true := h
    obtain ⟨m, ⟨hm, hh⟩, hmin⟩ : ∃ m, (m < ln ∧ isHandle he hn (quadAt L m) = true) ∧ ∀ j, j < m → ¬ (j < ln ∧ isHandle he hn (quadAt L j) = true) := by
      obtain ⟨m, hm⟩ := hP
      induction m using Nat.strongRecOn with
      | ind m ih =>
        by_cases hj : ∃ j, j < m ∧ (j < ln ∧ isHandle he hn (quadAt L j) = true)
        · obtain ⟨j, hj1, hj2⟩ := hj
          exact ih j hj1 hj2
        · exact ⟨m, hm, fun j hj1 hj2 => hj ⟨j, hj1, hj2⟩⟩
    refine ⟨m, hm, Lib.idxBy_hit _ (quadsOf L ln) ln m default hm (by rw [quadsOf_len]; exact Nat.le_refl _) (by show isHandle he hn (quadsOf L ln)[m]! = true; rw [quadsOf_at L ln m hm]; exact hh) (fun j hj => ?_)⟩
    show isHandle he hn (quadsOf L ln)[j]! = false
    rw [quadsOf_at L ln j (by omega)]
    have := hmin j hj
    simpa [show j < ln by omega] using this
  · left
    refine Lib.idxBy_miss _ (quadsOf L ln) ln default (fun j hj => ?_)
    show isHandle he hn (quadsOf L ln)[j]! = false
    rw [quadsOf_at L ln j hj]
    have : ¬ isHandle he hn (quadAt L j) = true := fun e => h ⟨j, hj, e⟩
    simpa using this
theorem cut_len (L : List Int) (m ln : Nat) (h : L.length = ln * 4) (hm : m < ln) : (L.take (4 * m) ++ L.drop (4 * m + 4)).length = 4 * (ln - 1) := by simp; omega
theorem cut_wf {L : List Int} (h : ∀ u ∈ L, (Lit.int .i64 u).wf = true) (a b : Nat) : ∀ u ∈ L.take a ++ L.drop b, (Lit.int .i64 u).wf = true := by
  intro u hu
  rcases List.mem_append.1 hu with hu | hu
  · exact h u (List.mem_of_mem_take hu)
  · exact h u (List.mem_of_mem_drop hu)
set_option maxRecDepth 20000 in
set_option maxHeartbeats 4000000 in
theorem ack_any (base B : Nat) (ep nx gv : Int) (a1 : Option Addr) (rn c1 : Nat) (a2 : Option Addr) (ln c2 : Nat) (R L : List Int) (ws : Nat → Value) (wt : Nat → Int) (wz : Nat → Nat → Bool) (k p i b he hn : Int) (w : World) (D : Desk w base B ep nx gv a1 rn c1 a2 ln c2 R L ws) (hW : Wins ws wt wz) (hbase : base ≤ w.heap.size) (hs : rn + ln ≤ 500)
    (Q : Value → World → Prop) (HS : Hid ((¬ he = ep) → ∀ w', Below w.heap.size w w' → Q (.tuple #[ansVal 11 0 0 0, .bool false]) w'))
    (HN : Hid (he = ep → ackAt he hn L ln = -1 → ∀ w', Below w.heap.size w w' → Q (.tuple #[ansVal 7 0 0 0, .bool false]) w'))
    (HY : Hid (he = ep → ∀ m : Nat, m < ln → ackAt he hn L ln = m → ∀ w', DeskOut w' base B ep nx gv rn R (ln - 1) (L.take (4 * m) ++ L.drop (4 * m + 4)) wt wz → Below base w w' → Q (.tuple #[ansVal 0 0 0 0, .bool true]) w')) :
    Calls Tryz.prog 98 #[.pointer (some ⟨B, 0, none⟩), evVal k p i b he hn] w fun e w' => ∃ v, e = .returned v ∧ Q v w' := by
  go_enter Tryz.func98, Tryz.ntmps98
  go_wp2_with fail
  obtain ⟨W2, hW2, z2, b2, s2, ev2⟩ := two_ev w k p i b he hn
  rw [← hW2]
  clear hW2
  have D2 := D.next b2
  obtain ⟨d0, d1, d2, d3, d4⟩ := D2.d.heads
  have v4 : W2.cell? ⟨w.heap.size, 4, none⟩ = some (.int .i64 he) := by simp [World.cell?, ev2]
  have v5 : W2.cell? ⟨w.heap.size, 5, none⟩ = some (.int .i64 hn) := by simp [World.cell?, ev2]
  have HZ2 := veil z2
  have HB2 := veil b2
  have HE2 := veil ev2
  have HD2 := veil D2
  clear D D2 z2 b2 s2 ev2
  by_cases hst : he = ep
  case neg =>
    go_quiet (fail)
    have HZC := veil ((unveil HZ2).next (belowN W2 nq))
    have HBC := veil (Below.next (unveil HB2) (belowN W2 nq))
    clear HZ2 HB2 HE2 HD2 d0 d1 d2 d3 d4 v4 v5
    go_wp2_with (go_at_call 110; refine (unchanged_any _ _).mono ?_; rintro e w1 ⟨rfl, b1⟩; have z1 := (unveil HZC).next b1; have b2 := Below.next (unveil HBC) b1; obtain ⟨y0, y1, y2, y3⟩ := z1.cells; have yf := z1.free; have HZ := veil z1; have HB := veil b2; clear b1 z1 b2)
    exact bodyPost_ret (ret_ack ((unveil HZ).store _ 0 0 0) rfl rfl) rfl ⟨_, rfl, unveil HS hst _ ((ans_turned w1 (w.heap.size + 1) _ 0 0 0).under (unveil HB) (Nat.le_succ _))⟩
  case pos =>
    subst hst
    go_quiet (fail)
    go_wp2_with fail
    have b3 : Below W2.heap.size W2 (W2.drewN nq) := belowN W2 nq
    have D3 := (unveil HD2).next b3
    have hBn := D3.d.lt
    refine (index_any (show (W2.drewN nq).heap[w.heap.size]? = _ from unveil HE2) D3.o2 (by omega)).mono ?_
    rintro e w4 ⟨rfl, b4⟩
    have D4 := D3.next b4
    have C4 : Pc w w4 base B he nx gv a1 rn c1 R a2 ln c2 L ws (w.heap.size + 1) :=
      ⟨D4.d, D4.o1, D4.o2, ((unveil HZ2).next b3).next b4, (Below.next (Below.next (unveil HB2) b3) b4).mono hbase, D4.up⟩
    have HB4 := veil (Below.next (Below.next (unveil HB2) b3) b4)
    have HZC := veil (((unveil HZ2).next b3).next b4)
    have HD4 := veil D4
    have hbw : base ≤ w4.heap.size := by have := D4.d.lt; have := D4.up; omega
    clear HZ2 HB2 HE2 HD2 d0 d1 d2 d3 d4 v4 v5 D3 D4 b3 b4 hBn
    rcases ackAt_cases he hn L ln with hk | ⟨m, hm, hk⟩
    case inl =>
      rw [hk]
      have HK := veil hk
      clear C4 hk
      go_wp2_with (go_at_call 110; refine (unchanged_any _ _).mono ?_; rintro e w1 ⟨rfl, b1⟩; have z1 := (unveil HZC).next b1; have b2 := Below.next (unveil HB4) b1; obtain ⟨y0, y1, y2, y3⟩ := z1.cells; have yf := z1.free; have HZ := veil z1; have HB := veil b2; clear b1 z1 b2)
      exact bodyPost_ret (ret_ack ((unveil HZ).store _ 0 0 0) rfl rfl) rfl ⟨_, rfl, unveil HN (by simp) (unveil HK) _ ((ans_turned w1 (w.heap.size + 1) _ 0 0 0).under (unveil HB) (Nat.le_succ _))⟩
    case inr =>
      rw [hk]
      have HK := veil hk
      clear hk HZC
      obtain ⟨d0, d1, d2, d3, d4⟩ := C4.d.heads
      have hmz : ¬ (m : Int) < 0 := by omega
      have hlen : L.length = ln * 4 := by have := C4.o2.1; simpa using this
      obtain ⟨g, hg⟩ : ∃ g, a2 = some ⟨g, 0, none⟩ := by
        rcases C4.o2.2 with ⟨_, h0⟩ | ⟨g, cap, cur, e, _⟩
        · omega
        · cases e; exact ⟨g, rfl⟩
      subst hg
      have HC4 := veil C4
      have wL := (unveil HD4).wL
      have HWR := veil (unveil HD4).wR
      clear C4
      go_wp2_with fail
      refine (delete_one m (unveil HC4).o2 hm).mono ?_
      rintro e w5 ⟨rfl, t5, c5⟩
      obtain ⟨y5, C5⟩ := (unveil HC4).deleted t5 (cut_len L m ln hlen hm) c5 (cut_wf wL _ _)
      obtain ⟨e0, e1, e2, e3, e4⟩ := y5.heads
      have ef := y5.free
      obtain ⟨u0, u1, u2, u3⟩ := C5.a.cells
      have uf := C5.a.free
      have HC5 := veil C5
      clear d0 d1 d2 d3 d4 t5 c5 y5 C5 HC4 wL HD4
      go_wp2
      obtain ⟨D9, B9⟩ := (unveil HC5).turn (ans_turned _ (w.heap.size + 1) 0 0 0 0) (unveil HWR) hW (by omega)
      exact bodyPost_ret (ret_ack ((unveil HC5).a.store 0 0 0 0) rfl rfl) rfl ⟨_, rfl, unveil HY (by simp) m hm (unveil HK) _ D9 B9⟩
end Go.Proofs.YtcdopnkabbfooaaGreat
