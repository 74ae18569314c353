/- The document's answer's QueueDone: Receive, done. -/
import Derived.Test.YtcdopnkabbfooaaGreatRqE
import Derived.Test.YtcdopnkabbfooaaGreatQuR
namespace Go.Proofs.YtcdopnkabbfooaaGreat
open Go.RowKit

/-- QueueDone on its way with a handle in its box. -/
structure Rh (w wx : World) (E Z A X : Nat) (s : St) (rv lv : Value) (ws : Nat → Value) (v : Ev) (t : St) (v1 v2 : Value) (wv : Nat → Value) (H : Nat) : Prop where
  c : Qd w wx E Z A X s rv lv ws v t v1 v2 wv
  h : wx.heap[H]? = some (.cells #[.int .i64 s.ep, .int .i64 s.gv] 26 (0, 0))
  up : A < H
section
variable {w wx wy W5 w5 : World} {E Z A X H : Nat} {s t : St} {rv lv v1 v2 v3 : Value} {ws wv wv' : Nat → Value} {v : Ev}
theorem Rh.new (C : Qd w wx E Z A X s rv lv ws v t v1 v2 wv) : Rh w (wx.alloc (.cells #[.int .i64 s.ep, .int .i64 s.gv] 26)) E Z A X s rv lv ws v t v1 v2 wv wx.heap.size :=
  ⟨C.next (below1 _ _), heap_alloc_new wx _, C.ltA⟩
theorem Rh.next (C : Rh w wx E Z A X s rv lv ws v t v1 v2 wv H) (b : Below wx.heap.size wx wy) : Rh w wy E Z A X s rv lv ws v t v1 v2 wv H := ⟨C.c.next b, (b.block H (block_lt C.h)).trans C.h, C.up⟩
theorem Rh.ne (C : Rh w wx E Z A X s rv lv ws v t v1 v2 wv H) : H ≠ X := types_apart C.h C.c.q (by decide)
theorem Rh.cells (C : Rh w wx E Z A X s rv lv ws v t v1 v2 wv H) : wx.cell? ⟨H, 0, none⟩ = some (.int .i64 s.ep) ∧ wx.cell? ⟨H, 1, none⟩ = some (.int .i64 s.gv) := by
  have := C.h
  simp [World.cell?, this]
theorem Rh.noReady (C : Rh w wx E Z A X s rv lv ws v t v1 v2 wv H) : Rh w (wx.setCell ⟨X, 3, none⟩ (.slice none 0 0)) E Z A X s rv lv ws v ⟨t.ep, t.nx, t.gv, 0, [], t.ln, t.L, t.wt, t.wz⟩ (.slice none 0 0) v2 wv H :=
  ⟨C.c.noReady, ((Turned.set X 3 wx (.slice none 0 0)).block H C.ne).trans C.h, C.up⟩
theorem Rh.given (C : Rh w wx E Z A X s rv lv ws v t v1 v2 wv H) (y : Int) (q : qBlock (wx.setCell ⟨X, 2, none⟩ (.int .i64 y)) X t.ep t.nx y v1 v2 wv) : Rh w (wx.setCell ⟨X, 2, none⟩ (.int .i64 y)) E Z A X s rv lv ws v ⟨t.ep, t.nx, y, t.rn, t.R, t.ln, t.L, t.wt, t.wz⟩ v1 v2 wv H :=
  ⟨C.c.turn (wt := t.wt) (wz := t.wz) (Turned.set X 2 wx (.int .i64 y)) q, ((Turned.set X 2 wx (.int .i64 y)).block H C.ne).trans C.h, C.up⟩
theorem Rh.ready (C : Rh w wx E Z A X s rv lv ws v t v1 v2 wv H) (b5 : Below wx.heap.size wx W5) (gr : W5.grownBy w5 v1.ownBlock) (ys : List Int) (n : Nat) (own : w5.ownsRow (A + 1) 131 2 v3 n ((t.R ++ ys).map (Value.int .i64))) :
    qBlock w5 X t.ep t.nx t.gv v1 v2 wv ∧ Rh w (w5.setCell ⟨X, 3, none⟩ v3) E Z A X s rv lv ws v ⟨t.ep, t.nx, t.gv, n, t.R ++ ys, t.ln, t.L, t.wt, t.wz⟩ v3 v2 wv H := by
  obtain ⟨q, D⟩ := C.c.ready b5 gr ys n own
  have hl := block_lt C.h
  have hH : w5.heap[H]? = _ := (gr.block H (by have := b5.size; omega) (fun e => own_off C.c.o1 C.h (by decide) H e.symm rfl)).trans ((b5.block H hl).trans C.h)
  exact ⟨q, D, ((Turned.set X 3 w5 v3).block H C.ne).trans hH, C.up⟩
theorem Rh.lease (C : Rh w wx E Z A X s rv lv ws v t v1 v2 wv H) (b5 : Below wx.heap.size wx W5) (gr : W5.grownBy w5 v2.ownBlock) (ys : List Int) (n : Nat) (own : w5.ownsRow (A + 1) 133 4 v3 n ((t.L ++ ys).map (Value.int .i64))) :
    qBlock w5 X t.ep t.nx t.gv v1 v2 wv ∧ Rh w (w5.setCell ⟨X, 4, none⟩ v3) E Z A X s rv lv ws v ⟨t.ep, t.nx, t.gv, t.rn, t.R, n, t.L ++ ys, t.wt, t.wz⟩ v1 v3 wv H := by
  obtain ⟨q, D⟩ := C.c.lease b5 gr ys n own
  have hl := block_lt C.h
  have hH : w5.heap[H]? = _ := (gr.block H (by have := b5.size; omega) (fun e => own_off C.c.o2 C.h (by decide) H e.symm rfl)).trans ((b5.block H hl).trans C.h)
  exact ⟨q, D, ((Turned.set X 4 w5 v3).block H C.ne).trans hH, C.up⟩
end
theorem qBlock.givens {wx : World} {X : Nat} {ep nx gv : Int} {r l : Value} {ws : Nat → Value} (h : qBlock wx X ep nx gv r l ws) (y : Int) : qBlock (wx.setCell ⟨X, 2, none⟩ (.int .i64 y)) X ep nx y r l ws := by
  have := heap_set (o := 2) (v := .int .i64 y) h
  unfold qBlock
  rw [this]
  rfl
/-- what stands while region 30 goes on. -/
def S30 (H W0 : Nat) (s : St) (rv : Value) (b o : Nat) (x0 x1 : Int) (w : World) : Prop :=
  w.heap[H]? = some (.cells #[.int .i64 s.ep, .int .i64 s.gv] 26 (0, 0)) ∧ w.cell? ⟨W0, 3, none⟩ = some rv ∧ (w.cell? ⟨b, o, none⟩ = some (.int .i64 x0) ∧ w.cell? ⟨b, o + 1, none⟩ = some (.int .i64 x1))
theorem S30.turned {H W0 Z : Nat} {s : St} {rv : Value} {b o : Nat} {x0 x1 : Int} {w w' : World} (h : S30 H W0 s rv b o x0 x1 w) (T : Turned Z w w') (nH : H ≠ Z) (n0 : W0 ≠ Z) (nb : b ≠ Z) : S30 H W0 s rv b o x0 x1 w' :=
  ⟨(T.block H nH).trans h.1, (World.cell?_of_block (T.block W0 n0)).trans h.2.1, (World.cell?_of_block (T.block b nb)).trans h.2.2.1, (World.cell?_of_block (T.block b nb)).trans h.2.2.2⟩
theorem S30.grown {H W0 : Nat} {s : St} {rv : Value} {b o : Nat} {x0 x1 : Int} {w w' : World} {row : Option Nat} (h : S30 H W0 s rv b o x0 x1 w) (gr : w.grownBy w' row) (nH : some H = row → False) (n0 : ∀ q, row = some q → q ≠ W0) (nb : ∀ q, row = some q → q ≠ b) (lH : H < w.heap.size) (l0 : W0 < w.heap.size) (lb : b < w.heap.size) : S30 H W0 s rv b o x0 x1 w' :=
  ⟨(gr.block H lH nH).trans h.1, (World.cell?_of_block (gr.block W0 l0 (fun e => n0 _ e.symm rfl))).trans h.2.1, (World.cell?_of_block (gr.block b lb (fun e => nb _ e.symm rfl))).trans h.2.2.1, (World.cell?_of_block (gr.block b lb (fun e => nb _ e.symm rfl))).trans h.2.2.2⟩
/-- what stands while region 32 goes on. -/
def S32 (X H W0 : Nat) (s : St) (gv : Int) (v1 v2 rv lv : Value) (ws : Nat → Value) (b o : Nat) (x1 : Int) (w : World) : Prop :=
  qBlock w X s.ep s.nx gv v1 v2 ws ∧ w.heap[H]? = some (.cells #[.int .i64 s.ep, .int .i64 s.gv] 26 (0, 0)) ∧ qBlock w W0 s.ep s.nx s.gv rv lv ws ∧ w.cell? ⟨b, o, none⟩ = some (.int .i64 x1)
theorem S32.turned {X H W0 Z : Nat} {s : St} {gv : Int} {v1 v2 rv lv : Value} {ws : Nat → Value} {b o : Nat} {x1 : Int} {w w' : World} (h : S32 X H W0 s gv v1 v2 rv lv ws b o x1 w) (T : Turned Z w w') (nX : X ≠ Z) (nH : H ≠ Z) (n0 : W0 ≠ Z) (nb : b ≠ Z) : S32 X H W0 s gv v1 v2 rv lv ws b o x1 w' :=
  ⟨T.queue h.1 nX, (T.block H nH).trans h.2.1, T.queue h.2.2.1 n0, (World.cell?_of_block (T.block b nb)).trans h.2.2.2⟩
set_option maxRecDepth 20000 in
set_option maxHeartbeats 8000000 in
theorem queueDone_recv (s : St) (ra la : Option Addr) (rc lc : Nat) (ws : Nat → Value) (v : Ev) (w : World) (hR : RowK .i64 w ra (2 * s.rn) s.R) (hL : RowK .i64 w la (4 * s.ln) s.L) (hW : Wins ws s.wt s.wz) (h : s.Ok) (hv : Hid v.Ok) (HK : Hid (v.k = 2)) (h0 : 0 < s.rn) (hg : s.gv < 1073741824) :
    Calls Tryz.prog 84 #[qVal s.ep s.nx s.gv (.slice ra s.rn rc) (.slice la s.ln lc) ws, evIn v] w fun e w' => QdR s v w e w' := by
  obtain ⟨i1, hi1, hz10, hz11, hz12⟩ := info_of Tryz.infoMsg
  obtain ⟨i2, hi2, hz20, hz21, hz22⟩ := info_of Tryz.infoLease
  have h0b : ((s.rn : Int) == 0) = false := by simp; omega
  have hgb : (s.gv == 1073741824) = false := by simp; omega
  have hg0 := h.count.g0
  have HG := veil hg
  obtain ⟨b, off, rfl⟩ := hR.form (by omega)
  have HC : ∀ w, Calls Tryz.prog 66 #[evIn v] w fun e w' => e = .returned (.int .i64 0) ∧ Below w.heap.size w w' := fun w => by
    have := fault_any v.k v.p v.i v.b v.he v.hn w
    rwa [show eventFault v.k v.p v.i v.b v.he v.hn = 0 from unveil hv] at this
  have hsz := h.count.sz
  have hs : s.rn + s.ln ≤ 9223372036854775807 := by omega
  go_enter Tryz.func84, Tryz.ntmps84
  go_upto_region 24 with (first
    | (refine q_box 2 _ rfl rfl rfl rfl ?_; intro W1 q1 b1)
    | (refine q_alloc 4 rfl rfl rfl ?_; intro W3 z3 b3; have DD := Dos.made q1 b1 z3 b3; have DQ := DD.q; have HDD := veil DD; clear DD z3 b3 q1 b1)
    | (refine q_loads _ rfl rfl rfl (by assumption) ?_)
    | (go_at_call 88; refine (queueFault_yes _ _ _ _ _ _ _ _ _ _ _ _ s.wt s.wz _ (hR.below (unveil HDD).bel) (hL.below (unveil HDD).bel) hW hs h).mono ?_; rintro e W4 ⟨rfl, b4⟩; have D4 := (unveil HDD).next b4; have ev4 := D4.e; have v0 : W4.cell? ⟨W1.heap.size, 0, none⟩ = some (.int .i64 v.k) := (by simp [World.cell?, ev4]); have v1 : W4.cell? ⟨W1.heap.size, 1, none⟩ = some (.int .i64 v.p) := (by simp [World.cell?, ev4]); have v2 : W4.cell? ⟨W1.heap.size, 2, none⟩ = some (.int .i64 v.i) := (by simp [World.cell?, ev4]); have v3 : W4.cell? ⟨W1.heap.size, 3, none⟩ = some (.int .i64 v.b) := (by simp [World.cell?, ev4]); have v4 : W4.cell? ⟨W1.heap.size, 4, none⟩ = some (.int .i64 v.he) := (by simp [World.cell?, ev4]); have v5 : W4.cell? ⟨W1.heap.size, 5, none⟩ = some (.int .i64 v.hn) := (by simp [World.cell?, ev4]); have HD4 := veil D4; clear D4 HDD DQ b4 ev4)
    | (go_at_call 66; refine (HC _).mono ?_; rintro e W5 ⟨rfl, b5⟩; have D5 := (unveil HD4).next b5; have DQ5 := D5.q; have HD5 := veil D5; clear D5 HD4 b5 v0 v1 v2 v3 v4 v5)
    | (go_at_call 89; refine (queueCopy_any _ _ _ _ _ _ _ _ _ s.R s.L ws s.wt s.wz _ (hR.below (unveil HD5).bel) (hL.below (unveil HD5).bel) hW (by omega) (by omega)).mono ?_; rintro e W6 ⟨v1, v2, rfl, o1, o2, b6⟩; obtain ⟨a1, c1, rfl⟩ := own_form o1; obtain ⟨a2, c2, rfl⟩ := own_form o2; have hA5 := (unveil HD5).a.lt; have HO1 := veil (own_lower o1 hA5); have HO2 := veil (own_lower o2 hA5); have HD6 := veil ((unveil HD5).next b6); clear DQ5 o1 o2 b6)
    | (refine q_alloc 9 rfl rfl rfl ?_; intro W7 z7 b7; have HB7 := veil b7; clear b7)
    | (refine q_store _ _ rfl rfl rfl rfl z7 hW ?_; intro W8 q8 t8; have HQ8 := veil (Qd.made (unveil HD6) (unveil HO1) (unveil HO2) (unveil HB7) q8 t8); clear t8 HD6 HO1 HO2 HB7 z7 hA5 HD5; obtain ⟨c0, c1', c2', c3, c4⟩ := (unveil HQ8).d.q.heads; have z8 := (unveil HQ8).d.z; have hups := (unveil HQ8).ups; have u0 : W8.cell? ⟨W1.heap.size, 0, none⟩ = some (.int .i64 (2 : Int)) := (by simp [World.cell?, (unveil HQ8).d.e, unveil HK]); have u1 : W8.cell? ⟨W1.heap.size, 1, none⟩ = some (.int .i64 v.p) := (by simp [World.cell?, (unveil HQ8).d.e]); have u2 : W8.cell? ⟨W1.heap.size, 2, none⟩ = some (.int .i64 v.i) := (by simp [World.cell?, (unveil HQ8).d.e]); have u3 : W8.cell? ⟨W1.heap.size, 3, none⟩ = some (.int .i64 v.b) := (by simp [World.cell?, (unveil HQ8).d.e]); have u4 : W8.cell? ⟨W1.heap.size, 4, none⟩ = some (.int .i64 v.he) := (by simp [World.cell?, (unveil HQ8).d.e]); have u5 : W8.cell? ⟨W1.heap.size, 5, none⟩ = some (.int .i64 v.hn) := (by simp [World.cell?, (unveil HQ8).d.e]); obtain ⟨d0, d1, d2, d3, d4⟩ := q8.heads; have df := q8.free))
  go_cut [14] (fun p wx => ∃ H, p = .pointer (some ⟨H, 0, none⟩) ∧ Rh w wx W1.heap.size (W1.heap.size + 1) W3.heap.size W6.heap.size s (.slice (some ⟨b, off, none⟩) s.rn rc) (.slice la s.ln lc) ws v s (.slice a1 s.rn c1) (.slice a2 s.ln c2) ws H)
  case first =>
    have hn8 : w.heap.size ≠ W8.heap.size := by omega
    go_wp2_with fail
    go_meet
    exact ⟨_, rfl, Rh.new (unveil HQ8)⟩
  case rest =>
  obtain ⟨H, rfl, C0⟩ := hcut
  obtain ⟨WH, hWH⟩ : ∃ WH, WH = wc := ⟨_, rfl⟩
  subst hWH
  clear HQ8 c0 c1' c2' c3 c4 z8 hups u0 u1 u2 u3 u4 u5 d0 d1 d2 d3 d4 df q8
  obtain ⟨d0, d1, d2, d3, d4⟩ := C0.c.q.heads
  have df := C0.c.q.free
  have C1 := C0.noReady
  have HC1 := veil C1
  clear C0 C1
  go_wp2_with fail
  obtain ⟨WA, hWA⟩ : ∃ WA, WA = WH.setCell ⟨W6.heap.size, 3, none⟩ (.slice none 0 0) := ⟨_, rfl⟩
  rw [← hWA] at HC1 ⊢
  clear hWA d0 d1 d2 d3 d4 df
  go_loopw [15] (fun t wr => ∃ (k n : Nat) (M : List Int) (v1 : Value), k ≤ s.rn ∧ n ≤ k ∧ t = .int .i64 k ∧ Rh w wr W1.heap.size (W1.heap.size + 1) W3.heap.size W6.heap.size s (.slice (some ⟨b, off, none⟩) s.rn rc) (.slice la s.ln lc) ws v ⟨s.ep, s.nx, s.gv, n, M, s.ln, s.L, s.wt, s.wz⟩ v1 (.slice a2 s.ln c2) ws H ∧ Hid (k = n + 1 ∧ M = (s.R.drop 2).take (2 * n))) (fun t _ => s.rn - (intOf t).toNat)
  case atStart => exact ⟨1, 0, [], _, by omega, by omega, rfl, unveil HC1, veil ⟨rfl, rfl⟩⟩
  case round =>
    obtain ⟨k, n, M, v1, hk, hn, rfl, C, HI⟩ := hrel
    clear HC1
    obtain ⟨a1', c1', rfl⟩ := own_form C.c.o1
    obtain ⟨e0, e1, e2, e3, e4⟩ := C.c.d.q.heads
    obtain ⟨d0, d1, d2, d3, d4⟩ := C.c.q.heads
    obtain ⟨g1, g2, g3, g4, g5⟩ := C.c.ups
    have r3 := hR.below C.c.d.bel
    have hbl : b < wr.heap.size := r3.lt (by omega)
    have hbn : b ≠ wr.heap.size := by omega
    have hn1 : w.heap.size ≠ wr.heap.size := by omega
    have hl1 : w.heap.size < wr.heap.size := by omega
    have hn3 : W6.heap.size ≠ wr.heap.size := by omega
    have HC := veil C
    by_cases hlt : k < s.rn
    case pos =>
      obtain ⟨x0, hx0⟩ : ∃ x, x = s.R.getD (2 * k) 0 := ⟨_, rfl⟩
      obtain ⟨x1, hx1⟩ : ∃ x, x = s.R.getD (2 * k + 1) 0 := ⟨_, rfl⟩
      have k0 : wr.cell? ⟨b, off + k * 2, none⟩ = some (.int .i64 x0) := by rw [Nat.mul_comm k 2, hx0]; exact r3.at (2 * k) (by omega)
      have k1 : wr.cell? ⟨b, off + k * 2 + 1, none⟩ = some (.int .i64 x1) := by rw [Nat.mul_comm k 2, hx1]; exact r3.at (2 * k + 1) (by omega)
      have HI4 : Hid (k + 1 = n + 1 + 1 ∧ M ++ [x0, x1] = (s.R.drop 2).take (2 * (n + 1))) := veil (by
        obtain ⟨i1, i2⟩ := unveil HI
        refine ⟨by omega, ?_⟩
        rw [take_pair (s.R.drop 2) n (by have := hR.len_eq; rw [List.length_drop]; omega), ← i2, getD_drop, getD_drop, hx0, hx1, i1, show 2 + 2 * n = 2 * (n + 1) by omega, show 2 + (2 * n + 1) = 2 * (n + 1) + 1 by omega])
      have b5 : Below wr.heap.size wr (wr.alloc (.cells #[.int .i64 x0, .int .i64 x1] 131)).drew := Below.next (below1 _ _) ⟨rfl, rfl, rfl, Nat.le_refl _, fun _ _ => rfl⟩
      have HO5 : Hid ((wr.alloc (.cells #[.int .i64 x0, .int .i64 x1] 131)).drew.ownsRow (W3.heap.size + 1) 131 2 (.slice a1' n c1') n (M.map (Value.int .i64))) := veil (own_still C.c.o1 (fun g _ hg => b5.block g hg))
      have HB5 := veil b5
      have HR := veil hR
      clear C hx0 hx1 r3 b5 hR HI
      go_wp2_with fail
      go_region_law (refine step_append_many rfl (.tmp 123) (.tmp 129) 85 rfl (W3.heap.size + 1) 131 i1 _ 2 16 Tryz.underlying85 hi1 hz10 hz11 hz12 rfl (by decide) (.slice a1' n c1') n M rfl (unveil HO5) ⟨wr.heap.size, 0, none⟩ 1 1 [x0, x1] rfl rfl (news2 _ _ _ _) (by unfold maxLen; omega) (by omega) (by simp; omega) ?_; intro v' w4 own4 grow4; obtain ⟨a', cap', rfl⟩ := own_form own4; obtain ⟨q4, C4⟩ := (unveil HC).ready (unveil HB5) grow4 [x0, x1] (n + 1) own4; have k4 := q4.heads.2.2.2.1; have f4 := q4.free; have HC4 := veil C4; clear C4 q4 own4 grow4)
      all_goals go_wp2
      all_goals (go_roundw <;> first | exact ⟨k + 1, n + 1, _, _, by omega, by omega, by go_num, unveil HC4, HI4⟩ | (simp [intOf]; omega))
    case neg =>
      obtain rfl : k = s.rn := by omega
      obtain ⟨x0, hx0⟩ : ∃ x, x = s.R.getD 0 0 := ⟨_, rfl⟩
      obtain ⟨x1, hx1⟩ : ∃ x, x = s.R.getD 1 0 := ⟨_, rfl⟩
      have k0 : wr.cell? ⟨b, off, none⟩ = some (.int .i64 x0) := by rw [hx0]; exact r3.at 0 (by omega)
      have k1 : wr.cell? ⟨b, off + 1, none⟩ = some (.int .i64 x1) := by rw [hx1]; exact r3.at 1 (by omega)
      obtain ⟨p0, p1⟩ := C.cells
      have hHl : H < wr.heap.size := block_lt C.h
      have hHn : H ≠ wr.heap.size := by omega
      have hM : n = s.rn - 1 ∧ M = s.R.drop 2 := by
        obtain ⟨j1, j2⟩ := unveil HI
        refine ⟨by omega, ?_⟩
        rw [j2, List.take_of_length_le (by have := hR.len_eq; rw [List.length_drop]; omega)]
      have HST : Hid (Step s v ⟨s.ep, s.nx, s.gv + 1, n, M, s.ln + 1, s.L ++ [s.ep, s.gv, x0, x1], s.wt, s.wz⟩ ⟨0, s.ep, s.gv, x1⟩ true) := veil (by
        rw [hM.1, hM.2, hx0, hx1]
        exact .recv (unveil HK) h0 (unveil HG))
      have HKC : Hid (∀ w3, Below w.heap.size w w3 → w3.cell? ⟨b, off + 1, none⟩ = some (.int .i64 x1)) := veil fun w3 hb => by rw [hx1]; exact (hR.below hb).at 1 (by omega)
      have wM : ∀ u ∈ M, (Lit.int .i64 u).wf = true := by rw [hM.2]; exact fun u hu => hR.wf u (List.mem_of_mem_drop hu)
      have wL : ∀ u ∈ s.L ++ [s.ep, s.gv, x0, x1], (Lit.int .i64 u).wf = true := by
        intro u hu
        rcases List.mem_append.1 hu with hu | hu
        · exact hL.wf u hu
        · simp only [List.mem_cons, List.not_mem_nil, or_false] at hu
          rcases hu with rfl | rfl | rfl | rfl
          · exact wf_in h.count.e0 (by have := h.count.e1; omega)
          · exact wf_in hg0 (by omega)
          · rw [hx0]; exact getD_fits s.R hR.wf _
          · rw [hx1]; exact getD_fits s.R hR.wf _
      have HKC0 : Hid (∀ w3, Below w.heap.size w w3 → w3.cell? ⟨b, off, none⟩ = some (.int .i64 x0) ∧ w3.cell? ⟨b, off + 1, none⟩ = some (.int .i64 x1)) := veil fun w3 hb => ⟨by rw [hx0]; exact (hR.below hb).at 0 (by omega), by rw [hx1]; exact (hR.below hb).at 1 (by omega)⟩
      have hbw : b < w.heap.size := hR.lt (by omega)
      clear C hx0 hx1 r3 hM HI
      go_wp2_with fail
      go_cut [] (fun wx => ∃ a3 c3, Rh w wx W1.heap.size (W1.heap.size + 1) W3.heap.size W6.heap.size s (.slice (some ⟨b, off, none⟩) s.rn rc) (.slice la s.ln lc) ws v ⟨s.ep, s.nx, s.gv, n, M, s.ln + 1, s.L ++ [s.ep, s.gv, x0, x1], s.wt, s.wz⟩ (.slice a1' n c1') (.slice a3 (s.ln + 1) c3) ws H)
      case first =>
        as_aux_lemma =>
        have C0 := (unveil HC).next (below_drew wr)
        have S0 : S30 H w.heap.size s (.slice (some ⟨b, off, none⟩) s.rn rc) b off x0 x1 wr.drew := ⟨C0.h, C0.c.d.q.heads.2.2.2.1, unveil HKC0 _ C0.c.d.bel⟩
        refine wp_region_held_drew (S := S30 H w.heap.size s (.slice (some ⟨b, off, none⟩) s.rn rc) b off x0 x1) (by kernel_rfl) S0 (fun hHeld => ?_)
        refine wpAnyH_take (i := 0) (v := .pointer (some ⟨W6.heap.size, 4, none⟩)) rfl (by kernel_rfl) (by kernel_rfl) (by kernel_rfl) (fun _ _ _ h => h) (Or.inl ⟨by rfl, fun _ _ => by go_simp⟩) hHeld ?_
        simp only [List.getElem_toArray, List.getElem_cons_zero, Act.put, List.setIfInBounds_toArray, List.set_cons_zero, List.set_cons_succ]
        refine wpAnyH_take (i := 2) (v := .agg #[.int .i64 s.ep, .int .i64 s.gv]) rfl (by kernel_rfl) (by kernel_rfl) (by kernel_rfl) (fun _ _ _ h => h) (Or.inl ⟨by rfl, fun w3 h3 => by have y0 : w3.cell? ⟨H, 0, none⟩ = some (.int .i64 s.ep) := (by simp [World.cell?, h3.1]); have y1 : w3.cell? ⟨H, 1, none⟩ = some (.int .i64 s.gv) := (by simp [World.cell?, h3.1]); go_simp⟩) hHeld ?_
        simp only [List.getElem_toArray, List.getElem_cons_zero, List.getElem_cons_succ, Act.put, List.setIfInBounds_toArray, List.set_cons_zero, List.set_cons_succ]
        refine wpAnyH_take (i := 3) (v := .pointer (some ⟨w.heap.size, 3, none⟩)) rfl (by kernel_rfl) (by kernel_rfl) (by kernel_rfl) (fun _ _ _ h => h) (Or.inl ⟨by rfl, fun _ _ => by go_simp⟩) hHeld ?_
        simp only [List.getElem_toArray, List.getElem_cons_zero, List.getElem_cons_succ, Act.put, List.setIfInBounds_toArray, List.set_cons_zero, List.set_cons_succ]
        refine wpAnyH_take (i := 4) (v := .slice (some ⟨b, off, none⟩) s.rn rc) rfl (by kernel_rfl) (by kernel_rfl) (by kernel_rfl) (fun _ _ _ h => h) (Or.inl ⟨by rfl, fun w3 h3 => by have y0 := h3.2.1; go_simp⟩) hHeld ?_
        simp only [List.getElem_toArray, List.getElem_cons_zero, List.getElem_cons_succ, Act.put, List.setIfInBounds_toArray, List.set_cons_zero, List.set_cons_succ]
        refine wpAnyH_take (i := 5) (v := .pointer (some ⟨b, off, none⟩)) rfl (by kernel_rfl) (by kernel_rfl) (by kernel_rfl) (fun _ _ _ h => h) (Or.inl ⟨by rfl, fun _ _ => by go_simp⟩) hHeld ?_
        simp only [List.getElem_toArray, List.getElem_cons_zero, List.getElem_cons_succ, Act.put, List.setIfInBounds_toArray, List.set_cons_zero, List.set_cons_succ]
        refine wpAnyH_take (i := 6) (v := .agg #[.int .i64 x0, .int .i64 x1]) rfl (by kernel_rfl) (by kernel_rfl) (by kernel_rfl) (fun _ _ _ h => h) (Or.inl ⟨by rfl, fun w3 h3 => by obtain ⟨y0, y1⟩ := h3.2.2; go_simp⟩) hHeld ?_
        simp only [List.getElem_toArray, List.getElem_cons_zero, List.getElem_cons_succ, Act.put, List.setIfInBounds_toArray, List.set_cons_zero, List.set_cons_succ]
        refine wpAnyH_take (i := 7) (v := .agg #[.int .i64 s.ep, .int .i64 s.gv, .int .i64 x0, .int .i64 x1]) rfl (by kernel_rfl) (by kernel_rfl) (by kernel_rfl) (fun _ _ _ h => h) (Or.inl ⟨by rfl, fun _ _ => by go_simp⟩) hHeld ?_
        simp only [List.getElem_toArray, List.getElem_cons_zero, List.getElem_cons_succ, Act.put, List.setIfInBounds_toArray, List.set_cons_zero, List.set_cons_succ]
        obtain ⟨W0, hW0⟩ : ∃ W0, W0 = wr.drew := ⟨_, rfl⟩
        rw [← hW0] at C0 S0 hHeld ⊢
        clear hW0
        refine wpAnyH_ready (rs := [1, 8]) (by kernel_rfl) (by simp) ?_
        refine AllReadyH.cons rfl (fun K hK => ?_) (AllReadyH.cons rfl (fun K hK => ?_) AllReadyH.nil)
        · simp only [List.getElem_toArray, List.getElem_cons_zero, List.getElem_cons_succ]
          have y4 := C0.c.q.heads.2.2.2.2
          go_simp
          refine hK.out _ _ S0 (fun hHeld => ?_)
          clear hK K y4
          refine wpAnyH_ready (rs := [8]) (by kernel_rfl) (by simp) ?_
          refine AllReadyH.cons rfl (fun K hK => ?_) AllReadyH.nil
          · simp only [List.getElem_toArray, List.getElem_cons_zero, List.getElem_cons_succ]
            go_simp
            obtain ⟨W0N, hNW, nb, bn⟩ : ∃ W, W = W0.alloc (.cells #[.int .i64 s.ep, .int .i64 s.gv, .int .i64 x0, .int .i64 x1] 133) ∧ (∀ j u, ([s.ep, s.gv, x0, x1].map (Value.int .i64))[j]? = some u → W.cell? ((⟨W0.heap.size, 0, none⟩ : Addr).add j) = some u) ∧ Below W0.heap.size W0 W := ⟨_, rfl, news4 _ _ _ _ _ _, below1 _ _⟩
            rw [← hNW]
            clear hNW
            have hb0 := C0.c.ltA
            have C0 := C0.next bn
            have S0 : S30 H w.heap.size s (.slice (some ⟨b, off, none⟩) s.rn rc) b off x0 x1 W0N := ⟨C0.h, C0.c.d.q.heads.2.2.2.1, unveil HKC0 _ C0.c.d.bel⟩
            have hbs := bn.size
            clear bn
            refine hK.out _ _ S0 (fun hHeld => ?_)
            clear hK K
            refine wpAnyH_ready (rs := [9]) (by kernel_rfl) (by simp) ?_
            refine AllReadyH.cons rfl (fun K hK => ?_) AllReadyH.nil
            · simp only [List.getElem_toArray, List.getElem_cons_zero, List.getElem_cons_succ]
              refine ite_wanted rfl ?_
              refine wp_append_own _ (.tmp 133) (.tmp 140) 86 rfl (W3.heap.size + 1) 133 i2 _ 4 32 Tryz.underlying86 hi2 hz20 hz21 hz22 rfl (by decide) (.slice a2 s.ln c2) s.ln (s.L.map (Value.int .i64)) rfl C0.c.o2 ⟨W0.heap.size, 0, none⟩ 1 1 ([s.ep, s.gv, x0, x1].map (Value.int .i64)) rfl rfl nb (ints_oneCell _ _) (by unfold maxLen; omega) (by omega) (by have := C0.c.ltA; omega) ?_
              intro v' W0NA own4 grow4 _
              rw [← List.map_append] at own4
              obtain ⟨a', cap', rfl⟩ := own_form own4
              have S4 := S0.grown grow4 (fun e => own_off C0.c.o2 C0.h (by decide) H e.symm rfl) (fun q hq => by have := (C0.c.o2.lt q hq).1; have := C0.c.ups; omega) (fun q hq => by have := (C0.c.o2.lt q hq).1; have := C0.c.ups; omega) (block_lt C0.h) (by have := C0.c.ups; omega) (by have := C0.c.ups; omega)
              obtain ⟨q4, C4⟩ := C0.lease (Below.refl _ _) grow4 [s.ep, s.gv, x0, x1] (s.ln + 1) own4
              have k4 := q4.heads.2.2.2.2
              have f4 := q4.free
              refine hK.out _ _ S4 (fun hHeld => ?_)
              clear hK K
              refine wpAnyH_take (i := 10) (v := .pointer (some ⟨W6.heap.size, 4, none⟩)) rfl (by kernel_rfl) (by kernel_rfl) (by kernel_rfl) (fun _ _ _ h => h) (Or.inl ⟨by rfl, fun _ _ => by go_simp⟩) hHeld ?_
              simp only [List.getElem_toArray, List.getElem_cons_zero, List.getElem_cons_succ, Act.put, List.setIfInBounds_toArray, List.set_cons_zero, List.set_cons_succ]
              refine wpAnyH_ready (rs := [11]) (by kernel_rfl) (by simp) ?_
              refine AllReadyH.cons rfl (fun K hK => ?_) AllReadyH.nil
              · simp only [List.getElem_toArray, List.getElem_cons_zero, List.getElem_cons_succ]
                have S5 := S4.turned (Turned.set W6.heap.size 4 W0NA (.slice a' (s.ln + 1) cap')) C0.ne (by have := C0.c.ups; omega) (by have := C0.c.ups; omega)
                go_simp
                refine hK.out _ _ S5 (fun hHeld => ?_)
                clear hK K
                refine wpAnyH_done (by kernel_rfl) ?_ _
                go_wp2_with fail
                go_meet
                exact ⟨_, _, C4⟩
        · simp only [List.getElem_toArray, List.getElem_cons_zero, List.getElem_cons_succ]
          go_simp
          obtain ⟨W0N, hNW, nb, bn⟩ : ∃ W, W = W0.alloc (.cells #[.int .i64 s.ep, .int .i64 s.gv, .int .i64 x0, .int .i64 x1] 133) ∧ (∀ j u, ([s.ep, s.gv, x0, x1].map (Value.int .i64))[j]? = some u → W.cell? ((⟨W0.heap.size, 0, none⟩ : Addr).add j) = some u) ∧ Below W0.heap.size W0 W := ⟨_, rfl, news4 _ _ _ _ _ _, below1 _ _⟩
          rw [← hNW]
          clear hNW
          have hb0 := C0.c.ltA
          have C0 := C0.next bn
          have S0 : S30 H w.heap.size s (.slice (some ⟨b, off, none⟩) s.rn rc) b off x0 x1 W0N := ⟨C0.h, C0.c.d.q.heads.2.2.2.1, unveil HKC0 _ C0.c.d.bel⟩
          have hbs := bn.size
          clear bn
          refine hK.out _ _ S0 (fun hHeld => ?_)
          clear hK K
          refine wpAnyH_ready (rs := [1]) (by kernel_rfl) (by simp) ?_
          refine AllReadyH.cons rfl (fun K hK => ?_) AllReadyH.nil
          · simp only [List.getElem_toArray, List.getElem_cons_zero, List.getElem_cons_succ]
            have y4 := C0.c.q.heads.2.2.2.2
            go_simp
            refine hK.out _ _ S0 (fun hHeld => ?_)
            clear hK K y4
            refine wpAnyH_ready (rs := [9]) (by kernel_rfl) (by simp) ?_
            refine AllReadyH.cons rfl (fun K hK => ?_) AllReadyH.nil
            · simp only [List.getElem_toArray, List.getElem_cons_zero, List.getElem_cons_succ]
              refine ite_wanted rfl ?_
              refine wp_append_own _ (.tmp 133) (.tmp 140) 86 rfl (W3.heap.size + 1) 133 i2 _ 4 32 Tryz.underlying86 hi2 hz20 hz21 hz22 rfl (by decide) (.slice a2 s.ln c2) s.ln (s.L.map (Value.int .i64)) rfl C0.c.o2 ⟨W0.heap.size, 0, none⟩ 1 1 ([s.ep, s.gv, x0, x1].map (Value.int .i64)) rfl rfl nb (ints_oneCell _ _) (by unfold maxLen; omega) (by omega) (by have := C0.c.ltA; omega) ?_
              intro v' W0NA own4 grow4 _
              rw [← List.map_append] at own4
              obtain ⟨a', cap', rfl⟩ := own_form own4
              have S4 := S0.grown grow4 (fun e => own_off C0.c.o2 C0.h (by decide) H e.symm rfl) (fun q hq => by have := (C0.c.o2.lt q hq).1; have := C0.c.ups; omega) (fun q hq => by have := (C0.c.o2.lt q hq).1; have := C0.c.ups; omega) (block_lt C0.h) (by have := C0.c.ups; omega) (by have := C0.c.ups; omega)
              obtain ⟨q4, C4⟩ := C0.lease (Below.refl _ _) grow4 [s.ep, s.gv, x0, x1] (s.ln + 1) own4
              have k4 := q4.heads.2.2.2.2
              have f4 := q4.free
              refine hK.out _ _ S4 (fun hHeld => ?_)
              clear hK K
              refine wpAnyH_take (i := 10) (v := .pointer (some ⟨W6.heap.size, 4, none⟩)) rfl (by kernel_rfl) (by kernel_rfl) (by kernel_rfl) (fun _ _ _ h => h) (Or.inl ⟨by rfl, fun _ _ => by go_simp⟩) hHeld ?_
              simp only [List.getElem_toArray, List.getElem_cons_zero, List.getElem_cons_succ, Act.put, List.setIfInBounds_toArray, List.set_cons_zero, List.set_cons_succ]
              refine wpAnyH_ready (rs := [11]) (by kernel_rfl) (by simp) ?_
              refine AllReadyH.cons rfl (fun K hK => ?_) AllReadyH.nil
              · simp only [List.getElem_toArray, List.getElem_cons_zero, List.getElem_cons_succ]
                have S5 := S4.turned (Turned.set W6.heap.size 4 W0NA (.slice a' (s.ln + 1) cap')) C0.ne (by have := C0.c.ups; omega) (by have := C0.c.ups; omega)
                go_simp
                refine hK.out _ _ S5 (fun hHeld => ?_)
                clear hK K
                refine wpAnyH_done (by kernel_rfl) ?_ _
                go_wp2_with fail
                go_meet
                exact ⟨_, _, C4⟩
      case rest =>
        obtain ⟨a3, c3, C5⟩ := hcut
        obtain ⟨WE, hWE⟩ : ∃ WE, WE = wc := ⟨_, rfl⟩
        subst hWE
        clear e0 e1 e2 e3 e4 d0 d1 d2 d3 d4 k0 k1 p0 p1 HC hHl hHn hbl hbn hn1 hl1 hn3 g1 g2 g3 g4 g5
        obtain ⟨d0, d1, d2, d3, d4⟩ := C5.c.q.heads
        have df := C5.c.q.free
        obtain ⟨e0, e1, e2, e3, e4⟩ := C5.c.d.q.heads
        have C6 := C5.given (s.gv + 1) (C5.c.q.givens (s.gv + 1))
        clear C5
        go_upto_region 32 with fail
        obtain ⟨WF, hWF⟩ : ∃ WF, WF = WE.setCell ⟨W6.heap.size, 2, none⟩ (.int .i64 (s.gv + 1)) := ⟨_, rfl⟩
        rw [← hWF] at C6 ⊢
        clear hWF d0 d1 d2 d3 d4 df e0 e1 e2 e3 e4
        have C6d := C6.c.next (below_drew WF)
        obtain ⟨g1, g2, g3, g4, g5⟩ := C6d.ups
        have nHX := C6.ne
        have hHA := C6.up
        have S0 : S32 W6.heap.size H w.heap.size s (s.gv + 1) (.slice a1' n c1') (.slice a3 (s.ln + 1) c3) (.slice (some ⟨b, off, none⟩) s.rn rc) (.slice la s.ln lc) ws b (off + 1) x1 WF.drew := ⟨C6d.q, C6.h, C6d.d.q, unveil HKC _ C6d.d.bel⟩
        refine wp_region_held_drew (S := S32 W6.heap.size H w.heap.size s (s.gv + 1) (.slice a1' n c1') (.slice a3 (s.ln + 1) c3) (.slice (some ⟨b, off, none⟩) s.rn rc) (.slice la s.ln lc) ws b (off + 1) x1) (by kernel_rfl) S0 (fun hHeld => ?_)
        refine wpAnyH_take (i := 0) (v := _) rfl (by kernel_rfl) (by kernel_rfl) (by kernel_rfl) (fun _ _ _ h => h) (yields_q _ rfl rfl rfl (fun _ h => h.1)) hHeld ?_
        simp only [List.getElem_toArray, List.getElem_cons_zero, Act.put, List.setIfInBounds_toArray, List.set_cons_zero, List.set_cons_succ]
        refine wpAnyH_take (i := 1) (v := .agg #[.int .i64 s.ep, .int .i64 s.gv]) rfl (by kernel_rfl) (by kernel_rfl) (by kernel_rfl) (fun _ _ _ h => h) (Or.inl ⟨by rfl, fun w3 h3 => by have y0 : w3.cell? ⟨H, 0, none⟩ = some (.int .i64 s.ep) := (by simp [World.cell?, h3.2.1]); have y1 : w3.cell? ⟨H, 1, none⟩ = some (.int .i64 s.gv) := (by simp [World.cell?, h3.2.1]); go_simp⟩) hHeld ?_
        simp only [List.getElem_toArray, List.getElem_cons_zero, List.getElem_cons_succ, Act.put, List.setIfInBounds_toArray, List.set_cons_zero, List.set_cons_succ]
        refine wpAnyH_take (i := 2) (v := .pointer (some ⟨w.heap.size, 3, none⟩)) rfl (by kernel_rfl) (by kernel_rfl) (by kernel_rfl) (fun _ _ _ h => h) (Or.inl ⟨by rfl, fun _ _ => by go_simp⟩) hHeld ?_
        simp only [List.getElem_toArray, List.getElem_cons_zero, List.getElem_cons_succ, Act.put, List.setIfInBounds_toArray, List.set_cons_zero, List.set_cons_succ]
        refine wpAnyH_take (i := 3) (v := .slice (some ⟨b, off, none⟩) s.rn rc) rfl (by kernel_rfl) (by kernel_rfl) (by kernel_rfl) (fun _ _ _ h => h) (Or.inl ⟨by rfl, fun w3 h3 => by obtain ⟨z0, z1, z2, z3, z4⟩ := h3.2.2.1.heads; go_simp⟩) hHeld ?_
        simp only [List.getElem_toArray, List.getElem_cons_zero, List.getElem_cons_succ, Act.put, List.setIfInBounds_toArray, List.set_cons_zero, List.set_cons_succ]
        refine wpAnyH_take (i := 4) (v := .pointer (some ⟨b, off, none⟩)) rfl (by kernel_rfl) (by kernel_rfl) (by kernel_rfl) (fun _ _ _ h => h) (Or.inl ⟨by rfl, fun _ _ => by go_simp⟩) hHeld ?_
        simp only [List.getElem_toArray, List.getElem_cons_zero, List.getElem_cons_succ, Act.put, List.setIfInBounds_toArray, List.set_cons_zero, List.set_cons_succ]
        refine wpAnyH_take (i := 5) (v := .pointer (some ⟨b, off + 1, none⟩)) rfl (by kernel_rfl) (by kernel_rfl) (by kernel_rfl) (fun _ _ _ h => h) (Or.inl ⟨by rfl, fun _ _ => by go_simp⟩) hHeld ?_
        simp only [List.getElem_toArray, List.getElem_cons_zero, List.getElem_cons_succ, Act.put, List.setIfInBounds_toArray, List.set_cons_zero, List.set_cons_succ]
        refine wpAnyH_take (i := 6) (v := .int .i64 x1) rfl (by kernel_rfl) (by kernel_rfl) (by kernel_rfl) (fun _ _ _ h => h) (Or.inl ⟨by rfl, fun w3 h3 => by have y0 := h3.2.2.2; go_simp⟩) hHeld ?_
        simp only [List.getElem_toArray, List.getElem_cons_zero, List.getElem_cons_succ, Act.put, List.setIfInBounds_toArray, List.set_cons_zero, List.set_cons_succ]
        refine wpAnyH_take (i := 7) (v := ansVal 0 s.ep s.gv x1) rfl (by kernel_rfl) (by kernel_rfl) (by kernel_rfl) (fun _ _ _ h => h) (Or.inl ⟨by rfl, fun _ _ => by go_simp⟩) hHeld ?_
        simp only [List.getElem_toArray, List.getElem_cons_zero, List.getElem_cons_succ, Act.put, List.setIfInBounds_toArray, List.set_cons_zero, List.set_cons_succ]
        refine wpAnyH_ready (rs := [8]) (by kernel_rfl) (by simp) ?_
        refine AllReadyH.cons rfl (fun K hK => ?_) AllReadyH.nil
        simp only [List.getElem_toArray, List.getElem_cons_zero, List.getElem_cons_succ]
        refine ite_wanted rfl ?_
        have zq : qBlock WF.drew (W1.heap.size + 1) 0 0 0 (.slice none 0 0) (.slice none 0 0) zeroW := C6d.d.z
        refine wp_store_mid 92 (.tmp 4) (.tmp 147) rfl (W1.heap.size + 1) 0 _ rfl rfl (by rw [qCells_size]; exact zq.there) (by rw [qCells_size]; exact Tryz.infoQ) (qCells_one hW) ?_
        have q11 := zq.stored s.ep s.nx (s.gv + 1) (.slice a1' n c1') (.slice a3 (s.ln + 1) c3) ws
        have T11 := Turned.sets (W1.heap.size + 1) (qCells s.ep s.nx (s.gv + 1) (.slice a1' n c1') (.slice a3 (s.ln + 1) c3) ws).toList 0 WF.drew
        have S11 := S0.turned T11 (by omega) (by omega) (by omega) (by omega)
        have a11 := C6d.d.a.turned T11 (by omega)
        obtain ⟨fa, fT, fq, fb⟩ := C6d.out T11 hW wM wL 0 s.ep s.gv x1
        refine hK.out _ _ S11 (fun hHeld => ?_)
        clear hK K
        generalize WF.drew.setCells (W1.heap.size + 1) 0 (qCells s.ep s.nx (s.gv + 1) (.slice a1' n c1') (.slice a3 (s.ln + 1) c3) ws).toList = W11 at q11 T11 S11 a11 fa fT fq fb hHeld ⊢
        refine wpAnyH_ready (rs := [9]) (by kernel_rfl) (by simp) ?_
        refine AllReadyH.cons rfl (fun K hK => ?_) AllReadyH.nil
        simp only [List.getElem_toArray, List.getElem_cons_zero, List.getElem_cons_succ]
        obtain ⟨u0, u1, u2, u3⟩ := a11.cells
        have xf := a11.free
        have q12 := fT.queue q11 (by omega)
        have S12 := S11.turned fT (by omega) (by omega) (by omega) (by omega)
        unfold ansStore at fa fT fq fb q12 S12
        go_simp
        refine hK.out _ _ S12 (fun hHeld => ?_)
        clear hK K
        generalize (((W11.setCell ⟨W3.heap.size, 0, none⟩ (.int .i64 0)).setCell ⟨W3.heap.size, 1, none⟩ (.int .i64 s.ep)).setCell ⟨W3.heap.size, 2, none⟩ (.int .i64 s.gv)).setCell ⟨W3.heap.size, 3, none⟩ (.int .i64 x1) = W12 at fa fT fq fb q12 S12 hHeld ⊢
        refine wpAnyH_take (i := 10) (v := .bool true) rfl (by kernel_rfl) (by kernel_rfl) (by kernel_rfl) (fun _ _ _ h => h) (Or.inl ⟨by rfl, fun _ _ => by go_simp⟩) hHeld ?_
        simp only [List.getElem_toArray, List.getElem_cons_zero, List.getElem_cons_succ, Act.put, List.setIfInBounds_toArray, List.set_cons_zero, List.set_cons_succ]
        refine wpAnyH_take (i := 11) (v := .int .i64 0) rfl (by kernel_rfl) (by kernel_rfl) (by kernel_rfl) (fun _ _ _ h => h) (Or.inl ⟨by rfl, fun _ _ => by go_simp⟩) hHeld ?_
        simp only [List.getElem_toArray, List.getElem_cons_zero, List.getElem_cons_succ, Act.put, List.setIfInBounds_toArray, List.set_cons_zero, List.set_cons_succ]
        refine wpAnyH_done (by kernel_rfl) ?_ _
        have HA := veil fa
        have HQ := veil q12
        have HFq := veil fq
        have HFb := veil fb
        clear fa fT fq fb q12 S12 S11 S0 q11 T11 a11 u0 u1 u2 u3 xf zq C6d C6 hHeld
        go_wp2
        have fin1 := unveil HST
        have fin2 := unveil HFq
        have fin3 := unveil HFb
        have fin4 := unveil HQ
        have fin5 := unveil HA
        have fin6 := QdR.of fin1 fin2 fin3
        clear HST HFq HFb HQ HA fin1 fin2 fin3 HKC HG HK hv hR hL hW
        exact bodyPost_ret (ret_QueueDone fin4 fin5 rfl rfl rfl rfl) rfl fin6
end Go.Proofs.YtcdopnkabbfooaaGreat
