/- The document's answer's QueueDone: where it refuses, and what stands on its way. -/
import Derived.Test.YtcdopnkabbfooaaGreatQvC
import Derived.Test.YtcdopnkabbfooaaGreatQuG
import Derived.Test.YtcdopnkabbfooaaGreatQuI
import Derived.Test.YtcdopnkabbfooaaGreatPkG
namespace Go.Proofs.YtcdopnkabbfooaaGreat
open Go.RowKit

theorem queueFault_yes (ep nx gv : Int) (ra la : Option Addr) (rn rc ln lc : Nat) (R L : List Int) (ws : Nat → Value) (wt : Nat → Int) (wz : Nat → Nat → Bool) (w : World) (hR : RowK .i64 w ra (2 * rn) R) (hL : RowK .i64 w la (4 * ln) L) (hW : Wins ws wt wz) (hs : rn + ln ≤ 9223372036854775807) (h : QueueOk ep nx gv R rn L ln wt wz) :
    Calls Tryz.prog 88 #[qVal ep nx gv (.slice ra rn rc) (.slice la ln lc) ws] w fun e w' => e = .returned (.int .i64 0) ∧ Below w.heap.size w w' := by
  have := queueFault_any ep nx gv ra la rn rc ln lc R L ws wt wz w hR hL hW hs
  rwa [okNum_yes h] at this
theorem queueFault_no (ep nx gv : Int) (ra la : Option Addr) (rn rc ln lc : Nat) (R L : List Int) (ws : Nat → Value) (wt : Nat → Int) (wz : Nat → Nat → Bool) (w : World) (hR : RowK .i64 w ra (2 * rn) R) (hL : RowK .i64 w la (4 * ln) L) (hW : Wins ws wt wz) (hs : rn + ln ≤ 9223372036854775807) (h : ¬ QueueOk ep nx gv R rn L ln wt wz) :
    Calls Tryz.prog 88 #[qVal ep nx gv (.slice ra rn rc) (.slice la ln lc) ws] w fun e w' => e = .returned (.int .i64 6) ∧ Below w.heap.size w w' := by
  have := queueFault_any ep nx gv ra la rn rc ln lc R L ws wt wz w hR hL hW hs
  rwa [okNum_no h] at this
theorem ret_QueueDone {W : World} {Z A : Nat} {ep nx gv : Int} {r l : Value} {ws : Nat → Value} {c he no bd er : Int} {ch : Bool} {tmps : Array Value} (q : qBlock W Z ep nx gv r l ws) (a : ansBlock W A c he no bd) (t4 : tmps[4]? = some (.pointer (some ⟨Z, 0, none⟩))) (t5 : tmps[5]? = some (.pointer (some ⟨A, 0, none⟩))) (t6 : tmps[6]? = some (.bool ch)) (t7 : tmps[7]? = some (.int .i64 er)) :
    (results Tryz.f84 tmps).run Tryz.prog W = .ok (.tuple #[qVal ep nx gv r l ws, ansVal c he no bd, .bool ch, .int .i64 er]) W := by
  have h1 := run_loadVar_row (P := Tryz.prog) W Z 92 92 _ (0, 0) _ q Tryz.underlying92 rfl (by rw [qCells_size]; exact Tryz.infoQ)
  have h2 := run_loadVar_row (P := Tryz.prog) W A 75 75 _ (0, 0) _ a Tryz.underlying75 rfl (by kernel_rfl)
  simp [results, Tryz.results84, t4, t5, t6, t7, asAddr, h1, h2]
set_option maxRecDepth 20000 in
set_option maxHeartbeats 4000000 in
theorem queueDone_state (s : St) (ra la : Option Addr) (rc lc : Nat) (ws : Nat → Value) (v : Ev) (w : World) (hR : RowK .i64 w ra (2 * s.rn) s.R) (hL : RowK .i64 w la (4 * s.ln) s.L) (hW : Wins ws s.wt s.wz) (hs : s.rn + s.ln ≤ 9223372036854775807) (h : ¬ s.Ok) :
    Calls Tryz.prog 84 #[qVal s.ep s.nx s.gv (.slice ra s.rn rc) (.slice la s.ln lc) ws, evIn v] w fun e w' => e = .returned (refused 6) ∧ Below w.heap.size w w' := by
  go_enter Tryz.func84, Tryz.ntmps84
  go_wp2_with (first
    | (refine q_box 2 _ rfl rfl rfl rfl ?_; intro W1 q1 b1)
    | (refine q_alloc 4 rfl rfl rfl ?_; intro W3 z3 b3; have DD := Dos.made q1 b1 z3 b3; have DQ := DD.q; have HDD := veil DD; clear DD z3 b3 q1 b1)
    | (refine q_loads _ rfl rfl rfl (by assumption) ?_)
    | (go_at_call 88; refine (queueFault_no _ _ _ _ _ _ _ _ _ _ _ _ s.wt s.wz _ (hR.below (unveil HDD).bel) (hL.below (unveil HDD).bel) hW hs h).mono ?_; rintro e W5 ⟨rfl, b5⟩; have D5 := (unveil HDD).next b5; have z5 := D5.z; obtain ⟨y0, y1, y2, y3⟩ := D5.a.cells; have yf := D5.a.free; have HD5 := veil D5; clear D5 HDD DQ b5)
    | (refine q_store (ra := none) (la := none) (rn := 0) (rc := 0) (ln := 0) (lc := 0) (ws' := zeroW) _ _ rfl rfl rfl rfl z5 zeroWins ?_; intro W6 q6 t6; obtain ⟨a6, b6⟩ := (unveil HD5).end t6; obtain ⟨x0, x1, x2, x3⟩ := a6.cells; have xf := a6.free; have HQ6 := veil q6; have HA6 := veil a6; have HB6 := veil b6; have nZA : W3.heap.size ≠ W1.heap.size + 1 := (by have := (unveil HD5).upA; omega); have hAl : w.heap.size ≤ W3.heap.size := (by have := (unveil HD5).upE; have := (unveil HD5).upZ; have := (unveil HD5).upA; omega); clear z5 y0 y1 y2 y3 yf q6 t6 a6 b6))
  have T7 := ans_turned W6 W3.heap.size 0 0 0 0
  exact bodyPost_ret (ret_QueueDone (T7.queue (unveil HQ6) (by omega)) ((unveil HA6).store 0 0 0 0) rfl rfl rfl rfl) rfl ⟨rfl, T7.under (unveil HB6) hAl⟩

set_option maxRecDepth 20000 in
set_option maxHeartbeats 4000000 in
theorem queueDone_form (s : St) (ra la : Option Addr) (rc lc : Nat) (ws : Nat → Value) (v : Ev) (w : World) (hR : RowK .i64 w ra (2 * s.rn) s.R) (hL : RowK .i64 w la (4 * s.ln) s.L) (hW : Wins ws s.wt s.wz) (h : s.Ok) (f : Int) (hf : ¬ f = 0) (HF : Hid (eventFault v.k v.p v.i v.b v.he v.hn = f)) :
    Calls Tryz.prog 84 #[qVal s.ep s.nx s.gv (.slice ra s.rn rc) (.slice la s.ln lc) ws, evIn v] w fun e w' => e = .returned (refused f) ∧ Below w.heap.size w w' := by
  have HC : ∀ w, Calls Tryz.prog 66 #[evIn v] w fun e w' => e = .returned (.int .i64 f) ∧ Below w.heap.size w w' := fun w => by
    have := fault_any v.k v.p v.i v.b v.he v.hn w
    rwa [unveil HF] at this
  have hs : s.rn + s.ln ≤ 9223372036854775807 := by have := h.count.sz; omega
  go_enter Tryz.func84, Tryz.ntmps84
  go_wp2_with (first
    | (refine q_box 2 _ rfl rfl rfl rfl ?_; intro W1 q1 b1)
    | (refine q_alloc 4 rfl rfl rfl ?_; intro W3 z3 b3; have DD := Dos.made q1 b1 z3 b3; have DQ := DD.q; have HDD := veil DD; clear DD z3 b3 q1 b1)
    | (refine q_loads _ rfl rfl rfl (by assumption) ?_)
    | (go_at_call 88; refine (queueFault_yes _ _ _ _ _ _ _ _ _ _ _ _ s.wt s.wz _ (hR.below (unveil HDD).bel) (hL.below (unveil HDD).bel) hW hs h).mono ?_; rintro e W4 ⟨rfl, b4⟩; have D4 := (unveil HDD).next b4; have ev4 := D4.e; have v0 : W4.cell? ⟨W1.heap.size, 0, none⟩ = some (.int .i64 v.k) := (by simp [World.cell?, ev4]); have v1 : W4.cell? ⟨W1.heap.size, 1, none⟩ = some (.int .i64 v.p) := (by simp [World.cell?, ev4]); have v2 : W4.cell? ⟨W1.heap.size, 2, none⟩ = some (.int .i64 v.i) := (by simp [World.cell?, ev4]); have v3 : W4.cell? ⟨W1.heap.size, 3, none⟩ = some (.int .i64 v.b) := (by simp [World.cell?, ev4]); have v4 : W4.cell? ⟨W1.heap.size, 4, none⟩ = some (.int .i64 v.he) := (by simp [World.cell?, ev4]); have v5 : W4.cell? ⟨W1.heap.size, 5, none⟩ = some (.int .i64 v.hn) := (by simp [World.cell?, ev4]); have HD4 := veil D4; clear D4 HDD DQ b4 ev4)
    | (go_at_call 66; refine (HC _).mono ?_; rintro e W5 ⟨rfl, b5⟩; have D5 := (unveil HD4).next b5; have z5 := D5.z; obtain ⟨y0, y1, y2, y3⟩ := D5.a.cells; have yf := D5.a.free; have HD5 := veil D5; clear D5 HD4 b5 v0 v1 v2 v3 v4 v5)
    | (refine q_store (ra := none) (la := none) (rn := 0) (rc := 0) (ln := 0) (lc := 0) (ws' := zeroW) _ _ rfl rfl rfl rfl z5 zeroWins ?_; intro W6 q6 t6; obtain ⟨a6, b6⟩ := (unveil HD5).end t6; obtain ⟨x0, x1, x2, x3⟩ := a6.cells; have xf := a6.free; have HQ6 := veil q6; have HA6 := veil a6; have HB6 := veil b6; have nZA : W3.heap.size ≠ W1.heap.size + 1 := (by have := (unveil HD5).upA; omega); have hAl : w.heap.size ≤ W3.heap.size := (by have := (unveil HD5).upE; have := (unveil HD5).upZ; have := (unveil HD5).upA; omega); clear z5 y0 y1 y2 y3 yf q6 t6 a6 b6))
  have T7 := ans_turned W6 W3.heap.size 0 0 0 0
  exact bodyPost_ret (ret_QueueDone (T7.queue (unveil HQ6) (by omega)) ((unveil HA6).store 0 0 0 0) rfl rfl rfl rfl) rfl ⟨rfl, T7.under (unveil HB6) hAl⟩

/-- what QueueDone answers. -/
def QdR (s : St) (v : Ev) (w : World) (e : Ending) (w' : World) : Prop := ∃ (s' : St) (an : An) (ch : Bool) (x : Value), e = .returned (.tuple #[x, anOf an, .bool ch, .int .i64 0]) ∧ Step s v s' an ch ∧ QOut w w' s' x ∧ Below w.heap.size w w'
theorem QdR.of {s s' : St} {v : Ev} {w w' : World} {c he no bd : Int} {ch : Bool} {x : Value} (st : Step s v s' ⟨c, he, no, bd⟩ ch) (q : QOut w w' s' x) (b : Below w.heap.size w w') : QdR s v w (.returned (.tuple #[x, ansVal c he no bd, .bool ch, .int .i64 0])) w' :=
  ⟨s', ⟨c, he, no, bd⟩, ch, x, rfl, st, q, b⟩
/-- QueueDone on its way: the four boxes, and the copy at X. -/
structure Qd (w wx : World) (E Z A X : Nat) (s : St) (rv lv : Value) (ws : Nat → Value) (v : Ev) (t : St) (v1 v2 : Value) (wv : Nat → Value) : Prop where
  d : Dos w wx E Z A s rv lv ws v
  q : qBlock wx X t.ep t.nx t.gv v1 v2 wv
  o1 : wx.ownsRow (A + 1) 131 2 v1 t.rn (t.R.map (Value.int .i64))
  o2 : wx.ownsRow (A + 1) 133 4 v2 t.ln (t.L.map (Value.int .i64))
  upX : A < X
section
variable {w wx wy W5 w5 : World} {E Z A X : Nat} {s t : St} {rv lv v1 v2 v3 : Value} {ws wv wv' : Nat → Value} {v : Ev}
theorem Qd.ltA (h : Qd w wx E Z A X s rv lv ws v t v1 v2 wv) : A < wx.heap.size := h.d.a.lt
theorem Qd.ups (h : Qd w wx E Z A X s rv lv ws v t v1 v2 wv) : w.heap.size < E ∧ E < Z ∧ Z < A ∧ A < X ∧ X < wx.heap.size := ⟨h.d.upE, h.d.upZ, h.d.upA, h.upX, h.q.lt⟩
theorem Qd.next (h : Qd w wx E Z A X s rv lv ws v t v1 v2 wv) (b : Below wx.heap.size wx wy) : Qd w wy E Z A X s rv lv ws v t v1 v2 wv :=
  ⟨h.d.next b, h.q.next b, own_still h.o1 (fun g _ hg => b.block g hg), own_still h.o2 (fun g _ hg => b.block g hg), h.upX⟩
theorem Dos.turned (h : Dos w wx E Z A s rv lv ws v) (T : Turned X wx wy) (hX : A < X) : Dos w wy E Z A s rv lv ws v := by
  have := h.upE; have := h.upZ; have := h.upA
  exact ⟨T.queue h.q (by omega), (T.block E (by omega)).trans h.e, T.queue h.z (by omega), h.a.turned T (by omega), T.under h.bel (by omega), h.upE, h.upZ, h.upA⟩
/-- the copy's block stored anew. -/
theorem Qd.turn (h : Qd w wx E Z A X s rv lv ws v t v1 v2 wv) (T : Turned X wx wy) {ep nx gv : Int} {wt : Nat → Int} {wz : Nat → Nat → Bool} (q : qBlock wy X ep nx gv v1 v2 wv') : Qd w wy E Z A X s rv lv ws v ⟨ep, nx, gv, t.rn, t.R, t.ln, t.L, wt, wz⟩ v1 v2 wv' :=
  ⟨h.d.turned T h.upX, q, T.owns h.o1 (own_off h.o1 h.q (by decide)), T.owns h.o2 (own_off h.o2 h.q (by decide)), h.upX⟩
theorem Qd.made {W6 W7 W8 : World} (D6 : Dos w W6 E Z A s rv lv ws v) (o1 : W6.ownsRow (A + 1) 131 2 v1 s.rn (s.R.map (Value.int .i64))) (o2 : W6.ownsRow (A + 1) 133 4 v2 s.ln (s.L.map (Value.int .i64))) (b7 : Below W6.heap.size W6 W7) (q8 : qBlock W8 W6.heap.size s.ep s.nx s.gv v1 v2 ws) (t8 : Turned W6.heap.size W7 W8) : Qd w W8 E Z A W6.heap.size s rv lv ws v s v1 v2 ws := by
  have hA : A < W6.heap.size := D6.a.lt
  refine ⟨(D6.next b7).turned t8 hA, q8, ?_, ?_, hA⟩
  · exact own_still o1 (fun g _ hg => (t8.block g (by omega)).trans (b7.block g hg))
  · exact own_still o2 (fun g _ hg => (t8.block g (by omega)).trans (b7.block g hg))
/-- the copy's rows thrown away. -/
theorem Qd.noReady (h : Qd w wx E Z A X s rv lv ws v t v1 v2 wv) : Qd w (wx.setCell ⟨X, 3, none⟩ (.slice none 0 0)) E Z A X s rv lv ws v ⟨t.ep, t.nx, t.gv, 0, [], t.ln, t.L, t.wt, t.wz⟩ (.slice none 0 0) v2 wv := by
  have T := Turned.set X 3 wx (.slice none 0 0)
  exact ⟨h.d.turned T h.upX, h.q.ready _, World.ownsRow_nil _ _ _ _, T.owns h.o2 (own_off h.o2 h.q (by decide)), h.upX⟩
theorem Qd.noLeases (h : Qd w wx E Z A X s rv lv ws v t v1 v2 wv) : Qd w (wx.setCell ⟨X, 4, none⟩ (.slice none 0 0)) E Z A X s rv lv ws v ⟨t.ep, t.nx, t.gv, t.rn, t.R, 0, [], t.wt, t.wz⟩ v1 (.slice none 0 0) wv := by
  have T := Turned.set X 4 wx (.slice none 0 0)
  exact ⟨h.d.turned T h.upX, h.q.leases _, T.owns h.o1 (own_off h.o1 h.q (by decide)), World.ownsRow_nil _ _ _ _, h.upX⟩
/-- one message more. -/
theorem Qd.ready (h : Qd w wx E Z A X s rv lv ws v t v1 v2 wv) (b5 : Below wx.heap.size wx W5) (gr : W5.grownBy w5 v1.ownBlock) (ys : List Int) (n : Nat) (own : w5.ownsRow (A + 1) 131 2 v3 n ((t.R ++ ys).map (Value.int .i64))) :
    qBlock w5 X t.ep t.nx t.gv v1 v2 wv ∧ Qd w (w5.setCell ⟨X, 3, none⟩ v3) E Z A X s rv lv ws v ⟨t.ep, t.nx, t.gv, n, t.R ++ ys, t.ln, t.L, t.wt, t.wz⟩ v3 v2 wv := by
  have hA := h.ltA
  have hb : Below (A + 1) wx w5 := (b5.mono (by omega)).grown gr (by have := b5.size; omega) (fun q hq => (h.o1.lt q hq).1)
  have hB : qBlock w5 X t.ep t.nx t.gv v1 v2 wv := by
    unfold qBlock
    rw [gr.block X (by have := b5.size; have := h.q.lt; omega) (fun e => own_off h.o1 h.q (by decide) X e.symm rfl), b5.block X h.q.lt]
    exact h.q
  have T := Turned.set X 3 w5 v3
  have o2' : w5.ownsRow (A + 1) 133 4 v2 t.ln (t.L.map (Value.int .i64)) := own_grown (own_still h.o2 (fun q _ hq => b5.block q hq)) gr (fun q h1 h2 => own_apart h.o2 h.o1 (by decide) q h1 h2)
  exact ⟨hB, (h.d.under hb (by omega)).turned T h.upX, hB.ready _, T.owns own (own_off own hB (by decide)), T.owns o2' (own_off o2' hB (by decide)), h.upX⟩
theorem Qd.lease (h : Qd w wx E Z A X s rv lv ws v t v1 v2 wv) (b5 : Below wx.heap.size wx W5) (gr : W5.grownBy w5 v2.ownBlock) (ys : List Int) (n : Nat) (own : w5.ownsRow (A + 1) 133 4 v3 n ((t.L ++ ys).map (Value.int .i64))) :
    qBlock w5 X t.ep t.nx t.gv v1 v2 wv ∧ Qd w (w5.setCell ⟨X, 4, none⟩ v3) E Z A X s rv lv ws v ⟨t.ep, t.nx, t.gv, t.rn, t.R, n, t.L ++ ys, t.wt, t.wz⟩ v1 v3 wv := by
  have hA := h.ltA
  have hb : Below (A + 1) wx w5 := (b5.mono (by omega)).grown gr (by have := b5.size; omega) (fun q hq => (h.o2.lt q hq).1)
  have hB : qBlock w5 X t.ep t.nx t.gv v1 v2 wv := by
    unfold qBlock
    rw [gr.block X (by have := b5.size; have := h.q.lt; omega) (fun e => own_off h.o2 h.q (by decide) X e.symm rfl), b5.block X h.q.lt]
    exact h.q
  have T := Turned.set X 4 w5 v3
  have o1' : w5.ownsRow (A + 1) 131 2 v1 t.rn (t.R.map (Value.int .i64)) := own_grown (own_still h.o1 (fun q _ hq => b5.block q hq)) gr (fun q h1 h2 => own_apart h.o1 h.o2 (by decide) q h1 h2)
  exact ⟨hB, (h.d.under hb (by omega)).turned T h.upX, hB.leases _, T.owns o1' (own_off o1' hB (by decide)), T.owns own (own_off own hB (by decide)), h.upX⟩
/-- the answer of QueueDone: the copy in the result's box. -/
theorem Qd.out {a1 a2 : Option Addr} {c1 c2 : Nat} (h : Qd w wx E Z A X s rv lv ws v t (.slice a1 t.rn c1) (.slice a2 t.ln c2) wv) (T : Turned Z wx wy) (hW : Wins wv t.wt t.wz) (wR : ∀ u ∈ t.R, (Lit.int .i64 u).wf = true) (wL : ∀ u ∈ t.L, (Lit.int .i64 u).wf = true) (c he no bd : Int) :
    ansBlock (ansStore wy A c he no bd) A c he no bd ∧ Turned A wy (ansStore wy A c he no bd) ∧ QOut w (ansStore wy A c he no bd) t (qVal t.ep t.nx t.gv (.slice a1 t.rn c1) (.slice a2 t.ln c2) wv) ∧ Below w.heap.size w (ansStore wy A c he no bd) := by
  obtain ⟨u1, u2, u3, u4, u5⟩ := h.ups
  have T8 := ans_turned wy A c he no bd
  have hz : A ≠ Z := by omega
  have ay := h.d.a.turned T hz
  have o1 : (ansStore wy A c he no bd).ownsRow (A + 1) 131 2 (.slice a1 t.rn c1) t.rn (t.R.map (Value.int .i64)) := T8.own (T.own h.o1 (by omega)) (by omega)
  have o2 : (ansStore wy A c he no bd).ownsRow (A + 1) 133 4 (.slice a2 t.ln c2) t.ln (t.L.map (Value.int .i64)) := T8.own (T.own h.o2 (by omega)) (by omega)
  obtain ⟨_, _, e1, r1, l1, _, n1, x1⟩ := RowK.ofMany o1 wR
  obtain ⟨_, _, e2, r2, l2, _, n2, x2⟩ := RowK.ofMany o2 wL
  cases e1; cases e2
  exact ⟨ay.store c he no bd, T8, ⟨a1, c1, a2, c2, wv, rfl, r1, r2, l1, l2, n1, n2, hW, fun x hx => by have := x1 x hx; omega, fun x hx => by have := x2 x hx; omega⟩, T8.under (T.under h.d.bel (by omega)) (by omega)⟩
end
end Go.Proofs.YtcdopnkabbfooaaGreat
