/- Texts put together: RqC, RqM, RqE, RqF, RqA, RqB. -/
import Derived.Test.YtlfecmkpafgcmaaQAll
import Derived.Test.YtlfecmkpafgcmaaQuG
import Derived.Test.YtlfecmkpafgcmaaQuI
import Derived.Test.YtlfecmkpafgcmaaPkG
import Derived.Deep.DeepCutAuto
import Derived.Deep.QuietTactic
import Derived.Test.YtlfecmkpafgcmaaQuMore
namespace Go.Proofs.Ytlfecmkpafgcmaa
open Go.RowKit

theorem queueFault_yes (ep nx gv : Int) (ra la : Option Addr) (rn rc ln lc : Nat) (R L : List Int) (ws : Nat → Value) (wt : Nat → Int) (wz : Nat → Nat → Bool) (w : World) (hR : RowK .i64 w ra (2 * rn) R) (hL : RowK .i64 w la (4 * ln) L) (hW : Wins ws wt wz) (hs : rn + ln ≤ 9223372036854775807) (h : QueueOk ep nx gv R rn L ln wt wz) :
    Calls Try.prog 51 #[qVal ep nx gv (.slice ra rn rc) (.slice la ln lc) ws] w fun e w' => e = .returned (.int .i64 0) ∧ Below w.heap.size w w' := by
  have := queueFault_any ep nx gv ra la rn rc ln lc R L ws wt wz w hR hL hW hs
  rwa [okNum_yes h] at this
theorem queueFault_no (ep nx gv : Int) (ra la : Option Addr) (rn rc ln lc : Nat) (R L : List Int) (ws : Nat → Value) (wt : Nat → Int) (wz : Nat → Nat → Bool) (w : World) (hR : RowK .i64 w ra (2 * rn) R) (hL : RowK .i64 w la (4 * ln) L) (hW : Wins ws wt wz) (hs : rn + ln ≤ 9223372036854775807) (h : ¬ QueueOk ep nx gv R rn L ln wt wz) :
    Calls Try.prog 51 #[qVal ep nx gv (.slice ra rn rc) (.slice la ln lc) ws] w fun e w' => e = .returned (.int .i64 6) ∧ Below w.heap.size w w' := by
  have := queueFault_any ep nx gv ra la rn rc ln lc R L ws wt wz w hR hL hW hs
  rwa [okNum_no h] at this
theorem ret_QueueDone {W : World} {Z A : Nat} {ep nx gv : Int} {r l : Value} {ws : Nat → Value} {c he no bd er : Int} {ch : Bool} {tmps : Array Value} (q : qBlock W Z ep nx gv r l ws) (a : ansBlock W A c he no bd) (t4 : tmps[4]? = some (.pointer (some ⟨Z, 0, none⟩))) (t5 : tmps[5]? = some (.pointer (some ⟨A, 0, none⟩))) (t6 : tmps[6]? = some (.bool ch)) (t7 : tmps[7]? = some (.int .i64 er)) :
    (results Try.f36 tmps).run Try.prog W = .ok (.tuple #[qVal ep nx gv r l ws, ansVal c he no bd, .bool ch, .int .i64 er]) W := by
  have h1 := run_loadVar_row (P := Try.prog) W Z 38 38 _ (0, 0) _ q Try.underlying38 rfl (by rw [qCells_size]; exact Try.infoQ)
  have h2 := run_loadVar_row (P := Try.prog) W A 50 50 _ (0, 0) _ a Try.underlying50 rfl (by kernel_rfl)
  simp [results, Try.results36, t4, t5, t6, t7, asAddr, h1, h2]
set_option maxRecDepth 20000 in
set_option maxHeartbeats 4000000 in
theorem queueDone_state (s : St) (ra la : Option Addr) (rc lc : Nat) (ws : Nat → Value) (v : Ev) (w : World) (hR : RowK .i64 w ra (2 * s.rn) s.R) (hL : RowK .i64 w la (4 * s.ln) s.L) (hW : Wins ws s.wt s.wz) (hs : s.rn + s.ln ≤ 9223372036854775807) (h : ¬ s.Ok) :
    Calls Try.prog 36 #[qVal s.ep s.nx s.gv (.slice ra s.rn rc) (.slice la s.ln lc) ws, evIn v] w fun e w' => e = .returned (refused 6) ∧ Below w.heap.size w w' := by
  go_enter Try.func36, Try.ntmps36
  go_wp2_with (first
    | (refine q_box 2 _ rfl rfl rfl rfl ?_; intro W1 q1 b1)
    | (refine q_alloc 4 rfl rfl rfl ?_; intro W3 z3 b3; have DD := Dos.made q1 b1 z3 b3; have DQ := DD.q; have HDD := veil DD; clear DD z3 b3 q1 b1)
    | (refine q_loads _ rfl rfl rfl (by assumption) ?_)
    | (go_at_call 51; refine (queueFault_no _ _ _ _ _ _ _ _ _ _ _ _ s.wt s.wz _ (hR.below (unveil HDD).bel) (hL.below (unveil HDD).bel) hW hs h).mono ?_; rintro e W5 ⟨rfl, b5⟩; have D5 := (unveil HDD).next b5; have z5 := D5.z; obtain ⟨y0, y1, y2, y3⟩ := D5.a.cells; have yf := D5.a.free; have HD5 := veil D5; clear D5 HDD DQ b5)
    | (refine q_store (ra := none) (la := none) (rn := 0) (rc := 0) (ln := 0) (lc := 0) (ws' := zeroW) _ _ rfl rfl rfl rfl z5 zeroWins ?_; intro W6 q6 t6; obtain ⟨a6, b6⟩ := (unveil HD5).end t6; obtain ⟨x0, x1, x2, x3⟩ := a6.cells; have xf := a6.free; have HQ6 := veil q6; have HA6 := veil a6; have HB6 := veil b6; have nZA : W3.heap.size ≠ W1.heap.size + 1 := (by have := (unveil HD5).upA; omega); have hAl : w.heap.size ≤ W3.heap.size := (by have := (unveil HD5).upE; have := (unveil HD5).upZ; have := (unveil HD5).upA; omega); clear z5 y0 y1 y2 y3 yf q6 t6 a6 b6))
  have T7 := ans_turned W6 W3.heap.size 0 0 0 0
  exact bodyPost_ret (ret_QueueDone (T7.queue (unveil HQ6) (by omega)) ((unveil HA6).store 0 0 0 0) rfl rfl rfl rfl) rfl ⟨rfl, T7.under (unveil HB6) hAl⟩

set_option maxRecDepth 20000 in
set_option maxHeartbeats 4000000 in
theorem queueDone_form (s : St) (ra la : Option Addr) (rc lc : Nat) (ws : Nat → Value) (v : Ev) (w : World) (hR : RowK .i64 w ra (2 * s.rn) s.R) (hL : RowK .i64 w la (4 * s.ln) s.L) (hW : Wins ws s.wt s.wz) (h : s.Ok) (f : Int) (hf : ¬ f = 0) (HF : Hid (eventFault v.k v.p v.i v.b v.he v.hn = f)) :
    Calls Try.prog 36 #[qVal s.ep s.nx s.gv (.slice ra s.rn rc) (.slice la s.ln lc) ws, evIn v] w fun e w' => e = .returned (refused f) ∧ Below w.heap.size w w' := by
  have HC : ∀ w, Calls Try.prog 52 #[evIn v] w fun e w' => e = .returned (.int .i64 f) ∧ Below w.heap.size w w' := fun w => by
    have := fault_any v.k v.p v.i v.b v.he v.hn w
    rwa [unveil HF] at this
  have hs : s.rn + s.ln ≤ 9223372036854775807 := by have := h.count.sz; omega
  go_enter Try.func36, Try.ntmps36
  go_wp2_with (first
    | (refine q_box 2 _ rfl rfl rfl rfl ?_; intro W1 q1 b1)
    | (refine q_alloc 4 rfl rfl rfl ?_; intro W3 z3 b3; have DD := Dos.made q1 b1 z3 b3; have DQ := DD.q; have HDD := veil DD; clear DD z3 b3 q1 b1)
    | (refine q_loads _ rfl rfl rfl (by assumption) ?_)
    | (go_at_call 51; refine (queueFault_yes _ _ _ _ _ _ _ _ _ _ _ _ s.wt s.wz _ (hR.below (unveil HDD).bel) (hL.below (unveil HDD).bel) hW hs h).mono ?_; rintro e W4 ⟨rfl, b4⟩; have D4 := (unveil HDD).next b4; have ev4 := D4.e; have v0 : W4.cell? ⟨W1.heap.size, 0, none⟩ = some (.int .i64 v.k) := (by simp [World.cell?, ev4]); have v1 : W4.cell? ⟨W1.heap.size, 1, none⟩ = some (.int .i64 v.p) := (by simp [World.cell?, ev4]); have v2 : W4.cell? ⟨W1.heap.size, 2, none⟩ = some (.int .i64 v.i) := (by simp [World.cell?, ev4]); have v3 : W4.cell? ⟨W1.heap.size, 3, none⟩ = some (.int .i64 v.b) := (by simp [World.cell?, ev4]); have v4 : W4.cell? ⟨W1.heap.size, 4, none⟩ = some (.int .i64 v.he) := (by simp [World.cell?, ev4]); have v5 : W4.cell? ⟨W1.heap.size, 5, none⟩ = some (.int .i64 v.hn) := (by simp [World.cell?, ev4]); have HD4 := veil D4; clear D4 HDD DQ b4 ev4)
    | (go_at_call 52; refine (HC _).mono ?_; rintro e W5 ⟨rfl, b5⟩; have D5 := (unveil HD4).next b5; have z5 := D5.z; obtain ⟨y0, y1, y2, y3⟩ := D5.a.cells; have yf := D5.a.free; have HD5 := veil D5; clear D5 HD4 b5 v0 v1 v2 v3 v4 v5)
    | (refine q_store (ra := none) (la := none) (rn := 0) (rc := 0) (ln := 0) (lc := 0) (ws' := zeroW) _ _ rfl rfl rfl rfl z5 zeroWins ?_; intro W6 q6 t6; obtain ⟨a6, b6⟩ := (unveil HD5).end t6; obtain ⟨x0, x1, x2, x3⟩ := a6.cells; have xf := a6.free; have HQ6 := veil q6; have HA6 := veil a6; have HB6 := veil b6; have nZA : W3.heap.size ≠ W1.heap.size + 1 := (by have := (unveil HD5).upA; omega); have hAl : w.heap.size ≤ W3.heap.size := (by have := (unveil HD5).upE; have := (unveil HD5).upZ; have := (unveil HD5).upA; omega); clear z5 y0 y1 y2 y3 yf q6 t6 a6 b6))
  have T7 := ans_turned W6 W3.heap.size 0 0 0 0
  exact bodyPost_ret (ret_QueueDone (T7.queue (unveil HQ6) (by omega)) ((unveil HA6).store 0 0 0 0) rfl rfl rfl rfl) rfl ⟨rfl, T7.under (unveil HB6) hAl⟩

/-- what QueueDone answers. -/
def QdR (s : St) (v : Ev) (w : World) (e : Ending) (w' : World) : Prop := ∃ (s' : St) (an : An) (ch : Bool) (x : Value), e = .returned (.tuple #[x, anOf an, .bool ch, .int .i64 0]) ∧ Step s v s' an ch ∧ QOut w w' s' x ∧ Below w.heap.size w w'
theorem QdR.of {s s' : St} {v : Ev} {w w' : World} {c he no bd : Int} {ch : Bool} {x : Value} (st : Step s v s' ⟨c, he, no, bd⟩ ch) (q : QOut w w' s' x) (b : Below w.heap.size w w') : QdR s v w (.returned (.tuple #[x, ansVal c he no bd, .bool ch, .int .i64 0])) w' :=
  ⟨s', ⟨c, he, no, bd⟩, ch, x, rfl, st, q, b⟩
/-- QueueDone on its way: the four boxes, and the copy at X. -/
structure Qd (w wx : World) (E Z A X : Nat) (s : St) (rv lv : Value) (ws : Nat → Value) (v : Ev) (t : St) (v1 v2 : Value) (wv : Nat → Value) : Prop where
  d : Dos w wx E Z A s rv lv ws v
  q : qBlock wx X t.ep t.nx t.gv v1 v2 wv
  o1 : wx.ownsRow (A + 1) 84 2 v1 t.rn (t.R.map (Value.int .i64))
  o2 : wx.ownsRow (A + 1) 86 4 v2 t.ln (t.L.map (Value.int .i64))
  upX : A < X
section
variable {w wx wy W5 w5 : World} {E Z A X : Nat} {s t : St} {rv lv v1 v2 v3 : Value} {ws wv wv' : Nat → Value} {v : Ev}
theorem Qd.ltA (h : Qd w wx E Z A X s rv lv ws v t v1 v2 wv) : A < wx.heap.size := h.d.a.lt
theorem Qd.ups (h : Qd w wx E Z A X s rv lv ws v t v1 v2 wv) : w.heap.size < E ∧ E < Z ∧ Z < A ∧ A < X ∧ X < wx.heap.size := ⟨h.d.upE, h.d.upZ, h.d.upA, h.upX, h.q.lt⟩
theorem Qd.next (h : Qd w wx E Z A X s rv lv ws v t v1 v2 wv) (b : Below wx.heap.size wx wy) : Qd w wy E Z A X s rv lv ws v t v1 v2 wv :=
  ⟨h.d.next b, h.q.next b, own_still h.o1 (fun g _ hg => b.block g hg), own_still h.o2 (fun g _ hg => b.block g hg), h.upX⟩
theorem Dos.turned (h : Dos w wx E Z A s rv lv ws v) (T : Turned X wx wy) (hX : A < X) : Dos w wy E Z A s rv lv ws v := by
  have := h.upE; have := h.upZ; have := h.upA
  exact ⟨T.queue h.q (by omega), (T.block E (by omega)).trans h.e, T.queue h.z (by omega), h.a.turned T (by omega), T.under h.bel (by omega), h.upE, h.upZ, h.upA⟩
/-- the copy's block stored anew. -/
theorem Qd.turn (h : Qd w wx E Z A X s rv lv ws v t v1 v2 wv) (T : Turned X wx wy) {ep nx gv : Int} {wt : Nat → Int} {wz : Nat → Nat → Bool} (q : qBlock wy X ep nx gv v1 v2 wv') : Qd w wy E Z A X s rv lv ws v ⟨ep, nx, gv, t.rn, t.R, t.ln, t.L, wt, wz⟩ v1 v2 wv' :=
  ⟨h.d.turned T h.upX, q, T.owns h.o1 (own_off h.o1 h.q (by decide)), T.owns h.o2 (own_off h.o2 h.q (by decide)), h.upX⟩
theorem Qd.made {W6 W7 W8 : World} (D6 : Dos w W6 E Z A s rv lv ws v) (o1 : W6.ownsRow (A + 1) 84 2 v1 s.rn (s.R.map (Value.int .i64))) (o2 : W6.ownsRow (A + 1) 86 4 v2 s.ln (s.L.map (Value.int .i64))) (b7 : Below W6.heap.size W6 W7) (q8 : qBlock W8 W6.heap.size s.ep s.nx s.gv v1 v2 ws) (t8 : Turned W6.heap.size W7 W8) : Qd w W8 E Z A W6.heap.size s rv lv ws v s v1 v2 ws := by
  have hA : A < W6.heap.size := D6.a.lt
  refine ⟨(D6.next b7).turned t8 hA, q8, ?_, ?_, hA⟩
  · exact own_still o1 (fun g _ hg => (t8.block g (by omega)).trans (b7.block g hg))
  · exact own_still o2 (fun g _ hg => (t8.block g (by omega)).trans (b7.block g hg))
/-- the copy's rows thrown away. -/
theorem Qd.noReady (h : Qd w wx E Z A X s rv lv ws v t v1 v2 wv) : Qd w (wx.setCell ⟨X, 3, none⟩ (.slice none 0 0)) E Z A X s rv lv ws v ⟨t.ep, t.nx, t.gv, 0, [], t.ln, t.L, t.wt, t.wz⟩ (.slice none 0 0) v2 wv := by
  have T := Turned.set X 3 wx (.slice none 0 0)
  exact ⟨h.d.turned T h.upX, h.q.ready _, World.ownsRow_nil _ _ _ _, T.owns h.o2 (own_off h.o2 h.q (by decide)), h.upX⟩
theorem Qd.noLeases (h : Qd w wx E Z A X s rv lv ws v t v1 v2 wv) : Qd w (wx.setCell ⟨X, 4, none⟩ (.slice none 0 0)) E Z A X s rv lv ws v ⟨t.ep, t.nx, t.gv, t.rn, t.R, 0, [], t.wt, t.wz⟩ v1 (.slice none 0 0) wv := by
  have T := Turned.set X 4 wx (.slice none 0 0)
  exact ⟨h.d.turned T h.upX, h.q.leases _, T.owns h.o1 (own_off h.o1 h.q (by decide)), World.ownsRow_nil _ _ _ _, h.upX⟩
/-- one message more. -/
theorem Qd.ready (h : Qd w wx E Z A X s rv lv ws v t v1 v2 wv) (b5 : Below wx.heap.size wx W5) (gr : W5.grownBy w5 v1.ownBlock) (ys : List Int) (n : Nat) (own : w5.ownsRow (A + 1) 84 2 v3 n ((t.R ++ ys).map (Value.int .i64))) :
    qBlock w5 X t.ep t.nx t.gv v1 v2 wv ∧ Qd w (w5.setCell ⟨X, 3, none⟩ v3) E Z A X s rv lv ws v ⟨t.ep, t.nx, t.gv, n, t.R ++ ys, t.ln, t.L, t.wt, t.wz⟩ v3 v2 wv := by
  have hA := h.ltA
  have hb : Below (A + 1) wx w5 := (b5.mono (by omega)).grown gr (by have := b5.size; omega) (fun q hq => (h.o1.lt q hq).1)
  have hB : qBlock w5 X t.ep t.nx t.gv v1 v2 wv := by
    unfold qBlock
    rw [gr.block X (by have := b5.size; have := h.q.lt; omega) (fun e => own_off h.o1 h.q (by decide) X e.symm rfl), b5.block X h.q.lt]
    exact h.q
  have T := Turned.set X 3 w5 v3
  have o2' : w5.ownsRow (A + 1) 86 4 v2 t.ln (t.L.map (Value.int .i64)) := own_grown (own_still h.o2 (fun q _ hq => b5.block q hq)) gr (fun q h1 h2 => own_apart h.o2 h.o1 (by decide) q h1 h2)
  exact ⟨hB, (h.d.under hb (by omega)).turned T h.upX, hB.ready _, T.owns own (own_off own hB (by decide)), T.owns o2' (own_off o2' hB (by decide)), h.upX⟩
theorem Qd.lease (h : Qd w wx E Z A X s rv lv ws v t v1 v2 wv) (b5 : Below wx.heap.size wx W5) (gr : W5.grownBy w5 v2.ownBlock) (ys : List Int) (n : Nat) (own : w5.ownsRow (A + 1) 86 4 v3 n ((t.L ++ ys).map (Value.int .i64))) :
    qBlock w5 X t.ep t.nx t.gv v1 v2 wv ∧ Qd w (w5.setCell ⟨X, 4, none⟩ v3) E Z A X s rv lv ws v ⟨t.ep, t.nx, t.gv, t.rn, t.R, n, t.L ++ ys, t.wt, t.wz⟩ v1 v3 wv := by
  have hA := h.ltA
  have hb : Below (A + 1) wx w5 := (b5.mono (by omega)).grown gr (by have := b5.size; omega) (fun q hq => (h.o2.lt q hq).1)
  have hB : qBlock w5 X t.ep t.nx t.gv v1 v2 wv := by
    unfold qBlock
    rw [gr.block X (by have := b5.size; have := h.q.lt; omega) (fun e => own_off h.o2 h.q (by decide) X e.symm rfl), b5.block X h.q.lt]
    exact h.q
  have T := Turned.set X 4 w5 v3
  have o1' : w5.ownsRow (A + 1) 84 2 v1 t.rn (t.R.map (Value.int .i64)) := own_grown (own_still h.o1 (fun q _ hq => b5.block q hq)) gr (fun q h1 h2 => own_apart h.o1 h.o2 (by decide) q h1 h2)
  exact ⟨hB, (h.d.under hb (by omega)).turned T h.upX, hB.leases _, T.owns o1' (own_off o1' hB (by decide)), T.owns own (own_off own hB (by decide)), h.upX⟩
/-- the answer of QueueDone: the copy in the result's box. -/
theorem Qd.out {a1 a2 : Option Addr} {c1 c2 : Nat} (h : Qd w wx E Z A X s rv lv ws v t (.slice a1 t.rn c1) (.slice a2 t.ln c2) wv) (T : Turned Z wx wy) (hW : Wins wv t.wt t.wz) (wR : ∀ u ∈ t.R, (Lit.int .i64 u).wf = true) (wL : ∀ u ∈ t.L, (Lit.int .i64 u).wf = true) (c he no bd : Int) :
    ansBlock (ansStore wy A c he no bd) A c he no bd ∧ Turned A wy (ansStore wy A c he no bd) ∧ QOut w (ansStore wy A c he no bd) t (qVal t.ep t.nx t.gv (.slice a1 t.rn c1) (.slice a2 t.ln c2) wv) ∧ Below w.heap.size w (ansStore wy A c he no bd) := by
  obtain ⟨u1, u2, u3, u4, u5⟩ := h.ups
  have T8 := ans_turned wy A c he no bd
  have hz : A ≠ Z := by omega
  have ay := h.d.a.turned T hz
  have o1 : (ansStore wy A c he no bd).ownsRow (A + 1) 84 2 (.slice a1 t.rn c1) t.rn (t.R.map (Value.int .i64)) := T8.own (T.own h.o1 (by omega)) (by omega)
  have o2 : (ansStore wy A c he no bd).ownsRow (A + 1) 86 4 (.slice a2 t.ln c2) t.ln (t.L.map (Value.int .i64)) := T8.own (T.own h.o2 (by omega)) (by omega)
  obtain ⟨_, _, e1, r1, l1, _, n1, x1⟩ := RowK.ofMany o1 wR
  obtain ⟨_, _, e2, r2, l2, _, n2, x2⟩ := RowK.ofMany o2 wL
  cases e1; cases e2
  exact ⟨ay.store c he no bd, T8, ⟨a1, c1, a2, c2, wv, rfl, r1, r2, l1, l2, n1, n2, hW, fun x hx => by have := x1 x hx; omega, fun x hx => by have := x2 x hx; omega⟩, T8.under (T.under h.d.bel (by omega)) (by omega)⟩
end
end Go.Proofs.Ytlfecmkpafgcmaa

namespace Go.Proofs.Ytlfecmkpafgcmaa
open Go.RowKit

/-- the first k leases but those of a handle's No. -/
def keepTo (L : List Int) (hn : Int) : Nat → List Int
  | 0 => []
  | k + 1 => if L.getD (4 * k + 1) 0 = hn then keepTo L hn k else keepTo L hn k ++ [L.getD (4 * k) 0, L.getD (4 * k + 1) 0, L.getD (4 * k + 2) 0, L.getD (4 * k + 3) 0]
def keepN (L : List Int) (hn : Int) : Nat → Nat
  | 0 => 0
  | k + 1 => if L.getD (4 * k + 1) 0 = hn then keepN L hn k else keepN L hn k + 1
theorem keepN_le (L : List Int) (hn : Int) : ∀ k, keepN L hn k ≤ k
  | 0 => Nat.le_refl _
  | k + 1 => by
    have := keepN_le L hn k
    rw [keepN]
    split <;> omega
theorem keep_all (L : List Int) (hn : Int) : ∀ k, 4 * k ≤ L.length → (∀ j, j < k → ¬ L.getD (4 * j + 1) 0 = hn) → keepN L hn k = k ∧ keepTo L hn k = L.take (4 * k)
  | 0, _, _ => ⟨rfl, rfl⟩
  | k + 1, hk, h => by
    obtain ⟨i1, i2⟩ := keep_all L hn k (by omega) (fun j hj => h j (by omega))
    rw [keepN, keepTo, if_neg (h k (by omega)), if_neg (h k (by omega)), i1, i2, take_four L k (by omega)]
    exact ⟨rfl, rfl⟩
theorem keep_one (L : List Int) (hn : Int) (m : Nat) (hm : L.getD (4 * m + 1) 0 = hn) : ∀ d, 4 * (m + 1 + d) ≤ L.length → (∀ j, j < m + 1 + d → j ≠ m → ¬ L.getD (4 * j + 1) 0 = hn) → keepN L hn (m + 1 + d) = m + d ∧ keepTo L hn (m + 1 + d) = L.take (4 * m) ++ (L.take (4 * (m + 1 + d))).drop (4 * m + 4)
  | 0, hk, h => by
    obtain ⟨i1, i2⟩ := keep_all L hn m (by omega) (fun j hj => h j (by omega) (by omega))
    rw [Nat.add_zero, keepN, keepTo, if_pos hm, if_pos hm, i1, i2]
    refine ⟨rfl, ?_⟩
    rw [List.drop_eq_nil_of_le (by simp; omega), List.append_nil]
  | d + 1, hk, h => by
    obtain ⟨i1, i2⟩ := keep_one L hn m hm d (by omega) (fun j hj => h j (by omega))
    have hne := h (m + 1 + d) (by omega) (by omega)
    rw [show m + 1 + (d + 1) = (m + 1 + d) + 1 by omega, keepN, keepTo, if_neg hne, if_neg hne, i1, i2, take_four L (m + 1 + d) (by omega)]
    refine ⟨by omega, ?_⟩
    rw [List.drop_append_of_le_length (by simp; omega), List.append_assoc]
theorem keep_spec {s : St} {v : Ev} (h : s.Wf) (he : v.he = s.ep) : (keepN s.L v.hn s.ln = s.ln ∧ keepTo s.L v.hn s.ln = s.L ∧ ackAt v.he v.hn s.L s.ln = -1) ∨
    (∃ m : Nat, m < s.ln ∧ ackAt v.he v.hn s.L s.ln = m ∧ keepN s.L v.hn s.ln = s.ln - 1 ∧ keepTo s.L v.hn s.ln = s.L.take (4 * m) ++ s.L.drop (4 * m + 4)) := by
  have hl := h.ll
  have htk : s.L.take (4 * s.ln) = s.L := List.take_of_length_le (by omega)
  rcases ackAt_spec v.he v.hn s.L s.ln with ⟨ha, hno⟩ | ⟨m, hm, ha, h0, h1⟩
  · obtain ⟨k1, k2⟩ := keep_all s.L v.hn s.ln (by omega) (fun j hj e => hno j hj ⟨by rw [he]; exact (h.ok.lease j hj).epoch, e⟩)
    exact .inl ⟨k1, by rw [k2, htk], ha⟩
  · obtain ⟨d, hd⟩ : ∃ d, s.ln = m + 1 + d := ⟨s.ln - (m + 1), by omega⟩
    obtain ⟨k1, k2⟩ := keep_one s.L v.hn m h1 d (by omega) (fun j hj hne e => by
      rw [← h1] at e
      rcases Nat.lt_or_ge j m with hjm | hjm
      · have := lease_lt h.ok m j hjm hm; omega
      · have := lease_lt h.ok j m (by omega) (by omega); omega)
    rw [← hd] at k1 k2
    exact .inr ⟨m, hm, ha, by omega, by rw [k2, htk]⟩
end Go.Proofs.Ytlfecmkpafgcmaa

namespace Go.Proofs.Ytlfecmkpafgcmaa
open Go.RowKit

set_option maxRecDepth 20000 in
set_option maxHeartbeats 4000000 in
theorem queueDone_empty (s : St) (ra la : Option Addr) (rc lc : Nat) (ws : Nat → Value) (v : Ev) (w : World) (hR : RowK .i64 w ra (2 * s.rn) s.R) (hL : RowK .i64 w la (4 * s.ln) s.L) (hW : Wins ws s.wt s.wz) (h : s.Ok) (hv : Hid v.Ok) (HK : Hid (v.k = 2)) (HE : Hid (s.rn = 0)) :
    Calls Try.prog 36 #[qVal s.ep s.nx s.gv (.slice ra s.rn rc) (.slice la s.ln lc) ws, evIn v] w fun e w' => QdR s v w e w' := by
  have HC : ∀ w, Calls Try.prog 52 #[evIn v] w fun e w' => e = .returned (.int .i64 0) ∧ Below w.heap.size w w' := fun w => by
    have := fault_any v.k v.p v.i v.b v.he v.hn w
    rwa [show eventFault v.k v.p v.i v.b v.he v.hn = 0 from unveil hv] at this
  have hsz := h.count.sz
  have hs : s.rn + s.ln ≤ 9223372036854775807 := by omega
  go_enter Try.func36, Try.ntmps36
  go_wp2_with (first
    | (refine q_box 2 _ rfl rfl rfl rfl ?_; intro W1 q1 b1)
    | (refine q_alloc 4 rfl rfl rfl ?_; intro W3 z3 b3; have DD := Dos.made q1 b1 z3 b3; have DQ := DD.q; have HDD := veil DD; clear DD z3 b3 q1 b1)
    | (refine q_loads _ rfl rfl rfl (by assumption) ?_)
    | (go_at_call 51; refine (queueFault_yes _ _ _ _ _ _ _ _ _ _ _ _ s.wt s.wz _ (hR.below (unveil HDD).bel) (hL.below (unveil HDD).bel) hW hs h).mono ?_; rintro e W4 ⟨rfl, b4⟩; have D4 := (unveil HDD).next b4; have ev4 := D4.e; have v0 : W4.cell? ⟨W1.heap.size, 0, none⟩ = some (.int .i64 v.k) := (by simp [World.cell?, ev4]); have v1 : W4.cell? ⟨W1.heap.size, 1, none⟩ = some (.int .i64 v.p) := (by simp [World.cell?, ev4]); have v2 : W4.cell? ⟨W1.heap.size, 2, none⟩ = some (.int .i64 v.i) := (by simp [World.cell?, ev4]); have v3 : W4.cell? ⟨W1.heap.size, 3, none⟩ = some (.int .i64 v.b) := (by simp [World.cell?, ev4]); have v4 : W4.cell? ⟨W1.heap.size, 4, none⟩ = some (.int .i64 v.he) := (by simp [World.cell?, ev4]); have v5 : W4.cell? ⟨W1.heap.size, 5, none⟩ = some (.int .i64 v.hn) := (by simp [World.cell?, ev4]); have HD4 := veil D4; clear D4 HDD DQ b4 ev4)
    | (go_at_call 52; refine (HC _).mono ?_; rintro e W5 ⟨rfl, b5⟩; have D5 := (unveil HD4).next b5; have DQ5 := D5.q; have HD5 := veil D5; clear D5 HD4 b5 v0 v1 v2 v3 v4 v5)
    | (go_at_call 53; refine (queueCopy_any _ _ _ _ _ _ _ _ _ s.R s.L ws s.wt s.wz _ (hR.below (unveil HD5).bel) (hL.below (unveil HD5).bel) hW (by omega) (by omega)).mono ?_; rintro e W6 ⟨v1, v2, rfl, o1, o2, b6⟩; obtain ⟨a1, c1, rfl⟩ := own_form o1; obtain ⟨a2, c2, rfl⟩ := own_form o2; have hA5 := (unveil HD5).a.lt; have HO1 := veil (own_lower o1 hA5); have HO2 := veil (own_lower o2 hA5); have HD6 := veil ((unveil HD5).next b6); clear DQ5 o1 o2 b6)
    | (refine q_alloc 9 rfl rfl rfl ?_; intro W7 z7 b7; have HB7 := veil b7; clear b7)
    | (refine q_store _ _ rfl rfl rfl rfl z7 hW ?_; intro W8 q8 t8; have HQ8 := veil (Qd.made (unveil HD6) (unveil HO1) (unveil HO2) (unveil HB7) q8 t8); clear t8 HD6 HO1 HO2 HB7 z7 hA5 HD5; obtain ⟨c0, c1', c2', c3, c4⟩ := (unveil HQ8).d.q.heads; have z8 := (unveil HQ8).d.z; have hups := (unveil HQ8).ups; have u0 : W8.cell? ⟨W1.heap.size, 0, none⟩ = some (.int .i64 (2 : Int)) := (by simp [World.cell?, (unveil HQ8).d.e, unveil HK]); have u1 : W8.cell? ⟨W1.heap.size, 1, none⟩ = some (.int .i64 v.p) := (by simp [World.cell?, (unveil HQ8).d.e]); have u2 : W8.cell? ⟨W1.heap.size, 2, none⟩ = some (.int .i64 v.i) := (by simp [World.cell?, (unveil HQ8).d.e]); have u3 : W8.cell? ⟨W1.heap.size, 3, none⟩ = some (.int .i64 v.b) := (by simp [World.cell?, (unveil HQ8).d.e]); have u4 : W8.cell? ⟨W1.heap.size, 4, none⟩ = some (.int .i64 v.he) := (by simp [World.cell?, (unveil HQ8).d.e]); have u5 : W8.cell? ⟨W1.heap.size, 5, none⟩ = some (.int .i64 v.hn) := (by simp [World.cell?, (unveil HQ8).d.e]); rw [unveil HE] at c3)
    | (refine q_store _ _ rfl rfl rfl rfl (by assumption) hW ?_; intro W9 q9 t9; have a9 := (unveil HQ8).d.a.turned t9 (by have := (unveil HQ8).ups; omega); obtain ⟨x0, x1, x2, x3⟩ := a9.cells; have xf := a9.free; have HQ9 := veil q9; have HT9 := veil t9; clear q9 t9 a9))
  obtain ⟨fa, fT, fq, fb⟩ := (unveil HQ8).out (unveil HT9) hW hR.wf hL.wf 10 0 0 0
  exact bodyPost_ret (ret_QueueDone (fT.queue (unveil HQ9) (by have := (unveil HQ8).ups; omega)) fa rfl rfl rfl rfl) rfl (QdR.of (s' := s) (.recEmpty (unveil HK) (unveil HE)) fq fb)

set_option maxRecDepth 20000 in
set_option maxHeartbeats 4000000 in
theorem queueDone_given (s : St) (ra la : Option Addr) (rc lc : Nat) (ws : Nat → Value) (v : Ev) (w : World) (hR : RowK .i64 w ra (2 * s.rn) s.R) (hL : RowK .i64 w la (4 * s.ln) s.L) (hW : Wins ws s.wt s.wz) (h : s.Ok) (hv : Hid v.Ok) (HK : Hid (v.k = 2)) (h0 : 0 < s.rn) (HE : Hid (s.gv = 1073741824)) :
    Calls Try.prog 36 #[qVal s.ep s.nx s.gv (.slice ra s.rn rc) (.slice la s.ln lc) ws, evIn v] w fun e w' => QdR s v w e w' := by
  have h0b : ((s.rn : Int) == 0) = false := by simp; omega
  have HC : ∀ w, Calls Try.prog 52 #[evIn v] w fun e w' => e = .returned (.int .i64 0) ∧ Below w.heap.size w w' := fun w => by
    have := fault_any v.k v.p v.i v.b v.he v.hn w
    rwa [show eventFault v.k v.p v.i v.b v.he v.hn = 0 from unveil hv] at this
  have hsz := h.count.sz
  have hs : s.rn + s.ln ≤ 9223372036854775807 := by omega
  go_enter Try.func36, Try.ntmps36
  go_wp2_with (first
    | (refine q_box 2 _ rfl rfl rfl rfl ?_; intro W1 q1 b1)
    | (refine q_alloc 4 rfl rfl rfl ?_; intro W3 z3 b3; have DD := Dos.made q1 b1 z3 b3; have DQ := DD.q; have HDD := veil DD; clear DD z3 b3 q1 b1)
    | (refine q_loads _ rfl rfl rfl (by assumption) ?_)
    | (go_at_call 51; refine (queueFault_yes _ _ _ _ _ _ _ _ _ _ _ _ s.wt s.wz _ (hR.below (unveil HDD).bel) (hL.below (unveil HDD).bel) hW hs h).mono ?_; rintro e W4 ⟨rfl, b4⟩; have D4 := (unveil HDD).next b4; have ev4 := D4.e; have v0 : W4.cell? ⟨W1.heap.size, 0, none⟩ = some (.int .i64 v.k) := (by simp [World.cell?, ev4]); have v1 : W4.cell? ⟨W1.heap.size, 1, none⟩ = some (.int .i64 v.p) := (by simp [World.cell?, ev4]); have v2 : W4.cell? ⟨W1.heap.size, 2, none⟩ = some (.int .i64 v.i) := (by simp [World.cell?, ev4]); have v3 : W4.cell? ⟨W1.heap.size, 3, none⟩ = some (.int .i64 v.b) := (by simp [World.cell?, ev4]); have v4 : W4.cell? ⟨W1.heap.size, 4, none⟩ = some (.int .i64 v.he) := (by simp [World.cell?, ev4]); have v5 : W4.cell? ⟨W1.heap.size, 5, none⟩ = some (.int .i64 v.hn) := (by simp [World.cell?, ev4]); have HD4 := veil D4; clear D4 HDD DQ b4 ev4)
    | (go_at_call 52; refine (HC _).mono ?_; rintro e W5 ⟨rfl, b5⟩; have D5 := (unveil HD4).next b5; have DQ5 := D5.q; have HD5 := veil D5; clear D5 HD4 b5 v0 v1 v2 v3 v4 v5)
    | (go_at_call 53; refine (queueCopy_any _ _ _ _ _ _ _ _ _ s.R s.L ws s.wt s.wz _ (hR.below (unveil HD5).bel) (hL.below (unveil HD5).bel) hW (by omega) (by omega)).mono ?_; rintro e W6 ⟨v1, v2, rfl, o1, o2, b6⟩; obtain ⟨a1, c1, rfl⟩ := own_form o1; obtain ⟨a2, c2, rfl⟩ := own_form o2; have hA5 := (unveil HD5).a.lt; have HO1 := veil (own_lower o1 hA5); have HO2 := veil (own_lower o2 hA5); have HD6 := veil ((unveil HD5).next b6); clear DQ5 o1 o2 b6)
    | (refine q_alloc 9 rfl rfl rfl ?_; intro W7 z7 b7; have HB7 := veil b7; clear b7)
    | (refine q_store _ _ rfl rfl rfl rfl z7 hW ?_; intro W8 q8 t8; have HQ8 := veil (Qd.made (unveil HD6) (unveil HO1) (unveil HO2) (unveil HB7) q8 t8); clear t8 HD6 HO1 HO2 HB7 z7 hA5 HD5; obtain ⟨c0, c1', c2', c3, c4⟩ := (unveil HQ8).d.q.heads; have z8 := (unveil HQ8).d.z; have hups := (unveil HQ8).ups; have u0 : W8.cell? ⟨W1.heap.size, 0, none⟩ = some (.int .i64 (2 : Int)) := (by simp [World.cell?, (unveil HQ8).d.e, unveil HK]); have u1 : W8.cell? ⟨W1.heap.size, 1, none⟩ = some (.int .i64 v.p) := (by simp [World.cell?, (unveil HQ8).d.e]); have u2 : W8.cell? ⟨W1.heap.size, 2, none⟩ = some (.int .i64 v.i) := (by simp [World.cell?, (unveil HQ8).d.e]); have u3 : W8.cell? ⟨W1.heap.size, 3, none⟩ = some (.int .i64 v.b) := (by simp [World.cell?, (unveil HQ8).d.e]); have u4 : W8.cell? ⟨W1.heap.size, 4, none⟩ = some (.int .i64 v.he) := (by simp [World.cell?, (unveil HQ8).d.e]); have u5 : W8.cell? ⟨W1.heap.size, 5, none⟩ = some (.int .i64 v.hn) := (by simp [World.cell?, (unveil HQ8).d.e]); rw [unveil HE] at c2')
    | (refine q_store _ _ rfl rfl rfl rfl (by assumption) hW ?_; intro W9 q9 t9; have a9 := (unveil HQ8).d.a.turned t9 (by have := (unveil HQ8).ups; omega); obtain ⟨x0, x1, x2, x3⟩ := a9.cells; have xf := a9.free; have HQ9 := veil q9; have HT9 := veil t9; clear q9 t9 a9))
  obtain ⟨fa, fT, fq, fb⟩ := (unveil HQ8).out (unveil HT9) hW hR.wf hL.wf 14 0 0 0
  exact bodyPost_ret (ret_QueueDone (fT.queue (unveil HQ9) (by have := (unveil HQ8).ups; omega)) fa rfl rfl rfl rfl) rfl (QdR.of (s' := s) (.recFull (unveil HK) h0 (unveil HE)) fq fb)

end Go.Proofs.Ytlfecmkpafgcmaa

namespace Go.Proofs.Ytlfecmkpafgcmaa
open Go.RowKit

set_option maxRecDepth 20000 in
set_option maxHeartbeats 4000000 in
theorem queueDone_stale (s : St) (ra la : Option Addr) (rc lc : Nat) (ws : Nat → Value) (v : Ev) (w : World) (hR : RowK .i64 w ra (2 * s.rn) s.R) (hL : RowK .i64 w la (4 * s.ln) s.L) (hW : Wins ws s.wt s.wz) (h : s.Ok) (hv : Hid v.Ok) (HK : Hid (v.k = 3)) (hst : ¬ v.he = s.ep) :
    Calls Try.prog 36 #[qVal s.ep s.nx s.gv (.slice ra s.rn rc) (.slice la s.ln lc) ws, evIn v] w fun e w' => QdR s v w e w' := by
  have HC : ∀ w, Calls Try.prog 52 #[evIn v] w fun e w' => e = .returned (.int .i64 0) ∧ Below w.heap.size w w' := fun w => by
    have := fault_any v.k v.p v.i v.b v.he v.hn w
    rwa [show eventFault v.k v.p v.i v.b v.he v.hn = 0 from unveil hv] at this
  have hsz := h.count.sz
  have hs : s.rn + s.ln ≤ 9223372036854775807 := by omega
  go_enter Try.func36, Try.ntmps36
  go_wp2_with (first
    | (refine q_box 2 _ rfl rfl rfl rfl ?_; intro W1 q1 b1)
    | (refine q_alloc 4 rfl rfl rfl ?_; intro W3 z3 b3; have DD := Dos.made q1 b1 z3 b3; have DQ := DD.q; have HDD := veil DD; clear DD z3 b3 q1 b1)
    | (refine q_loads _ rfl rfl rfl (by assumption) ?_)
    | (go_at_call 51; refine (queueFault_yes _ _ _ _ _ _ _ _ _ _ _ _ s.wt s.wz _ (hR.below (unveil HDD).bel) (hL.below (unveil HDD).bel) hW hs h).mono ?_; rintro e W4 ⟨rfl, b4⟩; have D4 := (unveil HDD).next b4; have ev4 := D4.e; have v0 : W4.cell? ⟨W1.heap.size, 0, none⟩ = some (.int .i64 v.k) := (by simp [World.cell?, ev4]); have v1 : W4.cell? ⟨W1.heap.size, 1, none⟩ = some (.int .i64 v.p) := (by simp [World.cell?, ev4]); have v2 : W4.cell? ⟨W1.heap.size, 2, none⟩ = some (.int .i64 v.i) := (by simp [World.cell?, ev4]); have v3 : W4.cell? ⟨W1.heap.size, 3, none⟩ = some (.int .i64 v.b) := (by simp [World.cell?, ev4]); have v4 : W4.cell? ⟨W1.heap.size, 4, none⟩ = some (.int .i64 v.he) := (by simp [World.cell?, ev4]); have v5 : W4.cell? ⟨W1.heap.size, 5, none⟩ = some (.int .i64 v.hn) := (by simp [World.cell?, ev4]); have HD4 := veil D4; clear D4 HDD DQ b4 ev4)
    | (go_at_call 52; refine (HC _).mono ?_; rintro e W5 ⟨rfl, b5⟩; have D5 := (unveil HD4).next b5; have DQ5 := D5.q; have HD5 := veil D5; clear D5 HD4 b5 v0 v1 v2 v3 v4 v5)
    | (go_at_call 53; refine (queueCopy_any _ _ _ _ _ _ _ _ _ s.R s.L ws s.wt s.wz _ (hR.below (unveil HD5).bel) (hL.below (unveil HD5).bel) hW (by omega) (by omega)).mono ?_; rintro e W6 ⟨v1, v2, rfl, o1, o2, b6⟩; obtain ⟨a1, c1, rfl⟩ := own_form o1; obtain ⟨a2, c2, rfl⟩ := own_form o2; have hA5 := (unveil HD5).a.lt; have HO1 := veil (own_lower o1 hA5); have HO2 := veil (own_lower o2 hA5); have HD6 := veil ((unveil HD5).next b6); clear DQ5 o1 o2 b6)
    | (refine q_alloc 9 rfl rfl rfl ?_; intro W7 z7 b7; have HB7 := veil b7; clear b7)
    | (refine q_store _ _ rfl rfl rfl rfl z7 hW ?_; intro W8 q8 t8; have HQ8 := veil (Qd.made (unveil HD6) (unveil HO1) (unveil HO2) (unveil HB7) q8 t8); clear t8 HD6 HO1 HO2 HB7 z7 hA5 HD5; obtain ⟨c0, c1', c2', c3, c4⟩ := (unveil HQ8).d.q.heads; have z8 := (unveil HQ8).d.z; have hups := (unveil HQ8).ups; have u0 : W8.cell? ⟨W1.heap.size, 0, none⟩ = some (.int .i64 (3 : Int)) := (by simp [World.cell?, (unveil HQ8).d.e, unveil HK]); have u1 : W8.cell? ⟨W1.heap.size, 1, none⟩ = some (.int .i64 v.p) := (by simp [World.cell?, (unveil HQ8).d.e]); have u2 : W8.cell? ⟨W1.heap.size, 2, none⟩ = some (.int .i64 v.i) := (by simp [World.cell?, (unveil HQ8).d.e]); have u3 : W8.cell? ⟨W1.heap.size, 3, none⟩ = some (.int .i64 v.b) := (by simp [World.cell?, (unveil HQ8).d.e]); have u4 : W8.cell? ⟨W1.heap.size, 4, none⟩ = some (.int .i64 v.he) := (by simp [World.cell?, (unveil HQ8).d.e]); have u5 : W8.cell? ⟨W1.heap.size, 5, none⟩ = some (.int .i64 v.hn) := (by simp [World.cell?, (unveil HQ8).d.e]))
    | (refine q_store _ _ rfl rfl rfl rfl (by assumption) hW ?_; intro W9 q9 t9; have a9 := (unveil HQ8).d.a.turned t9 (by have := (unveil HQ8).ups; omega); obtain ⟨x0, x1, x2, x3⟩ := a9.cells; have xf := a9.free; have HQ9 := veil q9; have HT9 := veil t9; clear q9 t9 a9))
  obtain ⟨fa, fT, fq, fb⟩ := (unveil HQ8).out (unveil HT9) hW hR.wf hL.wf 11 0 0 0
  exact bodyPost_ret (ret_QueueDone (fT.queue (unveil HQ9) (by have := (unveil HQ8).ups; omega)) fa rfl rfl rfl rfl) rfl (QdR.of (s' := s) (.ackStale (unveil HK) hst) fq fb)

set_option maxRecDepth 20000 in
set_option maxHeartbeats 4000000 in
theorem queueDone_ack (s : St) (ra la : Option Addr) (rc lc : Nat) (ws : Nat → Value) (v : Ev) (w : World) (hR : RowK .i64 w ra (2 * s.rn) s.R) (hL : RowK .i64 w la (4 * s.ln) s.L) (hW : Wins ws s.wt s.wz) (h : s.Ok) (hv : Hid v.Ok) (HK : Hid (v.k = 3)) (HE : Hid (v.he = s.ep)) :
    Calls Try.prog 36 #[qVal s.ep s.nx s.gv (.slice ra s.rn rc) (.slice la s.ln lc) ws, evIn v] w fun e w' => QdR s v w e w' := by
  obtain ⟨i2, hi2, hz20, hz21, hz22⟩ := info_of Try.infoLease
  have HC : ∀ w, Calls Try.prog 52 #[evIn v] w fun e w' => e = .returned (.int .i64 0) ∧ Below w.heap.size w w' := fun w => by
    have := fault_any v.k v.p v.i v.b v.he v.hn w
    rwa [show eventFault v.k v.p v.i v.b v.he v.hn = 0 from unveil hv] at this
  have hsz := h.count.sz
  have hs : s.rn + s.ln ≤ 9223372036854775807 := by omega
  go_enter Try.func36, Try.ntmps36
  go_wp2_with (first
    | (refine q_box 2 _ rfl rfl rfl rfl ?_; intro W1 q1 b1)
    | (refine q_alloc 4 rfl rfl rfl ?_; intro W3 z3 b3; have DD := Dos.made q1 b1 z3 b3; have DQ := DD.q; have HDD := veil DD; clear DD z3 b3 q1 b1)
    | (refine q_loads _ rfl rfl rfl (by assumption) ?_)
    | (go_at_call 51; refine (queueFault_yes _ _ _ _ _ _ _ _ _ _ _ _ s.wt s.wz _ (hR.below (unveil HDD).bel) (hL.below (unveil HDD).bel) hW hs h).mono ?_; rintro e W4 ⟨rfl, b4⟩; have D4 := (unveil HDD).next b4; have ev4 := D4.e; have v0 : W4.cell? ⟨W1.heap.size, 0, none⟩ = some (.int .i64 v.k) := (by simp [World.cell?, ev4]); have v1 : W4.cell? ⟨W1.heap.size, 1, none⟩ = some (.int .i64 v.p) := (by simp [World.cell?, ev4]); have v2 : W4.cell? ⟨W1.heap.size, 2, none⟩ = some (.int .i64 v.i) := (by simp [World.cell?, ev4]); have v3 : W4.cell? ⟨W1.heap.size, 3, none⟩ = some (.int .i64 v.b) := (by simp [World.cell?, ev4]); have v4 : W4.cell? ⟨W1.heap.size, 4, none⟩ = some (.int .i64 v.he) := (by simp [World.cell?, ev4]); have v5 : W4.cell? ⟨W1.heap.size, 5, none⟩ = some (.int .i64 v.hn) := (by simp [World.cell?, ev4]); have HD4 := veil D4; clear D4 HDD DQ b4 ev4)
    | (go_at_call 52; refine (HC _).mono ?_; rintro e W5 ⟨rfl, b5⟩; have D5 := (unveil HD4).next b5; have DQ5 := D5.q; have HD5 := veil D5; clear D5 HD4 b5 v0 v1 v2 v3 v4 v5)
    | (go_at_call 53; refine (queueCopy_any _ _ _ _ _ _ _ _ _ s.R s.L ws s.wt s.wz _ (hR.below (unveil HD5).bel) (hL.below (unveil HD5).bel) hW (by omega) (by omega)).mono ?_; rintro e W6 ⟨v1, v2, rfl, o1, o2, b6⟩; obtain ⟨a1, c1, rfl⟩ := own_form o1; obtain ⟨a2, c2, rfl⟩ := own_form o2; have hA5 := (unveil HD5).a.lt; have HO1 := veil (own_lower o1 hA5); have HO2 := veil (own_lower o2 hA5); have HD6 := veil ((unveil HD5).next b6); clear DQ5 o1 o2 b6)
    | (refine q_alloc 9 rfl rfl rfl ?_; intro W7 z7 b7; have HB7 := veil b7; clear b7)
    | (refine q_store _ _ rfl rfl rfl rfl z7 hW ?_; intro W8 q8 t8; have HQ8 := veil (Qd.made (unveil HD6) (unveil HO1) (unveil HO2) (unveil HB7) q8 t8); clear t8 HD6 HO1 HO2 HB7 z7 hA5 HD5; obtain ⟨c0, c1', c2', c3, c4⟩ := (unveil HQ8).d.q.heads; have z8 := (unveil HQ8).d.z; have hups := (unveil HQ8).ups; have u0 : W8.cell? ⟨W1.heap.size, 0, none⟩ = some (.int .i64 (3 : Int)) := (by simp [World.cell?, (unveil HQ8).d.e, unveil HK]); have u1 : W8.cell? ⟨W1.heap.size, 1, none⟩ = some (.int .i64 v.p) := (by simp [World.cell?, (unveil HQ8).d.e]); have u2 : W8.cell? ⟨W1.heap.size, 2, none⟩ = some (.int .i64 v.i) := (by simp [World.cell?, (unveil HQ8).d.e]); have u3 : W8.cell? ⟨W1.heap.size, 3, none⟩ = some (.int .i64 v.b) := (by simp [World.cell?, (unveil HQ8).d.e]); have u4 : W8.cell? ⟨W1.heap.size, 4, none⟩ = some (.int .i64 s.ep) := (by simp [World.cell?, (unveil HQ8).d.e, unveil HE]); have u5 : W8.cell? ⟨W1.heap.size, 5, none⟩ = some (.int .i64 v.hn) := (by simp [World.cell?, (unveil HQ8).d.e]); obtain ⟨d0, d1, d2, d3, d4⟩ := q8.heads; have df := q8.free))
  have C0 := (unveil HQ8).noLeases
  obtain ⟨WA, hWA⟩ : ∃ WA, WA = W8.setCell ⟨W6.heap.size, 4, none⟩ (.slice none 0 0) := ⟨_, rfl⟩
  rw [← hWA] at C0 ⊢
  clear hWA HQ8 c0 c1' c2' c3 c4 z8 hups u0 u1 u2 u3 u4 u5 d0 d1 d2 d3 d4 df q8
  go_loopw [16] (fun t wr => ∃ (k : Nat) (n : Nat) (M : List Int) (v2 : Value), k ≤ s.ln ∧ t = .int .i64 k ∧ n ≤ k ∧ Qd w wr W1.heap.size (W1.heap.size + 1) W3.heap.size W6.heap.size s (.slice ra s.rn rc) (.slice la s.ln lc) ws v ⟨s.ep, s.nx, s.gv, s.rn, s.R, n, M, s.wt, s.wz⟩ (.slice a1 s.rn c1) v2 ws ∧ Hid (n = keepN s.L v.hn k ∧ M = keepTo s.L v.hn k)) (fun t _ => s.ln - (intOf t).toNat)
  case atStart => exact ⟨0, 0, [], _, Nat.zero_le _, rfl, Nat.le_refl _, C0, veil ⟨rfl, rfl⟩⟩
  case round =>
    obtain ⟨k, n, M, v2, hk, rfl, hn, C, HI⟩ := hrel
    clear C0
    obtain ⟨a2', c2', rfl⟩ := own_form C.o2
    obtain ⟨e0, e1, e2, e3, e4⟩ := C.d.q.heads
    have u5 : wr.cell? ⟨W1.heap.size, 5, none⟩ = some (.int .i64 v.hn) := by simp [World.cell?, C.d.e]
    have HC := veil C
    by_cases hlt : k < s.ln
    case pos =>
      obtain ⟨b, off, rfl⟩ := hL.form (by omega)
      obtain ⟨x0, hx0⟩ : ∃ x, x = s.L.getD (4 * k) 0 := ⟨_, rfl⟩
      obtain ⟨x1, hx1⟩ : ∃ x, x = s.L.getD (4 * k + 1) 0 := ⟨_, rfl⟩
      obtain ⟨x2, hx2⟩ : ∃ x, x = s.L.getD (4 * k + 2) 0 := ⟨_, rfl⟩
      obtain ⟨x3, hx3⟩ : ∃ x, x = s.L.getD (4 * k + 3) 0 := ⟨_, rfl⟩
      have KC : Hid (∀ w3, Below w.heap.size w w3 → (w3.cell? ⟨b, off + k * 4, none⟩ = some (.int .i64 x0) ∧ w3.cell? ⟨b, off + k * 4 + 1, none⟩ = some (.int .i64 x1) ∧ w3.cell? ⟨b, off + k * 4 + 2, none⟩ = some (.int .i64 x2) ∧ w3.cell? ⟨b, off + k * 4 + 3, none⟩ = some (.int .i64 x3)) ∧ b < w3.heap.size ∧ b ≠ w3.heap.size) := veil fun w3 hb => by
        have r3 := hL.below hb
        have := r3.lt (by omega)
        refine ⟨⟨?_, ?_, ?_, ?_⟩, this, by omega⟩
        · rw [Nat.mul_comm k 4, hx0]; exact r3.at (4 * k) (by omega)
        · rw [Nat.mul_comm k 4, hx1]; exact r3.at (4 * k + 1) (by omega)
        · rw [Nat.mul_comm k 4, hx2]; exact r3.at (4 * k + 2) (by omega)
        · rw [Nat.mul_comm k 4, hx3]; exact r3.at (4 * k + 3) (by omega)
      have HX : Hid (x0 = s.L.getD (4 * k) 0 ∧ x1 = s.L.getD (4 * k + 1) 0 ∧ x2 = s.L.getD (4 * k + 2) 0 ∧ x3 = s.L.getD (4 * k + 3) 0) := veil ⟨hx0, hx1, hx2, hx3⟩
      obtain ⟨⟨k0, k1, k2, k3⟩, hbl, hbn⟩ := unveil KC wr C.d.bel
      have HL := veil hL
      clear C hx0 hx1 hx2 hx3 hL
      by_cases hx : x1 = v.hn
      case pos =>
        have HI4 : Hid (n = keepN s.L v.hn (k + 1) ∧ M = keepTo s.L v.hn (k + 1)) := veil (by
          obtain ⟨i1, i2⟩ := unveil HI
          rw [(unveil HX).2.1] at hx
          rw [keepN, keepTo, if_pos hx, if_pos hx]
          exact ⟨i1, i2⟩)
        rw [hx] at k1
        clear HX KC HI hx
        go_wp2_with fail
        go_quiet (fail)
        have HC4 := veil ((unveil HC).next (belowN wr nq))
        clear HC e0 e1 e2 e3 e4 u5 k0 k1 k2 k3
        go_wp2
        go_roundw
        case rel => exact ⟨k + 1, n, M, _, by omega, by go_num, by omega, unveil HC4, HI4⟩
        case measure => simp [intOf]; omega
      case neg =>
        go_wp2_with fail
        go_quiet (fail)
        have HC2 := veil ((unveil HC).next (belowN wr nq))
        obtain ⟨W2, hW2⟩ : ∃ W2, W2 = wr.drewN nq := ⟨_, rfl⟩
        rw [← hW2] at HC2 ⊢
        clear hW2 HC e0 e1 e2 e3 e4 u5 k0 k1 k2 k3 hbl hbn
        have C := unveil HC2
        obtain ⟨e0, e1, e2, e3, e4⟩ := C.d.q.heads
        obtain ⟨d0, d1, d2, d3, d4⟩ := C.q.heads
        obtain ⟨⟨k0, k1, k2, k3⟩, hbl, hbn⟩ := unveil KC W2 C.d.bel
        obtain ⟨g1, g2, g3, g4, g5⟩ := C.ups
        have hn1 : w.heap.size ≠ W2.heap.size := by omega
        have hl1 : w.heap.size < W2.heap.size := by omega
        have hn3 : W6.heap.size ≠ W2.heap.size := by omega
        have b5 : Below W2.heap.size W2 (W2.alloc (.cells #[.int .i64 x0, .int .i64 x1, .int .i64 x2, .int .i64 x3] 86)).drew := Below.next (below1 _ _) ⟨rfl, rfl, rfl, Nat.le_refl _, fun _ _ => rfl⟩
        have HO5 : Hid ((W2.alloc (.cells #[.int .i64 x0, .int .i64 x1, .int .i64 x2, .int .i64 x3] 86)).drew.ownsRow (W3.heap.size + 1) 86 4 (.slice a2' n c2') n (M.map (Value.int .i64))) := veil (own_still C.o2 (fun g _ hg => b5.block g hg))
        have HB5 := veil b5
        have HI4 : Hid (n + 1 = keepN s.L v.hn (k + 1) ∧ M ++ [x0, x1, x2, x3] = keepTo s.L v.hn (k + 1)) := veil (by
          obtain ⟨i1, i2⟩ := unveil HI
          obtain ⟨y0, y1, y2, y3⟩ := unveil HX
          rw [y1] at hx
          rw [keepN, keepTo, if_neg hx, if_neg hx, i1, i2, y0, y1, y2, y3]
          exact ⟨rfl, rfl⟩)
        clear C b5 HX KC HI
        go_wp2_with fail
        clear hx
        go_region_law (refine step_append_many rfl (.tmp 186) (.tmp 192) 32 rfl (W3.heap.size + 1) 86 i2 _ 4 32 Try.underlying32 hi2 hz20 hz21 hz22 rfl (by decide) (.slice a2' n c2') n M rfl (unveil HO5) ⟨W2.heap.size, 0, none⟩ 1 1 [x0, x1, x2, x3] rfl rfl (news4 _ _ _ _ _ _) (by unfold maxLen; omega) (by omega) (by simp; omega) ?_; intro v' w4 own4 grow4; obtain ⟨a', cap', rfl⟩ := own_form own4; obtain ⟨q4, C4⟩ := (unveil HC2).lease (unveil HB5) grow4 [x0, x1, x2, x3] (n + 1) own4; have k4 := q4.heads.2.2.2.2; have f4 := q4.free; have HC4 := veil C4; clear C4 q4 own4 grow4)
        all_goals go_wp2
        all_goals (go_roundw <;> first | exact ⟨k + 1, n + 1, _, _, by omega, by go_num, by omega, unveil HC4, HI4⟩ | (simp [intOf]; omega))
    case neg =>
      obtain rfl : k = s.ln := by omega
      obtain ⟨d0, d1, d2, d3, d4⟩ := C.q.heads
      have z8 := C.d.z
      have q8 := C.q
      have wf : s.Wf := ⟨h, hR.len_eq, hL.len_eq⟩
      have HF := keep_spec wf (unveil HE)
      obtain ⟨i1, i3⟩ := unveil HI
      rw [← i1, ← i3] at HF
      clear C i1 i3 HI
      rcases HF with ⟨i1, i3, i4⟩ | ⟨m, hm, ha, i1, i3⟩
      · subst i1
        subst i3
        go_wp2_with (first | (refine q_loads _ rfl rfl rfl q8 ?_) | (refine q_store _ _ rfl rfl rfl rfl (by assumption) hW ?_; intro W9 q9 t9; have a9 := (unveil HC).d.a.turned t9 (by have := (unveil HC).ups; omega); obtain ⟨x0, x1, x2, x3⟩ := a9.cells; have xf := a9.free; have HQ9 := veil q9; have HT9 := veil t9; clear q9 t9 a9))
        obtain ⟨fa, fT, fq, fb⟩ := (unveil HC).out (unveil HT9) hW hR.wf hL.wf 7 0 0 0
        exact bodyPost_ret (ret_QueueDone (fT.queue (unveil HQ9) (by have := (unveil HC).ups; omega)) fa rfl rfl rfl rfl) rfl (QdR.of (s' := s) (.ackNone (unveil HK) (unveil HE) i4) fq fb)
      · have hne : ¬ n = s.ln := by omega
        have hnb : ((n : Int) == (s.ln : Int)) = false := by simp; omega
        have HM : Hid (n = s.ln - 1 ∧ M = s.L.take (4 * m) ++ s.L.drop (4 * m + 4)) := veil ⟨i1, i3⟩
        have wM : ∀ u ∈ M, (Lit.int .i64 u).wf = true := by rw [i3]; exact cut_wf hL.wf _ _
        have HS : Hid (Step s v ⟨s.ep, s.nx, s.gv, s.rn, s.R, n, M, s.wt, s.wz⟩ ⟨0, 0, 0, 0⟩ true) := veil (by rw [i1, i3]; exact .ack (unveil HK) (unveil HE) m hm ha)
        clear i1 i3 ha
        go_wp2_with (first | (refine q_loads _ rfl rfl rfl q8 ?_) | (refine q_store _ _ rfl rfl rfl rfl (by assumption) hW ?_; intro W9 q9 t9; have a9 := (unveil HC).d.a.turned t9 (by have := (unveil HC).ups; omega); obtain ⟨x0, x1, x2, x3⟩ := a9.cells; have xf := a9.free; have HQ9 := veil q9; have HT9 := veil t9; clear q9 t9 a9))
        obtain ⟨fa, fT, fq, fb⟩ := (unveil HC).out (unveil HT9) hW hR.wf wM 0 0 0 0
        exact bodyPost_ret (ret_QueueDone (fT.queue (unveil HQ9) (by have := (unveil HC).ups; omega)) fa rfl rfl rfl rfl) rfl (QdR.of (s' := _) (unveil HS) fq fb)
end Go.Proofs.Ytlfecmkpafgcmaa

namespace Go.Proofs.Ytlfecmkpafgcmaa
open Go.RowKit

/-- whether a message with a greater No stands among the first k. -/
def mDone (R : List Int) (no : Int) : Nat → Bool
  | 0 => false
  | k + 1 => mDone R no k || decide (no < R.getD (2 * k) 0)
/-- the first k messages with one put ahead of the first that is greater. -/
def mOut (R : List Int) (no bd : Int) : Nat → List Int
  | 0 => []
  | k + 1 => (if mDone R no k = false ∧ no < R.getD (2 * k) 0 then mOut R no bd k ++ [no, bd] else mOut R no bd k) ++ [R.getD (2 * k) 0, R.getD (2 * k + 1) 0]
def mFin (R : List Int) (no bd : Int) (k : Nat) : List Int := if mDone R no k = true then mOut R no bd k else mOut R no bd k ++ [no, bd]

/-- messageIn on its way. -/
structure Mi (w wr : World) (no bd : Int) (v : Value) (n : Nat) (M : List Int) : Prop where
  box : wr.heap[w.heap.size]? = some (.cells #[.int .i64 no, .int .i64 bd] 84 (0, 0))
  ow : wr.ownsRow (w.heap.size + 1) 84 2 v n (M.map (Value.int .i64))
  bel : Below w.heap.size w wr
section
variable {w wr : World} {no bd : Int} {v : Value} {n : Nat} {M : List Int}
theorem Mi.size (h : Mi w wr no bd v n M) : w.heap.size < wr.heap.size := by
  have h := h.box
  by_cases c : w.heap.size < wr.heap.size
  · exact c
  · rw [Array.getElem?_eq_none (by omega)] at h; cases h
theorem Mi.drew (h : Mi w wr no bd v n M) (m : Nat) : Mi w (wr.drewN m) no bd v n M :=
  ⟨h.box, own_still h.ow (fun _ _ _ => rfl), Below.next h.bel ⟨rfl, rfl, rfl, Nat.le_refl _, fun _ _ => rfl⟩⟩
theorem Mi.own5 (h : Mi w wr no bd v n M) (x0 x1 : Int) : (wr.alloc (.cells #[.int .i64 x0, .int .i64 x1] 84)).ownsRow (w.heap.size + 1) 84 2 v n (M.map (Value.int .i64)) :=
  own_still h.ow (fun g _ hg => (below1 wr _).block g hg)
theorem Mi.put (h : Mi w wr no bd v n M) (x0 x1 : Int) {w4 : World} {v' : Value} (g : (wr.alloc (.cells #[.int .i64 x0, .int .i64 x1] 84)).grownBy w4 v.ownBlock)
    (o : w4.ownsRow (w.heap.size + 1) 84 2 v' (n + 1) ((M ++ [x0, x1]).map (Value.int .i64))) : Mi w w4 no bd v' (n + 1) (M ++ [x0, x1]) := by
  have hs := h.size
  have hb : Below (w.heap.size + 1) wr w4 := ((below1 wr (.cells #[.int .i64 x0, .int .i64 x1] 84)).mono (by omega)).grown g (by have := (below1 wr (.cells #[.int .i64 x0, .int .i64 x1] 84)).size; omega) (fun q hq => (h.ow.lt q hq).1)
  exact ⟨(hb.block w.heap.size (by omega)).trans h.box, o, h.bel.trans (hb.mono (by omega))⟩
end
set_option maxRecDepth 20000 in
set_option maxHeartbeats 2000000 in
theorem messageIn_any (ra : Option Addr) (rn rc : Nat) (R : List Int) (no bd : Int) (w : World) (hR : RowK .i64 w ra (2 * rn) R) (hs : rn * 16 ≤ 140737488351232) :
    Calls Try.prog 55 #[.slice ra rn rc, .agg #[.int .i64 no, .int .i64 bd]] w fun e w' => ∃ v, e = .returned v ∧ w'.ownsRow w.heap.size 84 2 v (rn + 1) ((mFin R no bd rn).map (Value.int .i64)) ∧ Below w.heap.size w w' := by
  obtain ⟨i2, hi2, hz20, hz21, hz22⟩ := info_of Try.infoMsg
  go_enter Try.func55, Try.ntmps55
  go_wp2_with fail
  obtain ⟨W, hW⟩ : ∃ W, W = w.alloc (.cells #[.int .i64 no, .int .i64 bd] 84) := ⟨_, rfl⟩
  have M0 : Mi w W no bd (.slice none 0 0) 0 [] := by
    rw [hW]
    exact ⟨heap_alloc_new w _, World.ownsRow_nil _ _ _ _, below1 _ _⟩
  rw [← hW]
  clear hW
  go_loopw [5, 6, 7] (fun v d t wr => ∃ (k n : Nat) (dn : Bool) (M : List Int), k ≤ rn ∧ t = .int .i64 k ∧ d = .bool dn ∧ n ≤ k + 1 ∧ Mi w wr no bd v n M ∧ Hid (dn = mDone R no k ∧ n = k + dn.toNat ∧ M = mOut R no bd k)) (fun _ _ t _ => rn - (intOf t).toNat)
  case atStart => exact ⟨0, 0, false, [], Nat.zero_le _, rfl, rfl, by omega, M0, veil ⟨rfl, rfl, rfl⟩⟩
  case round =>
    obtain ⟨k, n, dn, M, hk, rfl, rfl, hn, C, HI⟩ := hrel
    clear M0
    obtain ⟨a1, c1, rfl⟩ := own_form C.ow
    have m0 : wr.cell? ⟨w.heap.size, 0, none⟩ = some (.int .i64 no) := by simp [World.cell?, C.box]
    have m1 : wr.cell? ⟨w.heap.size, 1, none⟩ = some (.int .i64 bd) := by simp [World.cell?, C.box]
    have hsz := C.size
    have hwn : w.heap.size ≠ wr.heap.size := by omega
    by_cases hlt : k < rn
    · have rR := hR.below C.bel
      obtain ⟨b, off, rfl⟩ := hR.form (by omega)
      obtain ⟨x0, hx0⟩ : ∃ x, x = R.getD (2 * k) 0 := ⟨_, rfl⟩
      obtain ⟨x1, hx1⟩ : ∃ x, x = R.getD (2 * k + 1) 0 := ⟨_, rfl⟩
      have KC : Hid (∀ w3, Below w.heap.size w w3 → w3.cell? ⟨b, off + k * 2, none⟩ = some (.int .i64 x0) ∧ w3.cell? ⟨b, off + k * 2 + 1, none⟩ = some (.int .i64 x1) ∧ b < w3.heap.size ∧ b ≠ w3.heap.size) := veil fun w3 hb => by
        have r3 := hR.below hb
        have := r3.lt (by omega)
        refine ⟨?_, ?_, this, by omega⟩
        · rw [Nat.mul_comm k 2, hx0]; exact r3.at (2 * k) (by omega)
        · rw [Nat.mul_comm k 2, hx1]; exact r3.at (2 * k + 1) (by omega)
      obtain ⟨k0, k1, hbl, hbn⟩ := unveil KC wr C.bel
      have HX : Hid (x0 = R.getD (2 * k) 0 ∧ x1 = R.getD (2 * k + 1) 0) := veil ⟨hx0, hx1⟩
      have HR := veil hR
      have HC := veil C
      have HO5 := veil (C.own5 x0 x1)
      have HO6 := veil (C.own5 no bd)
      clear hx0 hx1 rR hR C
      cases dn with
      | true =>
        go_wp2_with fail
        go_quiet (fail)
        obtain ⟨W2, hW2⟩ : ∃ W2, W2 = wr.drewN nq := ⟨_, rfl⟩
        have HC : Hid (Mi w W2 no bd (.slice a1 n c1) n M) := veil (by rw [hW2]; exact (unveil HC).drew nq)
        rw [← hW2]
        clear hW2 k0 k1 m0 m1 hsz hwn hbl hbn HO5 HO6
        have m0 : W2.cell? ⟨w.heap.size, 0, none⟩ = some (.int .i64 no) := by simp [World.cell?, (unveil HC).box]
        have m1 : W2.cell? ⟨w.heap.size, 1, none⟩ = some (.int .i64 bd) := by simp [World.cell?, (unveil HC).box]
        have hsz := (unveil HC).size
        have hwn : w.heap.size ≠ W2.heap.size := by omega
        obtain ⟨k0, k1, hbl, hbn⟩ := unveil KC W2 (unveil HC).bel
        have HO5 := veil ((unveil HC).own5 x0 x1)
        have HO6 := veil ((unveil HC).own5 no bd)
        go_wp2_with (at_builtin; refine wpList_append_own _ rfl _ _ 31 rfl (w.heap.size + 1) 84 i2 _ 2 16 Try.underlying31 hi2 hz20 hz21 hz22 rfl (by decide) (.slice a1 n c1) n (M.map (Value.int .i64)) rfl (unveil HO5) ⟨W2.heap.size, 0, none⟩ 1 1 ([x0, x1].map (Value.int .i64)) rfl rfl (news2 _ _ _ _) (ints_oneCell _ _) (by unfold maxLen; omega) (by omega) (by simp; omega) ?_; intro v' w4 own4 grow4 _; obtain ⟨a', cap', rfl⟩ := own_form own4; rw [← List.map_append] at own4; have HC4 := veil ((unveil HC).put x0 x1 grow4 own4); clear own4 grow4)
        have HI4 : Hid (true = mDone R no (k + 1) ∧ n + 1 = k + 1 + true.toNat ∧ M ++ [x0, x1] = mOut R no bd (k + 1)) := veil (by
          obtain ⟨i1, i2, i3⟩ := unveil HI
          obtain ⟨e0, e1⟩ := unveil HX
          refine ⟨by simp [mDone, ← i1], by simp at i2 ⊢; omega, ?_⟩
          simp [mOut, ← i1, i3, e0, e1])
        all_goals (go_roundw <;> first | exact ⟨k + 1, n + 1, true, _, by omega, by go_num, rfl, by omega, unveil HC4, HI4⟩ | (simp [intOf]; omega))
      | false =>
        by_cases hg : no < x0
        · have hd : decide (no < x0) = true := by simp; exact hg
          go_wp2_with fail
          go_quiet (fail)
          obtain ⟨W2, hW2⟩ : ∃ W2, W2 = wr.drewN nq := ⟨_, rfl⟩
          have HC : Hid (Mi w W2 no bd (.slice a1 n c1) n M) := veil (by rw [hW2]; exact (unveil HC).drew nq)
          rw [← hW2]
          clear hW2 k0 k1 m0 m1 hsz hwn hbl hbn HO5 HO6
          have m0 : W2.cell? ⟨w.heap.size, 0, none⟩ = some (.int .i64 no) := by simp [World.cell?, (unveil HC).box]
          have m1 : W2.cell? ⟨w.heap.size, 1, none⟩ = some (.int .i64 bd) := by simp [World.cell?, (unveil HC).box]
          have hsz := (unveil HC).size
          have hwn : w.heap.size ≠ W2.heap.size := by omega
          obtain ⟨k0, k1, hbl, hbn⟩ := unveil KC W2 (unveil HC).bel
          have HO5 := veil ((unveil HC).own5 x0 x1)
          have HO6 := veil ((unveil HC).own5 no bd)
          go_wp2_with (first
            | (at_builtin; refine wpList_append_own _ rfl (.tmp 26) (.tmp 28) 31 rfl (w.heap.size + 1) 84 i2 _ 2 16 Try.underlying31 hi2 hz20 hz21 hz22 rfl (by decide) (.slice a1 n c1) n (M.map (Value.int .i64)) rfl (unveil HO6) ⟨W2.heap.size, 0, none⟩ 1 1 ([no, bd].map (Value.int .i64)) rfl rfl (news2 _ _ _ _) (ints_oneCell _ _) (by unfold maxLen; omega) (by omega) (by simp; omega) ?_; intro v' w4 own4 grow4 _; obtain ⟨a', cap', rfl⟩ := own_form own4; rw [← List.map_append] at own4; have C4 := (unveil HC).put no bd grow4 own4; obtain ⟨y0, y1, ybl, ybn⟩ := unveil KC w4 C4.bel; have HO7 := veil (C4.own5 x0 x1); have hs4 := C4.size; have HC4 := veil C4; clear own4 grow4 C4 k0 k1 m0 m1)
            | (at_builtin; refine wpList_append_own _ rfl (.tmp 30) (.tmp 35) 31 rfl (w.heap.size + 1) 84 i2 _ 2 16 Try.underlying31 hi2 hz20 hz21 hz22 rfl (by decide) (.slice a' (n + 1) cap') (n + 1) ((M ++ [no, bd]).map (Value.int .i64)) rfl (unveil HO7) ⟨w4.heap.size, 0, none⟩ 1 1 ([x0, x1].map (Value.int .i64)) rfl rfl (news2 _ _ _ _) (ints_oneCell _ _) (by unfold maxLen; omega) (by omega) (by simp; omega) ?_; intro v' w5 own5 grow5 _; obtain ⟨a5, cap5, rfl⟩ := own_form own5; rw [← List.map_append] at own5; have HC5 := veil ((unveil HC4).put x0 x1 grow5 own5); clear own5 grow5))
          have HI4 : Hid (true = mDone R no (k + 1) ∧ n + 1 + 1 = k + 1 + true.toNat ∧ M ++ [no, bd] ++ [x0, x1] = mOut R no bd (k + 1)) := veil (by
            obtain ⟨i1, i2, i3⟩ := unveil HI
            obtain ⟨e0, e1⟩ := unveil HX
            rw [e0] at hg
            refine ⟨?_, by simp at i2 ⊢; omega, ?_⟩
            · simp only [mDone, ← i1, Bool.false_or]; exact (decide_eq_true hg).symm
            · rw [mOut, if_pos ⟨i1.symm, hg⟩, i3, e0, e1])
          all_goals (go_roundw <;> first | exact ⟨k + 1, n + 1 + 1, true, _, by omega, by go_num, rfl, by have := (unveil HI).2.1; simp at this; omega, unveil HC5, HI4⟩ | (simp [intOf]; omega))
        · have hd : decide (no < x0) = false := by simp; omega
          go_wp2_with fail
          go_quiet (fail)
          obtain ⟨W2, hW2⟩ : ∃ W2, W2 = wr.drewN nq := ⟨_, rfl⟩
          have HC : Hid (Mi w W2 no bd (.slice a1 n c1) n M) := veil (by rw [hW2]; exact (unveil HC).drew nq)
          rw [← hW2]
          clear hW2 k0 k1 m0 m1 hsz hwn hbl hbn HO5 HO6
          have m0 : W2.cell? ⟨w.heap.size, 0, none⟩ = some (.int .i64 no) := by simp [World.cell?, (unveil HC).box]
          have m1 : W2.cell? ⟨w.heap.size, 1, none⟩ = some (.int .i64 bd) := by simp [World.cell?, (unveil HC).box]
          have hsz := (unveil HC).size
          have hwn : w.heap.size ≠ W2.heap.size := by omega
          obtain ⟨k0, k1, hbl, hbn⟩ := unveil KC W2 (unveil HC).bel
          have HO5 := veil ((unveil HC).own5 x0 x1)
          have HO6 := veil ((unveil HC).own5 no bd)
          go_wp2_with (at_builtin; refine wpList_append_own _ rfl _ _ 31 rfl (w.heap.size + 1) 84 i2 _ 2 16 Try.underlying31 hi2 hz20 hz21 hz22 rfl (by decide) (.slice a1 n c1) n (M.map (Value.int .i64)) rfl (unveil HO5) ⟨W2.heap.size, 0, none⟩ 1 1 ([x0, x1].map (Value.int .i64)) rfl rfl (news2 _ _ _ _) (ints_oneCell _ _) (by unfold maxLen; omega) (by omega) (by simp; omega) ?_; intro v' w4 own4 grow4 _; obtain ⟨a', cap', rfl⟩ := own_form own4; rw [← List.map_append] at own4; have HC4 := veil ((unveil HC).put x0 x1 grow4 own4); clear own4 grow4)
          have HI4 : Hid (false = mDone R no (k + 1) ∧ n + 1 = k + 1 + false.toNat ∧ M ++ [x0, x1] = mOut R no bd (k + 1)) := veil (by
            obtain ⟨i1, i2, i3⟩ := unveil HI
            obtain ⟨e0, e1⟩ := unveil HX
            rw [e0] at hg
            refine ⟨?_, by simp at i2 ⊢; omega, ?_⟩
            · simp only [mDone, ← i1, Bool.false_or]; exact (decide_eq_false (by omega)).symm
            · rw [mOut, if_neg (fun h => absurd h.2 (by omega)), i3, e0, e1])
          all_goals (go_roundw <;> first | exact ⟨k + 1, n + 1, false, _, by omega, by go_num, rfl, by omega, unveil HC4, HI4⟩ | (simp [intOf]; omega))
    · obtain rfl : k = rn := by omega
      have HC := veil C
      have HO6 := veil (C.own5 no bd)
      have HR := veil hR
      clear C hR
      cases dn with
      | true =>
        go_wp2
        go_ret
        refine ⟨_, rfl, ?_, (unveil HC).bel⟩
        obtain ⟨i1, i2, i3⟩ := unveil HI
        have := own_lower (unveil HC).ow (Nat.le_succ _)
        rw [mFin, if_pos i1.symm, ← i3]
        obtain rfl : n = k + 1 := by simpa using i2
        exact this
      | false =>
        go_wp2_with (at_builtin; refine wpList_append_own _ rfl _ _ 31 rfl (w.heap.size + 1) 84 i2 _ 2 16 Try.underlying31 hi2 hz20 hz21 hz22 rfl (by decide) (.slice a1 n c1) n (M.map (Value.int .i64)) rfl (unveil HO6) ⟨wr.heap.size, 0, none⟩ 1 1 ([no, bd].map (Value.int .i64)) rfl rfl (news2 _ _ _ _) (ints_oneCell _ _) (by unfold maxLen; omega) (by omega) (by simp; omega) ?_; intro v' w4 own4 grow4 _; obtain ⟨a', cap', rfl⟩ := own_form own4; rw [← List.map_append] at own4; have HC4 := veil ((unveil HC).put no bd grow4 own4); clear own4 grow4)
        go_ret
        refine ⟨_, rfl, ?_, (unveil HC4).bel⟩
        obtain ⟨i1, i2, i3⟩ := unveil HI
        have := own_lower (unveil HC4).ow (Nat.le_succ _)
        rw [mFin, if_neg (by rw [← i1]; simp), ← i3]
        obtain rfl : n = k := by simpa using i2
        exact this
end Go.Proofs.Ytlfecmkpafgcmaa

namespace Go.Proofs.Ytlfecmkpafgcmaa
open Go.RowKit

theorem getD_pairR {n : Nat} (A : List Int) (x y : Int) (h : A.length = 2 * n) : (A ++ [x, y]).getD (2 * n) 0 = x ∧ (A ++ [x, y]).getD (2 * n + 1) 0 = y := by
  constructor
  · rw [← h]; simp
  · rw [← h]; simp
theorem getD_pairL (A : List Int) (x y : Int) (i : Nat) (h : i < A.length) : (A ++ [x, y]).getD i 0 = A.getD i 0 := by
  simp [List.getElem?_append_left h]
theorem pairsOf_snoc (A : List Int) (x y : Int) (n : Nat) (h : A.length = 2 * n) : pairsOf (A ++ [x, y]) (n + 1) = pairsOf A n ++ [(x, y)] := by
  unfold pairsOf
  rw [List.range_succ, List.map_append]
  congr 1
  · apply List.map_congr_left
    intro i hi
    have hi : i < n := List.mem_range.1 hi
    unfold pairAt
    rw [getD_pairL _ _ _ _ (by omega), getD_pairL _ _ _ _ (by omega)]
  · obtain ⟨h0, h1⟩ := getD_pairR (n := n) A x y h
    simp only [List.map_cons, List.map_nil, pairAt, h0, h1]
theorem mOut_len (R : List Int) (no bd : Int) : ∀ k, (mOut R no bd k).length = 2 * (k + (mDone R no k).toNat)
  | 0 => rfl
  | k + 1 => by
    have ih := mOut_len R no bd k
    rw [mOut, mDone]
    cases hd : mDone R no k with
    | true => rw [hd] at ih; simp [ih]; omega
    | false =>
      rw [hd] at ih
      by_cases hg : no < R.getD (2 * k) 0
      · rw [if_pos ⟨rfl, hg⟩, decide_eq_true hg]; simp [ih]; omega
      · rw [if_neg (fun h => hg h.2), decide_eq_false hg]; simp [ih]; omega
theorem mFin_len (R : List Int) (no bd : Int) (k : Nat) : (mFin R no bd k).length = 2 * (k + 1) := by
  have h := mOut_len R no bd k
  unfold mFin
  cases hd : mDone R no k with
  | true => rw [hd] at h; rw [if_pos rfl, h]; rfl
  | false => rw [hd] at h; rw [if_neg (by simp)]; simp [h]; omega
/-- the pairs that messageIn makes of the first k. -/
theorem mOut_pairs (R : List Int) (no bd : Int) : ∀ k, (mDone R no k = false → pairsOf (mOut R no bd k) k = pairsOf R k) ∧ (mDone R no k = true → (pairsOf (mOut R no bd k) (k + 1)).Perm (pairsOf R k ++ [(no, bd)]))
  | 0 => ⟨fun _ => rfl, fun h => by cases h⟩
  | k + 1 => by
    obtain ⟨i1, i2⟩ := mOut_pairs R no bd k
    have hl := mOut_len R no bd k
    have hs : pairsOf R (k + 1) = pairsOf R k ++ [(R.getD (2 * k) 0, R.getD (2 * k + 1) 0)] := by unfold pairsOf; rw [List.range_succ, List.map_append]; rfl
    rw [mOut, mDone, hs]
    cases hd : mDone R no k with
    | true =>
      rw [hd] at hl
      refine ⟨fun h => by simp at h, fun _ => ?_⟩
      rw [if_neg (by simp), pairsOf_snoc _ _ _ (k + 1) (by simpa using hl)]
      refine ((i2 hd).append_right _).trans ?_
      rw [List.append_assoc, List.append_assoc]
      exact (List.Perm.refl _).append (List.perm_append_comm)
    | false =>
      rw [hd] at hl
      by_cases hg : no < R.getD (2 * k) 0
      · refine ⟨fun h => by rw [decide_eq_true hg] at h; simp at h, fun _ => ?_⟩
        rw [if_pos ⟨rfl, hg⟩, pairsOf_snoc _ _ _ (k + 1) (by simp at hl ⊢; omega), pairsOf_snoc _ _ _ k (by simpa using hl), i1 hd, List.append_assoc, List.append_assoc]
        exact (List.Perm.refl _).append (List.perm_append_comm)
      · refine ⟨fun _ => ?_, fun h => by rw [decide_eq_false hg] at h; simp at h⟩
        rw [if_neg (fun h => hg h.2), pairsOf_snoc _ _ _ k (by simpa using hl), i1 hd]
theorem mFin_perm (R : List Int) (no bd : Int) (k : Nat) : (pairsOf (mFin R no bd k) (k + 1)).Perm (pairsOf R k ++ [(no, bd)]) := by
  obtain ⟨i1, i2⟩ := mOut_pairs R no bd k
  have hl := mOut_len R no bd k
  unfold mFin
  cases hd : mDone R no k with
  | true => rw [if_pos rfl]; exact i2 hd
  | false => rw [hd] at hl; rw [if_neg (by simp), pairsOf_snoc _ _ _ k (by simpa using hl), i1 hd]
/-- a row of messages whose Nos don't fall. -/
def Rises (A : List Int) (n : Nat) : Prop := ∀ i j, i < j → j < n → A.getD (2 * i) 0 ≤ A.getD (2 * j) 0
theorem Rises.snoc {A : List Int} {n : Nat} (h : Rises A n) (hl : A.length = 2 * n) (x y : Int) (hx : ∀ i, i < n → A.getD (2 * i) 0 ≤ x) : Rises (A ++ [x, y]) (n + 1) := by
  intro i j hij hj
  rw [getD_pairL _ _ _ _ (show 2 * i < A.length by omega)]
  by_cases c : j = n
  · subst c; rw [(getD_pairR (n := j) A x y hl).1]; exact hx i hij
  · rw [getD_pairL _ _ _ _ (show 2 * j < A.length by omega)]; exact h i j hij (by omega)
theorem mOut_rises (R : List Int) (no bd : Int) (n : Nat) (hR : Rises R n) : ∀ k, k ≤ n → Rises (mOut R no bd k) (k + (mDone R no k).toNat) ∧ (∀ i, i < k + (mDone R no k).toNat → (mOut R no bd k).getD (2 * i) 0 ≤ no ∨ ∃ j, j < k ∧ (mOut R no bd k).getD (2 * i) 0 ≤ R.getD (2 * j) 0) ∧ (mDone R no k = false → ∀ i, i < k → (mOut R no bd k).getD (2 * i) 0 ≤ no) ∧ (mDone R no k = true → ∃ j, j < k ∧ no < R.getD (2 * j) 0)
  | 0, _ => ⟨fun i j _ hj => by simp [mDone] at hj, fun i hi => by simp [mDone] at hi, fun _ i hi => by omega, fun h => by cases h⟩
  | k + 1, hk => by
    obtain ⟨i1, i2, i3, i4⟩ := mOut_rises R no bd n hR k (by omega)
    have hl := mOut_len R no bd k
    rw [mOut, mDone]
    cases hd : mDone R no k with
    | true =>
      rw [hd] at hl i1 i2
      obtain ⟨j0, hj0, hj1⟩ := i4 hd
      have hle : ∀ i, i < k + 1 → (mOut R no bd k).getD (2 * i) 0 ≤ R.getD (2 * k) 0 := fun i hi => by
        rcases i2 i hi with h | ⟨j, h1, h2⟩
        · have := hR j0 k hj0 (by omega); omega
        · have := hR j k h1 (by omega); omega
      rw [if_neg (by simp)]
      simp only [Bool.true_or, Bool.toNat_true]
      refine ⟨i1.snoc (by simpa using hl) _ _ hle, fun i hi => .inr ⟨k, by omega, ?_⟩, fun h => by simp at h, fun _ => ⟨j0, by omega, hj1⟩⟩
      by_cases c : i = k + 1
      · subst c; rw [(getD_pairR (n := k + 1) _ _ _ (by simpa using hl)).1]; exact Int.le_refl _
      · rw [getD_pairL _ _ _ _ (by simp at hl; omega)]; exact hle i (by omega)
    | false =>
      rw [hd] at hl i1 i2
      have i3 := i3 hd
      by_cases hg : no < R.getD (2 * k) 0
      · rw [if_pos ⟨rfl, hg⟩, decide_eq_true hg]
        simp only [Bool.or_true, Bool.toNat_true]
        have hl1 : (mOut R no bd k).length = 2 * k := by simpa using hl
        have r1 : Rises (mOut R no bd k ++ [no, bd]) (k + 1) := Rises.snoc (by simpa using i1) hl1 _ _ i3
        have hl2 : (mOut R no bd k ++ [no, bd]).length = 2 * (k + 1) := by simp [hl1]; omega
        have le1 : ∀ i, i < k + 1 → (mOut R no bd k ++ [no, bd]).getD (2 * i) 0 ≤ no := fun i hi => by
          by_cases c : i = k
          · subst c; rw [(getD_pairR (n := i) _ _ _ hl1).1]; exact Int.le_refl _
          · rw [getD_pairL _ _ _ _ (by omega)]; exact i3 i (by omega)
        refine ⟨r1.snoc hl2 _ _ (fun i hi => by have := le1 i hi; omega), fun i hi => ?_, fun h => by simp at h, fun _ => ⟨k, by omega, hg⟩⟩
        by_cases c : i = k + 1
        · subst c; exact .inr ⟨k, by omega, by rw [(getD_pairR (n := k + 1) _ _ _ hl2).1]; exact Int.le_refl _⟩
        · rw [getD_pairL _ _ _ _ (by omega)]; exact .inl (le1 i (by omega))
      · rw [if_neg (fun h => hg h.2), decide_eq_false hg]
        simp only [Bool.or_false, Bool.toNat_false, Nat.add_zero] at i1 hl ⊢
        have le1 : ∀ i, i < k → (mOut R no bd k).getD (2 * i) 0 ≤ R.getD (2 * k) 0 := fun i hi => by
          have e := congrArg Prod.fst (List.map_inj_left.1 ((mOut_pairs R no bd k).1 hd) i (List.mem_range.2 hi))
          have e : (mOut R no bd k).getD (2 * i) 0 = R.getD (2 * i) 0 := e
          rw [e]; exact hR i k hi (by omega)
        refine ⟨i1.snoc (by simpa using hl) _ _ le1, fun i hi => ?_, fun _ i hi => ?_, fun h => by simp at h⟩
        · by_cases c : i = k
          · subst c; exact .inr ⟨i, by omega, by rw [(getD_pairR (n := i) _ _ _ (by simpa using hl)).1]; exact Int.le_refl _⟩
          · rw [getD_pairL _ _ _ _ (by omega)]; exact .inl (i3 i (by omega))
        · by_cases c : i = k
          · subst c; rw [(getD_pairR (n := i) _ _ _ (by simpa using hl)).1]; omega
          · rw [getD_pairL _ _ _ _ (by omega)]; exact i3 i (by omega)
theorem mFin_rises (R : List Int) (no bd : Int) (n : Nat) (hR : Rises R n) : Rises (mFin R no bd n) (n + 1) := by
  obtain ⟨i1, i2, i3, i4⟩ := mOut_rises R no bd n hR n (Nat.le_refl _)
  have hl := mOut_len R no bd n
  unfold mFin
  cases hd : mDone R no n with
  | true => rw [hd] at i1; rw [if_pos rfl]; exact i1
  | false =>
    rw [hd] at i1 hl
    rw [if_neg (by simp)]
    exact Rises.snoc (by simpa using i1) (by simpa using hl) _ _ (i3 hd)
theorem mFin_ordered {X A : List Int} {n : Nat} (h : Ordered X A n) (hX : X.length = 2 * n) (no bd : Int) : Ordered (X ++ [no, bd]) (mFin A no bd n) (n + 1) :=
  ⟨mFin_len A no bd n, by rw [pairsOf_snoc X no bd n hX]; exact (mFin_perm A no bd n).trans (h.perm.append_right _), mFin_rises A no bd n h.rise⟩
end Go.Proofs.Ytlfecmkpafgcmaa
