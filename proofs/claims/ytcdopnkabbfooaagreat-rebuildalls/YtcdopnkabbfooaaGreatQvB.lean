/- The walk of queue.Do. -/
import Derived.Test.YtcdopnkabbfooaaGreatQvA
namespace Go.Proofs.YtcdopnkabbfooaaGreat
open Go.RowKit

/-- the four boxes of Do, behind a call. -/
structure Dos (w wx : World) (E Z A : Nat) (s : St) (rv lv : Value) (ws : Nat → Value) (v : Ev) : Prop where
  q : qBlock wx w.heap.size s.ep s.nx s.gv rv lv ws
  e : wx.heap[E]? = some (.cells #[.int .i64 v.k, .int .i64 v.p, .int .i64 v.i, .int .i64 v.b, .int .i64 v.he, .int .i64 v.hn] 28 (0, 0))
  z : qBlock wx Z 0 0 0 (.slice none 0 0) (.slice none 0 0) zeroW
  a : ansBlock wx A 0 0 0 0
  bel : Below w.heap.size w wx
  upE : w.heap.size < E
  upZ : E < Z
  upA : Z < A
theorem Dos.next {w wx wy : World} {E Z A : Nat} {s : St} {rv lv : Value} {ws : Nat → Value} {v : Ev} (h : Dos w wx E Z A s rv lv ws v) (b : Below wx.heap.size wx wy) : Dos w wy E Z A s rv lv ws v :=
  ⟨h.q.next b, (b.block E (block_lt h.e)).trans h.e, h.z.next b, h.a.next b, Below.next h.bel b, h.upE, h.upZ, h.upA⟩
theorem Dos.made {w W1 W3 : World} {s : St} {rv lv : Value} {ws : Nat → Value} {v : Ev} (q1 : qBlock W1 w.heap.size s.ep s.nx s.gv rv lv ws) (b1 : Below w.heap.size w W1)
    (z3 : qBlock W3 (W1.alloc (.cells #[.int .i64 v.k, .int .i64 v.p, .int .i64 v.i, .int .i64 v.b, .int .i64 v.he, .int .i64 v.hn] 28)).heap.size 0 0 0 (.slice none 0 0) (.slice none 0 0) zeroW)
    (b3 : Below (W1.alloc (.cells #[.int .i64 v.k, .int .i64 v.p, .int .i64 v.i, .int .i64 v.b, .int .i64 v.he, .int .i64 v.hn] 28)).heap.size (W1.alloc (.cells #[.int .i64 v.k, .int .i64 v.p, .int .i64 v.i, .int .i64 v.b, .int .i64 v.he, .int .i64 v.hn] 28)) W3) :
    Dos w (W3.alloc (.cells #[.int .i64 0, .int .i64 0, .int .i64 0, .int .i64 0] 75)) W1.heap.size (W1.heap.size + 1) W3.heap.size s rv lv ws v := by
  have e : (W1.alloc (.cells #[.int .i64 v.k, .int .i64 v.p, .int .i64 v.i, .int .i64 v.b, .int .i64 v.he, .int .i64 v.hn] 28)).heap.size = W1.heap.size + 1 := by simp
  have hz := z3.lt
  rw [e] at z3 hz
  refine ⟨((q1.next (below1 _ _)).next b3).next (below1 _ _), ?_, z3.next (below1 _ _), ansBlock.new W3 0 0 0 0, Below.next (Below.next (Below.next b1 (below1 _ _)) b3) (below1 _ _), q1.lt, Nat.lt_succ_self _, hz⟩
  have h1 := (b3.block W1.heap.size (by simp)).trans (heap_alloc_new W1 _)
  exact ((below1 W3 _).block W1.heap.size (block_lt h1)).trans h1

theorem ret_Do {W : World} {Z A : Nat} {ep nx gv : Int} {r l : Value} {ws : Nat → Value} {c he no bd er : Int} {ch : Bool} {tmps : Array Value} (q : qBlock W Z ep nx gv r l ws) (a : ansBlock W A c he no bd) (t4 : tmps[4]? = some (.pointer (some ⟨Z, 0, none⟩))) (t5 : tmps[5]? = some (.pointer (some ⟨A, 0, none⟩))) (t6 : tmps[6]? = some (.bool ch)) (t7 : tmps[7]? = some (.int .i64 er)) :
    (results Tryz.f80 tmps).run Tryz.prog W = .ok (.tuple #[qVal ep nx gv r l ws, ansVal c he no bd, .bool ch, .int .i64 er]) W := by
  have h1 := run_loadVar_row (P := Tryz.prog) W Z 92 92 _ (0, 0) _ q Tryz.underlying92 rfl (by rw [qCells_size]; exact Tryz.infoQ)
  have h2 := run_loadVar_row (P := Tryz.prog) W A 75 75 _ (0, 0) _ a Tryz.underlying75 rfl (by kernel_rfl)
  simp [results, Tryz.results80, t4, t5, t6, t7, asAddr, h1, h2]
/-- what Do answers where it refuses. -/
abbrev refused (er : Int) : Value := .tuple #[qVal 0 0 0 (.slice none 0 0) (.slice none 0 0) zeroW, ansVal 0 0 0 0, .bool false, .int .i64 er]
theorem Dos.end {w wx wy : World} {E Z A : Nat} {s : St} {rv lv : Value} {ws : Nat → Value} {v : Ev} (h : Dos w wx E Z A s rv lv ws v) (t : Turned Z wx wy) : ansBlock wy A 0 0 0 0 ∧ Below w.heap.size w wy :=
  ⟨h.a.turned t (by have := h.upA; omega), t.under h.bel (by have := h.upE; have := h.upZ; omega)⟩

set_option maxRecDepth 20000 in
set_option maxHeartbeats 4000000 in
theorem do_state (s : St) (ra la : Option Addr) (rc lc : Nat) (ws : Nat → Value) (v : Ev) (w : World) (hR : RowK .i64 w ra (2 * s.rn) s.R) (hL : RowK .i64 w la (4 * s.ln) s.L) (hW : Wins ws s.wt s.wz) (hs : s.rn + s.ln ≤ 9223372036854775807) (h : ¬ s.Ok) :
    Calls Tryz.prog 80 #[qVal s.ep s.nx s.gv (.slice ra s.rn rc) (.slice la s.ln lc) ws, evIn v] w fun e w' => e = .returned (refused 6) ∧ Below w.heap.size w w' := by
  go_enter Tryz.func80, Tryz.ntmps80
  go_wp2_with (first
    | (refine q_box 2 _ rfl rfl rfl rfl ?_; intro W1 q1 b1)
    | (refine q_alloc 4 rfl rfl rfl ?_; intro W3 z3 b3; have DD := Dos.made q1 b1 z3 b3; have DQ := DD.q; have HDD := veil DD; clear DD z3 b3 q1 b1)
    | (refine q_loads _ rfl rfl rfl DQ ?_)
    | (go_at_call 85; refine (qcheck_no _ _ _ _ _ _ _ _ _ _ _ _ s.wt s.wz _ (hR.below (unveil HDD).bel) (hL.below (unveil HDD).bel) hW hs h).mono ?_; rintro e W5 ⟨rfl, b5⟩; have D5 := (unveil HDD).next b5; have z5 := D5.z; obtain ⟨y0, y1, y2, y3⟩ := D5.a.cells; have yf := D5.a.free; have HD5 := veil D5; clear D5 HDD DQ b5)
    | (refine q_store (ra := none) (la := none) (rn := 0) (rc := 0) (ln := 0) (lc := 0) (ws' := zeroW) _ _ rfl rfl rfl rfl z5 zeroWins ?_; intro W6 q6 t6; obtain ⟨a6, b6⟩ := (unveil HD5).end t6; obtain ⟨x0, x1, x2, x3⟩ := a6.cells; have xf := a6.free; have HQ6 := veil q6; have HA6 := veil a6; have HB6 := veil b6; have nZA : W3.heap.size ≠ W1.heap.size + 1 := (by have := (unveil HD5).upA; omega); have hAl : w.heap.size ≤ W3.heap.size := (by have := (unveil HD5).upE; have := (unveil HD5).upZ; have := (unveil HD5).upA; omega); clear z5 y0 y1 y2 y3 yf q6 t6 a6 b6))
  have T7 := ans_turned W6 W3.heap.size 0 0 0 0
  exact bodyPost_ret (ret_Do (T7.queue (unveil HQ6) (by omega)) ((unveil HA6).store 0 0 0 0) rfl rfl rfl rfl) rfl ⟨rfl, T7.under (unveil HB6) hAl⟩
set_option maxRecDepth 20000 in
set_option maxHeartbeats 4000000 in
theorem do_form (s : St) (ra la : Option Addr) (rc lc : Nat) (ws : Nat → Value) (v : Ev) (w : World) (hR : RowK .i64 w ra (2 * s.rn) s.R) (hL : RowK .i64 w la (4 * s.ln) s.L) (hW : Wins ws s.wt s.wz) (h : s.Ok) (f : Int) (hf : ¬ f = 0) (HF : Hid (eventFault v.k v.p v.i v.b v.he v.hn = f)) :
    Calls Tryz.prog 80 #[qVal s.ep s.nx s.gv (.slice ra s.rn rc) (.slice la s.ln lc) ws, evIn v] w fun e w' => e = .returned (refused f) ∧ Below w.heap.size w w' := by
  have HC : ∀ w, Calls Tryz.prog 54 #[evIn v] w fun e w' => e = .returned (.int .i64 f) ∧ Below w.heap.size w w' := fun w => by
    have := check_any v.k v.p v.i v.b v.he v.hn w
    rwa [unveil HF] at this
  go_enter Tryz.func80, Tryz.ntmps80
  go_wp2_with (first
    | (refine q_box 2 _ rfl rfl rfl rfl ?_; intro W1 q1 b1)
    | (refine q_alloc 4 rfl rfl rfl ?_; intro W3 z3 b3; have DD := Dos.made q1 b1 z3 b3; have DQ := DD.q; have HDD := veil DD; clear DD z3 b3 q1 b1)
    | (refine q_loads _ rfl rfl rfl DQ ?_)
    | (go_at_call 85; refine (qcheck_yes _ _ _ _ _ _ _ _ _ _ _ _ s.wt s.wz _ (hR.below (unveil HDD).bel) (hL.below (unveil HDD).bel) hW h).mono ?_; rintro e W4 ⟨rfl, b4⟩; have D4 := (unveil HDD).next b4; have ev4 := D4.e; have v0 : W4.cell? ⟨W1.heap.size, 0, none⟩ = some (.int .i64 v.k) := (by simp [World.cell?, ev4]); have v1 : W4.cell? ⟨W1.heap.size, 1, none⟩ = some (.int .i64 v.p) := (by simp [World.cell?, ev4]); have v2 : W4.cell? ⟨W1.heap.size, 2, none⟩ = some (.int .i64 v.i) := (by simp [World.cell?, ev4]); have v3 : W4.cell? ⟨W1.heap.size, 3, none⟩ = some (.int .i64 v.b) := (by simp [World.cell?, ev4]); have v4 : W4.cell? ⟨W1.heap.size, 4, none⟩ = some (.int .i64 v.he) := (by simp [World.cell?, ev4]); have v5 : W4.cell? ⟨W1.heap.size, 5, none⟩ = some (.int .i64 v.hn) := (by simp [World.cell?, ev4]); have HD4 := veil D4; clear D4 HDD DQ b4 ev4)
    | (go_at_call 54; refine (HC _).mono ?_; rintro e W5 ⟨rfl, b5⟩; have D5 := (unveil HD4).next b5; have z5 := D5.z; obtain ⟨y0, y1, y2, y3⟩ := D5.a.cells; have yf := D5.a.free; have HD5 := veil D5; clear D5 HD4 b5 v0 v1 v2 v3 v4 v5)
    | (refine q_store (ra := none) (la := none) (rn := 0) (rc := 0) (ln := 0) (lc := 0) (ws' := zeroW) _ _ rfl rfl rfl rfl z5 zeroWins ?_; intro W6 q6 t6; obtain ⟨a6, b6⟩ := (unveil HD5).end t6; obtain ⟨x0, x1, x2, x3⟩ := a6.cells; have xf := a6.free; have HQ6 := veil q6; have HA6 := veil a6; have HB6 := veil b6; have nZA : W3.heap.size ≠ W1.heap.size + 1 := (by have := (unveil HD5).upA; omega); have hAl : w.heap.size ≤ W3.heap.size := (by have := (unveil HD5).upE; have := (unveil HD5).upZ; have := (unveil HD5).upA; omega); clear z5 y0 y1 y2 y3 yf q6 t6 a6 b6))
  have T7 := ans_turned W6 W3.heap.size 0 0 0 0
  exact bodyPost_ret (ret_Do (T7.queue (unveil HQ6) (by omega)) ((unveil HA6).store 0 0 0 0) rfl rfl rfl rfl) rfl ⟨rfl, T7.under (unveil HB6) hAl⟩
end Go.Proofs.YtcdopnkabbfooaaGreat
