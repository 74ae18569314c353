/- A queue in a box of a statement's own; what it reads of it. -/
import Derived.Test.YtjolamdlclcpcaaQkD
import Derived.Test.YtjolamdlclcpcaaQkO
import Derived.Deep.CutRange
namespace Go.Proofs.Ytjolamdlclcpcaa
open Go.RowKit

/-- a queue in a box. -/
structure Bx (wx : World) (B : Nat) (s : St) (a1 : Option Addr) (c1 : Nat) (a2 : Option Addr) (c2 : Nat) (ws : Nat → Value) : Prop where
  q : qBlock wx B s.ep s.nx s.gv (.slice a1 s.rn c1) (.slice a2 s.ln c2) ws
  r1 : RowK .i64 wx a1 (2 * s.rn) s.R
  r2 : RowK .i64 wx a2 (4 * s.ln) s.L
  n1 : a1 = none → c1 = 0
  n2 : a2 = none → c2 = 0
  wins : Wins ws s.wt s.wz
theorem Bx.next {wx wy : World} {B : Nat} {s : St} {a1 : Option Addr} {c1 : Nat} {a2 : Option Addr} {c2 : Nat} {ws : Nat → Value} (h : Bx wx B s a1 c1 a2 c2 ws) (b : Below wx.heap.size wx wy) : Bx wy B s a1 c1 a2 c2 ws :=
  ⟨h.q.next b, h.r1.below b, h.r2.below b, h.n1, h.n2, h.wins⟩
theorem Bx.do {wx : World} {B : Nat} {s : St} {a1 : Option Addr} {c1 : Nat} {a2 : Option Addr} {c2 : Nat} {ws : Nat → Value} (h : Bx wx B s a1 c1 a2 c2 ws) (ok : s.Ok) (v : Ev) (hv : v.Ok) :
    Calls Try.prog 28 #[qVal s.ep s.nx s.gv (.slice a1 s.rn c1) (.slice a2 s.ln c2) ws, evIn v] wx fun e w' => ∃ (s' : St) (an : An) (ch : Bool) (x : Value), e = .returned (.tuple #[x, anOf an, .bool ch, .int .i64 0]) ∧ Step s v s' an ch ∧ QOut wx w' s' x ∧ Below wx.heap.size wx w' :=
  do_step s a1 a2 c1 c2 ws v wx h.r1 h.r2 h.n1 h.n2 h.wins ok hv
/-- a queue that was answered, boxed. -/
theorem boxed {w wx wy wz : World} {s : St} {a1 : Option Addr} {c1 : Nat} {a2 : Option Addr} {c2 : Nat} {ws : Nat → Value} (r1 : RowK .i64 wx a1 (2 * s.rn) s.R) (r2 : RowK .i64 wx a2 (4 * s.ln) s.L) (n1 : a1 = none → c1 = 0) (n2 : a2 = none → c2 = 0) (hW : Wins ws s.wt s.wz) (bel : Below w.heap.size w wx)
    (b : Below wx.heap.size wx wy) (t : Turned wx.heap.size wy wz) (q : qBlock wz wx.heap.size s.ep s.nx s.gv (.slice a1 s.rn c1) (.slice a2 s.ln c2) ws) : Bx wz wx.heap.size s a1 c1 a2 c2 ws ∧ Below wx.heap.size wx wz ∧ Below w.heap.size w wz := by
  have bb := t.under b (Nat.le_refl _)
  exact ⟨⟨q, r1.below bb, r2.below bb, n1, n2, hW⟩, bb, Below.next bel bb⟩
/-- a queue and an answer that Do answered, boxed. -/
theorem boxed2 {w wx wy wz : World} {s : St} {a1 : Option Addr} {c1 : Nat} {a2 : Option Addr} {c2 : Nat} {ws : Nat → Value} (c he no bd : Int) (r1 : RowK .i64 wx a1 (2 * s.rn) s.R) (r2 : RowK .i64 wx a2 (4 * s.ln) s.L) (n1 : a1 = none → c1 = 0) (n2 : a2 = none → c2 = 0) (hW : Wins ws s.wt s.wz) (bel : Below w.heap.size w wx)
    (b : Below wx.heap.size wx wy) (hN : wx.heap.size < wy.heap.size) (t : Turned wx.heap.size (wy.alloc (.cells #[.int .i64 0, .int .i64 0, .int .i64 0, .int .i64 0] 59)) wz) (q : qBlock wz wx.heap.size s.ep s.nx s.gv (.slice a1 s.rn c1) (.slice a2 s.ln c2) ws) :
    ∃ W, W = (((wz.setCell ⟨wy.heap.size, 0, none⟩ (.int .i64 c)).setCell ⟨wy.heap.size, 1, none⟩ (.int .i64 he)).setCell ⟨wy.heap.size, 2, none⟩ (.int .i64 no)).setCell ⟨wy.heap.size, 3, none⟩ (.int .i64 bd) ∧ Bx W wx.heap.size s a1 c1 a2 c2 ws ∧ ansBlock W wy.heap.size c he no bd ∧ Below wx.heap.size wx W ∧ Below w.heap.size w W := by
  have y := ansBlock.new wy 0 0 0 0
  have y1 := y.turned t (by omega)
  have b1 : Below wx.heap.size wx (wy.alloc (.cells #[.int .i64 0, .int .i64 0, .int .i64 0, .int .i64 0] 59)) := Below.next b (below1 _ _)
  have b2 := t.under b1 (Nat.le_refl _)
  have t2 := ans_turned wz wy.heap.size c he no bd
  have b3 := t2.under b2 (by omega)
  exact ⟨_, rfl, ⟨t2.queue q (by omega), r1.below b3, r2.below b3, n1, n2, hW⟩, y1.store _ _ _ _, b3, Below.next bel b3⟩
/-- the answer's zero box, ahead of the store. -/
theorem ans0 {wx wy wz : World} (hN : wx.heap.size < wy.heap.size) (t : Turned wx.heap.size (wy.alloc (.cells #[.int .i64 0, .int .i64 0, .int .i64 0, .int .i64 0] 59)) wz) : ansBlock wz wy.heap.size 0 0 0 0 := (ansBlock.new wy 0 0 0 0).turned t (by omega)
/-- two arrays of bools compared. -/
theorem run_equal_seen_at (d : Nat) (a0 a1 a2 a3 a4 a5 a6 a7 b0 b1 b2 b3 b4 b5 b6 b7 : Bool) (w : World) :
    (Op.equalIn (d + 1 + 1) 49 (.agg #[.bool a0, .bool a1, .bool a2, .bool a3, .bool a4, .bool a5, .bool a6, .bool a7]) (.agg #[.bool b0, .bool b1, .bool b2, .bool b3, .bool b4, .bool b5, .bool b6, .bool b7])).run Try.prog w
      = .ok (a0 == b0 && (a1 == b1 && (a2 == b2 && (a3 == b3 && (a4 == b4 && (a5 == b5 && (a6 == b6 && a7 == b7))))))) w := by
  have hb : ∀ (x y : Bool) w, (Op.equalIn (d + 1) 4 (.bool x) (.bool y)).run Try.prog w = .ok (x == y) w := fun x y w => run_equalIn_bool w d 4 x y Try.underlying4
  rw [Op.equalIn]
  generalize d + 1 = dd at hb ⊢
  simp only [Sem.run_bind, run_underlying Try.underlying49, Result.andThen_ok]
  simp [go_sem, List.range', hb]
  repeat' split
  all_goals simp_all
theorem run_equal_seen_same (a0 a1 a2 a3 a4 a5 a6 a7 : Bool) (w : World) :
    (Op.equalIn 9999 49 (.agg #[.bool a0, .bool a1, .bool a2, .bool a3, .bool a4, .bool a5, .bool a6, .bool a7]) (.agg #[.bool a0, .bool a1, .bool a2, .bool a3, .bool a4, .bool a5, .bool a6, .bool a7])).run Try.prog w = .ok true w := by
  have := run_equal_seen_at 9997 a0 a1 a2 a3 a4 a5 a6 a7 a0 a1 a2 a3 a4 a5 a6 a7 w
  simpa using this
/-- the nine cells of a window of a queue in memory. -/
theorem qBlock.nine {wx : World} {B : Nat} {ep nx gv : Int} {r l : Value} {ws : Nat → Value} {wt : Nat → Int} {wz : Nat → Nat → Bool} (q : qBlock wx B ep nx gv r l ws) (h : Wins ws wt wz) (p : Nat) (hp : p < 4) :
    wx.cell? ⟨B, 5 + 9 * p, none⟩ = some (.int .i64 (wt p)) ∧ wx.cell? ⟨B, 5 + (9 * p + 1), none⟩ = some (.bool (wz p 0)) ∧ wx.cell? ⟨B, 5 + (9 * p + 1 + 1), none⟩ = some (.bool (wz p 1)) ∧ wx.cell? ⟨B, 5 + (9 * p + 1 + 2), none⟩ = some (.bool (wz p 2)) ∧ wx.cell? ⟨B, 5 + (9 * p + 1 + 3), none⟩ = some (.bool (wz p 3)) ∧
    wx.cell? ⟨B, 5 + (9 * p + 1 + 4), none⟩ = some (.bool (wz p 4)) ∧ wx.cell? ⟨B, 5 + (9 * p + 1 + 5), none⟩ = some (.bool (wz p 5)) ∧ wx.cell? ⟨B, 5 + (9 * p + 1 + 6), none⟩ = some (.bool (wz p 6)) ∧ wx.cell? ⟨B, 5 + (9 * p + 1 + 7), none⟩ = some (.bool (wz p 7)) := by
  obtain ⟨h0, h1⟩ := h p hp
  have k : ∀ j, j < 36 → wx.cell? ⟨B, 5 + j, none⟩ = some (ws j) := fun j hj => (q.at (5 + j)).trans (qCells_ws _ _ _ _ _ _ j hj)
  have g : ∀ j, j < 8 → wx.cell? ⟨B, 5 + (9 * p + 1 + j), none⟩ = some (.bool (wz p j)) := fun j hj => by rw [k _ (by omega), h1 j hj]
  exact ⟨by rw [k _ (by omega), h0], g 0 (by omega), g 1 (by omega), g 2 (by omega), g 3 (by omega), g 4 (by omega), g 5 (by omega), g 6 (by omega), g 7 (by omega)⟩
theorem Hist.small {es : List Ev} {s : St} {ans : List An} (h : Hist es s ans) {m : Nat} (hm : es.length ≤ m) : s.nx ≤ m ∧ 0 ≤ s.nx ∧ s.ep ≤ m ∧ 0 ≤ s.ep ∧ s.rn + s.ln ≤ m ∧ s.gv ≤ m ∧ 0 ≤ s.gv := by
  obtain ⟨h1, h2, h3, h4⟩ := h.counts
  have c1 := cnt_le es 1
  have c4 := cnt_le es 4
  have := h.wf.ok.count.g0
  omega
theorem ev_pub {p i b : Int} (hp : 0 ≤ p ∧ p ≤ 3) (hi : 0 ≤ i ∧ i ≤ 1073741824) (hb : 0 ≤ b ∧ b ≤ 1000000) : (⟨1, p, i, b, 0, 0⟩ : Ev).Ok := by
  unfold Ev.Ok eventFault
  rw [if_pos rfl, if_neg (fun h => h ⟨hp.1, hp.2, hi.1, hi.2, hb.1, hb.2⟩), if_pos ⟨rfl, rfl⟩]
theorem ev_ack {he hn : Int} (h1 : 0 ≤ he ∧ he ≤ 1048576) (h2 : 0 ≤ hn ∧ hn ≤ 1073741824) : (⟨3, 0, 0, 0, he, hn⟩ : Ev).Ok := by
  unfold Ev.Ok eventFault
  rw [if_neg (by show ¬ (3 : Int) = 1; decide), if_pos rfl, if_neg (fun h => h ⟨h1.1, h1.2, h2.1, h2.2⟩), if_pos ⟨rfl, rfl, rfl⟩]
theorem ev_recv : (⟨2, 0, 0, 0, 0, 0⟩ : Ev).Ok := by unfold Ev.Ok eventFault; simp
theorem ev_break : (⟨4, 0, 0, 0, 0, 0⟩ : Ev).Ok := by unfold Ev.Ok eventFault; simp
end Go.Proofs.Ytjolamdlclcpcaa
