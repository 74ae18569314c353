/- The walk of a desk's receive. -/
import Derived.Test.YtcdopnkabbfooaaGreatQuP
import Derived.Deep.DeepCutAuto
namespace Go.Proofs.YtcdopnkabbfooaaGreat
open Go.RowKit

/-- a desk with rows of its own. -/
structure Desk (w : World) (base B : Nat) (ep nx gv : Int) (a1 : Option Addr) (rn c1 : Nat) (a2 : Option Addr) (ln c2 : Nat) (R L : List Int) (ws : Nat → Value) : Prop where
  d : dBlock w B ep nx gv (.slice a1 rn c1) (.slice a2 ln c2) ws
  up : base ≤ B
  o1 : w.ownsRow base 131 2 (.slice a1 rn c1) rn (R.map (Value.int .i64))
  o2 : w.ownsRow base 133 4 (.slice a2 ln c2) ln (L.map (Value.int .i64))
  wR : ∀ u ∈ R, (Lit.int .i64 u).wf = true
  wL : ∀ u ∈ L, (Lit.int .i64 u).wf = true
/-- a desk, whatever its rows. -/
def DeskOut (w : World) (base B : Nat) (ep nx gv : Int) (rn : Nat) (R : List Int) (ln : Nat) (L : List Int) (wt : Nat → Int) (wz : Nat → Nat → Bool) : Prop :=
  ∃ a1 c1 a2 c2 ws, dBlock w B ep nx gv (.slice a1 rn c1) (.slice a2 ln c2) ws ∧ RowK .i64 w a1 (2 * rn) R ∧ RowK .i64 w a2 (4 * ln) L ∧ rn ≤ c1 ∧ ln ≤ c2 ∧ (a1 = none → c1 = 0) ∧ (a2 = none → c2 = 0) ∧ Wins ws wt wz ∧ (∀ x, a1 = some x → base ≤ x.block) ∧ (∀ x, a2 = some x → base ≤ x.block)
section
variable {w w' : World} {base B : Nat} {ep nx gv : Int} {a1 a2 : Option Addr} {rn c1 ln c2 : Nat} {R L : List Int} {ws : Nat → Value} {wt : Nat → Int} {wz : Nat → Nat → Bool}
theorem Desk.out (D : Desk w base B ep nx gv a1 rn c1 a2 ln c2 R L ws) (hW : Wins ws wt wz) : DeskOut w base B ep nx gv rn R ln L wt wz := by
  obtain ⟨_, _, e1, r1, l1, _, n1, x1⟩ := RowK.ofMany D.o1 D.wR
  obtain ⟨_, _, e2, r2, l2, _, n2, x2⟩ := RowK.ofMany D.o2 D.wL
  cases e1; cases e2
  exact ⟨a1, c1, a2, c2, ws, D.d, r1, r2, l1, l2, n1, n2, hW, x1, x2⟩
theorem Desk.next (D : Desk w base B ep nx gv a1 rn c1 a2 ln c2 R L ws) (hb : Below w.heap.size w w') : Desk w' base B ep nx gv a1 rn c1 a2 ln c2 R L ws :=
  ⟨D.d.next hb, D.up, own_still D.o1 (fun g _ hg => hb.block g hg), own_still D.o2 (fun g _ hg => hb.block g hg), D.wR, D.wL⟩
/-- a block of one type is not a block of another one. -/
theorem own_off {e t size n : Nat} {v : Value} {xs : List Value} {cs : Array Value} (o : w.ownsRow base e size v n xs) (h : w.heap[B]? = some (.cells cs t (0, 0))) (he : e ≠ t) : ∀ g, v.ownBlock = some g → g ≠ B := by
  intro g hg hgB
  subst hgB
  rcases o.2 with ⟨rfl, _⟩ | ⟨g1, cap, cur, rfl, _, h3, _⟩
  · cases hg
  · simp only [Value.ownBlock, Option.some.injEq] at hg
    subst hg
    rw [h3] at h
    simp only [Option.some.injEq, Obj.cells.injEq] at h
    exact he h.2.1
theorem Turned.owns {e size n : Nat} {v : Value} {xs : List Value} (t : Turned B w w') (o : w.ownsRow base e size v n xs) (hne : ∀ g, v.ownBlock = some g → g ≠ B) : w'.ownsRow base e size v n xs :=
  own_still o (fun g hg _ => t.block g (hne g hg))
theorem Desk.off1 (D : Desk w base B ep nx gv a1 rn c1 a2 ln c2 R L ws) : ∀ g, (Value.slice a1 rn c1).ownBlock = some g → g ≠ B := own_off D.o1 D.d (by decide)
theorem Desk.off2 (D : Desk w base B ep nx gv a1 rn c1 a2 ln c2 R L ws) : ∀ g, (Value.slice a2 ln c2).ownBlock = some g → g ≠ B := own_off D.o2 D.d (by decide)
end
theorem ret_receive {W : World} {R : Nat} {c he no bd : Int} {b : Bool} {tmps : Array Value} (h : ansBlock W R c he no bd) (t : tmps[4]? = some (.pointer (some ⟨R, 0, none⟩))) (tb : tmps[5]? = some (.bool b)) :
    (results Tryz.f97 tmps).run Tryz.prog W = .ok (.tuple #[ansVal c he no bd, .bool b]) W := by
  obtain ⟨k0, k1, k2, k3⟩ := h.cells
  simp [results, Tryz.results97, go_sem, k0, k1, k2, k3, t, tb]

abbrev evVal (k p i b he hn : Int) : Value := .agg #[.int .i64 k, .int .i64 p, .int .i64 i, .int .i64 b, .int .i64 he, .int .i64 hn]

/-- the event's box and the answer's, behind a call. -/
theorem ev_ans {w w1 : World} {k p i b he hn : Int} (b1 : Below ((w.alloc (.cells #[.int .i64 k, .int .i64 p, .int .i64 i, .int .i64 b, .int .i64 he, .int .i64 hn] 28)).alloc (.cells #[.int .i64 0, .int .i64 0, .int .i64 0, .int .i64 0] 75)).heap.size ((w.alloc (.cells #[.int .i64 k, .int .i64 p, .int .i64 i, .int .i64 b, .int .i64 he, .int .i64 hn] 28)).alloc (.cells #[.int .i64 0, .int .i64 0, .int .i64 0, .int .i64 0] 75)) w1) :
    ansBlock w1 (w.heap.size + 1) 0 0 0 0 ∧ Below w.heap.size w w1 := by
  have z := (ansBlock.new (w.alloc (.cells #[.int .i64 k, .int .i64 p, .int .i64 i, .int .i64 b, .int .i64 he, .int .i64 hn] 28)) 0 0 0 0).next b1
  have e : (w.alloc (.cells #[.int .i64 k, .int .i64 p, .int .i64 i, .int .i64 b, .int .i64 he, .int .i64 hn] 28)).heap.size = w.heap.size + 1 := by simp
  rw [e] at z
  exact ⟨z, below2t b1⟩

set_option maxRecDepth 20000 in
set_option maxHeartbeats 2000000 in
theorem receive_no (base B : Nat) (ep nx gv : Int) (a1 : Option Addr) (rn c1 : Nat) (a2 : Option Addr) (ln c2 : Nat) (R L : List Int) (ws : Nat → Value) (wt : Nat → Int) (wz : Nat → Nat → Bool) (k p i b he hn : Int) (w : World) (D : Desk w base B ep nx gv a1 rn c1 a2 ln c2 R L ws) (hW : Wins ws wt wz) (hbase : base ≤ w.heap.size) (code : Int) (hc : (rn = 0 ∧ code = 10) ∨ (0 < rn ∧ gv = 1073741824 ∧ code = 14)) :
    Calls Tryz.prog 97 #[.pointer (some ⟨B, 0, none⟩), evVal k p i b he hn] w fun e w' => e = .returned (.tuple #[ansVal code 0 0 0, .bool false]) ∧ DeskOut w' base B ep nx gv rn R ln L wt wz ∧ Below base w w' := by
  obtain ⟨d0, d1, d2, d3, d4⟩ := D.d.heads
  have hBl := D.d.lt
  have hBn : B ≠ w.heap.size := by omega
  have hBn2 : B ≠ w.heap.size + 1 := by omega
  have HD := veil D
  have HBW : Hid (∀ w', Below w.heap.size w w' → DeskOut w' base B ep nx gv rn R ln L wt wz ∧ Below base w w') := veil fun w' hb => ⟨(D.next hb).out hW, hb.mono hbase⟩
  clear D
  rcases hc with ⟨rfl, rfl⟩ | ⟨h0, rfl, rfl⟩
  · go_enter Tryz.func97, Tryz.ntmps97
    go_wp2_with (go_at_call 110; refine (unchanged_any _ _).mono ?_; rintro e w1 ⟨rfl, b1⟩; obtain ⟨z1, b2⟩ := ev_ans b1; obtain ⟨y0, y1, y2, y3⟩ := z1.cells; have yf := z1.free; have HZ := veil z1; have HB := veil b2; clear b1 z1 b2)
    obtain ⟨r1, r2⟩ := unveil HBW _ ((ans_turned w1 (w.heap.size + 1) _ 0 0 0).under (unveil HB) (Nat.le_succ _))
    exact bodyPost_ret (ret_receive ((unveil HZ).store _ 0 0 0) rfl rfl) rfl ⟨rfl, r1, r2⟩
  · go_enter Tryz.func97, Tryz.ntmps97
    go_wp2_with (go_at_call 110; refine (unchanged_any _ _).mono ?_; rintro e w1 ⟨rfl, b1⟩; obtain ⟨z1, b2⟩ := ev_ans b1; obtain ⟨y0, y1, y2, y3⟩ := z1.cells; have yf := z1.free; have HZ := veil z1; have HB := veil b2; clear b1 z1 b2)
    obtain ⟨r1, r2⟩ := unveil HBW _ ((ans_turned w1 (w.heap.size + 1) _ 0 0 0).under (unveil HB) (Nat.le_succ _))
    exact bodyPost_ret (ret_receive ((unveil HZ).store _ 0 0 0) rfl rfl) rfl ⟨rfl, r1, r2⟩
end Go.Proofs.YtcdopnkabbfooaaGreat
