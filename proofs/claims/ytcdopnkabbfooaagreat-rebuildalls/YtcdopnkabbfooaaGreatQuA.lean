/- Queues: their cells; walks of queue.within, count, mayCount, mayCome. -/
import Derived.Test.YtcdopnkabbfooaaGreatWdB
import Derived.Deep.MidRow
namespace Go.Proofs.YtcdopnkabbfooaaGreat
open Go.RowKit

/-- the windows' cells; a queue's cells: Epoch, Next, Given, Ready, Leases, and the windows' 36. -/
def wsList (ws : Nat → Value) : List Value := (List.range 36).map ws
def qList (ep nx gv : Int) (r l : Value) (ws : Nat → Value) : List Value := .int .i64 ep :: .int .i64 nx :: .int .i64 gv :: r :: l :: wsList ws
def qCells (ep nx gv : Int) (r l : Value) (ws : Nat → Value) : Array Value := (qList ep nx gv r l ws).toArray
abbrev qVal (ep nx gv : Int) (r l : Value) (ws : Nat → Value) : Value := .agg (qCells ep nx gv r l ws)
theorem qCells_size (ep nx gv : Int) (r l : Value) (ws : Nat → Value) : (qCells ep nx gv r l ws).size = 41 := by simp [qCells, qList, wsList]
theorem wsList_len (ws : Nat → Value) : (wsList ws).length = 36 := by simp [wsList]
theorem wsList_get (ws : Nat → Value) (j : Nat) (h : j < 36) : (wsList ws)[j]? = some (ws j) := by simp [wsList, h]
theorem qCells_heads (ep nx gv : Int) (r l : Value) (ws : Nat → Value) :
    (qCells ep nx gv r l ws)[0]? = some (.int .i64 ep) ∧ (qCells ep nx gv r l ws)[1]? = some (.int .i64 nx) ∧ (qCells ep nx gv r l ws)[2]? = some (.int .i64 gv) ∧ (qCells ep nx gv r l ws)[3]? = some r ∧ (qCells ep nx gv r l ws)[4]? = some l := by
  simp [qCells, qList]
theorem qCells_ws (ep nx gv : Int) (r l : Value) (ws : Nat → Value) (j : Nat) (h : j < 36) : (qCells ep nx gv r l ws)[5 + j]? = some (ws j) := by
  rw [qCells, List.getElem?_toArray, qList, Nat.add_comm 5 j]
  simp only [List.getElem?_cons_succ]
  exact wsList_get ws j h

/-- a queue in memory, at a block of its own. -/
def qBlock (w : World) (R : Nat) (ep nx gv : Int) (r l : Value) (ws : Nat → Value) : Prop := w.heap[R]? = some (.cells (qCells ep nx gv r l ws) 92 (0, 0))
section
variable {w w' : World} {R B : Nat} {ep nx gv : Int} {r l : Value} {ws : Nat → Value}
theorem qBlock.lt (h : qBlock w R ep nx gv r l ws) : R < w.heap.size := by
  unfold qBlock at h
  rcases Nat.lt_or_ge R w.heap.size with h' | h'
  · exact h'
  · simp [Array.getElem?_eq_none h'] at h
theorem qBlock.below (h : qBlock w R ep nx gv r l ws) (hb : Below B w w') (hR : R < B) : qBlock w' R ep nx gv r l ws := by
  unfold qBlock at h ⊢; rw [← h]; exact hb.block R hR
theorem qBlock.next (h : qBlock w R ep nx gv r l ws) (hb : Below w.heap.size w w') : qBlock w' R ep nx gv r l ws := h.below hb h.lt
theorem qBlock.new (w : World) (ep nx gv : Int) (r l : Value) (ws : Nat → Value) : qBlock (w.alloc (.cells (qCells ep nx gv r l ws) 92)) w.heap.size ep nx gv r l ws := heap_alloc_new w _
theorem qBlock.free (h : qBlock w R ep nx gv r l ws) (o : Nat) : w.frozen? ⟨R, o, none⟩ = false := by
  unfold qBlock at h; simp [World.frozen?, h]
theorem qBlock.at (h : qBlock w R ep nx gv r l ws) (i : Nat) : w.cell? ⟨R, i, none⟩ = (qCells ep nx gv r l ws)[i]? := by
  unfold qBlock at h; simp [World.cell?, h]
theorem qBlock.heads (h : qBlock w R ep nx gv r l ws) :
    w.cell? ⟨R, 0, none⟩ = some (.int .i64 ep) ∧ w.cell? ⟨R, 1, none⟩ = some (.int .i64 nx) ∧ w.cell? ⟨R, 2, none⟩ = some (.int .i64 gv) ∧ w.cell? ⟨R, 3, none⟩ = some r ∧ w.cell? ⟨R, 4, none⟩ = some l := by
  obtain ⟨h0, h1, h2, h3, h4⟩ := qCells_heads ep nx gv r l ws
  exact ⟨(h.at 0).trans h0, (h.at 1).trans h1, (h.at 2).trans h2, (h.at 3).trans h3, (h.at 4).trans h4⟩
theorem qBlock.wins (h : qBlock w R ep nx gv r l ws) : w.rangeAt R 5 (wsList ws) := fun j v hv => by
  have hj : j < 36 := by
    have := (List.getElem?_eq_some_iff.1 hv).1
    rwa [wsList_len] at this
  rw [h.at, qCells_ws _ _ _ _ _ _ j hj, ← hv, wsList_get ws j hj]
/-- the whole queue, read. -/
theorem q_load {o : Oper} {a : Act} {K : Act → World → Prop} {Q : Exit → Act → World → Prop} (x : Operand) (ho : o.op = .load 92 x) (hx : a.eval x = .pointer (some ⟨R, 0, none⟩)) (qb : qBlock w R ep nx gv r l ws)
    (h : K (a.put o.dst (qVal ep nx gv r l ws)) w) : o.wp Tryz.prog a w K Q :=
  wp_load_row 92 x ho R hx 92 _ (0, 0) _ qb Tryz.underlying92 rfl (by rw [qCells_size]; kernel_rfl) h
theorem q_loads {ops : Array Oper} {rest : List Oper} {o : Oper} {a : Act} {Q : Exit → Act → World → Prop} (x : Operand) (ho : o.op = .load 92 x) (hw : Region.wanted o (yielded ops a.tmps) = true) (hx : a.eval x = .pointer (some ⟨R, 0, none⟩)) (qb : qBlock w R ep nx gv r l ws)
    (h : wpList Tryz.prog ops Q rest (a.put o.dst (qVal ep nx gv r l ws)) w) : wpList Tryz.prog ops Q (o :: rest) a w :=
  wpList_step fun K hK => by
    rw [if_pos hw]
    exact q_load x ho hx qb (hK _ _ h)
/-- in a region that draws its order. -/
theorem yields_q {ops : Array Oper} {S : World → Prop} {o : Oper} {a : Act} (x : Operand) (ho : o.op = .load 92 x) (hw : Region.wanted o (yielded ops a.tmps) = true) (hx : a.eval x = .pointer (some ⟨R, 0, none⟩)) (hS : ∀ w, S w → qBlock w R ep nx gv r l ws) :
    YieldsIf Tryz.prog ops S o (qVal ep nx gv r l ws) a :=
  .inl ⟨hw, fun w hs => by
    unfold execOp
    simp only [ho, hx, Instr.loadAt, Instr.sureAddr, Sem.run_bind, Sem.run_pure, Result.andThen_ok, run_loadVar_row w R 92 92 _ (0, 0) _ (hS w hs) Tryz.underlying92 rfl (by rw [qCells_size]; kernel_rfl)]⟩
/-- its windows. -/
theorem q_wins {ops : Array Oper} {rest : List Oper} {o : Oper} {a : Act} {Q : Exit → Act → World → Prop} (x : Operand) (ho : o.op = .load 90 x) (hw : Region.wanted o (yielded ops a.tmps) = true) (hx : a.eval x = .pointer (some ⟨R, 5, none⟩)) (qb : qBlock w R ep nx gv r l ws)
    (h : wpList Tryz.prog ops Q rest (a.put o.dst (.agg (wsList ws).toArray)) w) : wpList Tryz.prog ops Q (o :: rest) a w :=
  wpList_step fun K hK => by
    rw [if_pos hw]
    exact wp_load_mid 90 x ho R 5 hx (wsList ws) _ qb.wins Tryz.underlying90 rfl (by rw [wsList_len]; kernel_rfl) (hK _ _ h)
end

/-- a number from 0 to m. -/
def inR (n m : Int) : Bool := decide (0 ≤ n) && decide (n ≤ m)
theorem inR_iff {n m : Int} : inR n m = true ↔ 0 ≤ n ∧ n ≤ m := by simp [inR]
theorem inR_not {n m : Int} : inR n m = false ↔ ¬ (0 ≤ n ∧ n ≤ m) := by
  rw [← inR_iff]; cases inR n m <;> simp

theorem qwithin_any (n m : Int) (w : World) :
    Calls Tryz.prog 104 #[.int .i64 n, .int .i64 m] w fun e w' => e = .returned (.bool (inR n m)) ∧ w' = w := by
  unfold inR
  by_cases h0 : 0 ≤ n
  · by_cases h1 : n ≤ m
    · go_enter Tryz.func104, Tryz.ntmps104
      go_wp2
      go_ret
      simp [h0, h1]
    · go_enter Tryz.func104, Tryz.ntmps104
      go_wp2
      go_ret
      exact ⟨by simp [h1], rfl⟩
  · go_enter Tryz.func104, Tryz.ntmps104
    go_wp2
    go_ret
    exact ⟨by rw [show decide (0 ≤ n) = false from decide_eq_false (by omega)]; rfl, rfl⟩

set_option maxHeartbeats 1000000 in
theorem qcount_any (ep nx gv : Int) (ra la : Option Addr) (rn rc ln lc : Nat) (ws : Nat → Value) (w : World) (hs : rn + ln ≤ 9223372036854775807) :
    Calls Tryz.prog 105 #[qVal ep nx gv (.slice ra rn rc) (.slice la ln lc) ws] w fun e w' => e = .returned (.int .i64 (rn + ln : Nat)) ∧ Below w.heap.size w w' := by
  obtain ⟨g0, g1, g2, g3, g4⟩ := qCells_heads ep nx gv (.slice ra rn rc) (.slice la ln lc) ws
  go_enter Tryz.func105, Tryz.ntmps105
  go_wp2
  go_ret
  exact ⟨by first | rfl | go_num, below1 _ _⟩

set_option maxRecDepth 20000 in
set_option maxHeartbeats 2000000 in
theorem mayCount_any (ep nx gv : Int) (ra la : Option Addr) (rn rc ln lc : Nat) (ws : Nat → Value) (w : World) (hs : rn + ln ≤ 9223372036854775807) :
    Calls Tryz.prog 92 #[qVal ep nx gv (.slice ra rn rc) (.slice la ln lc) ws] w fun e w' =>
      e = .returned (.bool (inR ep 1048576 && inR nx 1073741824 && inR gv 1073741824 && decide (rn + ln ≤ 500))) ∧ Below w.heap.size w w' := by
  obtain ⟨g0, g1, g2, g3, g4⟩ := qCells_heads ep nx gv (.slice ra rn rc) (.slice la ln lc) ws
  have q0 := qBlock.new w ep nx gv (.slice ra rn rc) (.slice la ln lc) ws
  cases h0 : inR ep 1048576 with
  | false =>
    go_enter Tryz.func92, Tryz.ntmps92
    go_wp2_with (go_at_call 104; refine (qwithin_any _ _ _).mono ?_; rintro e w1 ⟨rfl, rfl⟩)
    go_ret
    exact ⟨rfl, below1 _ _⟩
  | true => cases h1 : inR nx 1073741824 with
    | false =>
      go_enter Tryz.func92, Tryz.ntmps92
      go_wp2_with (go_at_call 104; refine (qwithin_any _ _ _).mono ?_; rintro e w1 ⟨rfl, rfl⟩)
      go_ret
      exact ⟨rfl, below1 _ _⟩
    | true => cases h2 : inR gv 1073741824 with
      | false =>
        go_enter Tryz.func92, Tryz.ntmps92
        go_wp2_with (go_at_call 104; refine (qwithin_any _ _ _).mono ?_; rintro e w1 ⟨rfl, rfl⟩)
        go_ret
        exact ⟨rfl, below1 _ _⟩
      | true =>
        go_enter Tryz.func92, Tryz.ntmps92
        go_wp2_with (first
          | (refine q_loads _ rfl rfl rfl (by assumption) ?_)
          | (go_at_call 104; refine (qwithin_any _ _ _).mono ?_; rintro e w1 ⟨rfl, rfl⟩)
          | (go_at_call 105; refine (qcount_any _ _ _ _ _ _ _ _ _ _ _ hs).mono ?_; rintro e w1 ⟨rfl, b1⟩))
        go_ret
        refine ⟨?_, below1t b1⟩
        rw [show decide ((rn : Int) + (ln : Int) ≤ 500) = decide (rn + ln ≤ 500) from by simp only [decide_eq_decide]; omega]
        rfl

set_option maxHeartbeats 2000000 in
theorem mayCome_any (ep nx gv : Int) (r l : Value) (ws : Nat → Value) (no bd : Int) (w : World) (h0 : 0 ≤ nx) (h1 : nx ≤ 1073741824) :
    Calls Tryz.prog 107 #[qVal ep nx gv r l ws, .agg #[.int .i64 no, .int .i64 bd]] w fun e w' =>
      e = .returned (.bool (inR no (nx - 1) && inR bd 1000000)) ∧ Below w.heap.size w w' := by
  obtain ⟨g0, g1, g2, g3, g4⟩ := qCells_heads ep nx gv r l ws
  cases h0 : inR no (nx - 1) with
  | false =>
    go_enter Tryz.func107, Tryz.ntmps107
    go_wp2_with (go_at_call 104; refine (qwithin_any _ _ _).mono ?_; rintro e w1 ⟨rfl, rfl⟩)
    go_ret
    exact ⟨rfl, below2 _ _ _⟩
  | true =>
    go_enter Tryz.func107, Tryz.ntmps107
    go_wp2_with (go_at_call 104; refine (qwithin_any _ _ _).mono ?_; rintro e w1 ⟨rfl, rfl⟩)
    go_ret
    exact ⟨by simp, below2 _ _ _⟩
end Go.Proofs.YtcdopnkabbfooaaGreat
