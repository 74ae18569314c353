/- A telling in memory: a queue, the last answer, and perhaps more behind it. -/
import Derived.Test.YtlfecmkpafgcmaaQkF
namespace Go.Proofs.Ytlfecmkpafgcmaa
open Go.RowKit

def tlList (ep nx gv : Int) (r l : Value) (ws : Nat → Value) (c he no bd : Int) (tail : List Value) : List Value := qList ep nx gv r l ws ++ ([.int .i64 c, .int .i64 he, .int .i64 no, .int .i64 bd] ++ tail)
theorem qList_len (ep nx gv : Int) (r l : Value) (ws : Nat → Value) : (qList ep nx gv r l ws).length = 41 := by simp [qList, wsList]
/-- a telling in memory, at a block of its own. -/
def tlBlock (w : World) (R : Nat) (T : TypeId) (ep nx gv : Int) (r l : Value) (ws : Nat → Value) (c he no bd : Int) (tail : List Value) : Prop := w.heap[R]? = some (.cells (tlList ep nx gv r l ws c he no bd tail).toArray T (0, 0))
section
variable {w w' : World} {R : Nat} {T : TypeId} {ep nx gv : Int} {r l : Value} {ws : Nat → Value} {c he no bd : Int} {tail : List Value}
theorem tlBlock.at (h : tlBlock w R T ep nx gv r l ws c he no bd tail) (i : Nat) : w.cell? ⟨R, i, none⟩ = (tlList ep nx gv r l ws c he no bd tail)[i]? := by
  unfold tlBlock at h; simp [World.cell?, h]
theorem tlBlock.free (h : tlBlock w R T ep nx gv r l ws c he no bd tail) (o : Nat) : w.frozen? ⟨R, o, none⟩ = false := by
  unfold tlBlock at h; simp [World.frozen?, h]
theorem tlBlock.lt (h : tlBlock w R T ep nx gv r l ws c he no bd tail) : R < w.heap.size := by
  unfold tlBlock at h
  rcases Nat.lt_or_ge R w.heap.size with h' | h'
  · exact h'
  · simp [Array.getElem?_eq_none h'] at h
theorem tlBlock.next (h : tlBlock w R T ep nx gv r l ws c he no bd tail) (hb : Below w.heap.size w w') : tlBlock w' R T ep nx gv r l ws c he no bd tail := by
  have := h.lt
  unfold tlBlock at h ⊢; rw [← h]; exact hb.block R this
theorem tlBlock.turned {R' : Nat} (h : tlBlock w R T ep nx gv r l ws c he no bd tail) (t : Turned R' w w') (hR : R ≠ R') : tlBlock w' R T ep nx gv r l ws c he no bd tail := by
  unfold tlBlock at h ⊢; rw [t.block R hR]; exact h
theorem tlList_q (j : Nat) (hj : j < 41) : (tlList ep nx gv r l ws c he no bd tail)[j]? = (qList ep nx gv r l ws)[j]? := by
  unfold tlList
  rw [List.getElem?_append_left (by rw [qList_len]; exact hj)]
theorem tlList_a (j : Nat) : (tlList ep nx gv r l ws c he no bd tail)[41 + j]? = ([.int .i64 c, .int .i64 he, .int .i64 no, .int .i64 bd] ++ tail)[j]? := by
  unfold tlList
  rw [List.getElem?_append_right (by rw [qList_len]; omega), qList_len, Nat.add_sub_cancel_left]
theorem tlBlock.range (h : tlBlock w R T ep nx gv r l ws c he no bd tail) : w.rangeAt R 0 (qList ep nx gv r l ws) := fun j v hv => by
  have hj : j < 41 := by
    have := (List.getElem?_eq_some_iff.1 hv).1
    rwa [qList_len] at this
  rw [Nat.zero_add, h.at, tlList_q j hj]; exact hv
theorem tlBlock.there (h : tlBlock w R T ep nx gv r l ws c he no bd tail) : w.there R 0 41 := fun j hj => by
  refine ⟨?_, h.free _⟩
  rw [Nat.zero_add, h.at, tlList_q j hj, List.getElem?_eq_getElem (by rw [qList_len]; exact hj)]
  rfl
theorem tlBlock.answer (h : tlBlock w R T ep nx gv r l ws c he no bd tail) : w.cell? ⟨R, 41, none⟩ = some (.int .i64 c) ∧ w.cell? ⟨R, 42, none⟩ = some (.int .i64 he) ∧ w.cell? ⟨R, 43, none⟩ = some (.int .i64 no) ∧ w.cell? ⟨R, 44, none⟩ = some (.int .i64 bd) :=
  ⟨(h.at (41 + 0)).trans (tlList_a 0), (h.at (41 + 1)).trans (tlList_a 1), (h.at (41 + 2)).trans (tlList_a 2), (h.at (41 + 3)).trans (tlList_a 3)⟩
theorem tlBlock.more {x : Value} {tl : List Value} (h : tlBlock w R T ep nx gv r l ws c he no bd (x :: tl)) : w.cell? ⟨R, 45, none⟩ = some x := (h.at (41 + 4)).trans (tlList_a 4)
/-- the queue stored anew. -/
theorem tlBlock.stored (h : tlBlock w R T ep nx gv r l ws c he no bd tail) (ep' nx' gv' : Int) (r' l' : Value) (ws' : Nat → Value) : tlBlock (w.setCells R 0 (qCells ep' nx' gv' r' l' ws').toList) R T ep' nx' gv' r' l' ws' c he no bd tail := by
  have hl : (tlList ep nx gv r l ws c he no bd tail).length = 45 + tail.length := by unfold tlList; rw [List.length_append, qList_len]; simp; omega
  have hq : (qCells ep' nx' gv' r' l' ws').toList.length = 41 := by rw [Array.length_toList]; exact qCells_size _ _ _ _ _ _
  obtain ⟨cs', h1, h2, h3⟩ := heap_setCells_all (R := R) (qCells ep' nx' gv' r' l' ws').toList 0 w _ _ h (by rw [hq]; simp; omega)
  unfold tlBlock
  rw [h1]
  have : cs' = (tlList ep' nx' gv' r' l' ws' c he no bd tail).toArray := by
    apply Array.ext_getElem?
    intro i
    rw [h3, hq]
    by_cases hi : i < 41
    · rw [if_pos ⟨by omega, by omega⟩, List.getElem?_toArray, tlList_q i hi, Nat.sub_zero]
      rfl
    · rw [if_neg (by omega), List.getElem?_toArray, List.getElem?_toArray, show i = 41 + (i - 41) by omega, tlList_a, tlList_a]
  rw [this]
theorem tl_set {x : Value} (j : Nat) : (tlList ep nx gv r l ws c he no bd tail).set (41 + j) x = qList ep nx gv r l ws ++ ([Value.int .i64 c, .int .i64 he, .int .i64 no, .int .i64 bd] ++ tail).set j x := by
  unfold tlList
  rw [List.set_append_right _ _ (by rw [qList_len]; omega), qList_len, Nat.add_sub_cancel_left]
theorem tlBlock.heapSet {cs : List Value} {x : Value} {o : Nat} (h : w.heap[R]? = some (.cells cs.toArray T (0, 0))) : (w.setCell ⟨R, o, none⟩ x).heap[R]? = some (.cells (cs.set o x).toArray T (0, 0)) := by
  have := heap_set (o := o) (v := x) h
  rw [this]
  simp
/-- the answer stored anew. -/
theorem tlBlock.answered (h : tlBlock w R T ep nx gv r l ws c he no bd tail) (c' he' no' bd' : Int) : tlBlock ((((w.setCell ⟨R, 41, none⟩ (.int .i64 c')).setCell ⟨R, 42, none⟩ (.int .i64 he')).setCell ⟨R, 43, none⟩ (.int .i64 no')).setCell ⟨R, 44, none⟩ (.int .i64 bd')) R T ep nx gv r l ws c' he' no' bd' tail := by
  unfold tlBlock at h ⊢
  rw [tlBlock.heapSet (tlBlock.heapSet (tlBlock.heapSet (tlBlock.heapSet h)))]
  have e : ((((tlList ep nx gv r l ws c he no bd tail).set 41 (.int .i64 c')).set 42 (.int .i64 he')).set 43 (.int .i64 no')).set 44 (.int .i64 bd') = tlList ep nx gv r l ws c' he' no' bd' tail := by
    have e1 := tl_set (ep := ep) (nx := nx) (gv := gv) (r := r) (l := l) (ws := ws) (c := c) (he := he) (no := no) (bd := bd) (tail := tail) (x := .int .i64 c') 0
    have e2 := tl_set (ep := ep) (nx := nx) (gv := gv) (r := r) (l := l) (ws := ws) (c := c') (he := he) (no := no) (bd := bd) (tail := tail) (x := .int .i64 he') 1
    have e3 := tl_set (ep := ep) (nx := nx) (gv := gv) (r := r) (l := l) (ws := ws) (c := c') (he := he') (no := no) (bd := bd) (tail := tail) (x := .int .i64 no') 2
    have e4 := tl_set (ep := ep) (nx := nx) (gv := gv) (r := r) (l := l) (ws := ws) (c := c') (he := he') (no := no') (bd := bd) (tail := tail) (x := .int .i64 bd') 3
    rw [show (41 : Nat) = 41 + 0 from rfl, e1]
    show (((tlList ep nx gv r l ws c' he no bd tail).set (41 + 1) _).set (41 + 2) _).set (41 + 3) _ = _
    rw [e2]
    show ((tlList ep nx gv r l ws c' he' no bd tail).set (41 + 2) _).set (41 + 3) _ = _
    rw [e3]
    show (tlList ep nx gv r l ws c' he' no' bd tail).set (41 + 3) _ = _
    rw [e4]
    rfl
  rw [e]
theorem tlBlock.tailed {x : Value} {tl : List Value} (h : tlBlock w R T ep nx gv r l ws c he no bd (x :: tl)) (y : Value) : tlBlock (w.setCell ⟨R, 45, none⟩ y) R T ep nx gv r l ws c he no bd (y :: tl) := by
  unfold tlBlock at h ⊢
  rw [tlBlock.heapSet h, show (45 : Nat) = 41 + 4 from rfl, tl_set 4]
  rfl
theorem yields_t {ops : Array Oper} {S : World → Prop} {o : Oper} {a : Act} (x : Operand) (ho : o.op = .load 38 x) (hw : Region.wanted o (yielded ops a.tmps) = true) (hx : a.eval x = .pointer (some ⟨R, 0, none⟩)) (hS : ∀ w, S w → tlBlock w R T ep nx gv r l ws c he no bd tail) :
    YieldsIf Try.prog ops S o (qVal ep nx gv r l ws) a :=
  .inl ⟨hw, fun w hs => by
    unfold execOp
    simp only [ho, hx, Instr.loadAt, Instr.sureAddr, Sem.run_bind, Sem.run_pure, Result.andThen_ok, run_loadVar_mid w R 0 38 (qList ep nx gv r l ws) _ (hS w hs).range Try.underlying38 rfl (by rw [qList_len]; kernel_rfl)]
    rfl⟩
theorem t_store_wp {o : Oper} {a : Act} {K : Act → World → Prop} {Q : Exit → Act → World → Prop} {ra la : Option Addr} {rn rc ln lc : Nat} {ws' : Nat → Value} {ep' nx' gv' : Int} {wt : Nat → Int} {wz : Nat → Nat → Bool} (x y : Operand) (ho : o.op = .store 38 x y) (hx : a.eval x = .pointer (some ⟨R, 0, none⟩)) (hy : a.eval y = qVal ep' nx' gv' (.slice ra rn rc) (.slice la ln lc) ws')
    (qb : tlBlock w R T ep nx gv r l ws c he no bd tail) (hW : Wins ws' wt wz)
    (h : ∀ w', tlBlock w' R T ep' nx' gv' (.slice ra rn rc) (.slice la ln lc) ws' c he no bd tail → Turned R w w' → K (a.put o.dst undef) w') : o.wp Try.prog a w K Q :=
  wp_store_mid 38 x y ho R 0 _ hx hy (by rw [qCells_size]; exact qb.there) (by rw [qCells_size]; exact Try.infoQ) (qCells_one hW) (h _ (qb.stored _ _ _ _ _ _) (Turned.sets R _ 0 w))
end
end Go.Proofs.Ytlfecmkpafgcmaa
