/- Texts put together: HsB, HsC, QaD, HsD, HsE, QkH. -/
import Derived.Test.YtegbndllfnimdaaGreatQkF
import Derived.Deep.CutRange
import Derived.Test.YtegbndllfnimdaaGreatQvE
import Derived.Test.YtegbndllfnimdaaGreatQkE
import Derived.Test.YtegbndllfnimdaaGreatQkG
namespace Go.Proofs.YtegbndllfnimdaaGreat
open Go.RowKit

def tlList (ep nx gv : Int) (r l : Value) (ws : Nat → Value) (c he no bd : Int) (tail : List Value) : List Value := qList ep nx gv r l ws ++ ([.int .i64 c, .int .i64 he, .int .i64 no, .int .i64 bd] ++ tail)
theorem qList_len (ep nx gv : Int) (r l : Value) (ws : Nat → Value) : (qList ep nx gv r l ws).length = 41 := by simp [qList, wsList]
/-- a telling in memory, at a block of its own. -/
def tlBlock (w : World) (R : Nat) (T : TypeId) (ep nx gv : Int) (r l : Value) (ws : Nat → Value) (c he no bd : Int) (tail : List Value) : Prop := w.heap[R]? = some (.cells (tlList ep nx gv r l ws c he no bd tail).toArray T (0, 0))
section
variable {w w' : World} {R : Nat} {T : TypeId} {ep nx gv : Int} {r l : Value} {ws : Nat → Value} {c he no bd : Int} {tail : List Value}
theorem tlBlock.at (h : tlBlock w R T ep nx gv r l ws c he no bd tail) (i : Nat) : w.cell? ⟨R, i, none⟩ = (tlList ep nx gv r l ws c he no bd tail)[i]? := by
  unfold tlBlock at h; simp [World.cell?, h]
theorem tlBlock.free (h : tlBlock w R T ep nx gv r l ws c he no bd tail) (o : Nat) : w.frozen? ⟨R, o, none⟩ = false := by
  unfold tlBlock at h; simp [World.frozen?, h]
theorem tlBlock.lt (h : tlBlock w R T ep nx gv r l ws c he no bd tail) : R < w.heap.size := by
  unfold tlBlock at h
  rcases Nat.lt_or_ge R w.heap.size with h' | h'
  · exact h'
  · simp [Array.getElem?_eq_none h'] at h
theorem tlBlock.next (h : tlBlock w R T ep nx gv r l ws c he no bd tail) (hb : Below w.heap.size w w') : tlBlock w' R T ep nx gv r l ws c he no bd tail := by
  have := h.lt
  unfold tlBlock at h ⊢; rw [← h]; exact hb.block R this
theorem tlBlock.turned {R' : Nat} (h : tlBlock w R T ep nx gv r l ws c he no bd tail) (t : Turned R' w w') (hR : R ≠ R') : tlBlock w' R T ep nx gv r l ws c he no bd tail := by
  unfold tlBlock at h ⊢; rw [t.block R hR]; exact h
theorem tlList_q (j : Nat) (hj : j < 41) : (tlList ep nx gv r l ws c he no bd tail)[j]? = (qList ep nx gv r l ws)[j]? := by
  unfold tlList
  rw [List.getElem?_append_left (by rw [qList_len]; exact hj)]
theorem tlList_a (j : Nat) : (tlList ep nx gv r l ws c he no bd tail)[41 + j]? = ([.int .i64 c, .int .i64 he, .int .i64 no, .int .i64 bd] ++ tail)[j]? := by
  unfold tlList
  rw [List.getElem?_append_right (by rw [qList_len]; omega), qList_len, Nat.add_sub_cancel_left]
theorem tlBlock.range (h : tlBlock w R T ep nx gv r l ws c he no bd tail) : w.rangeAt R 0 (qList ep nx gv r l ws) := fun j v hv => by
  have hj : j < 41 := by
    have := (List.getElem?_eq_some_iff.1 hv).1
    rwa [qList_len] at this
  rw [Nat.zero_add, h.at, tlList_q j hj]; exact hv
theorem tlBlock.there (h : tlBlock w R T ep nx gv r l ws c he no bd tail) : w.there R 0 41 := fun j hj => by
  refine ⟨?_, h.free _⟩
  rw [Nat.zero_add, h.at, tlList_q j hj, List.getElem?_eq_getElem (by rw [qList_len]; exact hj)]
  rfl
theorem tlBlock.answer (h : tlBlock w R T ep nx gv r l ws c he no bd tail) : w.cell? ⟨R, 41, none⟩ = some (.int .i64 c) ∧ w.cell? ⟨R, 42, none⟩ = some (.int .i64 he) ∧ w.cell? ⟨R, 43, none⟩ = some (.int .i64 no) ∧ w.cell? ⟨R, 44, none⟩ = some (.int .i64 bd) :=
  ⟨(h.at (41 + 0)).trans (tlList_a 0), (h.at (41 + 1)).trans (tlList_a 1), (h.at (41 + 2)).trans (tlList_a 2), (h.at (41 + 3)).trans (tlList_a 3)⟩
theorem tlBlock.more {x : Value} {tl : List Value} (h : tlBlock w R T ep nx gv r l ws c he no bd (x :: tl)) : w.cell? ⟨R, 45, none⟩ = some x := (h.at (41 + 4)).trans (tlList_a 4)
/-- the queue stored anew. -/
theorem tlBlock.stored (h : tlBlock w R T ep nx gv r l ws c he no bd tail) (ep' nx' gv' : Int) (r' l' : Value) (ws' : Nat → Value) : tlBlock (w.setCells R 0 (qCells ep' nx' gv' r' l' ws').toList) R T ep' nx' gv' r' l' ws' c he no bd tail := by
  have hl : (tlList ep nx gv r l ws c he no bd tail).length = 45 + tail.length := by unfold tlList; rw [List.length_append, qList_len]; simp; omega
  have hq : (qCells ep' nx' gv' r' l' ws').toList.length = 41 := by rw [Array.length_toList]; exact qCells_size _ _ _ _ _ _
  obtain ⟨cs', h1, h2, h3⟩ := heap_setCells_all (R := R) (qCells ep' nx' gv' r' l' ws').toList 0 w _ _ h (by rw [hq]; simp; omega)
  unfold tlBlock
  rw [h1]
  have : cs' = (tlList ep' nx' gv' r' l' ws' c he no bd tail).toArray := by
    apply Array.ext_getElem?
    intro i
    rw [h3, hq]
    by_cases hi : i < 41
    · rw [if_pos ⟨by omega, by omega⟩, List.getElem?_toArray, tlList_q i hi, Nat.sub_zero]
      rfl
    · rw [if_neg (by omega), List.getElem?_toArray, List.getElem?_toArray, show i = 41 + (i - 41) by omega, tlList_a, tlList_a]
  rw [this]
theorem tl_set {x : Value} (j : Nat) : (tlList ep nx gv r l ws c he no bd tail).set (41 + j) x = qList ep nx gv r l ws ++ ([Value.int .i64 c, .int .i64 he, .int .i64 no, .int .i64 bd] ++ tail).set j x := by
  unfold tlList
  rw [List.set_append_right _ _ (by rw [qList_len]; omega), qList_len, Nat.add_sub_cancel_left]
theorem tlBlock.heapSet {cs : List Value} {x : Value} {o : Nat} (h : w.heap[R]? = some (.cells cs.toArray T (0, 0))) : (w.setCell ⟨R, o, none⟩ x).heap[R]? = some (.cells (cs.set o x).toArray T (0, 0)) := by
  have := heap_set (o := o) (v := x) h
  rw [this]
  simp
/-- the answer stored anew. -/
theorem tlBlock.answered (h : tlBlock w R T ep nx gv r l ws c he no bd tail) (c' he' no' bd' : Int) : tlBlock ((((w.setCell ⟨R, 41, none⟩ (.int .i64 c')).setCell ⟨R, 42, none⟩ (.int .i64 he')).setCell ⟨R, 43, none⟩ (.int .i64 no')).setCell ⟨R, 44, none⟩ (.int .i64 bd')) R T ep nx gv r l ws c' he' no' bd' tail := by
  unfold tlBlock at h ⊢
  rw [tlBlock.heapSet (tlBlock.heapSet (tlBlock.heapSet (tlBlock.heapSet h)))]
  have e : ((((tlList ep nx gv r l ws c he no bd tail).set 41 (.int .i64 c')).set 42 (.int .i64 he')).set 43 (.int .i64 no')).set 44 (.int .i64 bd') = tlList ep nx gv r l ws c' he' no' bd' tail := by
    have e1 := tl_set (ep := ep) (nx := nx) (gv := gv) (r := r) (l := l) (ws := ws) (c := c) (he := he) (no := no) (bd := bd) (tail := tail) (x := .int .i64 c') 0
    have e2 := tl_set (ep := ep) (nx := nx) (gv := gv) (r := r) (l := l) (ws := ws) (c := c') (he := he) (no := no) (bd := bd) (tail := tail) (x := .int .i64 he') 1
    have e3 := tl_set (ep := ep) (nx := nx) (gv := gv) (r := r) (l := l) (ws := ws) (c := c') (he := he') (no := no) (bd := bd) (tail := tail) (x := .int .i64 no') 2
    have e4 := tl_set (ep := ep) (nx := nx) (gv := gv) (r := r) (l := l) (ws := ws) (c := c') (he := he') (no := no') (bd := bd) (tail := tail) (x := .int .i64 bd') 3
    rw [show (41 : Nat) = 41 + 0 from rfl, e1]
    show (((tlList ep nx gv r l ws c' he no bd tail).set (41 + 1) _).set (41 + 2) _).set (41 + 3) _ = _
    rw [e2]
    show ((tlList ep nx gv r l ws c' he' no bd tail).set (41 + 2) _).set (41 + 3) _ = _
    rw [e3]
    show (tlList ep nx gv r l ws c' he' no' bd tail).set (41 + 3) _ = _
    rw [e4]
    rfl
  rw [e]
theorem tlBlock.tailed {x : Value} {tl : List Value} (h : tlBlock w R T ep nx gv r l ws c he no bd (x :: tl)) (y : Value) : tlBlock (w.setCell ⟨R, 45, none⟩ y) R T ep nx gv r l ws c he no bd (y :: tl) := by
  unfold tlBlock at h ⊢
  rw [tlBlock.heapSet h, show (45 : Nat) = 41 + 4 from rfl, tl_set 4]
  rfl
theorem yields_t {ops : Array Oper} {S : World → Prop} {o : Oper} {a : Act} (x : Operand) (ho : o.op = .load 37 x) (hw : Region.wanted o (yielded ops a.tmps) = true) (hx : a.eval x = .pointer (some ⟨R, 0, none⟩)) (hS : ∀ w, S w → tlBlock w R T ep nx gv r l ws c he no bd tail) :
    YieldsIf Tryz.prog ops S o (qVal ep nx gv r l ws) a :=
  .inl ⟨hw, fun w hs => by
    unfold execOp
    simp only [ho, hx, Instr.loadAt, Instr.sureAddr, Sem.run_bind, Sem.run_pure, Result.andThen_ok, run_loadVar_mid w R 0 37 (qList ep nx gv r l ws) _ (hS w hs).range Tryz.underlying37 rfl (by rw [qList_len]; kernel_rfl)]
    rfl⟩
theorem t_store_wp {o : Oper} {a : Act} {K : Act → World → Prop} {Q : Exit → Act → World → Prop} {ra la : Option Addr} {rn rc ln lc : Nat} {ws' : Nat → Value} {ep' nx' gv' : Int} {wt : Nat → Int} {wz : Nat → Nat → Bool} (x y : Operand) (ho : o.op = .store 37 x y) (hx : a.eval x = .pointer (some ⟨R, 0, none⟩)) (hy : a.eval y = qVal ep' nx' gv' (.slice ra rn rc) (.slice la ln lc) ws')
    (qb : tlBlock w R T ep nx gv r l ws c he no bd tail) (hW : Wins ws' wt wz)
    (h : ∀ w', tlBlock w' R T ep' nx' gv' (.slice ra rn rc) (.slice la ln lc) ws' c he no bd tail → Turned R w w' → K (a.put o.dst undef) w') : o.wp Tryz.prog a w K Q :=
  wp_store_mid 37 x y ho R 0 _ hx hy (by rw [qCells_size]; exact qb.there) (by rw [qCells_size]; exact Tryz.infoQ) (qCells_one hW) (h _ (qb.stored _ _ _ _ _ _) (Turned.sets R _ 0 w))
end
end Go.Proofs.YtegbndllfnimdaaGreat

namespace Go.Proofs.YtegbndllfnimdaaGreat
open Go.RowKit

/-- a telling, with its rows. -/
structure Tg (w : World) (R : Nat) (T : TypeId) (tail : List Value) (s : St) (an : An) : Prop where
  ex : ∃ a1 c1 a2 c2 ws, tlBlock w R T s.ep s.nx s.gv (.slice a1 s.rn c1) (.slice a2 s.ln c2) ws an.c an.he an.no an.bd tail ∧ RowK .i64 w a1 (2 * s.rn) s.R ∧ RowK .i64 w a2 (4 * s.ln) s.L ∧ (a1 = none → c1 = 0) ∧ (a2 = none → c2 = 0) ∧ Wins ws s.wt s.wz ∧ (∀ x, a1 = some x → R < x.block) ∧ (∀ x, a2 = some x → R < x.block) ∧ s.rn ≤ c1 ∧ s.ln ≤ c2
theorem Tg.next {w w' : World} {R : Nat} {T : TypeId} {tail : List Value} {s : St} {an : An} (h : Tg w R T tail s an) (b : Below w.heap.size w w') : Tg w' R T tail s an := by
  obtain ⟨a1, c1, a2, c2, ws, tb, r1, r2, rest⟩ := h.ex
  exact ⟨a1, c1, a2, c2, ws, tb.next b, r1.below b, r2.below b, rest⟩
theorem ev_box {w0 W : World} {v : Ev} (h : W.heap[w0.heap.size]? = some (.cells #[.int .i64 v.k, .int .i64 v.p, .int .i64 v.i, .int .i64 v.b, .int .i64 v.he, .int .i64 v.hn] 48 (0, 0))) :
    W.cell? ⟨w0.heap.size, 0, none⟩ = some (.int .i64 v.k) ∧ W.cell? ⟨w0.heap.size, 1, none⟩ = some (.int .i64 v.p) ∧ W.cell? ⟨w0.heap.size, 2, none⟩ = some (.int .i64 v.i) ∧ W.cell? ⟨w0.heap.size, 3, none⟩ = some (.int .i64 v.b) ∧ W.cell? ⟨w0.heap.size, 4, none⟩ = some (.int .i64 v.he) ∧ W.cell? ⟨w0.heap.size, 5, none⟩ = some (.int .i64 v.hn) := by
  simp [World.cell?, h]
set_option maxRecDepth 20000 in
set_option maxHeartbeats 4000000 in
theorem tell_any (s : St) (an : An) (v : Ev) (w0 : World) (R : Nat) (T : TypeId) (tail : List Value) (ok : s.Ok) (h : Tg w0 R T tail s an) :
    Calls Tryz.prog 38 #[.pointer (some ⟨R, 0, none⟩), evIn v] w0 fun e w' => ∃ (s' : St) (an' : An) (ch : Bool) (er : Int), e = .returned (.bool ch) ∧ DoR s v s' an' ch er ∧ (ch = true → Tg w' R T tail s' an') ∧ (ch = false → Tg w' R T tail s an) ∧ Off R w0.heap.size w0 w' := by
  go_enter Tryz.func38, Tryz.ntmps38
  go_upto_region 1 with fail
  obtain ⟨W1, hW1, b1, e1⟩ : ∃ W1, W1 = w0.alloc (.cells #[.int .i64 v.k, .int .i64 v.p, .int .i64 v.i, .int .i64 v.b, .int .i64 v.he, .int .i64 v.hn] 48) ∧ Below w0.heap.size w0 W1 ∧ W1.heap[w0.heap.size]? = some (.cells #[.int .i64 v.k, .int .i64 v.p, .int .i64 v.i, .int .i64 v.b, .int .i64 v.he, .int .i64 v.hn] 48 (0, 0)) := ⟨_, rfl, below1 _ _, heap_alloc_new _ _⟩
  rw [← hW1]
  obtain ⟨v0, v1, v2, v3, v4, v5⟩ := ev_box e1
  have hEl : w0.heap.size < W1.heap.size := block_lt e1
  have h1 := h.next b1
  have HT1 := veil h1
  obtain ⟨a1, c1, a2, c2, ws, tb, t1, t2, m1, m2, hW, x1, x2, _, _⟩ := h1.ex
  have hRl : R < w0.heap.size := by obtain ⟨_, _, _, _, _, tb0, _⟩ := h.ex; exact tb0.lt
  have HDo : Hid (∀ W, Below W1.heap.size W1 W → Calls Tryz.prog 14 #[qVal s.ep s.nx s.gv (.slice a1 s.rn c1) (.slice a2 s.ln c2) ws, evIn v] W fun e w' => ∃ (s' : St) (an : An) (ch : Bool) (er : Int) (x : Value), e = .returned (.tuple #[x, anOf an, .bool ch, .int .i64 er]) ∧ DoR s v s' an ch er ∧ QOut W w' s' x ∧ Below W.heap.size W w') := veil fun W b => do_any s a1 a2 c1 c2 ws v W (t1.below b) (t2.below b) m1 m2 hW ok
  have HB1 := veil b1
  clear hW1 b1 e1 h1 t1 t2 m1 m2 x1 x2 h
  go_cut [5, 6, 7, 8] (fun p5 p6 c7 c8 wx => ∃ (s' : St) (an' : An) (ch : Bool) (er : Int) (X A : Nat) (b1' : Option Addr) (d1' : Nat) (b2' : Option Addr) (d2' : Nat) (vs' : Nat → Value), p5 = .pointer (some ⟨X, 0, none⟩) ∧ p6 = .pointer (some ⟨A, 0, none⟩) ∧ c7 = .bool ch ∧ c8 = .int .i64 er ∧ DoR s v s' an' ch er ∧ Bx wx X s' b1' d1' b2' d2' vs' ∧ ansBlock wx A an'.c an'.he an'.no an'.bd ∧ Below W1.heap.size W1 wx ∧ W1.heap.size ≤ X ∧ W1.heap.size ≤ A ∧ (∀ x, b1' = some x → W1.heap.size ≤ x.block) ∧ (∀ x, b2' = some x → W1.heap.size ≤ x.block) ∧ s'.rn ≤ d1' ∧ s'.ln ≤ d2')
  case first =>
    refine wp_region_held_drew (S := Below W1.heap.size W1) (by kernel_rfl) (below_drew W1) (fun hHeld => ?_)
    refine wpAnyH_take (i := 0) (v := .pointer (some ⟨R, 0, none⟩)) rfl (by kernel_rfl) (by kernel_rfl) (by kernel_rfl) (fun _ _ _ h => h) (Or.inl ⟨by rfl, fun _ _ => by go_simp⟩) hHeld ?_
    simp only [List.getElem_toArray, List.getElem_cons_zero, Act.put, List.setIfInBounds_toArray, List.set_cons_zero, List.set_cons_succ]
    refine wpAnyH_take (i := 1) (v := .pointer (some ⟨R, 0, none⟩)) rfl (by kernel_rfl) (by kernel_rfl) (by kernel_rfl) (fun _ _ _ h => h) (Or.inl ⟨by rfl, fun _ _ => by go_simp⟩) hHeld ?_
    simp only [List.getElem_toArray, List.getElem_cons_zero, List.getElem_cons_succ, Act.put, List.setIfInBounds_toArray, List.set_cons_zero, List.set_cons_succ]
    refine wpAnyH_take (i := 2) (v := .pointer (some ⟨R, 0, none⟩)) rfl (by kernel_rfl) (by kernel_rfl) (by kernel_rfl) (fun _ _ _ h => h) (Or.inl ⟨by rfl, fun _ _ => by go_simp⟩) hHeld ?_
    simp only [List.getElem_toArray, List.getElem_cons_zero, List.getElem_cons_succ, Act.put, List.setIfInBounds_toArray, List.set_cons_zero, List.set_cons_succ]
    refine wpAnyH_take (i := 3) (v := _) rfl (by kernel_rfl) (by kernel_rfl) (by kernel_rfl) (fun _ _ _ h => h) (yields_t _ rfl rfl rfl (fun _ b => tb.next b)) hHeld ?_
    simp only [List.getElem_toArray, List.getElem_cons_zero, List.getElem_cons_succ, Act.put, List.setIfInBounds_toArray, List.set_cons_zero, List.set_cons_succ]
    refine wpAnyH_take (i := 4) (v := evIn v) rfl (by kernel_rfl) (by kernel_rfl) (by kernel_rfl) (fun _ _ _ h => h) (Or.inl ⟨by rfl, fun w b => by have c0 := (b.cell (p := ⟨w0.heap.size, 0, none⟩) hEl).trans v0; have c1 := (b.cell (p := ⟨w0.heap.size, 1, none⟩) hEl).trans v1; have c2 := (b.cell (p := ⟨w0.heap.size, 2, none⟩) hEl).trans v2; have c3 := (b.cell (p := ⟨w0.heap.size, 3, none⟩) hEl).trans v3; have c4 := (b.cell (p := ⟨w0.heap.size, 4, none⟩) hEl).trans v4; have c5 := (b.cell (p := ⟨w0.heap.size, 5, none⟩) hEl).trans v5; go_simp⟩) hHeld ?_
    simp only [List.getElem_toArray, List.getElem_cons_zero, List.getElem_cons_succ, Act.put, List.setIfInBounds_toArray, List.set_cons_zero, List.set_cons_succ]
    have bW0 := below_drew W1
    have hz0 : W1.heap.size ≤ W1.drew.heap.size := bW0.size
    obtain ⟨W0, hW0⟩ : ∃ W0, W0 = W1.drew := ⟨_, rfl⟩
    rw [← hW0] at bW0 hz0 hHeld ⊢
    clear hW0
    refine wpAnyH_ready (rs := [5, 11, 12]) (by kernel_rfl) (by simp) ?_
    refine AllReadyH.cons rfl (fun K hK => ?_) (AllReadyH.cons rfl (fun K hK => ?_) (AllReadyH.cons rfl (fun K hK => ?_) AllReadyH.nil))
    · simp only [List.getElem_toArray, List.getElem_cons_zero, List.getElem_cons_succ]
      go_simp
      refine (unveil HDo _ bW0).mono ?_
      rintro e WC ⟨s', an', ch, er, x', rfl, hst, ⟨⟨b1', d1', b2', d2', vs', rfl, r1, r2, l1', l2', n1, n2, hW'', f1, f2⟩⟩, bn⟩
      have HST := veil hst
      clear hst
      have hr1 := fun x hx h0 => r1.blk_lt x hx h0
      have hr2 := fun x hx h0 => r2.blk_lt x hx h0
      have bWC := Below.next bW0 bn
      have hSWC : W0.heap.size ≤ WC.heap.size := bn.size
      refine hK.out _ _ bWC (fun hHeld => ?_)
      clear hK K bn
      refine wpAnyH_take (i := 6) (v := .tuple #[qVal s'.ep s'.nx s'.gv (.slice b1' s'.rn d1') (.slice b2' s'.ln d2') vs', anOf an', .bool ch, .int .i64 er]) rfl (by kernel_rfl) (by kernel_rfl) (by kernel_rfl) (fun _ _ _ h => h) (Or.inl ⟨by rfl, fun _ _ => by go_simp⟩) hHeld ?_
      simp only [List.getElem_toArray, List.getElem_cons_zero, List.getElem_cons_succ, Act.put, List.setIfInBounds_toArray, List.set_cons_zero, List.set_cons_succ]
      refine wpAnyH_take (i := 7) (v := qVal s'.ep s'.nx s'.gv (.slice b1' s'.rn d1') (.slice b2' s'.ln d2') vs') rfl (by kernel_rfl) (by kernel_rfl) (by kernel_rfl) (fun _ _ _ h => h) (Or.inl ⟨by rfl, fun _ _ => by go_simp⟩) hHeld ?_
      simp only [List.getElem_toArray, List.getElem_cons_zero, List.getElem_cons_succ, Act.put, List.setIfInBounds_toArray, List.set_cons_zero, List.set_cons_succ]
      refine wpAnyH_take (i := 8) (v := anOf an') rfl (by kernel_rfl) (by kernel_rfl) (by kernel_rfl) (fun _ _ _ h => h) (Or.inl ⟨by rfl, fun _ _ => by go_simp⟩) hHeld ?_
      simp only [List.getElem_toArray, List.getElem_cons_zero, List.getElem_cons_succ, Act.put, List.setIfInBounds_toArray, List.set_cons_zero, List.set_cons_succ]
      refine wpAnyH_take (i := 9) (v := .bool ch) rfl (by kernel_rfl) (by kernel_rfl) (by kernel_rfl) (fun _ _ _ h => h) (Or.inl ⟨by rfl, fun _ _ => by go_simp⟩) hHeld ?_
      simp only [List.getElem_toArray, List.getElem_cons_zero, List.getElem_cons_succ, Act.put, List.setIfInBounds_toArray, List.set_cons_zero, List.set_cons_succ]
      refine wpAnyH_take (i := 10) (v := .int .i64 er) rfl (by kernel_rfl) (by kernel_rfl) (by kernel_rfl) (fun _ _ _ h => h) (Or.inl ⟨by rfl, fun _ _ => by go_simp⟩) hHeld ?_
      simp only [List.getElem_toArray, List.getElem_cons_zero, List.getElem_cons_succ, Act.put, List.setIfInBounds_toArray, List.set_cons_zero, List.set_cons_succ]
      refine wpAnyH_ready (rs := [11, 12]) (by kernel_rfl) (by simp) ?_
      refine AllReadyH.cons rfl (fun K hK => ?_) (AllReadyH.cons rfl (fun K hK => ?_) AllReadyH.nil)
      · simp only [List.getElem_toArray, List.getElem_cons_zero, List.getElem_cons_succ]
        refine ite_wanted rfl ?_
        refine q_alloc_wp 5 rfl rfl ?_
        intro WCQ zq bn
        have hXq : WC.heap.size < WCQ.heap.size := zq.lt
        have bWCQ := Below.next bWC bn
        have r1 := r1.below bn
        have r2 := r2.below bn
        have hSWCQ : WC.heap.size ≤ WCQ.heap.size := bn.size
        refine hK.out _ _ bWCQ (fun hHeld => ?_)
        clear hK K bn
        refine wpAnyH_ready (rs := [12]) (by kernel_rfl) (by simp) ?_
        refine AllReadyH.cons rfl (fun K hK => ?_) AllReadyH.nil
        · simp only [List.getElem_toArray, List.getElem_cons_zero, List.getElem_cons_succ]
          go_simp
          obtain ⟨WCQA, hWCQA, ya, bn⟩ : ∃ W, W = WCQ.alloc (.cells #[.int .i64 0, .int .i64 0, .int .i64 0, .int .i64 0] 44) ∧ ansBlock W WCQ.heap.size 0 0 0 0 ∧ Below WCQ.heap.size WCQ W := ⟨_, rfl, ansBlock.new _ 0 0 0 0, below1 _ _⟩
          rw [← hWCQA]
          have hXa : WCQ.heap.size < WCQA.heap.size := ya.lt
          have bWCQA := Below.next bWCQ bn
          clear hWCQA
          have zq := zq.next bn
          have r1 := r1.below bn
          have r2 := r2.below bn
          have hSWCQA : WCQ.heap.size ≤ WCQA.heap.size := bn.size
          refine hK.out _ _ bWCQA (fun hHeld => ?_)
          clear hK K bn
          refine wpAnyH_ready (rs := [13]) (by kernel_rfl) (by simp) ?_
          refine AllReadyH.cons rfl (fun K hK => ?_) AllReadyH.nil
          simp only [List.getElem_toArray, List.getElem_cons_zero, List.getElem_cons_succ]
          refine ite_wanted rfl ?_
          refine q_store_wp (ra := b1') (la := b2') (ws' := vs') _ _ rfl rfl rfl zq hW'' ?_
          intro Wq q5 t5
          have ya5 := ya.turned t5 (by omega)
          have r15 := t5.row r1 (fun x hx h0 => by have := f1 x hx; have := hr1 x hx h0; omega)
          have r25 := t5.row r2 (fun x hx h0 => by have := f2 x hx; have := hr2 x hx h0; omega)
          have b5 := t5.under bWCQA (by omega)
          refine hK.out _ _ b5 (fun hHeld => ?_)
          clear hK K
          refine wpAnyH_ready (rs := [14]) (by kernel_rfl) (by simp) ?_
          refine AllReadyH.cons rfl (fun K hK => ?_) AllReadyH.nil
          simp only [List.getElem_toArray, List.getElem_cons_zero, List.getElem_cons_succ]
          obtain ⟨y0, y1, y2, y3⟩ := ya5.cells
          have yf := ya5.free
          go_simp
          have t6 := ans_turned Wq (WCQ.heap.size) an'.c an'.he an'.no an'.bd
          have ya6 := ya5.store an'.c an'.he an'.no an'.bd
          have q6 := t6.queue q5 (by omega)
          have b6 := t6.under b5 (by omega)
          have X6 : Bx _ (WC.heap.size) s' b1' d1' b2' d2' vs' := ⟨q6, t6.row r15 (fun x hx h0 => by have := f1 x hx; have := hr1 x hx h0; omega), t6.row r25 (fun x hx h0 => by have := f2 x hx; have := hr2 x hx h0; omega), n1, n2, hW''⟩
          unfold ansStore at ya6 X6 b6
          refine hK.out _ _ b6 (fun hHeld => ?_)
          clear hK K y0 y1 y2 y3 yf q6 t6
          generalize (((Wq.setCell ⟨WCQ.heap.size, 0, none⟩ (.int .i64 an'.c)).setCell ⟨WCQ.heap.size, 1, none⟩ (.int .i64 an'.he)).setCell ⟨WCQ.heap.size, 2, none⟩ (.int .i64 an'.no)).setCell ⟨WCQ.heap.size, 3, none⟩ (.int .i64 an'.bd) = W6 at ya6 X6 b6 hHeld ⊢
          refine wpAnyH_take (i := 15) (v := .bool ch) rfl (by kernel_rfl) (by kernel_rfl) (by kernel_rfl) (fun _ _ _ h => h) (Or.inl ⟨by rfl, fun _ _ => by go_simp⟩) hHeld ?_
          simp only [List.getElem_toArray, List.getElem_cons_zero, List.getElem_cons_succ, Act.put, List.setIfInBounds_toArray, List.set_cons_zero, List.set_cons_succ]
          refine wpAnyH_take (i := 16) (v := .int .i64 er) rfl (by kernel_rfl) (by kernel_rfl) (by kernel_rfl) (fun _ _ _ h => h) (Or.inl ⟨by rfl, fun _ _ => by go_simp⟩) hHeld ?_
          simp only [List.getElem_toArray, List.getElem_cons_zero, List.getElem_cons_succ, Act.put, List.setIfInBounds_toArray, List.set_cons_zero, List.set_cons_succ]
          refine wpAnyH_done (by kernel_rfl) ?_ _
          go_wp2_with fail
          go_meet
          exact ⟨s', an', ch, er, _, _, _, _, _, _, _, rfl, rfl, rfl, rfl, unveil HST, X6, ya6, b6, by omega, by omega, fun x hx => by have := f1 x hx; omega, fun x hx => by have := f2 x hx; omega, l1', l2'⟩
      · simp only [List.getElem_toArray, List.getElem_cons_zero, List.getElem_cons_succ]
        go_simp
        obtain ⟨WCA, hWCA, ya, bn⟩ : ∃ W, W = WC.alloc (.cells #[.int .i64 0, .int .i64 0, .int .i64 0, .int .i64 0] 44) ∧ ansBlock W WC.heap.size 0 0 0 0 ∧ Below WC.heap.size WC W := ⟨_, rfl, ansBlock.new _ 0 0 0 0, below1 _ _⟩
        rw [← hWCA]
        have hXa : WC.heap.size < WCA.heap.size := ya.lt
        have bWCA := Below.next bWC bn
        clear hWCA
        have r1 := r1.below bn
        have r2 := r2.below bn
        have hSWCA : WC.heap.size ≤ WCA.heap.size := bn.size
        refine hK.out _ _ bWCA (fun hHeld => ?_)
        clear hK K bn
        refine wpAnyH_ready (rs := [11]) (by kernel_rfl) (by simp) ?_
        refine AllReadyH.cons rfl (fun K hK => ?_) AllReadyH.nil
        · simp only [List.getElem_toArray, List.getElem_cons_zero, List.getElem_cons_succ]
          refine ite_wanted rfl ?_
          refine q_alloc_wp 5 rfl rfl ?_
          intro WCAQ zq bn
          have hXq : WCA.heap.size < WCAQ.heap.size := zq.lt
          have bWCAQ := Below.next bWCA bn
          have ya := ya.next bn
          have r1 := r1.below bn
          have r2 := r2.below bn
          have hSWCAQ : WCA.heap.size ≤ WCAQ.heap.size := bn.size
          refine hK.out _ _ bWCAQ (fun hHeld => ?_)
          clear hK K bn
          refine wpAnyH_ready (rs := [13]) (by kernel_rfl) (by simp) ?_
          refine AllReadyH.cons rfl (fun K hK => ?_) AllReadyH.nil
          simp only [List.getElem_toArray, List.getElem_cons_zero, List.getElem_cons_succ]
          refine ite_wanted rfl ?_
          refine q_store_wp (ra := b1') (la := b2') (ws' := vs') _ _ rfl rfl rfl zq hW'' ?_
          intro Wq q5 t5
          have ya5 := ya.turned t5 (by omega)
          have r15 := t5.row r1 (fun x hx h0 => by have := f1 x hx; have := hr1 x hx h0; omega)
          have r25 := t5.row r2 (fun x hx h0 => by have := f2 x hx; have := hr2 x hx h0; omega)
          have b5 := t5.under bWCAQ (by omega)
          refine hK.out _ _ b5 (fun hHeld => ?_)
          clear hK K
          refine wpAnyH_ready (rs := [14]) (by kernel_rfl) (by simp) ?_
          refine AllReadyH.cons rfl (fun K hK => ?_) AllReadyH.nil
          simp only [List.getElem_toArray, List.getElem_cons_zero, List.getElem_cons_succ]
          obtain ⟨y0, y1, y2, y3⟩ := ya5.cells
          have yf := ya5.free
          go_simp
          have t6 := ans_turned Wq (WC.heap.size) an'.c an'.he an'.no an'.bd
          have ya6 := ya5.store an'.c an'.he an'.no an'.bd
          have q6 := t6.queue q5 (by omega)
          have b6 := t6.under b5 (by omega)
          have X6 : Bx _ (WCA.heap.size) s' b1' d1' b2' d2' vs' := ⟨q6, t6.row r15 (fun x hx h0 => by have := f1 x hx; have := hr1 x hx h0; omega), t6.row r25 (fun x hx h0 => by have := f2 x hx; have := hr2 x hx h0; omega), n1, n2, hW''⟩
          unfold ansStore at ya6 X6 b6
          refine hK.out _ _ b6 (fun hHeld => ?_)
          clear hK K y0 y1 y2 y3 yf q6 t6
          generalize (((Wq.setCell ⟨WC.heap.size, 0, none⟩ (.int .i64 an'.c)).setCell ⟨WC.heap.size, 1, none⟩ (.int .i64 an'.he)).setCell ⟨WC.heap.size, 2, none⟩ (.int .i64 an'.no)).setCell ⟨WC.heap.size, 3, none⟩ (.int .i64 an'.bd) = W6 at ya6 X6 b6 hHeld ⊢
          refine wpAnyH_take (i := 15) (v := .bool ch) rfl (by kernel_rfl) (by kernel_rfl) (by kernel_rfl) (fun _ _ _ h => h) (Or.inl ⟨by rfl, fun _ _ => by go_simp⟩) hHeld ?_
          simp only [List.getElem_toArray, List.getElem_cons_zero, List.getElem_cons_succ, Act.put, List.setIfInBounds_toArray, List.set_cons_zero, List.set_cons_succ]
          refine wpAnyH_take (i := 16) (v := .int .i64 er) rfl (by kernel_rfl) (by kernel_rfl) (by kernel_rfl) (fun _ _ _ h => h) (Or.inl ⟨by rfl, fun _ _ => by go_simp⟩) hHeld ?_
          simp only [List.getElem_toArray, List.getElem_cons_zero, List.getElem_cons_succ, Act.put, List.setIfInBounds_toArray, List.set_cons_zero, List.set_cons_succ]
          refine wpAnyH_done (by kernel_rfl) ?_ _
          go_wp2_with fail
          go_meet
          exact ⟨s', an', ch, er, _, _, _, _, _, _, _, rfl, rfl, rfl, rfl, unveil HST, X6, ya6, b6, by omega, by omega, fun x hx => by have := f1 x hx; omega, fun x hx => by have := f2 x hx; omega, l1', l2'⟩
    · simp only [List.getElem_toArray, List.getElem_cons_zero, List.getElem_cons_succ]
      refine ite_wanted rfl ?_
      refine q_alloc_wp 5 rfl rfl ?_
      intro WQ zq bn
      have hXq : W0.heap.size < WQ.heap.size := zq.lt
      have bWQ := Below.next bW0 bn
      have hSWQ : W0.heap.size ≤ WQ.heap.size := bn.size
      refine hK.out _ _ bWQ (fun hHeld => ?_)
      clear hK K bn
      refine wpAnyH_ready (rs := [5, 12]) (by kernel_rfl) (by simp) ?_
      refine AllReadyH.cons rfl (fun K hK => ?_) (AllReadyH.cons rfl (fun K hK => ?_) AllReadyH.nil)
      · simp only [List.getElem_toArray, List.getElem_cons_zero, List.getElem_cons_succ]
        go_simp
        refine (unveil HDo _ bWQ).mono ?_
        rintro e WQC ⟨s', an', ch, er, x', rfl, hst, ⟨⟨b1', d1', b2', d2', vs', rfl, r1, r2, l1', l2', n1, n2, hW'', f1, f2⟩⟩, bn⟩
        have HST := veil hst
        clear hst
        have hr1 := fun x hx h0 => r1.blk_lt x hx h0
        have hr2 := fun x hx h0 => r2.blk_lt x hx h0
        have bWQC := Below.next bWQ bn
        have zq := zq.next bn
        have hSWQC : WQ.heap.size ≤ WQC.heap.size := bn.size
        refine hK.out _ _ bWQC (fun hHeld => ?_)
        clear hK K bn
        refine wpAnyH_take (i := 6) (v := .tuple #[qVal s'.ep s'.nx s'.gv (.slice b1' s'.rn d1') (.slice b2' s'.ln d2') vs', anOf an', .bool ch, .int .i64 er]) rfl (by kernel_rfl) (by kernel_rfl) (by kernel_rfl) (fun _ _ _ h => h) (Or.inl ⟨by rfl, fun _ _ => by go_simp⟩) hHeld ?_
        simp only [List.getElem_toArray, List.getElem_cons_zero, List.getElem_cons_succ, Act.put, List.setIfInBounds_toArray, List.set_cons_zero, List.set_cons_succ]
        refine wpAnyH_take (i := 7) (v := qVal s'.ep s'.nx s'.gv (.slice b1' s'.rn d1') (.slice b2' s'.ln d2') vs') rfl (by kernel_rfl) (by kernel_rfl) (by kernel_rfl) (fun _ _ _ h => h) (Or.inl ⟨by rfl, fun _ _ => by go_simp⟩) hHeld ?_
        simp only [List.getElem_toArray, List.getElem_cons_zero, List.getElem_cons_succ, Act.put, List.setIfInBounds_toArray, List.set_cons_zero, List.set_cons_succ]
        refine wpAnyH_take (i := 8) (v := anOf an') rfl (by kernel_rfl) (by kernel_rfl) (by kernel_rfl) (fun _ _ _ h => h) (Or.inl ⟨by rfl, fun _ _ => by go_simp⟩) hHeld ?_
        simp only [List.getElem_toArray, List.getElem_cons_zero, List.getElem_cons_succ, Act.put, List.setIfInBounds_toArray, List.set_cons_zero, List.set_cons_succ]
        refine wpAnyH_take (i := 9) (v := .bool ch) rfl (by kernel_rfl) (by kernel_rfl) (by kernel_rfl) (fun _ _ _ h => h) (Or.inl ⟨by rfl, fun _ _ => by go_simp⟩) hHeld ?_
        simp only [List.getElem_toArray, List.getElem_cons_zero, List.getElem_cons_succ, Act.put, List.setIfInBounds_toArray, List.set_cons_zero, List.set_cons_succ]
        refine wpAnyH_take (i := 10) (v := .int .i64 er) rfl (by kernel_rfl) (by kernel_rfl) (by kernel_rfl) (fun _ _ _ h => h) (Or.inl ⟨by rfl, fun _ _ => by go_simp⟩) hHeld ?_
        simp only [List.getElem_toArray, List.getElem_cons_zero, List.getElem_cons_succ, Act.put, List.setIfInBounds_toArray, List.set_cons_zero, List.set_cons_succ]
        refine wpAnyH_ready (rs := [12]) (by kernel_rfl) (by simp) ?_
        refine AllReadyH.cons rfl (fun K hK => ?_) AllReadyH.nil
        · simp only [List.getElem_toArray, List.getElem_cons_zero, List.getElem_cons_succ]
          go_simp
          obtain ⟨WQCA, hWQCA, ya, bn⟩ : ∃ W, W = WQC.alloc (.cells #[.int .i64 0, .int .i64 0, .int .i64 0, .int .i64 0] 44) ∧ ansBlock W WQC.heap.size 0 0 0 0 ∧ Below WQC.heap.size WQC W := ⟨_, rfl, ansBlock.new _ 0 0 0 0, below1 _ _⟩
          rw [← hWQCA]
          have hXa : WQC.heap.size < WQCA.heap.size := ya.lt
          have bWQCA := Below.next bWQC bn
          clear hWQCA
          have zq := zq.next bn
          have r1 := r1.below bn
          have r2 := r2.below bn
          have hSWQCA : WQC.heap.size ≤ WQCA.heap.size := bn.size
          refine hK.out _ _ bWQCA (fun hHeld => ?_)
          clear hK K bn
          refine wpAnyH_ready (rs := [13]) (by kernel_rfl) (by simp) ?_
          refine AllReadyH.cons rfl (fun K hK => ?_) AllReadyH.nil
          simp only [List.getElem_toArray, List.getElem_cons_zero, List.getElem_cons_succ]
          refine ite_wanted rfl ?_
          refine q_store_wp (ra := b1') (la := b2') (ws' := vs') _ _ rfl rfl rfl zq hW'' ?_
          intro Wq q5 t5
          have ya5 := ya.turned t5 (by omega)
          have r15 := t5.row r1 (fun x hx h0 => by have := f1 x hx; have := hr1 x hx h0; omega)
          have r25 := t5.row r2 (fun x hx h0 => by have := f2 x hx; have := hr2 x hx h0; omega)
          have b5 := t5.under bWQCA (by omega)
          refine hK.out _ _ b5 (fun hHeld => ?_)
          clear hK K
          refine wpAnyH_ready (rs := [14]) (by kernel_rfl) (by simp) ?_
          refine AllReadyH.cons rfl (fun K hK => ?_) AllReadyH.nil
          simp only [List.getElem_toArray, List.getElem_cons_zero, List.getElem_cons_succ]
          obtain ⟨y0, y1, y2, y3⟩ := ya5.cells
          have yf := ya5.free
          go_simp
          have t6 := ans_turned Wq (WQC.heap.size) an'.c an'.he an'.no an'.bd
          have ya6 := ya5.store an'.c an'.he an'.no an'.bd
          have q6 := t6.queue q5 (by omega)
          have b6 := t6.under b5 (by omega)
          have X6 : Bx _ (W0.heap.size) s' b1' d1' b2' d2' vs' := ⟨q6, t6.row r15 (fun x hx h0 => by have := f1 x hx; have := hr1 x hx h0; omega), t6.row r25 (fun x hx h0 => by have := f2 x hx; have := hr2 x hx h0; omega), n1, n2, hW''⟩
          unfold ansStore at ya6 X6 b6
          refine hK.out _ _ b6 (fun hHeld => ?_)
          clear hK K y0 y1 y2 y3 yf q6 t6
          generalize (((Wq.setCell ⟨WQC.heap.size, 0, none⟩ (.int .i64 an'.c)).setCell ⟨WQC.heap.size, 1, none⟩ (.int .i64 an'.he)).setCell ⟨WQC.heap.size, 2, none⟩ (.int .i64 an'.no)).setCell ⟨WQC.heap.size, 3, none⟩ (.int .i64 an'.bd) = W6 at ya6 X6 b6 hHeld ⊢
          refine wpAnyH_take (i := 15) (v := .bool ch) rfl (by kernel_rfl) (by kernel_rfl) (by kernel_rfl) (fun _ _ _ h => h) (Or.inl ⟨by rfl, fun _ _ => by go_simp⟩) hHeld ?_
          simp only [List.getElem_toArray, List.getElem_cons_zero, List.getElem_cons_succ, Act.put, List.setIfInBounds_toArray, List.set_cons_zero, List.set_cons_succ]
          refine wpAnyH_take (i := 16) (v := .int .i64 er) rfl (by kernel_rfl) (by kernel_rfl) (by kernel_rfl) (fun _ _ _ h => h) (Or.inl ⟨by rfl, fun _ _ => by go_simp⟩) hHeld ?_
          simp only [List.getElem_toArray, List.getElem_cons_zero, List.getElem_cons_succ, Act.put, List.setIfInBounds_toArray, List.set_cons_zero, List.set_cons_succ]
          refine wpAnyH_done (by kernel_rfl) ?_ _
          go_wp2_with fail
          go_meet
          exact ⟨s', an', ch, er, _, _, _, _, _, _, _, rfl, rfl, rfl, rfl, unveil HST, X6, ya6, b6, by omega, by omega, fun x hx => by have := f1 x hx; omega, fun x hx => by have := f2 x hx; omega, l1', l2'⟩
      · simp only [List.getElem_toArray, List.getElem_cons_zero, List.getElem_cons_succ]
        go_simp
        obtain ⟨WQA, hWQA, ya, bn⟩ : ∃ W, W = WQ.alloc (.cells #[.int .i64 0, .int .i64 0, .int .i64 0, .int .i64 0] 44) ∧ ansBlock W WQ.heap.size 0 0 0 0 ∧ Below WQ.heap.size WQ W := ⟨_, rfl, ansBlock.new _ 0 0 0 0, below1 _ _⟩
        rw [← hWQA]
        have hXa : WQ.heap.size < WQA.heap.size := ya.lt
        have bWQA := Below.next bWQ bn
        clear hWQA
        have zq := zq.next bn
        have hSWQA : WQ.heap.size ≤ WQA.heap.size := bn.size
        refine hK.out _ _ bWQA (fun hHeld => ?_)
        clear hK K bn
        refine wpAnyH_ready (rs := [5]) (by kernel_rfl) (by simp) ?_
        refine AllReadyH.cons rfl (fun K hK => ?_) AllReadyH.nil
        · simp only [List.getElem_toArray, List.getElem_cons_zero, List.getElem_cons_succ]
          go_simp
          refine (unveil HDo _ bWQA).mono ?_
          rintro e WQAC ⟨s', an', ch, er, x', rfl, hst, ⟨⟨b1', d1', b2', d2', vs', rfl, r1, r2, l1', l2', n1, n2, hW'', f1, f2⟩⟩, bn⟩
          have HST := veil hst
          clear hst
          have hr1 := fun x hx h0 => r1.blk_lt x hx h0
          have hr2 := fun x hx h0 => r2.blk_lt x hx h0
          have bWQAC := Below.next bWQA bn
          have zq := zq.next bn
          have ya := ya.next bn
          have hSWQAC : WQA.heap.size ≤ WQAC.heap.size := bn.size
          refine hK.out _ _ bWQAC (fun hHeld => ?_)
          clear hK K bn
          refine wpAnyH_take (i := 6) (v := .tuple #[qVal s'.ep s'.nx s'.gv (.slice b1' s'.rn d1') (.slice b2' s'.ln d2') vs', anOf an', .bool ch, .int .i64 er]) rfl (by kernel_rfl) (by kernel_rfl) (by kernel_rfl) (fun _ _ _ h => h) (Or.inl ⟨by rfl, fun _ _ => by go_simp⟩) hHeld ?_
          simp only [List.getElem_toArray, List.getElem_cons_zero, List.getElem_cons_succ, Act.put, List.setIfInBounds_toArray, List.set_cons_zero, List.set_cons_succ]
          refine wpAnyH_take (i := 7) (v := qVal s'.ep s'.nx s'.gv (.slice b1' s'.rn d1') (.slice b2' s'.ln d2') vs') rfl (by kernel_rfl) (by kernel_rfl) (by kernel_rfl) (fun _ _ _ h => h) (Or.inl ⟨by rfl, fun _ _ => by go_simp⟩) hHeld ?_
          simp only [List.getElem_toArray, List.getElem_cons_zero, List.getElem_cons_succ, Act.put, List.setIfInBounds_toArray, List.set_cons_zero, List.set_cons_succ]
          refine wpAnyH_take (i := 8) (v := anOf an') rfl (by kernel_rfl) (by kernel_rfl) (by kernel_rfl) (fun _ _ _ h => h) (Or.inl ⟨by rfl, fun _ _ => by go_simp⟩) hHeld ?_
          simp only [List.getElem_toArray, List.getElem_cons_zero, List.getElem_cons_succ, Act.put, List.setIfInBounds_toArray, List.set_cons_zero, List.set_cons_succ]
          refine wpAnyH_take (i := 9) (v := .bool ch) rfl (by kernel_rfl) (by kernel_rfl) (by kernel_rfl) (fun _ _ _ h => h) (Or.inl ⟨by rfl, fun _ _ => by go_simp⟩) hHeld ?_
          simp only [List.getElem_toArray, List.getElem_cons_zero, List.getElem_cons_succ, Act.put, List.setIfInBounds_toArray, List.set_cons_zero, List.set_cons_succ]
          refine wpAnyH_take (i := 10) (v := .int .i64 er) rfl (by kernel_rfl) (by kernel_rfl) (by kernel_rfl) (fun _ _ _ h => h) (Or.inl ⟨by rfl, fun _ _ => by go_simp⟩) hHeld ?_
          simp only [List.getElem_toArray, List.getElem_cons_zero, List.getElem_cons_succ, Act.put, List.setIfInBounds_toArray, List.set_cons_zero, List.set_cons_succ]
          refine wpAnyH_ready (rs := [13]) (by kernel_rfl) (by simp) ?_
          refine AllReadyH.cons rfl (fun K hK => ?_) AllReadyH.nil
          simp only [List.getElem_toArray, List.getElem_cons_zero, List.getElem_cons_succ]
          refine ite_wanted rfl ?_
          refine q_store_wp (ra := b1') (la := b2') (ws' := vs') _ _ rfl rfl rfl zq hW'' ?_
          intro Wq q5 t5
          have ya5 := ya.turned t5 (by omega)
          have r15 := t5.row r1 (fun x hx h0 => by have := f1 x hx; have := hr1 x hx h0; omega)
          have r25 := t5.row r2 (fun x hx h0 => by have := f2 x hx; have := hr2 x hx h0; omega)
          have b5 := t5.under bWQAC (by omega)
          refine hK.out _ _ b5 (fun hHeld => ?_)
          clear hK K
          refine wpAnyH_ready (rs := [14]) (by kernel_rfl) (by simp) ?_
          refine AllReadyH.cons rfl (fun K hK => ?_) AllReadyH.nil
          simp only [List.getElem_toArray, List.getElem_cons_zero, List.getElem_cons_succ]
          obtain ⟨y0, y1, y2, y3⟩ := ya5.cells
          have yf := ya5.free
          go_simp
          have t6 := ans_turned Wq (WQ.heap.size) an'.c an'.he an'.no an'.bd
          have ya6 := ya5.store an'.c an'.he an'.no an'.bd
          have q6 := t6.queue q5 (by omega)
          have b6 := t6.under b5 (by omega)
          have X6 : Bx _ (W0.heap.size) s' b1' d1' b2' d2' vs' := ⟨q6, t6.row r15 (fun x hx h0 => by have := f1 x hx; have := hr1 x hx h0; omega), t6.row r25 (fun x hx h0 => by have := f2 x hx; have := hr2 x hx h0; omega), n1, n2, hW''⟩
          unfold ansStore at ya6 X6 b6
          refine hK.out _ _ b6 (fun hHeld => ?_)
          clear hK K y0 y1 y2 y3 yf q6 t6
          generalize (((Wq.setCell ⟨WQ.heap.size, 0, none⟩ (.int .i64 an'.c)).setCell ⟨WQ.heap.size, 1, none⟩ (.int .i64 an'.he)).setCell ⟨WQ.heap.size, 2, none⟩ (.int .i64 an'.no)).setCell ⟨WQ.heap.size, 3, none⟩ (.int .i64 an'.bd) = W6 at ya6 X6 b6 hHeld ⊢
          refine wpAnyH_take (i := 15) (v := .bool ch) rfl (by kernel_rfl) (by kernel_rfl) (by kernel_rfl) (fun _ _ _ h => h) (Or.inl ⟨by rfl, fun _ _ => by go_simp⟩) hHeld ?_
          simp only [List.getElem_toArray, List.getElem_cons_zero, List.getElem_cons_succ, Act.put, List.setIfInBounds_toArray, List.set_cons_zero, List.set_cons_succ]
          refine wpAnyH_take (i := 16) (v := .int .i64 er) rfl (by kernel_rfl) (by kernel_rfl) (by kernel_rfl) (fun _ _ _ h => h) (Or.inl ⟨by rfl, fun _ _ => by go_simp⟩) hHeld ?_
          simp only [List.getElem_toArray, List.getElem_cons_zero, List.getElem_cons_succ, Act.put, List.setIfInBounds_toArray, List.set_cons_zero, List.set_cons_succ]
          refine wpAnyH_done (by kernel_rfl) ?_ _
          go_wp2_with fail
          go_meet
          exact ⟨s', an', ch, er, _, _, _, _, _, _, _, rfl, rfl, rfl, rfl, unveil HST, X6, ya6, b6, by omega, by omega, fun x hx => by have := f1 x hx; omega, fun x hx => by have := f2 x hx; omega, l1', l2'⟩
    · simp only [List.getElem_toArray, List.getElem_cons_zero, List.getElem_cons_succ]
      go_simp
      obtain ⟨WA, hWA, ya, bn⟩ : ∃ W, W = W0.alloc (.cells #[.int .i64 0, .int .i64 0, .int .i64 0, .int .i64 0] 44) ∧ ansBlock W W0.heap.size 0 0 0 0 ∧ Below W0.heap.size W0 W := ⟨_, rfl, ansBlock.new _ 0 0 0 0, below1 _ _⟩
      rw [← hWA]
      have hXa : W0.heap.size < WA.heap.size := ya.lt
      have bWA := Below.next bW0 bn
      clear hWA
      have hSWA : W0.heap.size ≤ WA.heap.size := bn.size
      refine hK.out _ _ bWA (fun hHeld => ?_)
      clear hK K bn
      refine wpAnyH_ready (rs := [5, 11]) (by kernel_rfl) (by simp) ?_
      refine AllReadyH.cons rfl (fun K hK => ?_) (AllReadyH.cons rfl (fun K hK => ?_) AllReadyH.nil)
      · simp only [List.getElem_toArray, List.getElem_cons_zero, List.getElem_cons_succ]
        go_simp
        refine (unveil HDo _ bWA).mono ?_
        rintro e WAC ⟨s', an', ch, er, x', rfl, hst, ⟨⟨b1', d1', b2', d2', vs', rfl, r1, r2, l1', l2', n1, n2, hW'', f1, f2⟩⟩, bn⟩
        have HST := veil hst
        clear hst
        have hr1 := fun x hx h0 => r1.blk_lt x hx h0
        have hr2 := fun x hx h0 => r2.blk_lt x hx h0
        have bWAC := Below.next bWA bn
        have ya := ya.next bn
        have hSWAC : WA.heap.size ≤ WAC.heap.size := bn.size
        refine hK.out _ _ bWAC (fun hHeld => ?_)
        clear hK K bn
        refine wpAnyH_take (i := 6) (v := .tuple #[qVal s'.ep s'.nx s'.gv (.slice b1' s'.rn d1') (.slice b2' s'.ln d2') vs', anOf an', .bool ch, .int .i64 er]) rfl (by kernel_rfl) (by kernel_rfl) (by kernel_rfl) (fun _ _ _ h => h) (Or.inl ⟨by rfl, fun _ _ => by go_simp⟩) hHeld ?_
        simp only [List.getElem_toArray, List.getElem_cons_zero, List.getElem_cons_succ, Act.put, List.setIfInBounds_toArray, List.set_cons_zero, List.set_cons_succ]
        refine wpAnyH_take (i := 7) (v := qVal s'.ep s'.nx s'.gv (.slice b1' s'.rn d1') (.slice b2' s'.ln d2') vs') rfl (by kernel_rfl) (by kernel_rfl) (by kernel_rfl) (fun _ _ _ h => h) (Or.inl ⟨by rfl, fun _ _ => by go_simp⟩) hHeld ?_
        simp only [List.getElem_toArray, List.getElem_cons_zero, List.getElem_cons_succ, Act.put, List.setIfInBounds_toArray, List.set_cons_zero, List.set_cons_succ]
        refine wpAnyH_take (i := 8) (v := anOf an') rfl (by kernel_rfl) (by kernel_rfl) (by kernel_rfl) (fun _ _ _ h => h) (Or.inl ⟨by rfl, fun _ _ => by go_simp⟩) hHeld ?_
        simp only [List.getElem_toArray, List.getElem_cons_zero, List.getElem_cons_succ, Act.put, List.setIfInBounds_toArray, List.set_cons_zero, List.set_cons_succ]
        refine wpAnyH_take (i := 9) (v := .bool ch) rfl (by kernel_rfl) (by kernel_rfl) (by kernel_rfl) (fun _ _ _ h => h) (Or.inl ⟨by rfl, fun _ _ => by go_simp⟩) hHeld ?_
        simp only [List.getElem_toArray, List.getElem_cons_zero, List.getElem_cons_succ, Act.put, List.setIfInBounds_toArray, List.set_cons_zero, List.set_cons_succ]
        refine wpAnyH_take (i := 10) (v := .int .i64 er) rfl (by kernel_rfl) (by kernel_rfl) (by kernel_rfl) (fun _ _ _ h => h) (Or.inl ⟨by rfl, fun _ _ => by go_simp⟩) hHeld ?_
        simp only [List.getElem_toArray, List.getElem_cons_zero, List.getElem_cons_succ, Act.put, List.setIfInBounds_toArray, List.set_cons_zero, List.set_cons_succ]
        refine wpAnyH_ready (rs := [11]) (by kernel_rfl) (by simp) ?_
        refine AllReadyH.cons rfl (fun K hK => ?_) AllReadyH.nil
        · simp only [List.getElem_toArray, List.getElem_cons_zero, List.getElem_cons_succ]
          refine ite_wanted rfl ?_
          refine q_alloc_wp 5 rfl rfl ?_
          intro WACQ zq bn
          have hXq : WAC.heap.size < WACQ.heap.size := zq.lt
          have bWACQ := Below.next bWAC bn
          have ya := ya.next bn
          have r1 := r1.below bn
          have r2 := r2.below bn
          have hSWACQ : WAC.heap.size ≤ WACQ.heap.size := bn.size
          refine hK.out _ _ bWACQ (fun hHeld => ?_)
          clear hK K bn
          refine wpAnyH_ready (rs := [13]) (by kernel_rfl) (by simp) ?_
          refine AllReadyH.cons rfl (fun K hK => ?_) AllReadyH.nil
          simp only [List.getElem_toArray, List.getElem_cons_zero, List.getElem_cons_succ]
          refine ite_wanted rfl ?_
          refine q_store_wp (ra := b1') (la := b2') (ws' := vs') _ _ rfl rfl rfl zq hW'' ?_
          intro Wq q5 t5
          have ya5 := ya.turned t5 (by omega)
          have r15 := t5.row r1 (fun x hx h0 => by have := f1 x hx; have := hr1 x hx h0; omega)
          have r25 := t5.row r2 (fun x hx h0 => by have := f2 x hx; have := hr2 x hx h0; omega)
          have b5 := t5.under bWACQ (by omega)
          refine hK.out _ _ b5 (fun hHeld => ?_)
          clear hK K
          refine wpAnyH_ready (rs := [14]) (by kernel_rfl) (by simp) ?_
          refine AllReadyH.cons rfl (fun K hK => ?_) AllReadyH.nil
          simp only [List.getElem_toArray, List.getElem_cons_zero, List.getElem_cons_succ]
          obtain ⟨y0, y1, y2, y3⟩ := ya5.cells
          have yf := ya5.free
          go_simp
          have t6 := ans_turned Wq (W0.heap.size) an'.c an'.he an'.no an'.bd
          have ya6 := ya5.store an'.c an'.he an'.no an'.bd
          have q6 := t6.queue q5 (by omega)
          have b6 := t6.under b5 (by omega)
          have X6 : Bx _ (WAC.heap.size) s' b1' d1' b2' d2' vs' := ⟨q6, t6.row r15 (fun x hx h0 => by have := f1 x hx; have := hr1 x hx h0; omega), t6.row r25 (fun x hx h0 => by have := f2 x hx; have := hr2 x hx h0; omega), n1, n2, hW''⟩
          unfold ansStore at ya6 X6 b6
          refine hK.out _ _ b6 (fun hHeld => ?_)
          clear hK K y0 y1 y2 y3 yf q6 t6
          generalize (((Wq.setCell ⟨W0.heap.size, 0, none⟩ (.int .i64 an'.c)).setCell ⟨W0.heap.size, 1, none⟩ (.int .i64 an'.he)).setCell ⟨W0.heap.size, 2, none⟩ (.int .i64 an'.no)).setCell ⟨W0.heap.size, 3, none⟩ (.int .i64 an'.bd) = W6 at ya6 X6 b6 hHeld ⊢
          refine wpAnyH_take (i := 15) (v := .bool ch) rfl (by kernel_rfl) (by kernel_rfl) (by kernel_rfl) (fun _ _ _ h => h) (Or.inl ⟨by rfl, fun _ _ => by go_simp⟩) hHeld ?_
          simp only [List.getElem_toArray, List.getElem_cons_zero, List.getElem_cons_succ, Act.put, List.setIfInBounds_toArray, List.set_cons_zero, List.set_cons_succ]
          refine wpAnyH_take (i := 16) (v := .int .i64 er) rfl (by kernel_rfl) (by kernel_rfl) (by kernel_rfl) (fun _ _ _ h => h) (Or.inl ⟨by rfl, fun _ _ => by go_simp⟩) hHeld ?_
          simp only [List.getElem_toArray, List.getElem_cons_zero, List.getElem_cons_succ, Act.put, List.setIfInBounds_toArray, List.set_cons_zero, List.set_cons_succ]
          refine wpAnyH_done (by kernel_rfl) ?_ _
          go_wp2_with fail
          go_meet
          exact ⟨s', an', ch, er, _, _, _, _, _, _, _, rfl, rfl, rfl, rfl, unveil HST, X6, ya6, b6, by omega, by omega, fun x hx => by have := f1 x hx; omega, fun x hx => by have := f2 x hx; omega, l1', l2'⟩
      · simp only [List.getElem_toArray, List.getElem_cons_zero, List.getElem_cons_succ]
        refine ite_wanted rfl ?_
        refine q_alloc_wp 5 rfl rfl ?_
        intro WAQ zq bn
        have hXq : WA.heap.size < WAQ.heap.size := zq.lt
        have bWAQ := Below.next bWA bn
        have ya := ya.next bn
        have hSWAQ : WA.heap.size ≤ WAQ.heap.size := bn.size
        refine hK.out _ _ bWAQ (fun hHeld => ?_)
        clear hK K bn
        refine wpAnyH_ready (rs := [5]) (by kernel_rfl) (by simp) ?_
        refine AllReadyH.cons rfl (fun K hK => ?_) AllReadyH.nil
        · simp only [List.getElem_toArray, List.getElem_cons_zero, List.getElem_cons_succ]
          go_simp
          refine (unveil HDo _ bWAQ).mono ?_
          rintro e WAQC ⟨s', an', ch, er, x', rfl, hst, ⟨⟨b1', d1', b2', d2', vs', rfl, r1, r2, l1', l2', n1, n2, hW'', f1, f2⟩⟩, bn⟩
          have HST := veil hst
          clear hst
          have hr1 := fun x hx h0 => r1.blk_lt x hx h0
          have hr2 := fun x hx h0 => r2.blk_lt x hx h0
          have bWAQC := Below.next bWAQ bn
          have zq := zq.next bn
          have ya := ya.next bn
          have hSWAQC : WAQ.heap.size ≤ WAQC.heap.size := bn.size
          refine hK.out _ _ bWAQC (fun hHeld => ?_)
          clear hK K bn
          refine wpAnyH_take (i := 6) (v := .tuple #[qVal s'.ep s'.nx s'.gv (.slice b1' s'.rn d1') (.slice b2' s'.ln d2') vs', anOf an', .bool ch, .int .i64 er]) rfl (by kernel_rfl) (by kernel_rfl) (by kernel_rfl) (fun _ _ _ h => h) (Or.inl ⟨by rfl, fun _ _ => by go_simp⟩) hHeld ?_
          simp only [List.getElem_toArray, List.getElem_cons_zero, List.getElem_cons_succ, Act.put, List.setIfInBounds_toArray, List.set_cons_zero, List.set_cons_succ]
          refine wpAnyH_take (i := 7) (v := qVal s'.ep s'.nx s'.gv (.slice b1' s'.rn d1') (.slice b2' s'.ln d2') vs') rfl (by kernel_rfl) (by kernel_rfl) (by kernel_rfl) (fun _ _ _ h => h) (Or.inl ⟨by rfl, fun _ _ => by go_simp⟩) hHeld ?_
          simp only [List.getElem_toArray, List.getElem_cons_zero, List.getElem_cons_succ, Act.put, List.setIfInBounds_toArray, List.set_cons_zero, List.set_cons_succ]
          refine wpAnyH_take (i := 8) (v := anOf an') rfl (by kernel_rfl) (by kernel_rfl) (by kernel_rfl) (fun _ _ _ h => h) (Or.inl ⟨by rfl, fun _ _ => by go_simp⟩) hHeld ?_
          simp only [List.getElem_toArray, List.getElem_cons_zero, List.getElem_cons_succ, Act.put, List.setIfInBounds_toArray, List.set_cons_zero, List.set_cons_succ]
          refine wpAnyH_take (i := 9) (v := .bool ch) rfl (by kernel_rfl) (by kernel_rfl) (by kernel_rfl) (fun _ _ _ h => h) (Or.inl ⟨by rfl, fun _ _ => by go_simp⟩) hHeld ?_
          simp only [List.getElem_toArray, List.getElem_cons_zero, List.getElem_cons_succ, Act.put, List.setIfInBounds_toArray, List.set_cons_zero, List.set_cons_succ]
          refine wpAnyH_take (i := 10) (v := .int .i64 er) rfl (by kernel_rfl) (by kernel_rfl) (by kernel_rfl) (fun _ _ _ h => h) (Or.inl ⟨by rfl, fun _ _ => by go_simp⟩) hHeld ?_
          simp only [List.getElem_toArray, List.getElem_cons_zero, List.getElem_cons_succ, Act.put, List.setIfInBounds_toArray, List.set_cons_zero, List.set_cons_succ]
          refine wpAnyH_ready (rs := [13]) (by kernel_rfl) (by simp) ?_
          refine AllReadyH.cons rfl (fun K hK => ?_) AllReadyH.nil
          simp only [List.getElem_toArray, List.getElem_cons_zero, List.getElem_cons_succ]
          refine ite_wanted rfl ?_
          refine q_store_wp (ra := b1') (la := b2') (ws' := vs') _ _ rfl rfl rfl zq hW'' ?_
          intro Wq q5 t5
          have ya5 := ya.turned t5 (by omega)
          have r15 := t5.row r1 (fun x hx h0 => by have := f1 x hx; have := hr1 x hx h0; omega)
          have r25 := t5.row r2 (fun x hx h0 => by have := f2 x hx; have := hr2 x hx h0; omega)
          have b5 := t5.under bWAQC (by omega)
          refine hK.out _ _ b5 (fun hHeld => ?_)
          clear hK K
          refine wpAnyH_ready (rs := [14]) (by kernel_rfl) (by simp) ?_
          refine AllReadyH.cons rfl (fun K hK => ?_) AllReadyH.nil
          simp only [List.getElem_toArray, List.getElem_cons_zero, List.getElem_cons_succ]
          obtain ⟨y0, y1, y2, y3⟩ := ya5.cells
          have yf := ya5.free
          go_simp
          have t6 := ans_turned Wq (W0.heap.size) an'.c an'.he an'.no an'.bd
          have ya6 := ya5.store an'.c an'.he an'.no an'.bd
          have q6 := t6.queue q5 (by omega)
          have b6 := t6.under b5 (by omega)
          have X6 : Bx _ (WA.heap.size) s' b1' d1' b2' d2' vs' := ⟨q6, t6.row r15 (fun x hx h0 => by have := f1 x hx; have := hr1 x hx h0; omega), t6.row r25 (fun x hx h0 => by have := f2 x hx; have := hr2 x hx h0; omega), n1, n2, hW''⟩
          unfold ansStore at ya6 X6 b6
          refine hK.out _ _ b6 (fun hHeld => ?_)
          clear hK K y0 y1 y2 y3 yf q6 t6
          generalize (((Wq.setCell ⟨W0.heap.size, 0, none⟩ (.int .i64 an'.c)).setCell ⟨W0.heap.size, 1, none⟩ (.int .i64 an'.he)).setCell ⟨W0.heap.size, 2, none⟩ (.int .i64 an'.no)).setCell ⟨W0.heap.size, 3, none⟩ (.int .i64 an'.bd) = W6 at ya6 X6 b6 hHeld ⊢
          refine wpAnyH_take (i := 15) (v := .bool ch) rfl (by kernel_rfl) (by kernel_rfl) (by kernel_rfl) (fun _ _ _ h => h) (Or.inl ⟨by rfl, fun _ _ => by go_simp⟩) hHeld ?_
          simp only [List.getElem_toArray, List.getElem_cons_zero, List.getElem_cons_succ, Act.put, List.setIfInBounds_toArray, List.set_cons_zero, List.set_cons_succ]
          refine wpAnyH_take (i := 16) (v := .int .i64 er) rfl (by kernel_rfl) (by kernel_rfl) (by kernel_rfl) (fun _ _ _ h => h) (Or.inl ⟨by rfl, fun _ _ => by go_simp⟩) hHeld ?_
          simp only [List.getElem_toArray, List.getElem_cons_zero, List.getElem_cons_succ, Act.put, List.setIfInBounds_toArray, List.set_cons_zero, List.set_cons_succ]
          refine wpAnyH_done (by kernel_rfl) ?_ _
          go_wp2_with fail
          go_meet
          exact ⟨s', an', ch, er, _, _, _, _, _, _, _, rfl, rfl, rfl, rfl, unveil HST, X6, ya6, b6, by omega, by omega, fun x hx => by have := f1 x hx; omega, fun x hx => by have := f2 x hx; omega, l1', l2'⟩
  case rest =>
    obtain ⟨s', an', ch, er, X, A, b1', d1', b2', d2', vs', rfl, rfl, rfl, rfl, hst, X2, A2, b2, hX, hA, f1, f2, hl1, hl2⟩ := hcut
    have HL1 := veil hl1
    have HL2 := veil hl2
    clear hl1 hl2
    obtain ⟨W2, hW2⟩ : ∃ W2, W2 = wc := ⟨_, rfl⟩
    subst hW2
    have O2 : Off R w0.heap.size w0 W2 := Off.below ((unveil HB1).trans (b2.mono (unveil HB1).size))
    have HST := veil hst
    have T2 := (unveil HT1).next b2
    have her : er = 0 ∨ (¬ er = 0 ∧ ch = false) := hst.err
    clear v0 v1 v2 v3 v4 v5 tb hst HDo
    rcases her with her | ⟨her, hch⟩
    case inr =>
      subst hch
      have HT2 := veil T2
      have HO2 := veil O2
      clear X2 A2 T2 O2
      go_wp2
      go_ret
      exact ⟨s', an', false, er, rfl, unveil HST, fun h => (by cases h), fun _ => unveil HT2, unveil HO2⟩
    case inl =>
    subst her
    cases ch with
    | false =>
      have HT2 := veil T2
      have HO2 := veil O2
      clear X2 A2 T2 O2
      go_wp2
      go_ret
      exact ⟨s', an', false, 0, rfl, unveil HST, fun h => (by cases h), fun _ => unveil HT2, unveil HO2⟩
    | true =>
      go_upto_region 4 with fail
      obtain ⟨e1, k1, e2, k2, us, tb2, _⟩ := T2.ex
      have hRX : R ≠ X := by omega
      have hRA : R ≠ A := by omega
      have hXl := X2.q.lt
      have qx := X2.q
      have hw := X2.wins
      refine wp_region_held_drew (S := fun w' => qBlock w' X s'.ep s'.nx s'.gv (.slice b1' s'.rn d1') (.slice b2' s'.ln d2') vs' ∧ ansBlock w' A an'.c an'.he an'.no an'.bd) (by kernel_rfl) ⟨qx, A2⟩ (fun hHeld => ?_)
      have tb3 : tlBlock W2.drew R T s.ep s.nx s.gv (.slice e1 s.rn k1) (.slice e2 s.ln k2) us an.c an.he an.no an.bd tail := tb2
      have r13 := X2.r1.below (below_drew W2)
      have r23 := X2.r2.below (below_drew W2)
      have O3 : Off R w0.heap.size w0 W2.drew := ⟨O2.os, O2.tape, O2.output, O2.size, O2.block⟩
      obtain ⟨W3, hW3⟩ : ∃ W3, W3 = W2.drew := ⟨_, rfl⟩
      rw [← hW3] at tb3 r13 r23 O3 hHeld ⊢
      clear hW3 T2 O2 tb2
      refine wpAnyH_take (i := 0) (v := .pointer (some ⟨R, 0, none⟩)) rfl (by kernel_rfl) (by kernel_rfl) (by kernel_rfl) (fun _ _ _ h => h) (Or.inl ⟨by rfl, fun _ _ => by go_simp⟩) hHeld ?_
      simp only [List.getElem_toArray, List.getElem_cons_zero, Act.put, List.setIfInBounds_toArray, List.set_cons_zero, List.set_cons_succ]
      refine wpAnyH_take (i := 1) (v := .pointer (some ⟨R, 0, none⟩)) rfl (by kernel_rfl) (by kernel_rfl) (by kernel_rfl) (fun _ _ _ h => h) (Or.inl ⟨by rfl, fun _ _ => by go_simp⟩) hHeld ?_
      simp only [List.getElem_toArray, List.getElem_cons_zero, List.getElem_cons_succ, Act.put, List.setIfInBounds_toArray, List.set_cons_zero, List.set_cons_succ]
      refine wpAnyH_take (i := 2) (v := _) rfl (by kernel_rfl) (by kernel_rfl) (by kernel_rfl) (fun _ _ _ h => h) (yields_q _ rfl rfl rfl (fun _ h => h.1)) hHeld ?_
      simp only [List.getElem_toArray, List.getElem_cons_zero, List.getElem_cons_succ, Act.put, List.setIfInBounds_toArray, List.set_cons_zero, List.set_cons_succ]
      refine wpAnyH_take (i := 3) (v := _) rfl (by kernel_rfl) (by kernel_rfl) (by kernel_rfl) (fun _ _ _ h => h) (yields_a _ rfl rfl rfl (fun _ h => h.2)) hHeld ?_
      simp only [List.getElem_toArray, List.getElem_cons_zero, List.getElem_cons_succ, Act.put, List.setIfInBounds_toArray, List.set_cons_zero, List.set_cons_succ]
      refine wpAnyH_take (i := 4) (v := .pointer (some ⟨R, 0, none⟩)) rfl (by kernel_rfl) (by kernel_rfl) (by kernel_rfl) (fun _ _ _ h => h) (Or.inl ⟨by rfl, fun _ _ => by go_simp⟩) hHeld ?_
      simp only [List.getElem_toArray, List.getElem_cons_zero, List.getElem_cons_succ, Act.put, List.setIfInBounds_toArray, List.set_cons_zero, List.set_cons_succ]
      refine wpAnyH_take (i := 5) (v := .pointer (some ⟨R, 0, none⟩)) rfl (by kernel_rfl) (by kernel_rfl) (by kernel_rfl) (fun _ _ _ h => h) (Or.inl ⟨by rfl, fun _ _ => by go_simp⟩) hHeld ?_
      simp only [List.getElem_toArray, List.getElem_cons_zero, List.getElem_cons_succ, Act.put, List.setIfInBounds_toArray, List.set_cons_zero, List.set_cons_succ]
      refine wpAnyH_ready (rs := [6]) (by kernel_rfl) (by simp) ?_
      refine AllReadyH.cons rfl (fun K hK => ?_) AllReadyH.nil
      simp only [List.getElem_toArray, List.getElem_cons_zero, List.getElem_cons_succ]
      refine ite_wanted rfl ?_
      refine t_store_wp (ra := b1') (la := b2') (ws' := vs') _ _ rfl rfl rfl tb3 hw ?_
      intro W4 tb4 t4
      have q4 := t4.queue hHeld.1 (fun e => hRX e.symm)
      have A4 := hHeld.2.turned t4 (fun e => hRA e.symm)
      have r14 := t4.row r13 (fun x hx h0 => by have := f1 x hx; omega)
      have r24 := t4.row r23 (fun x hx h0 => by have := f2 x hx; omega)
      have O4 := O3.self t4
      refine hK.out _ _ ⟨q4, A4⟩ (fun hHeld => ?_)
      clear hK K
      refine wpAnyH_take (i := 7) (v := .pointer (some ⟨R, 0, none⟩)) rfl (by kernel_rfl) (by kernel_rfl) (by kernel_rfl) (fun _ _ _ h => h) (Or.inl ⟨by rfl, fun _ _ => by go_simp⟩) hHeld ?_
      simp only [List.getElem_toArray, List.getElem_cons_zero, List.getElem_cons_succ, Act.put, List.setIfInBounds_toArray, List.set_cons_zero, List.set_cons_succ]
      refine wpAnyH_take (i := 8) (v := .pointer (some ⟨R, 41, none⟩)) rfl (by kernel_rfl) (by kernel_rfl) (by kernel_rfl) (fun _ _ _ h => h) (Or.inl ⟨by rfl, fun _ _ => by go_simp⟩) hHeld ?_
      simp only [List.getElem_toArray, List.getElem_cons_zero, List.getElem_cons_succ, Act.put, List.setIfInBounds_toArray, List.set_cons_zero, List.set_cons_succ]
      refine wpAnyH_ready (rs := [9]) (by kernel_rfl) (by simp) ?_
      refine AllReadyH.cons rfl (fun K hK => ?_) AllReadyH.nil
      simp only [List.getElem_toArray, List.getElem_cons_zero, List.getElem_cons_succ]
      obtain ⟨y0, y1, y2, y3⟩ := tb4.answer
      have yf := tb4.free
      go_simp
      have tb5 := tb4.answered an'.c an'.he an'.no an'.bd
      have t5 := (((Turned.set R 41 W4 (.int .i64 an'.c)).trans (Turned.set R 42 _ (.int .i64 an'.he))).trans (Turned.set R 43 _ (.int .i64 an'.no))).trans (Turned.set R 44 _ (.int .i64 an'.bd))
      have q5 := t5.queue q4 (fun e => hRX e.symm)
      have A5 := A4.turned t5 (fun e => hRA e.symm)
      have r15 := t5.row r14 (fun x hx h0 => by have := f1 x hx; omega)
      have r25 := t5.row r24 (fun x hx h0 => by have := f2 x hx; omega)
      have O5 := O4.self t5
      refine hK.out _ _ ⟨q5, A5⟩ (fun hHeld => ?_)
      clear hK K t5 y0 y1 y2 y3 yf
      generalize (((W4.setCell ⟨R, 41, none⟩ (.int .i64 an'.c)).setCell ⟨R, 42, none⟩ (.int .i64 an'.he)).setCell ⟨R, 43, none⟩ (.int .i64 an'.no)).setCell ⟨R, 44, none⟩ (.int .i64 an'.bd) = W5 at tb5 q5 A5 r15 r25 O5 hHeld ⊢
      refine wpAnyH_done (by kernel_rfl) ?_ _
      have HT5 : Hid (Tg W5 R T tail s' an') := veil ⟨b1', d1', b2', d2', vs', tb5, r15, r25, X2.n1, X2.n2, hw, fun x hx => by have := f1 x hx; omega, fun x hx => by have := f2 x hx; omega, unveil HL1, unveil HL2⟩
      have HO5 := veil O5
      clear tb5 q5 A5 r15 r25 O5 tb4 q4 A4 r14 r24 O4 tb3 r13 r23 O3 qx hHeld X2 A2
      go_wp2
      go_ret
      exact ⟨s', an', true, 0, rfl, unveil HST, fun _ => unveil HT5, fun h => (by cases h), unveil HO5⟩
end Go.Proofs.YtegbndllfnimdaaGreat

namespace Go.Proofs.YtegbndllfnimdaaGreat
open Go.RowKit

theorem evFlat_wf {es : List Ev} (h : ∀ v ∈ es, v.Ok) : ∀ u ∈ evFlat es, (Lit.int .i64 u).wf = true := by
  intro u hu
  obtain ⟨v, hv, hu⟩ := List.mem_flatMap.1 hu
  have hb : 0 ≤ u ∧ u ≤ 1073741824 := by
    simp only [evCells, List.mem_cons, List.not_mem_nil, or_false] at hu
    rcases Ev.cases (h v hv) with c | c | c | c <;> omega
  exact wf_in (by omega) (by omega)
end Go.Proofs.YtegbndllfnimdaaGreat

namespace Go.Proofs.YtegbndllfnimdaaGreat
open Go.RowKit

/-- what a call with the next event does, up to the first that can't be told. -/
structure EachSpec (g : Nat) (recv : Value) (es : List Ev) (I : Nat → World → Prop) (J : World → Prop) : Prop where
  enters : ∀ args w, (callFunc g args).run Tryz.prog w = .ok (.enter g args) w
  step : ∀ k (hk : k < es.length) (W : World), I k W → Calls Tryz.prog g #[recv, evIn es[k]] W fun e w' => (e = .returned (.bool true) ∧ I (k + 1) w') ∨ (e = .returned (.bool false) ∧ J w')
  keep : ∀ k (W W' : World), I k W → Below W.heap.size W W' → I k W'
set_option maxRecDepth 20000 in
set_option maxHeartbeats 4000000 in
theorem each_any (g : Nat) (R : Nat) (es : List Ev) (I : Nat → World → Prop) (J : World → Prop) (sp : EachSpec g (.pointer (some ⟨R, 0, none⟩)) es I J) (a : Option Addr) (cap : Nat) (w : World) (h0 : I 0 w) (hl : es.length ≤ 2000)
    (hrow : ∀ k W, I k W → RowK .i64 W a (6 * es.length) (evFlat es)) :
    Calls Tryz.prog 37 #[.slice a es.length cap, .func (.func g) #[.pointer (some ⟨R, 0, none⟩)] #[]] w fun e w' => (e = .returned (.int .i64 0) ∧ I es.length w') ∨ (e = .returned (.int .i64 3) ∧ J w') := by
  have heg := sp.enters
  go_enter Tryz.func37, Tryz.ntmps37
  go_upto_region 4 with fail
  go_loopw [12] (fun i wr => ∃ k : Nat, k ≤ es.length ∧ i = .int .i64 k ∧ I k wr) (fun i _ => es.length - (intOf i).toNat)
  case atStart => exact ⟨0, Nat.zero_le _, rfl, h0⟩
  case round =>
    obtain ⟨k, hk, rfl, hI⟩ := hrel
    by_cases hlt : k < es.length
    · have hr := hrow k wr hI
      obtain ⟨b, off, rfl⟩ := hr.form (by omega)
      obtain ⟨x0, x1, x2, x3, x4, x5⟩ := hr.six k hlt
      have ea : ∀ t, t < 6 → (evFlat es).getD (6 * k + t) 0 = (evCells es[k]).getD t 0 := fun t ht => evFlat_at es k hlt t ht
      rw [show 6 * k = 6 * k + 0 from rfl, ea 0 (by omega)] at x0
      rw [ea 1 (by omega)] at x1
      rw [ea 2 (by omega)] at x2
      rw [ea 3 (by omega)] at x3
      rw [ea 4 (by omega)] at x4
      rw [ea 5 (by omega)] at x5
      have HSt := fun W hW => sp.step k hlt W hW
      obtain ⟨v, hv⟩ : ∃ v, v = es[k] := ⟨_, rfl⟩
      rw [← hv] at x0 x1 x2 x3 x4 x5 HSt
      simp only [evCells, List.getD_cons_zero, List.getD_cons_succ] at x0 x1 x2 x3 x4 x5
      have HI : Hid (∀ W, Below wr.heap.size wr W → I k W) := veil fun W b => sp.keep k wr W hI b
      have HS := veil HSt
      clear hr ea hv HSt hI
      go_upto_region 6 with fail
      obtain ⟨W1, hW1, b1, e1⟩ : ∃ W1, W1 = wr.alloc (.cells #[.int .i64 v.k, .int .i64 v.p, .int .i64 v.i, .int .i64 v.b, .int .i64 v.he, .int .i64 v.hn] 48) ∧ Below wr.heap.size wr W1 ∧ W1.heap[wr.heap.size]? = some (.cells #[.int .i64 v.k, .int .i64 v.p, .int .i64 v.i, .int .i64 v.b, .int .i64 v.he, .int .i64 v.hn] 48 (0, 0)) := ⟨_, rfl, below1 _ _, heap_alloc_new _ _⟩
      rw [← hW1]
      obtain ⟨v0, v1, v2, v3, v4, v5⟩ := ev_box e1
      have HC : Calls Tryz.prog g #[.pointer (some ⟨R, 0, none⟩), evIn v] W1 fun e w' => ∃ ch : Bool, e = .returned (.bool ch) ∧ Hid ((ch = true → I (k + 1) w') ∧ (ch = false → J w')) := (unveil HS W1 (unveil HI W1 b1)).mono (by
        rintro e w' (⟨rfl, h1⟩ | ⟨rfl, h1⟩)
        · exact ⟨true, rfl, veil ⟨fun _ => h1, fun h => (by cases h)⟩⟩
        · exact ⟨false, rfl, veil ⟨fun h => (by cases h), fun _ => h1⟩⟩)
      clear hW1 b1 e1 x0 x1 x2 x3 x4 x5
      go_wp2_with (go_at_fn g; refine HC.mono ?_; rintro e W2 ⟨ch, rfl, HCh⟩; clear HC v0 v1 v2 v3 v4 v5)
      · go_ret
        exact .inr ⟨rfl, (unveil HCh).2 (by cases ch <;> simp_all)⟩
      · refine ⟨⟨k + 1, by omega, by go_num, (unveil HCh).1 (by cases ch <;> simp_all)⟩, by simp [intOf]; omega⟩
    · obtain rfl : k = es.length := by omega
      have HI := veil hI
      clear hI
      go_wp2
      go_ret
      exact .inl ⟨rfl, unveil HI⟩
end Go.Proofs.YtegbndllfnimdaaGreat

namespace Go.Proofs.YtegbndllfnimdaaGreat
open Go.RowKit

abbrev ztCells : Array Value := #[.int .i64 0, .int .i64 0, .int .i64 0, .slice none 0 0, .slice none 0 0, .int .i64 0, .bool false, .bool false, .bool false, .bool false, .bool false, .bool false, .bool false, .bool false, .int .i64 0, .bool false, .bool false, .bool false, .bool false, .bool false, .bool false, .bool false, .bool false, .int .i64 0, .bool false, .bool false, .bool false, .bool false, .bool false, .bool false, .bool false, .bool false, .int .i64 0, .bool false, .bool false, .bool false, .bool false, .bool false, .bool false, .bool false, .bool false, .int .i64 0, .int .i64 0, .int .i64 0, .int .i64 0]
theorem zt_eq : ztCells = (tlList 0 0 0 (.slice none 0 0) (.slice none 0 0) zeroW 0 0 0 0 []).toArray := rfl
theorem tg_zero {w W : World} {T : TypeId} (h : W = w.alloc (.cells ztCells T)) : Tg W w.heap.size T [] St.zero An.zero ∧ Below w.heap.size w W := by
  subst h
  refine ⟨⟨none, 0, none, 0, zeroW, ?_, RowK.nil _ _ _, RowK.nil _ _ _, fun _ => rfl, fun _ => rfl, zeroWins, fun x hx => (by cases hx), fun x hx => (by cases hx), Nat.le_refl _, Nat.le_refl _⟩, below1 _ _⟩
  unfold tlBlock
  rw [heap_alloc_new, zt_eq]
  rfl
theorem t_alloc {ops : Array Oper} {rest : List Oper} {o : Oper} {a : Act} {Q : Exit → Act → World → Prop} {w : World} (d : Nat) (ho : o.op = .alloc 85) (hd : o.dst = some d) (hw : Region.wanted o (yielded ops a.tmps) = true)
    (h : ∀ w', Tg w' w.heap.size 85 [] St.zero An.zero → Below w.heap.size w w' → wpList Tryz.prog ops Q rest (a.put (some d) (.pointer (some ⟨w.heap.size, 0, none⟩))) w') : wpList Tryz.prog ops Q (o :: rest) a w :=
  wpList_step fun K hK => by
    rw [if_pos hw]
    obtain ⟨z1, z2⟩ := tg_zero (w := w) (T := 85) rfl
    have := hK _ _ (h _ z1 z2)
    rw [← hd] at this
    unfold Oper.wp
    simp only [execOp, ho]
    simpa [go_sem] using this
theorem tl_loads {ops : Array Oper} {rest : List Oper} {o : Oper} {a : Act} {Q : Exit → Act → World → Prop} {w : World} {R : Nat} {T : TypeId} {ep nx gv : Int} {r l : Value} {ws : Nat → Value} {c he no bd : Int} {tail : List Value} (x : Operand) (ho : o.op = .load 37 x) (hw : Region.wanted o (yielded ops a.tmps) = true) (hx : a.eval x = .pointer (some ⟨R, 0, none⟩)) (tb : tlBlock w R T ep nx gv r l ws c he no bd tail)
    (h : wpList Tryz.prog ops Q rest (a.put o.dst (qVal ep nx gv r l ws)) w) : wpList Tryz.prog ops Q (o :: rest) a w :=
  wpList_step fun K hK => by
    rw [if_pos hw]
    exact wp_load_mid 37 x ho R 0 hx (qList ep nx gv r l ws) _ tb.range Tryz.underlying37 rfl (by rw [qList_len]; kernel_rfl) (hK _ _ h)
theorem ret_Replay {W : World} {Z : Nat} {ep nx gv : Int} {r l : Value} {ws : Nat → Value} {er : Int} {tmps : Array Value} (q : qBlock W Z ep nx gv r l ws) (t2 : tmps[2]? = some (.pointer (some ⟨Z, 0, none⟩))) (t3 : tmps[3]? = some (.int .i64 er)) :
    (results Tryz.f13 tmps).run Tryz.prog W = .ok (.tuple #[qVal ep nx gv r l ws, .int .i64 er]) W := by
  have h1 := run_loadVar_row (P := Tryz.prog) W Z 37 37 _ (0, 0) _ q Tryz.underlying37 rfl (by rw [qCells_size]; exact Tryz.infoQ)
  simp [results, Tryz.results13, t2, t3, asAddr, h1]
set_option maxRecDepth 20000 in
theorem run_queue_zero (w : World) : (Instr.build 37 #[]).run Tryz.prog w = .ok (qVal 0 0 0 (.slice none 0 0) (.slice none 0 0) zeroW) w := by
  simp [Instr.build, run_underlying Tryz.underlying37, Tryz.zeroValue37, go_sem]
  rfl
theorem q_build0 {ops : Array Oper} {rest : List Oper} {o : Oper} {a : Act} {Q : Exit → Act → World → Prop} {w : World} (ho : o.op = .build 37 #[]) (hw : Region.wanted o (yielded ops a.tmps) = true)
    (h : wpList Tryz.prog ops Q rest (a.put o.dst (qVal 0 0 0 (.slice none 0 0) (.slice none 0 0) zeroW)) w) : wpList Tryz.prog ops Q (o :: rest) a w :=
  wpList_step fun K hK => by
    rw [if_pos hw]
    have hrun := run_queue_zero w
    have := hK _ _ h
    unfold Oper.wp
    simp only [execOp, ho]
    simp only [List.map_toArray, List.map_nil]
    simp [hrun, Result.andThen]
    exact this
/-- all of a history, or up to an event that changes nothing. -/
structure Rp (w : World) (Z R : Nat) (T : TypeId) (tail : List Value) (es : List Ev) (k : Nat) (W : World) : Prop where
  told : ∃ s ans an, Tells (es.take k) s ans ∧ Tg W R T tail s an
  box : qBlock W Z 0 0 0 (.slice none 0 0) (.slice none 0 0) zeroW
  bel : Below w.heap.size w W
  upZ : w.heap.size ≤ Z
  upR : Z < R
/-- events that are no history: one may not be, or changes nothing. -/
def Stuck (es : List Ev) : Prop := ∃ k s ans, ∃ hk : k < es.length, Tells (es.take k) s ans ∧ (¬ es[k].Ok ∨ ∃ s' an, Step s es[k] s' an false)
structure Rj (w : World) (Z : Nat) (es : List Ev) (W : World) : Prop where
  stuck : Stuck es
  box : qBlock W Z 0 0 0 (.slice none 0 0) (.slice none 0 0) zeroW
  bel : Below w.heap.size w W
theorem Off.toBelow {R n : Nat} {w W W' : World} (o : Off R n W W') (b : Below w.heap.size w W) (hR : w.heap.size ≤ R) (hn : n = W.heap.size) : Below w.heap.size w W' :=
  ⟨o.os.trans b.os, o.tape.trans b.tape, o.output.trans b.output, Nat.le_trans b.size o.size, fun k hk => (o.block k (by have := b.size; omega) (by omega)).trans (b.block k hk)⟩
theorem Off.qbox {R n Z : Nat} {W W' : World} {ep nx gv : Int} {r l : Value} {ws : Nat → Value} (o : Off R n W W') (q : qBlock W Z ep nx gv r l ws) (hZ : Z ≠ R) (hn : n = W.heap.size) : qBlock W' Z ep nx gv r l ws := by
  have := q.lt
  unfold qBlock at q ⊢
  rw [o.block Z (by omega) hZ]; exact q
theorem tell_spec (w : World) (Z R : Nat) (T : TypeId) (es : List Ev) : EachSpec 38 (.pointer (some ⟨R, 0, none⟩)) es (Rp w Z R T [] es) (Rj w Z es) where
  enters := enters_of Tryz.func38 (by kernel_rfl) rfl
  step := by
    intro k hk W hI
    obtain ⟨s, ans, an, ht, hg⟩ := hI.told
    refine (tell_any s an es[k] W R T [] ht.wf.ok hg).mono ?_
    rintro e w' ⟨s', an', ch, er, rfl, st, h1, h2, o⟩
    have hZR := hI.upR
    have bel := o.toBelow hI.bel (by have := hI.upZ; omega) rfl
    have box := o.qbox hI.box (by omega) rfl
    cases st with
    | @step _ _ _ hv st =>
      cases ch with
      | true =>
        refine .inl ⟨rfl, ⟨s', ans ++ [an'], an', ?_, h1 rfl⟩, box, bel, hI.upZ, hI.upR⟩
        rw [List.take_succ_eq_append_getElem hk]
        exact .snoc ht hv st
      | false => exact .inr ⟨rfl, ⟨k, s, ans, hk, ht, .inr ⟨s', an', st⟩⟩, box, bel⟩
    | form _ hv h0 => exact .inr ⟨rfl, ⟨k, s, ans, hk, ht, .inl (fun hok => h0 (hv.symm.trans hok))⟩, box, bel⟩
  keep := by
    intro k W W' hI b
    obtain ⟨s, ans, an, ht, hg⟩ := hI.told
    exact ⟨⟨s, ans, an, ht, hg.next b⟩, hI.box.next b, Below.next hI.bel b, hI.upZ, hI.upR⟩
/-- what Replay answers. -/
inductive Rv (es : List Ev) : St → Int → Prop
  | size (h : 2000 < es.length) : Rv es St.zero 1
  | form (h : es.length ≤ 2000) (bad : Stuck es) : Rv es St.zero 3
  | told {s : St} (ans : List An) (h : es.length ≤ 2000) (ht : Tells es s ans) : Rv es s 0
theorem each_size (g R n : Nat) (a : Option Addr) (cap : Nat) (w : World) (hl : 2000 < n) :
    Calls Tryz.prog 37 #[.slice a n cap, .func (.func g) #[.pointer (some ⟨R, 0, none⟩)] #[]] w fun e w' => e = .returned (.int .i64 1) ∧ Below w.heap.size w w' := by
  go_enter Tryz.func37, Tryz.ntmps37
  go_wp2
  go_ret
  exact ⟨rfl, Below.refl _ _⟩
structure Rk (w : World) (Z : Nat) (es : List Ev) (er : Int) (W : World) : Prop where
  why : ¬ er = 0 ∧ Rv es St.zero er
  box : qBlock W Z 0 0 0 (.slice none 0 0) (.slice none 0 0) zeroW
  bel : Below w.heap.size w W
set_option maxRecDepth 20000 in
set_option maxHeartbeats 4000000 in
theorem replay_all (es : List Ev) (a : Option Addr) (cap : Nat) (w : World) (hr : RowK .i64 w a (6 * es.length) (evFlat es)) :
    Calls Tryz.prog 13 #[.slice a es.length cap] w fun e w' => ∃ x er s, e = .returned (.tuple #[x, .int .i64 er]) ∧ Rv es s er ∧ QOut w w' s x ∧ Below w.heap.size w w' := by
  go_enter Tryz.func13, Tryz.ntmps13
  go_upto_region 2 with (first
    | (refine q_alloc 2 rfl rfl rfl ?_; intro W1 z1 b1)
    | (refine t_alloc 4 rfl rfl rfl ?_; intro W2 g2 b2))
  have HE2 : Calls Tryz.prog 37 #[.slice a es.length cap, .func (.func 38) #[.pointer (some ⟨W1.heap.size, 0, none⟩)] #[]] W2 fun e w' => ∃ er : Int, e = .returned (.int .i64 er) ∧ Hid ((er = 0 ∧ es.length ≤ 2000 ∧ Rp w w.heap.size W1.heap.size 85 [] es es.length w') ∨ Rk w w.heap.size es er w') := by
    by_cases hl : es.length ≤ 2000
    · have I0 : Rp w w.heap.size W1.heap.size 85 [] es 0 W2 := ⟨⟨St.zero, [], An.zero, by simpa using Tells.nil, g2⟩, z1.next b2, Below.next b1 b2, Nat.le_refl _, z1.lt⟩
      refine (each_any 38 W1.heap.size es _ _ (tell_spec w w.heap.size W1.heap.size 85 es) a cap W2 I0 hl (fun k W hI => hr.below hI.bel)).mono ?_
      rintro e w' (⟨rfl, h1⟩ | ⟨rfl, h1⟩)
      · exact ⟨0, rfl, veil (.inl ⟨rfl, hl, h1⟩)⟩
      · exact ⟨3, rfl, veil (.inr ⟨⟨by decide, .form hl h1.stuck⟩, h1.box, h1.bel⟩)⟩
    · refine (each_size _ _ _ a cap W2 (by omega)).mono ?_
      rintro e w' ⟨rfl, b3⟩
      exact ⟨1, rfl, veil (.inr ⟨⟨by decide, .size (by omega)⟩, (z1.next b2).next b3, Below.next (Below.next b1 b2) b3⟩)⟩
  clear z1 b1 g2 b2
  go_upto_region 3 with (go_at_call 37; refine HE2.mono ?_; rintro e W3 ⟨er, rfl, HH⟩; clear HE2)
  rcases unveil HH with ⟨rfl, hl, hI⟩ | hJ
  · obtain ⟨s, ans, an, ht, hg⟩ := hI.told
    rw [List.take_length] at ht
    obtain ⟨a1, c1, a2, c2, ws, tb, r1, r2, n1, n2, hW, x1, x2, l1, l2⟩ := hg.ex
    have z3 := hI.box
    have B3 := hI.bel
    have hZR := hI.upR
    have HT := veil ht
    clear hI hg ht HH
    go_wp2_with (first
      | (refine tl_loads _ rfl rfl rfl tb ?_)
      | (refine q_store (ra := a1) (la := a2) (ws' := ws) _ _ rfl rfl rfl rfl z3 hW ?_; intro W4 q4 t4; have HQ4 := veil q4; have HT4 := veil t4; clear q4 t4))
    have t4 := unveil HT4
    exact bodyPost_ret (ret_Replay (unveil HQ4) rfl rfl) rfl ⟨_, 0, s, rfl, .told ans hl (unveil HT), ⟨a1, c1, a2, c2, ws, rfl, t4.row r1 (fun x hx _ => by have := x1 x hx; omega), t4.row r2 (fun x hx _ => by have := x2 x hx; omega), l1, l2, n1, n2, hW, fun x hx => by have := x1 x hx; omega, fun x hx => by have := x2 x hx; omega⟩, t4.under B3 (Nat.le_refl _)⟩
  · have z3 := hJ.box
    have B3 := hJ.bel
    have h0 := hJ.why.1
    have HS := veil hJ.why.2
    clear hJ HH
    go_wp2_with (first
      | (refine q_build0 rfl rfl ?_)
      | (refine q_store (ra := none) (la := none) (rn := 0) (rc := 0) (ln := 0) (lc := 0) (ws' := zeroW) _ _ rfl rfl rfl rfl z3 zeroWins ?_; intro W4 q4 t4; have HQ4 := veil q4; have HT4 := veil t4; clear q4 t4))
    have t4 := unveil HT4
    exact bodyPost_ret (ret_Replay (unveil HQ4) rfl rfl) rfl ⟨_, er, St.zero, rfl, unveil HS, ⟨none, 0, none, 0, zeroW, rfl, RowK.nil _ _ _, RowK.nil _ _ _, Nat.le_refl _, Nat.le_refl _, fun _ => rfl, fun _ => rfl, zeroWins, fun x hx => (by cases hx), fun x hx => (by cases hx)⟩, t4.under B3 (Nat.le_refl _)⟩
theorem replay_any (es : List Ev) (a : Option Addr) (cap : Nat) (w : World) (hr : RowK .i64 w a (6 * es.length) (evFlat es)) (hl : es.length ≤ 2000) (hok : ∀ v ∈ es, v.Ok) :
    Calls Tryz.prog 13 #[.slice a es.length cap] w fun e w' => ∃ x er, e = .returned (.tuple #[x, .int .i64 er]) ∧ Below w.heap.size w w' ∧
      ((er = 0 ∧ ∃ s ans, Tells es s ans ∧ QOut w w' s x) ∨ (er = 3 ∧ (∃ k s ans s' an, ∃ hk : k < es.length, Tells (es.take k) s ans ∧ Step s es[k] s' an false) ∧ QOut w w' St.zero x)) := by
  refine (replay_all es a cap w hr).mono ?_
  rintro e w' ⟨x, er, s, rfl, rv, q, b⟩
  cases rv with
  | size h => omega
  | form h bad =>
    obtain ⟨k, s, ans, hk, ht, h1 | ⟨s', an, st⟩⟩ := bad
    · exact absurd (hok _ (List.getElem_mem hk)) h1
    · exact ⟨x, 3, rfl, b, .inr ⟨rfl, ⟨k, s, ans, s', an, hk, ht, st⟩, q⟩⟩
  | told ans h ht => exact ⟨x, 0, rfl, b, .inl ⟨rfl, s, ans, ht, q⟩⟩
/-- who is stuck is no history. -/
theorem Tells.nostuck {es : List Ev} {s : St} {ans : List An} (h : Tells es s ans) (bad : Stuck es) : False := by
  obtain ⟨k, s0, ans0, hk, ht, h1⟩ := bad
  obtain ⟨s1, an1, st1, hv⟩ := h.step hk ht
  rcases h1 with h1 | ⟨s', an, st⟩
  · exact h1 hv
  · have := (st1.det ht.wf st).2.2
    cases this
/-- Replay's answer is one. -/
theorem Rv.one {es : List Ev} {s s' : St} {er er' : Int} (h : Rv es s er) (h' : Rv es s' er') : s = s' ∧ er = er' := by
  cases h with
  | size h => cases h' with
    | size => exact ⟨rfl, rfl⟩
    | form h2 => omega
    | told _ h2 => omega
  | form h bad => cases h' with
    | size h2 => omega
    | form => exact ⟨rfl, rfl⟩
    | told ans h2 ht => exact (ht.nostuck bad).elim
  | told ans h ht => cases h' with
    | size h2 => omega
    | form h2 bad => exact (ht.nostuck bad).elim
    | told ans2 h2 ht2 => exact ⟨(ht.one ht2).1, rfl⟩
end Go.Proofs.YtegbndllfnimdaaGreat

namespace Go.Proofs.YtegbndllfnimdaaGreat
open Go.RowKit

theorem Tells.counts {es : List Ev} {s : St} {ans : List An} (h : Tells es s ans) : s.nx = cnt es 1 ∧ s.ep = cnt es 4 ∧ s.rn + s.ln + cnt es 3 = cnt es 1 ∧ s.gv ≤ es.length := by
  induction h with
  | nil => exact ⟨rfl, rfl, rfl, by decide⟩
  | @snoc es s s' ans v an h hv st ih =>
    obtain ⟨i1, i2, i3, i4⟩ := ih
    have h1 := cnt_snoc es v 1
    have h3 := cnt_snoc es v 3
    have h4 := cnt_snoc es v 4
    have hl : (es ++ [v]).length = es.length + 1 := by simp
    cases st with
    | pub hk _ _ _ _ =>
      rw [hk] at h1 h3 h4
      simp at h1 h3 h4
      refine ⟨?_, ?_, ?_, ?_⟩
      · show s.nx + 1 = _; omega
      · show s.ep = _; omega
      · show s.rn + 1 + s.ln + _ = _; omega
      · show s.gv ≤ _; omega
    | recv hk _ _ =>
      rw [hk] at h1 h3 h4
      simp at h1 h3 h4
      refine ⟨?_, ?_, ?_, ?_⟩
      · show s.nx = _; omega
      · show s.ep = _; omega
      · show s.rn - 1 + (s.ln + 1) + _ = _; omega
      · show s.gv + 1 ≤ _; omega
    | ack hk _ m hm _ =>
      rw [hk] at h1 h3 h4
      simp at h1 h3 h4
      refine ⟨?_, ?_, ?_, ?_⟩
      · show s.nx = _; omega
      · show s.ep = _; omega
      · show s.rn + (s.ln - 1) + _ = _; omega
      · show s.gv ≤ _; omega
    | stop hk _ R' _ =>
      rw [hk] at h1 h3 h4
      simp at h1 h3 h4
      refine ⟨?_, ?_, ?_, ?_⟩
      · show s.nx = _; omega
      · show s.ep + 1 = _; omega
      · show s.rn + s.ln + 0 + _ = _; omega
      · show (0 : Int) ≤ _; omega
theorem Tells.len {es : List Ev} {s : St} {ans : List An} (h : Tells es s ans) : ans.length = es.length := by
  induction h with
  | nil => rfl
  | snoc h hv st ih => simp [ih]
/-- whoever is stuck is stuck at an event that changes nothing: not within a history. -/
theorem Tells.free {es : List Ev} {s : St} {ans : List An} (h : Tells es s ans) (bad : ∃ k s ans s' an, ∃ hk : k < es.length, Tells (es.take k) s ans ∧ Step s es[k] s' an false) : False := by
  obtain ⟨k, s0, ans0, s', an, hk, ht, st⟩ := bad
  obtain ⟨s1, an1, st1, _⟩ := h.step hk ht
  have := (st1.det ht.wf st).2.2
  cases this
theorem Tells.more {es : List Ev} {s : St} {ans : List An} (h : Tells es s ans) {v : Ev} (bad : ∃ k s ans s' an, ∃ hk : k < (es ++ [v]).length, Tells ((es ++ [v]).take k) s ans ∧ Step s (es ++ [v])[k] s' an false) : ∃ s' an, Step s v s' an false := by
  obtain ⟨k, s0, ans0, s', an, hk, ht, st⟩ := bad
  rcases Nat.lt_or_ge k es.length with h1 | h1
  · exfalso
    refine h.free ⟨k, s0, ans0, s', an, h1, ?_, ?_⟩
    · rw [List.take_append_of_le_length (by omega)] at ht; exact ht
    · rw [List.getElem_append_left h1] at st; exact st
  · have hk2 : k = es.length := by simp at hk; omega
    subst hk2
    rw [List.take_left' rfl] at ht
    obtain ⟨rfl, _⟩ := h.one ht
    rw [List.getElem_append_right (Nat.le_refl _)] at st
    simp at st
    exact ⟨s', an, st⟩
/-- Replay, of a list that is spelt by its length. -/
theorem replay_at (es : List Ev) (n : Nat) (hn : es.length = n) (a : Option Addr) (cap : Nat) (w : World) (hr : RowK .i64 w a (6 * n) (evFlat es)) (hl : n ≤ 2000) (hok : ∀ v ∈ es, v.Ok) :
    Calls Tryz.prog 13 #[.slice a n cap] w fun e w' => ∃ x er, e = .returned (.tuple #[x, .int .i64 er]) ∧ Below w.heap.size w w' ∧
      ((er = 0 ∧ ∃ s ans, Tells es s ans ∧ QOut w w' s x) ∨ (er = 3 ∧ (∃ k s ans s' an, ∃ hk : k < es.length, Tells (es.take k) s ans ∧ Step s es[k] s' an false) ∧ QOut w w' St.zero x)) := by
  subst hn
  exact replay_any es a cap w hr hl hok
/-- Replay of a history. -/
theorem replay_yes (es : List Ev) (n : Nat) (hn : es.length = n) (s : St) (ans : List An) (ht : Tells es s ans) (a : Option Addr) (cap : Nat) (w : World) (hr : RowK .i64 w a (6 * n) (evFlat es)) (hl : n ≤ 2000) (hok : ∀ v ∈ es, v.Ok) :
    Calls Tryz.prog 13 #[.slice a n cap] w fun e w' => ∃ x, e = .returned (.tuple #[x, .int .i64 0]) ∧ QOut w w' s x ∧ Below w.heap.size w w' := by
  refine (replay_at es n hn a cap w hr hl hok).mono ?_
  rintro e w' ⟨x, er, rfl, b, ⟨rfl, s1, ans1, h1, q⟩ | ⟨rfl, h1, _⟩⟩
  · obtain ⟨rfl, _⟩ := ht.one h1
    exact ⟨x, rfl, q, b⟩
  · exact absurd h1 (fun h => ht.free h)
/-- Replay of a history with an event behind it that changes nothing. -/
theorem replay_no (es : List Ev) (v : Ev) (n : Nat) (hn : (es ++ [v]).length = n) (s : St) (ans : List An) (ht : Tells es s ans) (hv : ∀ s' an, ¬ Step s v s' an true) (a : Option Addr) (cap : Nat) (w : World) (hr : RowK .i64 w a (6 * n) (evFlat (es ++ [v]))) (hl : n ≤ 2000) (hok : ∀ u ∈ es ++ [v], u.Ok) :
    Calls Tryz.prog 13 #[.slice a n cap] w fun e w' => ∃ x, e = .returned (.tuple #[x, .int .i64 3]) ∧ QOut w w' St.zero x ∧ Below w.heap.size w w' := by
  refine (replay_at (es ++ [v]) n hn a cap w hr hl hok).mono ?_
  rintro e w' ⟨x, er, rfl, b, ⟨rfl, s1, ans1, h1, q⟩ | ⟨rfl, h1, q⟩⟩
  · obtain ⟨s0, ans0, an, h2, _, st, _⟩ := h1.last
    obtain ⟨rfl, _⟩ := ht.one h2
    exact absurd st (hv _ _)
  · exact ⟨x, rfl, q, b⟩
end Go.Proofs.YtegbndllfnimdaaGreat
