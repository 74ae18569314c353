/- The walk of history.Replay, where events may be. -/
import Derived.Test.YtkeipknbcjkomaaHsD
import Derived.Test.YtkeipknbcjkomaaQkG
namespace Go.Proofs.Ytkeipknbcjkomaa
open Go.RowKit

abbrev ztCells : Array Value := #[.int .i64 0, .int .i64 0, .int .i64 0, .slice none 0 0, .slice none 0 0, .int .i64 0, .bool false, .bool false, .bool false, .bool false, .bool false, .bool false, .bool false, .bool false, .int .i64 0, .bool false, .bool false, .bool false, .bool false, .bool false, .bool false, .bool false, .bool false, .int .i64 0, .bool false, .bool false, .bool false, .bool false, .bool false, .bool false, .bool false, .bool false, .int .i64 0, .bool false, .bool false, .bool false, .bool false, .bool false, .bool false, .bool false, .bool false, .int .i64 0, .int .i64 0, .int .i64 0, .int .i64 0]
theorem zt_eq : ztCells = (tlList 0 0 0 (.slice none 0 0) (.slice none 0 0) zeroW 0 0 0 0 []).toArray := rfl
def An.zero : An := ⟨0, 0, 0, 0⟩
theorem tg_zero {w W : World} {T : TypeId} (h : W = w.alloc (.cells ztCells T)) : Tg W w.heap.size T [] St.zero An.zero ∧ Below w.heap.size w W := by
  subst h
  refine ⟨⟨none, 0, none, 0, zeroW, ?_, RowK.nil _ _ _, RowK.nil _ _ _, fun _ => rfl, fun _ => rfl, zeroWins, fun x hx => (by cases hx), fun x hx => (by cases hx), Nat.le_refl _, Nat.le_refl _⟩, below1 _ _⟩
  unfold tlBlock
  rw [heap_alloc_new, zt_eq]
  rfl
theorem t_alloc {ops : Array Oper} {rest : List Oper} {o : Oper} {a : Act} {Q : Exit → Act → World → Prop} {w : World} (d : Nat) (ho : o.op = .alloc 78) (hd : o.dst = some d) (hw : Region.wanted o (yielded ops a.tmps) = true)
    (h : ∀ w', Tg w' w.heap.size 78 [] St.zero An.zero → Below w.heap.size w w' → wpList Try.prog ops Q rest (a.put (some d) (.pointer (some ⟨w.heap.size, 0, none⟩))) w') : wpList Try.prog ops Q (o :: rest) a w :=
  wpList_step fun K hK => by
    rw [if_pos hw]
    obtain ⟨z1, z2⟩ := tg_zero (w := w) (T := 78) rfl
    have := hK _ _ (h _ z1 z2)
    rw [← hd] at this
    unfold Oper.wp
    simp only [execOp, ho]
    simpa [go_sem] using this
theorem tl_loads {ops : Array Oper} {rest : List Oper} {o : Oper} {a : Act} {Q : Exit → Act → World → Prop} {w : World} {R : Nat} {T : TypeId} {ep nx gv : Int} {r l : Value} {ws : Nat → Value} {c he no bd : Int} {tail : List Value} (x : Operand) (ho : o.op = .load 30 x) (hw : Region.wanted o (yielded ops a.tmps) = true) (hx : a.eval x = .pointer (some ⟨R, 0, none⟩)) (tb : tlBlock w R T ep nx gv r l ws c he no bd tail)
    (h : wpList Try.prog ops Q rest (a.put o.dst (qVal ep nx gv r l ws)) w) : wpList Try.prog ops Q (o :: rest) a w :=
  wpList_step fun K hK => by
    rw [if_pos hw]
    exact wp_load_mid 30 x ho R 0 hx (qList ep nx gv r l ws) _ tb.range Try.underlying30 rfl (by rw [qList_len]; kernel_rfl) (hK _ _ h)
theorem ret_Replay {W : World} {Z : Nat} {ep nx gv : Int} {r l : Value} {ws : Nat → Value} {er : Int} {tmps : Array Value} (q : qBlock W Z ep nx gv r l ws) (t2 : tmps[2]? = some (.pointer (some ⟨Z, 0, none⟩))) (t3 : tmps[3]? = some (.int .i64 er)) :
    (results Try.f20 tmps).run Try.prog W = .ok (.tuple #[qVal ep nx gv r l ws, .int .i64 er]) W := by
  have h1 := run_loadVar_row (P := Try.prog) W Z 30 30 _ (0, 0) _ q Try.underlying30 rfl (by rw [qCells_size]; exact Try.infoQ)
  simp [results, Try.results20, t2, t3, asAddr, h1]
set_option maxRecDepth 20000 in
theorem run_queue_zero (w : World) : (Instr.build 30 #[]).run Try.prog w = .ok (qVal 0 0 0 (.slice none 0 0) (.slice none 0 0) zeroW) w := by
  simp [Instr.build, run_underlying Try.underlying30, Try.zeroValue30, go_sem]
  rfl
theorem q_build0 {ops : Array Oper} {rest : List Oper} {o : Oper} {a : Act} {Q : Exit → Act → World → Prop} {w : World} (ho : o.op = .build 30 #[]) (hw : Region.wanted o (yielded ops a.tmps) = true)
    (h : wpList Try.prog ops Q rest (a.put o.dst (qVal 0 0 0 (.slice none 0 0) (.slice none 0 0) zeroW)) w) : wpList Try.prog ops Q (o :: rest) a w :=
  wpList_step fun K hK => by
    rw [if_pos hw]
    have hrun := run_queue_zero w
    have := hK _ _ h
    unfold Oper.wp
    simp only [execOp, ho]
    simp only [List.map_toArray, List.map_nil]
    simp [hrun, Result.andThen]
    exact this
/-- all of a history, or up to an event that changes nothing. -/
structure Rp (w : World) (Z R : Nat) (T : TypeId) (tail : List Value) (es : List Ev) (k : Nat) (W : World) : Prop where
  told : ∃ s ans an, Tells (es.take k) s ans ∧ Tg W R T tail s an
  box : qBlock W Z 0 0 0 (.slice none 0 0) (.slice none 0 0) zeroW
  bel : Below w.heap.size w W
  upZ : w.heap.size ≤ Z
  upR : Z < R
structure Rj (w : World) (Z : Nat) (es : List Ev) (W : World) : Prop where
  stuck : ∃ k s ans s' an, ∃ hk : k < es.length, Tells (es.take k) s ans ∧ Step s es[k] s' an false
  box : qBlock W Z 0 0 0 (.slice none 0 0) (.slice none 0 0) zeroW
  bel : Below w.heap.size w W
theorem Off.toBelow {R n : Nat} {w W W' : World} (o : Off R n W W') (b : Below w.heap.size w W) (hR : w.heap.size ≤ R) (hn : n = W.heap.size) : Below w.heap.size w W' :=
  ⟨o.os.trans b.os, o.tape.trans b.tape, o.output.trans b.output, Nat.le_trans b.size o.size, fun k hk => (o.block k (by have := b.size; omega) (by omega)).trans (b.block k hk)⟩
theorem Off.qbox {R n Z : Nat} {W W' : World} {ep nx gv : Int} {r l : Value} {ws : Nat → Value} (o : Off R n W W') (q : qBlock W Z ep nx gv r l ws) (hZ : Z ≠ R) (hn : n = W.heap.size) : qBlock W' Z ep nx gv r l ws := by
  have := q.lt
  unfold qBlock at q ⊢
  rw [o.block Z (by omega) hZ]; exact q
theorem tell_spec (w : World) (Z R : Nat) (T : TypeId) (es : List Ev) (hok : ∀ v ∈ es, v.Ok) : EachSpec 33 (.pointer (some ⟨R, 0, none⟩)) es (Rp w Z R T [] es) (Rj w Z es) where
  enters := enters_of Try.func33 (by kernel_rfl) rfl
  step := by
    intro k hk W hI
    obtain ⟨s, ans, an, ht, hg⟩ := hI.told
    refine (tell_any s an es[k] W R T [] ht.wf.ok (hok _ (List.getElem_mem hk)) hg).mono ?_
    rintro e w' ⟨s', an', ch, rfl, st, h1, h2, o⟩
    have hZR := hI.upR
    have bel := o.toBelow hI.bel (by have := hI.upZ; omega) rfl
    have box := o.qbox hI.box (by omega) rfl
    cases ch with
    | true =>
      refine .inl ⟨rfl, ⟨s', ans ++ [an'], an', ?_, h1 rfl⟩, box, bel, hI.upZ, hI.upR⟩
      rw [List.take_succ_eq_append_getElem hk]
      exact .snoc ht (hok _ (List.getElem_mem hk)) st
    | false => exact .inr ⟨rfl, ⟨k, s, ans, s', an', hk, ht, st⟩, box, bel⟩
  keep := by
    intro k W W' hI b
    obtain ⟨s, ans, an, ht, hg⟩ := hI.told
    exact ⟨⟨s, ans, an, ht, hg.next b⟩, hI.box.next b, Below.next hI.bel b, hI.upZ, hI.upR⟩
set_option maxRecDepth 20000 in
set_option maxHeartbeats 4000000 in
theorem replay_any (es : List Ev) (a : Option Addr) (cap : Nat) (w : World) (hr : RowK .i64 w a (6 * es.length) (evFlat es)) (hl : es.length ≤ 2000) (hok : ∀ v ∈ es, v.Ok) :
    Calls Try.prog 20 #[.slice a es.length cap] w fun e w' => ∃ x er, e = .returned (.tuple #[x, .int .i64 er]) ∧ Below w.heap.size w w' ∧
      ((er = 0 ∧ ∃ s ans, Tells es s ans ∧ QOut w w' s x) ∨ (er = 3 ∧ (∃ k s ans s' an, ∃ hk : k < es.length, Tells (es.take k) s ans ∧ Step s es[k] s' an false) ∧ QOut w w' St.zero x)) := by
  go_enter Try.func20, Try.ntmps20
  go_upto_region 2 with (first
    | (refine q_alloc 2 rfl rfl rfl ?_; intro W1 z1 b1)
    | (refine t_alloc 4 rfl rfl rfl ?_; intro W2 g2 b2))
  have I0 : Rp w w.heap.size W1.heap.size 78 [] es 0 W2 := ⟨⟨St.zero, [], An.zero, by simpa using Tells.nil, g2⟩, z1.next b2, Below.next b1 b2, Nat.le_refl _, z1.lt⟩
  have HE := each_any 33 W1.heap.size es _ _ (tell_spec w w.heap.size W1.heap.size 78 es hok) a cap W2 I0 hl (fun k W hI => hr.below hI.bel)
  clear z1 b1 g2 b2 I0
  have HE2 : Calls Try.prog 32 #[.slice a es.length cap, .func (.func 33) #[.pointer (some ⟨W1.heap.size, 0, none⟩)] #[]] W2 fun e w' => ∃ er : Int, e = .returned (.int .i64 er) ∧ Hid ((er = 0 ∧ Rp w w.heap.size W1.heap.size 78 [] es es.length w') ∨ (er = 3 ∧ Rj w w.heap.size es w')) := HE.mono (by
    rintro e w' (⟨rfl, h1⟩ | ⟨rfl, h1⟩)
    · exact ⟨0, rfl, veil (.inl ⟨rfl, h1⟩)⟩
    · exact ⟨3, rfl, veil (.inr ⟨rfl, h1⟩)⟩)
  clear HE
  go_upto_region 3 with (go_at_call 32; refine HE2.mono ?_; rintro e W3 ⟨er, rfl, HH⟩; clear HE2)
  rcases unveil HH with ⟨rfl, hI⟩ | ⟨rfl, hJ⟩
  · obtain ⟨s, ans, an, ht, hg⟩ := hI.told
    rw [List.take_length] at ht
    obtain ⟨a1, c1, a2, c2, ws, tb, r1, r2, n1, n2, hW, x1, x2, l1, l2⟩ := hg.ex
    have z3 := hI.box
    have B3 := hI.bel
    have hZR := hI.upR
    have HT := veil ht
    clear hI hg ht HH
    go_wp2_with (first
      | (refine tl_loads _ rfl rfl rfl tb ?_)
      | (refine q_store (ra := a1) (la := a2) (ws' := ws) _ _ rfl rfl rfl rfl z3 hW ?_; intro W4 q4 t4; have HQ4 := veil q4; have HT4 := veil t4; clear q4 t4))
    have t4 := unveil HT4
    exact bodyPost_ret (ret_Replay (unveil HQ4) rfl rfl) rfl ⟨_, 0, rfl, t4.under B3 (Nat.le_refl _), .inl ⟨rfl, s, ans, unveil HT, ⟨a1, c1, a2, c2, ws, rfl, t4.row r1 (fun x hx _ => by have := x1 x hx; omega), t4.row r2 (fun x hx _ => by have := x2 x hx; omega), l1, l2, n1, n2, hW, fun x hx => by have := x1 x hx; omega, fun x hx => by have := x2 x hx; omega⟩⟩⟩
  · have z3 := hJ.box
    have B3 := hJ.bel
    have HS := veil hJ.stuck
    clear hJ HH
    go_wp2_with (first
      | (refine q_build0 rfl rfl ?_)
      | (refine q_store (ra := none) (la := none) (rn := 0) (rc := 0) (ln := 0) (lc := 0) (ws' := zeroW) _ _ rfl rfl rfl rfl z3 zeroWins ?_; intro W4 q4 t4; have HQ4 := veil q4; have HT4 := veil t4; clear q4 t4))
    have t4 := unveil HT4
    exact bodyPost_ret (ret_Replay (unveil HQ4) rfl rfl) rfl ⟨_, 3, rfl, t4.under B3 (Nat.le_refl _), .inr ⟨rfl, unveil HS, ⟨none, 0, none, 0, zeroW, rfl, RowK.nil _ _ _, RowK.nil _ _ _, Nat.le_refl _, Nat.le_refl _, fun _ => rfl, fun _ => rfl, zeroWins, fun x hx => (by cases hx), fun x hx => (by cases hx)⟩⟩⟩
end Go.Proofs.Ytkeipknbcjkomaa
