/- The walk of history.Replay, where events may be. -/
import Derived.Test.YtlfecmkpafgcmaaHsD
import Derived.Test.YtlfecmkpafgcmaaQkG
namespace Go.Proofs.Ytlfecmkpafgcmaa
open Go.RowKit

abbrev ztCells : Array Value := #[.int .i64 0, .int .i64 0, .int .i64 0, .slice none 0 0, .slice none 0 0, .int .i64 0, .bool false, .bool false, .bool false, .bool false, .bool false, .bool false, .bool false, .bool false, .int .i64 0, .bool false, .bool false, .bool false, .bool false, .bool false, .bool false, .bool false, .bool false, .int .i64 0, .bool false, .bool false, .bool false, .bool false, .bool false, .bool false, .bool false, .bool false, .int .i64 0, .bool false, .bool false, .bool false, .bool false, .bool false, .bool false, .bool false, .bool false, .int .i64 0, .int .i64 0, .int .i64 0, .int .i64 0]
theorem zt_eq : ztCells = (tlList 0 0 0 (.slice none 0 0) (.slice none 0 0) zeroW 0 0 0 0 []).toArray := rfl
theorem tg_zero {w W : World} {T : TypeId} (h : W = w.alloc (.cells ztCells T)) : Tg W w.heap.size T [] St.zero An.zero ∧ Below w.heap.size w W := by
  subst h
  refine ⟨⟨none, 0, none, 0, zeroW, ?_, RowK.nil _ _ _, RowK.nil _ _ _, fun _ => rfl, fun _ => rfl, zeroWins, fun x hx => (by cases hx), fun x hx => (by cases hx), Nat.le_refl _, Nat.le_refl _⟩, below1 _ _⟩
  unfold tlBlock
  rw [heap_alloc_new, zt_eq]
  rfl
theorem t_alloc {ops : Array Oper} {rest : List Oper} {o : Oper} {a : Act} {Q : Exit → Act → World → Prop} {w : World} (d : Nat) (ho : o.op = .alloc 72) (hd : o.dst = some d) (hw : Region.wanted o (yielded ops a.tmps) = true)
    (h : ∀ w', Tg w' w.heap.size 72 [] St.zero An.zero → Below w.heap.size w w' → wpList Try.prog ops Q rest (a.put (some d) (.pointer (some ⟨w.heap.size, 0, none⟩))) w') : wpList Try.prog ops Q (o :: rest) a w :=
  wpList_step fun K hK => by
    rw [if_pos hw]
    obtain ⟨z1, z2⟩ := tg_zero (w := w) (T := 72) rfl
    have := hK _ _ (h _ z1 z2)
    rw [← hd] at this
    unfold Oper.wp
    simp only [execOp, ho]
    simpa [go_sem] using this
theorem tl_loads {ops : Array Oper} {rest : List Oper} {o : Oper} {a : Act} {Q : Exit → Act → World → Prop} {w : World} {R : Nat} {T : TypeId} {ep nx gv : Int} {r l : Value} {ws : Nat → Value} {c he no bd : Int} {tail : List Value} (x : Operand) (ho : o.op = .load 38 x) (hw : Region.wanted o (yielded ops a.tmps) = true) (hx : a.eval x = .pointer (some ⟨R, 0, none⟩)) (tb : tlBlock w R T ep nx gv r l ws c he no bd tail)
    (h : wpList Try.prog ops Q rest (a.put o.dst (qVal ep nx gv r l ws)) w) : wpList Try.prog ops Q (o :: rest) a w :=
  wpList_step fun K hK => by
    rw [if_pos hw]
    exact wp_load_mid 38 x ho R 0 hx (qList ep nx gv r l ws) _ tb.range Try.underlying38 rfl (by rw [qList_len]; kernel_rfl) (hK _ _ h)
theorem ret_Replay {W : World} {Z : Nat} {ep nx gv : Int} {r l : Value} {ws : Nat → Value} {er : Int} {tmps : Array Value} (q : qBlock W Z ep nx gv r l ws) (t2 : tmps[2]? = some (.pointer (some ⟨Z, 0, none⟩))) (t3 : tmps[3]? = some (.int .i64 er)) :
    (results Try.f11 tmps).run Try.prog W = .ok (.tuple #[qVal ep nx gv r l ws, .int .i64 er]) W := by
  have h1 := run_loadVar_row (P := Try.prog) W Z 38 38 _ (0, 0) _ q Try.underlying38 rfl (by rw [qCells_size]; exact Try.infoQ)
  simp [results, Try.results11, t2, t3, asAddr, h1]
set_option maxRecDepth 20000 in
theorem run_queue_zero (w : World) : (Instr.build 38 #[]).run Try.prog w = .ok (qVal 0 0 0 (.slice none 0 0) (.slice none 0 0) zeroW) w := by
  simp [Instr.build, run_underlying Try.underlying38, Try.zeroValue38, go_sem]
  rfl
theorem q_build0 {ops : Array Oper} {rest : List Oper} {o : Oper} {a : Act} {Q : Exit → Act → World → Prop} {w : World} (ho : o.op = .build 38 #[]) (hw : Region.wanted o (yielded ops a.tmps) = true)
    (h : wpList Try.prog ops Q rest (a.put o.dst (qVal 0 0 0 (.slice none 0 0) (.slice none 0 0) zeroW)) w) : wpList Try.prog ops Q (o :: rest) a w :=
  wpList_step fun K hK => by
    rw [if_pos hw]
    have hrun := run_queue_zero w
    have := hK _ _ h
    unfold Oper.wp
    simp only [execOp, ho]
    simp only [List.map_toArray, List.map_nil]
    simp [hrun, Result.andThen]
    exact this
/-- all of a history, or up to an event that changes nothing. -/
structure Rp (w : World) (Z R : Nat) (T : TypeId) (tail : List Value) (es : List Ev) (k : Nat) (W : World) : Prop where
  told : ∃ s ans an, Tells (es.take k) s ans ∧ Tg W R T tail s an
  box : qBlock W Z 0 0 0 (.slice none 0 0) (.slice none 0 0) zeroW
  bel : Below w.heap.size w W
  upZ : w.heap.size ≤ Z
  upR : Z < R
/-- events that are no history: one may not be, or changes nothing. -/
def Stuck (es : List Ev) : Prop := ∃ k s ans, ∃ hk : k < es.length, Tells (es.take k) s ans ∧ (¬ es[k].Ok ∨ ∃ s' an, Step s es[k] s' an false)
structure Rj (w : World) (Z : Nat) (es : List Ev) (W : World) : Prop where
  stuck : Stuck es
  box : qBlock W Z 0 0 0 (.slice none 0 0) (.slice none 0 0) zeroW
  bel : Below w.heap.size w W
theorem Off.toBelow {R n : Nat} {w W W' : World} (o : Off R n W W') (b : Below w.heap.size w W) (hR : w.heap.size ≤ R) (hn : n = W.heap.size) : Below w.heap.size w W' :=
  ⟨o.os.trans b.os, o.tape.trans b.tape, o.output.trans b.output, Nat.le_trans b.size o.size, fun k hk => (o.block k (by have := b.size; omega) (by omega)).trans (b.block k hk)⟩
theorem Off.qbox {R n Z : Nat} {W W' : World} {ep nx gv : Int} {r l : Value} {ws : Nat → Value} (o : Off R n W W') (q : qBlock W Z ep nx gv r l ws) (hZ : Z ≠ R) (hn : n = W.heap.size) : qBlock W' Z ep nx gv r l ws := by
  have := q.lt
  unfold qBlock at q ⊢
  rw [o.block Z (by omega) hZ]; exact q
theorem tell_spec (w : World) (Z R : Nat) (T : TypeId) (es : List Ev) : EachSpec 29 (.pointer (some ⟨R, 0, none⟩)) es (Rp w Z R T [] es) (Rj w Z es) where
  enters := enters_of Try.func29 (by kernel_rfl) rfl
  step := by
    intro k hk W hI
    obtain ⟨s, ans, an, ht, hg⟩ := hI.told
    refine (tell_any s an es[k] W R T [] ht.wf.ok hg).mono ?_
    rintro e w' ⟨s', an', ch, er, rfl, st, h1, h2, o⟩
    have hZR := hI.upR
    have bel := o.toBelow hI.bel (by have := hI.upZ; omega) rfl
    have box := o.qbox hI.box (by omega) rfl
    cases st with
    | @step _ _ _ hv st =>
      cases ch with
      | true =>
        refine .inl ⟨rfl, ⟨s', ans ++ [an'], an', ?_, h1 rfl⟩, box, bel, hI.upZ, hI.upR⟩
        rw [List.take_succ_eq_append_getElem hk]
        exact .snoc ht hv st
      | false => exact .inr ⟨rfl, ⟨k, s, ans, hk, ht, .inr ⟨s', an', st⟩⟩, box, bel⟩
    | form _ hv h0 => exact .inr ⟨rfl, ⟨k, s, ans, hk, ht, .inl (fun hok => h0 (hv.symm.trans hok))⟩, box, bel⟩
  keep := by
    intro k W W' hI b
    obtain ⟨s, ans, an, ht, hg⟩ := hI.told
    exact ⟨⟨s, ans, an, ht, hg.next b⟩, hI.box.next b, Below.next hI.bel b, hI.upZ, hI.upR⟩
/-- what Replay answers. -/
inductive Rv (es : List Ev) : St → Int → Prop
  | size (h : 2000 < es.length) : Rv es St.zero 1
  | form (h : es.length ≤ 2000) (bad : Stuck es) : Rv es St.zero 3
  | told {s : St} (ans : List An) (h : es.length ≤ 2000) (ht : Tells es s ans) : Rv es s 0
theorem each_size (g R n : Nat) (a : Option Addr) (cap : Nat) (w : World) (hl : 2000 < n) :
    Calls Try.prog 22 #[.slice a n cap, .func (.func g) #[.pointer (some ⟨R, 0, none⟩)] #[]] w fun e w' => e = .returned (.int .i64 1) ∧ Below w.heap.size w w' := by
  go_enter Try.func22, Try.ntmps22
  go_wp2
  go_ret
  exact ⟨rfl, Below.refl _ _⟩
structure Rk (w : World) (Z : Nat) (es : List Ev) (er : Int) (W : World) : Prop where
  why : ¬ er = 0 ∧ Rv es St.zero er
  box : qBlock W Z 0 0 0 (.slice none 0 0) (.slice none 0 0) zeroW
  bel : Below w.heap.size w W
set_option maxRecDepth 20000 in
set_option maxHeartbeats 4000000 in
theorem replay_all (es : List Ev) (a : Option Addr) (cap : Nat) (w : World) (hr : RowK .i64 w a (6 * es.length) (evFlat es)) :
    Calls Try.prog 11 #[.slice a es.length cap] w fun e w' => ∃ x er s, e = .returned (.tuple #[x, .int .i64 er]) ∧ Rv es s er ∧ QOut w w' s x ∧ Below w.heap.size w w' := by
  go_enter Try.func11, Try.ntmps11
  go_upto_region 2 with (first
    | (refine q_alloc 2 rfl rfl rfl ?_; intro W1 z1 b1)
    | (refine t_alloc 4 rfl rfl rfl ?_; intro W2 g2 b2))
  have HE2 : Calls Try.prog 22 #[.slice a es.length cap, .func (.func 29) #[.pointer (some ⟨W1.heap.size, 0, none⟩)] #[]] W2 fun e w' => ∃ er : Int, e = .returned (.int .i64 er) ∧ Hid ((er = 0 ∧ es.length ≤ 2000 ∧ Rp w w.heap.size W1.heap.size 72 [] es es.length w') ∨ Rk w w.heap.size es er w') := by
    by_cases hl : es.length ≤ 2000
    · have I0 : Rp w w.heap.size W1.heap.size 72 [] es 0 W2 := ⟨⟨St.zero, [], An.zero, by simpa using Tells.nil, g2⟩, z1.next b2, Below.next b1 b2, Nat.le_refl _, z1.lt⟩
      refine (each_any 29 W1.heap.size es _ _ (tell_spec w w.heap.size W1.heap.size 72 es) a cap W2 I0 hl (fun k W hI => hr.below hI.bel)).mono ?_
      rintro e w' (⟨rfl, h1⟩ | ⟨rfl, h1⟩)
      · exact ⟨0, rfl, veil (.inl ⟨rfl, hl, h1⟩)⟩
      · exact ⟨3, rfl, veil (.inr ⟨⟨by decide, .form hl h1.stuck⟩, h1.box, h1.bel⟩)⟩
    · refine (each_size _ _ _ a cap W2 (by omega)).mono ?_
      rintro e w' ⟨rfl, b3⟩
      exact ⟨1, rfl, veil (.inr ⟨⟨by decide, .size (by omega)⟩, (z1.next b2).next b3, Below.next (Below.next b1 b2) b3⟩)⟩
  clear z1 b1 g2 b2
  go_upto_region 3 with (go_at_call 22; refine HE2.mono ?_; rintro e W3 ⟨er, rfl, HH⟩; clear HE2)
  rcases unveil HH with ⟨rfl, hl, hI⟩ | hJ
  · obtain ⟨s, ans, an, ht, hg⟩ := hI.told
    rw [List.take_length] at ht
    obtain ⟨a1, c1, a2, c2, ws, tb, r1, r2, n1, n2, hW, x1, x2, l1, l2⟩ := hg.ex
    have z3 := hI.box
    have B3 := hI.bel
    have hZR := hI.upR
    have HT := veil ht
    clear hI hg ht HH
    go_wp2_with (first
      | (refine tl_loads _ rfl rfl rfl tb ?_)
      | (refine q_store (ra := a1) (la := a2) (ws' := ws) _ _ rfl rfl rfl rfl z3 hW ?_; intro W4 q4 t4; have HQ4 := veil q4; have HT4 := veil t4; clear q4 t4))
    have t4 := unveil HT4
    exact bodyPost_ret (ret_Replay (unveil HQ4) rfl rfl) rfl ⟨_, 0, s, rfl, .told ans hl (unveil HT), ⟨a1, c1, a2, c2, ws, rfl, t4.row r1 (fun x hx _ => by have := x1 x hx; omega), t4.row r2 (fun x hx _ => by have := x2 x hx; omega), l1, l2, n1, n2, hW, fun x hx => by have := x1 x hx; omega, fun x hx => by have := x2 x hx; omega⟩, t4.under B3 (Nat.le_refl _)⟩
  · have z3 := hJ.box
    have B3 := hJ.bel
    have h0 := hJ.why.1
    have HS := veil hJ.why.2
    clear hJ HH
    go_wp2_with (first
      | (refine q_build0 rfl rfl ?_)
      | (refine q_store (ra := none) (la := none) (rn := 0) (rc := 0) (ln := 0) (lc := 0) (ws' := zeroW) _ _ rfl rfl rfl rfl z3 zeroWins ?_; intro W4 q4 t4; have HQ4 := veil q4; have HT4 := veil t4; clear q4 t4))
    have t4 := unveil HT4
    exact bodyPost_ret (ret_Replay (unveil HQ4) rfl rfl) rfl ⟨_, er, St.zero, rfl, unveil HS, ⟨none, 0, none, 0, zeroW, rfl, RowK.nil _ _ _, RowK.nil _ _ _, Nat.le_refl _, Nat.le_refl _, fun _ => rfl, fun _ => rfl, zeroWins, fun x hx => (by cases hx), fun x hx => (by cases hx)⟩, t4.under B3 (Nat.le_refl _)⟩
theorem replay_any (es : List Ev) (a : Option Addr) (cap : Nat) (w : World) (hr : RowK .i64 w a (6 * es.length) (evFlat es)) (hl : es.length ≤ 2000) (hok : ∀ v ∈ es, v.Ok) :
    Calls Try.prog 11 #[.slice a es.length cap] w fun e w' => ∃ x er, e = .returned (.tuple #[x, .int .i64 er]) ∧ Below w.heap.size w w' ∧
      ((er = 0 ∧ ∃ s ans, Tells es s ans ∧ QOut w w' s x) ∨ (er = 3 ∧ (∃ k s ans s' an, ∃ hk : k < es.length, Tells (es.take k) s ans ∧ Step s es[k] s' an false) ∧ QOut w w' St.zero x)) := by
  refine (replay_all es a cap w hr).mono ?_
  rintro e w' ⟨x, er, s, rfl, rv, q, b⟩
  cases rv with
  | size h => omega
  | form h bad =>
    obtain ⟨k, s, ans, hk, ht, h1 | ⟨s', an, st⟩⟩ := bad
    · exact absurd (hok _ (List.getElem_mem hk)) h1
    · exact ⟨x, 3, rfl, b, .inr ⟨rfl, ⟨k, s, ans, s', an, hk, ht, st⟩, q⟩⟩
  | told ans h ht => exact ⟨x, 0, rfl, b, .inl ⟨rfl, s, ans, ht, q⟩⟩
/-- who is stuck is no history. -/
theorem Tells.nostuck {es : List Ev} {s : St} {ans : List An} (h : Tells es s ans) (bad : Stuck es) : False := by
  obtain ⟨k, s0, ans0, hk, ht, h1⟩ := bad
  obtain ⟨s1, an1, st1, hv⟩ := h.step hk ht
  rcases h1 with h1 | ⟨s', an, st⟩
  · exact h1 hv
  · have := (st1.det ht.wf st).2.2
    cases this
/-- Replay's answer is one. -/
theorem Rv.one {es : List Ev} {s s' : St} {er er' : Int} (h : Rv es s er) (h' : Rv es s' er') : s = s' ∧ er = er' := by
  cases h with
  | size h => cases h' with
    | size => exact ⟨rfl, rfl⟩
    | form h2 => omega
    | told _ h2 => omega
  | form h bad => cases h' with
    | size h2 => omega
    | form => exact ⟨rfl, rfl⟩
    | told ans h2 ht => exact (ht.nostuck bad).elim
  | told ans h ht => cases h' with
    | size h2 => omega
    | form h2 bad => exact (ht.nostuck bad).elim
    | told ans2 h2 ht2 => exact ⟨(ht.one ht2).1, rfl⟩
end Go.Proofs.Ytlfecmkpafgcmaa
