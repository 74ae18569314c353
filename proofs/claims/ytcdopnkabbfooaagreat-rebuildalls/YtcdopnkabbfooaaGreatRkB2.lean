/- Texts put together: BeH, BeI, QaG, BeJ. -/
import Derived.Test.YtcdopnkabbfooaaGreatRaLow
namespace Go.Proofs.YtcdopnkabbfooaaGreat
open Go.RowKit

def askOf (v : Ev) : Int := if ¬ eventFault v.k v.p v.i v.b v.he v.hn = 0 then eventFault v.k v.p v.i v.b v.he v.hn else if v.k = 4 then 3 else 0
theorem mayAsk_any (v : Ev) (w : World) : Calls Tryz.prog 68 #[evIn v] w fun x w' => x = .returned (.int .i64 (askOf v)) ∧ Below w.heap.size w w' := by
  have HC := fun w => check_any v.k v.p v.i v.b v.he v.hn w
  obtain ⟨f, hf⟩ : ∃ f, eventFault v.k v.p v.i v.b v.he v.hn = f := ⟨_, rfl⟩
  rw [hf] at HC
  by_cases h0 : f = 0
  · by_cases h1 : v.k = 4
    · rw [show askOf v = 3 by unfold askOf; rw [hf, if_neg (fun h => h h0), if_pos h1]]
      subst h0
      have H1 := veil h1
      clear h1 hf
      go_enter Tryz.func68, Tryz.ntmps68
      go_upto_region 1 with fail
      obtain ⟨W1, hW1, b1, e1⟩ : ∃ W1, W1 = w.alloc (.cells #[.int .i64 v.k, .int .i64 v.p, .int .i64 v.i, .int .i64 v.b, .int .i64 v.he, .int .i64 v.hn] 28) ∧ Below w.heap.size w W1 ∧ W1.heap[w.heap.size]? = some (.cells #[.int .i64 v.k, .int .i64 v.p, .int .i64 v.i, .int .i64 v.b, .int .i64 v.he, .int .i64 v.hn] 28 (0, 0)) := ⟨_, rfl, below1 _ _, heap_alloc_new _ _⟩
      rw [← hW1]
      obtain ⟨v0, v1, v2, v3, v4, v5⟩ := ev_box e1
      clear hW1
      go_upto_region 4 with (go_at_call 54; refine (HC _).mono ?_; rintro x W2 ⟨rfl, b2⟩; have e2 := (b2.block w.heap.size (block_lt e1)).trans e1; clear v0 v1 v2 v3 v4 v5; obtain ⟨v0, v1, v2, v3, v4, v5⟩ := ev_box e2; clear e1 e2)
      have h1 := unveil H1
      go_wp2
      go_ret
      exact ⟨rfl, Below.next b1 b2⟩
    · rw [show askOf v = 0 by unfold askOf; rw [hf, if_neg (fun h => h h0), if_neg h1]]
      subst h0
      clear hf
      go_enter Tryz.func68, Tryz.ntmps68
      go_upto_region 1 with fail
      obtain ⟨W1, hW1, b1, e1⟩ : ∃ W1, W1 = w.alloc (.cells #[.int .i64 v.k, .int .i64 v.p, .int .i64 v.i, .int .i64 v.b, .int .i64 v.he, .int .i64 v.hn] 28) ∧ Below w.heap.size w W1 ∧ W1.heap[w.heap.size]? = some (.cells #[.int .i64 v.k, .int .i64 v.p, .int .i64 v.i, .int .i64 v.b, .int .i64 v.he, .int .i64 v.hn] 28 (0, 0)) := ⟨_, rfl, below1 _ _, heap_alloc_new _ _⟩
      rw [← hW1]
      obtain ⟨v0, v1, v2, v3, v4, v5⟩ := ev_box e1
      clear hW1
      go_wp2_with (go_at_call 54; refine (HC _).mono ?_; rintro x W2 ⟨rfl, b2⟩; have e2 := (b2.block w.heap.size (block_lt e1)).trans e1; clear v0 v1 v2 v3 v4 v5; obtain ⟨v0, v1, v2, v3, v4, v5⟩ := ev_box e2; clear e1 e2)
      go_ret
      exact ⟨rfl, Below.next b1 b2⟩
  · rw [show askOf v = f by unfold askOf; rw [hf, if_pos h0]]
    clear hf
    go_enter Tryz.func68, Tryz.ntmps68
    go_wp2_with (go_at_call 54; refine (HC _).mono ?_; rintro x W2 ⟨rfl, b2⟩)
    go_ret
    exact ⟨rfl, Below.next (below1 _ _) b2⟩
theorem a_stored {w wx : World} {A N : Nat} {c he no bd : Int} (h : ansBlock wx A c he no bd) (bel : Below N w wx) (hN : N ≤ A) (c' he' no' bd' : Int) :
    ∃ W, W = (((wx.setCell ⟨A, 0, none⟩ (.int .i64 c')).setCell ⟨A, 1, none⟩ (.int .i64 he')).setCell ⟨A, 2, none⟩ (.int .i64 no')).setCell ⟨A, 3, none⟩ (.int .i64 bd') ∧ ansBlock W A c' he' no' bd' ∧ Below N w W ∧ Turned A wx W :=
  ⟨_, rfl, h.store c' he' no' bd', (ans_turned wx A c' he' no' bd').under bel hN, ans_turned wx A c' he' no' bd'⟩
/-- what berth.served answers, of a queue and an event that may be. -/
inductive SvR (B : Bt) (s : St) (v : Ev) : An → List Ev → Prop
  | shut (hr : B.r = 3) : SvR B s v ⟨12, 0, 0, 0⟩ []
  | none (hr : ¬ B.r = 3) (hs : ¬ (B.r = 1 ∨ B.r = 2)) : SvR B s v ⟨7, 0, 0, 0⟩ []
  | same (hr : B.r = 1 ∨ B.r = 2) (s' : St) (an : An) (st : Step s v s' an false) : SvR B s v an []
  | full (hr : B.r = 1 ∨ B.r = 2) (s' : St) (an : An) (st : Step s v s' an true) (hl : 1999 ≤ B.es.length) : SvR B s v ⟨14, 0, 0, 0⟩ []
  | done (hr : B.r = 1 ∨ B.r = 2) (s' : St) (an : An) (st : Step s v s' an true) (hl : B.es.length < 1999) : SvR B s v an [v]
/-- the boxes of served. -/
structure Sv (w wx : World) (E A : Nat) (B : Bt) (a : Option Addr) (c : Nat) (s : St) (rv lv : Value) (ws : Nat → Value) (v : Ev) : Prop where
  b : bBlock wx w.heap.size B.r B.e B.f B.t B.o a B.es.length c
  q : qBlock wx (w.heap.size + 1) s.ep s.nx s.gv rv lv ws
  e : wx.heap[E]? = some (.cells #[.int .i64 v.k, .int .i64 v.p, .int .i64 v.i, .int .i64 v.b, .int .i64 v.he, .int .i64 v.hn] 28 (0, 0))
  a : ansBlock wx A 0 0 0 0
  bel : Below w.heap.size w wx
  upE : w.heap.size + 1 < E
  upA : E < A
theorem Sv.next {w wx wy : World} {E A : Nat} {B : Bt} {a : Option Addr} {c : Nat} {s : St} {rv lv : Value} {ws : Nat → Value} {v : Ev} (h : Sv w wx E A B a c s rv lv ws v) (b : Below wx.heap.size wx wy) : Sv w wy E A B a c s rv lv ws v :=
  ⟨h.b.next b, h.q.next b, (b.block E (block_lt h.e)).trans h.e, h.a.next b, Below.next h.bel b, h.upE, h.upA⟩
theorem Sv.made {w W2 : World} {B : Bt} {a : Option Addr} {c : Nat} {s : St} {rv lv : Value} {ws : Nat → Value} {v : Ev} (q2 : qBlock W2 (w.alloc (.cells (bCells B.r B.e B.f B.t B.o a B.es.length c) 24)).heap.size s.ep s.nx s.gv rv lv ws)
    (b2 : Below (w.alloc (.cells (bCells B.r B.e B.f B.t B.o a B.es.length c) 24)).heap.size (w.alloc (.cells (bCells B.r B.e B.f B.t B.o a B.es.length c) 24)) W2) :
    ∃ W, W = (W2.alloc (.cells #[.int .i64 v.k, .int .i64 v.p, .int .i64 v.i, .int .i64 v.b, .int .i64 v.he, .int .i64 v.hn] 28)).alloc (.cells #[.int .i64 0, .int .i64 0, .int .i64 0, .int .i64 0] 75) ∧ Sv w W W2.heap.size (W2.heap.size + 1) B a c s rv lv ws v := by
  rw [show (w.alloc (.cells (bCells B.r B.e B.f B.t B.o a B.es.length c) 24)).heap.size = w.heap.size + 1 by simp] at q2
  have hA := ansBlock.new (W2.alloc (.cells #[.int .i64 v.k, .int .i64 v.p, .int .i64 v.i, .int .i64 v.b, .int .i64 v.he, .int .i64 v.hn] 28)) 0 0 0 0
  rw [show (W2.alloc (.cells #[.int .i64 v.k, .int .i64 v.p, .int .i64 v.i, .int .i64 v.b, .int .i64 v.he, .int .i64 v.hn] 28)).heap.size = W2.heap.size + 1 by simp] at hA
  have hE := heap_alloc_new W2 (.cells #[.int .i64 v.k, .int .i64 v.p, .int .i64 v.i, .int .i64 v.b, .int .i64 v.he, .int .i64 v.hn] 28)
  have b3 := below2 W2 (.cells #[.int .i64 v.k, .int .i64 v.p, .int .i64 v.i, .int .i64 v.b, .int .i64 v.he, .int .i64 v.hn] 28) (.cells #[.int .i64 0, .int .i64 0, .int .i64 0, .int .i64 0] 75)
  exact ⟨_, rfl, (((bBlock.new w _ _ _ _ _ _ _ _).next b2).next b3), q2.next b3, ((below1 _ _).block _ (block_lt hE)).trans hE, hA, Below.next (Below.next (below1 _ _) b2) b3, q2.lt, Nat.lt_succ_self _⟩
theorem ret_bserved {W : World} {A : Nat} {c he no bd : Int} {x : Value} {tmps : Array Value} (h : ansBlock W A c he no bd) (t6 : tmps[6]? = some (.pointer (some ⟨A, 0, none⟩))) (t7 : tmps[7]? = some x) :
    (results Tryz.f69 tmps).run Tryz.prog W = .ok (.tuple #[ansVal c he no bd, x]) W := by
  have h2 := run_loadVar_row (P := Tryz.prog) W A 75 75 _ (0, 0) _ h Tryz.underlying75 rfl (by kernel_rfl)
  simp [results, Tryz.results69, t6, t7, asAddr, h2]
set_option maxRecDepth 20000 in
set_option maxHeartbeats 4000000 in
theorem bserved_any (B : Bt) (a : Option Addr) (c : Nat) (s : St) (ra la : Option Addr) (rc lc : Nat) (ws : Nat → Value) (v : Ev) (w : World) (hR : RowK .i64 w ra (2 * s.rn) s.R) (hL : RowK .i64 w la (4 * s.ln) s.L) (nR : ra = none → rc = 0) (nL : la = none → lc = 0) (hW : Wins ws s.wt s.wz) (h : s.Ok) (hv : v.Ok) (hvw : ∀ u ∈ evCells v, (Lit.int .i64 u).wf = true) :
    Calls Tryz.prog 69 #[bVal B.r B.e B.f B.t B.o a B.es.length c, qVal s.ep s.nx s.gv (.slice ra s.rn rc) (.slice la s.ln lc) ws, evIn v] w fun x w' => ∃ an l a' c', x = .returned (.tuple #[anOf an, .slice a' l.length c']) ∧ SvR B s v an l ∧ RowK .i64 w' a' (6 * l.length) (evFlat l) ∧ (a' = none → c' = 0) ∧ Below w.heap.size w w' := by
  have HS := fun w => serves_any B.r B.e B.f B.t B.o a B.es.length c w
  have HD : Hid (∀ W, Below w.heap.size w W → Calls Tryz.prog 80 #[qVal s.ep s.nx s.gv (.slice ra s.rn rc) (.slice la s.ln lc) ws, evIn v] W fun e w' => ∃ (s' : St) (an : An) (ch : Bool) (x : Value), e = .returned (.tuple #[x, anOf an, .bool ch, .int .i64 0]) ∧ Step s v s' an ch ∧ QOut W w' s' x ∧ Below W.heap.size W w') := veil fun W b => do_step s ra la rc lc ws v W (hR.below b) (hL.below b) nR nL hW h hv
  clear hR hL nR nL
  go_enter Tryz.func69, Tryz.ntmps69
  go_upto_region 1 with (refine q_box 4 _ rfl rfl rfl rfl ?_; intro W2 q2 b2)
  obtain ⟨W3, hW3, S3⟩ := Sv.made (v := v) q2 b2
  rw [← hW3]
  clear hW3 q2 b2
  obtain ⟨x0, x1, x2, x3, x4, x5⟩ := S3.b.cells
  by_cases h3 : B.r = 3
  case pos =>
    obtain ⟨y0, y1, y2, y3⟩ := S3.a.cells
    have yf := S3.a.free
    have H3 := veil h3
    have HS3 := veil S3
    clear S3
    go_wp2
    have S3 := unveil HS3
    obtain ⟨W4, hW4, d4, b4, _⟩ := a_stored S3.a S3.bel (show w.heap.size ≤ W2.heap.size + 1 by have := S3.upE; omega) 12 0 0 0
    rw [← hW4]
    exact bodyPost_ret (ret_bserved d4 rfl rfl) rfl ⟨⟨12, 0, 0, 0⟩, [], none, 0, rfl, .shut (unveil H3), RowK.nil _ _ _, fun _ => rfl, b4⟩
  case neg =>
  have e3 : (B.r == 3) = false := by simpa using h3
  have H3 := veil h3
  clear h3
  by_cases h4 : B.r = 1 ∨ B.r = 2
  case neg =>
    rw [decide_eq_false h4] at HS
    have H4 := veil h4
    have HS3 := veil S3
    clear h4 S3
    go_upto_region 4 with (go_at_call 72; refine (HS _).mono ?_; rintro x W4 ⟨rfl, b4⟩; have S4 := (unveil HS3).next b4; clear HS HS3 x0 x1 x2 x3 x4 x5; have HS4 := veil S4; clear S4 b4)
    obtain ⟨y0, y1, y2, y3⟩ := (unveil HS4).a.cells
    have yf := (unveil HS4).a.free
    go_wp2
    have S4 := unveil HS4
    obtain ⟨W5, hW5, d5, b5, _⟩ := a_stored S4.a S4.bel (show w.heap.size ≤ W2.heap.size + 1 by have := S4.upE; omega) 7 0 0 0
    rw [← hW5]
    exact bodyPost_ret (ret_bserved d5 rfl rfl) rfl ⟨⟨7, 0, 0, 0⟩, [], none, 0, rfl, .none (unveil H3) (unveil H4), RowK.nil _ _ _, fun _ => rfl, b5⟩
  case pos =>
  rw [decide_eq_true h4] at HS
  have H4 := veil h4
  have HS3 := veil S3
  clear h4 S3
  go_upto_region 5 with (go_at_call 72; refine (HS _).mono ?_; rintro x W4 ⟨rfl, b4⟩; have S4 := (unveil HS3).next b4; clear HS HS3 x0 x1 x2 x3 x4 x5; have HS4 := veil S4; clear S4 b4)
  have q4 := (unveil HS4).q
  obtain ⟨v0, v1, v2, v3, v4, v5⟩ : W4.cell? ⟨W2.heap.size, 0, none⟩ = some (.int .i64 v.k) ∧ W4.cell? ⟨W2.heap.size, 1, none⟩ = some (.int .i64 v.p) ∧ W4.cell? ⟨W2.heap.size, 2, none⟩ = some (.int .i64 v.i) ∧ W4.cell? ⟨W2.heap.size, 3, none⟩ = some (.int .i64 v.b) ∧ W4.cell? ⟨W2.heap.size, 4, none⟩ = some (.int .i64 v.he) ∧ W4.cell? ⟨W2.heap.size, 5, none⟩ = some (.int .i64 v.hn) := ev_box (w0 := W2) (unveil HS4).e
  have hD := unveil HD W4 (unveil HS4).bel
  clear HD e3
  go_upto_region 6 with (first
    | (refine q_loads _ rfl rfl rfl q4 ?_)
    | (go_at_call 80; refine hD.mono ?_; rintro x W5 ⟨s', an, ch, x', rfl, st, ⟨⟨a1', c1', a2', c2', ws', rfl, r1, r2, l1', l2', n1, n2, hW', f1, f2⟩⟩, b5⟩; have HST := veil st; have S5 := (unveil HS4).next b5; have HS5 := veil S5; clear st hD q4 v0 v1 v2 v3 v4 v5 S5 b5 HS4 r1 r2 l1' l2' n1 n2 f1 f2)
    | (refine q_alloc 8 rfl rfl rfl ?_; intro W6 z6 b6; have z6' := z6.next (below1 W6 (.cells #[.int .i64 0, .int .i64 0, .int .i64 0, .int .i64 0] 75)); have hN6 : W5.heap.size < W6.heap.size := z6.lt; have S6 := ((unveil HS5).next b6).next (below1 W6 (.cells #[.int .i64 0, .int .i64 0, .int .i64 0, .int .i64 0] 75)); have HS6 := veil S6; have HY6 := veil (ansBlock.new W6 0 0 0 0); have hlA := (unveil HS5).a.lt; clear z6 b6 S6 HS5)
    | (refine q_store (ra := a1') (la := a2') (ws' := ws') _ _ rfl rfl rfl rfl z6' hW' ?_; intro W7 q7 t7; have y7 := (unveil HY6).turned t7 (by omega); obtain ⟨y0, y1, y2, y3⟩ := y7.cells; have yf := y7.free; have HY7 := veil y7; have HT7 := veil t7; clear z6' y7 q7 t7))
  have S6 := unveil HS6
  have S7 : Sv w W7 W2.heap.size (W2.heap.size + 1) B a c s (.slice ra s.rn rc) (.slice la s.ln lc) ws v := ⟨S6.b.turned (unveil HT7) (by have := S6.upE; have := S6.upA; omega), (unveil HT7).queue S6.q (by have := S6.upE; have := S6.upA; omega), ((unveil HT7).block _ (by have := S6.upA; omega)).trans S6.e, S6.a.turned (unveil HT7) (by omega), (unveil HT7).under S6.bel (by have := S6.upE; have := S6.upA; omega), S6.upE, S6.upA⟩
  obtain ⟨W8, hW8, y8, b8, t8⟩ := a_stored (unveil HY7) S7.bel (show w.heap.size ≤ W6.heap.size by have := S6.upE; have := S6.upA; omega) an.c an.he an.no an.bd
  rw [← hW8]
  have S8 : Sv w W8 W2.heap.size (W2.heap.size + 1) B a c s (.slice ra s.rn rc) (.slice la s.ln lc) ws v := ⟨S7.b.turned t8 (by have := S6.upE; have := S6.upA; omega), t8.queue S7.q (by have := S6.upE; have := S6.upA; omega), (t8.block _ (by have := S6.upA; omega)).trans S7.e, S7.a.turned t8 (by omega), b8, S6.upE, S6.upA⟩
  have hne : W6.heap.size ≠ W2.heap.size + 1 := by omega
  clear hW8 S6 S7 HS6 HT7 HY6 HY7 y0 y1 y2 y3 yf b8 t8
  have HS8 := veil S8
  have HY8 := veil y8
  cases ch with
  | false =>
    obtain ⟨u0, u1, u2, u3⟩ := y8.cells
    obtain ⟨y0, y1, y2, y3⟩ := S8.a.cells
    have yf := S8.a.free
    clear S8 y8
    go_wp2
    have S8 := unveil HS8
    obtain ⟨W9, hW9, d9, b9, _⟩ := a_stored S8.a S8.bel (show w.heap.size ≤ W2.heap.size + 1 by have := S8.upE; omega) an.c an.he an.no an.bd
    rw [← hW9]
    exact bodyPost_ret (ret_bserved d9 rfl rfl) rfl ⟨an, [], none, 0, rfl, .same (unveil H4) s' an (unveil HST), RowK.nil _ _ _, fun _ => rfl, b9⟩
  | true =>
  obtain ⟨x0, x1, x2, x3, x4, x5⟩ := S8.b.cells
  by_cases h9 : 1999 ≤ B.es.length
  case pos =>
    obtain ⟨y0, y1, y2, y3⟩ := S8.a.cells
    have yf := S8.a.free
    clear S8 y8
    have h9' : (1999 : Int) ≤ (B.es.length : Int) := by omega
    go_wp2
    have S8 := unveil HS8
    obtain ⟨W9, hW9, d9, b9, _⟩ := a_stored S8.a S8.bel (show w.heap.size ≤ W2.heap.size + 1 by have := S8.upE; omega) 14 0 0 0
    rw [← hW9]
    exact bodyPost_ret (ret_bserved d9 rfl rfl) rfl ⟨⟨14, 0, 0, 0⟩, [], none, 0, rfl, .full (unveil H4) s' an (unveil HST) h9, RowK.nil _ _ _, fun _ => rfl, b9⟩
  case neg =>
  have h9' : ¬ (1999 : Int) ≤ (B.es.length : Int) := by omega
  clear S8 y8
  go_upto_region 10 with fail
  clear x0 x1 x2 x3 x4 x5
  refine wp_region_held_drew (S := fun u => ansBlock u W6.heap.size an.c an.he an.no an.bd ∧ u.heap[W2.heap.size]? = some (.cells #[.int .i64 v.k, .int .i64 v.p, .int .i64 v.i, .int .i64 v.b, .int .i64 v.he, .int .i64 v.hn] 28 (0, 0))) (by kernel_rfl) ⟨(unveil HY8).next (below_drew W8), ((unveil HS8).next (below_drew W8)).e⟩ (fun hHeld => ?_)
  refine wpAnyH_take (i := 0) (v := anOf an) rfl (by kernel_rfl) (by kernel_rfl) (by kernel_rfl) (fun _ _ _ h => h) (yields_a _ rfl rfl rfl (fun _ h => h.1)) hHeld ?_
  simp only [List.getElem_toArray, List.getElem_cons_zero, Act.put, List.setIfInBounds_toArray, List.set_cons_zero, List.set_cons_succ]
  refine wpAnyH_take (i := 1) (v := evIn v) rfl (by kernel_rfl) (by kernel_rfl) (by kernel_rfl) (fun _ _ _ h => h) (Or.inl ⟨by rfl, fun u h => by obtain ⟨v0, v1, v2, v3, v4, v5⟩ := ev_box (w0 := W2) h.2; go_simp⟩) hHeld ?_
  simp only [List.getElem_toArray, List.getElem_cons_zero, List.getElem_cons_succ, Act.put, List.setIfInBounds_toArray, List.set_cons_zero, List.set_cons_succ]
  have S0 := (unveil HS8).next (below_drew W8)
  have Y0 := (unveil HY8).next (below_drew W8)
  obtain ⟨W0, hW0⟩ : ∃ W0, W0 = W8.drew := ⟨_, rfl⟩
  rw [← hW0] at S0 Y0 hHeld ⊢
  clear hW0
  refine wpAnyH_ready (rs := [2, 3]) (by kernel_rfl) (by simp) ?_
  refine AllReadyH.cons rfl (fun K hK => ?_) (AllReadyH.cons rfl (fun K hK => ?_) AllReadyH.nil)
  · simp only [List.getElem_toArray, List.getElem_cons_zero, List.getElem_cons_succ]
    go_simp
    have r5 := row_ev W0 v.k v.p v.i v.b v.he v.hn hvw
    have b5 := below1 W0 (.cells #[.int .i64 v.k, .int .i64 v.p, .int .i64 v.i, .int .i64 v.b, .int .i64 v.he, .int .i64 v.hn] 28)
    have S5 := S0.next b5
    have Y5 := Y0.next b5
    have hl0 := S0.a.lt
    generalize W0.alloc (.cells #[.int .i64 v.k, .int .i64 v.p, .int .i64 v.i, .int .i64 v.b, .int .i64 v.he, .int .i64 v.hn] 28) = W5 at r5 b5 S5 Y5 ⊢
    refine hK.out _ _ ⟨Y5, S5.e⟩ (fun hHeld => ?_)
    clear hK K
    refine wpAnyH_ready (rs := [3]) (by kernel_rfl) (by simp) ?_
    refine AllReadyH.cons rfl (fun K hK => ?_) AllReadyH.nil
    simp only [List.getElem_toArray, List.getElem_cons_zero, List.getElem_cons_succ]
    obtain ⟨y0, y1, y2, y3⟩ := S5.a.cells
    have yf := S5.a.free
    go_simp
    obtain ⟨W9, hW9, d9, b9, t9⟩ := a_stored S5.a S5.bel (show w.heap.size ≤ W2.heap.size + 1 by have := S5.upE; omega) an.c an.he an.no an.bd
    rw [← hW9]
    clear hW9
    have r9 := t9.row r5 (fun x hx _ => by cases hx; simp; omega)
    refine hK.out _ _ ⟨Y5.turned t9 hne, (t9.block _ (by have := S5.upA; omega)).trans S5.e⟩ (fun hHeld => ?_)
    clear hK K y0 y1 y2 y3 yf
    refine wpAnyH_take (i := 4) (v := .slice (some ⟨W0.heap.size, 0, none⟩) 1 1) rfl (by kernel_rfl) (by kernel_rfl) (by kernel_rfl) (fun _ _ _ h => h) (Or.inl ⟨by rfl, fun _ _ => by go_simp⟩) hHeld ?_
    simp only [List.getElem_toArray, List.getElem_cons_zero, List.getElem_cons_succ, Act.put, List.setIfInBounds_toArray, List.set_cons_zero, List.set_cons_succ]
    refine wpAnyH_done (by kernel_rfl) ?_ _
    have HD9 := veil d9
    have HB9 := veil b9
    have HR9 := veil r9
    clear d9 b9 r9 hHeld t9 S5 Y5 S0 Y0 r5
    go_wp2
    exact bodyPost_ret (ret_bserved (unveil HD9) rfl rfl) rfl ⟨an, [v], some ⟨W0.heap.size, 0, none⟩, 1, rfl, .done (unveil H4) s' an (unveil HST) (by omega), (show RowK .i64 _ (some ⟨W0.heap.size, 0, none⟩) 6 [v.k, v.p, v.i, v.b, v.he, v.hn] from unveil HR9), fun h => (by cases h), unveil HB9⟩
  · simp only [List.getElem_toArray, List.getElem_cons_zero, List.getElem_cons_succ]
    obtain ⟨y0, y1, y2, y3⟩ := S0.a.cells
    have yf := S0.a.free
    go_simp
    obtain ⟨W5, hW5, d5, b5, t5⟩ := a_stored S0.a S0.bel (show w.heap.size ≤ W2.heap.size + 1 by have := S0.upE; omega) an.c an.he an.no an.bd
    rw [← hW5]
    clear hW5
    have Y5 := Y0.turned t5 hne
    have E5 := (t5.block _ (by have := S0.upA; omega)).trans S0.e
    refine hK.out _ _ ⟨Y5, E5⟩ (fun hHeld => ?_)
    clear hK K y0 y1 y2 y3 yf
    refine wpAnyH_ready (rs := [2]) (by kernel_rfl) (by simp) ?_
    refine AllReadyH.cons rfl (fun K hK => ?_) AllReadyH.nil
    simp only [List.getElem_toArray, List.getElem_cons_zero, List.getElem_cons_succ]
    go_simp
    have r9 := row_ev W5 v.k v.p v.i v.b v.he v.hn hvw
    have b6 := below1 W5 (.cells #[.int .i64 v.k, .int .i64 v.p, .int .i64 v.i, .int .i64 v.b, .int .i64 v.he, .int .i64 v.hn] 28)
    have d9 := d5.next b6
    have b9 := Below.next b5 b6
    have Y9 := Y5.next b6
    have E9 := (b6.block _ (block_lt E5)).trans E5
    generalize W5.alloc (.cells #[.int .i64 v.k, .int .i64 v.p, .int .i64 v.i, .int .i64 v.b, .int .i64 v.he, .int .i64 v.hn] 28) = W9 at r9 b6 d9 b9 Y9 E9 ⊢
    refine hK.out _ _ ⟨Y9, E9⟩ (fun hHeld => ?_)
    clear hK K
    refine wpAnyH_take (i := 4) (v := .slice (some ⟨W5.heap.size, 0, none⟩) 1 1) rfl (by kernel_rfl) (by kernel_rfl) (by kernel_rfl) (fun _ _ _ h => h) (Or.inl ⟨by rfl, fun _ _ => by go_simp⟩) hHeld ?_
    simp only [List.getElem_toArray, List.getElem_cons_zero, List.getElem_cons_succ, Act.put, List.setIfInBounds_toArray, List.set_cons_zero, List.set_cons_succ]
    refine wpAnyH_done (by kernel_rfl) ?_ _
    have HD9 := veil d9
    have HB9 := veil b9
    have HR9 := veil r9
    clear d9 b9 r9 hHeld t5 S0 Y0 Y5 Y9 E5 E9 d5 b5
    go_wp2
    exact bodyPost_ret (ret_bserved (unveil HD9) rfl rfl) rfl ⟨an, [v], some ⟨W5.heap.size, 0, none⟩, 1, rfl, .done (unveil H4) s' an (unveil HST) (by omega), (show RowK .i64 _ (some ⟨W5.heap.size, 0, none⟩) 6 [v.k, v.p, v.i, v.b, v.he, v.hn] from unveil HR9), fun h => (by cases h), unveil HB9⟩
end Go.Proofs.YtcdopnkabbfooaaGreat

namespace Go.Proofs.YtcdopnkabbfooaaGreat
open Go.RowKit

/-- the boxes of Serve. -/
structure Sr (w wx : World) (B : Bt) (a : Option Addr) (c : Nat) (v : Ev) : Prop where
  b : bBlock wx w.heap.size B.r B.e B.f B.t B.o a B.es.length c
  e : wx.heap[w.heap.size + 1]? = some (.cells #[.int .i64 v.k, .int .i64 v.p, .int .i64 v.i, .int .i64 v.b, .int .i64 v.he, .int .i64 v.hn] 28 (0, 0))
  z : bBlock wx (w.heap.size + 2) 0 0 0 0 0 none 0 0
  y : ansBlock wx (w.heap.size + 3) 0 0 0 0
  bel : Below w.heap.size w wx
theorem Sr.next {w wx wy : World} {B : Bt} {a : Option Addr} {c : Nat} {v : Ev} (h : Sr w wx B a c v) (b : Below wx.heap.size wx wy) : Sr w wy B a c v :=
  ⟨h.b.next b, (b.block _ (block_lt h.e)).trans h.e, h.z.next b, h.y.next b, Below.next h.bel b⟩
theorem Sr.turned {w wx wy : World} {B : Bt} {a : Option Addr} {c R : Nat} {v : Ev} (h : Sr w wx B a c v) (t : Turned R wx wy) (hR : w.heap.size + 3 < R) : Sr w wy B a c v :=
  ⟨h.b.turned t (by omega), (t.block _ (by omega)).trans h.e, h.z.turned t (by omega), h.y.turned t (by omega), t.under h.bel (by omega)⟩
theorem Sr.made (w : World) (B : Bt) (a : Option Addr) (c : Nat) (v : Ev) : ∃ W, W = (((w.alloc (.cells (bCells B.r B.e B.f B.t B.o a B.es.length c) 24)).alloc (.cells #[.int .i64 v.k, .int .i64 v.p, .int .i64 v.i, .int .i64 v.b, .int .i64 v.he, .int .i64 v.hn] 28)).alloc (.cells (bCells 0 0 0 0 0 none 0 0) 24)).alloc (.cells #[.int .i64 0, .int .i64 0, .int .i64 0, .int .i64 0] 75) ∧ Sr w W B a c v := by
  have h0 := bBlock.new w B.r B.e B.f B.t B.o a B.es.length c
  have h1 := heap_alloc_new (w.alloc (.cells (bCells B.r B.e B.f B.t B.o a B.es.length c) 24)) (.cells #[.int .i64 v.k, .int .i64 v.p, .int .i64 v.i, .int .i64 v.b, .int .i64 v.he, .int .i64 v.hn] 28)
  have h2 := bBlock.new ((w.alloc (.cells (bCells B.r B.e B.f B.t B.o a B.es.length c) 24)).alloc (.cells #[.int .i64 v.k, .int .i64 v.p, .int .i64 v.i, .int .i64 v.b, .int .i64 v.he, .int .i64 v.hn] 28)) 0 0 0 0 0 none 0 0
  have h3 := ansBlock.new (((w.alloc (.cells (bCells B.r B.e B.f B.t B.o a B.es.length c) 24)).alloc (.cells #[.int .i64 v.k, .int .i64 v.p, .int .i64 v.i, .int .i64 v.b, .int .i64 v.he, .int .i64 v.hn] 28)).alloc (.cells (bCells 0 0 0 0 0 none 0 0) 24)) 0 0 0 0
  have s1 : (w.alloc (.cells (bCells B.r B.e B.f B.t B.o a B.es.length c) 24)).heap.size = w.heap.size + 1 := by simp
  have s2 : ((w.alloc (.cells (bCells B.r B.e B.f B.t B.o a B.es.length c) 24)).alloc (.cells #[.int .i64 v.k, .int .i64 v.p, .int .i64 v.i, .int .i64 v.b, .int .i64 v.he, .int .i64 v.hn] 28)).heap.size = w.heap.size + 2 := by simp
  have s3 : (((w.alloc (.cells (bCells B.r B.e B.f B.t B.o a B.es.length c) 24)).alloc (.cells #[.int .i64 v.k, .int .i64 v.p, .int .i64 v.i, .int .i64 v.b, .int .i64 v.he, .int .i64 v.hn] 28)).alloc (.cells (bCells 0 0 0 0 0 none 0 0) 24)).heap.size = w.heap.size + 3 := by simp
  rw [s1] at h1
  rw [s2] at h2
  rw [s3] at h3
  exact ⟨_, rfl, ((h0.next (below1 _ _)).next (below1 _ _)).next (below1 _ _), ((below1 _ _).block _ (by rw [s3]; omega)).trans (((below1 _ _).block _ (by rw [s2]; omega)).trans h1), h2.next (below1 _ _), h3, Below.next (Below.next (Below.next (below1 _ _) (below1 _ _)) (below1 _ _)) (below1 _ _)⟩
theorem ret_Serve {W : World} {R A : Nat} {r e f t o : Int} {a : Option Addr} {n c : Nat} {cc he no bd er : Int} {ch : Bool} {tmps : Array Value} (d : bBlock W R r e f t o a n c) (h : ansBlock W A cc he no bd) (t4 : tmps[4]? = some (.pointer (some ⟨R, 0, none⟩))) (t5 : tmps[5]? = some (.pointer (some ⟨A, 0, none⟩))) (t6 : tmps[6]? = some (.bool ch)) (t7 : tmps[7]? = some (.int .i64 er)) :
    (results Tryz.f41 tmps).run Tryz.prog W = .ok (.tuple #[bVal r e f t o a n c, ansVal cc he no bd, .bool ch, .int .i64 er]) W := by
  have h2 := run_loadVar_row (P := Tryz.prog) W A 75 75 _ (0, 0) _ h Tryz.underlying75 rfl (by kernel_rfl)
  simp [results, Tryz.results41, t4, t5, t6, t7, asAddr, load_berth d, h2]
/-- both answers stored. -/
theorem Sr.stored {w wx : World} {B : Bt} {a : Option Addr} {c : Nat} {v : Ev} (h : Sr w wx B a c v) (r' e' f' t' o' : Int) (a' : Option Addr) (n' c' : Nat) (cc he no bd : Int) :
    ∃ W, W = ((((((((((wx.setCell ⟨w.heap.size + 2, 0, none⟩ (.int .i64 r')).setCell ⟨w.heap.size + 2, 1, none⟩ (.int .i64 e')).setCell ⟨w.heap.size + 2, 2, none⟩ (.int .i64 f')).setCell ⟨w.heap.size + 2, 3, none⟩ (.int .i64 t')).setCell ⟨w.heap.size + 2, 4, none⟩ (.int .i64 o')).setCell ⟨w.heap.size + 2, 5, none⟩ (.slice a' n' c')).setCell ⟨w.heap.size + 3, 0, none⟩ (.int .i64 cc)).setCell ⟨w.heap.size + 3, 1, none⟩ (.int .i64 he)).setCell ⟨w.heap.size + 3, 2, none⟩ (.int .i64 no)).setCell ⟨w.heap.size + 3, 3, none⟩ (.int .i64 bd)) ∧ bBlock W (w.heap.size + 2) r' e' f' t' o' a' n' c' ∧ ansBlock W (w.heap.size + 3) cc he no bd ∧ Below w.heap.size w W := by
  obtain ⟨W1, hW1, d1, b1, t1⟩ := b_stored h.z h.bel (show w.heap.size ≤ w.heap.size + 2 by omega) r' e' f' t' o' a' n' c'
  have y1 := h.y.turned t1 (by omega)
  obtain ⟨W2, hW2, d2, b2, t2⟩ := a_stored y1 b1 (show w.heap.size ≤ w.heap.size + 3 by omega) cc he no bd
  refine ⟨W2, ?_, d1.turned t2 (by omega), d2, b2⟩
  rw [hW2, hW1]
theorem ask_yes {v : Ev} (h : askOf v = 0) : v.Ok ∧ ¬ v.k = 4 := by
  unfold askOf at h
  by_cases h0 : eventFault v.k v.p v.i v.b v.he v.hn = 0
  · rw [if_neg (fun g => g h0)] at h
    by_cases h1 : v.k = 4
    · rw [if_pos h1] at h; omega
    · exact ⟨h0, h1⟩
  · rw [if_pos h0] at h; exact absurd h h0
theorem ask_no {B : Bt} {v : Ev} (ok : B.Ok) (h : ¬ askOf v = 0) : ServeR B v Bt.zero An.zero false (askOf v) := by
  unfold askOf at h ⊢
  by_cases h0 : eventFault v.k v.p v.i v.b v.he v.hn = 0
  · rw [if_neg (fun g => g h0)] at h ⊢
    by_cases h1 : v.k = 4
    · rw [if_pos h1]; exact .brk ok h0 h1
    · rw [if_neg h1] at h; exact absurd rfl h
  · rw [if_pos h0]; exact .fault ok _ rfl h0
theorem SvR.serve {B : Bt} {v : Ev} {s : St} {ans : List An} {an : An} {l : List Ev} (h : SvR B s v an l) (ok : B.Ok) (hv : v.Ok) (hk : ¬ v.k = 4) (ht : Tells B.es s ans) : ServeR B v (B.more l) an (decide (0 < l.length)) 0 := by
  cases h with
  | shut hr => rw [Bt.more_nil]; exact .shut ok hv hk hr
  | none h3 hr =>
    rw [Bt.more_nil]
    refine .none ok hv hk ?_
    have := ok.stand
    unfold Bt.Stand standP at this
    omega
  | same hr s' an st => rw [Bt.more_nil]; exact .same ok hv hk hr s ans ht s' an st
  | full hr s' an st hl => rw [Bt.more_nil]; exact .full ok hv hk hr s ans ht s' an st hl
  | done hr s' an st hl => exact .done ok hv hk hr s ans ht s' an st hl
set_option maxRecDepth 20000 in
set_option maxHeartbeats 4000000 in
theorem serve_any (B : Bt) (a : Option Addr) (c : Nat) (v : Ev) (w : World) (hb : BIn w B a c) (hvw : ∀ u ∈ evCells v, (Lit.int .i64 u).wf = true) :
    Calls Tryz.prog 41 #[bVal B.r B.e B.f B.t B.o a B.es.length c, evIn v] w fun x w' => ∃ y an ch er B', x = .returned (.tuple #[y, anOf an, .bool ch, .int .i64 er]) ∧ ServeR B v B' an ch er ∧ BOut w w' B' y ∧ Below w.heap.size w w' := by
  go_enter Tryz.func41, Tryz.ntmps41
  go_upto_region 1 with fail
  obtain ⟨W1, hW1, S1⟩ := Sr.made w B a c v
  rw [← hW1]
  clear hW1
  have HR := replayed_any B a c W1 (hb.next S1.bel)
  obtain ⟨x0, x1, x2, x3, x4, x5⟩ := S1.b.cells
  have HS1 := veil S1
  have hy1 := S1.y.lt
  clear S1
  go_upto_region 2 with (first
    | (go_at_call 51; refine HR.mono ?_; rintro x W2 ⟨q, er, s, rfl, rb, ⟨⟨a1', c1', a2', c2', ws', rfl, r1, r2, l1', l2', n1, n2, hW', f1, f2⟩⟩, b2⟩; have HRB := veil rb; have HS2 := veil ((unveil HS1).next b2); clear HR rb b2 x0 x1 x2 x3 x4 x5 HS1)
    | (refine q_alloc 8 rfl rfl rfl ?_; intro W3 z3 b3)
    | (refine q_store (ra := a1') (la := a2') (ws' := ws') _ _ rfl rfl rfl rfl z3 hW' ?_; intro W4 q4 t4; have b4 := t4.under b3 (Nat.le_refl _); have r14 := r1.below b4; have r24 := r2.below b4; have S4 := (unveil HS2).next b4; have hy4 := (unveil HS2).y.lt; have HQ4 := veil q4; have HS4 := veil S4; have HR1 := veil r14; have HR2 := veil r24; clear z3 b3 t4 b4 q4 r14 r24 S4 HS2 r1 r2 f1 f2 l1' l2'))
  by_cases h0 : er = 0
  case neg =>
    obtain ⟨z0, z1, z2, z3, z4, z5⟩ := (unveil HS4).z.cells
    have zf := (unveil HS4).z.free
    obtain ⟨y0, y1, y2, y3⟩ := (unveil HS4).y.cells
    have yf := (unveil HS4).y.free
    go_wp2
    obtain ⟨W5, hW5, d5, a5, b5⟩ := (unveil HS4).stored 0 0 0 0 0 none 0 0 0 0 0 0
    rw [← hW5]
    have hno : ServeR B v Bt.zero An.zero false er := by
      cases unveil HRB with
      | yes => exact absurd rfl h0
      | no h => exact .state h
    exact bodyPost_ret (ret_Serve d5 a5 rfl rfl rfl rfl) rfl ⟨_, An.zero, false, er, Bt.zero, rfl, hno, BOut.zero _ _, b5⟩
  case pos =>
  subst h0
  have hyes : B.Ok ∧ ∃ ans, Tells B.es s ans := by
    generalize hz : (0 : Int) = z at HRB
    cases unveil HRB with
    | yes ok ans ht => exact ⟨ok, ans, ht⟩
    | no h => omega
  obtain ⟨ok, ans, ht⟩ := hyes
  have HTT := veil ht
  have hsok := ht.wf.ok
  clear ht HRB
  obtain ⟨v0, v1, v2, v3, v4, v5⟩ : W4.cell? ⟨w.heap.size + 1, 0, none⟩ = some (.int .i64 v.k) ∧ W4.cell? ⟨w.heap.size + 1, 1, none⟩ = some (.int .i64 v.p) ∧ W4.cell? ⟨w.heap.size + 1, 2, none⟩ = some (.int .i64 v.i) ∧ W4.cell? ⟨w.heap.size + 1, 3, none⟩ = some (.int .i64 v.b) ∧ W4.cell? ⟨w.heap.size + 1, 4, none⟩ = some (.int .i64 v.he) ∧ W4.cell? ⟨w.heap.size + 1, 5, none⟩ = some (.int .i64 v.hn) := by
    have := (unveil HS4).e
    simp [World.cell?, this]
  have HA := fun w => mayAsk_any v w
  obtain ⟨g, hg⟩ : ∃ g, askOf v = g := ⟨_, rfl⟩
  rw [hg] at HA
  have HG := veil hg
  clear hg
  go_upto_region 4 with (go_at_call 68; refine (HA _).mono ?_; rintro x W5 ⟨rfl, b5⟩; have S5 := (unveil HS4).next b5; have HQ5 := veil ((unveil HQ4).next b5); have HR15 := veil ((unveil HR1).below b5); have HR25 := veil ((unveil HR2).below b5); have HS5 := veil S5; have hy5 := (unveil HQ4).lt; have hs5 := b5.size; clear HA S5 b5 HS4 HQ4 HR1 HR2 v0 v1 v2 v3 v4 v5)
  by_cases h0 : g = 0
  case neg =>
    obtain ⟨z0, z1, z2, z3, z4, z5⟩ := (unveil HS5).z.cells
    have zf := (unveil HS5).z.free
    obtain ⟨y0, y1, y2, y3⟩ := (unveil HS5).y.cells
    have yf := (unveil HS5).y.free
    go_wp2
    obtain ⟨W6, hW6, d6, a6, b6⟩ := (unveil HS5).stored 0 0 0 0 0 none 0 0 0 0 0 0
    rw [← hW6]
    have hno := ask_no (v := v) ok (by rw [unveil HG]; exact h0)
    rw [unveil HG] at hno
    exact bodyPost_ret (ret_Serve d6 a6 rfl rfl rfl rfl) rfl ⟨_, An.zero, false, g, Bt.zero, rfl, hno, BOut.zero _ _, b6⟩
  case pos =>
  subst h0
  obtain ⟨hv, hk⟩ := ask_yes (unveil HG)
  have HK := veil hk
  clear hk HG
  have hSV := bserved_any B a c s a1' a2' c1' c2' ws' v W5 (unveil HR15) (unveil HR25) n1 n2 hW' hsok hv hvw
  obtain ⟨v0, v1, v2, v3, v4, v5⟩ : W5.cell? ⟨w.heap.size + 1, 0, none⟩ = some (.int .i64 v.k) ∧ W5.cell? ⟨w.heap.size + 1, 1, none⟩ = some (.int .i64 v.p) ∧ W5.cell? ⟨w.heap.size + 1, 2, none⟩ = some (.int .i64 v.i) ∧ W5.cell? ⟨w.heap.size + 1, 3, none⟩ = some (.int .i64 v.b) ∧ W5.cell? ⟨w.heap.size + 1, 4, none⟩ = some (.int .i64 v.he) ∧ W5.cell? ⟨w.heap.size + 1, 5, none⟩ = some (.int .i64 v.hn) := by
    have := (unveil HS5).e
    simp [World.cell?, this]
  obtain ⟨x0, x1, x2, x3, x4, x5⟩ := (unveil HS5).b.cells
  have q5 := unveil HQ5
  go_upto_region 7 with (first
    | (refine q_loads _ rfl rfl rfl q5 ?_)
    | (go_at_call 69; refine hSV.mono ?_; rintro x W6 ⟨an, l, al, cl, rfl, svr, rl, nl, b6⟩; have HSR := veil svr; have HRL := veil rl; have S6 := (unveil HS5).next b6; have hy6 := S6.y.lt; have HS6 := veil S6; clear hSV svr rl b6 S6 HS5 q5 v0 v1 v2 v3 v4 v5 x0 x1 x2 x3 x4 x5))
  have hW7 : ∃ W7, W7 = W6.alloc (.cells #[.int .i64 an.c, .int .i64 an.he, .int .i64 an.no, .int .i64 an.bd] 75) ∧ Sr w W7 B a c v ∧ ansBlock W7 W6.heap.size an.c an.he an.no an.bd ∧ RowK .i64 W7 al (6 * l.length) (evFlat l) := ⟨_, rfl, (unveil HS6).next (below1 _ _), ansBlock.new _ _ _ _ _, (unveil HRL).below (below1 _ _)⟩
  obtain ⟨W7, hW7, S7, y7, r7⟩ := hW7
  rw [← hW7]
  clear hW7 HS6 HRL
  obtain ⟨k, hkl⟩ : ∃ k, l.length = k := ⟨_, rfl⟩
  rw [hkl] at r7 ⊢
  have hk1 : k ≤ 1 := by
    rw [← hkl]
    cases unveil HSR <;> simp
  have hl0 := ok.len
  have HW : Hid (∀ W, Below W7.heap.size W7 W → Calls Tryz.prog 45 #[bVal B.r B.e B.f B.t B.o a B.es.length c, .slice al k cl] W fun x w' => ∃ y, x = .returned y ∧ BOut W w' (B.more l) y ∧ Below W.heap.size W w') := veil fun W bb => bwith_any B a c l al k cl W ((hb.next S7.bel).next bb) hkl (r7.below bb) nl (by omega)
  have HKL := veil hkl
  clear hkl
  refine wp_region_held_drew (S := fun u => bBlock u w.heap.size B.r B.e B.f B.t B.o a B.es.length c ∧ ansBlock u W6.heap.size an.c an.he an.no an.bd) (by kernel_rfl) ⟨S7.b.next (below_drew W7), y7.next (below_drew W7)⟩ (fun hHeld => ?_)
  refine wpAnyH_take (i := 0) (v := bVal B.r B.e B.f B.t B.o a B.es.length c) rfl (by kernel_rfl) (by kernel_rfl) (by kernel_rfl) (fun _ _ _ h => h) (Or.inl ⟨by rfl, fun u h => by obtain ⟨x0, x1, x2, x3, x4, x5⟩ := h.1.cells; go_simp⟩) hHeld ?_
  simp only [List.getElem_toArray, List.getElem_cons_zero, Act.put, List.setIfInBounds_toArray, List.set_cons_zero, List.set_cons_succ]
  refine wpAnyH_take (i := 1) (v := .slice al k cl) rfl (by kernel_rfl) (by kernel_rfl) (by kernel_rfl) (fun _ _ _ h => h) (Or.inl ⟨by rfl, fun _ _ => by go_simp⟩) hHeld ?_
  simp only [List.getElem_toArray, List.getElem_cons_zero, List.getElem_cons_succ, Act.put, List.setIfInBounds_toArray, List.set_cons_zero, List.set_cons_succ]
  refine wpAnyH_take (i := 3) (v := anOf an) rfl (by kernel_rfl) (by kernel_rfl) (by kernel_rfl) (fun _ _ _ h => h) (yields_a _ rfl rfl rfl (fun _ h => h.2)) hHeld ?_
  simp only [List.getElem_toArray, List.getElem_cons_zero, List.getElem_cons_succ, Act.put, List.setIfInBounds_toArray, List.set_cons_zero, List.set_cons_succ]
  refine wpAnyH_take (i := 4) (v := .slice al k cl) rfl (by kernel_rfl) (by kernel_rfl) (by kernel_rfl) (fun _ _ _ h => h) (Or.inl ⟨by rfl, fun _ _ => by go_simp⟩) hHeld ?_
  simp only [List.getElem_toArray, List.getElem_cons_zero, List.getElem_cons_succ, Act.put, List.setIfInBounds_toArray, List.set_cons_zero, List.set_cons_succ]
  refine wpAnyH_take (i := 5) (v := .int .i64 (k : Int)) rfl (by kernel_rfl) (by kernel_rfl) (by kernel_rfl) (fun _ _ _ h => h) (Or.inl ⟨by rfl, fun _ _ => by go_simp⟩) hHeld ?_
  simp only [List.getElem_toArray, List.getElem_cons_zero, List.getElem_cons_succ, Act.put, List.setIfInBounds_toArray, List.set_cons_zero, List.set_cons_succ]
  refine wpAnyH_take (i := 6) (v := .bool (decide (0 < k))) rfl (by kernel_rfl) (by kernel_rfl) (by kernel_rfl) (fun _ _ _ h => h) (Or.inl ⟨by rfl, fun _ _ => by go_simp⟩) hHeld ?_
  simp only [List.getElem_toArray, List.getElem_cons_zero, List.getElem_cons_succ, Act.put, List.setIfInBounds_toArray, List.set_cons_zero, List.set_cons_succ]
  have S0 := S7.next (below_drew W7)
  have Y0 := y7.next (below_drew W7)
  have hW0 := unveil HW W7.drew (below_drew W7)
  have hs0 : W6.heap.size < W7.drew.heap.size := y7.lt
  obtain ⟨W0, hWW⟩ : ∃ W0, W0 = W7.drew := ⟨_, rfl⟩
  rw [← hWW] at S0 Y0 hHeld hW0 hs0 ⊢
  clear hWW HW
  refine wpAnyH_ready (rs := [2]) (by kernel_rfl) (by simp) ?_
  refine AllReadyH.cons rfl (fun K hK => ?_) AllReadyH.nil
  simp only [List.getElem_toArray, List.getElem_cons_zero, List.getElem_cons_succ]
  go_simp
  refine hW0.mono ?_
  rintro x W8 ⟨y, rfl, ⟨⟨a', c', rfl, i8, u8⟩⟩, b8⟩
  have S8 := S0.next b8
  have Y8 := Y0.next b8
  refine hK.out _ _ ⟨S8.b, Y8⟩ (fun hHeld => ?_)
  clear hK K
  obtain ⟨B2, hB2⟩ : ∃ B2, B2 = B.more l := ⟨_, rfl⟩
  have HB2 := veil hB2
  rw [← hB2] at i8 ⊢
  clear hB2
  refine wpAnyH_ready (rs := [7]) (by kernel_rfl) (by simp) ?_
  refine AllReadyH.cons rfl (fun K hK => ?_) AllReadyH.nil
  simp only [List.getElem_toArray, List.getElem_cons_zero, List.getElem_cons_succ]
  obtain ⟨z0, z1, z2, z3, z4, z5⟩ := S8.z.cells
  have zf := S8.z.free
  go_simp
  obtain ⟨W9, hW9, d9, b9, t9⟩ := b_stored S8.z S8.bel (show w.heap.size ≤ w.heap.size + 2 by omega) B2.r B2.e B2.f B2.t B2.o a' B2.es.length c'
  rw [← hW9]
  clear hW9
  have y9 := S8.y.turned t9 (by omega)
  have i9 := i8.turned t9 (fun x hx _ => by have := u8 x hx; omega)
  refine hK.out _ _ ⟨S8.b.turned t9 (by omega), Y8.turned t9 (by omega)⟩ (fun hHeld => ?_)
  clear hK K z0 z1 z2 z3 z4 z5 zf
  refine wpAnyH_ready (rs := [8]) (by kernel_rfl) (by simp) ?_
  refine AllReadyH.cons rfl (fun K hK => ?_) AllReadyH.nil
  simp only [List.getElem_toArray, List.getElem_cons_zero, List.getElem_cons_succ]
  obtain ⟨y0, y1, y2, y3⟩ := y9.cells
  have yf := y9.free
  go_simp
  obtain ⟨W10, hW10, d10, b10, t10⟩ := a_stored y9 b9 (show w.heap.size ≤ w.heap.size + 3 by omega) an.c an.he an.no an.bd
  rw [← hW10]
  clear hW10
  have e10 := d9.turned t10 (by omega)
  have i10 := i9.turned t10 (fun x hx _ => by have := u8 x hx; omega)
  refine hK.out _ _ ⟨hHeld.1.turned t10 (by omega), hHeld.2.turned t10 (by omega)⟩ (fun hHeld => ?_)
  clear hK K y0 y1 y2 y3 yf
  refine wpAnyH_take (i := 9) (v := .bool (decide (0 < k))) rfl (by kernel_rfl) (by kernel_rfl) (by kernel_rfl) (fun _ _ _ h => h) (Or.inl ⟨by rfl, fun _ _ => by go_simp⟩) hHeld ?_
  simp only [List.getElem_toArray, List.getElem_cons_zero, List.getElem_cons_succ, Act.put, List.setIfInBounds_toArray, List.set_cons_zero, List.set_cons_succ]
  refine wpAnyH_take (i := 10) (v := .int .i64 0) rfl (by kernel_rfl) (by kernel_rfl) (by kernel_rfl) (fun _ _ _ h => h) (Or.inl ⟨by rfl, fun _ _ => by go_simp⟩) hHeld ?_
  simp only [List.getElem_toArray, List.getElem_cons_zero, List.getElem_cons_succ, Act.put, List.setIfInBounds_toArray, List.set_cons_zero, List.set_cons_succ]
  refine wpAnyH_done (by kernel_rfl) ?_ _
  have HD := veil d10
  have HE := veil e10
  have HB := veil b10
  have HI := veil i10
  have HU := veil u8
  clear d9 d10 e10 b9 b10 i8 i9 i10 t9 t10 y9 hHeld S8 Y8 S0 Y0 S7 y7 r7 u8
  go_wp2
  have hsv := (unveil HSR).serve ok hv (unveil HK) (unveil HTT)
  rw [unveil HKL, ← unveil HB2] at hsv
  exact bodyPost_ret (ret_Serve (unveil HE) (unveil HD) rfl rfl rfl rfl) rfl ⟨_, an, _, 0, B2, rfl, hsv, ⟨a', c', rfl, unveil HI, fun x hx => by have := unveil HU x hx; omega⟩, unveil HB⟩
end Go.Proofs.YtcdopnkabbfooaaGreat

namespace Go.Proofs.YtcdopnkabbfooaaGreat
open Go.RowKit

theorem evFlat_take (es : List Ev) (k : Nat) : (evFlat es).take (6 * k) = evFlat (es.take k) := by
  induction k generalizing es with
  | zero => simp [evFlat]
  | succ k ih =>
    cases es with
    | nil => simp [evFlat]
    | cons v es =>
      show (evCells v ++ evFlat es).take (6 * (k + 1)) = evCells v ++ evFlat (es.take k)
      rw [show 6 * (k + 1) = (evCells v).length + 6 * k by show _ = 6 + _; omega, List.take_append]
      rw [List.take_of_length_le (by omega), Nat.add_sub_cancel_left, ih]
theorem RowK.firsts {k : IntKind} {w : World} {a : Option Addr} {len : Nat} {l : List Int} (h : RowK k w a len l) (n : Nat) (hn : n ≤ len) : RowK k w a n (l.take n) := by
  have hl := h.len_eq
  refine ⟨by simp; omega, fun u hu => h.wf u (List.mem_of_mem_take hu), fun i hi => ?_⟩
  obtain ⟨b, off, ha, hlt, hc⟩ := h.cell i (by omega)
  refine ⟨b, off, ha, hlt, ?_⟩
  rw [hc]
  simp [hi]
theorem SameAt.symm {A B : List Int} {k : Nat} (h : SameAt A B k) : SameAt B A k := fun j hj => (h j hj).symm
theorem IsCommon.symm {A B : List Int} {la lb n : Nat} (h : IsCommon A B la lb n) : IsCommon B A lb la n :=
  ⟨h.leb, h.lea, fun k hk => (h.same k hk).symm, by
    rcases h.stop with h1 | h1 | h1
    · exact .inr (.inl h1)
    · exact .inl h1
    · exact .inr (.inr fun h2 => h1 h2.symm)⟩
theorem IsCommon.self {A : List Int} {la n : Nat} (h : IsCommon A A la la n) : n = la := by
  rcases h.stop with h1 | h1 | h1
  · exact h1
  · exact h1
  · exact absurd (fun j _ => rfl) h1
theorem IsCommon.least {A B : List Int} {la lb n k : Nat} (h : IsCommon A B la lb n) (hs : ∀ j, j < k → SameAt A B j) (ha : k ≤ la) (hb : k ≤ lb) : k ≤ n := by
  rcases Nat.lt_or_ge n k with h1 | h1
  · rcases h.stop with h2 | h2 | h2
    · omega
    · omega
    · exact absurd (hs n h1) h2
  · exact h1
theorem sameAt_take {es os : List Ev} {k : Nat} (h : es.take k = os.take k) (he : k ≤ es.length) (ho : k ≤ os.length) : ∀ j, j < k → SameAt (evFlat es) (evFlat os) j := by
  intro j hj i hi
  rw [evFlat_at es j (by omega) i hi, evFlat_at os j (by omega) i hi]
  have : es[j]'(by omega) = os[j]'(by omega) := by
    have h1 : (es.take k)[j]? = (os.take k)[j]? := by rw [h]
    rw [List.getElem?_take, List.getElem?_take, if_pos hj, if_pos hj, List.getElem?_eq_getElem (by omega), List.getElem?_eq_getElem (by omega)] at h1
    exact Option.some.inj h1
  rw [this]
/-- the other history, on its way. -/
structure Al (W3 wr : World) (base k m : Nat) (es os : List Ev) (v : Value) : Prop where
  own : wr.ownsRow base 28 6 v os.length ((evFlat os).map (Value.int .i64))
  len : os.length = k + m
  pre : es.take k = os.take k
  ok : ∀ v ∈ os, v.Ok
  bel : Below base W3 wr
end Go.Proofs.YtcdopnkabbfooaaGreat

namespace Go.Proofs.YtcdopnkabbfooaaGreat
open Go.RowKit

/-- where a cut begins. -/
def cutA (ad : Option Addr) (c l : Nat) : Option Addr := if c = l then ad else ad.map (·.add (l * 6))
theorem evT : Tryz.prog.underlying 22 = some (.slice (Tryz.prog.elem 22)) := by kernel_rfl
theorem evSize (w : World) : (sizeOf (Tryz.prog.elem 22)).run Tryz.prog w = .ok 6 w := by
  have : Tryz.prog.elem 22 = 28 := by kernel_rfl
  rw [this]
  simp [sizeOf, go_sem]
  rfl
theorem run_cut_lh (ad : Option Addr) (n c l h : Nat) (h1 : l ≤ h) (h2 : h ≤ c) (w : World) : (Instr.sliceAt 22 (.slice ad n c) (some (.int .i64 l)) (some (.int .i64 h)) none).run Tryz.prog w = .ok (.slice (cutA ad c l) (h - l) (c - l)) w := by
  rw [run_sliceAt_slice w _ _ _ _ _ evT, run_slice_lh w _ _ _ _ evT _ _ _ _ (by omega) (by omega) (by omega), evSize]
  simp [sliced, cutA]
theorem run_cut_l (ad : Option Addr) (n c l : Nat) (h1 : l ≤ n) (w : World) : (Instr.sliceAt 22 (.slice ad n c) (some (.int .i64 l)) none none).run Tryz.prog w = .ok (.slice (cutA ad c l) (n - l) (c - l)) w := by
  rw [run_sliceAt_slice w _ _ _ _ _ evT, run_slice_l w _ _ _ _ evT _ _ (by omega) (by omega), evSize]
  simp [sliced, cutA]
theorem run_cut_hm (ad : Option Addr) (n c h : Nat) (h1 : h ≤ c) (w : World) : (Instr.sliceAt 22 (.slice ad n c) none (some (.int .i64 h)) (some (.int .i64 h))).run Tryz.prog w = .ok (.slice (cutA ad h 0) h h) w := by
  rw [run_sliceAt_slice w _ _ _ _ _ evT, run_slice_hm w _ _ _ _ evT _ _ _ _ (by omega) (by omega) (by omega), evSize]
  simp [sliced, cutA]
theorem evFlat_drop : ∀ (es : List Ev) (l : Nat), evFlat (es.drop l) = (evFlat es).drop (6 * l)
  | es, 0 => by simp
  | [], l + 1 => by simp [evFlat]
  | v :: es, l + 1 => by
    rw [List.drop_succ_cons, evFlat_drop es l]
    show (evFlat es).drop (6 * l) = (evCells v ++ evFlat es).drop (6 * (l + 1))
    have e1 : List.drop ((evCells v).length + 6 * l) (evCells v) = [] := List.drop_eq_nil_of_le (by omega)
    rw [show 6 * (l + 1) = (evCells v).length + 6 * l by simp [evCells]; omega, List.drop_append, e1, Nat.add_sub_cancel_left, List.nil_append]
theorem RowK.within {k : IntKind} {w : World} {b off len : Nat} {L : List Int} (h : RowK k w (some ⟨b, off, none⟩) len L) (d m : Nat) (hd : d + m ≤ len) : RowK k w (some ⟨b, off + d, none⟩) m ((L.drop d).take m) := by
  have hl := h.len_eq
  refine ⟨by rw [List.length_take, List.length_drop]; omega, fun u hu => h.wf u (List.mem_of_mem_drop (List.mem_of_mem_take hu)), fun i hi => ⟨b, off + d, rfl, h.lt (by omega), ?_⟩⟩
  have hc := h.at (d + i) (by omega)
  rw [Nat.add_assoc, hc]
  congr 2
  simp only [List.getD_eq_getElem?_getD]
  rw [List.getElem?_take, if_pos hi, List.getElem?_drop]
/-- the events of a cut. -/
theorem cut_row {w : World} {ad : Option Addr} {n c : Nat} {es : List Ev} (hr : RowK .i64 w ad (6 * n) (evFlat es)) (nil : ad = none → c = 0) (l h : Nat) (h1 : l ≤ h) (h2 : h ≤ n) (hc : n ≤ c) :
    RowK .i64 w (cutA ad c l) (6 * (h - l)) (evFlat ((es.drop l).take (h - l))) ∧ (cutA ad c l = none → c - l = 0) := by
  have hfl : evFlat ((es.drop l).take (h - l)) = ((evFlat es).drop (6 * l)).take (6 * (h - l)) := by rw [← evFlat_take, evFlat_drop]
  unfold cutA
  by_cases hcl : c = l
  · rw [if_pos hcl]
    have : h - l = 0 := by omega
    rw [this]
    simp only [List.take_zero]
    exact ⟨RowK.nil _ _ _, fun _ => by omega⟩
  · rw [if_neg hcl]
    cases ad with
    | none => have := nil rfl; omega
    | some x =>
      refine ⟨?_, fun h => by simp at h⟩
      rcases Nat.eq_zero_or_pos (h - l) with h0 | h0
      · rw [h0]
        simp only [List.take_zero]
        exact RowK.nil _ _ _
      · obtain ⟨b, off, hx⟩ := hr.form (by omega)
        cases hx
        rw [hfl]
        have := hr.within (6 * l) (6 * (h - l)) (by omega)
        have e : (⟨b, off, none⟩ : Addr).add (l * 6) = ⟨b, off + 6 * l, none⟩ := by rw [Nat.mul_comm]; unfold Addr.add; split <;> simp_all
        simp only [Option.map_some]
        rw [e]
        exact this
section
variable {ops : Array Oper} {rest : List Oper} {o : Oper} {a : Act} {Q : Exit → Act → World → Prop} {w : World} {S : World → Prop} {ad : Option Addr} {n c l h : Nat}
theorem yields_cut_lh (x lo hi : Operand) (ho : o.op = .slice 22 x (some lo) (some hi) none) (hw : Region.wanted o (yielded ops a.tmps) = true) (hx : a.eval x = .slice ad n c) (hlo : a.eval lo = .int .i64 l) (hhi : a.eval hi = .int .i64 h) (h1 : l ≤ h) (h2 : h ≤ c) :
    YieldsIf Tryz.prog ops S o (.slice (cutA ad c l) (h - l) (c - l)) a :=
  .inl ⟨hw, fun w _ => by
    unfold execOp
    simp only [ho, Option.map_some, Option.map_none, hx, hlo, hhi]
    simp [run_cut_lh ad n c l h h1 h2 w, Result.andThen]⟩
theorem cut_l (x lo : Operand) (ho : o.op = .slice 22 x (some lo) none none) (hw : Region.wanted o (yielded ops a.tmps) = true) (hx : a.eval x = .slice ad n c) (hlo : a.eval lo = .int .i64 l) (h1 : l ≤ n)
    (h : wpList Tryz.prog ops Q rest (a.put o.dst (.slice (cutA ad c l) (n - l) (c - l))) w) : wpList Tryz.prog ops Q (o :: rest) a w :=
  wpList_step fun K hK => by
    rw [if_pos hw]
    have := hK _ _ h
    unfold Oper.wp
    simp only [execOp, ho, Option.map_some, Option.map_none, hx, hlo]
    simp [run_cut_l ad n c l h1 w, Result.andThen]
    exact this
theorem cut_hm (x hi hi' : Operand) (ho : o.op = .slice 22 x none (some hi) (some hi')) (hw : Region.wanted o (yielded ops a.tmps) = true) (hx : a.eval x = .slice ad n c) (hhi : a.eval hi = .int .i64 h) (hhi' : a.eval hi' = .int .i64 h) (h1 : h ≤ c)
    (hh : wpList Tryz.prog ops Q rest (a.put o.dst (.slice (cutA ad h 0) h h)) w) : wpList Tryz.prog ops Q (o :: rest) a w :=
  wpList_step fun K hK => by
    rw [if_pos hw]
    have := hK _ _ hh
    unfold Oper.wp
    simp only [execOp, ho, Option.map_some, Option.map_none, hx, hhi, hhi']
    simp [run_cut_hm ad n c h h1 w, Result.andThen]
    exact this
end
end Go.Proofs.YtcdopnkabbfooaaGreat
