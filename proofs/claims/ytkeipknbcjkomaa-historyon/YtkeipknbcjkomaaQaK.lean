/- The walk of berthshiftkeep.HistoryOn. -/
import Derived.Test.YtkeipknbcjkomaaQkF
import Derived.Test.YtkeipknbcjkomaaQaG
import Derived.Test.YtkeipknbcjkomaaQkH
import Derived.Test.YtkeipknbcjkomaaHsG
namespace Go.Proofs.Ytkeipknbcjkomaa
open Go.RowKit

theorem alloc_lt (w : World) (cs : Array Value) (t : TypeId) : w.heap.size < (w.alloc (.cells cs t)).heap.size := by
  have e := heap_alloc_new w (.cells cs t)
  rcases Nat.lt_or_ge w.heap.size (w.alloc (.cells cs t)).heap.size with h | h
  · exact h
  · rw [Array.getElem?_eq_none h] at e; cases e
theorem wp_append_rows {P : Program} {w : World} {o : Oper} {a : Act} {K : Act → World → Prop} {Q : Exit → Act → World → Prop} (s x : Operand) (t : TypeId)
    (ho : o.op = .call { callee := .builtin .append, args := #[s, x], argTypes := #[t, t] })
    (base : Nat) (e : TypeId) (i : TypeInfo) (z : Value) (size bytes : Nat) (ht : P.underlying t = some (.slice e)) (hi : P.info? e = some i) (hz : i.zero = some z)
    (hsize : i.size = size) (hby : i.bytes = bytes) (hzs : z.cells.size = size) (hsz : 0 < size)
    (v : Value) (n : Nat) (xs : List Int) (hs : a.eval s = v) (hown : w.ownsRow base e size v n (xs.map (Value.int .i64)))
    (ad : Option Addr) (m c : Nat) (l : List Int) (hx : a.eval x = .slice ad m c) (hr : RowK .i64 w ad (size * m) l) (hnil : ad = none → c = 0)
    (h63 : n + m ≤ maxLen) (hbytes : (n + m) * bytes ≤ 140737488355328) (hbase : base ≤ w.heap.size)
    (h : ∀ v' w', w'.ownsRow base e size v' (n + m) ((xs ++ l).map (Value.int .i64)) → w.grownBy w' v.ownBlock → K (a.put o.dst v') w') : o.wp P a w K Q := by
  cases ad with
  | none =>
    have hm : m = 0 := by
      by_cases h0 : 0 < size * m
      · obtain ⟨_, _, h', _⟩ := hr.cell 0 h0; cases h'
      · rcases Nat.eq_zero_or_pos m with hm | hm
        · exact hm
        · exact absurd (Nat.mul_pos hsz hm) h0
    subst hm
    have hl : l = [] := List.length_eq_zero_iff.1 (by simpa using hr.len_eq)
    subst hl
    have hrun := run_append_owned_none (P := P) (w := w) base t o.type e i size ht hi v n _ hown
    have hk := h v w (by simpa using hown) (World.grownBy.refl _ _)
    unfold Oper.wp execOp
    simp only [ho, resolve, invoke, builtin, Sem.run_bind, Sem.run_pure, Result.andThen_ok, List.map_toArray, List.map_cons, List.map_nil, hs, hx, hnil rfl, hrun]
    exact hk
  | some x0 =>
    refine wp_append_own w s x t ho base e i z size bytes ht hi hz hsize hby hzs hsz v n _ hs hown x0 m c (l.map (Value.int .i64)) hx (by rw [List.length_map, hr.len_eq, Nat.mul_comm]) ?_ (ints_oneCell _ _) h63 hbytes hbase ?_
    · intro j u hj
      have hjm : j < l.length := by
        rcases Nat.lt_or_ge j l.length with h' | h'
        · exact h'
        · simp [List.getElem?_eq_none h'] at hj
      obtain ⟨b, off, hb, _, hc⟩ := hr.cell j (by rw [← hr.len_eq]; exact hjm)
      simp only [Option.some.injEq] at hb
      subst hb
      rw [Addr.add_mid, hc]
      simp [List.getElem?_eq_getElem hjm] at hj
      simp [List.getElem?_eq_getElem hjm, hj]
    · intro v' w' h1 h2 _
      exact h v' w' (by rw [List.map_append]; exact h1) h2
set_option maxRecDepth 20000 in
set_option maxHeartbeats 4000000 in
theorem walk_HistoryOn (w : World) (a : Option Addr) (len cap : Nat) (D : List Int) (h : RowK .i64 w a (4 * len) D) (_ : len ≤ cap) (_ : cap ≤ maxLen) (_ : a = none → cap = 0) (x0 x1 x2 x3 : Int) (hxw : ∀ z ∈ [x0, x1, x2, x3], (Lit.int .i64 z).wf = true) :
    Calls Try.prog 12 #[.slice a len cap, .agg #[.int .i64 x0, .int .i64 x1, .int .i64 x2, .int .i64 x3]] w fun r w' => r = .returned (.bool true) ∧ Below w.heap.size w w' := by
  obtain ⟨i6, hi6, hz60, hz61, hz62⟩ := info_of Try.infoEvent
  obtain ⟨v, hv⟩ : ∃ v, v = deedEv x0 x1 x2 x3 := ⟨_, rfl⟩
  have hvl : DeedLike v := by rw [hv]; exact deedEv_like _ _ _ _
  have hEv : ∀ w, Calls Try.prog 23 #[.agg #[.int .i64 x0, .int .i64 x1, .int .i64 x2, .int .i64 x3]] w fun e w' => e = .returned (evIn v) ∧ Below w.heap.size w w' := fun w => by rw [hv]; exact event_ev x0 x1 x2 x3 w (hxw _ (by simp)) (hxw _ (by simp)) (hxw _ (by simp)) (hxw _ (by simp))
  have HVL := veil hvl
  clear hv hxw hvl
  go_enter Try.func12, Try.ntmps12
  go_upto_region 1 with fail
  obtain ⟨W0, hW0, b0, e0⟩ : ∃ W0, W0 = w.alloc (.cells #[.int .i64 x0, .int .i64 x1, .int .i64 x2, .int .i64 x3] 38) ∧ Below w.heap.size w W0 ∧ W0.heap[w.heap.size]? = some (.cells #[.int .i64 x0, .int .i64 x1, .int .i64 x2, .int .i64 x3] 38 (0, 0)) := ⟨_, rfl, below1 _ _, heap_alloc_new _ _⟩
  rw [← hW0]
  have HP := played_any a len cap 60 D W0 (h.below b0) (by omega)
  have k0 : W0.cell? ⟨w.heap.size, 0, none⟩ = some (.int .i64 x0) := by simp [World.cell?, e0]
  have k1 : W0.cell? ⟨w.heap.size, 1, none⟩ = some (.int .i64 x1) := by simp [World.cell?, e0]
  have k2 : W0.cell? ⟨w.heap.size, 2, none⟩ = some (.int .i64 x2) := by simp [World.cell?, e0]
  have k3 : W0.cell? ⟨w.heap.size, 3, none⟩ = some (.int .i64 x3) := by simp [World.cell?, e0]
  have hX0 : w.heap.size < W0.heap.size := by
    rcases Nat.lt_or_ge w.heap.size W0.heap.size with h' | h'
    · exact h'
    · rw [Array.getElem?_eq_none h'] at e0; cases e0
  clear h hW0 e0
  go_upto_region 2 with (first
    | (go_at_call 15; refine HP.mono ?_; rintro r W1 ⟨s, es, ans, x, ve, va, rfl, hist, hl, _, _, ⟨⟨a1, c1, a2, c2, ws, rfl, r1, r2, l1, l2, n1, n2, hW, f1, f2⟩⟩, oe, oa, B1⟩; have HH := veil hist; obtain ⟨ae, ce, rfl, re, hce, _, hne, _⟩ := RowK.ofMany oe (evFlat_wf fun v hv => (hist.like v hv).ok); clear hist oe oa f1 f2 HP)
    | (refine q_alloc 5 rfl rfl rfl ?_; intro W2 z2 b2)
    | (refine q_store (ra := a1) (la := a2) (ws' := ws) _ _ rfl rfl rfl rfl z2 hW ?_; intro W3 q3 t3; obtain ⟨X3, b3, B3⟩ := boxed r1 r2 n1 n2 hW B1 b2 t3 q3; have HX3 := veil X3; have HB3 := veil B3; have HE3 := veil (re.below b3); clear z2 b2 q3 t3 r1 r2 n1 n2 B1 b3 X3 B3 re))
  have B3 := unveil HB3
  have m0 := (B3.cell (p := ⟨w.heap.size, 0, none⟩) hX0).trans k0
  have m1 := (B3.cell (p := ⟨w.heap.size, 1, none⟩) hX0).trans k1
  have m2 := (B3.cell (p := ⟨w.heap.size, 2, none⟩) hX0).trans k2
  have m3 := (B3.cell (p := ⟨w.heap.size, 3, none⟩) hX0).trans k3
  have HB3' := veil (Below.next b0 B3)
  clear k0 k1 k2 k3 HB3 b0 B3
  go_upto_region 3 with (go_at_call 23; refine (hEv _).mono ?_; rintro e W5 ⟨rfl, b5⟩; clear hEv m0 m1 m2 m3)
  obtain ⟨W6, hW6, b6, e6⟩ : ∃ W6, W6 = W5.alloc (.cells #[.int .i64 v.k, .int .i64 v.p, .int .i64 v.i, .int .i64 v.b, .int .i64 v.he, .int .i64 v.hn] 45) ∧ Below W3.heap.size W3 W6 ∧ W6.heap[W5.heap.size]? = some (.cells #[.int .i64 v.k, .int .i64 v.p, .int .i64 v.i, .int .i64 v.b, .int .i64 v.he, .int .i64 v.hn] 45 (0, 0)) := ⟨_, rfl, Below.next b5 (below1 _ _), heap_alloc_new _ _⟩
  rw [← hW6]
  have u0 : W6.cell? ⟨W5.heap.size, 0, none⟩ = some (.int .i64 v.k) := by simp [World.cell?, e6]
  have u1 : W6.cell? ⟨W5.heap.size, 1, none⟩ = some (.int .i64 v.p) := by simp [World.cell?, e6]
  have u2 : W6.cell? ⟨W5.heap.size, 2, none⟩ = some (.int .i64 v.i) := by simp [World.cell?, e6]
  have u3 : W6.cell? ⟨W5.heap.size, 3, none⟩ = some (.int .i64 v.b) := by simp [World.cell?, e6]
  have u4 : W6.cell? ⟨W5.heap.size, 4, none⟩ = some (.int .i64 v.he) := by simp [World.cell?, e6]
  have u5 : W6.cell? ⟨W5.heap.size, 5, none⟩ = some (.int .i64 v.hn) := by simp [World.cell?, e6]
  have hE6 : W5.heap.size < W6.heap.size := by
    rcases Nat.lt_or_ge W5.heap.size W6.heap.size with h' | h'
    · exact h'
    · rw [Array.getElem?_eq_none h'] at e6; cases e6
  have X6 := (unveil HX3).next b6
  have B6 := Below.next (unveil HB3') b6
  have HE6 := veil ((unveil HE3).below b6)
  have hist := unveil HH
  have HDo : Calls Try.prog 19 #[qVal s.ep s.nx s.gv (.slice a1 s.rn c1) (.slice a2 s.ln c2) ws, .agg #[.int .i64 v.k, .int .i64 v.p, .int .i64 v.i, .int .i64 v.b, .int .i64 v.he, .int .i64 v.hn]] W6 fun e w' => ∃ (s' : St) (cd he no bd : Int) (ch : Bool) (x : Value), e = .returned (.tuple #[x, ansVal cd he no bd, .bool ch, .int .i64 0]) ∧ Step s v s' ⟨cd, he, no, bd⟩ ch ∧ QOut W6 w' s' x ∧ Below W6.heap.size W6 w' := by
    refine (X6.do hist.wf.ok v (unveil HVL).ok).mono ?_
    rintro e w' ⟨s2, ⟨cd, he, no, bd⟩, ch, x, rfl, st, qo, bb⟩
    exact ⟨s2, cd, he, no, bd, ch, x, rfl, st, qo, bb⟩
  have q6 := X6.q
  clear hist X6 HX3 HB3' HE3 hW6 e6 b6 b5
  go_upto_region 4 with (first
    | (refine q_loads _ rfl rfl rfl q6 ?_)
    | (go_at_call 19; refine HDo.mono ?_; rintro r W7 ⟨s', cd, he, no, bd, ch, x', rfl, hst, ⟨⟨a1', c1', a2', c2', ws', rfl, r1, r2, l1', l2', n1, n2, hW', f1, f2⟩⟩, b7⟩; have HS' := veil hst; have B7 := Below.next B6 b7; have HE7 := veil ((unveil HE6).below b7); have v0 := (b7.cell (p := ⟨W5.heap.size, 0, none⟩) hE6).trans u0; have v1 := (b7.cell (p := ⟨W5.heap.size, 1, none⟩) hE6).trans u1; have v2 := (b7.cell (p := ⟨W5.heap.size, 2, none⟩) hE6).trans u2; have v3 := (b7.cell (p := ⟨W5.heap.size, 3, none⟩) hE6).trans u3; have v4 := (b7.cell (p := ⟨W5.heap.size, 4, none⟩) hE6).trans u4; have v5 := (b7.cell (p := ⟨W5.heap.size, 5, none⟩) hE6).trans u5; have hE7 : W5.heap.size < W7.heap.size := Nat.lt_of_lt_of_le hE6 b7.size; clear hst HDo q6 b7 f1 f2 u0 u1 u2 u3 u4 u5 HE6)
    | (refine q_alloc 10 rfl rfl rfl ?_; intro W8 z8 b8; have hN8 : W7.heap.size < W8.heap.size := z8.lt; have z8' := z8.next (below1 W8 (.cells #[.int .i64 0, .int .i64 0, .int .i64 0, .int .i64 0] 47)))
    | (refine q_store (ra := a1') (la := a2') (ws' := ws') _ _ rfl rfl rfl rfl z8' hW' ?_; intro Wa qa ta; obtain ⟨y0, y1, y2, y3⟩ := (ans0 hN8 ta).cells; have yf := (ans0 hN8 ta).free))
  obtain ⟨W9, hW9, X9, A9, b9, B9⟩ := boxed2 cd he no bd r1 r2 n1 n2 hW' B7 b8 hN8 ta qa
  rw [← hW9]
  have E9 := (unveil HE7).below b9
  have u0 := (b9.cell (p := ⟨W5.heap.size, 0, none⟩) hE7).trans v0
  have u1 := (b9.cell (p := ⟨W5.heap.size, 1, none⟩) hE7).trans v1
  have u2 := (b9.cell (p := ⟨W5.heap.size, 2, none⟩) hE7).trans v2
  have u3 := (b9.cell (p := ⟨W5.heap.size, 3, none⟩) hE7).trans v3
  have u4 := (b9.cell (p := ⟨W5.heap.size, 4, none⟩) hE7).trans v4
  have u5 := (b9.cell (p := ⟨W5.heap.size, 5, none⟩) hE7).trans v5
  have hE9 : W5.heap.size < W9.heap.size := Nat.lt_of_lt_of_le hE7 b9.size
  have HX9 := veil X9
  clear hW9 y0 y1 y2 y3 yf qa ta z8 z8' b8 r1 r2 n1 n2 B7 HE7 v0 v1 v2 v3 v4 v5 hE7 X9 A9 b9
  have okB : ∀ u ∈ es ++ [v], u.Ok := fun u hu => by
    rcases List.mem_append.1 hu with h1 | h1
    · exact ((unveil HH).like u h1).ok
    · obtain rfl := List.mem_singleton.1 h1
      exact (unveil HVL).ok
  obtain ⟨t, er, HT, HR⟩ : ∃ (t : St) (er : Int), Hid ((ch = true ∧ er = 0 ∧ t = s' ∧ s'.rn + s'.ln ≤ 500) ∨ (ch = false ∧ er = 3)) ∧ Hid (∀ W ab cb, RowK .i64 W ab (6 * (es.length + 1)) (evFlat (es ++ [v])) → Calls Try.prog 20 #[.slice ab (es.length + 1 : Nat) cb] W fun e w' => ∃ x, e = .returned (.tuple #[x, .int .i64 er]) ∧ QOut W w' t x ∧ Below W.heap.size W w') := by
    have hist := unveil HH
    have st := unveil HS'
    cases ch with
    | true =>
      have h2 := hist.snoc (unveil HVL) st
      have sm := h2.small (m := 61) (by simp; omega)
      exact ⟨s', 0, veil (.inl ⟨rfl, rfl, rfl, by omega⟩), veil fun W ab cb rb => replay_yes (es ++ [v]) (es.length + 1) (by simp) s' _ h2.tells ab cb W rb (by omega) okB⟩
    | false =>
      exact ⟨St.zero, 3, veil (.inr ⟨rfl, rfl⟩), veil fun W ab cb rb => replay_no es v (es.length + 1) (by simp) s _ hist.tells (fun s2 an2 st2 => by have := (st.det hist.wf st2).2.2; cases this) ab cb W rb (by omega) okB⟩
  have HOK := veil okB
  clear okB
  go_cut [14, 15] (fun p14 e15 wx => ∃ (X : Nat) (b1 : Option Addr) (d1 : Nat) (b2 : Option Addr) (d2 : Nat) (vs : Nat → Value), p14 = .pointer (some ⟨X, 0, none⟩) ∧ e15 = .int .i64 er ∧ Bx wx X t b1 d1 b2 d2 vs ∧ Below W9.heap.size W9 wx)
  case first =>
    refine wp_region_held_drew (S := Below W9.heap.size W9) (by kernel_rfl) (below_drew W9) (fun hHeld => ?_)
    refine wpAnyH_take (i := 0) (v := .slice ae es.length ce) rfl (by kernel_rfl) (by kernel_rfl) (by kernel_rfl) (fun _ _ _ h => h) (Or.inl ⟨by rfl, fun _ _ => by go_simp⟩) hHeld ?_
    simp only [List.getElem_toArray, List.getElem_cons_zero, Act.put, List.setIfInBounds_toArray, List.set_cons_zero, List.set_cons_succ]
    refine wpAnyH_take (i := 2) (v := .agg #[.int .i64 v.k, .int .i64 v.p, .int .i64 v.i, .int .i64 v.b, .int .i64 v.he, .int .i64 v.hn]) rfl (by kernel_rfl) (by kernel_rfl) (by kernel_rfl) (fun _ _ _ h => h) (Or.inl ⟨by rfl, fun w b => by have j0 := (b.cell (p := ⟨W5.heap.size, 0, none⟩) hE9).trans u0; have j1 := (b.cell (p := ⟨W5.heap.size, 1, none⟩) hE9).trans u1; have j2 := (b.cell (p := ⟨W5.heap.size, 2, none⟩) hE9).trans u2; have j3 := (b.cell (p := ⟨W5.heap.size, 3, none⟩) hE9).trans u3; have j4 := (b.cell (p := ⟨W5.heap.size, 4, none⟩) hE9).trans u4; have j5 := (b.cell (p := ⟨W5.heap.size, 5, none⟩) hE9).trans u5; go_simp⟩) hHeld ?_
    simp only [List.getElem_toArray, List.getElem_cons_zero, List.getElem_cons_succ, Act.put, List.setIfInBounds_toArray, List.set_cons_zero, List.set_cons_succ]
    have bV := below_drew W9
    have hz0 : W9.heap.size ≤ W9.drew.heap.size := bV.size
    obtain ⟨V, hV⟩ : ∃ V, V = W9.drew := ⟨_, rfl⟩
    rw [← hV] at bV hz0 hHeld ⊢
    clear hV
    refine wpAnyH_ready (rs := [1, 3, 9]) (by kernel_rfl) (by simp) ?_
    refine AllReadyH.cons rfl (fun K hK => ?_) (AllReadyH.cons rfl (fun K hK => ?_) (AllReadyH.cons rfl (fun K hK => ?_) AllReadyH.nil))
    · simp only [List.getElem_toArray, List.getElem_cons_zero, List.getElem_cons_succ]
      refine ite_wanted rfl ?_
      refine wp_append_rows (.const (.slice none 0 0)) (.tmp 34) 31 rfl V.heap.size 45 i6 _ 6 48 Try.underlying31 hi6 hz60 hz61 hz62 rfl (by decide) (.slice none 0 0) 0 [] rfl (World.ownsRow_nil _ _ _ _) ae es.length ce (evFlat es) rfl (E9.below bV) hne (by unfold maxLen; omega) (by omega) (Nat.le_refl _) ?_
      intro va VA oa ga
      simp only [Nat.zero_add, List.nil_append] at oa
      obtain ⟨aa, ka, rfl⟩ := own_form oa
      have bn : Below V.heap.size V VA := (Below.refl _ _).grown ga (Nat.le_refl _) (by simp [Value.ownBlock])
      have hown := oa.lt
      have hba : V.heap.size ≤ VA.heap.size := bn.size
      have bVA := Below.next bV bn
      have hSVA : V.heap.size ≤ VA.heap.size := bn.size
      refine hK.out _ _ bVA (fun hHeld => ?_)
      clear hK K bn
      refine wpAnyH_ready (rs := [3, 9]) (by kernel_rfl) (by simp) ?_
      refine AllReadyH.cons rfl (fun K hK => ?_) (AllReadyH.cons rfl (fun K hK => ?_) AllReadyH.nil)
      · simp only [List.getElem_toArray, List.getElem_cons_zero, List.getElem_cons_succ]
        go_simp
        obtain ⟨VAB, hNW, nb, hBl, bn⟩ : ∃ W, W = VA.alloc (.cells #[.int .i64 v.k, .int .i64 v.p, .int .i64 v.i, .int .i64 v.b, .int .i64 v.he, .int .i64 v.hn] 45) ∧ (∀ j u, ((evCells v).map (Value.int .i64))[j]? = some u → W.cell? ((⟨VA.heap.size, 0, none⟩ : Addr).add j) = some u) ∧ VA.heap.size < W.heap.size ∧ Below VA.heap.size VA W := ⟨_, rfl, news6 _ _ _ _ _ _ _ _, alloc_lt _ _ _, below1 _ _⟩
        rw [← hNW]
        clear hNW
        have bVAB := Below.next bVA bn
        have oa := own_still oa (fun g _ hg => bn.block g hg)
        have hSVAB : VA.heap.size ≤ VAB.heap.size := bn.size
        refine hK.out _ _ bVAB (fun hHeld => ?_)
        clear hK K bn
        refine wpAnyH_ready (rs := [4, 9]) (by kernel_rfl) (by simp) ?_
        refine AllReadyH.cons rfl (fun K hK => ?_) (AllReadyH.cons rfl (fun K hK => ?_) AllReadyH.nil)
        · simp only [List.getElem_toArray, List.getElem_cons_zero, List.getElem_cons_succ]
          refine ite_wanted rfl ?_
          refine wp_append_own _ (.tmp 35) (.tmp 37) 31 rfl (V.heap.size) 45 i6 _ 6 48 Try.underlying31 hi6 hz60 hz61 hz62 rfl (by decide) (.slice aa es.length ka) es.length ((evFlat es).map (Value.int .i64)) rfl oa ⟨VA.heap.size, 0, none⟩ 1 1 ((evCells v).map (Value.int .i64)) rfl rfl nb (ints_oneCell _ _) (by unfold maxLen; omega) (by omega) (by omega) ?_
          intro vc VABC oc gc _
          have bVABC := bVAB.grown gc (by omega) (fun q hq => by have := (hown q hq).1; omega)
          have hSVABC : VAB.heap.size ≤ VABC.heap.size := gc.size
          rw [← List.map_append, ← evFlat_snoc] at oc
          obtain ⟨ab, cb, rfl, rb, _, _, _, _⟩ := RowK.ofMany oc (evFlat_wf (unveil HOK))
          refine hK.out _ _ bVABC (fun hHeld => ?_)
          clear hK K gc oc oa nb
          refine wpAnyH_ready (rs := [5, 9]) (by kernel_rfl) (by simp) ?_
          refine AllReadyH.cons rfl (fun K hK => ?_) (AllReadyH.cons rfl (fun K hK => ?_) AllReadyH.nil)
          · simp only [List.getElem_toArray, List.getElem_cons_zero, List.getElem_cons_succ]
            go_simp
            refine (unveil HR _ _ _ rb).mono ?_
            rintro e VABCR ⟨x', rfl, ⟨⟨b1', d1', b2', d2', vs', rfl, r1, r2, l1', l2', n1, n2, hW'', f1, f2⟩⟩, bn⟩
            have hr1 := fun x hx h0 => r1.blk_lt x hx h0
            have hr2 := fun x hx h0 => r2.blk_lt x hx h0
            have bVABCR := Below.next bVABC bn
            have hSVABCR : VABC.heap.size ≤ VABCR.heap.size := bn.size
            refine hK.out _ _ bVABCR (fun hHeld => ?_)
            clear hK K bn
            refine wpAnyH_take (i := 6) (v := .tuple #[qVal t.ep t.nx t.gv (.slice b1' t.rn d1') (.slice b2' t.ln d2') vs', .int .i64 er]) rfl (by kernel_rfl) (by kernel_rfl) (by kernel_rfl) (fun _ _ _ h => h) (Or.inl ⟨by rfl, fun _ _ => by go_simp⟩) hHeld ?_
            simp only [List.getElem_toArray, List.getElem_cons_zero, List.getElem_cons_succ, Act.put, List.setIfInBounds_toArray, List.set_cons_zero, List.set_cons_succ]
            refine wpAnyH_take (i := 7) (v := qVal t.ep t.nx t.gv (.slice b1' t.rn d1') (.slice b2' t.ln d2') vs') rfl (by kernel_rfl) (by kernel_rfl) (by kernel_rfl) (fun _ _ _ h => h) (Or.inl ⟨by rfl, fun _ _ => by go_simp⟩) hHeld ?_
            simp only [List.getElem_toArray, List.getElem_cons_zero, List.getElem_cons_succ, Act.put, List.setIfInBounds_toArray, List.set_cons_zero, List.set_cons_succ]
            refine wpAnyH_take (i := 8) (v := .int .i64 er) rfl (by kernel_rfl) (by kernel_rfl) (by kernel_rfl) (fun _ _ _ h => h) (Or.inl ⟨by rfl, fun _ _ => by go_simp⟩) hHeld ?_
            simp only [List.getElem_toArray, List.getElem_cons_zero, List.getElem_cons_succ, Act.put, List.setIfInBounds_toArray, List.set_cons_zero, List.set_cons_succ]
            refine wpAnyH_ready (rs := [9]) (by kernel_rfl) (by simp) ?_
            refine AllReadyH.cons rfl (fun K hK => ?_) AllReadyH.nil
            · simp only [List.getElem_toArray, List.getElem_cons_zero, List.getElem_cons_succ]
              refine ite_wanted rfl ?_
              refine q_alloc_wp 14 rfl rfl ?_
              intro VABCRQ zq bn
              have hXq : VABCR.heap.size < VABCRQ.heap.size := zq.lt
              have bVABCRQ := Below.next bVABCR bn
              have r1 := r1.below bn
              have r2 := r2.below bn
              have hSVABCRQ : VABCR.heap.size ≤ VABCRQ.heap.size := bn.size
              refine hK.out _ _ bVABCRQ (fun hHeld => ?_)
              clear hK K bn
              refine wpAnyH_ready (rs := [10]) (by kernel_rfl) (by simp) ?_
              refine AllReadyH.cons rfl (fun K hK => ?_) AllReadyH.nil
              simp only [List.getElem_toArray, List.getElem_cons_zero, List.getElem_cons_succ]
              refine ite_wanted rfl ?_
              refine q_store_wp (ra := b1') (la := b2') (ws' := vs') _ _ rfl rfl rfl zq hW'' ?_
              intro Wq q5 t5
              have r15 := t5.row r1 (fun x hx h0 => by have := f1 x hx; have := hr1 x hx h0; omega)
              have r25 := t5.row r2 (fun x hx h0 => by have := f2 x hx; have := hr2 x hx h0; omega)
              have b5 := t5.under bVABCRQ (by omega)
              refine hK.out _ _ b5 (fun hHeld => ?_)
              clear hK K
              refine wpAnyH_take (i := 11) (v := .int .i64 er) rfl (by kernel_rfl) (by kernel_rfl) (by kernel_rfl) (fun _ _ _ h => h) (Or.inl ⟨by rfl, fun _ _ => by go_simp⟩) hHeld ?_
              simp only [List.getElem_toArray, List.getElem_cons_zero, List.getElem_cons_succ, Act.put, List.setIfInBounds_toArray, List.set_cons_zero, List.set_cons_succ]
              refine wpAnyH_done (by kernel_rfl) ?_ _
              go_wp2_with fail
              go_meet
              exact ⟨_, b1', d1', b2', d2', vs', rfl, rfl, ⟨q5, r15, r25, n1, n2, hW''⟩, b5⟩
          · simp only [List.getElem_toArray, List.getElem_cons_zero, List.getElem_cons_succ]
            refine ite_wanted rfl ?_
            refine q_alloc_wp 14 rfl rfl ?_
            intro VABCQ zq bn
            have hXq : VABC.heap.size < VABCQ.heap.size := zq.lt
            have bVABCQ := Below.next bVABC bn
            have rb := rb.below bn
            have hSVABCQ : VABC.heap.size ≤ VABCQ.heap.size := bn.size
            refine hK.out _ _ bVABCQ (fun hHeld => ?_)
            clear hK K bn
            refine wpAnyH_ready (rs := [5]) (by kernel_rfl) (by simp) ?_
            refine AllReadyH.cons rfl (fun K hK => ?_) AllReadyH.nil
            · simp only [List.getElem_toArray, List.getElem_cons_zero, List.getElem_cons_succ]
              go_simp
              refine (unveil HR _ _ _ rb).mono ?_
              rintro e VABCQR ⟨x', rfl, ⟨⟨b1', d1', b2', d2', vs', rfl, r1, r2, l1', l2', n1, n2, hW'', f1, f2⟩⟩, bn⟩
              have hr1 := fun x hx h0 => r1.blk_lt x hx h0
              have hr2 := fun x hx h0 => r2.blk_lt x hx h0
              have bVABCQR := Below.next bVABCQ bn
              have zq := zq.next bn
              have hSVABCQR : VABCQ.heap.size ≤ VABCQR.heap.size := bn.size
              refine hK.out _ _ bVABCQR (fun hHeld => ?_)
              clear hK K bn
              refine wpAnyH_take (i := 6) (v := .tuple #[qVal t.ep t.nx t.gv (.slice b1' t.rn d1') (.slice b2' t.ln d2') vs', .int .i64 er]) rfl (by kernel_rfl) (by kernel_rfl) (by kernel_rfl) (fun _ _ _ h => h) (Or.inl ⟨by rfl, fun _ _ => by go_simp⟩) hHeld ?_
              simp only [List.getElem_toArray, List.getElem_cons_zero, List.getElem_cons_succ, Act.put, List.setIfInBounds_toArray, List.set_cons_zero, List.set_cons_succ]
              refine wpAnyH_take (i := 7) (v := qVal t.ep t.nx t.gv (.slice b1' t.rn d1') (.slice b2' t.ln d2') vs') rfl (by kernel_rfl) (by kernel_rfl) (by kernel_rfl) (fun _ _ _ h => h) (Or.inl ⟨by rfl, fun _ _ => by go_simp⟩) hHeld ?_
              simp only [List.getElem_toArray, List.getElem_cons_zero, List.getElem_cons_succ, Act.put, List.setIfInBounds_toArray, List.set_cons_zero, List.set_cons_succ]
              refine wpAnyH_take (i := 8) (v := .int .i64 er) rfl (by kernel_rfl) (by kernel_rfl) (by kernel_rfl) (fun _ _ _ h => h) (Or.inl ⟨by rfl, fun _ _ => by go_simp⟩) hHeld ?_
              simp only [List.getElem_toArray, List.getElem_cons_zero, List.getElem_cons_succ, Act.put, List.setIfInBounds_toArray, List.set_cons_zero, List.set_cons_succ]
              refine wpAnyH_ready (rs := [10]) (by kernel_rfl) (by simp) ?_
              refine AllReadyH.cons rfl (fun K hK => ?_) AllReadyH.nil
              simp only [List.getElem_toArray, List.getElem_cons_zero, List.getElem_cons_succ]
              refine ite_wanted rfl ?_
              refine q_store_wp (ra := b1') (la := b2') (ws' := vs') _ _ rfl rfl rfl zq hW'' ?_
              intro Wq q5 t5
              have r15 := t5.row r1 (fun x hx h0 => by have := f1 x hx; have := hr1 x hx h0; omega)
              have r25 := t5.row r2 (fun x hx h0 => by have := f2 x hx; have := hr2 x hx h0; omega)
              have b5 := t5.under bVABCQR (by omega)
              refine hK.out _ _ b5 (fun hHeld => ?_)
              clear hK K
              refine wpAnyH_take (i := 11) (v := .int .i64 er) rfl (by kernel_rfl) (by kernel_rfl) (by kernel_rfl) (fun _ _ _ h => h) (Or.inl ⟨by rfl, fun _ _ => by go_simp⟩) hHeld ?_
              simp only [List.getElem_toArray, List.getElem_cons_zero, List.getElem_cons_succ, Act.put, List.setIfInBounds_toArray, List.set_cons_zero, List.set_cons_succ]
              refine wpAnyH_done (by kernel_rfl) ?_ _
              go_wp2_with fail
              go_meet
              exact ⟨_, b1', d1', b2', d2', vs', rfl, rfl, ⟨q5, r15, r25, n1, n2, hW''⟩, b5⟩
        · simp only [List.getElem_toArray, List.getElem_cons_zero, List.getElem_cons_succ]
          refine ite_wanted rfl ?_
          refine q_alloc_wp 14 rfl rfl ?_
          intro VABQ zq bn
          have hXq : VAB.heap.size < VABQ.heap.size := zq.lt
          have bVABQ := Below.next bVAB bn
          have oa := own_still oa (fun g _ hg => bn.block g hg)
          have nb := fun j u hj => (bn.cell (p := (⟨VA.heap.size, 0, none⟩ : Addr).add j) (by rw [Addr.add_mid]; show (VA.heap.size : Nat) < _; omega)).trans (nb j u hj)
          have hSVABQ : VAB.heap.size ≤ VABQ.heap.size := bn.size
          refine hK.out _ _ bVABQ (fun hHeld => ?_)
          clear hK K bn
          refine wpAnyH_ready (rs := [4]) (by kernel_rfl) (by simp) ?_
          refine AllReadyH.cons rfl (fun K hK => ?_) AllReadyH.nil
          · simp only [List.getElem_toArray, List.getElem_cons_zero, List.getElem_cons_succ]
            refine ite_wanted rfl ?_
            refine wp_append_own _ (.tmp 35) (.tmp 37) 31 rfl (V.heap.size) 45 i6 _ 6 48 Try.underlying31 hi6 hz60 hz61 hz62 rfl (by decide) (.slice aa es.length ka) es.length ((evFlat es).map (Value.int .i64)) rfl oa ⟨VA.heap.size, 0, none⟩ 1 1 ((evCells v).map (Value.int .i64)) rfl rfl nb (ints_oneCell _ _) (by unfold maxLen; omega) (by omega) (by omega) ?_
            intro vc VABQC oc gc _
            have bVABQC := bVABQ.grown gc (by omega) (fun q hq => by have := (hown q hq).1; omega)
            have hSVABQC : VABQ.heap.size ≤ VABQC.heap.size := gc.size
            rw [← List.map_append, ← evFlat_snoc] at oc
            obtain ⟨ab, cb, rfl, rb, _, _, _, _⟩ := RowK.ofMany oc (evFlat_wf (unveil HOK))
            have zq : qBlock VABQC _ _ _ _ _ _ _ := (gc.block _ zq.lt (fun e => by have := hown _ e.symm; omega)).trans zq
            refine hK.out _ _ bVABQC (fun hHeld => ?_)
            clear hK K gc oc oa nb
            refine wpAnyH_ready (rs := [5]) (by kernel_rfl) (by simp) ?_
            refine AllReadyH.cons rfl (fun K hK => ?_) AllReadyH.nil
            · simp only [List.getElem_toArray, List.getElem_cons_zero, List.getElem_cons_succ]
              go_simp
              refine (unveil HR _ _ _ rb).mono ?_
              rintro e VABQCR ⟨x', rfl, ⟨⟨b1', d1', b2', d2', vs', rfl, r1, r2, l1', l2', n1, n2, hW'', f1, f2⟩⟩, bn⟩
              have hr1 := fun x hx h0 => r1.blk_lt x hx h0
              have hr2 := fun x hx h0 => r2.blk_lt x hx h0
              have bVABQCR := Below.next bVABQC bn
              have zq := zq.next bn
              have hSVABQCR : VABQC.heap.size ≤ VABQCR.heap.size := bn.size
              refine hK.out _ _ bVABQCR (fun hHeld => ?_)
              clear hK K bn
              refine wpAnyH_take (i := 6) (v := .tuple #[qVal t.ep t.nx t.gv (.slice b1' t.rn d1') (.slice b2' t.ln d2') vs', .int .i64 er]) rfl (by kernel_rfl) (by kernel_rfl) (by kernel_rfl) (fun _ _ _ h => h) (Or.inl ⟨by rfl, fun _ _ => by go_simp⟩) hHeld ?_
              simp only [List.getElem_toArray, List.getElem_cons_zero, List.getElem_cons_succ, Act.put, List.setIfInBounds_toArray, List.set_cons_zero, List.set_cons_succ]
              refine wpAnyH_take (i := 7) (v := qVal t.ep t.nx t.gv (.slice b1' t.rn d1') (.slice b2' t.ln d2') vs') rfl (by kernel_rfl) (by kernel_rfl) (by kernel_rfl) (fun _ _ _ h => h) (Or.inl ⟨by rfl, fun _ _ => by go_simp⟩) hHeld ?_
              simp only [List.getElem_toArray, List.getElem_cons_zero, List.getElem_cons_succ, Act.put, List.setIfInBounds_toArray, List.set_cons_zero, List.set_cons_succ]
              refine wpAnyH_take (i := 8) (v := .int .i64 er) rfl (by kernel_rfl) (by kernel_rfl) (by kernel_rfl) (fun _ _ _ h => h) (Or.inl ⟨by rfl, fun _ _ => by go_simp⟩) hHeld ?_
              simp only [List.getElem_toArray, List.getElem_cons_zero, List.getElem_cons_succ, Act.put, List.setIfInBounds_toArray, List.set_cons_zero, List.set_cons_succ]
              refine wpAnyH_ready (rs := [10]) (by kernel_rfl) (by simp) ?_
              refine AllReadyH.cons rfl (fun K hK => ?_) AllReadyH.nil
              simp only [List.getElem_toArray, List.getElem_cons_zero, List.getElem_cons_succ]
              refine ite_wanted rfl ?_
              refine q_store_wp (ra := b1') (la := b2') (ws' := vs') _ _ rfl rfl rfl zq hW'' ?_
              intro Wq q5 t5
              have r15 := t5.row r1 (fun x hx h0 => by have := f1 x hx; have := hr1 x hx h0; omega)
              have r25 := t5.row r2 (fun x hx h0 => by have := f2 x hx; have := hr2 x hx h0; omega)
              have b5 := t5.under bVABQCR (by omega)
              refine hK.out _ _ b5 (fun hHeld => ?_)
              clear hK K
              refine wpAnyH_take (i := 11) (v := .int .i64 er) rfl (by kernel_rfl) (by kernel_rfl) (by kernel_rfl) (fun _ _ _ h => h) (Or.inl ⟨by rfl, fun _ _ => by go_simp⟩) hHeld ?_
              simp only [List.getElem_toArray, List.getElem_cons_zero, List.getElem_cons_succ, Act.put, List.setIfInBounds_toArray, List.set_cons_zero, List.set_cons_succ]
              refine wpAnyH_done (by kernel_rfl) ?_ _
              go_wp2_with fail
              go_meet
              exact ⟨_, b1', d1', b2', d2', vs', rfl, rfl, ⟨q5, r15, r25, n1, n2, hW''⟩, b5⟩
      · simp only [List.getElem_toArray, List.getElem_cons_zero, List.getElem_cons_succ]
        refine ite_wanted rfl ?_
        refine q_alloc_wp 14 rfl rfl ?_
        intro VAQ zq bn
        have hXq : VA.heap.size < VAQ.heap.size := zq.lt
        have bVAQ := Below.next bVA bn
        have oa := own_still oa (fun g _ hg => bn.block g hg)
        have hSVAQ : VA.heap.size ≤ VAQ.heap.size := bn.size
        refine hK.out _ _ bVAQ (fun hHeld => ?_)
        clear hK K bn
        refine wpAnyH_ready (rs := [3]) (by kernel_rfl) (by simp) ?_
        refine AllReadyH.cons rfl (fun K hK => ?_) AllReadyH.nil
        · simp only [List.getElem_toArray, List.getElem_cons_zero, List.getElem_cons_succ]
          go_simp
          obtain ⟨VAQB, hNW, nb, hBl, bn⟩ : ∃ W, W = VAQ.alloc (.cells #[.int .i64 v.k, .int .i64 v.p, .int .i64 v.i, .int .i64 v.b, .int .i64 v.he, .int .i64 v.hn] 45) ∧ (∀ j u, ((evCells v).map (Value.int .i64))[j]? = some u → W.cell? ((⟨VAQ.heap.size, 0, none⟩ : Addr).add j) = some u) ∧ VAQ.heap.size < W.heap.size ∧ Below VAQ.heap.size VAQ W := ⟨_, rfl, news6 _ _ _ _ _ _ _ _, alloc_lt _ _ _, below1 _ _⟩
          rw [← hNW]
          clear hNW
          have bVAQB := Below.next bVAQ bn
          have zq := zq.next bn
          have oa := own_still oa (fun g _ hg => bn.block g hg)
          have hSVAQB : VAQ.heap.size ≤ VAQB.heap.size := bn.size
          refine hK.out _ _ bVAQB (fun hHeld => ?_)
          clear hK K bn
          refine wpAnyH_ready (rs := [4]) (by kernel_rfl) (by simp) ?_
          refine AllReadyH.cons rfl (fun K hK => ?_) AllReadyH.nil
          · simp only [List.getElem_toArray, List.getElem_cons_zero, List.getElem_cons_succ]
            refine ite_wanted rfl ?_
            refine wp_append_own _ (.tmp 35) (.tmp 37) 31 rfl (V.heap.size) 45 i6 _ 6 48 Try.underlying31 hi6 hz60 hz61 hz62 rfl (by decide) (.slice aa es.length ka) es.length ((evFlat es).map (Value.int .i64)) rfl oa ⟨VAQ.heap.size, 0, none⟩ 1 1 ((evCells v).map (Value.int .i64)) rfl rfl nb (ints_oneCell _ _) (by unfold maxLen; omega) (by omega) (by omega) ?_
            intro vc VAQBC oc gc _
            have bVAQBC := bVAQB.grown gc (by omega) (fun q hq => by have := (hown q hq).1; omega)
            have hSVAQBC : VAQB.heap.size ≤ VAQBC.heap.size := gc.size
            rw [← List.map_append, ← evFlat_snoc] at oc
            obtain ⟨ab, cb, rfl, rb, _, _, _, _⟩ := RowK.ofMany oc (evFlat_wf (unveil HOK))
            have zq : qBlock VAQBC _ _ _ _ _ _ _ := (gc.block _ zq.lt (fun e => by have := hown _ e.symm; omega)).trans zq
            refine hK.out _ _ bVAQBC (fun hHeld => ?_)
            clear hK K gc oc oa nb
            refine wpAnyH_ready (rs := [5]) (by kernel_rfl) (by simp) ?_
            refine AllReadyH.cons rfl (fun K hK => ?_) AllReadyH.nil
            · simp only [List.getElem_toArray, List.getElem_cons_zero, List.getElem_cons_succ]
              go_simp
              refine (unveil HR _ _ _ rb).mono ?_
              rintro e VAQBCR ⟨x', rfl, ⟨⟨b1', d1', b2', d2', vs', rfl, r1, r2, l1', l2', n1, n2, hW'', f1, f2⟩⟩, bn⟩
              have hr1 := fun x hx h0 => r1.blk_lt x hx h0
              have hr2 := fun x hx h0 => r2.blk_lt x hx h0
              have bVAQBCR := Below.next bVAQBC bn
              have zq := zq.next bn
              have hSVAQBCR : VAQBC.heap.size ≤ VAQBCR.heap.size := bn.size
              refine hK.out _ _ bVAQBCR (fun hHeld => ?_)
              clear hK K bn
              refine wpAnyH_take (i := 6) (v := .tuple #[qVal t.ep t.nx t.gv (.slice b1' t.rn d1') (.slice b2' t.ln d2') vs', .int .i64 er]) rfl (by kernel_rfl) (by kernel_rfl) (by kernel_rfl) (fun _ _ _ h => h) (Or.inl ⟨by rfl, fun _ _ => by go_simp⟩) hHeld ?_
              simp only [List.getElem_toArray, List.getElem_cons_zero, List.getElem_cons_succ, Act.put, List.setIfInBounds_toArray, List.set_cons_zero, List.set_cons_succ]
              refine wpAnyH_take (i := 7) (v := qVal t.ep t.nx t.gv (.slice b1' t.rn d1') (.slice b2' t.ln d2') vs') rfl (by kernel_rfl) (by kernel_rfl) (by kernel_rfl) (fun _ _ _ h => h) (Or.inl ⟨by rfl, fun _ _ => by go_simp⟩) hHeld ?_
              simp only [List.getElem_toArray, List.getElem_cons_zero, List.getElem_cons_succ, Act.put, List.setIfInBounds_toArray, List.set_cons_zero, List.set_cons_succ]
              refine wpAnyH_take (i := 8) (v := .int .i64 er) rfl (by kernel_rfl) (by kernel_rfl) (by kernel_rfl) (fun _ _ _ h => h) (Or.inl ⟨by rfl, fun _ _ => by go_simp⟩) hHeld ?_
              simp only [List.getElem_toArray, List.getElem_cons_zero, List.getElem_cons_succ, Act.put, List.setIfInBounds_toArray, List.set_cons_zero, List.set_cons_succ]
              refine wpAnyH_ready (rs := [10]) (by kernel_rfl) (by simp) ?_
              refine AllReadyH.cons rfl (fun K hK => ?_) AllReadyH.nil
              simp only [List.getElem_toArray, List.getElem_cons_zero, List.getElem_cons_succ]
              refine ite_wanted rfl ?_
              refine q_store_wp (ra := b1') (la := b2') (ws' := vs') _ _ rfl rfl rfl zq hW'' ?_
              intro Wq q5 t5
              have r15 := t5.row r1 (fun x hx h0 => by have := f1 x hx; have := hr1 x hx h0; omega)
              have r25 := t5.row r2 (fun x hx h0 => by have := f2 x hx; have := hr2 x hx h0; omega)
              have b5 := t5.under bVAQBCR (by omega)
              refine hK.out _ _ b5 (fun hHeld => ?_)
              clear hK K
              refine wpAnyH_take (i := 11) (v := .int .i64 er) rfl (by kernel_rfl) (by kernel_rfl) (by kernel_rfl) (fun _ _ _ h => h) (Or.inl ⟨by rfl, fun _ _ => by go_simp⟩) hHeld ?_
              simp only [List.getElem_toArray, List.getElem_cons_zero, List.getElem_cons_succ, Act.put, List.setIfInBounds_toArray, List.set_cons_zero, List.set_cons_succ]
              refine wpAnyH_done (by kernel_rfl) ?_ _
              go_wp2_with fail
              go_meet
              exact ⟨_, b1', d1', b2', d2', vs', rfl, rfl, ⟨q5, r15, r25, n1, n2, hW''⟩, b5⟩
    · simp only [List.getElem_toArray, List.getElem_cons_zero, List.getElem_cons_succ]
      go_simp
      obtain ⟨VB, hNW, nb, hBl, bn⟩ : ∃ W, W = V.alloc (.cells #[.int .i64 v.k, .int .i64 v.p, .int .i64 v.i, .int .i64 v.b, .int .i64 v.he, .int .i64 v.hn] 45) ∧ (∀ j u, ((evCells v).map (Value.int .i64))[j]? = some u → W.cell? ((⟨V.heap.size, 0, none⟩ : Addr).add j) = some u) ∧ V.heap.size < W.heap.size ∧ Below V.heap.size V W := ⟨_, rfl, news6 _ _ _ _ _ _ _ _, alloc_lt _ _ _, below1 _ _⟩
      rw [← hNW]
      clear hNW
      have bVB := Below.next bV bn
      have hSVB : V.heap.size ≤ VB.heap.size := bn.size
      refine hK.out _ _ bVB (fun hHeld => ?_)
      clear hK K bn
      refine wpAnyH_ready (rs := [1, 9]) (by kernel_rfl) (by simp) ?_
      refine AllReadyH.cons rfl (fun K hK => ?_) (AllReadyH.cons rfl (fun K hK => ?_) AllReadyH.nil)
      · simp only [List.getElem_toArray, List.getElem_cons_zero, List.getElem_cons_succ]
        refine ite_wanted rfl ?_
        refine wp_append_rows (.const (.slice none 0 0)) (.tmp 34) 31 rfl VB.heap.size 45 i6 _ 6 48 Try.underlying31 hi6 hz60 hz61 hz62 rfl (by decide) (.slice none 0 0) 0 [] rfl (World.ownsRow_nil _ _ _ _) ae es.length ce (evFlat es) rfl (E9.below bVB) hne (by unfold maxLen; omega) (by omega) (Nat.le_refl _) ?_
        intro va VBA oa ga
        simp only [Nat.zero_add, List.nil_append] at oa
        obtain ⟨aa, ka, rfl⟩ := own_form oa
        have bn : Below VB.heap.size VB VBA := (Below.refl _ _).grown ga (Nat.le_refl _) (by simp [Value.ownBlock])
        have hown := oa.lt
        have hba : VB.heap.size ≤ VBA.heap.size := bn.size
        have bVBA := Below.next bVB bn
        have nb := fun j u hj => (bn.cell (p := (⟨V.heap.size, 0, none⟩ : Addr).add j) (by rw [Addr.add_mid]; show (V.heap.size : Nat) < _; omega)).trans (nb j u hj)
        have hSVBA : VB.heap.size ≤ VBA.heap.size := bn.size
        refine hK.out _ _ bVBA (fun hHeld => ?_)
        clear hK K bn
        refine wpAnyH_ready (rs := [4, 9]) (by kernel_rfl) (by simp) ?_
        refine AllReadyH.cons rfl (fun K hK => ?_) (AllReadyH.cons rfl (fun K hK => ?_) AllReadyH.nil)
        · simp only [List.getElem_toArray, List.getElem_cons_zero, List.getElem_cons_succ]
          refine ite_wanted rfl ?_
          refine wp_append_own _ (.tmp 35) (.tmp 37) 31 rfl (VB.heap.size) 45 i6 _ 6 48 Try.underlying31 hi6 hz60 hz61 hz62 rfl (by decide) (.slice aa es.length ka) es.length ((evFlat es).map (Value.int .i64)) rfl oa ⟨V.heap.size, 0, none⟩ 1 1 ((evCells v).map (Value.int .i64)) rfl rfl nb (ints_oneCell _ _) (by unfold maxLen; omega) (by omega) (by omega) ?_
          intro vc VBAC oc gc _
          have bVBAC := bVBA.grown gc (by omega) (fun q hq => by have := (hown q hq).1; omega)
          have hSVBAC : VBA.heap.size ≤ VBAC.heap.size := gc.size
          rw [← List.map_append, ← evFlat_snoc] at oc
          obtain ⟨ab, cb, rfl, rb, _, _, _, _⟩ := RowK.ofMany oc (evFlat_wf (unveil HOK))
          refine hK.out _ _ bVBAC (fun hHeld => ?_)
          clear hK K gc oc oa nb
          refine wpAnyH_ready (rs := [5, 9]) (by kernel_rfl) (by simp) ?_
          refine AllReadyH.cons rfl (fun K hK => ?_) (AllReadyH.cons rfl (fun K hK => ?_) AllReadyH.nil)
          · simp only [List.getElem_toArray, List.getElem_cons_zero, List.getElem_cons_succ]
            go_simp
            refine (unveil HR _ _ _ rb).mono ?_
            rintro e VBACR ⟨x', rfl, ⟨⟨b1', d1', b2', d2', vs', rfl, r1, r2, l1', l2', n1, n2, hW'', f1, f2⟩⟩, bn⟩
            have hr1 := fun x hx h0 => r1.blk_lt x hx h0
            have hr2 := fun x hx h0 => r2.blk_lt x hx h0
            have bVBACR := Below.next bVBAC bn
            have hSVBACR : VBAC.heap.size ≤ VBACR.heap.size := bn.size
            refine hK.out _ _ bVBACR (fun hHeld => ?_)
            clear hK K bn
            refine wpAnyH_take (i := 6) (v := .tuple #[qVal t.ep t.nx t.gv (.slice b1' t.rn d1') (.slice b2' t.ln d2') vs', .int .i64 er]) rfl (by kernel_rfl) (by kernel_rfl) (by kernel_rfl) (fun _ _ _ h => h) (Or.inl ⟨by rfl, fun _ _ => by go_simp⟩) hHeld ?_
            simp only [List.getElem_toArray, List.getElem_cons_zero, List.getElem_cons_succ, Act.put, List.setIfInBounds_toArray, List.set_cons_zero, List.set_cons_succ]
            refine wpAnyH_take (i := 7) (v := qVal t.ep t.nx t.gv (.slice b1' t.rn d1') (.slice b2' t.ln d2') vs') rfl (by kernel_rfl) (by kernel_rfl) (by kernel_rfl) (fun _ _ _ h => h) (Or.inl ⟨by rfl, fun _ _ => by go_simp⟩) hHeld ?_
            simp only [List.getElem_toArray, List.getElem_cons_zero, List.getElem_cons_succ, Act.put, List.setIfInBounds_toArray, List.set_cons_zero, List.set_cons_succ]
            refine wpAnyH_take (i := 8) (v := .int .i64 er) rfl (by kernel_rfl) (by kernel_rfl) (by kernel_rfl) (fun _ _ _ h => h) (Or.inl ⟨by rfl, fun _ _ => by go_simp⟩) hHeld ?_
            simp only [List.getElem_toArray, List.getElem_cons_zero, List.getElem_cons_succ, Act.put, List.setIfInBounds_toArray, List.set_cons_zero, List.set_cons_succ]
            refine wpAnyH_ready (rs := [9]) (by kernel_rfl) (by simp) ?_
            refine AllReadyH.cons rfl (fun K hK => ?_) AllReadyH.nil
            · simp only [List.getElem_toArray, List.getElem_cons_zero, List.getElem_cons_succ]
              refine ite_wanted rfl ?_
              refine q_alloc_wp 14 rfl rfl ?_
              intro VBACRQ zq bn
              have hXq : VBACR.heap.size < VBACRQ.heap.size := zq.lt
              have bVBACRQ := Below.next bVBACR bn
              have r1 := r1.below bn
              have r2 := r2.below bn
              have hSVBACRQ : VBACR.heap.size ≤ VBACRQ.heap.size := bn.size
              refine hK.out _ _ bVBACRQ (fun hHeld => ?_)
              clear hK K bn
              refine wpAnyH_ready (rs := [10]) (by kernel_rfl) (by simp) ?_
              refine AllReadyH.cons rfl (fun K hK => ?_) AllReadyH.nil
              simp only [List.getElem_toArray, List.getElem_cons_zero, List.getElem_cons_succ]
              refine ite_wanted rfl ?_
              refine q_store_wp (ra := b1') (la := b2') (ws' := vs') _ _ rfl rfl rfl zq hW'' ?_
              intro Wq q5 t5
              have r15 := t5.row r1 (fun x hx h0 => by have := f1 x hx; have := hr1 x hx h0; omega)
              have r25 := t5.row r2 (fun x hx h0 => by have := f2 x hx; have := hr2 x hx h0; omega)
              have b5 := t5.under bVBACRQ (by omega)
              refine hK.out _ _ b5 (fun hHeld => ?_)
              clear hK K
              refine wpAnyH_take (i := 11) (v := .int .i64 er) rfl (by kernel_rfl) (by kernel_rfl) (by kernel_rfl) (fun _ _ _ h => h) (Or.inl ⟨by rfl, fun _ _ => by go_simp⟩) hHeld ?_
              simp only [List.getElem_toArray, List.getElem_cons_zero, List.getElem_cons_succ, Act.put, List.setIfInBounds_toArray, List.set_cons_zero, List.set_cons_succ]
              refine wpAnyH_done (by kernel_rfl) ?_ _
              go_wp2_with fail
              go_meet
              exact ⟨_, b1', d1', b2', d2', vs', rfl, rfl, ⟨q5, r15, r25, n1, n2, hW''⟩, b5⟩
          · simp only [List.getElem_toArray, List.getElem_cons_zero, List.getElem_cons_succ]
            refine ite_wanted rfl ?_
            refine q_alloc_wp 14 rfl rfl ?_
            intro VBACQ zq bn
            have hXq : VBAC.heap.size < VBACQ.heap.size := zq.lt
            have bVBACQ := Below.next bVBAC bn
            have rb := rb.below bn
            have hSVBACQ : VBAC.heap.size ≤ VBACQ.heap.size := bn.size
            refine hK.out _ _ bVBACQ (fun hHeld => ?_)
            clear hK K bn
            refine wpAnyH_ready (rs := [5]) (by kernel_rfl) (by simp) ?_
            refine AllReadyH.cons rfl (fun K hK => ?_) AllReadyH.nil
            · simp only [List.getElem_toArray, List.getElem_cons_zero, List.getElem_cons_succ]
              go_simp
              refine (unveil HR _ _ _ rb).mono ?_
              rintro e VBACQR ⟨x', rfl, ⟨⟨b1', d1', b2', d2', vs', rfl, r1, r2, l1', l2', n1, n2, hW'', f1, f2⟩⟩, bn⟩
              have hr1 := fun x hx h0 => r1.blk_lt x hx h0
              have hr2 := fun x hx h0 => r2.blk_lt x hx h0
              have bVBACQR := Below.next bVBACQ bn
              have zq := zq.next bn
              have hSVBACQR : VBACQ.heap.size ≤ VBACQR.heap.size := bn.size
              refine hK.out _ _ bVBACQR (fun hHeld => ?_)
              clear hK K bn
              refine wpAnyH_take (i := 6) (v := .tuple #[qVal t.ep t.nx t.gv (.slice b1' t.rn d1') (.slice b2' t.ln d2') vs', .int .i64 er]) rfl (by kernel_rfl) (by kernel_rfl) (by kernel_rfl) (fun _ _ _ h => h) (Or.inl ⟨by rfl, fun _ _ => by go_simp⟩) hHeld ?_
              simp only [List.getElem_toArray, List.getElem_cons_zero, List.getElem_cons_succ, Act.put, List.setIfInBounds_toArray, List.set_cons_zero, List.set_cons_succ]
              refine wpAnyH_take (i := 7) (v := qVal t.ep t.nx t.gv (.slice b1' t.rn d1') (.slice b2' t.ln d2') vs') rfl (by kernel_rfl) (by kernel_rfl) (by kernel_rfl) (fun _ _ _ h => h) (Or.inl ⟨by rfl, fun _ _ => by go_simp⟩) hHeld ?_
              simp only [List.getElem_toArray, List.getElem_cons_zero, List.getElem_cons_succ, Act.put, List.setIfInBounds_toArray, List.set_cons_zero, List.set_cons_succ]
              refine wpAnyH_take (i := 8) (v := .int .i64 er) rfl (by kernel_rfl) (by kernel_rfl) (by kernel_rfl) (fun _ _ _ h => h) (Or.inl ⟨by rfl, fun _ _ => by go_simp⟩) hHeld ?_
              simp only [List.getElem_toArray, List.getElem_cons_zero, List.getElem_cons_succ, Act.put, List.setIfInBounds_toArray, List.set_cons_zero, List.set_cons_succ]
              refine wpAnyH_ready (rs := [10]) (by kernel_rfl) (by simp) ?_
              refine AllReadyH.cons rfl (fun K hK => ?_) AllReadyH.nil
              simp only [List.getElem_toArray, List.getElem_cons_zero, List.getElem_cons_succ]
              refine ite_wanted rfl ?_
              refine q_store_wp (ra := b1') (la := b2') (ws' := vs') _ _ rfl rfl rfl zq hW'' ?_
              intro Wq q5 t5
              have r15 := t5.row r1 (fun x hx h0 => by have := f1 x hx; have := hr1 x hx h0; omega)
              have r25 := t5.row r2 (fun x hx h0 => by have := f2 x hx; have := hr2 x hx h0; omega)
              have b5 := t5.under bVBACQR (by omega)
              refine hK.out _ _ b5 (fun hHeld => ?_)
              clear hK K
              refine wpAnyH_take (i := 11) (v := .int .i64 er) rfl (by kernel_rfl) (by kernel_rfl) (by kernel_rfl) (fun _ _ _ h => h) (Or.inl ⟨by rfl, fun _ _ => by go_simp⟩) hHeld ?_
              simp only [List.getElem_toArray, List.getElem_cons_zero, List.getElem_cons_succ, Act.put, List.setIfInBounds_toArray, List.set_cons_zero, List.set_cons_succ]
              refine wpAnyH_done (by kernel_rfl) ?_ _
              go_wp2_with fail
              go_meet
              exact ⟨_, b1', d1', b2', d2', vs', rfl, rfl, ⟨q5, r15, r25, n1, n2, hW''⟩, b5⟩
        · simp only [List.getElem_toArray, List.getElem_cons_zero, List.getElem_cons_succ]
          refine ite_wanted rfl ?_
          refine q_alloc_wp 14 rfl rfl ?_
          intro VBAQ zq bn
          have hXq : VBA.heap.size < VBAQ.heap.size := zq.lt
          have bVBAQ := Below.next bVBA bn
          have oa := own_still oa (fun g _ hg => bn.block g hg)
          have nb := fun j u hj => (bn.cell (p := (⟨V.heap.size, 0, none⟩ : Addr).add j) (by rw [Addr.add_mid]; show (V.heap.size : Nat) < _; omega)).trans (nb j u hj)
          have hSVBAQ : VBA.heap.size ≤ VBAQ.heap.size := bn.size
          refine hK.out _ _ bVBAQ (fun hHeld => ?_)
          clear hK K bn
          refine wpAnyH_ready (rs := [4]) (by kernel_rfl) (by simp) ?_
          refine AllReadyH.cons rfl (fun K hK => ?_) AllReadyH.nil
          · simp only [List.getElem_toArray, List.getElem_cons_zero, List.getElem_cons_succ]
            refine ite_wanted rfl ?_
            refine wp_append_own _ (.tmp 35) (.tmp 37) 31 rfl (VB.heap.size) 45 i6 _ 6 48 Try.underlying31 hi6 hz60 hz61 hz62 rfl (by decide) (.slice aa es.length ka) es.length ((evFlat es).map (Value.int .i64)) rfl oa ⟨V.heap.size, 0, none⟩ 1 1 ((evCells v).map (Value.int .i64)) rfl rfl nb (ints_oneCell _ _) (by unfold maxLen; omega) (by omega) (by omega) ?_
            intro vc VBAQC oc gc _
            have bVBAQC := bVBAQ.grown gc (by omega) (fun q hq => by have := (hown q hq).1; omega)
            have hSVBAQC : VBAQ.heap.size ≤ VBAQC.heap.size := gc.size
            rw [← List.map_append, ← evFlat_snoc] at oc
            obtain ⟨ab, cb, rfl, rb, _, _, _, _⟩ := RowK.ofMany oc (evFlat_wf (unveil HOK))
            have zq : qBlock VBAQC _ _ _ _ _ _ _ := (gc.block _ zq.lt (fun e => by have := hown _ e.symm; omega)).trans zq
            refine hK.out _ _ bVBAQC (fun hHeld => ?_)
            clear hK K gc oc oa nb
            refine wpAnyH_ready (rs := [5]) (by kernel_rfl) (by simp) ?_
            refine AllReadyH.cons rfl (fun K hK => ?_) AllReadyH.nil
            · simp only [List.getElem_toArray, List.getElem_cons_zero, List.getElem_cons_succ]
              go_simp
              refine (unveil HR _ _ _ rb).mono ?_
              rintro e VBAQCR ⟨x', rfl, ⟨⟨b1', d1', b2', d2', vs', rfl, r1, r2, l1', l2', n1, n2, hW'', f1, f2⟩⟩, bn⟩
              have hr1 := fun x hx h0 => r1.blk_lt x hx h0
              have hr2 := fun x hx h0 => r2.blk_lt x hx h0
              have bVBAQCR := Below.next bVBAQC bn
              have zq := zq.next bn
              have hSVBAQCR : VBAQC.heap.size ≤ VBAQCR.heap.size := bn.size
              refine hK.out _ _ bVBAQCR (fun hHeld => ?_)
              clear hK K bn
              refine wpAnyH_take (i := 6) (v := .tuple #[qVal t.ep t.nx t.gv (.slice b1' t.rn d1') (.slice b2' t.ln d2') vs', .int .i64 er]) rfl (by kernel_rfl) (by kernel_rfl) (by kernel_rfl) (fun _ _ _ h => h) (Or.inl ⟨by rfl, fun _ _ => by go_simp⟩) hHeld ?_
              simp only [List.getElem_toArray, List.getElem_cons_zero, List.getElem_cons_succ, Act.put, List.setIfInBounds_toArray, List.set_cons_zero, List.set_cons_succ]
              refine wpAnyH_take (i := 7) (v := qVal t.ep t.nx t.gv (.slice b1' t.rn d1') (.slice b2' t.ln d2') vs') rfl (by kernel_rfl) (by kernel_rfl) (by kernel_rfl) (fun _ _ _ h => h) (Or.inl ⟨by rfl, fun _ _ => by go_simp⟩) hHeld ?_
              simp only [List.getElem_toArray, List.getElem_cons_zero, List.getElem_cons_succ, Act.put, List.setIfInBounds_toArray, List.set_cons_zero, List.set_cons_succ]
              refine wpAnyH_take (i := 8) (v := .int .i64 er) rfl (by kernel_rfl) (by kernel_rfl) (by kernel_rfl) (fun _ _ _ h => h) (Or.inl ⟨by rfl, fun _ _ => by go_simp⟩) hHeld ?_
              simp only [List.getElem_toArray, List.getElem_cons_zero, List.getElem_cons_succ, Act.put, List.setIfInBounds_toArray, List.set_cons_zero, List.set_cons_succ]
              refine wpAnyH_ready (rs := [10]) (by kernel_rfl) (by simp) ?_
              refine AllReadyH.cons rfl (fun K hK => ?_) AllReadyH.nil
              simp only [List.getElem_toArray, List.getElem_cons_zero, List.getElem_cons_succ]
              refine ite_wanted rfl ?_
              refine q_store_wp (ra := b1') (la := b2') (ws' := vs') _ _ rfl rfl rfl zq hW'' ?_
              intro Wq q5 t5
              have r15 := t5.row r1 (fun x hx h0 => by have := f1 x hx; have := hr1 x hx h0; omega)
              have r25 := t5.row r2 (fun x hx h0 => by have := f2 x hx; have := hr2 x hx h0; omega)
              have b5 := t5.under bVBAQCR (by omega)
              refine hK.out _ _ b5 (fun hHeld => ?_)
              clear hK K
              refine wpAnyH_take (i := 11) (v := .int .i64 er) rfl (by kernel_rfl) (by kernel_rfl) (by kernel_rfl) (fun _ _ _ h => h) (Or.inl ⟨by rfl, fun _ _ => by go_simp⟩) hHeld ?_
              simp only [List.getElem_toArray, List.getElem_cons_zero, List.getElem_cons_succ, Act.put, List.setIfInBounds_toArray, List.set_cons_zero, List.set_cons_succ]
              refine wpAnyH_done (by kernel_rfl) ?_ _
              go_wp2_with fail
              go_meet
              exact ⟨_, b1', d1', b2', d2', vs', rfl, rfl, ⟨q5, r15, r25, n1, n2, hW''⟩, b5⟩
      · simp only [List.getElem_toArray, List.getElem_cons_zero, List.getElem_cons_succ]
        refine ite_wanted rfl ?_
        refine q_alloc_wp 14 rfl rfl ?_
        intro VBQ zq bn
        have hXq : VB.heap.size < VBQ.heap.size := zq.lt
        have bVBQ := Below.next bVB bn
        have nb := fun j u hj => (bn.cell (p := (⟨V.heap.size, 0, none⟩ : Addr).add j) (by rw [Addr.add_mid]; show (V.heap.size : Nat) < _; omega)).trans (nb j u hj)
        have hSVBQ : VB.heap.size ≤ VBQ.heap.size := bn.size
        refine hK.out _ _ bVBQ (fun hHeld => ?_)
        clear hK K bn
        refine wpAnyH_ready (rs := [1]) (by kernel_rfl) (by simp) ?_
        refine AllReadyH.cons rfl (fun K hK => ?_) AllReadyH.nil
        · simp only [List.getElem_toArray, List.getElem_cons_zero, List.getElem_cons_succ]
          refine ite_wanted rfl ?_
          refine wp_append_rows (.const (.slice none 0 0)) (.tmp 34) 31 rfl VBQ.heap.size 45 i6 _ 6 48 Try.underlying31 hi6 hz60 hz61 hz62 rfl (by decide) (.slice none 0 0) 0 [] rfl (World.ownsRow_nil _ _ _ _) ae es.length ce (evFlat es) rfl (E9.below bVBQ) hne (by unfold maxLen; omega) (by omega) (Nat.le_refl _) ?_
          intro va VBQA oa ga
          simp only [Nat.zero_add, List.nil_append] at oa
          obtain ⟨aa, ka, rfl⟩ := own_form oa
          have bn : Below VBQ.heap.size VBQ VBQA := (Below.refl _ _).grown ga (Nat.le_refl _) (by simp [Value.ownBlock])
          have hown := oa.lt
          have hba : VBQ.heap.size ≤ VBQA.heap.size := bn.size
          have bVBQA := Below.next bVBQ bn
          have zq := zq.next bn
          have nb := fun j u hj => (bn.cell (p := (⟨V.heap.size, 0, none⟩ : Addr).add j) (by rw [Addr.add_mid]; show (V.heap.size : Nat) < _; omega)).trans (nb j u hj)
          have hSVBQA : VBQ.heap.size ≤ VBQA.heap.size := bn.size
          refine hK.out _ _ bVBQA (fun hHeld => ?_)
          clear hK K bn
          refine wpAnyH_ready (rs := [4]) (by kernel_rfl) (by simp) ?_
          refine AllReadyH.cons rfl (fun K hK => ?_) AllReadyH.nil
          · simp only [List.getElem_toArray, List.getElem_cons_zero, List.getElem_cons_succ]
            refine ite_wanted rfl ?_
            refine wp_append_own _ (.tmp 35) (.tmp 37) 31 rfl (VBQ.heap.size) 45 i6 _ 6 48 Try.underlying31 hi6 hz60 hz61 hz62 rfl (by decide) (.slice aa es.length ka) es.length ((evFlat es).map (Value.int .i64)) rfl oa ⟨V.heap.size, 0, none⟩ 1 1 ((evCells v).map (Value.int .i64)) rfl rfl nb (ints_oneCell _ _) (by unfold maxLen; omega) (by omega) (by omega) ?_
            intro vc VBQAC oc gc _
            have bVBQAC := bVBQA.grown gc (by omega) (fun q hq => by have := (hown q hq).1; omega)
            have hSVBQAC : VBQA.heap.size ≤ VBQAC.heap.size := gc.size
            rw [← List.map_append, ← evFlat_snoc] at oc
            obtain ⟨ab, cb, rfl, rb, _, _, _, _⟩ := RowK.ofMany oc (evFlat_wf (unveil HOK))
            have zq : qBlock VBQAC _ _ _ _ _ _ _ := (gc.block _ zq.lt (fun e => by have := hown _ e.symm; omega)).trans zq
            refine hK.out _ _ bVBQAC (fun hHeld => ?_)
            clear hK K gc oc oa nb
            refine wpAnyH_ready (rs := [5]) (by kernel_rfl) (by simp) ?_
            refine AllReadyH.cons rfl (fun K hK => ?_) AllReadyH.nil
            · simp only [List.getElem_toArray, List.getElem_cons_zero, List.getElem_cons_succ]
              go_simp
              refine (unveil HR _ _ _ rb).mono ?_
              rintro e VBQACR ⟨x', rfl, ⟨⟨b1', d1', b2', d2', vs', rfl, r1, r2, l1', l2', n1, n2, hW'', f1, f2⟩⟩, bn⟩
              have hr1 := fun x hx h0 => r1.blk_lt x hx h0
              have hr2 := fun x hx h0 => r2.blk_lt x hx h0
              have bVBQACR := Below.next bVBQAC bn
              have zq := zq.next bn
              have hSVBQACR : VBQAC.heap.size ≤ VBQACR.heap.size := bn.size
              refine hK.out _ _ bVBQACR (fun hHeld => ?_)
              clear hK K bn
              refine wpAnyH_take (i := 6) (v := .tuple #[qVal t.ep t.nx t.gv (.slice b1' t.rn d1') (.slice b2' t.ln d2') vs', .int .i64 er]) rfl (by kernel_rfl) (by kernel_rfl) (by kernel_rfl) (fun _ _ _ h => h) (Or.inl ⟨by rfl, fun _ _ => by go_simp⟩) hHeld ?_
              simp only [List.getElem_toArray, List.getElem_cons_zero, List.getElem_cons_succ, Act.put, List.setIfInBounds_toArray, List.set_cons_zero, List.set_cons_succ]
              refine wpAnyH_take (i := 7) (v := qVal t.ep t.nx t.gv (.slice b1' t.rn d1') (.slice b2' t.ln d2') vs') rfl (by kernel_rfl) (by kernel_rfl) (by kernel_rfl) (fun _ _ _ h => h) (Or.inl ⟨by rfl, fun _ _ => by go_simp⟩) hHeld ?_
              simp only [List.getElem_toArray, List.getElem_cons_zero, List.getElem_cons_succ, Act.put, List.setIfInBounds_toArray, List.set_cons_zero, List.set_cons_succ]
              refine wpAnyH_take (i := 8) (v := .int .i64 er) rfl (by kernel_rfl) (by kernel_rfl) (by kernel_rfl) (fun _ _ _ h => h) (Or.inl ⟨by rfl, fun _ _ => by go_simp⟩) hHeld ?_
              simp only [List.getElem_toArray, List.getElem_cons_zero, List.getElem_cons_succ, Act.put, List.setIfInBounds_toArray, List.set_cons_zero, List.set_cons_succ]
              refine wpAnyH_ready (rs := [10]) (by kernel_rfl) (by simp) ?_
              refine AllReadyH.cons rfl (fun K hK => ?_) AllReadyH.nil
              simp only [List.getElem_toArray, List.getElem_cons_zero, List.getElem_cons_succ]
              refine ite_wanted rfl ?_
              refine q_store_wp (ra := b1') (la := b2') (ws' := vs') _ _ rfl rfl rfl zq hW'' ?_
              intro Wq q5 t5
              have r15 := t5.row r1 (fun x hx h0 => by have := f1 x hx; have := hr1 x hx h0; omega)
              have r25 := t5.row r2 (fun x hx h0 => by have := f2 x hx; have := hr2 x hx h0; omega)
              have b5 := t5.under bVBQACR (by omega)
              refine hK.out _ _ b5 (fun hHeld => ?_)
              clear hK K
              refine wpAnyH_take (i := 11) (v := .int .i64 er) rfl (by kernel_rfl) (by kernel_rfl) (by kernel_rfl) (fun _ _ _ h => h) (Or.inl ⟨by rfl, fun _ _ => by go_simp⟩) hHeld ?_
              simp only [List.getElem_toArray, List.getElem_cons_zero, List.getElem_cons_succ, Act.put, List.setIfInBounds_toArray, List.set_cons_zero, List.set_cons_succ]
              refine wpAnyH_done (by kernel_rfl) ?_ _
              go_wp2_with fail
              go_meet
              exact ⟨_, b1', d1', b2', d2', vs', rfl, rfl, ⟨q5, r15, r25, n1, n2, hW''⟩, b5⟩
    · simp only [List.getElem_toArray, List.getElem_cons_zero, List.getElem_cons_succ]
      refine ite_wanted rfl ?_
      refine q_alloc_wp 14 rfl rfl ?_
      intro VQ zq bn
      have hXq : V.heap.size < VQ.heap.size := zq.lt
      have bVQ := Below.next bV bn
      have hSVQ : V.heap.size ≤ VQ.heap.size := bn.size
      refine hK.out _ _ bVQ (fun hHeld => ?_)
      clear hK K bn
      refine wpAnyH_ready (rs := [1, 3]) (by kernel_rfl) (by simp) ?_
      refine AllReadyH.cons rfl (fun K hK => ?_) (AllReadyH.cons rfl (fun K hK => ?_) AllReadyH.nil)
      · simp only [List.getElem_toArray, List.getElem_cons_zero, List.getElem_cons_succ]
        refine ite_wanted rfl ?_
        refine wp_append_rows (.const (.slice none 0 0)) (.tmp 34) 31 rfl VQ.heap.size 45 i6 _ 6 48 Try.underlying31 hi6 hz60 hz61 hz62 rfl (by decide) (.slice none 0 0) 0 [] rfl (World.ownsRow_nil _ _ _ _) ae es.length ce (evFlat es) rfl (E9.below bVQ) hne (by unfold maxLen; omega) (by omega) (Nat.le_refl _) ?_
        intro va VQA oa ga
        simp only [Nat.zero_add, List.nil_append] at oa
        obtain ⟨aa, ka, rfl⟩ := own_form oa
        have bn : Below VQ.heap.size VQ VQA := (Below.refl _ _).grown ga (Nat.le_refl _) (by simp [Value.ownBlock])
        have hown := oa.lt
        have hba : VQ.heap.size ≤ VQA.heap.size := bn.size
        have bVQA := Below.next bVQ bn
        have zq := zq.next bn
        have hSVQA : VQ.heap.size ≤ VQA.heap.size := bn.size
        refine hK.out _ _ bVQA (fun hHeld => ?_)
        clear hK K bn
        refine wpAnyH_ready (rs := [3]) (by kernel_rfl) (by simp) ?_
        refine AllReadyH.cons rfl (fun K hK => ?_) AllReadyH.nil
        · simp only [List.getElem_toArray, List.getElem_cons_zero, List.getElem_cons_succ]
          go_simp
          obtain ⟨VQAB, hNW, nb, hBl, bn⟩ : ∃ W, W = VQA.alloc (.cells #[.int .i64 v.k, .int .i64 v.p, .int .i64 v.i, .int .i64 v.b, .int .i64 v.he, .int .i64 v.hn] 45) ∧ (∀ j u, ((evCells v).map (Value.int .i64))[j]? = some u → W.cell? ((⟨VQA.heap.size, 0, none⟩ : Addr).add j) = some u) ∧ VQA.heap.size < W.heap.size ∧ Below VQA.heap.size VQA W := ⟨_, rfl, news6 _ _ _ _ _ _ _ _, alloc_lt _ _ _, below1 _ _⟩
          rw [← hNW]
          clear hNW
          have bVQAB := Below.next bVQA bn
          have zq := zq.next bn
          have oa := own_still oa (fun g _ hg => bn.block g hg)
          have hSVQAB : VQA.heap.size ≤ VQAB.heap.size := bn.size
          refine hK.out _ _ bVQAB (fun hHeld => ?_)
          clear hK K bn
          refine wpAnyH_ready (rs := [4]) (by kernel_rfl) (by simp) ?_
          refine AllReadyH.cons rfl (fun K hK => ?_) AllReadyH.nil
          · simp only [List.getElem_toArray, List.getElem_cons_zero, List.getElem_cons_succ]
            refine ite_wanted rfl ?_
            refine wp_append_own _ (.tmp 35) (.tmp 37) 31 rfl (VQ.heap.size) 45 i6 _ 6 48 Try.underlying31 hi6 hz60 hz61 hz62 rfl (by decide) (.slice aa es.length ka) es.length ((evFlat es).map (Value.int .i64)) rfl oa ⟨VQA.heap.size, 0, none⟩ 1 1 ((evCells v).map (Value.int .i64)) rfl rfl nb (ints_oneCell _ _) (by unfold maxLen; omega) (by omega) (by omega) ?_
            intro vc VQABC oc gc _
            have bVQABC := bVQAB.grown gc (by omega) (fun q hq => by have := (hown q hq).1; omega)
            have hSVQABC : VQAB.heap.size ≤ VQABC.heap.size := gc.size
            rw [← List.map_append, ← evFlat_snoc] at oc
            obtain ⟨ab, cb, rfl, rb, _, _, _, _⟩ := RowK.ofMany oc (evFlat_wf (unveil HOK))
            have zq : qBlock VQABC _ _ _ _ _ _ _ := (gc.block _ zq.lt (fun e => by have := hown _ e.symm; omega)).trans zq
            refine hK.out _ _ bVQABC (fun hHeld => ?_)
            clear hK K gc oc oa nb
            refine wpAnyH_ready (rs := [5]) (by kernel_rfl) (by simp) ?_
            refine AllReadyH.cons rfl (fun K hK => ?_) AllReadyH.nil
            · simp only [List.getElem_toArray, List.getElem_cons_zero, List.getElem_cons_succ]
              go_simp
              refine (unveil HR _ _ _ rb).mono ?_
              rintro e VQABCR ⟨x', rfl, ⟨⟨b1', d1', b2', d2', vs', rfl, r1, r2, l1', l2', n1, n2, hW'', f1, f2⟩⟩, bn⟩
              have hr1 := fun x hx h0 => r1.blk_lt x hx h0
              have hr2 := fun x hx h0 => r2.blk_lt x hx h0
              have bVQABCR := Below.next bVQABC bn
              have zq := zq.next bn
              have hSVQABCR : VQABC.heap.size ≤ VQABCR.heap.size := bn.size
              refine hK.out _ _ bVQABCR (fun hHeld => ?_)
              clear hK K bn
              refine wpAnyH_take (i := 6) (v := .tuple #[qVal t.ep t.nx t.gv (.slice b1' t.rn d1') (.slice b2' t.ln d2') vs', .int .i64 er]) rfl (by kernel_rfl) (by kernel_rfl) (by kernel_rfl) (fun _ _ _ h => h) (Or.inl ⟨by rfl, fun _ _ => by go_simp⟩) hHeld ?_
              simp only [List.getElem_toArray, List.getElem_cons_zero, List.getElem_cons_succ, Act.put, List.setIfInBounds_toArray, List.set_cons_zero, List.set_cons_succ]
              refine wpAnyH_take (i := 7) (v := qVal t.ep t.nx t.gv (.slice b1' t.rn d1') (.slice b2' t.ln d2') vs') rfl (by kernel_rfl) (by kernel_rfl) (by kernel_rfl) (fun _ _ _ h => h) (Or.inl ⟨by rfl, fun _ _ => by go_simp⟩) hHeld ?_
              simp only [List.getElem_toArray, List.getElem_cons_zero, List.getElem_cons_succ, Act.put, List.setIfInBounds_toArray, List.set_cons_zero, List.set_cons_succ]
              refine wpAnyH_take (i := 8) (v := .int .i64 er) rfl (by kernel_rfl) (by kernel_rfl) (by kernel_rfl) (fun _ _ _ h => h) (Or.inl ⟨by rfl, fun _ _ => by go_simp⟩) hHeld ?_
              simp only [List.getElem_toArray, List.getElem_cons_zero, List.getElem_cons_succ, Act.put, List.setIfInBounds_toArray, List.set_cons_zero, List.set_cons_succ]
              refine wpAnyH_ready (rs := [10]) (by kernel_rfl) (by simp) ?_
              refine AllReadyH.cons rfl (fun K hK => ?_) AllReadyH.nil
              simp only [List.getElem_toArray, List.getElem_cons_zero, List.getElem_cons_succ]
              refine ite_wanted rfl ?_
              refine q_store_wp (ra := b1') (la := b2') (ws' := vs') _ _ rfl rfl rfl zq hW'' ?_
              intro Wq q5 t5
              have r15 := t5.row r1 (fun x hx h0 => by have := f1 x hx; have := hr1 x hx h0; omega)
              have r25 := t5.row r2 (fun x hx h0 => by have := f2 x hx; have := hr2 x hx h0; omega)
              have b5 := t5.under bVQABCR (by omega)
              refine hK.out _ _ b5 (fun hHeld => ?_)
              clear hK K
              refine wpAnyH_take (i := 11) (v := .int .i64 er) rfl (by kernel_rfl) (by kernel_rfl) (by kernel_rfl) (fun _ _ _ h => h) (Or.inl ⟨by rfl, fun _ _ => by go_simp⟩) hHeld ?_
              simp only [List.getElem_toArray, List.getElem_cons_zero, List.getElem_cons_succ, Act.put, List.setIfInBounds_toArray, List.set_cons_zero, List.set_cons_succ]
              refine wpAnyH_done (by kernel_rfl) ?_ _
              go_wp2_with fail
              go_meet
              exact ⟨_, b1', d1', b2', d2', vs', rfl, rfl, ⟨q5, r15, r25, n1, n2, hW''⟩, b5⟩
      · simp only [List.getElem_toArray, List.getElem_cons_zero, List.getElem_cons_succ]
        go_simp
        obtain ⟨VQB, hNW, nb, hBl, bn⟩ : ∃ W, W = VQ.alloc (.cells #[.int .i64 v.k, .int .i64 v.p, .int .i64 v.i, .int .i64 v.b, .int .i64 v.he, .int .i64 v.hn] 45) ∧ (∀ j u, ((evCells v).map (Value.int .i64))[j]? = some u → W.cell? ((⟨VQ.heap.size, 0, none⟩ : Addr).add j) = some u) ∧ VQ.heap.size < W.heap.size ∧ Below VQ.heap.size VQ W := ⟨_, rfl, news6 _ _ _ _ _ _ _ _, alloc_lt _ _ _, below1 _ _⟩
        rw [← hNW]
        clear hNW
        have bVQB := Below.next bVQ bn
        have zq := zq.next bn
        have hSVQB : VQ.heap.size ≤ VQB.heap.size := bn.size
        refine hK.out _ _ bVQB (fun hHeld => ?_)
        clear hK K bn
        refine wpAnyH_ready (rs := [1]) (by kernel_rfl) (by simp) ?_
        refine AllReadyH.cons rfl (fun K hK => ?_) AllReadyH.nil
        · simp only [List.getElem_toArray, List.getElem_cons_zero, List.getElem_cons_succ]
          refine ite_wanted rfl ?_
          refine wp_append_rows (.const (.slice none 0 0)) (.tmp 34) 31 rfl VQB.heap.size 45 i6 _ 6 48 Try.underlying31 hi6 hz60 hz61 hz62 rfl (by decide) (.slice none 0 0) 0 [] rfl (World.ownsRow_nil _ _ _ _) ae es.length ce (evFlat es) rfl (E9.below bVQB) hne (by unfold maxLen; omega) (by omega) (Nat.le_refl _) ?_
          intro va VQBA oa ga
          simp only [Nat.zero_add, List.nil_append] at oa
          obtain ⟨aa, ka, rfl⟩ := own_form oa
          have bn : Below VQB.heap.size VQB VQBA := (Below.refl _ _).grown ga (Nat.le_refl _) (by simp [Value.ownBlock])
          have hown := oa.lt
          have hba : VQB.heap.size ≤ VQBA.heap.size := bn.size
          have bVQBA := Below.next bVQB bn
          have zq := zq.next bn
          have nb := fun j u hj => (bn.cell (p := (⟨VQ.heap.size, 0, none⟩ : Addr).add j) (by rw [Addr.add_mid]; show (VQ.heap.size : Nat) < _; omega)).trans (nb j u hj)
          have hSVQBA : VQB.heap.size ≤ VQBA.heap.size := bn.size
          refine hK.out _ _ bVQBA (fun hHeld => ?_)
          clear hK K bn
          refine wpAnyH_ready (rs := [4]) (by kernel_rfl) (by simp) ?_
          refine AllReadyH.cons rfl (fun K hK => ?_) AllReadyH.nil
          · simp only [List.getElem_toArray, List.getElem_cons_zero, List.getElem_cons_succ]
            refine ite_wanted rfl ?_
            refine wp_append_own _ (.tmp 35) (.tmp 37) 31 rfl (VQB.heap.size) 45 i6 _ 6 48 Try.underlying31 hi6 hz60 hz61 hz62 rfl (by decide) (.slice aa es.length ka) es.length ((evFlat es).map (Value.int .i64)) rfl oa ⟨VQ.heap.size, 0, none⟩ 1 1 ((evCells v).map (Value.int .i64)) rfl rfl nb (ints_oneCell _ _) (by unfold maxLen; omega) (by omega) (by omega) ?_
            intro vc VQBAC oc gc _
            have bVQBAC := bVQBA.grown gc (by omega) (fun q hq => by have := (hown q hq).1; omega)
            have hSVQBAC : VQBA.heap.size ≤ VQBAC.heap.size := gc.size
            rw [← List.map_append, ← evFlat_snoc] at oc
            obtain ⟨ab, cb, rfl, rb, _, _, _, _⟩ := RowK.ofMany oc (evFlat_wf (unveil HOK))
            have zq : qBlock VQBAC _ _ _ _ _ _ _ := (gc.block _ zq.lt (fun e => by have := hown _ e.symm; omega)).trans zq
            refine hK.out _ _ bVQBAC (fun hHeld => ?_)
            clear hK K gc oc oa nb
            refine wpAnyH_ready (rs := [5]) (by kernel_rfl) (by simp) ?_
            refine AllReadyH.cons rfl (fun K hK => ?_) AllReadyH.nil
            · simp only [List.getElem_toArray, List.getElem_cons_zero, List.getElem_cons_succ]
              go_simp
              refine (unveil HR _ _ _ rb).mono ?_
              rintro e VQBACR ⟨x', rfl, ⟨⟨b1', d1', b2', d2', vs', rfl, r1, r2, l1', l2', n1, n2, hW'', f1, f2⟩⟩, bn⟩
              have hr1 := fun x hx h0 => r1.blk_lt x hx h0
              have hr2 := fun x hx h0 => r2.blk_lt x hx h0
              have bVQBACR := Below.next bVQBAC bn
              have zq := zq.next bn
              have hSVQBACR : VQBAC.heap.size ≤ VQBACR.heap.size := bn.size
              refine hK.out _ _ bVQBACR (fun hHeld => ?_)
              clear hK K bn
              refine wpAnyH_take (i := 6) (v := .tuple #[qVal t.ep t.nx t.gv (.slice b1' t.rn d1') (.slice b2' t.ln d2') vs', .int .i64 er]) rfl (by kernel_rfl) (by kernel_rfl) (by kernel_rfl) (fun _ _ _ h => h) (Or.inl ⟨by rfl, fun _ _ => by go_simp⟩) hHeld ?_
              simp only [List.getElem_toArray, List.getElem_cons_zero, List.getElem_cons_succ, Act.put, List.setIfInBounds_toArray, List.set_cons_zero, List.set_cons_succ]
              refine wpAnyH_take (i := 7) (v := qVal t.ep t.nx t.gv (.slice b1' t.rn d1') (.slice b2' t.ln d2') vs') rfl (by kernel_rfl) (by kernel_rfl) (by kernel_rfl) (fun _ _ _ h => h) (Or.inl ⟨by rfl, fun _ _ => by go_simp⟩) hHeld ?_
              simp only [List.getElem_toArray, List.getElem_cons_zero, List.getElem_cons_succ, Act.put, List.setIfInBounds_toArray, List.set_cons_zero, List.set_cons_succ]
              refine wpAnyH_take (i := 8) (v := .int .i64 er) rfl (by kernel_rfl) (by kernel_rfl) (by kernel_rfl) (fun _ _ _ h => h) (Or.inl ⟨by rfl, fun _ _ => by go_simp⟩) hHeld ?_
              simp only [List.getElem_toArray, List.getElem_cons_zero, List.getElem_cons_succ, Act.put, List.setIfInBounds_toArray, List.set_cons_zero, List.set_cons_succ]
              refine wpAnyH_ready (rs := [10]) (by kernel_rfl) (by simp) ?_
              refine AllReadyH.cons rfl (fun K hK => ?_) AllReadyH.nil
              simp only [List.getElem_toArray, List.getElem_cons_zero, List.getElem_cons_succ]
              refine ite_wanted rfl ?_
              refine q_store_wp (ra := b1') (la := b2') (ws' := vs') _ _ rfl rfl rfl zq hW'' ?_
              intro Wq q5 t5
              have r15 := t5.row r1 (fun x hx h0 => by have := f1 x hx; have := hr1 x hx h0; omega)
              have r25 := t5.row r2 (fun x hx h0 => by have := f2 x hx; have := hr2 x hx h0; omega)
              have b5 := t5.under bVQBACR (by omega)
              refine hK.out _ _ b5 (fun hHeld => ?_)
              clear hK K
              refine wpAnyH_take (i := 11) (v := .int .i64 er) rfl (by kernel_rfl) (by kernel_rfl) (by kernel_rfl) (fun _ _ _ h => h) (Or.inl ⟨by rfl, fun _ _ => by go_simp⟩) hHeld ?_
              simp only [List.getElem_toArray, List.getElem_cons_zero, List.getElem_cons_succ, Act.put, List.setIfInBounds_toArray, List.set_cons_zero, List.set_cons_succ]
              refine wpAnyH_done (by kernel_rfl) ?_ _
              go_wp2_with fail
              go_meet
              exact ⟨_, b1', d1', b2', d2', vs', rfl, rfl, ⟨q5, r15, r25, n1, n2, hW''⟩, b5⟩
  case rest =>
    obtain ⟨X, b1, d1, b2, d2, vs, rfl, rfl, XX, bc⟩ := hcut
    obtain ⟨W4, hW4⟩ : ∃ W4, W4 = wc := ⟨_, rfl⟩
    subst hW4
    have B4 := Below.next B9 bc
    rcases unveil HT with ⟨rfl, rfl, rfl, hsz⟩ | ⟨rfl, rfl⟩
    · have Y := (unveil HX9).next bc
      have HSQ := sameQueue_yes t b1 d1 b2 d2 vs a1' c1' a2' c2' ws' W4 XX.r1 XX.r2 Y.r1 Y.r2 XX.wins Y.wins hsz
      have qx := XX.q
      have qy := Y.q
      clear XX Y HX9 E9 u0 u1 u2 u3 u4 u5
      go_wp2_with (first
        | (refine q_loads _ rfl rfl rfl qx ?_)
        | (refine q_loads _ rfl rfl rfl qy ?_)
        | (go_at_call 22; refine HSQ.mono ?_; rintro r Wz ⟨rfl, bz⟩))
      go_ret
      exact ⟨rfl, Below.next B4 bz⟩
    · clear XX HX9 E9 u0 u1 u2 u3 u4 u5
      go_wp2
      go_ret
      exact ⟨rfl, B4⟩
end Go.Proofs.Ytkeipknbcjkomaa
