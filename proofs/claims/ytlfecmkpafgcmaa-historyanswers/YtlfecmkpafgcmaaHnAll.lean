/- Texts put together: HsP, HsN, HsQ. -/
import Derived.Test.YtlfecmkpafgcmaaHsAll
import Derived.Deep.CutRange
import Derived.Deep.DeepCutAuto
namespace Go.Proofs.Ytlfecmkpafgcmaa
open Go.RowKit

/-- a telling whose rows lie from n on. -/
structure Tf (w : World) (n R : Nat) (T : TypeId) (tail : List Value) (s : St) (an : An) : Prop where
  ex : ∃ a1 c1 a2 c2 ws, tlBlock w R T s.ep s.nx s.gv (.slice a1 s.rn c1) (.slice a2 s.ln c2) ws an.c an.he an.no an.bd tail ∧ RowK .i64 w a1 (2 * s.rn) s.R ∧ RowK .i64 w a2 (4 * s.ln) s.L ∧ (a1 = none → c1 = 0) ∧ (a2 = none → c2 = 0) ∧ Wins ws s.wt s.wz ∧ (∀ x, a1 = some x → n ≤ x.block) ∧ (∀ x, a2 = some x → n ≤ x.block) ∧ s.rn ≤ c1 ∧ s.ln ≤ c2
set_option maxRecDepth 20000 in
set_option maxHeartbeats 4000000 in
theorem tell_far (s : St) (an : An) (v : Ev) (w0 : World) (R : Nat) (T : TypeId) (tail : List Value) (ok : s.Ok) (h : Tg w0 R T tail s an) :
    Calls Try.prog 29 #[.pointer (some ⟨R, 0, none⟩), evIn v] w0 fun e w' => ∃ (s' : St) (an' : An) (ch : Bool) (er : Int), e = .returned (.bool ch) ∧ DoR s v s' an' ch er ∧ (ch = true → Tf w' w0.heap.size R T tail s' an') ∧ (ch = false → Tg w' R T tail s an) ∧ Off R w0.heap.size w0 w' := by
  go_enter Try.func29, Try.ntmps29
  go_upto_region 1 with fail
  obtain ⟨W1, hW1, b1, e1⟩ : ∃ W1, W1 = w0.alloc (.cells #[.int .i64 v.k, .int .i64 v.p, .int .i64 v.i, .int .i64 v.b, .int .i64 v.he, .int .i64 v.hn] 61) ∧ Below w0.heap.size w0 W1 ∧ W1.heap[w0.heap.size]? = some (.cells #[.int .i64 v.k, .int .i64 v.p, .int .i64 v.i, .int .i64 v.b, .int .i64 v.he, .int .i64 v.hn] 61 (0, 0)) := ⟨_, rfl, below1 _ _, heap_alloc_new _ _⟩
  rw [← hW1]
  obtain ⟨v0, v1, v2, v3, v4, v5⟩ := ev_box e1
  have hEl : w0.heap.size < W1.heap.size := block_lt e1
  have h1 := h.next b1
  have HT1 := veil h1
  obtain ⟨a1, c1, a2, c2, ws, tb, t1, t2, m1, m2, hW, x1, x2, _, _⟩ := h1.ex
  have hRl : R < w0.heap.size := by obtain ⟨_, _, _, _, _, tb0, _⟩ := h.ex; exact tb0.lt
  have HDo : Hid (∀ W, Below W1.heap.size W1 W → Calls Try.prog 27 #[qVal s.ep s.nx s.gv (.slice a1 s.rn c1) (.slice a2 s.ln c2) ws, evIn v] W fun e w' => ∃ (s' : St) (an : An) (ch : Bool) (er : Int) (x : Value), e = .returned (.tuple #[x, anOf an, .bool ch, .int .i64 er]) ∧ DoR s v s' an ch er ∧ QOut W w' s' x ∧ Below W.heap.size W w') := veil fun W b => do_any s a1 a2 c1 c2 ws v W (t1.below b) (t2.below b) m1 m2 hW ok
  have HB1 := veil b1
  clear hW1 b1 e1 h1 t1 t2 m1 m2 x1 x2 h
  go_cut [5, 6, 7, 8] (fun p5 p6 c7 c8 wx => ∃ (s' : St) (an' : An) (ch : Bool) (er : Int) (X A : Nat) (b1' : Option Addr) (d1' : Nat) (b2' : Option Addr) (d2' : Nat) (vs' : Nat → Value), p5 = .pointer (some ⟨X, 0, none⟩) ∧ p6 = .pointer (some ⟨A, 0, none⟩) ∧ c7 = .bool ch ∧ c8 = .int .i64 er ∧ DoR s v s' an' ch er ∧ Bx wx X s' b1' d1' b2' d2' vs' ∧ ansBlock wx A an'.c an'.he an'.no an'.bd ∧ Below W1.heap.size W1 wx ∧ W1.heap.size ≤ X ∧ W1.heap.size ≤ A ∧ (∀ x, b1' = some x → W1.heap.size ≤ x.block) ∧ (∀ x, b2' = some x → W1.heap.size ≤ x.block) ∧ s'.rn ≤ d1' ∧ s'.ln ≤ d2')
  case first =>
    refine wp_region_held_drew (S := Below W1.heap.size W1) (by kernel_rfl) (below_drew W1) (fun hHeld => ?_)
    refine wpAnyH_take (i := 0) (v := .pointer (some ⟨R, 0, none⟩)) rfl (by kernel_rfl) (by kernel_rfl) (by kernel_rfl) (fun _ _ _ h => h) (Or.inl ⟨by rfl, fun _ _ => by go_simp⟩) hHeld ?_
    simp only [List.getElem_toArray, List.getElem_cons_zero, Act.put, List.setIfInBounds_toArray, List.set_cons_zero, List.set_cons_succ]
    refine wpAnyH_take (i := 1) (v := .pointer (some ⟨R, 0, none⟩)) rfl (by kernel_rfl) (by kernel_rfl) (by kernel_rfl) (fun _ _ _ h => h) (Or.inl ⟨by rfl, fun _ _ => by go_simp⟩) hHeld ?_
    simp only [List.getElem_toArray, List.getElem_cons_zero, List.getElem_cons_succ, Act.put, List.setIfInBounds_toArray, List.set_cons_zero, List.set_cons_succ]
    refine wpAnyH_take (i := 2) (v := .pointer (some ⟨R, 0, none⟩)) rfl (by kernel_rfl) (by kernel_rfl) (by kernel_rfl) (fun _ _ _ h => h) (Or.inl ⟨by rfl, fun _ _ => by go_simp⟩) hHeld ?_
    simp only [List.getElem_toArray, List.getElem_cons_zero, List.getElem_cons_succ, Act.put, List.setIfInBounds_toArray, List.set_cons_zero, List.set_cons_succ]
    refine wpAnyH_take (i := 3) (v := _) rfl (by kernel_rfl) (by kernel_rfl) (by kernel_rfl) (fun _ _ _ h => h) (yields_t _ rfl rfl rfl (fun _ b => tb.next b)) hHeld ?_
    simp only [List.getElem_toArray, List.getElem_cons_zero, List.getElem_cons_succ, Act.put, List.setIfInBounds_toArray, List.set_cons_zero, List.set_cons_succ]
    refine wpAnyH_take (i := 4) (v := evIn v) rfl (by kernel_rfl) (by kernel_rfl) (by kernel_rfl) (fun _ _ _ h => h) (Or.inl ⟨by rfl, fun w b => by have c0 := (b.cell (p := ⟨w0.heap.size, 0, none⟩) hEl).trans v0; have c1 := (b.cell (p := ⟨w0.heap.size, 1, none⟩) hEl).trans v1; have c2 := (b.cell (p := ⟨w0.heap.size, 2, none⟩) hEl).trans v2; have c3 := (b.cell (p := ⟨w0.heap.size, 3, none⟩) hEl).trans v3; have c4 := (b.cell (p := ⟨w0.heap.size, 4, none⟩) hEl).trans v4; have c5 := (b.cell (p := ⟨w0.heap.size, 5, none⟩) hEl).trans v5; go_simp⟩) hHeld ?_
    simp only [List.getElem_toArray, List.getElem_cons_zero, List.getElem_cons_succ, Act.put, List.setIfInBounds_toArray, List.set_cons_zero, List.set_cons_succ]
    have bW0 := below_drew W1
    have hz0 : W1.heap.size ≤ W1.drew.heap.size := bW0.size
    obtain ⟨W0, hW0⟩ : ∃ W0, W0 = W1.drew := ⟨_, rfl⟩
    rw [← hW0] at bW0 hz0 hHeld ⊢
    clear hW0
    refine wpAnyH_ready (rs := [5, 11, 12]) (by kernel_rfl) (by simp) ?_
    refine AllReadyH.cons rfl (fun K hK => ?_) (AllReadyH.cons rfl (fun K hK => ?_) (AllReadyH.cons rfl (fun K hK => ?_) AllReadyH.nil))
    · simp only [List.getElem_toArray, List.getElem_cons_zero, List.getElem_cons_succ]
      go_simp
      refine (unveil HDo _ bW0).mono ?_
      rintro e WC ⟨s', an', ch, er, x', rfl, hst, ⟨⟨b1', d1', b2', d2', vs', rfl, r1, r2, l1', l2', n1, n2, hW'', f1, f2⟩⟩, bn⟩
      have HST := veil hst
      clear hst
      have hr1 := fun x hx h0 => r1.blk_lt x hx h0
      have hr2 := fun x hx h0 => r2.blk_lt x hx h0
      have bWC := Below.next bW0 bn
      have hSWC : W0.heap.size ≤ WC.heap.size := bn.size
      refine hK.out _ _ bWC (fun hHeld => ?_)
      clear hK K bn
      refine wpAnyH_take (i := 6) (v := .tuple #[qVal s'.ep s'.nx s'.gv (.slice b1' s'.rn d1') (.slice b2' s'.ln d2') vs', anOf an', .bool ch, .int .i64 er]) rfl (by kernel_rfl) (by kernel_rfl) (by kernel_rfl) (fun _ _ _ h => h) (Or.inl ⟨by rfl, fun _ _ => by go_simp⟩) hHeld ?_
      simp only [List.getElem_toArray, List.getElem_cons_zero, List.getElem_cons_succ, Act.put, List.setIfInBounds_toArray, List.set_cons_zero, List.set_cons_succ]
      refine wpAnyH_take (i := 7) (v := qVal s'.ep s'.nx s'.gv (.slice b1' s'.rn d1') (.slice b2' s'.ln d2') vs') rfl (by kernel_rfl) (by kernel_rfl) (by kernel_rfl) (fun _ _ _ h => h) (Or.inl ⟨by rfl, fun _ _ => by go_simp⟩) hHeld ?_
      simp only [List.getElem_toArray, List.getElem_cons_zero, List.getElem_cons_succ, Act.put, List.setIfInBounds_toArray, List.set_cons_zero, List.set_cons_succ]
      refine wpAnyH_take (i := 8) (v := anOf an') rfl (by kernel_rfl) (by kernel_rfl) (by kernel_rfl) (fun _ _ _ h => h) (Or.inl ⟨by rfl, fun _ _ => by go_simp⟩) hHeld ?_
      simp only [List.getElem_toArray, List.getElem_cons_zero, List.getElem_cons_succ, Act.put, List.setIfInBounds_toArray, List.set_cons_zero, List.set_cons_succ]
      refine wpAnyH_take (i := 9) (v := .bool ch) rfl (by kernel_rfl) (by kernel_rfl) (by kernel_rfl) (fun _ _ _ h => h) (Or.inl ⟨by rfl, fun _ _ => by go_simp⟩) hHeld ?_
      simp only [List.getElem_toArray, List.getElem_cons_zero, List.getElem_cons_succ, Act.put, List.setIfInBounds_toArray, List.set_cons_zero, List.set_cons_succ]
      refine wpAnyH_take (i := 10) (v := .int .i64 er) rfl (by kernel_rfl) (by kernel_rfl) (by kernel_rfl) (fun _ _ _ h => h) (Or.inl ⟨by rfl, fun _ _ => by go_simp⟩) hHeld ?_
      simp only [List.getElem_toArray, List.getElem_cons_zero, List.getElem_cons_succ, Act.put, List.setIfInBounds_toArray, List.set_cons_zero, List.set_cons_succ]
      refine wpAnyH_ready (rs := [11, 12]) (by kernel_rfl) (by simp) ?_
      refine AllReadyH.cons rfl (fun K hK => ?_) (AllReadyH.cons rfl (fun K hK => ?_) AllReadyH.nil)
      · simp only [List.getElem_toArray, List.getElem_cons_zero, List.getElem_cons_succ]
        refine ite_wanted rfl ?_
        refine q_alloc_wp 5 rfl rfl ?_
        intro WCQ zq bn
        have hXq : WC.heap.size < WCQ.heap.size := zq.lt
        have bWCQ := Below.next bWC bn
        have r1 := r1.below bn
        have r2 := r2.below bn
        have hSWCQ : WC.heap.size ≤ WCQ.heap.size := bn.size
        refine hK.out _ _ bWCQ (fun hHeld => ?_)
        clear hK K bn
        refine wpAnyH_ready (rs := [12]) (by kernel_rfl) (by simp) ?_
        refine AllReadyH.cons rfl (fun K hK => ?_) AllReadyH.nil
        · simp only [List.getElem_toArray, List.getElem_cons_zero, List.getElem_cons_succ]
          go_simp
          obtain ⟨WCQA, hWCQA, ya, bn⟩ : ∃ W, W = WCQ.alloc (.cells #[.int .i64 0, .int .i64 0, .int .i64 0, .int .i64 0] 50) ∧ ansBlock W WCQ.heap.size 0 0 0 0 ∧ Below WCQ.heap.size WCQ W := ⟨_, rfl, ansBlock.new _ 0 0 0 0, below1 _ _⟩
          rw [← hWCQA]
          have hXa : WCQ.heap.size < WCQA.heap.size := ya.lt
          have bWCQA := Below.next bWCQ bn
          clear hWCQA
          have zq := zq.next bn
          have r1 := r1.below bn
          have r2 := r2.below bn
          have hSWCQA : WCQ.heap.size ≤ WCQA.heap.size := bn.size
          refine hK.out _ _ bWCQA (fun hHeld => ?_)
          clear hK K bn
          refine wpAnyH_ready (rs := [13]) (by kernel_rfl) (by simp) ?_
          refine AllReadyH.cons rfl (fun K hK => ?_) AllReadyH.nil
          simp only [List.getElem_toArray, List.getElem_cons_zero, List.getElem_cons_succ]
          refine ite_wanted rfl ?_
          refine q_store_wp (ra := b1') (la := b2') (ws' := vs') _ _ rfl rfl rfl zq hW'' ?_
          intro Wq q5 t5
          have ya5 := ya.turned t5 (by omega)
          have r15 := t5.row r1 (fun x hx h0 => by have := f1 x hx; have := hr1 x hx h0; omega)
          have r25 := t5.row r2 (fun x hx h0 => by have := f2 x hx; have := hr2 x hx h0; omega)
          have b5 := t5.under bWCQA (by omega)
          refine hK.out _ _ b5 (fun hHeld => ?_)
          clear hK K
          refine wpAnyH_ready (rs := [14]) (by kernel_rfl) (by simp) ?_
          refine AllReadyH.cons rfl (fun K hK => ?_) AllReadyH.nil
          simp only [List.getElem_toArray, List.getElem_cons_zero, List.getElem_cons_succ]
          obtain ⟨y0, y1, y2, y3⟩ := ya5.cells
          have yf := ya5.free
          go_simp
          have t6 := ans_turned Wq (WCQ.heap.size) an'.c an'.he an'.no an'.bd
          have ya6 := ya5.store an'.c an'.he an'.no an'.bd
          have q6 := t6.queue q5 (by omega)
          have b6 := t6.under b5 (by omega)
          have X6 : Bx _ (WC.heap.size) s' b1' d1' b2' d2' vs' := ⟨q6, t6.row r15 (fun x hx h0 => by have := f1 x hx; have := hr1 x hx h0; omega), t6.row r25 (fun x hx h0 => by have := f2 x hx; have := hr2 x hx h0; omega), n1, n2, hW''⟩
          unfold ansStore at ya6 X6 b6
          refine hK.out _ _ b6 (fun hHeld => ?_)
          clear hK K y0 y1 y2 y3 yf q6 t6
          generalize (((Wq.setCell ⟨WCQ.heap.size, 0, none⟩ (.int .i64 an'.c)).setCell ⟨WCQ.heap.size, 1, none⟩ (.int .i64 an'.he)).setCell ⟨WCQ.heap.size, 2, none⟩ (.int .i64 an'.no)).setCell ⟨WCQ.heap.size, 3, none⟩ (.int .i64 an'.bd) = W6 at ya6 X6 b6 hHeld ⊢
          refine wpAnyH_take (i := 15) (v := .bool ch) rfl (by kernel_rfl) (by kernel_rfl) (by kernel_rfl) (fun _ _ _ h => h) (Or.inl ⟨by rfl, fun _ _ => by go_simp⟩) hHeld ?_
          simp only [List.getElem_toArray, List.getElem_cons_zero, List.getElem_cons_succ, Act.put, List.setIfInBounds_toArray, List.set_cons_zero, List.set_cons_succ]
          refine wpAnyH_take (i := 16) (v := .int .i64 er) rfl (by kernel_rfl) (by kernel_rfl) (by kernel_rfl) (fun _ _ _ h => h) (Or.inl ⟨by rfl, fun _ _ => by go_simp⟩) hHeld ?_
          simp only [List.getElem_toArray, List.getElem_cons_zero, List.getElem_cons_succ, Act.put, List.setIfInBounds_toArray, List.set_cons_zero, List.set_cons_succ]
          refine wpAnyH_done (by kernel_rfl) ?_ _
          go_wp2_with fail
          go_meet
          exact ⟨s', an', ch, er, _, _, _, _, _, _, _, rfl, rfl, rfl, rfl, unveil HST, X6, ya6, b6, by omega, by omega, fun x hx => by have := f1 x hx; omega, fun x hx => by have := f2 x hx; omega, l1', l2'⟩
      · simp only [List.getElem_toArray, List.getElem_cons_zero, List.getElem_cons_succ]
        go_simp
        obtain ⟨WCA, hWCA, ya, bn⟩ : ∃ W, W = WC.alloc (.cells #[.int .i64 0, .int .i64 0, .int .i64 0, .int .i64 0] 50) ∧ ansBlock W WC.heap.size 0 0 0 0 ∧ Below WC.heap.size WC W := ⟨_, rfl, ansBlock.new _ 0 0 0 0, below1 _ _⟩
        rw [← hWCA]
        have hXa : WC.heap.size < WCA.heap.size := ya.lt
        have bWCA := Below.next bWC bn
        clear hWCA
        have r1 := r1.below bn
        have r2 := r2.below bn
        have hSWCA : WC.heap.size ≤ WCA.heap.size := bn.size
        refine hK.out _ _ bWCA (fun hHeld => ?_)
        clear hK K bn
        refine wpAnyH_ready (rs := [11]) (by kernel_rfl) (by simp) ?_
        refine AllReadyH.cons rfl (fun K hK => ?_) AllReadyH.nil
        · simp only [List.getElem_toArray, List.getElem_cons_zero, List.getElem_cons_succ]
          refine ite_wanted rfl ?_
          refine q_alloc_wp 5 rfl rfl ?_
          intro WCAQ zq bn
          have hXq : WCA.heap.size < WCAQ.heap.size := zq.lt
          have bWCAQ := Below.next bWCA bn
          have ya := ya.next bn
          have r1 := r1.below bn
          have r2 := r2.below bn
          have hSWCAQ : WCA.heap.size ≤ WCAQ.heap.size := bn.size
          refine hK.out _ _ bWCAQ (fun hHeld => ?_)
          clear hK K bn
          refine wpAnyH_ready (rs := [13]) (by kernel_rfl) (by simp) ?_
          refine AllReadyH.cons rfl (fun K hK => ?_) AllReadyH.nil
          simp only [List.getElem_toArray, List.getElem_cons_zero, List.getElem_cons_succ]
          refine ite_wanted rfl ?_
          refine q_store_wp (ra := b1') (la := b2') (ws' := vs') _ _ rfl rfl rfl zq hW'' ?_
          intro Wq q5 t5
          have ya5 := ya.turned t5 (by omega)
          have r15 := t5.row r1 (fun x hx h0 => by have := f1 x hx; have := hr1 x hx h0; omega)
          have r25 := t5.row r2 (fun x hx h0 => by have := f2 x hx; have := hr2 x hx h0; omega)
          have b5 := t5.under bWCAQ (by omega)
          refine hK.out _ _ b5 (fun hHeld => ?_)
          clear hK K
          refine wpAnyH_ready (rs := [14]) (by kernel_rfl) (by simp) ?_
          refine AllReadyH.cons rfl (fun K hK => ?_) AllReadyH.nil
          simp only [List.getElem_toArray, List.getElem_cons_zero, List.getElem_cons_succ]
          obtain ⟨y0, y1, y2, y3⟩ := ya5.cells
          have yf := ya5.free
          go_simp
          have t6 := ans_turned Wq (WC.heap.size) an'.c an'.he an'.no an'.bd
          have ya6 := ya5.store an'.c an'.he an'.no an'.bd
          have q6 := t6.queue q5 (by omega)
          have b6 := t6.under b5 (by omega)
          have X6 : Bx _ (WCA.heap.size) s' b1' d1' b2' d2' vs' := ⟨q6, t6.row r15 (fun x hx h0 => by have := f1 x hx; have := hr1 x hx h0; omega), t6.row r25 (fun x hx h0 => by have := f2 x hx; have := hr2 x hx h0; omega), n1, n2, hW''⟩
          unfold ansStore at ya6 X6 b6
          refine hK.out _ _ b6 (fun hHeld => ?_)
          clear hK K y0 y1 y2 y3 yf q6 t6
          generalize (((Wq.setCell ⟨WC.heap.size, 0, none⟩ (.int .i64 an'.c)).setCell ⟨WC.heap.size, 1, none⟩ (.int .i64 an'.he)).setCell ⟨WC.heap.size, 2, none⟩ (.int .i64 an'.no)).setCell ⟨WC.heap.size, 3, none⟩ (.int .i64 an'.bd) = W6 at ya6 X6 b6 hHeld ⊢
          refine wpAnyH_take (i := 15) (v := .bool ch) rfl (by kernel_rfl) (by kernel_rfl) (by kernel_rfl) (fun _ _ _ h => h) (Or.inl ⟨by rfl, fun _ _ => by go_simp⟩) hHeld ?_
          simp only [List.getElem_toArray, List.getElem_cons_zero, List.getElem_cons_succ, Act.put, List.setIfInBounds_toArray, List.set_cons_zero, List.set_cons_succ]
          refine wpAnyH_take (i := 16) (v := .int .i64 er) rfl (by kernel_rfl) (by kernel_rfl) (by kernel_rfl) (fun _ _ _ h => h) (Or.inl ⟨by rfl, fun _ _ => by go_simp⟩) hHeld ?_
          simp only [List.getElem_toArray, List.getElem_cons_zero, List.getElem_cons_succ, Act.put, List.setIfInBounds_toArray, List.set_cons_zero, List.set_cons_succ]
          refine wpAnyH_done (by kernel_rfl) ?_ _
          go_wp2_with fail
          go_meet
          exact ⟨s', an', ch, er, _, _, _, _, _, _, _, rfl, rfl, rfl, rfl, unveil HST, X6, ya6, b6, by omega, by omega, fun x hx => by have := f1 x hx; omega, fun x hx => by have := f2 x hx; omega, l1', l2'⟩
    · simp only [List.getElem_toArray, List.getElem_cons_zero, List.getElem_cons_succ]
      refine ite_wanted rfl ?_
      refine q_alloc_wp 5 rfl rfl ?_
      intro WQ zq bn
      have hXq : W0.heap.size < WQ.heap.size := zq.lt
      have bWQ := Below.next bW0 bn
      have hSWQ : W0.heap.size ≤ WQ.heap.size := bn.size
      refine hK.out _ _ bWQ (fun hHeld => ?_)
      clear hK K bn
      refine wpAnyH_ready (rs := [5, 12]) (by kernel_rfl) (by simp) ?_
      refine AllReadyH.cons rfl (fun K hK => ?_) (AllReadyH.cons rfl (fun K hK => ?_) AllReadyH.nil)
      · simp only [List.getElem_toArray, List.getElem_cons_zero, List.getElem_cons_succ]
        go_simp
        refine (unveil HDo _ bWQ).mono ?_
        rintro e WQC ⟨s', an', ch, er, x', rfl, hst, ⟨⟨b1', d1', b2', d2', vs', rfl, r1, r2, l1', l2', n1, n2, hW'', f1, f2⟩⟩, bn⟩
        have HST := veil hst
        clear hst
        have hr1 := fun x hx h0 => r1.blk_lt x hx h0
        have hr2 := fun x hx h0 => r2.blk_lt x hx h0
        have bWQC := Below.next bWQ bn
        have zq := zq.next bn
        have hSWQC : WQ.heap.size ≤ WQC.heap.size := bn.size
        refine hK.out _ _ bWQC (fun hHeld => ?_)
        clear hK K bn
        refine wpAnyH_take (i := 6) (v := .tuple #[qVal s'.ep s'.nx s'.gv (.slice b1' s'.rn d1') (.slice b2' s'.ln d2') vs', anOf an', .bool ch, .int .i64 er]) rfl (by kernel_rfl) (by kernel_rfl) (by kernel_rfl) (fun _ _ _ h => h) (Or.inl ⟨by rfl, fun _ _ => by go_simp⟩) hHeld ?_
        simp only [List.getElem_toArray, List.getElem_cons_zero, List.getElem_cons_succ, Act.put, List.setIfInBounds_toArray, List.set_cons_zero, List.set_cons_succ]
        refine wpAnyH_take (i := 7) (v := qVal s'.ep s'.nx s'.gv (.slice b1' s'.rn d1') (.slice b2' s'.ln d2') vs') rfl (by kernel_rfl) (by kernel_rfl) (by kernel_rfl) (fun _ _ _ h => h) (Or.inl ⟨by rfl, fun _ _ => by go_simp⟩) hHeld ?_
        simp only [List.getElem_toArray, List.getElem_cons_zero, List.getElem_cons_succ, Act.put, List.setIfInBounds_toArray, List.set_cons_zero, List.set_cons_succ]
        refine wpAnyH_take (i := 8) (v := anOf an') rfl (by kernel_rfl) (by kernel_rfl) (by kernel_rfl) (fun _ _ _ h => h) (Or.inl ⟨by rfl, fun _ _ => by go_simp⟩) hHeld ?_
        simp only [List.getElem_toArray, List.getElem_cons_zero, List.getElem_cons_succ, Act.put, List.setIfInBounds_toArray, List.set_cons_zero, List.set_cons_succ]
        refine wpAnyH_take (i := 9) (v := .bool ch) rfl (by kernel_rfl) (by kernel_rfl) (by kernel_rfl) (fun _ _ _ h => h) (Or.inl ⟨by rfl, fun _ _ => by go_simp⟩) hHeld ?_
        simp only [List.getElem_toArray, List.getElem_cons_zero, List.getElem_cons_succ, Act.put, List.setIfInBounds_toArray, List.set_cons_zero, List.set_cons_succ]
        refine wpAnyH_take (i := 10) (v := .int .i64 er) rfl (by kernel_rfl) (by kernel_rfl) (by kernel_rfl) (fun _ _ _ h => h) (Or.inl ⟨by rfl, fun _ _ => by go_simp⟩) hHeld ?_
        simp only [List.getElem_toArray, List.getElem_cons_zero, List.getElem_cons_succ, Act.put, List.setIfInBounds_toArray, List.set_cons_zero, List.set_cons_succ]
        refine wpAnyH_ready (rs := [12]) (by kernel_rfl) (by simp) ?_
        refine AllReadyH.cons rfl (fun K hK => ?_) AllReadyH.nil
        · simp only [List.getElem_toArray, List.getElem_cons_zero, List.getElem_cons_succ]
          go_simp
          obtain ⟨WQCA, hWQCA, ya, bn⟩ : ∃ W, W = WQC.alloc (.cells #[.int .i64 0, .int .i64 0, .int .i64 0, .int .i64 0] 50) ∧ ansBlock W WQC.heap.size 0 0 0 0 ∧ Below WQC.heap.size WQC W := ⟨_, rfl, ansBlock.new _ 0 0 0 0, below1 _ _⟩
          rw [← hWQCA]
          have hXa : WQC.heap.size < WQCA.heap.size := ya.lt
          have bWQCA := Below.next bWQC bn
          clear hWQCA
          have zq := zq.next bn
          have r1 := r1.below bn
          have r2 := r2.below bn
          have hSWQCA : WQC.heap.size ≤ WQCA.heap.size := bn.size
          refine hK.out _ _ bWQCA (fun hHeld => ?_)
          clear hK K bn
          refine wpAnyH_ready (rs := [13]) (by kernel_rfl) (by simp) ?_
          refine AllReadyH.cons rfl (fun K hK => ?_) AllReadyH.nil
          simp only [List.getElem_toArray, List.getElem_cons_zero, List.getElem_cons_succ]
          refine ite_wanted rfl ?_
          refine q_store_wp (ra := b1') (la := b2') (ws' := vs') _ _ rfl rfl rfl zq hW'' ?_
          intro Wq q5 t5
          have ya5 := ya.turned t5 (by omega)
          have r15 := t5.row r1 (fun x hx h0 => by have := f1 x hx; have := hr1 x hx h0; omega)
          have r25 := t5.row r2 (fun x hx h0 => by have := f2 x hx; have := hr2 x hx h0; omega)
          have b5 := t5.under bWQCA (by omega)
          refine hK.out _ _ b5 (fun hHeld => ?_)
          clear hK K
          refine wpAnyH_ready (rs := [14]) (by kernel_rfl) (by simp) ?_
          refine AllReadyH.cons rfl (fun K hK => ?_) AllReadyH.nil
          simp only [List.getElem_toArray, List.getElem_cons_zero, List.getElem_cons_succ]
          obtain ⟨y0, y1, y2, y3⟩ := ya5.cells
          have yf := ya5.free
          go_simp
          have t6 := ans_turned Wq (WQC.heap.size) an'.c an'.he an'.no an'.bd
          have ya6 := ya5.store an'.c an'.he an'.no an'.bd
          have q6 := t6.queue q5 (by omega)
          have b6 := t6.under b5 (by omega)
          have X6 : Bx _ (W0.heap.size) s' b1' d1' b2' d2' vs' := ⟨q6, t6.row r15 (fun x hx h0 => by have := f1 x hx; have := hr1 x hx h0; omega), t6.row r25 (fun x hx h0 => by have := f2 x hx; have := hr2 x hx h0; omega), n1, n2, hW''⟩
          unfold ansStore at ya6 X6 b6
          refine hK.out _ _ b6 (fun hHeld => ?_)
          clear hK K y0 y1 y2 y3 yf q6 t6
          generalize (((Wq.setCell ⟨WQC.heap.size, 0, none⟩ (.int .i64 an'.c)).setCell ⟨WQC.heap.size, 1, none⟩ (.int .i64 an'.he)).setCell ⟨WQC.heap.size, 2, none⟩ (.int .i64 an'.no)).setCell ⟨WQC.heap.size, 3, none⟩ (.int .i64 an'.bd) = W6 at ya6 X6 b6 hHeld ⊢
          refine wpAnyH_take (i := 15) (v := .bool ch) rfl (by kernel_rfl) (by kernel_rfl) (by kernel_rfl) (fun _ _ _ h => h) (Or.inl ⟨by rfl, fun _ _ => by go_simp⟩) hHeld ?_
          simp only [List.getElem_toArray, List.getElem_cons_zero, List.getElem_cons_succ, Act.put, List.setIfInBounds_toArray, List.set_cons_zero, List.set_cons_succ]
          refine wpAnyH_take (i := 16) (v := .int .i64 er) rfl (by kernel_rfl) (by kernel_rfl) (by kernel_rfl) (fun _ _ _ h => h) (Or.inl ⟨by rfl, fun _ _ => by go_simp⟩) hHeld ?_
          simp only [List.getElem_toArray, List.getElem_cons_zero, List.getElem_cons_succ, Act.put, List.setIfInBounds_toArray, List.set_cons_zero, List.set_cons_succ]
          refine wpAnyH_done (by kernel_rfl) ?_ _
          go_wp2_with fail
          go_meet
          exact ⟨s', an', ch, er, _, _, _, _, _, _, _, rfl, rfl, rfl, rfl, unveil HST, X6, ya6, b6, by omega, by omega, fun x hx => by have := f1 x hx; omega, fun x hx => by have := f2 x hx; omega, l1', l2'⟩
      · simp only [List.getElem_toArray, List.getElem_cons_zero, List.getElem_cons_succ]
        go_simp
        obtain ⟨WQA, hWQA, ya, bn⟩ : ∃ W, W = WQ.alloc (.cells #[.int .i64 0, .int .i64 0, .int .i64 0, .int .i64 0] 50) ∧ ansBlock W WQ.heap.size 0 0 0 0 ∧ Below WQ.heap.size WQ W := ⟨_, rfl, ansBlock.new _ 0 0 0 0, below1 _ _⟩
        rw [← hWQA]
        have hXa : WQ.heap.size < WQA.heap.size := ya.lt
        have bWQA := Below.next bWQ bn
        clear hWQA
        have zq := zq.next bn
        have hSWQA : WQ.heap.size ≤ WQA.heap.size := bn.size
        refine hK.out _ _ bWQA (fun hHeld => ?_)
        clear hK K bn
        refine wpAnyH_ready (rs := [5]) (by kernel_rfl) (by simp) ?_
        refine AllReadyH.cons rfl (fun K hK => ?_) AllReadyH.nil
        · simp only [List.getElem_toArray, List.getElem_cons_zero, List.getElem_cons_succ]
          go_simp
          refine (unveil HDo _ bWQA).mono ?_
          rintro e WQAC ⟨s', an', ch, er, x', rfl, hst, ⟨⟨b1', d1', b2', d2', vs', rfl, r1, r2, l1', l2', n1, n2, hW'', f1, f2⟩⟩, bn⟩
          have HST := veil hst
          clear hst
          have hr1 := fun x hx h0 => r1.blk_lt x hx h0
          have hr2 := fun x hx h0 => r2.blk_lt x hx h0
          have bWQAC := Below.next bWQA bn
          have zq := zq.next bn
          have ya := ya.next bn
          have hSWQAC : WQA.heap.size ≤ WQAC.heap.size := bn.size
          refine hK.out _ _ bWQAC (fun hHeld => ?_)
          clear hK K bn
          refine wpAnyH_take (i := 6) (v := .tuple #[qVal s'.ep s'.nx s'.gv (.slice b1' s'.rn d1') (.slice b2' s'.ln d2') vs', anOf an', .bool ch, .int .i64 er]) rfl (by kernel_rfl) (by kernel_rfl) (by kernel_rfl) (fun _ _ _ h => h) (Or.inl ⟨by rfl, fun _ _ => by go_simp⟩) hHeld ?_
          simp only [List.getElem_toArray, List.getElem_cons_zero, List.getElem_cons_succ, Act.put, List.setIfInBounds_toArray, List.set_cons_zero, List.set_cons_succ]
          refine wpAnyH_take (i := 7) (v := qVal s'.ep s'.nx s'.gv (.slice b1' s'.rn d1') (.slice b2' s'.ln d2') vs') rfl (by kernel_rfl) (by kernel_rfl) (by kernel_rfl) (fun _ _ _ h => h) (Or.inl ⟨by rfl, fun _ _ => by go_simp⟩) hHeld ?_
          simp only [List.getElem_toArray, List.getElem_cons_zero, List.getElem_cons_succ, Act.put, List.setIfInBounds_toArray, List.set_cons_zero, List.set_cons_succ]
          refine wpAnyH_take (i := 8) (v := anOf an') rfl (by kernel_rfl) (by kernel_rfl) (by kernel_rfl) (fun _ _ _ h => h) (Or.inl ⟨by rfl, fun _ _ => by go_simp⟩) hHeld ?_
          simp only [List.getElem_toArray, List.getElem_cons_zero, List.getElem_cons_succ, Act.put, List.setIfInBounds_toArray, List.set_cons_zero, List.set_cons_succ]
          refine wpAnyH_take (i := 9) (v := .bool ch) rfl (by kernel_rfl) (by kernel_rfl) (by kernel_rfl) (fun _ _ _ h => h) (Or.inl ⟨by rfl, fun _ _ => by go_simp⟩) hHeld ?_
          simp only [List.getElem_toArray, List.getElem_cons_zero, List.getElem_cons_succ, Act.put, List.setIfInBounds_toArray, List.set_cons_zero, List.set_cons_succ]
          refine wpAnyH_take (i := 10) (v := .int .i64 er) rfl (by kernel_rfl) (by kernel_rfl) (by kernel_rfl) (fun _ _ _ h => h) (Or.inl ⟨by rfl, fun _ _ => by go_simp⟩) hHeld ?_
          simp only [List.getElem_toArray, List.getElem_cons_zero, List.getElem_cons_succ, Act.put, List.setIfInBounds_toArray, List.set_cons_zero, List.set_cons_succ]
          refine wpAnyH_ready (rs := [13]) (by kernel_rfl) (by simp) ?_
          refine AllReadyH.cons rfl (fun K hK => ?_) AllReadyH.nil
          simp only [List.getElem_toArray, List.getElem_cons_zero, List.getElem_cons_succ]
          refine ite_wanted rfl ?_
          refine q_store_wp (ra := b1') (la := b2') (ws' := vs') _ _ rfl rfl rfl zq hW'' ?_
          intro Wq q5 t5
          have ya5 := ya.turned t5 (by omega)
          have r15 := t5.row r1 (fun x hx h0 => by have := f1 x hx; have := hr1 x hx h0; omega)
          have r25 := t5.row r2 (fun x hx h0 => by have := f2 x hx; have := hr2 x hx h0; omega)
          have b5 := t5.under bWQAC (by omega)
          refine hK.out _ _ b5 (fun hHeld => ?_)
          clear hK K
          refine wpAnyH_ready (rs := [14]) (by kernel_rfl) (by simp) ?_
          refine AllReadyH.cons rfl (fun K hK => ?_) AllReadyH.nil
          simp only [List.getElem_toArray, List.getElem_cons_zero, List.getElem_cons_succ]
          obtain ⟨y0, y1, y2, y3⟩ := ya5.cells
          have yf := ya5.free
          go_simp
          have t6 := ans_turned Wq (WQ.heap.size) an'.c an'.he an'.no an'.bd
          have ya6 := ya5.store an'.c an'.he an'.no an'.bd
          have q6 := t6.queue q5 (by omega)
          have b6 := t6.under b5 (by omega)
          have X6 : Bx _ (W0.heap.size) s' b1' d1' b2' d2' vs' := ⟨q6, t6.row r15 (fun x hx h0 => by have := f1 x hx; have := hr1 x hx h0; omega), t6.row r25 (fun x hx h0 => by have := f2 x hx; have := hr2 x hx h0; omega), n1, n2, hW''⟩
          unfold ansStore at ya6 X6 b6
          refine hK.out _ _ b6 (fun hHeld => ?_)
          clear hK K y0 y1 y2 y3 yf q6 t6
          generalize (((Wq.setCell ⟨WQ.heap.size, 0, none⟩ (.int .i64 an'.c)).setCell ⟨WQ.heap.size, 1, none⟩ (.int .i64 an'.he)).setCell ⟨WQ.heap.size, 2, none⟩ (.int .i64 an'.no)).setCell ⟨WQ.heap.size, 3, none⟩ (.int .i64 an'.bd) = W6 at ya6 X6 b6 hHeld ⊢
          refine wpAnyH_take (i := 15) (v := .bool ch) rfl (by kernel_rfl) (by kernel_rfl) (by kernel_rfl) (fun _ _ _ h => h) (Or.inl ⟨by rfl, fun _ _ => by go_simp⟩) hHeld ?_
          simp only [List.getElem_toArray, List.getElem_cons_zero, List.getElem_cons_succ, Act.put, List.setIfInBounds_toArray, List.set_cons_zero, List.set_cons_succ]
          refine wpAnyH_take (i := 16) (v := .int .i64 er) rfl (by kernel_rfl) (by kernel_rfl) (by kernel_rfl) (fun _ _ _ h => h) (Or.inl ⟨by rfl, fun _ _ => by go_simp⟩) hHeld ?_
          simp only [List.getElem_toArray, List.getElem_cons_zero, List.getElem_cons_succ, Act.put, List.setIfInBounds_toArray, List.set_cons_zero, List.set_cons_succ]
          refine wpAnyH_done (by kernel_rfl) ?_ _
          go_wp2_with fail
          go_meet
          exact ⟨s', an', ch, er, _, _, _, _, _, _, _, rfl, rfl, rfl, rfl, unveil HST, X6, ya6, b6, by omega, by omega, fun x hx => by have := f1 x hx; omega, fun x hx => by have := f2 x hx; omega, l1', l2'⟩
    · simp only [List.getElem_toArray, List.getElem_cons_zero, List.getElem_cons_succ]
      go_simp
      obtain ⟨WA, hWA, ya, bn⟩ : ∃ W, W = W0.alloc (.cells #[.int .i64 0, .int .i64 0, .int .i64 0, .int .i64 0] 50) ∧ ansBlock W W0.heap.size 0 0 0 0 ∧ Below W0.heap.size W0 W := ⟨_, rfl, ansBlock.new _ 0 0 0 0, below1 _ _⟩
      rw [← hWA]
      have hXa : W0.heap.size < WA.heap.size := ya.lt
      have bWA := Below.next bW0 bn
      clear hWA
      have hSWA : W0.heap.size ≤ WA.heap.size := bn.size
      refine hK.out _ _ bWA (fun hHeld => ?_)
      clear hK K bn
      refine wpAnyH_ready (rs := [5, 11]) (by kernel_rfl) (by simp) ?_
      refine AllReadyH.cons rfl (fun K hK => ?_) (AllReadyH.cons rfl (fun K hK => ?_) AllReadyH.nil)
      · simp only [List.getElem_toArray, List.getElem_cons_zero, List.getElem_cons_succ]
        go_simp
        refine (unveil HDo _ bWA).mono ?_
        rintro e WAC ⟨s', an', ch, er, x', rfl, hst, ⟨⟨b1', d1', b2', d2', vs', rfl, r1, r2, l1', l2', n1, n2, hW'', f1, f2⟩⟩, bn⟩
        have HST := veil hst
        clear hst
        have hr1 := fun x hx h0 => r1.blk_lt x hx h0
        have hr2 := fun x hx h0 => r2.blk_lt x hx h0
        have bWAC := Below.next bWA bn
        have ya := ya.next bn
        have hSWAC : WA.heap.size ≤ WAC.heap.size := bn.size
        refine hK.out _ _ bWAC (fun hHeld => ?_)
        clear hK K bn
        refine wpAnyH_take (i := 6) (v := .tuple #[qVal s'.ep s'.nx s'.gv (.slice b1' s'.rn d1') (.slice b2' s'.ln d2') vs', anOf an', .bool ch, .int .i64 er]) rfl (by kernel_rfl) (by kernel_rfl) (by kernel_rfl) (fun _ _ _ h => h) (Or.inl ⟨by rfl, fun _ _ => by go_simp⟩) hHeld ?_
        simp only [List.getElem_toArray, List.getElem_cons_zero, List.getElem_cons_succ, Act.put, List.setIfInBounds_toArray, List.set_cons_zero, List.set_cons_succ]
        refine wpAnyH_take (i := 7) (v := qVal s'.ep s'.nx s'.gv (.slice b1' s'.rn d1') (.slice b2' s'.ln d2') vs') rfl (by kernel_rfl) (by kernel_rfl) (by kernel_rfl) (fun _ _ _ h => h) (Or.inl ⟨by rfl, fun _ _ => by go_simp⟩) hHeld ?_
        simp only [List.getElem_toArray, List.getElem_cons_zero, List.getElem_cons_succ, Act.put, List.setIfInBounds_toArray, List.set_cons_zero, List.set_cons_succ]
        refine wpAnyH_take (i := 8) (v := anOf an') rfl (by kernel_rfl) (by kernel_rfl) (by kernel_rfl) (fun _ _ _ h => h) (Or.inl ⟨by rfl, fun _ _ => by go_simp⟩) hHeld ?_
        simp only [List.getElem_toArray, List.getElem_cons_zero, List.getElem_cons_succ, Act.put, List.setIfInBounds_toArray, List.set_cons_zero, List.set_cons_succ]
        refine wpAnyH_take (i := 9) (v := .bool ch) rfl (by kernel_rfl) (by kernel_rfl) (by kernel_rfl) (fun _ _ _ h => h) (Or.inl ⟨by rfl, fun _ _ => by go_simp⟩) hHeld ?_
        simp only [List.getElem_toArray, List.getElem_cons_zero, List.getElem_cons_succ, Act.put, List.setIfInBounds_toArray, List.set_cons_zero, List.set_cons_succ]
        refine wpAnyH_take (i := 10) (v := .int .i64 er) rfl (by kernel_rfl) (by kernel_rfl) (by kernel_rfl) (fun _ _ _ h => h) (Or.inl ⟨by rfl, fun _ _ => by go_simp⟩) hHeld ?_
        simp only [List.getElem_toArray, List.getElem_cons_zero, List.getElem_cons_succ, Act.put, List.setIfInBounds_toArray, List.set_cons_zero, List.set_cons_succ]
        refine wpAnyH_ready (rs := [11]) (by kernel_rfl) (by simp) ?_
        refine AllReadyH.cons rfl (fun K hK => ?_) AllReadyH.nil
        · simp only [List.getElem_toArray, List.getElem_cons_zero, List.getElem_cons_succ]
          refine ite_wanted rfl ?_
          refine q_alloc_wp 5 rfl rfl ?_
          intro WACQ zq bn
          have hXq : WAC.heap.size < WACQ.heap.size := zq.lt
          have bWACQ := Below.next bWAC bn
          have ya := ya.next bn
          have r1 := r1.below bn
          have r2 := r2.below bn
          have hSWACQ : WAC.heap.size ≤ WACQ.heap.size := bn.size
          refine hK.out _ _ bWACQ (fun hHeld => ?_)
          clear hK K bn
          refine wpAnyH_ready (rs := [13]) (by kernel_rfl) (by simp) ?_
          refine AllReadyH.cons rfl (fun K hK => ?_) AllReadyH.nil
          simp only [List.getElem_toArray, List.getElem_cons_zero, List.getElem_cons_succ]
          refine ite_wanted rfl ?_
          refine q_store_wp (ra := b1') (la := b2') (ws' := vs') _ _ rfl rfl rfl zq hW'' ?_
          intro Wq q5 t5
          have ya5 := ya.turned t5 (by omega)
          have r15 := t5.row r1 (fun x hx h0 => by have := f1 x hx; have := hr1 x hx h0; omega)
          have r25 := t5.row r2 (fun x hx h0 => by have := f2 x hx; have := hr2 x hx h0; omega)
          have b5 := t5.under bWACQ (by omega)
          refine hK.out _ _ b5 (fun hHeld => ?_)
          clear hK K
          refine wpAnyH_ready (rs := [14]) (by kernel_rfl) (by simp) ?_
          refine AllReadyH.cons rfl (fun K hK => ?_) AllReadyH.nil
          simp only [List.getElem_toArray, List.getElem_cons_zero, List.getElem_cons_succ]
          obtain ⟨y0, y1, y2, y3⟩ := ya5.cells
          have yf := ya5.free
          go_simp
          have t6 := ans_turned Wq (W0.heap.size) an'.c an'.he an'.no an'.bd
          have ya6 := ya5.store an'.c an'.he an'.no an'.bd
          have q6 := t6.queue q5 (by omega)
          have b6 := t6.under b5 (by omega)
          have X6 : Bx _ (WAC.heap.size) s' b1' d1' b2' d2' vs' := ⟨q6, t6.row r15 (fun x hx h0 => by have := f1 x hx; have := hr1 x hx h0; omega), t6.row r25 (fun x hx h0 => by have := f2 x hx; have := hr2 x hx h0; omega), n1, n2, hW''⟩
          unfold ansStore at ya6 X6 b6
          refine hK.out _ _ b6 (fun hHeld => ?_)
          clear hK K y0 y1 y2 y3 yf q6 t6
          generalize (((Wq.setCell ⟨W0.heap.size, 0, none⟩ (.int .i64 an'.c)).setCell ⟨W0.heap.size, 1, none⟩ (.int .i64 an'.he)).setCell ⟨W0.heap.size, 2, none⟩ (.int .i64 an'.no)).setCell ⟨W0.heap.size, 3, none⟩ (.int .i64 an'.bd) = W6 at ya6 X6 b6 hHeld ⊢
          refine wpAnyH_take (i := 15) (v := .bool ch) rfl (by kernel_rfl) (by kernel_rfl) (by kernel_rfl) (fun _ _ _ h => h) (Or.inl ⟨by rfl, fun _ _ => by go_simp⟩) hHeld ?_
          simp only [List.getElem_toArray, List.getElem_cons_zero, List.getElem_cons_succ, Act.put, List.setIfInBounds_toArray, List.set_cons_zero, List.set_cons_succ]
          refine wpAnyH_take (i := 16) (v := .int .i64 er) rfl (by kernel_rfl) (by kernel_rfl) (by kernel_rfl) (fun _ _ _ h => h) (Or.inl ⟨by rfl, fun _ _ => by go_simp⟩) hHeld ?_
          simp only [List.getElem_toArray, List.getElem_cons_zero, List.getElem_cons_succ, Act.put, List.setIfInBounds_toArray, List.set_cons_zero, List.set_cons_succ]
          refine wpAnyH_done (by kernel_rfl) ?_ _
          go_wp2_with fail
          go_meet
          exact ⟨s', an', ch, er, _, _, _, _, _, _, _, rfl, rfl, rfl, rfl, unveil HST, X6, ya6, b6, by omega, by omega, fun x hx => by have := f1 x hx; omega, fun x hx => by have := f2 x hx; omega, l1', l2'⟩
      · simp only [List.getElem_toArray, List.getElem_cons_zero, List.getElem_cons_succ]
        refine ite_wanted rfl ?_
        refine q_alloc_wp 5 rfl rfl ?_
        intro WAQ zq bn
        have hXq : WA.heap.size < WAQ.heap.size := zq.lt
        have bWAQ := Below.next bWA bn
        have ya := ya.next bn
        have hSWAQ : WA.heap.size ≤ WAQ.heap.size := bn.size
        refine hK.out _ _ bWAQ (fun hHeld => ?_)
        clear hK K bn
        refine wpAnyH_ready (rs := [5]) (by kernel_rfl) (by simp) ?_
        refine AllReadyH.cons rfl (fun K hK => ?_) AllReadyH.nil
        · simp only [List.getElem_toArray, List.getElem_cons_zero, List.getElem_cons_succ]
          go_simp
          refine (unveil HDo _ bWAQ).mono ?_
          rintro e WAQC ⟨s', an', ch, er, x', rfl, hst, ⟨⟨b1', d1', b2', d2', vs', rfl, r1, r2, l1', l2', n1, n2, hW'', f1, f2⟩⟩, bn⟩
          have HST := veil hst
          clear hst
          have hr1 := fun x hx h0 => r1.blk_lt x hx h0
          have hr2 := fun x hx h0 => r2.blk_lt x hx h0
          have bWAQC := Below.next bWAQ bn
          have zq := zq.next bn
          have ya := ya.next bn
          have hSWAQC : WAQ.heap.size ≤ WAQC.heap.size := bn.size
          refine hK.out _ _ bWAQC (fun hHeld => ?_)
          clear hK K bn
          refine wpAnyH_take (i := 6) (v := .tuple #[qVal s'.ep s'.nx s'.gv (.slice b1' s'.rn d1') (.slice b2' s'.ln d2') vs', anOf an', .bool ch, .int .i64 er]) rfl (by kernel_rfl) (by kernel_rfl) (by kernel_rfl) (fun _ _ _ h => h) (Or.inl ⟨by rfl, fun _ _ => by go_simp⟩) hHeld ?_
          simp only [List.getElem_toArray, List.getElem_cons_zero, List.getElem_cons_succ, Act.put, List.setIfInBounds_toArray, List.set_cons_zero, List.set_cons_succ]
          refine wpAnyH_take (i := 7) (v := qVal s'.ep s'.nx s'.gv (.slice b1' s'.rn d1') (.slice b2' s'.ln d2') vs') rfl (by kernel_rfl) (by kernel_rfl) (by kernel_rfl) (fun _ _ _ h => h) (Or.inl ⟨by rfl, fun _ _ => by go_simp⟩) hHeld ?_
          simp only [List.getElem_toArray, List.getElem_cons_zero, List.getElem_cons_succ, Act.put, List.setIfInBounds_toArray, List.set_cons_zero, List.set_cons_succ]
          refine wpAnyH_take (i := 8) (v := anOf an') rfl (by kernel_rfl) (by kernel_rfl) (by kernel_rfl) (fun _ _ _ h => h) (Or.inl ⟨by rfl, fun _ _ => by go_simp⟩) hHeld ?_
          simp only [List.getElem_toArray, List.getElem_cons_zero, List.getElem_cons_succ, Act.put, List.setIfInBounds_toArray, List.set_cons_zero, List.set_cons_succ]
          refine wpAnyH_take (i := 9) (v := .bool ch) rfl (by kernel_rfl) (by kernel_rfl) (by kernel_rfl) (fun _ _ _ h => h) (Or.inl ⟨by rfl, fun _ _ => by go_simp⟩) hHeld ?_
          simp only [List.getElem_toArray, List.getElem_cons_zero, List.getElem_cons_succ, Act.put, List.setIfInBounds_toArray, List.set_cons_zero, List.set_cons_succ]
          refine wpAnyH_take (i := 10) (v := .int .i64 er) rfl (by kernel_rfl) (by kernel_rfl) (by kernel_rfl) (fun _ _ _ h => h) (Or.inl ⟨by rfl, fun _ _ => by go_simp⟩) hHeld ?_
          simp only [List.getElem_toArray, List.getElem_cons_zero, List.getElem_cons_succ, Act.put, List.setIfInBounds_toArray, List.set_cons_zero, List.set_cons_succ]
          refine wpAnyH_ready (rs := [13]) (by kernel_rfl) (by simp) ?_
          refine AllReadyH.cons rfl (fun K hK => ?_) AllReadyH.nil
          simp only [List.getElem_toArray, List.getElem_cons_zero, List.getElem_cons_succ]
          refine ite_wanted rfl ?_
          refine q_store_wp (ra := b1') (la := b2') (ws' := vs') _ _ rfl rfl rfl zq hW'' ?_
          intro Wq q5 t5
          have ya5 := ya.turned t5 (by omega)
          have r15 := t5.row r1 (fun x hx h0 => by have := f1 x hx; have := hr1 x hx h0; omega)
          have r25 := t5.row r2 (fun x hx h0 => by have := f2 x hx; have := hr2 x hx h0; omega)
          have b5 := t5.under bWAQC (by omega)
          refine hK.out _ _ b5 (fun hHeld => ?_)
          clear hK K
          refine wpAnyH_ready (rs := [14]) (by kernel_rfl) (by simp) ?_
          refine AllReadyH.cons rfl (fun K hK => ?_) AllReadyH.nil
          simp only [List.getElem_toArray, List.getElem_cons_zero, List.getElem_cons_succ]
          obtain ⟨y0, y1, y2, y3⟩ := ya5.cells
          have yf := ya5.free
          go_simp
          have t6 := ans_turned Wq (W0.heap.size) an'.c an'.he an'.no an'.bd
          have ya6 := ya5.store an'.c an'.he an'.no an'.bd
          have q6 := t6.queue q5 (by omega)
          have b6 := t6.under b5 (by omega)
          have X6 : Bx _ (WA.heap.size) s' b1' d1' b2' d2' vs' := ⟨q6, t6.row r15 (fun x hx h0 => by have := f1 x hx; have := hr1 x hx h0; omega), t6.row r25 (fun x hx h0 => by have := f2 x hx; have := hr2 x hx h0; omega), n1, n2, hW''⟩
          unfold ansStore at ya6 X6 b6
          refine hK.out _ _ b6 (fun hHeld => ?_)
          clear hK K y0 y1 y2 y3 yf q6 t6
          generalize (((Wq.setCell ⟨W0.heap.size, 0, none⟩ (.int .i64 an'.c)).setCell ⟨W0.heap.size, 1, none⟩ (.int .i64 an'.he)).setCell ⟨W0.heap.size, 2, none⟩ (.int .i64 an'.no)).setCell ⟨W0.heap.size, 3, none⟩ (.int .i64 an'.bd) = W6 at ya6 X6 b6 hHeld ⊢
          refine wpAnyH_take (i := 15) (v := .bool ch) rfl (by kernel_rfl) (by kernel_rfl) (by kernel_rfl) (fun _ _ _ h => h) (Or.inl ⟨by rfl, fun _ _ => by go_simp⟩) hHeld ?_
          simp only [List.getElem_toArray, List.getElem_cons_zero, List.getElem_cons_succ, Act.put, List.setIfInBounds_toArray, List.set_cons_zero, List.set_cons_succ]
          refine wpAnyH_take (i := 16) (v := .int .i64 er) rfl (by kernel_rfl) (by kernel_rfl) (by kernel_rfl) (fun _ _ _ h => h) (Or.inl ⟨by rfl, fun _ _ => by go_simp⟩) hHeld ?_
          simp only [List.getElem_toArray, List.getElem_cons_zero, List.getElem_cons_succ, Act.put, List.setIfInBounds_toArray, List.set_cons_zero, List.set_cons_succ]
          refine wpAnyH_done (by kernel_rfl) ?_ _
          go_wp2_with fail
          go_meet
          exact ⟨s', an', ch, er, _, _, _, _, _, _, _, rfl, rfl, rfl, rfl, unveil HST, X6, ya6, b6, by omega, by omega, fun x hx => by have := f1 x hx; omega, fun x hx => by have := f2 x hx; omega, l1', l2'⟩
  case rest =>
    obtain ⟨s', an', ch, er, X, A, b1', d1', b2', d2', vs', rfl, rfl, rfl, rfl, hst, X2, A2, b2, hX, hA, f1, f2, hl1, hl2⟩ := hcut
    have HL1 := veil hl1
    have HL2 := veil hl2
    clear hl1 hl2
    obtain ⟨W2, hW2⟩ : ∃ W2, W2 = wc := ⟨_, rfl⟩
    subst hW2
    have O2 : Off R w0.heap.size w0 W2 := Off.below ((unveil HB1).trans (b2.mono (unveil HB1).size))
    have HST := veil hst
    have T2 := (unveil HT1).next b2
    have her : er = 0 ∨ (¬ er = 0 ∧ ch = false) := hst.err
    clear v0 v1 v2 v3 v4 v5 tb hst HDo
    rcases her with her | ⟨her, hch⟩
    case inr =>
      subst hch
      have HT2 := veil T2
      have HO2 := veil O2
      clear X2 A2 T2 O2
      go_wp2
      go_ret
      exact ⟨s', an', false, er, rfl, unveil HST, fun h => (by cases h), fun _ => unveil HT2, unveil HO2⟩
    case inl =>
    subst her
    cases ch with
    | false =>
      have HT2 := veil T2
      have HO2 := veil O2
      clear X2 A2 T2 O2
      go_wp2
      go_ret
      exact ⟨s', an', false, 0, rfl, unveil HST, fun h => (by cases h), fun _ => unveil HT2, unveil HO2⟩
    | true =>
      go_upto_region 4 with fail
      obtain ⟨e1, k1, e2, k2, us, tb2, _⟩ := T2.ex
      have hRX : R ≠ X := by omega
      have hRA : R ≠ A := by omega
      have hXl := X2.q.lt
      have qx := X2.q
      have hw := X2.wins
      refine wp_region_held_drew (S := fun w' => qBlock w' X s'.ep s'.nx s'.gv (.slice b1' s'.rn d1') (.slice b2' s'.ln d2') vs' ∧ ansBlock w' A an'.c an'.he an'.no an'.bd) (by kernel_rfl) ⟨qx, A2⟩ (fun hHeld => ?_)
      have tb3 : tlBlock W2.drew R T s.ep s.nx s.gv (.slice e1 s.rn k1) (.slice e2 s.ln k2) us an.c an.he an.no an.bd tail := tb2
      have r13 := X2.r1.below (below_drew W2)
      have r23 := X2.r2.below (below_drew W2)
      have O3 : Off R w0.heap.size w0 W2.drew := ⟨O2.os, O2.tape, O2.output, O2.size, O2.block⟩
      obtain ⟨W3, hW3⟩ : ∃ W3, W3 = W2.drew := ⟨_, rfl⟩
      rw [← hW3] at tb3 r13 r23 O3 hHeld ⊢
      clear hW3 T2 O2 tb2
      refine wpAnyH_take (i := 0) (v := .pointer (some ⟨R, 0, none⟩)) rfl (by kernel_rfl) (by kernel_rfl) (by kernel_rfl) (fun _ _ _ h => h) (Or.inl ⟨by rfl, fun _ _ => by go_simp⟩) hHeld ?_
      simp only [List.getElem_toArray, List.getElem_cons_zero, Act.put, List.setIfInBounds_toArray, List.set_cons_zero, List.set_cons_succ]
      refine wpAnyH_take (i := 1) (v := .pointer (some ⟨R, 0, none⟩)) rfl (by kernel_rfl) (by kernel_rfl) (by kernel_rfl) (fun _ _ _ h => h) (Or.inl ⟨by rfl, fun _ _ => by go_simp⟩) hHeld ?_
      simp only [List.getElem_toArray, List.getElem_cons_zero, List.getElem_cons_succ, Act.put, List.setIfInBounds_toArray, List.set_cons_zero, List.set_cons_succ]
      refine wpAnyH_take (i := 2) (v := _) rfl (by kernel_rfl) (by kernel_rfl) (by kernel_rfl) (fun _ _ _ h => h) (yields_q _ rfl rfl rfl (fun _ h => h.1)) hHeld ?_
      simp only [List.getElem_toArray, List.getElem_cons_zero, List.getElem_cons_succ, Act.put, List.setIfInBounds_toArray, List.set_cons_zero, List.set_cons_succ]
      refine wpAnyH_take (i := 3) (v := _) rfl (by kernel_rfl) (by kernel_rfl) (by kernel_rfl) (fun _ _ _ h => h) (yields_a _ rfl rfl rfl (fun _ h => h.2)) hHeld ?_
      simp only [List.getElem_toArray, List.getElem_cons_zero, List.getElem_cons_succ, Act.put, List.setIfInBounds_toArray, List.set_cons_zero, List.set_cons_succ]
      refine wpAnyH_take (i := 4) (v := .pointer (some ⟨R, 0, none⟩)) rfl (by kernel_rfl) (by kernel_rfl) (by kernel_rfl) (fun _ _ _ h => h) (Or.inl ⟨by rfl, fun _ _ => by go_simp⟩) hHeld ?_
      simp only [List.getElem_toArray, List.getElem_cons_zero, List.getElem_cons_succ, Act.put, List.setIfInBounds_toArray, List.set_cons_zero, List.set_cons_succ]
      refine wpAnyH_take (i := 5) (v := .pointer (some ⟨R, 0, none⟩)) rfl (by kernel_rfl) (by kernel_rfl) (by kernel_rfl) (fun _ _ _ h => h) (Or.inl ⟨by rfl, fun _ _ => by go_simp⟩) hHeld ?_
      simp only [List.getElem_toArray, List.getElem_cons_zero, List.getElem_cons_succ, Act.put, List.setIfInBounds_toArray, List.set_cons_zero, List.set_cons_succ]
      refine wpAnyH_ready (rs := [6]) (by kernel_rfl) (by simp) ?_
      refine AllReadyH.cons rfl (fun K hK => ?_) AllReadyH.nil
      simp only [List.getElem_toArray, List.getElem_cons_zero, List.getElem_cons_succ]
      refine ite_wanted rfl ?_
      refine t_store_wp (ra := b1') (la := b2') (ws' := vs') _ _ rfl rfl rfl tb3 hw ?_
      intro W4 tb4 t4
      have q4 := t4.queue hHeld.1 (fun e => hRX e.symm)
      have A4 := hHeld.2.turned t4 (fun e => hRA e.symm)
      have r14 := t4.row r13 (fun x hx h0 => by have := f1 x hx; omega)
      have r24 := t4.row r23 (fun x hx h0 => by have := f2 x hx; omega)
      have O4 := O3.self t4
      refine hK.out _ _ ⟨q4, A4⟩ (fun hHeld => ?_)
      clear hK K
      refine wpAnyH_take (i := 7) (v := .pointer (some ⟨R, 0, none⟩)) rfl (by kernel_rfl) (by kernel_rfl) (by kernel_rfl) (fun _ _ _ h => h) (Or.inl ⟨by rfl, fun _ _ => by go_simp⟩) hHeld ?_
      simp only [List.getElem_toArray, List.getElem_cons_zero, List.getElem_cons_succ, Act.put, List.setIfInBounds_toArray, List.set_cons_zero, List.set_cons_succ]
      refine wpAnyH_take (i := 8) (v := .pointer (some ⟨R, 41, none⟩)) rfl (by kernel_rfl) (by kernel_rfl) (by kernel_rfl) (fun _ _ _ h => h) (Or.inl ⟨by rfl, fun _ _ => by go_simp⟩) hHeld ?_
      simp only [List.getElem_toArray, List.getElem_cons_zero, List.getElem_cons_succ, Act.put, List.setIfInBounds_toArray, List.set_cons_zero, List.set_cons_succ]
      refine wpAnyH_ready (rs := [9]) (by kernel_rfl) (by simp) ?_
      refine AllReadyH.cons rfl (fun K hK => ?_) AllReadyH.nil
      simp only [List.getElem_toArray, List.getElem_cons_zero, List.getElem_cons_succ]
      obtain ⟨y0, y1, y2, y3⟩ := tb4.answer
      have yf := tb4.free
      go_simp
      have tb5 := tb4.answered an'.c an'.he an'.no an'.bd
      have t5 := (((Turned.set R 41 W4 (.int .i64 an'.c)).trans (Turned.set R 42 _ (.int .i64 an'.he))).trans (Turned.set R 43 _ (.int .i64 an'.no))).trans (Turned.set R 44 _ (.int .i64 an'.bd))
      have q5 := t5.queue q4 (fun e => hRX e.symm)
      have A5 := A4.turned t5 (fun e => hRA e.symm)
      have r15 := t5.row r14 (fun x hx h0 => by have := f1 x hx; omega)
      have r25 := t5.row r24 (fun x hx h0 => by have := f2 x hx; omega)
      have O5 := O4.self t5
      refine hK.out _ _ ⟨q5, A5⟩ (fun hHeld => ?_)
      clear hK K t5 y0 y1 y2 y3 yf
      generalize (((W4.setCell ⟨R, 41, none⟩ (.int .i64 an'.c)).setCell ⟨R, 42, none⟩ (.int .i64 an'.he)).setCell ⟨R, 43, none⟩ (.int .i64 an'.no)).setCell ⟨R, 44, none⟩ (.int .i64 an'.bd) = W5 at tb5 q5 A5 r15 r25 O5 hHeld ⊢
      refine wpAnyH_done (by kernel_rfl) ?_ _
      have HT5 : Hid (Tf W5 w0.heap.size R T tail s' an') := veil ⟨b1', d1', b2', d2', vs', tb5, r15, r25, X2.n1, X2.n2, hw, fun x hx => by have := f1 x hx; omega, fun x hx => by have := f2 x hx; omega, unveil HL1, unveil HL2⟩
      have HO5 := veil O5
      clear tb5 q5 A5 r15 r25 O5 tb4 q4 A4 r14 r24 O4 tb3 r13 r23 O3 qx hHeld X2 A2
      go_wp2
      go_ret
      exact ⟨s', an', true, 0, rfl, unveil HST, fun _ => unveil HT5, fun h => (by cases h), unveil HO5⟩
end Go.Proofs.Ytlfecmkpafgcmaa

namespace Go.Proofs.Ytlfecmkpafgcmaa
open Go.RowKit

/-- a noting in memory. -/
structure Nt (w W : World) (R : Nat) (s : St) (an : An) (ans : List An) (va : Value) : Prop where
  tg : Tg W R 74 [va] s an
  own : W.ownsRow (R + 1) 50 4 va ans.length ((anFlat ans).map (Value.int .i64))
  bel : Below w.heap.size w W
  up : w.heap.size ≤ R
theorem Nt.next {w W W' : World} {R : Nat} {s : St} {an : An} {ans : List An} {va : Value} (h : Nt w W R s an ans va) (b : Below W.heap.size W W') : Nt w W' R s an ans va := ⟨h.tg.next b, own_still h.own (fun g _ hg => b.block g hg), Below.next h.bel b, h.up⟩
/-- the answer of a telling. -/
def S3 (R : Nat) (an : An) (w : World) : Prop := w.cell? ⟨R, 41, none⟩ = some (.int .i64 an.c) ∧ w.cell? ⟨R, 42, none⟩ = some (.int .i64 an.he) ∧ w.cell? ⟨R, 43, none⟩ = some (.int .i64 an.no) ∧ w.cell? ⟨R, 44, none⟩ = some (.int .i64 an.bd)
theorem fun_s3 {w : World} {R : Nat} {T : TypeId} {ep nx gv : Int} {r l : Value} {ws : Nat → Value} {an : An} {tail : List Value} (h : tlBlock w R T ep nx gv r l ws an.c an.he an.no an.bd tail) : S3 R an w := h.answer
def Se (W : World) (v : Ev) (w : World) : Prop := w.heap[W.heap.size]? = some (.cells #[.int .i64 v.k, .int .i64 v.p, .int .i64 v.i, .int .i64 v.b, .int .i64 v.he, .int .i64 v.hn] 61 (0, 0))
theorem row_kept {k : IntKind} {w w' : World} {a : Option Addr} {len : Nat} {l : List Int} {row : Option Nat} (hr : RowK k w a len l) (hs : w.heap.size ≤ w'.heap.size) (kp : ∀ Y, Y < w.heap.size → (∀ g, row = some g → g ≠ Y) → w'.heap[Y]? = w.heap[Y]?) (ha : ∀ x, a = some x → ∀ g, row = some g → g ≠ x.block) : RowK k w' a len l :=
  ⟨hr.len_eq, hr.wf, fun i hi => by
    obtain ⟨g, off, he, hlt, hc⟩ := hr.cell i hi
    exact ⟨g, off, he, Nat.lt_of_lt_of_le hlt hs, (World.cell?_of_block (kp g hlt (ha _ he))).trans hc⟩⟩
/-- what note answers. -/
def NoteR (w : World) (R : Nat) (s : St) (ans : List An) (v : Ev) (e : Ending) (w' : World) : Prop :=
  (e = .returned (.bool true) ∧ ∃ s' an' va', v.Ok ∧ Step s v s' an' true ∧ Nt w w' R s' an' (ans ++ [an']) va') ∨ (e = .returned (.bool false) ∧ (¬ v.Ok ∨ ∃ s' an', Step s v s' an' false) ∧ Below w.heap.size w w')
set_option maxRecDepth 20000 in
set_option maxHeartbeats 8000000 in
theorem note_any (w W : World) (R : Nat) (s : St) (an : An) (ans : List An) (va : Value) (v : Ev) (ok : s.Ok) (hn : ans.length ≤ 2000) (N : Nt w W R s an ans va) :
    Calls Try.prog 23 #[.pointer (some ⟨R, 0, none⟩), evIn v] W fun e w' => NoteR w R s ans v e w' := by
  obtain ⟨i4, hi4, hz40, hz41, hz42⟩ := info_of Try.infoAns
  obtain ⟨aa, ca, rfl⟩ := own_form N.own
  go_enter Try.func23, Try.ntmps23
  go_upto_region 1 with fail
  obtain ⟨W1, hW1, b1, e1⟩ : ∃ W1, W1 = W.alloc (.cells #[.int .i64 v.k, .int .i64 v.p, .int .i64 v.i, .int .i64 v.b, .int .i64 v.he, .int .i64 v.hn] 61) ∧ Below W.heap.size W W1 ∧ W1.heap[W.heap.size]? = some (.cells #[.int .i64 v.k, .int .i64 v.p, .int .i64 v.i, .int .i64 v.b, .int .i64 v.he, .int .i64 v.hn] 61 (0, 0)) := ⟨_, rfl, below1 _ _, heap_alloc_new _ _⟩
  rw [← hW1]
  have N1 := N.next b1
  have tg1 := N1.tg
  have own1 := N1.own
  have B1 := N1.bel
  have hup := N.up
  have hRl : R < W.heap.size := by obtain ⟨_, _, _, _, _, tb0, _⟩ := N.tg.ex; exact tb0.lt
  have hown : ∀ g, (Value.slice aa ans.length ca).ownBlock = some g → R + 1 ≤ g ∧ g < W.heap.size := fun g hg => N.own.lt g hg
  have hWW : W.heap.size < W1.heap.size := block_lt e1
  clear hW1 b1 N N1
  have S0 : Se W v W1.drew := e1
  refine wp_region_held_drew (S := Se W v) (by kernel_rfl) S0 (fun hHeld => ?_)
  refine wpAnyH_take (i := 0) (v := .pointer (some ⟨R, 0, none⟩)) rfl (by kernel_rfl) (by kernel_rfl) (by kernel_rfl) (fun _ _ _ h => h) (Or.inl ⟨by rfl, fun _ _ => by go_simp⟩) hHeld ?_
  simp only [List.getElem_toArray, List.getElem_cons_zero, Act.put, List.setIfInBounds_toArray, List.set_cons_zero, List.set_cons_succ]
  refine wpAnyH_take (i := 1) (v := .pointer (some ⟨R, 0, none⟩)) rfl (by kernel_rfl) (by kernel_rfl) (by kernel_rfl) (fun _ _ _ h => h) (Or.inl ⟨by rfl, fun _ _ => by go_simp⟩) hHeld ?_
  simp only [List.getElem_toArray, List.getElem_cons_zero, List.getElem_cons_succ, Act.put, List.setIfInBounds_toArray, List.set_cons_zero, List.set_cons_succ]
  refine wpAnyH_take (i := 2) (v := .pointer (some ⟨R, 0, none⟩)) rfl (by kernel_rfl) (by kernel_rfl) (by kernel_rfl) (fun _ _ _ h => h) (Or.inl ⟨by rfl, fun _ _ => by go_simp⟩) hHeld ?_
  simp only [List.getElem_toArray, List.getElem_cons_zero, List.getElem_cons_succ, Act.put, List.setIfInBounds_toArray, List.set_cons_zero, List.set_cons_succ]
  refine wpAnyH_take (i := 3) (v := evIn v) rfl (by kernel_rfl) (by kernel_rfl) (by kernel_rfl) (fun _ _ _ h => h) (Or.inl ⟨by rfl, fun w3 h3 => by obtain ⟨v0, v1, v2, v3, v4, v5⟩ := ev_box h3; go_simp⟩) hHeld ?_
  simp only [List.getElem_toArray, List.getElem_cons_zero, List.getElem_cons_succ, Act.put, List.setIfInBounds_toArray, List.set_cons_zero, List.set_cons_succ]
  refine wpAnyH_ready (rs := [4]) (by kernel_rfl) (by simp) ?_
  refine AllReadyH.cons rfl (fun K hK => ?_) AllReadyH.nil
  simp only [List.getElem_toArray, List.getElem_cons_zero, List.getElem_cons_succ]
  go_simp
  refine (tell_far s an v W1.drew R 74 [.slice aa ans.length ca] ok (tg1.next (below_drew W1))).mono ?_
  rintro e W3 ⟨s', an', ch, er, rfl, st, h1, h2, of⟩
  have S3' : Se W v W3 := (of.block W.heap.size (by have := block_lt e1; simpa using this) (by omega)).trans e1
  refine hK.out _ _ S3' (fun hHeld => ?_)
  clear hK K
  have own3 := of.own (own_still own1 (fun g _ hg => (below_drew W1).block g hg)) rfl (by omega)
  have B3 : Below w.heap.size w W3 := of.toBelow (Below.next B1 (below_drew W1)) (by omega) rfl
  cases ch
  case false =>
    refine wpAnyH_take (i := 5) (v := .bool true) rfl (by kernel_rfl) (by kernel_rfl) (by kernel_rfl) (fun _ _ _ h => h) (Or.inl ⟨by rfl, fun _ _ => by go_simp⟩) hHeld ?_
    simp only [List.getElem_toArray, List.getElem_cons_zero, List.getElem_cons_succ, Act.put, List.setIfInBounds_toArray, List.set_cons_zero, List.set_cons_succ]
    refine wpAnyH_done (by kernel_rfl) ?_ _
    have hbad : ¬ v.Ok ∨ ∃ s' an', Step s v s' an' false := (by
      cases st with
      | step hv st => exact .inr ⟨_, _, st⟩
      | form _ hv h0 => exact .inl (fun hok => h0 (hv.symm.trans hok)))
    have HB := veil hbad
    have HB3 := veil B3
    clear hbad st h1 h2 of own3 B3 S3' hHeld S0
    go_wp2
    go_ret
    exact Or.inr ⟨rfl, unveil HB, unveil HB3⟩
  case true =>
    refine wpAnyH_take (i := 5) (v := .bool false) rfl (by kernel_rfl) (by kernel_rfl) (by kernel_rfl) (fun _ _ _ h => h) (Or.inl ⟨by rfl, fun _ _ => by go_simp⟩) hHeld ?_
    simp only [List.getElem_toArray, List.getElem_cons_zero, List.getElem_cons_succ, Act.put, List.setIfInBounds_toArray, List.set_cons_zero, List.set_cons_succ]
    refine wpAnyH_done (by kernel_rfl) ?_ _
    have hgood : v.Ok ∧ Step s v s' an' true := (by
      cases st with
      | step hv st => exact ⟨hv, st⟩)
    have HST := veil hgood
    obtain ⟨a1, c1, a2, c2, ws, tb3, r13, r23, n1, n2, hW, f1, f2, l1, l2⟩ := (h1 rfl).ex
    have f1 : ∀ x, a1 = some x → W.heap.size < x.block := fun x hx => by have := f1 x hx; have h4 : W1.drew.heap.size = W1.heap.size := rfl; omega
    have f2 : ∀ x, a2 = some x → W.heap.size < x.block := fun x hx => by have := f2 x hx; have h4 : W1.drew.heap.size = W1.heap.size := rfl; omega
    clear hgood st h1 h2 of S3' hHeld S0 tg1 own1 B1 e1 hWW
    go_upto_region 3 with fail
    have S0 : S3 R an' W3.drew := fun_s3 (tb3.next (below_drew W3))
    refine wp_region_held_drew (S := S3 R an') (by kernel_rfl) S0 (fun hHeld => ?_)
    refine wpAnyH_take (i := 0) (v := .pointer (some ⟨R, 0, none⟩)) rfl (by kernel_rfl) (by kernel_rfl) (by kernel_rfl) (fun _ _ _ h => h) (Or.inl ⟨by rfl, fun _ _ => by go_simp⟩) hHeld ?_
    simp only [List.getElem_toArray, List.getElem_cons_zero, Act.put, List.setIfInBounds_toArray, List.set_cons_zero, List.set_cons_succ]
    refine wpAnyH_take (i := 1) (v := .pointer (some ⟨R, 0, none⟩)) rfl (by kernel_rfl) (by kernel_rfl) (by kernel_rfl) (fun _ _ _ h => h) (Or.inl ⟨by rfl, fun _ _ => by go_simp⟩) hHeld ?_
    simp only [List.getElem_toArray, List.getElem_cons_zero, List.getElem_cons_succ, Act.put, List.setIfInBounds_toArray, List.set_cons_zero, List.set_cons_succ]
    refine wpAnyH_take (i := 2) (v := .pointer (some ⟨R, 0, none⟩)) rfl (by kernel_rfl) (by kernel_rfl) (by kernel_rfl) (fun _ _ _ h => h) (Or.inl ⟨by rfl, fun _ _ => by go_simp⟩) hHeld ?_
    simp only [List.getElem_toArray, List.getElem_cons_zero, List.getElem_cons_succ, Act.put, List.setIfInBounds_toArray, List.set_cons_zero, List.set_cons_succ]
    refine wpAnyH_take (i := 3) (v := .pointer (some ⟨R, 45, none⟩)) rfl (by kernel_rfl) (by kernel_rfl) (by kernel_rfl) (fun _ _ _ h => h) (Or.inl ⟨by rfl, fun _ _ => by go_simp⟩) hHeld ?_
    simp only [List.getElem_toArray, List.getElem_cons_zero, List.getElem_cons_succ, Act.put, List.setIfInBounds_toArray, List.set_cons_zero, List.set_cons_succ]
    refine wpAnyH_take (i := 5) (v := .pointer (some ⟨R, 0, none⟩)) rfl (by kernel_rfl) (by kernel_rfl) (by kernel_rfl) (fun _ _ _ h => h) (Or.inl ⟨by rfl, fun _ _ => by go_simp⟩) hHeld ?_
    simp only [List.getElem_toArray, List.getElem_cons_zero, List.getElem_cons_succ, Act.put, List.setIfInBounds_toArray, List.set_cons_zero, List.set_cons_succ]
    refine wpAnyH_take (i := 6) (v := .pointer (some ⟨R, 0, none⟩)) rfl (by kernel_rfl) (by kernel_rfl) (by kernel_rfl) (fun _ _ _ h => h) (Or.inl ⟨by rfl, fun _ _ => by go_simp⟩) hHeld ?_
    simp only [List.getElem_toArray, List.getElem_cons_zero, List.getElem_cons_succ, Act.put, List.setIfInBounds_toArray, List.set_cons_zero, List.set_cons_succ]
    refine wpAnyH_take (i := 7) (v := .pointer (some ⟨R, 0, none⟩)) rfl (by kernel_rfl) (by kernel_rfl) (by kernel_rfl) (fun _ _ _ h => h) (Or.inl ⟨by rfl, fun _ _ => by go_simp⟩) hHeld ?_
    simp only [List.getElem_toArray, List.getElem_cons_zero, List.getElem_cons_succ, Act.put, List.setIfInBounds_toArray, List.set_cons_zero, List.set_cons_succ]
    refine wpAnyH_take (i := 8) (v := .pointer (some ⟨R, 41, none⟩)) rfl (by kernel_rfl) (by kernel_rfl) (by kernel_rfl) (fun _ _ _ h => h) (Or.inl ⟨by rfl, fun _ _ => by go_simp⟩) hHeld ?_
    simp only [List.getElem_toArray, List.getElem_cons_zero, List.getElem_cons_succ, Act.put, List.setIfInBounds_toArray, List.set_cons_zero, List.set_cons_succ]
    refine wpAnyH_take (i := 9) (v := ansVal an'.c an'.he an'.no an'.bd) rfl (by kernel_rfl) (by kernel_rfl) (by kernel_rfl) (fun _ _ _ h => h) (Or.inl ⟨by rfl, fun w3 h3 => by obtain ⟨y0, y1, y2, y3⟩ := h3; go_simp⟩) hHeld ?_
    simp only [List.getElem_toArray, List.getElem_cons_zero, List.getElem_cons_succ, Act.put, List.setIfInBounds_toArray, List.set_cons_zero, List.set_cons_succ]
    have tb0 := tb3.next (below_drew W3)
    have ow0 := own_still own3 (fun g _ hg => (below_drew W3).block g hg)
    have r10 := r13.below (below_drew W3)
    have r20 := r23.below (below_drew W3)
    have B0 : Below w.heap.size w W3.drew := Below.next B3 (below_drew W3)
    obtain ⟨V0, hV0⟩ : ∃ V0, V0 = W3.drew := ⟨_, rfl⟩
    have hsV : W3.heap.size ≤ V0.heap.size := (by rw [hV0]; exact (below_drew W3).size)
    rw [← hV0] at S0 hHeld tb0 ow0 r10 r20 B0 ⊢
    clear hV0
    refine wpAnyH_ready (rs := [4, 10]) (by kernel_rfl) (by simp) ?_
    refine AllReadyH.cons rfl (fun K hK => ?_) (AllReadyH.cons rfl (fun K hK => ?_) AllReadyH.nil)
    · simp only [List.getElem_toArray, List.getElem_cons_zero, List.getElem_cons_succ]
      have y4 := tb0.more
      go_simp
      refine hK.out _ _ S0 (fun hHeld => ?_)
      clear hK K y4
      refine wpAnyH_ready (rs := [10]) (by kernel_rfl) (by simp) ?_
      refine AllReadyH.cons rfl (fun K hK => ?_) AllReadyH.nil
      · simp only [List.getElem_toArray, List.getElem_cons_zero, List.getElem_cons_succ]
        go_simp
        obtain ⟨V0N, hNW, nb, bn⟩ : ∃ W, W = V0.alloc (.cells #[.int .i64 an'.c, .int .i64 an'.he, .int .i64 an'.no, .int .i64 an'.bd] 50) ∧ (∀ j u, ((anCells an').map (Value.int .i64))[j]? = some u → W.cell? ((⟨V0.heap.size, 0, none⟩ : Addr).add j) = some u) ∧ Below V0.heap.size V0 W := ⟨_, rfl, news4 _ _ _ _ _ _, below1 _ _⟩
        rw [← hNW]
        have hsN : V0.heap.size < V0N.heap.size := (by rw [hNW]; simp)
        clear hNW
        have tb0 := tb0.next bn
        have ow0 := own_still ow0 (fun g _ hg => bn.block g hg)
        have r10 := r10.below bn
        have r20 := r20.below bn
        have B0 := Below.next B0 bn
        have S0 := fun_s3 tb0
        clear bn
        refine hK.out _ _ S0 (fun hHeld => ?_)
        clear hK K
        refine wpAnyH_ready (rs := [11]) (by kernel_rfl) (by simp) ?_
        refine AllReadyH.cons rfl (fun K hK => ?_) AllReadyH.nil
        · simp only [List.getElem_toArray, List.getElem_cons_zero, List.getElem_cons_succ]
          refine ite_wanted rfl ?_
          refine wp_append_own _ (.tmp 15) (.tmp 21) 23 rfl (R + 1) 50 i4 _ 4 32 Try.underlying23 hi4 hz40 hz41 hz42 rfl (by decide) (.slice aa ans.length ca) ans.length ((anFlat ans).map (Value.int .i64)) rfl ow0 ⟨V0.heap.size, 0, none⟩ 1 1 ((anCells an').map (Value.int .i64)) rfl rfl nb (ints_oneCell _ _) (by unfold maxLen; omega) (by omega) (by have := tb0.lt; omega) ?_
          intro v' V0NA own4 grow4 _
          rw [← List.map_append, ← anFlat_snoc] at own4
          obtain ⟨a', cap', rfl⟩ := own_form own4
          have kp : ∀ Y, Y < V0N.heap.size → (∀ g, (Value.slice aa ans.length ca).ownBlock = some g → g ≠ Y) → V0NA.heap[Y]? = V0N.heap[Y]? := fun Y hY hne => grow4.block Y hY (fun e => hne Y e.symm rfl)
          have tb4 : tlBlock V0NA R 74 s'.ep s'.nx s'.gv (.slice a1 s'.rn c1) (.slice a2 s'.ln c2) ws an'.c an'.he an'.no an'.bd [.slice aa ans.length ca] := (kp R tb0.lt (fun g hg => by have := hown g hg; omega)).trans tb0
          have r14 := row_kept r10 grow4.size kp (fun x hx g hg => by have := hown g hg; have := f1 x hx; omega)
          have r24 := row_kept r20 grow4.size kp (fun x hx g hg => by have := hown g hg; have := f2 x hx; omega)
          have B4 := B0.grown grow4 (by have := B0.size; omega) (fun q hq => by have := hown q hq; omega)
          have S4 := fun_s3 tb4
          have y45 := tb4.more
          have yf := tb4.free
          refine hK.out _ _ S4 (fun hHeld => ?_)
          clear hK K
          refine wpAnyH_take (i := 12) (v := .pointer (some ⟨R, 0, none⟩)) rfl (by kernel_rfl) (by kernel_rfl) (by kernel_rfl) (fun _ _ _ h => h) (Or.inl ⟨by rfl, fun _ _ => by go_simp⟩) hHeld ?_
          simp only [List.getElem_toArray, List.getElem_cons_zero, List.getElem_cons_succ, Act.put, List.setIfInBounds_toArray, List.set_cons_zero, List.set_cons_succ]
          refine wpAnyH_take (i := 13) (v := .pointer (some ⟨R, 45, none⟩)) rfl (by kernel_rfl) (by kernel_rfl) (by kernel_rfl) (fun _ _ _ h => h) (Or.inl ⟨by rfl, fun _ _ => by go_simp⟩) hHeld ?_
          simp only [List.getElem_toArray, List.getElem_cons_zero, List.getElem_cons_succ, Act.put, List.setIfInBounds_toArray, List.set_cons_zero, List.set_cons_succ]
          refine wpAnyH_ready (rs := [14]) (by kernel_rfl) (by simp) ?_
          refine AllReadyH.cons rfl (fun K hK => ?_) AllReadyH.nil
          · simp only [List.getElem_toArray, List.getElem_cons_zero, List.getElem_cons_succ]
            have T5 := Turned.set R 45 V0NA (.slice a' (ans ++ [an']).length cap')
            have el : (ans ++ [an']).length = ans.length + 1 := (by simp)
            rw [el] at T5
            have tb5 := tb4.tailed (.slice a' (ans.length + 1) cap')
            have S5 := fun_s3 tb5
            go_simp
            refine hK.out _ _ S5 (fun hHeld => ?_)
            clear hK K
            refine wpAnyH_done (by kernel_rfl) ?_ _
            have N5 : Nt w _ R s' an' (ans ++ [an']) (.slice a' (ans.length + 1) cap') := ⟨⟨a1, c1, a2, c2, ws, tb5, T5.row r14 (fun x hx _ => by have := f1 x hx; omega), T5.row r24 (fun x hx _ => by have := f2 x hx; omega), n1, n2, hW, fun x hx => by have := f1 x hx; omega, fun x hx => by have := f2 x hx; omega, l1, l2⟩, by rw [el]; exact T5.own own4 (by omega), T5.under B4 (by omega), hup⟩
            have HN5 := veil N5
            clear N5 tb5 S5 T5 tb4 S4 hHeld
            go_wp2
            go_ret
            exact Or.inl ⟨rfl, _, _, _, (unveil HST).1, (unveil HST).2, unveil HN5⟩
    · simp only [List.getElem_toArray, List.getElem_cons_zero, List.getElem_cons_succ]
      go_simp
      obtain ⟨V0N, hNW, nb, bn⟩ : ∃ W, W = V0.alloc (.cells #[.int .i64 an'.c, .int .i64 an'.he, .int .i64 an'.no, .int .i64 an'.bd] 50) ∧ (∀ j u, ((anCells an').map (Value.int .i64))[j]? = some u → W.cell? ((⟨V0.heap.size, 0, none⟩ : Addr).add j) = some u) ∧ Below V0.heap.size V0 W := ⟨_, rfl, news4 _ _ _ _ _ _, below1 _ _⟩
      rw [← hNW]
      have hsN : V0.heap.size < V0N.heap.size := (by rw [hNW]; simp)
      clear hNW
      have tb0 := tb0.next bn
      have ow0 := own_still ow0 (fun g _ hg => bn.block g hg)
      have r10 := r10.below bn
      have r20 := r20.below bn
      have B0 := Below.next B0 bn
      have S0 := fun_s3 tb0
      clear bn
      refine hK.out _ _ S0 (fun hHeld => ?_)
      clear hK K
      refine wpAnyH_ready (rs := [4]) (by kernel_rfl) (by simp) ?_
      refine AllReadyH.cons rfl (fun K hK => ?_) AllReadyH.nil
      · simp only [List.getElem_toArray, List.getElem_cons_zero, List.getElem_cons_succ]
        have y4 := tb0.more
        go_simp
        refine hK.out _ _ S0 (fun hHeld => ?_)
        clear hK K y4
        refine wpAnyH_ready (rs := [11]) (by kernel_rfl) (by simp) ?_
        refine AllReadyH.cons rfl (fun K hK => ?_) AllReadyH.nil
        · simp only [List.getElem_toArray, List.getElem_cons_zero, List.getElem_cons_succ]
          refine ite_wanted rfl ?_
          refine wp_append_own _ (.tmp 15) (.tmp 21) 23 rfl (R + 1) 50 i4 _ 4 32 Try.underlying23 hi4 hz40 hz41 hz42 rfl (by decide) (.slice aa ans.length ca) ans.length ((anFlat ans).map (Value.int .i64)) rfl ow0 ⟨V0.heap.size, 0, none⟩ 1 1 ((anCells an').map (Value.int .i64)) rfl rfl nb (ints_oneCell _ _) (by unfold maxLen; omega) (by omega) (by have := tb0.lt; omega) ?_
          intro v' V0NA own4 grow4 _
          rw [← List.map_append, ← anFlat_snoc] at own4
          obtain ⟨a', cap', rfl⟩ := own_form own4
          have kp : ∀ Y, Y < V0N.heap.size → (∀ g, (Value.slice aa ans.length ca).ownBlock = some g → g ≠ Y) → V0NA.heap[Y]? = V0N.heap[Y]? := fun Y hY hne => grow4.block Y hY (fun e => hne Y e.symm rfl)
          have tb4 : tlBlock V0NA R 74 s'.ep s'.nx s'.gv (.slice a1 s'.rn c1) (.slice a2 s'.ln c2) ws an'.c an'.he an'.no an'.bd [.slice aa ans.length ca] := (kp R tb0.lt (fun g hg => by have := hown g hg; omega)).trans tb0
          have r14 := row_kept r10 grow4.size kp (fun x hx g hg => by have := hown g hg; have := f1 x hx; omega)
          have r24 := row_kept r20 grow4.size kp (fun x hx g hg => by have := hown g hg; have := f2 x hx; omega)
          have B4 := B0.grown grow4 (by have := B0.size; omega) (fun q hq => by have := hown q hq; omega)
          have S4 := fun_s3 tb4
          have y45 := tb4.more
          have yf := tb4.free
          refine hK.out _ _ S4 (fun hHeld => ?_)
          clear hK K
          refine wpAnyH_take (i := 12) (v := .pointer (some ⟨R, 0, none⟩)) rfl (by kernel_rfl) (by kernel_rfl) (by kernel_rfl) (fun _ _ _ h => h) (Or.inl ⟨by rfl, fun _ _ => by go_simp⟩) hHeld ?_
          simp only [List.getElem_toArray, List.getElem_cons_zero, List.getElem_cons_succ, Act.put, List.setIfInBounds_toArray, List.set_cons_zero, List.set_cons_succ]
          refine wpAnyH_take (i := 13) (v := .pointer (some ⟨R, 45, none⟩)) rfl (by kernel_rfl) (by kernel_rfl) (by kernel_rfl) (fun _ _ _ h => h) (Or.inl ⟨by rfl, fun _ _ => by go_simp⟩) hHeld ?_
          simp only [List.getElem_toArray, List.getElem_cons_zero, List.getElem_cons_succ, Act.put, List.setIfInBounds_toArray, List.set_cons_zero, List.set_cons_succ]
          refine wpAnyH_ready (rs := [14]) (by kernel_rfl) (by simp) ?_
          refine AllReadyH.cons rfl (fun K hK => ?_) AllReadyH.nil
          · simp only [List.getElem_toArray, List.getElem_cons_zero, List.getElem_cons_succ]
            have T5 := Turned.set R 45 V0NA (.slice a' (ans ++ [an']).length cap')
            have el : (ans ++ [an']).length = ans.length + 1 := (by simp)
            rw [el] at T5
            have tb5 := tb4.tailed (.slice a' (ans.length + 1) cap')
            have S5 := fun_s3 tb5
            go_simp
            refine hK.out _ _ S5 (fun hHeld => ?_)
            clear hK K
            refine wpAnyH_done (by kernel_rfl) ?_ _
            have N5 : Nt w _ R s' an' (ans ++ [an']) (.slice a' (ans.length + 1) cap') := ⟨⟨a1, c1, a2, c2, ws, tb5, T5.row r14 (fun x hx _ => by have := f1 x hx; omega), T5.row r24 (fun x hx _ => by have := f2 x hx; omega), n1, n2, hW, fun x hx => by have := f1 x hx; omega, fun x hx => by have := f2 x hx; omega, l1, l2⟩, by rw [el]; exact T5.own own4 (by omega), T5.under B4 (by omega), hup⟩
            have HN5 := veil N5
            clear N5 tb5 S5 T5 tb4 S4 hHeld
            go_wp2
            go_ret
            exact Or.inl ⟨rfl, _, _, _, (unveil HST).1, (unveil HST).2, unveil HN5⟩
/-- what Answers answers. -/
inductive Av (es : List Ev) (w w' : World) : Value → Int → Prop
  | bad {er : Int} (h : ¬ er = 0) (hr : Rv es St.zero er) : Av es w w' (.slice none 0 0) er
  | told {s : St} {va : Value} (ans : List An) (h : es.length ≤ 2000) (ht : Tells es s ans) (own : w'.ownsRow w.heap.size 50 4 va ans.length ((anFlat ans).map (Value.int .i64))) : Av es w w' va 0
def NtI (w : World) (R : Nat) (es : List Ev) (k : Nat) (W : World) : Prop := ∃ s an ans va, Tells (es.take k) s ans ∧ Nt w W R s an ans va
def NtJ (w : World) (es : List Ev) (W : World) : Prop := Stuck es ∧ Below w.heap.size w W
theorem note_spec (w : World) (R : Nat) (es : List Ev) (hl : es.length ≤ 2000) : EachSpec 23 (.pointer (some ⟨R, 0, none⟩)) es (NtI w R es) (NtJ w es) where
  enters := enters_of Try.func23 (by kernel_rfl) rfl
  step := by
    intro k hk W ⟨s, an, ans, va, ht, N⟩
    have hlen := ht.len
    rw [List.length_take] at hlen
    refine (note_any w W R s an ans va es[k] ht.wf.ok (by omega) N).mono ?_
    rintro e w' (⟨rfl, s', an', va', hv, st, N'⟩ | ⟨rfl, hb, b⟩)
    · refine .inl ⟨rfl, s', an', _, va', ?_, N'⟩
      rw [List.take_succ_eq_append_getElem hk]
      exact .snoc ht hv st
    · exact .inr ⟨rfl, ⟨k, s, ans, hk, ht, hb⟩, b⟩
  keep := by
    intro k W W' ⟨s, an, ans, va, ht, N⟩ b
    exact ⟨s, an, ans, va, ht, N.next b⟩
abbrev znCells : Array Value := #[.int .i64 0, .int .i64 0, .int .i64 0, .slice none 0 0, .slice none 0 0, .int .i64 0, .bool false, .bool false, .bool false, .bool false, .bool false, .bool false, .bool false, .bool false, .int .i64 0, .bool false, .bool false, .bool false, .bool false, .bool false, .bool false, .bool false, .bool false, .int .i64 0, .bool false, .bool false, .bool false, .bool false, .bool false, .bool false, .bool false, .bool false, .int .i64 0, .bool false, .bool false, .bool false, .bool false, .bool false, .bool false, .bool false, .bool false, .int .i64 0, .int .i64 0, .int .i64 0, .int .i64 0, .slice none 0 0]
theorem zn_eq : znCells = (tlList 0 0 0 (.slice none 0 0) (.slice none 0 0) zeroW 0 0 0 0 [.slice none 0 0]).toArray := rfl
theorem nt_zero {w W : World} (h : W = w.alloc (.cells znCells 74)) : Nt w W w.heap.size St.zero An.zero [] (.slice none 0 0) := by
  subst h
  refine ⟨⟨none, 0, none, 0, zeroW, ?_, RowK.nil _ _ _, RowK.nil _ _ _, fun _ => rfl, fun _ => rfl, zeroWins, fun x hx => (by cases hx), fun x hx => (by cases hx), Nat.le_refl _, Nat.le_refl _⟩, World.ownsRow_nil _ _ _ _, below1 _ _, Nat.le_refl _⟩
  unfold tlBlock
  rw [heap_alloc_new, zn_eq]
  rfl
theorem n_alloc {ops : Array Oper} {rest : List Oper} {o : Oper} {a : Act} {Q : Exit → Act → World → Prop} {w : World} (d : Nat) (ho : o.op = .alloc 74) (hd : o.dst = some d) (hw : Region.wanted o (yielded ops a.tmps) = true)
    (h : ∀ w', Nt w w' w.heap.size St.zero An.zero [] (.slice none 0 0) → wpList Try.prog ops Q rest (a.put (some d) (.pointer (some ⟨w.heap.size, 0, none⟩))) w') : wpList Try.prog ops Q (o :: rest) a w :=
  wpList_step fun K hK => by
    rw [if_pos hw]
    have := hK _ _ (h _ (nt_zero (w := w) rfl))
    rw [← hd] at this
    unfold Oper.wp
    simp only [execOp, ho]
    simpa [go_sem] using this
theorem ret_Answers {W : World} {x : Value} {er : Int} {tmps : Array Value} (t2 : tmps[2]? = some x) (t3 : tmps[3]? = some (.int .i64 er)) :
    (results Try.f6 tmps).run Try.prog W = .ok (.tuple #[x, .int .i64 er]) W := by
  simp [results, Try.results6, t2, t3]
set_option maxRecDepth 20000 in
set_option maxHeartbeats 4000000 in
theorem answers_any (es : List Ev) (a : Option Addr) (cap : Nat) (w : World) (hr : RowK .i64 w a (6 * es.length) (evFlat es)) :
    Calls Try.prog 6 #[.slice a es.length cap] w fun e w' => ∃ va er, e = .returned (.tuple #[va, .int .i64 er]) ∧ Av es w w' va er ∧ Below w.heap.size w w' := by
  go_enter Try.func6, Try.ntmps6
  go_upto_region 2 with (refine n_alloc 4 rfl rfl rfl ?_; intro W1 N1)
  have HE : Hid (Calls Try.prog 22 #[.slice a es.length cap, .func (.func 23) #[.pointer (some ⟨w.heap.size, 0, none⟩)] #[]] W1 fun e w' => ∃ er : Int, e = .returned (.int .i64 er) ∧ ((er = 0 ∧ es.length ≤ 2000 ∧ NtI w w.heap.size es es.length w') ∨ (¬ er = 0 ∧ Rv es St.zero er ∧ Below w.heap.size w w'))) := veil (by
    by_cases hl : es.length ≤ 2000
    · refine (each_any 23 w.heap.size es _ _ (note_spec w w.heap.size es hl) a cap W1 ⟨_, _, _, _, by simpa using Tells.nil, N1⟩ hl (fun k W hI => by obtain ⟨_, _, _, _, _, N⟩ := hI; exact hr.below N.bel)).mono ?_
      rintro e w' (⟨rfl, h1⟩ | ⟨rfl, h1⟩)
      · exact ⟨0, rfl, .inl ⟨rfl, hl, h1⟩⟩
      · exact ⟨3, rfl, .inr ⟨by decide, .form hl h1.1, h1.2⟩⟩
    · refine (each_size _ _ _ a cap W1 (by omega)).mono ?_
      rintro e w' ⟨rfl, b3⟩
      exact ⟨1, rfl, .inr ⟨by decide, .size (by omega), Below.next N1.bel b3⟩⟩)
  clear N1
  go_upto_region 3 with (go_at_call 22; refine (unveil HE).mono ?_; rintro e W3 ⟨er, rfl, HH⟩; clear HE)
  rcases HH with ⟨rfl, hl, s, an, ans, va, ht, N⟩ | ⟨h0, rv, b⟩
  · rw [List.take_length] at ht
    obtain ⟨_, _, _, _, _, tb, _⟩ := N.tg.ex
    have y45 := tb.more
    have HN := veil N
    have HT := veil ht
    clear tb N ht
    go_wp2
    exact bodyPost_ret (ret_Answers rfl rfl) rfl ⟨_, _, rfl, .told ans hl (unveil HT) (own_lower (unveil HN).own (by omega)), (unveil HN).bel⟩
  · have HV := veil rv
    have HB := veil b
    clear rv b
    go_wp2
    exact bodyPost_ret (ret_Answers rfl rfl) rfl ⟨_, _, rfl, .bad h0 (unveil HV), unveil HB⟩
end Go.Proofs.Ytlfecmkpafgcmaa

namespace Go.Proofs.Ytlfecmkpafgcmaa
open Go.RowKit

theorem Step.an_wf {s s' : St} {v : Ev} {an : An} {ch : Bool} (ok : s.Ok) (h : Step s v s' an ch) : ∀ u ∈ anCells an, (Lit.int .i64 u).wf = true := by
  have e0 := ok.count.e0
  have e1 := ok.count.e1
  have g0 := ok.count.g0
  have g1 := ok.count.g1
  intro u hu
  cases h with
  | recv hk hr hg =>
    have hb := ready_bounds ok hr
    simp only [anCells, List.mem_cons, List.not_mem_nil, or_false] at hu
    rcases hu with rfl | rfl | rfl | rfl
    · decide
    · exact wf_in e0 (by omega)
    · exact wf_in g0 (by omega)
    · exact wf_in hb.2.2.1 (by have := hb.2.2.2; simp at this ⊢; omega)
  | pubLow => simp only [anCells, List.mem_cons, List.not_mem_nil, or_false] at hu; rcases hu with rfl | rfl | rfl | rfl <;> decide
  | pubOld => simp only [anCells, List.mem_cons, List.not_mem_nil, or_false] at hu; rcases hu with rfl | rfl | rfl | rfl <;> decide
  | pubFull => simp only [anCells, List.mem_cons, List.not_mem_nil, or_false] at hu; rcases hu with rfl | rfl | rfl | rfl <;> decide
  | pub => simp only [anCells, List.mem_cons, List.not_mem_nil, or_false] at hu; rcases hu with rfl | rfl | rfl | rfl <;> decide
  | recEmpty => simp only [anCells, List.mem_cons, List.not_mem_nil, or_false] at hu; rcases hu with rfl | rfl | rfl | rfl <;> decide
  | recFull => simp only [anCells, List.mem_cons, List.not_mem_nil, or_false] at hu; rcases hu with rfl | rfl | rfl | rfl <;> decide
  | ackStale => simp only [anCells, List.mem_cons, List.not_mem_nil, or_false] at hu; rcases hu with rfl | rfl | rfl | rfl <;> decide
  | ackNone => simp only [anCells, List.mem_cons, List.not_mem_nil, or_false] at hu; rcases hu with rfl | rfl | rfl | rfl <;> decide
  | ack => simp only [anCells, List.mem_cons, List.not_mem_nil, or_false] at hu; rcases hu with rfl | rfl | rfl | rfl <;> decide
  | endFull => simp only [anCells, List.mem_cons, List.not_mem_nil, or_false] at hu; rcases hu with rfl | rfl | rfl | rfl <;> decide
  | stop => simp only [anCells, List.mem_cons, List.not_mem_nil, or_false] at hu; rcases hu with rfl | rfl | rfl | rfl <;> decide
theorem Tells.an_wf {es : List Ev} {s : St} {ans : List An} (h : Tells es s ans) : ∀ u ∈ anFlat ans, (Lit.int .i64 u).wf = true := by
  induction h with
  | nil => intro u hu; cases hu
  | snoc h hv st ih =>
    intro u hu
    rw [anFlat_snoc] at hu
    rcases List.mem_append.1 hu with hu | hu
    · exact ih u hu
    · exact st.an_wf h.wf.ok u hu
theorem RowK.four {w : World} {b off n : Nat} {D : List Int} (h : RowK .i64 w (some ⟨b, off, none⟩) (4 * n) D) (k : Nat) (hk : k < n) :
    w.cell? ⟨b, off + k * 4, none⟩ = some (.int .i64 (D.getD (4 * k) 0)) ∧ w.cell? ⟨b, off + k * 4 + 1, none⟩ = some (.int .i64 (D.getD (4 * k + 1) 0)) ∧ w.cell? ⟨b, off + k * 4 + 2, none⟩ = some (.int .i64 (D.getD (4 * k + 2) 0)) ∧ w.cell? ⟨b, off + k * 4 + 3, none⟩ = some (.int .i64 (D.getD (4 * k + 3) 0)) := by
  rw [Nat.mul_comm k 4]
  exact ⟨h.at (4 * k) (by omega), h.at (4 * k + 1) (by omega), h.at (4 * k + 2) (by omega), h.at (4 * k + 3) (by omega)⟩
end Go.Proofs.Ytlfecmkpafgcmaa
