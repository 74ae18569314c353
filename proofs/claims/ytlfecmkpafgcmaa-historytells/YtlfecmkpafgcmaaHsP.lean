/- The walk of tell, its new rows told. -/
import Derived.Test.YtlfecmkpafgcmaaHsC
import Derived.Deep.CutRange
namespace Go.Proofs.Ytlfecmkpafgcmaa
open Go.RowKit

/-- a telling whose rows lie from n on. -/
structure Tf (w : World) (n R : Nat) (T : TypeId) (tail : List Value) (s : St) (an : An) : Prop where
  ex : ∃ a1 c1 a2 c2 ws, tlBlock w R T s.ep s.nx s.gv (.slice a1 s.rn c1) (.slice a2 s.ln c2) ws an.c an.he an.no an.bd tail ∧ RowK .i64 w a1 (2 * s.rn) s.R ∧ RowK .i64 w a2 (4 * s.ln) s.L ∧ (a1 = none → c1 = 0) ∧ (a2 = none → c2 = 0) ∧ Wins ws s.wt s.wz ∧ (∀ x, a1 = some x → n ≤ x.block) ∧ (∀ x, a2 = some x → n ≤ x.block) ∧ s.rn ≤ c1 ∧ s.ln ≤ c2
set_option maxRecDepth 20000 in
set_option maxHeartbeats 4000000 in
theorem tell_far (s : St) (an : An) (v : Ev) (w0 : World) (R : Nat) (T : TypeId) (tail : List Value) (ok : s.Ok) (h : Tg w0 R T tail s an) :
    Calls Try.prog 29 #[.pointer (some ⟨R, 0, none⟩), evIn v] w0 fun e w' => ∃ (s' : St) (an' : An) (ch : Bool) (er : Int), e = .returned (.bool ch) ∧ DoR s v s' an' ch er ∧ (ch = true → Tf w' w0.heap.size R T tail s' an') ∧ (ch = false → Tg w' R T tail s an) ∧ Off R w0.heap.size w0 w' := by
  go_enter Try.func29, Try.ntmps29
  go_upto_region 1 with fail
  obtain ⟨W1, hW1, b1, e1⟩ : ∃ W1, W1 = w0.alloc (.cells #[.int .i64 v.k, .int .i64 v.p, .int .i64 v.i, .int .i64 v.b, .int .i64 v.he, .int .i64 v.hn] 61) ∧ Below w0.heap.size w0 W1 ∧ W1.heap[w0.heap.size]? = some (.cells #[.int .i64 v.k, .int .i64 v.p, .int .i64 v.i, .int .i64 v.b, .int .i64 v.he, .int .i64 v.hn] 61 (0, 0)) := ⟨_, rfl, below1 _ _, heap_alloc_new _ _⟩
  rw [← hW1]
  obtain ⟨v0, v1, v2, v3, v4, v5⟩ := ev_box e1
  have hEl : w0.heap.size < W1.heap.size := block_lt e1
  have h1 := h.next b1
  have HT1 := veil h1
  obtain ⟨a1, c1, a2, c2, ws, tb, t1, t2, m1, m2, hW, x1, x2, _, _⟩ := h1.ex
  have hRl : R < w0.heap.size := by obtain ⟨_, _, _, _, _, tb0, _⟩ := h.ex; exact tb0.lt
  have HDo : Hid (∀ W, Below W1.heap.size W1 W → Calls Try.prog 27 #[qVal s.ep s.nx s.gv (.slice a1 s.rn c1) (.slice a2 s.ln c2) ws, evIn v] W fun e w' => ∃ (s' : St) (an : An) (ch : Bool) (er : Int) (x : Value), e = .returned (.tuple #[x, anOf an, .bool ch, .int .i64 er]) ∧ DoR s v s' an ch er ∧ QOut W w' s' x ∧ Below W.heap.size W w') := veil fun W b => do_any s a1 a2 c1 c2 ws v W (t1.below b) (t2.below b) m1 m2 hW ok
  have HB1 := veil b1
  clear hW1 b1 e1 h1 t1 t2 m1 m2 x1 x2 h
  go_cut [5, 6, 7, 8] (fun p5 p6 c7 c8 wx => ∃ (s' : St) (an' : An) (ch : Bool) (er : Int) (X A : Nat) (b1' : Option Addr) (d1' : Nat) (b2' : Option Addr) (d2' : Nat) (vs' : Nat → Value), p5 = .pointer (some ⟨X, 0, none⟩) ∧ p6 = .pointer (some ⟨A, 0, none⟩) ∧ c7 = .bool ch ∧ c8 = .int .i64 er ∧ DoR s v s' an' ch er ∧ Bx wx X s' b1' d1' b2' d2' vs' ∧ ansBlock wx A an'.c an'.he an'.no an'.bd ∧ Below W1.heap.size W1 wx ∧ W1.heap.size ≤ X ∧ W1.heap.size ≤ A ∧ (∀ x, b1' = some x → W1.heap.size ≤ x.block) ∧ (∀ x, b2' = some x → W1.heap.size ≤ x.block) ∧ s'.rn ≤ d1' ∧ s'.ln ≤ d2')
  case first =>
    refine wp_region_held_drew (S := Below W1.heap.size W1) (by kernel_rfl) (below_drew W1) (fun hHeld => ?_)
    refine wpAnyH_take (i := 0) (v := .pointer (some ⟨R, 0, none⟩)) rfl (by kernel_rfl) (by kernel_rfl) (by kernel_rfl) (fun _ _ _ h => h) (Or.inl ⟨by rfl, fun _ _ => by go_simp⟩) hHeld ?_
    simp only [List.getElem_toArray, List.getElem_cons_zero, Act.put, List.setIfInBounds_toArray, List.set_cons_zero, List.set_cons_succ]
    refine wpAnyH_take (i := 1) (v := .pointer (some ⟨R, 0, none⟩)) rfl (by kernel_rfl) (by kernel_rfl) (by kernel_rfl) (fun _ _ _ h => h) (Or.inl ⟨by rfl, fun _ _ => by go_simp⟩) hHeld ?_
    simp only [List.getElem_toArray, List.getElem_cons_zero, List.getElem_cons_succ, Act.put, List.setIfInBounds_toArray, List.set_cons_zero, List.set_cons_succ]
    refine wpAnyH_take (i := 2) (v := .pointer (some ⟨R, 0, none⟩)) rfl (by kernel_rfl) (by kernel_rfl) (by kernel_rfl) (fun _ _ _ h => h) (Or.inl ⟨by rfl, fun _ _ => by go_simp⟩) hHeld ?_
    simp only [List.getElem_toArray, List.getElem_cons_zero, List.getElem_cons_succ, Act.put, List.setIfInBounds_toArray, List.set_cons_zero, List.set_cons_succ]
    refine wpAnyH_take (i := 3) (v := _) rfl (by kernel_rfl) (by kernel_rfl) (by kernel_rfl) (fun _ _ _ h => h) (yields_t _ rfl rfl rfl (fun _ b => tb.next b)) hHeld ?_
    simp only [List.getElem_toArray, List.getElem_cons_zero, List.getElem_cons_succ, Act.put, List.setIfInBounds_toArray, List.set_cons_zero, List.set_cons_succ]
    refine wpAnyH_take (i := 4) (v := evIn v) rfl (by kernel_rfl) (by kernel_rfl) (by kernel_rfl) (fun _ _ _ h => h) (Or.inl ⟨by rfl, fun w b => by have c0 := (b.cell (p := ⟨w0.heap.size, 0, none⟩) hEl).trans v0; have c1 := (b.cell (p := ⟨w0.heap.size, 1, none⟩) hEl).trans v1; have c2 := (b.cell (p := ⟨w0.heap.size, 2, none⟩) hEl).trans v2; have c3 := (b.cell (p := ⟨w0.heap.size, 3, none⟩) hEl).trans v3; have c4 := (b.cell (p := ⟨w0.heap.size, 4, none⟩) hEl).trans v4; have c5 := (b.cell (p := ⟨w0.heap.size, 5, none⟩) hEl).trans v5; go_simp⟩) hHeld ?_
    simp only [List.getElem_toArray, List.getElem_cons_zero, List.getElem_cons_succ, Act.put, List.setIfInBounds_toArray, List.set_cons_zero, List.set_cons_succ]
    have bW0 := below_drew W1
    have hz0 : W1.heap.size ≤ W1.drew.heap.size := bW0.size
    obtain ⟨W0, hW0⟩ : ∃ W0, W0 = W1.drew := ⟨_, rfl⟩
    rw [← hW0] at bW0 hz0 hHeld ⊢
    clear hW0
    refine wpAnyH_ready (rs := [5, 11, 12]) (by kernel_rfl) (by simp) ?_
    refine AllReadyH.cons rfl (fun K hK => ?_) (AllReadyH.cons rfl (fun K hK => ?_) (AllReadyH.cons rfl (fun K hK => ?_) AllReadyH.nil))
    · simp only [List.getElem_toArray, List.getElem_cons_zero, List.getElem_cons_succ]
      go_simp
      refine (unveil HDo _ bW0).mono ?_
      rintro e WC ⟨s', an', ch, er, x', rfl, hst, ⟨⟨b1', d1', b2', d2', vs', rfl, r1, r2, l1', l2', n1, n2, hW'', f1, f2⟩⟩, bn⟩
      have HST := veil hst
      clear hst
      have hr1 := fun x hx h0 => r1.blk_lt x hx h0
      have hr2 := fun x hx h0 => r2.blk_lt x hx h0
      have bWC := Below.next bW0 bn
      have hSWC : W0.heap.size ≤ WC.heap.size := bn.size
      refine hK.out _ _ bWC (fun hHeld => ?_)
      clear hK K bn
      refine wpAnyH_take (i := 6) (v := .tuple #[qVal s'.ep s'.nx s'.gv (.slice b1' s'.rn d1') (.slice b2' s'.ln d2') vs', anOf an', .bool ch, .int .i64 er]) rfl (by kernel_rfl) (by kernel_rfl) (by kernel_rfl) (fun _ _ _ h => h) (Or.inl ⟨by rfl, fun _ _ => by go_simp⟩) hHeld ?_
      simp only [List.getElem_toArray, List.getElem_cons_zero, List.getElem_cons_succ, Act.put, List.setIfInBounds_toArray, List.set_cons_zero, List.set_cons_succ]
      refine wpAnyH_take (i := 7) (v := qVal s'.ep s'.nx s'.gv (.slice b1' s'.rn d1') (.slice b2' s'.ln d2') vs') rfl (by kernel_rfl) (by kernel_rfl) (by kernel_rfl) (fun _ _ _ h => h) (Or.inl ⟨by rfl, fun _ _ => by go_simp⟩) hHeld ?_
      simp only [List.getElem_toArray, List.getElem_cons_zero, List.getElem_cons_succ, Act.put, List.setIfInBounds_toArray, List.set_cons_zero, List.set_cons_succ]
      refine wpAnyH_take (i := 8) (v := anOf an') rfl (by kernel_rfl) (by kernel_rfl) (by kernel_rfl) (fun _ _ _ h => h) (Or.inl ⟨by rfl, fun _ _ => by go_simp⟩) hHeld ?_
      simp only [List.getElem_toArray, List.getElem_cons_zero, List.getElem_cons_succ, Act.put, List.setIfInBounds_toArray, List.set_cons_zero, List.set_cons_succ]
      refine wpAnyH_take (i := 9) (v := .bool ch) rfl (by kernel_rfl) (by kernel_rfl) (by kernel_rfl) (fun _ _ _ h => h) (Or.inl ⟨by rfl, fun _ _ => by go_simp⟩) hHeld ?_
      simp only [List.getElem_toArray, List.getElem_cons_zero, List.getElem_cons_succ, Act.put, List.setIfInBounds_toArray, List.set_cons_zero, List.set_cons_succ]
      refine wpAnyH_take (i := 10) (v := .int .i64 er) rfl (by kernel_rfl) (by kernel_rfl) (by kernel_rfl) (fun _ _ _ h => h) (Or.inl ⟨by rfl, fun _ _ => by go_simp⟩) hHeld ?_
      simp only [List.getElem_toArray, List.getElem_cons_zero, List.getElem_cons_succ, Act.put, List.setIfInBounds_toArray, List.set_cons_zero, List.set_cons_succ]
      refine wpAnyH_ready (rs := [11, 12]) (by kernel_rfl) (by simp) ?_
      refine AllReadyH.cons rfl (fun K hK => ?_) (AllReadyH.cons rfl (fun K hK => ?_) AllReadyH.nil)
      · simp only [List.getElem_toArray, List.getElem_cons_zero, List.getElem_cons_succ]
        refine ite_wanted rfl ?_
        refine q_alloc_wp 5 rfl rfl ?_
        intro WCQ zq bn
        have hXq : WC.heap.size < WCQ.heap.size := zq.lt
        have bWCQ := Below.next bWC bn
        have r1 := r1.below bn
        have r2 := r2.below bn
        have hSWCQ : WC.heap.size ≤ WCQ.heap.size := bn.size
        refine hK.out _ _ bWCQ (fun hHeld => ?_)
        clear hK K bn
        refine wpAnyH_ready (rs := [12]) (by kernel_rfl) (by simp) ?_
        refine AllReadyH.cons rfl (fun K hK => ?_) AllReadyH.nil
        · simp only [List.getElem_toArray, List.getElem_cons_zero, List.getElem_cons_succ]
          go_simp
          obtain ⟨WCQA, hWCQA, ya, bn⟩ : ∃ W, W = WCQ.alloc (.cells #[.int .i64 0, .int .i64 0, .int .i64 0, .int .i64 0] 50) ∧ ansBlock W WCQ.heap.size 0 0 0 0 ∧ Below WCQ.heap.size WCQ W := ⟨_, rfl, ansBlock.new _ 0 0 0 0, below1 _ _⟩
          rw [← hWCQA]
          have hXa : WCQ.heap.size < WCQA.heap.size := ya.lt
          have bWCQA := Below.next bWCQ bn
          clear hWCQA
          have zq := zq.next bn
          have r1 := r1.below bn
          have r2 := r2.below bn
          have hSWCQA : WCQ.heap.size ≤ WCQA.heap.size := bn.size
          refine hK.out _ _ bWCQA (fun hHeld => ?_)
          clear hK K bn
          refine wpAnyH_ready (rs := [13]) (by kernel_rfl) (by simp) ?_
          refine AllReadyH.cons rfl (fun K hK => ?_) AllReadyH.nil
          simp only [List.getElem_toArray, List.getElem_cons_zero, List.getElem_cons_succ]
          refine ite_wanted rfl ?_
          refine q_store_wp (ra := b1') (la := b2') (ws' := vs') _ _ rfl rfl rfl zq hW'' ?_
          intro Wq q5 t5
          have ya5 := ya.turned t5 (by omega)
          have r15 := t5.row r1 (fun x hx h0 => by have := f1 x hx; have := hr1 x hx h0; omega)
          have r25 := t5.row r2 (fun x hx h0 => by have := f2 x hx; have := hr2 x hx h0; omega)
          have b5 := t5.under bWCQA (by omega)
          refine hK.out _ _ b5 (fun hHeld => ?_)
          clear hK K
          refine wpAnyH_ready (rs := [14]) (by kernel_rfl) (by simp) ?_
          refine AllReadyH.cons rfl (fun K hK => ?_) AllReadyH.nil
          simp only [List.getElem_toArray, List.getElem_cons_zero, List.getElem_cons_succ]
          obtain ⟨y0, y1, y2, y3⟩ := ya5.cells
          have yf := ya5.free
          go_simp
          have t6 := ans_turned Wq (WCQ.heap.size) an'.c an'.he an'.no an'.bd
          have ya6 := ya5.store an'.c an'.he an'.no an'.bd
          have q6 := t6.queue q5 (by omega)
          have b6 := t6.under b5 (by omega)
          have X6 : Bx _ (WC.heap.size) s' b1' d1' b2' d2' vs' := ⟨q6, t6.row r15 (fun x hx h0 => by have := f1 x hx; have := hr1 x hx h0; omega), t6.row r25 (fun x hx h0 => by have := f2 x hx; have := hr2 x hx h0; omega), n1, n2, hW''⟩
          unfold ansStore at ya6 X6 b6
          refine hK.out _ _ b6 (fun hHeld => ?_)
          clear hK K y0 y1 y2 y3 yf q6 t6
          generalize (((Wq.setCell ⟨WCQ.heap.size, 0, none⟩ (.int .i64 an'.c)).setCell ⟨WCQ.heap.size, 1, none⟩ (.int .i64 an'.he)).setCell ⟨WCQ.heap.size, 2, none⟩ (.int .i64 an'.no)).setCell ⟨WCQ.heap.size, 3, none⟩ (.int .i64 an'.bd) = W6 at ya6 X6 b6 hHeld ⊢
          refine wpAnyH_take (i := 15) (v := .bool ch) rfl (by kernel_rfl) (by kernel_rfl) (by kernel_rfl) (fun _ _ _ h => h) (Or.inl ⟨by rfl, fun _ _ => by go_simp⟩) hHeld ?_
          simp only [List.getElem_toArray, List.getElem_cons_zero, List.getElem_cons_succ, Act.put, List.setIfInBounds_toArray, List.set_cons_zero, List.set_cons_succ]
          refine wpAnyH_take (i := 16) (v := .int .i64 er) rfl (by kernel_rfl) (by kernel_rfl) (by kernel_rfl) (fun _ _ _ h => h) (Or.inl ⟨by rfl, fun _ _ => by go_simp⟩) hHeld ?_
          simp only [List.getElem_toArray, List.getElem_cons_zero, List.getElem_cons_succ, Act.put, List.setIfInBounds_toArray, List.set_cons_zero, List.set_cons_succ]
          refine wpAnyH_done (by kernel_rfl) ?_ _
          go_wp2_with fail
          go_meet
          exact ⟨s', an', ch, er, _, _, _, _, _, _, _, rfl, rfl, rfl, rfl, unveil HST, X6, ya6, b6, by omega, by omega, fun x hx => by have := f1 x hx; omega, fun x hx => by have := f2 x hx; omega, l1', l2'⟩
      · simp only [List.getElem_toArray, List.getElem_cons_zero, List.getElem_cons_succ]
        go_simp
        obtain ⟨WCA, hWCA, ya, bn⟩ : ∃ W, W = WC.alloc (.cells #[.int .i64 0, .int .i64 0, .int .i64 0, .int .i64 0] 50) ∧ ansBlock W WC.heap.size 0 0 0 0 ∧ Below WC.heap.size WC W := ⟨_, rfl, ansBlock.new _ 0 0 0 0, below1 _ _⟩
        rw [← hWCA]
        have hXa : WC.heap.size < WCA.heap.size := ya.lt
        have bWCA := Below.next bWC bn
        clear hWCA
        have r1 := r1.below bn
        have r2 := r2.below bn
        have hSWCA : WC.heap.size ≤ WCA.heap.size := bn.size
        refine hK.out _ _ bWCA (fun hHeld => ?_)
        clear hK K bn
        refine wpAnyH_ready (rs := [11]) (by kernel_rfl) (by simp) ?_
        refine AllReadyH.cons rfl (fun K hK => ?_) AllReadyH.nil
        · simp only [List.getElem_toArray, List.getElem_cons_zero, List.getElem_cons_succ]
          refine ite_wanted rfl ?_
          refine q_alloc_wp 5 rfl rfl ?_
          intro WCAQ zq bn
          have hXq : WCA.heap.size < WCAQ.heap.size := zq.lt
          have bWCAQ := Below.next bWCA bn
          have ya := ya.next bn
          have r1 := r1.below bn
          have r2 := r2.below bn
          have hSWCAQ : WCA.heap.size ≤ WCAQ.heap.size := bn.size
          refine hK.out _ _ bWCAQ (fun hHeld => ?_)
          clear hK K bn
          refine wpAnyH_ready (rs := [13]) (by kernel_rfl) (by simp) ?_
          refine AllReadyH.cons rfl (fun K hK => ?_) AllReadyH.nil
          simp only [List.getElem_toArray, List.getElem_cons_zero, List.getElem_cons_succ]
          refine ite_wanted rfl ?_
          refine q_store_wp (ra := b1') (la := b2') (ws' := vs') _ _ rfl rfl rfl zq hW'' ?_
          intro Wq q5 t5
          have ya5 := ya.turned t5 (by omega)
          have r15 := t5.row r1 (fun x hx h0 => by have := f1 x hx; have := hr1 x hx h0; omega)
          have r25 := t5.row r2 (fun x hx h0 => by have := f2 x hx; have := hr2 x hx h0; omega)
          have b5 := t5.under bWCAQ (by omega)
          refine hK.out _ _ b5 (fun hHeld => ?_)
          clear hK K
          refine wpAnyH_ready (rs := [14]) (by kernel_rfl) (by simp) ?_
          refine AllReadyH.cons rfl (fun K hK => ?_) AllReadyH.nil
          simp only [List.getElem_toArray, List.getElem_cons_zero, List.getElem_cons_succ]
          obtain ⟨y0, y1, y2, y3⟩ := ya5.cells
          have yf := ya5.free
          go_simp
          have t6 := ans_turned Wq (WC.heap.size) an'.c an'.he an'.no an'.bd
          have ya6 := ya5.store an'.c an'.he an'.no an'.bd
          have q6 := t6.queue q5 (by omega)
          have b6 := t6.under b5 (by omega)
          have X6 : Bx _ (WCA.heap.size) s' b1' d1' b2' d2' vs' := ⟨q6, t6.row r15 (fun x hx h0 => by have := f1 x hx; have := hr1 x hx h0; omega), t6.row r25 (fun x hx h0 => by have := f2 x hx; have := hr2 x hx h0; omega), n1, n2, hW''⟩
          unfold ansStore at ya6 X6 b6
          refine hK.out _ _ b6 (fun hHeld => ?_)
          clear hK K y0 y1 y2 y3 yf q6 t6
          generalize (((Wq.setCell ⟨WC.heap.size, 0, none⟩ (.int .i64 an'.c)).setCell ⟨WC.heap.size, 1, none⟩ (.int .i64 an'.he)).setCell ⟨WC.heap.size, 2, none⟩ (.int .i64 an'.no)).setCell ⟨WC.heap.size, 3, none⟩ (.int .i64 an'.bd) = W6 at ya6 X6 b6 hHeld ⊢
          refine wpAnyH_take (i := 15) (v := .bool ch) rfl (by kernel_rfl) (by kernel_rfl) (by kernel_rfl) (fun _ _ _ h => h) (Or.inl ⟨by rfl, fun _ _ => by go_simp⟩) hHeld ?_
          simp only [List.getElem_toArray, List.getElem_cons_zero, List.getElem_cons_succ, Act.put, List.setIfInBounds_toArray, List.set_cons_zero, List.set_cons_succ]
          refine wpAnyH_take (i := 16) (v := .int .i64 er) rfl (by kernel_rfl) (by kernel_rfl) (by kernel_rfl) (fun _ _ _ h => h) (Or.inl ⟨by rfl, fun _ _ => by go_simp⟩) hHeld ?_
          simp only [List.getElem_toArray, List.getElem_cons_zero, List.getElem_cons_succ, Act.put, List.setIfInBounds_toArray, List.set_cons_zero, List.set_cons_succ]
          refine wpAnyH_done (by kernel_rfl) ?_ _
          go_wp2_with fail
          go_meet
          exact ⟨s', an', ch, er, _, _, _, _, _, _, _, rfl, rfl, rfl, rfl, unveil HST, X6, ya6, b6, by omega, by omega, fun x hx => by have := f1 x hx; omega, fun x hx => by have := f2 x hx; omega, l1', l2'⟩
    · simp only [List.getElem_toArray, List.getElem_cons_zero, List.getElem_cons_succ]
      refine ite_wanted rfl ?_
      refine q_alloc_wp 5 rfl rfl ?_
      intro WQ zq bn
      have hXq : W0.heap.size < WQ.heap.size := zq.lt
      have bWQ := Below.next bW0 bn
      have hSWQ : W0.heap.size ≤ WQ.heap.size := bn.size
      refine hK.out _ _ bWQ (fun hHeld => ?_)
      clear hK K bn
      refine wpAnyH_ready (rs := [5, 12]) (by kernel_rfl) (by simp) ?_
      refine AllReadyH.cons rfl (fun K hK => ?_) (AllReadyH.cons rfl (fun K hK => ?_) AllReadyH.nil)
      · simp only [List.getElem_toArray, List.getElem_cons_zero, List.getElem_cons_succ]
        go_simp
        refine (unveil HDo _ bWQ).mono ?_
        rintro e WQC ⟨s', an', ch, er, x', rfl, hst, ⟨⟨b1', d1', b2', d2', vs', rfl, r1, r2, l1', l2', n1, n2, hW'', f1, f2⟩⟩, bn⟩
        have HST := veil hst
        clear hst
        have hr1 := fun x hx h0 => r1.blk_lt x hx h0
        have hr2 := fun x hx h0 => r2.blk_lt x hx h0
        have bWQC := Below.next bWQ bn
        have zq := zq.next bn
        have hSWQC : WQ.heap.size ≤ WQC.heap.size := bn.size
        refine hK.out _ _ bWQC (fun hHeld => ?_)
        clear hK K bn
        refine wpAnyH_take (i := 6) (v := .tuple #[qVal s'.ep s'.nx s'.gv (.slice b1' s'.rn d1') (.slice b2' s'.ln d2') vs', anOf an', .bool ch, .int .i64 er]) rfl (by kernel_rfl) (by kernel_rfl) (by kernel_rfl) (fun _ _ _ h => h) (Or.inl ⟨by rfl, fun _ _ => by go_simp⟩) hHeld ?_
        simp only [List.getElem_toArray, List.getElem_cons_zero, List.getElem_cons_succ, Act.put, List.setIfInBounds_toArray, List.set_cons_zero, List.set_cons_succ]
        refine wpAnyH_take (i := 7) (v := qVal s'.ep s'.nx s'.gv (.slice b1' s'.rn d1') (.slice b2' s'.ln d2') vs') rfl (by kernel_rfl) (by kernel_rfl) (by kernel_rfl) (fun _ _ _ h => h) (Or.inl ⟨by rfl, fun _ _ => by go_simp⟩) hHeld ?_
        simp only [List.getElem_toArray, List.getElem_cons_zero, List.getElem_cons_succ, Act.put, List.setIfInBounds_toArray, List.set_cons_zero, List.set_cons_succ]
        refine wpAnyH_take (i := 8) (v := anOf an') rfl (by kernel_rfl) (by kernel_rfl) (by kernel_rfl) (fun _ _ _ h => h) (Or.inl ⟨by rfl, fun _ _ => by go_simp⟩) hHeld ?_
        simp only [List.getElem_toArray, List.getElem_cons_zero, List.getElem_cons_succ, Act.put, List.setIfInBounds_toArray, List.set_cons_zero, List.set_cons_succ]
        refine wpAnyH_take (i := 9) (v := .bool ch) rfl (by kernel_rfl) (by kernel_rfl) (by kernel_rfl) (fun _ _ _ h => h) (Or.inl ⟨by rfl, fun _ _ => by go_simp⟩) hHeld ?_
        simp only [List.getElem_toArray, List.getElem_cons_zero, List.getElem_cons_succ, Act.put, List.setIfInBounds_toArray, List.set_cons_zero, List.set_cons_succ]
        refine wpAnyH_take (i := 10) (v := .int .i64 er) rfl (by kernel_rfl) (by kernel_rfl) (by kernel_rfl) (fun _ _ _ h => h) (Or.inl ⟨by rfl, fun _ _ => by go_simp⟩) hHeld ?_
        simp only [List.getElem_toArray, List.getElem_cons_zero, List.getElem_cons_succ, Act.put, List.setIfInBounds_toArray, List.set_cons_zero, List.set_cons_succ]
        refine wpAnyH_ready (rs := [12]) (by kernel_rfl) (by simp) ?_
        refine AllReadyH.cons rfl (fun K hK => ?_) AllReadyH.nil
        · simp only [List.getElem_toArray, List.getElem_cons_zero, List.getElem_cons_succ]
          go_simp
          obtain ⟨WQCA, hWQCA, ya, bn⟩ : ∃ W, W = WQC.alloc (.cells #[.int .i64 0, .int .i64 0, .int .i64 0, .int .i64 0] 50) ∧ ansBlock W WQC.heap.size 0 0 0 0 ∧ Below WQC.heap.size WQC W := ⟨_, rfl, ansBlock.new _ 0 0 0 0, below1 _ _⟩
          rw [← hWQCA]
          have hXa : WQC.heap.size < WQCA.heap.size := ya.lt
          have bWQCA := Below.next bWQC bn
          clear hWQCA
          have zq := zq.next bn
          have r1 := r1.below bn
          have r2 := r2.below bn
          have hSWQCA : WQC.heap.size ≤ WQCA.heap.size := bn.size
          refine hK.out _ _ bWQCA (fun hHeld => ?_)
          clear hK K bn
          refine wpAnyH_ready (rs := [13]) (by kernel_rfl) (by simp) ?_
          refine AllReadyH.cons rfl (fun K hK => ?_) AllReadyH.nil
          simp only [List.getElem_toArray, List.getElem_cons_zero, List.getElem_cons_succ]
          refine ite_wanted rfl ?_
          refine q_store_wp (ra := b1') (la := b2') (ws' := vs') _ _ rfl rfl rfl zq hW'' ?_
          intro Wq q5 t5
          have ya5 := ya.turned t5 (by omega)
          have r15 := t5.row r1 (fun x hx h0 => by have := f1 x hx; have := hr1 x hx h0; omega)
          have r25 := t5.row r2 (fun x hx h0 => by have := f2 x hx; have := hr2 x hx h0; omega)
          have b5 := t5.under bWQCA (by omega)
          refine hK.out _ _ b5 (fun hHeld => ?_)
          clear hK K
          refine wpAnyH_ready (rs := [14]) (by kernel_rfl) (by simp) ?_
          refine AllReadyH.cons rfl (fun K hK => ?_) AllReadyH.nil
          simp only [List.getElem_toArray, List.getElem_cons_zero, List.getElem_cons_succ]
          obtain ⟨y0, y1, y2, y3⟩ := ya5.cells
          have yf := ya5.free
          go_simp
          have t6 := ans_turned Wq (WQC.heap.size) an'.c an'.he an'.no an'.bd
          have ya6 := ya5.store an'.c an'.he an'.no an'.bd
          have q6 := t6.queue q5 (by omega)
          have b6 := t6.under b5 (by omega)
          have X6 : Bx _ (W0.heap.size) s' b1' d1' b2' d2' vs' := ⟨q6, t6.row r15 (fun x hx h0 => by have := f1 x hx; have := hr1 x hx h0; omega), t6.row r25 (fun x hx h0 => by have := f2 x hx; have := hr2 x hx h0; omega), n1, n2, hW''⟩
          unfold ansStore at ya6 X6 b6
          refine hK.out _ _ b6 (fun hHeld => ?_)
          clear hK K y0 y1 y2 y3 yf q6 t6
          generalize (((Wq.setCell ⟨WQC.heap.size, 0, none⟩ (.int .i64 an'.c)).setCell ⟨WQC.heap.size, 1, none⟩ (.int .i64 an'.he)).setCell ⟨WQC.heap.size, 2, none⟩ (.int .i64 an'.no)).setCell ⟨WQC.heap.size, 3, none⟩ (.int .i64 an'.bd) = W6 at ya6 X6 b6 hHeld ⊢
          refine wpAnyH_take (i := 15) (v := .bool ch) rfl (by kernel_rfl) (by kernel_rfl) (by kernel_rfl) (fun _ _ _ h => h) (Or.inl ⟨by rfl, fun _ _ => by go_simp⟩) hHeld ?_
          simp only [List.getElem_toArray, List.getElem_cons_zero, List.getElem_cons_succ, Act.put, List.setIfInBounds_toArray, List.set_cons_zero, List.set_cons_succ]
          refine wpAnyH_take (i := 16) (v := .int .i64 er) rfl (by kernel_rfl) (by kernel_rfl) (by kernel_rfl) (fun _ _ _ h => h) (Or.inl ⟨by rfl, fun _ _ => by go_simp⟩) hHeld ?_
          simp only [List.getElem_toArray, List.getElem_cons_zero, List.getElem_cons_succ, Act.put, List.setIfInBounds_toArray, List.set_cons_zero, List.set_cons_succ]
          refine wpAnyH_done (by kernel_rfl) ?_ _
          go_wp2_with fail
          go_meet
          exact ⟨s', an', ch, er, _, _, _, _, _, _, _, rfl, rfl, rfl, rfl, unveil HST, X6, ya6, b6, by omega, by omega, fun x hx => by have := f1 x hx; omega, fun x hx => by have := f2 x hx; omega, l1', l2'⟩
      · simp only [List.getElem_toArray, List.getElem_cons_zero, List.getElem_cons_succ]
        go_simp
        obtain ⟨WQA, hWQA, ya, bn⟩ : ∃ W, W = WQ.alloc (.cells #[.int .i64 0, .int .i64 0, .int .i64 0, .int .i64 0] 50) ∧ ansBlock W WQ.heap.size 0 0 0 0 ∧ Below WQ.heap.size WQ W := ⟨_, rfl, ansBlock.new _ 0 0 0 0, below1 _ _⟩
        rw [← hWQA]
        have hXa : WQ.heap.size < WQA.heap.size := ya.lt
        have bWQA := Below.next bWQ bn
        clear hWQA
        have zq := zq.next bn
        have hSWQA : WQ.heap.size ≤ WQA.heap.size := bn.size
        refine hK.out _ _ bWQA (fun hHeld => ?_)
        clear hK K bn
        refine wpAnyH_ready (rs := [5]) (by kernel_rfl) (by simp) ?_
        refine AllReadyH.cons rfl (fun K hK => ?_) AllReadyH.nil
        · simp only [List.getElem_toArray, List.getElem_cons_zero, List.getElem_cons_succ]
          go_simp
          refine (unveil HDo _ bWQA).mono ?_
          rintro e WQAC ⟨s', an', ch, er, x', rfl, hst, ⟨⟨b1', d1', b2', d2', vs', rfl, r1, r2, l1', l2', n1, n2, hW'', f1, f2⟩⟩, bn⟩
          have HST := veil hst
          clear hst
          have hr1 := fun x hx h0 => r1.blk_lt x hx h0
          have hr2 := fun x hx h0 => r2.blk_lt x hx h0
          have bWQAC := Below.next bWQA bn
          have zq := zq.next bn
          have ya := ya.next bn
          have hSWQAC : WQA.heap.size ≤ WQAC.heap.size := bn.size
          refine hK.out _ _ bWQAC (fun hHeld => ?_)
          clear hK K bn
          refine wpAnyH_take (i := 6) (v := .tuple #[qVal s'.ep s'.nx s'.gv (.slice b1' s'.rn d1') (.slice b2' s'.ln d2') vs', anOf an', .bool ch, .int .i64 er]) rfl (by kernel_rfl) (by kernel_rfl) (by kernel_rfl) (fun _ _ _ h => h) (Or.inl ⟨by rfl, fun _ _ => by go_simp⟩) hHeld ?_
          simp only [List.getElem_toArray, List.getElem_cons_zero, List.getElem_cons_succ, Act.put, List.setIfInBounds_toArray, List.set_cons_zero, List.set_cons_succ]
          refine wpAnyH_take (i := 7) (v := qVal s'.ep s'.nx s'.gv (.slice b1' s'.rn d1') (.slice b2' s'.ln d2') vs') rfl (by kernel_rfl) (by kernel_rfl) (by kernel_rfl) (fun _ _ _ h => h) (Or.inl ⟨by rfl, fun _ _ => by go_simp⟩) hHeld ?_
          simp only [List.getElem_toArray, List.getElem_cons_zero, List.getElem_cons_succ, Act.put, List.setIfInBounds_toArray, List.set_cons_zero, List.set_cons_succ]
          refine wpAnyH_take (i := 8) (v := anOf an') rfl (by kernel_rfl) (by kernel_rfl) (by kernel_rfl) (fun _ _ _ h => h) (Or.inl ⟨by rfl, fun _ _ => by go_simp⟩) hHeld ?_
          simp only [List.getElem_toArray, List.getElem_cons_zero, List.getElem_cons_succ, Act.put, List.setIfInBounds_toArray, List.set_cons_zero, List.set_cons_succ]
          refine wpAnyH_take (i := 9) (v := .bool ch) rfl (by kernel_rfl) (by kernel_rfl) (by kernel_rfl) (fun _ _ _ h => h) (Or.inl ⟨by rfl, fun _ _ => by go_simp⟩) hHeld ?_
          simp only [List.getElem_toArray, List.getElem_cons_zero, List.getElem_cons_succ, Act.put, List.setIfInBounds_toArray, List.set_cons_zero, List.set_cons_succ]
          refine wpAnyH_take (i := 10) (v := .int .i64 er) rfl (by kernel_rfl) (by kernel_rfl) (by kernel_rfl) (fun _ _ _ h => h) (Or.inl ⟨by rfl, fun _ _ => by go_simp⟩) hHeld ?_
          simp only [List.getElem_toArray, List.getElem_cons_zero, List.getElem_cons_succ, Act.put, List.setIfInBounds_toArray, List.set_cons_zero, List.set_cons_succ]
          refine wpAnyH_ready (rs := [13]) (by kernel_rfl) (by simp) ?_
          refine AllReadyH.cons rfl (fun K hK => ?_) AllReadyH.nil
          simp only [List.getElem_toArray, List.getElem_cons_zero, List.getElem_cons_succ]
          refine ite_wanted rfl ?_
          refine q_store_wp (ra := b1') (la := b2') (ws' := vs') _ _ rfl rfl rfl zq hW'' ?_
          intro Wq q5 t5
          have ya5 := ya.turned t5 (by omega)
          have r15 := t5.row r1 (fun x hx h0 => by have := f1 x hx; have := hr1 x hx h0; omega)
          have r25 := t5.row r2 (fun x hx h0 => by have := f2 x hx; have := hr2 x hx h0; omega)
          have b5 := t5.under bWQAC (by omega)
          refine hK.out _ _ b5 (fun hHeld => ?_)
          clear hK K
          refine wpAnyH_ready (rs := [14]) (by kernel_rfl) (by simp) ?_
          refine AllReadyH.cons rfl (fun K hK => ?_) AllReadyH.nil
          simp only [List.getElem_toArray, List.getElem_cons_zero, List.getElem_cons_succ]
          obtain ⟨y0, y1, y2, y3⟩ := ya5.cells
          have yf := ya5.free
          go_simp
          have t6 := ans_turned Wq (WQ.heap.size) an'.c an'.he an'.no an'.bd
          have ya6 := ya5.store an'.c an'.he an'.no an'.bd
          have q6 := t6.queue q5 (by omega)
          have b6 := t6.under b5 (by omega)
          have X6 : Bx _ (W0.heap.size) s' b1' d1' b2' d2' vs' := ⟨q6, t6.row r15 (fun x hx h0 => by have := f1 x hx; have := hr1 x hx h0; omega), t6.row r25 (fun x hx h0 => by have := f2 x hx; have := hr2 x hx h0; omega), n1, n2, hW''⟩
          unfold ansStore at ya6 X6 b6
          refine hK.out _ _ b6 (fun hHeld => ?_)
          clear hK K y0 y1 y2 y3 yf q6 t6
          generalize (((Wq.setCell ⟨WQ.heap.size, 0, none⟩ (.int .i64 an'.c)).setCell ⟨WQ.heap.size, 1, none⟩ (.int .i64 an'.he)).setCell ⟨WQ.heap.size, 2, none⟩ (.int .i64 an'.no)).setCell ⟨WQ.heap.size, 3, none⟩ (.int .i64 an'.bd) = W6 at ya6 X6 b6 hHeld ⊢
          refine wpAnyH_take (i := 15) (v := .bool ch) rfl (by kernel_rfl) (by kernel_rfl) (by kernel_rfl) (fun _ _ _ h => h) (Or.inl ⟨by rfl, fun _ _ => by go_simp⟩) hHeld ?_
          simp only [List.getElem_toArray, List.getElem_cons_zero, List.getElem_cons_succ, Act.put, List.setIfInBounds_toArray, List.set_cons_zero, List.set_cons_succ]
          refine wpAnyH_take (i := 16) (v := .int .i64 er) rfl (by kernel_rfl) (by kernel_rfl) (by kernel_rfl) (fun _ _ _ h => h) (Or.inl ⟨by rfl, fun _ _ => by go_simp⟩) hHeld ?_
          simp only [List.getElem_toArray, List.getElem_cons_zero, List.getElem_cons_succ, Act.put, List.setIfInBounds_toArray, List.set_cons_zero, List.set_cons_succ]
          refine wpAnyH_done (by kernel_rfl) ?_ _
          go_wp2_with fail
          go_meet
          exact ⟨s', an', ch, er, _, _, _, _, _, _, _, rfl, rfl, rfl, rfl, unveil HST, X6, ya6, b6, by omega, by omega, fun x hx => by have := f1 x hx; omega, fun x hx => by have := f2 x hx; omega, l1', l2'⟩
    · simp only [List.getElem_toArray, List.getElem_cons_zero, List.getElem_cons_succ]
      go_simp
      obtain ⟨WA, hWA, ya, bn⟩ : ∃ W, W = W0.alloc (.cells #[.int .i64 0, .int .i64 0, .int .i64 0, .int .i64 0] 50) ∧ ansBlock W W0.heap.size 0 0 0 0 ∧ Below W0.heap.size W0 W := ⟨_, rfl, ansBlock.new _ 0 0 0 0, below1 _ _⟩
      rw [← hWA]
      have hXa : W0.heap.size < WA.heap.size := ya.lt
      have bWA := Below.next bW0 bn
      clear hWA
      have hSWA : W0.heap.size ≤ WA.heap.size := bn.size
      refine hK.out _ _ bWA (fun hHeld => ?_)
      clear hK K bn
      refine wpAnyH_ready (rs := [5, 11]) (by kernel_rfl) (by simp) ?_
      refine AllReadyH.cons rfl (fun K hK => ?_) (AllReadyH.cons rfl (fun K hK => ?_) AllReadyH.nil)
      · simp only [List.getElem_toArray, List.getElem_cons_zero, List.getElem_cons_succ]
        go_simp
        refine (unveil HDo _ bWA).mono ?_
        rintro e WAC ⟨s', an', ch, er, x', rfl, hst, ⟨⟨b1', d1', b2', d2', vs', rfl, r1, r2, l1', l2', n1, n2, hW'', f1, f2⟩⟩, bn⟩
        have HST := veil hst
        clear hst
        have hr1 := fun x hx h0 => r1.blk_lt x hx h0
        have hr2 := fun x hx h0 => r2.blk_lt x hx h0
        have bWAC := Below.next bWA bn
        have ya := ya.next bn
        have hSWAC : WA.heap.size ≤ WAC.heap.size := bn.size
        refine hK.out _ _ bWAC (fun hHeld => ?_)
        clear hK K bn
        refine wpAnyH_take (i := 6) (v := .tuple #[qVal s'.ep s'.nx s'.gv (.slice b1' s'.rn d1') (.slice b2' s'.ln d2') vs', anOf an', .bool ch, .int .i64 er]) rfl (by kernel_rfl) (by kernel_rfl) (by kernel_rfl) (fun _ _ _ h => h) (Or.inl ⟨by rfl, fun _ _ => by go_simp⟩) hHeld ?_
        simp only [List.getElem_toArray, List.getElem_cons_zero, List.getElem_cons_succ, Act.put, List.setIfInBounds_toArray, List.set_cons_zero, List.set_cons_succ]
        refine wpAnyH_take (i := 7) (v := qVal s'.ep s'.nx s'.gv (.slice b1' s'.rn d1') (.slice b2' s'.ln d2') vs') rfl (by kernel_rfl) (by kernel_rfl) (by kernel_rfl) (fun _ _ _ h => h) (Or.inl ⟨by rfl, fun _ _ => by go_simp⟩) hHeld ?_
        simp only [List.getElem_toArray, List.getElem_cons_zero, List.getElem_cons_succ, Act.put, List.setIfInBounds_toArray, List.set_cons_zero, List.set_cons_succ]
        refine wpAnyH_take (i := 8) (v := anOf an') rfl (by kernel_rfl) (by kernel_rfl) (by kernel_rfl) (fun _ _ _ h => h) (Or.inl ⟨by rfl, fun _ _ => by go_simp⟩) hHeld ?_
        simp only [List.getElem_toArray, List.getElem_cons_zero, List.getElem_cons_succ, Act.put, List.setIfInBounds_toArray, List.set_cons_zero, List.set_cons_succ]
        refine wpAnyH_take (i := 9) (v := .bool ch) rfl (by kernel_rfl) (by kernel_rfl) (by kernel_rfl) (fun _ _ _ h => h) (Or.inl ⟨by rfl, fun _ _ => by go_simp⟩) hHeld ?_
        simp only [List.getElem_toArray, List.getElem_cons_zero, List.getElem_cons_succ, Act.put, List.setIfInBounds_toArray, List.set_cons_zero, List.set_cons_succ]
        refine wpAnyH_take (i := 10) (v := .int .i64 er) rfl (by kernel_rfl) (by kernel_rfl) (by kernel_rfl) (fun _ _ _ h => h) (Or.inl ⟨by rfl, fun _ _ => by go_simp⟩) hHeld ?_
        simp only [List.getElem_toArray, List.getElem_cons_zero, List.getElem_cons_succ, Act.put, List.setIfInBounds_toArray, List.set_cons_zero, List.set_cons_succ]
        refine wpAnyH_ready (rs := [11]) (by kernel_rfl) (by simp) ?_
        refine AllReadyH.cons rfl (fun K hK => ?_) AllReadyH.nil
        · simp only [List.getElem_toArray, List.getElem_cons_zero, List.getElem_cons_succ]
          refine ite_wanted rfl ?_
          refine q_alloc_wp 5 rfl rfl ?_
          intro WACQ zq bn
          have hXq : WAC.heap.size < WACQ.heap.size := zq.lt
          have bWACQ := Below.next bWAC bn
          have ya := ya.next bn
          have r1 := r1.below bn
          have r2 := r2.below bn
          have hSWACQ : WAC.heap.size ≤ WACQ.heap.size := bn.size
          refine hK.out _ _ bWACQ (fun hHeld => ?_)
          clear hK K bn
          refine wpAnyH_ready (rs := [13]) (by kernel_rfl) (by simp) ?_
          refine AllReadyH.cons rfl (fun K hK => ?_) AllReadyH.nil
          simp only [List.getElem_toArray, List.getElem_cons_zero, List.getElem_cons_succ]
          refine ite_wanted rfl ?_
          refine q_store_wp (ra := b1') (la := b2') (ws' := vs') _ _ rfl rfl rfl zq hW'' ?_
          intro Wq q5 t5
          have ya5 := ya.turned t5 (by omega)
          have r15 := t5.row r1 (fun x hx h0 => by have := f1 x hx; have := hr1 x hx h0; omega)
          have r25 := t5.row r2 (fun x hx h0 => by have := f2 x hx; have := hr2 x hx h0; omega)
          have b5 := t5.under bWACQ (by omega)
          refine hK.out _ _ b5 (fun hHeld => ?_)
          clear hK K
          refine wpAnyH_ready (rs := [14]) (by kernel_rfl) (by simp) ?_
          refine AllReadyH.cons rfl (fun K hK => ?_) AllReadyH.nil
          simp only [List.getElem_toArray, List.getElem_cons_zero, List.getElem_cons_succ]
          obtain ⟨y0, y1, y2, y3⟩ := ya5.cells
          have yf := ya5.free
          go_simp
          have t6 := ans_turned Wq (W0.heap.size) an'.c an'.he an'.no an'.bd
          have ya6 := ya5.store an'.c an'.he an'.no an'.bd
          have q6 := t6.queue q5 (by omega)
          have b6 := t6.under b5 (by omega)
          have X6 : Bx _ (WAC.heap.size) s' b1' d1' b2' d2' vs' := ⟨q6, t6.row r15 (fun x hx h0 => by have := f1 x hx; have := hr1 x hx h0; omega), t6.row r25 (fun x hx h0 => by have := f2 x hx; have := hr2 x hx h0; omega), n1, n2, hW''⟩
          unfold ansStore at ya6 X6 b6
          refine hK.out _ _ b6 (fun hHeld => ?_)
          clear hK K y0 y1 y2 y3 yf q6 t6
          generalize (((Wq.setCell ⟨W0.heap.size, 0, none⟩ (.int .i64 an'.c)).setCell ⟨W0.heap.size, 1, none⟩ (.int .i64 an'.he)).setCell ⟨W0.heap.size, 2, none⟩ (.int .i64 an'.no)).setCell ⟨W0.heap.size, 3, none⟩ (.int .i64 an'.bd) = W6 at ya6 X6 b6 hHeld ⊢
          refine wpAnyH_take (i := 15) (v := .bool ch) rfl (by kernel_rfl) (by kernel_rfl) (by kernel_rfl) (fun _ _ _ h => h) (Or.inl ⟨by rfl, fun _ _ => by go_simp⟩) hHeld ?_
          simp only [List.getElem_toArray, List.getElem_cons_zero, List.getElem_cons_succ, Act.put, List.setIfInBounds_toArray, List.set_cons_zero, List.set_cons_succ]
          refine wpAnyH_take (i := 16) (v := .int .i64 er) rfl (by kernel_rfl) (by kernel_rfl) (by kernel_rfl) (fun _ _ _ h => h) (Or.inl ⟨by rfl, fun _ _ => by go_simp⟩) hHeld ?_
          simp only [List.getElem_toArray, List.getElem_cons_zero, List.getElem_cons_succ, Act.put, List.setIfInBounds_toArray, List.set_cons_zero, List.set_cons_succ]
          refine wpAnyH_done (by kernel_rfl) ?_ _
          go_wp2_with fail
          go_meet
          exact ⟨s', an', ch, er, _, _, _, _, _, _, _, rfl, rfl, rfl, rfl, unveil HST, X6, ya6, b6, by omega, by omega, fun x hx => by have := f1 x hx; omega, fun x hx => by have := f2 x hx; omega, l1', l2'⟩
      · simp only [List.getElem_toArray, List.getElem_cons_zero, List.getElem_cons_succ]
        refine ite_wanted rfl ?_
        refine q_alloc_wp 5 rfl rfl ?_
        intro WAQ zq bn
        have hXq : WA.heap.size < WAQ.heap.size := zq.lt
        have bWAQ := Below.next bWA bn
        have ya := ya.next bn
        have hSWAQ : WA.heap.size ≤ WAQ.heap.size := bn.size
        refine hK.out _ _ bWAQ (fun hHeld => ?_)
        clear hK K bn
        refine wpAnyH_ready (rs := [5]) (by kernel_rfl) (by simp) ?_
        refine AllReadyH.cons rfl (fun K hK => ?_) AllReadyH.nil
        · simp only [List.getElem_toArray, List.getElem_cons_zero, List.getElem_cons_succ]
          go_simp
          refine (unveil HDo _ bWAQ).mono ?_
          rintro e WAQC ⟨s', an', ch, er, x', rfl, hst, ⟨⟨b1', d1', b2', d2', vs', rfl, r1, r2, l1', l2', n1, n2, hW'', f1, f2⟩⟩, bn⟩
          have HST := veil hst
          clear hst
          have hr1 := fun x hx h0 => r1.blk_lt x hx h0
          have hr2 := fun x hx h0 => r2.blk_lt x hx h0
          have bWAQC := Below.next bWAQ bn
          have zq := zq.next bn
          have ya := ya.next bn
          have hSWAQC : WAQ.heap.size ≤ WAQC.heap.size := bn.size
          refine hK.out _ _ bWAQC (fun hHeld => ?_)
          clear hK K bn
          refine wpAnyH_take (i := 6) (v := .tuple #[qVal s'.ep s'.nx s'.gv (.slice b1' s'.rn d1') (.slice b2' s'.ln d2') vs', anOf an', .bool ch, .int .i64 er]) rfl (by kernel_rfl) (by kernel_rfl) (by kernel_rfl) (fun _ _ _ h => h) (Or.inl ⟨by rfl, fun _ _ => by go_simp⟩) hHeld ?_
          simp only [List.getElem_toArray, List.getElem_cons_zero, List.getElem_cons_succ, Act.put, List.setIfInBounds_toArray, List.set_cons_zero, List.set_cons_succ]
          refine wpAnyH_take (i := 7) (v := qVal s'.ep s'.nx s'.gv (.slice b1' s'.rn d1') (.slice b2' s'.ln d2') vs') rfl (by kernel_rfl) (by kernel_rfl) (by kernel_rfl) (fun _ _ _ h => h) (Or.inl ⟨by rfl, fun _ _ => by go_simp⟩) hHeld ?_
          simp only [List.getElem_toArray, List.getElem_cons_zero, List.getElem_cons_succ, Act.put, List.setIfInBounds_toArray, List.set_cons_zero, List.set_cons_succ]
          refine wpAnyH_take (i := 8) (v := anOf an') rfl (by kernel_rfl) (by kernel_rfl) (by kernel_rfl) (fun _ _ _ h => h) (Or.inl ⟨by rfl, fun _ _ => by go_simp⟩) hHeld ?_
          simp only [List.getElem_toArray, List.getElem_cons_zero, List.getElem_cons_succ, Act.put, List.setIfInBounds_toArray, List.set_cons_zero, List.set_cons_succ]
          refine wpAnyH_take (i := 9) (v := .bool ch) rfl (by kernel_rfl) (by kernel_rfl) (by kernel_rfl) (fun _ _ _ h => h) (Or.inl ⟨by rfl, fun _ _ => by go_simp⟩) hHeld ?_
          simp only [List.getElem_toArray, List.getElem_cons_zero, List.getElem_cons_succ, Act.put, List.setIfInBounds_toArray, List.set_cons_zero, List.set_cons_succ]
          refine wpAnyH_take (i := 10) (v := .int .i64 er) rfl (by kernel_rfl) (by kernel_rfl) (by kernel_rfl) (fun _ _ _ h => h) (Or.inl ⟨by rfl, fun _ _ => by go_simp⟩) hHeld ?_
          simp only [List.getElem_toArray, List.getElem_cons_zero, List.getElem_cons_succ, Act.put, List.setIfInBounds_toArray, List.set_cons_zero, List.set_cons_succ]
          refine wpAnyH_ready (rs := [13]) (by kernel_rfl) (by simp) ?_
          refine AllReadyH.cons rfl (fun K hK => ?_) AllReadyH.nil
          simp only [List.getElem_toArray, List.getElem_cons_zero, List.getElem_cons_succ]
          refine ite_wanted rfl ?_
          refine q_store_wp (ra := b1') (la := b2') (ws' := vs') _ _ rfl rfl rfl zq hW'' ?_
          intro Wq q5 t5
          have ya5 := ya.turned t5 (by omega)
          have r15 := t5.row r1 (fun x hx h0 => by have := f1 x hx; have := hr1 x hx h0; omega)
          have r25 := t5.row r2 (fun x hx h0 => by have := f2 x hx; have := hr2 x hx h0; omega)
          have b5 := t5.under bWAQC (by omega)
          refine hK.out _ _ b5 (fun hHeld => ?_)
          clear hK K
          refine wpAnyH_ready (rs := [14]) (by kernel_rfl) (by simp) ?_
          refine AllReadyH.cons rfl (fun K hK => ?_) AllReadyH.nil
          simp only [List.getElem_toArray, List.getElem_cons_zero, List.getElem_cons_succ]
          obtain ⟨y0, y1, y2, y3⟩ := ya5.cells
          have yf := ya5.free
          go_simp
          have t6 := ans_turned Wq (W0.heap.size) an'.c an'.he an'.no an'.bd
          have ya6 := ya5.store an'.c an'.he an'.no an'.bd
          have q6 := t6.queue q5 (by omega)
          have b6 := t6.under b5 (by omega)
          have X6 : Bx _ (WA.heap.size) s' b1' d1' b2' d2' vs' := ⟨q6, t6.row r15 (fun x hx h0 => by have := f1 x hx; have := hr1 x hx h0; omega), t6.row r25 (fun x hx h0 => by have := f2 x hx; have := hr2 x hx h0; omega), n1, n2, hW''⟩
          unfold ansStore at ya6 X6 b6
          refine hK.out _ _ b6 (fun hHeld => ?_)
          clear hK K y0 y1 y2 y3 yf q6 t6
          generalize (((Wq.setCell ⟨W0.heap.size, 0, none⟩ (.int .i64 an'.c)).setCell ⟨W0.heap.size, 1, none⟩ (.int .i64 an'.he)).setCell ⟨W0.heap.size, 2, none⟩ (.int .i64 an'.no)).setCell ⟨W0.heap.size, 3, none⟩ (.int .i64 an'.bd) = W6 at ya6 X6 b6 hHeld ⊢
          refine wpAnyH_take (i := 15) (v := .bool ch) rfl (by kernel_rfl) (by kernel_rfl) (by kernel_rfl) (fun _ _ _ h => h) (Or.inl ⟨by rfl, fun _ _ => by go_simp⟩) hHeld ?_
          simp only [List.getElem_toArray, List.getElem_cons_zero, List.getElem_cons_succ, Act.put, List.setIfInBounds_toArray, List.set_cons_zero, List.set_cons_succ]
          refine wpAnyH_take (i := 16) (v := .int .i64 er) rfl (by kernel_rfl) (by kernel_rfl) (by kernel_rfl) (fun _ _ _ h => h) (Or.inl ⟨by rfl, fun _ _ => by go_simp⟩) hHeld ?_
          simp only [List.getElem_toArray, List.getElem_cons_zero, List.getElem_cons_succ, Act.put, List.setIfInBounds_toArray, List.set_cons_zero, List.set_cons_succ]
          refine wpAnyH_done (by kernel_rfl) ?_ _
          go_wp2_with fail
          go_meet
          exact ⟨s', an', ch, er, _, _, _, _, _, _, _, rfl, rfl, rfl, rfl, unveil HST, X6, ya6, b6, by omega, by omega, fun x hx => by have := f1 x hx; omega, fun x hx => by have := f2 x hx; omega, l1', l2'⟩
  case rest =>
    obtain ⟨s', an', ch, er, X, A, b1', d1', b2', d2', vs', rfl, rfl, rfl, rfl, hst, X2, A2, b2, hX, hA, f1, f2, hl1, hl2⟩ := hcut
    have HL1 := veil hl1
    have HL2 := veil hl2
    clear hl1 hl2
    obtain ⟨W2, hW2⟩ : ∃ W2, W2 = wc := ⟨_, rfl⟩
    subst hW2
    have O2 : Off R w0.heap.size w0 W2 := Off.below ((unveil HB1).trans (b2.mono (unveil HB1).size))
    have HST := veil hst
    have T2 := (unveil HT1).next b2
    have her : er = 0 ∨ (¬ er = 0 ∧ ch = false) := hst.err
    clear v0 v1 v2 v3 v4 v5 tb hst HDo
    rcases her with her | ⟨her, hch⟩
    case inr =>
      subst hch
      have HT2 := veil T2
      have HO2 := veil O2
      clear X2 A2 T2 O2
      go_wp2
      go_ret
      exact ⟨s', an', false, er, rfl, unveil HST, fun h => (by cases h), fun _ => unveil HT2, unveil HO2⟩
    case inl =>
    subst her
    cases ch with
    | false =>
      have HT2 := veil T2
      have HO2 := veil O2
      clear X2 A2 T2 O2
      go_wp2
      go_ret
      exact ⟨s', an', false, 0, rfl, unveil HST, fun h => (by cases h), fun _ => unveil HT2, unveil HO2⟩
    | true =>
      go_upto_region 4 with fail
      obtain ⟨e1, k1, e2, k2, us, tb2, _⟩ := T2.ex
      have hRX : R ≠ X := by omega
      have hRA : R ≠ A := by omega
      have hXl := X2.q.lt
      have qx := X2.q
      have hw := X2.wins
      refine wp_region_held_drew (S := fun w' => qBlock w' X s'.ep s'.nx s'.gv (.slice b1' s'.rn d1') (.slice b2' s'.ln d2') vs' ∧ ansBlock w' A an'.c an'.he an'.no an'.bd) (by kernel_rfl) ⟨qx, A2⟩ (fun hHeld => ?_)
      have tb3 : tlBlock W2.drew R T s.ep s.nx s.gv (.slice e1 s.rn k1) (.slice e2 s.ln k2) us an.c an.he an.no an.bd tail := tb2
      have r13 := X2.r1.below (below_drew W2)
      have r23 := X2.r2.below (below_drew W2)
      have O3 : Off R w0.heap.size w0 W2.drew := ⟨O2.os, O2.tape, O2.output, O2.size, O2.block⟩
      obtain ⟨W3, hW3⟩ : ∃ W3, W3 = W2.drew := ⟨_, rfl⟩
      rw [← hW3] at tb3 r13 r23 O3 hHeld ⊢
      clear hW3 T2 O2 tb2
      refine wpAnyH_take (i := 0) (v := .pointer (some ⟨R, 0, none⟩)) rfl (by kernel_rfl) (by kernel_rfl) (by kernel_rfl) (fun _ _ _ h => h) (Or.inl ⟨by rfl, fun _ _ => by go_simp⟩) hHeld ?_
      simp only [List.getElem_toArray, List.getElem_cons_zero, Act.put, List.setIfInBounds_toArray, List.set_cons_zero, List.set_cons_succ]
      refine wpAnyH_take (i := 1) (v := .pointer (some ⟨R, 0, none⟩)) rfl (by kernel_rfl) (by kernel_rfl) (by kernel_rfl) (fun _ _ _ h => h) (Or.inl ⟨by rfl, fun _ _ => by go_simp⟩) hHeld ?_
      simp only [List.getElem_toArray, List.getElem_cons_zero, List.getElem_cons_succ, Act.put, List.setIfInBounds_toArray, List.set_cons_zero, List.set_cons_succ]
      refine wpAnyH_take (i := 2) (v := _) rfl (by kernel_rfl) (by kernel_rfl) (by kernel_rfl) (fun _ _ _ h => h) (yields_q _ rfl rfl rfl (fun _ h => h.1)) hHeld ?_
      simp only [List.getElem_toArray, List.getElem_cons_zero, List.getElem_cons_succ, Act.put, List.setIfInBounds_toArray, List.set_cons_zero, List.set_cons_succ]
      refine wpAnyH_take (i := 3) (v := _) rfl (by kernel_rfl) (by kernel_rfl) (by kernel_rfl) (fun _ _ _ h => h) (yields_a _ rfl rfl rfl (fun _ h => h.2)) hHeld ?_
      simp only [List.getElem_toArray, List.getElem_cons_zero, List.getElem_cons_succ, Act.put, List.setIfInBounds_toArray, List.set_cons_zero, List.set_cons_succ]
      refine wpAnyH_take (i := 4) (v := .pointer (some ⟨R, 0, none⟩)) rfl (by kernel_rfl) (by kernel_rfl) (by kernel_rfl) (fun _ _ _ h => h) (Or.inl ⟨by rfl, fun _ _ => by go_simp⟩) hHeld ?_
      simp only [List.getElem_toArray, List.getElem_cons_zero, List.getElem_cons_succ, Act.put, List.setIfInBounds_toArray, List.set_cons_zero, List.set_cons_succ]
      refine wpAnyH_take (i := 5) (v := .pointer (some ⟨R, 0, none⟩)) rfl (by kernel_rfl) (by kernel_rfl) (by kernel_rfl) (fun _ _ _ h => h) (Or.inl ⟨by rfl, fun _ _ => by go_simp⟩) hHeld ?_
      simp only [List.getElem_toArray, List.getElem_cons_zero, List.getElem_cons_succ, Act.put, List.setIfInBounds_toArray, List.set_cons_zero, List.set_cons_succ]
      refine wpAnyH_ready (rs := [6]) (by kernel_rfl) (by simp) ?_
      refine AllReadyH.cons rfl (fun K hK => ?_) AllReadyH.nil
      simp only [List.getElem_toArray, List.getElem_cons_zero, List.getElem_cons_succ]
      refine ite_wanted rfl ?_
      refine t_store_wp (ra := b1') (la := b2') (ws' := vs') _ _ rfl rfl rfl tb3 hw ?_
      intro W4 tb4 t4
      have q4 := t4.queue hHeld.1 (fun e => hRX e.symm)
      have A4 := hHeld.2.turned t4 (fun e => hRA e.symm)
      have r14 := t4.row r13 (fun x hx h0 => by have := f1 x hx; omega)
      have r24 := t4.row r23 (fun x hx h0 => by have := f2 x hx; omega)
      have O4 := O3.self t4
      refine hK.out _ _ ⟨q4, A4⟩ (fun hHeld => ?_)
      clear hK K
      refine wpAnyH_take (i := 7) (v := .pointer (some ⟨R, 0, none⟩)) rfl (by kernel_rfl) (by kernel_rfl) (by kernel_rfl) (fun _ _ _ h => h) (Or.inl ⟨by rfl, fun _ _ => by go_simp⟩) hHeld ?_
      simp only [List.getElem_toArray, List.getElem_cons_zero, List.getElem_cons_succ, Act.put, List.setIfInBounds_toArray, List.set_cons_zero, List.set_cons_succ]
      refine wpAnyH_take (i := 8) (v := .pointer (some ⟨R, 41, none⟩)) rfl (by kernel_rfl) (by kernel_rfl) (by kernel_rfl) (fun _ _ _ h => h) (Or.inl ⟨by rfl, fun _ _ => by go_simp⟩) hHeld ?_
      simp only [List.getElem_toArray, List.getElem_cons_zero, List.getElem_cons_succ, Act.put, List.setIfInBounds_toArray, List.set_cons_zero, List.set_cons_succ]
      refine wpAnyH_ready (rs := [9]) (by kernel_rfl) (by simp) ?_
      refine AllReadyH.cons rfl (fun K hK => ?_) AllReadyH.nil
      simp only [List.getElem_toArray, List.getElem_cons_zero, List.getElem_cons_succ]
      obtain ⟨y0, y1, y2, y3⟩ := tb4.answer
      have yf := tb4.free
      go_simp
      have tb5 := tb4.answered an'.c an'.he an'.no an'.bd
      have t5 := (((Turned.set R 41 W4 (.int .i64 an'.c)).trans (Turned.set R 42 _ (.int .i64 an'.he))).trans (Turned.set R 43 _ (.int .i64 an'.no))).trans (Turned.set R 44 _ (.int .i64 an'.bd))
      have q5 := t5.queue q4 (fun e => hRX e.symm)
      have A5 := A4.turned t5 (fun e => hRA e.symm)
      have r15 := t5.row r14 (fun x hx h0 => by have := f1 x hx; omega)
      have r25 := t5.row r24 (fun x hx h0 => by have := f2 x hx; omega)
      have O5 := O4.self t5
      refine hK.out _ _ ⟨q5, A5⟩ (fun hHeld => ?_)
      clear hK K t5 y0 y1 y2 y3 yf
      generalize (((W4.setCell ⟨R, 41, none⟩ (.int .i64 an'.c)).setCell ⟨R, 42, none⟩ (.int .i64 an'.he)).setCell ⟨R, 43, none⟩ (.int .i64 an'.no)).setCell ⟨R, 44, none⟩ (.int .i64 an'.bd) = W5 at tb5 q5 A5 r15 r25 O5 hHeld ⊢
      refine wpAnyH_done (by kernel_rfl) ?_ _
      have HT5 : Hid (Tf W5 w0.heap.size R T tail s' an') := veil ⟨b1', d1', b2', d2', vs', tb5, r15, r25, X2.n1, X2.n2, hw, fun x hx => by have := f1 x hx; omega, fun x hx => by have := f2 x hx; omega, unveil HL1, unveil HL2⟩
      have HO5 := veil O5
      clear tb5 q5 A5 r15 r25 O5 tb4 q4 A4 r14 r24 O4 tb3 r13 r23 O3 qx hHeld X2 A2
      go_wp2
      go_ret
      exact ⟨s', an', true, 0, rfl, unveil HST, fun _ => unveil HT5, fun h => (by cases h), unveil HO5⟩
end Go.Proofs.Ytlfecmkpafgcmaa
