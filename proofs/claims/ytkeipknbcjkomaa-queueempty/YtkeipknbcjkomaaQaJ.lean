/- The walk of berthshiftkeep.QueueEmpty. -/
import Derived.Test.YtkeipknbcjkomaaQkF
import Derived.Test.YtkeipknbcjkomaaQaF
import Derived.Deep.QuietTactic
import Derived.BigQuiet
namespace Go.Proofs.Ytkeipknbcjkomaa
open Go.RowKit

/-- a queue to which the first m bodies were published. -/
structure Em (bs : Nat → Int) (s : St) (m : Nat) : Prop where
  wf : s.Wf
  nx : s.nx = m
  rn : s.rn = m
  ln : s.ln = 0
  gv : s.gv = 0
  top : s.wt 0 ≤ m
  body : ∀ i, i < m → s.R.getD (2 * i + 1) 0 = bs i
theorem Em.zero (bs : Nat → Int) : Em bs St.zero 0 := ⟨St.zero_wf, rfl, rfl, rfl, rfl, by decide, fun i hi => absurd hi (Nat.not_lt_zero _)⟩
theorem inWin_top {t x : Int} {s : Nat → Bool} (h : t ≤ x) : inWin t s x = false := by
  unfold inWin
  rw [decide_eq_false (show ¬ x < t by omega)]
  simp
theorem Em.next {bs : Nat → Int} {s s' : St} {m : Nat} {an : An} {ch : Bool} (h : Em bs s m) (hm : m < 40) (hb : 0 ≤ bs m ∧ bs m ≤ 1000000) (st : Step s ⟨1, 0, m, bs m, 0, 0⟩ s' an ch) : ch = true ∧ an = ⟨0, 0, 0, 0⟩ ∧ Em bs s' (m + 1) := by
  have t := h.top
  have hw := st.wf h.wf (ev_pub (by omega) (by omega) hb)
  have h1 := h.rn
  have h2 := h.ln
  have h3 := h.nx
  obtain ⟨rfl, rfl, hs⟩ := st.published rfl (by show s.wt 0 - 8 ≤ (m : Int); omega) (inWin_top (by show s.wt 0 ≤ (m : Int); exact t)) (by omega) (by omega)
  refine ⟨rfl, rfl, hw, ?_, ?_, ?_, ?_, ?_, fun i hi => ?_⟩
  · rw [hs]; show s.nx + 1 = _; omega
  · rw [hs]; show s.rn + 1 = _; omega
  · rw [hs]; exact h.ln
  · rw [hs]; exact h.gv
  · rw [hs]
    show tput s.wt 0 (takeT (s.wt 0) m) 0 ≤ _
    unfold tput takeT
    rw [if_pos rfl]
    split <;> omega
  · rw [hs]
    show (s.R ++ [s.nx, bs m]).getD (2 * i + 1) 0 = _
    have hl := h.wf.lr
    rcases Nat.lt_or_ge i m with hi' | hi'
    · rw [getD_left _ _ _ (by omega)]; exact h.body i hi'
    · obtain rfl : i = m := by omega
      rw [show 2 * i + 1 = 2 * s.rn + 1 by omega, getD_right _ _ 1 _ hl]
      rfl
/-- a queue of which j messages were received and acked. -/
structure Dr (bs : Nat → Int) (s : St) (j N : Nat) : Prop where
  wf : s.Wf
  nx : s.nx = N
  rn : s.rn + j = N
  ln : s.ln = 0
  gv : s.gv = j
  body : ∀ i, i < s.rn → s.R.getD (2 * i + 1) 0 = bs (j + i)
theorem Em.dr {bs : Nat → Int} {s : St} {N : Nat} (h : Em bs s N) : Dr bs s 0 N := ⟨h.wf, h.nx, by have := h.rn; omega, h.ln, h.gv, fun i hi => by rw [Nat.zero_add]; exact h.body i (by have := h.rn; omega)⟩
/-- and one more was received. -/
structure Dm (bs : Nat → Int) (s : St) (j N : Nat) (he : Int) : Prop where
  wf : s.Wf
  nx : s.nx = N
  rn : s.rn + (j + 1) = N
  ln : s.ln = 1
  gv : s.gv = j + 1
  body : ∀ i, i < s.rn → s.R.getD (2 * i + 1) 0 = bs (j + 1 + i)
  l0 : s.L.getD (4 * 0) 0 = he
  l1 : s.L.getD (4 * 0 + 1) 0 = j
  ep : 0 ≤ he ∧ he ≤ 1048576
theorem Dr.recv {bs : Nat → Int} {s s' : St} {j N : Nat} {an : An} {ch : Bool} (h : Dr bs s j N) (h0 : 0 < s.rn) (hN : N ≤ 40) (st : Step s ⟨2, 0, 0, 0, 0, 0⟩ s' an ch) : ch = true ∧ an = ⟨0, s.ep, j, bs j⟩ ∧ Dm bs s' j N s.ep := by
  have hw := st.wf h.wf ev_recv
  have h1 := h.rn
  have h2 := h.gv
  have hb := h.body 0 h0
  have he := h.wf.ok.count
  obtain ⟨rfl, rfl, hs⟩ := st.received rfl h0 (by omega)
  have hL : s.L = [] := List.eq_nil_of_length_eq_zero (by have := h.wf.ll; have := h.ln; omega)
  refine ⟨rfl, ?_, hw, ?_, ?_, ?_, ?_, fun i hi => ?_, ?_, ?_, he.e0, he.e1⟩
  · rw [h2]
    rw [Nat.add_zero] at hb
    have : s.R.getD 1 0 = bs j := hb
    rw [this]
  · rw [hs]; exact h.nx
  · rw [hs]; show s.rn - 1 + (j + 1) = N; omega
  · rw [hs]; show s.ln + 1 = 1; have := h.ln; omega
  · rw [hs]; show s.gv + 1 = _; omega
  · rw [hs] at hi ⊢
    have hi' : i < s.rn - 1 := hi
    show (s.R.drop 2).getD (2 * i + 1) 0 = _
    rw [getD_drop, show 2 + (2 * i + 1) = 2 * (i + 1) + 1 by omega, h.body (i + 1) (by omega)]
    congr 1
    omega
  · rw [hs]; show (s.L ++ _).getD (4 * 0) 0 = _; rw [hL]; rfl
  · rw [hs]; show (s.L ++ _).getD (4 * 0 + 1) 0 = _; rw [hL]; exact h2
theorem Step.ackedRest {s s' : St} {v : Ev} {an : An} {ch : Bool} (st : Step s v s' an ch) (hk : v.k = 3) (hc : ch = true) : s'.R = s.R ∧ s'.nx = s.nx ∧ s'.gv = s.gv := by
  cases st with
  | pubLow hk' | pubOld hk' | pubFull hk' | pub hk' | recEmpty hk' | recFull hk' | recv hk' | endFull hk' | stop hk' => omega
  | ackStale | ackNone => cases hc
  | ack => exact ⟨rfl, rfl, rfl⟩
theorem Dm.acked {bs : Nat → Int} {s s' : St} {j N : Nat} {he : Int} {an : An} {ch : Bool} (h : Dm bs s j N he) (hN : N ≤ 40) (st : Step s ⟨3, 0, 0, 0, he, j⟩ s' an ch) : ch = true ∧ an = ⟨0, 0, 0, 0⟩ ∧ Dr bs s' (j + 1) N := by
  have h1 := h.rn
  have hw := st.wf h.wf (ev_ack h.ep (by omega))
  have ha := st.acked h.wf rfl 0 (by have := h.ln; omega) h.l0.symm h.l1.symm
  have hR := st.ackedRest rfl ha.1
  obtain ⟨rfl, rfl, _, h3, h4, _⟩ := ha
  refine ⟨rfl, rfl, hw, by rw [hR.2.1]; exact h.nx, by omega, by have := h.ln; omega, by rw [hR.2.2, h.gv]; rfl, fun i hi => ?_⟩
  rw [hR.1]
  exact h.body i (by omega)
set_option maxRecDepth 20000 in
set_option maxHeartbeats 4000000 in
theorem walk_QueueEmpty (w : World) (p : Option Addr) (len cap : Nat) (l : List Int) (h : RowK .i64 w p len l) (_ : len ≤ cap) (_ : p = none → cap = 0) (_ : cap * 8 ≤ 140737488351232) :
    Calls Try.prog 9 #[.slice p len cap] w fun r w' => r = .returned (.bool true) ∧ Below w.heap.size w w' := by
  obtain ⟨bs, hbs⟩ : ∃ bs : Nat → Int, ∀ i, bs i = pickedOf (l.getD i 0) 1000 := ⟨_, fun _ => rfl⟩
  have hbr : ∀ i, 0 ≤ bs i ∧ bs i < 1000 := fun i => by rw [hbs]; exact pickedOf_range _ _ (by decide)
  obtain ⟨N, hN⟩ : ∃ N : Nat, N = min len 40 := ⟨_, rfl⟩
  go_enter Try.func9, Try.ntmps9
  go_upto_region 2 with (refine q_alloc 3 rfl rfl rfl ?_; intro W1 z1 b1)
  have X1 : Bx W1 w.heap.size St.zero none 0 none 0 zeroW := ⟨z1, RowK.nil _ _ _, RowK.nil _ _ _, fun _ => rfl, fun _ => rfl, zeroWins⟩
  have hmin : min (len : Int) 40 = (N : Int) := by omega
  have hNl : N ≤ len := by omega
  have hN40 : N ≤ 40 := by omega
  clear hN
  go_upto_region 4 with fail
  clear hmin z1
  go_loopw [5] (fun i wr => ∃ (m : Nat) (s : St) (a1 : Option Addr) (c1 : Nat) (a2 : Option Addr) (c2 : Nat) (ws : Nat → Value), m ≤ N ∧ i = .int .i64 m ∧ Hid (Em bs s m) ∧ Bx wr w.heap.size s a1 c1 a2 c2 ws ∧ Below w.heap.size w wr) (fun i _ => N - (intOf i).toNat)
  case atStart => exact ⟨0, St.zero, none, 0, none, 0, zeroW, Nat.zero_le _, rfl, veil (Em.zero bs), X1, b1⟩
  case round =>
    obtain ⟨m, s, a1, c1, a2, c2, ws, hm, rfl, HE, X, Bw⟩ := hrel
    clear X1 b1
    by_cases hlt : m < N
    · have em := unveil HE
      obtain ⟨g, off, rfl⟩ := h.form (by omega)
      have k0 := (h.below Bw).at m (by omega)
      have hgl : g < wr.heap.size := (h.below Bw).lt (by omega)
      have wz : (Lit.int .i64 (l.getD m 0)).wf = true := getD_fits l h.wf _
      have HPk := fun w => picked_any (l.getD m 0) 1000 w wz (by decide) (by decide)
      rw [← hbs m] at HPk
      have hbm := hbr m
      have HDo : Hid (∀ W, Below wr.heap.size wr W → Calls Try.prog 19 #[qVal s.ep s.nx s.gv (.slice a1 s.rn c1) (.slice a2 s.ln c2) ws, .agg #[.int .i64 1, .int .i64 0, .int .i64 m, .int .i64 (bs m), .int .i64 0, .int .i64 0]] W fun e w' => ∃ (s' : St) (x : Value), e = .returned (.tuple #[x, ansVal 0 0 0 0, .bool true, .int .i64 0]) ∧ Em bs s' (m + 1) ∧ QOut W w' s' x ∧ Below W.heap.size W w') := veil fun W b => by
        refine ((X.next b).do em.wf.ok ⟨1, 0, m, bs m, 0, 0⟩ (ev_pub (by omega) (by omega) (by omega))).mono ?_
        rintro e w' ⟨s2, an, ch, x, rfl, st, qo, bb⟩
        obtain ⟨rfl, rfl, he⟩ := em.next (by omega) (by omega) st
        exact ⟨s2, x, rfl, he, qo, bb⟩
      have q0 := X.q
      have hBl : w.heap.size < wr.heap.size := q0.lt
      have hml : m < len := by omega
      generalize l.getD m 0 = z at k0 HPk
      generalize bs m = bd at HPk HDo
      clear em X wz hbm
      go_upto_region 6 with fail
      go_cut [6, 7, 8, 9] (fun p6 p7 c8 c9 wx => ∃ (s' : St) (X A : Nat) (b1' : Option Addr) (d1' : Nat) (b2' : Option Addr) (d2' : Nat) (vs' : Nat → Value), p6 = .pointer (some ⟨X, 0, none⟩) ∧ p7 = .pointer (some ⟨A, 0, none⟩) ∧ c8 = .bool true ∧ c9 = .int .i64 0 ∧ Em bs s' (m + 1) ∧ Bx wx X s' b1' d1' b2' d2' vs' ∧ ansBlock wx A 0 0 0 0 ∧ Below wr.heap.size wr wx ∧ (∀ x, b1' = some x → wr.heap.size ≤ x.block) ∧ (∀ x, b2' = some x → wr.heap.size ≤ x.block))
      case first =>
        refine wp_region_held_drew (S := Below wr.heap.size wr) (by kernel_rfl) (below_drew wr) (fun hHeld => ?_)
        refine wpAnyH_take (i := 0) (v := _) rfl (by kernel_rfl) (by kernel_rfl) (by kernel_rfl) (fun _ _ _ h => h) (yields_q _ rfl rfl rfl (fun _ b => q0.next b)) hHeld ?_
        simp only [List.getElem_toArray, List.getElem_cons_zero, Act.put, List.setIfInBounds_toArray, List.set_cons_zero, List.set_cons_succ]
        refine wpAnyH_take (i := 1) (v := .int .i64 m) rfl (by kernel_rfl) (by kernel_rfl) (by kernel_rfl) (fun _ _ _ h => h) (Or.inl ⟨by rfl, fun _ _ => by go_simp⟩) hHeld ?_
        simp only [List.getElem_toArray, List.getElem_cons_zero, List.getElem_cons_succ, Act.put, List.setIfInBounds_toArray, List.set_cons_zero, List.set_cons_succ]
        refine wpAnyH_take (i := 2) (v := .slice (some ⟨g, off, none⟩) len cap) rfl (by kernel_rfl) (by kernel_rfl) (by kernel_rfl) (fun _ _ _ h => h) (Or.inl ⟨by rfl, fun _ _ => by go_simp⟩) hHeld ?_
        simp only [List.getElem_toArray, List.getElem_cons_zero, List.getElem_cons_succ, Act.put, List.setIfInBounds_toArray, List.set_cons_zero, List.set_cons_succ]
        refine wpAnyH_take (i := 3) (v := .int .i64 m) rfl (by kernel_rfl) (by kernel_rfl) (by kernel_rfl) (fun _ _ _ h => h) (Or.inl ⟨by rfl, fun _ _ => by go_simp⟩) hHeld ?_
        simp only [List.getElem_toArray, List.getElem_cons_zero, List.getElem_cons_succ, Act.put, List.setIfInBounds_toArray, List.set_cons_zero, List.set_cons_succ]
        refine wpAnyH_take (i := 4) (v := .pointer (some ⟨g, off + m, none⟩)) rfl (by kernel_rfl) (by kernel_rfl) (by kernel_rfl) (fun _ _ _ h => h) (Or.inl ⟨by rfl, fun _ _ => by go_simp⟩) hHeld ?_
        simp only [List.getElem_toArray, List.getElem_cons_zero, List.getElem_cons_succ, Act.put, List.setIfInBounds_toArray, List.set_cons_zero, List.set_cons_succ]
        refine wpAnyH_take (i := 5) (v := .int .i64 z) rfl (by kernel_rfl) (by kernel_rfl) (by kernel_rfl) (fun _ _ _ h => h) (Or.inl ⟨by rfl, fun w b => by have c := (b.cell (p := ⟨g, off + m, none⟩) hgl).trans k0; go_simp⟩) hHeld ?_
        simp only [List.getElem_toArray, List.getElem_cons_zero, List.getElem_cons_succ, Act.put, List.setIfInBounds_toArray, List.set_cons_zero, List.set_cons_succ]
        have bW0 := below_drew wr
        have hz0 : wr.heap.size ≤ wr.drew.heap.size := bW0.size
        obtain ⟨W0, hW0⟩ : ∃ W0, W0 = wr.drew := ⟨_, rfl⟩
        rw [← hW0] at bW0 hz0 hHeld ⊢
        clear hW0
        refine wpAnyH_ready (rs := [6, 14, 15]) (by kernel_rfl) (by simp) ?_
        refine AllReadyH.cons rfl (fun K hK => ?_) (AllReadyH.cons rfl (fun K hK => ?_) (AllReadyH.cons rfl (fun K hK => ?_) AllReadyH.nil))
        · simp only [List.getElem_toArray, List.getElem_cons_zero, List.getElem_cons_succ]
          go_simp
          refine (HPk _).mono ?_
          rintro r w1 ⟨rfl, rfl⟩
          refine hK.out _ _ bW0 (fun hHeld => ?_)
          clear hK K
          refine wpAnyH_take (i := 7) (v := .agg #[.int .i64 1, .int .i64 0, .int .i64 m, .int .i64 bd, .int .i64 0, .int .i64 0]) rfl (by kernel_rfl) (by kernel_rfl) (by kernel_rfl) (fun _ _ _ h => h) (Or.inl ⟨by rfl, fun _ _ => by go_simp⟩) hHeld ?_
          simp only [List.getElem_toArray, List.getElem_cons_zero, List.getElem_cons_succ, Act.put, List.setIfInBounds_toArray, List.set_cons_zero, List.set_cons_succ]
          refine wpAnyH_ready (rs := [8, 14, 15]) (by kernel_rfl) (by simp) ?_
          refine AllReadyH.cons rfl (fun K hK => ?_) (AllReadyH.cons rfl (fun K hK => ?_) (AllReadyH.cons rfl (fun K hK => ?_) AllReadyH.nil))
          · simp only [List.getElem_toArray, List.getElem_cons_zero, List.getElem_cons_succ]
            go_simp
            refine (unveil HDo _ bW0).mono ?_
            rintro e WC ⟨s', x', rfl, hs', ⟨⟨b1', d1', b2', d2', vs', rfl, r1, r2, l1', l2', n1, n2, hW'', f1, f2⟩⟩, bn⟩
            have HS' := veil hs'
            clear hs'
            have hr1 := fun x hx h0 => r1.blk_lt x hx h0
            have hr2 := fun x hx h0 => r2.blk_lt x hx h0
            have bWC := Below.next bW0 bn
            have hSWC : W0.heap.size ≤ WC.heap.size := bn.size
            refine hK.out _ _ bWC (fun hHeld => ?_)
            clear hK K bn
            refine wpAnyH_take (i := 9) (v := .tuple #[qVal s'.ep s'.nx s'.gv (.slice b1' s'.rn d1') (.slice b2' s'.ln d2') vs', ansVal 0 0 0 0, .bool true, .int .i64 0]) rfl (by kernel_rfl) (by kernel_rfl) (by kernel_rfl) (fun _ _ _ h => h) (Or.inl ⟨by rfl, fun _ _ => by go_simp⟩) hHeld ?_
            simp only [List.getElem_toArray, List.getElem_cons_zero, List.getElem_cons_succ, Act.put, List.setIfInBounds_toArray, List.set_cons_zero, List.set_cons_succ]
            refine wpAnyH_take (i := 10) (v := qVal s'.ep s'.nx s'.gv (.slice b1' s'.rn d1') (.slice b2' s'.ln d2') vs') rfl (by kernel_rfl) (by kernel_rfl) (by kernel_rfl) (fun _ _ _ h => h) (Or.inl ⟨by rfl, fun _ _ => by go_simp⟩) hHeld ?_
            simp only [List.getElem_toArray, List.getElem_cons_zero, List.getElem_cons_succ, Act.put, List.setIfInBounds_toArray, List.set_cons_zero, List.set_cons_succ]
            refine wpAnyH_take (i := 11) (v := ansVal 0 0 0 0) rfl (by kernel_rfl) (by kernel_rfl) (by kernel_rfl) (fun _ _ _ h => h) (Or.inl ⟨by rfl, fun _ _ => by go_simp⟩) hHeld ?_
            simp only [List.getElem_toArray, List.getElem_cons_zero, List.getElem_cons_succ, Act.put, List.setIfInBounds_toArray, List.set_cons_zero, List.set_cons_succ]
            refine wpAnyH_take (i := 12) (v := .bool true) rfl (by kernel_rfl) (by kernel_rfl) (by kernel_rfl) (fun _ _ _ h => h) (Or.inl ⟨by rfl, fun _ _ => by go_simp⟩) hHeld ?_
            simp only [List.getElem_toArray, List.getElem_cons_zero, List.getElem_cons_succ, Act.put, List.setIfInBounds_toArray, List.set_cons_zero, List.set_cons_succ]
            refine wpAnyH_take (i := 13) (v := .int .i64 0) rfl (by kernel_rfl) (by kernel_rfl) (by kernel_rfl) (fun _ _ _ h => h) (Or.inl ⟨by rfl, fun _ _ => by go_simp⟩) hHeld ?_
            simp only [List.getElem_toArray, List.getElem_cons_zero, List.getElem_cons_succ, Act.put, List.setIfInBounds_toArray, List.set_cons_zero, List.set_cons_succ]
            refine wpAnyH_ready (rs := [14, 15]) (by kernel_rfl) (by simp) ?_
            refine AllReadyH.cons rfl (fun K hK => ?_) (AllReadyH.cons rfl (fun K hK => ?_) AllReadyH.nil)
            · simp only [List.getElem_toArray, List.getElem_cons_zero, List.getElem_cons_succ]
              refine ite_wanted rfl ?_
              refine q_alloc_wp 6 rfl rfl ?_
              intro WCQ zq bn
              have hXq : WC.heap.size < WCQ.heap.size := zq.lt
              have bWCQ := Below.next bWC bn
              have r1 := r1.below bn
              have r2 := r2.below bn
              have hSWCQ : WC.heap.size ≤ WCQ.heap.size := bn.size
              refine hK.out _ _ bWCQ (fun hHeld => ?_)
              clear hK K bn
              refine wpAnyH_ready (rs := [15]) (by kernel_rfl) (by simp) ?_
              refine AllReadyH.cons rfl (fun K hK => ?_) AllReadyH.nil
              · simp only [List.getElem_toArray, List.getElem_cons_zero, List.getElem_cons_succ]
                go_simp
                obtain ⟨WCQA, hWCQA, ya, bn⟩ : ∃ W, W = WCQ.alloc (.cells #[.int .i64 0, .int .i64 0, .int .i64 0, .int .i64 0] 47) ∧ ansBlock W WCQ.heap.size 0 0 0 0 ∧ Below WCQ.heap.size WCQ W := ⟨_, rfl, ansBlock.new _ 0 0 0 0, below1 _ _⟩
                rw [← hWCQA]
                have hXa : WCQ.heap.size < WCQA.heap.size := ya.lt
                have bWCQA := Below.next bWCQ bn
                clear hWCQA
                have zq := zq.next bn
                have r1 := r1.below bn
                have r2 := r2.below bn
                have hSWCQA : WCQ.heap.size ≤ WCQA.heap.size := bn.size
                refine hK.out _ _ bWCQA (fun hHeld => ?_)
                clear hK K bn
                refine wpAnyH_ready (rs := [16]) (by kernel_rfl) (by simp) ?_
                refine AllReadyH.cons rfl (fun K hK => ?_) AllReadyH.nil
                simp only [List.getElem_toArray, List.getElem_cons_zero, List.getElem_cons_succ]
                refine ite_wanted rfl ?_
                refine q_store_wp (ra := b1') (la := b2') (ws' := vs') _ _ rfl rfl rfl zq hW'' ?_
                intro Wq q5 t5
                have ya5 := ya.turned t5 (by omega)
                have r15 := t5.row r1 (fun x hx h0 => by have := f1 x hx; have := hr1 x hx h0; omega)
                have r25 := t5.row r2 (fun x hx h0 => by have := f2 x hx; have := hr2 x hx h0; omega)
                have b5 := t5.under bWCQA (by omega)
                refine hK.out _ _ b5 (fun hHeld => ?_)
                clear hK K
                refine wpAnyH_ready (rs := [17]) (by kernel_rfl) (by simp) ?_
                refine AllReadyH.cons rfl (fun K hK => ?_) AllReadyH.nil
                simp only [List.getElem_toArray, List.getElem_cons_zero, List.getElem_cons_succ]
                obtain ⟨y0, y1, y2, y3⟩ := ya5.cells
                have yf := ya5.free
                go_simp
                have t6 := ans_turned Wq (WCQ.heap.size) 0 0 0 0
                have ya6 := ya5.store 0 0 0 0
                have q6 := t6.queue q5 (by omega)
                have b6 := t6.under b5 (by omega)
                have X6 : Bx _ (WC.heap.size) s' b1' d1' b2' d2' vs' := ⟨q6, t6.row r15 (fun x hx h0 => by have := f1 x hx; have := hr1 x hx h0; omega), t6.row r25 (fun x hx h0 => by have := f2 x hx; have := hr2 x hx h0; omega), n1, n2, hW''⟩
                unfold ansStore at ya6 X6 b6
                refine hK.out _ _ b6 (fun hHeld => ?_)
                clear hK K y0 y1 y2 y3 yf q6 t6
                generalize (((Wq.setCell ⟨WCQ.heap.size, 0, none⟩ (.int .i64 0)).setCell ⟨WCQ.heap.size, 1, none⟩ (.int .i64 0)).setCell ⟨WCQ.heap.size, 2, none⟩ (.int .i64 0)).setCell ⟨WCQ.heap.size, 3, none⟩ (.int .i64 0) = W6 at ya6 X6 b6 hHeld ⊢
                refine wpAnyH_take (i := 18) (v := .bool true) rfl (by kernel_rfl) (by kernel_rfl) (by kernel_rfl) (fun _ _ _ h => h) (Or.inl ⟨by rfl, fun _ _ => by go_simp⟩) hHeld ?_
                simp only [List.getElem_toArray, List.getElem_cons_zero, List.getElem_cons_succ, Act.put, List.setIfInBounds_toArray, List.set_cons_zero, List.set_cons_succ]
                refine wpAnyH_take (i := 19) (v := .int .i64 0) rfl (by kernel_rfl) (by kernel_rfl) (by kernel_rfl) (fun _ _ _ h => h) (Or.inl ⟨by rfl, fun _ _ => by go_simp⟩) hHeld ?_
                simp only [List.getElem_toArray, List.getElem_cons_zero, List.getElem_cons_succ, Act.put, List.setIfInBounds_toArray, List.set_cons_zero, List.set_cons_succ]
                refine wpAnyH_done (by kernel_rfl) ?_ _
                go_wp2_with fail
                go_meet
                exact ⟨s', _, _, _, _, _, _, _, rfl, rfl, rfl, rfl, unveil HS', X6, ya6, b6, fun x hx => by have := f1 x hx; omega, fun x hx => by have := f2 x hx; omega⟩
            · simp only [List.getElem_toArray, List.getElem_cons_zero, List.getElem_cons_succ]
              go_simp
              obtain ⟨WCA, hWCA, ya, bn⟩ : ∃ W, W = WC.alloc (.cells #[.int .i64 0, .int .i64 0, .int .i64 0, .int .i64 0] 47) ∧ ansBlock W WC.heap.size 0 0 0 0 ∧ Below WC.heap.size WC W := ⟨_, rfl, ansBlock.new _ 0 0 0 0, below1 _ _⟩
              rw [← hWCA]
              have hXa : WC.heap.size < WCA.heap.size := ya.lt
              have bWCA := Below.next bWC bn
              clear hWCA
              have r1 := r1.below bn
              have r2 := r2.below bn
              have hSWCA : WC.heap.size ≤ WCA.heap.size := bn.size
              refine hK.out _ _ bWCA (fun hHeld => ?_)
              clear hK K bn
              refine wpAnyH_ready (rs := [14]) (by kernel_rfl) (by simp) ?_
              refine AllReadyH.cons rfl (fun K hK => ?_) AllReadyH.nil
              · simp only [List.getElem_toArray, List.getElem_cons_zero, List.getElem_cons_succ]
                refine ite_wanted rfl ?_
                refine q_alloc_wp 6 rfl rfl ?_
                intro WCAQ zq bn
                have hXq : WCA.heap.size < WCAQ.heap.size := zq.lt
                have bWCAQ := Below.next bWCA bn
                have ya := ya.next bn
                have r1 := r1.below bn
                have r2 := r2.below bn
                have hSWCAQ : WCA.heap.size ≤ WCAQ.heap.size := bn.size
                refine hK.out _ _ bWCAQ (fun hHeld => ?_)
                clear hK K bn
                refine wpAnyH_ready (rs := [16]) (by kernel_rfl) (by simp) ?_
                refine AllReadyH.cons rfl (fun K hK => ?_) AllReadyH.nil
                simp only [List.getElem_toArray, List.getElem_cons_zero, List.getElem_cons_succ]
                refine ite_wanted rfl ?_
                refine q_store_wp (ra := b1') (la := b2') (ws' := vs') _ _ rfl rfl rfl zq hW'' ?_
                intro Wq q5 t5
                have ya5 := ya.turned t5 (by omega)
                have r15 := t5.row r1 (fun x hx h0 => by have := f1 x hx; have := hr1 x hx h0; omega)
                have r25 := t5.row r2 (fun x hx h0 => by have := f2 x hx; have := hr2 x hx h0; omega)
                have b5 := t5.under bWCAQ (by omega)
                refine hK.out _ _ b5 (fun hHeld => ?_)
                clear hK K
                refine wpAnyH_ready (rs := [17]) (by kernel_rfl) (by simp) ?_
                refine AllReadyH.cons rfl (fun K hK => ?_) AllReadyH.nil
                simp only [List.getElem_toArray, List.getElem_cons_zero, List.getElem_cons_succ]
                obtain ⟨y0, y1, y2, y3⟩ := ya5.cells
                have yf := ya5.free
                go_simp
                have t6 := ans_turned Wq (WC.heap.size) 0 0 0 0
                have ya6 := ya5.store 0 0 0 0
                have q6 := t6.queue q5 (by omega)
                have b6 := t6.under b5 (by omega)
                have X6 : Bx _ (WCA.heap.size) s' b1' d1' b2' d2' vs' := ⟨q6, t6.row r15 (fun x hx h0 => by have := f1 x hx; have := hr1 x hx h0; omega), t6.row r25 (fun x hx h0 => by have := f2 x hx; have := hr2 x hx h0; omega), n1, n2, hW''⟩
                unfold ansStore at ya6 X6 b6
                refine hK.out _ _ b6 (fun hHeld => ?_)
                clear hK K y0 y1 y2 y3 yf q6 t6
                generalize (((Wq.setCell ⟨WC.heap.size, 0, none⟩ (.int .i64 0)).setCell ⟨WC.heap.size, 1, none⟩ (.int .i64 0)).setCell ⟨WC.heap.size, 2, none⟩ (.int .i64 0)).setCell ⟨WC.heap.size, 3, none⟩ (.int .i64 0) = W6 at ya6 X6 b6 hHeld ⊢
                refine wpAnyH_take (i := 18) (v := .bool true) rfl (by kernel_rfl) (by kernel_rfl) (by kernel_rfl) (fun _ _ _ h => h) (Or.inl ⟨by rfl, fun _ _ => by go_simp⟩) hHeld ?_
                simp only [List.getElem_toArray, List.getElem_cons_zero, List.getElem_cons_succ, Act.put, List.setIfInBounds_toArray, List.set_cons_zero, List.set_cons_succ]
                refine wpAnyH_take (i := 19) (v := .int .i64 0) rfl (by kernel_rfl) (by kernel_rfl) (by kernel_rfl) (fun _ _ _ h => h) (Or.inl ⟨by rfl, fun _ _ => by go_simp⟩) hHeld ?_
                simp only [List.getElem_toArray, List.getElem_cons_zero, List.getElem_cons_succ, Act.put, List.setIfInBounds_toArray, List.set_cons_zero, List.set_cons_succ]
                refine wpAnyH_done (by kernel_rfl) ?_ _
                go_wp2_with fail
                go_meet
                exact ⟨s', _, _, _, _, _, _, _, rfl, rfl, rfl, rfl, unveil HS', X6, ya6, b6, fun x hx => by have := f1 x hx; omega, fun x hx => by have := f2 x hx; omega⟩
          · simp only [List.getElem_toArray, List.getElem_cons_zero, List.getElem_cons_succ]
            refine ite_wanted rfl ?_
            refine q_alloc_wp 6 rfl rfl ?_
            intro WQ zq bn
            have hXq : W0.heap.size < WQ.heap.size := zq.lt
            have bWQ := Below.next bW0 bn
            have hSWQ : W0.heap.size ≤ WQ.heap.size := bn.size
            refine hK.out _ _ bWQ (fun hHeld => ?_)
            clear hK K bn
            refine wpAnyH_ready (rs := [8, 15]) (by kernel_rfl) (by simp) ?_
            refine AllReadyH.cons rfl (fun K hK => ?_) (AllReadyH.cons rfl (fun K hK => ?_) AllReadyH.nil)
            · simp only [List.getElem_toArray, List.getElem_cons_zero, List.getElem_cons_succ]
              go_simp
              refine (unveil HDo _ bWQ).mono ?_
              rintro e WQC ⟨s', x', rfl, hs', ⟨⟨b1', d1', b2', d2', vs', rfl, r1, r2, l1', l2', n1, n2, hW'', f1, f2⟩⟩, bn⟩
              have HS' := veil hs'
              clear hs'
              have hr1 := fun x hx h0 => r1.blk_lt x hx h0
              have hr2 := fun x hx h0 => r2.blk_lt x hx h0
              have bWQC := Below.next bWQ bn
              have zq := zq.next bn
              have hSWQC : WQ.heap.size ≤ WQC.heap.size := bn.size
              refine hK.out _ _ bWQC (fun hHeld => ?_)
              clear hK K bn
              refine wpAnyH_take (i := 9) (v := .tuple #[qVal s'.ep s'.nx s'.gv (.slice b1' s'.rn d1') (.slice b2' s'.ln d2') vs', ansVal 0 0 0 0, .bool true, .int .i64 0]) rfl (by kernel_rfl) (by kernel_rfl) (by kernel_rfl) (fun _ _ _ h => h) (Or.inl ⟨by rfl, fun _ _ => by go_simp⟩) hHeld ?_
              simp only [List.getElem_toArray, List.getElem_cons_zero, List.getElem_cons_succ, Act.put, List.setIfInBounds_toArray, List.set_cons_zero, List.set_cons_succ]
              refine wpAnyH_take (i := 10) (v := qVal s'.ep s'.nx s'.gv (.slice b1' s'.rn d1') (.slice b2' s'.ln d2') vs') rfl (by kernel_rfl) (by kernel_rfl) (by kernel_rfl) (fun _ _ _ h => h) (Or.inl ⟨by rfl, fun _ _ => by go_simp⟩) hHeld ?_
              simp only [List.getElem_toArray, List.getElem_cons_zero, List.getElem_cons_succ, Act.put, List.setIfInBounds_toArray, List.set_cons_zero, List.set_cons_succ]
              refine wpAnyH_take (i := 11) (v := ansVal 0 0 0 0) rfl (by kernel_rfl) (by kernel_rfl) (by kernel_rfl) (fun _ _ _ h => h) (Or.inl ⟨by rfl, fun _ _ => by go_simp⟩) hHeld ?_
              simp only [List.getElem_toArray, List.getElem_cons_zero, List.getElem_cons_succ, Act.put, List.setIfInBounds_toArray, List.set_cons_zero, List.set_cons_succ]
              refine wpAnyH_take (i := 12) (v := .bool true) rfl (by kernel_rfl) (by kernel_rfl) (by kernel_rfl) (fun _ _ _ h => h) (Or.inl ⟨by rfl, fun _ _ => by go_simp⟩) hHeld ?_
              simp only [List.getElem_toArray, List.getElem_cons_zero, List.getElem_cons_succ, Act.put, List.setIfInBounds_toArray, List.set_cons_zero, List.set_cons_succ]
              refine wpAnyH_take (i := 13) (v := .int .i64 0) rfl (by kernel_rfl) (by kernel_rfl) (by kernel_rfl) (fun _ _ _ h => h) (Or.inl ⟨by rfl, fun _ _ => by go_simp⟩) hHeld ?_
              simp only [List.getElem_toArray, List.getElem_cons_zero, List.getElem_cons_succ, Act.put, List.setIfInBounds_toArray, List.set_cons_zero, List.set_cons_succ]
              refine wpAnyH_ready (rs := [15]) (by kernel_rfl) (by simp) ?_
              refine AllReadyH.cons rfl (fun K hK => ?_) AllReadyH.nil
              · simp only [List.getElem_toArray, List.getElem_cons_zero, List.getElem_cons_succ]
                go_simp
                obtain ⟨WQCA, hWQCA, ya, bn⟩ : ∃ W, W = WQC.alloc (.cells #[.int .i64 0, .int .i64 0, .int .i64 0, .int .i64 0] 47) ∧ ansBlock W WQC.heap.size 0 0 0 0 ∧ Below WQC.heap.size WQC W := ⟨_, rfl, ansBlock.new _ 0 0 0 0, below1 _ _⟩
                rw [← hWQCA]
                have hXa : WQC.heap.size < WQCA.heap.size := ya.lt
                have bWQCA := Below.next bWQC bn
                clear hWQCA
                have zq := zq.next bn
                have r1 := r1.below bn
                have r2 := r2.below bn
                have hSWQCA : WQC.heap.size ≤ WQCA.heap.size := bn.size
                refine hK.out _ _ bWQCA (fun hHeld => ?_)
                clear hK K bn
                refine wpAnyH_ready (rs := [16]) (by kernel_rfl) (by simp) ?_
                refine AllReadyH.cons rfl (fun K hK => ?_) AllReadyH.nil
                simp only [List.getElem_toArray, List.getElem_cons_zero, List.getElem_cons_succ]
                refine ite_wanted rfl ?_
                refine q_store_wp (ra := b1') (la := b2') (ws' := vs') _ _ rfl rfl rfl zq hW'' ?_
                intro Wq q5 t5
                have ya5 := ya.turned t5 (by omega)
                have r15 := t5.row r1 (fun x hx h0 => by have := f1 x hx; have := hr1 x hx h0; omega)
                have r25 := t5.row r2 (fun x hx h0 => by have := f2 x hx; have := hr2 x hx h0; omega)
                have b5 := t5.under bWQCA (by omega)
                refine hK.out _ _ b5 (fun hHeld => ?_)
                clear hK K
                refine wpAnyH_ready (rs := [17]) (by kernel_rfl) (by simp) ?_
                refine AllReadyH.cons rfl (fun K hK => ?_) AllReadyH.nil
                simp only [List.getElem_toArray, List.getElem_cons_zero, List.getElem_cons_succ]
                obtain ⟨y0, y1, y2, y3⟩ := ya5.cells
                have yf := ya5.free
                go_simp
                have t6 := ans_turned Wq (WQC.heap.size) 0 0 0 0
                have ya6 := ya5.store 0 0 0 0
                have q6 := t6.queue q5 (by omega)
                have b6 := t6.under b5 (by omega)
                have X6 : Bx _ (W0.heap.size) s' b1' d1' b2' d2' vs' := ⟨q6, t6.row r15 (fun x hx h0 => by have := f1 x hx; have := hr1 x hx h0; omega), t6.row r25 (fun x hx h0 => by have := f2 x hx; have := hr2 x hx h0; omega), n1, n2, hW''⟩
                unfold ansStore at ya6 X6 b6
                refine hK.out _ _ b6 (fun hHeld => ?_)
                clear hK K y0 y1 y2 y3 yf q6 t6
                generalize (((Wq.setCell ⟨WQC.heap.size, 0, none⟩ (.int .i64 0)).setCell ⟨WQC.heap.size, 1, none⟩ (.int .i64 0)).setCell ⟨WQC.heap.size, 2, none⟩ (.int .i64 0)).setCell ⟨WQC.heap.size, 3, none⟩ (.int .i64 0) = W6 at ya6 X6 b6 hHeld ⊢
                refine wpAnyH_take (i := 18) (v := .bool true) rfl (by kernel_rfl) (by kernel_rfl) (by kernel_rfl) (fun _ _ _ h => h) (Or.inl ⟨by rfl, fun _ _ => by go_simp⟩) hHeld ?_
                simp only [List.getElem_toArray, List.getElem_cons_zero, List.getElem_cons_succ, Act.put, List.setIfInBounds_toArray, List.set_cons_zero, List.set_cons_succ]
                refine wpAnyH_take (i := 19) (v := .int .i64 0) rfl (by kernel_rfl) (by kernel_rfl) (by kernel_rfl) (fun _ _ _ h => h) (Or.inl ⟨by rfl, fun _ _ => by go_simp⟩) hHeld ?_
                simp only [List.getElem_toArray, List.getElem_cons_zero, List.getElem_cons_succ, Act.put, List.setIfInBounds_toArray, List.set_cons_zero, List.set_cons_succ]
                refine wpAnyH_done (by kernel_rfl) ?_ _
                go_wp2_with fail
                go_meet
                exact ⟨s', _, _, _, _, _, _, _, rfl, rfl, rfl, rfl, unveil HS', X6, ya6, b6, fun x hx => by have := f1 x hx; omega, fun x hx => by have := f2 x hx; omega⟩
            · simp only [List.getElem_toArray, List.getElem_cons_zero, List.getElem_cons_succ]
              go_simp
              obtain ⟨WQA, hWQA, ya, bn⟩ : ∃ W, W = WQ.alloc (.cells #[.int .i64 0, .int .i64 0, .int .i64 0, .int .i64 0] 47) ∧ ansBlock W WQ.heap.size 0 0 0 0 ∧ Below WQ.heap.size WQ W := ⟨_, rfl, ansBlock.new _ 0 0 0 0, below1 _ _⟩
              rw [← hWQA]
              have hXa : WQ.heap.size < WQA.heap.size := ya.lt
              have bWQA := Below.next bWQ bn
              clear hWQA
              have zq := zq.next bn
              have hSWQA : WQ.heap.size ≤ WQA.heap.size := bn.size
              refine hK.out _ _ bWQA (fun hHeld => ?_)
              clear hK K bn
              refine wpAnyH_ready (rs := [8]) (by kernel_rfl) (by simp) ?_
              refine AllReadyH.cons rfl (fun K hK => ?_) AllReadyH.nil
              · simp only [List.getElem_toArray, List.getElem_cons_zero, List.getElem_cons_succ]
                go_simp
                refine (unveil HDo _ bWQA).mono ?_
                rintro e WQAC ⟨s', x', rfl, hs', ⟨⟨b1', d1', b2', d2', vs', rfl, r1, r2, l1', l2', n1, n2, hW'', f1, f2⟩⟩, bn⟩
                have HS' := veil hs'
                clear hs'
                have hr1 := fun x hx h0 => r1.blk_lt x hx h0
                have hr2 := fun x hx h0 => r2.blk_lt x hx h0
                have bWQAC := Below.next bWQA bn
                have zq := zq.next bn
                have ya := ya.next bn
                have hSWQAC : WQA.heap.size ≤ WQAC.heap.size := bn.size
                refine hK.out _ _ bWQAC (fun hHeld => ?_)
                clear hK K bn
                refine wpAnyH_take (i := 9) (v := .tuple #[qVal s'.ep s'.nx s'.gv (.slice b1' s'.rn d1') (.slice b2' s'.ln d2') vs', ansVal 0 0 0 0, .bool true, .int .i64 0]) rfl (by kernel_rfl) (by kernel_rfl) (by kernel_rfl) (fun _ _ _ h => h) (Or.inl ⟨by rfl, fun _ _ => by go_simp⟩) hHeld ?_
                simp only [List.getElem_toArray, List.getElem_cons_zero, List.getElem_cons_succ, Act.put, List.setIfInBounds_toArray, List.set_cons_zero, List.set_cons_succ]
                refine wpAnyH_take (i := 10) (v := qVal s'.ep s'.nx s'.gv (.slice b1' s'.rn d1') (.slice b2' s'.ln d2') vs') rfl (by kernel_rfl) (by kernel_rfl) (by kernel_rfl) (fun _ _ _ h => h) (Or.inl ⟨by rfl, fun _ _ => by go_simp⟩) hHeld ?_
                simp only [List.getElem_toArray, List.getElem_cons_zero, List.getElem_cons_succ, Act.put, List.setIfInBounds_toArray, List.set_cons_zero, List.set_cons_succ]
                refine wpAnyH_take (i := 11) (v := ansVal 0 0 0 0) rfl (by kernel_rfl) (by kernel_rfl) (by kernel_rfl) (fun _ _ _ h => h) (Or.inl ⟨by rfl, fun _ _ => by go_simp⟩) hHeld ?_
                simp only [List.getElem_toArray, List.getElem_cons_zero, List.getElem_cons_succ, Act.put, List.setIfInBounds_toArray, List.set_cons_zero, List.set_cons_succ]
                refine wpAnyH_take (i := 12) (v := .bool true) rfl (by kernel_rfl) (by kernel_rfl) (by kernel_rfl) (fun _ _ _ h => h) (Or.inl ⟨by rfl, fun _ _ => by go_simp⟩) hHeld ?_
                simp only [List.getElem_toArray, List.getElem_cons_zero, List.getElem_cons_succ, Act.put, List.setIfInBounds_toArray, List.set_cons_zero, List.set_cons_succ]
                refine wpAnyH_take (i := 13) (v := .int .i64 0) rfl (by kernel_rfl) (by kernel_rfl) (by kernel_rfl) (fun _ _ _ h => h) (Or.inl ⟨by rfl, fun _ _ => by go_simp⟩) hHeld ?_
                simp only [List.getElem_toArray, List.getElem_cons_zero, List.getElem_cons_succ, Act.put, List.setIfInBounds_toArray, List.set_cons_zero, List.set_cons_succ]
                refine wpAnyH_ready (rs := [16]) (by kernel_rfl) (by simp) ?_
                refine AllReadyH.cons rfl (fun K hK => ?_) AllReadyH.nil
                simp only [List.getElem_toArray, List.getElem_cons_zero, List.getElem_cons_succ]
                refine ite_wanted rfl ?_
                refine q_store_wp (ra := b1') (la := b2') (ws' := vs') _ _ rfl rfl rfl zq hW'' ?_
                intro Wq q5 t5
                have ya5 := ya.turned t5 (by omega)
                have r15 := t5.row r1 (fun x hx h0 => by have := f1 x hx; have := hr1 x hx h0; omega)
                have r25 := t5.row r2 (fun x hx h0 => by have := f2 x hx; have := hr2 x hx h0; omega)
                have b5 := t5.under bWQAC (by omega)
                refine hK.out _ _ b5 (fun hHeld => ?_)
                clear hK K
                refine wpAnyH_ready (rs := [17]) (by kernel_rfl) (by simp) ?_
                refine AllReadyH.cons rfl (fun K hK => ?_) AllReadyH.nil
                simp only [List.getElem_toArray, List.getElem_cons_zero, List.getElem_cons_succ]
                obtain ⟨y0, y1, y2, y3⟩ := ya5.cells
                have yf := ya5.free
                go_simp
                have t6 := ans_turned Wq (WQ.heap.size) 0 0 0 0
                have ya6 := ya5.store 0 0 0 0
                have q6 := t6.queue q5 (by omega)
                have b6 := t6.under b5 (by omega)
                have X6 : Bx _ (W0.heap.size) s' b1' d1' b2' d2' vs' := ⟨q6, t6.row r15 (fun x hx h0 => by have := f1 x hx; have := hr1 x hx h0; omega), t6.row r25 (fun x hx h0 => by have := f2 x hx; have := hr2 x hx h0; omega), n1, n2, hW''⟩
                unfold ansStore at ya6 X6 b6
                refine hK.out _ _ b6 (fun hHeld => ?_)
                clear hK K y0 y1 y2 y3 yf q6 t6
                generalize (((Wq.setCell ⟨WQ.heap.size, 0, none⟩ (.int .i64 0)).setCell ⟨WQ.heap.size, 1, none⟩ (.int .i64 0)).setCell ⟨WQ.heap.size, 2, none⟩ (.int .i64 0)).setCell ⟨WQ.heap.size, 3, none⟩ (.int .i64 0) = W6 at ya6 X6 b6 hHeld ⊢
                refine wpAnyH_take (i := 18) (v := .bool true) rfl (by kernel_rfl) (by kernel_rfl) (by kernel_rfl) (fun _ _ _ h => h) (Or.inl ⟨by rfl, fun _ _ => by go_simp⟩) hHeld ?_
                simp only [List.getElem_toArray, List.getElem_cons_zero, List.getElem_cons_succ, Act.put, List.setIfInBounds_toArray, List.set_cons_zero, List.set_cons_succ]
                refine wpAnyH_take (i := 19) (v := .int .i64 0) rfl (by kernel_rfl) (by kernel_rfl) (by kernel_rfl) (fun _ _ _ h => h) (Or.inl ⟨by rfl, fun _ _ => by go_simp⟩) hHeld ?_
                simp only [List.getElem_toArray, List.getElem_cons_zero, List.getElem_cons_succ, Act.put, List.setIfInBounds_toArray, List.set_cons_zero, List.set_cons_succ]
                refine wpAnyH_done (by kernel_rfl) ?_ _
                go_wp2_with fail
                go_meet
                exact ⟨s', _, _, _, _, _, _, _, rfl, rfl, rfl, rfl, unveil HS', X6, ya6, b6, fun x hx => by have := f1 x hx; omega, fun x hx => by have := f2 x hx; omega⟩
          · simp only [List.getElem_toArray, List.getElem_cons_zero, List.getElem_cons_succ]
            go_simp
            obtain ⟨WA, hWA, ya, bn⟩ : ∃ W, W = W0.alloc (.cells #[.int .i64 0, .int .i64 0, .int .i64 0, .int .i64 0] 47) ∧ ansBlock W W0.heap.size 0 0 0 0 ∧ Below W0.heap.size W0 W := ⟨_, rfl, ansBlock.new _ 0 0 0 0, below1 _ _⟩
            rw [← hWA]
            have hXa : W0.heap.size < WA.heap.size := ya.lt
            have bWA := Below.next bW0 bn
            clear hWA
            have hSWA : W0.heap.size ≤ WA.heap.size := bn.size
            refine hK.out _ _ bWA (fun hHeld => ?_)
            clear hK K bn
            refine wpAnyH_ready (rs := [8, 14]) (by kernel_rfl) (by simp) ?_
            refine AllReadyH.cons rfl (fun K hK => ?_) (AllReadyH.cons rfl (fun K hK => ?_) AllReadyH.nil)
            · simp only [List.getElem_toArray, List.getElem_cons_zero, List.getElem_cons_succ]
              go_simp
              refine (unveil HDo _ bWA).mono ?_
              rintro e WAC ⟨s', x', rfl, hs', ⟨⟨b1', d1', b2', d2', vs', rfl, r1, r2, l1', l2', n1, n2, hW'', f1, f2⟩⟩, bn⟩
              have HS' := veil hs'
              clear hs'
              have hr1 := fun x hx h0 => r1.blk_lt x hx h0
              have hr2 := fun x hx h0 => r2.blk_lt x hx h0
              have bWAC := Below.next bWA bn
              have ya := ya.next bn
              have hSWAC : WA.heap.size ≤ WAC.heap.size := bn.size
              refine hK.out _ _ bWAC (fun hHeld => ?_)
              clear hK K bn
              refine wpAnyH_take (i := 9) (v := .tuple #[qVal s'.ep s'.nx s'.gv (.slice b1' s'.rn d1') (.slice b2' s'.ln d2') vs', ansVal 0 0 0 0, .bool true, .int .i64 0]) rfl (by kernel_rfl) (by kernel_rfl) (by kernel_rfl) (fun _ _ _ h => h) (Or.inl ⟨by rfl, fun _ _ => by go_simp⟩) hHeld ?_
              simp only [List.getElem_toArray, List.getElem_cons_zero, List.getElem_cons_succ, Act.put, List.setIfInBounds_toArray, List.set_cons_zero, List.set_cons_succ]
              refine wpAnyH_take (i := 10) (v := qVal s'.ep s'.nx s'.gv (.slice b1' s'.rn d1') (.slice b2' s'.ln d2') vs') rfl (by kernel_rfl) (by kernel_rfl) (by kernel_rfl) (fun _ _ _ h => h) (Or.inl ⟨by rfl, fun _ _ => by go_simp⟩) hHeld ?_
              simp only [List.getElem_toArray, List.getElem_cons_zero, List.getElem_cons_succ, Act.put, List.setIfInBounds_toArray, List.set_cons_zero, List.set_cons_succ]
              refine wpAnyH_take (i := 11) (v := ansVal 0 0 0 0) rfl (by kernel_rfl) (by kernel_rfl) (by kernel_rfl) (fun _ _ _ h => h) (Or.inl ⟨by rfl, fun _ _ => by go_simp⟩) hHeld ?_
              simp only [List.getElem_toArray, List.getElem_cons_zero, List.getElem_cons_succ, Act.put, List.setIfInBounds_toArray, List.set_cons_zero, List.set_cons_succ]
              refine wpAnyH_take (i := 12) (v := .bool true) rfl (by kernel_rfl) (by kernel_rfl) (by kernel_rfl) (fun _ _ _ h => h) (Or.inl ⟨by rfl, fun _ _ => by go_simp⟩) hHeld ?_
              simp only [List.getElem_toArray, List.getElem_cons_zero, List.getElem_cons_succ, Act.put, List.setIfInBounds_toArray, List.set_cons_zero, List.set_cons_succ]
              refine wpAnyH_take (i := 13) (v := .int .i64 0) rfl (by kernel_rfl) (by kernel_rfl) (by kernel_rfl) (fun _ _ _ h => h) (Or.inl ⟨by rfl, fun _ _ => by go_simp⟩) hHeld ?_
              simp only [List.getElem_toArray, List.getElem_cons_zero, List.getElem_cons_succ, Act.put, List.setIfInBounds_toArray, List.set_cons_zero, List.set_cons_succ]
              refine wpAnyH_ready (rs := [14]) (by kernel_rfl) (by simp) ?_
              refine AllReadyH.cons rfl (fun K hK => ?_) AllReadyH.nil
              · simp only [List.getElem_toArray, List.getElem_cons_zero, List.getElem_cons_succ]
                refine ite_wanted rfl ?_
                refine q_alloc_wp 6 rfl rfl ?_
                intro WACQ zq bn
                have hXq : WAC.heap.size < WACQ.heap.size := zq.lt
                have bWACQ := Below.next bWAC bn
                have ya := ya.next bn
                have r1 := r1.below bn
                have r2 := r2.below bn
                have hSWACQ : WAC.heap.size ≤ WACQ.heap.size := bn.size
                refine hK.out _ _ bWACQ (fun hHeld => ?_)
                clear hK K bn
                refine wpAnyH_ready (rs := [16]) (by kernel_rfl) (by simp) ?_
                refine AllReadyH.cons rfl (fun K hK => ?_) AllReadyH.nil
                simp only [List.getElem_toArray, List.getElem_cons_zero, List.getElem_cons_succ]
                refine ite_wanted rfl ?_
                refine q_store_wp (ra := b1') (la := b2') (ws' := vs') _ _ rfl rfl rfl zq hW'' ?_
                intro Wq q5 t5
                have ya5 := ya.turned t5 (by omega)
                have r15 := t5.row r1 (fun x hx h0 => by have := f1 x hx; have := hr1 x hx h0; omega)
                have r25 := t5.row r2 (fun x hx h0 => by have := f2 x hx; have := hr2 x hx h0; omega)
                have b5 := t5.under bWACQ (by omega)
                refine hK.out _ _ b5 (fun hHeld => ?_)
                clear hK K
                refine wpAnyH_ready (rs := [17]) (by kernel_rfl) (by simp) ?_
                refine AllReadyH.cons rfl (fun K hK => ?_) AllReadyH.nil
                simp only [List.getElem_toArray, List.getElem_cons_zero, List.getElem_cons_succ]
                obtain ⟨y0, y1, y2, y3⟩ := ya5.cells
                have yf := ya5.free
                go_simp
                have t6 := ans_turned Wq (W0.heap.size) 0 0 0 0
                have ya6 := ya5.store 0 0 0 0
                have q6 := t6.queue q5 (by omega)
                have b6 := t6.under b5 (by omega)
                have X6 : Bx _ (WAC.heap.size) s' b1' d1' b2' d2' vs' := ⟨q6, t6.row r15 (fun x hx h0 => by have := f1 x hx; have := hr1 x hx h0; omega), t6.row r25 (fun x hx h0 => by have := f2 x hx; have := hr2 x hx h0; omega), n1, n2, hW''⟩
                unfold ansStore at ya6 X6 b6
                refine hK.out _ _ b6 (fun hHeld => ?_)
                clear hK K y0 y1 y2 y3 yf q6 t6
                generalize (((Wq.setCell ⟨W0.heap.size, 0, none⟩ (.int .i64 0)).setCell ⟨W0.heap.size, 1, none⟩ (.int .i64 0)).setCell ⟨W0.heap.size, 2, none⟩ (.int .i64 0)).setCell ⟨W0.heap.size, 3, none⟩ (.int .i64 0) = W6 at ya6 X6 b6 hHeld ⊢
                refine wpAnyH_take (i := 18) (v := .bool true) rfl (by kernel_rfl) (by kernel_rfl) (by kernel_rfl) (fun _ _ _ h => h) (Or.inl ⟨by rfl, fun _ _ => by go_simp⟩) hHeld ?_
                simp only [List.getElem_toArray, List.getElem_cons_zero, List.getElem_cons_succ, Act.put, List.setIfInBounds_toArray, List.set_cons_zero, List.set_cons_succ]
                refine wpAnyH_take (i := 19) (v := .int .i64 0) rfl (by kernel_rfl) (by kernel_rfl) (by kernel_rfl) (fun _ _ _ h => h) (Or.inl ⟨by rfl, fun _ _ => by go_simp⟩) hHeld ?_
                simp only [List.getElem_toArray, List.getElem_cons_zero, List.getElem_cons_succ, Act.put, List.setIfInBounds_toArray, List.set_cons_zero, List.set_cons_succ]
                refine wpAnyH_done (by kernel_rfl) ?_ _
                go_wp2_with fail
                go_meet
                exact ⟨s', _, _, _, _, _, _, _, rfl, rfl, rfl, rfl, unveil HS', X6, ya6, b6, fun x hx => by have := f1 x hx; omega, fun x hx => by have := f2 x hx; omega⟩
            · simp only [List.getElem_toArray, List.getElem_cons_zero, List.getElem_cons_succ]
              refine ite_wanted rfl ?_
              refine q_alloc_wp 6 rfl rfl ?_
              intro WAQ zq bn
              have hXq : WA.heap.size < WAQ.heap.size := zq.lt
              have bWAQ := Below.next bWA bn
              have ya := ya.next bn
              have hSWAQ : WA.heap.size ≤ WAQ.heap.size := bn.size
              refine hK.out _ _ bWAQ (fun hHeld => ?_)
              clear hK K bn
              refine wpAnyH_ready (rs := [8]) (by kernel_rfl) (by simp) ?_
              refine AllReadyH.cons rfl (fun K hK => ?_) AllReadyH.nil
              · simp only [List.getElem_toArray, List.getElem_cons_zero, List.getElem_cons_succ]
                go_simp
                refine (unveil HDo _ bWAQ).mono ?_
                rintro e WAQC ⟨s', x', rfl, hs', ⟨⟨b1', d1', b2', d2', vs', rfl, r1, r2, l1', l2', n1, n2, hW'', f1, f2⟩⟩, bn⟩
                have HS' := veil hs'
                clear hs'
                have hr1 := fun x hx h0 => r1.blk_lt x hx h0
                have hr2 := fun x hx h0 => r2.blk_lt x hx h0
                have bWAQC := Below.next bWAQ bn
                have zq := zq.next bn
                have ya := ya.next bn
                have hSWAQC : WAQ.heap.size ≤ WAQC.heap.size := bn.size
                refine hK.out _ _ bWAQC (fun hHeld => ?_)
                clear hK K bn
                refine wpAnyH_take (i := 9) (v := .tuple #[qVal s'.ep s'.nx s'.gv (.slice b1' s'.rn d1') (.slice b2' s'.ln d2') vs', ansVal 0 0 0 0, .bool true, .int .i64 0]) rfl (by kernel_rfl) (by kernel_rfl) (by kernel_rfl) (fun _ _ _ h => h) (Or.inl ⟨by rfl, fun _ _ => by go_simp⟩) hHeld ?_
                simp only [List.getElem_toArray, List.getElem_cons_zero, List.getElem_cons_succ, Act.put, List.setIfInBounds_toArray, List.set_cons_zero, List.set_cons_succ]
                refine wpAnyH_take (i := 10) (v := qVal s'.ep s'.nx s'.gv (.slice b1' s'.rn d1') (.slice b2' s'.ln d2') vs') rfl (by kernel_rfl) (by kernel_rfl) (by kernel_rfl) (fun _ _ _ h => h) (Or.inl ⟨by rfl, fun _ _ => by go_simp⟩) hHeld ?_
                simp only [List.getElem_toArray, List.getElem_cons_zero, List.getElem_cons_succ, Act.put, List.setIfInBounds_toArray, List.set_cons_zero, List.set_cons_succ]
                refine wpAnyH_take (i := 11) (v := ansVal 0 0 0 0) rfl (by kernel_rfl) (by kernel_rfl) (by kernel_rfl) (fun _ _ _ h => h) (Or.inl ⟨by rfl, fun _ _ => by go_simp⟩) hHeld ?_
                simp only [List.getElem_toArray, List.getElem_cons_zero, List.getElem_cons_succ, Act.put, List.setIfInBounds_toArray, List.set_cons_zero, List.set_cons_succ]
                refine wpAnyH_take (i := 12) (v := .bool true) rfl (by kernel_rfl) (by kernel_rfl) (by kernel_rfl) (fun _ _ _ h => h) (Or.inl ⟨by rfl, fun _ _ => by go_simp⟩) hHeld ?_
                simp only [List.getElem_toArray, List.getElem_cons_zero, List.getElem_cons_succ, Act.put, List.setIfInBounds_toArray, List.set_cons_zero, List.set_cons_succ]
                refine wpAnyH_take (i := 13) (v := .int .i64 0) rfl (by kernel_rfl) (by kernel_rfl) (by kernel_rfl) (fun _ _ _ h => h) (Or.inl ⟨by rfl, fun _ _ => by go_simp⟩) hHeld ?_
                simp only [List.getElem_toArray, List.getElem_cons_zero, List.getElem_cons_succ, Act.put, List.setIfInBounds_toArray, List.set_cons_zero, List.set_cons_succ]
                refine wpAnyH_ready (rs := [16]) (by kernel_rfl) (by simp) ?_
                refine AllReadyH.cons rfl (fun K hK => ?_) AllReadyH.nil
                simp only [List.getElem_toArray, List.getElem_cons_zero, List.getElem_cons_succ]
                refine ite_wanted rfl ?_
                refine q_store_wp (ra := b1') (la := b2') (ws' := vs') _ _ rfl rfl rfl zq hW'' ?_
                intro Wq q5 t5
                have ya5 := ya.turned t5 (by omega)
                have r15 := t5.row r1 (fun x hx h0 => by have := f1 x hx; have := hr1 x hx h0; omega)
                have r25 := t5.row r2 (fun x hx h0 => by have := f2 x hx; have := hr2 x hx h0; omega)
                have b5 := t5.under bWAQC (by omega)
                refine hK.out _ _ b5 (fun hHeld => ?_)
                clear hK K
                refine wpAnyH_ready (rs := [17]) (by kernel_rfl) (by simp) ?_
                refine AllReadyH.cons rfl (fun K hK => ?_) AllReadyH.nil
                simp only [List.getElem_toArray, List.getElem_cons_zero, List.getElem_cons_succ]
                obtain ⟨y0, y1, y2, y3⟩ := ya5.cells
                have yf := ya5.free
                go_simp
                have t6 := ans_turned Wq (W0.heap.size) 0 0 0 0
                have ya6 := ya5.store 0 0 0 0
                have q6 := t6.queue q5 (by omega)
                have b6 := t6.under b5 (by omega)
                have X6 : Bx _ (WA.heap.size) s' b1' d1' b2' d2' vs' := ⟨q6, t6.row r15 (fun x hx h0 => by have := f1 x hx; have := hr1 x hx h0; omega), t6.row r25 (fun x hx h0 => by have := f2 x hx; have := hr2 x hx h0; omega), n1, n2, hW''⟩
                unfold ansStore at ya6 X6 b6
                refine hK.out _ _ b6 (fun hHeld => ?_)
                clear hK K y0 y1 y2 y3 yf q6 t6
                generalize (((Wq.setCell ⟨W0.heap.size, 0, none⟩ (.int .i64 0)).setCell ⟨W0.heap.size, 1, none⟩ (.int .i64 0)).setCell ⟨W0.heap.size, 2, none⟩ (.int .i64 0)).setCell ⟨W0.heap.size, 3, none⟩ (.int .i64 0) = W6 at ya6 X6 b6 hHeld ⊢
                refine wpAnyH_take (i := 18) (v := .bool true) rfl (by kernel_rfl) (by kernel_rfl) (by kernel_rfl) (fun _ _ _ h => h) (Or.inl ⟨by rfl, fun _ _ => by go_simp⟩) hHeld ?_
                simp only [List.getElem_toArray, List.getElem_cons_zero, List.getElem_cons_succ, Act.put, List.setIfInBounds_toArray, List.set_cons_zero, List.set_cons_succ]
                refine wpAnyH_take (i := 19) (v := .int .i64 0) rfl (by kernel_rfl) (by kernel_rfl) (by kernel_rfl) (fun _ _ _ h => h) (Or.inl ⟨by rfl, fun _ _ => by go_simp⟩) hHeld ?_
                simp only [List.getElem_toArray, List.getElem_cons_zero, List.getElem_cons_succ, Act.put, List.setIfInBounds_toArray, List.set_cons_zero, List.set_cons_succ]
                refine wpAnyH_done (by kernel_rfl) ?_ _
                go_wp2_with fail
                go_meet
                exact ⟨s', _, _, _, _, _, _, _, rfl, rfl, rfl, rfl, unveil HS', X6, ya6, b6, fun x hx => by have := f1 x hx; omega, fun x hx => by have := f2 x hx; omega⟩
        · simp only [List.getElem_toArray, List.getElem_cons_zero, List.getElem_cons_succ]
          refine ite_wanted rfl ?_
          refine q_alloc_wp 6 rfl rfl ?_
          intro WQ zq bn
          have hXq : W0.heap.size < WQ.heap.size := zq.lt
          have bWQ := Below.next bW0 bn
          have hSWQ : W0.heap.size ≤ WQ.heap.size := bn.size
          refine hK.out _ _ bWQ (fun hHeld => ?_)
          clear hK K bn
          refine wpAnyH_ready (rs := [6, 15]) (by kernel_rfl) (by simp) ?_
          refine AllReadyH.cons rfl (fun K hK => ?_) (AllReadyH.cons rfl (fun K hK => ?_) AllReadyH.nil)
          · simp only [List.getElem_toArray, List.getElem_cons_zero, List.getElem_cons_succ]
            go_simp
            refine (HPk _).mono ?_
            rintro r w1 ⟨rfl, rfl⟩
            refine hK.out _ _ bWQ (fun hHeld => ?_)
            clear hK K
            refine wpAnyH_take (i := 7) (v := .agg #[.int .i64 1, .int .i64 0, .int .i64 m, .int .i64 bd, .int .i64 0, .int .i64 0]) rfl (by kernel_rfl) (by kernel_rfl) (by kernel_rfl) (fun _ _ _ h => h) (Or.inl ⟨by rfl, fun _ _ => by go_simp⟩) hHeld ?_
            simp only [List.getElem_toArray, List.getElem_cons_zero, List.getElem_cons_succ, Act.put, List.setIfInBounds_toArray, List.set_cons_zero, List.set_cons_succ]
            refine wpAnyH_ready (rs := [8, 15]) (by kernel_rfl) (by simp) ?_
            refine AllReadyH.cons rfl (fun K hK => ?_) (AllReadyH.cons rfl (fun K hK => ?_) AllReadyH.nil)
            · simp only [List.getElem_toArray, List.getElem_cons_zero, List.getElem_cons_succ]
              go_simp
              refine (unveil HDo _ bWQ).mono ?_
              rintro e WQC ⟨s', x', rfl, hs', ⟨⟨b1', d1', b2', d2', vs', rfl, r1, r2, l1', l2', n1, n2, hW'', f1, f2⟩⟩, bn⟩
              have HS' := veil hs'
              clear hs'
              have hr1 := fun x hx h0 => r1.blk_lt x hx h0
              have hr2 := fun x hx h0 => r2.blk_lt x hx h0
              have bWQC := Below.next bWQ bn
              have zq := zq.next bn
              have hSWQC : WQ.heap.size ≤ WQC.heap.size := bn.size
              refine hK.out _ _ bWQC (fun hHeld => ?_)
              clear hK K bn
              refine wpAnyH_take (i := 9) (v := .tuple #[qVal s'.ep s'.nx s'.gv (.slice b1' s'.rn d1') (.slice b2' s'.ln d2') vs', ansVal 0 0 0 0, .bool true, .int .i64 0]) rfl (by kernel_rfl) (by kernel_rfl) (by kernel_rfl) (fun _ _ _ h => h) (Or.inl ⟨by rfl, fun _ _ => by go_simp⟩) hHeld ?_
              simp only [List.getElem_toArray, List.getElem_cons_zero, List.getElem_cons_succ, Act.put, List.setIfInBounds_toArray, List.set_cons_zero, List.set_cons_succ]
              refine wpAnyH_take (i := 10) (v := qVal s'.ep s'.nx s'.gv (.slice b1' s'.rn d1') (.slice b2' s'.ln d2') vs') rfl (by kernel_rfl) (by kernel_rfl) (by kernel_rfl) (fun _ _ _ h => h) (Or.inl ⟨by rfl, fun _ _ => by go_simp⟩) hHeld ?_
              simp only [List.getElem_toArray, List.getElem_cons_zero, List.getElem_cons_succ, Act.put, List.setIfInBounds_toArray, List.set_cons_zero, List.set_cons_succ]
              refine wpAnyH_take (i := 11) (v := ansVal 0 0 0 0) rfl (by kernel_rfl) (by kernel_rfl) (by kernel_rfl) (fun _ _ _ h => h) (Or.inl ⟨by rfl, fun _ _ => by go_simp⟩) hHeld ?_
              simp only [List.getElem_toArray, List.getElem_cons_zero, List.getElem_cons_succ, Act.put, List.setIfInBounds_toArray, List.set_cons_zero, List.set_cons_succ]
              refine wpAnyH_take (i := 12) (v := .bool true) rfl (by kernel_rfl) (by kernel_rfl) (by kernel_rfl) (fun _ _ _ h => h) (Or.inl ⟨by rfl, fun _ _ => by go_simp⟩) hHeld ?_
              simp only [List.getElem_toArray, List.getElem_cons_zero, List.getElem_cons_succ, Act.put, List.setIfInBounds_toArray, List.set_cons_zero, List.set_cons_succ]
              refine wpAnyH_take (i := 13) (v := .int .i64 0) rfl (by kernel_rfl) (by kernel_rfl) (by kernel_rfl) (fun _ _ _ h => h) (Or.inl ⟨by rfl, fun _ _ => by go_simp⟩) hHeld ?_
              simp only [List.getElem_toArray, List.getElem_cons_zero, List.getElem_cons_succ, Act.put, List.setIfInBounds_toArray, List.set_cons_zero, List.set_cons_succ]
              refine wpAnyH_ready (rs := [15]) (by kernel_rfl) (by simp) ?_
              refine AllReadyH.cons rfl (fun K hK => ?_) AllReadyH.nil
              · simp only [List.getElem_toArray, List.getElem_cons_zero, List.getElem_cons_succ]
                go_simp
                obtain ⟨WQCA, hWQCA, ya, bn⟩ : ∃ W, W = WQC.alloc (.cells #[.int .i64 0, .int .i64 0, .int .i64 0, .int .i64 0] 47) ∧ ansBlock W WQC.heap.size 0 0 0 0 ∧ Below WQC.heap.size WQC W := ⟨_, rfl, ansBlock.new _ 0 0 0 0, below1 _ _⟩
                rw [← hWQCA]
                have hXa : WQC.heap.size < WQCA.heap.size := ya.lt
                have bWQCA := Below.next bWQC bn
                clear hWQCA
                have zq := zq.next bn
                have r1 := r1.below bn
                have r2 := r2.below bn
                have hSWQCA : WQC.heap.size ≤ WQCA.heap.size := bn.size
                refine hK.out _ _ bWQCA (fun hHeld => ?_)
                clear hK K bn
                refine wpAnyH_ready (rs := [16]) (by kernel_rfl) (by simp) ?_
                refine AllReadyH.cons rfl (fun K hK => ?_) AllReadyH.nil
                simp only [List.getElem_toArray, List.getElem_cons_zero, List.getElem_cons_succ]
                refine ite_wanted rfl ?_
                refine q_store_wp (ra := b1') (la := b2') (ws' := vs') _ _ rfl rfl rfl zq hW'' ?_
                intro Wq q5 t5
                have ya5 := ya.turned t5 (by omega)
                have r15 := t5.row r1 (fun x hx h0 => by have := f1 x hx; have := hr1 x hx h0; omega)
                have r25 := t5.row r2 (fun x hx h0 => by have := f2 x hx; have := hr2 x hx h0; omega)
                have b5 := t5.under bWQCA (by omega)
                refine hK.out _ _ b5 (fun hHeld => ?_)
                clear hK K
                refine wpAnyH_ready (rs := [17]) (by kernel_rfl) (by simp) ?_
                refine AllReadyH.cons rfl (fun K hK => ?_) AllReadyH.nil
                simp only [List.getElem_toArray, List.getElem_cons_zero, List.getElem_cons_succ]
                obtain ⟨y0, y1, y2, y3⟩ := ya5.cells
                have yf := ya5.free
                go_simp
                have t6 := ans_turned Wq (WQC.heap.size) 0 0 0 0
                have ya6 := ya5.store 0 0 0 0
                have q6 := t6.queue q5 (by omega)
                have b6 := t6.under b5 (by omega)
                have X6 : Bx _ (W0.heap.size) s' b1' d1' b2' d2' vs' := ⟨q6, t6.row r15 (fun x hx h0 => by have := f1 x hx; have := hr1 x hx h0; omega), t6.row r25 (fun x hx h0 => by have := f2 x hx; have := hr2 x hx h0; omega), n1, n2, hW''⟩
                unfold ansStore at ya6 X6 b6
                refine hK.out _ _ b6 (fun hHeld => ?_)
                clear hK K y0 y1 y2 y3 yf q6 t6
                generalize (((Wq.setCell ⟨WQC.heap.size, 0, none⟩ (.int .i64 0)).setCell ⟨WQC.heap.size, 1, none⟩ (.int .i64 0)).setCell ⟨WQC.heap.size, 2, none⟩ (.int .i64 0)).setCell ⟨WQC.heap.size, 3, none⟩ (.int .i64 0) = W6 at ya6 X6 b6 hHeld ⊢
                refine wpAnyH_take (i := 18) (v := .bool true) rfl (by kernel_rfl) (by kernel_rfl) (by kernel_rfl) (fun _ _ _ h => h) (Or.inl ⟨by rfl, fun _ _ => by go_simp⟩) hHeld ?_
                simp only [List.getElem_toArray, List.getElem_cons_zero, List.getElem_cons_succ, Act.put, List.setIfInBounds_toArray, List.set_cons_zero, List.set_cons_succ]
                refine wpAnyH_take (i := 19) (v := .int .i64 0) rfl (by kernel_rfl) (by kernel_rfl) (by kernel_rfl) (fun _ _ _ h => h) (Or.inl ⟨by rfl, fun _ _ => by go_simp⟩) hHeld ?_
                simp only [List.getElem_toArray, List.getElem_cons_zero, List.getElem_cons_succ, Act.put, List.setIfInBounds_toArray, List.set_cons_zero, List.set_cons_succ]
                refine wpAnyH_done (by kernel_rfl) ?_ _
                go_wp2_with fail
                go_meet
                exact ⟨s', _, _, _, _, _, _, _, rfl, rfl, rfl, rfl, unveil HS', X6, ya6, b6, fun x hx => by have := f1 x hx; omega, fun x hx => by have := f2 x hx; omega⟩
            · simp only [List.getElem_toArray, List.getElem_cons_zero, List.getElem_cons_succ]
              go_simp
              obtain ⟨WQA, hWQA, ya, bn⟩ : ∃ W, W = WQ.alloc (.cells #[.int .i64 0, .int .i64 0, .int .i64 0, .int .i64 0] 47) ∧ ansBlock W WQ.heap.size 0 0 0 0 ∧ Below WQ.heap.size WQ W := ⟨_, rfl, ansBlock.new _ 0 0 0 0, below1 _ _⟩
              rw [← hWQA]
              have hXa : WQ.heap.size < WQA.heap.size := ya.lt
              have bWQA := Below.next bWQ bn
              clear hWQA
              have zq := zq.next bn
              have hSWQA : WQ.heap.size ≤ WQA.heap.size := bn.size
              refine hK.out _ _ bWQA (fun hHeld => ?_)
              clear hK K bn
              refine wpAnyH_ready (rs := [8]) (by kernel_rfl) (by simp) ?_
              refine AllReadyH.cons rfl (fun K hK => ?_) AllReadyH.nil
              · simp only [List.getElem_toArray, List.getElem_cons_zero, List.getElem_cons_succ]
                go_simp
                refine (unveil HDo _ bWQA).mono ?_
                rintro e WQAC ⟨s', x', rfl, hs', ⟨⟨b1', d1', b2', d2', vs', rfl, r1, r2, l1', l2', n1, n2, hW'', f1, f2⟩⟩, bn⟩
                have HS' := veil hs'
                clear hs'
                have hr1 := fun x hx h0 => r1.blk_lt x hx h0
                have hr2 := fun x hx h0 => r2.blk_lt x hx h0
                have bWQAC := Below.next bWQA bn
                have zq := zq.next bn
                have ya := ya.next bn
                have hSWQAC : WQA.heap.size ≤ WQAC.heap.size := bn.size
                refine hK.out _ _ bWQAC (fun hHeld => ?_)
                clear hK K bn
                refine wpAnyH_take (i := 9) (v := .tuple #[qVal s'.ep s'.nx s'.gv (.slice b1' s'.rn d1') (.slice b2' s'.ln d2') vs', ansVal 0 0 0 0, .bool true, .int .i64 0]) rfl (by kernel_rfl) (by kernel_rfl) (by kernel_rfl) (fun _ _ _ h => h) (Or.inl ⟨by rfl, fun _ _ => by go_simp⟩) hHeld ?_
                simp only [List.getElem_toArray, List.getElem_cons_zero, List.getElem_cons_succ, Act.put, List.setIfInBounds_toArray, List.set_cons_zero, List.set_cons_succ]
                refine wpAnyH_take (i := 10) (v := qVal s'.ep s'.nx s'.gv (.slice b1' s'.rn d1') (.slice b2' s'.ln d2') vs') rfl (by kernel_rfl) (by kernel_rfl) (by kernel_rfl) (fun _ _ _ h => h) (Or.inl ⟨by rfl, fun _ _ => by go_simp⟩) hHeld ?_
                simp only [List.getElem_toArray, List.getElem_cons_zero, List.getElem_cons_succ, Act.put, List.setIfInBounds_toArray, List.set_cons_zero, List.set_cons_succ]
                refine wpAnyH_take (i := 11) (v := ansVal 0 0 0 0) rfl (by kernel_rfl) (by kernel_rfl) (by kernel_rfl) (fun _ _ _ h => h) (Or.inl ⟨by rfl, fun _ _ => by go_simp⟩) hHeld ?_
                simp only [List.getElem_toArray, List.getElem_cons_zero, List.getElem_cons_succ, Act.put, List.setIfInBounds_toArray, List.set_cons_zero, List.set_cons_succ]
                refine wpAnyH_take (i := 12) (v := .bool true) rfl (by kernel_rfl) (by kernel_rfl) (by kernel_rfl) (fun _ _ _ h => h) (Or.inl ⟨by rfl, fun _ _ => by go_simp⟩) hHeld ?_
                simp only [List.getElem_toArray, List.getElem_cons_zero, List.getElem_cons_succ, Act.put, List.setIfInBounds_toArray, List.set_cons_zero, List.set_cons_succ]
                refine wpAnyH_take (i := 13) (v := .int .i64 0) rfl (by kernel_rfl) (by kernel_rfl) (by kernel_rfl) (fun _ _ _ h => h) (Or.inl ⟨by rfl, fun _ _ => by go_simp⟩) hHeld ?_
                simp only [List.getElem_toArray, List.getElem_cons_zero, List.getElem_cons_succ, Act.put, List.setIfInBounds_toArray, List.set_cons_zero, List.set_cons_succ]
                refine wpAnyH_ready (rs := [16]) (by kernel_rfl) (by simp) ?_
                refine AllReadyH.cons rfl (fun K hK => ?_) AllReadyH.nil
                simp only [List.getElem_toArray, List.getElem_cons_zero, List.getElem_cons_succ]
                refine ite_wanted rfl ?_
                refine q_store_wp (ra := b1') (la := b2') (ws' := vs') _ _ rfl rfl rfl zq hW'' ?_
                intro Wq q5 t5
                have ya5 := ya.turned t5 (by omega)
                have r15 := t5.row r1 (fun x hx h0 => by have := f1 x hx; have := hr1 x hx h0; omega)
                have r25 := t5.row r2 (fun x hx h0 => by have := f2 x hx; have := hr2 x hx h0; omega)
                have b5 := t5.under bWQAC (by omega)
                refine hK.out _ _ b5 (fun hHeld => ?_)
                clear hK K
                refine wpAnyH_ready (rs := [17]) (by kernel_rfl) (by simp) ?_
                refine AllReadyH.cons rfl (fun K hK => ?_) AllReadyH.nil
                simp only [List.getElem_toArray, List.getElem_cons_zero, List.getElem_cons_succ]
                obtain ⟨y0, y1, y2, y3⟩ := ya5.cells
                have yf := ya5.free
                go_simp
                have t6 := ans_turned Wq (WQ.heap.size) 0 0 0 0
                have ya6 := ya5.store 0 0 0 0
                have q6 := t6.queue q5 (by omega)
                have b6 := t6.under b5 (by omega)
                have X6 : Bx _ (W0.heap.size) s' b1' d1' b2' d2' vs' := ⟨q6, t6.row r15 (fun x hx h0 => by have := f1 x hx; have := hr1 x hx h0; omega), t6.row r25 (fun x hx h0 => by have := f2 x hx; have := hr2 x hx h0; omega), n1, n2, hW''⟩
                unfold ansStore at ya6 X6 b6
                refine hK.out _ _ b6 (fun hHeld => ?_)
                clear hK K y0 y1 y2 y3 yf q6 t6
                generalize (((Wq.setCell ⟨WQ.heap.size, 0, none⟩ (.int .i64 0)).setCell ⟨WQ.heap.size, 1, none⟩ (.int .i64 0)).setCell ⟨WQ.heap.size, 2, none⟩ (.int .i64 0)).setCell ⟨WQ.heap.size, 3, none⟩ (.int .i64 0) = W6 at ya6 X6 b6 hHeld ⊢
                refine wpAnyH_take (i := 18) (v := .bool true) rfl (by kernel_rfl) (by kernel_rfl) (by kernel_rfl) (fun _ _ _ h => h) (Or.inl ⟨by rfl, fun _ _ => by go_simp⟩) hHeld ?_
                simp only [List.getElem_toArray, List.getElem_cons_zero, List.getElem_cons_succ, Act.put, List.setIfInBounds_toArray, List.set_cons_zero, List.set_cons_succ]
                refine wpAnyH_take (i := 19) (v := .int .i64 0) rfl (by kernel_rfl) (by kernel_rfl) (by kernel_rfl) (fun _ _ _ h => h) (Or.inl ⟨by rfl, fun _ _ => by go_simp⟩) hHeld ?_
                simp only [List.getElem_toArray, List.getElem_cons_zero, List.getElem_cons_succ, Act.put, List.setIfInBounds_toArray, List.set_cons_zero, List.set_cons_succ]
                refine wpAnyH_done (by kernel_rfl) ?_ _
                go_wp2_with fail
                go_meet
                exact ⟨s', _, _, _, _, _, _, _, rfl, rfl, rfl, rfl, unveil HS', X6, ya6, b6, fun x hx => by have := f1 x hx; omega, fun x hx => by have := f2 x hx; omega⟩
          · simp only [List.getElem_toArray, List.getElem_cons_zero, List.getElem_cons_succ]
            go_simp
            obtain ⟨WQA, hWQA, ya, bn⟩ : ∃ W, W = WQ.alloc (.cells #[.int .i64 0, .int .i64 0, .int .i64 0, .int .i64 0] 47) ∧ ansBlock W WQ.heap.size 0 0 0 0 ∧ Below WQ.heap.size WQ W := ⟨_, rfl, ansBlock.new _ 0 0 0 0, below1 _ _⟩
            rw [← hWQA]
            have hXa : WQ.heap.size < WQA.heap.size := ya.lt
            have bWQA := Below.next bWQ bn
            clear hWQA
            have zq := zq.next bn
            have hSWQA : WQ.heap.size ≤ WQA.heap.size := bn.size
            refine hK.out _ _ bWQA (fun hHeld => ?_)
            clear hK K bn
            refine wpAnyH_ready (rs := [6]) (by kernel_rfl) (by simp) ?_
            refine AllReadyH.cons rfl (fun K hK => ?_) AllReadyH.nil
            · simp only [List.getElem_toArray, List.getElem_cons_zero, List.getElem_cons_succ]
              go_simp
              refine (HPk _).mono ?_
              rintro r w1 ⟨rfl, rfl⟩
              refine hK.out _ _ bWQA (fun hHeld => ?_)
              clear hK K
              refine wpAnyH_take (i := 7) (v := .agg #[.int .i64 1, .int .i64 0, .int .i64 m, .int .i64 bd, .int .i64 0, .int .i64 0]) rfl (by kernel_rfl) (by kernel_rfl) (by kernel_rfl) (fun _ _ _ h => h) (Or.inl ⟨by rfl, fun _ _ => by go_simp⟩) hHeld ?_
              simp only [List.getElem_toArray, List.getElem_cons_zero, List.getElem_cons_succ, Act.put, List.setIfInBounds_toArray, List.set_cons_zero, List.set_cons_succ]
              refine wpAnyH_ready (rs := [8]) (by kernel_rfl) (by simp) ?_
              refine AllReadyH.cons rfl (fun K hK => ?_) AllReadyH.nil
              · simp only [List.getElem_toArray, List.getElem_cons_zero, List.getElem_cons_succ]
                go_simp
                refine (unveil HDo _ bWQA).mono ?_
                rintro e WQAC ⟨s', x', rfl, hs', ⟨⟨b1', d1', b2', d2', vs', rfl, r1, r2, l1', l2', n1, n2, hW'', f1, f2⟩⟩, bn⟩
                have HS' := veil hs'
                clear hs'
                have hr1 := fun x hx h0 => r1.blk_lt x hx h0
                have hr2 := fun x hx h0 => r2.blk_lt x hx h0
                have bWQAC := Below.next bWQA bn
                have zq := zq.next bn
                have ya := ya.next bn
                have hSWQAC : WQA.heap.size ≤ WQAC.heap.size := bn.size
                refine hK.out _ _ bWQAC (fun hHeld => ?_)
                clear hK K bn
                refine wpAnyH_take (i := 9) (v := .tuple #[qVal s'.ep s'.nx s'.gv (.slice b1' s'.rn d1') (.slice b2' s'.ln d2') vs', ansVal 0 0 0 0, .bool true, .int .i64 0]) rfl (by kernel_rfl) (by kernel_rfl) (by kernel_rfl) (fun _ _ _ h => h) (Or.inl ⟨by rfl, fun _ _ => by go_simp⟩) hHeld ?_
                simp only [List.getElem_toArray, List.getElem_cons_zero, List.getElem_cons_succ, Act.put, List.setIfInBounds_toArray, List.set_cons_zero, List.set_cons_succ]
                refine wpAnyH_take (i := 10) (v := qVal s'.ep s'.nx s'.gv (.slice b1' s'.rn d1') (.slice b2' s'.ln d2') vs') rfl (by kernel_rfl) (by kernel_rfl) (by kernel_rfl) (fun _ _ _ h => h) (Or.inl ⟨by rfl, fun _ _ => by go_simp⟩) hHeld ?_
                simp only [List.getElem_toArray, List.getElem_cons_zero, List.getElem_cons_succ, Act.put, List.setIfInBounds_toArray, List.set_cons_zero, List.set_cons_succ]
                refine wpAnyH_take (i := 11) (v := ansVal 0 0 0 0) rfl (by kernel_rfl) (by kernel_rfl) (by kernel_rfl) (fun _ _ _ h => h) (Or.inl ⟨by rfl, fun _ _ => by go_simp⟩) hHeld ?_
                simp only [List.getElem_toArray, List.getElem_cons_zero, List.getElem_cons_succ, Act.put, List.setIfInBounds_toArray, List.set_cons_zero, List.set_cons_succ]
                refine wpAnyH_take (i := 12) (v := .bool true) rfl (by kernel_rfl) (by kernel_rfl) (by kernel_rfl) (fun _ _ _ h => h) (Or.inl ⟨by rfl, fun _ _ => by go_simp⟩) hHeld ?_
                simp only [List.getElem_toArray, List.getElem_cons_zero, List.getElem_cons_succ, Act.put, List.setIfInBounds_toArray, List.set_cons_zero, List.set_cons_succ]
                refine wpAnyH_take (i := 13) (v := .int .i64 0) rfl (by kernel_rfl) (by kernel_rfl) (by kernel_rfl) (fun _ _ _ h => h) (Or.inl ⟨by rfl, fun _ _ => by go_simp⟩) hHeld ?_
                simp only [List.getElem_toArray, List.getElem_cons_zero, List.getElem_cons_succ, Act.put, List.setIfInBounds_toArray, List.set_cons_zero, List.set_cons_succ]
                refine wpAnyH_ready (rs := [16]) (by kernel_rfl) (by simp) ?_
                refine AllReadyH.cons rfl (fun K hK => ?_) AllReadyH.nil
                simp only [List.getElem_toArray, List.getElem_cons_zero, List.getElem_cons_succ]
                refine ite_wanted rfl ?_
                refine q_store_wp (ra := b1') (la := b2') (ws' := vs') _ _ rfl rfl rfl zq hW'' ?_
                intro Wq q5 t5
                have ya5 := ya.turned t5 (by omega)
                have r15 := t5.row r1 (fun x hx h0 => by have := f1 x hx; have := hr1 x hx h0; omega)
                have r25 := t5.row r2 (fun x hx h0 => by have := f2 x hx; have := hr2 x hx h0; omega)
                have b5 := t5.under bWQAC (by omega)
                refine hK.out _ _ b5 (fun hHeld => ?_)
                clear hK K
                refine wpAnyH_ready (rs := [17]) (by kernel_rfl) (by simp) ?_
                refine AllReadyH.cons rfl (fun K hK => ?_) AllReadyH.nil
                simp only [List.getElem_toArray, List.getElem_cons_zero, List.getElem_cons_succ]
                obtain ⟨y0, y1, y2, y3⟩ := ya5.cells
                have yf := ya5.free
                go_simp
                have t6 := ans_turned Wq (WQ.heap.size) 0 0 0 0
                have ya6 := ya5.store 0 0 0 0
                have q6 := t6.queue q5 (by omega)
                have b6 := t6.under b5 (by omega)
                have X6 : Bx _ (W0.heap.size) s' b1' d1' b2' d2' vs' := ⟨q6, t6.row r15 (fun x hx h0 => by have := f1 x hx; have := hr1 x hx h0; omega), t6.row r25 (fun x hx h0 => by have := f2 x hx; have := hr2 x hx h0; omega), n1, n2, hW''⟩
                unfold ansStore at ya6 X6 b6
                refine hK.out _ _ b6 (fun hHeld => ?_)
                clear hK K y0 y1 y2 y3 yf q6 t6
                generalize (((Wq.setCell ⟨WQ.heap.size, 0, none⟩ (.int .i64 0)).setCell ⟨WQ.heap.size, 1, none⟩ (.int .i64 0)).setCell ⟨WQ.heap.size, 2, none⟩ (.int .i64 0)).setCell ⟨WQ.heap.size, 3, none⟩ (.int .i64 0) = W6 at ya6 X6 b6 hHeld ⊢
                refine wpAnyH_take (i := 18) (v := .bool true) rfl (by kernel_rfl) (by kernel_rfl) (by kernel_rfl) (fun _ _ _ h => h) (Or.inl ⟨by rfl, fun _ _ => by go_simp⟩) hHeld ?_
                simp only [List.getElem_toArray, List.getElem_cons_zero, List.getElem_cons_succ, Act.put, List.setIfInBounds_toArray, List.set_cons_zero, List.set_cons_succ]
                refine wpAnyH_take (i := 19) (v := .int .i64 0) rfl (by kernel_rfl) (by kernel_rfl) (by kernel_rfl) (fun _ _ _ h => h) (Or.inl ⟨by rfl, fun _ _ => by go_simp⟩) hHeld ?_
                simp only [List.getElem_toArray, List.getElem_cons_zero, List.getElem_cons_succ, Act.put, List.setIfInBounds_toArray, List.set_cons_zero, List.set_cons_succ]
                refine wpAnyH_done (by kernel_rfl) ?_ _
                go_wp2_with fail
                go_meet
                exact ⟨s', _, _, _, _, _, _, _, rfl, rfl, rfl, rfl, unveil HS', X6, ya6, b6, fun x hx => by have := f1 x hx; omega, fun x hx => by have := f2 x hx; omega⟩
        · simp only [List.getElem_toArray, List.getElem_cons_zero, List.getElem_cons_succ]
          go_simp
          obtain ⟨WA, hWA, ya, bn⟩ : ∃ W, W = W0.alloc (.cells #[.int .i64 0, .int .i64 0, .int .i64 0, .int .i64 0] 47) ∧ ansBlock W W0.heap.size 0 0 0 0 ∧ Below W0.heap.size W0 W := ⟨_, rfl, ansBlock.new _ 0 0 0 0, below1 _ _⟩
          rw [← hWA]
          have hXa : W0.heap.size < WA.heap.size := ya.lt
          have bWA := Below.next bW0 bn
          clear hWA
          have hSWA : W0.heap.size ≤ WA.heap.size := bn.size
          refine hK.out _ _ bWA (fun hHeld => ?_)
          clear hK K bn
          refine wpAnyH_ready (rs := [6, 14]) (by kernel_rfl) (by simp) ?_
          refine AllReadyH.cons rfl (fun K hK => ?_) (AllReadyH.cons rfl (fun K hK => ?_) AllReadyH.nil)
          · simp only [List.getElem_toArray, List.getElem_cons_zero, List.getElem_cons_succ]
            go_simp
            refine (HPk _).mono ?_
            rintro r w1 ⟨rfl, rfl⟩
            refine hK.out _ _ bWA (fun hHeld => ?_)
            clear hK K
            refine wpAnyH_take (i := 7) (v := .agg #[.int .i64 1, .int .i64 0, .int .i64 m, .int .i64 bd, .int .i64 0, .int .i64 0]) rfl (by kernel_rfl) (by kernel_rfl) (by kernel_rfl) (fun _ _ _ h => h) (Or.inl ⟨by rfl, fun _ _ => by go_simp⟩) hHeld ?_
            simp only [List.getElem_toArray, List.getElem_cons_zero, List.getElem_cons_succ, Act.put, List.setIfInBounds_toArray, List.set_cons_zero, List.set_cons_succ]
            refine wpAnyH_ready (rs := [8, 14]) (by kernel_rfl) (by simp) ?_
            refine AllReadyH.cons rfl (fun K hK => ?_) (AllReadyH.cons rfl (fun K hK => ?_) AllReadyH.nil)
            · simp only [List.getElem_toArray, List.getElem_cons_zero, List.getElem_cons_succ]
              go_simp
              refine (unveil HDo _ bWA).mono ?_
              rintro e WAC ⟨s', x', rfl, hs', ⟨⟨b1', d1', b2', d2', vs', rfl, r1, r2, l1', l2', n1, n2, hW'', f1, f2⟩⟩, bn⟩
              have HS' := veil hs'
              clear hs'
              have hr1 := fun x hx h0 => r1.blk_lt x hx h0
              have hr2 := fun x hx h0 => r2.blk_lt x hx h0
              have bWAC := Below.next bWA bn
              have ya := ya.next bn
              have hSWAC : WA.heap.size ≤ WAC.heap.size := bn.size
              refine hK.out _ _ bWAC (fun hHeld => ?_)
              clear hK K bn
              refine wpAnyH_take (i := 9) (v := .tuple #[qVal s'.ep s'.nx s'.gv (.slice b1' s'.rn d1') (.slice b2' s'.ln d2') vs', ansVal 0 0 0 0, .bool true, .int .i64 0]) rfl (by kernel_rfl) (by kernel_rfl) (by kernel_rfl) (fun _ _ _ h => h) (Or.inl ⟨by rfl, fun _ _ => by go_simp⟩) hHeld ?_
              simp only [List.getElem_toArray, List.getElem_cons_zero, List.getElem_cons_succ, Act.put, List.setIfInBounds_toArray, List.set_cons_zero, List.set_cons_succ]
              refine wpAnyH_take (i := 10) (v := qVal s'.ep s'.nx s'.gv (.slice b1' s'.rn d1') (.slice b2' s'.ln d2') vs') rfl (by kernel_rfl) (by kernel_rfl) (by kernel_rfl) (fun _ _ _ h => h) (Or.inl ⟨by rfl, fun _ _ => by go_simp⟩) hHeld ?_
              simp only [List.getElem_toArray, List.getElem_cons_zero, List.getElem_cons_succ, Act.put, List.setIfInBounds_toArray, List.set_cons_zero, List.set_cons_succ]
              refine wpAnyH_take (i := 11) (v := ansVal 0 0 0 0) rfl (by kernel_rfl) (by kernel_rfl) (by kernel_rfl) (fun _ _ _ h => h) (Or.inl ⟨by rfl, fun _ _ => by go_simp⟩) hHeld ?_
              simp only [List.getElem_toArray, List.getElem_cons_zero, List.getElem_cons_succ, Act.put, List.setIfInBounds_toArray, List.set_cons_zero, List.set_cons_succ]
              refine wpAnyH_take (i := 12) (v := .bool true) rfl (by kernel_rfl) (by kernel_rfl) (by kernel_rfl) (fun _ _ _ h => h) (Or.inl ⟨by rfl, fun _ _ => by go_simp⟩) hHeld ?_
              simp only [List.getElem_toArray, List.getElem_cons_zero, List.getElem_cons_succ, Act.put, List.setIfInBounds_toArray, List.set_cons_zero, List.set_cons_succ]
              refine wpAnyH_take (i := 13) (v := .int .i64 0) rfl (by kernel_rfl) (by kernel_rfl) (by kernel_rfl) (fun _ _ _ h => h) (Or.inl ⟨by rfl, fun _ _ => by go_simp⟩) hHeld ?_
              simp only [List.getElem_toArray, List.getElem_cons_zero, List.getElem_cons_succ, Act.put, List.setIfInBounds_toArray, List.set_cons_zero, List.set_cons_succ]
              refine wpAnyH_ready (rs := [14]) (by kernel_rfl) (by simp) ?_
              refine AllReadyH.cons rfl (fun K hK => ?_) AllReadyH.nil
              · simp only [List.getElem_toArray, List.getElem_cons_zero, List.getElem_cons_succ]
                refine ite_wanted rfl ?_
                refine q_alloc_wp 6 rfl rfl ?_
                intro WACQ zq bn
                have hXq : WAC.heap.size < WACQ.heap.size := zq.lt
                have bWACQ := Below.next bWAC bn
                have ya := ya.next bn
                have r1 := r1.below bn
                have r2 := r2.below bn
                have hSWACQ : WAC.heap.size ≤ WACQ.heap.size := bn.size
                refine hK.out _ _ bWACQ (fun hHeld => ?_)
                clear hK K bn
                refine wpAnyH_ready (rs := [16]) (by kernel_rfl) (by simp) ?_
                refine AllReadyH.cons rfl (fun K hK => ?_) AllReadyH.nil
                simp only [List.getElem_toArray, List.getElem_cons_zero, List.getElem_cons_succ]
                refine ite_wanted rfl ?_
                refine q_store_wp (ra := b1') (la := b2') (ws' := vs') _ _ rfl rfl rfl zq hW'' ?_
                intro Wq q5 t5
                have ya5 := ya.turned t5 (by omega)
                have r15 := t5.row r1 (fun x hx h0 => by have := f1 x hx; have := hr1 x hx h0; omega)
                have r25 := t5.row r2 (fun x hx h0 => by have := f2 x hx; have := hr2 x hx h0; omega)
                have b5 := t5.under bWACQ (by omega)
                refine hK.out _ _ b5 (fun hHeld => ?_)
                clear hK K
                refine wpAnyH_ready (rs := [17]) (by kernel_rfl) (by simp) ?_
                refine AllReadyH.cons rfl (fun K hK => ?_) AllReadyH.nil
                simp only [List.getElem_toArray, List.getElem_cons_zero, List.getElem_cons_succ]
                obtain ⟨y0, y1, y2, y3⟩ := ya5.cells
                have yf := ya5.free
                go_simp
                have t6 := ans_turned Wq (W0.heap.size) 0 0 0 0
                have ya6 := ya5.store 0 0 0 0
                have q6 := t6.queue q5 (by omega)
                have b6 := t6.under b5 (by omega)
                have X6 : Bx _ (WAC.heap.size) s' b1' d1' b2' d2' vs' := ⟨q6, t6.row r15 (fun x hx h0 => by have := f1 x hx; have := hr1 x hx h0; omega), t6.row r25 (fun x hx h0 => by have := f2 x hx; have := hr2 x hx h0; omega), n1, n2, hW''⟩
                unfold ansStore at ya6 X6 b6
                refine hK.out _ _ b6 (fun hHeld => ?_)
                clear hK K y0 y1 y2 y3 yf q6 t6
                generalize (((Wq.setCell ⟨W0.heap.size, 0, none⟩ (.int .i64 0)).setCell ⟨W0.heap.size, 1, none⟩ (.int .i64 0)).setCell ⟨W0.heap.size, 2, none⟩ (.int .i64 0)).setCell ⟨W0.heap.size, 3, none⟩ (.int .i64 0) = W6 at ya6 X6 b6 hHeld ⊢
                refine wpAnyH_take (i := 18) (v := .bool true) rfl (by kernel_rfl) (by kernel_rfl) (by kernel_rfl) (fun _ _ _ h => h) (Or.inl ⟨by rfl, fun _ _ => by go_simp⟩) hHeld ?_
                simp only [List.getElem_toArray, List.getElem_cons_zero, List.getElem_cons_succ, Act.put, List.setIfInBounds_toArray, List.set_cons_zero, List.set_cons_succ]
                refine wpAnyH_take (i := 19) (v := .int .i64 0) rfl (by kernel_rfl) (by kernel_rfl) (by kernel_rfl) (fun _ _ _ h => h) (Or.inl ⟨by rfl, fun _ _ => by go_simp⟩) hHeld ?_
                simp only [List.getElem_toArray, List.getElem_cons_zero, List.getElem_cons_succ, Act.put, List.setIfInBounds_toArray, List.set_cons_zero, List.set_cons_succ]
                refine wpAnyH_done (by kernel_rfl) ?_ _
                go_wp2_with fail
                go_meet
                exact ⟨s', _, _, _, _, _, _, _, rfl, rfl, rfl, rfl, unveil HS', X6, ya6, b6, fun x hx => by have := f1 x hx; omega, fun x hx => by have := f2 x hx; omega⟩
            · simp only [List.getElem_toArray, List.getElem_cons_zero, List.getElem_cons_succ]
              refine ite_wanted rfl ?_
              refine q_alloc_wp 6 rfl rfl ?_
              intro WAQ zq bn
              have hXq : WA.heap.size < WAQ.heap.size := zq.lt
              have bWAQ := Below.next bWA bn
              have ya := ya.next bn
              have hSWAQ : WA.heap.size ≤ WAQ.heap.size := bn.size
              refine hK.out _ _ bWAQ (fun hHeld => ?_)
              clear hK K bn
              refine wpAnyH_ready (rs := [8]) (by kernel_rfl) (by simp) ?_
              refine AllReadyH.cons rfl (fun K hK => ?_) AllReadyH.nil
              · simp only [List.getElem_toArray, List.getElem_cons_zero, List.getElem_cons_succ]
                go_simp
                refine (unveil HDo _ bWAQ).mono ?_
                rintro e WAQC ⟨s', x', rfl, hs', ⟨⟨b1', d1', b2', d2', vs', rfl, r1, r2, l1', l2', n1, n2, hW'', f1, f2⟩⟩, bn⟩
                have HS' := veil hs'
                clear hs'
                have hr1 := fun x hx h0 => r1.blk_lt x hx h0
                have hr2 := fun x hx h0 => r2.blk_lt x hx h0
                have bWAQC := Below.next bWAQ bn
                have zq := zq.next bn
                have ya := ya.next bn
                have hSWAQC : WAQ.heap.size ≤ WAQC.heap.size := bn.size
                refine hK.out _ _ bWAQC (fun hHeld => ?_)
                clear hK K bn
                refine wpAnyH_take (i := 9) (v := .tuple #[qVal s'.ep s'.nx s'.gv (.slice b1' s'.rn d1') (.slice b2' s'.ln d2') vs', ansVal 0 0 0 0, .bool true, .int .i64 0]) rfl (by kernel_rfl) (by kernel_rfl) (by kernel_rfl) (fun _ _ _ h => h) (Or.inl ⟨by rfl, fun _ _ => by go_simp⟩) hHeld ?_
                simp only [List.getElem_toArray, List.getElem_cons_zero, List.getElem_cons_succ, Act.put, List.setIfInBounds_toArray, List.set_cons_zero, List.set_cons_succ]
                refine wpAnyH_take (i := 10) (v := qVal s'.ep s'.nx s'.gv (.slice b1' s'.rn d1') (.slice b2' s'.ln d2') vs') rfl (by kernel_rfl) (by kernel_rfl) (by kernel_rfl) (fun _ _ _ h => h) (Or.inl ⟨by rfl, fun _ _ => by go_simp⟩) hHeld ?_
                simp only [List.getElem_toArray, List.getElem_cons_zero, List.getElem_cons_succ, Act.put, List.setIfInBounds_toArray, List.set_cons_zero, List.set_cons_succ]
                refine wpAnyH_take (i := 11) (v := ansVal 0 0 0 0) rfl (by kernel_rfl) (by kernel_rfl) (by kernel_rfl) (fun _ _ _ h => h) (Or.inl ⟨by rfl, fun _ _ => by go_simp⟩) hHeld ?_
                simp only [List.getElem_toArray, List.getElem_cons_zero, List.getElem_cons_succ, Act.put, List.setIfInBounds_toArray, List.set_cons_zero, List.set_cons_succ]
                refine wpAnyH_take (i := 12) (v := .bool true) rfl (by kernel_rfl) (by kernel_rfl) (by kernel_rfl) (fun _ _ _ h => h) (Or.inl ⟨by rfl, fun _ _ => by go_simp⟩) hHeld ?_
                simp only [List.getElem_toArray, List.getElem_cons_zero, List.getElem_cons_succ, Act.put, List.setIfInBounds_toArray, List.set_cons_zero, List.set_cons_succ]
                refine wpAnyH_take (i := 13) (v := .int .i64 0) rfl (by kernel_rfl) (by kernel_rfl) (by kernel_rfl) (fun _ _ _ h => h) (Or.inl ⟨by rfl, fun _ _ => by go_simp⟩) hHeld ?_
                simp only [List.getElem_toArray, List.getElem_cons_zero, List.getElem_cons_succ, Act.put, List.setIfInBounds_toArray, List.set_cons_zero, List.set_cons_succ]
                refine wpAnyH_ready (rs := [16]) (by kernel_rfl) (by simp) ?_
                refine AllReadyH.cons rfl (fun K hK => ?_) AllReadyH.nil
                simp only [List.getElem_toArray, List.getElem_cons_zero, List.getElem_cons_succ]
                refine ite_wanted rfl ?_
                refine q_store_wp (ra := b1') (la := b2') (ws' := vs') _ _ rfl rfl rfl zq hW'' ?_
                intro Wq q5 t5
                have ya5 := ya.turned t5 (by omega)
                have r15 := t5.row r1 (fun x hx h0 => by have := f1 x hx; have := hr1 x hx h0; omega)
                have r25 := t5.row r2 (fun x hx h0 => by have := f2 x hx; have := hr2 x hx h0; omega)
                have b5 := t5.under bWAQC (by omega)
                refine hK.out _ _ b5 (fun hHeld => ?_)
                clear hK K
                refine wpAnyH_ready (rs := [17]) (by kernel_rfl) (by simp) ?_
                refine AllReadyH.cons rfl (fun K hK => ?_) AllReadyH.nil
                simp only [List.getElem_toArray, List.getElem_cons_zero, List.getElem_cons_succ]
                obtain ⟨y0, y1, y2, y3⟩ := ya5.cells
                have yf := ya5.free
                go_simp
                have t6 := ans_turned Wq (W0.heap.size) 0 0 0 0
                have ya6 := ya5.store 0 0 0 0
                have q6 := t6.queue q5 (by omega)
                have b6 := t6.under b5 (by omega)
                have X6 : Bx _ (WA.heap.size) s' b1' d1' b2' d2' vs' := ⟨q6, t6.row r15 (fun x hx h0 => by have := f1 x hx; have := hr1 x hx h0; omega), t6.row r25 (fun x hx h0 => by have := f2 x hx; have := hr2 x hx h0; omega), n1, n2, hW''⟩
                unfold ansStore at ya6 X6 b6
                refine hK.out _ _ b6 (fun hHeld => ?_)
                clear hK K y0 y1 y2 y3 yf q6 t6
                generalize (((Wq.setCell ⟨W0.heap.size, 0, none⟩ (.int .i64 0)).setCell ⟨W0.heap.size, 1, none⟩ (.int .i64 0)).setCell ⟨W0.heap.size, 2, none⟩ (.int .i64 0)).setCell ⟨W0.heap.size, 3, none⟩ (.int .i64 0) = W6 at ya6 X6 b6 hHeld ⊢
                refine wpAnyH_take (i := 18) (v := .bool true) rfl (by kernel_rfl) (by kernel_rfl) (by kernel_rfl) (fun _ _ _ h => h) (Or.inl ⟨by rfl, fun _ _ => by go_simp⟩) hHeld ?_
                simp only [List.getElem_toArray, List.getElem_cons_zero, List.getElem_cons_succ, Act.put, List.setIfInBounds_toArray, List.set_cons_zero, List.set_cons_succ]
                refine wpAnyH_take (i := 19) (v := .int .i64 0) rfl (by kernel_rfl) (by kernel_rfl) (by kernel_rfl) (fun _ _ _ h => h) (Or.inl ⟨by rfl, fun _ _ => by go_simp⟩) hHeld ?_
                simp only [List.getElem_toArray, List.getElem_cons_zero, List.getElem_cons_succ, Act.put, List.setIfInBounds_toArray, List.set_cons_zero, List.set_cons_succ]
                refine wpAnyH_done (by kernel_rfl) ?_ _
                go_wp2_with fail
                go_meet
                exact ⟨s', _, _, _, _, _, _, _, rfl, rfl, rfl, rfl, unveil HS', X6, ya6, b6, fun x hx => by have := f1 x hx; omega, fun x hx => by have := f2 x hx; omega⟩
          · simp only [List.getElem_toArray, List.getElem_cons_zero, List.getElem_cons_succ]
            refine ite_wanted rfl ?_
            refine q_alloc_wp 6 rfl rfl ?_
            intro WAQ zq bn
            have hXq : WA.heap.size < WAQ.heap.size := zq.lt
            have bWAQ := Below.next bWA bn
            have ya := ya.next bn
            have hSWAQ : WA.heap.size ≤ WAQ.heap.size := bn.size
            refine hK.out _ _ bWAQ (fun hHeld => ?_)
            clear hK K bn
            refine wpAnyH_ready (rs := [6]) (by kernel_rfl) (by simp) ?_
            refine AllReadyH.cons rfl (fun K hK => ?_) AllReadyH.nil
            · simp only [List.getElem_toArray, List.getElem_cons_zero, List.getElem_cons_succ]
              go_simp
              refine (HPk _).mono ?_
              rintro r w1 ⟨rfl, rfl⟩
              refine hK.out _ _ bWAQ (fun hHeld => ?_)
              clear hK K
              refine wpAnyH_take (i := 7) (v := .agg #[.int .i64 1, .int .i64 0, .int .i64 m, .int .i64 bd, .int .i64 0, .int .i64 0]) rfl (by kernel_rfl) (by kernel_rfl) (by kernel_rfl) (fun _ _ _ h => h) (Or.inl ⟨by rfl, fun _ _ => by go_simp⟩) hHeld ?_
              simp only [List.getElem_toArray, List.getElem_cons_zero, List.getElem_cons_succ, Act.put, List.setIfInBounds_toArray, List.set_cons_zero, List.set_cons_succ]
              refine wpAnyH_ready (rs := [8]) (by kernel_rfl) (by simp) ?_
              refine AllReadyH.cons rfl (fun K hK => ?_) AllReadyH.nil
              · simp only [List.getElem_toArray, List.getElem_cons_zero, List.getElem_cons_succ]
                go_simp
                refine (unveil HDo _ bWAQ).mono ?_
                rintro e WAQC ⟨s', x', rfl, hs', ⟨⟨b1', d1', b2', d2', vs', rfl, r1, r2, l1', l2', n1, n2, hW'', f1, f2⟩⟩, bn⟩
                have HS' := veil hs'
                clear hs'
                have hr1 := fun x hx h0 => r1.blk_lt x hx h0
                have hr2 := fun x hx h0 => r2.blk_lt x hx h0
                have bWAQC := Below.next bWAQ bn
                have zq := zq.next bn
                have ya := ya.next bn
                have hSWAQC : WAQ.heap.size ≤ WAQC.heap.size := bn.size
                refine hK.out _ _ bWAQC (fun hHeld => ?_)
                clear hK K bn
                refine wpAnyH_take (i := 9) (v := .tuple #[qVal s'.ep s'.nx s'.gv (.slice b1' s'.rn d1') (.slice b2' s'.ln d2') vs', ansVal 0 0 0 0, .bool true, .int .i64 0]) rfl (by kernel_rfl) (by kernel_rfl) (by kernel_rfl) (fun _ _ _ h => h) (Or.inl ⟨by rfl, fun _ _ => by go_simp⟩) hHeld ?_
                simp only [List.getElem_toArray, List.getElem_cons_zero, List.getElem_cons_succ, Act.put, List.setIfInBounds_toArray, List.set_cons_zero, List.set_cons_succ]
                refine wpAnyH_take (i := 10) (v := qVal s'.ep s'.nx s'.gv (.slice b1' s'.rn d1') (.slice b2' s'.ln d2') vs') rfl (by kernel_rfl) (by kernel_rfl) (by kernel_rfl) (fun _ _ _ h => h) (Or.inl ⟨by rfl, fun _ _ => by go_simp⟩) hHeld ?_
                simp only [List.getElem_toArray, List.getElem_cons_zero, List.getElem_cons_succ, Act.put, List.setIfInBounds_toArray, List.set_cons_zero, List.set_cons_succ]
                refine wpAnyH_take (i := 11) (v := ansVal 0 0 0 0) rfl (by kernel_rfl) (by kernel_rfl) (by kernel_rfl) (fun _ _ _ h => h) (Or.inl ⟨by rfl, fun _ _ => by go_simp⟩) hHeld ?_
                simp only [List.getElem_toArray, List.getElem_cons_zero, List.getElem_cons_succ, Act.put, List.setIfInBounds_toArray, List.set_cons_zero, List.set_cons_succ]
                refine wpAnyH_take (i := 12) (v := .bool true) rfl (by kernel_rfl) (by kernel_rfl) (by kernel_rfl) (fun _ _ _ h => h) (Or.inl ⟨by rfl, fun _ _ => by go_simp⟩) hHeld ?_
                simp only [List.getElem_toArray, List.getElem_cons_zero, List.getElem_cons_succ, Act.put, List.setIfInBounds_toArray, List.set_cons_zero, List.set_cons_succ]
                refine wpAnyH_take (i := 13) (v := .int .i64 0) rfl (by kernel_rfl) (by kernel_rfl) (by kernel_rfl) (fun _ _ _ h => h) (Or.inl ⟨by rfl, fun _ _ => by go_simp⟩) hHeld ?_
                simp only [List.getElem_toArray, List.getElem_cons_zero, List.getElem_cons_succ, Act.put, List.setIfInBounds_toArray, List.set_cons_zero, List.set_cons_succ]
                refine wpAnyH_ready (rs := [16]) (by kernel_rfl) (by simp) ?_
                refine AllReadyH.cons rfl (fun K hK => ?_) AllReadyH.nil
                simp only [List.getElem_toArray, List.getElem_cons_zero, List.getElem_cons_succ]
                refine ite_wanted rfl ?_
                refine q_store_wp (ra := b1') (la := b2') (ws' := vs') _ _ rfl rfl rfl zq hW'' ?_
                intro Wq q5 t5
                have ya5 := ya.turned t5 (by omega)
                have r15 := t5.row r1 (fun x hx h0 => by have := f1 x hx; have := hr1 x hx h0; omega)
                have r25 := t5.row r2 (fun x hx h0 => by have := f2 x hx; have := hr2 x hx h0; omega)
                have b5 := t5.under bWAQC (by omega)
                refine hK.out _ _ b5 (fun hHeld => ?_)
                clear hK K
                refine wpAnyH_ready (rs := [17]) (by kernel_rfl) (by simp) ?_
                refine AllReadyH.cons rfl (fun K hK => ?_) AllReadyH.nil
                simp only [List.getElem_toArray, List.getElem_cons_zero, List.getElem_cons_succ]
                obtain ⟨y0, y1, y2, y3⟩ := ya5.cells
                have yf := ya5.free
                go_simp
                have t6 := ans_turned Wq (W0.heap.size) 0 0 0 0
                have ya6 := ya5.store 0 0 0 0
                have q6 := t6.queue q5 (by omega)
                have b6 := t6.under b5 (by omega)
                have X6 : Bx _ (WA.heap.size) s' b1' d1' b2' d2' vs' := ⟨q6, t6.row r15 (fun x hx h0 => by have := f1 x hx; have := hr1 x hx h0; omega), t6.row r25 (fun x hx h0 => by have := f2 x hx; have := hr2 x hx h0; omega), n1, n2, hW''⟩
                unfold ansStore at ya6 X6 b6
                refine hK.out _ _ b6 (fun hHeld => ?_)
                clear hK K y0 y1 y2 y3 yf q6 t6
                generalize (((Wq.setCell ⟨W0.heap.size, 0, none⟩ (.int .i64 0)).setCell ⟨W0.heap.size, 1, none⟩ (.int .i64 0)).setCell ⟨W0.heap.size, 2, none⟩ (.int .i64 0)).setCell ⟨W0.heap.size, 3, none⟩ (.int .i64 0) = W6 at ya6 X6 b6 hHeld ⊢
                refine wpAnyH_take (i := 18) (v := .bool true) rfl (by kernel_rfl) (by kernel_rfl) (by kernel_rfl) (fun _ _ _ h => h) (Or.inl ⟨by rfl, fun _ _ => by go_simp⟩) hHeld ?_
                simp only [List.getElem_toArray, List.getElem_cons_zero, List.getElem_cons_succ, Act.put, List.setIfInBounds_toArray, List.set_cons_zero, List.set_cons_succ]
                refine wpAnyH_take (i := 19) (v := .int .i64 0) rfl (by kernel_rfl) (by kernel_rfl) (by kernel_rfl) (fun _ _ _ h => h) (Or.inl ⟨by rfl, fun _ _ => by go_simp⟩) hHeld ?_
                simp only [List.getElem_toArray, List.getElem_cons_zero, List.getElem_cons_succ, Act.put, List.setIfInBounds_toArray, List.set_cons_zero, List.set_cons_succ]
                refine wpAnyH_done (by kernel_rfl) ?_ _
                go_wp2_with fail
                go_meet
                exact ⟨s', _, _, _, _, _, _, _, rfl, rfl, rfl, rfl, unveil HS', X6, ya6, b6, fun x hx => by have := f1 x hx; omega, fun x hx => by have := f2 x hx; omega⟩
      case rest =>
        obtain ⟨s', X, A, b1', d1', b2', d2', vs', rfl, rfl, rfl, rfl, he', X7, A7, b7, f1, f2⟩ := hcut
        obtain ⟨W7, hW7⟩ : ∃ W7, W7 = wc := ⟨_, rfl⟩
        subst hW7
        have HE' := veil he'
        have q7 := q0.next b7
        have qx := X7.q
        have HX7 := veil X7
        have hw7 := X7.wins
        have HF := veil (And.intro f1 f2)
        have B7 := Below.next Bw b7
        obtain ⟨y0, y1, y2, y3⟩ := A7.cells
        clear he' X7 A7 f1 f2 b7 q0 k0 HDo HPk
        go_wp2_with (first
          | (refine q_loads _ rfl rfl rfl qx ?_)
          | (refine q_store (ra := b1') (la := b2') (ws' := vs') _ _ rfl rfl rfl rfl q7 hw7 ?_; intro W9 q9 t9; have hX := unveil HX7; have X9 : Bx W9 w.heap.size s' b1' d1' b2' d2' vs' := ⟨q9, t9.row hX.r1 (fun x hx _ => by have := (unveil HF).1 x hx; omega), t9.row hX.r2 (fun x hx _ => by have := (unveil HF).2 x hx; omega), hX.n1, hX.n2, hX.wins⟩; have B9 := t9.under B7 (Nat.le_refl _); have HX9 := veil X9; clear q9 t9 hX X9 qx q7))
        go_roundw
        case rel => exact ⟨m + 1, s', b1', d1', b2', d2', vs', by omega, by go_num, HE', unveil HX9, B9⟩
        case measure => simp [intOf]; omega
    · obtain rfl : m = N := by omega
      go_upto_region 11 with fail
      have D0 := (unveil HE).dr
      clear HE hlt hm
      go_loopw [10] (fun i wr => ∃ (j : Nat) (s : St) (a1 : Option Addr) (c1 : Nat) (a2 : Option Addr) (c2 : Nat) (ws : Nat → Value), j ≤ m ∧ i = .int .i64 j ∧ Hid (Dr bs s j m) ∧ Bx wr w.heap.size s a1 c1 a2 c2 ws ∧ Below w.heap.size w wr) (fun i _ => m - (intOf i).toNat)
      case atStart => exact ⟨0, s, a1, c1, a2, c2, ws, Nat.zero_le _, rfl, veil D0, X, Bw⟩
      case round =>
        clear D0 X Bw
        obtain ⟨j, s, a1, c1, a2, c2, ws, hj, rfl, HD, X, Bw⟩ := hrel
        have dr := unveil HD
        have q0 := X.q
        have HX := veil X
        by_cases hlt : j < m
        · have hr0 : 0 < s.rn := by have := dr.rn; omega
          obtain ⟨g, off, rfl⟩ := h.form (by omega)
          have k0 := (h.below Bw).at j (by omega)
          have hgl : g < wr.heap.size := (h.below Bw).lt (by omega)
          have wz : (Lit.int .i64 (l.getD j 0)).wf = true := getD_fits l h.wf _
          have HPk : ∀ w, Calls Try.prog 17 #[.int .i64 (l.getD j 0), .int .i64 1000] w fun r w' => r = .returned (.int .i64 (bs j)) ∧ w' = w := fun w => by
            refine (picked_any (l.getD j 0) 1000 w wz (by decide) (by decide)).mono ?_
            rintro r w' ⟨rfl, rfl⟩
            exact ⟨by rw [hbs j], rfl⟩
          have HDo : Calls Try.prog 19 #[qVal s.ep s.nx s.gv (.slice a1 s.rn c1) (.slice a2 s.ln c2) ws, .agg #[.int .i64 2, .int .i64 0, .int .i64 0, .int .i64 0, .int .i64 0, .int .i64 0]] wr fun e w' => ∃ (s' : St) (x : Value), e = .returned (.tuple #[x, ansVal 0 s.ep j (bs j), .bool true, .int .i64 0]) ∧ Dm bs s' j m s.ep ∧ QOut wr w' s' x ∧ Below wr.heap.size wr w' := by
            refine (X.do dr.wf.ok ⟨2, 0, 0, 0, 0, 0⟩ ev_recv).mono ?_
            rintro e w' ⟨s2, an, ch, x, rfl, st, qo, bb⟩
            obtain ⟨rfl, rfl, hd⟩ := dr.recv hr0 hN40 st
            exact ⟨s2, x, rfl, hd, qo, bb⟩
          have hjl : j < len := by omega
          have hj40 : j < 40 := by omega
          generalize l.getD j 0 = z at k0 HPk
          generalize bs j = bd at HPk HDo
          clear dr X wz hr0 HD HX
          go_upto_region 14 with (first
            | (refine q_loads _ rfl rfl rfl q0 ?_)
            | (go_at_call 19; refine HDo.mono ?_; rintro r W4 ⟨s', x', rfl, hs', ⟨⟨a1', c1', a2', c2', ws', rfl, r1, r2, l1', l2', n1, n2, hW', f1, f2⟩⟩, b4⟩; have HS' := veil hs'; have B4 := Below.next Bw b4; have k04 := (b4.cell (p := ⟨g, off + j, none⟩) hgl).trans k0; have HQ4 := veil (q0.next b4); have hg4 : g < W4.heap.size := Nat.lt_of_lt_of_le hgl b4.size; clear hs' HDo q0 b4 f1 f2 k0)
            | (refine q_alloc 11 rfl rfl rfl ?_; intro W5 z5 b5; have hN5 : W4.heap.size < W5.heap.size := z5.lt; have z5' := z5.next (below1 W5 (.cells #[.int .i64 0, .int .i64 0, .int .i64 0, .int .i64 0] 47)))
            | (refine q_store (ra := a1') (la := a2') (ws' := ws') _ _ rfl rfl rfl rfl z5' hW' ?_; intro W6 q6 t6; obtain ⟨y0, y1, y2, y3⟩ := (ans0 hN5 t6).cells; have yf := (ans0 hN5 t6).free))
          obtain ⟨W7, hW7, X7, A7, b7, B7⟩ := boxed2 0 s.ep j bd r1 r2 n1 n2 hW' B4 b5 hN5 t6 q6
          rw [← hW7]
          have k07 := (b7.cell (p := ⟨g, off + j, none⟩) hg4).trans k04
          have HQ7 := veil ((unveil HQ4).next b7)
          clear hW7 y0 y1 y2 y3 yf q6 t6 z5 z5' b5 r1 r2 n1 n2 B4 b7 k04 HQ4
          obtain ⟨y0, y1, y2, y3⟩ := A7.cells
          have HX7 := veil X7
          have HA7 := veil A7
          clear X7 A7
          go_quiet ((go_at_call 17; refine Calls.quiet_of_same (HPk _)))
          obtain ⟨W8, hW8, b8⟩ : ∃ W8, W8 = W7.drewN nq ∧ Below W7.heap.size W7 W8 := ⟨_, rfl, belowN _ _⟩
          rw [← hW8]
          have X8 := (unveil HX7).next b8
          have B8 := Below.next B7 b8
          have HQ8 := veil ((unveil HQ7).next b8)
          have dm := unveil HS'
          have hep := dm.ep
          have HDo2 : Calls Try.prog 19 #[qVal s'.ep s'.nx s'.gv (.slice a1' s'.rn c1') (.slice a2' s'.ln c2') ws', .agg #[.int .i64 3, .int .i64 0, .int .i64 0, .int .i64 0, .int .i64 s.ep, .int .i64 j]] W8 fun e w' => ∃ (s' : St) (x : Value), e = .returned (.tuple #[x, ansVal 0 0 0 0, .bool true, .int .i64 0]) ∧ Dr bs s' (j + 1) m ∧ QOut W8 w' s' x ∧ Below W8.heap.size W8 w' := by
            refine (X8.do dm.wf.ok ⟨3, 0, 0, 0, s.ep, j⟩ (ev_ack hep (by omega))).mono ?_
            rintro e w' ⟨s2, an, ch, x, rfl, st, qo, bb⟩
            obtain ⟨rfl, rfl, he⟩ := dm.acked hN40 st
            exact ⟨s2, x, rfl, he, qo, bb⟩
          have q8 := X8.q
          have A8 : ansBlock W8 W5.heap.size 0 s.ep j bd := (unveil HA7).next b8
          have hBl : w.heap.size < W8.heap.size := (unveil HQ8).lt
          clear hW8 b8 y0 y1 y2 y3 X8 HX7 HA7 HQ7 dm hep k07 HPk B7 HS'
          obtain ⟨y0, y1, y2, y3⟩ := A8.cells
          clear A8
          go_upto_region 17 with (first
            | (refine q_loads _ rfl rfl rfl q8 ?_)
            | (go_at_call 19; refine HDo2.mono ?_; rintro r W9 ⟨s2, x2, rfl, hs2, ⟨⟨d1, e1, d2, e2, vs, rfl, r1, r2, l1', l2', n1, n2, hV, f1, f2⟩⟩, b9⟩; have HS2 := veil hs2; have HF := veil (And.intro f1 f2); have B9 := Below.next B8 b9; have HQ9 := veil ((unveil HQ8).next b9); have hB9 : w.heap.size < W9.heap.size := Nat.lt_of_lt_of_le hBl b9.size; clear hs2 HDo2 q8 b9 f1 f2 y0 y1 y2 y3)
            | (refine q_alloc 15 rfl rfl rfl ?_; intro Wa za ba; have hNa : W9.heap.size < Wa.heap.size := za.lt; have za' := za.next (below1 Wa (.cells #[.int .i64 0, .int .i64 0, .int .i64 0, .int .i64 0] 47)))
            | (refine q_store (ra := d1) (la := d2) (ws' := vs) _ _ rfl rfl rfl rfl za' hV ?_; intro Wb qb tb; obtain ⟨y0, y1, y2, y3⟩ := (ans0 hNa tb).cells; have yf := (ans0 hNa tb).free))
          obtain ⟨Wc, hWc, Xc, Ac, bc, Bc⟩ := boxed2 0 0 0 0 r1 r2 n1 n2 hV B9 ba hNa tb qb
          rw [← hWc]
          have qy := (unveil HQ9).next bc
          clear hWc y0 y1 y2 y3 yf qb tb za za' ba r1 r2 n1 n2 B9 bc HQ9 HQ8
          obtain ⟨y0, y1, y2, y3⟩ := Ac.cells
          have qx := Xc.q
          have HXc := veil Xc
          clear Xc Ac
          go_wp2_with (first
            | (refine q_loads _ rfl rfl rfl qx ?_)
            | (refine q_store (ra := d1) (la := d2) (ws' := vs) _ _ rfl rfl rfl rfl qy hV ?_; intro Wd qd td; have hX := unveil HXc; have Xd : Bx Wd w.heap.size s2 d1 e1 d2 e2 vs := ⟨qd, td.row hX.r1 (fun x hx _ => by have := (unveil HF).1 x hx; omega), td.row hX.r2 (fun x hx _ => by have := (unveil HF).2 x hx; omega), hX.n1, hX.n2, hX.wins⟩; have Bd := td.under Bc (Nat.le_refl _); have HXd := veil Xd; clear qd td hX Xd qx qy))
          go_roundw
          case rel => exact ⟨j + 1, s2, d1, e1, d2, e2, vs, by omega, by go_num, HS2, unveil HXd, Bd⟩
          case measure => simp [intOf]; omega
        · obtain rfl : j = m := by omega
          have hr0 : s.rn = 0 := by have := dr.rn; omega
          have hl0 := dr.ln
          have hnx := dr.nx
          have HDo : Calls Try.prog 19 #[qVal s.ep s.nx s.gv (.slice a1 s.rn c1) (.slice a2 s.ln c2) ws, .agg #[.int .i64 2, .int .i64 0, .int .i64 0, .int .i64 0, .int .i64 0, .int .i64 0]] wr fun e w' => ∃ (x : Value), e = .returned (.tuple #[x, ansVal 10 0 0 0, .bool false, .int .i64 0]) ∧ QOut wr w' s x ∧ Below wr.heap.size wr w' := by
            refine (X.do dr.wf.ok ⟨2, 0, 0, 0, 0, 0⟩ ev_recv).mono ?_
            rintro e w' ⟨s2, an, ch, x, rfl, st, qo, bb⟩
            obtain ⟨rfl, rfl, rfl⟩ := st.emptied rfl hr0
            exact ⟨x, rfl, qo, bb⟩
          obtain ⟨rn, hrn⟩ : ∃ rn, rn = s.rn := ⟨_, rfl⟩
          obtain ⟨ln, hln⟩ : ∃ ln, ln = s.ln := ⟨_, rfl⟩
          obtain ⟨nx, hnn⟩ : ∃ nx, nx = s.nx := ⟨_, rfl⟩
          rw [← hrn, ← hln, ← hnn] at HDo q0
          rw [← hrn] at hr0
          rw [← hln] at hl0
          rw [← hnn] at hnx
          clear dr X HX HD hrn hln hnn
          subst hr0 hl0 hnx
          go_upto_region 21 with (first
            | (refine q_loads _ rfl rfl rfl q0 ?_)
            | (go_at_call 19; refine HDo.mono ?_; rintro r W4 ⟨x', rfl, ⟨⟨a1', c1', a2', c2', ws', rfl, r1, r2, l1', l2', n1, n2, hW', f1, f2⟩⟩, b4⟩; have B4 := Below.next Bw b4; have HQ4 := veil (q0.next b4); clear HDo q0 b4 f1 f2)
            | (refine q_alloc 19 rfl rfl rfl ?_; intro W5 z5 b5; have hN5 : W4.heap.size < W5.heap.size := z5.lt; have z5' := z5.next (below1 W5 (.cells #[.int .i64 0, .int .i64 0, .int .i64 0, .int .i64 0] 47)))
            | (refine q_store (ra := a1') (la := a2') (ws' := ws') _ _ rfl rfl rfl rfl z5' hW' ?_; intro W6 q6 t6; obtain ⟨y0, y1, y2, y3⟩ := (ans0 hN5 t6).cells; have yf := (ans0 hN5 t6).free))
          obtain ⟨W7, hW7, X7, A7, b7, B7⟩ := boxed2 10 0 0 0 r1 r2 n1 n2 hW' B4 b5 hN5 t6 q6
          rw [← hW7]
          obtain ⟨g0, g1, g2, g3, g4⟩ := ((unveil HQ4).next b7).heads
          clear hW7 y0 y1 y2 y3 yf q6 t6 z5 z5' b5 r1 r2 n1 n2 B4 X7 b7 HQ4
          obtain ⟨y0, y1, y2, y3⟩ := A7.cells
          go_wp2
          go_ret
          exact ⟨rfl, B7⟩
end Go.Proofs.Ytkeipknbcjkomaa
