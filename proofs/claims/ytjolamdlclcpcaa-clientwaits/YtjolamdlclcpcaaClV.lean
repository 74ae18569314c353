/- The walk of berthshiftkeep's ClientWaits. -/
import Derived.Test.YtjolamdlclcpcaaClR
import Derived.Test.YtjolamdlclcpcaaPkC
import Derived.Deep.RegionHeld3
namespace Go.Proofs.Ytjolamdlclcpcaa
open Go.RowKit

/-- a client in its box, that has sent k messages. -/
structure Wt (w W : World) (X : Nat) (P : Int) (k : Nat) (es : List Ev) (a : Option Addr) (c : Nat) : Prop where
  cb : cBlock W X P k a es.length c (fun _ => -1)
  i : CIn W ⟨P, k, es, fun _ => -1⟩ a c
  ok : Cl.Ok ⟨P, k, es, fun _ => -1⟩
  len : es.length = k
  ids : ∀ j (h : j < es.length), es[j].i = j
  bel : Below w.heap.size w W
  up : w.heap.size ≤ X
theorem Wt.next {w W W' : World} {X : Nat} {P : Int} {k : Nat} {es : List Ev} {a : Option Addr} {c : Nat} (h : Wt w W X P k es a c) (b : Below W.heap.size W W') : Wt w W' X P k es a c := ⟨h.cb.next b, h.i.next b, h.ok, h.len, h.ids, Below.next h.bel b, h.up⟩
theorem Wt.notFull {w W : World} {X : Nat} {P : Int} {k : Nat} {es : List Ev} {a : Option Addr} {c : Nat} (h : Wt w W X P k es a c) (hk : k < 8) : ¬ Cl.full ⟨P, k, es, fun _ => -1⟩ := by
  rintro (e | ⟨v, hv, e⟩)
  · have : (k : Int) = 1073741824 := e
    omega
  · obtain ⟨j, hj, rfl⟩ := List.mem_iff_getElem.1 hv
    have h1 := h.ids j hj
    have h2 : es[j].i + 8 ≤ (k : Int) := e
    omega
theorem Wt.isFull {w W : World} {X : Nat} {P : Int} {es : List Ev} {a : Option Addr} {c : Nat} (h : Wt w W X P 8 es a c) : Cl.full ⟨P, (8 : Nat), es, fun _ => -1⟩ := by
  have h0 : 0 < es.length := by rw [h.len]; omega
  exact .inr ⟨es[0], List.getElem_mem h0, by have := h.ids 0 h0; show es[0].i + 8 ≤ ((8 : Nat) : Int); omega⟩
set_option maxRecDepth 20000 in
set_option maxHeartbeats 8000000 in
theorem walk_ClientWaits (w : World) (pr : Int) (wpr : (Lit.int .i64 pr).wf = true) (a0 : Option Addr) (len cap : Nat) (l : List Int) (hrow : RowK .i64 w a0 len l) (hlc : len ≤ cap) (_ : a0 = none → cap = 0) (hz : cap * 8 ≤ 140737488351232) (wh : Int) (wwh : (Lit.int .i64 wh).wf = true) :
    Calls Try.prog 10 #[.int .i64 pr, .slice a0 len cap, .int .i64 wh] w fun e w' => e = .returned (.bool true) ∧ Below w.heap.size w w' := by
  have P1 : ∀ w, Calls Try.prog 27 #[.int .i64 pr, .int .i64 4] w fun e w' => e = .returned (.int .i64 (pickedOf pr 4)) ∧ w' = w := fun w => (picked_any pr 4 w wpr (by decide) (by decide)).mono fun _ _ h => ⟨h.1, h.2.symm⟩
  have hP := pickedOf_range pr 4 (by decide)
  generalize pickedOf pr 4 = P at P1 hP
  have hP3 : 0 ≤ P ∧ P ≤ 3 := by omega
  have H1 := new_yes P hP3 w
  have HR : Hid (∀ W, Below w.heap.size w W → RowK .i64 W a0 len l) := veil fun W b => hrow.below b
  have HWF : Hid (∀ j, (Lit.int .i64 (l.getD j 0)).wf = true) := veil fun j => by
    rcases Nat.lt_or_ge j l.length with h | h
    · exact hrow.wf _ (getD_mem l j h)
    · rw [List.getD_eq_getElem?_getD, List.getElem?_eq_none h]; rfl
  have hl : len ≤ 9223372036854775806 := by omega
  clear hrow hz hlc hP
  go_enter Try.func10, Try.ntmps10
  go_upto_region 2 with (first
    | (go_at_call 27; refine (P1 _).mono ?_; rintro e w2 ⟨rfl, hw2⟩; subst w2; clear P1)
    | (go_at_call 16; refine H1.mono ?_; rintro e W1 ⟨rfl, d1⟩; clear H1))
  obtain ⟨W2, hW2, I2⟩ : ∃ W2, W2 = W1.alloc (.cells (cCells P 0 none 0 0 (fun _ => -1)) 25) ∧ Wt w W2 W1.heap.size P 0 [] none 0 := ⟨_, rfl, cBlock.new _ _ _ _ _ _ _, CIn.nil' _ _ _ _, Cl.new_ok hP3, rfl, (fun j hj => by cases hj), Below.next d1 (below1 _ _), d1.size⟩
  rw [← hW2]
  clear hW2 d1
  generalize W1.heap.size = X at *
  have HI2 := veil I2
  clear I2
  go_upto_region 4 with fail
  go_loopw [9, 10] (fun n i wr => ∃ (k : Nat) (es : List Ev) (a : Option Addr) (c : Nat), k ≤ len ∧ k ≤ 8 ∧ i = .int .i64 k ∧ n = .int .i64 k ∧ Hid (Wt w wr X P k es a c)) (fun _ i _ => 8 - (intOf i).toNat)
  case atStart => exact ⟨0, _, _, _, Nat.zero_le _, Nat.zero_le _, rfl, rfl, HI2⟩
  case round =>
    obtain ⟨k, es, a, c, hk, hk8, rfl, rfl, HI⟩ := hrel
    clear HI2
    by_cases hlt : k < len ∧ k < 8
    case pos =>
      obtain ⟨hlt, hlt8⟩ := hlt
      have hr := unveil HR wr (unveil HI).bel
      obtain ⟨bb, off, rfl⟩ := hr.form (by omega)
      have hy := hr.at k hlt
      have hbl := hr.lt (by omega)
      have P2 : ∀ w, Calls Try.prog 27 #[.int .i64 (l.getD k 0), .int .i64 1000] w fun e w' => e = .returned (.int .i64 (pickedOf (l.getD k 0) 1000)) ∧ w' = w := fun w => (picked_any (l.getD k 0) 1000 w (unveil HWF _) (by decide) (by decide)).mono fun _ _ h => ⟨h.1, h.2.symm⟩
      have hm := pickedOf_range (l.getD k 0) 1000 (by decide)
      have HY : Hid (∀ W, Below wr.heap.size wr W → W.cell? ⟨bb, off + k, none⟩ = some (.int .i64 (l.getD k 0))) := veil fun W b => (b.cell (p := ⟨bb, off + k, none⟩) hbl).trans hy
      generalize l.getD k 0 = y at hy P2 hm HY
      generalize pickedOf y 1000 = m at P2 hm
      clear hr
      obtain ⟨es', hes'⟩ : ∃ es' : List Ev, es' = es ++ [⟨1, P, k, m, 0, 0⟩] := ⟨_, rfl⟩
      have HSd : Hid (∀ W, Below wr.heap.size wr W → Calls Try.prog 19 #[cVal P k a es.length c (fun _ => -1), .int .i64 m] W fun e w' => ∃ a' c', e = .returned (.tuple #[cVal P ((k : Int) + 1) a' es'.length c' (fun _ => -1), evVal 1 P k m 0 0, .int .i64 0]) ∧ CIn w' ⟨P, (k : Int) + 1, es', fun _ => -1⟩ a' c' ∧ (∀ x, a' = some x → W.heap.size ≤ x.block) ∧ Below W.heap.size W w') := veil fun W b => by
        have := send_yes ⟨P, k, es, fun _ => -1⟩ a c W ((unveil HI).i.next b) (unveil HI).ok m (by omega) ((unveil HI).notFull hlt8)
        have hle : es'.length = es.length + 1 := by rw [hes']; simp
        rw [hle, hes']
        exact this
      have HX : Hid (cBlock wr X P k a es.length c (fun _ => -1)) := veil (unveil HI).cb
      have HW1 : Hid ((Cl.Ok ⟨P, (k : Int) + 1, es', fun _ => -1⟩) ∧ es'.length = k + 1 ∧ (∀ j (h : j < es'.length), es'[j].i = j)) := veil ⟨by rw [hes']; exact Cl.Ok.sent (unveil HI).ok (by omega) ((unveil HI).notFull hlt8), by rw [hes']; have := (unveil HI).len; simp; omega, fun j hj => by
        subst hes'
        rcases Nat.lt_or_ge j es.length with h | h
        · rw [List.getElem_append_left h]; exact (unveil HI).ids j h
        · have : j = es.length := by simp at hj; omega
          subst this
          simp
          have := (unveil HI).len
          omega⟩
      clear hm hes'
      obtain ⟨nk, hnk⟩ : ∃ nk : Int, nk = (k : Int) + 1 := ⟨_, rfl⟩
      have HNK := veil hnk
      rw [← hnk] at HSd HW1
      clear hnk
      go_wp2_with fail
      go_cut [11, 12, 13] (fun pX pY eX wx => ∃ (A B : Nat) (aC : Option Addr) (cC : Nat), pX = .pointer (some ⟨A, 0, none⟩) ∧ pY = .pointer (some ⟨B, 0, none⟩) ∧ eX = .int .i64 0 ∧ Sd wr wx A B ⟨P, nk, es', fun _ => -1⟩ ⟨1, P, k, m, 0, 0⟩ aC cC)
      case first =>
        refine wp_region_held_drew (S := Below wr.heap.size wr) (by kernel_rfl) (drew_below wr) (fun hHeld => ?_)
        refine wpAnyH_take (i := 0) (v := cVal P k a es.length c (fun _ => -1)) rfl (by kernel_rfl) (by kernel_rfl) (by kernel_rfl) (fun _ _ _ h => h) (Or.inl ⟨by rfl, fun w b => by obtain ⟨q0, q1, q2, q3, q4, q5, q6⟩ := ((unveil HX).next b).cells; go_simp⟩) hHeld ?_
        simp only [List.getElem_toArray, List.getElem_cons_zero, Act.put, List.setIfInBounds_toArray, List.set_cons_zero, List.set_cons_succ]
        refine wpAnyH_take (i := 1) (v := .slice (some ⟨bb, off, none⟩) len cap) rfl (by kernel_rfl) (by kernel_rfl) (by kernel_rfl) (fun _ _ _ h => h) (Or.inl ⟨by rfl, fun _ _ => by go_simp⟩) hHeld ?_
        simp only [List.getElem_toArray, List.getElem_cons_zero, List.getElem_cons_succ, Act.put, List.setIfInBounds_toArray, List.set_cons_zero, List.set_cons_succ]
        refine wpAnyH_take (i := 2) (v := .int .i64 k) rfl (by kernel_rfl) (by kernel_rfl) (by kernel_rfl) (fun _ _ _ h => h) (Or.inl ⟨by rfl, fun _ _ => by go_simp⟩) hHeld ?_
        simp only [List.getElem_toArray, List.getElem_cons_zero, List.getElem_cons_succ, Act.put, List.setIfInBounds_toArray, List.set_cons_zero, List.set_cons_succ]
        refine wpAnyH_take (i := 3) (v := .pointer (some ⟨bb, off + k, none⟩)) rfl (by kernel_rfl) (by kernel_rfl) (by kernel_rfl) (fun _ _ _ h => h) (Or.inl ⟨by rfl, fun _ _ => by go_simp⟩) hHeld ?_
        simp only [List.getElem_toArray, List.getElem_cons_zero, List.getElem_cons_succ, Act.put, List.setIfInBounds_toArray, List.set_cons_zero, List.set_cons_succ]
        refine wpAnyH_take (i := 4) (v := .int .i64 y) rfl (by kernel_rfl) (by kernel_rfl) (by kernel_rfl) (fun _ _ _ h => h) (Or.inl ⟨by rfl, fun w b => by have qc := (b.cell (p := ⟨bb, off + k, none⟩) hbl).trans hy; go_simp⟩) hHeld ?_
        simp only [List.getElem_toArray, List.getElem_cons_zero, List.getElem_cons_succ, Act.put, List.setIfInBounds_toArray, List.set_cons_zero, List.set_cons_succ]
        have bW0 := drew_below wr
        obtain ⟨W0, hW0⟩ : ∃ W0, W0 = wr.drew := ⟨_, rfl⟩
        rw [← hW0] at bW0 hHeld ⊢
        clear hW0
        refine wpAnyH_ready (rs := [5, 11, 12]) (by kernel_rfl) (by simp) ?_
        refine AllReadyH.cons rfl (fun K hK => ?_) (AllReadyH.cons rfl (fun K hK => ?_) (AllReadyH.cons rfl (fun K hK => ?_) AllReadyH.nil))
        · simp only [List.getElem_toArray, List.getElem_cons_zero, List.getElem_cons_succ]
          go_simp
          refine (P2 _).mono ?_
          rintro x w9 ⟨rfl, hw9⟩
          subst w9
          refine hK.out _ _ bW0 (fun hHeld => ?_)
          clear hK K
          refine wpAnyH_ready (rs := [6, 11, 12]) (by kernel_rfl) (by simp) ?_
          refine AllReadyH.cons rfl (fun K hK => ?_) (AllReadyH.cons rfl (fun K hK => ?_) (AllReadyH.cons rfl (fun K hK => ?_) AllReadyH.nil))
          · simp only [List.getElem_toArray, List.getElem_cons_zero, List.getElem_cons_succ]
            go_simp
            refine (unveil HSd _ bW0).mono ?_
            rintro x W0C ⟨aC, cC, rfl, iC, uC, bC⟩
            have bW0C := Below.next bW0 bC
            have iC0 := iC
            have gC : ∀ x, aC = some x → wr.heap.size ≤ x.block := fun x hx => Nat.le_trans bW0.size (uC x hx)
            have hsW0C : W0.heap.size ≤ W0C.heap.size := bC.size
            refine hK.out _ _ bW0C (fun hHeld => ?_)
            clear hK K bC
            refine wpAnyH_take (i := 7) (v := .tuple #[cVal P nk aC es'.length cC (fun _ => -1), evVal 1 P k m 0 0, .int .i64 0]) rfl (by kernel_rfl) (by kernel_rfl) (by kernel_rfl) (fun _ _ _ h => h) (Or.inl ⟨by rfl, fun _ _ => by go_simp⟩) hHeld ?_
            simp only [List.getElem_toArray, List.getElem_cons_zero, List.getElem_cons_succ, Act.put, List.setIfInBounds_toArray, List.set_cons_zero, List.set_cons_succ]
            refine wpAnyH_take (i := 8) (v := cVal P nk aC es'.length cC (fun _ => -1)) rfl (by kernel_rfl) (by kernel_rfl) (by kernel_rfl) (fun _ _ _ h => h) (Or.inl ⟨by rfl, fun _ _ => by go_simp⟩) hHeld ?_
            simp only [List.getElem_toArray, List.getElem_cons_zero, List.getElem_cons_succ, Act.put, List.setIfInBounds_toArray, List.set_cons_zero, List.set_cons_succ]
            refine wpAnyH_take (i := 9) (v := evVal 1 P k m 0 0) rfl (by kernel_rfl) (by kernel_rfl) (by kernel_rfl) (fun _ _ _ h => h) (Or.inl ⟨by rfl, fun _ _ => by go_simp⟩) hHeld ?_
            simp only [List.getElem_toArray, List.getElem_cons_zero, List.getElem_cons_succ, Act.put, List.setIfInBounds_toArray, List.set_cons_zero, List.set_cons_succ]
            refine wpAnyH_take (i := 10) (v := .int .i64 0) rfl (by kernel_rfl) (by kernel_rfl) (by kernel_rfl) (fun _ _ _ h => h) (Or.inl ⟨by rfl, fun _ _ => by go_simp⟩) hHeld ?_
            simp only [List.getElem_toArray, List.getElem_cons_zero, List.getElem_cons_succ, Act.put, List.setIfInBounds_toArray, List.set_cons_zero, List.set_cons_succ]
            refine wpAnyH_ready (rs := [11, 12]) (by kernel_rfl) (by simp) ?_
            refine AllReadyH.cons rfl (fun K hK => ?_) (AllReadyH.cons rfl (fun K hK => ?_) AllReadyH.nil)
            · simp only [List.getElem_toArray, List.getElem_cons_zero, List.getElem_cons_succ]
              go_simp
              obtain ⟨W0CA, hW0CA, zA, bA⟩ := za_made W0C
              rw [← hW0CA]
              clear hW0CA
              obtain ⟨XA, hX⟩ : ∃ X, X = W0C.heap.size := ⟨_, rfl⟩
              have upA : wr.heap.size ≤ XA := by rw [hX]; exact bW0C.size
              have hlA : XA < W0CA.heap.size := by rw [hX]; exact zA.lt
              have heA : W0C.heap.size ≤ XA := by omega
              have hfA : XA ≤ W0C.heap.size := by omega
              rw [← hX] at zA ⊢
              clear hX
              have bW0CA := Below.next bW0C bA
              have iC := iC.next bA
              refine hK.out _ _ bW0CA (fun hHeld => ?_)
              clear hK K bA
              refine wpAnyH_ready (rs := [12]) (by kernel_rfl) (by simp) ?_
              refine AllReadyH.cons rfl (fun K hK => ?_) AllReadyH.nil
              · simp only [List.getElem_toArray, List.getElem_cons_zero, List.getElem_cons_succ]
                go_simp
                obtain ⟨W0CAB, hW0CAB, zB, bA⟩ := ze_made W0CA
                rw [← hW0CAB]
                clear hW0CAB
                obtain ⟨XB, hX⟩ : ∃ X, X = W0CA.heap.size := ⟨_, rfl⟩
                have upB : wr.heap.size ≤ XB := by rw [hX]; exact bW0CA.size
                have hlB : XB < W0CAB.heap.size := by rw [hX]; exact zB.lt
                have heB : W0CA.heap.size ≤ XB := by omega
                have hfB : XB ≤ W0CA.heap.size := by omega
                rw [← hX] at zB ⊢
                clear hX
                have bW0CAB := Below.next bW0CA bA
                have iC := iC.next bA
                have zA := zA.next bA
                refine hK.out _ _ bW0CAB (fun hHeld => ?_)
                clear hK K bA
                refine wpAnyH_ready (rs := [13]) (by kernel_rfl) (by simp) ?_
                refine AllReadyH.cons rfl (fun K hK => ?_) AllReadyH.nil
                simp only [List.getElem_toArray, List.getElem_cons_zero, List.getElem_cons_succ]
                obtain ⟨z0, z1, z2, z3, z4, z5, z6⟩ := zA.cells
                have zf := zA.free
                go_simp
                obtain ⟨We, hWe, dE, bE, tE⟩ := c_stored zA bW0CAB upA P nk aC es'.length cC (fun _ => -1)
                rw [← hWe]
                clear hWe z0 z1 z2 z3 z4 z5 z6 zf
                have iE := iC.turn tE (fun x hx h0 => by have := iC0.lt x hx h0; omega)
                have zB := zB.turned tE (by omega)
                refine hK.out _ _ bE (fun hHeld => ?_)
                clear hK K
                refine wpAnyH_ready (rs := [14]) (by kernel_rfl) (by simp) ?_
                refine AllReadyH.cons rfl (fun K hK => ?_) AllReadyH.nil
                simp only [List.getElem_toArray, List.getElem_cons_zero, List.getElem_cons_succ]
                obtain ⟨z0, z1, z2, z3, z4, z5⟩ := zB.cells
                have zf := zB.free
                go_simp
                obtain ⟨Wf, hWf, eF, bF, tF⟩ := e_stored zB bE upB 1 P k m 0 0
                rw [← hWf]
                clear hWf z0 z1 z2 z3 z4 z5 zf
                have iF := iE.turn tF (fun x hx h0 => by have := iC0.lt x hx h0; omega)
                have dF := dE.turned tF (by omega)
                refine hK.out _ _ bF (fun hHeld => ?_)
                clear hK K
                refine wpAnyH_take (i := 15) (v := .int .i64 0) rfl (by kernel_rfl) (by kernel_rfl) (by kernel_rfl) (fun _ _ _ h => h) (Or.inl ⟨by rfl, fun _ _ => by go_simp⟩) hHeld ?_
                simp only [List.getElem_toArray, List.getElem_cons_zero, List.getElem_cons_succ, Act.put, List.setIfInBounds_toArray, List.set_cons_zero, List.set_cons_succ]
                refine wpAnyH_done (by kernel_rfl) ?_ _
                go_wp2_with fail
                go_meet
                exact ⟨XA, XB, aC, cC, rfl, rfl, rfl, ⟨dF, eF, iF, bF, upA, upB, by omega, fun x hx => gC x hx⟩⟩
            · simp only [List.getElem_toArray, List.getElem_cons_zero, List.getElem_cons_succ]
              go_simp
              obtain ⟨W0CB, hW0CB, zB, bA⟩ := ze_made W0C
              rw [← hW0CB]
              clear hW0CB
              obtain ⟨XB, hX⟩ : ∃ X, X = W0C.heap.size := ⟨_, rfl⟩
              have upB : wr.heap.size ≤ XB := by rw [hX]; exact bW0C.size
              have hlB : XB < W0CB.heap.size := by rw [hX]; exact zB.lt
              have heB : W0C.heap.size ≤ XB := by omega
              have hfB : XB ≤ W0C.heap.size := by omega
              rw [← hX] at zB ⊢
              clear hX
              have bW0CB := Below.next bW0C bA
              have iC := iC.next bA
              refine hK.out _ _ bW0CB (fun hHeld => ?_)
              clear hK K bA
              refine wpAnyH_ready (rs := [11]) (by kernel_rfl) (by simp) ?_
              refine AllReadyH.cons rfl (fun K hK => ?_) AllReadyH.nil
              · simp only [List.getElem_toArray, List.getElem_cons_zero, List.getElem_cons_succ]
                go_simp
                obtain ⟨W0CBA, hW0CBA, zA, bA⟩ := za_made W0CB
                rw [← hW0CBA]
                clear hW0CBA
                obtain ⟨XA, hX⟩ : ∃ X, X = W0CB.heap.size := ⟨_, rfl⟩
                have upA : wr.heap.size ≤ XA := by rw [hX]; exact bW0CB.size
                have hlA : XA < W0CBA.heap.size := by rw [hX]; exact zA.lt
                have heA : W0CB.heap.size ≤ XA := by omega
                have hfA : XA ≤ W0CB.heap.size := by omega
                rw [← hX] at zA ⊢
                clear hX
                have bW0CBA := Below.next bW0CB bA
                have iC := iC.next bA
                have zB := zB.next bA
                refine hK.out _ _ bW0CBA (fun hHeld => ?_)
                clear hK K bA
                refine wpAnyH_ready (rs := [13]) (by kernel_rfl) (by simp) ?_
                refine AllReadyH.cons rfl (fun K hK => ?_) AllReadyH.nil
                simp only [List.getElem_toArray, List.getElem_cons_zero, List.getElem_cons_succ]
                obtain ⟨z0, z1, z2, z3, z4, z5, z6⟩ := zA.cells
                have zf := zA.free
                go_simp
                obtain ⟨We, hWe, dE, bE, tE⟩ := c_stored zA bW0CBA upA P nk aC es'.length cC (fun _ => -1)
                rw [← hWe]
                clear hWe z0 z1 z2 z3 z4 z5 z6 zf
                have iE := iC.turn tE (fun x hx h0 => by have := iC0.lt x hx h0; omega)
                have zB := zB.turned tE (by omega)
                refine hK.out _ _ bE (fun hHeld => ?_)
                clear hK K
                refine wpAnyH_ready (rs := [14]) (by kernel_rfl) (by simp) ?_
                refine AllReadyH.cons rfl (fun K hK => ?_) AllReadyH.nil
                simp only [List.getElem_toArray, List.getElem_cons_zero, List.getElem_cons_succ]
                obtain ⟨z0, z1, z2, z3, z4, z5⟩ := zB.cells
                have zf := zB.free
                go_simp
                obtain ⟨Wf, hWf, eF, bF, tF⟩ := e_stored zB bE upB 1 P k m 0 0
                rw [← hWf]
                clear hWf z0 z1 z2 z3 z4 z5 zf
                have iF := iE.turn tF (fun x hx h0 => by have := iC0.lt x hx h0; omega)
                have dF := dE.turned tF (by omega)
                refine hK.out _ _ bF (fun hHeld => ?_)
                clear hK K
                refine wpAnyH_take (i := 15) (v := .int .i64 0) rfl (by kernel_rfl) (by kernel_rfl) (by kernel_rfl) (fun _ _ _ h => h) (Or.inl ⟨by rfl, fun _ _ => by go_simp⟩) hHeld ?_
                simp only [List.getElem_toArray, List.getElem_cons_zero, List.getElem_cons_succ, Act.put, List.setIfInBounds_toArray, List.set_cons_zero, List.set_cons_succ]
                refine wpAnyH_done (by kernel_rfl) ?_ _
                go_wp2_with fail
                go_meet
                exact ⟨XA, XB, aC, cC, rfl, rfl, rfl, ⟨dF, eF, iF, bF, upA, upB, by omega, fun x hx => gC x hx⟩⟩
          · simp only [List.getElem_toArray, List.getElem_cons_zero, List.getElem_cons_succ]
            go_simp
            obtain ⟨W0A, hW0A, zA, bA⟩ := za_made W0
            rw [← hW0A]
            clear hW0A
            obtain ⟨XA, hX⟩ : ∃ X, X = W0.heap.size := ⟨_, rfl⟩
            have upA : wr.heap.size ≤ XA := by rw [hX]; exact bW0.size
            have hlA : XA < W0A.heap.size := by rw [hX]; exact zA.lt
            have heA : W0.heap.size ≤ XA := by omega
            have hfA : XA ≤ W0.heap.size := by omega
            rw [← hX] at zA ⊢
            clear hX
            have bW0A := Below.next bW0 bA
            refine hK.out _ _ bW0A (fun hHeld => ?_)
            clear hK K bA
            refine wpAnyH_ready (rs := [6, 12]) (by kernel_rfl) (by simp) ?_
            refine AllReadyH.cons rfl (fun K hK => ?_) (AllReadyH.cons rfl (fun K hK => ?_) AllReadyH.nil)
            · simp only [List.getElem_toArray, List.getElem_cons_zero, List.getElem_cons_succ]
              go_simp
              refine (unveil HSd _ bW0A).mono ?_
              rintro x W0AC ⟨aC, cC, rfl, iC, uC, bC⟩
              have bW0AC := Below.next bW0A bC
              have iC0 := iC
              have gC : ∀ x, aC = some x → wr.heap.size ≤ x.block := fun x hx => Nat.le_trans bW0A.size (uC x hx)
              have hsW0AC : W0A.heap.size ≤ W0AC.heap.size := bC.size
              have zA := zA.next bC
              refine hK.out _ _ bW0AC (fun hHeld => ?_)
              clear hK K bC
              refine wpAnyH_take (i := 7) (v := .tuple #[cVal P nk aC es'.length cC (fun _ => -1), evVal 1 P k m 0 0, .int .i64 0]) rfl (by kernel_rfl) (by kernel_rfl) (by kernel_rfl) (fun _ _ _ h => h) (Or.inl ⟨by rfl, fun _ _ => by go_simp⟩) hHeld ?_
              simp only [List.getElem_toArray, List.getElem_cons_zero, List.getElem_cons_succ, Act.put, List.setIfInBounds_toArray, List.set_cons_zero, List.set_cons_succ]
              refine wpAnyH_take (i := 8) (v := cVal P nk aC es'.length cC (fun _ => -1)) rfl (by kernel_rfl) (by kernel_rfl) (by kernel_rfl) (fun _ _ _ h => h) (Or.inl ⟨by rfl, fun _ _ => by go_simp⟩) hHeld ?_
              simp only [List.getElem_toArray, List.getElem_cons_zero, List.getElem_cons_succ, Act.put, List.setIfInBounds_toArray, List.set_cons_zero, List.set_cons_succ]
              refine wpAnyH_take (i := 9) (v := evVal 1 P k m 0 0) rfl (by kernel_rfl) (by kernel_rfl) (by kernel_rfl) (fun _ _ _ h => h) (Or.inl ⟨by rfl, fun _ _ => by go_simp⟩) hHeld ?_
              simp only [List.getElem_toArray, List.getElem_cons_zero, List.getElem_cons_succ, Act.put, List.setIfInBounds_toArray, List.set_cons_zero, List.set_cons_succ]
              refine wpAnyH_take (i := 10) (v := .int .i64 0) rfl (by kernel_rfl) (by kernel_rfl) (by kernel_rfl) (fun _ _ _ h => h) (Or.inl ⟨by rfl, fun _ _ => by go_simp⟩) hHeld ?_
              simp only [List.getElem_toArray, List.getElem_cons_zero, List.getElem_cons_succ, Act.put, List.setIfInBounds_toArray, List.set_cons_zero, List.set_cons_succ]
              refine wpAnyH_ready (rs := [12]) (by kernel_rfl) (by simp) ?_
              refine AllReadyH.cons rfl (fun K hK => ?_) AllReadyH.nil
              · simp only [List.getElem_toArray, List.getElem_cons_zero, List.getElem_cons_succ]
                go_simp
                obtain ⟨W0ACB, hW0ACB, zB, bA⟩ := ze_made W0AC
                rw [← hW0ACB]
                clear hW0ACB
                obtain ⟨XB, hX⟩ : ∃ X, X = W0AC.heap.size := ⟨_, rfl⟩
                have upB : wr.heap.size ≤ XB := by rw [hX]; exact bW0AC.size
                have hlB : XB < W0ACB.heap.size := by rw [hX]; exact zB.lt
                have heB : W0AC.heap.size ≤ XB := by omega
                have hfB : XB ≤ W0AC.heap.size := by omega
                rw [← hX] at zB ⊢
                clear hX
                have bW0ACB := Below.next bW0AC bA
                have iC := iC.next bA
                have zA := zA.next bA
                refine hK.out _ _ bW0ACB (fun hHeld => ?_)
                clear hK K bA
                refine wpAnyH_ready (rs := [13]) (by kernel_rfl) (by simp) ?_
                refine AllReadyH.cons rfl (fun K hK => ?_) AllReadyH.nil
                simp only [List.getElem_toArray, List.getElem_cons_zero, List.getElem_cons_succ]
                obtain ⟨z0, z1, z2, z3, z4, z5, z6⟩ := zA.cells
                have zf := zA.free
                go_simp
                obtain ⟨We, hWe, dE, bE, tE⟩ := c_stored zA bW0ACB upA P nk aC es'.length cC (fun _ => -1)
                rw [← hWe]
                clear hWe z0 z1 z2 z3 z4 z5 z6 zf
                have iE := iC.turn tE (fun x hx h0 => by have := uC x hx; omega)
                have zB := zB.turned tE (by omega)
                refine hK.out _ _ bE (fun hHeld => ?_)
                clear hK K
                refine wpAnyH_ready (rs := [14]) (by kernel_rfl) (by simp) ?_
                refine AllReadyH.cons rfl (fun K hK => ?_) AllReadyH.nil
                simp only [List.getElem_toArray, List.getElem_cons_zero, List.getElem_cons_succ]
                obtain ⟨z0, z1, z2, z3, z4, z5⟩ := zB.cells
                have zf := zB.free
                go_simp
                obtain ⟨Wf, hWf, eF, bF, tF⟩ := e_stored zB bE upB 1 P k m 0 0
                rw [← hWf]
                clear hWf z0 z1 z2 z3 z4 z5 zf
                have iF := iE.turn tF (fun x hx h0 => by have := iC0.lt x hx h0; omega)
                have dF := dE.turned tF (by omega)
                refine hK.out _ _ bF (fun hHeld => ?_)
                clear hK K
                refine wpAnyH_take (i := 15) (v := .int .i64 0) rfl (by kernel_rfl) (by kernel_rfl) (by kernel_rfl) (fun _ _ _ h => h) (Or.inl ⟨by rfl, fun _ _ => by go_simp⟩) hHeld ?_
                simp only [List.getElem_toArray, List.getElem_cons_zero, List.getElem_cons_succ, Act.put, List.setIfInBounds_toArray, List.set_cons_zero, List.set_cons_succ]
                refine wpAnyH_done (by kernel_rfl) ?_ _
                go_wp2_with fail
                go_meet
                exact ⟨XA, XB, aC, cC, rfl, rfl, rfl, ⟨dF, eF, iF, bF, upA, upB, by omega, fun x hx => gC x hx⟩⟩
            · simp only [List.getElem_toArray, List.getElem_cons_zero, List.getElem_cons_succ]
              go_simp
              obtain ⟨W0AB, hW0AB, zB, bA⟩ := ze_made W0A
              rw [← hW0AB]
              clear hW0AB
              obtain ⟨XB, hX⟩ : ∃ X, X = W0A.heap.size := ⟨_, rfl⟩
              have upB : wr.heap.size ≤ XB := by rw [hX]; exact bW0A.size
              have hlB : XB < W0AB.heap.size := by rw [hX]; exact zB.lt
              have heB : W0A.heap.size ≤ XB := by omega
              have hfB : XB ≤ W0A.heap.size := by omega
              rw [← hX] at zB ⊢
              clear hX
              have bW0AB := Below.next bW0A bA
              have zA := zA.next bA
              refine hK.out _ _ bW0AB (fun hHeld => ?_)
              clear hK K bA
              refine wpAnyH_ready (rs := [6]) (by kernel_rfl) (by simp) ?_
              refine AllReadyH.cons rfl (fun K hK => ?_) AllReadyH.nil
              · simp only [List.getElem_toArray, List.getElem_cons_zero, List.getElem_cons_succ]
                go_simp
                refine (unveil HSd _ bW0AB).mono ?_
                rintro x W0ABC ⟨aC, cC, rfl, iC, uC, bC⟩
                have bW0ABC := Below.next bW0AB bC
                have iC0 := iC
                have gC : ∀ x, aC = some x → wr.heap.size ≤ x.block := fun x hx => Nat.le_trans bW0AB.size (uC x hx)
                have hsW0ABC : W0AB.heap.size ≤ W0ABC.heap.size := bC.size
                have zA := zA.next bC
                have zB := zB.next bC
                refine hK.out _ _ bW0ABC (fun hHeld => ?_)
                clear hK K bC
                refine wpAnyH_take (i := 7) (v := .tuple #[cVal P nk aC es'.length cC (fun _ => -1), evVal 1 P k m 0 0, .int .i64 0]) rfl (by kernel_rfl) (by kernel_rfl) (by kernel_rfl) (fun _ _ _ h => h) (Or.inl ⟨by rfl, fun _ _ => by go_simp⟩) hHeld ?_
                simp only [List.getElem_toArray, List.getElem_cons_zero, List.getElem_cons_succ, Act.put, List.setIfInBounds_toArray, List.set_cons_zero, List.set_cons_succ]
                refine wpAnyH_take (i := 8) (v := cVal P nk aC es'.length cC (fun _ => -1)) rfl (by kernel_rfl) (by kernel_rfl) (by kernel_rfl) (fun _ _ _ h => h) (Or.inl ⟨by rfl, fun _ _ => by go_simp⟩) hHeld ?_
                simp only [List.getElem_toArray, List.getElem_cons_zero, List.getElem_cons_succ, Act.put, List.setIfInBounds_toArray, List.set_cons_zero, List.set_cons_succ]
                refine wpAnyH_take (i := 9) (v := evVal 1 P k m 0 0) rfl (by kernel_rfl) (by kernel_rfl) (by kernel_rfl) (fun _ _ _ h => h) (Or.inl ⟨by rfl, fun _ _ => by go_simp⟩) hHeld ?_
                simp only [List.getElem_toArray, List.getElem_cons_zero, List.getElem_cons_succ, Act.put, List.setIfInBounds_toArray, List.set_cons_zero, List.set_cons_succ]
                refine wpAnyH_take (i := 10) (v := .int .i64 0) rfl (by kernel_rfl) (by kernel_rfl) (by kernel_rfl) (fun _ _ _ h => h) (Or.inl ⟨by rfl, fun _ _ => by go_simp⟩) hHeld ?_
                simp only [List.getElem_toArray, List.getElem_cons_zero, List.getElem_cons_succ, Act.put, List.setIfInBounds_toArray, List.set_cons_zero, List.set_cons_succ]
                refine wpAnyH_ready (rs := [13]) (by kernel_rfl) (by simp) ?_
                refine AllReadyH.cons rfl (fun K hK => ?_) AllReadyH.nil
                simp only [List.getElem_toArray, List.getElem_cons_zero, List.getElem_cons_succ]
                obtain ⟨z0, z1, z2, z3, z4, z5, z6⟩ := zA.cells
                have zf := zA.free
                go_simp
                obtain ⟨We, hWe, dE, bE, tE⟩ := c_stored zA bW0ABC upA P nk aC es'.length cC (fun _ => -1)
                rw [← hWe]
                clear hWe z0 z1 z2 z3 z4 z5 z6 zf
                have iE := iC.turn tE (fun x hx h0 => by have := uC x hx; omega)
                have zB := zB.turned tE (by omega)
                refine hK.out _ _ bE (fun hHeld => ?_)
                clear hK K
                refine wpAnyH_ready (rs := [14]) (by kernel_rfl) (by simp) ?_
                refine AllReadyH.cons rfl (fun K hK => ?_) AllReadyH.nil
                simp only [List.getElem_toArray, List.getElem_cons_zero, List.getElem_cons_succ]
                obtain ⟨z0, z1, z2, z3, z4, z5⟩ := zB.cells
                have zf := zB.free
                go_simp
                obtain ⟨Wf, hWf, eF, bF, tF⟩ := e_stored zB bE upB 1 P k m 0 0
                rw [← hWf]
                clear hWf z0 z1 z2 z3 z4 z5 zf
                have iF := iE.turn tF (fun x hx h0 => by have := uC x hx; omega)
                have dF := dE.turned tF (by omega)
                refine hK.out _ _ bF (fun hHeld => ?_)
                clear hK K
                refine wpAnyH_take (i := 15) (v := .int .i64 0) rfl (by kernel_rfl) (by kernel_rfl) (by kernel_rfl) (fun _ _ _ h => h) (Or.inl ⟨by rfl, fun _ _ => by go_simp⟩) hHeld ?_
                simp only [List.getElem_toArray, List.getElem_cons_zero, List.getElem_cons_succ, Act.put, List.setIfInBounds_toArray, List.set_cons_zero, List.set_cons_succ]
                refine wpAnyH_done (by kernel_rfl) ?_ _
                go_wp2_with fail
                go_meet
                exact ⟨XA, XB, aC, cC, rfl, rfl, rfl, ⟨dF, eF, iF, bF, upA, upB, by omega, fun x hx => gC x hx⟩⟩
          · simp only [List.getElem_toArray, List.getElem_cons_zero, List.getElem_cons_succ]
            go_simp
            obtain ⟨W0B, hW0B, zB, bA⟩ := ze_made W0
            rw [← hW0B]
            clear hW0B
            obtain ⟨XB, hX⟩ : ∃ X, X = W0.heap.size := ⟨_, rfl⟩
            have upB : wr.heap.size ≤ XB := by rw [hX]; exact bW0.size
            have hlB : XB < W0B.heap.size := by rw [hX]; exact zB.lt
            have heB : W0.heap.size ≤ XB := by omega
            have hfB : XB ≤ W0.heap.size := by omega
            rw [← hX] at zB ⊢
            clear hX
            have bW0B := Below.next bW0 bA
            refine hK.out _ _ bW0B (fun hHeld => ?_)
            clear hK K bA
            refine wpAnyH_ready (rs := [6, 11]) (by kernel_rfl) (by simp) ?_
            refine AllReadyH.cons rfl (fun K hK => ?_) (AllReadyH.cons rfl (fun K hK => ?_) AllReadyH.nil)
            · simp only [List.getElem_toArray, List.getElem_cons_zero, List.getElem_cons_succ]
              go_simp
              refine (unveil HSd _ bW0B).mono ?_
              rintro x W0BC ⟨aC, cC, rfl, iC, uC, bC⟩
              have bW0BC := Below.next bW0B bC
              have iC0 := iC
              have gC : ∀ x, aC = some x → wr.heap.size ≤ x.block := fun x hx => Nat.le_trans bW0B.size (uC x hx)
              have hsW0BC : W0B.heap.size ≤ W0BC.heap.size := bC.size
              have zB := zB.next bC
              refine hK.out _ _ bW0BC (fun hHeld => ?_)
              clear hK K bC
              refine wpAnyH_take (i := 7) (v := .tuple #[cVal P nk aC es'.length cC (fun _ => -1), evVal 1 P k m 0 0, .int .i64 0]) rfl (by kernel_rfl) (by kernel_rfl) (by kernel_rfl) (fun _ _ _ h => h) (Or.inl ⟨by rfl, fun _ _ => by go_simp⟩) hHeld ?_
              simp only [List.getElem_toArray, List.getElem_cons_zero, List.getElem_cons_succ, Act.put, List.setIfInBounds_toArray, List.set_cons_zero, List.set_cons_succ]
              refine wpAnyH_take (i := 8) (v := cVal P nk aC es'.length cC (fun _ => -1)) rfl (by kernel_rfl) (by kernel_rfl) (by kernel_rfl) (fun _ _ _ h => h) (Or.inl ⟨by rfl, fun _ _ => by go_simp⟩) hHeld ?_
              simp only [List.getElem_toArray, List.getElem_cons_zero, List.getElem_cons_succ, Act.put, List.setIfInBounds_toArray, List.set_cons_zero, List.set_cons_succ]
              refine wpAnyH_take (i := 9) (v := evVal 1 P k m 0 0) rfl (by kernel_rfl) (by kernel_rfl) (by kernel_rfl) (fun _ _ _ h => h) (Or.inl ⟨by rfl, fun _ _ => by go_simp⟩) hHeld ?_
              simp only [List.getElem_toArray, List.getElem_cons_zero, List.getElem_cons_succ, Act.put, List.setIfInBounds_toArray, List.set_cons_zero, List.set_cons_succ]
              refine wpAnyH_take (i := 10) (v := .int .i64 0) rfl (by kernel_rfl) (by kernel_rfl) (by kernel_rfl) (fun _ _ _ h => h) (Or.inl ⟨by rfl, fun _ _ => by go_simp⟩) hHeld ?_
              simp only [List.getElem_toArray, List.getElem_cons_zero, List.getElem_cons_succ, Act.put, List.setIfInBounds_toArray, List.set_cons_zero, List.set_cons_succ]
              refine wpAnyH_ready (rs := [11]) (by kernel_rfl) (by simp) ?_
              refine AllReadyH.cons rfl (fun K hK => ?_) AllReadyH.nil
              · simp only [List.getElem_toArray, List.getElem_cons_zero, List.getElem_cons_succ]
                go_simp
                obtain ⟨W0BCA, hW0BCA, zA, bA⟩ := za_made W0BC
                rw [← hW0BCA]
                clear hW0BCA
                obtain ⟨XA, hX⟩ : ∃ X, X = W0BC.heap.size := ⟨_, rfl⟩
                have upA : wr.heap.size ≤ XA := by rw [hX]; exact bW0BC.size
                have hlA : XA < W0BCA.heap.size := by rw [hX]; exact zA.lt
                have heA : W0BC.heap.size ≤ XA := by omega
                have hfA : XA ≤ W0BC.heap.size := by omega
                rw [← hX] at zA ⊢
                clear hX
                have bW0BCA := Below.next bW0BC bA
                have iC := iC.next bA
                have zB := zB.next bA
                refine hK.out _ _ bW0BCA (fun hHeld => ?_)
                clear hK K bA
                refine wpAnyH_ready (rs := [13]) (by kernel_rfl) (by simp) ?_
                refine AllReadyH.cons rfl (fun K hK => ?_) AllReadyH.nil
                simp only [List.getElem_toArray, List.getElem_cons_zero, List.getElem_cons_succ]
                obtain ⟨z0, z1, z2, z3, z4, z5, z6⟩ := zA.cells
                have zf := zA.free
                go_simp
                obtain ⟨We, hWe, dE, bE, tE⟩ := c_stored zA bW0BCA upA P nk aC es'.length cC (fun _ => -1)
                rw [← hWe]
                clear hWe z0 z1 z2 z3 z4 z5 z6 zf
                have iE := iC.turn tE (fun x hx h0 => by have := iC0.lt x hx h0; omega)
                have zB := zB.turned tE (by omega)
                refine hK.out _ _ bE (fun hHeld => ?_)
                clear hK K
                refine wpAnyH_ready (rs := [14]) (by kernel_rfl) (by simp) ?_
                refine AllReadyH.cons rfl (fun K hK => ?_) AllReadyH.nil
                simp only [List.getElem_toArray, List.getElem_cons_zero, List.getElem_cons_succ]
                obtain ⟨z0, z1, z2, z3, z4, z5⟩ := zB.cells
                have zf := zB.free
                go_simp
                obtain ⟨Wf, hWf, eF, bF, tF⟩ := e_stored zB bE upB 1 P k m 0 0
                rw [← hWf]
                clear hWf z0 z1 z2 z3 z4 z5 zf
                have iF := iE.turn tF (fun x hx h0 => by have := uC x hx; omega)
                have dF := dE.turned tF (by omega)
                refine hK.out _ _ bF (fun hHeld => ?_)
                clear hK K
                refine wpAnyH_take (i := 15) (v := .int .i64 0) rfl (by kernel_rfl) (by kernel_rfl) (by kernel_rfl) (fun _ _ _ h => h) (Or.inl ⟨by rfl, fun _ _ => by go_simp⟩) hHeld ?_
                simp only [List.getElem_toArray, List.getElem_cons_zero, List.getElem_cons_succ, Act.put, List.setIfInBounds_toArray, List.set_cons_zero, List.set_cons_succ]
                refine wpAnyH_done (by kernel_rfl) ?_ _
                go_wp2_with fail
                go_meet
                exact ⟨XA, XB, aC, cC, rfl, rfl, rfl, ⟨dF, eF, iF, bF, upA, upB, by omega, fun x hx => gC x hx⟩⟩
            · simp only [List.getElem_toArray, List.getElem_cons_zero, List.getElem_cons_succ]
              go_simp
              obtain ⟨W0BA, hW0BA, zA, bA⟩ := za_made W0B
              rw [← hW0BA]
              clear hW0BA
              obtain ⟨XA, hX⟩ : ∃ X, X = W0B.heap.size := ⟨_, rfl⟩
              have upA : wr.heap.size ≤ XA := by rw [hX]; exact bW0B.size
              have hlA : XA < W0BA.heap.size := by rw [hX]; exact zA.lt
              have heA : W0B.heap.size ≤ XA := by omega
              have hfA : XA ≤ W0B.heap.size := by omega
              rw [← hX] at zA ⊢
              clear hX
              have bW0BA := Below.next bW0B bA
              have zB := zB.next bA
              refine hK.out _ _ bW0BA (fun hHeld => ?_)
              clear hK K bA
              refine wpAnyH_ready (rs := [6]) (by kernel_rfl) (by simp) ?_
              refine AllReadyH.cons rfl (fun K hK => ?_) AllReadyH.nil
              · simp only [List.getElem_toArray, List.getElem_cons_zero, List.getElem_cons_succ]
                go_simp
                refine (unveil HSd _ bW0BA).mono ?_
                rintro x W0BAC ⟨aC, cC, rfl, iC, uC, bC⟩
                have bW0BAC := Below.next bW0BA bC
                have iC0 := iC
                have gC : ∀ x, aC = some x → wr.heap.size ≤ x.block := fun x hx => Nat.le_trans bW0BA.size (uC x hx)
                have hsW0BAC : W0BA.heap.size ≤ W0BAC.heap.size := bC.size
                have zA := zA.next bC
                have zB := zB.next bC
                refine hK.out _ _ bW0BAC (fun hHeld => ?_)
                clear hK K bC
                refine wpAnyH_take (i := 7) (v := .tuple #[cVal P nk aC es'.length cC (fun _ => -1), evVal 1 P k m 0 0, .int .i64 0]) rfl (by kernel_rfl) (by kernel_rfl) (by kernel_rfl) (fun _ _ _ h => h) (Or.inl ⟨by rfl, fun _ _ => by go_simp⟩) hHeld ?_
                simp only [List.getElem_toArray, List.getElem_cons_zero, List.getElem_cons_succ, Act.put, List.setIfInBounds_toArray, List.set_cons_zero, List.set_cons_succ]
                refine wpAnyH_take (i := 8) (v := cVal P nk aC es'.length cC (fun _ => -1)) rfl (by kernel_rfl) (by kernel_rfl) (by kernel_rfl) (fun _ _ _ h => h) (Or.inl ⟨by rfl, fun _ _ => by go_simp⟩) hHeld ?_
                simp only [List.getElem_toArray, List.getElem_cons_zero, List.getElem_cons_succ, Act.put, List.setIfInBounds_toArray, List.set_cons_zero, List.set_cons_succ]
                refine wpAnyH_take (i := 9) (v := evVal 1 P k m 0 0) rfl (by kernel_rfl) (by kernel_rfl) (by kernel_rfl) (fun _ _ _ h => h) (Or.inl ⟨by rfl, fun _ _ => by go_simp⟩) hHeld ?_
                simp only [List.getElem_toArray, List.getElem_cons_zero, List.getElem_cons_succ, Act.put, List.setIfInBounds_toArray, List.set_cons_zero, List.set_cons_succ]
                refine wpAnyH_take (i := 10) (v := .int .i64 0) rfl (by kernel_rfl) (by kernel_rfl) (by kernel_rfl) (fun _ _ _ h => h) (Or.inl ⟨by rfl, fun _ _ => by go_simp⟩) hHeld ?_
                simp only [List.getElem_toArray, List.getElem_cons_zero, List.getElem_cons_succ, Act.put, List.setIfInBounds_toArray, List.set_cons_zero, List.set_cons_succ]
                refine wpAnyH_ready (rs := [13]) (by kernel_rfl) (by simp) ?_
                refine AllReadyH.cons rfl (fun K hK => ?_) AllReadyH.nil
                simp only [List.getElem_toArray, List.getElem_cons_zero, List.getElem_cons_succ]
                obtain ⟨z0, z1, z2, z3, z4, z5, z6⟩ := zA.cells
                have zf := zA.free
                go_simp
                obtain ⟨We, hWe, dE, bE, tE⟩ := c_stored zA bW0BAC upA P nk aC es'.length cC (fun _ => -1)
                rw [← hWe]
                clear hWe z0 z1 z2 z3 z4 z5 z6 zf
                have iE := iC.turn tE (fun x hx h0 => by have := uC x hx; omega)
                have zB := zB.turned tE (by omega)
                refine hK.out _ _ bE (fun hHeld => ?_)
                clear hK K
                refine wpAnyH_ready (rs := [14]) (by kernel_rfl) (by simp) ?_
                refine AllReadyH.cons rfl (fun K hK => ?_) AllReadyH.nil
                simp only [List.getElem_toArray, List.getElem_cons_zero, List.getElem_cons_succ]
                obtain ⟨z0, z1, z2, z3, z4, z5⟩ := zB.cells
                have zf := zB.free
                go_simp
                obtain ⟨Wf, hWf, eF, bF, tF⟩ := e_stored zB bE upB 1 P k m 0 0
                rw [← hWf]
                clear hWf z0 z1 z2 z3 z4 z5 zf
                have iF := iE.turn tF (fun x hx h0 => by have := uC x hx; omega)
                have dF := dE.turned tF (by omega)
                refine hK.out _ _ bF (fun hHeld => ?_)
                clear hK K
                refine wpAnyH_take (i := 15) (v := .int .i64 0) rfl (by kernel_rfl) (by kernel_rfl) (by kernel_rfl) (fun _ _ _ h => h) (Or.inl ⟨by rfl, fun _ _ => by go_simp⟩) hHeld ?_
                simp only [List.getElem_toArray, List.getElem_cons_zero, List.getElem_cons_succ, Act.put, List.setIfInBounds_toArray, List.set_cons_zero, List.set_cons_succ]
                refine wpAnyH_done (by kernel_rfl) ?_ _
                go_wp2_with fail
                go_meet
                exact ⟨XA, XB, aC, cC, rfl, rfl, rfl, ⟨dF, eF, iF, bF, upA, upB, by omega, fun x hx => gC x hx⟩⟩
        · simp only [List.getElem_toArray, List.getElem_cons_zero, List.getElem_cons_succ]
          go_simp
          obtain ⟨W0A, hW0A, zA, bA⟩ := za_made W0
          rw [← hW0A]
          clear hW0A
          obtain ⟨XA, hX⟩ : ∃ X, X = W0.heap.size := ⟨_, rfl⟩
          have upA : wr.heap.size ≤ XA := by rw [hX]; exact bW0.size
          have hlA : XA < W0A.heap.size := by rw [hX]; exact zA.lt
          have heA : W0.heap.size ≤ XA := by omega
          have hfA : XA ≤ W0.heap.size := by omega
          rw [← hX] at zA ⊢
          clear hX
          have bW0A := Below.next bW0 bA
          refine hK.out _ _ bW0A (fun hHeld => ?_)
          clear hK K bA
          refine wpAnyH_ready (rs := [5, 12]) (by kernel_rfl) (by simp) ?_
          refine AllReadyH.cons rfl (fun K hK => ?_) (AllReadyH.cons rfl (fun K hK => ?_) AllReadyH.nil)
          · simp only [List.getElem_toArray, List.getElem_cons_zero, List.getElem_cons_succ]
            go_simp
            refine (P2 _).mono ?_
            rintro x w9 ⟨rfl, hw9⟩
            subst w9
            refine hK.out _ _ bW0A (fun hHeld => ?_)
            clear hK K
            refine wpAnyH_ready (rs := [6, 12]) (by kernel_rfl) (by simp) ?_
            refine AllReadyH.cons rfl (fun K hK => ?_) (AllReadyH.cons rfl (fun K hK => ?_) AllReadyH.nil)
            · simp only [List.getElem_toArray, List.getElem_cons_zero, List.getElem_cons_succ]
              go_simp
              refine (unveil HSd _ bW0A).mono ?_
              rintro x W0AC ⟨aC, cC, rfl, iC, uC, bC⟩
              have bW0AC := Below.next bW0A bC
              have iC0 := iC
              have gC : ∀ x, aC = some x → wr.heap.size ≤ x.block := fun x hx => Nat.le_trans bW0A.size (uC x hx)
              have hsW0AC : W0A.heap.size ≤ W0AC.heap.size := bC.size
              have zA := zA.next bC
              refine hK.out _ _ bW0AC (fun hHeld => ?_)
              clear hK K bC
              refine wpAnyH_take (i := 7) (v := .tuple #[cVal P nk aC es'.length cC (fun _ => -1), evVal 1 P k m 0 0, .int .i64 0]) rfl (by kernel_rfl) (by kernel_rfl) (by kernel_rfl) (fun _ _ _ h => h) (Or.inl ⟨by rfl, fun _ _ => by go_simp⟩) hHeld ?_
              simp only [List.getElem_toArray, List.getElem_cons_zero, List.getElem_cons_succ, Act.put, List.setIfInBounds_toArray, List.set_cons_zero, List.set_cons_succ]
              refine wpAnyH_take (i := 8) (v := cVal P nk aC es'.length cC (fun _ => -1)) rfl (by kernel_rfl) (by kernel_rfl) (by kernel_rfl) (fun _ _ _ h => h) (Or.inl ⟨by rfl, fun _ _ => by go_simp⟩) hHeld ?_
              simp only [List.getElem_toArray, List.getElem_cons_zero, List.getElem_cons_succ, Act.put, List.setIfInBounds_toArray, List.set_cons_zero, List.set_cons_succ]
              refine wpAnyH_take (i := 9) (v := evVal 1 P k m 0 0) rfl (by kernel_rfl) (by kernel_rfl) (by kernel_rfl) (fun _ _ _ h => h) (Or.inl ⟨by rfl, fun _ _ => by go_simp⟩) hHeld ?_
              simp only [List.getElem_toArray, List.getElem_cons_zero, List.getElem_cons_succ, Act.put, List.setIfInBounds_toArray, List.set_cons_zero, List.set_cons_succ]
              refine wpAnyH_take (i := 10) (v := .int .i64 0) rfl (by kernel_rfl) (by kernel_rfl) (by kernel_rfl) (fun _ _ _ h => h) (Or.inl ⟨by rfl, fun _ _ => by go_simp⟩) hHeld ?_
              simp only [List.getElem_toArray, List.getElem_cons_zero, List.getElem_cons_succ, Act.put, List.setIfInBounds_toArray, List.set_cons_zero, List.set_cons_succ]
              refine wpAnyH_ready (rs := [12]) (by kernel_rfl) (by simp) ?_
              refine AllReadyH.cons rfl (fun K hK => ?_) AllReadyH.nil
              · simp only [List.getElem_toArray, List.getElem_cons_zero, List.getElem_cons_succ]
                go_simp
                obtain ⟨W0ACB, hW0ACB, zB, bA⟩ := ze_made W0AC
                rw [← hW0ACB]
                clear hW0ACB
                obtain ⟨XB, hX⟩ : ∃ X, X = W0AC.heap.size := ⟨_, rfl⟩
                have upB : wr.heap.size ≤ XB := by rw [hX]; exact bW0AC.size
                have hlB : XB < W0ACB.heap.size := by rw [hX]; exact zB.lt
                have heB : W0AC.heap.size ≤ XB := by omega
                have hfB : XB ≤ W0AC.heap.size := by omega
                rw [← hX] at zB ⊢
                clear hX
                have bW0ACB := Below.next bW0AC bA
                have iC := iC.next bA
                have zA := zA.next bA
                refine hK.out _ _ bW0ACB (fun hHeld => ?_)
                clear hK K bA
                refine wpAnyH_ready (rs := [13]) (by kernel_rfl) (by simp) ?_
                refine AllReadyH.cons rfl (fun K hK => ?_) AllReadyH.nil
                simp only [List.getElem_toArray, List.getElem_cons_zero, List.getElem_cons_succ]
                obtain ⟨z0, z1, z2, z3, z4, z5, z6⟩ := zA.cells
                have zf := zA.free
                go_simp
                obtain ⟨We, hWe, dE, bE, tE⟩ := c_stored zA bW0ACB upA P nk aC es'.length cC (fun _ => -1)
                rw [← hWe]
                clear hWe z0 z1 z2 z3 z4 z5 z6 zf
                have iE := iC.turn tE (fun x hx h0 => by have := uC x hx; omega)
                have zB := zB.turned tE (by omega)
                refine hK.out _ _ bE (fun hHeld => ?_)
                clear hK K
                refine wpAnyH_ready (rs := [14]) (by kernel_rfl) (by simp) ?_
                refine AllReadyH.cons rfl (fun K hK => ?_) AllReadyH.nil
                simp only [List.getElem_toArray, List.getElem_cons_zero, List.getElem_cons_succ]
                obtain ⟨z0, z1, z2, z3, z4, z5⟩ := zB.cells
                have zf := zB.free
                go_simp
                obtain ⟨Wf, hWf, eF, bF, tF⟩ := e_stored zB bE upB 1 P k m 0 0
                rw [← hWf]
                clear hWf z0 z1 z2 z3 z4 z5 zf
                have iF := iE.turn tF (fun x hx h0 => by have := iC0.lt x hx h0; omega)
                have dF := dE.turned tF (by omega)
                refine hK.out _ _ bF (fun hHeld => ?_)
                clear hK K
                refine wpAnyH_take (i := 15) (v := .int .i64 0) rfl (by kernel_rfl) (by kernel_rfl) (by kernel_rfl) (fun _ _ _ h => h) (Or.inl ⟨by rfl, fun _ _ => by go_simp⟩) hHeld ?_
                simp only [List.getElem_toArray, List.getElem_cons_zero, List.getElem_cons_succ, Act.put, List.setIfInBounds_toArray, List.set_cons_zero, List.set_cons_succ]
                refine wpAnyH_done (by kernel_rfl) ?_ _
                go_wp2_with fail
                go_meet
                exact ⟨XA, XB, aC, cC, rfl, rfl, rfl, ⟨dF, eF, iF, bF, upA, upB, by omega, fun x hx => gC x hx⟩⟩
            · simp only [List.getElem_toArray, List.getElem_cons_zero, List.getElem_cons_succ]
              go_simp
              obtain ⟨W0AB, hW0AB, zB, bA⟩ := ze_made W0A
              rw [← hW0AB]
              clear hW0AB
              obtain ⟨XB, hX⟩ : ∃ X, X = W0A.heap.size := ⟨_, rfl⟩
              have upB : wr.heap.size ≤ XB := by rw [hX]; exact bW0A.size
              have hlB : XB < W0AB.heap.size := by rw [hX]; exact zB.lt
              have heB : W0A.heap.size ≤ XB := by omega
              have hfB : XB ≤ W0A.heap.size := by omega
              rw [← hX] at zB ⊢
              clear hX
              have bW0AB := Below.next bW0A bA
              have zA := zA.next bA
              refine hK.out _ _ bW0AB (fun hHeld => ?_)
              clear hK K bA
              refine wpAnyH_ready (rs := [6]) (by kernel_rfl) (by simp) ?_
              refine AllReadyH.cons rfl (fun K hK => ?_) AllReadyH.nil
              · simp only [List.getElem_toArray, List.getElem_cons_zero, List.getElem_cons_succ]
                go_simp
                refine (unveil HSd _ bW0AB).mono ?_
                rintro x W0ABC ⟨aC, cC, rfl, iC, uC, bC⟩
                have bW0ABC := Below.next bW0AB bC
                have iC0 := iC
                have gC : ∀ x, aC = some x → wr.heap.size ≤ x.block := fun x hx => Nat.le_trans bW0AB.size (uC x hx)
                have hsW0ABC : W0AB.heap.size ≤ W0ABC.heap.size := bC.size
                have zA := zA.next bC
                have zB := zB.next bC
                refine hK.out _ _ bW0ABC (fun hHeld => ?_)
                clear hK K bC
                refine wpAnyH_take (i := 7) (v := .tuple #[cVal P nk aC es'.length cC (fun _ => -1), evVal 1 P k m 0 0, .int .i64 0]) rfl (by kernel_rfl) (by kernel_rfl) (by kernel_rfl) (fun _ _ _ h => h) (Or.inl ⟨by rfl, fun _ _ => by go_simp⟩) hHeld ?_
                simp only [List.getElem_toArray, List.getElem_cons_zero, List.getElem_cons_succ, Act.put, List.setIfInBounds_toArray, List.set_cons_zero, List.set_cons_succ]
                refine wpAnyH_take (i := 8) (v := cVal P nk aC es'.length cC (fun _ => -1)) rfl (by kernel_rfl) (by kernel_rfl) (by kernel_rfl) (fun _ _ _ h => h) (Or.inl ⟨by rfl, fun _ _ => by go_simp⟩) hHeld ?_
                simp only [List.getElem_toArray, List.getElem_cons_zero, List.getElem_cons_succ, Act.put, List.setIfInBounds_toArray, List.set_cons_zero, List.set_cons_succ]
                refine wpAnyH_take (i := 9) (v := evVal 1 P k m 0 0) rfl (by kernel_rfl) (by kernel_rfl) (by kernel_rfl) (fun _ _ _ h => h) (Or.inl ⟨by rfl, fun _ _ => by go_simp⟩) hHeld ?_
                simp only [List.getElem_toArray, List.getElem_cons_zero, List.getElem_cons_succ, Act.put, List.setIfInBounds_toArray, List.set_cons_zero, List.set_cons_succ]
                refine wpAnyH_take (i := 10) (v := .int .i64 0) rfl (by kernel_rfl) (by kernel_rfl) (by kernel_rfl) (fun _ _ _ h => h) (Or.inl ⟨by rfl, fun _ _ => by go_simp⟩) hHeld ?_
                simp only [List.getElem_toArray, List.getElem_cons_zero, List.getElem_cons_succ, Act.put, List.setIfInBounds_toArray, List.set_cons_zero, List.set_cons_succ]
                refine wpAnyH_ready (rs := [13]) (by kernel_rfl) (by simp) ?_
                refine AllReadyH.cons rfl (fun K hK => ?_) AllReadyH.nil
                simp only [List.getElem_toArray, List.getElem_cons_zero, List.getElem_cons_succ]
                obtain ⟨z0, z1, z2, z3, z4, z5, z6⟩ := zA.cells
                have zf := zA.free
                go_simp
                obtain ⟨We, hWe, dE, bE, tE⟩ := c_stored zA bW0ABC upA P nk aC es'.length cC (fun _ => -1)
                rw [← hWe]
                clear hWe z0 z1 z2 z3 z4 z5 z6 zf
                have iE := iC.turn tE (fun x hx h0 => by have := uC x hx; omega)
                have zB := zB.turned tE (by omega)
                refine hK.out _ _ bE (fun hHeld => ?_)
                clear hK K
                refine wpAnyH_ready (rs := [14]) (by kernel_rfl) (by simp) ?_
                refine AllReadyH.cons rfl (fun K hK => ?_) AllReadyH.nil
                simp only [List.getElem_toArray, List.getElem_cons_zero, List.getElem_cons_succ]
                obtain ⟨z0, z1, z2, z3, z4, z5⟩ := zB.cells
                have zf := zB.free
                go_simp
                obtain ⟨Wf, hWf, eF, bF, tF⟩ := e_stored zB bE upB 1 P k m 0 0
                rw [← hWf]
                clear hWf z0 z1 z2 z3 z4 z5 zf
                have iF := iE.turn tF (fun x hx h0 => by have := uC x hx; omega)
                have dF := dE.turned tF (by omega)
                refine hK.out _ _ bF (fun hHeld => ?_)
                clear hK K
                refine wpAnyH_take (i := 15) (v := .int .i64 0) rfl (by kernel_rfl) (by kernel_rfl) (by kernel_rfl) (fun _ _ _ h => h) (Or.inl ⟨by rfl, fun _ _ => by go_simp⟩) hHeld ?_
                simp only [List.getElem_toArray, List.getElem_cons_zero, List.getElem_cons_succ, Act.put, List.setIfInBounds_toArray, List.set_cons_zero, List.set_cons_succ]
                refine wpAnyH_done (by kernel_rfl) ?_ _
                go_wp2_with fail
                go_meet
                exact ⟨XA, XB, aC, cC, rfl, rfl, rfl, ⟨dF, eF, iF, bF, upA, upB, by omega, fun x hx => gC x hx⟩⟩
          · simp only [List.getElem_toArray, List.getElem_cons_zero, List.getElem_cons_succ]
            go_simp
            obtain ⟨W0AB, hW0AB, zB, bA⟩ := ze_made W0A
            rw [← hW0AB]
            clear hW0AB
            obtain ⟨XB, hX⟩ : ∃ X, X = W0A.heap.size := ⟨_, rfl⟩
            have upB : wr.heap.size ≤ XB := by rw [hX]; exact bW0A.size
            have hlB : XB < W0AB.heap.size := by rw [hX]; exact zB.lt
            have heB : W0A.heap.size ≤ XB := by omega
            have hfB : XB ≤ W0A.heap.size := by omega
            rw [← hX] at zB ⊢
            clear hX
            have bW0AB := Below.next bW0A bA
            have zA := zA.next bA
            refine hK.out _ _ bW0AB (fun hHeld => ?_)
            clear hK K bA
            refine wpAnyH_ready (rs := [5]) (by kernel_rfl) (by simp) ?_
            refine AllReadyH.cons rfl (fun K hK => ?_) AllReadyH.nil
            · simp only [List.getElem_toArray, List.getElem_cons_zero, List.getElem_cons_succ]
              go_simp
              refine (P2 _).mono ?_
              rintro x w9 ⟨rfl, hw9⟩
              subst w9
              refine hK.out _ _ bW0AB (fun hHeld => ?_)
              clear hK K
              refine wpAnyH_ready (rs := [6]) (by kernel_rfl) (by simp) ?_
              refine AllReadyH.cons rfl (fun K hK => ?_) AllReadyH.nil
              · simp only [List.getElem_toArray, List.getElem_cons_zero, List.getElem_cons_succ]
                go_simp
                refine (unveil HSd _ bW0AB).mono ?_
                rintro x W0ABC ⟨aC, cC, rfl, iC, uC, bC⟩
                have bW0ABC := Below.next bW0AB bC
                have iC0 := iC
                have gC : ∀ x, aC = some x → wr.heap.size ≤ x.block := fun x hx => Nat.le_trans bW0AB.size (uC x hx)
                have hsW0ABC : W0AB.heap.size ≤ W0ABC.heap.size := bC.size
                have zA := zA.next bC
                have zB := zB.next bC
                refine hK.out _ _ bW0ABC (fun hHeld => ?_)
                clear hK K bC
                refine wpAnyH_take (i := 7) (v := .tuple #[cVal P nk aC es'.length cC (fun _ => -1), evVal 1 P k m 0 0, .int .i64 0]) rfl (by kernel_rfl) (by kernel_rfl) (by kernel_rfl) (fun _ _ _ h => h) (Or.inl ⟨by rfl, fun _ _ => by go_simp⟩) hHeld ?_
                simp only [List.getElem_toArray, List.getElem_cons_zero, List.getElem_cons_succ, Act.put, List.setIfInBounds_toArray, List.set_cons_zero, List.set_cons_succ]
                refine wpAnyH_take (i := 8) (v := cVal P nk aC es'.length cC (fun _ => -1)) rfl (by kernel_rfl) (by kernel_rfl) (by kernel_rfl) (fun _ _ _ h => h) (Or.inl ⟨by rfl, fun _ _ => by go_simp⟩) hHeld ?_
                simp only [List.getElem_toArray, List.getElem_cons_zero, List.getElem_cons_succ, Act.put, List.setIfInBounds_toArray, List.set_cons_zero, List.set_cons_succ]
                refine wpAnyH_take (i := 9) (v := evVal 1 P k m 0 0) rfl (by kernel_rfl) (by kernel_rfl) (by kernel_rfl) (fun _ _ _ h => h) (Or.inl ⟨by rfl, fun _ _ => by go_simp⟩) hHeld ?_
                simp only [List.getElem_toArray, List.getElem_cons_zero, List.getElem_cons_succ, Act.put, List.setIfInBounds_toArray, List.set_cons_zero, List.set_cons_succ]
                refine wpAnyH_take (i := 10) (v := .int .i64 0) rfl (by kernel_rfl) (by kernel_rfl) (by kernel_rfl) (fun _ _ _ h => h) (Or.inl ⟨by rfl, fun _ _ => by go_simp⟩) hHeld ?_
                simp only [List.getElem_toArray, List.getElem_cons_zero, List.getElem_cons_succ, Act.put, List.setIfInBounds_toArray, List.set_cons_zero, List.set_cons_succ]
                refine wpAnyH_ready (rs := [13]) (by kernel_rfl) (by simp) ?_
                refine AllReadyH.cons rfl (fun K hK => ?_) AllReadyH.nil
                simp only [List.getElem_toArray, List.getElem_cons_zero, List.getElem_cons_succ]
                obtain ⟨z0, z1, z2, z3, z4, z5, z6⟩ := zA.cells
                have zf := zA.free
                go_simp
                obtain ⟨We, hWe, dE, bE, tE⟩ := c_stored zA bW0ABC upA P nk aC es'.length cC (fun _ => -1)
                rw [← hWe]
                clear hWe z0 z1 z2 z3 z4 z5 z6 zf
                have iE := iC.turn tE (fun x hx h0 => by have := uC x hx; omega)
                have zB := zB.turned tE (by omega)
                refine hK.out _ _ bE (fun hHeld => ?_)
                clear hK K
                refine wpAnyH_ready (rs := [14]) (by kernel_rfl) (by simp) ?_
                refine AllReadyH.cons rfl (fun K hK => ?_) AllReadyH.nil
                simp only [List.getElem_toArray, List.getElem_cons_zero, List.getElem_cons_succ]
                obtain ⟨z0, z1, z2, z3, z4, z5⟩ := zB.cells
                have zf := zB.free
                go_simp
                obtain ⟨Wf, hWf, eF, bF, tF⟩ := e_stored zB bE upB 1 P k m 0 0
                rw [← hWf]
                clear hWf z0 z1 z2 z3 z4 z5 zf
                have iF := iE.turn tF (fun x hx h0 => by have := uC x hx; omega)
                have dF := dE.turned tF (by omega)
                refine hK.out _ _ bF (fun hHeld => ?_)
                clear hK K
                refine wpAnyH_take (i := 15) (v := .int .i64 0) rfl (by kernel_rfl) (by kernel_rfl) (by kernel_rfl) (fun _ _ _ h => h) (Or.inl ⟨by rfl, fun _ _ => by go_simp⟩) hHeld ?_
                simp only [List.getElem_toArray, List.getElem_cons_zero, List.getElem_cons_succ, Act.put, List.setIfInBounds_toArray, List.set_cons_zero, List.set_cons_succ]
                refine wpAnyH_done (by kernel_rfl) ?_ _
                go_wp2_with fail
                go_meet
                exact ⟨XA, XB, aC, cC, rfl, rfl, rfl, ⟨dF, eF, iF, bF, upA, upB, by omega, fun x hx => gC x hx⟩⟩
        · simp only [List.getElem_toArray, List.getElem_cons_zero, List.getElem_cons_succ]
          go_simp
          obtain ⟨W0B, hW0B, zB, bA⟩ := ze_made W0
          rw [← hW0B]
          clear hW0B
          obtain ⟨XB, hX⟩ : ∃ X, X = W0.heap.size := ⟨_, rfl⟩
          have upB : wr.heap.size ≤ XB := by rw [hX]; exact bW0.size
          have hlB : XB < W0B.heap.size := by rw [hX]; exact zB.lt
          have heB : W0.heap.size ≤ XB := by omega
          have hfB : XB ≤ W0.heap.size := by omega
          rw [← hX] at zB ⊢
          clear hX
          have bW0B := Below.next bW0 bA
          refine hK.out _ _ bW0B (fun hHeld => ?_)
          clear hK K bA
          refine wpAnyH_ready (rs := [5, 11]) (by kernel_rfl) (by simp) ?_
          refine AllReadyH.cons rfl (fun K hK => ?_) (AllReadyH.cons rfl (fun K hK => ?_) AllReadyH.nil)
          · simp only [List.getElem_toArray, List.getElem_cons_zero, List.getElem_cons_succ]
            go_simp
            refine (P2 _).mono ?_
            rintro x w9 ⟨rfl, hw9⟩
            subst w9
            refine hK.out _ _ bW0B (fun hHeld => ?_)
            clear hK K
            refine wpAnyH_ready (rs := [6, 11]) (by kernel_rfl) (by simp) ?_
            refine AllReadyH.cons rfl (fun K hK => ?_) (AllReadyH.cons rfl (fun K hK => ?_) AllReadyH.nil)
            · simp only [List.getElem_toArray, List.getElem_cons_zero, List.getElem_cons_succ]
              go_simp
              refine (unveil HSd _ bW0B).mono ?_
              rintro x W0BC ⟨aC, cC, rfl, iC, uC, bC⟩
              have bW0BC := Below.next bW0B bC
              have iC0 := iC
              have gC : ∀ x, aC = some x → wr.heap.size ≤ x.block := fun x hx => Nat.le_trans bW0B.size (uC x hx)
              have hsW0BC : W0B.heap.size ≤ W0BC.heap.size := bC.size
              have zB := zB.next bC
              refine hK.out _ _ bW0BC (fun hHeld => ?_)
              clear hK K bC
              refine wpAnyH_take (i := 7) (v := .tuple #[cVal P nk aC es'.length cC (fun _ => -1), evVal 1 P k m 0 0, .int .i64 0]) rfl (by kernel_rfl) (by kernel_rfl) (by kernel_rfl) (fun _ _ _ h => h) (Or.inl ⟨by rfl, fun _ _ => by go_simp⟩) hHeld ?_
              simp only [List.getElem_toArray, List.getElem_cons_zero, List.getElem_cons_succ, Act.put, List.setIfInBounds_toArray, List.set_cons_zero, List.set_cons_succ]
              refine wpAnyH_take (i := 8) (v := cVal P nk aC es'.length cC (fun _ => -1)) rfl (by kernel_rfl) (by kernel_rfl) (by kernel_rfl) (fun _ _ _ h => h) (Or.inl ⟨by rfl, fun _ _ => by go_simp⟩) hHeld ?_
              simp only [List.getElem_toArray, List.getElem_cons_zero, List.getElem_cons_succ, Act.put, List.setIfInBounds_toArray, List.set_cons_zero, List.set_cons_succ]
              refine wpAnyH_take (i := 9) (v := evVal 1 P k m 0 0) rfl (by kernel_rfl) (by kernel_rfl) (by kernel_rfl) (fun _ _ _ h => h) (Or.inl ⟨by rfl, fun _ _ => by go_simp⟩) hHeld ?_
              simp only [List.getElem_toArray, List.getElem_cons_zero, List.getElem_cons_succ, Act.put, List.setIfInBounds_toArray, List.set_cons_zero, List.set_cons_succ]
              refine wpAnyH_take (i := 10) (v := .int .i64 0) rfl (by kernel_rfl) (by kernel_rfl) (by kernel_rfl) (fun _ _ _ h => h) (Or.inl ⟨by rfl, fun _ _ => by go_simp⟩) hHeld ?_
              simp only [List.getElem_toArray, List.getElem_cons_zero, List.getElem_cons_succ, Act.put, List.setIfInBounds_toArray, List.set_cons_zero, List.set_cons_succ]
              refine wpAnyH_ready (rs := [11]) (by kernel_rfl) (by simp) ?_
              refine AllReadyH.cons rfl (fun K hK => ?_) AllReadyH.nil
              · simp only [List.getElem_toArray, List.getElem_cons_zero, List.getElem_cons_succ]
                go_simp
                obtain ⟨W0BCA, hW0BCA, zA, bA⟩ := za_made W0BC
                rw [← hW0BCA]
                clear hW0BCA
                obtain ⟨XA, hX⟩ : ∃ X, X = W0BC.heap.size := ⟨_, rfl⟩
                have upA : wr.heap.size ≤ XA := by rw [hX]; exact bW0BC.size
                have hlA : XA < W0BCA.heap.size := by rw [hX]; exact zA.lt
                have heA : W0BC.heap.size ≤ XA := by omega
                have hfA : XA ≤ W0BC.heap.size := by omega
                rw [← hX] at zA ⊢
                clear hX
                have bW0BCA := Below.next bW0BC bA
                have iC := iC.next bA
                have zB := zB.next bA
                refine hK.out _ _ bW0BCA (fun hHeld => ?_)
                clear hK K bA
                refine wpAnyH_ready (rs := [13]) (by kernel_rfl) (by simp) ?_
                refine AllReadyH.cons rfl (fun K hK => ?_) AllReadyH.nil
                simp only [List.getElem_toArray, List.getElem_cons_zero, List.getElem_cons_succ]
                obtain ⟨z0, z1, z2, z3, z4, z5, z6⟩ := zA.cells
                have zf := zA.free
                go_simp
                obtain ⟨We, hWe, dE, bE, tE⟩ := c_stored zA bW0BCA upA P nk aC es'.length cC (fun _ => -1)
                rw [← hWe]
                clear hWe z0 z1 z2 z3 z4 z5 z6 zf
                have iE := iC.turn tE (fun x hx h0 => by have := iC0.lt x hx h0; omega)
                have zB := zB.turned tE (by omega)
                refine hK.out _ _ bE (fun hHeld => ?_)
                clear hK K
                refine wpAnyH_ready (rs := [14]) (by kernel_rfl) (by simp) ?_
                refine AllReadyH.cons rfl (fun K hK => ?_) AllReadyH.nil
                simp only [List.getElem_toArray, List.getElem_cons_zero, List.getElem_cons_succ]
                obtain ⟨z0, z1, z2, z3, z4, z5⟩ := zB.cells
                have zf := zB.free
                go_simp
                obtain ⟨Wf, hWf, eF, bF, tF⟩ := e_stored zB bE upB 1 P k m 0 0
                rw [← hWf]
                clear hWf z0 z1 z2 z3 z4 z5 zf
                have iF := iE.turn tF (fun x hx h0 => by have := uC x hx; omega)
                have dF := dE.turned tF (by omega)
                refine hK.out _ _ bF (fun hHeld => ?_)
                clear hK K
                refine wpAnyH_take (i := 15) (v := .int .i64 0) rfl (by kernel_rfl) (by kernel_rfl) (by kernel_rfl) (fun _ _ _ h => h) (Or.inl ⟨by rfl, fun _ _ => by go_simp⟩) hHeld ?_
                simp only [List.getElem_toArray, List.getElem_cons_zero, List.getElem_cons_succ, Act.put, List.setIfInBounds_toArray, List.set_cons_zero, List.set_cons_succ]
                refine wpAnyH_done (by kernel_rfl) ?_ _
                go_wp2_with fail
                go_meet
                exact ⟨XA, XB, aC, cC, rfl, rfl, rfl, ⟨dF, eF, iF, bF, upA, upB, by omega, fun x hx => gC x hx⟩⟩
            · simp only [List.getElem_toArray, List.getElem_cons_zero, List.getElem_cons_succ]
              go_simp
              obtain ⟨W0BA, hW0BA, zA, bA⟩ := za_made W0B
              rw [← hW0BA]
              clear hW0BA
              obtain ⟨XA, hX⟩ : ∃ X, X = W0B.heap.size := ⟨_, rfl⟩
              have upA : wr.heap.size ≤ XA := by rw [hX]; exact bW0B.size
              have hlA : XA < W0BA.heap.size := by rw [hX]; exact zA.lt
              have heA : W0B.heap.size ≤ XA := by omega
              have hfA : XA ≤ W0B.heap.size := by omega
              rw [← hX] at zA ⊢
              clear hX
              have bW0BA := Below.next bW0B bA
              have zB := zB.next bA
              refine hK.out _ _ bW0BA (fun hHeld => ?_)
              clear hK K bA
              refine wpAnyH_ready (rs := [6]) (by kernel_rfl) (by simp) ?_
              refine AllReadyH.cons rfl (fun K hK => ?_) AllReadyH.nil
              · simp only [List.getElem_toArray, List.getElem_cons_zero, List.getElem_cons_succ]
                go_simp
                refine (unveil HSd _ bW0BA).mono ?_
                rintro x W0BAC ⟨aC, cC, rfl, iC, uC, bC⟩
                have bW0BAC := Below.next bW0BA bC
                have iC0 := iC
                have gC : ∀ x, aC = some x → wr.heap.size ≤ x.block := fun x hx => Nat.le_trans bW0BA.size (uC x hx)
                have hsW0BAC : W0BA.heap.size ≤ W0BAC.heap.size := bC.size
                have zA := zA.next bC
                have zB := zB.next bC
                refine hK.out _ _ bW0BAC (fun hHeld => ?_)
                clear hK K bC
                refine wpAnyH_take (i := 7) (v := .tuple #[cVal P nk aC es'.length cC (fun _ => -1), evVal 1 P k m 0 0, .int .i64 0]) rfl (by kernel_rfl) (by kernel_rfl) (by kernel_rfl) (fun _ _ _ h => h) (Or.inl ⟨by rfl, fun _ _ => by go_simp⟩) hHeld ?_
                simp only [List.getElem_toArray, List.getElem_cons_zero, List.getElem_cons_succ, Act.put, List.setIfInBounds_toArray, List.set_cons_zero, List.set_cons_succ]
                refine wpAnyH_take (i := 8) (v := cVal P nk aC es'.length cC (fun _ => -1)) rfl (by kernel_rfl) (by kernel_rfl) (by kernel_rfl) (fun _ _ _ h => h) (Or.inl ⟨by rfl, fun _ _ => by go_simp⟩) hHeld ?_
                simp only [List.getElem_toArray, List.getElem_cons_zero, List.getElem_cons_succ, Act.put, List.setIfInBounds_toArray, List.set_cons_zero, List.set_cons_succ]
                refine wpAnyH_take (i := 9) (v := evVal 1 P k m 0 0) rfl (by kernel_rfl) (by kernel_rfl) (by kernel_rfl) (fun _ _ _ h => h) (Or.inl ⟨by rfl, fun _ _ => by go_simp⟩) hHeld ?_
                simp only [List.getElem_toArray, List.getElem_cons_zero, List.getElem_cons_succ, Act.put, List.setIfInBounds_toArray, List.set_cons_zero, List.set_cons_succ]
                refine wpAnyH_take (i := 10) (v := .int .i64 0) rfl (by kernel_rfl) (by kernel_rfl) (by kernel_rfl) (fun _ _ _ h => h) (Or.inl ⟨by rfl, fun _ _ => by go_simp⟩) hHeld ?_
                simp only [List.getElem_toArray, List.getElem_cons_zero, List.getElem_cons_succ, Act.put, List.setIfInBounds_toArray, List.set_cons_zero, List.set_cons_succ]
                refine wpAnyH_ready (rs := [13]) (by kernel_rfl) (by simp) ?_
                refine AllReadyH.cons rfl (fun K hK => ?_) AllReadyH.nil
                simp only [List.getElem_toArray, List.getElem_cons_zero, List.getElem_cons_succ]
                obtain ⟨z0, z1, z2, z3, z4, z5, z6⟩ := zA.cells
                have zf := zA.free
                go_simp
                obtain ⟨We, hWe, dE, bE, tE⟩ := c_stored zA bW0BAC upA P nk aC es'.length cC (fun _ => -1)
                rw [← hWe]
                clear hWe z0 z1 z2 z3 z4 z5 z6 zf
                have iE := iC.turn tE (fun x hx h0 => by have := uC x hx; omega)
                have zB := zB.turned tE (by omega)
                refine hK.out _ _ bE (fun hHeld => ?_)
                clear hK K
                refine wpAnyH_ready (rs := [14]) (by kernel_rfl) (by simp) ?_
                refine AllReadyH.cons rfl (fun K hK => ?_) AllReadyH.nil
                simp only [List.getElem_toArray, List.getElem_cons_zero, List.getElem_cons_succ]
                obtain ⟨z0, z1, z2, z3, z4, z5⟩ := zB.cells
                have zf := zB.free
                go_simp
                obtain ⟨Wf, hWf, eF, bF, tF⟩ := e_stored zB bE upB 1 P k m 0 0
                rw [← hWf]
                clear hWf z0 z1 z2 z3 z4 z5 zf
                have iF := iE.turn tF (fun x hx h0 => by have := uC x hx; omega)
                have dF := dE.turned tF (by omega)
                refine hK.out _ _ bF (fun hHeld => ?_)
                clear hK K
                refine wpAnyH_take (i := 15) (v := .int .i64 0) rfl (by kernel_rfl) (by kernel_rfl) (by kernel_rfl) (fun _ _ _ h => h) (Or.inl ⟨by rfl, fun _ _ => by go_simp⟩) hHeld ?_
                simp only [List.getElem_toArray, List.getElem_cons_zero, List.getElem_cons_succ, Act.put, List.setIfInBounds_toArray, List.set_cons_zero, List.set_cons_succ]
                refine wpAnyH_done (by kernel_rfl) ?_ _
                go_wp2_with fail
                go_meet
                exact ⟨XA, XB, aC, cC, rfl, rfl, rfl, ⟨dF, eF, iF, bF, upA, upB, by omega, fun x hx => gC x hx⟩⟩
          · simp only [List.getElem_toArray, List.getElem_cons_zero, List.getElem_cons_succ]
            go_simp
            obtain ⟨W0BA, hW0BA, zA, bA⟩ := za_made W0B
            rw [← hW0BA]
            clear hW0BA
            obtain ⟨XA, hX⟩ : ∃ X, X = W0B.heap.size := ⟨_, rfl⟩
            have upA : wr.heap.size ≤ XA := by rw [hX]; exact bW0B.size
            have hlA : XA < W0BA.heap.size := by rw [hX]; exact zA.lt
            have heA : W0B.heap.size ≤ XA := by omega
            have hfA : XA ≤ W0B.heap.size := by omega
            rw [← hX] at zA ⊢
            clear hX
            have bW0BA := Below.next bW0B bA
            have zB := zB.next bA
            refine hK.out _ _ bW0BA (fun hHeld => ?_)
            clear hK K bA
            refine wpAnyH_ready (rs := [5]) (by kernel_rfl) (by simp) ?_
            refine AllReadyH.cons rfl (fun K hK => ?_) AllReadyH.nil
            · simp only [List.getElem_toArray, List.getElem_cons_zero, List.getElem_cons_succ]
              go_simp
              refine (P2 _).mono ?_
              rintro x w9 ⟨rfl, hw9⟩
              subst w9
              refine hK.out _ _ bW0BA (fun hHeld => ?_)
              clear hK K
              refine wpAnyH_ready (rs := [6]) (by kernel_rfl) (by simp) ?_
              refine AllReadyH.cons rfl (fun K hK => ?_) AllReadyH.nil
              · simp only [List.getElem_toArray, List.getElem_cons_zero, List.getElem_cons_succ]
                go_simp
                refine (unveil HSd _ bW0BA).mono ?_
                rintro x W0BAC ⟨aC, cC, rfl, iC, uC, bC⟩
                have bW0BAC := Below.next bW0BA bC
                have iC0 := iC
                have gC : ∀ x, aC = some x → wr.heap.size ≤ x.block := fun x hx => Nat.le_trans bW0BA.size (uC x hx)
                have hsW0BAC : W0BA.heap.size ≤ W0BAC.heap.size := bC.size
                have zA := zA.next bC
                have zB := zB.next bC
                refine hK.out _ _ bW0BAC (fun hHeld => ?_)
                clear hK K bC
                refine wpAnyH_take (i := 7) (v := .tuple #[cVal P nk aC es'.length cC (fun _ => -1), evVal 1 P k m 0 0, .int .i64 0]) rfl (by kernel_rfl) (by kernel_rfl) (by kernel_rfl) (fun _ _ _ h => h) (Or.inl ⟨by rfl, fun _ _ => by go_simp⟩) hHeld ?_
                simp only [List.getElem_toArray, List.getElem_cons_zero, List.getElem_cons_succ, Act.put, List.setIfInBounds_toArray, List.set_cons_zero, List.set_cons_succ]
                refine wpAnyH_take (i := 8) (v := cVal P nk aC es'.length cC (fun _ => -1)) rfl (by kernel_rfl) (by kernel_rfl) (by kernel_rfl) (fun _ _ _ h => h) (Or.inl ⟨by rfl, fun _ _ => by go_simp⟩) hHeld ?_
                simp only [List.getElem_toArray, List.getElem_cons_zero, List.getElem_cons_succ, Act.put, List.setIfInBounds_toArray, List.set_cons_zero, List.set_cons_succ]
                refine wpAnyH_take (i := 9) (v := evVal 1 P k m 0 0) rfl (by kernel_rfl) (by kernel_rfl) (by kernel_rfl) (fun _ _ _ h => h) (Or.inl ⟨by rfl, fun _ _ => by go_simp⟩) hHeld ?_
                simp only [List.getElem_toArray, List.getElem_cons_zero, List.getElem_cons_succ, Act.put, List.setIfInBounds_toArray, List.set_cons_zero, List.set_cons_succ]
                refine wpAnyH_take (i := 10) (v := .int .i64 0) rfl (by kernel_rfl) (by kernel_rfl) (by kernel_rfl) (fun _ _ _ h => h) (Or.inl ⟨by rfl, fun _ _ => by go_simp⟩) hHeld ?_
                simp only [List.getElem_toArray, List.getElem_cons_zero, List.getElem_cons_succ, Act.put, List.setIfInBounds_toArray, List.set_cons_zero, List.set_cons_succ]
                refine wpAnyH_ready (rs := [13]) (by kernel_rfl) (by simp) ?_
                refine AllReadyH.cons rfl (fun K hK => ?_) AllReadyH.nil
                simp only [List.getElem_toArray, List.getElem_cons_zero, List.getElem_cons_succ]
                obtain ⟨z0, z1, z2, z3, z4, z5, z6⟩ := zA.cells
                have zf := zA.free
                go_simp
                obtain ⟨We, hWe, dE, bE, tE⟩ := c_stored zA bW0BAC upA P nk aC es'.length cC (fun _ => -1)
                rw [← hWe]
                clear hWe z0 z1 z2 z3 z4 z5 z6 zf
                have iE := iC.turn tE (fun x hx h0 => by have := uC x hx; omega)
                have zB := zB.turned tE (by omega)
                refine hK.out _ _ bE (fun hHeld => ?_)
                clear hK K
                refine wpAnyH_ready (rs := [14]) (by kernel_rfl) (by simp) ?_
                refine AllReadyH.cons rfl (fun K hK => ?_) AllReadyH.nil
                simp only [List.getElem_toArray, List.getElem_cons_zero, List.getElem_cons_succ]
                obtain ⟨z0, z1, z2, z3, z4, z5⟩ := zB.cells
                have zf := zB.free
                go_simp
                obtain ⟨Wf, hWf, eF, bF, tF⟩ := e_stored zB bE upB 1 P k m 0 0
                rw [← hWf]
                clear hWf z0 z1 z2 z3 z4 z5 zf
                have iF := iE.turn tF (fun x hx h0 => by have := uC x hx; omega)
                have dF := dE.turned tF (by omega)
                refine hK.out _ _ bF (fun hHeld => ?_)
                clear hK K
                refine wpAnyH_take (i := 15) (v := .int .i64 0) rfl (by kernel_rfl) (by kernel_rfl) (by kernel_rfl) (fun _ _ _ h => h) (Or.inl ⟨by rfl, fun _ _ => by go_simp⟩) hHeld ?_
                simp only [List.getElem_toArray, List.getElem_cons_zero, List.getElem_cons_succ, Act.put, List.setIfInBounds_toArray, List.set_cons_zero, List.set_cons_succ]
                refine wpAnyH_done (by kernel_rfl) ?_ _
                go_wp2_with fail
                go_meet
                exact ⟨XA, XB, aC, cC, rfl, rfl, rfl, ⟨dF, eF, iF, bF, upA, upB, by omega, fun x hx => gC x hx⟩⟩
      case rest =>
        obtain ⟨A, B, aC, cC, rfl, rfl, rfl, S⟩ := hcut
        obtain ⟨W4, hW4⟩ : ∃ W4, W4 = wc := ⟨_, rfl⟩
        subst hW4
        have HS := veil S
        have y4 := unveil HY W4 S.bel
        clear S HSd HX hy hbl HY
        obtain ⟨v0, v1, v2, v3, v4, v5⟩ := (unveil HS).eb.cells
        have hmm : (m != m) = false := by simp
        go_wp2_with fail
        go_quiet (first | (go_at_call 27; refine Calls.quiet_of_same (P2 _)))
        obtain ⟨W5, hW5⟩ : ∃ W5, W5 = W4.drewN nq := ⟨_, rfl⟩
        have bq := belowN W4 nq
        rw [← hW5] at bq ⊢
        clear hW5
        have HS5 := veil ((unveil HS).next bq)
        have HI5 := veil ((unveil HI).next (unveil HS5).bel)
        have hlt5 : X < wr.heap.size := (unveil HI).cb.lt
        clear v0 v1 v2 v3 v4 v5 y4 bq HS HI P2
        obtain ⟨c0, c1, c2, c3, c4, c5, c6⟩ := (unveil HS5).cb.cells
        obtain ⟨x0, x1, x2, x3, x4, x5, x6⟩ := (unveil HI5).cb.cells
        have xf := (unveil HI5).cb.free
        have hAw := (unveil HS5).upA
        have hXA : X ≠ A := by omega
        have hAX : A ≠ X := by omega
        go_upto_region 10 with fail
        obtain ⟨W8, hW8, cb8, B8, tn8⟩ := c_stored (unveil HI5).cb (unveil HI5).bel (unveil HI5).up P nk aC es'.length cC (fun _ => -1)
        rw [← hW8]
        have HI8 : Hid (Wt w W8 X P (k + 1) es' aC cC) := veil (by
          have i8 := (unveil HS5).i.turn tn8 (fun x hx _ => by have := (unveil HS5).fr x hx; omega)
          have ok8 := (unveil HW1).1
          rw [unveil HNK] at cb8 i8 ok8
          exact ⟨cb8, i8, ok8, (unveil HW1).2.1, (unveil HW1).2.2, B8, (unveil HI5).up⟩)
        clear hW8 c0 c1 c2 c3 c4 c5 c6 x0 x1 x2 x3 x4 x5 x6 xf cb8 B8 tn8
        go_wp2
        go_roundw
        case rel => exact ⟨k + 1, es', aC, cC, by omega, by omega, by go_num, by go_num, HI8⟩
        case measure => simp [intOf]; omega
    case neg =>
      have key : ((¬ (k : Int) < (len : Int)) ∧ ¬ k = 8) ∨ ((¬ (k : Int) < (len : Int)) ∧ k = 8) ∨ ((k : Int) < (len : Int) ∧ k = 8) := by omega
      obtain ⟨c0, c1, c2, c3, c4, c5, c6⟩ := (unveil HI).cb.cells
      have hlk : ((es.length : Int) != (k : Int)) = false := by have := (unveil HI).len; simp; omega
      clear hlt
      rcases key with ⟨hk1, h8⟩ | ⟨hk1, rfl⟩ | ⟨hk1, rfl⟩
      case inl =>
        go_upto_region 13 with fail
        clear c0 c1 c2 c3 c4 c5 c6 hlk
        by_cases h0 : k = 0
        · subst h0
          clear h8
          have HD0 : Calls Try.prog 21 #[cVal P 0 a es.length c (fun _ => -1), .int .i64 0] wr fun e w' => ∃ a' c', e = .returned (.tuple #[cVal 0 0 a' 0 c' (fun _ => 0), .int .i64 7]) ∧ Below wr.heap.size wr w' := done_none ⟨P, (0 : Nat), es, fun _ => -1⟩ a c wr (unveil HI).i (unveil HI).ok 0 (fun v hv => by
            obtain ⟨j, hj, rfl⟩ := List.mem_iff_getElem.1 hv
            have := (unveil HI).len
            have hj' : j < es.length := hj
            omega)
          obtain ⟨c0, c1, c2, c3, c4, c5, c6⟩ := (unveil HI).cb.cells
          go_wp2_with (go_at_call 21; refine HD0.mono ?_; rintro e W6 ⟨a6, k6, rfl, d6⟩; clear HD0 c0 c1 c2 c3 c4 c5 c6)
          go_ret
          exact ⟨by simp, Below.next (Below.next (unveil HI).bel d6) (below1 _ _)⟩
        · have h80 : ((k : Int) == 8) = false := by simp; omega
          have h00 : ((k : Int) == 0) = false := by simp; omega
          have hk0 : 0 < k := by omega
          have hk88 : k ≤ 8 := hk8
          clear hk1 hk8 h0 h8 hk
          have HPk : ∀ w, Calls Try.prog 27 #[.int .i64 wh, .int .i64 k] w fun e w' => e = .returned (.int .i64 (pickedOf wh k)) ∧ w' = w := fun w => (picked_any wh k w wwh (by omega) (by omega)).mono fun _ _ h => ⟨h.1, h.2.symm⟩
          have hid := pickedOf_range wh k (by omega)
          generalize pickedOf wh k = id at HPk hid
          obtain ⟨idn, rfl⟩ : ∃ idn : Nat, id = idn := ⟨id.toNat, by omega⟩
          have hidn : idn < es.length := by have := (unveil HI).len; omega
          have HD1 : Calls Try.prog 21 #[cVal P k a es.length c (fun _ => -1), .int .i64 idn] wr fun e w' => ∃ a' c', e = .returned (.tuple #[cVal P k a' (es.length - 1) c' (fun _ => -1), .int .i64 0]) ∧ CIn w' ⟨P, k, es.eraseIdx idn, fun _ => -1⟩ a' c' ∧ (∀ x, a' = some x → wr.heap.size ≤ x.block) ∧ Below wr.heap.size wr w' := done_yes ⟨P, k, es, fun _ => -1⟩ a c wr (unveil HI).i (unveil HI).ok idn idn hidn ((unveil HI).ids idn hidn)
          have HD2 : Hid (∀ W a' c', CIn W ⟨P, k, es.eraseIdx idn, fun _ => -1⟩ a' c' → Calls Try.prog 21 #[cVal P k a' (es.length - 1) c' (fun _ => -1), .int .i64 idn] W fun e w' => ∃ a'' c'', e = .returned (.tuple #[cVal 0 0 a'' 0 c'' (fun _ => 0), .int .i64 7]) ∧ Below W.heap.size W w') := veil fun W a' c' hi => by
            have h := done_none ⟨P, k, es.eraseIdx idn, fun _ => -1⟩ a' c' W hi (Cl.Ok.done (unveil HI).ok) idn (fun v hv => by
              obtain ⟨j, hj, rfl⟩ := List.mem_iff_getElem.1 hv
              have hlen := List.length_eraseIdx_of_lt hidn
              intro he
              rw [List.getElem_eraseIdx] at he
              split at he
              · rw [(unveil HI).ids j (by omega)] at he; omega
              · rw [(unveil HI).ids (j + 1) (by have : j < (es.eraseIdx idn).length := hj; omega)] at he; omega)
            rw [show (⟨P, k, es.eraseIdx idn, fun _ => -1⟩ : Cl).es.length = es.length - 1 from List.length_eraseIdx_of_lt hidn] at h
            exact h
          obtain ⟨ml, hml⟩ : ∃ ml, ml = es.length - 1 := ⟨_, rfl⟩
          have HML := veil hml
          rw [← hml] at HD1 HD2
          clear hml
          obtain ⟨c0, c1, c2, c3, c4, c5, c6⟩ := (unveil HI).cb.cells
          go_upto_region 22 with (first
            | (go_at_call 27; refine (HPk _).mono ?_; rintro e w2 ⟨rfl, hw2⟩; subst w2; clear HPk)
            | (go_at_call 21; refine HD1.mono ?_; rintro e W6 ⟨a6, k6, rfl, i6, u6, d6⟩; clear HD1 c0 c1 c2 c3 c4 c5 c6; have HI6 := veil (And.intro i6 d6); clear i6 u6 d6))
          obtain ⟨W7, hW7, B7, gb7, i7⟩ : ∃ W7, W7 = W6.alloc (.cells (cCells P k a6 ml k6 (fun _ => -1)) 25) ∧ Below w.heap.size w W7 ∧ cBlock W7 W6.heap.size P k a6 ml k6 (fun _ => -1) ∧ CIn W7 ⟨P, k, es.eraseIdx idn, fun _ => -1⟩ a6 k6 := ⟨_, rfl, Below.next (Below.next (unveil HI).bel (unveil HI6).2) (below1 _ _), cBlock.new _ _ _ _ _ _ _, (unveil HI6).1.next (below1 _ _)⟩
          rw [← hW7]
          clear hW7
          generalize W6.heap.size = G at *
          have HD3 := unveil HD2 W7 a6 k6 i7
          obtain ⟨c0, c1, c2, c3, c4, c5, c6⟩ := gb7.cells
          have H7 := veil (And.intro gb7 B7)
          clear gb7 B7 i7 HI6 HD2
          go_upto_region 23 with (go_at_call 21; refine HD3.mono ?_; rintro e W8 ⟨a8, k8, rfl, d8⟩; clear HD3 c0 c1 c2 c3 c4 c5 c6)
          obtain ⟨W9, hW9, B9, gb9⟩ : ∃ W9, W9 = W8.alloc (.cells (cCells 0 0 a8 0 k8 (fun _ => 0)) 25) ∧ Below w.heap.size w W9 ∧ cBlock W9 G P k a6 ml k6 (fun _ => -1) := ⟨_, rfl, Below.next (Below.next (unveil H7).2 d8) (below1 _ _), ((unveil H7).1.next d8).next (below1 _ _)⟩
          rw [← hW9]
          clear hW9 d8
          obtain ⟨c0, c1, c2, c3, c4, c5, c6⟩ := gb9.cells
          have HB9 := veil B9
          clear gb9 B9 H7
          have hmk : ((ml : Int) == (k : Int) - 1) = true := by have := unveil HML; have := (unveil HI).len; simp; omega
          go_wp2
          go_ret
          exact ⟨by simp, unveil HB9⟩
      all_goals
        go_upto_region 13 with fail
        clear c0 c1 c2 c3 c4 c5 c6 hlk
        have HF : Calls Try.prog 19 #[cVal P 8 a es.length c (fun _ => -1), .int .i64 1] wr fun e w' => ∃ a' c', e = .returned (.tuple #[cVal 0 0 a' 0 c' (fun _ => 0), evVal 0 0 0 0 0 0, .int .i64 14]) ∧ Below wr.heap.size wr w' := send_full ⟨P, (8 : Nat), es, fun _ => -1⟩ a c wr (unveil HI).i (unveil HI).ok 1 (by omega) (unveil HI).isFull
        obtain ⟨c0, c1, c2, c3, c4, c5, c6⟩ := (unveil HI).cb.cells
        go_upto_region 15 with (go_at_call 19; refine HF.mono ?_; rintro e W3 ⟨a3, k3, rfl, d3⟩; clear HF c0 c1 c2 c3 c4 c5 c6)
        obtain ⟨W4, hW4, b4⟩ : ∃ W4, W4 = (W3.alloc (.cells (cCells 0 0 a3 0 k3 (fun _ => 0)) 25)).alloc (.cells #[.int .i64 0, .int .i64 0, .int .i64 0, .int .i64 0, .int .i64 0, .int .i64 0] 37) ∧ Below W3.heap.size W3 W4 := ⟨_, rfl, below2 _ _ _⟩
        rw [← hW4]
        have HI4 := veil (((unveil HI).next d3).next b4)
        clear hW4 b4 d3 HI
        have HI := HI4
        clear HI4
        clear hk1 hk8 hk
        have HPk : ∀ w, Calls Try.prog 27 #[.int .i64 wh, .int .i64 8] w fun e w' => e = .returned (.int .i64 (pickedOf wh 8)) ∧ w' = w := fun w => (picked_any wh 8 w wwh (by omega) (by omega)).mono fun _ _ h => ⟨h.1, h.2.symm⟩
        have hid := pickedOf_range wh 8 (by omega)
        generalize pickedOf wh 8 = id at HPk hid
        obtain ⟨idn, rfl⟩ : ∃ idn : Nat, id = idn := ⟨id.toNat, by omega⟩
        have hidn : idn < es.length := by have := (unveil HI).len; omega
        have HD1 : Calls Try.prog 21 #[cVal P 8 a es.length c (fun _ => -1), .int .i64 idn] W4 fun e w' => ∃ a' c', e = .returned (.tuple #[cVal P 8 a' (es.length - 1) c' (fun _ => -1), .int .i64 0]) ∧ CIn w' ⟨P, 8, es.eraseIdx idn, fun _ => -1⟩ a' c' ∧ (∀ x, a' = some x → W4.heap.size ≤ x.block) ∧ Below W4.heap.size W4 w' := done_yes ⟨P, 8, es, fun _ => -1⟩ a c W4 (unveil HI).i (unveil HI).ok idn idn hidn ((unveil HI).ids idn hidn)
        have HD2 : Hid (∀ W a' c', CIn W ⟨P, 8, es.eraseIdx idn, fun _ => -1⟩ a' c' → Calls Try.prog 21 #[cVal P 8 a' (es.length - 1) c' (fun _ => -1), .int .i64 idn] W fun e w' => ∃ a'' c'', e = .returned (.tuple #[cVal 0 0 a'' 0 c'' (fun _ => 0), .int .i64 7]) ∧ Below W.heap.size W w') := veil fun W a' c' hi => by
          have h := done_none ⟨P, 8, es.eraseIdx idn, fun _ => -1⟩ a' c' W hi (Cl.Ok.done (unveil HI).ok) idn (fun v hv => by
            obtain ⟨j, hj, rfl⟩ := List.mem_iff_getElem.1 hv
            have hlen := List.length_eraseIdx_of_lt hidn
            intro he
            rw [List.getElem_eraseIdx] at he
            split at he
            · rw [(unveil HI).ids j (by omega)] at he; omega
            · rw [(unveil HI).ids (j + 1) (by have : j < (es.eraseIdx idn).length := hj; omega)] at he; omega)
          rw [show (⟨P, 8, es.eraseIdx idn, fun _ => -1⟩ : Cl).es.length = es.length - 1 from List.length_eraseIdx_of_lt hidn] at h
          exact h
        obtain ⟨ml, hml⟩ : ∃ ml, ml = es.length - 1 := ⟨_, rfl⟩
        have HML := veil hml
        rw [← hml] at HD1 HD2
        clear hml
        obtain ⟨c0, c1, c2, c3, c4, c5, c6⟩ := (unveil HI).cb.cells
        go_upto_region 22 with (first
          | (go_at_call 27; refine (HPk _).mono ?_; rintro e w2 ⟨rfl, hw2⟩; subst w2; clear HPk)
          | (go_at_call 21; refine HD1.mono ?_; rintro e W6 ⟨a6, k6, rfl, i6, u6, d6⟩; clear HD1 c0 c1 c2 c3 c4 c5 c6; have HI6 := veil (And.intro i6 d6); clear i6 u6 d6))
        obtain ⟨W7, hW7, B7, gb7, i7⟩ : ∃ W7, W7 = W6.alloc (.cells (cCells P 8 a6 ml k6 (fun _ => -1)) 25) ∧ Below w.heap.size w W7 ∧ cBlock W7 W6.heap.size P 8 a6 ml k6 (fun _ => -1) ∧ CIn W7 ⟨P, 8, es.eraseIdx idn, fun _ => -1⟩ a6 k6 := ⟨_, rfl, Below.next (Below.next (unveil HI).bel (unveil HI6).2) (below1 _ _), cBlock.new _ _ _ _ _ _ _, (unveil HI6).1.next (below1 _ _)⟩
        rw [← hW7]
        clear hW7
        generalize W6.heap.size = G at *
        have HD3 := unveil HD2 W7 a6 k6 i7
        obtain ⟨c0, c1, c2, c3, c4, c5, c6⟩ := gb7.cells
        have H7 := veil (And.intro gb7 B7)
        clear gb7 B7 i7 HI6 HD2
        go_upto_region 23 with (go_at_call 21; refine HD3.mono ?_; rintro e W8 ⟨a8, k8, rfl, d8⟩; clear HD3 c0 c1 c2 c3 c4 c5 c6)
        obtain ⟨W9, hW9, B9, gb9⟩ : ∃ W9, W9 = W8.alloc (.cells (cCells 0 0 a8 0 k8 (fun _ => 0)) 25) ∧ Below w.heap.size w W9 ∧ cBlock W9 G P 8 a6 ml k6 (fun _ => -1) := ⟨_, rfl, Below.next (Below.next (unveil H7).2 d8) (below1 _ _), ((unveil H7).1.next d8).next (below1 _ _)⟩
        rw [← hW9]
        clear hW9 d8
        obtain ⟨c0, c1, c2, c3, c4, c5, c6⟩ := gb9.cells
        have HB9 := veil B9
        clear gb9 B9 H7
        have hmk : ((ml : Int) == 7) = true := by have := unveil HML; have := (unveil HI).len; simp; omega
        go_wp2
        go_ret
        exact ⟨by simp, unveil HB9⟩
end Go.Proofs.Ytjolamdlclcpcaa
