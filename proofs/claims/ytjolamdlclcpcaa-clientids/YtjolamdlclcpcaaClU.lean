/- The walk of berthshiftkeep's ClientIds. -/
import Derived.Test.YtjolamdlclcpcaaClR
import Derived.Test.YtjolamdlclcpcaaPkC
import Derived.Deep.RegionHeld3
namespace Go.Proofs.Ytjolamdlclcpcaa
open Go.RowKit

/-- a client that has nothing waiting, in its box. -/
structure Idl (w W : World) (X : Nat) (P : Int) (k : Nat) (a : Option Addr) (c : Nat) : Prop where
  cb : cBlock W X P k a 0 c (fun _ => -1)
  nil : a = none → c = 0
  bel : Below w.heap.size w W
  up : w.heap.size ≤ X
theorem Idl.next {w W W' : World} {X : Nat} {P : Int} {k : Nat} {a : Option Addr} {c : Nat} (h : Idl w W X P k a c) (b : Below W.heap.size W W') : Idl w W' X P k a c := ⟨h.cb.next b, h.nil, Below.next h.bel b, h.up⟩
theorem Idl.cin {w W : World} {X : Nat} {P : Int} {k : Nat} {a : Option Addr} {c : Nat} (h : Idl w W X P k a c) (W' : World) : CIn W' ⟨P, k, [], fun _ => -1⟩ a c := ⟨RowK.nil _ _ _, Nat.zero_le _, h.nil, by simp⟩
theorem idl_ok {P : Int} (hP : 0 ≤ P ∧ P ≤ 3) (k : Nat) (hk : k ≤ 60) : Cl.Ok ⟨P, k, [], fun _ => -1⟩ := ⟨hP.1, hP.2, by show (0 : Int) ≤ (k : Int); omega, by show (k : Int) ≤ 1073741824; omega, trivial, fun _ _ => by show (-1 : Int) ≤ -1 ∧ (-1 : Int) ≤ 4; omega⟩
theorem idl_full {P : Int} (k : Nat) (hk : k ≤ 60) : ¬ Cl.full ⟨P, k, [], fun _ => -1⟩ := by
  rintro (h | ⟨v, hv, _⟩)
  · have : (k : Int) = 1073741824 := h
    omega
  · cases hv
set_option maxRecDepth 20000 in
set_option maxHeartbeats 8000000 in
theorem walk_ClientIds (w : World) (pr : Int) (wpr : (Lit.int .i64 pr).wf = true) (a0 : Option Addr) (len cap : Nat) (l : List Int) (hrow : RowK .i64 w a0 len l) (hlc : len ≤ cap) (_ : a0 = none → cap = 0) (hz : cap * 8 ≤ 140737488351232) :
    Calls Try.prog 12 #[.int .i64 pr, .slice a0 len cap] w fun e w' => e = .returned (.bool true) ∧ Below w.heap.size w w' := by
  have P1 : ∀ w, Calls Try.prog 27 #[.int .i64 pr, .int .i64 4] w fun e w' => e = .returned (.int .i64 (pickedOf pr 4)) ∧ w' = w := fun w => (picked_any pr 4 w wpr (by decide) (by decide)).mono fun _ _ h => ⟨h.1, h.2.symm⟩
  have hP := pickedOf_range pr 4 (by decide)
  generalize pickedOf pr 4 = P at P1 hP
  have hP3 : 0 ≤ P ∧ P ≤ 3 := by omega
  have H1 := new_yes P hP3 w
  have HR : Hid (∀ W, Below w.heap.size w W → RowK .i64 W a0 len l) := veil fun W b => hrow.below b
  have HWF : Hid (∀ j, (Lit.int .i64 (l.getD j 0)).wf = true) := veil fun j => by
    rcases Nat.lt_or_ge j l.length with h | h
    · exact hrow.wf _ (getD_mem l j h)
    · rw [List.getD_eq_getElem?_getD, List.getElem?_eq_none h]; rfl
  have hl : len ≤ 9223372036854775806 := by omega
  clear hrow hz hlc hP
  go_enter Try.func12, Try.ntmps12
  go_upto_region 2 with (first
    | (go_at_call 27; refine (P1 _).mono ?_; rintro e w2 ⟨rfl, hw2⟩; subst w2)
    | (go_at_call 16; refine H1.mono ?_; rintro e W1 ⟨rfl, d1⟩; clear H1))
  obtain ⟨W2, hW2, I2⟩ : ∃ W2, W2 = W1.alloc (.cells (cCells P 0 none 0 0 (fun _ => -1)) 25) ∧ Idl w W2 W1.heap.size P 0 none 0 := ⟨_, rfl, cBlock.new _ _ _ _ _ _ _, fun _ => rfl, Below.next d1 (below1 _ _), d1.size⟩
  rw [← hW2]
  clear hW2 d1
  generalize W1.heap.size = X at *
  have HI2 := veil I2
  clear I2
  go_upto_region 3 with fail
  go_loopw [7] (fun i wr => ∃ (k : Nat) (a : Option Addr) (c : Nat), k ≤ len ∧ k ≤ 60 ∧ i = .int .i64 k ∧ Hid (Idl w wr X P k a c)) (fun i _ => 60 - (intOf i).toNat)
  case atStart => exact ⟨0, _, _, Nat.zero_le _, Nat.zero_le _, rfl, HI2⟩
  case round =>
    obtain ⟨k, a, c, hk, hk60, rfl, HI⟩ := hrel
    clear HI2
    by_cases hlt : k < len ∧ k < 60
    case pos =>
      obtain ⟨hlt, hlt60⟩ := hlt
      have hr := unveil HR wr (unveil HI).bel
      obtain ⟨bb, off, rfl⟩ := hr.form (by omega)
      have hy := hr.at k hlt
      have hbl := hr.lt (by omega)
      have P2 : ∀ w, Calls Try.prog 27 #[.int .i64 (l.getD k 0), .int .i64 1000] w fun e w' => e = .returned (.int .i64 (pickedOf (l.getD k 0) 1000)) ∧ w' = w := fun w => (picked_any (l.getD k 0) 1000 w (unveil HWF _) (by decide) (by decide)).mono fun _ _ h => ⟨h.1, h.2.symm⟩
      have hm := pickedOf_range (l.getD k 0) 1000 (by decide)
      generalize l.getD k 0 = y at hy P2 hm
      generalize pickedOf y 1000 = m at P2 hm
      clear hr
      have HSd : Hid (∀ W, Below wr.heap.size wr W → Calls Try.prog 19 #[cVal P k a 0 c (fun _ => -1), .int .i64 m] W fun e w' => ∃ a' c', e = .returned (.tuple #[cVal P ((k : Int) + 1) a' 1 c' (fun _ => -1), evVal 1 P k m 0 0, .int .i64 0]) ∧ CIn w' ⟨P, (k : Int) + 1, [⟨1, P, k, m, 0, 0⟩], fun _ => -1⟩ a' c' ∧ (∀ x, a' = some x → W.heap.size ≤ x.block) ∧ Below W.heap.size W w') := veil fun W b => send_yes ⟨P, k, [], fun _ => -1⟩ a c W ((unveil HI).cin W) (idl_ok hP3 k hk60) m (by omega) (idl_full k hk60)
      have HX : Hid (cBlock wr X P k a 0 c (fun _ => -1)) := veil (unveil HI).cb
      have hm' := veil hm
      clear hm
      obtain ⟨nk, hnk⟩ : ∃ nk : Int, nk = (k : Int) + 1 := ⟨_, rfl⟩
      have HNK := veil hnk
      rw [← hnk] at HSd
      clear hnk
      go_wp2_with fail
      go_cut [8, 9, 10] (fun pX pY eX wx => ∃ (A B : Nat) (aC : Option Addr) (cC : Nat), pX = .pointer (some ⟨A, 0, none⟩) ∧ pY = .pointer (some ⟨B, 0, none⟩) ∧ eX = .int .i64 0 ∧ Sd wr wx A B ⟨P, nk, [⟨1, P, k, m, 0, 0⟩], fun _ => -1⟩ ⟨1, P, k, m, 0, 0⟩ aC cC)
      case first =>
        refine wp_region_held_drew (S := Below wr.heap.size wr) (by kernel_rfl) (drew_below wr) (fun hHeld => ?_)
        refine wpAnyH_take (i := 0) (v := cVal P k a 0 c (fun _ => -1)) rfl (by kernel_rfl) (by kernel_rfl) (by kernel_rfl) (fun _ _ _ h => h) (Or.inl ⟨by rfl, fun w b => by obtain ⟨q0, q1, q2, q3, q4, q5, q6⟩ := ((unveil HX).next b).cells; go_simp⟩) hHeld ?_
        simp only [List.getElem_toArray, List.getElem_cons_zero, Act.put, List.setIfInBounds_toArray, List.set_cons_zero, List.set_cons_succ]
        refine wpAnyH_take (i := 1) (v := .slice (some ⟨bb, off, none⟩) len cap) rfl (by kernel_rfl) (by kernel_rfl) (by kernel_rfl) (fun _ _ _ h => h) (Or.inl ⟨by rfl, fun _ _ => by go_simp⟩) hHeld ?_
        simp only [List.getElem_toArray, List.getElem_cons_zero, List.getElem_cons_succ, Act.put, List.setIfInBounds_toArray, List.set_cons_zero, List.set_cons_succ]
        refine wpAnyH_take (i := 2) (v := .int .i64 k) rfl (by kernel_rfl) (by kernel_rfl) (by kernel_rfl) (fun _ _ _ h => h) (Or.inl ⟨by rfl, fun _ _ => by go_simp⟩) hHeld ?_
        simp only [List.getElem_toArray, List.getElem_cons_zero, List.getElem_cons_succ, Act.put, List.setIfInBounds_toArray, List.set_cons_zero, List.set_cons_succ]
        refine wpAnyH_take (i := 3) (v := .pointer (some ⟨bb, off + k, none⟩)) rfl (by kernel_rfl) (by kernel_rfl) (by kernel_rfl) (fun _ _ _ h => h) (Or.inl ⟨by rfl, fun _ _ => by go_simp⟩) hHeld ?_
        simp only [List.getElem_toArray, List.getElem_cons_zero, List.getElem_cons_succ, Act.put, List.setIfInBounds_toArray, List.set_cons_zero, List.set_cons_succ]
        refine wpAnyH_take (i := 4) (v := .int .i64 y) rfl (by kernel_rfl) (by kernel_rfl) (by kernel_rfl) (fun _ _ _ h => h) (Or.inl ⟨by rfl, fun w b => by have qc := (b.cell (p := ⟨bb, off + k, none⟩) hbl).trans hy; go_simp⟩) hHeld ?_
        simp only [List.getElem_toArray, List.getElem_cons_zero, List.getElem_cons_succ, Act.put, List.setIfInBounds_toArray, List.set_cons_zero, List.set_cons_succ]
        have bW0 := drew_below wr
        obtain ⟨W0, hW0⟩ : ∃ W0, W0 = wr.drew := ⟨_, rfl⟩
        rw [← hW0] at bW0 hHeld ⊢
        clear hW0
        refine wpAnyH_ready (rs := [5, 11, 12]) (by kernel_rfl) (by simp) ?_
        refine AllReadyH.cons rfl (fun K hK => ?_) (AllReadyH.cons rfl (fun K hK => ?_) (AllReadyH.cons rfl (fun K hK => ?_) AllReadyH.nil))
        · simp only [List.getElem_toArray, List.getElem_cons_zero, List.getElem_cons_succ]
          go_simp
          refine (P2 _).mono ?_
          rintro x w9 ⟨rfl, hw9⟩
          subst w9
          refine hK.out _ _ bW0 (fun hHeld => ?_)
          clear hK K
          refine wpAnyH_ready (rs := [6, 11, 12]) (by kernel_rfl) (by simp) ?_
          refine AllReadyH.cons rfl (fun K hK => ?_) (AllReadyH.cons rfl (fun K hK => ?_) (AllReadyH.cons rfl (fun K hK => ?_) AllReadyH.nil))
          · simp only [List.getElem_toArray, List.getElem_cons_zero, List.getElem_cons_succ]
            go_simp
            refine (unveil HSd _ bW0).mono ?_
            rintro x W0C ⟨aC, cC, rfl, iC, uC, bC⟩
            have bW0C := Below.next bW0 bC
            have iC0 := iC
            have gC : ∀ x, aC = some x → wr.heap.size ≤ x.block := fun x hx => Nat.le_trans bW0.size (uC x hx)
            have hsW0C : W0.heap.size ≤ W0C.heap.size := bC.size
            refine hK.out _ _ bW0C (fun hHeld => ?_)
            clear hK K bC
            refine wpAnyH_take (i := 7) (v := .tuple #[cVal P nk aC 1 cC (fun _ => -1), evVal 1 P k m 0 0, .int .i64 0]) rfl (by kernel_rfl) (by kernel_rfl) (by kernel_rfl) (fun _ _ _ h => h) (Or.inl ⟨by rfl, fun _ _ => by go_simp⟩) hHeld ?_
            simp only [List.getElem_toArray, List.getElem_cons_zero, List.getElem_cons_succ, Act.put, List.setIfInBounds_toArray, List.set_cons_zero, List.set_cons_succ]
            refine wpAnyH_take (i := 8) (v := cVal P nk aC 1 cC (fun _ => -1)) rfl (by kernel_rfl) (by kernel_rfl) (by kernel_rfl) (fun _ _ _ h => h) (Or.inl ⟨by rfl, fun _ _ => by go_simp⟩) hHeld ?_
            simp only [List.getElem_toArray, List.getElem_cons_zero, List.getElem_cons_succ, Act.put, List.setIfInBounds_toArray, List.set_cons_zero, List.set_cons_succ]
            refine wpAnyH_take (i := 9) (v := evVal 1 P k m 0 0) rfl (by kernel_rfl) (by kernel_rfl) (by kernel_rfl) (fun _ _ _ h => h) (Or.inl ⟨by rfl, fun _ _ => by go_simp⟩) hHeld ?_
            simp only [List.getElem_toArray, List.getElem_cons_zero, List.getElem_cons_succ, Act.put, List.setIfInBounds_toArray, List.set_cons_zero, List.set_cons_succ]
            refine wpAnyH_take (i := 10) (v := .int .i64 0) rfl (by kernel_rfl) (by kernel_rfl) (by kernel_rfl) (fun _ _ _ h => h) (Or.inl ⟨by rfl, fun _ _ => by go_simp⟩) hHeld ?_
            simp only [List.getElem_toArray, List.getElem_cons_zero, List.getElem_cons_succ, Act.put, List.setIfInBounds_toArray, List.set_cons_zero, List.set_cons_succ]
            refine wpAnyH_ready (rs := [11, 12]) (by kernel_rfl) (by simp) ?_
            refine AllReadyH.cons rfl (fun K hK => ?_) (AllReadyH.cons rfl (fun K hK => ?_) AllReadyH.nil)
            · simp only [List.getElem_toArray, List.getElem_cons_zero, List.getElem_cons_succ]
              go_simp
              obtain ⟨W0CA, hW0CA, zA, bA⟩ := za_made W0C
              rw [← hW0CA]
              clear hW0CA
              obtain ⟨XA, hX⟩ : ∃ X, X = W0C.heap.size := ⟨_, rfl⟩
              have upA : wr.heap.size ≤ XA := by rw [hX]; exact bW0C.size
              have hlA : XA < W0CA.heap.size := by rw [hX]; exact zA.lt
              have heA : W0C.heap.size ≤ XA := by omega
              have hfA : XA ≤ W0C.heap.size := by omega
              rw [← hX] at zA ⊢
              clear hX
              have bW0CA := Below.next bW0C bA
              have iC := iC.next bA
              refine hK.out _ _ bW0CA (fun hHeld => ?_)
              clear hK K bA
              refine wpAnyH_ready (rs := [12]) (by kernel_rfl) (by simp) ?_
              refine AllReadyH.cons rfl (fun K hK => ?_) AllReadyH.nil
              · simp only [List.getElem_toArray, List.getElem_cons_zero, List.getElem_cons_succ]
                go_simp
                obtain ⟨W0CAB, hW0CAB, zB, bA⟩ := ze_made W0CA
                rw [← hW0CAB]
                clear hW0CAB
                obtain ⟨XB, hX⟩ : ∃ X, X = W0CA.heap.size := ⟨_, rfl⟩
                have upB : wr.heap.size ≤ XB := by rw [hX]; exact bW0CA.size
                have hlB : XB < W0CAB.heap.size := by rw [hX]; exact zB.lt
                have heB : W0CA.heap.size ≤ XB := by omega
                have hfB : XB ≤ W0CA.heap.size := by omega
                rw [← hX] at zB ⊢
                clear hX
                have bW0CAB := Below.next bW0CA bA
                have iC := iC.next bA
                have zA := zA.next bA
                refine hK.out _ _ bW0CAB (fun hHeld => ?_)
                clear hK K bA
                refine wpAnyH_ready (rs := [13]) (by kernel_rfl) (by simp) ?_
                refine AllReadyH.cons rfl (fun K hK => ?_) AllReadyH.nil
                simp only [List.getElem_toArray, List.getElem_cons_zero, List.getElem_cons_succ]
                obtain ⟨z0, z1, z2, z3, z4, z5, z6⟩ := zA.cells
                have zf := zA.free
                go_simp
                obtain ⟨We, hWe, dE, bE, tE⟩ := c_stored zA bW0CAB upA P nk aC 1 cC (fun _ => -1)
                rw [← hWe]
                clear hWe z0 z1 z2 z3 z4 z5 z6 zf
                have iE := iC.turn tE (fun x hx h0 => by have := iC0.lt x hx h0; omega)
                have zB := zB.turned tE (by omega)
                refine hK.out _ _ bE (fun hHeld => ?_)
                clear hK K
                refine wpAnyH_ready (rs := [14]) (by kernel_rfl) (by simp) ?_
                refine AllReadyH.cons rfl (fun K hK => ?_) AllReadyH.nil
                simp only [List.getElem_toArray, List.getElem_cons_zero, List.getElem_cons_succ]
                obtain ⟨z0, z1, z2, z3, z4, z5⟩ := zB.cells
                have zf := zB.free
                go_simp
                obtain ⟨Wf, hWf, eF, bF, tF⟩ := e_stored zB bE upB 1 P k m 0 0
                rw [← hWf]
                clear hWf z0 z1 z2 z3 z4 z5 zf
                have iF := iE.turn tF (fun x hx h0 => by have := iC0.lt x hx h0; omega)
                have dF := dE.turned tF (by omega)
                refine hK.out _ _ bF (fun hHeld => ?_)
                clear hK K
                refine wpAnyH_take (i := 15) (v := .int .i64 0) rfl (by kernel_rfl) (by kernel_rfl) (by kernel_rfl) (fun _ _ _ h => h) (Or.inl ⟨by rfl, fun _ _ => by go_simp⟩) hHeld ?_
                simp only [List.getElem_toArray, List.getElem_cons_zero, List.getElem_cons_succ, Act.put, List.setIfInBounds_toArray, List.set_cons_zero, List.set_cons_succ]
                refine wpAnyH_done (by kernel_rfl) ?_ _
                go_wp2_with fail
                go_meet
                exact ⟨XA, XB, aC, cC, rfl, rfl, rfl, ⟨dF, eF, iF, bF, upA, upB, by omega, fun x hx => gC x hx⟩⟩
            · simp only [List.getElem_toArray, List.getElem_cons_zero, List.getElem_cons_succ]
              go_simp
              obtain ⟨W0CB, hW0CB, zB, bA⟩ := ze_made W0C
              rw [← hW0CB]
              clear hW0CB
              obtain ⟨XB, hX⟩ : ∃ X, X = W0C.heap.size := ⟨_, rfl⟩
              have upB : wr.heap.size ≤ XB := by rw [hX]; exact bW0C.size
              have hlB : XB < W0CB.heap.size := by rw [hX]; exact zB.lt
              have heB : W0C.heap.size ≤ XB := by omega
              have hfB : XB ≤ W0C.heap.size := by omega
              rw [← hX] at zB ⊢
              clear hX
              have bW0CB := Below.next bW0C bA
              have iC := iC.next bA
              refine hK.out _ _ bW0CB (fun hHeld => ?_)
              clear hK K bA
              refine wpAnyH_ready (rs := [11]) (by kernel_rfl) (by simp) ?_
              refine AllReadyH.cons rfl (fun K hK => ?_) AllReadyH.nil
              · simp only [List.getElem_toArray, List.getElem_cons_zero, List.getElem_cons_succ]
                go_simp
                obtain ⟨W0CBA, hW0CBA, zA, bA⟩ := za_made W0CB
                rw [← hW0CBA]
                clear hW0CBA
                obtain ⟨XA, hX⟩ : ∃ X, X = W0CB.heap.size := ⟨_, rfl⟩
                have upA : wr.heap.size ≤ XA := by rw [hX]; exact bW0CB.size
                have hlA : XA < W0CBA.heap.size := by rw [hX]; exact zA.lt
                have heA : W0CB.heap.size ≤ XA := by omega
                have hfA : XA ≤ W0CB.heap.size := by omega
                rw [← hX] at zA ⊢
                clear hX
                have bW0CBA := Below.next bW0CB bA
                have iC := iC.next bA
                have zB := zB.next bA
                refine hK.out _ _ bW0CBA (fun hHeld => ?_)
                clear hK K bA
                refine wpAnyH_ready (rs := [13]) (by kernel_rfl) (by simp) ?_
                refine AllReadyH.cons rfl (fun K hK => ?_) AllReadyH.nil
                simp only [List.getElem_toArray, List.getElem_cons_zero, List.getElem_cons_succ]
                obtain ⟨z0, z1, z2, z3, z4, z5, z6⟩ := zA.cells
                have zf := zA.free
                go_simp
                obtain ⟨We, hWe, dE, bE, tE⟩ := c_stored zA bW0CBA upA P nk aC 1 cC (fun _ => -1)
                rw [← hWe]
                clear hWe z0 z1 z2 z3 z4 z5 z6 zf
                have iE := iC.turn tE (fun x hx h0 => by have := iC0.lt x hx h0; omega)
                have zB := zB.turned tE (by omega)
                refine hK.out _ _ bE (fun hHeld => ?_)
                clear hK K
                refine wpAnyH_ready (rs := [14]) (by kernel_rfl) (by simp) ?_
                refine AllReadyH.cons rfl (fun K hK => ?_) AllReadyH.nil
                simp only [List.getElem_toArray, List.getElem_cons_zero, List.getElem_cons_succ]
                obtain ⟨z0, z1, z2, z3, z4, z5⟩ := zB.cells
                have zf := zB.free
                go_simp
                obtain ⟨Wf, hWf, eF, bF, tF⟩ := e_stored zB bE upB 1 P k m 0 0
                rw [← hWf]
                clear hWf z0 z1 z2 z3 z4 z5 zf
                have iF := iE.turn tF (fun x hx h0 => by have := iC0.lt x hx h0; omega)
                have dF := dE.turned tF (by omega)
                refine hK.out _ _ bF (fun hHeld => ?_)
                clear hK K
                refine wpAnyH_take (i := 15) (v := .int .i64 0) rfl (by kernel_rfl) (by kernel_rfl) (by kernel_rfl) (fun _ _ _ h => h) (Or.inl ⟨by rfl, fun _ _ => by go_simp⟩) hHeld ?_
                simp only [List.getElem_toArray, List.getElem_cons_zero, List.getElem_cons_succ, Act.put, List.setIfInBounds_toArray, List.set_cons_zero, List.set_cons_succ]
                refine wpAnyH_done (by kernel_rfl) ?_ _
                go_wp2_with fail
                go_meet
                exact ⟨XA, XB, aC, cC, rfl, rfl, rfl, ⟨dF, eF, iF, bF, upA, upB, by omega, fun x hx => gC x hx⟩⟩
          · simp only [List.getElem_toArray, List.getElem_cons_zero, List.getElem_cons_succ]
            go_simp
            obtain ⟨W0A, hW0A, zA, bA⟩ := za_made W0
            rw [← hW0A]
            clear hW0A
            obtain ⟨XA, hX⟩ : ∃ X, X = W0.heap.size := ⟨_, rfl⟩
            have upA : wr.heap.size ≤ XA := by rw [hX]; exact bW0.size
            have hlA : XA < W0A.heap.size := by rw [hX]; exact zA.lt
            have heA : W0.heap.size ≤ XA := by omega
            have hfA : XA ≤ W0.heap.size := by omega
            rw [← hX] at zA ⊢
            clear hX
            have bW0A := Below.next bW0 bA
            refine hK.out _ _ bW0A (fun hHeld => ?_)
            clear hK K bA
            refine wpAnyH_ready (rs := [6, 12]) (by kernel_rfl) (by simp) ?_
            refine AllReadyH.cons rfl (fun K hK => ?_) (AllReadyH.cons rfl (fun K hK => ?_) AllReadyH.nil)
            · simp only [List.getElem_toArray, List.getElem_cons_zero, List.getElem_cons_succ]
              go_simp
              refine (unveil HSd _ bW0A).mono ?_
              rintro x W0AC ⟨aC, cC, rfl, iC, uC, bC⟩
              have bW0AC := Below.next bW0A bC
              have iC0 := iC
              have gC : ∀ x, aC = some x → wr.heap.size ≤ x.block := fun x hx => Nat.le_trans bW0A.size (uC x hx)
              have hsW0AC : W0A.heap.size ≤ W0AC.heap.size := bC.size
              have zA := zA.next bC
              refine hK.out _ _ bW0AC (fun hHeld => ?_)
              clear hK K bC
              refine wpAnyH_take (i := 7) (v := .tuple #[cVal P nk aC 1 cC (fun _ => -1), evVal 1 P k m 0 0, .int .i64 0]) rfl (by kernel_rfl) (by kernel_rfl) (by kernel_rfl) (fun _ _ _ h => h) (Or.inl ⟨by rfl, fun _ _ => by go_simp⟩) hHeld ?_
              simp only [List.getElem_toArray, List.getElem_cons_zero, List.getElem_cons_succ, Act.put, List.setIfInBounds_toArray, List.set_cons_zero, List.set_cons_succ]
              refine wpAnyH_take (i := 8) (v := cVal P nk aC 1 cC (fun _ => -1)) rfl (by kernel_rfl) (by kernel_rfl) (by kernel_rfl) (fun _ _ _ h => h) (Or.inl ⟨by rfl, fun _ _ => by go_simp⟩) hHeld ?_
              simp only [List.getElem_toArray, List.getElem_cons_zero, List.getElem_cons_succ, Act.put, List.setIfInBounds_toArray, List.set_cons_zero, List.set_cons_succ]
              refine wpAnyH_take (i := 9) (v := evVal 1 P k m 0 0) rfl (by kernel_rfl) (by kernel_rfl) (by kernel_rfl) (fun _ _ _ h => h) (Or.inl ⟨by rfl, fun _ _ => by go_simp⟩) hHeld ?_
              simp only [List.getElem_toArray, List.getElem_cons_zero, List.getElem_cons_succ, Act.put, List.setIfInBounds_toArray, List.set_cons_zero, List.set_cons_succ]
              refine wpAnyH_take (i := 10) (v := .int .i64 0) rfl (by kernel_rfl) (by kernel_rfl) (by kernel_rfl) (fun _ _ _ h => h) (Or.inl ⟨by rfl, fun _ _ => by go_simp⟩) hHeld ?_
              simp only [List.getElem_toArray, List.getElem_cons_zero, List.getElem_cons_succ, Act.put, List.setIfInBounds_toArray, List.set_cons_zero, List.set_cons_succ]
              refine wpAnyH_ready (rs := [12]) (by kernel_rfl) (by simp) ?_
              refine AllReadyH.cons rfl (fun K hK => ?_) AllReadyH.nil
              · simp only [List.getElem_toArray, List.getElem_cons_zero, List.getElem_cons_succ]
                go_simp
                obtain ⟨W0ACB, hW0ACB, zB, bA⟩ := ze_made W0AC
                rw [← hW0ACB]
                clear hW0ACB
                obtain ⟨XB, hX⟩ : ∃ X, X = W0AC.heap.size := ⟨_, rfl⟩
                have upB : wr.heap.size ≤ XB := by rw [hX]; exact bW0AC.size
                have hlB : XB < W0ACB.heap.size := by rw [hX]; exact zB.lt
                have heB : W0AC.heap.size ≤ XB := by omega
                have hfB : XB ≤ W0AC.heap.size := by omega
                rw [← hX] at zB ⊢
                clear hX
                have bW0ACB := Below.next bW0AC bA
                have iC := iC.next bA
                have zA := zA.next bA
                refine hK.out _ _ bW0ACB (fun hHeld => ?_)
                clear hK K bA
                refine wpAnyH_ready (rs := [13]) (by kernel_rfl) (by simp) ?_
                refine AllReadyH.cons rfl (fun K hK => ?_) AllReadyH.nil
                simp only [List.getElem_toArray, List.getElem_cons_zero, List.getElem_cons_succ]
                obtain ⟨z0, z1, z2, z3, z4, z5, z6⟩ := zA.cells
                have zf := zA.free
                go_simp
                obtain ⟨We, hWe, dE, bE, tE⟩ := c_stored zA bW0ACB upA P nk aC 1 cC (fun _ => -1)
                rw [← hWe]
                clear hWe z0 z1 z2 z3 z4 z5 z6 zf
                have iE := iC.turn tE (fun x hx h0 => by have := uC x hx; omega)
                have zB := zB.turned tE (by omega)
                refine hK.out _ _ bE (fun hHeld => ?_)
                clear hK K
                refine wpAnyH_ready (rs := [14]) (by kernel_rfl) (by simp) ?_
                refine AllReadyH.cons rfl (fun K hK => ?_) AllReadyH.nil
                simp only [List.getElem_toArray, List.getElem_cons_zero, List.getElem_cons_succ]
                obtain ⟨z0, z1, z2, z3, z4, z5⟩ := zB.cells
                have zf := zB.free
                go_simp
                obtain ⟨Wf, hWf, eF, bF, tF⟩ := e_stored zB bE upB 1 P k m 0 0
                rw [← hWf]
                clear hWf z0 z1 z2 z3 z4 z5 zf
                have iF := iE.turn tF (fun x hx h0 => by have := iC0.lt x hx h0; omega)
                have dF := dE.turned tF (by omega)
                refine hK.out _ _ bF (fun hHeld => ?_)
                clear hK K
                refine wpAnyH_take (i := 15) (v := .int .i64 0) rfl (by kernel_rfl) (by kernel_rfl) (by kernel_rfl) (fun _ _ _ h => h) (Or.inl ⟨by rfl, fun _ _ => by go_simp⟩) hHeld ?_
                simp only [List.getElem_toArray, List.getElem_cons_zero, List.getElem_cons_succ, Act.put, List.setIfInBounds_toArray, List.set_cons_zero, List.set_cons_succ]
                refine wpAnyH_done (by kernel_rfl) ?_ _
                go_wp2_with fail
                go_meet
                exact ⟨XA, XB, aC, cC, rfl, rfl, rfl, ⟨dF, eF, iF, bF, upA, upB, by omega, fun x hx => gC x hx⟩⟩
            · simp only [List.getElem_toArray, List.getElem_cons_zero, List.getElem_cons_succ]
              go_simp
              obtain ⟨W0AB, hW0AB, zB, bA⟩ := ze_made W0A
              rw [← hW0AB]
              clear hW0AB
              obtain ⟨XB, hX⟩ : ∃ X, X = W0A.heap.size := ⟨_, rfl⟩
              have upB : wr.heap.size ≤ XB := by rw [hX]; exact bW0A.size
              have hlB : XB < W0AB.heap.size := by rw [hX]; exact zB.lt
              have heB : W0A.heap.size ≤ XB := by omega
              have hfB : XB ≤ W0A.heap.size := by omega
              rw [← hX] at zB ⊢
              clear hX
              have bW0AB := Below.next bW0A bA
              have zA := zA.next bA
              refine hK.out _ _ bW0AB (fun hHeld => ?_)
              clear hK K bA
              refine wpAnyH_ready (rs := [6]) (by kernel_rfl) (by simp) ?_
              refine AllReadyH.cons rfl (fun K hK => ?_) AllReadyH.nil
              · simp only [List.getElem_toArray, List.getElem_cons_zero, List.getElem_cons_succ]
                go_simp
                refine (unveil HSd _ bW0AB).mono ?_
                rintro x W0ABC ⟨aC, cC, rfl, iC, uC, bC⟩
                have bW0ABC := Below.next bW0AB bC
                have iC0 := iC
                have gC : ∀ x, aC = some x → wr.heap.size ≤ x.block := fun x hx => Nat.le_trans bW0AB.size (uC x hx)
                have hsW0ABC : W0AB.heap.size ≤ W0ABC.heap.size := bC.size
                have zA := zA.next bC
                have zB := zB.next bC
                refine hK.out _ _ bW0ABC (fun hHeld => ?_)
                clear hK K bC
                refine wpAnyH_take (i := 7) (v := .tuple #[cVal P nk aC 1 cC (fun _ => -1), evVal 1 P k m 0 0, .int .i64 0]) rfl (by kernel_rfl) (by kernel_rfl) (by kernel_rfl) (fun _ _ _ h => h) (Or.inl ⟨by rfl, fun _ _ => by go_simp⟩) hHeld ?_
                simp only [List.getElem_toArray, List.getElem_cons_zero, List.getElem_cons_succ, Act.put, List.setIfInBounds_toArray, List.set_cons_zero, List.set_cons_succ]
                refine wpAnyH_take (i := 8) (v := cVal P nk aC 1 cC (fun _ => -1)) rfl (by kernel_rfl) (by kernel_rfl) (by kernel_rfl) (fun _ _ _ h => h) (Or.inl ⟨by rfl, fun _ _ => by go_simp⟩) hHeld ?_
                simp only [List.getElem_toArray, List.getElem_cons_zero, List.getElem_cons_succ, Act.put, List.setIfInBounds_toArray, List.set_cons_zero, List.set_cons_succ]
                refine wpAnyH_take (i := 9) (v := evVal 1 P k m 0 0) rfl (by kernel_rfl) (by kernel_rfl) (by kernel_rfl) (fun _ _ _ h => h) (Or.inl ⟨by rfl, fun _ _ => by go_simp⟩) hHeld ?_
                simp only [List.getElem_toArray, List.getElem_cons_zero, List.getElem_cons_succ, Act.put, List.setIfInBounds_toArray, List.set_cons_zero, List.set_cons_succ]
                refine wpAnyH_take (i := 10) (v := .int .i64 0) rfl (by kernel_rfl) (by kernel_rfl) (by kernel_rfl) (fun _ _ _ h => h) (Or.inl ⟨by rfl, fun _ _ => by go_simp⟩) hHeld ?_
                simp only [List.getElem_toArray, List.getElem_cons_zero, List.getElem_cons_succ, Act.put, List.setIfInBounds_toArray, List.set_cons_zero, List.set_cons_succ]
                refine wpAnyH_ready (rs := [13]) (by kernel_rfl) (by simp) ?_
                refine AllReadyH.cons rfl (fun K hK => ?_) AllReadyH.nil
                simp only [List.getElem_toArray, List.getElem_cons_zero, List.getElem_cons_succ]
                obtain ⟨z0, z1, z2, z3, z4, z5, z6⟩ := zA.cells
                have zf := zA.free
                go_simp
                obtain ⟨We, hWe, dE, bE, tE⟩ := c_stored zA bW0ABC upA P nk aC 1 cC (fun _ => -1)
                rw [← hWe]
                clear hWe z0 z1 z2 z3 z4 z5 z6 zf
                have iE := iC.turn tE (fun x hx h0 => by have := uC x hx; omega)
                have zB := zB.turned tE (by omega)
                refine hK.out _ _ bE (fun hHeld => ?_)
                clear hK K
                refine wpAnyH_ready (rs := [14]) (by kernel_rfl) (by simp) ?_
                refine AllReadyH.cons rfl (fun K hK => ?_) AllReadyH.nil
                simp only [List.getElem_toArray, List.getElem_cons_zero, List.getElem_cons_succ]
                obtain ⟨z0, z1, z2, z3, z4, z5⟩ := zB.cells
                have zf := zB.free
                go_simp
                obtain ⟨Wf, hWf, eF, bF, tF⟩ := e_stored zB bE upB 1 P k m 0 0
                rw [← hWf]
                clear hWf z0 z1 z2 z3 z4 z5 zf
                have iF := iE.turn tF (fun x hx h0 => by have := uC x hx; omega)
                have dF := dE.turned tF (by omega)
                refine hK.out _ _ bF (fun hHeld => ?_)
                clear hK K
                refine wpAnyH_take (i := 15) (v := .int .i64 0) rfl (by kernel_rfl) (by kernel_rfl) (by kernel_rfl) (fun _ _ _ h => h) (Or.inl ⟨by rfl, fun _ _ => by go_simp⟩) hHeld ?_
                simp only [List.getElem_toArray, List.getElem_cons_zero, List.getElem_cons_succ, Act.put, List.setIfInBounds_toArray, List.set_cons_zero, List.set_cons_succ]
                refine wpAnyH_done (by kernel_rfl) ?_ _
                go_wp2_with fail
                go_meet
                exact ⟨XA, XB, aC, cC, rfl, rfl, rfl, ⟨dF, eF, iF, bF, upA, upB, by omega, fun x hx => gC x hx⟩⟩
          · simp only [List.getElem_toArray, List.getElem_cons_zero, List.getElem_cons_succ]
            go_simp
            obtain ⟨W0B, hW0B, zB, bA⟩ := ze_made W0
            rw [← hW0B]
            clear hW0B
            obtain ⟨XB, hX⟩ : ∃ X, X = W0.heap.size := ⟨_, rfl⟩
            have upB : wr.heap.size ≤ XB := by rw [hX]; exact bW0.size
            have hlB : XB < W0B.heap.size := by rw [hX]; exact zB.lt
            have heB : W0.heap.size ≤ XB := by omega
            have hfB : XB ≤ W0.heap.size := by omega
            rw [← hX] at zB ⊢
            clear hX
            have bW0B := Below.next bW0 bA
            refine hK.out _ _ bW0B (fun hHeld => ?_)
            clear hK K bA
            refine wpAnyH_ready (rs := [6, 11]) (by kernel_rfl) (by simp) ?_
            refine AllReadyH.cons rfl (fun K hK => ?_) (AllReadyH.cons rfl (fun K hK => ?_) AllReadyH.nil)
            · simp only [List.getElem_toArray, List.getElem_cons_zero, List.getElem_cons_succ]
              go_simp
              refine (unveil HSd _ bW0B).mono ?_
              rintro x W0BC ⟨aC, cC, rfl, iC, uC, bC⟩
              have bW0BC := Below.next bW0B bC
              have iC0 := iC
              have gC : ∀ x, aC = some x → wr.heap.size ≤ x.block := fun x hx => Nat.le_trans bW0B.size (uC x hx)
              have hsW0BC : W0B.heap.size ≤ W0BC.heap.size := bC.size
              have zB := zB.next bC
              refine hK.out _ _ bW0BC (fun hHeld => ?_)
              clear hK K bC
              refine wpAnyH_take (i := 7) (v := .tuple #[cVal P nk aC 1 cC (fun _ => -1), evVal 1 P k m 0 0, .int .i64 0]) rfl (by kernel_rfl) (by kernel_rfl) (by kernel_rfl) (fun _ _ _ h => h) (Or.inl ⟨by rfl, fun _ _ => by go_simp⟩) hHeld ?_
              simp only [List.getElem_toArray, List.getElem_cons_zero, List.getElem_cons_succ, Act.put, List.setIfInBounds_toArray, List.set_cons_zero, List.set_cons_succ]
              refine wpAnyH_take (i := 8) (v := cVal P nk aC 1 cC (fun _ => -1)) rfl (by kernel_rfl) (by kernel_rfl) (by kernel_rfl) (fun _ _ _ h => h) (Or.inl ⟨by rfl, fun _ _ => by go_simp⟩) hHeld ?_
              simp only [List.getElem_toArray, List.getElem_cons_zero, List.getElem_cons_succ, Act.put, List.setIfInBounds_toArray, List.set_cons_zero, List.set_cons_succ]
              refine wpAnyH_take (i := 9) (v := evVal 1 P k m 0 0) rfl (by kernel_rfl) (by kernel_rfl) (by kernel_rfl) (fun _ _ _ h => h) (Or.inl ⟨by rfl, fun _ _ => by go_simp⟩) hHeld ?_
              simp only [List.getElem_toArray, List.getElem_cons_zero, List.getElem_cons_succ, Act.put, List.setIfInBounds_toArray, List.set_cons_zero, List.set_cons_succ]
              refine wpAnyH_take (i := 10) (v := .int .i64 0) rfl (by kernel_rfl) (by kernel_rfl) (by kernel_rfl) (fun _ _ _ h => h) (Or.inl ⟨by rfl, fun _ _ => by go_simp⟩) hHeld ?_
              simp only [List.getElem_toArray, List.getElem_cons_zero, List.getElem_cons_succ, Act.put, List.setIfInBounds_toArray, List.set_cons_zero, List.set_cons_succ]
              refine wpAnyH_ready (rs := [11]) (by kernel_rfl) (by simp) ?_
              refine AllReadyH.cons rfl (fun K hK => ?_) AllReadyH.nil
              · simp only [List.getElem_toArray, List.getElem_cons_zero, List.getElem_cons_succ]
                go_simp
                obtain ⟨W0BCA, hW0BCA, zA, bA⟩ := za_made W0BC
                rw [← hW0BCA]
                clear hW0BCA
                obtain ⟨XA, hX⟩ : ∃ X, X = W0BC.heap.size := ⟨_, rfl⟩
                have upA : wr.heap.size ≤ XA := by rw [hX]; exact bW0BC.size
                have hlA : XA < W0BCA.heap.size := by rw [hX]; exact zA.lt
                have heA : W0BC.heap.size ≤ XA := by omega
                have hfA : XA ≤ W0BC.heap.size := by omega
                rw [← hX] at zA ⊢
                clear hX
                have bW0BCA := Below.next bW0BC bA
                have iC := iC.next bA
                have zB := zB.next bA
                refine hK.out _ _ bW0BCA (fun hHeld => ?_)
                clear hK K bA
                refine wpAnyH_ready (rs := [13]) (by kernel_rfl) (by simp) ?_
                refine AllReadyH.cons rfl (fun K hK => ?_) AllReadyH.nil
                simp only [List.getElem_toArray, List.getElem_cons_zero, List.getElem_cons_succ]
                obtain ⟨z0, z1, z2, z3, z4, z5, z6⟩ := zA.cells
                have zf := zA.free
                go_simp
                obtain ⟨We, hWe, dE, bE, tE⟩ := c_stored zA bW0BCA upA P nk aC 1 cC (fun _ => -1)
                rw [← hWe]
                clear hWe z0 z1 z2 z3 z4 z5 z6 zf
                have iE := iC.turn tE (fun x hx h0 => by have := iC0.lt x hx h0; omega)
                have zB := zB.turned tE (by omega)
                refine hK.out _ _ bE (fun hHeld => ?_)
                clear hK K
                refine wpAnyH_ready (rs := [14]) (by kernel_rfl) (by simp) ?_
                refine AllReadyH.cons rfl (fun K hK => ?_) AllReadyH.nil
                simp only [List.getElem_toArray, List.getElem_cons_zero, List.getElem_cons_succ]
                obtain ⟨z0, z1, z2, z3, z4, z5⟩ := zB.cells
                have zf := zB.free
                go_simp
                obtain ⟨Wf, hWf, eF, bF, tF⟩ := e_stored zB bE upB 1 P k m 0 0
                rw [← hWf]
                clear hWf z0 z1 z2 z3 z4 z5 zf
                have iF := iE.turn tF (fun x hx h0 => by have := uC x hx; omega)
                have dF := dE.turned tF (by omega)
                refine hK.out _ _ bF (fun hHeld => ?_)
                clear hK K
                refine wpAnyH_take (i := 15) (v := .int .i64 0) rfl (by kernel_rfl) (by kernel_rfl) (by kernel_rfl) (fun _ _ _ h => h) (Or.inl ⟨by rfl, fun _ _ => by go_simp⟩) hHeld ?_
                simp only [List.getElem_toArray, List.getElem_cons_zero, List.getElem_cons_succ, Act.put, List.setIfInBounds_toArray, List.set_cons_zero, List.set_cons_succ]
                refine wpAnyH_done (by kernel_rfl) ?_ _
                go_wp2_with fail
                go_meet
                exact ⟨XA, XB, aC, cC, rfl, rfl, rfl, ⟨dF, eF, iF, bF, upA, upB, by omega, fun x hx => gC x hx⟩⟩
            · simp only [List.getElem_toArray, List.getElem_cons_zero, List.getElem_cons_succ]
              go_simp
              obtain ⟨W0BA, hW0BA, zA, bA⟩ := za_made W0B
              rw [← hW0BA]
              clear hW0BA
              obtain ⟨XA, hX⟩ : ∃ X, X = W0B.heap.size := ⟨_, rfl⟩
              have upA : wr.heap.size ≤ XA := by rw [hX]; exact bW0B.size
              have hlA : XA < W0BA.heap.size := by rw [hX]; exact zA.lt
              have heA : W0B.heap.size ≤ XA := by omega
              have hfA : XA ≤ W0B.heap.size := by omega
              rw [← hX] at zA ⊢
              clear hX
              have bW0BA := Below.next bW0B bA
              have zB := zB.next bA
              refine hK.out _ _ bW0BA (fun hHeld => ?_)
              clear hK K bA
              refine wpAnyH_ready (rs := [6]) (by kernel_rfl) (by simp) ?_
              refine AllReadyH.cons rfl (fun K hK => ?_) AllReadyH.nil
              · simp only [List.getElem_toArray, List.getElem_cons_zero, List.getElem_cons_succ]
                go_simp
                refine (unveil HSd _ bW0BA).mono ?_
                rintro x W0BAC ⟨aC, cC, rfl, iC, uC, bC⟩
                have bW0BAC := Below.next bW0BA bC
                have iC0 := iC
                have gC : ∀ x, aC = some x → wr.heap.size ≤ x.block := fun x hx => Nat.le_trans bW0BA.size (uC x hx)
                have hsW0BAC : W0BA.heap.size ≤ W0BAC.heap.size := bC.size
                have zA := zA.next bC
                have zB := zB.next bC
                refine hK.out _ _ bW0BAC (fun hHeld => ?_)
                clear hK K bC
                refine wpAnyH_take (i := 7) (v := .tuple #[cVal P nk aC 1 cC (fun _ => -1), evVal 1 P k m 0 0, .int .i64 0]) rfl (by kernel_rfl) (by kernel_rfl) (by kernel_rfl) (fun _ _ _ h => h) (Or.inl ⟨by rfl, fun _ _ => by go_simp⟩) hHeld ?_
                simp only [List.getElem_toArray, List.getElem_cons_zero, List.getElem_cons_succ, Act.put, List.setIfInBounds_toArray, List.set_cons_zero, List.set_cons_succ]
                refine wpAnyH_take (i := 8) (v := cVal P nk aC 1 cC (fun _ => -1)) rfl (by kernel_rfl) (by kernel_rfl) (by kernel_rfl) (fun _ _ _ h => h) (Or.inl ⟨by rfl, fun _ _ => by go_simp⟩) hHeld ?_
                simp only [List.getElem_toArray, List.getElem_cons_zero, List.getElem_cons_succ, Act.put, List.setIfInBounds_toArray, List.set_cons_zero, List.set_cons_succ]
                refine wpAnyH_take (i := 9) (v := evVal 1 P k m 0 0) rfl (by kernel_rfl) (by kernel_rfl) (by kernel_rfl) (fun _ _ _ h => h) (Or.inl ⟨by rfl, fun _ _ => by go_simp⟩) hHeld ?_
                simp only [List.getElem_toArray, List.getElem_cons_zero, List.getElem_cons_succ, Act.put, List.setIfInBounds_toArray, List.set_cons_zero, List.set_cons_succ]
                refine wpAnyH_take (i := 10) (v := .int .i64 0) rfl (by kernel_rfl) (by kernel_rfl) (by kernel_rfl) (fun _ _ _ h => h) (Or.inl ⟨by rfl, fun _ _ => by go_simp⟩) hHeld ?_
                simp only [List.getElem_toArray, List.getElem_cons_zero, List.getElem_cons_succ, Act.put, List.setIfInBounds_toArray, List.set_cons_zero, List.set_cons_succ]
                refine wpAnyH_ready (rs := [13]) (by kernel_rfl) (by simp) ?_
                refine AllReadyH.cons rfl (fun K hK => ?_) AllReadyH.nil
                simp only [List.getElem_toArray, List.getElem_cons_zero, List.getElem_cons_succ]
                obtain ⟨z0, z1, z2, z3, z4, z5, z6⟩ := zA.cells
                have zf := zA.free
                go_simp
                obtain ⟨We, hWe, dE, bE, tE⟩ := c_stored zA bW0BAC upA P nk aC 1 cC (fun _ => -1)
                rw [← hWe]
                clear hWe z0 z1 z2 z3 z4 z5 z6 zf
                have iE := iC.turn tE (fun x hx h0 => by have := uC x hx; omega)
                have zB := zB.turned tE (by omega)
                refine hK.out _ _ bE (fun hHeld => ?_)
                clear hK K
                refine wpAnyH_ready (rs := [14]) (by kernel_rfl) (by simp) ?_
                refine AllReadyH.cons rfl (fun K hK => ?_) AllReadyH.nil
                simp only [List.getElem_toArray, List.getElem_cons_zero, List.getElem_cons_succ]
                obtain ⟨z0, z1, z2, z3, z4, z5⟩ := zB.cells
                have zf := zB.free
                go_simp
                obtain ⟨Wf, hWf, eF, bF, tF⟩ := e_stored zB bE upB 1 P k m 0 0
                rw [← hWf]
                clear hWf z0 z1 z2 z3 z4 z5 zf
                have iF := iE.turn tF (fun x hx h0 => by have := uC x hx; omega)
                have dF := dE.turned tF (by omega)
                refine hK.out _ _ bF (fun hHeld => ?_)
                clear hK K
                refine wpAnyH_take (i := 15) (v := .int .i64 0) rfl (by kernel_rfl) (by kernel_rfl) (by kernel_rfl) (fun _ _ _ h => h) (Or.inl ⟨by rfl, fun _ _ => by go_simp⟩) hHeld ?_
                simp only [List.getElem_toArray, List.getElem_cons_zero, List.getElem_cons_succ, Act.put, List.setIfInBounds_toArray, List.set_cons_zero, List.set_cons_succ]
                refine wpAnyH_done (by kernel_rfl) ?_ _
                go_wp2_with fail
                go_meet
                exact ⟨XA, XB, aC, cC, rfl, rfl, rfl, ⟨dF, eF, iF, bF, upA, upB, by omega, fun x hx => gC x hx⟩⟩
        · simp only [List.getElem_toArray, List.getElem_cons_zero, List.getElem_cons_succ]
          go_simp
          obtain ⟨W0A, hW0A, zA, bA⟩ := za_made W0
          rw [← hW0A]
          clear hW0A
          obtain ⟨XA, hX⟩ : ∃ X, X = W0.heap.size := ⟨_, rfl⟩
          have upA : wr.heap.size ≤ XA := by rw [hX]; exact bW0.size
          have hlA : XA < W0A.heap.size := by rw [hX]; exact zA.lt
          have heA : W0.heap.size ≤ XA := by omega
          have hfA : XA ≤ W0.heap.size := by omega
          rw [← hX] at zA ⊢
          clear hX
          have bW0A := Below.next bW0 bA
          refine hK.out _ _ bW0A (fun hHeld => ?_)
          clear hK K bA
          refine wpAnyH_ready (rs := [5, 12]) (by kernel_rfl) (by simp) ?_
          refine AllReadyH.cons rfl (fun K hK => ?_) (AllReadyH.cons rfl (fun K hK => ?_) AllReadyH.nil)
          · simp only [List.getElem_toArray, List.getElem_cons_zero, List.getElem_cons_succ]
            go_simp
            refine (P2 _).mono ?_
            rintro x w9 ⟨rfl, hw9⟩
            subst w9
            refine hK.out _ _ bW0A (fun hHeld => ?_)
            clear hK K
            refine wpAnyH_ready (rs := [6, 12]) (by kernel_rfl) (by simp) ?_
            refine AllReadyH.cons rfl (fun K hK => ?_) (AllReadyH.cons rfl (fun K hK => ?_) AllReadyH.nil)
            · simp only [List.getElem_toArray, List.getElem_cons_zero, List.getElem_cons_succ]
              go_simp
              refine (unveil HSd _ bW0A).mono ?_
              rintro x W0AC ⟨aC, cC, rfl, iC, uC, bC⟩
              have bW0AC := Below.next bW0A bC
              have iC0 := iC
              have gC : ∀ x, aC = some x → wr.heap.size ≤ x.block := fun x hx => Nat.le_trans bW0A.size (uC x hx)
              have hsW0AC : W0A.heap.size ≤ W0AC.heap.size := bC.size
              have zA := zA.next bC
              refine hK.out _ _ bW0AC (fun hHeld => ?_)
              clear hK K bC
              refine wpAnyH_take (i := 7) (v := .tuple #[cVal P nk aC 1 cC (fun _ => -1), evVal 1 P k m 0 0, .int .i64 0]) rfl (by kernel_rfl) (by kernel_rfl) (by kernel_rfl) (fun _ _ _ h => h) (Or.inl ⟨by rfl, fun _ _ => by go_simp⟩) hHeld ?_
              simp only [List.getElem_toArray, List.getElem_cons_zero, List.getElem_cons_succ, Act.put, List.setIfInBounds_toArray, List.set_cons_zero, List.set_cons_succ]
              refine wpAnyH_take (i := 8) (v := cVal P nk aC 1 cC (fun _ => -1)) rfl (by kernel_rfl) (by kernel_rfl) (by kernel_rfl) (fun _ _ _ h => h) (Or.inl ⟨by rfl, fun _ _ => by go_simp⟩) hHeld ?_
              simp only [List.getElem_toArray, List.getElem_cons_zero, List.getElem_cons_succ, Act.put, List.setIfInBounds_toArray, List.set_cons_zero, List.set_cons_succ]
              refine wpAnyH_take (i := 9) (v := evVal 1 P k m 0 0) rfl (by kernel_rfl) (by kernel_rfl) (by kernel_rfl) (fun _ _ _ h => h) (Or.inl ⟨by rfl, fun _ _ => by go_simp⟩) hHeld ?_
              simp only [List.getElem_toArray, List.getElem_cons_zero, List.getElem_cons_succ, Act.put, List.setIfInBounds_toArray, List.set_cons_zero, List.set_cons_succ]
              refine wpAnyH_take (i := 10) (v := .int .i64 0) rfl (by kernel_rfl) (by kernel_rfl) (by kernel_rfl) (fun _ _ _ h => h) (Or.inl ⟨by rfl, fun _ _ => by go_simp⟩) hHeld ?_
              simp only [List.getElem_toArray, List.getElem_cons_zero, List.getElem_cons_succ, Act.put, List.setIfInBounds_toArray, List.set_cons_zero, List.set_cons_succ]
              refine wpAnyH_ready (rs := [12]) (by kernel_rfl) (by simp) ?_
              refine AllReadyH.cons rfl (fun K hK => ?_) AllReadyH.nil
              · simp only [List.getElem_toArray, List.getElem_cons_zero, List.getElem_cons_succ]
                go_simp
                obtain ⟨W0ACB, hW0ACB, zB, bA⟩ := ze_made W0AC
                rw [← hW0ACB]
                clear hW0ACB
                obtain ⟨XB, hX⟩ : ∃ X, X = W0AC.heap.size := ⟨_, rfl⟩
                have upB : wr.heap.size ≤ XB := by rw [hX]; exact bW0AC.size
                have hlB : XB < W0ACB.heap.size := by rw [hX]; exact zB.lt
                have heB : W0AC.heap.size ≤ XB := by omega
                have hfB : XB ≤ W0AC.heap.size := by omega
                rw [← hX] at zB ⊢
                clear hX
                have bW0ACB := Below.next bW0AC bA
                have iC := iC.next bA
                have zA := zA.next bA
                refine hK.out _ _ bW0ACB (fun hHeld => ?_)
                clear hK K bA
                refine wpAnyH_ready (rs := [13]) (by kernel_rfl) (by simp) ?_
                refine AllReadyH.cons rfl (fun K hK => ?_) AllReadyH.nil
                simp only [List.getElem_toArray, List.getElem_cons_zero, List.getElem_cons_succ]
                obtain ⟨z0, z1, z2, z3, z4, z5, z6⟩ := zA.cells
                have zf := zA.free
                go_simp
                obtain ⟨We, hWe, dE, bE, tE⟩ := c_stored zA bW0ACB upA P nk aC 1 cC (fun _ => -1)
                rw [← hWe]
                clear hWe z0 z1 z2 z3 z4 z5 z6 zf
                have iE := iC.turn tE (fun x hx h0 => by have := uC x hx; omega)
                have zB := zB.turned tE (by omega)
                refine hK.out _ _ bE (fun hHeld => ?_)
                clear hK K
                refine wpAnyH_ready (rs := [14]) (by kernel_rfl) (by simp) ?_
                refine AllReadyH.cons rfl (fun K hK => ?_) AllReadyH.nil
                simp only [List.getElem_toArray, List.getElem_cons_zero, List.getElem_cons_succ]
                obtain ⟨z0, z1, z2, z3, z4, z5⟩ := zB.cells
                have zf := zB.free
                go_simp
                obtain ⟨Wf, hWf, eF, bF, tF⟩ := e_stored zB bE upB 1 P k m 0 0
                rw [← hWf]
                clear hWf z0 z1 z2 z3 z4 z5 zf
                have iF := iE.turn tF (fun x hx h0 => by have := iC0.lt x hx h0; omega)
                have dF := dE.turned tF (by omega)
                refine hK.out _ _ bF (fun hHeld => ?_)
                clear hK K
                refine wpAnyH_take (i := 15) (v := .int .i64 0) rfl (by kernel_rfl) (by kernel_rfl) (by kernel_rfl) (fun _ _ _ h => h) (Or.inl ⟨by rfl, fun _ _ => by go_simp⟩) hHeld ?_
                simp only [List.getElem_toArray, List.getElem_cons_zero, List.getElem_cons_succ, Act.put, List.setIfInBounds_toArray, List.set_cons_zero, List.set_cons_succ]
                refine wpAnyH_done (by kernel_rfl) ?_ _
                go_wp2_with fail
                go_meet
                exact ⟨XA, XB, aC, cC, rfl, rfl, rfl, ⟨dF, eF, iF, bF, upA, upB, by omega, fun x hx => gC x hx⟩⟩
            · simp only [List.getElem_toArray, List.getElem_cons_zero, List.getElem_cons_succ]
              go_simp
              obtain ⟨W0AB, hW0AB, zB, bA⟩ := ze_made W0A
              rw [← hW0AB]
              clear hW0AB
              obtain ⟨XB, hX⟩ : ∃ X, X = W0A.heap.size := ⟨_, rfl⟩
              have upB : wr.heap.size ≤ XB := by rw [hX]; exact bW0A.size
              have hlB : XB < W0AB.heap.size := by rw [hX]; exact zB.lt
              have heB : W0A.heap.size ≤ XB := by omega
              have hfB : XB ≤ W0A.heap.size := by omega
              rw [← hX] at zB ⊢
              clear hX
              have bW0AB := Below.next bW0A bA
              have zA := zA.next bA
              refine hK.out _ _ bW0AB (fun hHeld => ?_)
              clear hK K bA
              refine wpAnyH_ready (rs := [6]) (by kernel_rfl) (by simp) ?_
              refine AllReadyH.cons rfl (fun K hK => ?_) AllReadyH.nil
              · simp only [List.getElem_toArray, List.getElem_cons_zero, List.getElem_cons_succ]
                go_simp
                refine (unveil HSd _ bW0AB).mono ?_
                rintro x W0ABC ⟨aC, cC, rfl, iC, uC, bC⟩
                have bW0ABC := Below.next bW0AB bC
                have iC0 := iC
                have gC : ∀ x, aC = some x → wr.heap.size ≤ x.block := fun x hx => Nat.le_trans bW0AB.size (uC x hx)
                have hsW0ABC : W0AB.heap.size ≤ W0ABC.heap.size := bC.size
                have zA := zA.next bC
                have zB := zB.next bC
                refine hK.out _ _ bW0ABC (fun hHeld => ?_)
                clear hK K bC
                refine wpAnyH_take (i := 7) (v := .tuple #[cVal P nk aC 1 cC (fun _ => -1), evVal 1 P k m 0 0, .int .i64 0]) rfl (by kernel_rfl) (by kernel_rfl) (by kernel_rfl) (fun _ _ _ h => h) (Or.inl ⟨by rfl, fun _ _ => by go_simp⟩) hHeld ?_
                simp only [List.getElem_toArray, List.getElem_cons_zero, List.getElem_cons_succ, Act.put, List.setIfInBounds_toArray, List.set_cons_zero, List.set_cons_succ]
                refine wpAnyH_take (i := 8) (v := cVal P nk aC 1 cC (fun _ => -1)) rfl (by kernel_rfl) (by kernel_rfl) (by kernel_rfl) (fun _ _ _ h => h) (Or.inl ⟨by rfl, fun _ _ => by go_simp⟩) hHeld ?_
                simp only [List.getElem_toArray, List.getElem_cons_zero, List.getElem_cons_succ, Act.put, List.setIfInBounds_toArray, List.set_cons_zero, List.set_cons_succ]
                refine wpAnyH_take (i := 9) (v := evVal 1 P k m 0 0) rfl (by kernel_rfl) (by kernel_rfl) (by kernel_rfl) (fun _ _ _ h => h) (Or.inl ⟨by rfl, fun _ _ => by go_simp⟩) hHeld ?_
                simp only [List.getElem_toArray, List.getElem_cons_zero, List.getElem_cons_succ, Act.put, List.setIfInBounds_toArray, List.set_cons_zero, List.set_cons_succ]
                refine wpAnyH_take (i := 10) (v := .int .i64 0) rfl (by kernel_rfl) (by kernel_rfl) (by kernel_rfl) (fun _ _ _ h => h) (Or.inl ⟨by rfl, fun _ _ => by go_simp⟩) hHeld ?_
                simp only [List.getElem_toArray, List.getElem_cons_zero, List.getElem_cons_succ, Act.put, List.setIfInBounds_toArray, List.set_cons_zero, List.set_cons_succ]
                refine wpAnyH_ready (rs := [13]) (by kernel_rfl) (by simp) ?_
                refine AllReadyH.cons rfl (fun K hK => ?_) AllReadyH.nil
                simp only [List.getElem_toArray, List.getElem_cons_zero, List.getElem_cons_succ]
                obtain ⟨z0, z1, z2, z3, z4, z5, z6⟩ := zA.cells
                have zf := zA.free
                go_simp
                obtain ⟨We, hWe, dE, bE, tE⟩ := c_stored zA bW0ABC upA P nk aC 1 cC (fun _ => -1)
                rw [← hWe]
                clear hWe z0 z1 z2 z3 z4 z5 z6 zf
                have iE := iC.turn tE (fun x hx h0 => by have := uC x hx; omega)
                have zB := zB.turned tE (by omega)
                refine hK.out _ _ bE (fun hHeld => ?_)
                clear hK K
                refine wpAnyH_ready (rs := [14]) (by kernel_rfl) (by simp) ?_
                refine AllReadyH.cons rfl (fun K hK => ?_) AllReadyH.nil
                simp only [List.getElem_toArray, List.getElem_cons_zero, List.getElem_cons_succ]
                obtain ⟨z0, z1, z2, z3, z4, z5⟩ := zB.cells
                have zf := zB.free
                go_simp
                obtain ⟨Wf, hWf, eF, bF, tF⟩ := e_stored zB bE upB 1 P k m 0 0
                rw [← hWf]
                clear hWf z0 z1 z2 z3 z4 z5 zf
                have iF := iE.turn tF (fun x hx h0 => by have := uC x hx; omega)
                have dF := dE.turned tF (by omega)
                refine hK.out _ _ bF (fun hHeld => ?_)
                clear hK K
                refine wpAnyH_take (i := 15) (v := .int .i64 0) rfl (by kernel_rfl) (by kernel_rfl) (by kernel_rfl) (fun _ _ _ h => h) (Or.inl ⟨by rfl, fun _ _ => by go_simp⟩) hHeld ?_
                simp only [List.getElem_toArray, List.getElem_cons_zero, List.getElem_cons_succ, Act.put, List.setIfInBounds_toArray, List.set_cons_zero, List.set_cons_succ]
                refine wpAnyH_done (by kernel_rfl) ?_ _
                go_wp2_with fail
                go_meet
                exact ⟨XA, XB, aC, cC, rfl, rfl, rfl, ⟨dF, eF, iF, bF, upA, upB, by omega, fun x hx => gC x hx⟩⟩
          · simp only [List.getElem_toArray, List.getElem_cons_zero, List.getElem_cons_succ]
            go_simp
            obtain ⟨W0AB, hW0AB, zB, bA⟩ := ze_made W0A
            rw [← hW0AB]
            clear hW0AB
            obtain ⟨XB, hX⟩ : ∃ X, X = W0A.heap.size := ⟨_, rfl⟩
            have upB : wr.heap.size ≤ XB := by rw [hX]; exact bW0A.size
            have hlB : XB < W0AB.heap.size := by rw [hX]; exact zB.lt
            have heB : W0A.heap.size ≤ XB := by omega
            have hfB : XB ≤ W0A.heap.size := by omega
            rw [← hX] at zB ⊢
            clear hX
            have bW0AB := Below.next bW0A bA
            have zA := zA.next bA
            refine hK.out _ _ bW0AB (fun hHeld => ?_)
            clear hK K bA
            refine wpAnyH_ready (rs := [5]) (by kernel_rfl) (by simp) ?_
            refine AllReadyH.cons rfl (fun K hK => ?_) AllReadyH.nil
            · simp only [List.getElem_toArray, List.getElem_cons_zero, List.getElem_cons_succ]
              go_simp
              refine (P2 _).mono ?_
              rintro x w9 ⟨rfl, hw9⟩
              subst w9
              refine hK.out _ _ bW0AB (fun hHeld => ?_)
              clear hK K
              refine wpAnyH_ready (rs := [6]) (by kernel_rfl) (by simp) ?_
              refine AllReadyH.cons rfl (fun K hK => ?_) AllReadyH.nil
              · simp only [List.getElem_toArray, List.getElem_cons_zero, List.getElem_cons_succ]
                go_simp
                refine (unveil HSd _ bW0AB).mono ?_
                rintro x W0ABC ⟨aC, cC, rfl, iC, uC, bC⟩
                have bW0ABC := Below.next bW0AB bC
                have iC0 := iC
                have gC : ∀ x, aC = some x → wr.heap.size ≤ x.block := fun x hx => Nat.le_trans bW0AB.size (uC x hx)
                have hsW0ABC : W0AB.heap.size ≤ W0ABC.heap.size := bC.size
                have zA := zA.next bC
                have zB := zB.next bC
                refine hK.out _ _ bW0ABC (fun hHeld => ?_)
                clear hK K bC
                refine wpAnyH_take (i := 7) (v := .tuple #[cVal P nk aC 1 cC (fun _ => -1), evVal 1 P k m 0 0, .int .i64 0]) rfl (by kernel_rfl) (by kernel_rfl) (by kernel_rfl) (fun _ _ _ h => h) (Or.inl ⟨by rfl, fun _ _ => by go_simp⟩) hHeld ?_
                simp only [List.getElem_toArray, List.getElem_cons_zero, List.getElem_cons_succ, Act.put, List.setIfInBounds_toArray, List.set_cons_zero, List.set_cons_succ]
                refine wpAnyH_take (i := 8) (v := cVal P nk aC 1 cC (fun _ => -1)) rfl (by kernel_rfl) (by kernel_rfl) (by kernel_rfl) (fun _ _ _ h => h) (Or.inl ⟨by rfl, fun _ _ => by go_simp⟩) hHeld ?_
                simp only [List.getElem_toArray, List.getElem_cons_zero, List.getElem_cons_succ, Act.put, List.setIfInBounds_toArray, List.set_cons_zero, List.set_cons_succ]
                refine wpAnyH_take (i := 9) (v := evVal 1 P k m 0 0) rfl (by kernel_rfl) (by kernel_rfl) (by kernel_rfl) (fun _ _ _ h => h) (Or.inl ⟨by rfl, fun _ _ => by go_simp⟩) hHeld ?_
                simp only [List.getElem_toArray, List.getElem_cons_zero, List.getElem_cons_succ, Act.put, List.setIfInBounds_toArray, List.set_cons_zero, List.set_cons_succ]
                refine wpAnyH_take (i := 10) (v := .int .i64 0) rfl (by kernel_rfl) (by kernel_rfl) (by kernel_rfl) (fun _ _ _ h => h) (Or.inl ⟨by rfl, fun _ _ => by go_simp⟩) hHeld ?_
                simp only [List.getElem_toArray, List.getElem_cons_zero, List.getElem_cons_succ, Act.put, List.setIfInBounds_toArray, List.set_cons_zero, List.set_cons_succ]
                refine wpAnyH_ready (rs := [13]) (by kernel_rfl) (by simp) ?_
                refine AllReadyH.cons rfl (fun K hK => ?_) AllReadyH.nil
                simp only [List.getElem_toArray, List.getElem_cons_zero, List.getElem_cons_succ]
                obtain ⟨z0, z1, z2, z3, z4, z5, z6⟩ := zA.cells
                have zf := zA.free
                go_simp
                obtain ⟨We, hWe, dE, bE, tE⟩ := c_stored zA bW0ABC upA P nk aC 1 cC (fun _ => -1)
                rw [← hWe]
                clear hWe z0 z1 z2 z3 z4 z5 z6 zf
                have iE := iC.turn tE (fun x hx h0 => by have := uC x hx; omega)
                have zB := zB.turned tE (by omega)
                refine hK.out _ _ bE (fun hHeld => ?_)
                clear hK K
                refine wpAnyH_ready (rs := [14]) (by kernel_rfl) (by simp) ?_
                refine AllReadyH.cons rfl (fun K hK => ?_) AllReadyH.nil
                simp only [List.getElem_toArray, List.getElem_cons_zero, List.getElem_cons_succ]
                obtain ⟨z0, z1, z2, z3, z4, z5⟩ := zB.cells
                have zf := zB.free
                go_simp
                obtain ⟨Wf, hWf, eF, bF, tF⟩ := e_stored zB bE upB 1 P k m 0 0
                rw [← hWf]
                clear hWf z0 z1 z2 z3 z4 z5 zf
                have iF := iE.turn tF (fun x hx h0 => by have := uC x hx; omega)
                have dF := dE.turned tF (by omega)
                refine hK.out _ _ bF (fun hHeld => ?_)
                clear hK K
                refine wpAnyH_take (i := 15) (v := .int .i64 0) rfl (by kernel_rfl) (by kernel_rfl) (by kernel_rfl) (fun _ _ _ h => h) (Or.inl ⟨by rfl, fun _ _ => by go_simp⟩) hHeld ?_
                simp only [List.getElem_toArray, List.getElem_cons_zero, List.getElem_cons_succ, Act.put, List.setIfInBounds_toArray, List.set_cons_zero, List.set_cons_succ]
                refine wpAnyH_done (by kernel_rfl) ?_ _
                go_wp2_with fail
                go_meet
                exact ⟨XA, XB, aC, cC, rfl, rfl, rfl, ⟨dF, eF, iF, bF, upA, upB, by omega, fun x hx => gC x hx⟩⟩
        · simp only [List.getElem_toArray, List.getElem_cons_zero, List.getElem_cons_succ]
          go_simp
          obtain ⟨W0B, hW0B, zB, bA⟩ := ze_made W0
          rw [← hW0B]
          clear hW0B
          obtain ⟨XB, hX⟩ : ∃ X, X = W0.heap.size := ⟨_, rfl⟩
          have upB : wr.heap.size ≤ XB := by rw [hX]; exact bW0.size
          have hlB : XB < W0B.heap.size := by rw [hX]; exact zB.lt
          have heB : W0.heap.size ≤ XB := by omega
          have hfB : XB ≤ W0.heap.size := by omega
          rw [← hX] at zB ⊢
          clear hX
          have bW0B := Below.next bW0 bA
          refine hK.out _ _ bW0B (fun hHeld => ?_)
          clear hK K bA
          refine wpAnyH_ready (rs := [5, 11]) (by kernel_rfl) (by simp) ?_
          refine AllReadyH.cons rfl (fun K hK => ?_) (AllReadyH.cons rfl (fun K hK => ?_) AllReadyH.nil)
          · simp only [List.getElem_toArray, List.getElem_cons_zero, List.getElem_cons_succ]
            go_simp
            refine (P2 _).mono ?_
            rintro x w9 ⟨rfl, hw9⟩
            subst w9
            refine hK.out _ _ bW0B (fun hHeld => ?_)
            clear hK K
            refine wpAnyH_ready (rs := [6, 11]) (by kernel_rfl) (by simp) ?_
            refine AllReadyH.cons rfl (fun K hK => ?_) (AllReadyH.cons rfl (fun K hK => ?_) AllReadyH.nil)
            · simp only [List.getElem_toArray, List.getElem_cons_zero, List.getElem_cons_succ]
              go_simp
              refine (unveil HSd _ bW0B).mono ?_
              rintro x W0BC ⟨aC, cC, rfl, iC, uC, bC⟩
              have bW0BC := Below.next bW0B bC
              have iC0 := iC
              have gC : ∀ x, aC = some x → wr.heap.size ≤ x.block := fun x hx => Nat.le_trans bW0B.size (uC x hx)
              have hsW0BC : W0B.heap.size ≤ W0BC.heap.size := bC.size
              have zB := zB.next bC
              refine hK.out _ _ bW0BC (fun hHeld => ?_)
              clear hK K bC
              refine wpAnyH_take (i := 7) (v := .tuple #[cVal P nk aC 1 cC (fun _ => -1), evVal 1 P k m 0 0, .int .i64 0]) rfl (by kernel_rfl) (by kernel_rfl) (by kernel_rfl) (fun _ _ _ h => h) (Or.inl ⟨by rfl, fun _ _ => by go_simp⟩) hHeld ?_
              simp only [List.getElem_toArray, List.getElem_cons_zero, List.getElem_cons_succ, Act.put, List.setIfInBounds_toArray, List.set_cons_zero, List.set_cons_succ]
              refine wpAnyH_take (i := 8) (v := cVal P nk aC 1 cC (fun _ => -1)) rfl (by kernel_rfl) (by kernel_rfl) (by kernel_rfl) (fun _ _ _ h => h) (Or.inl ⟨by rfl, fun _ _ => by go_simp⟩) hHeld ?_
              simp only [List.getElem_toArray, List.getElem_cons_zero, List.getElem_cons_succ, Act.put, List.setIfInBounds_toArray, List.set_cons_zero, List.set_cons_succ]
              refine wpAnyH_take (i := 9) (v := evVal 1 P k m 0 0) rfl (by kernel_rfl) (by kernel_rfl) (by kernel_rfl) (fun _ _ _ h => h) (Or.inl ⟨by rfl, fun _ _ => by go_simp⟩) hHeld ?_
              simp only [List.getElem_toArray, List.getElem_cons_zero, List.getElem_cons_succ, Act.put, List.setIfInBounds_toArray, List.set_cons_zero, List.set_cons_succ]
              refine wpAnyH_take (i := 10) (v := .int .i64 0) rfl (by kernel_rfl) (by kernel_rfl) (by kernel_rfl) (fun _ _ _ h => h) (Or.inl ⟨by rfl, fun _ _ => by go_simp⟩) hHeld ?_
              simp only [List.getElem_toArray, List.getElem_cons_zero, List.getElem_cons_succ, Act.put, List.setIfInBounds_toArray, List.set_cons_zero, List.set_cons_succ]
              refine wpAnyH_ready (rs := [11]) (by kernel_rfl) (by simp) ?_
              refine AllReadyH.cons rfl (fun K hK => ?_) AllReadyH.nil
              · simp only [List.getElem_toArray, List.getElem_cons_zero, List.getElem_cons_succ]
                go_simp
                obtain ⟨W0BCA, hW0BCA, zA, bA⟩ := za_made W0BC
                rw [← hW0BCA]
                clear hW0BCA
                obtain ⟨XA, hX⟩ : ∃ X, X = W0BC.heap.size := ⟨_, rfl⟩
                have upA : wr.heap.size ≤ XA := by rw [hX]; exact bW0BC.size
                have hlA : XA < W0BCA.heap.size := by rw [hX]; exact zA.lt
                have heA : W0BC.heap.size ≤ XA := by omega
                have hfA : XA ≤ W0BC.heap.size := by omega
                rw [← hX] at zA ⊢
                clear hX
                have bW0BCA := Below.next bW0BC bA
                have iC := iC.next bA
                have zB := zB.next bA
                refine hK.out _ _ bW0BCA (fun hHeld => ?_)
                clear hK K bA
                refine wpAnyH_ready (rs := [13]) (by kernel_rfl) (by simp) ?_
                refine AllReadyH.cons rfl (fun K hK => ?_) AllReadyH.nil
                simp only [List.getElem_toArray, List.getElem_cons_zero, List.getElem_cons_succ]
                obtain ⟨z0, z1, z2, z3, z4, z5, z6⟩ := zA.cells
                have zf := zA.free
                go_simp
                obtain ⟨We, hWe, dE, bE, tE⟩ := c_stored zA bW0BCA upA P nk aC 1 cC (fun _ => -1)
                rw [← hWe]
                clear hWe z0 z1 z2 z3 z4 z5 z6 zf
                have iE := iC.turn tE (fun x hx h0 => by have := iC0.lt x hx h0; omega)
                have zB := zB.turned tE (by omega)
                refine hK.out _ _ bE (fun hHeld => ?_)
                clear hK K
                refine wpAnyH_ready (rs := [14]) (by kernel_rfl) (by simp) ?_
                refine AllReadyH.cons rfl (fun K hK => ?_) AllReadyH.nil
                simp only [List.getElem_toArray, List.getElem_cons_zero, List.getElem_cons_succ]
                obtain ⟨z0, z1, z2, z3, z4, z5⟩ := zB.cells
                have zf := zB.free
                go_simp
                obtain ⟨Wf, hWf, eF, bF, tF⟩ := e_stored zB bE upB 1 P k m 0 0
                rw [← hWf]
                clear hWf z0 z1 z2 z3 z4 z5 zf
                have iF := iE.turn tF (fun x hx h0 => by have := uC x hx; omega)
                have dF := dE.turned tF (by omega)
                refine hK.out _ _ bF (fun hHeld => ?_)
                clear hK K
                refine wpAnyH_take (i := 15) (v := .int .i64 0) rfl (by kernel_rfl) (by kernel_rfl) (by kernel_rfl) (fun _ _ _ h => h) (Or.inl ⟨by rfl, fun _ _ => by go_simp⟩) hHeld ?_
                simp only [List.getElem_toArray, List.getElem_cons_zero, List.getElem_cons_succ, Act.put, List.setIfInBounds_toArray, List.set_cons_zero, List.set_cons_succ]
                refine wpAnyH_done (by kernel_rfl) ?_ _
                go_wp2_with fail
                go_meet
                exact ⟨XA, XB, aC, cC, rfl, rfl, rfl, ⟨dF, eF, iF, bF, upA, upB, by omega, fun x hx => gC x hx⟩⟩
            · simp only [List.getElem_toArray, List.getElem_cons_zero, List.getElem_cons_succ]
              go_simp
              obtain ⟨W0BA, hW0BA, zA, bA⟩ := za_made W0B
              rw [← hW0BA]
              clear hW0BA
              obtain ⟨XA, hX⟩ : ∃ X, X = W0B.heap.size := ⟨_, rfl⟩
              have upA : wr.heap.size ≤ XA := by rw [hX]; exact bW0B.size
              have hlA : XA < W0BA.heap.size := by rw [hX]; exact zA.lt
              have heA : W0B.heap.size ≤ XA := by omega
              have hfA : XA ≤ W0B.heap.size := by omega
              rw [← hX] at zA ⊢
              clear hX
              have bW0BA := Below.next bW0B bA
              have zB := zB.next bA
              refine hK.out _ _ bW0BA (fun hHeld => ?_)
              clear hK K bA
              refine wpAnyH_ready (rs := [6]) (by kernel_rfl) (by simp) ?_
              refine AllReadyH.cons rfl (fun K hK => ?_) AllReadyH.nil
              · simp only [List.getElem_toArray, List.getElem_cons_zero, List.getElem_cons_succ]
                go_simp
                refine (unveil HSd _ bW0BA).mono ?_
                rintro x W0BAC ⟨aC, cC, rfl, iC, uC, bC⟩
                have bW0BAC := Below.next bW0BA bC
                have iC0 := iC
                have gC : ∀ x, aC = some x → wr.heap.size ≤ x.block := fun x hx => Nat.le_trans bW0BA.size (uC x hx)
                have hsW0BAC : W0BA.heap.size ≤ W0BAC.heap.size := bC.size
                have zA := zA.next bC
                have zB := zB.next bC
                refine hK.out _ _ bW0BAC (fun hHeld => ?_)
                clear hK K bC
                refine wpAnyH_take (i := 7) (v := .tuple #[cVal P nk aC 1 cC (fun _ => -1), evVal 1 P k m 0 0, .int .i64 0]) rfl (by kernel_rfl) (by kernel_rfl) (by kernel_rfl) (fun _ _ _ h => h) (Or.inl ⟨by rfl, fun _ _ => by go_simp⟩) hHeld ?_
                simp only [List.getElem_toArray, List.getElem_cons_zero, List.getElem_cons_succ, Act.put, List.setIfInBounds_toArray, List.set_cons_zero, List.set_cons_succ]
                refine wpAnyH_take (i := 8) (v := cVal P nk aC 1 cC (fun _ => -1)) rfl (by kernel_rfl) (by kernel_rfl) (by kernel_rfl) (fun _ _ _ h => h) (Or.inl ⟨by rfl, fun _ _ => by go_simp⟩) hHeld ?_
                simp only [List.getElem_toArray, List.getElem_cons_zero, List.getElem_cons_succ, Act.put, List.setIfInBounds_toArray, List.set_cons_zero, List.set_cons_succ]
                refine wpAnyH_take (i := 9) (v := evVal 1 P k m 0 0) rfl (by kernel_rfl) (by kernel_rfl) (by kernel_rfl) (fun _ _ _ h => h) (Or.inl ⟨by rfl, fun _ _ => by go_simp⟩) hHeld ?_
                simp only [List.getElem_toArray, List.getElem_cons_zero, List.getElem_cons_succ, Act.put, List.setIfInBounds_toArray, List.set_cons_zero, List.set_cons_succ]
                refine wpAnyH_take (i := 10) (v := .int .i64 0) rfl (by kernel_rfl) (by kernel_rfl) (by kernel_rfl) (fun _ _ _ h => h) (Or.inl ⟨by rfl, fun _ _ => by go_simp⟩) hHeld ?_
                simp only [List.getElem_toArray, List.getElem_cons_zero, List.getElem_cons_succ, Act.put, List.setIfInBounds_toArray, List.set_cons_zero, List.set_cons_succ]
                refine wpAnyH_ready (rs := [13]) (by kernel_rfl) (by simp) ?_
                refine AllReadyH.cons rfl (fun K hK => ?_) AllReadyH.nil
                simp only [List.getElem_toArray, List.getElem_cons_zero, List.getElem_cons_succ]
                obtain ⟨z0, z1, z2, z3, z4, z5, z6⟩ := zA.cells
                have zf := zA.free
                go_simp
                obtain ⟨We, hWe, dE, bE, tE⟩ := c_stored zA bW0BAC upA P nk aC 1 cC (fun _ => -1)
                rw [← hWe]
                clear hWe z0 z1 z2 z3 z4 z5 z6 zf
                have iE := iC.turn tE (fun x hx h0 => by have := uC x hx; omega)
                have zB := zB.turned tE (by omega)
                refine hK.out _ _ bE (fun hHeld => ?_)
                clear hK K
                refine wpAnyH_ready (rs := [14]) (by kernel_rfl) (by simp) ?_
                refine AllReadyH.cons rfl (fun K hK => ?_) AllReadyH.nil
                simp only [List.getElem_toArray, List.getElem_cons_zero, List.getElem_cons_succ]
                obtain ⟨z0, z1, z2, z3, z4, z5⟩ := zB.cells
                have zf := zB.free
                go_simp
                obtain ⟨Wf, hWf, eF, bF, tF⟩ := e_stored zB bE upB 1 P k m 0 0
                rw [← hWf]
                clear hWf z0 z1 z2 z3 z4 z5 zf
                have iF := iE.turn tF (fun x hx h0 => by have := uC x hx; omega)
                have dF := dE.turned tF (by omega)
                refine hK.out _ _ bF (fun hHeld => ?_)
                clear hK K
                refine wpAnyH_take (i := 15) (v := .int .i64 0) rfl (by kernel_rfl) (by kernel_rfl) (by kernel_rfl) (fun _ _ _ h => h) (Or.inl ⟨by rfl, fun _ _ => by go_simp⟩) hHeld ?_
                simp only [List.getElem_toArray, List.getElem_cons_zero, List.getElem_cons_succ, Act.put, List.setIfInBounds_toArray, List.set_cons_zero, List.set_cons_succ]
                refine wpAnyH_done (by kernel_rfl) ?_ _
                go_wp2_with fail
                go_meet
                exact ⟨XA, XB, aC, cC, rfl, rfl, rfl, ⟨dF, eF, iF, bF, upA, upB, by omega, fun x hx => gC x hx⟩⟩
          · simp only [List.getElem_toArray, List.getElem_cons_zero, List.getElem_cons_succ]
            go_simp
            obtain ⟨W0BA, hW0BA, zA, bA⟩ := za_made W0B
            rw [← hW0BA]
            clear hW0BA
            obtain ⟨XA, hX⟩ : ∃ X, X = W0B.heap.size := ⟨_, rfl⟩
            have upA : wr.heap.size ≤ XA := by rw [hX]; exact bW0B.size
            have hlA : XA < W0BA.heap.size := by rw [hX]; exact zA.lt
            have heA : W0B.heap.size ≤ XA := by omega
            have hfA : XA ≤ W0B.heap.size := by omega
            rw [← hX] at zA ⊢
            clear hX
            have bW0BA := Below.next bW0B bA
            have zB := zB.next bA
            refine hK.out _ _ bW0BA (fun hHeld => ?_)
            clear hK K bA
            refine wpAnyH_ready (rs := [5]) (by kernel_rfl) (by simp) ?_
            refine AllReadyH.cons rfl (fun K hK => ?_) AllReadyH.nil
            · simp only [List.getElem_toArray, List.getElem_cons_zero, List.getElem_cons_succ]
              go_simp
              refine (P2 _).mono ?_
              rintro x w9 ⟨rfl, hw9⟩
              subst w9
              refine hK.out _ _ bW0BA (fun hHeld => ?_)
              clear hK K
              refine wpAnyH_ready (rs := [6]) (by kernel_rfl) (by simp) ?_
              refine AllReadyH.cons rfl (fun K hK => ?_) AllReadyH.nil
              · simp only [List.getElem_toArray, List.getElem_cons_zero, List.getElem_cons_succ]
                go_simp
                refine (unveil HSd _ bW0BA).mono ?_
                rintro x W0BAC ⟨aC, cC, rfl, iC, uC, bC⟩
                have bW0BAC := Below.next bW0BA bC
                have iC0 := iC
                have gC : ∀ x, aC = some x → wr.heap.size ≤ x.block := fun x hx => Nat.le_trans bW0BA.size (uC x hx)
                have hsW0BAC : W0BA.heap.size ≤ W0BAC.heap.size := bC.size
                have zA := zA.next bC
                have zB := zB.next bC
                refine hK.out _ _ bW0BAC (fun hHeld => ?_)
                clear hK K bC
                refine wpAnyH_take (i := 7) (v := .tuple #[cVal P nk aC 1 cC (fun _ => -1), evVal 1 P k m 0 0, .int .i64 0]) rfl (by kernel_rfl) (by kernel_rfl) (by kernel_rfl) (fun _ _ _ h => h) (Or.inl ⟨by rfl, fun _ _ => by go_simp⟩) hHeld ?_
                simp only [List.getElem_toArray, List.getElem_cons_zero, List.getElem_cons_succ, Act.put, List.setIfInBounds_toArray, List.set_cons_zero, List.set_cons_succ]
                refine wpAnyH_take (i := 8) (v := cVal P nk aC 1 cC (fun _ => -1)) rfl (by kernel_rfl) (by kernel_rfl) (by kernel_rfl) (fun _ _ _ h => h) (Or.inl ⟨by rfl, fun _ _ => by go_simp⟩) hHeld ?_
                simp only [List.getElem_toArray, List.getElem_cons_zero, List.getElem_cons_succ, Act.put, List.setIfInBounds_toArray, List.set_cons_zero, List.set_cons_succ]
                refine wpAnyH_take (i := 9) (v := evVal 1 P k m 0 0) rfl (by kernel_rfl) (by kernel_rfl) (by kernel_rfl) (fun _ _ _ h => h) (Or.inl ⟨by rfl, fun _ _ => by go_simp⟩) hHeld ?_
                simp only [List.getElem_toArray, List.getElem_cons_zero, List.getElem_cons_succ, Act.put, List.setIfInBounds_toArray, List.set_cons_zero, List.set_cons_succ]
                refine wpAnyH_take (i := 10) (v := .int .i64 0) rfl (by kernel_rfl) (by kernel_rfl) (by kernel_rfl) (fun _ _ _ h => h) (Or.inl ⟨by rfl, fun _ _ => by go_simp⟩) hHeld ?_
                simp only [List.getElem_toArray, List.getElem_cons_zero, List.getElem_cons_succ, Act.put, List.setIfInBounds_toArray, List.set_cons_zero, List.set_cons_succ]
                refine wpAnyH_ready (rs := [13]) (by kernel_rfl) (by simp) ?_
                refine AllReadyH.cons rfl (fun K hK => ?_) AllReadyH.nil
                simp only [List.getElem_toArray, List.getElem_cons_zero, List.getElem_cons_succ]
                obtain ⟨z0, z1, z2, z3, z4, z5, z6⟩ := zA.cells
                have zf := zA.free
                go_simp
                obtain ⟨We, hWe, dE, bE, tE⟩ := c_stored zA bW0BAC upA P nk aC 1 cC (fun _ => -1)
                rw [← hWe]
                clear hWe z0 z1 z2 z3 z4 z5 z6 zf
                have iE := iC.turn tE (fun x hx h0 => by have := uC x hx; omega)
                have zB := zB.turned tE (by omega)
                refine hK.out _ _ bE (fun hHeld => ?_)
                clear hK K
                refine wpAnyH_ready (rs := [14]) (by kernel_rfl) (by simp) ?_
                refine AllReadyH.cons rfl (fun K hK => ?_) AllReadyH.nil
                simp only [List.getElem_toArray, List.getElem_cons_zero, List.getElem_cons_succ]
                obtain ⟨z0, z1, z2, z3, z4, z5⟩ := zB.cells
                have zf := zB.free
                go_simp
                obtain ⟨Wf, hWf, eF, bF, tF⟩ := e_stored zB bE upB 1 P k m 0 0
                rw [← hWf]
                clear hWf z0 z1 z2 z3 z4 z5 zf
                have iF := iE.turn tF (fun x hx h0 => by have := uC x hx; omega)
                have dF := dE.turned tF (by omega)
                refine hK.out _ _ bF (fun hHeld => ?_)
                clear hK K
                refine wpAnyH_take (i := 15) (v := .int .i64 0) rfl (by kernel_rfl) (by kernel_rfl) (by kernel_rfl) (fun _ _ _ h => h) (Or.inl ⟨by rfl, fun _ _ => by go_simp⟩) hHeld ?_
                simp only [List.getElem_toArray, List.getElem_cons_zero, List.getElem_cons_succ, Act.put, List.setIfInBounds_toArray, List.set_cons_zero, List.set_cons_succ]
                refine wpAnyH_done (by kernel_rfl) ?_ _
                go_wp2_with fail
                go_meet
                exact ⟨XA, XB, aC, cC, rfl, rfl, rfl, ⟨dF, eF, iF, bF, upA, upB, by omega, fun x hx => gC x hx⟩⟩
      case rest =>
        obtain ⟨A, B, aC, cC, rfl, rfl, rfl, S⟩ := hcut
        obtain ⟨W4, hW4⟩ : ∃ W4, W4 = wc := ⟨_, rfl⟩
        subst hW4
        have HS := veil S
        clear S HSd HX P2 hy hbl
        obtain ⟨v0, v1, v2, v3, v4, v5⟩ := (unveil HS).eb.cells
        have HCk : Hid (∀ W, Calls Try.prog 30 #[evVal 1 P k m 0 0] W fun e w' => e = .returned (.int .i64 0) ∧ Below W.heap.size W w') := veil fun W => by
          have := check_any 1 P k m 0 0 W
          rwa [show eventFault 1 P k m 0 0 = 0 from by unfold eventFault; rw [if_pos rfl, if_neg (by have := unveil hm'; omega), if_pos ⟨rfl, rfl⟩]] at this
        have hkk : ((k : Int) != (k : Int)) = false := by simp
        have hpp : (P != P) = false := by simp
        go_wp2_with fail
        go_cut [61] (fun c wx => c = .bool false ∧ Below W4.heap.size W4 wx)
        case first =>
          first | go_region_with (first
            | (go_at_call 27; refine (P1 _).mono ?_; rintro r w5 ⟨rfl, hw5⟩; subst w5)
            | (go_at_call 30; refine (unveil HCk _).mono ?_; rintro r w6 ⟨rfl, bb'⟩; have b6 : Below W4.heap.size W4 w6 := (by first | exact bb' | exact Below.next (belowN _ _) bb' | exact Below.next (drew_below _) bb'))) | fail
          all_goals (try go_wp2_with fail)
          all_goals go_meet
          all_goals exact ⟨rfl, b6⟩
        case rest =>
        obtain ⟨rfl, b5⟩ := hcut
        obtain ⟨W5, hW5⟩ : ∃ W5, W5 = wc := ⟨_, rfl⟩
        subst hW5
        have HS5 := veil ((unveil HS).next b5)
        have HI5 := veil ((unveil HI).next (unveil HS5).bel)
        clear v0 v1 v2 v3 v4 v5 HS HI b5 HCk
        have HDn : Calls Try.prog 21 #[cVal P nk aC 1 cC (fun _ => -1), .int .i64 k] W5 fun e w' => ∃ a' c', e = .returned (.tuple #[cVal P nk a' 0 c' (fun _ => -1), .int .i64 0]) ∧ CIn w' ⟨P, nk, [], fun _ => -1⟩ a' c' ∧ (∀ x, a' = some x → W5.heap.size ≤ x.block) ∧ Below W5.heap.size W5 w' := done_yes ⟨P, nk, [⟨1, P, k, m, 0, 0⟩], fun _ => -1⟩ aC cC W5 (unveil HS5).i (by rw [unveil HNK]; exact Cl.Ok.sent (idl_ok hP3 k hk60) (by have := unveil hm'; omega) (idl_full k hk60)) k 0 (by show 0 < 1; omega) rfl
        obtain ⟨c0, c1, c2, c3, c4, c5, c6⟩ := (unveil HS5).cb.cells
        go_upto_region 9 with (go_at_call 21; refine HDn.mono ?_; rintro e W6 ⟨a6, k6, rfl, i6, u6, d6⟩; clear HDn c0 c1 c2 c3 c4 c5 c6; have HI6 := veil (And.intro i6 d6); clear i6 u6 d6)
        obtain ⟨W7, hW7, I7, gb7, hs7⟩ : ∃ W7, W7 = W6.alloc (.cells (cCells P nk a6 0 k6 (fun _ => -1)) 25) ∧ Idl w W7 X P k a c ∧ cBlock W7 W6.heap.size P nk a6 0 k6 (fun _ => -1) ∧ X < W6.heap.size := ⟨_, rfl, ((unveil HI5).next (unveil HI6).2).next (below1 _ _), cBlock.new _ _ _ _ _ _ _, ((unveil HI5).next (unveil HI6).2).cb.lt⟩
        rw [← hW7]
        clear hW7
        have hn6 := (unveil HI6).1.nil
        generalize W6.heap.size = G at *
        obtain ⟨c0, c1, c2, c3, c4, c5, c6⟩ := gb7.cells
        obtain ⟨x0, x1, x2, x3, x4, x5, x6⟩ := I7.cb.cells
        have xf := I7.cb.free
        have HI7 := veil I7
        have HN6 := veil hn6
        clear gb7 I7 HI6 HI5 HS5 hn6
        have hXG : X ≠ G := by omega
        have hGX : G ≠ X := by omega
        go_upto_region 4 with fail
        obtain ⟨W8, hW8, cb8, B8, tn8⟩ := c_stored (unveil HI7).cb (unveil HI7).bel (unveil HI7).up P nk a6 0 k6 (fun _ => -1)
        rw [← hW8]
        have HI8 : Hid (Idl w W8 X P (k + 1) a6 k6) := veil ⟨by rw [unveil HNK] at cb8; exact cb8, unveil HN6, B8, (unveil HI7).up⟩
        clear hW8 c0 c1 c2 c3 c4 c5 c6 x0 x1 x2 x3 x4 x5 x6 xf cb8 B8 tn8
        go_wp2
        go_roundw
        case rel => exact ⟨k + 1, a6, k6, by omega, by omega, by go_num, HI8⟩
        case measure => simp [intOf]; omega
    case neg =>
      have HDn : Calls Try.prog 21 #[cVal P k a 0 c (fun _ => -1), .int .i64 0] wr fun e w' => ∃ a' c', e = .returned (.tuple #[cVal 0 0 a' 0 c' (fun _ => 0), .int .i64 7]) ∧ Below wr.heap.size wr w' := done_none ⟨P, k, [], fun _ => -1⟩ a c wr ((unveil HI).cin wr) (idl_ok hP3 k hk60) 0 (fun v hv => by cases hv)
      obtain ⟨c0, c1, c2, c3, c4, c5, c6⟩ := (unveil HI).cb.cells
      have key : ((¬ (k : Int) < (len : Int)) ∧ k = len) ∨ ((k : Int) < (len : Int) ∧ k = 60) := by omega
      clear hlt
      rcases key with ⟨hk1, hk2⟩ | ⟨hk1, hk2⟩
      · subst hk2
        go_upto_region 13 with (go_at_call 21; refine HDn.mono ?_; rintro e W6 ⟨a6, k6, rfl, d6⟩; clear HDn c0 c1 c2 c3 c4 c5 c6)
        obtain ⟨W7, hW7, I7⟩ : ∃ W7, W7 = W6.alloc (.cells (cCells 0 0 a6 0 k6 (fun _ => 0)) 25) ∧ Idl w W7 X P k a c := ⟨_, rfl, ((unveil HI).next d6).next (below1 _ _)⟩
        rw [← hW7]
        clear hW7 d6
        obtain ⟨c0, c1, c2, c3, c4, c5, c6⟩ := I7.cb.cells
        have HI7 := veil I7
        clear I7
        go_wp2
        go_ret
        exact ⟨by simp; omega, (unveil HI7).bel⟩
      · subst hk2
        go_upto_region 13 with (go_at_call 21; refine HDn.mono ?_; rintro e W6 ⟨a6, k6, rfl, d6⟩; clear HDn c0 c1 c2 c3 c4 c5 c6)
        obtain ⟨W7, hW7, I7⟩ : ∃ W7, W7 = W6.alloc (.cells (cCells 0 0 a6 0 k6 (fun _ => 0)) 25) ∧ Idl w W7 X P 60 a c := ⟨_, rfl, ((unveil HI).next d6).next (below1 _ _)⟩
        rw [← hW7]
        clear hW7 d6
        obtain ⟨c0, c1, c2, c3, c4, c5, c6⟩ := I7.cb.cells
        have HI7 := veil I7
        clear I7
        go_wp2
        go_ret
        exact ⟨by simp; omega, (unveil HI7).bel⟩
end Go.Proofs.Ytjolamdlclcpcaa
