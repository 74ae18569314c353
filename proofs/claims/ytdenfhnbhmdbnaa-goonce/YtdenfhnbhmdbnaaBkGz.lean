/- The walk of berthshiftkeep.GoOnce. -/
import Derived.Test.YtdenfhnbhmdbnaaBkAll
namespace Go.Proofs.Ytdenfhnbhmdbnaa
open Go.RowKit

set_option maxRecDepth 20000 in
set_option maxHeartbeats 4000000 in
theorem walk_GoOnce (w : World) (ep : Int) (wep : (Lit.int .i64 ep).wf = true) (a0 : Option Addr) (len cap : Nat) (D : List Int) (h : RowK .i64 w a0 (4 * len) D) (_ : len ≤ cap) (_ : cap ≤ maxLen) (_ : a0 = none → cap = 0) (pa : Int) (wpa : (Lit.int .i64 pa).wf = true) (pb : Int) (wpb : (Lit.int .i64 pb).wf = true) :
    Calls Try.prog 10 #[.int .i64 ep, .slice a0 len cap, .int .i64 pa, .int .i64 pb] w fun r w' => r = .returned (.bool true) ∧ Below w.heap.size w w' := by
  have HSv := kserved_any ep a0 len cap 20 D w h wep (by omega)
  clear h
  have p0 := pickedOf_range pa 5 (by decide)
  have Pp : ∀ w, Calls Try.prog 16 #[.int .i64 pa, .int .i64 5] w fun e w' => e = .returned (.int .i64 (pickedOf pa 5)) ∧ w' = w := fun w => (picked_any pa 5 w wpa (by decide) (by decide)).mono fun _ _ h => ⟨h.1, h.2.symm⟩
  generalize pickedOf pa 5 = p at p0 Pp
  have q0 := pickedOf_range pb 5 (by decide)
  have Pq : ∀ w, Calls Try.prog 16 #[.int .i64 pb, .int .i64 5] w fun e w' => e = .returned (.int .i64 (pickedOf pb 5)) ∧ w' = w := fun w => (picked_any pb 5 w wpb (by decide) (by decide)).mono fun _ _ h => ⟨h.1, h.2.symm⟩
  generalize pickedOf pb 5 = q at q0 Pq
  go_enter Try.func10, Try.ntmps10
  go_upto_region 2 with (go_at_call 14; refine HSv.mono ?_; rintro x V1 ⟨E, es, s, ans, y, rfl, hist, hl, nb, hE1, hE2, ⟨⟨a, c, rfl, i1, u1⟩⟩, b1⟩; clear HSv)
  obtain ⟨W1, hW1, K1, _⟩ := Kb.new i1 (Below.refl _ _) b1
  rw [← hW1]
  obtain ⟨Rb, hR⟩ : ∃ R, R = V1.heap.size := ⟨_, rfl⟩
  rw [← hR] at K1 ⊢
  clear hW1 hR i1 u1 b1
  have ht := hist.tells
  have HH := veil hist
  have HNB := veil nb
  clear hist nb
  have HKb := veil K1
  clear K1
  have ok := ht.act_ok (E := E) (by omega) hE1 (by omega)
  have okd := ht.drn_ok (E := E) (t := p) (o := 0) (by omega) hE1 (by omega) (by omega) (by omega) (by omega) (by omega)
  have HG1 : Hid (∀ W, Below W1.heap.size W1 W → Calls Try.prog 15 #[bVal 1 E 0 0 0 a es.length c, .int .i64 p] W fun x w' => ∃ a' c', x = .returned (.tuple #[bVal 2 E 0 p 0 a' es.length c', .int .i64 0]) ∧ BIn w' (Bt.drn E p 0 es) a' c' ∧ (∀ x, a' = some x → W.heap.size ≤ x.block) ∧ Below W.heap.size W w') := veil fun W b => go_act E es s ans a c W p ((unveil HKb).i.next b) ht (by omega) hE1 hE2 (by omega) (by omega)
  go_cut [11, 12] (fun pX eX wx => ∃ (X : Nat) (a3 : Option Addr) (c3 : Nat), pX = .pointer (some ⟨X, 0, none⟩) ∧ eX = .int .i64 0 ∧ bBlock wx X 2 E 0 p 0 a3 es.length c3 ∧ BIn wx (Bt.drn E p 0 es) a3 c3 ∧ (∀ x, a3 = some x → 0 < es.length → x.block ≠ X) ∧ W1.heap.size ≤ X ∧ Below W1.heap.size W1 wx)
  case first =>
    refine wp_region_held_drew (S := Below W1.heap.size W1) (by kernel_rfl) (below_drew W1) (fun hHeld => ?_)
    refine wpAnyH_take (i := 0) (v := bVal 1 E 0 0 0 a es.length c) rfl (by kernel_rfl) (by kernel_rfl) (by kernel_rfl) (fun _ _ _ h => h) (Or.inl ⟨by rfl, fun u b => by obtain ⟨y0, y1, y2, y3, y4, y5⟩ := ((unveil HKb).next b).b.cells; go_simp⟩) hHeld ?_
    simp only [List.getElem_toArray, List.getElem_cons_zero, Act.put, List.setIfInBounds_toArray, List.set_cons_zero, List.set_cons_succ]
    refine wpAnyH_take (i := 1) (v := .int .i64 pa) rfl (by kernel_rfl) (by kernel_rfl) (by kernel_rfl) (fun _ _ _ h => h) (Or.inl ⟨by rfl, fun _ _ => by go_simp⟩) hHeld ?_
    simp only [List.getElem_toArray, List.getElem_cons_zero, List.getElem_cons_succ, Act.put, List.setIfInBounds_toArray, List.set_cons_zero, List.set_cons_succ]
    have bW0 := below_drew W1
    obtain ⟨W0, hW0⟩ : ∃ W0, W0 = W1.drew := ⟨_, rfl⟩
    rw [← hW0] at bW0 hHeld ⊢
    clear hW0
    refine wpAnyH_ready (rs := [2, 7]) (by kernel_rfl) (by simp) ?_
    refine AllReadyH.cons rfl (fun K hK => ?_) (AllReadyH.cons rfl (fun K hK => ?_) AllReadyH.nil)
    · simp only [List.getElem_toArray, List.getElem_cons_zero, List.getElem_cons_succ]
      go_simp
      refine (Pp _).mono ?_
      rintro x w9 ⟨rfl, hw9⟩
      subst w9
      refine hK.out _ _ bW0 (fun hHeld => ?_)
      clear hK K
      refine wpAnyH_ready (rs := [3, 7]) (by kernel_rfl) (by simp) ?_
      refine AllReadyH.cons rfl (fun K hK => ?_) (AllReadyH.cons rfl (fun K hK => ?_) AllReadyH.nil)
      · simp only [List.getElem_toArray, List.getElem_cons_zero, List.getElem_cons_succ]
        go_simp
        refine (unveil HG1 _ bW0).mono ?_
        rintro x W0PC ⟨a3, c3, rfl, iC, uC, bC⟩
        have bW0PC := Below.next bW0 bC
        have iC0 := iC
        have hsW0PC : W0.heap.size ≤ W0PC.heap.size := bC.size
        refine hK.out _ _ bW0PC (fun hHeld => ?_)
        clear hK K bC
        refine wpAnyH_take (i := 4) (v := .tuple #[bVal 2 E 0 p 0 a3 es.length c3, .int .i64 0]) rfl (by kernel_rfl) (by kernel_rfl) (by kernel_rfl) (fun _ _ _ h => h) (Or.inl ⟨by rfl, fun _ _ => by go_simp⟩) hHeld ?_
        simp only [List.getElem_toArray, List.getElem_cons_zero, List.getElem_cons_succ, Act.put, List.setIfInBounds_toArray, List.set_cons_zero, List.set_cons_succ]
        refine wpAnyH_take (i := 5) (v := bVal 2 E 0 p 0 a3 es.length c3) rfl (by kernel_rfl) (by kernel_rfl) (by kernel_rfl) (fun _ _ _ h => h) (Or.inl ⟨by rfl, fun _ _ => by go_simp⟩) hHeld ?_
        simp only [List.getElem_toArray, List.getElem_cons_zero, List.getElem_cons_succ, Act.put, List.setIfInBounds_toArray, List.set_cons_zero, List.set_cons_succ]
        refine wpAnyH_take (i := 6) (v := .int .i64 0) rfl (by kernel_rfl) (by kernel_rfl) (by kernel_rfl) (fun _ _ _ h => h) (Or.inl ⟨by rfl, fun _ _ => by go_simp⟩) hHeld ?_
        simp only [List.getElem_toArray, List.getElem_cons_zero, List.getElem_cons_succ, Act.put, List.setIfInBounds_toArray, List.set_cons_zero, List.set_cons_succ]
        refine wpAnyH_ready (rs := [7]) (by kernel_rfl) (by simp) ?_
        refine AllReadyH.cons rfl (fun K hK => ?_) AllReadyH.nil
        · simp only [List.getElem_toArray, List.getElem_cons_zero, List.getElem_cons_succ]
          go_simp
          obtain ⟨W0PCA, hW0PCA, zA, bA⟩ := zb_made W0PC
          rw [← hW0PCA]
          clear hW0PCA
          obtain ⟨XA, hX⟩ : ∃ X, X = W0PC.heap.size := ⟨_, rfl⟩
          have hXA : W1.heap.size ≤ XA := by rw [hX]; exact bW0PC.size
          have hXl : XA < W0PCA.heap.size := by rw [hX]; exact zA.lt
          have hXe : W0PC.heap.size ≤ XA := by omega
          rw [← hX] at zA ⊢
          clear hX
          have bW0PCA := Below.next bW0PC bA
          have iC := iC.next bA
          refine hK.out _ _ bW0PCA (fun hHeld => ?_)
          clear hK K bA
          refine wpAnyH_ready (rs := [8]) (by kernel_rfl) (by simp) ?_
          refine AllReadyH.cons rfl (fun K hK => ?_) AllReadyH.nil
          simp only [List.getElem_toArray, List.getElem_cons_zero, List.getElem_cons_succ]
          obtain ⟨z0, z1, z2, z3, z4, z5⟩ := zA.cells
          have zf := zA.free
          go_simp
          obtain ⟨We, hWe, dE, bE, tE⟩ := b_stored zA bW0PCA hXA 2 E 0 p 0 a3 es.length c3
          rw [← hWe]
          clear hWe z0 z1 z2 z3 z4 z5 zf
          have hf : ∀ x, a3 = some x → 0 < es.length → x.block ≠ XA := fun x hx h0 => by have := iC0.row.blk_lt x hx (by show 0 < 6 * es.length; omega); omega
          have iE := iC.turned tE hf
          refine hK.out _ _ bE (fun hHeld => ?_)
          clear hK K
          refine wpAnyH_take (i := 9) (v := .int .i64 0) rfl (by kernel_rfl) (by kernel_rfl) (by kernel_rfl) (fun _ _ _ h => h) (Or.inl ⟨by rfl, fun _ _ => by go_simp⟩) hHeld ?_
          simp only [List.getElem_toArray, List.getElem_cons_zero, List.getElem_cons_succ, Act.put, List.setIfInBounds_toArray, List.set_cons_zero, List.set_cons_succ]
          refine wpAnyH_done (by kernel_rfl) ?_ _
          go_wp2_with fail
          go_meet
          exact ⟨XA, a3, c3, rfl, rfl, dE, iE, hf, hXA, bE⟩
      · simp only [List.getElem_toArray, List.getElem_cons_zero, List.getElem_cons_succ]
        go_simp
        obtain ⟨W0PA, hW0PA, zA, bA⟩ := zb_made W0
        rw [← hW0PA]
        clear hW0PA
        obtain ⟨XA, hX⟩ : ∃ X, X = W0.heap.size := ⟨_, rfl⟩
        have hXA : W1.heap.size ≤ XA := by rw [hX]; exact bW0.size
        have hXl : XA < W0PA.heap.size := by rw [hX]; exact zA.lt
        have hXe : W0.heap.size ≤ XA := by omega
        rw [← hX] at zA ⊢
        clear hX
        have bW0PA := Below.next bW0 bA
        refine hK.out _ _ bW0PA (fun hHeld => ?_)
        clear hK K bA
        refine wpAnyH_ready (rs := [3]) (by kernel_rfl) (by simp) ?_
        refine AllReadyH.cons rfl (fun K hK => ?_) AllReadyH.nil
        · simp only [List.getElem_toArray, List.getElem_cons_zero, List.getElem_cons_succ]
          go_simp
          refine (unveil HG1 _ bW0PA).mono ?_
          rintro x W0PAC ⟨a3, c3, rfl, iC, uC, bC⟩
          have bW0PAC := Below.next bW0PA bC
          have iC0 := iC
          have hsW0PAC : W0PA.heap.size ≤ W0PAC.heap.size := bC.size
          have zA := zA.next bC
          refine hK.out _ _ bW0PAC (fun hHeld => ?_)
          clear hK K bC
          refine wpAnyH_take (i := 4) (v := .tuple #[bVal 2 E 0 p 0 a3 es.length c3, .int .i64 0]) rfl (by kernel_rfl) (by kernel_rfl) (by kernel_rfl) (fun _ _ _ h => h) (Or.inl ⟨by rfl, fun _ _ => by go_simp⟩) hHeld ?_
          simp only [List.getElem_toArray, List.getElem_cons_zero, List.getElem_cons_succ, Act.put, List.setIfInBounds_toArray, List.set_cons_zero, List.set_cons_succ]
          refine wpAnyH_take (i := 5) (v := bVal 2 E 0 p 0 a3 es.length c3) rfl (by kernel_rfl) (by kernel_rfl) (by kernel_rfl) (fun _ _ _ h => h) (Or.inl ⟨by rfl, fun _ _ => by go_simp⟩) hHeld ?_
          simp only [List.getElem_toArray, List.getElem_cons_zero, List.getElem_cons_succ, Act.put, List.setIfInBounds_toArray, List.set_cons_zero, List.set_cons_succ]
          refine wpAnyH_take (i := 6) (v := .int .i64 0) rfl (by kernel_rfl) (by kernel_rfl) (by kernel_rfl) (fun _ _ _ h => h) (Or.inl ⟨by rfl, fun _ _ => by go_simp⟩) hHeld ?_
          simp only [List.getElem_toArray, List.getElem_cons_zero, List.getElem_cons_succ, Act.put, List.setIfInBounds_toArray, List.set_cons_zero, List.set_cons_succ]
          refine wpAnyH_ready (rs := [8]) (by kernel_rfl) (by simp) ?_
          refine AllReadyH.cons rfl (fun K hK => ?_) AllReadyH.nil
          simp only [List.getElem_toArray, List.getElem_cons_zero, List.getElem_cons_succ]
          obtain ⟨z0, z1, z2, z3, z4, z5⟩ := zA.cells
          have zf := zA.free
          go_simp
          obtain ⟨We, hWe, dE, bE, tE⟩ := b_stored zA bW0PAC hXA 2 E 0 p 0 a3 es.length c3
          rw [← hWe]
          clear hWe z0 z1 z2 z3 z4 z5 zf
          have hf : ∀ x, a3 = some x → 0 < es.length → x.block ≠ XA := fun x hx h0 => by have := uC x hx; omega
          have iE := iC.turned tE hf
          refine hK.out _ _ bE (fun hHeld => ?_)
          clear hK K
          refine wpAnyH_take (i := 9) (v := .int .i64 0) rfl (by kernel_rfl) (by kernel_rfl) (by kernel_rfl) (fun _ _ _ h => h) (Or.inl ⟨by rfl, fun _ _ => by go_simp⟩) hHeld ?_
          simp only [List.getElem_toArray, List.getElem_cons_zero, List.getElem_cons_succ, Act.put, List.setIfInBounds_toArray, List.set_cons_zero, List.set_cons_succ]
          refine wpAnyH_done (by kernel_rfl) ?_ _
          go_wp2_with fail
          go_meet
          exact ⟨XA, a3, c3, rfl, rfl, dE, iE, hf, hXA, bE⟩
    · simp only [List.getElem_toArray, List.getElem_cons_zero, List.getElem_cons_succ]
      go_simp
      obtain ⟨W0A, hW0A, zA, bA⟩ := zb_made W0
      rw [← hW0A]
      clear hW0A
      obtain ⟨XA, hX⟩ : ∃ X, X = W0.heap.size := ⟨_, rfl⟩
      have hXA : W1.heap.size ≤ XA := by rw [hX]; exact bW0.size
      have hXl : XA < W0A.heap.size := by rw [hX]; exact zA.lt
      have hXe : W0.heap.size ≤ XA := by omega
      rw [← hX] at zA ⊢
      clear hX
      have bW0A := Below.next bW0 bA
      refine hK.out _ _ bW0A (fun hHeld => ?_)
      clear hK K bA
      refine wpAnyH_ready (rs := [2]) (by kernel_rfl) (by simp) ?_
      refine AllReadyH.cons rfl (fun K hK => ?_) AllReadyH.nil
      · simp only [List.getElem_toArray, List.getElem_cons_zero, List.getElem_cons_succ]
        go_simp
        refine (Pp _).mono ?_
        rintro x w9 ⟨rfl, hw9⟩
        subst w9
        refine hK.out _ _ bW0A (fun hHeld => ?_)
        clear hK K
        refine wpAnyH_ready (rs := [3]) (by kernel_rfl) (by simp) ?_
        refine AllReadyH.cons rfl (fun K hK => ?_) AllReadyH.nil
        · simp only [List.getElem_toArray, List.getElem_cons_zero, List.getElem_cons_succ]
          go_simp
          refine (unveil HG1 _ bW0A).mono ?_
          rintro x W0APC ⟨a3, c3, rfl, iC, uC, bC⟩
          have bW0APC := Below.next bW0A bC
          have iC0 := iC
          have hsW0APC : W0A.heap.size ≤ W0APC.heap.size := bC.size
          have zA := zA.next bC
          refine hK.out _ _ bW0APC (fun hHeld => ?_)
          clear hK K bC
          refine wpAnyH_take (i := 4) (v := .tuple #[bVal 2 E 0 p 0 a3 es.length c3, .int .i64 0]) rfl (by kernel_rfl) (by kernel_rfl) (by kernel_rfl) (fun _ _ _ h => h) (Or.inl ⟨by rfl, fun _ _ => by go_simp⟩) hHeld ?_
          simp only [List.getElem_toArray, List.getElem_cons_zero, List.getElem_cons_succ, Act.put, List.setIfInBounds_toArray, List.set_cons_zero, List.set_cons_succ]
          refine wpAnyH_take (i := 5) (v := bVal 2 E 0 p 0 a3 es.length c3) rfl (by kernel_rfl) (by kernel_rfl) (by kernel_rfl) (fun _ _ _ h => h) (Or.inl ⟨by rfl, fun _ _ => by go_simp⟩) hHeld ?_
          simp only [List.getElem_toArray, List.getElem_cons_zero, List.getElem_cons_succ, Act.put, List.setIfInBounds_toArray, List.set_cons_zero, List.set_cons_succ]
          refine wpAnyH_take (i := 6) (v := .int .i64 0) rfl (by kernel_rfl) (by kernel_rfl) (by kernel_rfl) (fun _ _ _ h => h) (Or.inl ⟨by rfl, fun _ _ => by go_simp⟩) hHeld ?_
          simp only [List.getElem_toArray, List.getElem_cons_zero, List.getElem_cons_succ, Act.put, List.setIfInBounds_toArray, List.set_cons_zero, List.set_cons_succ]
          refine wpAnyH_ready (rs := [8]) (by kernel_rfl) (by simp) ?_
          refine AllReadyH.cons rfl (fun K hK => ?_) AllReadyH.nil
          simp only [List.getElem_toArray, List.getElem_cons_zero, List.getElem_cons_succ]
          obtain ⟨z0, z1, z2, z3, z4, z5⟩ := zA.cells
          have zf := zA.free
          go_simp
          obtain ⟨We, hWe, dE, bE, tE⟩ := b_stored zA bW0APC hXA 2 E 0 p 0 a3 es.length c3
          rw [← hWe]
          clear hWe z0 z1 z2 z3 z4 z5 zf
          have hf : ∀ x, a3 = some x → 0 < es.length → x.block ≠ XA := fun x hx h0 => by have := uC x hx; omega
          have iE := iC.turned tE hf
          refine hK.out _ _ bE (fun hHeld => ?_)
          clear hK K
          refine wpAnyH_take (i := 9) (v := .int .i64 0) rfl (by kernel_rfl) (by kernel_rfl) (by kernel_rfl) (fun _ _ _ h => h) (Or.inl ⟨by rfl, fun _ _ => by go_simp⟩) hHeld ?_
          simp only [List.getElem_toArray, List.getElem_cons_zero, List.getElem_cons_succ, Act.put, List.setIfInBounds_toArray, List.set_cons_zero, List.set_cons_succ]
          refine wpAnyH_done (by kernel_rfl) ?_ _
          go_wp2_with fail
          go_meet
          exact ⟨XA, a3, c3, rfl, rfl, dE, iE, hf, hXA, bE⟩
  case rest =>
  obtain ⟨Ry, a3, c3, rfl, rfl, k3, i3, f3, u3, b3⟩ := hcut
  obtain ⟨W3, hW3⟩ : ∃ W3, W3 = wc := ⟨_, rfl⟩
  subst hW3
  have K3 : Kb w W3 Ry (Bt.drn E p 0 es) a3 c3 := ⟨k3, i3, f3, Below.next (unveil HKb).bel b3, Nat.le_trans (unveil HKb).bel.size u3⟩
  have HKn := veil ((unveil HKb).next b3)
  clear HKb
  have HKb := HKn
  clear HKn
  clear k3 i3 f3 u3 b3
  have HKy := veil K3
  clear K3
  clear HG1
  have HG2 : Hid (∀ W, Below W3.heap.size W3 W → Calls Try.prog 15 #[bVal 2 E 0 p 0 a3 es.length c3, .int .i64 q] W fun x w' => ∃ a' c', x = .returned (.tuple #[bVal 0 0 0 0 0 a' 0 c', .int .i64 12]) ∧ BIn w' (Bt.nob 0) a' c' ∧ (∀ x, a' = some x → W.heap.size ≤ x.block) ∧ Below W.heap.size W w') := veil fun W b => bt_out (bgo_any (Bt.drn E p 0 es) a3 c3 q W ((unveil HKy).i.next b)) (B2 := Bt.nob 0) (er2 := 12) (by unfold goesOf; rw [if_neg (fun h => h okd), if_neg (fun h => h ⟨by omega, by omega⟩), if_pos (.inl rfl)]; rfl)
  go_upto_region 3 with fail
  go_cut [13, 14] (fun pX eX wx => ∃ (X : Nat) (a4 : Option Addr) (c4 : Nat), pX = .pointer (some ⟨X, 0, none⟩) ∧ eX = .int .i64 12 ∧ bBlock wx X 0 0 0 0 0 a4 0 c4 ∧ BIn wx (Bt.nob 0) a4 c4 ∧ (∀ x, a4 = some x → 0 < 0 → x.block ≠ X) ∧ W3.heap.size ≤ X ∧ Below W3.heap.size W3 wx)
  case first =>
    refine wp_region_held_drew (S := Below W3.heap.size W3) (by kernel_rfl) (below_drew W3) (fun hHeld => ?_)
    refine wpAnyH_take (i := 0) (v := bVal 2 E 0 p 0 a3 es.length c3) rfl (by kernel_rfl) (by kernel_rfl) (by kernel_rfl) (fun _ _ _ h => h) (Or.inl ⟨by rfl, fun u b => by obtain ⟨y0, y1, y2, y3, y4, y5⟩ := ((unveil HKy).next b).b.cells; go_simp⟩) hHeld ?_
    simp only [List.getElem_toArray, List.getElem_cons_zero, Act.put, List.setIfInBounds_toArray, List.set_cons_zero, List.set_cons_succ]
    refine wpAnyH_take (i := 1) (v := .int .i64 pb) rfl (by kernel_rfl) (by kernel_rfl) (by kernel_rfl) (fun _ _ _ h => h) (Or.inl ⟨by rfl, fun _ _ => by go_simp⟩) hHeld ?_
    simp only [List.getElem_toArray, List.getElem_cons_zero, List.getElem_cons_succ, Act.put, List.setIfInBounds_toArray, List.set_cons_zero, List.set_cons_succ]
    have bW0 := below_drew W3
    obtain ⟨W0, hW0⟩ : ∃ W0, W0 = W3.drew := ⟨_, rfl⟩
    rw [← hW0] at bW0 hHeld ⊢
    clear hW0
    refine wpAnyH_ready (rs := [2, 7]) (by kernel_rfl) (by simp) ?_
    refine AllReadyH.cons rfl (fun K hK => ?_) (AllReadyH.cons rfl (fun K hK => ?_) AllReadyH.nil)
    · simp only [List.getElem_toArray, List.getElem_cons_zero, List.getElem_cons_succ]
      go_simp
      refine (Pq _).mono ?_
      rintro x w9 ⟨rfl, hw9⟩
      subst w9
      refine hK.out _ _ bW0 (fun hHeld => ?_)
      clear hK K
      refine wpAnyH_ready (rs := [3, 7]) (by kernel_rfl) (by simp) ?_
      refine AllReadyH.cons rfl (fun K hK => ?_) (AllReadyH.cons rfl (fun K hK => ?_) AllReadyH.nil)
      · simp only [List.getElem_toArray, List.getElem_cons_zero, List.getElem_cons_succ]
        go_simp
        refine (unveil HG2 _ bW0).mono ?_
        rintro x W0PC ⟨a4, c4, rfl, iC, uC, bC⟩
        have bW0PC := Below.next bW0 bC
        have iC0 := iC
        have hsW0PC : W0.heap.size ≤ W0PC.heap.size := bC.size
        refine hK.out _ _ bW0PC (fun hHeld => ?_)
        clear hK K bC
        refine wpAnyH_take (i := 4) (v := .tuple #[bVal 0 0 0 0 0 a4 0 c4, .int .i64 12]) rfl (by kernel_rfl) (by kernel_rfl) (by kernel_rfl) (fun _ _ _ h => h) (Or.inl ⟨by rfl, fun _ _ => by go_simp⟩) hHeld ?_
        simp only [List.getElem_toArray, List.getElem_cons_zero, List.getElem_cons_succ, Act.put, List.setIfInBounds_toArray, List.set_cons_zero, List.set_cons_succ]
        refine wpAnyH_take (i := 5) (v := bVal 0 0 0 0 0 a4 0 c4) rfl (by kernel_rfl) (by kernel_rfl) (by kernel_rfl) (fun _ _ _ h => h) (Or.inl ⟨by rfl, fun _ _ => by go_simp⟩) hHeld ?_
        simp only [List.getElem_toArray, List.getElem_cons_zero, List.getElem_cons_succ, Act.put, List.setIfInBounds_toArray, List.set_cons_zero, List.set_cons_succ]
        refine wpAnyH_take (i := 6) (v := .int .i64 12) rfl (by kernel_rfl) (by kernel_rfl) (by kernel_rfl) (fun _ _ _ h => h) (Or.inl ⟨by rfl, fun _ _ => by go_simp⟩) hHeld ?_
        simp only [List.getElem_toArray, List.getElem_cons_zero, List.getElem_cons_succ, Act.put, List.setIfInBounds_toArray, List.set_cons_zero, List.set_cons_succ]
        refine wpAnyH_ready (rs := [7]) (by kernel_rfl) (by simp) ?_
        refine AllReadyH.cons rfl (fun K hK => ?_) AllReadyH.nil
        · simp only [List.getElem_toArray, List.getElem_cons_zero, List.getElem_cons_succ]
          go_simp
          obtain ⟨W0PCA, hW0PCA, zA, bA⟩ := zb_made W0PC
          rw [← hW0PCA]
          clear hW0PCA
          obtain ⟨XA, hX⟩ : ∃ X, X = W0PC.heap.size := ⟨_, rfl⟩
          have hXA : W3.heap.size ≤ XA := by rw [hX]; exact bW0PC.size
          have hXl : XA < W0PCA.heap.size := by rw [hX]; exact zA.lt
          have hXe : W0PC.heap.size ≤ XA := by omega
          rw [← hX] at zA ⊢
          clear hX
          have bW0PCA := Below.next bW0PC bA
          have iC := iC.next bA
          refine hK.out _ _ bW0PCA (fun hHeld => ?_)
          clear hK K bA
          refine wpAnyH_ready (rs := [8]) (by kernel_rfl) (by simp) ?_
          refine AllReadyH.cons rfl (fun K hK => ?_) AllReadyH.nil
          simp only [List.getElem_toArray, List.getElem_cons_zero, List.getElem_cons_succ]
          obtain ⟨z0, z1, z2, z3, z4, z5⟩ := zA.cells
          have zf := zA.free
          go_simp
          obtain ⟨We, hWe, dE, bE, tE⟩ := b_stored zA bW0PCA hXA 0 0 0 0 0 a4 0 c4
          rw [← hWe]
          clear hWe z0 z1 z2 z3 z4 z5 zf
          have hf : ∀ x, a4 = some x → 0 < 0 → x.block ≠ XA := fun x hx h0 => by have := iC0.row.blk_lt x hx (by show 0 < 6 * 0; omega); omega
          have iE := iC.turned tE hf
          refine hK.out _ _ bE (fun hHeld => ?_)
          clear hK K
          refine wpAnyH_take (i := 9) (v := .int .i64 12) rfl (by kernel_rfl) (by kernel_rfl) (by kernel_rfl) (fun _ _ _ h => h) (Or.inl ⟨by rfl, fun _ _ => by go_simp⟩) hHeld ?_
          simp only [List.getElem_toArray, List.getElem_cons_zero, List.getElem_cons_succ, Act.put, List.setIfInBounds_toArray, List.set_cons_zero, List.set_cons_succ]
          refine wpAnyH_done (by kernel_rfl) ?_ _
          go_wp2_with fail
          go_meet
          exact ⟨XA, a4, c4, rfl, rfl, dE, iE, hf, hXA, bE⟩
      · simp only [List.getElem_toArray, List.getElem_cons_zero, List.getElem_cons_succ]
        go_simp
        obtain ⟨W0PA, hW0PA, zA, bA⟩ := zb_made W0
        rw [← hW0PA]
        clear hW0PA
        obtain ⟨XA, hX⟩ : ∃ X, X = W0.heap.size := ⟨_, rfl⟩
        have hXA : W3.heap.size ≤ XA := by rw [hX]; exact bW0.size
        have hXl : XA < W0PA.heap.size := by rw [hX]; exact zA.lt
        have hXe : W0.heap.size ≤ XA := by omega
        rw [← hX] at zA ⊢
        clear hX
        have bW0PA := Below.next bW0 bA
        refine hK.out _ _ bW0PA (fun hHeld => ?_)
        clear hK K bA
        refine wpAnyH_ready (rs := [3]) (by kernel_rfl) (by simp) ?_
        refine AllReadyH.cons rfl (fun K hK => ?_) AllReadyH.nil
        · simp only [List.getElem_toArray, List.getElem_cons_zero, List.getElem_cons_succ]
          go_simp
          refine (unveil HG2 _ bW0PA).mono ?_
          rintro x W0PAC ⟨a4, c4, rfl, iC, uC, bC⟩
          have bW0PAC := Below.next bW0PA bC
          have iC0 := iC
          have hsW0PAC : W0PA.heap.size ≤ W0PAC.heap.size := bC.size
          have zA := zA.next bC
          refine hK.out _ _ bW0PAC (fun hHeld => ?_)
          clear hK K bC
          refine wpAnyH_take (i := 4) (v := .tuple #[bVal 0 0 0 0 0 a4 0 c4, .int .i64 12]) rfl (by kernel_rfl) (by kernel_rfl) (by kernel_rfl) (fun _ _ _ h => h) (Or.inl ⟨by rfl, fun _ _ => by go_simp⟩) hHeld ?_
          simp only [List.getElem_toArray, List.getElem_cons_zero, List.getElem_cons_succ, Act.put, List.setIfInBounds_toArray, List.set_cons_zero, List.set_cons_succ]
          refine wpAnyH_take (i := 5) (v := bVal 0 0 0 0 0 a4 0 c4) rfl (by kernel_rfl) (by kernel_rfl) (by kernel_rfl) (fun _ _ _ h => h) (Or.inl ⟨by rfl, fun _ _ => by go_simp⟩) hHeld ?_
          simp only [List.getElem_toArray, List.getElem_cons_zero, List.getElem_cons_succ, Act.put, List.setIfInBounds_toArray, List.set_cons_zero, List.set_cons_succ]
          refine wpAnyH_take (i := 6) (v := .int .i64 12) rfl (by kernel_rfl) (by kernel_rfl) (by kernel_rfl) (fun _ _ _ h => h) (Or.inl ⟨by rfl, fun _ _ => by go_simp⟩) hHeld ?_
          simp only [List.getElem_toArray, List.getElem_cons_zero, List.getElem_cons_succ, Act.put, List.setIfInBounds_toArray, List.set_cons_zero, List.set_cons_succ]
          refine wpAnyH_ready (rs := [8]) (by kernel_rfl) (by simp) ?_
          refine AllReadyH.cons rfl (fun K hK => ?_) AllReadyH.nil
          simp only [List.getElem_toArray, List.getElem_cons_zero, List.getElem_cons_succ]
          obtain ⟨z0, z1, z2, z3, z4, z5⟩ := zA.cells
          have zf := zA.free
          go_simp
          obtain ⟨We, hWe, dE, bE, tE⟩ := b_stored zA bW0PAC hXA 0 0 0 0 0 a4 0 c4
          rw [← hWe]
          clear hWe z0 z1 z2 z3 z4 z5 zf
          have hf : ∀ x, a4 = some x → 0 < 0 → x.block ≠ XA := fun x hx h0 => by have := uC x hx; omega
          have iE := iC.turned tE hf
          refine hK.out _ _ bE (fun hHeld => ?_)
          clear hK K
          refine wpAnyH_take (i := 9) (v := .int .i64 12) rfl (by kernel_rfl) (by kernel_rfl) (by kernel_rfl) (fun _ _ _ h => h) (Or.inl ⟨by rfl, fun _ _ => by go_simp⟩) hHeld ?_
          simp only [List.getElem_toArray, List.getElem_cons_zero, List.getElem_cons_succ, Act.put, List.setIfInBounds_toArray, List.set_cons_zero, List.set_cons_succ]
          refine wpAnyH_done (by kernel_rfl) ?_ _
          go_wp2_with fail
          go_meet
          exact ⟨XA, a4, c4, rfl, rfl, dE, iE, hf, hXA, bE⟩
    · simp only [List.getElem_toArray, List.getElem_cons_zero, List.getElem_cons_succ]
      go_simp
      obtain ⟨W0A, hW0A, zA, bA⟩ := zb_made W0
      rw [← hW0A]
      clear hW0A
      obtain ⟨XA, hX⟩ : ∃ X, X = W0.heap.size := ⟨_, rfl⟩
      have hXA : W3.heap.size ≤ XA := by rw [hX]; exact bW0.size
      have hXl : XA < W0A.heap.size := by rw [hX]; exact zA.lt
      have hXe : W0.heap.size ≤ XA := by omega
      rw [← hX] at zA ⊢
      clear hX
      have bW0A := Below.next bW0 bA
      refine hK.out _ _ bW0A (fun hHeld => ?_)
      clear hK K bA
      refine wpAnyH_ready (rs := [2]) (by kernel_rfl) (by simp) ?_
      refine AllReadyH.cons rfl (fun K hK => ?_) AllReadyH.nil
      · simp only [List.getElem_toArray, List.getElem_cons_zero, List.getElem_cons_succ]
        go_simp
        refine (Pq _).mono ?_
        rintro x w9 ⟨rfl, hw9⟩
        subst w9
        refine hK.out _ _ bW0A (fun hHeld => ?_)
        clear hK K
        refine wpAnyH_ready (rs := [3]) (by kernel_rfl) (by simp) ?_
        refine AllReadyH.cons rfl (fun K hK => ?_) AllReadyH.nil
        · simp only [List.getElem_toArray, List.getElem_cons_zero, List.getElem_cons_succ]
          go_simp
          refine (unveil HG2 _ bW0A).mono ?_
          rintro x W0APC ⟨a4, c4, rfl, iC, uC, bC⟩
          have bW0APC := Below.next bW0A bC
          have iC0 := iC
          have hsW0APC : W0A.heap.size ≤ W0APC.heap.size := bC.size
          have zA := zA.next bC
          refine hK.out _ _ bW0APC (fun hHeld => ?_)
          clear hK K bC
          refine wpAnyH_take (i := 4) (v := .tuple #[bVal 0 0 0 0 0 a4 0 c4, .int .i64 12]) rfl (by kernel_rfl) (by kernel_rfl) (by kernel_rfl) (fun _ _ _ h => h) (Or.inl ⟨by rfl, fun _ _ => by go_simp⟩) hHeld ?_
          simp only [List.getElem_toArray, List.getElem_cons_zero, List.getElem_cons_succ, Act.put, List.setIfInBounds_toArray, List.set_cons_zero, List.set_cons_succ]
          refine wpAnyH_take (i := 5) (v := bVal 0 0 0 0 0 a4 0 c4) rfl (by kernel_rfl) (by kernel_rfl) (by kernel_rfl) (fun _ _ _ h => h) (Or.inl ⟨by rfl, fun _ _ => by go_simp⟩) hHeld ?_
          simp only [List.getElem_toArray, List.getElem_cons_zero, List.getElem_cons_succ, Act.put, List.setIfInBounds_toArray, List.set_cons_zero, List.set_cons_succ]
          refine wpAnyH_take (i := 6) (v := .int .i64 12) rfl (by kernel_rfl) (by kernel_rfl) (by kernel_rfl) (fun _ _ _ h => h) (Or.inl ⟨by rfl, fun _ _ => by go_simp⟩) hHeld ?_
          simp only [List.getElem_toArray, List.getElem_cons_zero, List.getElem_cons_succ, Act.put, List.setIfInBounds_toArray, List.set_cons_zero, List.set_cons_succ]
          refine wpAnyH_ready (rs := [8]) (by kernel_rfl) (by simp) ?_
          refine AllReadyH.cons rfl (fun K hK => ?_) AllReadyH.nil
          simp only [List.getElem_toArray, List.getElem_cons_zero, List.getElem_cons_succ]
          obtain ⟨z0, z1, z2, z3, z4, z5⟩ := zA.cells
          have zf := zA.free
          go_simp
          obtain ⟨We, hWe, dE, bE, tE⟩ := b_stored zA bW0APC hXA 0 0 0 0 0 a4 0 c4
          rw [← hWe]
          clear hWe z0 z1 z2 z3 z4 z5 zf
          have hf : ∀ x, a4 = some x → 0 < 0 → x.block ≠ XA := fun x hx h0 => by have := uC x hx; omega
          have iE := iC.turned tE hf
          refine hK.out _ _ bE (fun hHeld => ?_)
          clear hK K
          refine wpAnyH_take (i := 9) (v := .int .i64 12) rfl (by kernel_rfl) (by kernel_rfl) (by kernel_rfl) (fun _ _ _ h => h) (Or.inl ⟨by rfl, fun _ _ => by go_simp⟩) hHeld ?_
          simp only [List.getElem_toArray, List.getElem_cons_zero, List.getElem_cons_succ, Act.put, List.setIfInBounds_toArray, List.set_cons_zero, List.set_cons_succ]
          refine wpAnyH_done (by kernel_rfl) ?_ _
          go_wp2_with fail
          go_meet
          exact ⟨XA, a4, c4, rfl, rfl, dE, iE, hf, hXA, bE⟩
  case rest =>
  obtain ⟨Rv, a4, c4, rfl, rfl, k4, i4, f4, u4, b4⟩ := hcut
  obtain ⟨W4, hW4⟩ : ∃ W4, W4 = wc := ⟨_, rfl⟩
  subst hW4
  have K4 : Kb w W4 Rv (Bt.nob 0) a4 c4 := ⟨k4, i4, f4, Below.next (unveil HKb).bel b4, Nat.le_trans (unveil HKb).bel.size u4⟩
  have HKn := veil ((unveil HKb).next b4)
  clear HKb
  have HKb := HKn
  clear HKn
  have HKn := veil ((unveil HKy).next b4)
  clear HKy
  have HKy := HKn
  clear HKn
  clear k4 i4 f4 u4 b4
  clear K4
  clear HG2 Pq
  have HC := bt_out (bgo_any Bt.zero none 0 1 W4 ⟨RowK.nil _ _ _, Nat.le_refl _, fun _ => rfl⟩) (B2 := Bt.zero) (er2 := 7) (by unfold goesOf; rw [if_neg (fun h => h Bt.zero_ok), if_neg (fun h => h (by decide)), if_neg (by decide), if_pos (by decide)])
  go_upto_region 5 with (first | (go_at_call 15; refine HC.mono ?_; rintro x V5 ⟨a5, c5, rfl, i5, u5, b5⟩; clear HC ))
  obtain ⟨W5, hW5, K5, d5⟩ := Kb.new (B := Bt.zero) i5 (unveil HKb).bel b5
  rw [← hW5]
  clear hW5
  have HKn := veil ((unveil HKb).next (Below.next b5 d5))
  clear HKb
  have HKb := HKn
  clear HKn
  have HKn := veil ((unveil HKy).next (Below.next b5 d5))
  clear HKy
  have HKy := HKn
  clear HKn
  clear K5 i5 u5 b5 d5
  have HC := bt_out (bmake_any (Bt.act E es) a c 5 W5 (unveil HKb).i) (B2 := Bt.zero) (er2 := 8) (by unfold makeOf; rw [if_neg (fun h => h ok), if_neg (fun h => h (by decide)), if_pos (by show ¬ (1 : Int) = 0; decide)])
  obtain ⟨xb0, xb1, xb2, xb3, xb4, xb5⟩ := (unveil HKb).b.cells
  have lb := (unveil HKb).b.lt
  go_upto_region 6 with (first | (go_at_call 28; refine HC.mono ?_; rintro x V6 ⟨a6, c6, rfl, i6, u6, b6⟩; clear HC xb0 xb1 xb2 xb3 xb4 xb5 lb))
  obtain ⟨W6, hW6, K6, d6⟩ := Kb.new (B := Bt.zero) i6 (unveil HKb).bel b6
  rw [← hW6]
  clear hW6
  have HKn := veil ((unveil HKb).next (Below.next b6 d6))
  clear HKb
  have HKb := HKn
  clear HKn
  have HKn := veil ((unveil HKy).next (Below.next b6 d6))
  clear HKy
  have HKy := HKn
  clear HKn
  clear K6 i6 u6 b6 d6
  have hw1 : IntKind.i64.wrap (E + 1) = E + 1 := by rw [IntKind.wrap_i64]; omega
  have HC := bt_out (bforget_any (Bt.act E es) a c (E + 1) W6 (unveil HKb).i) (B2 := Bt.zero) (er2 := 7) (by unfold forgetOf; rw [if_neg (fun h => h ok), if_pos (by show ¬ (1 : Int) = 3; decide)])
  obtain ⟨xb0, xb1, xb2, xb3, xb4, xb5⟩ := (unveil HKb).b.cells
  have lb := (unveil HKb).b.lt
  go_upto_region 7 with (first | (go_at_call 29; refine HC.mono ?_; rintro x V7 ⟨a7, c7, rfl, i7, u7, b7⟩; clear HC xb0 xb1 xb2 xb3 xb4 xb5 lb))
  obtain ⟨W7, hW7, K7, d7⟩ := Kb.new (B := Bt.zero) i7 (unveil HKb).bel b7
  rw [← hW7]
  clear hW7
  have HKn := veil ((unveil HKb).next (Below.next b7 d7))
  clear HKb
  have HKb := HKn
  clear HKn
  have HKn := veil ((unveil HKy).next (Below.next b7 d7))
  clear HKy
  have HKy := HKn
  clear HKn
  clear K7 i7 u7 b7 d7
  have HC := bt_out (bforget_any (Bt.drn E p 0 es) a3 c3 (E + 1) W7 (unveil HKy).i) (B2 := Bt.zero) (er2 := 7) (by unfold forgetOf; rw [if_neg (fun h => h okd), if_pos (by show ¬ (2 : Int) = 3; decide)])
  obtain ⟨xy0, xy1, xy2, xy3, xy4, xy5⟩ := (unveil HKy).b.cells
  have ly := (unveil HKy).b.lt
  go_upto_region 8 with (first | (go_at_call 29; refine HC.mono ?_; rintro x V8 ⟨a8, c8, rfl, i8, u8, b8⟩; clear HC xy0 xy1 xy2 xy3 xy4 xy5 ly))
  obtain ⟨W8, hW8, K8, d8⟩ := Kb.new (B := Bt.zero) i8 (unveil HKb).bel b8
  rw [← hW8]
  clear hW8
  have HKn := veil ((unveil HKb).next (Below.next b8 d8))
  clear HKb
  have HKb := HKn
  clear HKn
  have HKn := veil ((unveil HKy).next (Below.next b8 d8))
  clear HKy
  have HKy := HKn
  clear HKn
  clear K8 i8 u8 b8 d8
  have HSm : ∀ n : Nat, Calls Try.prog 24 #[.slice a es.length c, .slice a3 es.length c3] (W8.drewN n) fun e w' => e = .returned (.bool true) ∧ ∃ m, w' = (W8.drewN n).drewN m := fun n => sameEventsK_yes a a3 es.length c c3 (evFlat es) _ ((unveil HKb).i.row.below (belowN _ _)) ((unveil HKy).i.row.below (belowN _ _)) (by omega)
  obtain ⟨xb0, xb1, xb2, xb3, xb4, xb5⟩ := (unveil HKb).b.cells
  have lb := (unveil HKb).b.lt
  obtain ⟨xy0, xy1, xy2, xy3, xy4, xy5⟩ := (unveil HKy).b.cells
  have ly := (unveil HKy).b.lt
  have epp : (p == p) = true := by simp
  go_quiet (first | (go_at_call 16; refine Calls.quiet_of_same (Pp _)) | (go_at_call 24; refine Calls.quiet_of (HSm _)))
  go_wp2
  go_ret
  exact ⟨by simp, Below.next (unveil HKb).bel (belowN _ _)⟩
end Go.Proofs.Ytdenfhnbhmdbnaa
