/- The walk of berthshiftkeep.CaughtStays. -/
import Derived.Test.YtdenfhnbhmdbnaaBkAll
namespace Go.Proofs.Ytdenfhnbhmdbnaa
open Go.RowKit

set_option maxRecDepth 20000 in
set_option maxHeartbeats 4000000 in
theorem walk_CaughtStays (w : World) (ep : Int) (wep : (Lit.int .i64 ep).wf = true) (a0 : Option Addr) (len cap : Nat) (D : List Int) (h : RowK .i64 w a0 (4 * len) D) (_ : len ≤ cap) (_ : cap ≤ maxLen) (_ : a0 = none → cap = 0) (hv : Int) (whv : (Lit.int .i64 hv).wf = true) :
    Calls Try.prog 11 #[.int .i64 ep, .slice a0 len cap, .int .i64 hv] w fun r w' => r = .returned (.bool true) ∧ Below w.heap.size w w' := by
  have HSv := kserved_any ep a0 len cap 30 D w h wep (by omega)
  clear h
  go_enter Try.func11, Try.ntmps11
  go_upto_region 2 with (go_at_call 14; refine HSv.mono ?_; rintro x V1 ⟨E, es, s, ans, y, rfl, hist, hl, nb, hE1, hE2, ⟨⟨a, c, rfl, i1, u1⟩⟩, b1⟩; clear HSv)
  obtain ⟨W1, hW1, K1, _⟩ := Kb.new i1 (Below.refl _ _) b1
  rw [← hW1]
  obtain ⟨Rb, hR⟩ : ∃ R, R = V1.heap.size := ⟨_, rfl⟩
  rw [← hR] at K1 ⊢
  clear hW1 hR i1 u1 b1
  have ht := hist.tells
  have HH := veil hist
  have HNB := veil nb
  clear hist nb
  have HKb := veil K1
  clear K1
  have HC := go_act E es s ans a c W1 2 (unveil HKb).i ht (by omega) hE1 hE2 (by omega) (by omega)
  obtain ⟨xb0, xb1, xb2, xb3, xb4, xb5⟩ := (unveil HKb).b.cells
  have lb := (unveil HKb).b.lt
  go_upto_region 3 with (first | (go_at_call 15; refine HC.mono ?_; rintro x V3 ⟨a3, c3, rfl, i3, u3, b3⟩; clear HC xb0 xb1 xb2 xb3 xb4 xb5 lb; obtain ⟨xb0, xb1, xb2, xb3, xb4, xb5⟩ := ((unveil HKb).next b3).b.cells; have xf := ((unveil HKb).next b3).b.free))
  obtain ⟨W3, hW3, K3, t3⟩ := (unveil HKb).put (B' := (Bt.drn E 2 0 es)) i3 u3 b3
  rw [← hW3]
  clear hW3 xf xb0 xb1 xb2 xb3 xb4 xb5
  clear HKb
  have HKb := veil K3
  clear K3 i3 u3 b3 t3
  have HC := caught_all E es s ans a3 c3 W3 2 0 (unveil HKb).i ht (by omega) hE1 hE2 (by omega) (by omega) (by omega) (by omega)
  obtain ⟨xb0, xb1, xb2, xb3, xb4, xb5⟩ := (unveil HKb).b.cells
  have lb := (unveil HKb).b.lt
  go_upto_region 4 with (first | (go_at_call 22; refine HC.mono ?_; rintro x V4 ⟨a4, c4, rfl, i4, u4, b4⟩; clear HC xb0 xb1 xb2 xb3 xb4 xb5 lb; obtain ⟨xb0, xb1, xb2, xb3, xb4, xb5⟩ := ((unveil HKb).next b4).b.cells; have xf := ((unveil HKb).next b4).b.free))
  obtain ⟨W4, hW4, K4, t4⟩ := (unveil HKb).put (B' := (Bt.sld E 2 es)) i4 u4 b4
  rw [← hW4]
  clear hW4 xf xb0 xb1 xb2 xb3 xb4 xb5
  clear HKb
  have HKb := veil K4
  clear K4 i4 u4 b4 t4
  have ok := ht.sld_ok (E := E) (t := 2) (by omega) hE1 (by omega) (by omega) (by omega)
  have hw1 : IntKind.i64.wrap ((es.length : Int) + 1) = (es.length : Int) + 1 := by rw [IntKind.wrap_i64]; omega
  have p0 := pickedOf_range hv ((es.length : Int) + 1) (by omega)
  have Pp : ∀ w, Calls Try.prog 16 #[.int .i64 hv, .int .i64 ((es.length : Int) + 1)] w fun e w' => e = .returned (.int .i64 (pickedOf hv ((es.length : Int) + 1))) ∧ w' = w := fun w => (picked_any hv ((es.length : Int) + 1) w whv (by omega) (by omega)).mono fun _ _ h => ⟨h.1, h.2.symm⟩
  generalize pickedOf hv ((es.length : Int) + 1) = p at p0 Pp
  have hto : tellOf (Bt.sld E 2 es) p = 0 := by
    unfold tellOf
    rw [if_neg (fun h => h ok), if_neg (fun h => h (.inr rfl)), if_neg (fun h => h ⟨p0.1, by show p ≤ es.length; omega⟩)]
  have HCt : Hid (∀ W, Below W4.heap.size W4 W → Calls Try.prog 22 #[bVal 3 E 0 2 0 a4 es.length c4, .int .i64 p] W fun x w' => ∃ a' c', x = .returned (.tuple #[bVal 3 E 0 2 0 a' es.length c', .int .i64 0]) ∧ BIn w' (Bt.sld E 2 es) a' c' ∧ (∀ x, a' = some x → W.heap.size ≤ x.block) ∧ Below W.heap.size W w') := veil fun W b => bt_out (bcaught_any (Bt.sld E 2 es) a4 c4 p W ((unveil HKb).i.next b)) (B2 := Bt.sld E 2 es) (by unfold caughtOf; rw [if_neg (fun h => h hto), if_pos rfl])
  clear hto
  go_cut [11, 12] (fun p e wx => ∃ (X : Nat) (a5 : Option Addr) (c5 : Nat), p = .pointer (some ⟨X, 0, none⟩) ∧ e = .int .i64 0 ∧ bBlock wx X 3 E 0 2 0 a5 es.length c5 ∧ BIn wx (Bt.sld E 2 es) a5 c5 ∧ (∀ x, a5 = some x → 0 < es.length → x.block ≠ X) ∧ W4.heap.size ≤ X ∧ Below W4.heap.size W4 wx)
  case first =>
    refine wp_region_held_drew (S := Below W4.heap.size W4) (by kernel_rfl) (below_drew W4) (fun hHeld => ?_)
    refine wpAnyH_take (i := 0) (v := bVal 3 E 0 2 0 a4 es.length c4) rfl (by kernel_rfl) (by kernel_rfl) (by kernel_rfl) (fun _ _ _ h => h) (Or.inl ⟨by rfl, fun u b => by obtain ⟨y0, y1, y2, y3, y4, y5⟩ := ((unveil HKb).next b).b.cells; go_simp⟩) hHeld ?_
    simp only [List.getElem_toArray, List.getElem_cons_zero, Act.put, List.setIfInBounds_toArray, List.set_cons_zero, List.set_cons_succ]
    refine wpAnyH_take (i := 1) (v := .int .i64 hv) rfl (by kernel_rfl) (by kernel_rfl) (by kernel_rfl) (fun _ _ _ h => h) (Or.inl ⟨by rfl, fun _ _ => by go_simp⟩) hHeld ?_
    simp only [List.getElem_toArray, List.getElem_cons_zero, List.getElem_cons_succ, Act.put, List.setIfInBounds_toArray, List.set_cons_zero, List.set_cons_succ]
    refine wpAnyH_take (i := 2) (v := .pointer (some ⟨Rb, 5, none⟩)) rfl (by kernel_rfl) (by kernel_rfl) (by kernel_rfl) (fun _ _ _ h => h) (Or.inl ⟨by rfl, fun _ _ => by go_simp⟩) hHeld ?_
    simp only [List.getElem_toArray, List.getElem_cons_zero, List.getElem_cons_succ, Act.put, List.setIfInBounds_toArray, List.set_cons_zero, List.set_cons_succ]
    refine wpAnyH_take (i := 3) (v := .slice a4 es.length c4) rfl (by kernel_rfl) (by kernel_rfl) (by kernel_rfl) (fun _ _ _ h => h) (Or.inl ⟨by rfl, fun u b => by obtain ⟨y0, y1, y2, y3, y4, y5⟩ := ((unveil HKb).next b).b.cells; go_simp⟩) hHeld ?_
    simp only [List.getElem_toArray, List.getElem_cons_zero, List.getElem_cons_succ, Act.put, List.setIfInBounds_toArray, List.set_cons_zero, List.set_cons_succ]
    refine wpAnyH_take (i := 4) (v := .int .i64 (es.length : Int)) rfl (by kernel_rfl) (by kernel_rfl) (by kernel_rfl) (fun _ _ _ h => h) (Or.inl ⟨by rfl, fun _ _ => by go_simp⟩) hHeld ?_
    simp only [List.getElem_toArray, List.getElem_cons_zero, List.getElem_cons_succ, Act.put, List.setIfInBounds_toArray, List.set_cons_zero, List.set_cons_succ]
    refine wpAnyH_take (i := 5) (v := .int .i64 ((es.length : Int) + 1)) rfl (by kernel_rfl) (by kernel_rfl) (by kernel_rfl) (fun _ _ _ h => h) (Or.inl ⟨by rfl, fun _ _ => by go_simp⟩) hHeld ?_
    simp only [List.getElem_toArray, List.getElem_cons_zero, List.getElem_cons_succ, Act.put, List.setIfInBounds_toArray, List.set_cons_zero, List.set_cons_succ]
    have bW0 := below_drew W4
    obtain ⟨W0, hW0⟩ : ∃ W0, W0 = W4.drew := ⟨_, rfl⟩
    rw [← hW0] at bW0 hHeld ⊢
    clear hW0
    refine wpAnyH_ready (rs := [6, 11]) (by kernel_rfl) (by simp) ?_
    refine AllReadyH.cons rfl (fun K hK => ?_) (AllReadyH.cons rfl (fun K hK => ?_) AllReadyH.nil)
    · simp only [List.getElem_toArray, List.getElem_cons_zero, List.getElem_cons_succ]
      go_simp
      refine (Pp _).mono ?_
      rintro x w9 ⟨rfl, hw9⟩
      subst w9
      refine hK.out _ _ bW0 (fun hHeld => ?_)
      clear hK K
      refine wpAnyH_ready (rs := [7, 11]) (by kernel_rfl) (by simp) ?_
      refine AllReadyH.cons rfl (fun K hK => ?_) (AllReadyH.cons rfl (fun K hK => ?_) AllReadyH.nil)
      · simp only [List.getElem_toArray, List.getElem_cons_zero, List.getElem_cons_succ]
        go_simp
        refine (unveil HCt _ bW0).mono ?_
        rintro x W0PC ⟨a5, c5, rfl, iC, uC, bC⟩
        have bW0PC := Below.next bW0 bC
        have iC0 := iC
        have hsW0PC : W0.heap.size ≤ W0PC.heap.size := bC.size
        refine hK.out _ _ bW0PC (fun hHeld => ?_)
        clear hK K bC
        refine wpAnyH_take (i := 8) (v := .tuple #[bVal 3 E 0 2 0 a5 es.length c5, .int .i64 0]) rfl (by kernel_rfl) (by kernel_rfl) (by kernel_rfl) (fun _ _ _ h => h) (Or.inl ⟨by rfl, fun _ _ => by go_simp⟩) hHeld ?_
        simp only [List.getElem_toArray, List.getElem_cons_zero, List.getElem_cons_succ, Act.put, List.setIfInBounds_toArray, List.set_cons_zero, List.set_cons_succ]
        refine wpAnyH_take (i := 9) (v := bVal 3 E 0 2 0 a5 es.length c5) rfl (by kernel_rfl) (by kernel_rfl) (by kernel_rfl) (fun _ _ _ h => h) (Or.inl ⟨by rfl, fun _ _ => by go_simp⟩) hHeld ?_
        simp only [List.getElem_toArray, List.getElem_cons_zero, List.getElem_cons_succ, Act.put, List.setIfInBounds_toArray, List.set_cons_zero, List.set_cons_succ]
        refine wpAnyH_take (i := 10) (v := .int .i64 0) rfl (by kernel_rfl) (by kernel_rfl) (by kernel_rfl) (fun _ _ _ h => h) (Or.inl ⟨by rfl, fun _ _ => by go_simp⟩) hHeld ?_
        simp only [List.getElem_toArray, List.getElem_cons_zero, List.getElem_cons_succ, Act.put, List.setIfInBounds_toArray, List.set_cons_zero, List.set_cons_succ]
        refine wpAnyH_ready (rs := [11]) (by kernel_rfl) (by simp) ?_
        refine AllReadyH.cons rfl (fun K hK => ?_) AllReadyH.nil
        · simp only [List.getElem_toArray, List.getElem_cons_zero, List.getElem_cons_succ]
          go_simp
          obtain ⟨W0PCA, hW0PCA, zA, bA⟩ := zb_made W0PC
          rw [← hW0PCA]
          clear hW0PCA
          obtain ⟨XA, hX⟩ : ∃ X, X = W0PC.heap.size := ⟨_, rfl⟩
          have hXA : W4.heap.size ≤ XA := by rw [hX]; exact bW0PC.size
          have hXl : XA < W0PCA.heap.size := by rw [hX]; exact zA.lt
          have hXe : W0PC.heap.size ≤ XA := by omega
          rw [← hX] at zA ⊢
          clear hX
          have bW0PCA := Below.next bW0PC bA
          have iC := iC.next bA
          refine hK.out _ _ bW0PCA (fun hHeld => ?_)
          clear hK K bA
          refine wpAnyH_ready (rs := [12]) (by kernel_rfl) (by simp) ?_
          refine AllReadyH.cons rfl (fun K hK => ?_) AllReadyH.nil
          simp only [List.getElem_toArray, List.getElem_cons_zero, List.getElem_cons_succ]
          obtain ⟨z0, z1, z2, z3, z4, z5⟩ := zA.cells
          have zf := zA.free
          go_simp
          obtain ⟨We, hWe, dE, bE, tE⟩ := b_stored zA bW0PCA hXA 3 E 0 2 0 a5 es.length c5
          rw [← hWe]
          clear hWe z0 z1 z2 z3 z4 z5 zf
          have hf : ∀ x, a5 = some x → 0 < es.length → x.block ≠ XA := fun x hx h0 => by have := iC0.row.blk_lt x hx (by show 0 < 6 * es.length; omega); omega
          have iE := iC.turned tE hf
          refine hK.out _ _ bE (fun hHeld => ?_)
          clear hK K
          refine wpAnyH_take (i := 13) (v := .int .i64 0) rfl (by kernel_rfl) (by kernel_rfl) (by kernel_rfl) (fun _ _ _ h => h) (Or.inl ⟨by rfl, fun _ _ => by go_simp⟩) hHeld ?_
          simp only [List.getElem_toArray, List.getElem_cons_zero, List.getElem_cons_succ, Act.put, List.setIfInBounds_toArray, List.set_cons_zero, List.set_cons_succ]
          refine wpAnyH_done (by kernel_rfl) ?_ _
          go_wp2_with fail
          go_meet
          exact ⟨XA, a5, c5, rfl, rfl, dE, iE, hf, hXA, bE⟩
      · simp only [List.getElem_toArray, List.getElem_cons_zero, List.getElem_cons_succ]
        go_simp
        obtain ⟨W0PA, hW0PA, zA, bA⟩ := zb_made W0
        rw [← hW0PA]
        clear hW0PA
        obtain ⟨XA, hX⟩ : ∃ X, X = W0.heap.size := ⟨_, rfl⟩
        have hXA : W4.heap.size ≤ XA := by rw [hX]; exact bW0.size
        have hXl : XA < W0PA.heap.size := by rw [hX]; exact zA.lt
        have hXe : W0.heap.size ≤ XA := by omega
        rw [← hX] at zA ⊢
        clear hX
        have bW0PA := Below.next bW0 bA
        refine hK.out _ _ bW0PA (fun hHeld => ?_)
        clear hK K bA
        refine wpAnyH_ready (rs := [7]) (by kernel_rfl) (by simp) ?_
        refine AllReadyH.cons rfl (fun K hK => ?_) AllReadyH.nil
        · simp only [List.getElem_toArray, List.getElem_cons_zero, List.getElem_cons_succ]
          go_simp
          refine (unveil HCt _ bW0PA).mono ?_
          rintro x W0PAC ⟨a5, c5, rfl, iC, uC, bC⟩
          have bW0PAC := Below.next bW0PA bC
          have iC0 := iC
          have hsW0PAC : W0PA.heap.size ≤ W0PAC.heap.size := bC.size
          have zA := zA.next bC
          refine hK.out _ _ bW0PAC (fun hHeld => ?_)
          clear hK K bC
          refine wpAnyH_take (i := 8) (v := .tuple #[bVal 3 E 0 2 0 a5 es.length c5, .int .i64 0]) rfl (by kernel_rfl) (by kernel_rfl) (by kernel_rfl) (fun _ _ _ h => h) (Or.inl ⟨by rfl, fun _ _ => by go_simp⟩) hHeld ?_
          simp only [List.getElem_toArray, List.getElem_cons_zero, List.getElem_cons_succ, Act.put, List.setIfInBounds_toArray, List.set_cons_zero, List.set_cons_succ]
          refine wpAnyH_take (i := 9) (v := bVal 3 E 0 2 0 a5 es.length c5) rfl (by kernel_rfl) (by kernel_rfl) (by kernel_rfl) (fun _ _ _ h => h) (Or.inl ⟨by rfl, fun _ _ => by go_simp⟩) hHeld ?_
          simp only [List.getElem_toArray, List.getElem_cons_zero, List.getElem_cons_succ, Act.put, List.setIfInBounds_toArray, List.set_cons_zero, List.set_cons_succ]
          refine wpAnyH_take (i := 10) (v := .int .i64 0) rfl (by kernel_rfl) (by kernel_rfl) (by kernel_rfl) (fun _ _ _ h => h) (Or.inl ⟨by rfl, fun _ _ => by go_simp⟩) hHeld ?_
          simp only [List.getElem_toArray, List.getElem_cons_zero, List.getElem_cons_succ, Act.put, List.setIfInBounds_toArray, List.set_cons_zero, List.set_cons_succ]
          refine wpAnyH_ready (rs := [12]) (by kernel_rfl) (by simp) ?_
          refine AllReadyH.cons rfl (fun K hK => ?_) AllReadyH.nil
          simp only [List.getElem_toArray, List.getElem_cons_zero, List.getElem_cons_succ]
          obtain ⟨z0, z1, z2, z3, z4, z5⟩ := zA.cells
          have zf := zA.free
          go_simp
          obtain ⟨We, hWe, dE, bE, tE⟩ := b_stored zA bW0PAC hXA 3 E 0 2 0 a5 es.length c5
          rw [← hWe]
          clear hWe z0 z1 z2 z3 z4 z5 zf
          have hf : ∀ x, a5 = some x → 0 < es.length → x.block ≠ XA := fun x hx h0 => by have := uC x hx; omega
          have iE := iC.turned tE hf
          refine hK.out _ _ bE (fun hHeld => ?_)
          clear hK K
          refine wpAnyH_take (i := 13) (v := .int .i64 0) rfl (by kernel_rfl) (by kernel_rfl) (by kernel_rfl) (fun _ _ _ h => h) (Or.inl ⟨by rfl, fun _ _ => by go_simp⟩) hHeld ?_
          simp only [List.getElem_toArray, List.getElem_cons_zero, List.getElem_cons_succ, Act.put, List.setIfInBounds_toArray, List.set_cons_zero, List.set_cons_succ]
          refine wpAnyH_done (by kernel_rfl) ?_ _
          go_wp2_with fail
          go_meet
          exact ⟨XA, a5, c5, rfl, rfl, dE, iE, hf, hXA, bE⟩
    · simp only [List.getElem_toArray, List.getElem_cons_zero, List.getElem_cons_succ]
      go_simp
      obtain ⟨W0A, hW0A, zA, bA⟩ := zb_made W0
      rw [← hW0A]
      clear hW0A
      obtain ⟨XA, hX⟩ : ∃ X, X = W0.heap.size := ⟨_, rfl⟩
      have hXA : W4.heap.size ≤ XA := by rw [hX]; exact bW0.size
      have hXl : XA < W0A.heap.size := by rw [hX]; exact zA.lt
      have hXe : W0.heap.size ≤ XA := by omega
      rw [← hX] at zA ⊢
      clear hX
      have bW0A := Below.next bW0 bA
      refine hK.out _ _ bW0A (fun hHeld => ?_)
      clear hK K bA
      refine wpAnyH_ready (rs := [6]) (by kernel_rfl) (by simp) ?_
      refine AllReadyH.cons rfl (fun K hK => ?_) AllReadyH.nil
      · simp only [List.getElem_toArray, List.getElem_cons_zero, List.getElem_cons_succ]
        go_simp
        refine (Pp _).mono ?_
        rintro x w9 ⟨rfl, hw9⟩
        subst w9
        refine hK.out _ _ bW0A (fun hHeld => ?_)
        clear hK K
        refine wpAnyH_ready (rs := [7]) (by kernel_rfl) (by simp) ?_
        refine AllReadyH.cons rfl (fun K hK => ?_) AllReadyH.nil
        · simp only [List.getElem_toArray, List.getElem_cons_zero, List.getElem_cons_succ]
          go_simp
          refine (unveil HCt _ bW0A).mono ?_
          rintro x W0APC ⟨a5, c5, rfl, iC, uC, bC⟩
          have bW0APC := Below.next bW0A bC
          have iC0 := iC
          have hsW0APC : W0A.heap.size ≤ W0APC.heap.size := bC.size
          have zA := zA.next bC
          refine hK.out _ _ bW0APC (fun hHeld => ?_)
          clear hK K bC
          refine wpAnyH_take (i := 8) (v := .tuple #[bVal 3 E 0 2 0 a5 es.length c5, .int .i64 0]) rfl (by kernel_rfl) (by kernel_rfl) (by kernel_rfl) (fun _ _ _ h => h) (Or.inl ⟨by rfl, fun _ _ => by go_simp⟩) hHeld ?_
          simp only [List.getElem_toArray, List.getElem_cons_zero, List.getElem_cons_succ, Act.put, List.setIfInBounds_toArray, List.set_cons_zero, List.set_cons_succ]
          refine wpAnyH_take (i := 9) (v := bVal 3 E 0 2 0 a5 es.length c5) rfl (by kernel_rfl) (by kernel_rfl) (by kernel_rfl) (fun _ _ _ h => h) (Or.inl ⟨by rfl, fun _ _ => by go_simp⟩) hHeld ?_
          simp only [List.getElem_toArray, List.getElem_cons_zero, List.getElem_cons_succ, Act.put, List.setIfInBounds_toArray, List.set_cons_zero, List.set_cons_succ]
          refine wpAnyH_take (i := 10) (v := .int .i64 0) rfl (by kernel_rfl) (by kernel_rfl) (by kernel_rfl) (fun _ _ _ h => h) (Or.inl ⟨by rfl, fun _ _ => by go_simp⟩) hHeld ?_
          simp only [List.getElem_toArray, List.getElem_cons_zero, List.getElem_cons_succ, Act.put, List.setIfInBounds_toArray, List.set_cons_zero, List.set_cons_succ]
          refine wpAnyH_ready (rs := [12]) (by kernel_rfl) (by simp) ?_
          refine AllReadyH.cons rfl (fun K hK => ?_) AllReadyH.nil
          simp only [List.getElem_toArray, List.getElem_cons_zero, List.getElem_cons_succ]
          obtain ⟨z0, z1, z2, z3, z4, z5⟩ := zA.cells
          have zf := zA.free
          go_simp
          obtain ⟨We, hWe, dE, bE, tE⟩ := b_stored zA bW0APC hXA 3 E 0 2 0 a5 es.length c5
          rw [← hWe]
          clear hWe z0 z1 z2 z3 z4 z5 zf
          have hf : ∀ x, a5 = some x → 0 < es.length → x.block ≠ XA := fun x hx h0 => by have := uC x hx; omega
          have iE := iC.turned tE hf
          refine hK.out _ _ bE (fun hHeld => ?_)
          clear hK K
          refine wpAnyH_take (i := 13) (v := .int .i64 0) rfl (by kernel_rfl) (by kernel_rfl) (by kernel_rfl) (fun _ _ _ h => h) (Or.inl ⟨by rfl, fun _ _ => by go_simp⟩) hHeld ?_
          simp only [List.getElem_toArray, List.getElem_cons_zero, List.getElem_cons_succ, Act.put, List.setIfInBounds_toArray, List.set_cons_zero, List.set_cons_succ]
          refine wpAnyH_done (by kernel_rfl) ?_ _
          go_wp2_with fail
          go_meet
          exact ⟨XA, a5, c5, rfl, rfl, dE, iE, hf, hXA, bE⟩
  case rest =>
  obtain ⟨Rc, a5, c5, rfl, rfl, k5, i5, f5, u5, b5⟩ := hcut
  obtain ⟨W5, hW5⟩ : ∃ W5, W5 = wc := ⟨_, rfl⟩
  subst hW5
  have K5 : Kb w W5 Rc (Bt.sld E 2 es) a5 c5 := ⟨k5, i5, f5, Below.next (unveil HKb).bel b5, Nat.le_trans (unveil HKb).bel.size u5⟩
  have HKn := veil ((unveil HKb).next b5)
  clear HKb
  have HKb := HKn
  clear HKn
  clear k5 i5 f5 u5 b5
  have HKc := veil K5
  clear K5
  clear HCt Pp p0
  have HC := bt_out (bcaught_any (Bt.sld E 2 es) a4 c4 ((es.length : Int) + 1) W5 (unveil HKb).i) (B2 := Bt.zero) (er2 := 2) (by have ht2 : tellOf (Bt.sld E 2 es) ((es.length : Int) + 1) = 2 := (by unfold tellOf; rw [if_neg (fun h => h ok), if_neg (fun h => h (.inr rfl)), if_pos (by intro h; have : (es.length : Int) + 1 ≤ es.length := h.2; omega)]); unfold caughtOf; rw [ht2, if_pos (by decide)])
  obtain ⟨xb0, xb1, xb2, xb3, xb4, xb5⟩ := (unveil HKb).b.cells
  have lb := (unveil HKb).b.lt
  go_upto_region 6 with (first | (go_at_call 22; refine HC.mono ?_; rintro x V6 ⟨a6, c6, rfl, i6, u6, b6⟩; clear HC xb0 xb1 xb2 xb3 xb4 xb5 lb))
  obtain ⟨W6, hW6, K6, d6⟩ := Kb.new (B := Bt.zero) i6 (unveil HKb).bel b6
  rw [← hW6]
  clear hW6
  have HKn := veil ((unveil HKb).next (Below.next b6 d6))
  clear HKb
  have HKb := HKn
  clear HKn
  have HKn := veil ((unveil HKc).next (Below.next b6 d6))
  clear HKc
  have HKc := HKn
  clear HKn
  clear K6 i6 u6 b6 d6
  have HC := bt_out (bgo_any (Bt.sld E 2 es) a4 c4 1 W6 (unveil HKb).i) (B2 := Bt.zero) (er2 := 12) (by unfold goesOf; rw [if_neg (fun h => h ok), if_neg (fun h => h (by decide)), if_pos (.inr rfl)])
  obtain ⟨xb0, xb1, xb2, xb3, xb4, xb5⟩ := (unveil HKb).b.cells
  have lb := (unveil HKb).b.lt
  go_upto_region 7 with (first | (go_at_call 15; refine HC.mono ?_; rintro x V7 ⟨a7, c7, rfl, i7, u7, b7⟩; clear HC xb0 xb1 xb2 xb3 xb4 xb5 lb))
  obtain ⟨W7, hW7, K7, d7⟩ := Kb.new (B := Bt.zero) i7 (unveil HKb).bel b7
  rw [← hW7]
  clear hW7
  have HKn := veil ((unveil HKb).next (Below.next b7 d7))
  clear HKb
  have HKb := HKn
  clear HKn
  have HKn := veil ((unveil HKc).next (Below.next b7 d7))
  clear HKc
  have HKc := HKn
  clear HKn
  clear K7 i7 u7 b7 d7
  have HSm := sameBerthK_yes 3 E 0 2 0 a4 a5 es.length c4 c5 (evFlat es) W7 (unveil HKb).i.row (unveil HKc).i.row (by omega)
  obtain ⟨xb0, xb1, xb2, xb3, xb4, xb5⟩ := (unveil HKb).b.cells
  have lb := (unveil HKb).b.lt
  obtain ⟨xc0, xc1, xc2, xc3, xc4, xc5⟩ := (unveil HKc).b.cells
  have lc := (unveil HKc).b.lt
  go_wp2_with (go_at_call 30; refine HSm.mono ?_; rintro x W9 ⟨rfl, b9⟩; clear HSm)
  go_ret
  exact ⟨by simp, Below.next (unveil HKb).bel b9⟩
end Go.Proofs.Ytdenfhnbhmdbnaa
