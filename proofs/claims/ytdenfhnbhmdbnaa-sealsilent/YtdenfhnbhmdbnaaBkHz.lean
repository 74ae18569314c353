/- The walk of berthshiftkeep.SealSilent. -/
import Derived.Test.YtdenfhnbhmdbnaaBkEz
namespace Go.Proofs.Ytdenfhnbhmdbnaa
open Go.RowKit

set_option maxRecDepth 20000 in
set_option maxHeartbeats 4000000 in
theorem walk_SealSilent (w : World) (ep : Int) (wep : (Lit.int .i64 ep).wf = true) (a0 : Option Addr) (len cap : Nat) (D : List Int) (h : RowK .i64 w a0 (4 * len) D) (_ : len ≤ cap) (_ : cap ≤ maxLen) (_ : a0 = none → cap = 0) (x0 x1 x2 x3 : Int) (hxw : ∀ z ∈ [x0, x1, x2, x3], (Lit.int .i64 z).wf = true) (pa : Int) (wpa : (Lit.int .i64 pa).wf = true) :
    Calls Try.prog 4 #[.int .i64 ep, .slice a0 len cap, .agg #[.int .i64 x0, .int .i64 x1, .int .i64 x2, .int .i64 x3], .int .i64 pa] w fun r w' => r = .returned (.bool true) ∧ Below w.heap.size w w' := by
  have HSv : Hid (∀ W, Below w.heap.size w W → _) := veil fun W b => kserved_any ep a0 len cap 40 D W (h.below b) wep (by omega)
  clear h
  have p0 := pickedOf_range pa 5 (by decide)
  have Pp : ∀ w, Calls Try.prog 16 #[.int .i64 pa, .int .i64 5] w fun e w' => e = .returned (.int .i64 (pickedOf pa 5)) ∧ w' = w := fun w => (picked_any pa 5 w wpa (by decide) (by decide)).mono fun _ _ h => ⟨h.1, h.2.symm⟩
  generalize pickedOf pa 5 = p at p0 Pp
  have hEv := event_at x0 x1 x2 x3 hxw
  have hvl := deedEv_like x0 x1 x2 x3
  generalize deedEv x0 x1 x2 x3 = v at hEv hvl
  have HVL := veil hvl.ok
  clear hvl
  go_enter Try.func4, Try.ntmps4
  go_upto_region 1 with fail
  obtain ⟨W9, hW9, q9, b9⟩ : ∃ W, W = w.alloc (.cells #[.int .i64 x0, .int .i64 x1, .int .i64 x2, .int .i64 x3] 24) ∧ Db W w.heap.size x0 x1 x2 x3 ∧ Below w.heap.size w W := ⟨_, rfl, heap_alloc_new _ _, below1 _ _⟩
  rw [← hW9]
  clear hW9
  have hSv := unveil HSv W9 b9
  clear HSv
  go_upto_region 2 with (go_at_call 14; refine hSv.mono ?_; rintro x V1 ⟨E, es, s, ans, y, rfl, hist, hl, nb, hE1, hE2, ⟨⟨a, c, rfl, i1, u1⟩⟩, b1⟩; clear hSv)
  obtain ⟨W1, hW1, K1, d1⟩ := Kb.new i1 b9 b1
  rw [← hW1]
  obtain ⟨Rb, hR⟩ : ∃ R, R = V1.heap.size := ⟨_, rfl⟩
  have hRd : w.heap.size < Rb := by rw [hR]; exact Nat.lt_of_lt_of_le q9.lt b1.size
  have HDx := veil ((q9.next b1).next d1)
  rw [← hR] at K1 ⊢
  clear hW1 hR i1 u1 b1 b9 d1 q9
  have ht := hist.tells
  have HKb := veil K1
  clear K1 hist nb
  have HG1 : Hid (∀ W, Below W1.heap.size W1 W → Calls Try.prog 15 #[bVal 1 E 0 0 0 a es.length c, .int .i64 p] W fun x w' => ∃ a' c', x = .returned (.tuple #[bVal 2 E 0 p 0 a' es.length c', .int .i64 0]) ∧ BIn w' (Bt.drn E p 0 es) a' c' ∧ (∀ x, a' = some x → W.heap.size ≤ x.block) ∧ Below W.heap.size W w') := veil fun W b => go_act E es s ans a c W p ((unveil HKb).i.next b) ht (by omega) hE1 hE2 (by omega) (by omega)
  go_cut [11] (fun eX wx => ∃ (a3 : Option Addr) (c3 : Nat) (V : World), eX = .int .i64 0 ∧ bBlock wx Rb 2 E 0 p 0 a3 es.length c3 ∧ BIn wx (Bt.drn E p 0 es) a3 c3 ∧ (∀ x, a3 = some x → W1.heap.size ≤ x.block) ∧ Below W1.heap.size W1 V ∧ Turned Rb V wx)
  case first =>
    refine wp_region_held_drew (S := fun _ => True) (by kernel_rfl) trivial (fun hHeld => ?_)
    refine wpAnyH_take (i := 1) (v := .int .i64 pa) rfl (by kernel_rfl) (by kernel_rfl) (by kernel_rfl) (fun _ _ _ h => h) (Or.inl ⟨by rfl, fun _ _ => by go_simp⟩) hHeld ?_
    simp only [List.getElem_toArray, List.getElem_cons_zero, List.getElem_cons_succ, Act.put, List.setIfInBounds_toArray, List.set_cons_zero, List.set_cons_succ]
    have bW0 := below_drew W1
    obtain ⟨W0, hW0⟩ : ∃ W0, W0 = W1.drew := ⟨_, rfl⟩
    rw [← hW0] at bW0 ⊢
    clear hW0
    obtain ⟨y0, y1, y2, y3, y4, y5⟩ := ((unveil HKb).next bW0).b.cells
    refine wpAnyH_ready (rs := [0, 2]) (by kernel_rfl) (by simp) ?_
    refine AllReadyH.cons rfl (fun K hK => ?_) (AllReadyH.cons rfl (fun K hK => ?_) AllReadyH.nil)
    · simp only [List.getElem_toArray, List.getElem_cons_zero]
      go_simp
      refine hK.out _ _ trivial (fun hHeld => ?_)
      clear hK K
      refine wpAnyH_ready (rs := [2]) (by kernel_rfl) (by simp) ?_
      refine AllReadyH.cons rfl (fun K hK => ?_) AllReadyH.nil
      · simp only [List.getElem_toArray, List.getElem_cons_zero, List.getElem_cons_succ]
        go_simp
        refine (Pp _).mono ?_
        rintro x w9 ⟨rfl, hw9⟩
        subst w9
        refine hK.out _ _ trivial (fun hHeld => ?_)
        clear hK K
        refine wpAnyH_ready (rs := [3]) (by kernel_rfl) (by simp) ?_
        refine AllReadyH.cons rfl (fun K hK => ?_) AllReadyH.nil
        simp only [List.getElem_toArray, List.getElem_cons_zero, List.getElem_cons_succ]
        go_simp
        refine (unveil HG1 _ bW0).mono ?_
        rintro x WC ⟨a3, c3, rfl, iC, uC, bC⟩
        have bWC := Below.next bW0 bC
        refine hK.out _ _ trivial (fun hHeld => ?_)
        clear hK K
        refine wpAnyH_take (i := 4) (v := .tuple #[bVal 2 E 0 p 0 a3 es.length c3, .int .i64 0]) rfl (by kernel_rfl) (by kernel_rfl) (by kernel_rfl) (fun _ _ _ h => h) (Or.inl ⟨by rfl, fun _ _ => by go_simp⟩) hHeld ?_
        simp only [List.getElem_toArray, List.getElem_cons_zero, List.getElem_cons_succ, Act.put, List.setIfInBounds_toArray, List.set_cons_zero, List.set_cons_succ]
        refine wpAnyH_take (i := 5) (v := bVal 2 E 0 p 0 a3 es.length c3) rfl (by kernel_rfl) (by kernel_rfl) (by kernel_rfl) (fun _ _ _ h => h) (Or.inl ⟨by rfl, fun _ _ => by go_simp⟩) hHeld ?_
        simp only [List.getElem_toArray, List.getElem_cons_zero, List.getElem_cons_succ, Act.put, List.setIfInBounds_toArray, List.set_cons_zero, List.set_cons_succ]
        refine wpAnyH_take (i := 6) (v := .int .i64 0) rfl (by kernel_rfl) (by kernel_rfl) (by kernel_rfl) (fun _ _ _ h => h) (Or.inl ⟨by rfl, fun _ _ => by go_simp⟩) hHeld ?_
        simp only [List.getElem_toArray, List.getElem_cons_zero, List.getElem_cons_succ, Act.put, List.setIfInBounds_toArray, List.set_cons_zero, List.set_cons_succ]
        refine wpAnyH_ready (rs := [7]) (by kernel_rfl) (by simp) ?_
        refine AllReadyH.cons rfl (fun K hK => ?_) AllReadyH.nil
        simp only [List.getElem_toArray, List.getElem_cons_zero, List.getElem_cons_succ]
        clear y0 y1 y2 y3 y4 y5
        obtain ⟨y0, y1, y2, y3, y4, y5⟩ := ((unveil HKb).next bWC).b.cells
        have yf := ((unveil HKb).next bWC).b.free
        go_simp
        obtain ⟨We, hWe, dE, bE, tE⟩ := b_stored ((unveil HKb).next bWC).b ((unveil HKb).next bWC).bel (unveil HKb).up 2 E 0 p 0 a3 es.length c3
        rw [← hWe]
        clear hWe
        have hlR := (unveil HKb).b.lt
        have hs0 := bW0.size
        have hu : ∀ x, a3 = some x → W1.heap.size ≤ x.block := fun x hx => by have := uC x hx; omega
        have iE := iC.turned tE (fun x hx _ => by have := hu x hx; omega)
        refine hK.out _ _ trivial (fun hHeld => ?_)
        clear hK K y0 y1 y2 y3 y4 y5 yf
        refine wpAnyH_take (i := 8) (v := .int .i64 0) rfl (by kernel_rfl) (by kernel_rfl) (by kernel_rfl) (fun _ _ _ h => h) (Or.inl ⟨by rfl, fun _ _ => by go_simp⟩) hHeld ?_
        simp only [List.getElem_toArray, List.getElem_cons_zero, List.getElem_cons_succ, Act.put, List.setIfInBounds_toArray, List.set_cons_zero, List.set_cons_succ]
        refine wpAnyH_done (by kernel_rfl) ?_ _
        go_wp2_with fail
        go_meet
        exact ⟨a3, c3, _, rfl, dE, iE, hu, bWC, tE⟩
    · simp only [List.getElem_toArray, List.getElem_cons_zero, List.getElem_cons_succ]
      go_simp
      refine (Pp _).mono ?_
      rintro x w9 ⟨rfl, hw9⟩
      subst w9
      refine hK.out _ _ trivial (fun hHeld => ?_)
      clear hK K
      refine wpAnyH_ready (rs := [0]) (by kernel_rfl) (by simp) ?_
      refine AllReadyH.cons rfl (fun K hK => ?_) AllReadyH.nil
      · simp only [List.getElem_toArray, List.getElem_cons_zero]
        go_simp
        refine hK.out _ _ trivial (fun hHeld => ?_)
        clear hK K
        refine wpAnyH_ready (rs := [3]) (by kernel_rfl) (by simp) ?_
        refine AllReadyH.cons rfl (fun K hK => ?_) AllReadyH.nil
        simp only [List.getElem_toArray, List.getElem_cons_zero, List.getElem_cons_succ]
        go_simp
        refine (unveil HG1 _ bW0).mono ?_
        rintro x WC ⟨a3, c3, rfl, iC, uC, bC⟩
        have bWC := Below.next bW0 bC
        refine hK.out _ _ trivial (fun hHeld => ?_)
        clear hK K
        refine wpAnyH_take (i := 4) (v := .tuple #[bVal 2 E 0 p 0 a3 es.length c3, .int .i64 0]) rfl (by kernel_rfl) (by kernel_rfl) (by kernel_rfl) (fun _ _ _ h => h) (Or.inl ⟨by rfl, fun _ _ => by go_simp⟩) hHeld ?_
        simp only [List.getElem_toArray, List.getElem_cons_zero, List.getElem_cons_succ, Act.put, List.setIfInBounds_toArray, List.set_cons_zero, List.set_cons_succ]
        refine wpAnyH_take (i := 5) (v := bVal 2 E 0 p 0 a3 es.length c3) rfl (by kernel_rfl) (by kernel_rfl) (by kernel_rfl) (fun _ _ _ h => h) (Or.inl ⟨by rfl, fun _ _ => by go_simp⟩) hHeld ?_
        simp only [List.getElem_toArray, List.getElem_cons_zero, List.getElem_cons_succ, Act.put, List.setIfInBounds_toArray, List.set_cons_zero, List.set_cons_succ]
        refine wpAnyH_take (i := 6) (v := .int .i64 0) rfl (by kernel_rfl) (by kernel_rfl) (by kernel_rfl) (fun _ _ _ h => h) (Or.inl ⟨by rfl, fun _ _ => by go_simp⟩) hHeld ?_
        simp only [List.getElem_toArray, List.getElem_cons_zero, List.getElem_cons_succ, Act.put, List.setIfInBounds_toArray, List.set_cons_zero, List.set_cons_succ]
        refine wpAnyH_ready (rs := [7]) (by kernel_rfl) (by simp) ?_
        refine AllReadyH.cons rfl (fun K hK => ?_) AllReadyH.nil
        simp only [List.getElem_toArray, List.getElem_cons_zero, List.getElem_cons_succ]
        clear y0 y1 y2 y3 y4 y5
        obtain ⟨y0, y1, y2, y3, y4, y5⟩ := ((unveil HKb).next bWC).b.cells
        have yf := ((unveil HKb).next bWC).b.free
        go_simp
        obtain ⟨We, hWe, dE, bE, tE⟩ := b_stored ((unveil HKb).next bWC).b ((unveil HKb).next bWC).bel (unveil HKb).up 2 E 0 p 0 a3 es.length c3
        rw [← hWe]
        clear hWe
        have hlR := (unveil HKb).b.lt
        have hs0 := bW0.size
        have hu : ∀ x, a3 = some x → W1.heap.size ≤ x.block := fun x hx => by have := uC x hx; omega
        have iE := iC.turned tE (fun x hx _ => by have := hu x hx; omega)
        refine hK.out _ _ trivial (fun hHeld => ?_)
        clear hK K y0 y1 y2 y3 y4 y5 yf
        refine wpAnyH_take (i := 8) (v := .int .i64 0) rfl (by kernel_rfl) (by kernel_rfl) (by kernel_rfl) (fun _ _ _ h => h) (Or.inl ⟨by rfl, fun _ _ => by go_simp⟩) hHeld ?_
        simp only [List.getElem_toArray, List.getElem_cons_zero, List.getElem_cons_succ, Act.put, List.setIfInBounds_toArray, List.set_cons_zero, List.set_cons_succ]
        refine wpAnyH_done (by kernel_rfl) ?_ _
        go_wp2_with fail
        go_meet
        exact ⟨a3, c3, _, rfl, dE, iE, hu, bWC, tE⟩
  case rest =>
  obtain ⟨a3, c3, V3, rfl, k3, i3, u3, b3, t3⟩ := hcut
  obtain ⟨W3, hW3⟩ : ∃ W3, W3 = wc := ⟨_, rfl⟩
  subst hW3
  have lR3 := (unveil HKb).b.lt
  have K3 : Kb w W3 Rb (Bt.drn E p 0 es) a3 c3 := ⟨k3, i3, fun x hx _ => by have := u3 x hx; omega, t3.under (Below.next (unveil HKb).bel b3) (unveil HKb).up, (unveil HKb).up⟩
  have Hn := veil (((unveil HDx).next b3).turned t3 (by omega))
  clear HDx
  have HDx := Hn
  clear Hn
  clear HKb k3 i3 u3 b3 t3
  have HKb := veil K3
  clear K3
  go_upto_region 3 with fail
  have HC := caught_all E es s ans a3 c3 W3 p 0 (unveil HKb).i ht (by omega) hE1 hE2 (by omega) (by omega) (by omega) (by omega)
  obtain ⟨xb0, xb1, xb2, xb3, xb4, xb5⟩ := (unveil HKb).b.cells
  have lb := (unveil HKb).b.lt
  go_upto_region 4 with (first | (go_at_call 22; refine HC.mono ?_; rintro x V4 ⟨a4, c4, rfl, i4, u4, b4⟩; clear HC xb0 xb1 xb2 xb3 xb4 xb5 lb; obtain ⟨xb0, xb1, xb2, xb3, xb4, xb5⟩ := ((unveil HKb).next b4).b.cells; have xf := ((unveil HKb).next b4).b.free))
  obtain ⟨W4, hW4, K4, t4⟩ := (unveil HKb).put (B' := (Bt.sld E p es)) i4 u4 b4
  rw [← hW4]
  clear hW4 xf xb0 xb1 xb2 xb3 xb4 xb5
  have Hn := veil (((unveil HDx).next b4).turned t4 (by omega))
  clear HDx HKb
  have HDx := Hn
  clear Hn
  have HKb := veil K4
  clear K4 i4 u4 b4 t4
  obtain ⟨k0, k1, k2, k3⟩ := (unveil HDx).cells
  go_upto_region 5 with (go_at_call 17; refine (hEv _).mono ?_; rintro x V5 ⟨rfl, b5⟩; clear k0 k1 k2 k3 hEv)
  obtain ⟨W5, hW5, y5, d5⟩ := Eb.new V5 v
  rw [← hW5]
  clear hW5
  have hRb5 : Rb < V5.heap.size := Nat.lt_of_lt_of_le (unveil HKb).b.lt b5.size
  have hRu : w.heap.size ≤ V5.heap.size := Nat.le_trans (unveil HKb).bel.size b5.size
  clear HDx
  have hay0 : ∀ x, a4 = some x → 0 < es.length → x.block < V5.heap.size := fun x hx h0 => Nat.lt_of_lt_of_le ((unveil HKb).i.row.blk_lt x hx (by show 0 < 6 * es.length; omega)) b5.size
  have HKn := veil ((unveil HKb).next (Below.next b5 d5))
  clear HKb
  have HKb := HKn
  clear HKn
  obtain ⟨Ry, hRy⟩ : ∃ R, R = V5.heap.size := ⟨_, rfl⟩
  rw [← hRy] at y5 hRb5 hRu hay0 ⊢
  clear hRy b5 d5
  have ok := ht.sld_ok (E := E) (t := p) (by omega) hE1 (by omega) (by omega) (by omega)
  obtain ⟨v0, v1, v2, v3, v4, v5⟩ := y5.cells
  have yf := y5.free
  have HY5 := veil y5
  clear y5
  by_cases hk : v.k = 4
  · go_upto_region 7 with fail
    obtain ⟨W6, hW6, y6, t6⟩ := (unveil HY5).put ⟨2, 0, 0, 0, 0, 0⟩
    rw [← hW6]
    obtain ⟨v', hv'⟩ : ∃ v' : Ev, v' = ⟨2, 0, 0, 0, 0, 0⟩ := ⟨_, rfl⟩
    have hv6 : v'.Ok := by rw [hv']; unfold Ev.Ok eventFault; simp
    have hk6 : ¬ v'.k = 4 := by rw [hv']; decide
    rw [← hv'] at y6
    clear hW6 hv' v0 v1 v2 v3 v4 v5 yf hk
    have HKn := veil ((unveil HKb).turned t6 (by omega) (fun x hx h0 => by have := hay0 x hx h0; omega) hRu)
    clear HKb t6
    have HKb := HKn
    clear HKn HY5
    have HY := veil y6
    have HV6 := veil hk6
    clear y6 hk6
    have HC : Calls Try.prog 20 #[bVal 3 E 0 p 0 a4 es.length c4, evIn v'] W6 fun x w' => ∃ a' c', x = .returned (.tuple #[bVal 3 E 0 p 0 a' es.length c', ansVal 12 0 0 0, .bool false, .int .i64 0]) ∧ BIn w' (Bt.sld E p es) a' c' ∧ (∀ x, a' = some x → W6.heap.size ≤ x.block) ∧ Below W6.heap.size W6 w' := serve_still (Bt.sld E p es) a4 c4 v' 12 W6 (unveil HKb).i ok (.inl ⟨rfl, rfl⟩) hv6 (unveil HV6)
    obtain ⟨xb0, xb1, xb2, xb3, xb4, xb5⟩ := (unveil HKb).b.cells
    have lb := (unveil HKb).b.lt
    obtain ⟨v0, v1, v2, v3, v4, v5⟩ := (unveil HY).cells
    go_upto_region 8 with (first | (go_at_call 20; refine HC.mono ?_; rintro x V7 ⟨a7, c7, rfl, i7, u7, b7⟩; clear HC v0 v1 v2 v3 v4 v5 xb0 xb1 xb2 xb3 xb4 xb5 lb))
    obtain ⟨W7, hW7, K7, A7, d7⟩ : ∃ W, W = (V7.alloc (.cells (bCells 3 E 0 p 0 a7 es.length c7) 27)).alloc (.cells #[.int .i64 12, .int .i64 0, .int .i64 0, .int .i64 0] 50) ∧ Kb w W V7.heap.size (Bt.sld E p es) a7 c7 ∧ ansBlock W (V7.heap.size + 1) 12 0 0 0 ∧ Below V7.heap.size V7 W := Kb.new2 12 0 0 0 i7 (unveil HKb).bel b7
    rw [← hW7]
    clear hW7
    have HKn := veil ((unveil HKb).next (Below.next b7 d7))
    clear HKb
    have HKb := HKn
    clear HKn
    have Hn := veil ((unveil HY).next (Below.next b7 d7))
    clear HY
    have HY := Hn
    clear Hn
    obtain ⟨Rc, hR⟩ : ∃ R, R = V7.heap.size := ⟨_, rfl⟩
    rw [← hR] at K7 A7 ⊢
    clear hR i7 u7 b7 d7
    have HKc := veil K7
    have HAc := veil A7
    clear K7 A7
    have HC : Calls Try.prog 20 #[bVal 0 0 0 0 0 none 0 0, evIn v'] W7 fun x w' => ∃ a' c', x = .returned (.tuple #[bVal 0 0 0 0 0 a' 0 c', ansVal 7 0 0 0, .bool false, .int .i64 0]) ∧ BIn w' (Bt.nob 0) a' c' ∧ (∀ x, a' = some x → W7.heap.size ≤ x.block) ∧ Below W7.heap.size W7 w' := serve_still (Bt.nob 0) none 0 v' 7 W7 ⟨RowK.nil _ _ _, Nat.le_refl _, fun _ => rfl⟩ (nob_ok (by decide) (by decide)) (.inr ⟨rfl, rfl⟩) hv6 (unveil HV6)
    obtain ⟨v0, v1, v2, v3, v4, v5⟩ := (unveil HY).cells
    go_upto_region 9 with (first | (go_at_call 20; refine HC.mono ?_; rintro x V8 ⟨a8, c8, rfl, i8, u8, b8⟩; clear HC v0 v1 v2 v3 v4 v5 ))
    obtain ⟨W8, hW8, K8, A8, d8⟩ : ∃ W, W = (V8.alloc (.cells (bCells 0 0 0 0 0 a8 0 c8) 27)).alloc (.cells #[.int .i64 7, .int .i64 0, .int .i64 0, .int .i64 0] 50) ∧ Kb w W V8.heap.size (Bt.nob 0) a8 c8 ∧ ansBlock W (V8.heap.size + 1) 7 0 0 0 ∧ Below V8.heap.size V8 W := Kb.new2 7 0 0 0 i8 (unveil HKb).bel b8
    rw [← hW8]
    clear hW8
    have HKn := veil ((unveil HKb).next (Below.next b8 d8))
    clear HKb
    have HKb := HKn
    clear HKn
    have HKn := veil ((unveil HKc).next (Below.next b8 d8))
    clear HKc
    have HKc := HKn
    clear HKn
    have Hn := veil ((unveil HY).next (Below.next b8 d8))
    clear HY
    have HY := Hn
    clear Hn
    have Hn := veil ((unveil HAc).next (Below.next b8 d8))
    clear HAc
    have HAc := Hn
    clear Hn
    obtain ⟨Rn, hR⟩ : ∃ R, R = V8.heap.size := ⟨_, rfl⟩
    rw [← hR] at K8 A8 ⊢
    clear hR i8 u8 b8 d8
    have HKn := veil K8
    have HAn := veil A8
    clear K8 A8
    have HC := bt_out (bwake_any (Bt.sld E p es) a4 c4 W8 (unveil HKb).i) (B2 := Bt.sld E p es) (er2 := 0) (by unfold wakeOf; rw [if_neg (fun h => h ok), if_pos (by show ¬ ((3 : Int) = 1 ∨ (3 : Int) = 2); decide)])
    obtain ⟨xb0, xb1, xb2, xb3, xb4, xb5⟩ := (unveil HKb).b.cells
    have lb := (unveil HKb).b.lt
    go_upto_region 10 with (first | (go_at_call 23; refine HC.mono ?_; rintro x V9 ⟨a9, c9, rfl, i9, u9, b9⟩; clear HC xb0 xb1 xb2 xb3 xb4 xb5 lb))
    obtain ⟨W9, hW9, K9, d9⟩ := Kb.new (B := (Bt.sld E p es)) i9 (unveil HKb).bel b9
    rw [← hW9]
    clear hW9
    have HKn := veil ((unveil HKb).next (Below.next b9 d9))
    clear HKb
    have HKb := HKn
    clear HKn
    have HKn := veil ((unveil HKc).next (Below.next b9 d9))
    clear HKc
    have HKc := HKn
    clear HKn
    have HKn := veil ((unveil HKn).next (Below.next b9 d9))
    clear HKn
    have HKn := HKn
    clear HKn
    have Hn := veil ((unveil HY).next (Below.next b9 d9))
    clear HY
    have HY := Hn
    clear Hn
    have Hn := veil ((unveil HAc).next (Below.next b9 d9))
    clear HAc
    have HAc := Hn
    clear Hn
    have Hn := veil ((unveil HAn).next (Below.next b9 d9))
    clear HAn
    have HAn := Hn
    clear Hn
    obtain ⟨Rw, hR⟩ : ∃ R, R = V9.heap.size := ⟨_, rfl⟩
    rw [← hR] at K9 ⊢
    clear hR
    have HKw := veil K9
    clear K9 i9 u9 b9 d9
    have HS1 := sameEventsK_below a7 a4 es.length c7 c4 (evFlat es) W9 (unveil HKc).i.row (unveil HKb).i.row (by omega)
    have HS2 : Hid (∀ W, Below W9.heap.size W9 W → Calls Try.prog 24 #[.slice a9 es.length c9, .slice a4 es.length c4] W fun e w' => e = .returned (.bool true) ∧ Below W.heap.size W w') := veil fun W b => sameEventsK_below a9 a4 es.length c9 c4 (evFlat es) W ((unveil HKw).i.row.below b) ((unveil HKb).i.row.below b) (by omega)
    obtain ⟨xb0, xb1, xb2, xb3, xb4, xb5⟩ := (unveil HKb).b.cells
    have lb := (unveil HKb).b.lt
    obtain ⟨xc0, xc1, xc2, xc3, xc4, xc5⟩ := (unveil HKc).b.cells
    have lc := (unveil HKc).b.lt
    obtain ⟨xw0, xw1, xw2, xw3, xw4, xw5⟩ := (unveil HKw).b.cells
    have lw := (unveil HKw).b.lt
    obtain ⟨y0, y1, y2, y3⟩ := (unveil HAc).cells
    obtain ⟨z0, z1, z2, z3⟩ := (unveil HAn).cells
    go_wp2_with (first | (go_at_call 24; refine HS1.mono ?_; rintro x W10 ⟨rfl, b10⟩; have hS2 := unveil HS2 W10 b10; obtain ⟨ub0, ub1, ub2, ub3, ub4, ub5⟩ := ((unveil HKb).next b10).b.cells; obtain ⟨uw0, uw1, uw2, uw3, uw4, uw5⟩ := ((unveil HKw).next b10).b.cells; clear HS1 HS2 xb0 xb1 xb2 xb3 xb4 xb5 xc0 xc1 xc2 xc3 xc4 xc5 xw0 xw1 xw2 xw3 xw4 xw5) | (go_at_call 24; refine hS2.mono ?_; rintro x W11 ⟨rfl, b11⟩; clear hS2))
    go_ret
    exact ⟨by simp, Below.next (Below.next (unveil HKb).bel b10) b11⟩
  · go_upto_region 7 with fail
    obtain ⟨W6, hW6⟩ : ∃ W6, W6 = W5 := ⟨_, rfl⟩
    obtain ⟨v', hv'⟩ : ∃ v' : Ev, v' = v := ⟨_, rfl⟩
    have t6 : Turned Ry W5 W6 := by rw [hW6]; exact Turned.refl _ _
    have y6 : Eb W6 Ry v' := by rw [hW6, hv']; exact unveil HY5
    have hv6 : v'.Ok := by rw [hv']; exact unveil HVL
    have hk6 : ¬ v'.k = 4 := by rw [hv']; exact hk
    rw [← hW6]
    clear hW6 hv' v0 v1 v2 v3 v4 v5 yf hk
    have HKn := veil ((unveil HKb).turned t6 (by omega) (fun x hx h0 => by have := hay0 x hx h0; omega) hRu)
    clear HKb t6
    have HKb := HKn
    clear HKn HY5
    have HY := veil y6
    have HV6 := veil hk6
    clear y6 hk6
    have HC : Calls Try.prog 20 #[bVal 3 E 0 p 0 a4 es.length c4, evIn v'] W6 fun x w' => ∃ a' c', x = .returned (.tuple #[bVal 3 E 0 p 0 a' es.length c', ansVal 12 0 0 0, .bool false, .int .i64 0]) ∧ BIn w' (Bt.sld E p es) a' c' ∧ (∀ x, a' = some x → W6.heap.size ≤ x.block) ∧ Below W6.heap.size W6 w' := serve_still (Bt.sld E p es) a4 c4 v' 12 W6 (unveil HKb).i ok (.inl ⟨rfl, rfl⟩) hv6 (unveil HV6)
    obtain ⟨xb0, xb1, xb2, xb3, xb4, xb5⟩ := (unveil HKb).b.cells
    have lb := (unveil HKb).b.lt
    obtain ⟨v0, v1, v2, v3, v4, v5⟩ := (unveil HY).cells
    go_upto_region 8 with (first | (go_at_call 20; refine HC.mono ?_; rintro x V7 ⟨a7, c7, rfl, i7, u7, b7⟩; clear HC v0 v1 v2 v3 v4 v5 xb0 xb1 xb2 xb3 xb4 xb5 lb))
    obtain ⟨W7, hW7, K7, A7, d7⟩ : ∃ W, W = (V7.alloc (.cells (bCells 3 E 0 p 0 a7 es.length c7) 27)).alloc (.cells #[.int .i64 12, .int .i64 0, .int .i64 0, .int .i64 0] 50) ∧ Kb w W V7.heap.size (Bt.sld E p es) a7 c7 ∧ ansBlock W (V7.heap.size + 1) 12 0 0 0 ∧ Below V7.heap.size V7 W := Kb.new2 12 0 0 0 i7 (unveil HKb).bel b7
    rw [← hW7]
    clear hW7
    have HKn := veil ((unveil HKb).next (Below.next b7 d7))
    clear HKb
    have HKb := HKn
    clear HKn
    have Hn := veil ((unveil HY).next (Below.next b7 d7))
    clear HY
    have HY := Hn
    clear Hn
    obtain ⟨Rc, hR⟩ : ∃ R, R = V7.heap.size := ⟨_, rfl⟩
    rw [← hR] at K7 A7 ⊢
    clear hR i7 u7 b7 d7
    have HKc := veil K7
    have HAc := veil A7
    clear K7 A7
    have HC : Calls Try.prog 20 #[bVal 0 0 0 0 0 none 0 0, evIn v'] W7 fun x w' => ∃ a' c', x = .returned (.tuple #[bVal 0 0 0 0 0 a' 0 c', ansVal 7 0 0 0, .bool false, .int .i64 0]) ∧ BIn w' (Bt.nob 0) a' c' ∧ (∀ x, a' = some x → W7.heap.size ≤ x.block) ∧ Below W7.heap.size W7 w' := serve_still (Bt.nob 0) none 0 v' 7 W7 ⟨RowK.nil _ _ _, Nat.le_refl _, fun _ => rfl⟩ (nob_ok (by decide) (by decide)) (.inr ⟨rfl, rfl⟩) hv6 (unveil HV6)
    obtain ⟨v0, v1, v2, v3, v4, v5⟩ := (unveil HY).cells
    go_upto_region 9 with (first | (go_at_call 20; refine HC.mono ?_; rintro x V8 ⟨a8, c8, rfl, i8, u8, b8⟩; clear HC v0 v1 v2 v3 v4 v5 ))
    obtain ⟨W8, hW8, K8, A8, d8⟩ : ∃ W, W = (V8.alloc (.cells (bCells 0 0 0 0 0 a8 0 c8) 27)).alloc (.cells #[.int .i64 7, .int .i64 0, .int .i64 0, .int .i64 0] 50) ∧ Kb w W V8.heap.size (Bt.nob 0) a8 c8 ∧ ansBlock W (V8.heap.size + 1) 7 0 0 0 ∧ Below V8.heap.size V8 W := Kb.new2 7 0 0 0 i8 (unveil HKb).bel b8
    rw [← hW8]
    clear hW8
    have HKn := veil ((unveil HKb).next (Below.next b8 d8))
    clear HKb
    have HKb := HKn
    clear HKn
    have HKn := veil ((unveil HKc).next (Below.next b8 d8))
    clear HKc
    have HKc := HKn
    clear HKn
    have Hn := veil ((unveil HY).next (Below.next b8 d8))
    clear HY
    have HY := Hn
    clear Hn
    have Hn := veil ((unveil HAc).next (Below.next b8 d8))
    clear HAc
    have HAc := Hn
    clear Hn
    obtain ⟨Rn, hR⟩ : ∃ R, R = V8.heap.size := ⟨_, rfl⟩
    rw [← hR] at K8 A8 ⊢
    clear hR i8 u8 b8 d8
    have HKn := veil K8
    have HAn := veil A8
    clear K8 A8
    have HC := bt_out (bwake_any (Bt.sld E p es) a4 c4 W8 (unveil HKb).i) (B2 := Bt.sld E p es) (er2 := 0) (by unfold wakeOf; rw [if_neg (fun h => h ok), if_pos (by show ¬ ((3 : Int) = 1 ∨ (3 : Int) = 2); decide)])
    obtain ⟨xb0, xb1, xb2, xb3, xb4, xb5⟩ := (unveil HKb).b.cells
    have lb := (unveil HKb).b.lt
    go_upto_region 10 with (first | (go_at_call 23; refine HC.mono ?_; rintro x V9 ⟨a9, c9, rfl, i9, u9, b9⟩; clear HC xb0 xb1 xb2 xb3 xb4 xb5 lb))
    obtain ⟨W9, hW9, K9, d9⟩ := Kb.new (B := (Bt.sld E p es)) i9 (unveil HKb).bel b9
    rw [← hW9]
    clear hW9
    have HKn := veil ((unveil HKb).next (Below.next b9 d9))
    clear HKb
    have HKb := HKn
    clear HKn
    have HKn := veil ((unveil HKc).next (Below.next b9 d9))
    clear HKc
    have HKc := HKn
    clear HKn
    have HKn := veil ((unveil HKn).next (Below.next b9 d9))
    clear HKn
    have HKn := HKn
    clear HKn
    have Hn := veil ((unveil HY).next (Below.next b9 d9))
    clear HY
    have HY := Hn
    clear Hn
    have Hn := veil ((unveil HAc).next (Below.next b9 d9))
    clear HAc
    have HAc := Hn
    clear Hn
    have Hn := veil ((unveil HAn).next (Below.next b9 d9))
    clear HAn
    have HAn := Hn
    clear Hn
    obtain ⟨Rw, hR⟩ : ∃ R, R = V9.heap.size := ⟨_, rfl⟩
    rw [← hR] at K9 ⊢
    clear hR
    have HKw := veil K9
    clear K9 i9 u9 b9 d9
    have HS1 := sameEventsK_below a7 a4 es.length c7 c4 (evFlat es) W9 (unveil HKc).i.row (unveil HKb).i.row (by omega)
    have HS2 : Hid (∀ W, Below W9.heap.size W9 W → Calls Try.prog 24 #[.slice a9 es.length c9, .slice a4 es.length c4] W fun e w' => e = .returned (.bool true) ∧ Below W.heap.size W w') := veil fun W b => sameEventsK_below a9 a4 es.length c9 c4 (evFlat es) W ((unveil HKw).i.row.below b) ((unveil HKb).i.row.below b) (by omega)
    obtain ⟨xb0, xb1, xb2, xb3, xb4, xb5⟩ := (unveil HKb).b.cells
    have lb := (unveil HKb).b.lt
    obtain ⟨xc0, xc1, xc2, xc3, xc4, xc5⟩ := (unveil HKc).b.cells
    have lc := (unveil HKc).b.lt
    obtain ⟨xw0, xw1, xw2, xw3, xw4, xw5⟩ := (unveil HKw).b.cells
    have lw := (unveil HKw).b.lt
    obtain ⟨y0, y1, y2, y3⟩ := (unveil HAc).cells
    obtain ⟨z0, z1, z2, z3⟩ := (unveil HAn).cells
    go_wp2_with (first | (go_at_call 24; refine HS1.mono ?_; rintro x W10 ⟨rfl, b10⟩; have hS2 := unveil HS2 W10 b10; obtain ⟨ub0, ub1, ub2, ub3, ub4, ub5⟩ := ((unveil HKb).next b10).b.cells; obtain ⟨uw0, uw1, uw2, uw3, uw4, uw5⟩ := ((unveil HKw).next b10).b.cells; clear HS1 HS2 xb0 xb1 xb2 xb3 xb4 xb5 xc0 xc1 xc2 xc3 xc4 xc5 xw0 xw1 xw2 xw3 xw4 xw5) | (go_at_call 24; refine hS2.mono ?_; rintro x W11 ⟨rfl, b11⟩; clear hS2))
    go_ret
    exact ⟨by simp, Below.next (Below.next (unveil HKb).bel b10) b11⟩
end Go.Proofs.Ytdenfhnbhmdbnaa
