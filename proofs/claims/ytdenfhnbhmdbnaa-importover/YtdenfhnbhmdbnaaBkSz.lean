/- The walk of berthshiftkeep.ImportOver. -/
import Derived.Test.YtdenfhnbhmdbnaaBkLst
namespace Go.Proofs.Ytdenfhnbhmdbnaa
open Go.RowKit

theorem Eb.set0 {w : World} {R : Nat} {v : Ev} (h : Eb w R v) (k : Int) : ∃ W, W = w.setCell ⟨R, 0, none⟩ (.int .i64 k) ∧ Eb W R ⟨k, v.p, v.i, v.b, v.he, v.hn⟩ ∧ Turned R w W := by
  refine ⟨_, rfl, ?_, Turned.set R 0 w _⟩
  unfold Eb at h ⊢
  rw [heap_setB h]
  simp

set_option maxRecDepth 20000 in
set_option maxHeartbeats 4000000 in
theorem walk_ImportOver (w : World) (ep : Int) (wep : (Lit.int .i64 ep).wf = true) (a0 : Option Addr) (len cap : Nat) (D : List Int) (h : RowK .i64 w a0 (4 * len) D) (_ : len ≤ cap) (_ : cap ≤ maxLen) (_ : a0 = none → cap = 0) (cut : Int) (wcut : (Lit.int .i64 cut).wf = true) (fr : Int) (wfr : (Lit.int .i64 fr).wf = true) :
    Calls Try.prog 7 #[.int .i64 ep, .slice a0 len cap, .int .i64 cut, .int .i64 fr] w fun r w' => r = .returned (.bool true) ∧ Below w.heap.size w w' := by
  have HSv := kserved_any ep a0 len cap 40 D w h wep (by omega)
  clear h
  go_enter Try.func7, Try.ntmps7
  go_upto_region 2 with (go_at_call 14; refine HSv.mono ?_; rintro x V1 ⟨E, es, s, ans, y, rfl, hist, hl, nb, hE1, hE2, ⟨⟨a, c, rfl, i1, u1⟩⟩, b1⟩; clear HSv)
  obtain ⟨W1, hW1, K1, _⟩ := Kb.new i1 (Below.refl _ _) b1
  rw [← hW1]
  obtain ⟨Rb, hR⟩ : ∃ R, R = V1.heap.size := ⟨_, rfl⟩
  rw [← hR] at K1 ⊢
  clear hW1 hR i1 u1 b1
  have ht := hist.tells
  have HH := veil hist
  have HNB := veil nb
  clear hist nb
  have HKb := veil K1
  clear K1
  have hw1 : IntKind.i64.wrap ((es.length : Int) + 1) = (es.length : Int) + 1 := by rw [IntKind.wrap_i64]; omega
  have p0 := pickedOf_range cut ((es.length : Int) + 1) (by omega)
  have Pp : ∀ w, Calls Try.prog 16 #[.int .i64 cut, .int .i64 ((es.length : Int) + 1)] w fun e w' => e = .returned (.int .i64 (pickedOf cut ((es.length : Int) + 1))) ∧ w' = w := fun w => (picked_any cut ((es.length : Int) + 1) w wcut (by omega) (by omega)).mono fun _ _ h => ⟨h.1, h.2.symm⟩
  obtain ⟨k, hk⟩ : ∃ k : Nat, pickedOf cut ((es.length : Int) + 1) = k := ⟨(pickedOf cut ((es.length : Int) + 1)).toNat, by omega⟩
  rw [hk] at p0 Pp
  have hkn : k ≤ es.length := by omega
  clear hk p0
  have hw2 : IntKind.i64.wrap ((k : Int) + 1) = (k : Int) + 1 := by rw [IntKind.wrap_i64]; omega
  have q0 := pickedOf_range fr ((k : Int) + 1) (by omega)
  have Pq : ∀ w, Calls Try.prog 16 #[.int .i64 fr, .int .i64 ((k : Int) + 1)] w fun e w' => e = .returned (.int .i64 (pickedOf fr ((k : Int) + 1))) ∧ w' = w := fun w => (picked_any fr ((k : Int) + 1) w wfr (by omega) (by omega)).mono fun _ _ h => ⟨h.1, h.2.symm⟩
  obtain ⟨j, hj⟩ : ∃ j : Nat, pickedOf fr ((k : Int) + 1) = j := ⟨(pickedOf fr ((k : Int) + 1)).toNat, by omega⟩
  rw [hj] at q0 Pq
  have hjk : j ≤ k := by omega
  have hjn : j ≤ es.length := by omega
  clear hj q0
  obtain ⟨H, hH⟩ : ∃ H, H = es.take k := ⟨_, rfl⟩
  obtain ⟨Tl, hTl⟩ : ∃ Tl, Tl = es.drop j := ⟨_, rfl⟩
  have hlH : H.length = k := by rw [hH, List.length_take]; omega
  have hlT : Tl.length = es.length - j := by rw [hTl, List.length_drop]
  have hjoin : H ++ Tl.drop (H.length - j) = es := by
    rw [hlH, hTl, List.drop_drop, show j + (k - j) = k by omega, hH, List.take_append_drop]
  have hfit : Fits (H.drop j) Tl false := by
    refine ⟨?_, fun h => by cases h⟩
    rw [hH, hTl, List.drop_take, List.length_take, List.length_drop, List.take_take, Nat.min_eq_left (by omega)]
    congr 1
    omega
  obtain ⟨sH, htH⟩ : ∃ sH, Tells H sH (ans.take k) := by rw [hH]; exact ht.take k hkn
  have HHH := veil (And.intro hH (And.intro hTl (And.intro hlH (And.intro hlT (And.intro hjoin hfit)))))
  clear hH hTl hlH hlT hjoin hfit
  obtain ⟨xb0, xb1, xb2, xb3, xb4, xb5⟩ := (unveil HKb).b.cells
  have lb := (unveil HKb).b.lt
  go_upto_region 4 with (go_at_call 16; refine (Pp _).mono ?_; rintro x w9 ⟨rfl, hw9⟩; subst w9; clear Pp)
  clear xb0 xb1 xb2 xb3 xb4 xb5 lb
  have HC := begin_first E 1 hE1 (by omega) (by omega) (by omega) W1
  obtain ⟨xb0, xb1, xb2, xb3, xb4, xb5⟩ := (unveil HKb).b.cells
  have lb := (unveil HKb).b.lt
  go_upto_region 5 with (first | (go_at_call 26; refine HC.mono ?_; rintro x V3 ⟨a3, c3, rfl, i3, u3, b3⟩; clear HC xb0 xb1 xb2 xb3 xb4 xb5 lb))
  obtain ⟨W3, hW3, K3, d3⟩ : ∃ W, W = V3.alloc (.cells (bCells 4 E 1 0 0 a3 0 c3) 27) ∧ Kb w W V3.heap.size (Bt.imp E 1 []) a3 c3 ∧ Below V3.heap.size V3 W := Kb.new (B := (Bt.imp E 1 [])) i3 (unveil HKb).bel b3
  rw [← hW3]
  clear hW3
  have hr_b_t : ∀ x, a = some x → 0 < (Bt.act E es).es.length → x.block < V3.heap.size := fun x hx h0 => Nat.lt_of_lt_of_le ((unveil HKb).i.row.blk_lt x hx (by omega)) b3.size
  have hR_b_t : Rb < V3.heap.size := Nat.lt_of_lt_of_le (unveil HKb).b.lt b3.size
  have HKn := veil ((unveil HKb).next (Below.next b3 d3))
  clear HKb
  have HKb := HKn
  clear HKn
  obtain ⟨Rt, hR⟩ : ∃ R, R = V3.heap.size := ⟨_, rfl⟩
  rw [← hR] at K3 hr_b_t hR_b_t ⊢
  clear hR
  have HKt := veil K3
  clear K3 i3 u3 b3 d3
  have hkc : k ≤ c := Nat.le_trans hkn (unveil HKb).i.cap
  have HI4 : Hid (∀ W, Below W3.heap.size W3 W → Calls Try.prog 27 #[bVal 4 E 1 0 0 a3 0 c3, .int .i64 E, .int .i64 0, .slice (cutA a k 0) k k, .bool false] W fun x w' => ∃ a' c', x = .returned (.tuple #[bVal 4 E 1 0 0 a' H.length c', .int .i64 0]) ∧ BIn w' (Bt.imp E 1 H) a' c' ∧ (∀ x, a' = some x → W.heap.size ≤ x.block) ∧ Below W.heap.size W w') := veil fun W b => by
    obtain ⟨r1, n1⟩ := cut_row_hm (((unveil HKb).i.next b).row) k hkn
    rw [← (unveil HHH).1] at r1
    exact bt_out (bimport_any (Bt.imp E 1 []) a3 c3 E 0 H (cutA a k 0) k k false W ((unveil HKt).i.next b) r1 (unveil HHH).2.2.1.symm (Nat.le_refl _) n1) (B2 := Bt.imp E 1 H) (er2 := 0) (import_first hE1 (by omega) (by omega) (by omega) htH (by have := (unveil HHH).2.2.1; omega))
  go_cut [15] (fun eX wx => ∃ (a4 : Option Addr) (c4 : Nat) (V : World), eX = .int .i64 0 ∧ bBlock wx Rt 4 E 1 0 0 a4 H.length c4 ∧ BIn wx (Bt.imp E 1 H) a4 c4 ∧ (∀ x, a4 = some x → W3.heap.size ≤ x.block) ∧ Below W3.heap.size W3 V ∧ Turned Rt V wx)
  case first =>
    have hne_4 : Rb ≠ Rt := by omega
    refine wp_region_held_drew (S := fun u => bBlock u Rb 1 E 0 0 0 a es.length c) (by kernel_rfl) (((unveil HKb).next (below_drew W3)).b) (fun hHeld => ?_)
    refine wpAnyH_take (i := 1) (v := .pointer (some ⟨Rb, 1, none⟩)) rfl (by kernel_rfl) (by kernel_rfl) (by kernel_rfl) (fun _ _ _ h => h) (Or.inl ⟨by rfl, fun _ _ => by go_simp⟩) hHeld ?_
    simp only [List.getElem_toArray, List.getElem_cons_zero, List.getElem_cons_succ, Act.put, List.setIfInBounds_toArray, List.set_cons_zero, List.set_cons_succ]
    refine wpAnyH_take (i := 2) (v := .int .i64 E) rfl (by kernel_rfl) (by kernel_rfl) (by kernel_rfl) (fun _ _ _ h => h) (Or.inl ⟨by rfl, fun u h => by obtain ⟨x0, x1, x2, x3, x4, x5⟩ := bBlock.cells h; go_simp⟩) hHeld ?_
    simp only [List.getElem_toArray, List.getElem_cons_zero, List.getElem_cons_succ, Act.put, List.setIfInBounds_toArray, List.set_cons_zero, List.set_cons_succ]
    refine wpAnyH_take (i := 3) (v := .pointer (some ⟨Rb, 5, none⟩)) rfl (by kernel_rfl) (by kernel_rfl) (by kernel_rfl) (fun _ _ _ h => h) (Or.inl ⟨by rfl, fun _ _ => by go_simp⟩) hHeld ?_
    simp only [List.getElem_toArray, List.getElem_cons_zero, List.getElem_cons_succ, Act.put, List.setIfInBounds_toArray, List.set_cons_zero, List.set_cons_succ]
    refine wpAnyH_take (i := 4) (v := .slice a es.length c) rfl (by kernel_rfl) (by kernel_rfl) (by kernel_rfl) (fun _ _ _ h => h) (Or.inl ⟨by rfl, fun u h => by obtain ⟨x0, x1, x2, x3, x4, x5⟩ := bBlock.cells h; go_simp⟩) hHeld ?_
    simp only [List.getElem_toArray, List.getElem_cons_zero, List.getElem_cons_succ, Act.put, List.setIfInBounds_toArray, List.set_cons_zero, List.set_cons_succ]
    refine wpAnyH_take (i := 5) (v := .int .i64 (k : Int)) rfl (by kernel_rfl) (by kernel_rfl) (by kernel_rfl) (fun _ _ _ h => h) (Or.inl ⟨by rfl, fun _ _ => by go_simp⟩) hHeld ?_
    simp only [List.getElem_toArray, List.getElem_cons_zero, List.getElem_cons_succ, Act.put, List.setIfInBounds_toArray, List.set_cons_zero, List.set_cons_succ]
    refine wpAnyH_take (i := 6) (v := .int .i64 (k : Int)) rfl (by kernel_rfl) (by kernel_rfl) (by kernel_rfl) (fun _ _ _ h => h) (Or.inl ⟨by rfl, fun _ _ => by go_simp⟩) hHeld ?_
    simp only [List.getElem_toArray, List.getElem_cons_zero, List.getElem_cons_succ, Act.put, List.setIfInBounds_toArray, List.set_cons_zero, List.set_cons_succ]
    refine wpAnyH_take (i := 7) (v := .slice (cutA a k 0) k k) rfl (by kernel_rfl) (by kernel_rfl) (by kernel_rfl) (fun _ _ _ h => h) (yields_cut_hm _ _ _ rfl rfl rfl rfl rfl hkc) hHeld ?_
    simp only [List.getElem_toArray, List.getElem_cons_zero, List.getElem_cons_succ, Act.put, List.setIfInBounds_toArray, List.set_cons_zero, List.set_cons_succ]
    have bW0 := below_drew W3
    obtain ⟨W0, hW0⟩ : ∃ W0, W0 = W3.drew := ⟨_, rfl⟩
    rw [← hW0] at bW0 hHeld ⊢
    clear hW0
    obtain ⟨y0, y1, y2, y3, y4, y5⟩ := ((unveil HKt).next bW0).b.cells
    refine wpAnyH_ready (rs := [0]) (by kernel_rfl) (by simp) ?_
    refine AllReadyH.cons rfl (fun K hK => ?_) AllReadyH.nil
    simp only [List.getElem_toArray, List.getElem_cons_zero]
    go_simp
    refine hK.out _ _ hHeld (fun hHeld => ?_)
    clear hK K
    refine wpAnyH_ready (rs := [8]) (by kernel_rfl) (by simp) ?_
    refine AllReadyH.cons rfl (fun K hK => ?_) AllReadyH.nil
    simp only [List.getElem_toArray, List.getElem_cons_zero, List.getElem_cons_succ]
    go_simp
    refine (unveil HI4 _ bW0).mono ?_
    rintro x WC ⟨a4, c4, rfl, iC, uC, bC⟩
    have bWC := Below.next bW0 bC
    refine hK.out _ _ ((unveil HKb).next bWC).b (fun hHeld => ?_)
    clear hK K
    refine wpAnyH_take (i := 9) (v := .tuple #[bVal 4 E 1 0 0 a4 H.length c4, .int .i64 0]) rfl (by kernel_rfl) (by kernel_rfl) (by kernel_rfl) (fun _ _ _ h => h) (Or.inl ⟨by rfl, fun _ _ => by go_simp⟩) hHeld ?_
    simp only [List.getElem_toArray, List.getElem_cons_zero, List.getElem_cons_succ, Act.put, List.setIfInBounds_toArray, List.set_cons_zero, List.set_cons_succ]
    refine wpAnyH_take (i := 10) (v := bVal 4 E 1 0 0 a4 H.length c4) rfl (by kernel_rfl) (by kernel_rfl) (by kernel_rfl) (fun _ _ _ h => h) (Or.inl ⟨by rfl, fun _ _ => by go_simp⟩) hHeld ?_
    simp only [List.getElem_toArray, List.getElem_cons_zero, List.getElem_cons_succ, Act.put, List.setIfInBounds_toArray, List.set_cons_zero, List.set_cons_succ]
    refine wpAnyH_take (i := 11) (v := .int .i64 0) rfl (by kernel_rfl) (by kernel_rfl) (by kernel_rfl) (fun _ _ _ h => h) (Or.inl ⟨by rfl, fun _ _ => by go_simp⟩) hHeld ?_
    simp only [List.getElem_toArray, List.getElem_cons_zero, List.getElem_cons_succ, Act.put, List.setIfInBounds_toArray, List.set_cons_zero, List.set_cons_succ]
    refine wpAnyH_ready (rs := [12]) (by kernel_rfl) (by simp) ?_
    refine AllReadyH.cons rfl (fun K hK => ?_) AllReadyH.nil
    simp only [List.getElem_toArray, List.getElem_cons_zero, List.getElem_cons_succ]
    clear y0 y1 y2 y3 y4 y5
    obtain ⟨y0, y1, y2, y3, y4, y5⟩ := ((unveil HKt).next bWC).b.cells
    have yf := ((unveil HKt).next bWC).b.free
    go_simp
    obtain ⟨We, hWe, dE, bE, tE⟩ := b_stored ((unveil HKt).next bWC).b ((unveil HKt).next bWC).bel (unveil HKt).up 4 E 1 0 0 a4 H.length c4
    rw [← hWe]
    clear hWe
    have hlR := (unveil HKt).b.lt
    have hs0 := bW0.size
    have hu : ∀ x, a4 = some x → W3.heap.size ≤ x.block := fun x hx => by have := uC x hx; omega
    have iE := iC.turned tE (fun x hx _ => by have := hu x hx; omega)
    refine hK.out _ _ (((unveil HKb).next bWC).b.turned tE hne_4) (fun hHeld => ?_)
    clear hK K y0 y1 y2 y3 y4 y5 yf
    refine wpAnyH_take (i := 13) (v := .int .i64 0) rfl (by kernel_rfl) (by kernel_rfl) (by kernel_rfl) (fun _ _ _ h => h) (Or.inl ⟨by rfl, fun _ _ => by go_simp⟩) hHeld ?_
    simp only [List.getElem_toArray, List.getElem_cons_zero, List.getElem_cons_succ, Act.put, List.setIfInBounds_toArray, List.set_cons_zero, List.set_cons_succ]
    refine wpAnyH_done (by kernel_rfl) ?_ _
    go_wp2_with fail
    go_meet
    exact ⟨a4, c4, _, rfl, dE, iE, hu, bWC, tE⟩
  case rest =>
  obtain ⟨a4, c4, V4, rfl, k4, i4, u4, b4, t4⟩ := hcut
  obtain ⟨W4, hW4⟩ : ∃ W4, W4 = wc := ⟨_, rfl⟩
  subst hW4
  have lR4 := (unveil HKt).b.lt
  have K4 : Kb w W4 Rt (Bt.imp E 1 H) a4 c4 := ⟨k4, i4, fun x hx _ => by have := u4 x hx; omega, t4.under (Below.next (unveil HKt).bel b4) (unveil HKt).up, (unveil HKt).up⟩
  have HKn := veil (((unveil HKb).next b4).turned t4 (by omega) (fun x hx h0 => by have := hr_b_t x hx h0; omega) (unveil HKt).up)
  clear HKb
  have HKb := HKn
  clear HKn
  clear HKt k4 i4 u4 b4 t4
  have HKt := veil K4
  clear K4
  clear HI4
  go_upto_region 7 with (go_at_call 16; refine (Pq _).mono ?_; rintro x w9 ⟨rfl, hw9⟩; subst w9; clear Pq)
  have okt : (Bt.imp E 1 H).Ok := htH.imp_ok (by have := (unveil HHH).2.2.1; omega) hE1 (by omega) (by omega) (by omega)
  have hcc : es.length - j ≤ c - j := by have := (unveil HKb).i.cap; have : es.length ≤ c := this; omega
  have HI5 : Hid (∀ W, Below W4.heap.size W4 W → Calls Try.prog 27 #[bVal 4 E 1 0 0 a4 H.length c4, .int .i64 E, .int .i64 j, .slice (cutA a c j) (es.length - j) (c - j), .bool false] W fun x w' => ∃ a' c', x = .returned (.tuple #[bVal 4 E 1 0 0 a' es.length c', .int .i64 0]) ∧ BIn w' (Bt.imp E 1 es) a' c' ∧ (∀ x, a' = some x → W.heap.size ≤ x.block) ∧ Below W.heap.size W w') := veil fun W b => by
    obtain ⟨r1, n1⟩ := cut_row_l (((unveil HKb).i.next b).row) rfl (unveil HKb).i.nil j hjn (unveil HKb).i.cap
    obtain ⟨g1, g2, g3, g4, g5, g6⟩ := unveil HHH
    rw [← g2] at r1
    refine bt_out (bimport_any (Bt.imp E 1 H) a4 c4 E j Tl (cutA a c j) (es.length - j) (c - j) false W ((unveil HKt).i.next b) r1 g4.symm hcc n1) (B2 := Bt.imp E 1 es) (er2 := 0) ?_
    have := import_more (X := E) (f := 1) (H := H) (C := Tl) (k := j) hE1 (by omega) (by omega) (by omega) htH (by omega) g6 (by omega) (by rw [g5]; exact ht) (by rw [g5]; omega)
    rw [g5] at this
    exact this
  go_cut [17, 18] (fun pX eX wx => ∃ (X : Nat) (a5 : Option Addr) (c5 : Nat), pX = .pointer (some ⟨X, 0, none⟩) ∧ eX = .int .i64 0 ∧ bBlock wx X 4 E 1 0 0 a5 es.length c5 ∧ BIn wx (Bt.imp E 1 es) a5 c5 ∧ (∀ x, a5 = some x → 0 < es.length → x.block ≠ X) ∧ W4.heap.size ≤ X ∧ Below W4.heap.size W4 wx ∧ (∀ x, a5 = some x → W4.heap.size ≤ x.block))
  case first =>
    refine wp_region_held_drew (S := Below W4.heap.size W4) (by kernel_rfl) (below_drew W4) (fun hHeld => ?_)
    refine wpAnyH_take (i := 0) (v := bVal 4 E 1 0 0 a4 H.length c4) rfl (by kernel_rfl) (by kernel_rfl) (by kernel_rfl) (fun _ _ _ h => h) (Or.inl ⟨by rfl, fun u b => by obtain ⟨y0, y1, y2, y3, y4, y5⟩ := ((unveil HKt).next b).b.cells; go_simp⟩) hHeld ?_
    simp only [List.getElem_toArray, List.getElem_cons_zero, Act.put, List.setIfInBounds_toArray, List.set_cons_zero, List.set_cons_succ]
    refine wpAnyH_take (i := 1) (v := .pointer (some ⟨Rb, 1, none⟩)) rfl (by kernel_rfl) (by kernel_rfl) (by kernel_rfl) (fun _ _ _ h => h) (Or.inl ⟨by rfl, fun _ _ => by go_simp⟩) hHeld ?_
    simp only [List.getElem_toArray, List.getElem_cons_zero, List.getElem_cons_succ, Act.put, List.setIfInBounds_toArray, List.set_cons_zero, List.set_cons_succ]
    refine wpAnyH_take (i := 2) (v := .int .i64 E) rfl (by kernel_rfl) (by kernel_rfl) (by kernel_rfl) (fun _ _ _ h => h) (Or.inl ⟨by rfl, fun u b => by obtain ⟨y0, y1, y2, y3, y4, y5⟩ := ((unveil HKb).next b).b.cells; go_simp⟩) hHeld ?_
    simp only [List.getElem_toArray, List.getElem_cons_zero, List.getElem_cons_succ, Act.put, List.setIfInBounds_toArray, List.set_cons_zero, List.set_cons_succ]
    refine wpAnyH_take (i := 3) (v := .int .i64 (j : Int)) rfl (by kernel_rfl) (by kernel_rfl) (by kernel_rfl) (fun _ _ _ h => h) (Or.inl ⟨by rfl, fun _ _ => by go_simp⟩) hHeld ?_
    simp only [List.getElem_toArray, List.getElem_cons_zero, List.getElem_cons_succ, Act.put, List.setIfInBounds_toArray, List.set_cons_zero, List.set_cons_succ]
    refine wpAnyH_take (i := 4) (v := .pointer (some ⟨Rb, 5, none⟩)) rfl (by kernel_rfl) (by kernel_rfl) (by kernel_rfl) (fun _ _ _ h => h) (Or.inl ⟨by rfl, fun _ _ => by go_simp⟩) hHeld ?_
    simp only [List.getElem_toArray, List.getElem_cons_zero, List.getElem_cons_succ, Act.put, List.setIfInBounds_toArray, List.set_cons_zero, List.set_cons_succ]
    refine wpAnyH_take (i := 5) (v := .slice a es.length c) rfl (by kernel_rfl) (by kernel_rfl) (by kernel_rfl) (fun _ _ _ h => h) (Or.inl ⟨by rfl, fun u b => by obtain ⟨y0, y1, y2, y3, y4, y5⟩ := ((unveil HKb).next b).b.cells; go_simp⟩) hHeld ?_
    simp only [List.getElem_toArray, List.getElem_cons_zero, List.getElem_cons_succ, Act.put, List.setIfInBounds_toArray, List.set_cons_zero, List.set_cons_succ]
    refine wpAnyH_take (i := 6) (v := .int .i64 (j : Int)) rfl (by kernel_rfl) (by kernel_rfl) (by kernel_rfl) (fun _ _ _ h => h) (Or.inl ⟨by rfl, fun _ _ => by go_simp⟩) hHeld ?_
    simp only [List.getElem_toArray, List.getElem_cons_zero, List.getElem_cons_succ, Act.put, List.setIfInBounds_toArray, List.set_cons_zero, List.set_cons_succ]
    refine wpAnyH_take (i := 7) (v := .slice (cutA a c j) (es.length - j) (c - j)) rfl (by kernel_rfl) (by kernel_rfl) (by kernel_rfl) (fun _ _ _ h => h) (yields_cut_l _ _ rfl rfl rfl rfl hjn) hHeld ?_
    simp only [List.getElem_toArray, List.getElem_cons_zero, List.getElem_cons_succ, Act.put, List.setIfInBounds_toArray, List.set_cons_zero, List.set_cons_succ]
    have bW0 := below_drew W4
    obtain ⟨W0, hW0⟩ : ∃ W0, W0 = W4.drew := ⟨_, rfl⟩
    rw [← hW0] at bW0 hHeld ⊢
    clear hW0
    refine wpAnyH_ready (rs := [8, 12]) (by kernel_rfl) (by simp) ?_
    refine AllReadyH.cons rfl (fun K hK => ?_) (AllReadyH.cons rfl (fun K hK => ?_) AllReadyH.nil)
    · simp only [List.getElem_toArray, List.getElem_cons_zero, List.getElem_cons_succ]
      go_simp
      refine (unveil HI5 _ bW0).mono ?_
      rintro x W0C ⟨a5, c5, rfl, iC, uC, bC⟩
      have bW0C := Below.next bW0 bC
      have iC0 := iC
      have hgC : ∀ x, a5 = some x → W4.heap.size ≤ x.block := fun x hx => Nat.le_trans bW0.size (uC x hx)
      have hsW0C : W0.heap.size ≤ W0C.heap.size := bC.size
      refine hK.out _ _ bW0C (fun hHeld => ?_)
      clear hK K bC
      refine wpAnyH_take (i := 9) (v := .tuple #[bVal 4 E 1 0 0 a5 es.length c5, .int .i64 0]) rfl (by kernel_rfl) (by kernel_rfl) (by kernel_rfl) (fun _ _ _ h => h) (Or.inl ⟨by rfl, fun _ _ => by go_simp⟩) hHeld ?_
      simp only [List.getElem_toArray, List.getElem_cons_zero, List.getElem_cons_succ, Act.put, List.setIfInBounds_toArray, List.set_cons_zero, List.set_cons_succ]
      refine wpAnyH_take (i := 10) (v := bVal 4 E 1 0 0 a5 es.length c5) rfl (by kernel_rfl) (by kernel_rfl) (by kernel_rfl) (fun _ _ _ h => h) (Or.inl ⟨by rfl, fun _ _ => by go_simp⟩) hHeld ?_
      simp only [List.getElem_toArray, List.getElem_cons_zero, List.getElem_cons_succ, Act.put, List.setIfInBounds_toArray, List.set_cons_zero, List.set_cons_succ]
      refine wpAnyH_take (i := 11) (v := .int .i64 0) rfl (by kernel_rfl) (by kernel_rfl) (by kernel_rfl) (fun _ _ _ h => h) (Or.inl ⟨by rfl, fun _ _ => by go_simp⟩) hHeld ?_
      simp only [List.getElem_toArray, List.getElem_cons_zero, List.getElem_cons_succ, Act.put, List.setIfInBounds_toArray, List.set_cons_zero, List.set_cons_succ]
      refine wpAnyH_ready (rs := [12]) (by kernel_rfl) (by simp) ?_
      refine AllReadyH.cons rfl (fun K hK => ?_) AllReadyH.nil
      · simp only [List.getElem_toArray, List.getElem_cons_zero, List.getElem_cons_succ]
        go_simp
        obtain ⟨W0CA, hW0CA, zA, bA⟩ := zb_made W0C
        rw [← hW0CA]
        clear hW0CA
        obtain ⟨XA, hX⟩ : ∃ X, X = W0C.heap.size := ⟨_, rfl⟩
        have hXA : W4.heap.size ≤ XA := by rw [hX]; exact bW0C.size
        have hXl : XA < W0CA.heap.size := by rw [hX]; exact zA.lt
        have hXe : W0C.heap.size ≤ XA := by omega
        rw [← hX] at zA ⊢
        clear hX
        have bW0CA := Below.next bW0C bA
        have iC := iC.next bA
        refine hK.out _ _ bW0CA (fun hHeld => ?_)
        clear hK K bA
        refine wpAnyH_ready (rs := [13]) (by kernel_rfl) (by simp) ?_
        refine AllReadyH.cons rfl (fun K hK => ?_) AllReadyH.nil
        simp only [List.getElem_toArray, List.getElem_cons_zero, List.getElem_cons_succ]
        obtain ⟨z0, z1, z2, z3, z4, z5⟩ := zA.cells
        have zf := zA.free
        go_simp
        obtain ⟨We, hWe, dE, bE, tE⟩ := b_stored zA bW0CA hXA 4 E 1 0 0 a5 es.length c5
        rw [← hWe]
        clear hWe z0 z1 z2 z3 z4 z5 zf
        have hf : ∀ x, a5 = some x → 0 < es.length → x.block ≠ XA := fun x hx h0 => by have := iC0.row.blk_lt x hx (by show 0 < 6 * es.length; omega); omega
        have iE := iC.turned tE hf
        refine hK.out _ _ bE (fun hHeld => ?_)
        clear hK K
        refine wpAnyH_take (i := 14) (v := .int .i64 0) rfl (by kernel_rfl) (by kernel_rfl) (by kernel_rfl) (fun _ _ _ h => h) (Or.inl ⟨by rfl, fun _ _ => by go_simp⟩) hHeld ?_
        simp only [List.getElem_toArray, List.getElem_cons_zero, List.getElem_cons_succ, Act.put, List.setIfInBounds_toArray, List.set_cons_zero, List.set_cons_succ]
        refine wpAnyH_done (by kernel_rfl) ?_ _
        go_wp2_with fail
        go_meet
        exact ⟨XA, a5, c5, rfl, rfl, dE, iE, hf, hXA, bE, hgC⟩
    · simp only [List.getElem_toArray, List.getElem_cons_zero, List.getElem_cons_succ]
      go_simp
      obtain ⟨W0A, hW0A, zA, bA⟩ := zb_made W0
      rw [← hW0A]
      clear hW0A
      obtain ⟨XA, hX⟩ : ∃ X, X = W0.heap.size := ⟨_, rfl⟩
      have hXA : W4.heap.size ≤ XA := by rw [hX]; exact bW0.size
      have hXl : XA < W0A.heap.size := by rw [hX]; exact zA.lt
      have hXe : W0.heap.size ≤ XA := by omega
      rw [← hX] at zA ⊢
      clear hX
      have bW0A := Below.next bW0 bA
      refine hK.out _ _ bW0A (fun hHeld => ?_)
      clear hK K bA
      refine wpAnyH_ready (rs := [8]) (by kernel_rfl) (by simp) ?_
      refine AllReadyH.cons rfl (fun K hK => ?_) AllReadyH.nil
      · simp only [List.getElem_toArray, List.getElem_cons_zero, List.getElem_cons_succ]
        go_simp
        refine (unveil HI5 _ bW0A).mono ?_
        rintro x W0AC ⟨a5, c5, rfl, iC, uC, bC⟩
        have bW0AC := Below.next bW0A bC
        have iC0 := iC
        have hgC : ∀ x, a5 = some x → W4.heap.size ≤ x.block := fun x hx => Nat.le_trans bW0A.size (uC x hx)
        have hsW0AC : W0A.heap.size ≤ W0AC.heap.size := bC.size
        have zA := zA.next bC
        refine hK.out _ _ bW0AC (fun hHeld => ?_)
        clear hK K bC
        refine wpAnyH_take (i := 9) (v := .tuple #[bVal 4 E 1 0 0 a5 es.length c5, .int .i64 0]) rfl (by kernel_rfl) (by kernel_rfl) (by kernel_rfl) (fun _ _ _ h => h) (Or.inl ⟨by rfl, fun _ _ => by go_simp⟩) hHeld ?_
        simp only [List.getElem_toArray, List.getElem_cons_zero, List.getElem_cons_succ, Act.put, List.setIfInBounds_toArray, List.set_cons_zero, List.set_cons_succ]
        refine wpAnyH_take (i := 10) (v := bVal 4 E 1 0 0 a5 es.length c5) rfl (by kernel_rfl) (by kernel_rfl) (by kernel_rfl) (fun _ _ _ h => h) (Or.inl ⟨by rfl, fun _ _ => by go_simp⟩) hHeld ?_
        simp only [List.getElem_toArray, List.getElem_cons_zero, List.getElem_cons_succ, Act.put, List.setIfInBounds_toArray, List.set_cons_zero, List.set_cons_succ]
        refine wpAnyH_take (i := 11) (v := .int .i64 0) rfl (by kernel_rfl) (by kernel_rfl) (by kernel_rfl) (fun _ _ _ h => h) (Or.inl ⟨by rfl, fun _ _ => by go_simp⟩) hHeld ?_
        simp only [List.getElem_toArray, List.getElem_cons_zero, List.getElem_cons_succ, Act.put, List.setIfInBounds_toArray, List.set_cons_zero, List.set_cons_succ]
        refine wpAnyH_ready (rs := [13]) (by kernel_rfl) (by simp) ?_
        refine AllReadyH.cons rfl (fun K hK => ?_) AllReadyH.nil
        simp only [List.getElem_toArray, List.getElem_cons_zero, List.getElem_cons_succ]
        obtain ⟨z0, z1, z2, z3, z4, z5⟩ := zA.cells
        have zf := zA.free
        go_simp
        obtain ⟨We, hWe, dE, bE, tE⟩ := b_stored zA bW0AC hXA 4 E 1 0 0 a5 es.length c5
        rw [← hWe]
        clear hWe z0 z1 z2 z3 z4 z5 zf
        have hf : ∀ x, a5 = some x → 0 < es.length → x.block ≠ XA := fun x hx h0 => by have := uC x hx; omega
        have iE := iC.turned tE hf
        refine hK.out _ _ bE (fun hHeld => ?_)
        clear hK K
        refine wpAnyH_take (i := 14) (v := .int .i64 0) rfl (by kernel_rfl) (by kernel_rfl) (by kernel_rfl) (fun _ _ _ h => h) (Or.inl ⟨by rfl, fun _ _ => by go_simp⟩) hHeld ?_
        simp only [List.getElem_toArray, List.getElem_cons_zero, List.getElem_cons_succ, Act.put, List.setIfInBounds_toArray, List.set_cons_zero, List.set_cons_succ]
        refine wpAnyH_done (by kernel_rfl) ?_ _
        go_wp2_with fail
        go_meet
        exact ⟨XA, a5, c5, rfl, rfl, dE, iE, hf, hXA, bE, hgC⟩
  case rest =>
  obtain ⟨Ru, a5, c5, rfl, rfl, k5, i5, f5, u5, b5, hfru⟩ := hcut
  obtain ⟨W5, hW5⟩ : ∃ W5, W5 = wc := ⟨_, rfl⟩
  subst hW5
  have K5 : Kb w W5 Ru (Bt.imp E 1 es) a5 c5 := ⟨k5, i5, f5, Below.next (unveil HKb).bel b5, Nat.le_trans (unveil HKb).bel.size u5⟩
  have HKn := veil ((unveil HKb).next b5)
  clear HKb
  have HKb := HKn
  clear HKn
  have HKn := veil ((unveil HKt).next b5)
  clear HKt
  have HKt := HKn
  clear HKn
  clear k5 i5 f5 u5 b5
  have HKu := veil K5
  clear K5
  clear HI5
  go_upto_region 8 with fail
  have HC := bt_out (bimport_any (Bt.imp E 1 H) a4 c4 E ((k : Int) + 1) [] none 0 0 false W5 (unveil HKt).i (RowK.nil _ _ _) rfl (Nat.le_refl _) (fun _ => rfl)) (B2 := Bt.zero) (er2 := 2) (import_range okt rfl rfl (fun h => by have h1 : (k : Int) + 1 ≤ H.length := h.2; have := (unveil HHH).2.2.1; omega))
  obtain ⟨xb0, xb1, xb2, xb3, xb4, xb5⟩ := (unveil HKb).b.cells
  have lb := (unveil HKb).b.lt
  obtain ⟨xt0, xt1, xt2, xt3, xt4, xt5⟩ := (unveil HKt).b.cells
  have lt := (unveil HKt).b.lt
  go_upto_region 9 with (first | (go_at_call 27; refine HC.mono ?_; rintro x V6 ⟨a6, c6, rfl, i6, u6, b6⟩; clear HC xb0 xb1 xb2 xb3 xb4 xb5 lb xt0 xt1 xt2 xt3 xt4 xt5 lt))
  obtain ⟨W6, hW6, K6, d6⟩ := Kb.new (B := Bt.zero) i6 (unveil HKb).bel b6
  rw [← hW6]
  clear hW6
  have HKn := veil ((unveil HKb).next (Below.next b6 d6))
  clear HKb
  have HKb := HKn
  clear HKn
  have HKn := veil ((unveil HKt).next (Below.next b6 d6))
  clear HKt
  have HKt := HKn
  clear HKn
  have HKn := veil ((unveil HKu).next (Below.next b6 d6))
  clear HKu
  have HKu := HKn
  clear HKn
  clear K6 i6 u6 b6 d6
  have HSm := sameEventsK_below a5 a es.length c5 c (evFlat es) W6 (unveil HKu).i.row (unveil HKb).i.row (by omega)
  obtain ⟨xb0, xb1, xb2, xb3, xb4, xb5⟩ := (unveil HKb).b.cells
  have lb := (unveil HKb).b.lt
  obtain ⟨xu0, xu1, xu2, xu3, xu4, xu5⟩ := (unveil HKu).b.cells
  have lu := (unveil HKu).b.lt
  go_upto_region 11 with (go_at_call 24; refine HSm.mono ?_; rintro x W7 ⟨rfl, b7⟩; obtain ⟨z0, z1, z2, z3, z4, z5⟩ := ((unveil HKu).next b7).b.cells; clear HSm xb0 xb1 xb2 xb3 xb4 xb5 lb xu0 xu1 xu2 xu3 xu4 xu5 lu)
  clear z0 z1 z2 z3 z4 z5
  have HKn := veil ((unveil HKb).next b7)
  clear HKb
  have HKb := HKn
  clear HKn
  have HKn := veil ((unveil HKt).next b7)
  clear HKt
  have HKt := HKn
  clear HKn
  have HKn := veil ((unveil HKu).next b7)
  clear HKu
  have HKu := HKn
  clear HKn
  by_cases hk0 : k = 0
  · have e0 : ((k : Int) == 0) = true := by rw [hk0]; rfl
    clear hk0
    go_wp2
    go_ret
    exact ⟨by simp, (unveil HKb).bel⟩
  have e0 : ((k : Int) == 0) = false := by simp; omega
  go_upto_region 13 with fail
  clear e0
  have hn0 : 0 < es.length := by omega
  obtain ⟨v, hv⟩ : ∃ v, v = es[0] := ⟨_, rfl⟩
  have hvm : v ∈ es := by rw [hv]; exact List.getElem_mem hn0
  have hvk : ¬ v.k = 4 := unveil HNB v hvm
  have hvo : v.Ok := ht.oks v hvm
  have hrow := (unveil HKb).i.row
  obtain ⟨g, off, hag⟩ := hrow.form (by show 0 < 6 * es.length; omega)
  subst hag
  obtain ⟨m0, m1, m2, m3, m4, m5⟩ := hrow.six 0 hn0
  have ea : ∀ t, t < 6 → (evFlat es).getD (6 * 0 + t) 0 = (evCells es[0]).getD t 0 := fun t ht => evFlat_at es 0 hn0 t ht
  rw [show 6 * 0 = 6 * 0 + 0 from rfl, ea 0 (by omega)] at m0
  rw [ea 1 (by omega)] at m1
  rw [ea 2 (by omega)] at m2
  rw [ea 3 (by omega)] at m3
  rw [ea 4 (by omega)] at m4
  rw [ea 5 (by omega)] at m5
  rw [← hv] at m0 m1 m2 m3 m4 m5
  simp only [evCells, List.getD_cons_zero, List.getD_cons_succ, Nat.zero_mul, Nat.mul_zero, Nat.add_zero] at m0 m1 m2 m3 m4 m5
  have hno : ¬ Fits (H.drop 0) [⟨4, v.p, v.i, v.b, v.he, v.hn⟩] false := fun hf => by
    obtain ⟨g1, g2, g3, g4, g5, g6⟩ := unveil HHH
    have h1 := hf.1
    rw [List.drop_zero] at h1
    rw [List.take_of_length_le (by simp; omega)] at h1
    have h2 : (H.take 1)[0]? = some (⟨4, v.p, v.i, v.b, v.he, v.hn⟩ : Ev) := by
      have : (H.take ([(⟨4, v.p, v.i, v.b, v.he, v.hn⟩ : Ev)].length))[0]? = some (⟨4, v.p, v.i, v.b, v.he, v.hn⟩ : Ev) := by rw [← h1]; rfl
      exact this
    rw [g1, List.getElem?_take, if_pos (by omega), List.getElem?_take, if_pos (by omega), List.getElem?_eq_getElem hn0, ← hv] at h2
    simp only [Option.some.injEq] at h2
    rw [h2] at hvk
    exact hvk rfl
  have HNO := veil hno
  have HVO := veil hvo
  clear hno hvo hvk hvm hrow ea hv
  obtain ⟨xb0, xb1, xb2, xb3, xb4, xb5⟩ := (unveil HKb).b.cells
  have lb := (unveil HKb).b.lt
  go_upto_region 14 with fail
  clear m0 m1 m2 m3 m4 m5
  clear xb0 xb1 xb2 xb3 xb4 xb5 lb
  have lRb7 := (unveil HKb).b.lt
  have lRt7 := (unveil HKt).b.lt
  have hru7 := (unveil HKb).bel.size
  have hrb7 : ∀ x, some (⟨g, off, none⟩ : Addr) = some x → 0 < es.length → x.block < W7.heap.size := fun x hx h0 => (unveil HKb).i.row.blk_lt x hx (by show 0 < 6 * es.length; omega)
  have hrt7 : ∀ x, a4 = some x → 0 < H.length → x.block < W7.heap.size := fun x hx h0 => (unveil HKt).i.row.blk_lt x hx (by show 0 < 6 * H.length; omega)
  obtain ⟨W8, hW8, y8, d8⟩ := Eb.new W7 v
  rw [← hW8]
  clear hW8
  have HKn := veil ((unveil HKb).next d8)
  clear HKb
  have HKb := HKn
  clear HKn
  have HKn := veil ((unveil HKt).next d8)
  clear HKt
  have HKt := HKn
  clear HKn
  have HKn := veil ((unveil HKu).next d8)
  clear HKu
  have HKu := HKn
  clear HKn
  obtain ⟨Rx, hRx⟩ : ∃ R, R = W7.heap.size := ⟨_, rfl⟩
  rw [← hRx] at y8 lRb7 lRt7 hru7 hrb7 hrt7 ⊢
  clear hRx d8
  obtain ⟨v0, v1, v2, v3, v4, v5⟩ := y8.cells
  have yf := y8.free
  go_upto_region 15 with fail
  clear v0 v1 v2 v3 v4 v5 yf
  obtain ⟨W9, hW9, y9, t9⟩ := y8.set0 4
  rw [← hW9]
  have KB9 := (unveil HKb).turned t9 (by omega) (fun x hx h0 => by have := hrb7 x hx h0; omega) hru7
  have KT9 := (unveil HKt).turned t9 (by omega) (fun x hx h0 => by have := hrt7 x hx h0; omega) hru7
  clear hW9 HKb HKt HKu y8 t9 hrb7 hrt7
  have HKb := veil KB9
  have HKt := veil KT9
  clear KB9 KT9
  have hwx : ∀ u ∈ [4, v.p, v.i, v.b, v.he, v.hn], (Lit.int .i64 u).wf = true := fun u hu => by
    rcases List.mem_cons.1 hu with rfl | h1
    · decide
    · exact ev_wf (unveil HVO) u (List.mem_cons_of_mem _ h1)
  have HI9 : Hid (∀ W g', Below W9.heap.size W9 W → RowK .i64 W (some ⟨g', 0, none⟩) 6 [4, v.p, v.i, v.b, v.he, v.hn] → Calls Try.prog 27 #[bVal 4 E 1 0 0 a4 H.length c4, .int .i64 E, .int .i64 0, .slice (some ⟨g', 0, none⟩) 1 1, .bool false] W fun x w' => ∃ a' c', x = .returned (.tuple #[bVal 0 0 0 0 0 a' 0 c', .int .i64 3]) ∧ BIn w' (Bt.nob 0) a' c' ∧ (∀ x, a' = some x → W.heap.size ≤ x.block) ∧ Below W.heap.size W w') := veil fun W g' b hr => bt_out (bimport_any (Bt.imp E 1 H) a4 c4 E 0 [⟨4, v.p, v.i, v.b, v.he, v.hn⟩] (some ⟨g', 0, none⟩) 1 1 false W ((unveil HKt).i.next b) hr rfl (Nat.le_refl _) (fun h => by cases h)) (B2 := Bt.nob 0) (er2 := 3) (import_form (k := 0) okt rfl rfl (Nat.zero_le _) (unveil HNO))
  obtain ⟨v0, v1, v2, v3, v4, v5⟩ := y9.cells
  have HY9 := veil y9
  clear y9
  obtain ⟨xb0, xb1, xb2, xb3, xb4, xb5⟩ := (unveil HKb).b.cells
  have lb := (unveil HKb).b.lt
  obtain ⟨xt0, xt1, xt2, xt3, xt4, xt5⟩ := (unveil HKt).b.cells
  have lt := (unveil HKt).b.lt
  go_upto_region 16 with (go_at_call 27; refine (unveil HI9 _ _ (below1 _ _) (row_ev _ _ _ _ _ _ _ hwx)).mono ?_; rintro x V10 ⟨a10, c10, rfl, _, _, b10⟩; clear HI9 v0 v1 v2 v3 v4 v5)
  clear xb0 xb1 xb2 xb3 xb4 xb5 lb xt0 xt1 xt2 xt3 xt4 xt5 lt
  have B10 := Below.next (Below.next (unveil HKb).bel (below1 _ _)) b10
  go_quiet (fail)
  go_wp2
  go_ret
  exact ⟨by simp, Below.next (Below.next B10 (below1 _ _)) (belowN _ _)⟩
end Go.Proofs.Ytdenfhnbhmdbnaa
