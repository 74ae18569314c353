/- The walk of berthshiftkeep.ImportLast. -/
import Derived.Test.YtdenfhnbhmdbnaaBkLst
namespace Go.Proofs.Ytdenfhnbhmdbnaa
open Go.RowKit

set_option maxRecDepth 20000 in
set_option maxHeartbeats 4000000 in
theorem walk_ImportLast (w : World) (ep : Int) (wep : (Lit.int .i64 ep).wf = true) (a0 : Option Addr) (len cap : Nat) (D : List Int) (h : RowK .i64 w a0 (4 * len) D) (_ : len ≤ cap) (_ : cap ≤ maxLen) (_ : a0 = none → cap = 0) (cut : Int) (wcut : (Lit.int .i64 cut).wf = true) :
    Calls Try.prog 13 #[.int .i64 ep, .slice a0 len cap, .int .i64 cut] w fun r w' => r = .returned (.bool true) ∧ Below w.heap.size w w' := by
  have HSv := kserved_any ep a0 len cap 30 D w h wep (by omega)
  clear h
  go_enter Try.func13, Try.ntmps13
  go_upto_region 2 with (go_at_call 14; refine HSv.mono ?_; rintro x V1 ⟨E, es, s, ans, y, rfl, hist, hl, nb, hE1, hE2, ⟨⟨a, c, rfl, i1, u1⟩⟩, b1⟩; clear HSv)
  obtain ⟨W1, hW1, K1, _⟩ := Kb.new i1 (Below.refl _ _) b1
  rw [← hW1]
  obtain ⟨Rb, hR⟩ : ∃ R, R = V1.heap.size := ⟨_, rfl⟩
  rw [← hR] at K1 ⊢
  clear hW1 hR i1 u1 b1
  have ht := hist.tells
  have HH := veil hist
  have HNB := veil nb
  clear hist nb
  have HKb := veil K1
  clear K1
  have hw1 : IntKind.i64.wrap ((es.length : Int) + 1) = (es.length : Int) + 1 := by rw [IntKind.wrap_i64]; omega
  have hwE : IntKind.i64.wrap (E + 1) = E + 1 := by rw [IntKind.wrap_i64]; omega
  have p0 := pickedOf_range cut ((es.length : Int) + 1) (by omega)
  have Pp : ∀ w, Calls Try.prog 16 #[.int .i64 cut, .int .i64 ((es.length : Int) + 1)] w fun e w' => e = .returned (.int .i64 (pickedOf cut ((es.length : Int) + 1))) ∧ w' = w := fun w => (picked_any cut ((es.length : Int) + 1) w wcut (by omega) (by omega)).mono fun _ _ h => ⟨h.1, h.2.symm⟩
  obtain ⟨k, hk⟩ : ∃ k : Nat, pickedOf cut ((es.length : Int) + 1) = k := ⟨(pickedOf cut ((es.length : Int) + 1)).toNat, by omega⟩
  rw [hk] at p0 Pp
  have hkn : k ≤ es.length := by omega
  clear hk p0
  obtain ⟨H, hH⟩ : ∃ H, H = es.take k := ⟨_, rfl⟩
  obtain ⟨Tl, hTl⟩ : ∃ Tl, Tl = es.drop k := ⟨_, rfl⟩
  have hlH : H.length = k := by rw [hH, List.length_take]; omega
  have hlT : Tl.length = es.length - k := by rw [hTl, List.length_drop]
  have hHT : H ++ Tl = es := by rw [hH, hTl, List.take_append_drop]
  obtain ⟨sH, htH⟩ : ∃ sH, Tells H sH (ans.take k) := by rw [hH]; exact ht.take k hkn
  obtain ⟨s2, an2, _, htb, _⟩ := ht.brk (by omega)
  obtain ⟨U, hU⟩ : ∃ U, U = es ++ [Ev.brk] := ⟨_, rfl⟩
  have hUl : U.length = es.length + 1 := by rw [hU]; simp
  rw [← hU] at htb
  have HHH := veil (And.intro hH (And.intro hTl (And.intro hlH (And.intro hlT (And.intro hHT (And.intro hU hUl))))))
  clear hH hTl hlH hlT hHT hU hUl
  obtain ⟨xb0, xb1, xb2, xb3, xb4, xb5⟩ := (unveil HKb).b.cells
  have lb := (unveil HKb).b.lt
  go_upto_region 3 with (go_at_call 16; refine (Pp _).mono ?_; rintro x w9 ⟨rfl, hw9⟩; subst w9; clear Pp)
  clear xb0 xb1 xb2 xb3 xb4 xb5 lb
  have HC := begin_first (E + 1) 0 (by omega) (by omega) (by omega) (by omega) W1
  obtain ⟨xb0, xb1, xb2, xb3, xb4, xb5⟩ := (unveil HKb).b.cells
  have lb := (unveil HKb).b.lt
  go_upto_region 4 with (first | (go_at_call 26; refine HC.mono ?_; rintro x V3 ⟨a3, c3, rfl, i3, u3, b3⟩; clear HC xb0 xb1 xb2 xb3 xb4 xb5 lb))
  obtain ⟨W3, hW3, K3, d3⟩ : ∃ W, W = V3.alloc (.cells (bCells 4 (E + 1) 0 0 0 a3 0 c3) 27) ∧ Kb w W V3.heap.size (Bt.imp (E + 1) 0 []) a3 c3 ∧ Below V3.heap.size V3 W := Kb.new (B := (Bt.imp (E + 1) 0 [])) i3 (unveil HKb).bel b3
  rw [← hW3]
  clear hW3
  have hr_b_t : ∀ x, a = some x → 0 < (Bt.act E es).es.length → x.block < V3.heap.size := fun x hx h0 => Nat.lt_of_lt_of_le ((unveil HKb).i.row.blk_lt x hx (by omega)) b3.size
  have hR_b_t : Rb < V3.heap.size := Nat.lt_of_lt_of_le (unveil HKb).b.lt b3.size
  have HKn := veil ((unveil HKb).next (Below.next b3 d3))
  clear HKb
  have HKb := HKn
  clear HKn
  obtain ⟨Rt, hR⟩ : ∃ R, R = V3.heap.size := ⟨_, rfl⟩
  rw [← hR] at K3 hr_b_t hR_b_t ⊢
  clear hR
  have HKt := veil K3
  clear K3 i3 u3 b3 d3
  have hkc : k ≤ c := Nat.le_trans hkn (unveil HKb).i.cap
  have HI4 : Hid (∀ W, Below W3.heap.size W3 W → Calls Try.prog 27 #[bVal 4 (E + 1) 0 0 0 a3 0 c3, .int .i64 (E + 1), .int .i64 0, .slice (cutA a k 0) k k, .bool false] W fun x w' => ∃ a' c', x = .returned (.tuple #[bVal 4 (E + 1) 0 0 0 a' H.length c', .int .i64 0]) ∧ BIn w' (Bt.imp (E + 1) 0 H) a' c' ∧ (∀ x, a' = some x → W.heap.size ≤ x.block) ∧ Below W.heap.size W w') := veil fun W b => by
    obtain ⟨r1, n1⟩ := cut_row_hm (((unveil HKb).i.next b).row) k hkn
    rw [← (unveil HHH).1] at r1
    exact bt_out (bimport_any (Bt.imp (E + 1) 0 []) a3 c3 (E + 1) 0 H (cutA a k 0) k k false W ((unveil HKt).i.next b) r1 (unveil HHH).2.2.1.symm (Nat.le_refl _) n1) (B2 := Bt.imp (E + 1) 0 H) (er2 := 0) (import_first (by omega) (by omega) (by omega) (by omega) htH (by have := (unveil HHH).2.2.1; omega))
  go_cut [12] (fun eX wx => ∃ (a4 : Option Addr) (c4 : Nat) (V : World), eX = .int .i64 0 ∧ bBlock wx Rt 4 (E + 1) 0 0 0 a4 H.length c4 ∧ BIn wx (Bt.imp (E + 1) 0 H) a4 c4 ∧ (∀ x, a4 = some x → W3.heap.size ≤ x.block) ∧ Below W3.heap.size W3 V ∧ Turned Rt V wx)
  case first =>
    have hne_4 : Rb ≠ Rt := by omega
    refine wp_region_held_drew (S := fun u => bBlock u Rb 1 E 0 0 0 a es.length c) (by kernel_rfl) (((unveil HKb).next (below_drew W3)).b) (fun hHeld => ?_)
    refine wpAnyH_take (i := 1) (v := .pointer (some ⟨Rb, 1, none⟩)) rfl (by kernel_rfl) (by kernel_rfl) (by kernel_rfl) (fun _ _ _ h => h) (Or.inl ⟨by rfl, fun _ _ => by go_simp⟩) hHeld ?_
    simp only [List.getElem_toArray, List.getElem_cons_zero, List.getElem_cons_succ, Act.put, List.setIfInBounds_toArray, List.set_cons_zero, List.set_cons_succ]
    refine wpAnyH_take (i := 2) (v := .int .i64 E) rfl (by kernel_rfl) (by kernel_rfl) (by kernel_rfl) (fun _ _ _ h => h) (Or.inl ⟨by rfl, fun u h => by obtain ⟨x0, x1, x2, x3, x4, x5⟩ := bBlock.cells h; go_simp⟩) hHeld ?_
    simp only [List.getElem_toArray, List.getElem_cons_zero, List.getElem_cons_succ, Act.put, List.setIfInBounds_toArray, List.set_cons_zero, List.set_cons_succ]
    refine wpAnyH_take (i := 3) (v := .int .i64 (E + 1)) rfl (by kernel_rfl) (by kernel_rfl) (by kernel_rfl) (fun _ _ _ h => h) (Or.inl ⟨by rfl, fun _ _ => by go_simp⟩) hHeld ?_
    simp only [List.getElem_toArray, List.getElem_cons_zero, List.getElem_cons_succ, Act.put, List.setIfInBounds_toArray, List.set_cons_zero, List.set_cons_succ]
    refine wpAnyH_take (i := 4) (v := .pointer (some ⟨Rb, 5, none⟩)) rfl (by kernel_rfl) (by kernel_rfl) (by kernel_rfl) (fun _ _ _ h => h) (Or.inl ⟨by rfl, fun _ _ => by go_simp⟩) hHeld ?_
    simp only [List.getElem_toArray, List.getElem_cons_zero, List.getElem_cons_succ, Act.put, List.setIfInBounds_toArray, List.set_cons_zero, List.set_cons_succ]
    refine wpAnyH_take (i := 5) (v := .slice a es.length c) rfl (by kernel_rfl) (by kernel_rfl) (by kernel_rfl) (fun _ _ _ h => h) (Or.inl ⟨by rfl, fun u h => by obtain ⟨x0, x1, x2, x3, x4, x5⟩ := bBlock.cells h; go_simp⟩) hHeld ?_
    simp only [List.getElem_toArray, List.getElem_cons_zero, List.getElem_cons_succ, Act.put, List.setIfInBounds_toArray, List.set_cons_zero, List.set_cons_succ]
    refine wpAnyH_take (i := 6) (v := .int .i64 (k : Int)) rfl (by kernel_rfl) (by kernel_rfl) (by kernel_rfl) (fun _ _ _ h => h) (Or.inl ⟨by rfl, fun _ _ => by go_simp⟩) hHeld ?_
    simp only [List.getElem_toArray, List.getElem_cons_zero, List.getElem_cons_succ, Act.put, List.setIfInBounds_toArray, List.set_cons_zero, List.set_cons_succ]
    refine wpAnyH_take (i := 7) (v := .int .i64 (k : Int)) rfl (by kernel_rfl) (by kernel_rfl) (by kernel_rfl) (fun _ _ _ h => h) (Or.inl ⟨by rfl, fun _ _ => by go_simp⟩) hHeld ?_
    simp only [List.getElem_toArray, List.getElem_cons_zero, List.getElem_cons_succ, Act.put, List.setIfInBounds_toArray, List.set_cons_zero, List.set_cons_succ]
    refine wpAnyH_take (i := 8) (v := .slice (cutA a k 0) k k) rfl (by kernel_rfl) (by kernel_rfl) (by kernel_rfl) (fun _ _ _ h => h) (yields_cut_hm _ _ _ rfl rfl rfl rfl rfl hkc) hHeld ?_
    simp only [List.getElem_toArray, List.getElem_cons_zero, List.getElem_cons_succ, Act.put, List.setIfInBounds_toArray, List.set_cons_zero, List.set_cons_succ]
    have bW0 := below_drew W3
    obtain ⟨W0, hW0⟩ : ∃ W0, W0 = W3.drew := ⟨_, rfl⟩
    rw [← hW0] at bW0 hHeld ⊢
    clear hW0
    obtain ⟨y0, y1, y2, y3, y4, y5⟩ := ((unveil HKt).next bW0).b.cells
    refine wpAnyH_ready (rs := [0]) (by kernel_rfl) (by simp) ?_
    refine AllReadyH.cons rfl (fun K hK => ?_) AllReadyH.nil
    simp only [List.getElem_toArray, List.getElem_cons_zero]
    go_simp
    refine hK.out _ _ hHeld (fun hHeld => ?_)
    clear hK K
    refine wpAnyH_ready (rs := [9]) (by kernel_rfl) (by simp) ?_
    refine AllReadyH.cons rfl (fun K hK => ?_) AllReadyH.nil
    simp only [List.getElem_toArray, List.getElem_cons_zero, List.getElem_cons_succ]
    go_simp
    refine (unveil HI4 _ bW0).mono ?_
    rintro x WC ⟨a4, c4, rfl, iC, uC, bC⟩
    have bWC := Below.next bW0 bC
    refine hK.out _ _ ((unveil HKb).next bWC).b (fun hHeld => ?_)
    clear hK K
    refine wpAnyH_take (i := 10) (v := .tuple #[bVal 4 (E + 1) 0 0 0 a4 H.length c4, .int .i64 0]) rfl (by kernel_rfl) (by kernel_rfl) (by kernel_rfl) (fun _ _ _ h => h) (Or.inl ⟨by rfl, fun _ _ => by go_simp⟩) hHeld ?_
    simp only [List.getElem_toArray, List.getElem_cons_zero, List.getElem_cons_succ, Act.put, List.setIfInBounds_toArray, List.set_cons_zero, List.set_cons_succ]
    refine wpAnyH_take (i := 11) (v := bVal 4 (E + 1) 0 0 0 a4 H.length c4) rfl (by kernel_rfl) (by kernel_rfl) (by kernel_rfl) (fun _ _ _ h => h) (Or.inl ⟨by rfl, fun _ _ => by go_simp⟩) hHeld ?_
    simp only [List.getElem_toArray, List.getElem_cons_zero, List.getElem_cons_succ, Act.put, List.setIfInBounds_toArray, List.set_cons_zero, List.set_cons_succ]
    refine wpAnyH_take (i := 12) (v := .int .i64 0) rfl (by kernel_rfl) (by kernel_rfl) (by kernel_rfl) (fun _ _ _ h => h) (Or.inl ⟨by rfl, fun _ _ => by go_simp⟩) hHeld ?_
    simp only [List.getElem_toArray, List.getElem_cons_zero, List.getElem_cons_succ, Act.put, List.setIfInBounds_toArray, List.set_cons_zero, List.set_cons_succ]
    refine wpAnyH_ready (rs := [13]) (by kernel_rfl) (by simp) ?_
    refine AllReadyH.cons rfl (fun K hK => ?_) AllReadyH.nil
    simp only [List.getElem_toArray, List.getElem_cons_zero, List.getElem_cons_succ]
    clear y0 y1 y2 y3 y4 y5
    obtain ⟨y0, y1, y2, y3, y4, y5⟩ := ((unveil HKt).next bWC).b.cells
    have yf := ((unveil HKt).next bWC).b.free
    go_simp
    obtain ⟨We, hWe, dE, bE, tE⟩ := b_stored ((unveil HKt).next bWC).b ((unveil HKt).next bWC).bel (unveil HKt).up 4 (E + 1) 0 0 0 a4 H.length c4
    rw [← hWe]
    clear hWe
    have hlR := (unveil HKt).b.lt
    have hs0 := bW0.size
    have hu : ∀ x, a4 = some x → W3.heap.size ≤ x.block := fun x hx => by have := uC x hx; omega
    have iE := iC.turned tE (fun x hx _ => by have := hu x hx; omega)
    refine hK.out _ _ (((unveil HKb).next bWC).b.turned tE hne_4) (fun hHeld => ?_)
    clear hK K y0 y1 y2 y3 y4 y5 yf
    refine wpAnyH_take (i := 14) (v := .int .i64 0) rfl (by kernel_rfl) (by kernel_rfl) (by kernel_rfl) (fun _ _ _ h => h) (Or.inl ⟨by rfl, fun _ _ => by go_simp⟩) hHeld ?_
    simp only [List.getElem_toArray, List.getElem_cons_zero, List.getElem_cons_succ, Act.put, List.setIfInBounds_toArray, List.set_cons_zero, List.set_cons_succ]
    refine wpAnyH_done (by kernel_rfl) ?_ _
    go_wp2_with fail
    go_meet
    exact ⟨a4, c4, _, rfl, dE, iE, hu, bWC, tE⟩
  case rest =>
  obtain ⟨a4, c4, V4, rfl, k4, i4, u4, b4, t4⟩ := hcut
  obtain ⟨W4, hW4⟩ : ∃ W4, W4 = wc := ⟨_, rfl⟩
  subst hW4
  have lR4 := (unveil HKt).b.lt
  have K4 : Kb w W4 Rt (Bt.imp (E + 1) 0 H) a4 c4 := ⟨k4, i4, fun x hx _ => by have := u4 x hx; omega, t4.under (Below.next (unveil HKt).bel b4) (unveil HKt).up, (unveil HKt).up⟩
  have HKn := veil (((unveil HKb).next b4).turned t4 (by omega) (fun x hx h0 => by have := hr_b_t x hx h0; omega) (unveil HKt).up)
  clear HKb
  have HKb := HKn
  clear HKn
  clear HKt k4 i4 u4 b4 t4
  have HKt := veil K4
  clear K4
  clear HI4
  go_upto_region 5 with fail
  have okt : (Bt.imp (E + 1) 0 H).Ok := htH.imp_ok (by have := (unveil HHH).2.2.1; omega) (by omega) (by omega) (by omega) (by omega)
  have hcut : ∀ W, Below W4.heap.size W4 W → RowK .i64 W (cutA a c k) (6 * (es.length - k)) (evFlat Tl) ∧ (cutA a c k = none → c - k = 0) := fun W b => by
    have := cut_row_l (((unveil HKb).i.next b).row) rfl (unveil HKb).i.nil k hkn (unveil HKb).i.cap
    rw [← (unveil HHH).2.1] at this
    exact this
  have hcc : es.length - k ≤ c - k := by have := (unveil HKb).i.cap; have : es.length ≤ c := this; omega
  have HCUT := veil hcut
  clear hcut
  have HI5 : Hid (∀ W, Below W4.heap.size W4 W → Calls Try.prog 27 #[bVal 4 (E + 1) 0 0 0 a4 H.length c4, .int .i64 (E + 1), .int .i64 k, .slice (cutA a c k) (es.length - k) (c - k), .bool true] W fun x w' => ∃ a' c', x = .returned (.tuple #[bVal 1 (E + 1) 0 0 0 a' U.length c', .int .i64 0]) ∧ BIn w' (Bt.act (E + 1) U) a' c' ∧ (∀ x, a' = some x → W.heap.size ≤ x.block) ∧ Below W.heap.size W w') := veil fun W b => by
    obtain ⟨r1, n1⟩ := unveil HCUT W b
    obtain ⟨g1, g2, g3, g4, g5, g6, g7⟩ := unveil HHH
    refine bt_out (bimport_any (Bt.imp (E + 1) 0 H) a4 c4 (E + 1) k Tl (cutA a c k) (es.length - k) (c - k) true W ((unveil HKt).i.next b) r1 g4.symm hcc n1) (B2 := Bt.act (E + 1) U) (er2 := 0) ?_
    have := import_last (X := E + 1) (f := 0) (H := H) (C := Tl) (by omega) (by omega) (by omega) (by omega) htH (by omega) (by omega) (by rw [g5, ← g6]; exact htb)
    rw [g3, g5, ← g6] at this
    exact this
  go_cut [13, 14] (fun pX eX wx => ∃ (X : Nat) (a5 : Option Addr) (c5 : Nat), pX = .pointer (some ⟨X, 0, none⟩) ∧ eX = .int .i64 0 ∧ bBlock wx X 1 (E + 1) 0 0 0 a5 U.length c5 ∧ BIn wx (Bt.act (E + 1) U) a5 c5 ∧ (∀ x, a5 = some x → 0 < U.length → x.block ≠ X) ∧ W4.heap.size ≤ X ∧ Below W4.heap.size W4 wx ∧ (∀ x, a5 = some x → W4.heap.size ≤ x.block))
  case first =>
    refine wp_region_held_drew (S := Below W4.heap.size W4) (by kernel_rfl) (below_drew W4) (fun hHeld => ?_)
    refine wpAnyH_take (i := 0) (v := bVal 4 (E + 1) 0 0 0 a4 H.length c4) rfl (by kernel_rfl) (by kernel_rfl) (by kernel_rfl) (fun _ _ _ h => h) (Or.inl ⟨by rfl, fun u b => by obtain ⟨y0, y1, y2, y3, y4, y5⟩ := ((unveil HKt).next b).b.cells; go_simp⟩) hHeld ?_
    simp only [List.getElem_toArray, List.getElem_cons_zero, Act.put, List.setIfInBounds_toArray, List.set_cons_zero, List.set_cons_succ]
    refine wpAnyH_take (i := 1) (v := .pointer (some ⟨Rb, 1, none⟩)) rfl (by kernel_rfl) (by kernel_rfl) (by kernel_rfl) (fun _ _ _ h => h) (Or.inl ⟨by rfl, fun _ _ => by go_simp⟩) hHeld ?_
    simp only [List.getElem_toArray, List.getElem_cons_zero, List.getElem_cons_succ, Act.put, List.setIfInBounds_toArray, List.set_cons_zero, List.set_cons_succ]
    refine wpAnyH_take (i := 2) (v := .int .i64 E) rfl (by kernel_rfl) (by kernel_rfl) (by kernel_rfl) (fun _ _ _ h => h) (Or.inl ⟨by rfl, fun u b => by obtain ⟨y0, y1, y2, y3, y4, y5⟩ := ((unveil HKb).next b).b.cells; go_simp⟩) hHeld ?_
    simp only [List.getElem_toArray, List.getElem_cons_zero, List.getElem_cons_succ, Act.put, List.setIfInBounds_toArray, List.set_cons_zero, List.set_cons_succ]
    refine wpAnyH_take (i := 3) (v := .int .i64 (E + 1)) rfl (by kernel_rfl) (by kernel_rfl) (by kernel_rfl) (fun _ _ _ h => h) (Or.inl ⟨by rfl, fun _ _ => by go_simp⟩) hHeld ?_
    simp only [List.getElem_toArray, List.getElem_cons_zero, List.getElem_cons_succ, Act.put, List.setIfInBounds_toArray, List.set_cons_zero, List.set_cons_succ]
    refine wpAnyH_take (i := 4) (v := .int .i64 (k : Int)) rfl (by kernel_rfl) (by kernel_rfl) (by kernel_rfl) (fun _ _ _ h => h) (Or.inl ⟨by rfl, fun _ _ => by go_simp⟩) hHeld ?_
    simp only [List.getElem_toArray, List.getElem_cons_zero, List.getElem_cons_succ, Act.put, List.setIfInBounds_toArray, List.set_cons_zero, List.set_cons_succ]
    refine wpAnyH_take (i := 5) (v := .pointer (some ⟨Rb, 5, none⟩)) rfl (by kernel_rfl) (by kernel_rfl) (by kernel_rfl) (fun _ _ _ h => h) (Or.inl ⟨by rfl, fun _ _ => by go_simp⟩) hHeld ?_
    simp only [List.getElem_toArray, List.getElem_cons_zero, List.getElem_cons_succ, Act.put, List.setIfInBounds_toArray, List.set_cons_zero, List.set_cons_succ]
    refine wpAnyH_take (i := 6) (v := .slice a es.length c) rfl (by kernel_rfl) (by kernel_rfl) (by kernel_rfl) (fun _ _ _ h => h) (Or.inl ⟨by rfl, fun u b => by obtain ⟨y0, y1, y2, y3, y4, y5⟩ := ((unveil HKb).next b).b.cells; go_simp⟩) hHeld ?_
    simp only [List.getElem_toArray, List.getElem_cons_zero, List.getElem_cons_succ, Act.put, List.setIfInBounds_toArray, List.set_cons_zero, List.set_cons_succ]
    refine wpAnyH_take (i := 7) (v := .int .i64 (k : Int)) rfl (by kernel_rfl) (by kernel_rfl) (by kernel_rfl) (fun _ _ _ h => h) (Or.inl ⟨by rfl, fun _ _ => by go_simp⟩) hHeld ?_
    simp only [List.getElem_toArray, List.getElem_cons_zero, List.getElem_cons_succ, Act.put, List.setIfInBounds_toArray, List.set_cons_zero, List.set_cons_succ]
    refine wpAnyH_take (i := 8) (v := .slice (cutA a c k) (es.length - k) (c - k)) rfl (by kernel_rfl) (by kernel_rfl) (by kernel_rfl) (fun _ _ _ h => h) (yields_cut_l _ _ rfl rfl rfl rfl hkn) hHeld ?_
    simp only [List.getElem_toArray, List.getElem_cons_zero, List.getElem_cons_succ, Act.put, List.setIfInBounds_toArray, List.set_cons_zero, List.set_cons_succ]
    have bW0 := below_drew W4
    obtain ⟨W0, hW0⟩ : ∃ W0, W0 = W4.drew := ⟨_, rfl⟩
    rw [← hW0] at bW0 hHeld ⊢
    clear hW0
    refine wpAnyH_ready (rs := [9, 13]) (by kernel_rfl) (by simp) ?_
    refine AllReadyH.cons rfl (fun K hK => ?_) (AllReadyH.cons rfl (fun K hK => ?_) AllReadyH.nil)
    · simp only [List.getElem_toArray, List.getElem_cons_zero, List.getElem_cons_succ]
      go_simp
      refine (unveil HI5 _ bW0).mono ?_
      rintro x W0C ⟨a5, c5, rfl, iC, uC, bC⟩
      have bW0C := Below.next bW0 bC
      have iC0 := iC
      have hgC : ∀ x, a5 = some x → W4.heap.size ≤ x.block := fun x hx => Nat.le_trans bW0.size (uC x hx)
      have hsW0C : W0.heap.size ≤ W0C.heap.size := bC.size
      refine hK.out _ _ bW0C (fun hHeld => ?_)
      clear hK K bC
      refine wpAnyH_take (i := 10) (v := .tuple #[bVal 1 (E + 1) 0 0 0 a5 U.length c5, .int .i64 0]) rfl (by kernel_rfl) (by kernel_rfl) (by kernel_rfl) (fun _ _ _ h => h) (Or.inl ⟨by rfl, fun _ _ => by go_simp⟩) hHeld ?_
      simp only [List.getElem_toArray, List.getElem_cons_zero, List.getElem_cons_succ, Act.put, List.setIfInBounds_toArray, List.set_cons_zero, List.set_cons_succ]
      refine wpAnyH_take (i := 11) (v := bVal 1 (E + 1) 0 0 0 a5 U.length c5) rfl (by kernel_rfl) (by kernel_rfl) (by kernel_rfl) (fun _ _ _ h => h) (Or.inl ⟨by rfl, fun _ _ => by go_simp⟩) hHeld ?_
      simp only [List.getElem_toArray, List.getElem_cons_zero, List.getElem_cons_succ, Act.put, List.setIfInBounds_toArray, List.set_cons_zero, List.set_cons_succ]
      refine wpAnyH_take (i := 12) (v := .int .i64 0) rfl (by kernel_rfl) (by kernel_rfl) (by kernel_rfl) (fun _ _ _ h => h) (Or.inl ⟨by rfl, fun _ _ => by go_simp⟩) hHeld ?_
      simp only [List.getElem_toArray, List.getElem_cons_zero, List.getElem_cons_succ, Act.put, List.setIfInBounds_toArray, List.set_cons_zero, List.set_cons_succ]
      refine wpAnyH_ready (rs := [13]) (by kernel_rfl) (by simp) ?_
      refine AllReadyH.cons rfl (fun K hK => ?_) AllReadyH.nil
      · simp only [List.getElem_toArray, List.getElem_cons_zero, List.getElem_cons_succ]
        go_simp
        obtain ⟨W0CA, hW0CA, zA, bA⟩ := zb_made W0C
        rw [← hW0CA]
        clear hW0CA
        obtain ⟨XA, hX⟩ : ∃ X, X = W0C.heap.size := ⟨_, rfl⟩
        have hXA : W4.heap.size ≤ XA := by rw [hX]; exact bW0C.size
        have hXl : XA < W0CA.heap.size := by rw [hX]; exact zA.lt
        have hXe : W0C.heap.size ≤ XA := by omega
        rw [← hX] at zA ⊢
        clear hX
        have bW0CA := Below.next bW0C bA
        have iC := iC.next bA
        refine hK.out _ _ bW0CA (fun hHeld => ?_)
        clear hK K bA
        refine wpAnyH_ready (rs := [14]) (by kernel_rfl) (by simp) ?_
        refine AllReadyH.cons rfl (fun K hK => ?_) AllReadyH.nil
        simp only [List.getElem_toArray, List.getElem_cons_zero, List.getElem_cons_succ]
        obtain ⟨z0, z1, z2, z3, z4, z5⟩ := zA.cells
        have zf := zA.free
        go_simp
        obtain ⟨We, hWe, dE, bE, tE⟩ := b_stored zA bW0CA hXA 1 (E + 1) 0 0 0 a5 U.length c5
        rw [← hWe]
        clear hWe z0 z1 z2 z3 z4 z5 zf
        have hf : ∀ x, a5 = some x → 0 < U.length → x.block ≠ XA := fun x hx h0 => by have := iC0.row.blk_lt x hx (by show 0 < 6 * U.length; omega); omega
        have iE := iC.turned tE hf
        refine hK.out _ _ bE (fun hHeld => ?_)
        clear hK K
        refine wpAnyH_take (i := 15) (v := .int .i64 0) rfl (by kernel_rfl) (by kernel_rfl) (by kernel_rfl) (fun _ _ _ h => h) (Or.inl ⟨by rfl, fun _ _ => by go_simp⟩) hHeld ?_
        simp only [List.getElem_toArray, List.getElem_cons_zero, List.getElem_cons_succ, Act.put, List.setIfInBounds_toArray, List.set_cons_zero, List.set_cons_succ]
        refine wpAnyH_done (by kernel_rfl) ?_ _
        go_wp2_with fail
        go_meet
        exact ⟨XA, a5, c5, rfl, rfl, dE, iE, hf, hXA, bE, hgC⟩
    · simp only [List.getElem_toArray, List.getElem_cons_zero, List.getElem_cons_succ]
      go_simp
      obtain ⟨W0A, hW0A, zA, bA⟩ := zb_made W0
      rw [← hW0A]
      clear hW0A
      obtain ⟨XA, hX⟩ : ∃ X, X = W0.heap.size := ⟨_, rfl⟩
      have hXA : W4.heap.size ≤ XA := by rw [hX]; exact bW0.size
      have hXl : XA < W0A.heap.size := by rw [hX]; exact zA.lt
      have hXe : W0.heap.size ≤ XA := by omega
      rw [← hX] at zA ⊢
      clear hX
      have bW0A := Below.next bW0 bA
      refine hK.out _ _ bW0A (fun hHeld => ?_)
      clear hK K bA
      refine wpAnyH_ready (rs := [9]) (by kernel_rfl) (by simp) ?_
      refine AllReadyH.cons rfl (fun K hK => ?_) AllReadyH.nil
      · simp only [List.getElem_toArray, List.getElem_cons_zero, List.getElem_cons_succ]
        go_simp
        refine (unveil HI5 _ bW0A).mono ?_
        rintro x W0AC ⟨a5, c5, rfl, iC, uC, bC⟩
        have bW0AC := Below.next bW0A bC
        have iC0 := iC
        have hgC : ∀ x, a5 = some x → W4.heap.size ≤ x.block := fun x hx => Nat.le_trans bW0A.size (uC x hx)
        have hsW0AC : W0A.heap.size ≤ W0AC.heap.size := bC.size
        have zA := zA.next bC
        refine hK.out _ _ bW0AC (fun hHeld => ?_)
        clear hK K bC
        refine wpAnyH_take (i := 10) (v := .tuple #[bVal 1 (E + 1) 0 0 0 a5 U.length c5, .int .i64 0]) rfl (by kernel_rfl) (by kernel_rfl) (by kernel_rfl) (fun _ _ _ h => h) (Or.inl ⟨by rfl, fun _ _ => by go_simp⟩) hHeld ?_
        simp only [List.getElem_toArray, List.getElem_cons_zero, List.getElem_cons_succ, Act.put, List.setIfInBounds_toArray, List.set_cons_zero, List.set_cons_succ]
        refine wpAnyH_take (i := 11) (v := bVal 1 (E + 1) 0 0 0 a5 U.length c5) rfl (by kernel_rfl) (by kernel_rfl) (by kernel_rfl) (fun _ _ _ h => h) (Or.inl ⟨by rfl, fun _ _ => by go_simp⟩) hHeld ?_
        simp only [List.getElem_toArray, List.getElem_cons_zero, List.getElem_cons_succ, Act.put, List.setIfInBounds_toArray, List.set_cons_zero, List.set_cons_succ]
        refine wpAnyH_take (i := 12) (v := .int .i64 0) rfl (by kernel_rfl) (by kernel_rfl) (by kernel_rfl) (fun _ _ _ h => h) (Or.inl ⟨by rfl, fun _ _ => by go_simp⟩) hHeld ?_
        simp only [List.getElem_toArray, List.getElem_cons_zero, List.getElem_cons_succ, Act.put, List.setIfInBounds_toArray, List.set_cons_zero, List.set_cons_succ]
        refine wpAnyH_ready (rs := [14]) (by kernel_rfl) (by simp) ?_
        refine AllReadyH.cons rfl (fun K hK => ?_) AllReadyH.nil
        simp only [List.getElem_toArray, List.getElem_cons_zero, List.getElem_cons_succ]
        obtain ⟨z0, z1, z2, z3, z4, z5⟩ := zA.cells
        have zf := zA.free
        go_simp
        obtain ⟨We, hWe, dE, bE, tE⟩ := b_stored zA bW0AC hXA 1 (E + 1) 0 0 0 a5 U.length c5
        rw [← hWe]
        clear hWe z0 z1 z2 z3 z4 z5 zf
        have hf : ∀ x, a5 = some x → 0 < U.length → x.block ≠ XA := fun x hx h0 => by have := uC x hx; omega
        have iE := iC.turned tE hf
        refine hK.out _ _ bE (fun hHeld => ?_)
        clear hK K
        refine wpAnyH_take (i := 15) (v := .int .i64 0) rfl (by kernel_rfl) (by kernel_rfl) (by kernel_rfl) (fun _ _ _ h => h) (Or.inl ⟨by rfl, fun _ _ => by go_simp⟩) hHeld ?_
        simp only [List.getElem_toArray, List.getElem_cons_zero, List.getElem_cons_succ, Act.put, List.setIfInBounds_toArray, List.set_cons_zero, List.set_cons_succ]
        refine wpAnyH_done (by kernel_rfl) ?_ _
        go_wp2_with fail
        go_meet
        exact ⟨XA, a5, c5, rfl, rfl, dE, iE, hf, hXA, bE, hgC⟩
  case rest =>
  obtain ⟨Ru, a5, c5, rfl, rfl, k5, i5, f5, u5, b5, hfru⟩ := hcut
  obtain ⟨W5, hW5⟩ : ∃ W5, W5 = wc := ⟨_, rfl⟩
  subst hW5
  have K5 : Kb w W5 Ru (Bt.act (E + 1) U) a5 c5 := ⟨k5, i5, f5, Below.next (unveil HKb).bel b5, Nat.le_trans (unveil HKb).bel.size u5⟩
  have HKn := veil ((unveil HKb).next b5)
  clear HKb
  have HKb := HKn
  clear HKn
  have HKn := veil ((unveil HKt).next b5)
  clear HKt
  have HKt := HKn
  clear HKn
  clear k5 i5 f5 u5 b5
  have HKu := veil K5
  clear K5
  clear HI5
  go_upto_region 6 with fail
  have hcut5 : ∀ W, Below W5.heap.size W5 W → RowK .i64 W (cutA a c k) (6 * (es.length - k)) (evFlat Tl) ∧ (cutA a c k = none → c - k = 0) := fun W b => by
    have := cut_row_l (((unveil HKb).i.next b).row) rfl (unveil HKb).i.nil k hkn (unveil HKb).i.cap
    rw [← (unveil HHH).2.1] at this
    exact this
  have HC5 := veil hcut5
  clear hcut5 HCUT
  have oku : (Bt.act (E + 1) U).Ok := htb.act_ok (by have := (unveil HHH).2.2.2.2.2.2; omega) (by omega) (by omega)
  have HI6 : Hid (∀ W, Below W5.heap.size W5 W → Calls Try.prog 27 #[bVal 1 (E + 1) 0 0 0 a5 U.length c5, .int .i64 (E + 1), .int .i64 k, .slice (cutA a c k) (es.length - k) (c - k), .bool true] W fun x w' => ∃ a' c', x = .returned (.tuple #[bVal 0 0 0 0 0 a' 0 c', .int .i64 7]) ∧ BIn w' (Bt.nob 0) a' c' ∧ (∀ x, a' = some x → W.heap.size ≤ x.block) ∧ Below W.heap.size W w') := veil fun W b => by
    obtain ⟨r1, n1⟩ := unveil HC5 W b
    exact bt_out (bimport_any (Bt.act (E + 1) U) a5 c5 (E + 1) k Tl (cutA a c k) (es.length - k) (c - k) true W ((unveil HKu).i.next b) r1 (unveil HHH).2.2.2.1.symm hcc n1) (B2 := Bt.nob 0) (er2 := 7) (import_none oku (by show ¬ (1 : Int) = 4; decide))
  go_cut [15, 16] (fun pX eX wx => ∃ (X : Nat) (a6 : Option Addr) (c6 : Nat), pX = .pointer (some ⟨X, 0, none⟩) ∧ eX = .int .i64 7 ∧ bBlock wx X 0 0 0 0 0 a6 0 c6 ∧ BIn wx (Bt.nob 0) a6 c6 ∧ (∀ x, a6 = some x → 0 < 0 → x.block ≠ X) ∧ W5.heap.size ≤ X ∧ Below W5.heap.size W5 wx ∧ (∀ x, a6 = some x → W5.heap.size ≤ x.block))
  case first =>
    refine wp_region_held_drew (S := Below W5.heap.size W5) (by kernel_rfl) (below_drew W5) (fun hHeld => ?_)
    refine wpAnyH_take (i := 0) (v := bVal 1 (E + 1) 0 0 0 a5 U.length c5) rfl (by kernel_rfl) (by kernel_rfl) (by kernel_rfl) (fun _ _ _ h => h) (Or.inl ⟨by rfl, fun u b => by obtain ⟨y0, y1, y2, y3, y4, y5⟩ := ((unveil HKu).next b).b.cells; go_simp⟩) hHeld ?_
    simp only [List.getElem_toArray, List.getElem_cons_zero, Act.put, List.setIfInBounds_toArray, List.set_cons_zero, List.set_cons_succ]
    refine wpAnyH_take (i := 1) (v := .pointer (some ⟨Rb, 1, none⟩)) rfl (by kernel_rfl) (by kernel_rfl) (by kernel_rfl) (fun _ _ _ h => h) (Or.inl ⟨by rfl, fun _ _ => by go_simp⟩) hHeld ?_
    simp only [List.getElem_toArray, List.getElem_cons_zero, List.getElem_cons_succ, Act.put, List.setIfInBounds_toArray, List.set_cons_zero, List.set_cons_succ]
    refine wpAnyH_take (i := 2) (v := .int .i64 E) rfl (by kernel_rfl) (by kernel_rfl) (by kernel_rfl) (fun _ _ _ h => h) (Or.inl ⟨by rfl, fun u b => by obtain ⟨y0, y1, y2, y3, y4, y5⟩ := ((unveil HKb).next b).b.cells; go_simp⟩) hHeld ?_
    simp only [List.getElem_toArray, List.getElem_cons_zero, List.getElem_cons_succ, Act.put, List.setIfInBounds_toArray, List.set_cons_zero, List.set_cons_succ]
    refine wpAnyH_take (i := 3) (v := .int .i64 (E + 1)) rfl (by kernel_rfl) (by kernel_rfl) (by kernel_rfl) (fun _ _ _ h => h) (Or.inl ⟨by rfl, fun _ _ => by go_simp⟩) hHeld ?_
    simp only [List.getElem_toArray, List.getElem_cons_zero, List.getElem_cons_succ, Act.put, List.setIfInBounds_toArray, List.set_cons_zero, List.set_cons_succ]
    refine wpAnyH_take (i := 4) (v := .int .i64 (k : Int)) rfl (by kernel_rfl) (by kernel_rfl) (by kernel_rfl) (fun _ _ _ h => h) (Or.inl ⟨by rfl, fun _ _ => by go_simp⟩) hHeld ?_
    simp only [List.getElem_toArray, List.getElem_cons_zero, List.getElem_cons_succ, Act.put, List.setIfInBounds_toArray, List.set_cons_zero, List.set_cons_succ]
    refine wpAnyH_take (i := 5) (v := .pointer (some ⟨Rb, 5, none⟩)) rfl (by kernel_rfl) (by kernel_rfl) (by kernel_rfl) (fun _ _ _ h => h) (Or.inl ⟨by rfl, fun _ _ => by go_simp⟩) hHeld ?_
    simp only [List.getElem_toArray, List.getElem_cons_zero, List.getElem_cons_succ, Act.put, List.setIfInBounds_toArray, List.set_cons_zero, List.set_cons_succ]
    refine wpAnyH_take (i := 6) (v := .slice a es.length c) rfl (by kernel_rfl) (by kernel_rfl) (by kernel_rfl) (fun _ _ _ h => h) (Or.inl ⟨by rfl, fun u b => by obtain ⟨y0, y1, y2, y3, y4, y5⟩ := ((unveil HKb).next b).b.cells; go_simp⟩) hHeld ?_
    simp only [List.getElem_toArray, List.getElem_cons_zero, List.getElem_cons_succ, Act.put, List.setIfInBounds_toArray, List.set_cons_zero, List.set_cons_succ]
    refine wpAnyH_take (i := 7) (v := .int .i64 (k : Int)) rfl (by kernel_rfl) (by kernel_rfl) (by kernel_rfl) (fun _ _ _ h => h) (Or.inl ⟨by rfl, fun _ _ => by go_simp⟩) hHeld ?_
    simp only [List.getElem_toArray, List.getElem_cons_zero, List.getElem_cons_succ, Act.put, List.setIfInBounds_toArray, List.set_cons_zero, List.set_cons_succ]
    refine wpAnyH_take (i := 8) (v := .slice (cutA a c k) (es.length - k) (c - k)) rfl (by kernel_rfl) (by kernel_rfl) (by kernel_rfl) (fun _ _ _ h => h) (yields_cut_l _ _ rfl rfl rfl rfl hkn) hHeld ?_
    simp only [List.getElem_toArray, List.getElem_cons_zero, List.getElem_cons_succ, Act.put, List.setIfInBounds_toArray, List.set_cons_zero, List.set_cons_succ]
    have bW0 := below_drew W5
    obtain ⟨W0, hW0⟩ : ∃ W0, W0 = W5.drew := ⟨_, rfl⟩
    rw [← hW0] at bW0 hHeld ⊢
    clear hW0
    refine wpAnyH_ready (rs := [9, 13]) (by kernel_rfl) (by simp) ?_
    refine AllReadyH.cons rfl (fun K hK => ?_) (AllReadyH.cons rfl (fun K hK => ?_) AllReadyH.nil)
    · simp only [List.getElem_toArray, List.getElem_cons_zero, List.getElem_cons_succ]
      go_simp
      refine (unveil HI6 _ bW0).mono ?_
      rintro x W0C ⟨a6, c6, rfl, iC, uC, bC⟩
      have bW0C := Below.next bW0 bC
      have iC0 := iC
      have hgC : ∀ x, a6 = some x → W5.heap.size ≤ x.block := fun x hx => Nat.le_trans bW0.size (uC x hx)
      have hsW0C : W0.heap.size ≤ W0C.heap.size := bC.size
      refine hK.out _ _ bW0C (fun hHeld => ?_)
      clear hK K bC
      refine wpAnyH_take (i := 10) (v := .tuple #[bVal 0 0 0 0 0 a6 0 c6, .int .i64 7]) rfl (by kernel_rfl) (by kernel_rfl) (by kernel_rfl) (fun _ _ _ h => h) (Or.inl ⟨by rfl, fun _ _ => by go_simp⟩) hHeld ?_
      simp only [List.getElem_toArray, List.getElem_cons_zero, List.getElem_cons_succ, Act.put, List.setIfInBounds_toArray, List.set_cons_zero, List.set_cons_succ]
      refine wpAnyH_take (i := 11) (v := bVal 0 0 0 0 0 a6 0 c6) rfl (by kernel_rfl) (by kernel_rfl) (by kernel_rfl) (fun _ _ _ h => h) (Or.inl ⟨by rfl, fun _ _ => by go_simp⟩) hHeld ?_
      simp only [List.getElem_toArray, List.getElem_cons_zero, List.getElem_cons_succ, Act.put, List.setIfInBounds_toArray, List.set_cons_zero, List.set_cons_succ]
      refine wpAnyH_take (i := 12) (v := .int .i64 7) rfl (by kernel_rfl) (by kernel_rfl) (by kernel_rfl) (fun _ _ _ h => h) (Or.inl ⟨by rfl, fun _ _ => by go_simp⟩) hHeld ?_
      simp only [List.getElem_toArray, List.getElem_cons_zero, List.getElem_cons_succ, Act.put, List.setIfInBounds_toArray, List.set_cons_zero, List.set_cons_succ]
      refine wpAnyH_ready (rs := [13]) (by kernel_rfl) (by simp) ?_
      refine AllReadyH.cons rfl (fun K hK => ?_) AllReadyH.nil
      · simp only [List.getElem_toArray, List.getElem_cons_zero, List.getElem_cons_succ]
        go_simp
        obtain ⟨W0CA, hW0CA, zA, bA⟩ := zb_made W0C
        rw [← hW0CA]
        clear hW0CA
        obtain ⟨XA, hX⟩ : ∃ X, X = W0C.heap.size := ⟨_, rfl⟩
        have hXA : W5.heap.size ≤ XA := by rw [hX]; exact bW0C.size
        have hXl : XA < W0CA.heap.size := by rw [hX]; exact zA.lt
        have hXe : W0C.heap.size ≤ XA := by omega
        rw [← hX] at zA ⊢
        clear hX
        have bW0CA := Below.next bW0C bA
        have iC := iC.next bA
        refine hK.out _ _ bW0CA (fun hHeld => ?_)
        clear hK K bA
        refine wpAnyH_ready (rs := [14]) (by kernel_rfl) (by simp) ?_
        refine AllReadyH.cons rfl (fun K hK => ?_) AllReadyH.nil
        simp only [List.getElem_toArray, List.getElem_cons_zero, List.getElem_cons_succ]
        obtain ⟨z0, z1, z2, z3, z4, z5⟩ := zA.cells
        have zf := zA.free
        go_simp
        obtain ⟨We, hWe, dE, bE, tE⟩ := b_stored zA bW0CA hXA 0 0 0 0 0 a6 0 c6
        rw [← hWe]
        clear hWe z0 z1 z2 z3 z4 z5 zf
        have hf : ∀ x, a6 = some x → 0 < 0 → x.block ≠ XA := fun x hx h0 => by have := iC0.row.blk_lt x hx (by show 0 < 6 * 0; omega); omega
        have iE := iC.turned tE hf
        refine hK.out _ _ bE (fun hHeld => ?_)
        clear hK K
        refine wpAnyH_take (i := 15) (v := .int .i64 7) rfl (by kernel_rfl) (by kernel_rfl) (by kernel_rfl) (fun _ _ _ h => h) (Or.inl ⟨by rfl, fun _ _ => by go_simp⟩) hHeld ?_
        simp only [List.getElem_toArray, List.getElem_cons_zero, List.getElem_cons_succ, Act.put, List.setIfInBounds_toArray, List.set_cons_zero, List.set_cons_succ]
        refine wpAnyH_done (by kernel_rfl) ?_ _
        go_wp2_with fail
        go_meet
        exact ⟨XA, a6, c6, rfl, rfl, dE, iE, hf, hXA, bE, hgC⟩
    · simp only [List.getElem_toArray, List.getElem_cons_zero, List.getElem_cons_succ]
      go_simp
      obtain ⟨W0A, hW0A, zA, bA⟩ := zb_made W0
      rw [← hW0A]
      clear hW0A
      obtain ⟨XA, hX⟩ : ∃ X, X = W0.heap.size := ⟨_, rfl⟩
      have hXA : W5.heap.size ≤ XA := by rw [hX]; exact bW0.size
      have hXl : XA < W0A.heap.size := by rw [hX]; exact zA.lt
      have hXe : W0.heap.size ≤ XA := by omega
      rw [← hX] at zA ⊢
      clear hX
      have bW0A := Below.next bW0 bA
      refine hK.out _ _ bW0A (fun hHeld => ?_)
      clear hK K bA
      refine wpAnyH_ready (rs := [9]) (by kernel_rfl) (by simp) ?_
      refine AllReadyH.cons rfl (fun K hK => ?_) AllReadyH.nil
      · simp only [List.getElem_toArray, List.getElem_cons_zero, List.getElem_cons_succ]
        go_simp
        refine (unveil HI6 _ bW0A).mono ?_
        rintro x W0AC ⟨a6, c6, rfl, iC, uC, bC⟩
        have bW0AC := Below.next bW0A bC
        have iC0 := iC
        have hgC : ∀ x, a6 = some x → W5.heap.size ≤ x.block := fun x hx => Nat.le_trans bW0A.size (uC x hx)
        have hsW0AC : W0A.heap.size ≤ W0AC.heap.size := bC.size
        have zA := zA.next bC
        refine hK.out _ _ bW0AC (fun hHeld => ?_)
        clear hK K bC
        refine wpAnyH_take (i := 10) (v := .tuple #[bVal 0 0 0 0 0 a6 0 c6, .int .i64 7]) rfl (by kernel_rfl) (by kernel_rfl) (by kernel_rfl) (fun _ _ _ h => h) (Or.inl ⟨by rfl, fun _ _ => by go_simp⟩) hHeld ?_
        simp only [List.getElem_toArray, List.getElem_cons_zero, List.getElem_cons_succ, Act.put, List.setIfInBounds_toArray, List.set_cons_zero, List.set_cons_succ]
        refine wpAnyH_take (i := 11) (v := bVal 0 0 0 0 0 a6 0 c6) rfl (by kernel_rfl) (by kernel_rfl) (by kernel_rfl) (fun _ _ _ h => h) (Or.inl ⟨by rfl, fun _ _ => by go_simp⟩) hHeld ?_
        simp only [List.getElem_toArray, List.getElem_cons_zero, List.getElem_cons_succ, Act.put, List.setIfInBounds_toArray, List.set_cons_zero, List.set_cons_succ]
        refine wpAnyH_take (i := 12) (v := .int .i64 7) rfl (by kernel_rfl) (by kernel_rfl) (by kernel_rfl) (fun _ _ _ h => h) (Or.inl ⟨by rfl, fun _ _ => by go_simp⟩) hHeld ?_
        simp only [List.getElem_toArray, List.getElem_cons_zero, List.getElem_cons_succ, Act.put, List.setIfInBounds_toArray, List.set_cons_zero, List.set_cons_succ]
        refine wpAnyH_ready (rs := [14]) (by kernel_rfl) (by simp) ?_
        refine AllReadyH.cons rfl (fun K hK => ?_) AllReadyH.nil
        simp only [List.getElem_toArray, List.getElem_cons_zero, List.getElem_cons_succ]
        obtain ⟨z0, z1, z2, z3, z4, z5⟩ := zA.cells
        have zf := zA.free
        go_simp
        obtain ⟨We, hWe, dE, bE, tE⟩ := b_stored zA bW0AC hXA 0 0 0 0 0 a6 0 c6
        rw [← hWe]
        clear hWe z0 z1 z2 z3 z4 z5 zf
        have hf : ∀ x, a6 = some x → 0 < 0 → x.block ≠ XA := fun x hx h0 => by have := uC x hx; omega
        have iE := iC.turned tE hf
        refine hK.out _ _ bE (fun hHeld => ?_)
        clear hK K
        refine wpAnyH_take (i := 15) (v := .int .i64 7) rfl (by kernel_rfl) (by kernel_rfl) (by kernel_rfl) (fun _ _ _ h => h) (Or.inl ⟨by rfl, fun _ _ => by go_simp⟩) hHeld ?_
        simp only [List.getElem_toArray, List.getElem_cons_zero, List.getElem_cons_succ, Act.put, List.setIfInBounds_toArray, List.set_cons_zero, List.set_cons_succ]
        refine wpAnyH_done (by kernel_rfl) ?_ _
        go_wp2_with fail
        go_meet
        exact ⟨XA, a6, c6, rfl, rfl, dE, iE, hf, hXA, bE, hgC⟩
  case rest =>
  obtain ⟨Rv, a6, c6, rfl, rfl, k6, i6, f6, u6, b6, hfrv⟩ := hcut
  obtain ⟨W6, hW6⟩ : ∃ W6, W6 = wc := ⟨_, rfl⟩
  subst hW6
  have K6 : Kb w W6 Rv (Bt.nob 0) a6 c6 := ⟨k6, i6, f6, Below.next (unveil HKb).bel b6, Nat.le_trans (unveil HKb).bel.size u6⟩
  have HKn := veil ((unveil HKb).next b6)
  clear HKb
  have HKb := HKn
  clear HKn
  have HKn := veil ((unveil HKt).next b6)
  clear HKt
  have HKt := HKn
  clear HKn
  have HKn := veil ((unveil HKu).next b6)
  clear HKu
  have HKu := HKn
  clear HKn
  clear k6 i6 f6 u6 b6
  clear K6
  clear HI6
  go_upto_region 7 with fail
  have hcut6 : ∀ W, Below W6.heap.size W6 W → RowK .i64 W (cutA a c k) (6 * (es.length - k)) (evFlat Tl) ∧ (cutA a c k = none → c - k = 0) := fun W b => by
    have := cut_row_l (((unveil HKb).i.next b).row) rfl (unveil HKb).i.nil k hkn (unveil HKb).i.cap
    rw [← (unveil HHH).2.1] at this
    exact this
  have HC6 := veil hcut6
  clear hcut6 HC5
  have HI7 : Hid (∀ W, Below W6.heap.size W6 W → Calls Try.prog 27 #[bVal 4 (E + 1) 0 0 0 a4 H.length c4, .int .i64 E, .int .i64 k, .slice (cutA a c k) (es.length - k) (c - k), .bool true] W fun x w' => ∃ a' c', x = .returned (.tuple #[bVal 0 0 0 0 0 a' 0 c', .int .i64 15]) ∧ BIn w' (Bt.nob 0) a' c' ∧ (∀ x, a' = some x → W.heap.size ≤ x.block) ∧ Below W.heap.size W w') := veil fun W b => by
    obtain ⟨r1, n1⟩ := unveil HC6 W b
    exact bt_out (bimport_any (Bt.imp (E + 1) 0 H) a4 c4 E k Tl (cutA a c k) (es.length - k) (c - k) true W ((unveil HKt).i.next b) r1 (unveil HHH).2.2.2.1.symm hcc n1) (B2 := Bt.nob 0) (er2 := 15) (import_epoch okt rfl (by show ¬ E + 1 = E; omega))
  go_cut [17, 18] (fun pX eX wx => ∃ (X : Nat) (a7 : Option Addr) (c7 : Nat), pX = .pointer (some ⟨X, 0, none⟩) ∧ eX = .int .i64 15 ∧ bBlock wx X 0 0 0 0 0 a7 0 c7 ∧ BIn wx (Bt.nob 0) a7 c7 ∧ (∀ x, a7 = some x → 0 < 0 → x.block ≠ X) ∧ W6.heap.size ≤ X ∧ Below W6.heap.size W6 wx ∧ (∀ x, a7 = some x → W6.heap.size ≤ x.block))
  case first =>
    refine wp_region_held_drew (S := Below W6.heap.size W6) (by kernel_rfl) (below_drew W6) (fun hHeld => ?_)
    refine wpAnyH_take (i := 0) (v := bVal 4 (E + 1) 0 0 0 a4 H.length c4) rfl (by kernel_rfl) (by kernel_rfl) (by kernel_rfl) (fun _ _ _ h => h) (Or.inl ⟨by rfl, fun u b => by obtain ⟨y0, y1, y2, y3, y4, y5⟩ := ((unveil HKt).next b).b.cells; go_simp⟩) hHeld ?_
    simp only [List.getElem_toArray, List.getElem_cons_zero, Act.put, List.setIfInBounds_toArray, List.set_cons_zero, List.set_cons_succ]
    refine wpAnyH_take (i := 1) (v := .pointer (some ⟨Rb, 1, none⟩)) rfl (by kernel_rfl) (by kernel_rfl) (by kernel_rfl) (fun _ _ _ h => h) (Or.inl ⟨by rfl, fun _ _ => by go_simp⟩) hHeld ?_
    simp only [List.getElem_toArray, List.getElem_cons_zero, List.getElem_cons_succ, Act.put, List.setIfInBounds_toArray, List.set_cons_zero, List.set_cons_succ]
    refine wpAnyH_take (i := 2) (v := .int .i64 E) rfl (by kernel_rfl) (by kernel_rfl) (by kernel_rfl) (fun _ _ _ h => h) (Or.inl ⟨by rfl, fun u b => by obtain ⟨y0, y1, y2, y3, y4, y5⟩ := ((unveil HKb).next b).b.cells; go_simp⟩) hHeld ?_
    simp only [List.getElem_toArray, List.getElem_cons_zero, List.getElem_cons_succ, Act.put, List.setIfInBounds_toArray, List.set_cons_zero, List.set_cons_succ]
    refine wpAnyH_take (i := 3) (v := .int .i64 (k : Int)) rfl (by kernel_rfl) (by kernel_rfl) (by kernel_rfl) (fun _ _ _ h => h) (Or.inl ⟨by rfl, fun _ _ => by go_simp⟩) hHeld ?_
    simp only [List.getElem_toArray, List.getElem_cons_zero, List.getElem_cons_succ, Act.put, List.setIfInBounds_toArray, List.set_cons_zero, List.set_cons_succ]
    refine wpAnyH_take (i := 4) (v := .pointer (some ⟨Rb, 5, none⟩)) rfl (by kernel_rfl) (by kernel_rfl) (by kernel_rfl) (fun _ _ _ h => h) (Or.inl ⟨by rfl, fun _ _ => by go_simp⟩) hHeld ?_
    simp only [List.getElem_toArray, List.getElem_cons_zero, List.getElem_cons_succ, Act.put, List.setIfInBounds_toArray, List.set_cons_zero, List.set_cons_succ]
    refine wpAnyH_take (i := 5) (v := .slice a es.length c) rfl (by kernel_rfl) (by kernel_rfl) (by kernel_rfl) (fun _ _ _ h => h) (Or.inl ⟨by rfl, fun u b => by obtain ⟨y0, y1, y2, y3, y4, y5⟩ := ((unveil HKb).next b).b.cells; go_simp⟩) hHeld ?_
    simp only [List.getElem_toArray, List.getElem_cons_zero, List.getElem_cons_succ, Act.put, List.setIfInBounds_toArray, List.set_cons_zero, List.set_cons_succ]
    refine wpAnyH_take (i := 6) (v := .int .i64 (k : Int)) rfl (by kernel_rfl) (by kernel_rfl) (by kernel_rfl) (fun _ _ _ h => h) (Or.inl ⟨by rfl, fun _ _ => by go_simp⟩) hHeld ?_
    simp only [List.getElem_toArray, List.getElem_cons_zero, List.getElem_cons_succ, Act.put, List.setIfInBounds_toArray, List.set_cons_zero, List.set_cons_succ]
    refine wpAnyH_take (i := 7) (v := .slice (cutA a c k) (es.length - k) (c - k)) rfl (by kernel_rfl) (by kernel_rfl) (by kernel_rfl) (fun _ _ _ h => h) (yields_cut_l _ _ rfl rfl rfl rfl hkn) hHeld ?_
    simp only [List.getElem_toArray, List.getElem_cons_zero, List.getElem_cons_succ, Act.put, List.setIfInBounds_toArray, List.set_cons_zero, List.set_cons_succ]
    have bW0 := below_drew W6
    obtain ⟨W0, hW0⟩ : ∃ W0, W0 = W6.drew := ⟨_, rfl⟩
    rw [← hW0] at bW0 hHeld ⊢
    clear hW0
    refine wpAnyH_ready (rs := [8, 12]) (by kernel_rfl) (by simp) ?_
    refine AllReadyH.cons rfl (fun K hK => ?_) (AllReadyH.cons rfl (fun K hK => ?_) AllReadyH.nil)
    · simp only [List.getElem_toArray, List.getElem_cons_zero, List.getElem_cons_succ]
      go_simp
      refine (unveil HI7 _ bW0).mono ?_
      rintro x W0C ⟨a7, c7, rfl, iC, uC, bC⟩
      have bW0C := Below.next bW0 bC
      have iC0 := iC
      have hgC : ∀ x, a7 = some x → W6.heap.size ≤ x.block := fun x hx => Nat.le_trans bW0.size (uC x hx)
      have hsW0C : W0.heap.size ≤ W0C.heap.size := bC.size
      refine hK.out _ _ bW0C (fun hHeld => ?_)
      clear hK K bC
      refine wpAnyH_take (i := 9) (v := .tuple #[bVal 0 0 0 0 0 a7 0 c7, .int .i64 15]) rfl (by kernel_rfl) (by kernel_rfl) (by kernel_rfl) (fun _ _ _ h => h) (Or.inl ⟨by rfl, fun _ _ => by go_simp⟩) hHeld ?_
      simp only [List.getElem_toArray, List.getElem_cons_zero, List.getElem_cons_succ, Act.put, List.setIfInBounds_toArray, List.set_cons_zero, List.set_cons_succ]
      refine wpAnyH_take (i := 10) (v := bVal 0 0 0 0 0 a7 0 c7) rfl (by kernel_rfl) (by kernel_rfl) (by kernel_rfl) (fun _ _ _ h => h) (Or.inl ⟨by rfl, fun _ _ => by go_simp⟩) hHeld ?_
      simp only [List.getElem_toArray, List.getElem_cons_zero, List.getElem_cons_succ, Act.put, List.setIfInBounds_toArray, List.set_cons_zero, List.set_cons_succ]
      refine wpAnyH_take (i := 11) (v := .int .i64 15) rfl (by kernel_rfl) (by kernel_rfl) (by kernel_rfl) (fun _ _ _ h => h) (Or.inl ⟨by rfl, fun _ _ => by go_simp⟩) hHeld ?_
      simp only [List.getElem_toArray, List.getElem_cons_zero, List.getElem_cons_succ, Act.put, List.setIfInBounds_toArray, List.set_cons_zero, List.set_cons_succ]
      refine wpAnyH_ready (rs := [12]) (by kernel_rfl) (by simp) ?_
      refine AllReadyH.cons rfl (fun K hK => ?_) AllReadyH.nil
      · simp only [List.getElem_toArray, List.getElem_cons_zero, List.getElem_cons_succ]
        go_simp
        obtain ⟨W0CA, hW0CA, zA, bA⟩ := zb_made W0C
        rw [← hW0CA]
        clear hW0CA
        obtain ⟨XA, hX⟩ : ∃ X, X = W0C.heap.size := ⟨_, rfl⟩
        have hXA : W6.heap.size ≤ XA := by rw [hX]; exact bW0C.size
        have hXl : XA < W0CA.heap.size := by rw [hX]; exact zA.lt
        have hXe : W0C.heap.size ≤ XA := by omega
        rw [← hX] at zA ⊢
        clear hX
        have bW0CA := Below.next bW0C bA
        have iC := iC.next bA
        refine hK.out _ _ bW0CA (fun hHeld => ?_)
        clear hK K bA
        refine wpAnyH_ready (rs := [13]) (by kernel_rfl) (by simp) ?_
        refine AllReadyH.cons rfl (fun K hK => ?_) AllReadyH.nil
        simp only [List.getElem_toArray, List.getElem_cons_zero, List.getElem_cons_succ]
        obtain ⟨z0, z1, z2, z3, z4, z5⟩ := zA.cells
        have zf := zA.free
        go_simp
        obtain ⟨We, hWe, dE, bE, tE⟩ := b_stored zA bW0CA hXA 0 0 0 0 0 a7 0 c7
        rw [← hWe]
        clear hWe z0 z1 z2 z3 z4 z5 zf
        have hf : ∀ x, a7 = some x → 0 < 0 → x.block ≠ XA := fun x hx h0 => by have := iC0.row.blk_lt x hx (by show 0 < 6 * 0; omega); omega
        have iE := iC.turned tE hf
        refine hK.out _ _ bE (fun hHeld => ?_)
        clear hK K
        refine wpAnyH_take (i := 14) (v := .int .i64 15) rfl (by kernel_rfl) (by kernel_rfl) (by kernel_rfl) (fun _ _ _ h => h) (Or.inl ⟨by rfl, fun _ _ => by go_simp⟩) hHeld ?_
        simp only [List.getElem_toArray, List.getElem_cons_zero, List.getElem_cons_succ, Act.put, List.setIfInBounds_toArray, List.set_cons_zero, List.set_cons_succ]
        refine wpAnyH_done (by kernel_rfl) ?_ _
        go_wp2_with fail
        go_meet
        exact ⟨XA, a7, c7, rfl, rfl, dE, iE, hf, hXA, bE, hgC⟩
    · simp only [List.getElem_toArray, List.getElem_cons_zero, List.getElem_cons_succ]
      go_simp
      obtain ⟨W0A, hW0A, zA, bA⟩ := zb_made W0
      rw [← hW0A]
      clear hW0A
      obtain ⟨XA, hX⟩ : ∃ X, X = W0.heap.size := ⟨_, rfl⟩
      have hXA : W6.heap.size ≤ XA := by rw [hX]; exact bW0.size
      have hXl : XA < W0A.heap.size := by rw [hX]; exact zA.lt
      have hXe : W0.heap.size ≤ XA := by omega
      rw [← hX] at zA ⊢
      clear hX
      have bW0A := Below.next bW0 bA
      refine hK.out _ _ bW0A (fun hHeld => ?_)
      clear hK K bA
      refine wpAnyH_ready (rs := [8]) (by kernel_rfl) (by simp) ?_
      refine AllReadyH.cons rfl (fun K hK => ?_) AllReadyH.nil
      · simp only [List.getElem_toArray, List.getElem_cons_zero, List.getElem_cons_succ]
        go_simp
        refine (unveil HI7 _ bW0A).mono ?_
        rintro x W0AC ⟨a7, c7, rfl, iC, uC, bC⟩
        have bW0AC := Below.next bW0A bC
        have iC0 := iC
        have hgC : ∀ x, a7 = some x → W6.heap.size ≤ x.block := fun x hx => Nat.le_trans bW0A.size (uC x hx)
        have hsW0AC : W0A.heap.size ≤ W0AC.heap.size := bC.size
        have zA := zA.next bC
        refine hK.out _ _ bW0AC (fun hHeld => ?_)
        clear hK K bC
        refine wpAnyH_take (i := 9) (v := .tuple #[bVal 0 0 0 0 0 a7 0 c7, .int .i64 15]) rfl (by kernel_rfl) (by kernel_rfl) (by kernel_rfl) (fun _ _ _ h => h) (Or.inl ⟨by rfl, fun _ _ => by go_simp⟩) hHeld ?_
        simp only [List.getElem_toArray, List.getElem_cons_zero, List.getElem_cons_succ, Act.put, List.setIfInBounds_toArray, List.set_cons_zero, List.set_cons_succ]
        refine wpAnyH_take (i := 10) (v := bVal 0 0 0 0 0 a7 0 c7) rfl (by kernel_rfl) (by kernel_rfl) (by kernel_rfl) (fun _ _ _ h => h) (Or.inl ⟨by rfl, fun _ _ => by go_simp⟩) hHeld ?_
        simp only [List.getElem_toArray, List.getElem_cons_zero, List.getElem_cons_succ, Act.put, List.setIfInBounds_toArray, List.set_cons_zero, List.set_cons_succ]
        refine wpAnyH_take (i := 11) (v := .int .i64 15) rfl (by kernel_rfl) (by kernel_rfl) (by kernel_rfl) (fun _ _ _ h => h) (Or.inl ⟨by rfl, fun _ _ => by go_simp⟩) hHeld ?_
        simp only [List.getElem_toArray, List.getElem_cons_zero, List.getElem_cons_succ, Act.put, List.setIfInBounds_toArray, List.set_cons_zero, List.set_cons_succ]
        refine wpAnyH_ready (rs := [13]) (by kernel_rfl) (by simp) ?_
        refine AllReadyH.cons rfl (fun K hK => ?_) AllReadyH.nil
        simp only [List.getElem_toArray, List.getElem_cons_zero, List.getElem_cons_succ]
        obtain ⟨z0, z1, z2, z3, z4, z5⟩ := zA.cells
        have zf := zA.free
        go_simp
        obtain ⟨We, hWe, dE, bE, tE⟩ := b_stored zA bW0AC hXA 0 0 0 0 0 a7 0 c7
        rw [← hWe]
        clear hWe z0 z1 z2 z3 z4 z5 zf
        have hf : ∀ x, a7 = some x → 0 < 0 → x.block ≠ XA := fun x hx h0 => by have := uC x hx; omega
        have iE := iC.turned tE hf
        refine hK.out _ _ bE (fun hHeld => ?_)
        clear hK K
        refine wpAnyH_take (i := 14) (v := .int .i64 15) rfl (by kernel_rfl) (by kernel_rfl) (by kernel_rfl) (fun _ _ _ h => h) (Or.inl ⟨by rfl, fun _ _ => by go_simp⟩) hHeld ?_
        simp only [List.getElem_toArray, List.getElem_cons_zero, List.getElem_cons_succ, Act.put, List.setIfInBounds_toArray, List.set_cons_zero, List.set_cons_succ]
        refine wpAnyH_done (by kernel_rfl) ?_ _
        go_wp2_with fail
        go_meet
        exact ⟨XA, a7, c7, rfl, rfl, dE, iE, hf, hXA, bE, hgC⟩
  case rest =>
  obtain ⟨Rx, a7, c7, rfl, rfl, k7, i7, f7, u7, b7, hfrx⟩ := hcut
  obtain ⟨W7, hW7⟩ : ∃ W7, W7 = wc := ⟨_, rfl⟩
  subst hW7
  have K7 : Kb w W7 Rx (Bt.nob 0) a7 c7 := ⟨k7, i7, f7, Below.next (unveil HKb).bel b7, Nat.le_trans (unveil HKb).bel.size u7⟩
  have HKn := veil ((unveil HKb).next b7)
  clear HKb
  have HKb := HKn
  clear HKn
  have HKn := veil ((unveil HKt).next b7)
  clear HKt
  have HKt := HKn
  clear HKn
  have HKn := veil ((unveil HKu).next b7)
  clear HKu
  have HKu := HKn
  clear HKn
  clear k7 i7 f7 u7 b7
  clear K7
  clear HI7 HC6
  go_upto_region 8 with fail
  by_cases hk0 : 0 < k
  · have hk0' : (0 : Int) < (k : Int) := by omega
    go_upto_region 9 with fail
    have HC := bt_out (bimport_any (Bt.imp (E + 1) 0 H) a4 c4 (E + 1) 0 [] none 0 0 true W7 (unveil HKt).i (RowK.nil _ _ _) rfl (Nat.le_refl _) (fun _ => rfl)) (B2 := Bt.zero) (er2 := 3) (import_form (k := 0) okt rfl rfl (Nat.zero_le _) (fun hf => by have h1 := hf.2 rfl; have h2 := (unveil HHH).2.2.1; have h3 : H.length ≤ 0 := h1; omega))
    obtain ⟨xb0, xb1, xb2, xb3, xb4, xb5⟩ := (unveil HKb).b.cells
    have lb := (unveil HKb).b.lt
    obtain ⟨xt0, xt1, xt2, xt3, xt4, xt5⟩ := (unveil HKt).b.cells
    have lt := (unveil HKt).b.lt
    go_upto_region 10 with (first | (go_at_call 27; refine HC.mono ?_; rintro x V8 ⟨a8, c8, rfl, i8, u8, b8⟩; clear HC xb0 xb1 xb2 xb3 xb4 xb5 lb xt0 xt1 xt2 xt3 xt4 xt5 lt))
    obtain ⟨W8, hW8, K8, d8⟩ := Kb.new (B := Bt.zero) i8 (unveil HKb).bel b8
    rw [← hW8]
    clear hW8
    have HKn := veil ((unveil HKb).next (Below.next b8 d8))
    clear HKb
    have HKb := HKn
    clear HKn
    have HKn := veil ((unveil HKt).next (Below.next b8 d8))
    clear HKt
    have HKt := HKn
    clear HKn
    have HKn := veil ((unveil HKu).next (Below.next b8 d8))
    clear HKu
    have HKu := HKn
    clear HKn
    clear K8 i8 u8 b8 d8
    go_upto_region 12 with fail
    have ru := (unveil HKu).i.row
    have hui : (Bt.act (E + 1) U).es.length = U.length := rfl
    rw [hui] at ru
    obtain ⟨g, off, hau⟩ := ru.form (by have := (unveil HHH).2.2.2.2.2.2; omega)
    subst hau
    have hcell := ru.at (6 * es.length) (by have := (unveil HHH).2.2.2.2.2.2; omega)
    have hget : (evFlat U).getD (6 * es.length) 0 = 4 := by
      rw [(unveil HHH).2.2.2.2.2.1, evFlat_snoc, List.getD_eq_getElem?_getD, List.getElem?_append_right (by rw [evFlat_len]; omega), evFlat_len, Nat.sub_self]
      rfl
    rw [hget, Nat.mul_comm 6 es.length] at hcell
    have eU1 : ((U.length : Int) == (es.length : Int) + 1) = true := by have := (unveil HHH).2.2.2.2.2.2; simp; omega
    have eU2 : (es.length : Int) < (U.length : Int) := by have := (unveil HHH).2.2.2.2.2.2; omega
    have eU3 : es.length < U.length := by omega
    clear ru hget hui
    obtain ⟨xb0, xb1, xb2, xb3, xb4, xb5⟩ := (unveil HKb).b.cells
    have lb := (unveil HKb).b.lt
    obtain ⟨xu0, xu1, xu2, xu3, xu4, xu5⟩ := (unveil HKu).b.cells
    have lu := (unveil HKu).b.lt
    go_wp2
    go_ret
    exact ⟨by simp, (unveil HKb).bel⟩
  · have hk0' : ¬ (0 : Int) < (k : Int) := by omega
    go_upto_region 12 with fail
    have ru := (unveil HKu).i.row
    have hui : (Bt.act (E + 1) U).es.length = U.length := rfl
    rw [hui] at ru
    obtain ⟨g, off, hau⟩ := ru.form (by have := (unveil HHH).2.2.2.2.2.2; omega)
    subst hau
    have hcell := ru.at (6 * es.length) (by have := (unveil HHH).2.2.2.2.2.2; omega)
    have hget : (evFlat U).getD (6 * es.length) 0 = 4 := by
      rw [(unveil HHH).2.2.2.2.2.1, evFlat_snoc, List.getD_eq_getElem?_getD, List.getElem?_append_right (by rw [evFlat_len]; omega), evFlat_len, Nat.sub_self]
      rfl
    rw [hget, Nat.mul_comm 6 es.length] at hcell
    have eU1 : ((U.length : Int) == (es.length : Int) + 1) = true := by have := (unveil HHH).2.2.2.2.2.2; simp; omega
    have eU2 : (es.length : Int) < (U.length : Int) := by have := (unveil HHH).2.2.2.2.2.2; omega
    have eU3 : es.length < U.length := by omega
    clear ru hget hui
    obtain ⟨xb0, xb1, xb2, xb3, xb4, xb5⟩ := (unveil HKb).b.cells
    have lb := (unveil HKb).b.lt
    obtain ⟨xu0, xu1, xu2, xu3, xu4, xu5⟩ := (unveil HKu).b.cells
    have lu := (unveil HKu).b.lt
    go_wp2
    go_ret
    exact ⟨by simp, (unveil HKb).bel⟩
end Go.Proofs.Ytdenfhnbhmdbnaa
