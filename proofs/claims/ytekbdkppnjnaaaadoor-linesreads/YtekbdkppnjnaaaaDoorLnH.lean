/- Walk of lines.Check. -/
import Derived.Test.YtekbdkppnjnaaaaDoorLnG
namespace Go.Proofs.YtekbdkppnjnaaaaDoor
open Go.RowKit

/-- the boxes of Check: the act, its kind, what the word has, what is left. -/
structure Cw (w wx : World) (Kb X Y : Nat) (f : Nat → Int) (i : Nat) (h l : Nat → Int) : Prop where
  a : aBlock wx w.heap.size f
  k : kBlock wx Kb (kword i) (kact i) (kop i)
  h : aBlock wx X h
  l : aBlock wx Y l
  bel : Below w.heap.size w wx
set_option maxRecDepth 20000 in
set_option maxHeartbeats 8000000 in
theorem lcheck_any (f : Nat → Int) (w : World) (hK : Kinds w) : Calls Tryd.prog 10 #[aVal f] w fun e w' => e = .returned (.int .i64 (chk f)) ∧ Below w.heap.size w w' := by
  obtain ⟨W1, hW1, A1, B1⟩ : ∃ W1, W1 = w.alloc (.cells (aCells f) 27) ∧ aBlock W1 w.heap.size f ∧ Below w.heap.size w W1 := ⟨_, rfl, aBlock.new w f, below1 _ _⟩
  have HC1 := kindOf_any f W1 (hK.next B1)
  have hw0 := hK.lt
  clear hK
  have HI : Hid (kno (f 0) (f 5) < 12 → offs (bareK (kno (f 0) (f 5)) 0) (bareK (kno (f 0) (f 5)) 5) = offs (f 0) (f 5)) := veil offs_bare
  have HR : Hid (chk f = if kno (f 0) (f 5) < 12 then (if boundB (over (offs (f 0) (f 5)) (bareK (kno (f 0) (f 5))) f) = true then (if eqA (less (offs (f 0) (f 5)) f) (bareK (kno (f 0) (f 5))) = true then 0 else 3) else 2) else 3) := veil rfl
  obtain ⟨i, hi⟩ : ∃ i, i = kno (f 0) (f 5) := ⟨_, rfl⟩
  obtain ⟨r, hr⟩ : ∃ r, r = chk f := ⟨_, rfl⟩
  rw [← hi] at HC1 HI HR
  rw [← hr] at HR ⊢
  clear hi hr
  obtain ⟨x0, x1, x2, x3, x4, x5, x6, x7, x8, x9, x10⟩ := A1.cells
  by_cases hi : i < 12
  case neg =>
    have e3 : r = 3 := (unveil HR).trans (if_neg hi)
    rw [decide_eq_false hi] at HC1
    subst e3
    clear HI HR A1
    go_enter Tryd.func10, Tryd.ntmps10
    go_upto_region 1 with fail
    rw [← hW1]
    clear hW1
    go_wp2_with (go_at_call 22; refine HC1.mono ?_; rintro e V1 ⟨rfl, b1⟩; clear HC1 x0 x1 x2 x3 x4 x5 x6 x7 x8 x9 x10)
    go_ret
    exact ⟨rfl, Below.next (Below.next B1 b1) (below1 _ _)⟩
  case pos =>
    have ho := unveil HI hi
    rw [decide_eq_true hi] at HC1
    have HR2 : Hid (r = if boundB (over (offs (f 0) (f 5)) (bareK i) f) = true then (if eqA (less (offs (f 0) (f 5)) f) (bareK i) = true then 0 else 3) else 2) := veil ((unveil HR).trans (if_pos hi))
    clear HI HR
    have HC3 : Hid (∀ u, Calls Tryd.prog 23 #[aVal f, aVal (bareK i)] u fun e w' => e = .returned (.tuple #[aVal (over (offs (f 0) (f 5)) (bareK i) f), aVal (less (offs (f 0) (f 5)) f)]) ∧ Below u.heap.size u w') := veil fun u => part_any f (bareK i) _ u rfl ho
    have HC2 : Hid (∀ u, Calls Tryd.prog 24 #[kVal i] u fun e w' => e = .returned (aVal (bareK i)) ∧ Below u.heap.size u w') := veil fun u => bare_any i u
    have HC4 : Hid (∀ h u, Calls Tryd.prog 25 #[aVal h] u fun e w' => e = .returned (.bool (boundB h)) ∧ Below u.heap.size u w') := veil fun h u => inBounds_any h u
    have HE : Hid (∀ f g w, (Op.equalIn 10000 27 (aVal f) (aVal g)).run Tryd.prog w = .ok (eqA f g) w) := veil run_equal_acts
    generalize over (offs (f 0) (f 5)) (bareK i) f = h at HC3 HR2
    generalize less (offs (f 0) (f 5)) f = l at HC3 HR2
    clear ho
    have HA := veil A1
    clear A1
    go_enter Tryd.func10, Tryd.ntmps10
    go_upto_region 1 with fail
    rw [← hW1]
    clear hW1
    go_upto_region 2 with (go_at_call 22; refine HC1.mono ?_; rintro e V1 ⟨rfl, b1⟩; clear HC1 x0 x1 x2 x3 x4 x5 x6 x7 x8 x9 x10)
    obtain ⟨Vb, hVb, k2, b2⟩ : ∃ W2, W2 = V1.alloc (.cells #[.string (kword i), .int .i64 (kact i), .int .i64 (kop i)] 49) ∧ kBlock W2 V1.heap.size (kword i) (kact i) (kop i) ∧ Below V1.heap.size V1 W2 := ⟨_, rfl, kBlock.new _ _ _ _, below1 _ _⟩
    rw [← hVb]
    clear hVb
    obtain ⟨Kb, hKe⟩ : ∃ K, K = V1.heap.size := ⟨_, rfl⟩
    have hKl : w.heap.size < Kb := by rw [hKe]; exact Nat.lt_of_lt_of_le (unveil HA).lt b1.size
    rw [← hKe] at k2 ⊢
    have A2 := ((unveil HA).next b1).next b2
    have B2 := Below.next (Below.next B1 b1) b2
    clear hKe b1 b2 HA B1
    go_upto_region 4 with fail
    go_cut [5, 6] (fun p q wx => ∃ X Y, p = ptr X 0 ∧ q = ptr Y 0 ∧ Hid (Cw w wx Kb X Y f i h l))
    case first =>
      refine wp_region_held_drew (S := Below Vb.heap.size Vb) (by kernel_rfl) (below_drew Vb) (fun hHeld => ?_)
      refine wpAnyH_take (i := 0) (v := aVal f) rfl (by kernel_rfl) (by kernel_rfl) (by kernel_rfl) (fun _ _ _ h => h) (Or.inl ⟨by rfl, fun u b => by obtain ⟨z0, z1, z2, z3, z4, z5, z6, z7, z8, z9, z10⟩ := (A2.next b).cells; go_simp⟩) hHeld ?_
      simp only [List.getElem_toArray, List.getElem_cons_zero, Act.put, List.setIfInBounds_toArray, List.set_cons_zero, List.set_cons_succ]
      refine wpAnyH_take (i := 1) (v := kVal i) rfl (by kernel_rfl) (by kernel_rfl) (by kernel_rfl) (fun _ _ _ h => h) (Or.inl ⟨by rfl, fun u b => by obtain ⟨z0, z1, z2⟩ := (k2.next b).cells; go_simp⟩) hHeld ?_
      simp only [List.getElem_toArray, List.getElem_cons_zero, List.getElem_cons_succ, Act.put, List.setIfInBounds_toArray, List.set_cons_zero, List.set_cons_succ]
      have bW0 := below_drew Vb
      have A2 := A2.next bW0
      have k2 := k2.next bW0
      obtain ⟨W0, hW0⟩ : ∃ W0, W0 = Vb.drew := ⟨_, rfl⟩
      rw [← hW0] at bW0 A2 k2 hHeld ⊢
      clear hW0
      refine wpAnyH_ready (rs := [2, 7, 8]) (by kernel_rfl) (by simp) ?_
      refine AllReadyH.cons rfl (fun K hK => ?_) (AllReadyH.cons rfl (fun K hK => ?_) (AllReadyH.cons rfl (fun K hK => ?_) AllReadyH.nil))
      · simp only [List.getElem_toArray, List.getElem_cons_zero, List.getElem_cons_succ]
        go_simp
        refine (unveil HC2 W0).mono ?_
        rintro e W1 ⟨rfl, bn⟩
        have bW1 := Below.next bW0 bn
        have A2 := A2.next bn
        have k2 := k2.next bn
        clear bn
        refine hK.out _ _ bW1 (fun hHeld => ?_)
        clear hK K
        refine wpAnyH_ready (rs := [3, 7, 8]) (by kernel_rfl) (by simp) ?_
        refine AllReadyH.cons rfl (fun K hK => ?_) (AllReadyH.cons rfl (fun K hK => ?_) (AllReadyH.cons rfl (fun K hK => ?_) AllReadyH.nil))
        · simp only [List.getElem_toArray, List.getElem_cons_zero, List.getElem_cons_succ]
          go_simp
          refine (unveil HC3 W1).mono ?_
          rintro e W2 ⟨rfl, bn⟩
          have bW2 := Below.next bW1 bn
          have A2 := A2.next bn
          have k2 := k2.next bn
          clear bn
          refine hK.out _ _ bW2 (fun hHeld => ?_)
          clear hK K
          refine wpAnyH_take (i := 4) (v := .tuple #[aVal h, aVal l]) rfl (by kernel_rfl) (by kernel_rfl) (by kernel_rfl) (fun _ _ _ h => h) (Or.inl ⟨by rfl, fun _ _ => by go_simp⟩) hHeld ?_
          simp only [List.getElem_toArray, List.getElem_cons_zero, List.getElem_cons_succ, Act.put, List.setIfInBounds_toArray, List.set_cons_zero, List.set_cons_succ]
          refine wpAnyH_take (i := 5) (v := aVal h) rfl (by kernel_rfl) (by kernel_rfl) (by kernel_rfl) (fun _ _ _ h => h) (Or.inl ⟨by rfl, fun _ _ => by go_simp⟩) hHeld ?_
          simp only [List.getElem_toArray, List.getElem_cons_zero, List.getElem_cons_succ, Act.put, List.setIfInBounds_toArray, List.set_cons_zero, List.set_cons_succ]
          refine wpAnyH_take (i := 6) (v := aVal l) rfl (by kernel_rfl) (by kernel_rfl) (by kernel_rfl) (fun _ _ _ h => h) (Or.inl ⟨by rfl, fun _ _ => by go_simp⟩) hHeld ?_
          simp only [List.getElem_toArray, List.getElem_cons_zero, List.getElem_cons_succ, Act.put, List.setIfInBounds_toArray, List.set_cons_zero, List.set_cons_succ]
          refine wpAnyH_ready (rs := [7, 8]) (by kernel_rfl) (by simp) ?_
          refine AllReadyH.cons rfl (fun K hK => ?_) (AllReadyH.cons rfl (fun K hK => ?_) AllReadyH.nil)
          · simp only [List.getElem_toArray, List.getElem_cons_zero, List.getElem_cons_succ]
            go_simp
            obtain ⟨W3, hN, zh, bn⟩ : ∃ W, W = W2.alloc (.cells #[.int .i64 0, .int .i64 0, .int .i64 0, .int .i64 0, .int .i64 0, .int .i64 0, .int .i64 0, .int .i64 0, .int .i64 0, .int .i64 0, .int .i64 0] 27) ∧ aBlock W W2.heap.size (fun _ => 0) ∧ Below W2.heap.size W2 W := ⟨_, rfl, aBlock.new W2 (fun _ => 0), below1 _ _⟩
            rw [← hN]
            clear hN
            obtain ⟨Xh, hXh⟩ : ∃ X, X = W2.heap.size := ⟨_, rfl⟩
            have hlh : w.heap.size < Xh := by rw [hXh]; exact A2.lt
            have hkh : Kb < Xh := by rw [hXh]; exact k2.lt
            rw [← hXh] at zh ⊢
            have hbh : Vb.heap.size ≤ Xh := by rw [hXh]; exact bW2.size
            first | (have hne : Xl ≠ Xh := by have := zl.lt; omega) | skip
            clear hXh
            have bW3 := Below.next bW2 bn
            have A2 := A2.next bn
            have k2 := k2.next bn
            clear bn
            refine hK.out _ _ bW3 (fun hHeld => ?_)
            clear hK K
            refine wpAnyH_ready (rs := [8]) (by kernel_rfl) (by simp) ?_
            refine AllReadyH.cons rfl (fun K hK => ?_) AllReadyH.nil
            simp only [List.getElem_toArray, List.getElem_cons_zero, List.getElem_cons_succ]
            go_simp
            obtain ⟨W4, hN, zl, bn⟩ : ∃ W, W = W3.alloc (.cells #[.int .i64 0, .int .i64 0, .int .i64 0, .int .i64 0, .int .i64 0, .int .i64 0, .int .i64 0, .int .i64 0, .int .i64 0, .int .i64 0, .int .i64 0] 27) ∧ aBlock W W3.heap.size (fun _ => 0) ∧ Below W3.heap.size W3 W := ⟨_, rfl, aBlock.new W3 (fun _ => 0), below1 _ _⟩
            rw [← hN]
            clear hN
            obtain ⟨Xl, hXl⟩ : ∃ X, X = W3.heap.size := ⟨_, rfl⟩
            have hll : w.heap.size < Xl := by rw [hXl]; exact A2.lt
            have hkl : Kb < Xl := by rw [hXl]; exact k2.lt
            rw [← hXl] at zl ⊢
            have hbl : Vb.heap.size ≤ Xl := by rw [hXl]; exact bW3.size
            first | (have hne : Xl ≠ Xh := by have := zh.lt; omega) | skip
            clear hXl
            have bW4 := Below.next bW3 bn
            have A2 := A2.next bn
            have k2 := k2.next bn
            have zh := zh.next bn
            clear bn
            refine hK.out _ _ bW4 (fun hHeld => ?_)
            clear hK K
            refine wpAnyH_ready (rs := [9]) (by kernel_rfl) (by simp) ?_
            refine AllReadyH.cons rfl (fun K hK => ?_) AllReadyH.nil
            simp only [List.getElem_toArray, List.getElem_cons_zero, List.getElem_cons_succ]
            obtain ⟨z0, z1, z2, z3, z4, z5, z6, z7, z8, z9, z10⟩ := zh.cells
            have zf := zh.free
            go_simp
            obtain ⟨W5, hN, dh, bW5, tn⟩ := a_stored zh bW4 (show Vb.heap.size ≤ Xh from hbh) (h 0) (h 1) (h 2) (h 3) (h 4) (h 5) (h 6) (h 7) (h 8) (h 9) (h 10)
            rw [← hN]
            clear hN z0 z1 z2 z3 z4 z5 z6 z7 z8 z9 z10 zf
            have zl := zl.turned tn hne
            have A2 := A2.turned tn (by omega)
            have k2 : kBlock W5 Kb _ _ _ := (tn.block Kb (by omega)).trans k2
            refine hK.out _ _ bW5 (fun hHeld => ?_)
            clear hK K
            refine wpAnyH_ready (rs := [10]) (by kernel_rfl) (by simp) ?_
            refine AllReadyH.cons rfl (fun K hK => ?_) AllReadyH.nil
            simp only [List.getElem_toArray, List.getElem_cons_zero, List.getElem_cons_succ]
            obtain ⟨z0, z1, z2, z3, z4, z5, z6, z7, z8, z9, z10⟩ := zl.cells
            have zf := zl.free
            go_simp
            obtain ⟨W6, hN, dl, bW6, tn⟩ := a_stored zl bW5 (show Vb.heap.size ≤ Xl from hbl) (l 0) (l 1) (l 2) (l 3) (l 4) (l 5) (l 6) (l 7) (l 8) (l 9) (l 10)
            rw [← hN]
            clear hN z0 z1 z2 z3 z4 z5 z6 z7 z8 z9 z10 zf
            have dh := dh.turned tn hne.symm
            have A2 := A2.turned tn (by omega)
            have k2 : kBlock W6 Kb _ _ _ := (tn.block Kb (by omega)).trans k2
            refine hK.out _ _ bW6 (fun hHeld => ?_)
            clear hK K
            refine wpAnyH_done (by kernel_rfl) ?_ _
            go_wp2_with fail
            go_meet
            exact ⟨Xh, Xl, rfl, rfl, veil ⟨A2, k2, dh.ext (below11 rfl rfl rfl rfl rfl rfl rfl rfl rfl rfl rfl), dl.ext (below11 rfl rfl rfl rfl rfl rfl rfl rfl rfl rfl rfl), Below.next B2 bW6⟩⟩
          · simp only [List.getElem_toArray, List.getElem_cons_zero, List.getElem_cons_succ]
            go_simp
            obtain ⟨W3, hN, zl, bn⟩ : ∃ W, W = W2.alloc (.cells #[.int .i64 0, .int .i64 0, .int .i64 0, .int .i64 0, .int .i64 0, .int .i64 0, .int .i64 0, .int .i64 0, .int .i64 0, .int .i64 0, .int .i64 0] 27) ∧ aBlock W W2.heap.size (fun _ => 0) ∧ Below W2.heap.size W2 W := ⟨_, rfl, aBlock.new W2 (fun _ => 0), below1 _ _⟩
            rw [← hN]
            clear hN
            obtain ⟨Xl, hXl⟩ : ∃ X, X = W2.heap.size := ⟨_, rfl⟩
            have hll : w.heap.size < Xl := by rw [hXl]; exact A2.lt
            have hkl : Kb < Xl := by rw [hXl]; exact k2.lt
            rw [← hXl] at zl ⊢
            have hbl : Vb.heap.size ≤ Xl := by rw [hXl]; exact bW2.size
            first | (have hne : Xl ≠ Xh := by have := zh.lt; omega) | skip
            clear hXl
            have bW3 := Below.next bW2 bn
            have A2 := A2.next bn
            have k2 := k2.next bn
            clear bn
            refine hK.out _ _ bW3 (fun hHeld => ?_)
            clear hK K
            refine wpAnyH_ready (rs := [7]) (by kernel_rfl) (by simp) ?_
            refine AllReadyH.cons rfl (fun K hK => ?_) AllReadyH.nil
            simp only [List.getElem_toArray, List.getElem_cons_zero, List.getElem_cons_succ]
            go_simp
            obtain ⟨W4, hN, zh, bn⟩ : ∃ W, W = W3.alloc (.cells #[.int .i64 0, .int .i64 0, .int .i64 0, .int .i64 0, .int .i64 0, .int .i64 0, .int .i64 0, .int .i64 0, .int .i64 0, .int .i64 0, .int .i64 0] 27) ∧ aBlock W W3.heap.size (fun _ => 0) ∧ Below W3.heap.size W3 W := ⟨_, rfl, aBlock.new W3 (fun _ => 0), below1 _ _⟩
            rw [← hN]
            clear hN
            obtain ⟨Xh, hXh⟩ : ∃ X, X = W3.heap.size := ⟨_, rfl⟩
            have hlh : w.heap.size < Xh := by rw [hXh]; exact A2.lt
            have hkh : Kb < Xh := by rw [hXh]; exact k2.lt
            rw [← hXh] at zh ⊢
            have hbh : Vb.heap.size ≤ Xh := by rw [hXh]; exact bW3.size
            first | (have hne : Xl ≠ Xh := by have := zl.lt; omega) | skip
            clear hXh
            have bW4 := Below.next bW3 bn
            have A2 := A2.next bn
            have k2 := k2.next bn
            have zl := zl.next bn
            clear bn
            refine hK.out _ _ bW4 (fun hHeld => ?_)
            clear hK K
            refine wpAnyH_ready (rs := [9]) (by kernel_rfl) (by simp) ?_
            refine AllReadyH.cons rfl (fun K hK => ?_) AllReadyH.nil
            simp only [List.getElem_toArray, List.getElem_cons_zero, List.getElem_cons_succ]
            obtain ⟨z0, z1, z2, z3, z4, z5, z6, z7, z8, z9, z10⟩ := zh.cells
            have zf := zh.free
            go_simp
            obtain ⟨W5, hN, dh, bW5, tn⟩ := a_stored zh bW4 (show Vb.heap.size ≤ Xh from hbh) (h 0) (h 1) (h 2) (h 3) (h 4) (h 5) (h 6) (h 7) (h 8) (h 9) (h 10)
            rw [← hN]
            clear hN z0 z1 z2 z3 z4 z5 z6 z7 z8 z9 z10 zf
            have zl := zl.turned tn hne
            have A2 := A2.turned tn (by omega)
            have k2 : kBlock W5 Kb _ _ _ := (tn.block Kb (by omega)).trans k2
            refine hK.out _ _ bW5 (fun hHeld => ?_)
            clear hK K
            refine wpAnyH_ready (rs := [10]) (by kernel_rfl) (by simp) ?_
            refine AllReadyH.cons rfl (fun K hK => ?_) AllReadyH.nil
            simp only [List.getElem_toArray, List.getElem_cons_zero, List.getElem_cons_succ]
            obtain ⟨z0, z1, z2, z3, z4, z5, z6, z7, z8, z9, z10⟩ := zl.cells
            have zf := zl.free
            go_simp
            obtain ⟨W6, hN, dl, bW6, tn⟩ := a_stored zl bW5 (show Vb.heap.size ≤ Xl from hbl) (l 0) (l 1) (l 2) (l 3) (l 4) (l 5) (l 6) (l 7) (l 8) (l 9) (l 10)
            rw [← hN]
            clear hN z0 z1 z2 z3 z4 z5 z6 z7 z8 z9 z10 zf
            have dh := dh.turned tn hne.symm
            have A2 := A2.turned tn (by omega)
            have k2 : kBlock W6 Kb _ _ _ := (tn.block Kb (by omega)).trans k2
            refine hK.out _ _ bW6 (fun hHeld => ?_)
            clear hK K
            refine wpAnyH_done (by kernel_rfl) ?_ _
            go_wp2_with fail
            go_meet
            exact ⟨Xh, Xl, rfl, rfl, veil ⟨A2, k2, dh.ext (below11 rfl rfl rfl rfl rfl rfl rfl rfl rfl rfl rfl), dl.ext (below11 rfl rfl rfl rfl rfl rfl rfl rfl rfl rfl rfl), Below.next B2 bW6⟩⟩
        · simp only [List.getElem_toArray, List.getElem_cons_zero, List.getElem_cons_succ]
          go_simp
          obtain ⟨W2, hN, zh, bn⟩ : ∃ W, W = W1.alloc (.cells #[.int .i64 0, .int .i64 0, .int .i64 0, .int .i64 0, .int .i64 0, .int .i64 0, .int .i64 0, .int .i64 0, .int .i64 0, .int .i64 0, .int .i64 0] 27) ∧ aBlock W W1.heap.size (fun _ => 0) ∧ Below W1.heap.size W1 W := ⟨_, rfl, aBlock.new W1 (fun _ => 0), below1 _ _⟩
          rw [← hN]
          clear hN
          obtain ⟨Xh, hXh⟩ : ∃ X, X = W1.heap.size := ⟨_, rfl⟩
          have hlh : w.heap.size < Xh := by rw [hXh]; exact A2.lt
          have hkh : Kb < Xh := by rw [hXh]; exact k2.lt
          rw [← hXh] at zh ⊢
          have hbh : Vb.heap.size ≤ Xh := by rw [hXh]; exact bW1.size
          first | (have hne : Xl ≠ Xh := by have := zl.lt; omega) | skip
          clear hXh
          have bW2 := Below.next bW1 bn
          have A2 := A2.next bn
          have k2 := k2.next bn
          clear bn
          refine hK.out _ _ bW2 (fun hHeld => ?_)
          clear hK K
          refine wpAnyH_ready (rs := [3, 8]) (by kernel_rfl) (by simp) ?_
          refine AllReadyH.cons rfl (fun K hK => ?_) (AllReadyH.cons rfl (fun K hK => ?_) AllReadyH.nil)
          · simp only [List.getElem_toArray, List.getElem_cons_zero, List.getElem_cons_succ]
            go_simp
            refine (unveil HC3 W2).mono ?_
            rintro e W3 ⟨rfl, bn⟩
            have bW3 := Below.next bW2 bn
            have A2 := A2.next bn
            have k2 := k2.next bn
            have zh := zh.next bn
            clear bn
            refine hK.out _ _ bW3 (fun hHeld => ?_)
            clear hK K
            refine wpAnyH_take (i := 4) (v := .tuple #[aVal h, aVal l]) rfl (by kernel_rfl) (by kernel_rfl) (by kernel_rfl) (fun _ _ _ h => h) (Or.inl ⟨by rfl, fun _ _ => by go_simp⟩) hHeld ?_
            simp only [List.getElem_toArray, List.getElem_cons_zero, List.getElem_cons_succ, Act.put, List.setIfInBounds_toArray, List.set_cons_zero, List.set_cons_succ]
            refine wpAnyH_take (i := 5) (v := aVal h) rfl (by kernel_rfl) (by kernel_rfl) (by kernel_rfl) (fun _ _ _ h => h) (Or.inl ⟨by rfl, fun _ _ => by go_simp⟩) hHeld ?_
            simp only [List.getElem_toArray, List.getElem_cons_zero, List.getElem_cons_succ, Act.put, List.setIfInBounds_toArray, List.set_cons_zero, List.set_cons_succ]
            refine wpAnyH_take (i := 6) (v := aVal l) rfl (by kernel_rfl) (by kernel_rfl) (by kernel_rfl) (fun _ _ _ h => h) (Or.inl ⟨by rfl, fun _ _ => by go_simp⟩) hHeld ?_
            simp only [List.getElem_toArray, List.getElem_cons_zero, List.getElem_cons_succ, Act.put, List.setIfInBounds_toArray, List.set_cons_zero, List.set_cons_succ]
            refine wpAnyH_ready (rs := [8]) (by kernel_rfl) (by simp) ?_
            refine AllReadyH.cons rfl (fun K hK => ?_) AllReadyH.nil
            simp only [List.getElem_toArray, List.getElem_cons_zero, List.getElem_cons_succ]
            go_simp
            obtain ⟨W4, hN, zl, bn⟩ : ∃ W, W = W3.alloc (.cells #[.int .i64 0, .int .i64 0, .int .i64 0, .int .i64 0, .int .i64 0, .int .i64 0, .int .i64 0, .int .i64 0, .int .i64 0, .int .i64 0, .int .i64 0] 27) ∧ aBlock W W3.heap.size (fun _ => 0) ∧ Below W3.heap.size W3 W := ⟨_, rfl, aBlock.new W3 (fun _ => 0), below1 _ _⟩
            rw [← hN]
            clear hN
            obtain ⟨Xl, hXl⟩ : ∃ X, X = W3.heap.size := ⟨_, rfl⟩
            have hll : w.heap.size < Xl := by rw [hXl]; exact A2.lt
            have hkl : Kb < Xl := by rw [hXl]; exact k2.lt
            rw [← hXl] at zl ⊢
            have hbl : Vb.heap.size ≤ Xl := by rw [hXl]; exact bW3.size
            first | (have hne : Xl ≠ Xh := by have := zh.lt; omega) | skip
            clear hXl
            have bW4 := Below.next bW3 bn
            have A2 := A2.next bn
            have k2 := k2.next bn
            have zh := zh.next bn
            clear bn
            refine hK.out _ _ bW4 (fun hHeld => ?_)
            clear hK K
            refine wpAnyH_ready (rs := [9]) (by kernel_rfl) (by simp) ?_
            refine AllReadyH.cons rfl (fun K hK => ?_) AllReadyH.nil
            simp only [List.getElem_toArray, List.getElem_cons_zero, List.getElem_cons_succ]
            obtain ⟨z0, z1, z2, z3, z4, z5, z6, z7, z8, z9, z10⟩ := zh.cells
            have zf := zh.free
            go_simp
            obtain ⟨W5, hN, dh, bW5, tn⟩ := a_stored zh bW4 (show Vb.heap.size ≤ Xh from hbh) (h 0) (h 1) (h 2) (h 3) (h 4) (h 5) (h 6) (h 7) (h 8) (h 9) (h 10)
            rw [← hN]
            clear hN z0 z1 z2 z3 z4 z5 z6 z7 z8 z9 z10 zf
            have zl := zl.turned tn hne
            have A2 := A2.turned tn (by omega)
            have k2 : kBlock W5 Kb _ _ _ := (tn.block Kb (by omega)).trans k2
            refine hK.out _ _ bW5 (fun hHeld => ?_)
            clear hK K
            refine wpAnyH_ready (rs := [10]) (by kernel_rfl) (by simp) ?_
            refine AllReadyH.cons rfl (fun K hK => ?_) AllReadyH.nil
            simp only [List.getElem_toArray, List.getElem_cons_zero, List.getElem_cons_succ]
            obtain ⟨z0, z1, z2, z3, z4, z5, z6, z7, z8, z9, z10⟩ := zl.cells
            have zf := zl.free
            go_simp
            obtain ⟨W6, hN, dl, bW6, tn⟩ := a_stored zl bW5 (show Vb.heap.size ≤ Xl from hbl) (l 0) (l 1) (l 2) (l 3) (l 4) (l 5) (l 6) (l 7) (l 8) (l 9) (l 10)
            rw [← hN]
            clear hN z0 z1 z2 z3 z4 z5 z6 z7 z8 z9 z10 zf
            have dh := dh.turned tn hne.symm
            have A2 := A2.turned tn (by omega)
            have k2 : kBlock W6 Kb _ _ _ := (tn.block Kb (by omega)).trans k2
            refine hK.out _ _ bW6 (fun hHeld => ?_)
            clear hK K
            refine wpAnyH_done (by kernel_rfl) ?_ _
            go_wp2_with fail
            go_meet
            exact ⟨Xh, Xl, rfl, rfl, veil ⟨A2, k2, dh.ext (below11 rfl rfl rfl rfl rfl rfl rfl rfl rfl rfl rfl), dl.ext (below11 rfl rfl rfl rfl rfl rfl rfl rfl rfl rfl rfl), Below.next B2 bW6⟩⟩
          · simp only [List.getElem_toArray, List.getElem_cons_zero, List.getElem_cons_succ]
            go_simp
            obtain ⟨W3, hN, zl, bn⟩ : ∃ W, W = W2.alloc (.cells #[.int .i64 0, .int .i64 0, .int .i64 0, .int .i64 0, .int .i64 0, .int .i64 0, .int .i64 0, .int .i64 0, .int .i64 0, .int .i64 0, .int .i64 0] 27) ∧ aBlock W W2.heap.size (fun _ => 0) ∧ Below W2.heap.size W2 W := ⟨_, rfl, aBlock.new W2 (fun _ => 0), below1 _ _⟩
            rw [← hN]
            clear hN
            obtain ⟨Xl, hXl⟩ : ∃ X, X = W2.heap.size := ⟨_, rfl⟩
            have hll : w.heap.size < Xl := by rw [hXl]; exact A2.lt
            have hkl : Kb < Xl := by rw [hXl]; exact k2.lt
            rw [← hXl] at zl ⊢
            have hbl : Vb.heap.size ≤ Xl := by rw [hXl]; exact bW2.size
            first | (have hne : Xl ≠ Xh := by have := zh.lt; omega) | skip
            clear hXl
            have bW3 := Below.next bW2 bn
            have A2 := A2.next bn
            have k2 := k2.next bn
            have zh := zh.next bn
            clear bn
            refine hK.out _ _ bW3 (fun hHeld => ?_)
            clear hK K
            refine wpAnyH_ready (rs := [3]) (by kernel_rfl) (by simp) ?_
            refine AllReadyH.cons rfl (fun K hK => ?_) AllReadyH.nil
            simp only [List.getElem_toArray, List.getElem_cons_zero, List.getElem_cons_succ]
            go_simp
            refine (unveil HC3 W3).mono ?_
            rintro e W4 ⟨rfl, bn⟩
            have bW4 := Below.next bW3 bn
            have A2 := A2.next bn
            have k2 := k2.next bn
            have zh := zh.next bn
            have zl := zl.next bn
            clear bn
            refine hK.out _ _ bW4 (fun hHeld => ?_)
            clear hK K
            refine wpAnyH_take (i := 4) (v := .tuple #[aVal h, aVal l]) rfl (by kernel_rfl) (by kernel_rfl) (by kernel_rfl) (fun _ _ _ h => h) (Or.inl ⟨by rfl, fun _ _ => by go_simp⟩) hHeld ?_
            simp only [List.getElem_toArray, List.getElem_cons_zero, List.getElem_cons_succ, Act.put, List.setIfInBounds_toArray, List.set_cons_zero, List.set_cons_succ]
            refine wpAnyH_take (i := 5) (v := aVal h) rfl (by kernel_rfl) (by kernel_rfl) (by kernel_rfl) (fun _ _ _ h => h) (Or.inl ⟨by rfl, fun _ _ => by go_simp⟩) hHeld ?_
            simp only [List.getElem_toArray, List.getElem_cons_zero, List.getElem_cons_succ, Act.put, List.setIfInBounds_toArray, List.set_cons_zero, List.set_cons_succ]
            refine wpAnyH_take (i := 6) (v := aVal l) rfl (by kernel_rfl) (by kernel_rfl) (by kernel_rfl) (fun _ _ _ h => h) (Or.inl ⟨by rfl, fun _ _ => by go_simp⟩) hHeld ?_
            simp only [List.getElem_toArray, List.getElem_cons_zero, List.getElem_cons_succ, Act.put, List.setIfInBounds_toArray, List.set_cons_zero, List.set_cons_succ]
            refine wpAnyH_ready (rs := [9]) (by kernel_rfl) (by simp) ?_
            refine AllReadyH.cons rfl (fun K hK => ?_) AllReadyH.nil
            simp only [List.getElem_toArray, List.getElem_cons_zero, List.getElem_cons_succ]
            obtain ⟨z0, z1, z2, z3, z4, z5, z6, z7, z8, z9, z10⟩ := zh.cells
            have zf := zh.free
            go_simp
            obtain ⟨W5, hN, dh, bW5, tn⟩ := a_stored zh bW4 (show Vb.heap.size ≤ Xh from hbh) (h 0) (h 1) (h 2) (h 3) (h 4) (h 5) (h 6) (h 7) (h 8) (h 9) (h 10)
            rw [← hN]
            clear hN z0 z1 z2 z3 z4 z5 z6 z7 z8 z9 z10 zf
            have zl := zl.turned tn hne
            have A2 := A2.turned tn (by omega)
            have k2 : kBlock W5 Kb _ _ _ := (tn.block Kb (by omega)).trans k2
            refine hK.out _ _ bW5 (fun hHeld => ?_)
            clear hK K
            refine wpAnyH_ready (rs := [10]) (by kernel_rfl) (by simp) ?_
            refine AllReadyH.cons rfl (fun K hK => ?_) AllReadyH.nil
            simp only [List.getElem_toArray, List.getElem_cons_zero, List.getElem_cons_succ]
            obtain ⟨z0, z1, z2, z3, z4, z5, z6, z7, z8, z9, z10⟩ := zl.cells
            have zf := zl.free
            go_simp
            obtain ⟨W6, hN, dl, bW6, tn⟩ := a_stored zl bW5 (show Vb.heap.size ≤ Xl from hbl) (l 0) (l 1) (l 2) (l 3) (l 4) (l 5) (l 6) (l 7) (l 8) (l 9) (l 10)
            rw [← hN]
            clear hN z0 z1 z2 z3 z4 z5 z6 z7 z8 z9 z10 zf
            have dh := dh.turned tn hne.symm
            have A2 := A2.turned tn (by omega)
            have k2 : kBlock W6 Kb _ _ _ := (tn.block Kb (by omega)).trans k2
            refine hK.out _ _ bW6 (fun hHeld => ?_)
            clear hK K
            refine wpAnyH_done (by kernel_rfl) ?_ _
            go_wp2_with fail
            go_meet
            exact ⟨Xh, Xl, rfl, rfl, veil ⟨A2, k2, dh.ext (below11 rfl rfl rfl rfl rfl rfl rfl rfl rfl rfl rfl), dl.ext (below11 rfl rfl rfl rfl rfl rfl rfl rfl rfl rfl rfl), Below.next B2 bW6⟩⟩
        · simp only [List.getElem_toArray, List.getElem_cons_zero, List.getElem_cons_succ]
          go_simp
          obtain ⟨W2, hN, zl, bn⟩ : ∃ W, W = W1.alloc (.cells #[.int .i64 0, .int .i64 0, .int .i64 0, .int .i64 0, .int .i64 0, .int .i64 0, .int .i64 0, .int .i64 0, .int .i64 0, .int .i64 0, .int .i64 0] 27) ∧ aBlock W W1.heap.size (fun _ => 0) ∧ Below W1.heap.size W1 W := ⟨_, rfl, aBlock.new W1 (fun _ => 0), below1 _ _⟩
          rw [← hN]
          clear hN
          obtain ⟨Xl, hXl⟩ : ∃ X, X = W1.heap.size := ⟨_, rfl⟩
          have hll : w.heap.size < Xl := by rw [hXl]; exact A2.lt
          have hkl : Kb < Xl := by rw [hXl]; exact k2.lt
          rw [← hXl] at zl ⊢
          have hbl : Vb.heap.size ≤ Xl := by rw [hXl]; exact bW1.size
          first | (have hne : Xl ≠ Xh := by have := zh.lt; omega) | skip
          clear hXl
          have bW2 := Below.next bW1 bn
          have A2 := A2.next bn
          have k2 := k2.next bn
          clear bn
          refine hK.out _ _ bW2 (fun hHeld => ?_)
          clear hK K
          refine wpAnyH_ready (rs := [3, 7]) (by kernel_rfl) (by simp) ?_
          refine AllReadyH.cons rfl (fun K hK => ?_) (AllReadyH.cons rfl (fun K hK => ?_) AllReadyH.nil)
          · simp only [List.getElem_toArray, List.getElem_cons_zero, List.getElem_cons_succ]
            go_simp
            refine (unveil HC3 W2).mono ?_
            rintro e W3 ⟨rfl, bn⟩
            have bW3 := Below.next bW2 bn
            have A2 := A2.next bn
            have k2 := k2.next bn
            have zl := zl.next bn
            clear bn
            refine hK.out _ _ bW3 (fun hHeld => ?_)
            clear hK K
            refine wpAnyH_take (i := 4) (v := .tuple #[aVal h, aVal l]) rfl (by kernel_rfl) (by kernel_rfl) (by kernel_rfl) (fun _ _ _ h => h) (Or.inl ⟨by rfl, fun _ _ => by go_simp⟩) hHeld ?_
            simp only [List.getElem_toArray, List.getElem_cons_zero, List.getElem_cons_succ, Act.put, List.setIfInBounds_toArray, List.set_cons_zero, List.set_cons_succ]
            refine wpAnyH_take (i := 5) (v := aVal h) rfl (by kernel_rfl) (by kernel_rfl) (by kernel_rfl) (fun _ _ _ h => h) (Or.inl ⟨by rfl, fun _ _ => by go_simp⟩) hHeld ?_
            simp only [List.getElem_toArray, List.getElem_cons_zero, List.getElem_cons_succ, Act.put, List.setIfInBounds_toArray, List.set_cons_zero, List.set_cons_succ]
            refine wpAnyH_take (i := 6) (v := aVal l) rfl (by kernel_rfl) (by kernel_rfl) (by kernel_rfl) (fun _ _ _ h => h) (Or.inl ⟨by rfl, fun _ _ => by go_simp⟩) hHeld ?_
            simp only [List.getElem_toArray, List.getElem_cons_zero, List.getElem_cons_succ, Act.put, List.setIfInBounds_toArray, List.set_cons_zero, List.set_cons_succ]
            refine wpAnyH_ready (rs := [7]) (by kernel_rfl) (by simp) ?_
            refine AllReadyH.cons rfl (fun K hK => ?_) AllReadyH.nil
            simp only [List.getElem_toArray, List.getElem_cons_zero, List.getElem_cons_succ]
            go_simp
            obtain ⟨W4, hN, zh, bn⟩ : ∃ W, W = W3.alloc (.cells #[.int .i64 0, .int .i64 0, .int .i64 0, .int .i64 0, .int .i64 0, .int .i64 0, .int .i64 0, .int .i64 0, .int .i64 0, .int .i64 0, .int .i64 0] 27) ∧ aBlock W W3.heap.size (fun _ => 0) ∧ Below W3.heap.size W3 W := ⟨_, rfl, aBlock.new W3 (fun _ => 0), below1 _ _⟩
            rw [← hN]
            clear hN
            obtain ⟨Xh, hXh⟩ : ∃ X, X = W3.heap.size := ⟨_, rfl⟩
            have hlh : w.heap.size < Xh := by rw [hXh]; exact A2.lt
            have hkh : Kb < Xh := by rw [hXh]; exact k2.lt
            rw [← hXh] at zh ⊢
            have hbh : Vb.heap.size ≤ Xh := by rw [hXh]; exact bW3.size
            first | (have hne : Xl ≠ Xh := by have := zl.lt; omega) | skip
            clear hXh
            have bW4 := Below.next bW3 bn
            have A2 := A2.next bn
            have k2 := k2.next bn
            have zl := zl.next bn
            clear bn
            refine hK.out _ _ bW4 (fun hHeld => ?_)
            clear hK K
            refine wpAnyH_ready (rs := [9]) (by kernel_rfl) (by simp) ?_
            refine AllReadyH.cons rfl (fun K hK => ?_) AllReadyH.nil
            simp only [List.getElem_toArray, List.getElem_cons_zero, List.getElem_cons_succ]
            obtain ⟨z0, z1, z2, z3, z4, z5, z6, z7, z8, z9, z10⟩ := zh.cells
            have zf := zh.free
            go_simp
            obtain ⟨W5, hN, dh, bW5, tn⟩ := a_stored zh bW4 (show Vb.heap.size ≤ Xh from hbh) (h 0) (h 1) (h 2) (h 3) (h 4) (h 5) (h 6) (h 7) (h 8) (h 9) (h 10)
            rw [← hN]
            clear hN z0 z1 z2 z3 z4 z5 z6 z7 z8 z9 z10 zf
            have zl := zl.turned tn hne
            have A2 := A2.turned tn (by omega)
            have k2 : kBlock W5 Kb _ _ _ := (tn.block Kb (by omega)).trans k2
            refine hK.out _ _ bW5 (fun hHeld => ?_)
            clear hK K
            refine wpAnyH_ready (rs := [10]) (by kernel_rfl) (by simp) ?_
            refine AllReadyH.cons rfl (fun K hK => ?_) AllReadyH.nil
            simp only [List.getElem_toArray, List.getElem_cons_zero, List.getElem_cons_succ]
            obtain ⟨z0, z1, z2, z3, z4, z5, z6, z7, z8, z9, z10⟩ := zl.cells
            have zf := zl.free
            go_simp
            obtain ⟨W6, hN, dl, bW6, tn⟩ := a_stored zl bW5 (show Vb.heap.size ≤ Xl from hbl) (l 0) (l 1) (l 2) (l 3) (l 4) (l 5) (l 6) (l 7) (l 8) (l 9) (l 10)
            rw [← hN]
            clear hN z0 z1 z2 z3 z4 z5 z6 z7 z8 z9 z10 zf
            have dh := dh.turned tn hne.symm
            have A2 := A2.turned tn (by omega)
            have k2 : kBlock W6 Kb _ _ _ := (tn.block Kb (by omega)).trans k2
            refine hK.out _ _ bW6 (fun hHeld => ?_)
            clear hK K
            refine wpAnyH_done (by kernel_rfl) ?_ _
            go_wp2_with fail
            go_meet
            exact ⟨Xh, Xl, rfl, rfl, veil ⟨A2, k2, dh.ext (below11 rfl rfl rfl rfl rfl rfl rfl rfl rfl rfl rfl), dl.ext (below11 rfl rfl rfl rfl rfl rfl rfl rfl rfl rfl rfl), Below.next B2 bW6⟩⟩
          · simp only [List.getElem_toArray, List.getElem_cons_zero, List.getElem_cons_succ]
            go_simp
            obtain ⟨W3, hN, zh, bn⟩ : ∃ W, W = W2.alloc (.cells #[.int .i64 0, .int .i64 0, .int .i64 0, .int .i64 0, .int .i64 0, .int .i64 0, .int .i64 0, .int .i64 0, .int .i64 0, .int .i64 0, .int .i64 0] 27) ∧ aBlock W W2.heap.size (fun _ => 0) ∧ Below W2.heap.size W2 W := ⟨_, rfl, aBlock.new W2 (fun _ => 0), below1 _ _⟩
            rw [← hN]
            clear hN
            obtain ⟨Xh, hXh⟩ : ∃ X, X = W2.heap.size := ⟨_, rfl⟩
            have hlh : w.heap.size < Xh := by rw [hXh]; exact A2.lt
            have hkh : Kb < Xh := by rw [hXh]; exact k2.lt
            rw [← hXh] at zh ⊢
            have hbh : Vb.heap.size ≤ Xh := by rw [hXh]; exact bW2.size
            first | (have hne : Xl ≠ Xh := by have := zl.lt; omega) | skip
            clear hXh
            have bW3 := Below.next bW2 bn
            have A2 := A2.next bn
            have k2 := k2.next bn
            have zl := zl.next bn
            clear bn
            refine hK.out _ _ bW3 (fun hHeld => ?_)
            clear hK K
            refine wpAnyH_ready (rs := [3]) (by kernel_rfl) (by simp) ?_
            refine AllReadyH.cons rfl (fun K hK => ?_) AllReadyH.nil
            simp only [List.getElem_toArray, List.getElem_cons_zero, List.getElem_cons_succ]
            go_simp
            refine (unveil HC3 W3).mono ?_
            rintro e W4 ⟨rfl, bn⟩
            have bW4 := Below.next bW3 bn
            have A2 := A2.next bn
            have k2 := k2.next bn
            have zh := zh.next bn
            have zl := zl.next bn
            clear bn
            refine hK.out _ _ bW4 (fun hHeld => ?_)
            clear hK K
            refine wpAnyH_take (i := 4) (v := .tuple #[aVal h, aVal l]) rfl (by kernel_rfl) (by kernel_rfl) (by kernel_rfl) (fun _ _ _ h => h) (Or.inl ⟨by rfl, fun _ _ => by go_simp⟩) hHeld ?_
            simp only [List.getElem_toArray, List.getElem_cons_zero, List.getElem_cons_succ, Act.put, List.setIfInBounds_toArray, List.set_cons_zero, List.set_cons_succ]
            refine wpAnyH_take (i := 5) (v := aVal h) rfl (by kernel_rfl) (by kernel_rfl) (by kernel_rfl) (fun _ _ _ h => h) (Or.inl ⟨by rfl, fun _ _ => by go_simp⟩) hHeld ?_
            simp only [List.getElem_toArray, List.getElem_cons_zero, List.getElem_cons_succ, Act.put, List.setIfInBounds_toArray, List.set_cons_zero, List.set_cons_succ]
            refine wpAnyH_take (i := 6) (v := aVal l) rfl (by kernel_rfl) (by kernel_rfl) (by kernel_rfl) (fun _ _ _ h => h) (Or.inl ⟨by rfl, fun _ _ => by go_simp⟩) hHeld ?_
            simp only [List.getElem_toArray, List.getElem_cons_zero, List.getElem_cons_succ, Act.put, List.setIfInBounds_toArray, List.set_cons_zero, List.set_cons_succ]
            refine wpAnyH_ready (rs := [9]) (by kernel_rfl) (by simp) ?_
            refine AllReadyH.cons rfl (fun K hK => ?_) AllReadyH.nil
            simp only [List.getElem_toArray, List.getElem_cons_zero, List.getElem_cons_succ]
            obtain ⟨z0, z1, z2, z3, z4, z5, z6, z7, z8, z9, z10⟩ := zh.cells
            have zf := zh.free
            go_simp
            obtain ⟨W5, hN, dh, bW5, tn⟩ := a_stored zh bW4 (show Vb.heap.size ≤ Xh from hbh) (h 0) (h 1) (h 2) (h 3) (h 4) (h 5) (h 6) (h 7) (h 8) (h 9) (h 10)
            rw [← hN]
            clear hN z0 z1 z2 z3 z4 z5 z6 z7 z8 z9 z10 zf
            have zl := zl.turned tn hne
            have A2 := A2.turned tn (by omega)
            have k2 : kBlock W5 Kb _ _ _ := (tn.block Kb (by omega)).trans k2
            refine hK.out _ _ bW5 (fun hHeld => ?_)
            clear hK K
            refine wpAnyH_ready (rs := [10]) (by kernel_rfl) (by simp) ?_
            refine AllReadyH.cons rfl (fun K hK => ?_) AllReadyH.nil
            simp only [List.getElem_toArray, List.getElem_cons_zero, List.getElem_cons_succ]
            obtain ⟨z0, z1, z2, z3, z4, z5, z6, z7, z8, z9, z10⟩ := zl.cells
            have zf := zl.free
            go_simp
            obtain ⟨W6, hN, dl, bW6, tn⟩ := a_stored zl bW5 (show Vb.heap.size ≤ Xl from hbl) (l 0) (l 1) (l 2) (l 3) (l 4) (l 5) (l 6) (l 7) (l 8) (l 9) (l 10)
            rw [← hN]
            clear hN z0 z1 z2 z3 z4 z5 z6 z7 z8 z9 z10 zf
            have dh := dh.turned tn hne.symm
            have A2 := A2.turned tn (by omega)
            have k2 : kBlock W6 Kb _ _ _ := (tn.block Kb (by omega)).trans k2
            refine hK.out _ _ bW6 (fun hHeld => ?_)
            clear hK K
            refine wpAnyH_done (by kernel_rfl) ?_ _
            go_wp2_with fail
            go_meet
            exact ⟨Xh, Xl, rfl, rfl, veil ⟨A2, k2, dh.ext (below11 rfl rfl rfl rfl rfl rfl rfl rfl rfl rfl rfl), dl.ext (below11 rfl rfl rfl rfl rfl rfl rfl rfl rfl rfl rfl), Below.next B2 bW6⟩⟩
      · simp only [List.getElem_toArray, List.getElem_cons_zero, List.getElem_cons_succ]
        go_simp
        obtain ⟨W1, hN, zh, bn⟩ : ∃ W, W = W0.alloc (.cells #[.int .i64 0, .int .i64 0, .int .i64 0, .int .i64 0, .int .i64 0, .int .i64 0, .int .i64 0, .int .i64 0, .int .i64 0, .int .i64 0, .int .i64 0] 27) ∧ aBlock W W0.heap.size (fun _ => 0) ∧ Below W0.heap.size W0 W := ⟨_, rfl, aBlock.new W0 (fun _ => 0), below1 _ _⟩
        rw [← hN]
        clear hN
        obtain ⟨Xh, hXh⟩ : ∃ X, X = W0.heap.size := ⟨_, rfl⟩
        have hlh : w.heap.size < Xh := by rw [hXh]; exact A2.lt
        have hkh : Kb < Xh := by rw [hXh]; exact k2.lt
        rw [← hXh] at zh ⊢
        have hbh : Vb.heap.size ≤ Xh := by rw [hXh]; exact bW0.size
        first | (have hne : Xl ≠ Xh := by have := zl.lt; omega) | skip
        clear hXh
        have bW1 := Below.next bW0 bn
        have A2 := A2.next bn
        have k2 := k2.next bn
        clear bn
        refine hK.out _ _ bW1 (fun hHeld => ?_)
        clear hK K
        refine wpAnyH_ready (rs := [2, 8]) (by kernel_rfl) (by simp) ?_
        refine AllReadyH.cons rfl (fun K hK => ?_) (AllReadyH.cons rfl (fun K hK => ?_) AllReadyH.nil)
        · simp only [List.getElem_toArray, List.getElem_cons_zero, List.getElem_cons_succ]
          go_simp
          refine (unveil HC2 W1).mono ?_
          rintro e W2 ⟨rfl, bn⟩
          have bW2 := Below.next bW1 bn
          have A2 := A2.next bn
          have k2 := k2.next bn
          have zh := zh.next bn
          clear bn
          refine hK.out _ _ bW2 (fun hHeld => ?_)
          clear hK K
          refine wpAnyH_ready (rs := [3, 8]) (by kernel_rfl) (by simp) ?_
          refine AllReadyH.cons rfl (fun K hK => ?_) (AllReadyH.cons rfl (fun K hK => ?_) AllReadyH.nil)
          · simp only [List.getElem_toArray, List.getElem_cons_zero, List.getElem_cons_succ]
            go_simp
            refine (unveil HC3 W2).mono ?_
            rintro e W3 ⟨rfl, bn⟩
            have bW3 := Below.next bW2 bn
            have A2 := A2.next bn
            have k2 := k2.next bn
            have zh := zh.next bn
            clear bn
            refine hK.out _ _ bW3 (fun hHeld => ?_)
            clear hK K
            refine wpAnyH_take (i := 4) (v := .tuple #[aVal h, aVal l]) rfl (by kernel_rfl) (by kernel_rfl) (by kernel_rfl) (fun _ _ _ h => h) (Or.inl ⟨by rfl, fun _ _ => by go_simp⟩) hHeld ?_
            simp only [List.getElem_toArray, List.getElem_cons_zero, List.getElem_cons_succ, Act.put, List.setIfInBounds_toArray, List.set_cons_zero, List.set_cons_succ]
            refine wpAnyH_take (i := 5) (v := aVal h) rfl (by kernel_rfl) (by kernel_rfl) (by kernel_rfl) (fun _ _ _ h => h) (Or.inl ⟨by rfl, fun _ _ => by go_simp⟩) hHeld ?_
            simp only [List.getElem_toArray, List.getElem_cons_zero, List.getElem_cons_succ, Act.put, List.setIfInBounds_toArray, List.set_cons_zero, List.set_cons_succ]
            refine wpAnyH_take (i := 6) (v := aVal l) rfl (by kernel_rfl) (by kernel_rfl) (by kernel_rfl) (fun _ _ _ h => h) (Or.inl ⟨by rfl, fun _ _ => by go_simp⟩) hHeld ?_
            simp only [List.getElem_toArray, List.getElem_cons_zero, List.getElem_cons_succ, Act.put, List.setIfInBounds_toArray, List.set_cons_zero, List.set_cons_succ]
            refine wpAnyH_ready (rs := [8]) (by kernel_rfl) (by simp) ?_
            refine AllReadyH.cons rfl (fun K hK => ?_) AllReadyH.nil
            simp only [List.getElem_toArray, List.getElem_cons_zero, List.getElem_cons_succ]
            go_simp
            obtain ⟨W4, hN, zl, bn⟩ : ∃ W, W = W3.alloc (.cells #[.int .i64 0, .int .i64 0, .int .i64 0, .int .i64 0, .int .i64 0, .int .i64 0, .int .i64 0, .int .i64 0, .int .i64 0, .int .i64 0, .int .i64 0] 27) ∧ aBlock W W3.heap.size (fun _ => 0) ∧ Below W3.heap.size W3 W := ⟨_, rfl, aBlock.new W3 (fun _ => 0), below1 _ _⟩
            rw [← hN]
            clear hN
            obtain ⟨Xl, hXl⟩ : ∃ X, X = W3.heap.size := ⟨_, rfl⟩
            have hll : w.heap.size < Xl := by rw [hXl]; exact A2.lt
            have hkl : Kb < Xl := by rw [hXl]; exact k2.lt
            rw [← hXl] at zl ⊢
            have hbl : Vb.heap.size ≤ Xl := by rw [hXl]; exact bW3.size
            first | (have hne : Xl ≠ Xh := by have := zh.lt; omega) | skip
            clear hXl
            have bW4 := Below.next bW3 bn
            have A2 := A2.next bn
            have k2 := k2.next bn
            have zh := zh.next bn
            clear bn
            refine hK.out _ _ bW4 (fun hHeld => ?_)
            clear hK K
            refine wpAnyH_ready (rs := [9]) (by kernel_rfl) (by simp) ?_
            refine AllReadyH.cons rfl (fun K hK => ?_) AllReadyH.nil
            simp only [List.getElem_toArray, List.getElem_cons_zero, List.getElem_cons_succ]
            obtain ⟨z0, z1, z2, z3, z4, z5, z6, z7, z8, z9, z10⟩ := zh.cells
            have zf := zh.free
            go_simp
            obtain ⟨W5, hN, dh, bW5, tn⟩ := a_stored zh bW4 (show Vb.heap.size ≤ Xh from hbh) (h 0) (h 1) (h 2) (h 3) (h 4) (h 5) (h 6) (h 7) (h 8) (h 9) (h 10)
            rw [← hN]
            clear hN z0 z1 z2 z3 z4 z5 z6 z7 z8 z9 z10 zf
            have zl := zl.turned tn hne
            have A2 := A2.turned tn (by omega)
            have k2 : kBlock W5 Kb _ _ _ := (tn.block Kb (by omega)).trans k2
            refine hK.out _ _ bW5 (fun hHeld => ?_)
            clear hK K
            refine wpAnyH_ready (rs := [10]) (by kernel_rfl) (by simp) ?_
            refine AllReadyH.cons rfl (fun K hK => ?_) AllReadyH.nil
            simp only [List.getElem_toArray, List.getElem_cons_zero, List.getElem_cons_succ]
            obtain ⟨z0, z1, z2, z3, z4, z5, z6, z7, z8, z9, z10⟩ := zl.cells
            have zf := zl.free
            go_simp
            obtain ⟨W6, hN, dl, bW6, tn⟩ := a_stored zl bW5 (show Vb.heap.size ≤ Xl from hbl) (l 0) (l 1) (l 2) (l 3) (l 4) (l 5) (l 6) (l 7) (l 8) (l 9) (l 10)
            rw [← hN]
            clear hN z0 z1 z2 z3 z4 z5 z6 z7 z8 z9 z10 zf
            have dh := dh.turned tn hne.symm
            have A2 := A2.turned tn (by omega)
            have k2 : kBlock W6 Kb _ _ _ := (tn.block Kb (by omega)).trans k2
            refine hK.out _ _ bW6 (fun hHeld => ?_)
            clear hK K
            refine wpAnyH_done (by kernel_rfl) ?_ _
            go_wp2_with fail
            go_meet
            exact ⟨Xh, Xl, rfl, rfl, veil ⟨A2, k2, dh.ext (below11 rfl rfl rfl rfl rfl rfl rfl rfl rfl rfl rfl), dl.ext (below11 rfl rfl rfl rfl rfl rfl rfl rfl rfl rfl rfl), Below.next B2 bW6⟩⟩
          · simp only [List.getElem_toArray, List.getElem_cons_zero, List.getElem_cons_succ]
            go_simp
            obtain ⟨W3, hN, zl, bn⟩ : ∃ W, W = W2.alloc (.cells #[.int .i64 0, .int .i64 0, .int .i64 0, .int .i64 0, .int .i64 0, .int .i64 0, .int .i64 0, .int .i64 0, .int .i64 0, .int .i64 0, .int .i64 0] 27) ∧ aBlock W W2.heap.size (fun _ => 0) ∧ Below W2.heap.size W2 W := ⟨_, rfl, aBlock.new W2 (fun _ => 0), below1 _ _⟩
            rw [← hN]
            clear hN
            obtain ⟨Xl, hXl⟩ : ∃ X, X = W2.heap.size := ⟨_, rfl⟩
            have hll : w.heap.size < Xl := by rw [hXl]; exact A2.lt
            have hkl : Kb < Xl := by rw [hXl]; exact k2.lt
            rw [← hXl] at zl ⊢
            have hbl : Vb.heap.size ≤ Xl := by rw [hXl]; exact bW2.size
            first | (have hne : Xl ≠ Xh := by have := zh.lt; omega) | skip
            clear hXl
            have bW3 := Below.next bW2 bn
            have A2 := A2.next bn
            have k2 := k2.next bn
            have zh := zh.next bn
            clear bn
            refine hK.out _ _ bW3 (fun hHeld => ?_)
            clear hK K
            refine wpAnyH_ready (rs := [3]) (by kernel_rfl) (by simp) ?_
            refine AllReadyH.cons rfl (fun K hK => ?_) AllReadyH.nil
            simp only [List.getElem_toArray, List.getElem_cons_zero, List.getElem_cons_succ]
            go_simp
            refine (unveil HC3 W3).mono ?_
            rintro e W4 ⟨rfl, bn⟩
            have bW4 := Below.next bW3 bn
            have A2 := A2.next bn
            have k2 := k2.next bn
            have zh := zh.next bn
            have zl := zl.next bn
            clear bn
            refine hK.out _ _ bW4 (fun hHeld => ?_)
            clear hK K
            refine wpAnyH_take (i := 4) (v := .tuple #[aVal h, aVal l]) rfl (by kernel_rfl) (by kernel_rfl) (by kernel_rfl) (fun _ _ _ h => h) (Or.inl ⟨by rfl, fun _ _ => by go_simp⟩) hHeld ?_
            simp only [List.getElem_toArray, List.getElem_cons_zero, List.getElem_cons_succ, Act.put, List.setIfInBounds_toArray, List.set_cons_zero, List.set_cons_succ]
            refine wpAnyH_take (i := 5) (v := aVal h) rfl (by kernel_rfl) (by kernel_rfl) (by kernel_rfl) (fun _ _ _ h => h) (Or.inl ⟨by rfl, fun _ _ => by go_simp⟩) hHeld ?_
            simp only [List.getElem_toArray, List.getElem_cons_zero, List.getElem_cons_succ, Act.put, List.setIfInBounds_toArray, List.set_cons_zero, List.set_cons_succ]
            refine wpAnyH_take (i := 6) (v := aVal l) rfl (by kernel_rfl) (by kernel_rfl) (by kernel_rfl) (fun _ _ _ h => h) (Or.inl ⟨by rfl, fun _ _ => by go_simp⟩) hHeld ?_
            simp only [List.getElem_toArray, List.getElem_cons_zero, List.getElem_cons_succ, Act.put, List.setIfInBounds_toArray, List.set_cons_zero, List.set_cons_succ]
            refine wpAnyH_ready (rs := [9]) (by kernel_rfl) (by simp) ?_
            refine AllReadyH.cons rfl (fun K hK => ?_) AllReadyH.nil
            simp only [List.getElem_toArray, List.getElem_cons_zero, List.getElem_cons_succ]
            obtain ⟨z0, z1, z2, z3, z4, z5, z6, z7, z8, z9, z10⟩ := zh.cells
            have zf := zh.free
            go_simp
            obtain ⟨W5, hN, dh, bW5, tn⟩ := a_stored zh bW4 (show Vb.heap.size ≤ Xh from hbh) (h 0) (h 1) (h 2) (h 3) (h 4) (h 5) (h 6) (h 7) (h 8) (h 9) (h 10)
            rw [← hN]
            clear hN z0 z1 z2 z3 z4 z5 z6 z7 z8 z9 z10 zf
            have zl := zl.turned tn hne
            have A2 := A2.turned tn (by omega)
            have k2 : kBlock W5 Kb _ _ _ := (tn.block Kb (by omega)).trans k2
            refine hK.out _ _ bW5 (fun hHeld => ?_)
            clear hK K
            refine wpAnyH_ready (rs := [10]) (by kernel_rfl) (by simp) ?_
            refine AllReadyH.cons rfl (fun K hK => ?_) AllReadyH.nil
            simp only [List.getElem_toArray, List.getElem_cons_zero, List.getElem_cons_succ]
            obtain ⟨z0, z1, z2, z3, z4, z5, z6, z7, z8, z9, z10⟩ := zl.cells
            have zf := zl.free
            go_simp
            obtain ⟨W6, hN, dl, bW6, tn⟩ := a_stored zl bW5 (show Vb.heap.size ≤ Xl from hbl) (l 0) (l 1) (l 2) (l 3) (l 4) (l 5) (l 6) (l 7) (l 8) (l 9) (l 10)
            rw [← hN]
            clear hN z0 z1 z2 z3 z4 z5 z6 z7 z8 z9 z10 zf
            have dh := dh.turned tn hne.symm
            have A2 := A2.turned tn (by omega)
            have k2 : kBlock W6 Kb _ _ _ := (tn.block Kb (by omega)).trans k2
            refine hK.out _ _ bW6 (fun hHeld => ?_)
            clear hK K
            refine wpAnyH_done (by kernel_rfl) ?_ _
            go_wp2_with fail
            go_meet
            exact ⟨Xh, Xl, rfl, rfl, veil ⟨A2, k2, dh.ext (below11 rfl rfl rfl rfl rfl rfl rfl rfl rfl rfl rfl), dl.ext (below11 rfl rfl rfl rfl rfl rfl rfl rfl rfl rfl rfl), Below.next B2 bW6⟩⟩
        · simp only [List.getElem_toArray, List.getElem_cons_zero, List.getElem_cons_succ]
          go_simp
          obtain ⟨W2, hN, zl, bn⟩ : ∃ W, W = W1.alloc (.cells #[.int .i64 0, .int .i64 0, .int .i64 0, .int .i64 0, .int .i64 0, .int .i64 0, .int .i64 0, .int .i64 0, .int .i64 0, .int .i64 0, .int .i64 0] 27) ∧ aBlock W W1.heap.size (fun _ => 0) ∧ Below W1.heap.size W1 W := ⟨_, rfl, aBlock.new W1 (fun _ => 0), below1 _ _⟩
          rw [← hN]
          clear hN
          obtain ⟨Xl, hXl⟩ : ∃ X, X = W1.heap.size := ⟨_, rfl⟩
          have hll : w.heap.size < Xl := by rw [hXl]; exact A2.lt
          have hkl : Kb < Xl := by rw [hXl]; exact k2.lt
          rw [← hXl] at zl ⊢
          have hbl : Vb.heap.size ≤ Xl := by rw [hXl]; exact bW1.size
          first | (have hne : Xl ≠ Xh := by have := zh.lt; omega) | skip
          clear hXl
          have bW2 := Below.next bW1 bn
          have A2 := A2.next bn
          have k2 := k2.next bn
          have zh := zh.next bn
          clear bn
          refine hK.out _ _ bW2 (fun hHeld => ?_)
          clear hK K
          refine wpAnyH_ready (rs := [2]) (by kernel_rfl) (by simp) ?_
          refine AllReadyH.cons rfl (fun K hK => ?_) AllReadyH.nil
          simp only [List.getElem_toArray, List.getElem_cons_zero, List.getElem_cons_succ]
          go_simp
          refine (unveil HC2 W2).mono ?_
          rintro e W3 ⟨rfl, bn⟩
          have bW3 := Below.next bW2 bn
          have A2 := A2.next bn
          have k2 := k2.next bn
          have zh := zh.next bn
          have zl := zl.next bn
          clear bn
          refine hK.out _ _ bW3 (fun hHeld => ?_)
          clear hK K
          refine wpAnyH_ready (rs := [3]) (by kernel_rfl) (by simp) ?_
          refine AllReadyH.cons rfl (fun K hK => ?_) AllReadyH.nil
          simp only [List.getElem_toArray, List.getElem_cons_zero, List.getElem_cons_succ]
          go_simp
          refine (unveil HC3 W3).mono ?_
          rintro e W4 ⟨rfl, bn⟩
          have bW4 := Below.next bW3 bn
          have A2 := A2.next bn
          have k2 := k2.next bn
          have zh := zh.next bn
          have zl := zl.next bn
          clear bn
          refine hK.out _ _ bW4 (fun hHeld => ?_)
          clear hK K
          refine wpAnyH_take (i := 4) (v := .tuple #[aVal h, aVal l]) rfl (by kernel_rfl) (by kernel_rfl) (by kernel_rfl) (fun _ _ _ h => h) (Or.inl ⟨by rfl, fun _ _ => by go_simp⟩) hHeld ?_
          simp only [List.getElem_toArray, List.getElem_cons_zero, List.getElem_cons_succ, Act.put, List.setIfInBounds_toArray, List.set_cons_zero, List.set_cons_succ]
          refine wpAnyH_take (i := 5) (v := aVal h) rfl (by kernel_rfl) (by kernel_rfl) (by kernel_rfl) (fun _ _ _ h => h) (Or.inl ⟨by rfl, fun _ _ => by go_simp⟩) hHeld ?_
          simp only [List.getElem_toArray, List.getElem_cons_zero, List.getElem_cons_succ, Act.put, List.setIfInBounds_toArray, List.set_cons_zero, List.set_cons_succ]
          refine wpAnyH_take (i := 6) (v := aVal l) rfl (by kernel_rfl) (by kernel_rfl) (by kernel_rfl) (fun _ _ _ h => h) (Or.inl ⟨by rfl, fun _ _ => by go_simp⟩) hHeld ?_
          simp only [List.getElem_toArray, List.getElem_cons_zero, List.getElem_cons_succ, Act.put, List.setIfInBounds_toArray, List.set_cons_zero, List.set_cons_succ]
          refine wpAnyH_ready (rs := [9]) (by kernel_rfl) (by simp) ?_
          refine AllReadyH.cons rfl (fun K hK => ?_) AllReadyH.nil
          simp only [List.getElem_toArray, List.getElem_cons_zero, List.getElem_cons_succ]
          obtain ⟨z0, z1, z2, z3, z4, z5, z6, z7, z8, z9, z10⟩ := zh.cells
          have zf := zh.free
          go_simp
          obtain ⟨W5, hN, dh, bW5, tn⟩ := a_stored zh bW4 (show Vb.heap.size ≤ Xh from hbh) (h 0) (h 1) (h 2) (h 3) (h 4) (h 5) (h 6) (h 7) (h 8) (h 9) (h 10)
          rw [← hN]
          clear hN z0 z1 z2 z3 z4 z5 z6 z7 z8 z9 z10 zf
          have zl := zl.turned tn hne
          have A2 := A2.turned tn (by omega)
          have k2 : kBlock W5 Kb _ _ _ := (tn.block Kb (by omega)).trans k2
          refine hK.out _ _ bW5 (fun hHeld => ?_)
          clear hK K
          refine wpAnyH_ready (rs := [10]) (by kernel_rfl) (by simp) ?_
          refine AllReadyH.cons rfl (fun K hK => ?_) AllReadyH.nil
          simp only [List.getElem_toArray, List.getElem_cons_zero, List.getElem_cons_succ]
          obtain ⟨z0, z1, z2, z3, z4, z5, z6, z7, z8, z9, z10⟩ := zl.cells
          have zf := zl.free
          go_simp
          obtain ⟨W6, hN, dl, bW6, tn⟩ := a_stored zl bW5 (show Vb.heap.size ≤ Xl from hbl) (l 0) (l 1) (l 2) (l 3) (l 4) (l 5) (l 6) (l 7) (l 8) (l 9) (l 10)
          rw [← hN]
          clear hN z0 z1 z2 z3 z4 z5 z6 z7 z8 z9 z10 zf
          have dh := dh.turned tn hne.symm
          have A2 := A2.turned tn (by omega)
          have k2 : kBlock W6 Kb _ _ _ := (tn.block Kb (by omega)).trans k2
          refine hK.out _ _ bW6 (fun hHeld => ?_)
          clear hK K
          refine wpAnyH_done (by kernel_rfl) ?_ _
          go_wp2_with fail
          go_meet
          exact ⟨Xh, Xl, rfl, rfl, veil ⟨A2, k2, dh.ext (below11 rfl rfl rfl rfl rfl rfl rfl rfl rfl rfl rfl), dl.ext (below11 rfl rfl rfl rfl rfl rfl rfl rfl rfl rfl rfl), Below.next B2 bW6⟩⟩
      · simp only [List.getElem_toArray, List.getElem_cons_zero, List.getElem_cons_succ]
        go_simp
        obtain ⟨W1, hN, zl, bn⟩ : ∃ W, W = W0.alloc (.cells #[.int .i64 0, .int .i64 0, .int .i64 0, .int .i64 0, .int .i64 0, .int .i64 0, .int .i64 0, .int .i64 0, .int .i64 0, .int .i64 0, .int .i64 0] 27) ∧ aBlock W W0.heap.size (fun _ => 0) ∧ Below W0.heap.size W0 W := ⟨_, rfl, aBlock.new W0 (fun _ => 0), below1 _ _⟩
        rw [← hN]
        clear hN
        obtain ⟨Xl, hXl⟩ : ∃ X, X = W0.heap.size := ⟨_, rfl⟩
        have hll : w.heap.size < Xl := by rw [hXl]; exact A2.lt
        have hkl : Kb < Xl := by rw [hXl]; exact k2.lt
        rw [← hXl] at zl ⊢
        have hbl : Vb.heap.size ≤ Xl := by rw [hXl]; exact bW0.size
        first | (have hne : Xl ≠ Xh := by have := zh.lt; omega) | skip
        clear hXl
        have bW1 := Below.next bW0 bn
        have A2 := A2.next bn
        have k2 := k2.next bn
        clear bn
        refine hK.out _ _ bW1 (fun hHeld => ?_)
        clear hK K
        refine wpAnyH_ready (rs := [2, 7]) (by kernel_rfl) (by simp) ?_
        refine AllReadyH.cons rfl (fun K hK => ?_) (AllReadyH.cons rfl (fun K hK => ?_) AllReadyH.nil)
        · simp only [List.getElem_toArray, List.getElem_cons_zero, List.getElem_cons_succ]
          go_simp
          refine (unveil HC2 W1).mono ?_
          rintro e W2 ⟨rfl, bn⟩
          have bW2 := Below.next bW1 bn
          have A2 := A2.next bn
          have k2 := k2.next bn
          have zl := zl.next bn
          clear bn
          refine hK.out _ _ bW2 (fun hHeld => ?_)
          clear hK K
          refine wpAnyH_ready (rs := [3, 7]) (by kernel_rfl) (by simp) ?_
          refine AllReadyH.cons rfl (fun K hK => ?_) (AllReadyH.cons rfl (fun K hK => ?_) AllReadyH.nil)
          · simp only [List.getElem_toArray, List.getElem_cons_zero, List.getElem_cons_succ]
            go_simp
            refine (unveil HC3 W2).mono ?_
            rintro e W3 ⟨rfl, bn⟩
            have bW3 := Below.next bW2 bn
            have A2 := A2.next bn
            have k2 := k2.next bn
            have zl := zl.next bn
            clear bn
            refine hK.out _ _ bW3 (fun hHeld => ?_)
            clear hK K
            refine wpAnyH_take (i := 4) (v := .tuple #[aVal h, aVal l]) rfl (by kernel_rfl) (by kernel_rfl) (by kernel_rfl) (fun _ _ _ h => h) (Or.inl ⟨by rfl, fun _ _ => by go_simp⟩) hHeld ?_
            simp only [List.getElem_toArray, List.getElem_cons_zero, List.getElem_cons_succ, Act.put, List.setIfInBounds_toArray, List.set_cons_zero, List.set_cons_succ]
            refine wpAnyH_take (i := 5) (v := aVal h) rfl (by kernel_rfl) (by kernel_rfl) (by kernel_rfl) (fun _ _ _ h => h) (Or.inl ⟨by rfl, fun _ _ => by go_simp⟩) hHeld ?_
            simp only [List.getElem_toArray, List.getElem_cons_zero, List.getElem_cons_succ, Act.put, List.setIfInBounds_toArray, List.set_cons_zero, List.set_cons_succ]
            refine wpAnyH_take (i := 6) (v := aVal l) rfl (by kernel_rfl) (by kernel_rfl) (by kernel_rfl) (fun _ _ _ h => h) (Or.inl ⟨by rfl, fun _ _ => by go_simp⟩) hHeld ?_
            simp only [List.getElem_toArray, List.getElem_cons_zero, List.getElem_cons_succ, Act.put, List.setIfInBounds_toArray, List.set_cons_zero, List.set_cons_succ]
            refine wpAnyH_ready (rs := [7]) (by kernel_rfl) (by simp) ?_
            refine AllReadyH.cons rfl (fun K hK => ?_) AllReadyH.nil
            simp only [List.getElem_toArray, List.getElem_cons_zero, List.getElem_cons_succ]
            go_simp
            obtain ⟨W4, hN, zh, bn⟩ : ∃ W, W = W3.alloc (.cells #[.int .i64 0, .int .i64 0, .int .i64 0, .int .i64 0, .int .i64 0, .int .i64 0, .int .i64 0, .int .i64 0, .int .i64 0, .int .i64 0, .int .i64 0] 27) ∧ aBlock W W3.heap.size (fun _ => 0) ∧ Below W3.heap.size W3 W := ⟨_, rfl, aBlock.new W3 (fun _ => 0), below1 _ _⟩
            rw [← hN]
            clear hN
            obtain ⟨Xh, hXh⟩ : ∃ X, X = W3.heap.size := ⟨_, rfl⟩
            have hlh : w.heap.size < Xh := by rw [hXh]; exact A2.lt
            have hkh : Kb < Xh := by rw [hXh]; exact k2.lt
            rw [← hXh] at zh ⊢
            have hbh : Vb.heap.size ≤ Xh := by rw [hXh]; exact bW3.size
            first | (have hne : Xl ≠ Xh := by have := zl.lt; omega) | skip
            clear hXh
            have bW4 := Below.next bW3 bn
            have A2 := A2.next bn
            have k2 := k2.next bn
            have zl := zl.next bn
            clear bn
            refine hK.out _ _ bW4 (fun hHeld => ?_)
            clear hK K
            refine wpAnyH_ready (rs := [9]) (by kernel_rfl) (by simp) ?_
            refine AllReadyH.cons rfl (fun K hK => ?_) AllReadyH.nil
            simp only [List.getElem_toArray, List.getElem_cons_zero, List.getElem_cons_succ]
            obtain ⟨z0, z1, z2, z3, z4, z5, z6, z7, z8, z9, z10⟩ := zh.cells
            have zf := zh.free
            go_simp
            obtain ⟨W5, hN, dh, bW5, tn⟩ := a_stored zh bW4 (show Vb.heap.size ≤ Xh from hbh) (h 0) (h 1) (h 2) (h 3) (h 4) (h 5) (h 6) (h 7) (h 8) (h 9) (h 10)
            rw [← hN]
            clear hN z0 z1 z2 z3 z4 z5 z6 z7 z8 z9 z10 zf
            have zl := zl.turned tn hne
            have A2 := A2.turned tn (by omega)
            have k2 : kBlock W5 Kb _ _ _ := (tn.block Kb (by omega)).trans k2
            refine hK.out _ _ bW5 (fun hHeld => ?_)
            clear hK K
            refine wpAnyH_ready (rs := [10]) (by kernel_rfl) (by simp) ?_
            refine AllReadyH.cons rfl (fun K hK => ?_) AllReadyH.nil
            simp only [List.getElem_toArray, List.getElem_cons_zero, List.getElem_cons_succ]
            obtain ⟨z0, z1, z2, z3, z4, z5, z6, z7, z8, z9, z10⟩ := zl.cells
            have zf := zl.free
            go_simp
            obtain ⟨W6, hN, dl, bW6, tn⟩ := a_stored zl bW5 (show Vb.heap.size ≤ Xl from hbl) (l 0) (l 1) (l 2) (l 3) (l 4) (l 5) (l 6) (l 7) (l 8) (l 9) (l 10)
            rw [← hN]
            clear hN z0 z1 z2 z3 z4 z5 z6 z7 z8 z9 z10 zf
            have dh := dh.turned tn hne.symm
            have A2 := A2.turned tn (by omega)
            have k2 : kBlock W6 Kb _ _ _ := (tn.block Kb (by omega)).trans k2
            refine hK.out _ _ bW6 (fun hHeld => ?_)
            clear hK K
            refine wpAnyH_done (by kernel_rfl) ?_ _
            go_wp2_with fail
            go_meet
            exact ⟨Xh, Xl, rfl, rfl, veil ⟨A2, k2, dh.ext (below11 rfl rfl rfl rfl rfl rfl rfl rfl rfl rfl rfl), dl.ext (below11 rfl rfl rfl rfl rfl rfl rfl rfl rfl rfl rfl), Below.next B2 bW6⟩⟩
          · simp only [List.getElem_toArray, List.getElem_cons_zero, List.getElem_cons_succ]
            go_simp
            obtain ⟨W3, hN, zh, bn⟩ : ∃ W, W = W2.alloc (.cells #[.int .i64 0, .int .i64 0, .int .i64 0, .int .i64 0, .int .i64 0, .int .i64 0, .int .i64 0, .int .i64 0, .int .i64 0, .int .i64 0, .int .i64 0] 27) ∧ aBlock W W2.heap.size (fun _ => 0) ∧ Below W2.heap.size W2 W := ⟨_, rfl, aBlock.new W2 (fun _ => 0), below1 _ _⟩
            rw [← hN]
            clear hN
            obtain ⟨Xh, hXh⟩ : ∃ X, X = W2.heap.size := ⟨_, rfl⟩
            have hlh : w.heap.size < Xh := by rw [hXh]; exact A2.lt
            have hkh : Kb < Xh := by rw [hXh]; exact k2.lt
            rw [← hXh] at zh ⊢
            have hbh : Vb.heap.size ≤ Xh := by rw [hXh]; exact bW2.size
            first | (have hne : Xl ≠ Xh := by have := zl.lt; omega) | skip
            clear hXh
            have bW3 := Below.next bW2 bn
            have A2 := A2.next bn
            have k2 := k2.next bn
            have zl := zl.next bn
            clear bn
            refine hK.out _ _ bW3 (fun hHeld => ?_)
            clear hK K
            refine wpAnyH_ready (rs := [3]) (by kernel_rfl) (by simp) ?_
            refine AllReadyH.cons rfl (fun K hK => ?_) AllReadyH.nil
            simp only [List.getElem_toArray, List.getElem_cons_zero, List.getElem_cons_succ]
            go_simp
            refine (unveil HC3 W3).mono ?_
            rintro e W4 ⟨rfl, bn⟩
            have bW4 := Below.next bW3 bn
            have A2 := A2.next bn
            have k2 := k2.next bn
            have zh := zh.next bn
            have zl := zl.next bn
            clear bn
            refine hK.out _ _ bW4 (fun hHeld => ?_)
            clear hK K
            refine wpAnyH_take (i := 4) (v := .tuple #[aVal h, aVal l]) rfl (by kernel_rfl) (by kernel_rfl) (by kernel_rfl) (fun _ _ _ h => h) (Or.inl ⟨by rfl, fun _ _ => by go_simp⟩) hHeld ?_
            simp only [List.getElem_toArray, List.getElem_cons_zero, List.getElem_cons_succ, Act.put, List.setIfInBounds_toArray, List.set_cons_zero, List.set_cons_succ]
            refine wpAnyH_take (i := 5) (v := aVal h) rfl (by kernel_rfl) (by kernel_rfl) (by kernel_rfl) (fun _ _ _ h => h) (Or.inl ⟨by rfl, fun _ _ => by go_simp⟩) hHeld ?_
            simp only [List.getElem_toArray, List.getElem_cons_zero, List.getElem_cons_succ, Act.put, List.setIfInBounds_toArray, List.set_cons_zero, List.set_cons_succ]
            refine wpAnyH_take (i := 6) (v := aVal l) rfl (by kernel_rfl) (by kernel_rfl) (by kernel_rfl) (fun _ _ _ h => h) (Or.inl ⟨by rfl, fun _ _ => by go_simp⟩) hHeld ?_
            simp only [List.getElem_toArray, List.getElem_cons_zero, List.getElem_cons_succ, Act.put, List.setIfInBounds_toArray, List.set_cons_zero, List.set_cons_succ]
            refine wpAnyH_ready (rs := [9]) (by kernel_rfl) (by simp) ?_
            refine AllReadyH.cons rfl (fun K hK => ?_) AllReadyH.nil
            simp only [List.getElem_toArray, List.getElem_cons_zero, List.getElem_cons_succ]
            obtain ⟨z0, z1, z2, z3, z4, z5, z6, z7, z8, z9, z10⟩ := zh.cells
            have zf := zh.free
            go_simp
            obtain ⟨W5, hN, dh, bW5, tn⟩ := a_stored zh bW4 (show Vb.heap.size ≤ Xh from hbh) (h 0) (h 1) (h 2) (h 3) (h 4) (h 5) (h 6) (h 7) (h 8) (h 9) (h 10)
            rw [← hN]
            clear hN z0 z1 z2 z3 z4 z5 z6 z7 z8 z9 z10 zf
            have zl := zl.turned tn hne
            have A2 := A2.turned tn (by omega)
            have k2 : kBlock W5 Kb _ _ _ := (tn.block Kb (by omega)).trans k2
            refine hK.out _ _ bW5 (fun hHeld => ?_)
            clear hK K
            refine wpAnyH_ready (rs := [10]) (by kernel_rfl) (by simp) ?_
            refine AllReadyH.cons rfl (fun K hK => ?_) AllReadyH.nil
            simp only [List.getElem_toArray, List.getElem_cons_zero, List.getElem_cons_succ]
            obtain ⟨z0, z1, z2, z3, z4, z5, z6, z7, z8, z9, z10⟩ := zl.cells
            have zf := zl.free
            go_simp
            obtain ⟨W6, hN, dl, bW6, tn⟩ := a_stored zl bW5 (show Vb.heap.size ≤ Xl from hbl) (l 0) (l 1) (l 2) (l 3) (l 4) (l 5) (l 6) (l 7) (l 8) (l 9) (l 10)
            rw [← hN]
            clear hN z0 z1 z2 z3 z4 z5 z6 z7 z8 z9 z10 zf
            have dh := dh.turned tn hne.symm
            have A2 := A2.turned tn (by omega)
            have k2 : kBlock W6 Kb _ _ _ := (tn.block Kb (by omega)).trans k2
            refine hK.out _ _ bW6 (fun hHeld => ?_)
            clear hK K
            refine wpAnyH_done (by kernel_rfl) ?_ _
            go_wp2_with fail
            go_meet
            exact ⟨Xh, Xl, rfl, rfl, veil ⟨A2, k2, dh.ext (below11 rfl rfl rfl rfl rfl rfl rfl rfl rfl rfl rfl), dl.ext (below11 rfl rfl rfl rfl rfl rfl rfl rfl rfl rfl rfl), Below.next B2 bW6⟩⟩
        · simp only [List.getElem_toArray, List.getElem_cons_zero, List.getElem_cons_succ]
          go_simp
          obtain ⟨W2, hN, zh, bn⟩ : ∃ W, W = W1.alloc (.cells #[.int .i64 0, .int .i64 0, .int .i64 0, .int .i64 0, .int .i64 0, .int .i64 0, .int .i64 0, .int .i64 0, .int .i64 0, .int .i64 0, .int .i64 0] 27) ∧ aBlock W W1.heap.size (fun _ => 0) ∧ Below W1.heap.size W1 W := ⟨_, rfl, aBlock.new W1 (fun _ => 0), below1 _ _⟩
          rw [← hN]
          clear hN
          obtain ⟨Xh, hXh⟩ : ∃ X, X = W1.heap.size := ⟨_, rfl⟩
          have hlh : w.heap.size < Xh := by rw [hXh]; exact A2.lt
          have hkh : Kb < Xh := by rw [hXh]; exact k2.lt
          rw [← hXh] at zh ⊢
          have hbh : Vb.heap.size ≤ Xh := by rw [hXh]; exact bW1.size
          first | (have hne : Xl ≠ Xh := by have := zl.lt; omega) | skip
          clear hXh
          have bW2 := Below.next bW1 bn
          have A2 := A2.next bn
          have k2 := k2.next bn
          have zl := zl.next bn
          clear bn
          refine hK.out _ _ bW2 (fun hHeld => ?_)
          clear hK K
          refine wpAnyH_ready (rs := [2]) (by kernel_rfl) (by simp) ?_
          refine AllReadyH.cons rfl (fun K hK => ?_) AllReadyH.nil
          simp only [List.getElem_toArray, List.getElem_cons_zero, List.getElem_cons_succ]
          go_simp
          refine (unveil HC2 W2).mono ?_
          rintro e W3 ⟨rfl, bn⟩
          have bW3 := Below.next bW2 bn
          have A2 := A2.next bn
          have k2 := k2.next bn
          have zh := zh.next bn
          have zl := zl.next bn
          clear bn
          refine hK.out _ _ bW3 (fun hHeld => ?_)
          clear hK K
          refine wpAnyH_ready (rs := [3]) (by kernel_rfl) (by simp) ?_
          refine AllReadyH.cons rfl (fun K hK => ?_) AllReadyH.nil
          simp only [List.getElem_toArray, List.getElem_cons_zero, List.getElem_cons_succ]
          go_simp
          refine (unveil HC3 W3).mono ?_
          rintro e W4 ⟨rfl, bn⟩
          have bW4 := Below.next bW3 bn
          have A2 := A2.next bn
          have k2 := k2.next bn
          have zh := zh.next bn
          have zl := zl.next bn
          clear bn
          refine hK.out _ _ bW4 (fun hHeld => ?_)
          clear hK K
          refine wpAnyH_take (i := 4) (v := .tuple #[aVal h, aVal l]) rfl (by kernel_rfl) (by kernel_rfl) (by kernel_rfl) (fun _ _ _ h => h) (Or.inl ⟨by rfl, fun _ _ => by go_simp⟩) hHeld ?_
          simp only [List.getElem_toArray, List.getElem_cons_zero, List.getElem_cons_succ, Act.put, List.setIfInBounds_toArray, List.set_cons_zero, List.set_cons_succ]
          refine wpAnyH_take (i := 5) (v := aVal h) rfl (by kernel_rfl) (by kernel_rfl) (by kernel_rfl) (fun _ _ _ h => h) (Or.inl ⟨by rfl, fun _ _ => by go_simp⟩) hHeld ?_
          simp only [List.getElem_toArray, List.getElem_cons_zero, List.getElem_cons_succ, Act.put, List.setIfInBounds_toArray, List.set_cons_zero, List.set_cons_succ]
          refine wpAnyH_take (i := 6) (v := aVal l) rfl (by kernel_rfl) (by kernel_rfl) (by kernel_rfl) (fun _ _ _ h => h) (Or.inl ⟨by rfl, fun _ _ => by go_simp⟩) hHeld ?_
          simp only [List.getElem_toArray, List.getElem_cons_zero, List.getElem_cons_succ, Act.put, List.setIfInBounds_toArray, List.set_cons_zero, List.set_cons_succ]
          refine wpAnyH_ready (rs := [9]) (by kernel_rfl) (by simp) ?_
          refine AllReadyH.cons rfl (fun K hK => ?_) AllReadyH.nil
          simp only [List.getElem_toArray, List.getElem_cons_zero, List.getElem_cons_succ]
          obtain ⟨z0, z1, z2, z3, z4, z5, z6, z7, z8, z9, z10⟩ := zh.cells
          have zf := zh.free
          go_simp
          obtain ⟨W5, hN, dh, bW5, tn⟩ := a_stored zh bW4 (show Vb.heap.size ≤ Xh from hbh) (h 0) (h 1) (h 2) (h 3) (h 4) (h 5) (h 6) (h 7) (h 8) (h 9) (h 10)
          rw [← hN]
          clear hN z0 z1 z2 z3 z4 z5 z6 z7 z8 z9 z10 zf
          have zl := zl.turned tn hne
          have A2 := A2.turned tn (by omega)
          have k2 : kBlock W5 Kb _ _ _ := (tn.block Kb (by omega)).trans k2
          refine hK.out _ _ bW5 (fun hHeld => ?_)
          clear hK K
          refine wpAnyH_ready (rs := [10]) (by kernel_rfl) (by simp) ?_
          refine AllReadyH.cons rfl (fun K hK => ?_) AllReadyH.nil
          simp only [List.getElem_toArray, List.getElem_cons_zero, List.getElem_cons_succ]
          obtain ⟨z0, z1, z2, z3, z4, z5, z6, z7, z8, z9, z10⟩ := zl.cells
          have zf := zl.free
          go_simp
          obtain ⟨W6, hN, dl, bW6, tn⟩ := a_stored zl bW5 (show Vb.heap.size ≤ Xl from hbl) (l 0) (l 1) (l 2) (l 3) (l 4) (l 5) (l 6) (l 7) (l 8) (l 9) (l 10)
          rw [← hN]
          clear hN z0 z1 z2 z3 z4 z5 z6 z7 z8 z9 z10 zf
          have dh := dh.turned tn hne.symm
          have A2 := A2.turned tn (by omega)
          have k2 : kBlock W6 Kb _ _ _ := (tn.block Kb (by omega)).trans k2
          refine hK.out _ _ bW6 (fun hHeld => ?_)
          clear hK K
          refine wpAnyH_done (by kernel_rfl) ?_ _
          go_wp2_with fail
          go_meet
          exact ⟨Xh, Xl, rfl, rfl, veil ⟨A2, k2, dh.ext (below11 rfl rfl rfl rfl rfl rfl rfl rfl rfl rfl rfl), dl.ext (below11 rfl rfl rfl rfl rfl rfl rfl rfl rfl rfl rfl), Below.next B2 bW6⟩⟩
    case rest =>
      obtain ⟨X, Y, rfl, rfl, HW⟩ := hcut
      clear HC3 A2 k2 B2 hKl
      have HC5 := unveil HC4 h wc
      clear HC4
      obtain ⟨x0, x1, x2, x3, x4, x5, x6, x7, x8, x9, x10⟩ := (unveil HW).h.cells
      obtain ⟨b1, hb1⟩ : ∃ b, b = boundB h := ⟨_, rfl⟩
      rw [← hb1] at HC5 HR2
      clear hb1
      cases b1 with
      | false =>
        have e2 : r = 2 := unveil HR2
        subst e2
        clear HR2 HC2 HE
        go_wp2_with (go_at_call 25; refine HC5.mono ?_; rintro e V3 ⟨rfl, b3⟩; clear HC5)
        go_ret
        exact ⟨rfl, Below.next (unveil HW).bel b3⟩
      | true =>
        have HR3 : Hid (r = if eqA l (bareK i) = true then 0 else 3) := veil (unveil HR2)
        clear HR2
        go_upto_region 7 with (go_at_call 25; refine HC5.mono ?_; rintro e V3 ⟨rfl, b3⟩; clear HC5 x0 x1 x2 x3 x4 x5 x6 x7 x8 x9 x10)
        have A3 := (unveil HW).l.next b3
        have k3 := (unveil HW).k.next b3
        have B3 := Below.next (unveil HW).bel b3
        clear HW b3
        go_cut [27] (fun p wx => p = .bool (!eqA l (bareK i)) ∧ Below w.heap.size w wx)
        case first =>
          refine wp_region_held_drew (S := Below V3.heap.size V3) (by kernel_rfl) (below_drew V3) (fun hHeld => ?_)
          refine wpAnyH_take (i := 0) (v := aVal l) rfl (by kernel_rfl) (by kernel_rfl) (by kernel_rfl) (fun _ _ _ h => h) (Or.inl ⟨by rfl, fun u b => by obtain ⟨z0, z1, z2, z3, z4, z5, z6, z7, z8, z9, z10⟩ := (A3.next b).cells; go_simp⟩) hHeld ?_
          simp only [List.getElem_toArray, List.getElem_cons_zero, Act.put, List.setIfInBounds_toArray, List.set_cons_zero, List.set_cons_succ]
          refine wpAnyH_take (i := 1) (v := kVal i) rfl (by kernel_rfl) (by kernel_rfl) (by kernel_rfl) (fun _ _ _ h => h) (Or.inl ⟨by rfl, fun u b => by obtain ⟨z0, z1, z2⟩ := (k3.next b).cells; go_simp⟩) hHeld ?_
          simp only [List.getElem_toArray, List.getElem_cons_zero, List.getElem_cons_succ, Act.put, List.setIfInBounds_toArray, List.set_cons_zero, List.set_cons_succ]
          have bW0 := below_drew V3
          obtain ⟨W0, hW0⟩ : ∃ W0, W0 = V3.drew := ⟨_, rfl⟩
          rw [← hW0] at bW0  hHeld ⊢
          clear hW0
          refine wpAnyH_ready (rs := [2]) (by kernel_rfl) (by simp) ?_
          refine AllReadyH.cons rfl (fun K hK => ?_) AllReadyH.nil
          simp only [List.getElem_toArray, List.getElem_cons_zero, List.getElem_cons_succ]
          go_simp
          refine (unveil HC2 W0).mono ?_
          rintro e W1 ⟨rfl, bn⟩
          have bW1 := Below.next bW0 bn
          clear bn
          refine hK.out _ _ bW1 (fun hHeld => ?_)
          clear hK K
          refine wpAnyH_take (i := 3) (v := .bool (!eqA l (bareK i))) rfl (by kernel_rfl) (by kernel_rfl) (by kernel_rfl) (fun _ _ _ h => h) (Or.inl ⟨by rfl, fun u _ => by have he := unveil HE l (bareK i); go_simp⟩) hHeld ?_
          simp only [List.getElem_toArray, List.getElem_cons_zero, List.getElem_cons_succ, Act.put, List.setIfInBounds_toArray, List.set_cons_zero, List.set_cons_succ]
          refine wpAnyH_done (by kernel_rfl) ?_ _
          go_wp2_with fail
          go_meet
          exact ⟨rfl, Below.next B3 bW1⟩
        case rest =>
          obtain ⟨rfl, b5⟩ := hcut
          obtain ⟨b1, hb1⟩ : ∃ b, b = eqA l (bareK i) := ⟨_, rfl⟩
          rw [← hb1] at HR3 ⊢
          clear hb1 HC2 HE A3 k3 B3
          cases b1 with
          | false =>
            have e2 : r = 3 := unveil HR3
            subst e2
            go_wp2
            go_ret
            exact ⟨rfl, b5⟩
          | true =>
            have e2 : r = 0 := unveil HR3
            subst e2
            go_wp2
            go_ret
            exact ⟨rfl, b5⟩
end Go.Proofs.YtekbdkppnjnaaaaDoor
