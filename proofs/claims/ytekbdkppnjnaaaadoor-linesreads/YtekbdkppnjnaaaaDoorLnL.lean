/- Walk of the document's ActFault; it answers what Check answers. -/
import Derived.Test.YtekbdkppnjnaaaaDoorLnK
import Derived.Test.YtekbdkppnjnaaaaDoorLnH
import Derived.BigQuiet
namespace Go.Proofs.YtekbdkppnjnaaaaDoor
open Go.RowKit

theorem In_is {n l m : Int} (w : World) : Calls Tryd.prog 28 #[.int .i64 n, .int .i64 l, .int .i64 m] w fun e w' => e = .returned (.bool (decide (l ≤ n ∧ n ≤ m))) ∧ w' = w := by
  by_cases h : l ≤ n ∧ n ≤ m
  · rw [decide_eq_true h]
    exact (in_yes n l m w h.1 h.2).mono fun _ _ g => ⟨g.1, g.2.symm⟩
  · rw [decide_eq_false h]
    exact (in_no n l m w h).mono fun _ _ g => ⟨g.1, g.2.symm⟩
/-- each of a row's numbers lies within its bound. -/
def allIn (l m : List Int) : Prop := ∀ k, (h : k < l.length) → (h' : k < m.length) → 0 ≤ l[k] ∧ l[k] ≤ m[k]
/-- what ActFault answers. -/
noncomputable def refFault (f : Nat → Int) : Int :=
  open Classical in
  if kno (f 0) (f 5) < 12 then (if allIn ((noffs (kno (f 0) (f 5))).map f) (mosts (kno (f 0) (f 5))) then (if eqA f (over (noffs (kno (f 0) (f 5))) (bareK (kno (f 0) (f 5))) f) = true then 0 else 3) else 2) else 3
theorem kword_empty : ∀ i, i < 12 → (kword i).toList.isEmpty = false := by
  refine below12 ?_ ?_ ?_ ?_ ?_ ?_ ?_ ?_ ?_ ?_ ?_ ?_ <;> simp [kword]
set_option maxRecDepth 20000 in
set_option maxHeartbeats 4000000 in
theorem actFault_any (f : Nat → Int) (w : World) : Calls Tryd.prog 11 #[aVal f] w fun e w' => e = .returned (.int .i64 (refFault f)) ∧ Below w.heap.size w w' := by
  obtain ⟨W1, hW1, A1, B1⟩ : ∃ W1, W1 = w.alloc (.cells (aCells f) 27) ∧ aBlock W1 w.heap.size f ∧ Below w.heap.size w W1 := ⟨_, rfl, aBlock.new w f, below1 _ _⟩
  have HC1 := actWord_any f W1
  have HC2 : Hid (∀ u, Calls Tryd.prog 27 #[aVal f] u fun e w' => ∃ v1 v2, e = .returned (.tuple #[v1, v2]) ∧ iRow w' u.heap.size v1 ((noffs (kno (f 0) (f 5))).map f) ∧ iRow w' u.heap.size v2 (mosts (kno (f 0) (f 5))) ∧ Below u.heap.size u w') := veil fun u => actNumbers_any f u
  have HC3 : Hid (kno (f 0) (f 5) < 12 → ∀ base v u, iRow u base v ((noffs (kno (f 0) (f 5))).map f) → Calls Tryd.prog 29 #[aVal f, v] u fun e w' => e = .returned (aVal (over (noffs (kno (f 0) (f 5))) (bareK (kno (f 0) (f 5))) f)) ∧ Below u.heap.size u w') := veil fun hi base v u hr => refActOf_any f f base v u hi hr
  have HE : Hid (∀ f g w, (Op.equalIn 10000 27 (aVal f) (aVal g)).run Tryd.prog w = .ok (eqA f g) w) := veil run_equal_acts
  have HR : Hid ((¬ kno (f 0) (f 5) < 12 → refFault f = 3) ∧ (kno (f 0) (f 5) < 12 → ¬ allIn ((noffs (kno (f 0) (f 5))).map f) (mosts (kno (f 0) (f 5))) → refFault f = 2) ∧ (kno (f 0) (f 5) < 12 → allIn ((noffs (kno (f 0) (f 5))).map f) (mosts (kno (f 0) (f 5))) → refFault f = if eqA f (over (noffs (kno (f 0) (f 5))) (bareK (kno (f 0) (f 5))) f) = true then 0 else 3)) := veil ⟨fun h => by unfold refFault; rw [if_neg h], fun h g => by unfold refFault; rw [if_pos h, if_neg g], fun h g => by unfold refFault; rw [if_pos h, if_pos g]⟩
  obtain ⟨i, hi⟩ : ∃ i, i = kno (f 0) (f 5) := ⟨_, rfl⟩
  obtain ⟨r, hr⟩ : ∃ r, r = refFault f := ⟨_, rfl⟩
  have hi12 : i ≤ 12 := by rw [hi]; exact kno_le _ _
  rw [← hi] at HC1 HC2 HC3 HR
  rw [← hr] at HR ⊢
  clear hi hr
  obtain ⟨x0, x1, x2, x3, x4, x5, x6, x7, x8, x9, x10⟩ := A1.cells
  by_cases hi : i < 12
  case neg =>
    obtain rfl : i = 12 := by omega
    have e3 : r = 3 := (unveil HR).1 hi
    subst e3
    have HC1' : Calls Tryd.prog 26 #[aVal f] W1 fun e w' => e = .returned (.string ⟨#[]⟩) ∧ Below W1.heap.size W1 w' := HC1
    clear HR HC1 HC2 HC3 HE A1
    go_enter Tryd.func11, Tryd.ntmps11
    go_upto_region 1 with fail
    rw [← hW1]
    clear hW1
    go_wp2_with (go_at_call 26; refine HC1'.mono ?_; rintro e V1 ⟨rfl, b1⟩; clear HC1' x0 x1 x2 x3 x4 x5 x6 x7 x8 x9 x10)
    go_ret
    exact ⟨rfl, Below.next B1 b1⟩
  case pos =>
    have hne := kword_empty i hi
    obtain ⟨fl1, fl2, _, _, _, _⟩ := noffs_facts i hi
    have HL : Hid (((noffs i).map f).length = (mosts i).length) := veil (by rw [List.length_map]; exact fl2)
    have HC3' := veil (unveil HC3 hi)
    have HR2 := veil (And.intro ((unveil HR).2.1 hi) ((unveil HR).2.2 hi))
    clear HC3 HR
    have hl5 : ((noffs i).map f).length ≤ 5 := by rw [List.length_map]; exact fl1
    generalize over (noffs i) (bareK i) f = g at HC3' HR2
    generalize (noffs i).map f = l at *
    generalize mosts i = m at *
    generalize kword i = s at HC1 hne
    clear fl1 fl2
    have HA := veil A1
    clear A1
    go_enter Tryd.func11, Tryd.ntmps11
    go_upto_region 1 with fail
    rw [← hW1]
    clear hW1
    go_upto_region 3 with (go_at_call 26; refine HC1.mono ?_; rintro e V1 ⟨rfl, b1⟩; clear HC1 x0 x1 x2 x3 x4 x5 x6 x7 x8 x9 x10)
    have HA1 := veil ((unveil HA).next b1)
    have B2 := Below.next B1 b1
    clear HA B1 b1 hne
    obtain ⟨x0, x1, x2, x3, x4, x5, x6, x7, x8, x9, x10⟩ := (unveil HA1).cells
    have HC4 := unveil HC2 V1
    clear HC2
    go_upto_region 4 with (go_at_call 27; refine HC4.mono ?_; rintro e V2 ⟨v1, v2, rfl, o1, o2, b2⟩; clear HC4 x0 x1 x2 x3 x4 x5 x6 x7 x8 x9 x10)
    have HA2 := veil ((unveil HA1).next b2)
    have B3 := Below.next B2 b2
    have HO := veil (And.intro o1 o2)
    obtain ⟨a1, c1, rfl⟩ := own_form o1
    obtain ⟨a2, c2, rfl⟩ := own_form o2
    clear HA1 B2 b2 o1 o2
    have hlm : l.length = m.length := unveil HL
    rw [← hlm]
    have HLM := veil hlm
    clear hlm HL
    go_wp2_with fail
    go_loopw [5] (fun t wr => ∃ k : Nat, k ≤ l.length ∧ t = .int .i64 k ∧ Hid (∀ j, (h : j < l.length) → (h' : j < m.length) → j < k → 0 ≤ l[j] ∧ l[j] ≤ m[j]) ∧ Below V2.heap.size V2 wr) (fun t _ => l.length - (intOf t).toNat)
    case atStart => exact ⟨0, by omega, rfl, veil (fun j _ _ h => by omega), Below.refl _ _⟩
    case round =>
      obtain ⟨k, hk, rfl, HK, bk⟩ := hrel
      have HAk := veil ((unveil HA2).next bk)
      have HOk : Hid (iRow wr V1.heap.size (.slice a1 l.length c1) l ∧ iRow wr V1.heap.size (.slice a2 l.length c2) m) := veil (by
        have := unveil HO
        rw [← unveil HLM] at this
        exact ⟨own_still this.1 (fun g _ hg => bk.block g hg), own_still this.2 (fun g _ hg => bk.block g hg)⟩)
      have Bk := Below.next B3 bk
      clear HA2 HO
      by_cases hlt : k < l.length
      case pos =>
        obtain ⟨G1, c1', e1, _, hG1, y1, hc1⟩ := (unveil HOk).1.at (by omega)
        have o2' := (unveil HOk).2
        rw [unveil HLM] at o2'
        obtain ⟨G2, c2', e2, _, hG2, y2, hc2⟩ := iRow.at o2' (by have := unveil HLM; omega)
        obtain ⟨rfl, rfl⟩ : a1 = some ⟨G1, 0, none⟩ ∧ c1 = c1' := by simpa using e1
        obtain ⟨rfl, rfl⟩ : a2 = some ⟨G2, 0, none⟩ ∧ c2 = c2' := by simpa using e2
        have hkm : k < m.length := by rw [← unveil HLM]; exact hlt
        have z1 := y1 k hlt
        have z2 := y2 k hkm
        clear e1 e2 y1 y2 o2' hc1 hc2
        obtain ⟨x, hx⟩ : ∃ x, x = l[k] := ⟨_, rfl⟩
        obtain ⟨y, hy⟩ : ∃ y, y = m[k] := ⟨_, rfl⟩
        rw [← hx] at z1
        rw [← hy] at z2
        have HXY : Hid (x = l[k] ∧ y = m[k]) := veil ⟨hx, hy⟩
        clear hx hy
        by_cases hin : 0 ≤ x ∧ x ≤ y
        case pos =>
          have HIn : ∀ w, Calls Tryd.prog 28 #[.int .i64 x, .int .i64 0, .int .i64 y] w fun e w' => e = .returned (.bool true) ∧ w' = w := fun w => by have := In_is (n := x) (l := 0) (m := y) w; rw [decide_eq_true hin] at this; exact this
          have HK2 : Hid (∀ j, (h : j < l.length) → (h' : j < m.length) → j < k + 1 → 0 ≤ l[j] ∧ l[j] ≤ m[j]) := veil (fun j h h' hj => by
            by_cases e : j = k
            · subst e
              rw [← (unveil HXY).1, ← (unveil HXY).2]
              exact hin
            · exact unveil HK j h h' (by omega))
          clear HK HXY HAk HOk Bk
          go_upto_region 7 with fail
          go_quiet ((go_at_call 28; exact Calls.quiet_of_same (HIn _)))
          go_wp2
          go_roundw <;> first | exact ⟨k + 1, by omega, by go_num, HK2, Below.next bk (belowN _ _)⟩ | (simp [intOf]; omega)
        case neg =>
          have HIn : ∀ w, Calls Tryd.prog 28 #[.int .i64 x, .int .i64 0, .int .i64 y] w fun e w' => e = .returned (.bool false) ∧ w' = w := fun w => by have := In_is (n := x) (l := 0) (m := y) w; rw [decide_eq_false hin] at this; exact this
          have e2 : r = 2 := (unveil HR2).1 (fun h => hin (by have := h k hlt hkm; rw [← (unveil HXY).1, ← (unveil HXY).2] at this; exact this))
          subst e2
          clear HK HXY HAk HOk HR2 HC3' HE hin
          go_upto_region 7 with fail
          go_quiet ((go_at_call 28; exact Calls.quiet_of_same (HIn _)))
          go_wp2
          go_ret
          exact ⟨rfl, Below.next Bk (belowN _ _)⟩
      case neg =>
        obtain rfl : k = l.length := by omega
        have hr := (unveil HR2).2 (fun j h h' => unveil HK j h h' (by omega))
        have HR3 := veil hr
        clear hr HR2 HK
        have HC5 : Hid (∀ u, Below wr.heap.size wr u → Calls Tryd.prog 29 #[aVal f, .slice a1 l.length c1] u fun e w' => e = .returned (aVal g) ∧ Below u.heap.size u w') := veil fun u b => unveil HC3' _ _ u (own_still (unveil HOk).1 (fun g _ hg => b.block g hg))
        have A2 := unveil HAk
        clear HC3' HAk HOk
        go_upto_region 9 with fail
        obtain ⟨wz, hwz⟩ : ∃ X, X = wr := ⟨_, rfl⟩
        subst hwz
        go_cut [34] (fun p wx => p = .bool (!eqA f g) ∧ Below w.heap.size w wx)
        case first =>
          refine wp_region_held_drew (S := Below wz.heap.size wz) (by kernel_rfl) (below_drew wz) (fun hHeld => ?_)
          refine wpAnyH_take (i := 0) (v := aVal f) rfl (by kernel_rfl) (by kernel_rfl) (by kernel_rfl) (fun _ _ _ h => h) (Or.inl ⟨by rfl, fun u b => by obtain ⟨z0, z1, z2, z3, z4, z5, z6, z7, z8, z9, z10⟩ := (A2.next b).cells; go_simp⟩) hHeld ?_
          simp only [List.getElem_toArray, List.getElem_cons_zero, Act.put, List.setIfInBounds_toArray, List.set_cons_zero, List.set_cons_succ]
          refine wpAnyH_take (i := 1) (v := aVal f) rfl (by kernel_rfl) (by kernel_rfl) (by kernel_rfl) (fun _ _ _ h => h) (Or.inl ⟨by rfl, fun u b => by obtain ⟨z0, z1, z2, z3, z4, z5, z6, z7, z8, z9, z10⟩ := (A2.next b).cells; go_simp⟩) hHeld ?_
          simp only [List.getElem_toArray, List.getElem_cons_zero, List.getElem_cons_succ, Act.put, List.setIfInBounds_toArray, List.set_cons_zero, List.set_cons_succ]
          refine wpAnyH_take (i := 2) (v := .slice a1 l.length c1) rfl (by kernel_rfl) (by kernel_rfl) (by kernel_rfl) (fun _ _ _ h => h) (Or.inl ⟨by rfl, fun _ _ => by go_simp⟩) hHeld ?_
          simp only [List.getElem_toArray, List.getElem_cons_zero, List.getElem_cons_succ, Act.put, List.setIfInBounds_toArray, List.set_cons_zero, List.set_cons_succ]
          have bW0 := below_drew wz
          obtain ⟨W0, hW0⟩ : ∃ W0, W0 = wz.drew := ⟨_, rfl⟩
          rw [← hW0] at bW0  hHeld ⊢
          clear hW0
          refine wpAnyH_ready (rs := [3]) (by kernel_rfl) (by simp) ?_
          refine AllReadyH.cons rfl (fun K hK => ?_) AllReadyH.nil
          simp only [List.getElem_toArray, List.getElem_cons_zero, List.getElem_cons_succ]
          go_simp
          refine (unveil HC5 W0 bW0).mono ?_
          rintro e W1 ⟨rfl, bn⟩
          have bW1 := Below.next bW0 bn
          clear bn
          refine hK.out _ _ bW1 (fun hHeld => ?_)
          clear hK K
          refine wpAnyH_take (i := 4) (v := .bool (!eqA f g)) rfl (by kernel_rfl) (by kernel_rfl) (by kernel_rfl) (fun _ _ _ h => h) (Or.inl ⟨by rfl, fun u _ => by have he := unveil HE f g; go_simp⟩) hHeld ?_
          simp only [List.getElem_toArray, List.getElem_cons_zero, List.getElem_cons_succ, Act.put, List.setIfInBounds_toArray, List.set_cons_zero, List.set_cons_succ]
          refine wpAnyH_done (by kernel_rfl) ?_ _
          go_wp2_with fail
          go_meet
          exact ⟨rfl, Below.next Bk bW1⟩
        case rest =>
          obtain ⟨rfl, b5⟩ := hcut
          obtain ⟨b1, hb1⟩ : ∃ b, b = eqA f g := ⟨_, rfl⟩
          rw [← hb1] at HR3 ⊢
          clear hb1 HC5 HE A2
          cases b1 with
          | false =>
            have e2 : r = 3 := unveil HR3
            subst e2
            go_wp2
            go_ret
            exact ⟨rfl, b5⟩
          | true =>
            have e2 : r = 0 := unveil HR3
            subst e2
            go_wp2
            go_ret
            exact ⟨rfl, b5⟩
end Go.Proofs.YtekbdkppnjnaaaaDoor
