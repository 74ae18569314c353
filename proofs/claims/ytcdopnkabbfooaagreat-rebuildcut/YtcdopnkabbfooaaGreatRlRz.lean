/- The walk of berthshiftkeep.RebuildCut. -/
import Derived.Test.YtcdopnkabbfooaaGreatRkTop
namespace Go.Proofs.YtcdopnkabbfooaaGreat
open Go.RowKit

set_option maxRecDepth 20000 in
set_option maxHeartbeats 8000000 in
theorem walk_RebuildCut (w : World) (ep : Int) (wep : (Lit.int .i64 ep).wf = true) (a0 : Option Addr) (len cap : Nat) (D : List Int) (h : RowK .i64 w a0 (4 * len) D) (_ : len ≤ cap) (_ : cap ≤ maxLen) (_ : a0 = none → cap = 0) (pq : Int) (wpq : (Lit.int .i64 pq).wf = true) :
    Calls Tryz.prog 7 #[.int .i64 ep, .slice a0 len cap, .int .i64 pq] w fun r w' => r = .returned (.bool true) ∧ Below w.heap.size w w' := by
  obtain ⟨i3, hi3, hz30, hz31, hz32⟩ := info_of Tryz.infoRecT
  have HSv := kserved_any ep a0 len cap 40 D w h wep (by omega)
  clear h
  go_enter Tryz.func7, Tryz.ntmps7
  go_upto_region 2 with (go_at_call 19; refine HSv.mono ?_; rintro x V1 ⟨E, es, s, ans, y, rfl, hist, hl, nb, hE1, hE2, ⟨⟨a, c, rfl, i1, u1⟩⟩, b1⟩; clear HSv)
  obtain ⟨W1, hW1, K1, _⟩ := Kb.new i1 (Below.refl _ _) b1
  rw [← hW1]
  obtain ⟨Rb, hR⟩ : ∃ R, R = V1.heap.size := ⟨_, rfl⟩
  rw [← hR] at K1 ⊢
  clear hW1 hR i1 u1 b1 nb
  have ht := hist.tells
  clear hist
  have hok := ht.act_ok (by omega) hE1 (by omega)
  have HT := veil ht
  clear ht
  have HOk := veil hok
  have HRc := records_any 2 (Bt.act E es) a c W1 K1.i hok.len (fun u hu => by
    simp only [List.mem_cons, List.not_mem_nil, or_false] at hu
    rcases hu with g | g | g <;> rw [g]
    · decide
    · exact lit_wfR (show (0 : Int) ≤ E by omega) (show E ≤ 4294967296 by omega)
    · exact lit_wfR (show (0 : Int) ≤ 0 by omega) (show (0 : Int) ≤ 4294967296 by omega))
  have HKb := veil K1
  have htl : (tapeOf 2 (Bt.act E es)).length = es.length + 1 := by rw [tapeOf_len]; show 1 + es.length + (if (1 : Int) = 3 then 1 else 0) = _; rw [if_neg (by decide)]; omega
  obtain ⟨xb0, xb1, xb2, xb3, xb4, xb5⟩ := K1.b.cells
  clear hok K1
  go_upto_region 3 with (go_at_call 23; refine HRc.mono ?_; rintro x V2 ⟨v2, rfl, own2, b2⟩; clear HRc xb0 xb1 xb2 xb3 xb4 xb5)
  have hwf := tape_wf (q := 2) (B := Bt.act E es) (by omega) ⟨show (0 : Int) ≤ E by omega, show E ≤ 1048576 by omega⟩ ⟨show (0 : Int) ≤ 0 by omega, show (0 : Int) ≤ 4 by omega⟩ ((unveil HKb).i.row.wf)
  obtain ⟨a2, c2, rfl, row2, hc2, hm2, _, _⟩ := RowK.ofMany own2 hwf
  obtain ⟨G, goff, rfl⟩ := row2.form (by rw [htl]; omega)
  obtain rfl : goff = 0 := by
    rcases own2.2 with ⟨e, _⟩ | ⟨g, cap, cur, e, _⟩
    · cases e
    · cases e; rfl
  have hGl : G < V2.heap.size := row2.lt (by rw [htl]; omega)
  have HRow := veil row2
  have HKc := veil ((unveil HKb).next b2)
  clear own2 b2 HKb row2
  rw [htl]
  rw [htl] at hc2
  have p0 := pickedOf_range pq ((es.length + 1 : Nat) : Int) (by omega)
  have Pp := fun w => picked_any pq ((es.length + 1 : Nat) : Int) w wpq (by omega) (by omega)
  generalize pickedOf pq ((es.length + 1 : Nat) : Int) = p at p0 Pp
  obtain ⟨j, rfl⟩ : ∃ j : Nat, p = j := ⟨p.toNat, by omega⟩
  obtain ⟨k, hk⟩ : ∃ k : Nat, k = j + 1 := ⟨_, rfl⟩
  have hje : j ≤ es.length := by omega
  go_upto_region 4 with (go_at_call 22; refine (Pp _).mono ?_; rintro x w9 ⟨rfl, hw9⟩; subst w9; clear Pp)
  rw [show (1 + (j : Int)) = (k : Int) by omega]
  obtain ⟨B2, hB2⟩ : ∃ B2, B2 = Bt.mk 1 E 0 0 0 (es.take j) := ⟨_, rfl⟩
  have htk : (tapeOf 2 (Bt.act E es)).take k = tapeOf 2 B2 := by rw [hk, hB2]; exact tapeOf_take (B := Bt.act E es) rfl
  have hok2 : B2.Ok := by rw [hB2]; exact ok_take (unveil HOk) rfl hje
  have hl2 : (tapeOf 2 B2).length = k := by rw [← htk, List.length_take, htl]; omega
  have row3 := rec_firsts (unveil HRow) k (by rw [htl]; omega)
  rw [htk] at row3
  have hrun2 : Runs Bt.zero (tapeOf 2 B2) B2 := runs_recs (by omega) hok2 (.inl (by rw [hB2]))
  have hA1 := all_tapeR 2 2 rfl (by omega) B2 hok2 (.inl (by rw [hB2])) (some ⟨G, 0, none⟩) k V2 row3 (by omega)
  rw [hl2] at hA1
  have HA1 := veil hA1
  clear hA1
  have hBA : applyOf B2 (recA 2 E) = (Bt.zero, 3) := apply_none hok2 (recA_fault (by omega) (by omega)) (deed_active (by rw [hB2]))
  have hk41 : k ≤ 41 := by omega
  have HKJ : Hid ((k : Int) - 1 = (j : Int)) := veil (by omega)
  have HA2 : Hid (∀ u a c, RowK .i64 u a (10 * (k + 1)) (recFlat (tapeOf 2 B2) ++ recTen (recA 2 E)) → k + 1 ≤ c → Calls Tryz.prog 15 #[.slice a (k + 1) c] u fun x w' => x = .returned (.tuple #[.slice none 0 0, .int .i64 k, .int .i64 3]) ∧ Below u.heap.size u w') := veil fun u a c r hc => by
    have := all_bad 2 2 rfl (by omega) (tapeOf 2 B2) B2 (recA 2 E) (by omega) (fun x hx => tapeOf_q x hx) hrun2 rfl (recA_fault (by omega) (by omega)) hBA a c u (by rw [recFlat_snoc, List.length_append, hl2]; exact r) (by rw [List.length_append, hl2]; exact hc)
    rw [List.length_append, hl2] at this
    exact this
  have HB2 := veil hB2
  have hk2 : k ≤ c2 := by omega
  have hkl : (recFlat (tapeOf 2 B2)).length = 10 * k := by rw [recFlat_len, hl2]
  have HRow3 : Hid (RowK .i64 V2 (some ⟨G, 0, none⟩) (10 * k) (recFlat (tapeOf 2 B2))) := veil (by rw [hl2] at row3; exact row3)
  clear hB2 htk hok2 hrun2 hBA hl2 row3 HRow hk htl
  go_upto_region 5 with (first | (refine cutR_hm _ _ _ rfl rfl rfl rfl rfl hk2 ?_) | (go_at_call 15; refine (unveil HA1).mono ?_; rintro x V3 ⟨Y, f, A, K, rfl, fb, hf, hz, hY, b3⟩; clear HA1))
  have HRow4 := veil ((unveil HRow3).below b3)
  have HFb := veil fb
  have HKd := veil ((unveil HKc).next b3)
  have hYl := fb.b.lt
  clear HRow3 HKc b3 fb hz
  go_cut [14, 15, 16] (fun p q r wx => p = .slice none 0 0 ∧ q = .int .i64 k ∧ r = .int .i64 3 ∧ Below V3.heap.size V3 wx)
  case first =>
    have r4 := unveil HRow4
    have recA_wf : ∀ u ∈ recTen (recA 2 E), (Lit.int .i64 u).wf = true := by
      intro u hu
      simp only [recTen, recA, List.mem_cons, List.not_mem_nil, or_false] at hu
      rcases hu with g | g | g | g | g | g | g | g | g | g <;> rw [g] <;> first | decide | exact lit_wfR (by omega) (by omega)
    have hwf2 : ∀ u ∈ recFlat (tapeOf 2 B2) ++ recTen (recA 2 E), (Lit.int .i64 u).wf = true := fun u hu => (List.mem_append.1 hu).elim (r4.wf u) (recA_wf u)
    refine wp_region_held_drew (S := Below V3.heap.size V3) (by kernel_rfl) (below_drew V3) (fun hHeld => ?_)
    refine wpAnyH_take (i := 0) (v := .slice (some ⟨G, 0, none⟩) (es.length + 1) c2) rfl (by kernel_rfl) (by kernel_rfl) (by kernel_rfl) (fun _ _ _ h => h) (Or.inl ⟨by rfl, fun _ _ => by go_simp⟩) hHeld ?_
    simp only [List.getElem_toArray, List.getElem_cons_zero, Act.put, List.setIfInBounds_toArray, List.set_cons_zero, List.set_cons_succ]
    refine wpAnyH_take (i := 1) (v := .int .i64 k) rfl (by kernel_rfl) (by kernel_rfl) (by kernel_rfl) (fun _ _ _ h => h) (Or.inl ⟨by rfl, fun _ _ => by go_simp⟩) hHeld ?_
    simp only [List.getElem_toArray, List.getElem_cons_zero, List.getElem_cons_succ, Act.put, List.setIfInBounds_toArray, List.set_cons_zero, List.set_cons_succ]
    refine wpAnyH_take (i := 2) (v := .slice (some ⟨G, 0, none⟩) k c2) rfl (by kernel_rfl) (by kernel_rfl) (by kernel_rfl) (fun _ _ _ h => h) (yields_cutR_h _ _ rfl rfl rfl rfl hk2) hHeld ?_
    simp only [List.getElem_toArray, List.getElem_cons_zero, List.getElem_cons_succ, Act.put, List.setIfInBounds_toArray, List.set_cons_zero, List.set_cons_succ]
    refine wpAnyH_take (i := 4) (v := .pointer (some ⟨Rb, 1, none⟩)) rfl (by kernel_rfl) (by kernel_rfl) (by kernel_rfl) (fun _ _ _ h => h) (Or.inl ⟨by rfl, fun _ _ => by go_simp⟩) hHeld ?_
    simp only [List.getElem_toArray, List.getElem_cons_zero, List.getElem_cons_succ, Act.put, List.setIfInBounds_toArray, List.set_cons_zero, List.set_cons_succ]
    refine wpAnyH_take (i := 5) (v := .int .i64 E) rfl (by kernel_rfl) (by kernel_rfl) (by kernel_rfl) (fun _ _ _ h => h) (Or.inl ⟨by rfl, fun u b => by obtain ⟨z0, z1, z2, z3, z4, z5⟩ := ((unveil HKd).next b).b.cells; go_simp⟩) hHeld ?_
    simp only [List.getElem_toArray, List.getElem_cons_zero, List.getElem_cons_succ, Act.put, List.setIfInBounds_toArray, List.set_cons_zero, List.set_cons_succ]
    refine wpAnyH_take (i := 6) (v := .agg #[.int .i64 6, .int .i64 2, .int .i64 E, .int .i64 0, .int .i64 0, .int .i64 0, .int .i64 0, .int .i64 0, .int .i64 0, .int .i64 0]) rfl (by kernel_rfl) (by kernel_rfl) (by kernel_rfl) (fun _ _ _ h => h) (Or.inl ⟨by rfl, fun _ _ => by go_simp⟩) hHeld ?_
    simp only [List.getElem_toArray, List.getElem_cons_zero, List.getElem_cons_succ, Act.put, List.setIfInBounds_toArray, List.set_cons_zero, List.set_cons_succ]
    have bW0 := below_drew V3
    have r4 := r4.below bW0
    obtain ⟨W0, hW0⟩ : ∃ W0, W0 = V3.drew := ⟨_, rfl⟩
    rw [← hW0] at bW0 r4 hHeld ⊢
    clear hW0
    refine wpAnyH_ready (rs := [3, 7]) (by kernel_rfl) (by simp) ?_
    refine AllReadyH.cons rfl (fun K hK => ?_) (AllReadyH.cons rfl (fun K hK => ?_) AllReadyH.nil)
    · simp only [List.getElem_toArray, List.getElem_cons_zero, List.getElem_cons_succ]
      refine ite_wanted rfl ?_
      refine wp_append_rows (.const (.slice none 0 0)) (.tmp 42) 37 rfl V3.heap.size 30 i3 _ 10 80 Tryz.underlying37 hi3 hz30 hz31 hz32 rfl (by decide) (.slice none 0 0) 0 [] rfl (World.ownsRow_nil _ _ _ _) (some ⟨G, 0, none⟩) k c2 (recFlat (tapeOf 2 B2)) rfl r4 (fun h => by cases h) (by unfold maxLen; omega) (by omega) bW0.size ?_
      intro va W1 oa ga
      simp only [Nat.zero_add, List.nil_append] at oa
      obtain ⟨aa, ka, rfl⟩ := own_form oa
      have bn : Below W0.heap.size W0 W1 := (Below.refl _ _).grown ga (Nat.le_refl _) (by simp [Value.ownBlock])
      clear ga
      have bW1 := Below.next bW0 bn
      have r4 := r4.below bn
      clear bn
      refine hK.out _ _ bW1 (fun hHeld => ?_)
      clear hK K
      refine wpAnyH_ready (rs := [7]) (by kernel_rfl) (by simp) ?_
      refine AllReadyH.cons rfl (fun K hK => ?_) AllReadyH.nil
      simp only [List.getElem_toArray, List.getElem_cons_zero, List.getElem_cons_succ]
      go_simp
      obtain ⟨W2, hN, lr, bn⟩ : ∃ W, W = W1.alloc (.cells #[.int .i64 6, .int .i64 2, .int .i64 E, .int .i64 0, .int .i64 0, .int .i64 0, .int .i64 0, .int .i64 0, .int .i64 0, .int .i64 0] 30) ∧ RowK .i64 W (some ⟨W1.heap.size, 0, none⟩) 10 (recTen (recA 2 E)) ∧ Below W1.heap.size W1 W := ⟨_, rfl, row_ten W1 (recA 2 E) recA_wf, below1 _ _⟩
      rw [← hN]
      clear hN
      obtain ⟨L, hL⟩ : ∃ L, L = W1.heap.size := ⟨_, rfl⟩
      rw [← hL] at lr ⊢
      clear hL
      have bW2 := Below.next bW1 bn
      have r4 := r4.below bn
      have oa := own_still oa (fun g _ hg => bn.block g hg)
      clear bn
      refine hK.out _ _ bW2 (fun hHeld => ?_)
      clear hK K
      refine wpAnyH_ready (rs := [8]) (by kernel_rfl) (by simp) ?_
      refine AllReadyH.cons rfl (fun K hK => ?_) AllReadyH.nil
      simp only [List.getElem_toArray, List.getElem_cons_zero, List.getElem_cons_succ]
      refine ite_wanted rfl ?_
      refine wp_append_rows (.tmp 43) (.tmp 47) 37 rfl V3.heap.size 30 i3 _ 10 80 Tryz.underlying37 hi3 hz30 hz31 hz32 rfl (by decide) _ k (recFlat (tapeOf 2 B2)) rfl oa (some ⟨L, 0, none⟩) 1 1 (recTen (recA 2 E)) rfl lr (fun h => by cases h) (by unfold maxLen; omega) (by omega) bW2.size ?_
      intro vb W3 ob gb
      have bW3 : Below V3.heap.size V3 W3 := bW2.grown gb bW2.size (fun g hg => (oa.lt g hg).1)
      obtain ⟨ab, kb, rfl, rb, hkb, _, _, _⟩ := RowK.ofMany ob hwf2
      clear gb ob oa lr
      refine hK.out _ _ bW3 (fun hHeld => ?_)
      clear hK K
      refine wpAnyH_ready (rs := [9]) (by kernel_rfl) (by simp) ?_
      refine AllReadyH.cons rfl (fun K hK => ?_) AllReadyH.nil
      simp only [List.getElem_toArray, List.getElem_cons_zero, List.getElem_cons_succ]
      go_simp
      refine (unveil HA2 W3 ab kb rb hkb).mono ?_
      rintro e W4 ⟨rfl, bn⟩
      clear rb
      have bW4 := Below.next bW3 bn
      clear bn
      refine hK.out _ _ bW4 (fun hHeld => ?_)
      clear hK K
      refine wpAnyH_take (i := 10) (v := .tuple #[.slice none 0 0, .int .i64 k, .int .i64 3]) rfl (by kernel_rfl) (by kernel_rfl) (by kernel_rfl) (fun _ _ _ h => h) (Or.inl ⟨by rfl, fun _ _ => by go_simp⟩) hHeld ?_
      simp only [List.getElem_toArray, List.getElem_cons_zero, List.getElem_cons_succ, Act.put, List.setIfInBounds_toArray, List.set_cons_zero, List.set_cons_succ]
      refine wpAnyH_take (i := 11) (v := .slice none 0 0) rfl (by kernel_rfl) (by kernel_rfl) (by kernel_rfl) (fun _ _ _ h => h) (Or.inl ⟨by rfl, fun _ _ => by go_simp⟩) hHeld ?_
      simp only [List.getElem_toArray, List.getElem_cons_zero, List.getElem_cons_succ, Act.put, List.setIfInBounds_toArray, List.set_cons_zero, List.set_cons_succ]
      refine wpAnyH_take (i := 12) (v := .int .i64 k) rfl (by kernel_rfl) (by kernel_rfl) (by kernel_rfl) (fun _ _ _ h => h) (Or.inl ⟨by rfl, fun _ _ => by go_simp⟩) hHeld ?_
      simp only [List.getElem_toArray, List.getElem_cons_zero, List.getElem_cons_succ, Act.put, List.setIfInBounds_toArray, List.set_cons_zero, List.set_cons_succ]
      refine wpAnyH_take (i := 13) (v := .int .i64 3) rfl (by kernel_rfl) (by kernel_rfl) (by kernel_rfl) (fun _ _ _ h => h) (Or.inl ⟨by rfl, fun _ _ => by go_simp⟩) hHeld ?_
      simp only [List.getElem_toArray, List.getElem_cons_zero, List.getElem_cons_succ, Act.put, List.setIfInBounds_toArray, List.set_cons_zero, List.set_cons_succ]
      refine wpAnyH_take (i := 14) (v := .slice none 0 0) rfl (by kernel_rfl) (by kernel_rfl) (by kernel_rfl) (fun _ _ _ h => h) (Or.inl ⟨by rfl, fun _ _ => by go_simp⟩) hHeld ?_
      simp only [List.getElem_toArray, List.getElem_cons_zero, List.getElem_cons_succ, Act.put, List.setIfInBounds_toArray, List.set_cons_zero, List.set_cons_succ]
      refine wpAnyH_take (i := 15) (v := .int .i64 k) rfl (by kernel_rfl) (by kernel_rfl) (by kernel_rfl) (fun _ _ _ h => h) (Or.inl ⟨by rfl, fun _ _ => by go_simp⟩) hHeld ?_
      simp only [List.getElem_toArray, List.getElem_cons_zero, List.getElem_cons_succ, Act.put, List.setIfInBounds_toArray, List.set_cons_zero, List.set_cons_succ]
      refine wpAnyH_take (i := 16) (v := .int .i64 3) rfl (by kernel_rfl) (by kernel_rfl) (by kernel_rfl) (fun _ _ _ h => h) (Or.inl ⟨by rfl, fun _ _ => by go_simp⟩) hHeld ?_
      simp only [List.getElem_toArray, List.getElem_cons_zero, List.getElem_cons_succ, Act.put, List.setIfInBounds_toArray, List.set_cons_zero, List.set_cons_succ]
      refine wpAnyH_done (by kernel_rfl) ?_ _
      go_wp2_with fail
      go_meet
      exact ⟨rfl, rfl, rfl, bW4⟩
    · simp only [List.getElem_toArray, List.getElem_cons_zero, List.getElem_cons_succ]
      go_simp
      obtain ⟨W1, hN, lr, bn⟩ : ∃ W, W = W0.alloc (.cells #[.int .i64 6, .int .i64 2, .int .i64 E, .int .i64 0, .int .i64 0, .int .i64 0, .int .i64 0, .int .i64 0, .int .i64 0, .int .i64 0] 30) ∧ RowK .i64 W (some ⟨W0.heap.size, 0, none⟩) 10 (recTen (recA 2 E)) ∧ Below W0.heap.size W0 W := ⟨_, rfl, row_ten W0 (recA 2 E) recA_wf, below1 _ _⟩
      rw [← hN]
      clear hN
      obtain ⟨L, hL⟩ : ∃ L, L = W0.heap.size := ⟨_, rfl⟩
      rw [← hL] at lr ⊢
      clear hL
      have bW1 := Below.next bW0 bn
      have r4 := r4.below bn
      clear bn
      refine hK.out _ _ bW1 (fun hHeld => ?_)
      clear hK K
      refine wpAnyH_ready (rs := [3]) (by kernel_rfl) (by simp) ?_
      refine AllReadyH.cons rfl (fun K hK => ?_) AllReadyH.nil
      simp only [List.getElem_toArray, List.getElem_cons_zero, List.getElem_cons_succ]
      refine ite_wanted rfl ?_
      refine wp_append_rows (.const (.slice none 0 0)) (.tmp 42) 37 rfl V3.heap.size 30 i3 _ 10 80 Tryz.underlying37 hi3 hz30 hz31 hz32 rfl (by decide) (.slice none 0 0) 0 [] rfl (World.ownsRow_nil _ _ _ _) (some ⟨G, 0, none⟩) k c2 (recFlat (tapeOf 2 B2)) rfl r4 (fun h => by cases h) (by unfold maxLen; omega) (by omega) bW1.size ?_
      intro va W2 oa ga
      simp only [Nat.zero_add, List.nil_append] at oa
      obtain ⟨aa, ka, rfl⟩ := own_form oa
      have bn : Below W1.heap.size W1 W2 := (Below.refl _ _).grown ga (Nat.le_refl _) (by simp [Value.ownBlock])
      clear ga
      have bW2 := Below.next bW1 bn
      have r4 := r4.below bn
      have lr := lr.below bn
      clear bn
      refine hK.out _ _ bW2 (fun hHeld => ?_)
      clear hK K
      refine wpAnyH_ready (rs := [8]) (by kernel_rfl) (by simp) ?_
      refine AllReadyH.cons rfl (fun K hK => ?_) AllReadyH.nil
      simp only [List.getElem_toArray, List.getElem_cons_zero, List.getElem_cons_succ]
      refine ite_wanted rfl ?_
      refine wp_append_rows (.tmp 43) (.tmp 47) 37 rfl V3.heap.size 30 i3 _ 10 80 Tryz.underlying37 hi3 hz30 hz31 hz32 rfl (by decide) _ k (recFlat (tapeOf 2 B2)) rfl oa (some ⟨L, 0, none⟩) 1 1 (recTen (recA 2 E)) rfl lr (fun h => by cases h) (by unfold maxLen; omega) (by omega) bW2.size ?_
      intro vb W3 ob gb
      have bW3 : Below V3.heap.size V3 W3 := bW2.grown gb bW2.size (fun g hg => (oa.lt g hg).1)
      obtain ⟨ab, kb, rfl, rb, hkb, _, _, _⟩ := RowK.ofMany ob hwf2
      clear gb ob oa lr
      refine hK.out _ _ bW3 (fun hHeld => ?_)
      clear hK K
      refine wpAnyH_ready (rs := [9]) (by kernel_rfl) (by simp) ?_
      refine AllReadyH.cons rfl (fun K hK => ?_) AllReadyH.nil
      simp only [List.getElem_toArray, List.getElem_cons_zero, List.getElem_cons_succ]
      go_simp
      refine (unveil HA2 W3 ab kb rb hkb).mono ?_
      rintro e W4 ⟨rfl, bn⟩
      clear rb
      have bW4 := Below.next bW3 bn
      clear bn
      refine hK.out _ _ bW4 (fun hHeld => ?_)
      clear hK K
      refine wpAnyH_take (i := 10) (v := .tuple #[.slice none 0 0, .int .i64 k, .int .i64 3]) rfl (by kernel_rfl) (by kernel_rfl) (by kernel_rfl) (fun _ _ _ h => h) (Or.inl ⟨by rfl, fun _ _ => by go_simp⟩) hHeld ?_
      simp only [List.getElem_toArray, List.getElem_cons_zero, List.getElem_cons_succ, Act.put, List.setIfInBounds_toArray, List.set_cons_zero, List.set_cons_succ]
      refine wpAnyH_take (i := 11) (v := .slice none 0 0) rfl (by kernel_rfl) (by kernel_rfl) (by kernel_rfl) (fun _ _ _ h => h) (Or.inl ⟨by rfl, fun _ _ => by go_simp⟩) hHeld ?_
      simp only [List.getElem_toArray, List.getElem_cons_zero, List.getElem_cons_succ, Act.put, List.setIfInBounds_toArray, List.set_cons_zero, List.set_cons_succ]
      refine wpAnyH_take (i := 12) (v := .int .i64 k) rfl (by kernel_rfl) (by kernel_rfl) (by kernel_rfl) (fun _ _ _ h => h) (Or.inl ⟨by rfl, fun _ _ => by go_simp⟩) hHeld ?_
      simp only [List.getElem_toArray, List.getElem_cons_zero, List.getElem_cons_succ, Act.put, List.setIfInBounds_toArray, List.set_cons_zero, List.set_cons_succ]
      refine wpAnyH_take (i := 13) (v := .int .i64 3) rfl (by kernel_rfl) (by kernel_rfl) (by kernel_rfl) (fun _ _ _ h => h) (Or.inl ⟨by rfl, fun _ _ => by go_simp⟩) hHeld ?_
      simp only [List.getElem_toArray, List.getElem_cons_zero, List.getElem_cons_succ, Act.put, List.setIfInBounds_toArray, List.set_cons_zero, List.set_cons_succ]
      refine wpAnyH_take (i := 14) (v := .slice none 0 0) rfl (by kernel_rfl) (by kernel_rfl) (by kernel_rfl) (fun _ _ _ h => h) (Or.inl ⟨by rfl, fun _ _ => by go_simp⟩) hHeld ?_
      simp only [List.getElem_toArray, List.getElem_cons_zero, List.getElem_cons_succ, Act.put, List.setIfInBounds_toArray, List.set_cons_zero, List.set_cons_succ]
      refine wpAnyH_take (i := 15) (v := .int .i64 k) rfl (by kernel_rfl) (by kernel_rfl) (by kernel_rfl) (fun _ _ _ h => h) (Or.inl ⟨by rfl, fun _ _ => by go_simp⟩) hHeld ?_
      simp only [List.getElem_toArray, List.getElem_cons_zero, List.getElem_cons_succ, Act.put, List.setIfInBounds_toArray, List.set_cons_zero, List.set_cons_succ]
      refine wpAnyH_take (i := 16) (v := .int .i64 3) rfl (by kernel_rfl) (by kernel_rfl) (by kernel_rfl) (fun _ _ _ h => h) (Or.inl ⟨by rfl, fun _ _ => by go_simp⟩) hHeld ?_
      simp only [List.getElem_toArray, List.getElem_cons_zero, List.getElem_cons_succ, Act.put, List.setIfInBounds_toArray, List.set_cons_zero, List.set_cons_succ]
      refine wpAnyH_done (by kernel_rfl) ?_ _
      go_wp2_with fail
      go_meet
      exact ⟨rfl, rfl, rfl, bW4⟩
  case rest =>
    obtain ⟨rfl, rfl, rfl, b5⟩ := hcut
    have HF5 := veil ((unveil HFb).next b5)
    have HK5 := veil ((unveil HKd).next b5)
    clear HFb HKd HRow4 HA2
    have HB5 := veil (unveil HK5).bel
    have HSm : Hid (∀ u, Below wc.heap.size wc u → Calls Tryz.prog 26 #[.slice (A 2) j (K 2), .slice (cutA a c 0) j c] u fun x w' => x = .returned (.bool true) ∧ Below u.heap.size u w') := veil fun u b => by
      have h1 := (((unveil HF5).next b).bin 2 (by omega)).row
      rw [hf, unveil HB2] at h1
      have h2 := (cut_row ((unveil HK5).next b).i.row ((unveil HK5).next b).i.nil 0 j (by omega) hje ((unveil HK5).next b).i.cap).1
      simp only [List.drop_zero, Nat.sub_zero] at h2
      have e1 : (es.take j).length = j := by rw [List.length_take]; omega
      rw [e1] at h1
      exact sameEventsK_below (A 2) (cutA a c 0) j (K 2) c (evFlat (es.take j)) u h1 h2 (by omega)
    have HCells : Hid (∀ u, Below wc.heap.size wc u → u.cell? ⟨Y, 12, none⟩ = some (.int .i64 1) ∧ u.cell? ⟨Y, 17, none⟩ = some (.slice (A 2) j (K 2)) ∧ u.cell? ⟨Rb, 5, none⟩ = some (.slice a es.length c)) := veil fun u b => by
      have h1 := ((unveil HF5).next b).b.at 2 (by omega)
      rw [hf, unveil HB2] at h1
      have e1 : (es.take j).length = j := by rw [List.length_take]; omega
      obtain ⟨r0, _, _, _, _, r5⟩ := h1
      simp only [e1] at r5
      exact ⟨r0, r5, ((unveil HK5).next b).b.cells.2.2.2.2.2⟩
    have hjc : j ≤ c := by have h1 : es.length ≤ c := (unveil HK5).i.cap; omega
    clear hf HF5 HK5 b5 HB2 HOk HT
    go_upto_region 6 with fail
    refine wp_region_held_drew (S := Below wc.heap.size wc) (by kernel_rfl) (below_drew wc) (fun hHeld => ?_)
    refine wpAnyH_take (i := 0) (v := .bool true) rfl (by kernel_rfl) (by kernel_rfl) (by kernel_rfl) (fun _ _ _ h => h) (Or.inl ⟨by rfl, fun _ _ => by go_simp⟩) hHeld ?_
    simp only [List.getElem_toArray, List.getElem_cons_zero, Act.put, List.setIfInBounds_toArray, List.set_cons_zero, List.set_cons_succ]
    refine wpAnyH_take (i := 1) (v := .bool true) rfl (by kernel_rfl) (by kernel_rfl) (by kernel_rfl) (fun _ _ _ h => h) (Or.inl ⟨by rfl, fun _ _ => by go_simp⟩) hHeld ?_
    simp only [List.getElem_toArray, List.getElem_cons_zero, List.getElem_cons_succ, Act.put, List.setIfInBounds_toArray, List.set_cons_zero, List.set_cons_succ]
    refine wpAnyH_take (i := 2) (v := .int .i64 0) rfl (by kernel_rfl) (by kernel_rfl) (by kernel_rfl) (fun _ _ _ h => h) (Or.inl ⟨by rfl, fun _ _ => by go_simp⟩) hHeld ?_
    simp only [List.getElem_toArray, List.getElem_cons_zero, List.getElem_cons_succ, Act.put, List.setIfInBounds_toArray, List.set_cons_zero, List.set_cons_succ]
    refine wpAnyH_take (i := 3) (v := .bool true) rfl (by kernel_rfl) (by kernel_rfl) (by kernel_rfl) (fun _ _ _ h => h) (Or.inl ⟨by rfl, fun _ _ => by go_simp⟩) hHeld ?_
    simp only [List.getElem_toArray, List.getElem_cons_zero, List.getElem_cons_succ, Act.put, List.setIfInBounds_toArray, List.set_cons_zero, List.set_cons_succ]
    refine wpAnyH_take (i := 4) (v := .bool true) rfl (by kernel_rfl) (by kernel_rfl) (by kernel_rfl) (fun _ _ _ h => h) (Or.inl ⟨by rfl, fun _ _ => by go_simp⟩) hHeld ?_
    simp only [List.getElem_toArray, List.getElem_cons_zero, List.getElem_cons_succ, Act.put, List.setIfInBounds_toArray, List.set_cons_zero, List.set_cons_succ]
    refine wpAnyH_take (i := 5) (v := .bool true) rfl (by kernel_rfl) (by kernel_rfl) (by kernel_rfl) (fun _ _ _ h => h) (Or.inl ⟨by rfl, fun _ _ => by go_simp⟩) hHeld ?_
    simp only [List.getElem_toArray, List.getElem_cons_zero, List.getElem_cons_succ, Act.put, List.setIfInBounds_toArray, List.set_cons_zero, List.set_cons_succ]
    refine wpAnyH_take (i := 6) (v := .int .i64 3) rfl (by kernel_rfl) (by kernel_rfl) (by kernel_rfl) (fun _ _ _ h => h) (Or.inl ⟨by rfl, fun _ _ => by go_simp⟩) hHeld ?_
    simp only [List.getElem_toArray, List.getElem_cons_zero, List.getElem_cons_succ, Act.put, List.setIfInBounds_toArray, List.set_cons_zero, List.set_cons_succ]
    refine wpAnyH_take (i := 7) (v := .bool true) rfl (by kernel_rfl) (by kernel_rfl) (by kernel_rfl) (fun _ _ _ h => h) (Or.inl ⟨by rfl, fun _ _ => by go_simp⟩) hHeld ?_
    simp only [List.getElem_toArray, List.getElem_cons_zero, List.getElem_cons_succ, Act.put, List.setIfInBounds_toArray, List.set_cons_zero, List.set_cons_succ]
    refine wpAnyH_take (i := 8) (v := .bool true) rfl (by kernel_rfl) (by kernel_rfl) (by kernel_rfl) (fun _ _ _ h => h) (Or.inl ⟨by rfl, fun _ _ => by go_simp⟩) hHeld ?_
    simp only [List.getElem_toArray, List.getElem_cons_zero, List.getElem_cons_succ, Act.put, List.setIfInBounds_toArray, List.set_cons_zero, List.set_cons_succ]
    refine wpAnyH_take (i := 9) (v := .bool true) rfl (by kernel_rfl) (by kernel_rfl) (by kernel_rfl) (fun _ _ _ h => h) (Or.inl ⟨by rfl, fun _ _ => by go_simp⟩) hHeld ?_
    simp only [List.getElem_toArray, List.getElem_cons_zero, List.getElem_cons_succ, Act.put, List.setIfInBounds_toArray, List.set_cons_zero, List.set_cons_succ]
    refine wpAnyH_take (i := 10) (v := .int .i64 k) rfl (by kernel_rfl) (by kernel_rfl) (by kernel_rfl) (fun _ _ _ h => h) (Or.inl ⟨by rfl, fun _ _ => by go_simp⟩) hHeld ?_
    simp only [List.getElem_toArray, List.getElem_cons_zero, List.getElem_cons_succ, Act.put, List.setIfInBounds_toArray, List.set_cons_zero, List.set_cons_succ]
    refine wpAnyH_take (i := 11) (v := .int .i64 k) rfl (by kernel_rfl) (by kernel_rfl) (by kernel_rfl) (fun _ _ _ h => h) (Or.inl ⟨by rfl, fun _ _ => by go_simp⟩) hHeld ?_
    simp only [List.getElem_toArray, List.getElem_cons_zero, List.getElem_cons_succ, Act.put, List.setIfInBounds_toArray, List.set_cons_zero, List.set_cons_succ]
    refine wpAnyH_take (i := 12) (v := .bool true) rfl (by kernel_rfl) (by kernel_rfl) (by kernel_rfl) (fun _ _ _ h => h) (Or.inl ⟨by rfl, fun _ _ => by go_simp⟩) hHeld ?_
    simp only [List.getElem_toArray, List.getElem_cons_zero, List.getElem_cons_succ, Act.put, List.setIfInBounds_toArray, List.set_cons_zero, List.set_cons_succ]
    refine wpAnyH_take (i := 13) (v := .bool true) rfl (by kernel_rfl) (by kernel_rfl) (by kernel_rfl) (fun _ _ _ h => h) (Or.inl ⟨by rfl, fun _ _ => by go_simp⟩) hHeld ?_
    simp only [List.getElem_toArray, List.getElem_cons_zero, List.getElem_cons_succ, Act.put, List.setIfInBounds_toArray, List.set_cons_zero, List.set_cons_succ]
    refine wpAnyH_take (i := 14) (v := .bool true) rfl (by kernel_rfl) (by kernel_rfl) (by kernel_rfl) (fun _ _ _ h => h) (Or.inl ⟨by rfl, fun _ _ => by go_simp⟩) hHeld ?_
    simp only [List.getElem_toArray, List.getElem_cons_zero, List.getElem_cons_succ, Act.put, List.setIfInBounds_toArray, List.set_cons_zero, List.set_cons_succ]
    refine wpAnyH_take (i := 15) (v := .slice none 0 0) rfl (by kernel_rfl) (by kernel_rfl) (by kernel_rfl) (fun _ _ _ h => h) (Or.inl ⟨by rfl, fun _ _ => by go_simp⟩) hHeld ?_
    simp only [List.getElem_toArray, List.getElem_cons_zero, List.getElem_cons_succ, Act.put, List.setIfInBounds_toArray, List.set_cons_zero, List.set_cons_succ]
    refine wpAnyH_take (i := 16) (v := .int .i64 0) rfl (by kernel_rfl) (by kernel_rfl) (by kernel_rfl) (fun _ _ _ h => h) (Or.inl ⟨by rfl, fun _ _ => by go_simp⟩) hHeld ?_
    simp only [List.getElem_toArray, List.getElem_cons_zero, List.getElem_cons_succ, Act.put, List.setIfInBounds_toArray, List.set_cons_zero, List.set_cons_succ]
    refine wpAnyH_take (i := 17) (v := .bool true) rfl (by kernel_rfl) (by kernel_rfl) (by kernel_rfl) (fun _ _ _ h => h) (Or.inl ⟨by rfl, fun _ _ => by go_simp⟩) hHeld ?_
    simp only [List.getElem_toArray, List.getElem_cons_zero, List.getElem_cons_succ, Act.put, List.setIfInBounds_toArray, List.set_cons_zero, List.set_cons_succ]
    refine wpAnyH_take (i := 18) (v := .bool true) rfl (by kernel_rfl) (by kernel_rfl) (by kernel_rfl) (fun _ _ _ h => h) (Or.inl ⟨by rfl, fun _ _ => by go_simp⟩) hHeld ?_
    simp only [List.getElem_toArray, List.getElem_cons_zero, List.getElem_cons_succ, Act.put, List.setIfInBounds_toArray, List.set_cons_zero, List.set_cons_succ]
    refine wpAnyH_take (i := 19) (v := .bool true) rfl (by kernel_rfl) (by kernel_rfl) (by kernel_rfl) (fun _ _ _ h => h) (Or.inl ⟨by rfl, fun _ _ => by go_simp⟩) hHeld ?_
    simp only [List.getElem_toArray, List.getElem_cons_zero, List.getElem_cons_succ, Act.put, List.setIfInBounds_toArray, List.set_cons_zero, List.set_cons_succ]
    refine wpAnyH_take (i := 20) (v := .slice (some ⟨Y, 0, none⟩) 4 4) rfl (by kernel_rfl) (by kernel_rfl) (by kernel_rfl) (fun _ _ _ h => h) (Or.inl ⟨by rfl, fun _ _ => by go_simp⟩) hHeld ?_
    simp only [List.getElem_toArray, List.getElem_cons_zero, List.getElem_cons_succ, Act.put, List.setIfInBounds_toArray, List.set_cons_zero, List.set_cons_succ]
    refine wpAnyH_take (i := 21) (v := .int .i64 4) rfl (by kernel_rfl) (by kernel_rfl) (by kernel_rfl) (fun _ _ _ h => h) (Or.inl ⟨by rfl, fun _ _ => by go_simp⟩) hHeld ?_
    simp only [List.getElem_toArray, List.getElem_cons_zero, List.getElem_cons_succ, Act.put, List.setIfInBounds_toArray, List.set_cons_zero, List.set_cons_succ]
    refine wpAnyH_take (i := 22) (v := .bool true) rfl (by kernel_rfl) (by kernel_rfl) (by kernel_rfl) (fun _ _ _ h => h) (Or.inl ⟨by rfl, fun _ _ => by go_simp⟩) hHeld ?_
    simp only [List.getElem_toArray, List.getElem_cons_zero, List.getElem_cons_succ, Act.put, List.setIfInBounds_toArray, List.set_cons_zero, List.set_cons_succ]
    refine wpAnyH_take (i := 23) (v := .bool true) rfl (by kernel_rfl) (by kernel_rfl) (by kernel_rfl) (fun _ _ _ h => h) (Or.inl ⟨by rfl, fun _ _ => by go_simp⟩) hHeld ?_
    simp only [List.getElem_toArray, List.getElem_cons_zero, List.getElem_cons_succ, Act.put, List.setIfInBounds_toArray, List.set_cons_zero, List.set_cons_succ]
    refine wpAnyH_take (i := 24) (v := .bool true) rfl (by kernel_rfl) (by kernel_rfl) (by kernel_rfl) (fun _ _ _ h => h) (Or.inl ⟨by rfl, fun _ _ => by go_simp⟩) hHeld ?_
    simp only [List.getElem_toArray, List.getElem_cons_zero, List.getElem_cons_succ, Act.put, List.setIfInBounds_toArray, List.set_cons_zero, List.set_cons_succ]
    refine wpAnyH_take (i := 25) (v := .slice (some ⟨Y, 0, none⟩) 4 4) rfl (by kernel_rfl) (by kernel_rfl) (by kernel_rfl) (fun _ _ _ h => h) (Or.inl ⟨by rfl, fun _ _ => by go_simp⟩) hHeld ?_
    simp only [List.getElem_toArray, List.getElem_cons_zero, List.getElem_cons_succ, Act.put, List.setIfInBounds_toArray, List.set_cons_zero, List.set_cons_succ]
    refine wpAnyH_take (i := 26) (v := .pointer (some ⟨Y, 12, none⟩)) rfl (by kernel_rfl) (by kernel_rfl) (by kernel_rfl) (fun _ _ _ h => h) (Or.inl ⟨by rfl, fun _ _ => by go_simp⟩) hHeld ?_
    simp only [List.getElem_toArray, List.getElem_cons_zero, List.getElem_cons_succ, Act.put, List.setIfInBounds_toArray, List.set_cons_zero, List.set_cons_succ]
    refine wpAnyH_take (i := 27) (v := .pointer (some ⟨Y, 17, none⟩)) rfl (by kernel_rfl) (by kernel_rfl) (by kernel_rfl) (fun _ _ _ h => h) (Or.inl ⟨by rfl, fun _ _ => by go_simp⟩) hHeld ?_
    simp only [List.getElem_toArray, List.getElem_cons_zero, List.getElem_cons_succ, Act.put, List.setIfInBounds_toArray, List.set_cons_zero, List.set_cons_succ]
    refine wpAnyH_take (i := 28) (v := .slice (A 2) j (K 2)) rfl (by kernel_rfl) (by kernel_rfl) (by kernel_rfl) (fun _ _ _ h => h) (Or.inl ⟨by rfl, fun u b => by obtain ⟨y0, y1, y2⟩ := unveil HCells u b; go_simp⟩) hHeld ?_
    simp only [List.getElem_toArray, List.getElem_cons_zero, List.getElem_cons_succ, Act.put, List.setIfInBounds_toArray, List.set_cons_zero, List.set_cons_succ]
    refine wpAnyH_take (i := 29) (v := .pointer (some ⟨Rb, 5, none⟩)) rfl (by kernel_rfl) (by kernel_rfl) (by kernel_rfl) (fun _ _ _ h => h) (Or.inl ⟨by rfl, fun _ _ => by go_simp⟩) hHeld ?_
    simp only [List.getElem_toArray, List.getElem_cons_zero, List.getElem_cons_succ, Act.put, List.setIfInBounds_toArray, List.set_cons_zero, List.set_cons_succ]
    refine wpAnyH_take (i := 30) (v := .slice a es.length c) rfl (by kernel_rfl) (by kernel_rfl) (by kernel_rfl) (fun _ _ _ h => h) (Or.inl ⟨by rfl, fun u b => by obtain ⟨y0, y1, y2⟩ := unveil HCells u b; go_simp⟩) hHeld ?_
    simp only [List.getElem_toArray, List.getElem_cons_zero, List.getElem_cons_succ, Act.put, List.setIfInBounds_toArray, List.set_cons_zero, List.set_cons_succ]
    refine wpAnyH_take (i := 31) (v := .int .i64 k) rfl (by kernel_rfl) (by kernel_rfl) (by kernel_rfl) (fun _ _ _ h => h) (Or.inl ⟨by rfl, fun _ _ => by go_simp⟩) hHeld ?_
    simp only [List.getElem_toArray, List.getElem_cons_zero, List.getElem_cons_succ, Act.put, List.setIfInBounds_toArray, List.set_cons_zero, List.set_cons_succ]
    refine wpAnyH_take (i := 32) (v := .int .i64 j) rfl (by kernel_rfl) (by kernel_rfl) (by kernel_rfl) (fun _ _ _ h => h) (Or.inl ⟨by rfl, fun _ _ => by have hkj := unveil HKJ; go_simp; rw [IntKind.wrap_i64]; omega⟩) hHeld ?_
    simp only [List.getElem_toArray, List.getElem_cons_zero, List.getElem_cons_succ, Act.put, List.setIfInBounds_toArray, List.set_cons_zero, List.set_cons_succ]
    refine wpAnyH_take (i := 33) (v := .slice (cutA a c 0) j c) rfl (by kernel_rfl) (by kernel_rfl) (by kernel_rfl) (fun _ _ _ h => h) (yields_cutE_h _ _ rfl rfl rfl rfl hjc) hHeld ?_
    simp only [List.getElem_toArray, List.getElem_cons_zero, List.getElem_cons_succ, Act.put, List.setIfInBounds_toArray, List.set_cons_zero, List.set_cons_succ]
    have bW0 := below_drew wc
    obtain ⟨W0, hW0⟩ : ∃ W0, W0 = wc.drew := ⟨_, rfl⟩
    rw [← hW0] at bW0  hHeld ⊢
    clear hW0
    refine wpAnyH_ready (rs := [34]) (by kernel_rfl) (by simp) ?_
    refine AllReadyH.cons rfl (fun K hK => ?_) AllReadyH.nil
    simp only [List.getElem_toArray, List.getElem_cons_zero, List.getElem_cons_succ]
    go_simp
    refine (unveil HSm W0 bW0).mono ?_
    rintro e W1 ⟨rfl, bn⟩
    have bW1 := Below.next bW0 bn
    clear bn
    refine hK.out _ _ bW1 (fun hHeld => ?_)
    clear hK K
    refine wpAnyH_take (i := 35) (v := .bool true) rfl (by kernel_rfl) (by kernel_rfl) (by kernel_rfl) (fun _ _ _ h => h) (Or.inl ⟨by rfl, fun _ _ => by go_simp⟩) hHeld ?_
    simp only [List.getElem_toArray, List.getElem_cons_zero, List.getElem_cons_succ, Act.put, List.setIfInBounds_toArray, List.set_cons_zero, List.set_cons_succ]
    refine wpAnyH_take (i := 36) (v := .bool true) rfl (by kernel_rfl) (by kernel_rfl) (by kernel_rfl) (fun _ _ _ h => h) (Or.inl ⟨by rfl, fun _ _ => by go_simp⟩) hHeld ?_
    simp only [List.getElem_toArray, List.getElem_cons_zero, List.getElem_cons_succ, Act.put, List.setIfInBounds_toArray, List.set_cons_zero, List.set_cons_succ]
    refine wpAnyH_take (i := 37) (v := .slice (some ⟨Y, 0, none⟩) 4 4) rfl (by kernel_rfl) (by kernel_rfl) (by kernel_rfl) (fun _ _ _ h => h) (Or.inl ⟨by rfl, fun _ _ => by go_simp⟩) hHeld ?_
    simp only [List.getElem_toArray, List.getElem_cons_zero, List.getElem_cons_succ, Act.put, List.setIfInBounds_toArray, List.set_cons_zero, List.set_cons_succ]
    refine wpAnyH_take (i := 38) (v := .pointer (some ⟨Y, 12, none⟩)) rfl (by kernel_rfl) (by kernel_rfl) (by kernel_rfl) (fun _ _ _ h => h) (Or.inl ⟨by rfl, fun _ _ => by go_simp⟩) hHeld ?_
    simp only [List.getElem_toArray, List.getElem_cons_zero, List.getElem_cons_succ, Act.put, List.setIfInBounds_toArray, List.set_cons_zero, List.set_cons_succ]
    refine wpAnyH_take (i := 39) (v := .pointer (some ⟨Y, 12, none⟩)) rfl (by kernel_rfl) (by kernel_rfl) (by kernel_rfl) (fun _ _ _ h => h) (Or.inl ⟨by rfl, fun _ _ => by go_simp⟩) hHeld ?_
    simp only [List.getElem_toArray, List.getElem_cons_zero, List.getElem_cons_succ, Act.put, List.setIfInBounds_toArray, List.set_cons_zero, List.set_cons_succ]
    refine wpAnyH_take (i := 40) (v := .int .i64 1) rfl (by kernel_rfl) (by kernel_rfl) (by kernel_rfl) (fun _ _ _ h => h) (Or.inl ⟨by rfl, fun u b => by obtain ⟨y0, y1, y2⟩ := unveil HCells u b; go_simp⟩) hHeld ?_
    simp only [List.getElem_toArray, List.getElem_cons_zero, List.getElem_cons_succ, Act.put, List.setIfInBounds_toArray, List.set_cons_zero, List.set_cons_succ]
    refine wpAnyH_take (i := 41) (v := .bool true) rfl (by kernel_rfl) (by kernel_rfl) (by kernel_rfl) (fun _ _ _ h => h) (Or.inl ⟨by rfl, fun _ _ => by go_simp⟩) hHeld ?_
    simp only [List.getElem_toArray, List.getElem_cons_zero, List.getElem_cons_succ, Act.put, List.setIfInBounds_toArray, List.set_cons_zero, List.set_cons_succ]
    refine wpAnyH_take (i := 42) (v := .bool true) rfl (by kernel_rfl) (by kernel_rfl) (by kernel_rfl) (fun _ _ _ h => h) (Or.inl ⟨by rfl, fun _ _ => by go_simp⟩) hHeld ?_
    simp only [List.getElem_toArray, List.getElem_cons_zero, List.getElem_cons_succ, Act.put, List.setIfInBounds_toArray, List.set_cons_zero, List.set_cons_succ]
    refine wpAnyH_take (i := 43) (v := .bool true) rfl (by kernel_rfl) (by kernel_rfl) (by kernel_rfl) (fun _ _ _ h => h) (Or.inl ⟨by rfl, fun _ _ => by go_simp⟩) hHeld ?_
    simp only [List.getElem_toArray, List.getElem_cons_zero, List.getElem_cons_succ, Act.put, List.setIfInBounds_toArray, List.set_cons_zero, List.set_cons_succ]
    refine wpAnyH_done (by kernel_rfl) ?_ _
    go_wp2_with fail
    go_ret
    exact ⟨rfl, Below.next (unveil HB5) bW1⟩
end Go.Proofs.YtcdopnkabbfooaaGreat
