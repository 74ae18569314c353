/- The walk of berthshiftkeep.RebuildOnce. -/
import Derived.Test.YtcdopnkabbfooaaGreatRkTop
namespace Go.Proofs.YtcdopnkabbfooaaGreat
open Go.RowKit

set_option maxRecDepth 20000 in
set_option maxHeartbeats 16000000 in
theorem walk_RebuildOnce (w : World) (ep : Int) (wep : (Lit.int .i64 ep).wf = true) (a0 : Option Addr) (len cap : Nat) (D : List Int) (h : RowK .i64 w a0 (4 * len) D) (_ : len ≤ cap) (_ : cap ≤ maxLen) (_ : a0 = none → cap = 0) (pq : Int) (wpq : (Lit.int .i64 pq).wf = true) :
    Calls Tryz.prog 9 #[.int .i64 ep, .slice a0 len cap, .int .i64 pq] w fun r w' => r = .returned (.bool true) ∧ Below w.heap.size w w' := by
  obtain ⟨i3, hi3, hz30, hz31, hz32⟩ := info_of Tryz.infoRecT
  have HSv := kserved_any ep a0 len cap 20 D w h wep (by omega)
  clear h
  have p0 := pickedOf_range pq 4 (by decide)
  have Pp : ∀ w, Calls Tryz.prog 22 #[.int .i64 pq, .int .i64 4] w fun e w' => e = .returned (.int .i64 (pickedOf pq 4)) ∧ w' = w := fun w => (picked_any pq 4 w wpq (by decide) (by decide)).mono fun _ _ h => ⟨h.1, h.2.symm⟩
  generalize pickedOf pq 4 = p at p0 Pp
  obtain ⟨q, rfl⟩ : ∃ q : Nat, p = q := ⟨p.toNat, by omega⟩
  have hq : q < 4 := by omega
  go_enter Tryz.func9, Tryz.ntmps9
  go_upto_region 2 with (go_at_call 19; refine HSv.mono ?_; rintro x V1 ⟨E, es, s, ans, y, rfl, hist, hl, nb, hE1, hE2, ⟨⟨a, c, rfl, i1, u1⟩⟩, b1⟩; clear HSv)
  obtain ⟨W1, hW1, K1, _⟩ := Kb.new i1 (Below.refl _ _) b1
  rw [← hW1]
  obtain ⟨Rb, hR⟩ : ∃ R, R = V1.heap.size := ⟨_, rfl⟩
  rw [← hR] at K1 ⊢
  clear hW1 hR i1 u1 b1
  have ht := hist.tells
  have HH := veil hist
  have HNB := veil nb
  clear hist nb
  have HKb := veil K1
  clear K1
  have HC := go_act E es s ans a c W1 2 (unveil HKb).i ht (by omega) hE1 hE2 (by omega) (by omega)
  obtain ⟨xb0, xb1, xb2, xb3, xb4, xb5⟩ := (unveil HKb).b.cells
  have lb := (unveil HKb).b.lt
  go_upto_region 3 with (first | (go_at_call 20; refine HC.mono ?_; rintro x V3 ⟨a3, c3, rfl, i3, u3, b3⟩; clear HC xb0 xb1 xb2 xb3 xb4 xb5 lb; obtain ⟨xb0, xb1, xb2, xb3, xb4, xb5⟩ := ((unveil HKb).next b3).b.cells; have xf := ((unveil HKb).next b3).b.free))
  obtain ⟨W3, hW3, K3, t3⟩ := (unveil HKb).put (B' := (Bt.drn E 2 0 es)) i3 u3 b3
  rw [← hW3]
  clear hW3 xf xb0 xb1 xb2 xb3 xb4 xb5
  clear HKb
  have HKb := veil K3
  clear K3 i3 u3 b3 t3
  have HC := caught_all E es s ans a3 c3 W3 2 0 (unveil HKb).i ht (by omega) hE1 hE2 (by omega) (by omega) (by omega) (by omega)
  obtain ⟨xb0, xb1, xb2, xb3, xb4, xb5⟩ := (unveil HKb).b.cells
  have lb := (unveil HKb).b.lt
  go_upto_region 4 with (first | (go_at_call 21; refine HC.mono ?_; rintro x V4 ⟨a4, c4, rfl, i4, u4, b4⟩; clear HC xb0 xb1 xb2 xb3 xb4 xb5 lb; obtain ⟨xb0, xb1, xb2, xb3, xb4, xb5⟩ := ((unveil HKb).next b4).b.cells; have xf := ((unveil HKb).next b4).b.free))
  obtain ⟨W4, hW4, K4, t4⟩ := (unveil HKb).put (B' := (Bt.sld E 2 es)) i4 u4 b4
  rw [← hW4]
  clear hW4 xf xb0 xb1 xb2 xb3 xb4 xb5
  clear HKb
  have HKb := veil K4
  clear K4 i4 u4 b4 t4
  go_upto_region 5 with (go_at_call 22; refine (Pp _).mono ?_; rintro x w9 ⟨rfl, hw9⟩; subst w9; clear Pp)
  have hok : (Bt.sld E 2 es).Ok := ht.sld_ok (by omega) hE1 (by omega) (by omega) (by omega)
  have HRc := records_any q (Bt.sld E 2 es) a4 c4 W4 (unveil HKb).i hok.len (fun u hu => by
    simp only [List.mem_cons, List.not_mem_nil, or_false] at hu
    rcases hu with g | g | g <;> rw [g]
    · exact lit_wfR (by omega) (by omega)
    · exact lit_wfR (show (0 : Int) ≤ E by omega) (show E ≤ 4294967296 by omega)
    · exact lit_wfR (show (0 : Int) ≤ 2 by omega) (show (2 : Int) ≤ 4294967296 by omega))
  have hwf := tape_wf (q := (q : Int)) (B := Bt.sld E 2 es) (by omega) ⟨show (0 : Int) ≤ E by omega, show E ≤ 1048576 by omega⟩ ⟨show (0 : Int) ≤ 2 by omega, show (2 : Int) ≤ 4 by omega⟩ ((unveil HKb).i.row.wf)
  have hrun : Runs Bt.zero (tapeOf q (Bt.sld E 2 es)) (Bt.sld E 2 es) := runs_recs (by omega) hok (.inr rfl)
  have hlen : (tapeOf q (Bt.sld E 2 es)).length = es.length + 2 := by rw [tapeOf_len]; show 1 + es.length + (if (3 : Int) = 3 then 1 else 0) = _; rw [if_pos rfl]; omega
  have hqs : ∀ x ∈ tapeOf q (Bt.sld E 2 es), x.q = (q : Int) := fun x hx => tapeOf_q x hx
  obtain ⟨hgf, hga⟩ := apply_forget (q := (q : Int)) (by omega) hok rfl
  have hcr : applyOf (Bt.sld E 2 es) (recC q (E + 1)) = (Bt.zero, 3) := apply_none hok (recC_fault (by omega) (by omega)) (deed_create (by show ¬ (3 : Int) = 0; decide))
  have hg2 : applyOf ⟨0, E, 0, 0, 0, []⟩ (recG q E) = (Bt.zero, 3) := apply_none (zero_ok (by omega) (by omega)) (recG_fault (by omega) (by omega)) (deed_forget (by show ¬ (0 : Int) = 3; decide))
  obtain ⟨T, hT⟩ : ∃ T, T = tapeOf q (Bt.sld E 2 es) := ⟨_, rfl⟩
  rw [← hT] at HRc hwf hrun hlen hqs
  clear hT hok ht
  obtain ⟨n, hn⟩ : ∃ n, n = T.length := ⟨_, rfl⟩
  have hn22 : n ≤ 22 ∧ 2 ≤ n := by omega
  have hrun2 : Runs Bt.zero (T ++ [recG q E]) ⟨0, E, 0, 0, 0, []⟩ := hrun.snoc hgf hga
  have hrun3 : Runs Bt.zero ((T ++ [recG q E]) ++ [recC q (E + 1)]) ⟨1, E + 1, 0, 0, 0, []⟩ := hrun2.app (runs_create (by omega) (by omega) (by omega))
  have hqs2 : ∀ x ∈ T ++ [recG q E], x.q = (q : Int) := fun x hx => (List.mem_append.1 hx).elim (hqs x) (fun h => by rw [List.mem_singleton.1 h]; rfl)
  have hqs3 : ∀ x ∈ (T ++ [recG q E]) ++ [recC q (E + 1)], x.q = (q : Int) := fun x hx => (List.mem_append.1 hx).elim (hqs2 x) (fun h => by rw [List.mem_singleton.1 h]; rfl)
  have HA1 : Hid (∀ u a c, RowK .i64 u a (10 * (n + 1)) (recFlat T ++ recTen (recC q (E + 1))) → n + 1 ≤ c → Calls Tryz.prog 15 #[.slice a (n + 1) c] u fun x w' => x = .returned (.tuple #[.slice none 0 0, .int .i64 n, .int .i64 3]) ∧ Below u.heap.size u w') := veil fun u a c r hc => by
    have := all_bad q q rfl hq T _ (recC q (E + 1)) (by omega) hqs hrun rfl (recC_fault (by omega) (by omega)) hcr a c u (by rw [recFlat_snoc, List.length_append, ← hn]; exact r) (by rw [List.length_append, ← hn]; exact hc)
    rw [List.length_append, ← hn] at this
    exact this
  obtain ⟨T2, hT2⟩ : ∃ T2, T2 = T ++ [recG q E] := ⟨_, rfl⟩
  obtain ⟨m, hm⟩ : ∃ m, m = n + 1 := ⟨_, rfl⟩
  have hm2 : T2.length = m := by rw [hT2, List.length_append, hm, hn]; rfl
  have hm23 : m ≤ 23 := by omega
  rw [← hT2] at hrun2 hrun3 hqs2 hqs3
  have HA2 : Hid (∀ u a c, RowK .i64 u a (10 * (m + 1)) (recFlat T2 ++ recTen (recG q E)) → m + 1 ≤ c → Calls Tryz.prog 15 #[.slice a (m + 1) c] u fun x w' => x = .returned (.tuple #[.slice none 0 0, .int .i64 m, .int .i64 3]) ∧ Below u.heap.size u w') := veil fun u a c r hc => by
    have := all_bad q q rfl hq T2 _ (recG q E) (by omega) hqs2 hrun2 rfl (recG_fault (by omega) (by omega)) hg2 a c u (by rw [recFlat_snoc, List.length_append, hm2]; exact r) (by rw [List.length_append, hm2]; exact hc)
    rw [List.length_append, hm2] at this
    exact this
  have HA3 : Hid (∀ u a c, RowK .i64 u a (10 * (m + 1)) (recFlat T2 ++ recTen (recC q (E + 1))) → m + 1 ≤ c → Calls Tryz.prog 15 #[.slice a (m + 1) c] u fun x w' => ∃ Y f A K, x = .returned (.tuple #[.slice (some ⟨Y, 0, none⟩) 4 4, .int .i64 0, .int .i64 0]) ∧ Fb w' Y f A K ∧ f q = ⟨1, E + 1, 0, 0, 0, []⟩ ∧ Below u.heap.size u w') := veil fun u a c r hc => by
    have := all_good q hq (T2 ++ [recC q (E + 1)]) _ (by rw [List.length_append, hm2]; show m + 1 ≤ 2010; omega) hqs3 hrun3 a c u (by rw [recFlat_snoc, List.length_append, hm2]; exact r) (by rw [List.length_append, hm2]; exact hc)
    rw [List.length_append, hm2] at this
    exact this
  have HT2 : Hid (T2 = T ++ [recG q E] ∧ m = n + 1 ∧ n = T.length) := veil ⟨hT2, hm, hn⟩
  obtain ⟨xb0, xb1, xb2, xb3, xb4, xb5⟩ := (unveil HKb).b.cells
  clear hrun hrun2 hrun3 hqs hqs2 hqs3 hgf hga hcr hg2 hT2 hm hm2 hlen
  go_upto_region 6 with (go_at_call 23; refine HRc.mono ?_; rintro x V5 ⟨v5, rfl, own5, b5⟩; clear HRc xb0 xb1 xb2 xb3 xb4 xb5)
  have HKc := veil ((unveil HKb).next b5)
  obtain ⟨GS, CS, rfl, row5, hCS, _⟩ := rec_own own5 (by omega) hwf
  rw [← hn] at row5 hCS ⊢
  clear own5 b5 HKb hn hwf
  have HR5 := veil row5
  clear row5
  go_cut [13] (fun v wx => ∃ G2 k2, v = .slice (some ⟨G2, 0, none⟩) m k2 ∧ m ≤ k2 ∧ Hid (RowK .i64 wx (some ⟨G2, 0, none⟩) (10 * m) (recFlat T2)) ∧ Below V5.heap.size V5 wx)
  case first =>
    have r4 := unveil HR5
    have rec_wf : ∀ u ∈ recTen (recG q E), (Lit.int .i64 u).wf = true := rec_wf10 (by decide) (lit_wfR (by omega) (by omega)) (lit_wfR (by omega) (by omega)) (by decide)
    have hwf2 : ∀ u ∈ recFlat T ++ recTen (recG q E), (Lit.int .i64 u).wf = true := fun u hu => (List.mem_append.1 hu).elim (r4.wf u) (rec_wf u)
    refine wp_region_held_drew (S := Below V5.heap.size V5) (by kernel_rfl) (below_drew V5) (fun hHeld => ?_)
    refine wpAnyH_take (i := 0) (v := .slice (some ⟨GS, 0, none⟩) n CS) rfl (by kernel_rfl) (by kernel_rfl) (by kernel_rfl) (fun _ _ _ h => h) (Or.inl ⟨by rfl, fun _ _ => by go_simp⟩) hHeld ?_
    simp only [List.getElem_toArray, List.getElem_cons_zero, Act.put, List.setIfInBounds_toArray, List.set_cons_zero, List.set_cons_succ]
    refine wpAnyH_take (i := 2) (v := .int .i64 q) rfl (by kernel_rfl) (by kernel_rfl) (by kernel_rfl) (fun _ _ _ h => h) (Or.inl ⟨by rfl, fun _ _ => by go_simp⟩) hHeld ?_
    simp only [List.getElem_toArray, List.getElem_cons_zero, List.getElem_cons_succ, Act.put, List.setIfInBounds_toArray, List.set_cons_zero, List.set_cons_succ]
    refine wpAnyH_take (i := 3) (v := .pointer (some ⟨Rb, 1, none⟩)) rfl (by kernel_rfl) (by kernel_rfl) (by kernel_rfl) (fun _ _ _ h => h) (Or.inl ⟨by rfl, fun _ _ => by go_simp⟩) hHeld ?_
    simp only [List.getElem_toArray, List.getElem_cons_zero, List.getElem_cons_succ, Act.put, List.setIfInBounds_toArray, List.set_cons_zero, List.set_cons_succ]
    refine wpAnyH_take (i := 4) (v := .int .i64 E) rfl (by kernel_rfl) (by kernel_rfl) (by kernel_rfl) (fun _ _ _ h => h) (Or.inl ⟨by rfl, fun u b => by obtain ⟨z0, z1, z2, z3, z4, z5⟩ := ((unveil HKc).next b).b.cells; go_simp⟩) hHeld ?_
    simp only [List.getElem_toArray, List.getElem_cons_zero, List.getElem_cons_succ, Act.put, List.setIfInBounds_toArray, List.set_cons_zero, List.set_cons_succ]
    refine wpAnyH_take (i := 5) (v := .agg #[.int .i64 7, .int .i64 q, .int .i64 (E), .int .i64 0, .int .i64 0, .int .i64 0, .int .i64 0, .int .i64 0, .int .i64 0, .int .i64 0]) rfl (by kernel_rfl) (by kernel_rfl) (by kernel_rfl) (fun _ _ _ h => h) (Or.inl ⟨by rfl, fun _ _ => by go_simp⟩) hHeld ?_
    simp only [List.getElem_toArray, List.getElem_cons_zero, List.getElem_cons_succ, Act.put, List.setIfInBounds_toArray, List.set_cons_zero, List.set_cons_succ]
    have bW0 := below_drew V5
    have r4 := r4.below bW0
    obtain ⟨W0, hW0⟩ : ∃ W0, W0 = V5.drew := ⟨_, rfl⟩
    rw [← hW0] at bW0 r4 hHeld ⊢
    clear hW0
    refine wpAnyH_ready (rs := [1, 6]) (by kernel_rfl) (by simp) ?_
    refine AllReadyH.cons rfl (fun K hK => ?_) (AllReadyH.cons rfl (fun K hK => ?_) AllReadyH.nil)
    · simp only [List.getElem_toArray, List.getElem_cons_zero, List.getElem_cons_succ]
      refine ite_wanted rfl ?_
      refine wp_append_rows (.const (.slice none 0 0)) (.tmp 47) 37 rfl V5.heap.size 30 i3 _ 10 80 Tryz.underlying37 hi3 hz30 hz31 hz32 rfl (by decide) (.slice none 0 0) 0 [] rfl (World.ownsRow_nil _ _ _ _) (some ⟨GS, 0, none⟩) n CS (recFlat T) rfl r4 (fun h => by cases h) (by unfold maxLen; omega) (by omega) bW0.size ?_
      intro va W1 oa ga
      simp only [Nat.zero_add, List.nil_append] at oa
      obtain ⟨aa, ka, rfl⟩ := own_form oa
      have bn : Below W0.heap.size W0 W1 := (Below.refl _ _).grown ga (Nat.le_refl _) (by simp [Value.ownBlock])
      clear ga
      have bW1 := Below.next bW0 bn
      have r4 := r4.below bn
      clear bn
      refine hK.out _ _ bW1 (fun hHeld => ?_)
      clear hK K
      refine wpAnyH_ready (rs := [6]) (by kernel_rfl) (by simp) ?_
      refine AllReadyH.cons rfl (fun K hK => ?_) AllReadyH.nil
      simp only [List.getElem_toArray, List.getElem_cons_zero, List.getElem_cons_succ]
      go_simp
      obtain ⟨W2, hN, lr, bn⟩ : ∃ W, W = W1.alloc (.cells #[.int .i64 7, .int .i64 q, .int .i64 (E), .int .i64 0, .int .i64 0, .int .i64 0, .int .i64 0, .int .i64 0, .int .i64 0, .int .i64 0] 30) ∧ RowK .i64 W (some ⟨W1.heap.size, 0, none⟩) 10 (recTen (recG q E)) ∧ Below W1.heap.size W1 W := ⟨_, rfl, row_ten W1 (recG q E) rec_wf, below1 _ _⟩
      rw [← hN]
      clear hN
      obtain ⟨L, hL⟩ : ∃ L, L = W1.heap.size := ⟨_, rfl⟩
      rw [← hL] at lr ⊢
      clear hL
      have bW2 := Below.next bW1 bn
      have r4 := r4.below bn
      have oa := own_still oa (fun g _ hg => bn.block g hg)
      clear bn
      refine hK.out _ _ bW2 (fun hHeld => ?_)
      clear hK K
      refine wpAnyH_ready (rs := [7]) (by kernel_rfl) (by simp) ?_
      refine AllReadyH.cons rfl (fun K hK => ?_) AllReadyH.nil
      simp only [List.getElem_toArray, List.getElem_cons_zero, List.getElem_cons_succ]
      refine ite_wanted rfl ?_
      refine wp_append_rows (.tmp 48) (.tmp 53) 37 rfl V5.heap.size 30 i3 _ 10 80 Tryz.underlying37 hi3 hz30 hz31 hz32 rfl (by decide) _ n (recFlat T) rfl oa (some ⟨L, 0, none⟩) 1 1 (recTen (recG q E)) rfl lr (fun h => by cases h) (by unfold maxLen; omega) (by omega) bW2.size ?_
      intro vb W3 ob gb
      have bW3 : Below V5.heap.size V5 W3 := bW2.grown gb bW2.size (fun g hg => (oa.lt g hg).1)
      obtain ⟨G2, k2, rfl, r5, hk2, _⟩ := rec_own (l := T ++ [recG q E]) (by rw [recFlat_snoc, List.length_append]; rw [← (unveil HT2).2.2]; exact ob) (by simp) (by rw [recFlat_snoc]; exact hwf2)
      rw [List.length_append, ← (unveil HT2).2.2] at r5 hk2 ⊢
      clear gb ob oa lr
      refine hK.out _ _ bW3 (fun hHeld => ?_)
      clear hK K
      refine wpAnyH_take (i := 8) (v := .slice (some ⟨G2, 0, none⟩) (n + 1) k2) rfl (by kernel_rfl) (by kernel_rfl) (by kernel_rfl) (fun _ _ _ h => h) (Or.inl ⟨by rfl, fun _ _ => by go_simp⟩) hHeld ?_
      simp only [List.getElem_toArray, List.getElem_cons_zero, List.getElem_cons_succ, Act.put, List.setIfInBounds_toArray, List.set_cons_zero, List.set_cons_succ]
      refine wpAnyH_done (by kernel_rfl) ?_ _
      go_wp2_with fail
      go_meet
      exact ⟨G2, k2, by rw [(unveil HT2).2.1], by rw [(unveil HT2).2.1]; exact hk2, veil (by rw [(unveil HT2).2.1, (unveil HT2).1]; exact r5), bW3⟩
    · simp only [List.getElem_toArray, List.getElem_cons_zero, List.getElem_cons_succ]
      go_simp
      obtain ⟨W1, hN, lr, bn⟩ : ∃ W, W = W0.alloc (.cells #[.int .i64 7, .int .i64 q, .int .i64 (E), .int .i64 0, .int .i64 0, .int .i64 0, .int .i64 0, .int .i64 0, .int .i64 0, .int .i64 0] 30) ∧ RowK .i64 W (some ⟨W0.heap.size, 0, none⟩) 10 (recTen (recG q E)) ∧ Below W0.heap.size W0 W := ⟨_, rfl, row_ten W0 (recG q E) rec_wf, below1 _ _⟩
      rw [← hN]
      clear hN
      obtain ⟨L, hL⟩ : ∃ L, L = W0.heap.size := ⟨_, rfl⟩
      rw [← hL] at lr ⊢
      clear hL
      have bW1 := Below.next bW0 bn
      have r4 := r4.below bn
      clear bn
      refine hK.out _ _ bW1 (fun hHeld => ?_)
      clear hK K
      refine wpAnyH_ready (rs := [1]) (by kernel_rfl) (by simp) ?_
      refine AllReadyH.cons rfl (fun K hK => ?_) AllReadyH.nil
      simp only [List.getElem_toArray, List.getElem_cons_zero, List.getElem_cons_succ]
      refine ite_wanted rfl ?_
      refine wp_append_rows (.const (.slice none 0 0)) (.tmp 47) 37 rfl V5.heap.size 30 i3 _ 10 80 Tryz.underlying37 hi3 hz30 hz31 hz32 rfl (by decide) (.slice none 0 0) 0 [] rfl (World.ownsRow_nil _ _ _ _) (some ⟨GS, 0, none⟩) n CS (recFlat T) rfl r4 (fun h => by cases h) (by unfold maxLen; omega) (by omega) bW1.size ?_
      intro va W2 oa ga
      simp only [Nat.zero_add, List.nil_append] at oa
      obtain ⟨aa, ka, rfl⟩ := own_form oa
      have bn : Below W1.heap.size W1 W2 := (Below.refl _ _).grown ga (Nat.le_refl _) (by simp [Value.ownBlock])
      clear ga
      have bW2 := Below.next bW1 bn
      have r4 := r4.below bn
      have lr := lr.below bn
      clear bn
      refine hK.out _ _ bW2 (fun hHeld => ?_)
      clear hK K
      refine wpAnyH_ready (rs := [7]) (by kernel_rfl) (by simp) ?_
      refine AllReadyH.cons rfl (fun K hK => ?_) AllReadyH.nil
      simp only [List.getElem_toArray, List.getElem_cons_zero, List.getElem_cons_succ]
      refine ite_wanted rfl ?_
      refine wp_append_rows (.tmp 48) (.tmp 53) 37 rfl V5.heap.size 30 i3 _ 10 80 Tryz.underlying37 hi3 hz30 hz31 hz32 rfl (by decide) _ n (recFlat T) rfl oa (some ⟨L, 0, none⟩) 1 1 (recTen (recG q E)) rfl lr (fun h => by cases h) (by unfold maxLen; omega) (by omega) bW2.size ?_
      intro vb W3 ob gb
      have bW3 : Below V5.heap.size V5 W3 := bW2.grown gb bW2.size (fun g hg => (oa.lt g hg).1)
      obtain ⟨G2, k2, rfl, r5, hk2, _⟩ := rec_own (l := T ++ [recG q E]) (by rw [recFlat_snoc, List.length_append]; rw [← (unveil HT2).2.2]; exact ob) (by simp) (by rw [recFlat_snoc]; exact hwf2)
      rw [List.length_append, ← (unveil HT2).2.2] at r5 hk2 ⊢
      clear gb ob oa lr
      refine hK.out _ _ bW3 (fun hHeld => ?_)
      clear hK K
      refine wpAnyH_take (i := 8) (v := .slice (some ⟨G2, 0, none⟩) (n + 1) k2) rfl (by kernel_rfl) (by kernel_rfl) (by kernel_rfl) (fun _ _ _ h => h) (Or.inl ⟨by rfl, fun _ _ => by go_simp⟩) hHeld ?_
      simp only [List.getElem_toArray, List.getElem_cons_zero, List.getElem_cons_succ, Act.put, List.setIfInBounds_toArray, List.set_cons_zero, List.set_cons_succ]
      refine wpAnyH_done (by kernel_rfl) ?_ _
      go_wp2_with fail
      go_meet
      exact ⟨G2, k2, by rw [(unveil HT2).2.1], by rw [(unveil HT2).2.1]; exact hk2, veil (by rw [(unveil HT2).2.1, (unveil HT2).1]; exact r5), bW3⟩
  case rest =>
    obtain ⟨G2, k2, rfl, hk2, HR6, b6⟩ := hcut
    have HKd := veil ((unveil HKc).next b6)
    have HR5b := veil ((unveil HR5).below b6)
    clear HKc HR5 b6
    go_upto_region 7 with fail
    go_cut [14, 15, 16] (fun p q r wx => p = .slice none 0 0 ∧ q = .int .i64 n ∧ r = .int .i64 3 ∧ Below wc.heap.size wc wx)
    case first =>
      have r4 := unveil HR5b
      have rec_wf : ∀ u ∈ recTen (recC q (E + 1)), (Lit.int .i64 u).wf = true := rec_wf10 (by decide) (lit_wfR (by omega) (by omega)) (lit_wfR (by omega) (by omega)) (by decide)
      have hwf2 : ∀ u ∈ recFlat T ++ recTen (recC q (E + 1)), (Lit.int .i64 u).wf = true := fun u hu => (List.mem_append.1 hu).elim (r4.wf u) (rec_wf u)
      refine wp_region_held_drew (S := Below wc.heap.size wc) (by kernel_rfl) (below_drew wc) (fun hHeld => ?_)
      refine wpAnyH_take (i := 0) (v := .slice (some ⟨GS, 0, none⟩) n CS) rfl (by kernel_rfl) (by kernel_rfl) (by kernel_rfl) (fun _ _ _ h => h) (Or.inl ⟨by rfl, fun _ _ => by go_simp⟩) hHeld ?_
      simp only [List.getElem_toArray, List.getElem_cons_zero, Act.put, List.setIfInBounds_toArray, List.set_cons_zero, List.set_cons_succ]
      refine wpAnyH_take (i := 2) (v := .int .i64 q) rfl (by kernel_rfl) (by kernel_rfl) (by kernel_rfl) (fun _ _ _ h => h) (Or.inl ⟨by rfl, fun _ _ => by go_simp⟩) hHeld ?_
      simp only [List.getElem_toArray, List.getElem_cons_zero, List.getElem_cons_succ, Act.put, List.setIfInBounds_toArray, List.set_cons_zero, List.set_cons_succ]
      refine wpAnyH_take (i := 3) (v := .pointer (some ⟨Rb, 1, none⟩)) rfl (by kernel_rfl) (by kernel_rfl) (by kernel_rfl) (fun _ _ _ h => h) (Or.inl ⟨by rfl, fun _ _ => by go_simp⟩) hHeld ?_
      simp only [List.getElem_toArray, List.getElem_cons_zero, List.getElem_cons_succ, Act.put, List.setIfInBounds_toArray, List.set_cons_zero, List.set_cons_succ]
      refine wpAnyH_take (i := 4) (v := .int .i64 E) rfl (by kernel_rfl) (by kernel_rfl) (by kernel_rfl) (fun _ _ _ h => h) (Or.inl ⟨by rfl, fun u b => by obtain ⟨z0, z1, z2, z3, z4, z5⟩ := ((unveil HKd).next b).b.cells; go_simp⟩) hHeld ?_
      simp only [List.getElem_toArray, List.getElem_cons_zero, List.getElem_cons_succ, Act.put, List.setIfInBounds_toArray, List.set_cons_zero, List.set_cons_succ]
      refine wpAnyH_take (i := 5) (v := .int .i64 (E + 1)) rfl (by kernel_rfl) (by kernel_rfl) (by kernel_rfl) (fun _ _ _ h => h) (Or.inl ⟨by rfl, fun _ _ => by go_simp; rw [IntKind.wrap_i64]; omega⟩) hHeld ?_
      simp only [List.getElem_toArray, List.getElem_cons_zero, List.getElem_cons_succ, Act.put, List.setIfInBounds_toArray, List.set_cons_zero, List.set_cons_succ]
      refine wpAnyH_take (i := 6) (v := .agg #[.int .i64 1, .int .i64 q, .int .i64 (E + 1), .int .i64 0, .int .i64 0, .int .i64 0, .int .i64 0, .int .i64 0, .int .i64 0, .int .i64 0]) rfl (by kernel_rfl) (by kernel_rfl) (by kernel_rfl) (fun _ _ _ h => h) (Or.inl ⟨by rfl, fun _ _ => by go_simp⟩) hHeld ?_
      simp only [List.getElem_toArray, List.getElem_cons_zero, List.getElem_cons_succ, Act.put, List.setIfInBounds_toArray, List.set_cons_zero, List.set_cons_succ]
      have bW0 := below_drew wc
      have r4 := r4.below bW0
      obtain ⟨W0, hW0⟩ : ∃ W0, W0 = wc.drew := ⟨_, rfl⟩
      rw [← hW0] at bW0 r4 hHeld ⊢
      clear hW0
      refine wpAnyH_ready (rs := [1, 7]) (by kernel_rfl) (by simp) ?_
      refine AllReadyH.cons rfl (fun K hK => ?_) (AllReadyH.cons rfl (fun K hK => ?_) AllReadyH.nil)
      · simp only [List.getElem_toArray, List.getElem_cons_zero, List.getElem_cons_succ]
        refine ite_wanted rfl ?_
        refine wp_append_rows (.const (.slice none 0 0)) (.tmp 56) 37 rfl wc.heap.size 30 i3 _ 10 80 Tryz.underlying37 hi3 hz30 hz31 hz32 rfl (by decide) (.slice none 0 0) 0 [] rfl (World.ownsRow_nil _ _ _ _) (some ⟨GS, 0, none⟩) n CS (recFlat T) rfl r4 (fun h => by cases h) (by unfold maxLen; omega) (by omega) bW0.size ?_
        intro va W1 oa ga
        simp only [Nat.zero_add, List.nil_append] at oa
        obtain ⟨aa, ka, rfl⟩ := own_form oa
        have bn : Below W0.heap.size W0 W1 := (Below.refl _ _).grown ga (Nat.le_refl _) (by simp [Value.ownBlock])
        clear ga
        have bW1 := Below.next bW0 bn
        have r4 := r4.below bn
        clear bn
        refine hK.out _ _ bW1 (fun hHeld => ?_)
        clear hK K
        refine wpAnyH_ready (rs := [7]) (by kernel_rfl) (by simp) ?_
        refine AllReadyH.cons rfl (fun K hK => ?_) AllReadyH.nil
        simp only [List.getElem_toArray, List.getElem_cons_zero, List.getElem_cons_succ]
        go_simp
        obtain ⟨W2, hN, lr, bn⟩ : ∃ W, W = W1.alloc (.cells #[.int .i64 1, .int .i64 q, .int .i64 (E + 1), .int .i64 0, .int .i64 0, .int .i64 0, .int .i64 0, .int .i64 0, .int .i64 0, .int .i64 0] 30) ∧ RowK .i64 W (some ⟨W1.heap.size, 0, none⟩) 10 (recTen (recC q (E + 1))) ∧ Below W1.heap.size W1 W := ⟨_, rfl, row_ten W1 (recC q (E + 1)) rec_wf, below1 _ _⟩
        rw [← hN]
        clear hN
        obtain ⟨L, hL⟩ : ∃ L, L = W1.heap.size := ⟨_, rfl⟩
        rw [← hL] at lr ⊢
        clear hL
        have bW2 := Below.next bW1 bn
        have r4 := r4.below bn
        have oa := own_still oa (fun g _ hg => bn.block g hg)
        clear bn
        refine hK.out _ _ bW2 (fun hHeld => ?_)
        clear hK K
        refine wpAnyH_ready (rs := [8]) (by kernel_rfl) (by simp) ?_
        refine AllReadyH.cons rfl (fun K hK => ?_) AllReadyH.nil
        simp only [List.getElem_toArray, List.getElem_cons_zero, List.getElem_cons_succ]
        refine ite_wanted rfl ?_
        refine wp_append_rows (.tmp 57) (.tmp 63) 37 rfl wc.heap.size 30 i3 _ 10 80 Tryz.underlying37 hi3 hz30 hz31 hz32 rfl (by decide) _ n (recFlat T) rfl oa (some ⟨L, 0, none⟩) 1 1 (recTen (recC q (E + 1))) rfl lr (fun h => by cases h) (by unfold maxLen; omega) (by omega) bW2.size ?_
        intro vb W3 ob gb
        have bW3 : Below wc.heap.size wc W3 := bW2.grown gb bW2.size (fun g hg => (oa.lt g hg).1)
        obtain ⟨ab, kb, rfl, rb, hkb, _, _, _⟩ := RowK.ofMany ob hwf2
        clear gb ob oa lr
        refine hK.out _ _ bW3 (fun hHeld => ?_)
        clear hK K
        refine wpAnyH_ready (rs := [9]) (by kernel_rfl) (by simp) ?_
        refine AllReadyH.cons rfl (fun K hK => ?_) AllReadyH.nil
        simp only [List.getElem_toArray, List.getElem_cons_zero, List.getElem_cons_succ]
        go_simp
        refine (unveil HA1 W3 ab kb rb hkb).mono ?_
        rintro e W4 ⟨rfl, bn⟩
        clear rb
        have bW4 := Below.next bW3 bn
        clear bn
        refine hK.out _ _ bW4 (fun hHeld => ?_)
        clear hK K
        refine wpAnyH_take (i := 10) (v := .tuple #[.slice none 0 0, .int .i64 n, .int .i64 3]) rfl (by kernel_rfl) (by kernel_rfl) (by kernel_rfl) (fun _ _ _ h => h) (Or.inl ⟨by rfl, fun _ _ => by go_simp⟩) hHeld ?_
        simp only [List.getElem_toArray, List.getElem_cons_zero, List.getElem_cons_succ, Act.put, List.setIfInBounds_toArray, List.set_cons_zero, List.set_cons_succ]
        refine wpAnyH_take (i := 11) (v := .slice none 0 0) rfl (by kernel_rfl) (by kernel_rfl) (by kernel_rfl) (fun _ _ _ h => h) (Or.inl ⟨by rfl, fun _ _ => by go_simp⟩) hHeld ?_
        simp only [List.getElem_toArray, List.getElem_cons_zero, List.getElem_cons_succ, Act.put, List.setIfInBounds_toArray, List.set_cons_zero, List.set_cons_succ]
        refine wpAnyH_take (i := 12) (v := .int .i64 n) rfl (by kernel_rfl) (by kernel_rfl) (by kernel_rfl) (fun _ _ _ h => h) (Or.inl ⟨by rfl, fun _ _ => by go_simp⟩) hHeld ?_
        simp only [List.getElem_toArray, List.getElem_cons_zero, List.getElem_cons_succ, Act.put, List.setIfInBounds_toArray, List.set_cons_zero, List.set_cons_succ]
        refine wpAnyH_take (i := 13) (v := .int .i64 3) rfl (by kernel_rfl) (by kernel_rfl) (by kernel_rfl) (fun _ _ _ h => h) (Or.inl ⟨by rfl, fun _ _ => by go_simp⟩) hHeld ?_
        simp only [List.getElem_toArray, List.getElem_cons_zero, List.getElem_cons_succ, Act.put, List.setIfInBounds_toArray, List.set_cons_zero, List.set_cons_succ]
        refine wpAnyH_take (i := 14) (v := .slice none 0 0) rfl (by kernel_rfl) (by kernel_rfl) (by kernel_rfl) (fun _ _ _ h => h) (Or.inl ⟨by rfl, fun _ _ => by go_simp⟩) hHeld ?_
        simp only [List.getElem_toArray, List.getElem_cons_zero, List.getElem_cons_succ, Act.put, List.setIfInBounds_toArray, List.set_cons_zero, List.set_cons_succ]
        refine wpAnyH_take (i := 15) (v := .int .i64 n) rfl (by kernel_rfl) (by kernel_rfl) (by kernel_rfl) (fun _ _ _ h => h) (Or.inl ⟨by rfl, fun _ _ => by go_simp⟩) hHeld ?_
        simp only [List.getElem_toArray, List.getElem_cons_zero, List.getElem_cons_succ, Act.put, List.setIfInBounds_toArray, List.set_cons_zero, List.set_cons_succ]
        refine wpAnyH_take (i := 16) (v := .int .i64 3) rfl (by kernel_rfl) (by kernel_rfl) (by kernel_rfl) (fun _ _ _ h => h) (Or.inl ⟨by rfl, fun _ _ => by go_simp⟩) hHeld ?_
        simp only [List.getElem_toArray, List.getElem_cons_zero, List.getElem_cons_succ, Act.put, List.setIfInBounds_toArray, List.set_cons_zero, List.set_cons_succ]
        refine wpAnyH_done (by kernel_rfl) ?_ _
        go_wp2_with fail
        go_meet
        exact ⟨rfl, rfl, rfl, bW4⟩
      · simp only [List.getElem_toArray, List.getElem_cons_zero, List.getElem_cons_succ]
        go_simp
        obtain ⟨W1, hN, lr, bn⟩ : ∃ W, W = W0.alloc (.cells #[.int .i64 1, .int .i64 q, .int .i64 (E + 1), .int .i64 0, .int .i64 0, .int .i64 0, .int .i64 0, .int .i64 0, .int .i64 0, .int .i64 0] 30) ∧ RowK .i64 W (some ⟨W0.heap.size, 0, none⟩) 10 (recTen (recC q (E + 1))) ∧ Below W0.heap.size W0 W := ⟨_, rfl, row_ten W0 (recC q (E + 1)) rec_wf, below1 _ _⟩
        rw [← hN]
        clear hN
        obtain ⟨L, hL⟩ : ∃ L, L = W0.heap.size := ⟨_, rfl⟩
        rw [← hL] at lr ⊢
        clear hL
        have bW1 := Below.next bW0 bn
        have r4 := r4.below bn
        clear bn
        refine hK.out _ _ bW1 (fun hHeld => ?_)
        clear hK K
        refine wpAnyH_ready (rs := [1]) (by kernel_rfl) (by simp) ?_
        refine AllReadyH.cons rfl (fun K hK => ?_) AllReadyH.nil
        simp only [List.getElem_toArray, List.getElem_cons_zero, List.getElem_cons_succ]
        refine ite_wanted rfl ?_
        refine wp_append_rows (.const (.slice none 0 0)) (.tmp 56) 37 rfl wc.heap.size 30 i3 _ 10 80 Tryz.underlying37 hi3 hz30 hz31 hz32 rfl (by decide) (.slice none 0 0) 0 [] rfl (World.ownsRow_nil _ _ _ _) (some ⟨GS, 0, none⟩) n CS (recFlat T) rfl r4 (fun h => by cases h) (by unfold maxLen; omega) (by omega) bW1.size ?_
        intro va W2 oa ga
        simp only [Nat.zero_add, List.nil_append] at oa
        obtain ⟨aa, ka, rfl⟩ := own_form oa
        have bn : Below W1.heap.size W1 W2 := (Below.refl _ _).grown ga (Nat.le_refl _) (by simp [Value.ownBlock])
        clear ga
        have bW2 := Below.next bW1 bn
        have r4 := r4.below bn
        have lr := lr.below bn
        clear bn
        refine hK.out _ _ bW2 (fun hHeld => ?_)
        clear hK K
        refine wpAnyH_ready (rs := [8]) (by kernel_rfl) (by simp) ?_
        refine AllReadyH.cons rfl (fun K hK => ?_) AllReadyH.nil
        simp only [List.getElem_toArray, List.getElem_cons_zero, List.getElem_cons_succ]
        refine ite_wanted rfl ?_
        refine wp_append_rows (.tmp 57) (.tmp 63) 37 rfl wc.heap.size 30 i3 _ 10 80 Tryz.underlying37 hi3 hz30 hz31 hz32 rfl (by decide) _ n (recFlat T) rfl oa (some ⟨L, 0, none⟩) 1 1 (recTen (recC q (E + 1))) rfl lr (fun h => by cases h) (by unfold maxLen; omega) (by omega) bW2.size ?_
        intro vb W3 ob gb
        have bW3 : Below wc.heap.size wc W3 := bW2.grown gb bW2.size (fun g hg => (oa.lt g hg).1)
        obtain ⟨ab, kb, rfl, rb, hkb, _, _, _⟩ := RowK.ofMany ob hwf2
        clear gb ob oa lr
        refine hK.out _ _ bW3 (fun hHeld => ?_)
        clear hK K
        refine wpAnyH_ready (rs := [9]) (by kernel_rfl) (by simp) ?_
        refine AllReadyH.cons rfl (fun K hK => ?_) AllReadyH.nil
        simp only [List.getElem_toArray, List.getElem_cons_zero, List.getElem_cons_succ]
        go_simp
        refine (unveil HA1 W3 ab kb rb hkb).mono ?_
        rintro e W4 ⟨rfl, bn⟩
        clear rb
        have bW4 := Below.next bW3 bn
        clear bn
        refine hK.out _ _ bW4 (fun hHeld => ?_)
        clear hK K
        refine wpAnyH_take (i := 10) (v := .tuple #[.slice none 0 0, .int .i64 n, .int .i64 3]) rfl (by kernel_rfl) (by kernel_rfl) (by kernel_rfl) (fun _ _ _ h => h) (Or.inl ⟨by rfl, fun _ _ => by go_simp⟩) hHeld ?_
        simp only [List.getElem_toArray, List.getElem_cons_zero, List.getElem_cons_succ, Act.put, List.setIfInBounds_toArray, List.set_cons_zero, List.set_cons_succ]
        refine wpAnyH_take (i := 11) (v := .slice none 0 0) rfl (by kernel_rfl) (by kernel_rfl) (by kernel_rfl) (fun _ _ _ h => h) (Or.inl ⟨by rfl, fun _ _ => by go_simp⟩) hHeld ?_
        simp only [List.getElem_toArray, List.getElem_cons_zero, List.getElem_cons_succ, Act.put, List.setIfInBounds_toArray, List.set_cons_zero, List.set_cons_succ]
        refine wpAnyH_take (i := 12) (v := .int .i64 n) rfl (by kernel_rfl) (by kernel_rfl) (by kernel_rfl) (fun _ _ _ h => h) (Or.inl ⟨by rfl, fun _ _ => by go_simp⟩) hHeld ?_
        simp only [List.getElem_toArray, List.getElem_cons_zero, List.getElem_cons_succ, Act.put, List.setIfInBounds_toArray, List.set_cons_zero, List.set_cons_succ]
        refine wpAnyH_take (i := 13) (v := .int .i64 3) rfl (by kernel_rfl) (by kernel_rfl) (by kernel_rfl) (fun _ _ _ h => h) (Or.inl ⟨by rfl, fun _ _ => by go_simp⟩) hHeld ?_
        simp only [List.getElem_toArray, List.getElem_cons_zero, List.getElem_cons_succ, Act.put, List.setIfInBounds_toArray, List.set_cons_zero, List.set_cons_succ]
        refine wpAnyH_take (i := 14) (v := .slice none 0 0) rfl (by kernel_rfl) (by kernel_rfl) (by kernel_rfl) (fun _ _ _ h => h) (Or.inl ⟨by rfl, fun _ _ => by go_simp⟩) hHeld ?_
        simp only [List.getElem_toArray, List.getElem_cons_zero, List.getElem_cons_succ, Act.put, List.setIfInBounds_toArray, List.set_cons_zero, List.set_cons_succ]
        refine wpAnyH_take (i := 15) (v := .int .i64 n) rfl (by kernel_rfl) (by kernel_rfl) (by kernel_rfl) (fun _ _ _ h => h) (Or.inl ⟨by rfl, fun _ _ => by go_simp⟩) hHeld ?_
        simp only [List.getElem_toArray, List.getElem_cons_zero, List.getElem_cons_succ, Act.put, List.setIfInBounds_toArray, List.set_cons_zero, List.set_cons_succ]
        refine wpAnyH_take (i := 16) (v := .int .i64 3) rfl (by kernel_rfl) (by kernel_rfl) (by kernel_rfl) (fun _ _ _ h => h) (Or.inl ⟨by rfl, fun _ _ => by go_simp⟩) hHeld ?_
        simp only [List.getElem_toArray, List.getElem_cons_zero, List.getElem_cons_succ, Act.put, List.setIfInBounds_toArray, List.set_cons_zero, List.set_cons_succ]
        refine wpAnyH_done (by kernel_rfl) ?_ _
        go_wp2_with fail
        go_meet
        exact ⟨rfl, rfl, rfl, bW4⟩
    case rest =>
      obtain ⟨rfl, rfl, rfl, b7⟩ := hcut
      have HKe := veil ((unveil HKd).next b7)
      have HR6b := veil ((unveil HR6).below b7)
      clear HKd HR5b HR6 b7 HA1
      obtain ⟨wd, hwd⟩ : ∃ X, X = wc := ⟨_, rfl⟩
      subst hwd
      go_upto_region 8 with fail
      go_cut [17, 18, 19] (fun p q r wx => p = .slice none 0 0 ∧ q = .int .i64 m ∧ r = .int .i64 3 ∧ Below wd.heap.size wd wx)
      case first =>
        have r4 := unveil HR6b
        have rec_wf : ∀ u ∈ recTen (recG q E), (Lit.int .i64 u).wf = true := rec_wf10 (by decide) (lit_wfR (by omega) (by omega)) (lit_wfR (by omega) (by omega)) (by decide)
        have hwf2 : ∀ u ∈ recFlat T2 ++ recTen (recG q E), (Lit.int .i64 u).wf = true := fun u hu => (List.mem_append.1 hu).elim (r4.wf u) (rec_wf u)
        refine wp_region_held_drew (S := Below wd.heap.size wd) (by kernel_rfl) (below_drew wd) (fun hHeld => ?_)
        refine wpAnyH_take (i := 0) (v := .slice (some ⟨G2, 0, none⟩) m k2) rfl (by kernel_rfl) (by kernel_rfl) (by kernel_rfl) (fun _ _ _ h => h) (Or.inl ⟨by rfl, fun _ _ => by go_simp⟩) hHeld ?_
        simp only [List.getElem_toArray, List.getElem_cons_zero, Act.put, List.setIfInBounds_toArray, List.set_cons_zero, List.set_cons_succ]
        refine wpAnyH_take (i := 2) (v := .int .i64 q) rfl (by kernel_rfl) (by kernel_rfl) (by kernel_rfl) (fun _ _ _ h => h) (Or.inl ⟨by rfl, fun _ _ => by go_simp⟩) hHeld ?_
        simp only [List.getElem_toArray, List.getElem_cons_zero, List.getElem_cons_succ, Act.put, List.setIfInBounds_toArray, List.set_cons_zero, List.set_cons_succ]
        refine wpAnyH_take (i := 3) (v := .pointer (some ⟨Rb, 1, none⟩)) rfl (by kernel_rfl) (by kernel_rfl) (by kernel_rfl) (fun _ _ _ h => h) (Or.inl ⟨by rfl, fun _ _ => by go_simp⟩) hHeld ?_
        simp only [List.getElem_toArray, List.getElem_cons_zero, List.getElem_cons_succ, Act.put, List.setIfInBounds_toArray, List.set_cons_zero, List.set_cons_succ]
        refine wpAnyH_take (i := 4) (v := .int .i64 E) rfl (by kernel_rfl) (by kernel_rfl) (by kernel_rfl) (fun _ _ _ h => h) (Or.inl ⟨by rfl, fun u b => by obtain ⟨z0, z1, z2, z3, z4, z5⟩ := ((unveil HKe).next b).b.cells; go_simp⟩) hHeld ?_
        simp only [List.getElem_toArray, List.getElem_cons_zero, List.getElem_cons_succ, Act.put, List.setIfInBounds_toArray, List.set_cons_zero, List.set_cons_succ]
        refine wpAnyH_take (i := 5) (v := .agg #[.int .i64 7, .int .i64 q, .int .i64 (E), .int .i64 0, .int .i64 0, .int .i64 0, .int .i64 0, .int .i64 0, .int .i64 0, .int .i64 0]) rfl (by kernel_rfl) (by kernel_rfl) (by kernel_rfl) (fun _ _ _ h => h) (Or.inl ⟨by rfl, fun _ _ => by go_simp⟩) hHeld ?_
        simp only [List.getElem_toArray, List.getElem_cons_zero, List.getElem_cons_succ, Act.put, List.setIfInBounds_toArray, List.set_cons_zero, List.set_cons_succ]
        have bW0 := below_drew wd
        have r4 := r4.below bW0
        obtain ⟨W0, hW0⟩ : ∃ W0, W0 = wd.drew := ⟨_, rfl⟩
        rw [← hW0] at bW0 r4 hHeld ⊢
        clear hW0
        refine wpAnyH_ready (rs := [1, 6]) (by kernel_rfl) (by simp) ?_
        refine AllReadyH.cons rfl (fun K hK => ?_) (AllReadyH.cons rfl (fun K hK => ?_) AllReadyH.nil)
        · simp only [List.getElem_toArray, List.getElem_cons_zero, List.getElem_cons_succ]
          refine ite_wanted rfl ?_
          refine wp_append_rows (.const (.slice none 0 0)) (.tmp 70) 37 rfl wd.heap.size 30 i3 _ 10 80 Tryz.underlying37 hi3 hz30 hz31 hz32 rfl (by decide) (.slice none 0 0) 0 [] rfl (World.ownsRow_nil _ _ _ _) (some ⟨G2, 0, none⟩) m k2 (recFlat T2) rfl r4 (fun h => by cases h) (by unfold maxLen; omega) (by omega) bW0.size ?_
          intro va W1 oa ga
          simp only [Nat.zero_add, List.nil_append] at oa
          obtain ⟨aa, ka, rfl⟩ := own_form oa
          have bn : Below W0.heap.size W0 W1 := (Below.refl _ _).grown ga (Nat.le_refl _) (by simp [Value.ownBlock])
          clear ga
          have bW1 := Below.next bW0 bn
          have r4 := r4.below bn
          clear bn
          refine hK.out _ _ bW1 (fun hHeld => ?_)
          clear hK K
          refine wpAnyH_ready (rs := [6]) (by kernel_rfl) (by simp) ?_
          refine AllReadyH.cons rfl (fun K hK => ?_) AllReadyH.nil
          simp only [List.getElem_toArray, List.getElem_cons_zero, List.getElem_cons_succ]
          go_simp
          obtain ⟨W2, hN, lr, bn⟩ : ∃ W, W = W1.alloc (.cells #[.int .i64 7, .int .i64 q, .int .i64 (E), .int .i64 0, .int .i64 0, .int .i64 0, .int .i64 0, .int .i64 0, .int .i64 0, .int .i64 0] 30) ∧ RowK .i64 W (some ⟨W1.heap.size, 0, none⟩) 10 (recTen (recG q E)) ∧ Below W1.heap.size W1 W := ⟨_, rfl, row_ten W1 (recG q E) rec_wf, below1 _ _⟩
          rw [← hN]
          clear hN
          obtain ⟨L, hL⟩ : ∃ L, L = W1.heap.size := ⟨_, rfl⟩
          rw [← hL] at lr ⊢
          clear hL
          have bW2 := Below.next bW1 bn
          have r4 := r4.below bn
          have oa := own_still oa (fun g _ hg => bn.block g hg)
          clear bn
          refine hK.out _ _ bW2 (fun hHeld => ?_)
          clear hK K
          refine wpAnyH_ready (rs := [7]) (by kernel_rfl) (by simp) ?_
          refine AllReadyH.cons rfl (fun K hK => ?_) AllReadyH.nil
          simp only [List.getElem_toArray, List.getElem_cons_zero, List.getElem_cons_succ]
          refine ite_wanted rfl ?_
          refine wp_append_rows (.tmp 71) (.tmp 76) 37 rfl wd.heap.size 30 i3 _ 10 80 Tryz.underlying37 hi3 hz30 hz31 hz32 rfl (by decide) _ m (recFlat T2) rfl oa (some ⟨L, 0, none⟩) 1 1 (recTen (recG q E)) rfl lr (fun h => by cases h) (by unfold maxLen; omega) (by omega) bW2.size ?_
          intro vb W3 ob gb
          have bW3 : Below wd.heap.size wd W3 := bW2.grown gb bW2.size (fun g hg => (oa.lt g hg).1)
          obtain ⟨ab, kb, rfl, rb, hkb, _, _, _⟩ := RowK.ofMany ob hwf2
          clear gb ob oa lr
          refine hK.out _ _ bW3 (fun hHeld => ?_)
          clear hK K
          refine wpAnyH_ready (rs := [8]) (by kernel_rfl) (by simp) ?_
          refine AllReadyH.cons rfl (fun K hK => ?_) AllReadyH.nil
          simp only [List.getElem_toArray, List.getElem_cons_zero, List.getElem_cons_succ]
          go_simp
          refine (unveil HA2 W3 ab kb rb hkb).mono ?_
          rintro e W4 ⟨rfl, bn⟩
          clear rb
          have bW4 := Below.next bW3 bn
          clear bn
          refine hK.out _ _ bW4 (fun hHeld => ?_)
          clear hK K
          refine wpAnyH_take (i := 9) (v := .tuple #[.slice none 0 0, .int .i64 m, .int .i64 3]) rfl (by kernel_rfl) (by kernel_rfl) (by kernel_rfl) (fun _ _ _ h => h) (Or.inl ⟨by rfl, fun _ _ => by go_simp⟩) hHeld ?_
          simp only [List.getElem_toArray, List.getElem_cons_zero, List.getElem_cons_succ, Act.put, List.setIfInBounds_toArray, List.set_cons_zero, List.set_cons_succ]
          refine wpAnyH_take (i := 10) (v := .slice none 0 0) rfl (by kernel_rfl) (by kernel_rfl) (by kernel_rfl) (fun _ _ _ h => h) (Or.inl ⟨by rfl, fun _ _ => by go_simp⟩) hHeld ?_
          simp only [List.getElem_toArray, List.getElem_cons_zero, List.getElem_cons_succ, Act.put, List.setIfInBounds_toArray, List.set_cons_zero, List.set_cons_succ]
          refine wpAnyH_take (i := 11) (v := .int .i64 m) rfl (by kernel_rfl) (by kernel_rfl) (by kernel_rfl) (fun _ _ _ h => h) (Or.inl ⟨by rfl, fun _ _ => by go_simp⟩) hHeld ?_
          simp only [List.getElem_toArray, List.getElem_cons_zero, List.getElem_cons_succ, Act.put, List.setIfInBounds_toArray, List.set_cons_zero, List.set_cons_succ]
          refine wpAnyH_take (i := 12) (v := .int .i64 3) rfl (by kernel_rfl) (by kernel_rfl) (by kernel_rfl) (fun _ _ _ h => h) (Or.inl ⟨by rfl, fun _ _ => by go_simp⟩) hHeld ?_
          simp only [List.getElem_toArray, List.getElem_cons_zero, List.getElem_cons_succ, Act.put, List.setIfInBounds_toArray, List.set_cons_zero, List.set_cons_succ]
          refine wpAnyH_take (i := 13) (v := .slice none 0 0) rfl (by kernel_rfl) (by kernel_rfl) (by kernel_rfl) (fun _ _ _ h => h) (Or.inl ⟨by rfl, fun _ _ => by go_simp⟩) hHeld ?_
          simp only [List.getElem_toArray, List.getElem_cons_zero, List.getElem_cons_succ, Act.put, List.setIfInBounds_toArray, List.set_cons_zero, List.set_cons_succ]
          refine wpAnyH_take (i := 14) (v := .int .i64 m) rfl (by kernel_rfl) (by kernel_rfl) (by kernel_rfl) (fun _ _ _ h => h) (Or.inl ⟨by rfl, fun _ _ => by go_simp⟩) hHeld ?_
          simp only [List.getElem_toArray, List.getElem_cons_zero, List.getElem_cons_succ, Act.put, List.setIfInBounds_toArray, List.set_cons_zero, List.set_cons_succ]
          refine wpAnyH_take (i := 15) (v := .int .i64 3) rfl (by kernel_rfl) (by kernel_rfl) (by kernel_rfl) (fun _ _ _ h => h) (Or.inl ⟨by rfl, fun _ _ => by go_simp⟩) hHeld ?_
          simp only [List.getElem_toArray, List.getElem_cons_zero, List.getElem_cons_succ, Act.put, List.setIfInBounds_toArray, List.set_cons_zero, List.set_cons_succ]
          refine wpAnyH_done (by kernel_rfl) ?_ _
          go_wp2_with fail
          go_meet
          exact ⟨rfl, rfl, rfl, bW4⟩
        · simp only [List.getElem_toArray, List.getElem_cons_zero, List.getElem_cons_succ]
          go_simp
          obtain ⟨W1, hN, lr, bn⟩ : ∃ W, W = W0.alloc (.cells #[.int .i64 7, .int .i64 q, .int .i64 (E), .int .i64 0, .int .i64 0, .int .i64 0, .int .i64 0, .int .i64 0, .int .i64 0, .int .i64 0] 30) ∧ RowK .i64 W (some ⟨W0.heap.size, 0, none⟩) 10 (recTen (recG q E)) ∧ Below W0.heap.size W0 W := ⟨_, rfl, row_ten W0 (recG q E) rec_wf, below1 _ _⟩
          rw [← hN]
          clear hN
          obtain ⟨L, hL⟩ : ∃ L, L = W0.heap.size := ⟨_, rfl⟩
          rw [← hL] at lr ⊢
          clear hL
          have bW1 := Below.next bW0 bn
          have r4 := r4.below bn
          clear bn
          refine hK.out _ _ bW1 (fun hHeld => ?_)
          clear hK K
          refine wpAnyH_ready (rs := [1]) (by kernel_rfl) (by simp) ?_
          refine AllReadyH.cons rfl (fun K hK => ?_) AllReadyH.nil
          simp only [List.getElem_toArray, List.getElem_cons_zero, List.getElem_cons_succ]
          refine ite_wanted rfl ?_
          refine wp_append_rows (.const (.slice none 0 0)) (.tmp 70) 37 rfl wd.heap.size 30 i3 _ 10 80 Tryz.underlying37 hi3 hz30 hz31 hz32 rfl (by decide) (.slice none 0 0) 0 [] rfl (World.ownsRow_nil _ _ _ _) (some ⟨G2, 0, none⟩) m k2 (recFlat T2) rfl r4 (fun h => by cases h) (by unfold maxLen; omega) (by omega) bW1.size ?_
          intro va W2 oa ga
          simp only [Nat.zero_add, List.nil_append] at oa
          obtain ⟨aa, ka, rfl⟩ := own_form oa
          have bn : Below W1.heap.size W1 W2 := (Below.refl _ _).grown ga (Nat.le_refl _) (by simp [Value.ownBlock])
          clear ga
          have bW2 := Below.next bW1 bn
          have r4 := r4.below bn
          have lr := lr.below bn
          clear bn
          refine hK.out _ _ bW2 (fun hHeld => ?_)
          clear hK K
          refine wpAnyH_ready (rs := [7]) (by kernel_rfl) (by simp) ?_
          refine AllReadyH.cons rfl (fun K hK => ?_) AllReadyH.nil
          simp only [List.getElem_toArray, List.getElem_cons_zero, List.getElem_cons_succ]
          refine ite_wanted rfl ?_
          refine wp_append_rows (.tmp 71) (.tmp 76) 37 rfl wd.heap.size 30 i3 _ 10 80 Tryz.underlying37 hi3 hz30 hz31 hz32 rfl (by decide) _ m (recFlat T2) rfl oa (some ⟨L, 0, none⟩) 1 1 (recTen (recG q E)) rfl lr (fun h => by cases h) (by unfold maxLen; omega) (by omega) bW2.size ?_
          intro vb W3 ob gb
          have bW3 : Below wd.heap.size wd W3 := bW2.grown gb bW2.size (fun g hg => (oa.lt g hg).1)
          obtain ⟨ab, kb, rfl, rb, hkb, _, _, _⟩ := RowK.ofMany ob hwf2
          clear gb ob oa lr
          refine hK.out _ _ bW3 (fun hHeld => ?_)
          clear hK K
          refine wpAnyH_ready (rs := [8]) (by kernel_rfl) (by simp) ?_
          refine AllReadyH.cons rfl (fun K hK => ?_) AllReadyH.nil
          simp only [List.getElem_toArray, List.getElem_cons_zero, List.getElem_cons_succ]
          go_simp
          refine (unveil HA2 W3 ab kb rb hkb).mono ?_
          rintro e W4 ⟨rfl, bn⟩
          clear rb
          have bW4 := Below.next bW3 bn
          clear bn
          refine hK.out _ _ bW4 (fun hHeld => ?_)
          clear hK K
          refine wpAnyH_take (i := 9) (v := .tuple #[.slice none 0 0, .int .i64 m, .int .i64 3]) rfl (by kernel_rfl) (by kernel_rfl) (by kernel_rfl) (fun _ _ _ h => h) (Or.inl ⟨by rfl, fun _ _ => by go_simp⟩) hHeld ?_
          simp only [List.getElem_toArray, List.getElem_cons_zero, List.getElem_cons_succ, Act.put, List.setIfInBounds_toArray, List.set_cons_zero, List.set_cons_succ]
          refine wpAnyH_take (i := 10) (v := .slice none 0 0) rfl (by kernel_rfl) (by kernel_rfl) (by kernel_rfl) (fun _ _ _ h => h) (Or.inl ⟨by rfl, fun _ _ => by go_simp⟩) hHeld ?_
          simp only [List.getElem_toArray, List.getElem_cons_zero, List.getElem_cons_succ, Act.put, List.setIfInBounds_toArray, List.set_cons_zero, List.set_cons_succ]
          refine wpAnyH_take (i := 11) (v := .int .i64 m) rfl (by kernel_rfl) (by kernel_rfl) (by kernel_rfl) (fun _ _ _ h => h) (Or.inl ⟨by rfl, fun _ _ => by go_simp⟩) hHeld ?_
          simp only [List.getElem_toArray, List.getElem_cons_zero, List.getElem_cons_succ, Act.put, List.setIfInBounds_toArray, List.set_cons_zero, List.set_cons_succ]
          refine wpAnyH_take (i := 12) (v := .int .i64 3) rfl (by kernel_rfl) (by kernel_rfl) (by kernel_rfl) (fun _ _ _ h => h) (Or.inl ⟨by rfl, fun _ _ => by go_simp⟩) hHeld ?_
          simp only [List.getElem_toArray, List.getElem_cons_zero, List.getElem_cons_succ, Act.put, List.setIfInBounds_toArray, List.set_cons_zero, List.set_cons_succ]
          refine wpAnyH_take (i := 13) (v := .slice none 0 0) rfl (by kernel_rfl) (by kernel_rfl) (by kernel_rfl) (fun _ _ _ h => h) (Or.inl ⟨by rfl, fun _ _ => by go_simp⟩) hHeld ?_
          simp only [List.getElem_toArray, List.getElem_cons_zero, List.getElem_cons_succ, Act.put, List.setIfInBounds_toArray, List.set_cons_zero, List.set_cons_succ]
          refine wpAnyH_take (i := 14) (v := .int .i64 m) rfl (by kernel_rfl) (by kernel_rfl) (by kernel_rfl) (fun _ _ _ h => h) (Or.inl ⟨by rfl, fun _ _ => by go_simp⟩) hHeld ?_
          simp only [List.getElem_toArray, List.getElem_cons_zero, List.getElem_cons_succ, Act.put, List.setIfInBounds_toArray, List.set_cons_zero, List.set_cons_succ]
          refine wpAnyH_take (i := 15) (v := .int .i64 3) rfl (by kernel_rfl) (by kernel_rfl) (by kernel_rfl) (fun _ _ _ h => h) (Or.inl ⟨by rfl, fun _ _ => by go_simp⟩) hHeld ?_
          simp only [List.getElem_toArray, List.getElem_cons_zero, List.getElem_cons_succ, Act.put, List.setIfInBounds_toArray, List.set_cons_zero, List.set_cons_succ]
          refine wpAnyH_done (by kernel_rfl) ?_ _
          go_wp2_with fail
          go_meet
          exact ⟨rfl, rfl, rfl, bW4⟩
      case rest =>
        obtain ⟨rfl, rfl, rfl, b8⟩ := hcut
        have HKf := veil ((unveil HKe).next b8)
        have HR6c := veil ((unveil HR6b).below b8)
        clear HKe HR6b b8 HA2
        obtain ⟨we, hwe⟩ : ∃ X, X = wc := ⟨_, rfl⟩
        subst hwe
        go_upto_region 9 with fail
        go_cut [20, 21, 22] (fun p r s wx => ∃ Y f A K, p = .slice (some ⟨Y, 0, none⟩) 4 4 ∧ r = .int .i64 0 ∧ s = .int .i64 0 ∧ Hid (Fb wx Y f A K ∧ f q = ⟨1, E + 1, 0, 0, 0, []⟩) ∧ Below we.heap.size we wx)
        case first =>
          have r4 := unveil HR6c
          have rec_wf : ∀ u ∈ recTen (recC q (E + 1)), (Lit.int .i64 u).wf = true := rec_wf10 (by decide) (lit_wfR (by omega) (by omega)) (lit_wfR (by omega) (by omega)) (by decide)
          have hwf2 : ∀ u ∈ recFlat T2 ++ recTen (recC q (E + 1)), (Lit.int .i64 u).wf = true := fun u hu => (List.mem_append.1 hu).elim (r4.wf u) (rec_wf u)
          refine wp_region_held_drew (S := Below we.heap.size we) (by kernel_rfl) (below_drew we) (fun hHeld => ?_)
          refine wpAnyH_take (i := 0) (v := .slice (some ⟨G2, 0, none⟩) m k2) rfl (by kernel_rfl) (by kernel_rfl) (by kernel_rfl) (fun _ _ _ h => h) (Or.inl ⟨by rfl, fun _ _ => by go_simp⟩) hHeld ?_
          simp only [List.getElem_toArray, List.getElem_cons_zero, Act.put, List.setIfInBounds_toArray, List.set_cons_zero, List.set_cons_succ]
          refine wpAnyH_take (i := 2) (v := .int .i64 q) rfl (by kernel_rfl) (by kernel_rfl) (by kernel_rfl) (fun _ _ _ h => h) (Or.inl ⟨by rfl, fun _ _ => by go_simp⟩) hHeld ?_
          simp only [List.getElem_toArray, List.getElem_cons_zero, List.getElem_cons_succ, Act.put, List.setIfInBounds_toArray, List.set_cons_zero, List.set_cons_succ]
          refine wpAnyH_take (i := 3) (v := .pointer (some ⟨Rb, 1, none⟩)) rfl (by kernel_rfl) (by kernel_rfl) (by kernel_rfl) (fun _ _ _ h => h) (Or.inl ⟨by rfl, fun _ _ => by go_simp⟩) hHeld ?_
          simp only [List.getElem_toArray, List.getElem_cons_zero, List.getElem_cons_succ, Act.put, List.setIfInBounds_toArray, List.set_cons_zero, List.set_cons_succ]
          refine wpAnyH_take (i := 4) (v := .int .i64 E) rfl (by kernel_rfl) (by kernel_rfl) (by kernel_rfl) (fun _ _ _ h => h) (Or.inl ⟨by rfl, fun u b => by obtain ⟨z0, z1, z2, z3, z4, z5⟩ := ((unveil HKf).next b).b.cells; go_simp⟩) hHeld ?_
          simp only [List.getElem_toArray, List.getElem_cons_zero, List.getElem_cons_succ, Act.put, List.setIfInBounds_toArray, List.set_cons_zero, List.set_cons_succ]
          refine wpAnyH_take (i := 5) (v := .int .i64 (E + 1)) rfl (by kernel_rfl) (by kernel_rfl) (by kernel_rfl) (fun _ _ _ h => h) (Or.inl ⟨by rfl, fun _ _ => by go_simp; rw [IntKind.wrap_i64]; omega⟩) hHeld ?_
          simp only [List.getElem_toArray, List.getElem_cons_zero, List.getElem_cons_succ, Act.put, List.setIfInBounds_toArray, List.set_cons_zero, List.set_cons_succ]
          refine wpAnyH_take (i := 6) (v := .agg #[.int .i64 1, .int .i64 q, .int .i64 (E + 1), .int .i64 0, .int .i64 0, .int .i64 0, .int .i64 0, .int .i64 0, .int .i64 0, .int .i64 0]) rfl (by kernel_rfl) (by kernel_rfl) (by kernel_rfl) (fun _ _ _ h => h) (Or.inl ⟨by rfl, fun _ _ => by go_simp⟩) hHeld ?_
          simp only [List.getElem_toArray, List.getElem_cons_zero, List.getElem_cons_succ, Act.put, List.setIfInBounds_toArray, List.set_cons_zero, List.set_cons_succ]
          have bW0 := below_drew we
          have r4 := r4.below bW0
          obtain ⟨W0, hW0⟩ : ∃ W0, W0 = we.drew := ⟨_, rfl⟩
          rw [← hW0] at bW0 r4 hHeld ⊢
          clear hW0
          refine wpAnyH_ready (rs := [1, 7]) (by kernel_rfl) (by simp) ?_
          refine AllReadyH.cons rfl (fun K hK => ?_) (AllReadyH.cons rfl (fun K hK => ?_) AllReadyH.nil)
          · simp only [List.getElem_toArray, List.getElem_cons_zero, List.getElem_cons_succ]
            refine ite_wanted rfl ?_
            refine wp_append_rows (.const (.slice none 0 0)) (.tmp 83) 37 rfl we.heap.size 30 i3 _ 10 80 Tryz.underlying37 hi3 hz30 hz31 hz32 rfl (by decide) (.slice none 0 0) 0 [] rfl (World.ownsRow_nil _ _ _ _) (some ⟨G2, 0, none⟩) m k2 (recFlat T2) rfl r4 (fun h => by cases h) (by unfold maxLen; omega) (by omega) bW0.size ?_
            intro va W1 oa ga
            simp only [Nat.zero_add, List.nil_append] at oa
            obtain ⟨aa, ka, rfl⟩ := own_form oa
            have bn : Below W0.heap.size W0 W1 := (Below.refl _ _).grown ga (Nat.le_refl _) (by simp [Value.ownBlock])
            clear ga
            have bW1 := Below.next bW0 bn
            have r4 := r4.below bn
            clear bn
            refine hK.out _ _ bW1 (fun hHeld => ?_)
            clear hK K
            refine wpAnyH_ready (rs := [7]) (by kernel_rfl) (by simp) ?_
            refine AllReadyH.cons rfl (fun K hK => ?_) AllReadyH.nil
            simp only [List.getElem_toArray, List.getElem_cons_zero, List.getElem_cons_succ]
            go_simp
            obtain ⟨W2, hN, lr, bn⟩ : ∃ W, W = W1.alloc (.cells #[.int .i64 1, .int .i64 q, .int .i64 (E + 1), .int .i64 0, .int .i64 0, .int .i64 0, .int .i64 0, .int .i64 0, .int .i64 0, .int .i64 0] 30) ∧ RowK .i64 W (some ⟨W1.heap.size, 0, none⟩) 10 (recTen (recC q (E + 1))) ∧ Below W1.heap.size W1 W := ⟨_, rfl, row_ten W1 (recC q (E + 1)) rec_wf, below1 _ _⟩
            rw [← hN]
            clear hN
            obtain ⟨L, hL⟩ : ∃ L, L = W1.heap.size := ⟨_, rfl⟩
            rw [← hL] at lr ⊢
            clear hL
            have bW2 := Below.next bW1 bn
            have r4 := r4.below bn
            have oa := own_still oa (fun g _ hg => bn.block g hg)
            clear bn
            refine hK.out _ _ bW2 (fun hHeld => ?_)
            clear hK K
            refine wpAnyH_ready (rs := [8]) (by kernel_rfl) (by simp) ?_
            refine AllReadyH.cons rfl (fun K hK => ?_) AllReadyH.nil
            simp only [List.getElem_toArray, List.getElem_cons_zero, List.getElem_cons_succ]
            refine ite_wanted rfl ?_
            refine wp_append_rows (.tmp 84) (.tmp 90) 37 rfl we.heap.size 30 i3 _ 10 80 Tryz.underlying37 hi3 hz30 hz31 hz32 rfl (by decide) _ m (recFlat T2) rfl oa (some ⟨L, 0, none⟩) 1 1 (recTen (recC q (E + 1))) rfl lr (fun h => by cases h) (by unfold maxLen; omega) (by omega) bW2.size ?_
            intro vb W3 ob gb
            have bW3 : Below we.heap.size we W3 := bW2.grown gb bW2.size (fun g hg => (oa.lt g hg).1)
            obtain ⟨ab, kb, rfl, rb, hkb, _, _, _⟩ := RowK.ofMany ob hwf2
            clear gb ob oa lr
            refine hK.out _ _ bW3 (fun hHeld => ?_)
            clear hK K
            refine wpAnyH_ready (rs := [9]) (by kernel_rfl) (by simp) ?_
            refine AllReadyH.cons rfl (fun K hK => ?_) AllReadyH.nil
            simp only [List.getElem_toArray, List.getElem_cons_zero, List.getElem_cons_succ]
            go_simp
            refine (unveil HA3 W3 ab kb rb hkb).mono ?_
            rintro e W4 ⟨Y, f, A, K3, rfl, fb, hfq, bn⟩
            clear rb
            have bW4 := Below.next bW3 bn
            clear bn
            refine hK.out _ _ bW4 (fun hHeld => ?_)
            clear hK K
            refine wpAnyH_take (i := 10) (v := .tuple #[.slice (some ⟨Y, 0, none⟩) 4 4, .int .i64 0, .int .i64 0]) rfl (by kernel_rfl) (by kernel_rfl) (by kernel_rfl) (fun _ _ _ h => h) (Or.inl ⟨by rfl, fun _ _ => by go_simp⟩) hHeld ?_
            simp only [List.getElem_toArray, List.getElem_cons_zero, List.getElem_cons_succ, Act.put, List.setIfInBounds_toArray, List.set_cons_zero, List.set_cons_succ]
            refine wpAnyH_take (i := 11) (v := .slice (some ⟨Y, 0, none⟩) 4 4) rfl (by kernel_rfl) (by kernel_rfl) (by kernel_rfl) (fun _ _ _ h => h) (Or.inl ⟨by rfl, fun _ _ => by go_simp⟩) hHeld ?_
            simp only [List.getElem_toArray, List.getElem_cons_zero, List.getElem_cons_succ, Act.put, List.setIfInBounds_toArray, List.set_cons_zero, List.set_cons_succ]
            refine wpAnyH_take (i := 12) (v := .int .i64 0) rfl (by kernel_rfl) (by kernel_rfl) (by kernel_rfl) (fun _ _ _ h => h) (Or.inl ⟨by rfl, fun _ _ => by go_simp⟩) hHeld ?_
            simp only [List.getElem_toArray, List.getElem_cons_zero, List.getElem_cons_succ, Act.put, List.setIfInBounds_toArray, List.set_cons_zero, List.set_cons_succ]
            refine wpAnyH_take (i := 13) (v := .int .i64 0) rfl (by kernel_rfl) (by kernel_rfl) (by kernel_rfl) (fun _ _ _ h => h) (Or.inl ⟨by rfl, fun _ _ => by go_simp⟩) hHeld ?_
            simp only [List.getElem_toArray, List.getElem_cons_zero, List.getElem_cons_succ, Act.put, List.setIfInBounds_toArray, List.set_cons_zero, List.set_cons_succ]
            refine wpAnyH_take (i := 14) (v := .slice (some ⟨Y, 0, none⟩) 4 4) rfl (by kernel_rfl) (by kernel_rfl) (by kernel_rfl) (fun _ _ _ h => h) (Or.inl ⟨by rfl, fun _ _ => by go_simp⟩) hHeld ?_
            simp only [List.getElem_toArray, List.getElem_cons_zero, List.getElem_cons_succ, Act.put, List.setIfInBounds_toArray, List.set_cons_zero, List.set_cons_succ]
            refine wpAnyH_take (i := 15) (v := .int .i64 0) rfl (by kernel_rfl) (by kernel_rfl) (by kernel_rfl) (fun _ _ _ h => h) (Or.inl ⟨by rfl, fun _ _ => by go_simp⟩) hHeld ?_
            simp only [List.getElem_toArray, List.getElem_cons_zero, List.getElem_cons_succ, Act.put, List.setIfInBounds_toArray, List.set_cons_zero, List.set_cons_succ]
            refine wpAnyH_take (i := 16) (v := .int .i64 0) rfl (by kernel_rfl) (by kernel_rfl) (by kernel_rfl) (fun _ _ _ h => h) (Or.inl ⟨by rfl, fun _ _ => by go_simp⟩) hHeld ?_
            simp only [List.getElem_toArray, List.getElem_cons_zero, List.getElem_cons_succ, Act.put, List.setIfInBounds_toArray, List.set_cons_zero, List.set_cons_succ]
            refine wpAnyH_done (by kernel_rfl) ?_ _
            go_wp2_with fail
            go_meet
            exact ⟨Y, f, A, K3, rfl, rfl, rfl, veil ⟨fb, hfq⟩, bW4⟩
          · simp only [List.getElem_toArray, List.getElem_cons_zero, List.getElem_cons_succ]
            go_simp
            obtain ⟨W1, hN, lr, bn⟩ : ∃ W, W = W0.alloc (.cells #[.int .i64 1, .int .i64 q, .int .i64 (E + 1), .int .i64 0, .int .i64 0, .int .i64 0, .int .i64 0, .int .i64 0, .int .i64 0, .int .i64 0] 30) ∧ RowK .i64 W (some ⟨W0.heap.size, 0, none⟩) 10 (recTen (recC q (E + 1))) ∧ Below W0.heap.size W0 W := ⟨_, rfl, row_ten W0 (recC q (E + 1)) rec_wf, below1 _ _⟩
            rw [← hN]
            clear hN
            obtain ⟨L, hL⟩ : ∃ L, L = W0.heap.size := ⟨_, rfl⟩
            rw [← hL] at lr ⊢
            clear hL
            have bW1 := Below.next bW0 bn
            have r4 := r4.below bn
            clear bn
            refine hK.out _ _ bW1 (fun hHeld => ?_)
            clear hK K
            refine wpAnyH_ready (rs := [1]) (by kernel_rfl) (by simp) ?_
            refine AllReadyH.cons rfl (fun K hK => ?_) AllReadyH.nil
            simp only [List.getElem_toArray, List.getElem_cons_zero, List.getElem_cons_succ]
            refine ite_wanted rfl ?_
            refine wp_append_rows (.const (.slice none 0 0)) (.tmp 83) 37 rfl we.heap.size 30 i3 _ 10 80 Tryz.underlying37 hi3 hz30 hz31 hz32 rfl (by decide) (.slice none 0 0) 0 [] rfl (World.ownsRow_nil _ _ _ _) (some ⟨G2, 0, none⟩) m k2 (recFlat T2) rfl r4 (fun h => by cases h) (by unfold maxLen; omega) (by omega) bW1.size ?_
            intro va W2 oa ga
            simp only [Nat.zero_add, List.nil_append] at oa
            obtain ⟨aa, ka, rfl⟩ := own_form oa
            have bn : Below W1.heap.size W1 W2 := (Below.refl _ _).grown ga (Nat.le_refl _) (by simp [Value.ownBlock])
            clear ga
            have bW2 := Below.next bW1 bn
            have r4 := r4.below bn
            have lr := lr.below bn
            clear bn
            refine hK.out _ _ bW2 (fun hHeld => ?_)
            clear hK K
            refine wpAnyH_ready (rs := [8]) (by kernel_rfl) (by simp) ?_
            refine AllReadyH.cons rfl (fun K hK => ?_) AllReadyH.nil
            simp only [List.getElem_toArray, List.getElem_cons_zero, List.getElem_cons_succ]
            refine ite_wanted rfl ?_
            refine wp_append_rows (.tmp 84) (.tmp 90) 37 rfl we.heap.size 30 i3 _ 10 80 Tryz.underlying37 hi3 hz30 hz31 hz32 rfl (by decide) _ m (recFlat T2) rfl oa (some ⟨L, 0, none⟩) 1 1 (recTen (recC q (E + 1))) rfl lr (fun h => by cases h) (by unfold maxLen; omega) (by omega) bW2.size ?_
            intro vb W3 ob gb
            have bW3 : Below we.heap.size we W3 := bW2.grown gb bW2.size (fun g hg => (oa.lt g hg).1)
            obtain ⟨ab, kb, rfl, rb, hkb, _, _, _⟩ := RowK.ofMany ob hwf2
            clear gb ob oa lr
            refine hK.out _ _ bW3 (fun hHeld => ?_)
            clear hK K
            refine wpAnyH_ready (rs := [9]) (by kernel_rfl) (by simp) ?_
            refine AllReadyH.cons rfl (fun K hK => ?_) AllReadyH.nil
            simp only [List.getElem_toArray, List.getElem_cons_zero, List.getElem_cons_succ]
            go_simp
            refine (unveil HA3 W3 ab kb rb hkb).mono ?_
            rintro e W4 ⟨Y, f, A, K3, rfl, fb, hfq, bn⟩
            clear rb
            have bW4 := Below.next bW3 bn
            clear bn
            refine hK.out _ _ bW4 (fun hHeld => ?_)
            clear hK K
            refine wpAnyH_take (i := 10) (v := .tuple #[.slice (some ⟨Y, 0, none⟩) 4 4, .int .i64 0, .int .i64 0]) rfl (by kernel_rfl) (by kernel_rfl) (by kernel_rfl) (fun _ _ _ h => h) (Or.inl ⟨by rfl, fun _ _ => by go_simp⟩) hHeld ?_
            simp only [List.getElem_toArray, List.getElem_cons_zero, List.getElem_cons_succ, Act.put, List.setIfInBounds_toArray, List.set_cons_zero, List.set_cons_succ]
            refine wpAnyH_take (i := 11) (v := .slice (some ⟨Y, 0, none⟩) 4 4) rfl (by kernel_rfl) (by kernel_rfl) (by kernel_rfl) (fun _ _ _ h => h) (Or.inl ⟨by rfl, fun _ _ => by go_simp⟩) hHeld ?_
            simp only [List.getElem_toArray, List.getElem_cons_zero, List.getElem_cons_succ, Act.put, List.setIfInBounds_toArray, List.set_cons_zero, List.set_cons_succ]
            refine wpAnyH_take (i := 12) (v := .int .i64 0) rfl (by kernel_rfl) (by kernel_rfl) (by kernel_rfl) (fun _ _ _ h => h) (Or.inl ⟨by rfl, fun _ _ => by go_simp⟩) hHeld ?_
            simp only [List.getElem_toArray, List.getElem_cons_zero, List.getElem_cons_succ, Act.put, List.setIfInBounds_toArray, List.set_cons_zero, List.set_cons_succ]
            refine wpAnyH_take (i := 13) (v := .int .i64 0) rfl (by kernel_rfl) (by kernel_rfl) (by kernel_rfl) (fun _ _ _ h => h) (Or.inl ⟨by rfl, fun _ _ => by go_simp⟩) hHeld ?_
            simp only [List.getElem_toArray, List.getElem_cons_zero, List.getElem_cons_succ, Act.put, List.setIfInBounds_toArray, List.set_cons_zero, List.set_cons_succ]
            refine wpAnyH_take (i := 14) (v := .slice (some ⟨Y, 0, none⟩) 4 4) rfl (by kernel_rfl) (by kernel_rfl) (by kernel_rfl) (fun _ _ _ h => h) (Or.inl ⟨by rfl, fun _ _ => by go_simp⟩) hHeld ?_
            simp only [List.getElem_toArray, List.getElem_cons_zero, List.getElem_cons_succ, Act.put, List.setIfInBounds_toArray, List.set_cons_zero, List.set_cons_succ]
            refine wpAnyH_take (i := 15) (v := .int .i64 0) rfl (by kernel_rfl) (by kernel_rfl) (by kernel_rfl) (fun _ _ _ h => h) (Or.inl ⟨by rfl, fun _ _ => by go_simp⟩) hHeld ?_
            simp only [List.getElem_toArray, List.getElem_cons_zero, List.getElem_cons_succ, Act.put, List.setIfInBounds_toArray, List.set_cons_zero, List.set_cons_succ]
            refine wpAnyH_take (i := 16) (v := .int .i64 0) rfl (by kernel_rfl) (by kernel_rfl) (by kernel_rfl) (fun _ _ _ h => h) (Or.inl ⟨by rfl, fun _ _ => by go_simp⟩) hHeld ?_
            simp only [List.getElem_toArray, List.getElem_cons_zero, List.getElem_cons_succ, Act.put, List.setIfInBounds_toArray, List.set_cons_zero, List.set_cons_succ]
            refine wpAnyH_done (by kernel_rfl) ?_ _
            go_wp2_with fail
            go_meet
            exact ⟨Y, f, A, K3, rfl, rfl, rfl, veil ⟨fb, hfq⟩, bW4⟩
        case rest =>
          as_aux_lemma =>
          obtain ⟨Y, f, A, K, rfl, rfl, rfl, HF, b9⟩ := hcut
          have HKg := veil ((unveil HKf).next b9)
          clear HKf HR6c b9 HA3
          have HCells : Hid (∀ u, Below wc.heap.size wc u → u.cell? ⟨Y, q * 6, none⟩ = some (.int .i64 1) ∧ u.cell? ⟨Y, q * 6 + 1, none⟩ = some (.int .i64 (E + 1)) ∧ u.cell? ⟨Y, q * 6 + 5, none⟩ = some (.slice (A q) 0 (K q)) ∧ u.cell? ⟨Rb, 1, none⟩ = some (.int .i64 E)) := veil fun u b => by
            have h1 := ((unveil HF).1.next b).b.at q hq
            rw [(unveil HF).2] at h1
            exact ⟨h1.1, h1.2.1, h1.2.2.2.2.2, ((unveil HKg).next b).b.cells.2.1⟩
          have HB := veil (unveil HKg).bel
          clear HF HKg
          go_upto_region 10 with fail
          simp only [List.append]
          refine wp_region_held_drew (S := Below wc.heap.size wc) (by kernel_rfl) (below_drew wc) (fun hHeld => ?_)
          refine wpAnyH_take (i := 0) (v := .bool true) rfl (by kernel_rfl) (by kernel_rfl) (by kernel_rfl) (fun _ _ _ h => h) (Or.inl ⟨by rfl, fun _ _ => by go_simp⟩) hHeld ?_
          simp only [List.getElem_toArray, List.getElem_cons_zero, Act.put, List.setIfInBounds_toArray, List.set_cons_zero, List.set_cons_succ]
          refine wpAnyH_take (i := 1) (v := .bool true) rfl (by kernel_rfl) (by kernel_rfl) (by kernel_rfl) (fun _ _ _ h => h) (Or.inl ⟨by rfl, fun _ _ => by go_simp⟩) hHeld ?_
          simp only [List.getElem_toArray, List.getElem_cons_zero, List.getElem_cons_succ, Act.put, List.setIfInBounds_toArray, List.set_cons_zero, List.set_cons_succ]
          refine wpAnyH_take (i := 2) (v := .int .i64 0) rfl (by kernel_rfl) (by kernel_rfl) (by kernel_rfl) (fun _ _ _ h => h) (Or.inl ⟨by rfl, fun _ _ => by go_simp⟩) hHeld ?_
          simp only [List.getElem_toArray, List.getElem_cons_zero, List.getElem_cons_succ, Act.put, List.setIfInBounds_toArray, List.set_cons_zero, List.set_cons_succ]
          refine wpAnyH_take (i := 3) (v := .bool true) rfl (by kernel_rfl) (by kernel_rfl) (by kernel_rfl) (fun _ _ _ h => h) (Or.inl ⟨by rfl, fun _ _ => by go_simp⟩) hHeld ?_
          simp only [List.getElem_toArray, List.getElem_cons_zero, List.getElem_cons_succ, Act.put, List.setIfInBounds_toArray, List.set_cons_zero, List.set_cons_succ]
          refine wpAnyH_take (i := 4) (v := .bool true) rfl (by kernel_rfl) (by kernel_rfl) (by kernel_rfl) (fun _ _ _ h => h) (Or.inl ⟨by rfl, fun _ _ => by go_simp⟩) hHeld ?_
          simp only [List.getElem_toArray, List.getElem_cons_zero, List.getElem_cons_succ, Act.put, List.setIfInBounds_toArray, List.set_cons_zero, List.set_cons_succ]
          refine wpAnyH_take (i := 5) (v := .bool true) rfl (by kernel_rfl) (by kernel_rfl) (by kernel_rfl) (fun _ _ _ h => h) (Or.inl ⟨by rfl, fun _ _ => by go_simp⟩) hHeld ?_
          simp only [List.getElem_toArray, List.getElem_cons_zero, List.getElem_cons_succ, Act.put, List.setIfInBounds_toArray, List.set_cons_zero, List.set_cons_succ]
          refine wpAnyH_take (i := 6) (v := .int .i64 0) rfl (by kernel_rfl) (by kernel_rfl) (by kernel_rfl) (fun _ _ _ h => h) (Or.inl ⟨by rfl, fun _ _ => by go_simp⟩) hHeld ?_
          simp only [List.getElem_toArray, List.getElem_cons_zero, List.getElem_cons_succ, Act.put, List.setIfInBounds_toArray, List.set_cons_zero, List.set_cons_succ]
          refine wpAnyH_take (i := 7) (v := .bool true) rfl (by kernel_rfl) (by kernel_rfl) (by kernel_rfl) (fun _ _ _ h => h) (Or.inl ⟨by rfl, fun _ _ => by go_simp⟩) hHeld ?_
          simp only [List.getElem_toArray, List.getElem_cons_zero, List.getElem_cons_succ, Act.put, List.setIfInBounds_toArray, List.set_cons_zero, List.set_cons_succ]
          refine wpAnyH_take (i := 8) (v := .bool true) rfl (by kernel_rfl) (by kernel_rfl) (by kernel_rfl) (fun _ _ _ h => h) (Or.inl ⟨by rfl, fun _ _ => by go_simp⟩) hHeld ?_
          simp only [List.getElem_toArray, List.getElem_cons_zero, List.getElem_cons_succ, Act.put, List.setIfInBounds_toArray, List.set_cons_zero, List.set_cons_succ]
          refine wpAnyH_take (i := 9) (v := .bool true) rfl (by kernel_rfl) (by kernel_rfl) (by kernel_rfl) (fun _ _ _ h => h) (Or.inl ⟨by rfl, fun _ _ => by go_simp⟩) hHeld ?_
          simp only [List.getElem_toArray, List.getElem_cons_zero, List.getElem_cons_succ, Act.put, List.setIfInBounds_toArray, List.set_cons_zero, List.set_cons_succ]
          refine wpAnyH_take (i := 10) (v := .int .i64 3) rfl (by kernel_rfl) (by kernel_rfl) (by kernel_rfl) (fun _ _ _ h => h) (Or.inl ⟨by rfl, fun _ _ => by go_simp⟩) hHeld ?_
          simp only [List.getElem_toArray, List.getElem_cons_zero, List.getElem_cons_succ, Act.put, List.setIfInBounds_toArray, List.set_cons_zero, List.set_cons_succ]
          refine wpAnyH_take (i := 11) (v := .bool true) rfl (by kernel_rfl) (by kernel_rfl) (by kernel_rfl) (fun _ _ _ h => h) (Or.inl ⟨by rfl, fun _ _ => by go_simp⟩) hHeld ?_
          simp only [List.getElem_toArray, List.getElem_cons_zero, List.getElem_cons_succ, Act.put, List.setIfInBounds_toArray, List.set_cons_zero, List.set_cons_succ]
          refine wpAnyH_take (i := 12) (v := .bool true) rfl (by kernel_rfl) (by kernel_rfl) (by kernel_rfl) (fun _ _ _ h => h) (Or.inl ⟨by rfl, fun _ _ => by go_simp⟩) hHeld ?_
          simp only [List.getElem_toArray, List.getElem_cons_zero, List.getElem_cons_succ, Act.put, List.setIfInBounds_toArray, List.set_cons_zero, List.set_cons_succ]
          refine wpAnyH_take (i := 13) (v := .bool true) rfl (by kernel_rfl) (by kernel_rfl) (by kernel_rfl) (fun _ _ _ h => h) (Or.inl ⟨by rfl, fun _ _ => by go_simp⟩) hHeld ?_
          simp only [List.getElem_toArray, List.getElem_cons_zero, List.getElem_cons_succ, Act.put, List.setIfInBounds_toArray, List.set_cons_zero, List.set_cons_succ]
          refine wpAnyH_take (i := 14) (v := .int .i64 3) rfl (by kernel_rfl) (by kernel_rfl) (by kernel_rfl) (fun _ _ _ h => h) (Or.inl ⟨by rfl, fun _ _ => by go_simp⟩) hHeld ?_
          simp only [List.getElem_toArray, List.getElem_cons_zero, List.getElem_cons_succ, Act.put, List.setIfInBounds_toArray, List.set_cons_zero, List.set_cons_succ]
          refine wpAnyH_take (i := 15) (v := .bool true) rfl (by kernel_rfl) (by kernel_rfl) (by kernel_rfl) (fun _ _ _ h => h) (Or.inl ⟨by rfl, fun _ _ => by go_simp⟩) hHeld ?_
          simp only [List.getElem_toArray, List.getElem_cons_zero, List.getElem_cons_succ, Act.put, List.setIfInBounds_toArray, List.set_cons_zero, List.set_cons_succ]
          refine wpAnyH_take (i := 16) (v := .bool true) rfl (by kernel_rfl) (by kernel_rfl) (by kernel_rfl) (fun _ _ _ h => h) (Or.inl ⟨by rfl, fun _ _ => by go_simp⟩) hHeld ?_
          simp only [List.getElem_toArray, List.getElem_cons_zero, List.getElem_cons_succ, Act.put, List.setIfInBounds_toArray, List.set_cons_zero, List.set_cons_succ]
          refine wpAnyH_take (i := 17) (v := .bool true) rfl (by kernel_rfl) (by kernel_rfl) (by kernel_rfl) (fun _ _ _ h => h) (Or.inl ⟨by rfl, fun _ _ => by go_simp⟩) hHeld ?_
          simp only [List.getElem_toArray, List.getElem_cons_zero, List.getElem_cons_succ, Act.put, List.setIfInBounds_toArray, List.set_cons_zero, List.set_cons_succ]
          refine wpAnyH_take (i := 18) (v := .int .i64 0) rfl (by kernel_rfl) (by kernel_rfl) (by kernel_rfl) (fun _ _ _ h => h) (Or.inl ⟨by rfl, fun _ _ => by go_simp⟩) hHeld ?_
          simp only [List.getElem_toArray, List.getElem_cons_zero, List.getElem_cons_succ, Act.put, List.setIfInBounds_toArray, List.set_cons_zero, List.set_cons_succ]
          refine wpAnyH_take (i := 19) (v := .bool true) rfl (by kernel_rfl) (by kernel_rfl) (by kernel_rfl) (fun _ _ _ h => h) (Or.inl ⟨by rfl, fun _ _ => by go_simp⟩) hHeld ?_
          simp only [List.getElem_toArray, List.getElem_cons_zero, List.getElem_cons_succ, Act.put, List.setIfInBounds_toArray, List.set_cons_zero, List.set_cons_succ]
          refine wpAnyH_take (i := 20) (v := .bool true) rfl (by kernel_rfl) (by kernel_rfl) (by kernel_rfl) (fun _ _ _ h => h) (Or.inl ⟨by rfl, fun _ _ => by go_simp⟩) hHeld ?_
          simp only [List.getElem_toArray, List.getElem_cons_zero, List.getElem_cons_succ, Act.put, List.setIfInBounds_toArray, List.set_cons_zero, List.set_cons_succ]
          refine wpAnyH_take (i := 21) (v := .bool true) rfl (by kernel_rfl) (by kernel_rfl) (by kernel_rfl) (fun _ _ _ h => h) (Or.inl ⟨by rfl, fun _ _ => by go_simp⟩) hHeld ?_
          simp only [List.getElem_toArray, List.getElem_cons_zero, List.getElem_cons_succ, Act.put, List.setIfInBounds_toArray, List.set_cons_zero, List.set_cons_succ]
          refine wpAnyH_take (i := 22) (v := .int .i64 n) rfl (by kernel_rfl) (by kernel_rfl) (by kernel_rfl) (fun _ _ _ h => h) (Or.inl ⟨by rfl, fun _ _ => by go_simp⟩) hHeld ?_
          simp only [List.getElem_toArray, List.getElem_cons_zero, List.getElem_cons_succ, Act.put, List.setIfInBounds_toArray, List.set_cons_zero, List.set_cons_succ]
          refine wpAnyH_take (i := 23) (v := .slice (some ⟨GS, 0, none⟩) n CS) rfl (by kernel_rfl) (by kernel_rfl) (by kernel_rfl) (fun _ _ _ h => h) (Or.inl ⟨by rfl, fun _ _ => by go_simp⟩) hHeld ?_
          simp only [List.getElem_toArray, List.getElem_cons_zero, List.getElem_cons_succ, Act.put, List.setIfInBounds_toArray, List.set_cons_zero, List.set_cons_succ]
          refine wpAnyH_take (i := 24) (v := .int .i64 n) rfl (by kernel_rfl) (by kernel_rfl) (by kernel_rfl) (fun _ _ _ h => h) (Or.inl ⟨by rfl, fun _ _ => by go_simp⟩) hHeld ?_
          simp only [List.getElem_toArray, List.getElem_cons_zero, List.getElem_cons_succ, Act.put, List.setIfInBounds_toArray, List.set_cons_zero, List.set_cons_succ]
          refine wpAnyH_take (i := 25) (v := .bool true) rfl (by kernel_rfl) (by kernel_rfl) (by kernel_rfl) (fun _ _ _ h => h) (Or.inl ⟨by rfl, fun _ _ => by go_simp⟩) hHeld ?_
          simp only [List.getElem_toArray, List.getElem_cons_zero, List.getElem_cons_succ, Act.put, List.setIfInBounds_toArray, List.set_cons_zero, List.set_cons_succ]
          refine wpAnyH_take (i := 26) (v := .bool true) rfl (by kernel_rfl) (by kernel_rfl) (by kernel_rfl) (fun _ _ _ h => h) (Or.inl ⟨by rfl, fun _ _ => by go_simp⟩) hHeld ?_
          simp only [List.getElem_toArray, List.getElem_cons_zero, List.getElem_cons_succ, Act.put, List.setIfInBounds_toArray, List.set_cons_zero, List.set_cons_succ]
          refine wpAnyH_take (i := 27) (v := .bool true) rfl (by kernel_rfl) (by kernel_rfl) (by kernel_rfl) (fun _ _ _ h => h) (Or.inl ⟨by rfl, fun _ _ => by go_simp⟩) hHeld ?_
          simp only [List.getElem_toArray, List.getElem_cons_zero, List.getElem_cons_succ, Act.put, List.setIfInBounds_toArray, List.set_cons_zero, List.set_cons_succ]
          refine wpAnyH_take (i := 28) (v := .int .i64 m) rfl (by kernel_rfl) (by kernel_rfl) (by kernel_rfl) (fun _ _ _ h => h) (Or.inl ⟨by rfl, fun _ _ => by go_simp⟩) hHeld ?_
          simp only [List.getElem_toArray, List.getElem_cons_zero, List.getElem_cons_succ, Act.put, List.setIfInBounds_toArray, List.set_cons_zero, List.set_cons_succ]
          refine wpAnyH_take (i := 29) (v := .slice (some ⟨G2, 0, none⟩) m k2) rfl (by kernel_rfl) (by kernel_rfl) (by kernel_rfl) (fun _ _ _ h => h) (Or.inl ⟨by rfl, fun _ _ => by go_simp⟩) hHeld ?_
          simp only [List.getElem_toArray, List.getElem_cons_zero, List.getElem_cons_succ, Act.put, List.setIfInBounds_toArray, List.set_cons_zero, List.set_cons_succ]
          refine wpAnyH_take (i := 30) (v := .int .i64 m) rfl (by kernel_rfl) (by kernel_rfl) (by kernel_rfl) (fun _ _ _ h => h) (Or.inl ⟨by rfl, fun _ _ => by go_simp⟩) hHeld ?_
          simp only [List.getElem_toArray, List.getElem_cons_zero, List.getElem_cons_succ, Act.put, List.setIfInBounds_toArray, List.set_cons_zero, List.set_cons_succ]
          refine wpAnyH_take (i := 31) (v := .bool true) rfl (by kernel_rfl) (by kernel_rfl) (by kernel_rfl) (fun _ _ _ h => h) (Or.inl ⟨by rfl, fun _ _ => by go_simp⟩) hHeld ?_
          simp only [List.getElem_toArray, List.getElem_cons_zero, List.getElem_cons_succ, Act.put, List.setIfInBounds_toArray, List.set_cons_zero, List.set_cons_succ]
          refine wpAnyH_take (i := 32) (v := .bool true) rfl (by kernel_rfl) (by kernel_rfl) (by kernel_rfl) (fun _ _ _ h => h) (Or.inl ⟨by rfl, fun _ _ => by go_simp⟩) hHeld ?_
          simp only [List.getElem_toArray, List.getElem_cons_zero, List.getElem_cons_succ, Act.put, List.setIfInBounds_toArray, List.set_cons_zero, List.set_cons_succ]
          refine wpAnyH_take (i := 33) (v := .bool true) rfl (by kernel_rfl) (by kernel_rfl) (by kernel_rfl) (fun _ _ _ h => h) (Or.inl ⟨by rfl, fun _ _ => by go_simp⟩) hHeld ?_
          simp only [List.getElem_toArray, List.getElem_cons_zero, List.getElem_cons_succ, Act.put, List.setIfInBounds_toArray, List.set_cons_zero, List.set_cons_succ]
          refine wpAnyH_take (i := 34) (v := .slice (some ⟨Y, 0, none⟩) 4 4) rfl (by kernel_rfl) (by kernel_rfl) (by kernel_rfl) (fun _ _ _ h => h) (Or.inl ⟨by rfl, fun _ _ => by go_simp⟩) hHeld ?_
          simp only [List.getElem_toArray, List.getElem_cons_zero, List.getElem_cons_succ, Act.put, List.setIfInBounds_toArray, List.set_cons_zero, List.set_cons_succ]
          refine wpAnyH_take (i := 35) (v := .int .i64 4) rfl (by kernel_rfl) (by kernel_rfl) (by kernel_rfl) (fun _ _ _ h => h) (Or.inl ⟨by rfl, fun _ _ => by go_simp⟩) hHeld ?_
          simp only [List.getElem_toArray, List.getElem_cons_zero, List.getElem_cons_succ, Act.put, List.setIfInBounds_toArray, List.set_cons_zero, List.set_cons_succ]
          refine wpAnyH_take (i := 36) (v := .bool true) rfl (by kernel_rfl) (by kernel_rfl) (by kernel_rfl) (fun _ _ _ h => h) (Or.inl ⟨by rfl, fun _ _ => by go_simp⟩) hHeld ?_
          simp only [List.getElem_toArray, List.getElem_cons_zero, List.getElem_cons_succ, Act.put, List.setIfInBounds_toArray, List.set_cons_zero, List.set_cons_succ]
          refine wpAnyH_take (i := 37) (v := .bool true) rfl (by kernel_rfl) (by kernel_rfl) (by kernel_rfl) (fun _ _ _ h => h) (Or.inl ⟨by rfl, fun _ _ => by go_simp⟩) hHeld ?_
          simp only [List.getElem_toArray, List.getElem_cons_zero, List.getElem_cons_succ, Act.put, List.setIfInBounds_toArray, List.set_cons_zero, List.set_cons_succ]
          refine wpAnyH_take (i := 38) (v := .bool true) rfl (by kernel_rfl) (by kernel_rfl) (by kernel_rfl) (fun _ _ _ h => h) (Or.inl ⟨by rfl, fun _ _ => by go_simp⟩) hHeld ?_
          simp only [List.getElem_toArray, List.getElem_cons_zero, List.getElem_cons_succ, Act.put, List.setIfInBounds_toArray, List.set_cons_zero, List.set_cons_succ]
          refine wpAnyH_take (i := 39) (v := .slice (some ⟨Y, 0, none⟩) 4 4) rfl (by kernel_rfl) (by kernel_rfl) (by kernel_rfl) (fun _ _ _ h => h) (Or.inl ⟨by rfl, fun _ _ => by go_simp⟩) hHeld ?_
          simp only [List.getElem_toArray, List.getElem_cons_zero, List.getElem_cons_succ, Act.put, List.setIfInBounds_toArray, List.set_cons_zero, List.set_cons_succ]
          refine wpAnyH_take (i := 40) (v := .int .i64 q) rfl (by kernel_rfl) (by kernel_rfl) (by kernel_rfl) (fun _ _ _ h => h) (Or.inl ⟨by rfl, fun _ _ => by go_simp⟩) hHeld ?_
          simp only [List.getElem_toArray, List.getElem_cons_zero, List.getElem_cons_succ, Act.put, List.setIfInBounds_toArray, List.set_cons_zero, List.set_cons_succ]
          refine wpAnyH_take (i := 41) (v := .pointer (some ⟨Y, q * 6, none⟩)) rfl (by kernel_rfl) (by kernel_rfl) (by kernel_rfl) (fun _ _ _ h => h) (Or.inl ⟨by rfl, fun _ _ => by go_simp⟩) hHeld ?_
          simp only [List.getElem_toArray, List.getElem_cons_zero, List.getElem_cons_succ, Act.put, List.setIfInBounds_toArray, List.set_cons_zero, List.set_cons_succ]
          refine wpAnyH_take (i := 42) (v := .pointer (some ⟨Y, q * 6, none⟩)) rfl (by kernel_rfl) (by kernel_rfl) (by kernel_rfl) (fun _ _ _ h => h) (Or.inl ⟨by rfl, fun _ _ => by go_simp⟩) hHeld ?_
          simp only [List.getElem_toArray, List.getElem_cons_zero, List.getElem_cons_succ, Act.put, List.setIfInBounds_toArray, List.set_cons_zero, List.set_cons_succ]
          refine wpAnyH_take (i := 43) (v := .int .i64 1) rfl (by kernel_rfl) (by kernel_rfl) (by kernel_rfl) (fun _ _ _ h => h) (Or.inl ⟨by rfl, fun u b => by obtain ⟨y0, y1, y2, y3⟩ := unveil HCells u b; go_simp⟩) hHeld ?_
          simp only [List.getElem_toArray, List.getElem_cons_zero, List.getElem_cons_succ, Act.put, List.setIfInBounds_toArray, List.set_cons_zero, List.set_cons_succ]
          refine wpAnyH_take (i := 44) (v := .bool true) rfl (by kernel_rfl) (by kernel_rfl) (by kernel_rfl) (fun _ _ _ h => h) (Or.inl ⟨by rfl, fun _ _ => by go_simp⟩) hHeld ?_
          simp only [List.getElem_toArray, List.getElem_cons_zero, List.getElem_cons_succ, Act.put, List.setIfInBounds_toArray, List.set_cons_zero, List.set_cons_succ]
          refine wpAnyH_take (i := 45) (v := .bool true) rfl (by kernel_rfl) (by kernel_rfl) (by kernel_rfl) (fun _ _ _ h => h) (Or.inl ⟨by rfl, fun _ _ => by go_simp⟩) hHeld ?_
          simp only [List.getElem_toArray, List.getElem_cons_zero, List.getElem_cons_succ, Act.put, List.setIfInBounds_toArray, List.set_cons_zero, List.set_cons_succ]
          refine wpAnyH_take (i := 46) (v := .bool true) rfl (by kernel_rfl) (by kernel_rfl) (by kernel_rfl) (fun _ _ _ h => h) (Or.inl ⟨by rfl, fun _ _ => by go_simp⟩) hHeld ?_
          simp only [List.getElem_toArray, List.getElem_cons_zero, List.getElem_cons_succ, Act.put, List.setIfInBounds_toArray, List.set_cons_zero, List.set_cons_succ]
          refine wpAnyH_take (i := 47) (v := .slice (some ⟨Y, 0, none⟩) 4 4) rfl (by kernel_rfl) (by kernel_rfl) (by kernel_rfl) (fun _ _ _ h => h) (Or.inl ⟨by rfl, fun _ _ => by go_simp⟩) hHeld ?_
          simp only [List.getElem_toArray, List.getElem_cons_zero, List.getElem_cons_succ, Act.put, List.setIfInBounds_toArray, List.set_cons_zero, List.set_cons_succ]
          refine wpAnyH_take (i := 48) (v := .int .i64 q) rfl (by kernel_rfl) (by kernel_rfl) (by kernel_rfl) (fun _ _ _ h => h) (Or.inl ⟨by rfl, fun _ _ => by go_simp⟩) hHeld ?_
          simp only [List.getElem_toArray, List.getElem_cons_zero, List.getElem_cons_succ, Act.put, List.setIfInBounds_toArray, List.set_cons_zero, List.set_cons_succ]
          refine wpAnyH_take (i := 49) (v := .pointer (some ⟨Y, q * 6, none⟩)) rfl (by kernel_rfl) (by kernel_rfl) (by kernel_rfl) (fun _ _ _ h => h) (Or.inl ⟨by rfl, fun _ _ => by go_simp⟩) hHeld ?_
          simp only [List.getElem_toArray, List.getElem_cons_zero, List.getElem_cons_succ, Act.put, List.setIfInBounds_toArray, List.set_cons_zero, List.set_cons_succ]
          refine wpAnyH_take (i := 50) (v := .pointer (some ⟨Y, q * 6 + 1, none⟩)) rfl (by kernel_rfl) (by kernel_rfl) (by kernel_rfl) (fun _ _ _ h => h) (Or.inl ⟨by rfl, fun _ _ => by go_simp⟩) hHeld ?_
          simp only [List.getElem_toArray, List.getElem_cons_zero, List.getElem_cons_succ, Act.put, List.setIfInBounds_toArray, List.set_cons_zero, List.set_cons_succ]
          refine wpAnyH_take (i := 51) (v := .int .i64 (E + 1)) rfl (by kernel_rfl) (by kernel_rfl) (by kernel_rfl) (fun _ _ _ h => h) (Or.inl ⟨by rfl, fun u b => by obtain ⟨y0, y1, y2, y3⟩ := unveil HCells u b; go_simp⟩) hHeld ?_
          simp only [List.getElem_toArray, List.getElem_cons_zero, List.getElem_cons_succ, Act.put, List.setIfInBounds_toArray, List.set_cons_zero, List.set_cons_succ]
          refine wpAnyH_take (i := 52) (v := .pointer (some ⟨Rb, 1, none⟩)) rfl (by kernel_rfl) (by kernel_rfl) (by kernel_rfl) (fun _ _ _ h => h) (Or.inl ⟨by rfl, fun _ _ => by go_simp⟩) hHeld ?_
          simp only [List.getElem_toArray, List.getElem_cons_zero, List.getElem_cons_succ, Act.put, List.setIfInBounds_toArray, List.set_cons_zero, List.set_cons_succ]
          refine wpAnyH_take (i := 53) (v := .int .i64 E) rfl (by kernel_rfl) (by kernel_rfl) (by kernel_rfl) (fun _ _ _ h => h) (Or.inl ⟨by rfl, fun u b => by obtain ⟨y0, y1, y2, y3⟩ := unveil HCells u b; go_simp⟩) hHeld ?_
          simp only [List.getElem_toArray, List.getElem_cons_zero, List.getElem_cons_succ, Act.put, List.setIfInBounds_toArray, List.set_cons_zero, List.set_cons_succ]
          refine wpAnyH_take (i := 54) (v := .int .i64 (E + 1)) rfl (by kernel_rfl) (by kernel_rfl) (by kernel_rfl) (fun _ _ _ h => h) (Or.inl ⟨by rfl, fun _ _ => by go_simp; rw [IntKind.wrap_i64]; omega⟩) hHeld ?_
          simp only [List.getElem_toArray, List.getElem_cons_zero, List.getElem_cons_succ, Act.put, List.setIfInBounds_toArray, List.set_cons_zero, List.set_cons_succ]
          refine wpAnyH_take (i := 55) (v := .bool true) rfl (by kernel_rfl) (by kernel_rfl) (by kernel_rfl) (fun _ _ _ h => h) (Or.inl ⟨by rfl, fun _ _ => by go_simp⟩) hHeld ?_
          simp only [List.getElem_toArray, List.getElem_cons_zero, List.getElem_cons_succ, Act.put, List.setIfInBounds_toArray, List.set_cons_zero, List.set_cons_succ]
          refine wpAnyH_take (i := 56) (v := .bool true) rfl (by kernel_rfl) (by kernel_rfl) (by kernel_rfl) (fun _ _ _ h => h) (Or.inl ⟨by rfl, fun _ _ => by go_simp⟩) hHeld ?_
          simp only [List.getElem_toArray, List.getElem_cons_zero, List.getElem_cons_succ, Act.put, List.setIfInBounds_toArray, List.set_cons_zero, List.set_cons_succ]
          refine wpAnyH_take (i := 57) (v := .bool true) rfl (by kernel_rfl) (by kernel_rfl) (by kernel_rfl) (fun _ _ _ h => h) (Or.inl ⟨by rfl, fun _ _ => by go_simp⟩) hHeld ?_
          simp only [List.getElem_toArray, List.getElem_cons_zero, List.getElem_cons_succ, Act.put, List.setIfInBounds_toArray, List.set_cons_zero, List.set_cons_succ]
          refine wpAnyH_take (i := 58) (v := .slice (some ⟨Y, 0, none⟩) 4 4) rfl (by kernel_rfl) (by kernel_rfl) (by kernel_rfl) (fun _ _ _ h => h) (Or.inl ⟨by rfl, fun _ _ => by go_simp⟩) hHeld ?_
          simp only [List.getElem_toArray, List.getElem_cons_zero, List.getElem_cons_succ, Act.put, List.setIfInBounds_toArray, List.set_cons_zero, List.set_cons_succ]
          refine wpAnyH_take (i := 59) (v := .int .i64 q) rfl (by kernel_rfl) (by kernel_rfl) (by kernel_rfl) (fun _ _ _ h => h) (Or.inl ⟨by rfl, fun _ _ => by go_simp⟩) hHeld ?_
          simp only [List.getElem_toArray, List.getElem_cons_zero, List.getElem_cons_succ, Act.put, List.setIfInBounds_toArray, List.set_cons_zero, List.set_cons_succ]
          refine wpAnyH_take (i := 60) (v := .pointer (some ⟨Y, q * 6, none⟩)) rfl (by kernel_rfl) (by kernel_rfl) (by kernel_rfl) (fun _ _ _ h => h) (Or.inl ⟨by rfl, fun _ _ => by go_simp⟩) hHeld ?_
          simp only [List.getElem_toArray, List.getElem_cons_zero, List.getElem_cons_succ, Act.put, List.setIfInBounds_toArray, List.set_cons_zero, List.set_cons_succ]
          refine wpAnyH_take (i := 61) (v := .pointer (some ⟨Y, q * 6 + 5, none⟩)) rfl (by kernel_rfl) (by kernel_rfl) (by kernel_rfl) (fun _ _ _ h => h) (Or.inl ⟨by rfl, fun _ _ => by go_simp⟩) hHeld ?_
          simp only [List.getElem_toArray, List.getElem_cons_zero, List.getElem_cons_succ, Act.put, List.setIfInBounds_toArray, List.set_cons_zero, List.set_cons_succ]
          refine wpAnyH_take (i := 62) (v := .slice (A q) 0 (K q)) rfl (by kernel_rfl) (by kernel_rfl) (by kernel_rfl) (fun _ _ _ h => h) (Or.inl ⟨by rfl, fun u b => by obtain ⟨y0, y1, y2, y3⟩ := unveil HCells u b; go_simp⟩) hHeld ?_
          simp only [List.getElem_toArray, List.getElem_cons_zero, List.getElem_cons_succ, Act.put, List.setIfInBounds_toArray, List.set_cons_zero, List.set_cons_succ]
          refine wpAnyH_take (i := 63) (v := .int .i64 0) rfl (by kernel_rfl) (by kernel_rfl) (by kernel_rfl) (fun _ _ _ h => h) (Or.inl ⟨by rfl, fun _ _ => by go_simp⟩) hHeld ?_
          simp only [List.getElem_toArray, List.getElem_cons_zero, List.getElem_cons_succ, Act.put, List.setIfInBounds_toArray, List.set_cons_zero, List.set_cons_succ]
          refine wpAnyH_take (i := 64) (v := .bool true) rfl (by kernel_rfl) (by kernel_rfl) (by kernel_rfl) (fun _ _ _ h => h) (Or.inl ⟨by rfl, fun _ _ => by go_simp⟩) hHeld ?_
          simp only [List.getElem_toArray, List.getElem_cons_zero, List.getElem_cons_succ, Act.put, List.setIfInBounds_toArray, List.set_cons_zero, List.set_cons_succ]
          refine wpAnyH_take (i := 65) (v := .bool true) rfl (by kernel_rfl) (by kernel_rfl) (by kernel_rfl) (fun _ _ _ h => h) (Or.inl ⟨by rfl, fun _ _ => by go_simp⟩) hHeld ?_
          simp only [List.getElem_toArray, List.getElem_cons_zero, List.getElem_cons_succ, Act.put, List.setIfInBounds_toArray, List.set_cons_zero, List.set_cons_succ]
          refine wpAnyH_take (i := 66) (v := .bool true) rfl (by kernel_rfl) (by kernel_rfl) (by kernel_rfl) (fun _ _ _ h => h) (Or.inl ⟨by rfl, fun _ _ => by go_simp⟩) hHeld ?_
          simp only [List.getElem_toArray, List.getElem_cons_zero, List.getElem_cons_succ, Act.put, List.setIfInBounds_toArray, List.set_cons_zero, List.set_cons_succ]
          have bW0 := below_drew wc
          obtain ⟨W0, hW0⟩ : ∃ W0, W0 = wc.drew := ⟨_, rfl⟩
          rw [← hW0] at bW0  hHeld ⊢
          clear hW0
          refine wpAnyH_done (by kernel_rfl) ?_ _
          go_wp2_with fail
          go_ret
          exact ⟨rfl, Below.next (unveil HB) bW0⟩
end Go.Proofs.YtcdopnkabbfooaaGreat
