/- The walk of berthshiftkeep.HistoryCut. -/
import Derived.Test.YtkeipknbcjkomaaQaG
import Derived.Test.YtkeipknbcjkomaaQkH
namespace Go.Proofs.Ytkeipknbcjkomaa
open Go.RowKit

set_option maxRecDepth 20000 in
set_option maxHeartbeats 4000000 in
theorem walk_HistoryCut (w : World) (a : Option Addr) (len cap : Nat) (D : List Int) (h : RowK .i64 w a (4 * len) D) (_ : len ≤ cap) (_ : cap ≤ maxLen) (_ : a = none → cap = 0) (cut : Int) (wcut : (Lit.int .i64 cut).wf = true) :
    Calls Try.prog 11 #[.slice a len cap, .int .i64 cut] w fun r w' => r = .returned (.bool true) ∧ Below w.heap.size w w' := by
  have HP := played_any a len cap 60 D w h (by omega)
  clear h
  obtain ⟨i6, hi6, hz60, hz61, hz62⟩ := info_of Try.infoEvent
  go_enter Try.func11, Try.ntmps11
  go_upto_region 2 with (first
    | (go_at_call 15; refine HP.mono ?_; rintro r W1 ⟨s, es, ans, x, ve, va, rfl, hist, hl, _, _, ⟨⟨a1, c1, a2, c2, ws, rfl, r1, r2, l1, l2, n1, n2, hW, f1, f2⟩⟩, oe, oa, B1⟩; have HH := veil hist; obtain ⟨ae, ce, rfl, re, hce, _, hne, _⟩ := RowK.ofMany oe (evFlat_wf fun v hv => (hist.like v hv).ok); clear hist oe oa f1 f2 HP)
    | (refine q_alloc 5 rfl rfl rfl ?_; intro W2 z2 b2)
    | (refine q_store (ra := a1) (la := a2) (ws' := ws) _ _ rfl rfl rfl rfl z2 hW ?_; intro W3 q3 t3; obtain ⟨X3, b3, B3⟩ := boxed r1 r2 n1 n2 hW B1 b2 t3 q3; have HB3 := veil B3; have HE3 := veil (re.below b3); clear z2 b2 q3 t3 r1 r2 n1 n2 B1 b3 X3 B3 re))
  obtain ⟨k, hk⟩ : ∃ k : Nat, pickedOf cut ((es.length : Int) + 1) = k := ⟨(pickedOf cut ((es.length : Int) + 1)).toNat, by have := pickedOf_range cut ((es.length : Int) + 1) (by omega); omega⟩
  have hkl : k ≤ es.length := by have := pickedOf_range cut ((es.length : Int) + 1) (by omega); omega
  have H1 := fun w => picked_any cut ((es.length : Int) + 1) w wcut (by omega) (by omega)
  rw [hk] at H1
  clear hk
  go_upto_region 3 with (go_at_call 17; refine (H1 _).mono ?_; rintro r w1 ⟨rfl, rfl⟩)
  clear H1
  have hist := unveil HH
  have hok : ∀ v ∈ es.take k, v.Ok := fun v hv => (hist.like v (List.mem_of_mem_take hv)).ok
  have hlk : (es.take k).length = k := by rw [List.length_take]; omega
  have rk := (unveil HE3).firsts (6 * k) (by omega)
  rw [evFlat_take] at rk
  obtain ⟨s1, ht1⟩ := hist.tells.take k hkl
  have cn := ht1.counts
  have hk60 : k ≤ 60 := by omega
  have HR1 := replay_yes (es.take k) k hlk s1 _ ht1 ae k W3 rk (by omega) hok
  have hbk : k ≤ ce := by omega
  have HK := veil hkl
  have HOK := veil hok
  have HLK := veil hlk
  have HT1 := veil ht1
  have HCN := veil cn
  have HRK := veil rk
  clear hist hok hlk ht1 cn rk hkl
  go_cut [10, 11] (fun p10 e11 wx => ∃ X, p10 = .pointer (some ⟨X, 0, none⟩) ∧ e11 = .int .i64 0 ∧ wx.cell? ⟨X, 1, none⟩ = some (.int .i64 s1.nx) ∧ X < wx.heap.size ∧ Below W3.heap.size W3 wx)
  case first =>
    cases ae with
    | none =>
      have hc0 := hne rfl
      subst hc0
      have hk0 : k = 0 := by omega
      subst hk0
      go_wp2_with (first
        | (go_at_call 20; refine HR1.mono ?_; rintro r W5 ⟨x', rfl, ⟨⟨a1', c1', a2', c2', ws', rfl, r1, r2, l1', l2', n1, n2, hW', f1, f2⟩⟩, b5⟩; clear f1 f2 r1 r2)
        | (refine q_alloc 10 rfl rfl rfl ?_; intro W6 z6 b6)
        | (refine q_store (ra := a1') (la := a2') (ws' := ws') _ _ rfl rfl rfl rfl z6 hW' ?_; intro W7 q7 t7; have HQ7 := veil q7; have HT7 := veil t7; have HB7 := veil (Below.next b5 b6); clear q7 t7 z6))
      go_meet
      exact ⟨_, rfl, rfl, (unveil HQ7).heads.2.1, (unveil HQ7).lt, (unveil HT7).under (unveil HB7) b5.size⟩
    | some x =>
      go_wp2_with (first
        | (go_at_call 20; refine HR1.mono ?_; rintro r W5 ⟨x', rfl, ⟨⟨a1', c1', a2', c2', ws', rfl, r1, r2, l1', l2', n1, n2, hW', f1, f2⟩⟩, b5⟩; clear f1 f2 r1 r2)
        | (refine q_alloc 10 rfl rfl rfl ?_; intro W6 z6 b6)
        | (refine q_store (ra := a1') (la := a2') (ws' := ws') _ _ rfl rfl rfl rfl z6 hW' ?_; intro W7 q7 t7; have HQ7 := veil q7; have HT7 := veil t7; have HB7 := veil (Below.next b5 b6); clear q7 t7 z6))
      go_meet
      exact ⟨_, rfl, rfl, (unveil HQ7).heads.2.1, (unveil HQ7).lt, (unveil HT7).under (unveil HB7) b5.size⟩
  case rest =>
    obtain ⟨X, rfl, rfl, cX, hXl, b4⟩ := hcut
    obtain ⟨W4, hW4⟩ : ∃ W4, W4 = wc := ⟨_, rfl⟩
    subst hW4
    have RK4 := (unveil HRK).below b4
    have HRK4 := veil RK4
    obtain ⟨base, hbase⟩ : ∃ base, base = W4.heap.size := ⟨_, rfl⟩
    clear RK4 HR1
    go_upto_region 4 with fail
    go_cut [12] (fun v wx => wx.ownsRow base 45 6 v (k + 1) ((evFlat (es.take k) ++ [3, 0, 0, 0, 1048576, 0]).map (Value.int .i64)) ∧ Below base W4 wx)
    case first =>
      cases ae with
      | none =>
        have hc0 := hne rfl
        subst hc0
        have hk0 : k = 0 := by have := unveil HK; omega
        subst hk0
        go_wp2_with (first
          | (at_builtin; refine wpList_append_rows rfl (.const (.slice none 0 0)) (.tmp 37) 31 rfl base 45 i6 _ 6 48 Try.underlying31 hi6 hz60 hz61 hz62 rfl (by decide) (.slice none 0 0) 0 [] rfl (World.ownsRow_nil _ _ _ _) none 0 0 (evFlat (es.take 0)) rfl (unveil HRK4) hne (by unfold maxLen; omega) (by omega) (by omega) ?_; intro v1 W5 o5 g5; obtain ⟨a5, k5, rfl⟩ := own_form o5; have HB5 := veil ((Below.refl base W4).grown g5 (by omega) (by simp [Value.ownBlock])); have HO5 := veil (own_still o5 (fun g _ hg => (below1 W5 (.cells #[.int .i64 3, .int .i64 0, .int .i64 0, .int .i64 0, .int .i64 1048576, .int .i64 0] 45)).block g hg)); have hs5 : base ≤ W5.heap.size := (by have := (unveil HB5).size; omega); clear o5 g5)
          | (at_builtin; refine wpList_append_own _ rfl _ _ 31 rfl base 45 i6 _ 6 48 Try.underlying31 hi6 hz60 hz61 hz62 rfl (by decide) _ _ _ rfl (unveil HO5) ⟨W5.heap.size, 0, none⟩ 1 1 ([3, 0, 0, 0, 1048576, 0].map (Value.int .i64)) rfl rfl (news6 _ _ _ _ _ _ _ _) (ints_oneCell _ _) (by unfold maxLen; omega) (by omega) (by simp; omega) ?_; intro v' W8 own8 grow8 _; have HO8 := veil own8; have HB8 := veil (((unveil HB5).trans ((below1 W5 _).mono hs5)).grown grow8 (by simp; omega) (fun q hq => ((unveil HO5).lt q hq).1)); clear own8 grow8))
        go_meet
        exact ⟨by simpa using unveil HO8, unveil HB8⟩
      | some x =>
        go_wp2_with (first
          | (at_builtin; refine wpList_append_rows rfl (.const (.slice none 0 0)) (.tmp 37) 31 rfl base 45 i6 _ 6 48 Try.underlying31 hi6 hz60 hz61 hz62 rfl (by decide) (.slice none 0 0) 0 [] rfl (World.ownsRow_nil _ _ _ _) (some x) k ce (evFlat (es.take k)) rfl (unveil HRK4) hne (by unfold maxLen; omega) (by omega) (by omega) ?_; intro v1 W5 o5 g5; simp only [Nat.zero_add, List.nil_append] at o5; obtain ⟨a5, k5, rfl⟩ := own_form o5; have HB5 := veil ((Below.refl base W4).grown g5 (by omega) (by simp [Value.ownBlock])); have HO5 := veil (own_still o5 (fun g _ hg => (below1 W5 (.cells #[.int .i64 3, .int .i64 0, .int .i64 0, .int .i64 0, .int .i64 1048576, .int .i64 0] 45)).block g hg)); have hs5 : base ≤ W5.heap.size := (by have := (unveil HB5).size; omega); clear o5 g5)
          | (at_builtin; refine wpList_append_own _ rfl _ _ 31 rfl base 45 i6 _ 6 48 Try.underlying31 hi6 hz60 hz61 hz62 rfl (by decide) _ _ _ rfl (unveil HO5) ⟨W5.heap.size, 0, none⟩ 1 1 ([3, 0, 0, 0, 1048576, 0].map (Value.int .i64)) rfl rfl (news6 _ _ _ _ _ _ _ _) (ints_oneCell _ _) (by unfold maxLen; omega) (by omega) (by simp; omega) ?_; intro v' W8 own8 grow8 _; have HO8 := veil own8; have HB8 := veil (((unveil HB5).trans ((below1 W5 _).mono hs5)).grown grow8 (by simp; omega) (fun q hq => ((unveil HO5).lt q hq).1)); clear own8 grow8))
        go_meet
        exact ⟨by rw [List.map_append]; exact unveil HO8, unveil HB8⟩
    case rest =>
      obtain ⟨o6, b6⟩ := hcut
      obtain ⟨W6, hW6⟩ : ∃ W6, W6 = wc := ⟨_, rfl⟩
      subst hW6
      have hfl : evFlat (es.take k) ++ [3, 0, 0, 0, 1048576, 0] = evFlat (es.take k ++ [⟨3, 0, 0, 0, 1048576, 0⟩]) := by rw [evFlat_snoc]; rfl
      rw [hfl] at o6
      have okB : ∀ v ∈ es.take k ++ [(⟨3, 0, 0, 0, 1048576, 0⟩ : Ev)], v.Ok := fun v hv => by
        rcases List.mem_append.1 hv with h1 | h1
        · exact unveil HOK v h1
        · obtain rfl := List.mem_singleton.1 h1
          exact ev_ack (by omega) (by omega)
      obtain ⟨ab, cb, rfl, rb, _, _, _, _⟩ := RowK.ofMany o6 (evFlat_wf okB)
      have ht1 := unveil HT1
      have cn := unveil HCN
      have hb4 : cnt (es.take k) 4 ≤ 60 := by have := cnt_le (es.take k) 4; have := unveil HLK; omega
      have HR2 := replay_no (es.take k) ⟨3, 0, 0, 0, 1048576, 0⟩ (k + 1) (by rw [List.length_append, unveil HLK]; rfl) s1 _ ht1 (fun s' an st => by
        have := (st.stale rfl (by show ¬ (1048576 : Int) = s1.ep; omega)).1
        cases this) ab cb W6 rb (by omega) okB
      have cX6 := ((show Below W4.heap.size W4 W6 by rw [← hbase]; exact b6).cell (p := ⟨X, 1, none⟩) hXl).trans cX
      have hX6 : X < W6.heap.size := by have := b6.size; omega
      have B6 : Below w.heap.size w W6 := (unveil HB3).trans ((b4.trans ((show Below W4.heap.size W4 W6 by rw [← hbase]; exact b6).mono b4.size)).mono (unveil HB3).size)
      have b36 : Below W3.heap.size W3 W6 := b4.trans ((show Below W4.heap.size W4 W6 by rw [← hbase]; exact b6).mono b4.size)
      have hnx : s1.nx = (cnt (es.take k) 1 : Int) := cn.1
      rw [hnx] at cX6
      clear o6 hfl okB rb ht1 cn b4 b6 cX hbase hnx hb4
      have HB36 := veil b36
      clear b36
      go_upto_region 6 with (first
        | (go_at_call 20; refine HR2.mono ?_; rintro r W7 ⟨x', rfl, ⟨⟨a1', c1', a2', c2', ws', rfl, r1, r2, l1', l2', n1, n2, hW', f1, f2⟩⟩, b7⟩; clear f1 f2 r1 r2 HR2)
        | (refine q_alloc 13 rfl rfl rfl ?_; intro W8 z8 b8)
        | (refine q_store (ra := a1') (la := a2') (ws' := ws') _ _ rfl rfl rfl rfl z8 hW' ?_; intro W9 q9 t9; have b9 : Below W6.heap.size W6 W9 := t9.under (Below.next b7 b8) b7.size; clear q9 t9 z8 b7 b8))
      have cX9 := (b9.cell (p := ⟨X, 1, none⟩) hX6).trans cX6
      have rE9 := ((unveil HRK).below (unveil HB36)).below b9
      have B9 := Below.next B6 b9
      have HC : ∀ (n : Nat), Calls Try.prog 16 #[.slice ae k ce, .int .i64 1] (W9.drewN n) fun e w' => e = .returned (.int .i64 (cnt (es.take k) 1)) ∧ w' = W9.drewN n := fun n => by
        have := count_any ae k ce (evFlat (es.take k)) 1 (W9.drewN n) (rE9.below (belowN _ n)) (by omega)
        have e := cntTo_all (es.take k) 1
        rw [unveil HLK] at e
        rw [e] at this
        exact this
      clear rE9 cX6 HRK HRK4 HB36
      cases ae with
      | none =>
        have hc0 := hne rfl
        subst hc0
        have hk0 : k = 0 := by have := unveil HK; omega
        subst hk0
        go_quiet (first | (go_at_call 16; refine Calls.quiet_of_same (HC _)))
        go_wp2
        go_ret
        exact ⟨by simp, Below.next B9 (belowN _ _)⟩
      | some x =>
        have hkl := unveil HK
        go_quiet (first | (go_at_call 16; refine Calls.quiet_of_same (HC _)))
        go_wp2
        go_ret
        exact ⟨by simp, Below.next B9 (belowN _ _)⟩
end Go.Proofs.Ytkeipknbcjkomaa
