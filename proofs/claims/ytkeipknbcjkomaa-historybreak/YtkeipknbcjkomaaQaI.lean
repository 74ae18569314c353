/- The walk of berthshiftkeep.HistoryBreak. -/
import Derived.Test.YtkeipknbcjkomaaQaG
import Derived.Test.YtkeipknbcjkomaaQkH
namespace Go.Proofs.Ytkeipknbcjkomaa
open Go.RowKit

abbrev brk : Ev := ⟨4, 0, 0, 0, 0, 0⟩
theorem rep_snoc (es : List Ev) (m : Nat) : es ++ List.replicate (m + 1) brk = (es ++ List.replicate m brk) ++ [brk] := by
  rw [List.replicate_succ', List.append_assoc]
theorem cnt_append (A B : List Ev) (k : Int) : cnt (A ++ B) k = cnt A k + cnt B k := by unfold cnt; rw [List.countP_append]
theorem cnt_rep (m : Nat) (k : Int) (hk : ¬ k = 4) : cnt (List.replicate m brk) k = 0 := by
  induction m with
  | zero => rfl
  | succ m ih => rw [List.replicate_succ', cnt_snoc, ih, if_neg (fun h => hk h.symm)]
theorem cnt_rep4 (m : Nat) : cnt (List.replicate m brk) 4 = m := by
  induction m with
  | zero => rfl
  | succ m ih => rw [List.replicate_succ', cnt_snoc, ih, if_pos rfl]
/-- breaks belong behind every history. -/
theorem Tells.unstuck {es : List Ev} {s : St} {ans : List An} (h : Tells es s ans) (m : Nat) (hl : es.length + m ≤ 1000) (bad : ∃ k s ans s' an, ∃ hk : k < (es ++ List.replicate m brk).length, Tells ((es ++ List.replicate m brk).take k) s ans ∧ Step s (es ++ List.replicate m brk)[k] s' an false) : False := by
  obtain ⟨k, s0, ans0, s', an, hk, ht, st⟩ := bad
  rcases Nat.lt_or_ge k es.length with h1 | h1
  · refine h.free ⟨k, s0, ans0, s', an, h1, ?_, ?_⟩
    · rw [List.take_append_of_le_length (by omega)] at ht; exact ht
    · rw [List.getElem_append_left h1] at st; exact st
  · rw [List.getElem_append_right h1, List.getElem_replicate] at st
    have c := ht.counts.2.1
    have := cnt_le ((es ++ List.replicate m brk).take k) 4
    have hl2 : ((es ++ List.replicate m brk).take k).length ≤ 1000 := by rw [List.length_take, List.length_append, List.length_replicate]; omega
    have := (st.stopped ht.wf rfl (by omega)).1
    cases this
/-- the queue behind a history and some breaks. -/
structure Brk (s t : St) (m : Nat) : Prop where
  ep : t.ep = s.ep + m
  nx : t.nx = s.nx
  sz : t.rn + t.ln = s.rn + s.ln
  ln : 0 < m → t.ln = 0
theorem Tells.broken {es : List Ev} {s t : St} {ans ans' : List An} (h : Tells es s ans) (m : Nat) (hl : es.length + m ≤ 1000) (h2 : Tells (es ++ List.replicate m brk) t ans') : Brk s t m := by
  obtain ⟨a1, a2, a3, _⟩ := h.counts
  obtain ⟨b1, b2, b3, _⟩ := h2.counts
  rw [cnt_append] at b1 b2 b3
  rw [cnt_append] at b3
  rw [cnt_rep m 1 (by decide)] at b1 b3
  rw [cnt_rep m 3 (by decide)] at b3
  rw [cnt_rep4] at b2
  refine ⟨by omega, by omega, by omega, fun hm => ?_⟩
  obtain ⟨j, rfl⟩ : ∃ j, m = j + 1 := ⟨m - 1, by omega⟩
  rw [rep_snoc] at h2
  obtain ⟨s0, ans0, an, h3, _, st, _⟩ := h2.last
  have c := h3.counts.2.1
  have := cnt_le (es ++ List.replicate j brk) 4
  have hl2 : (es ++ List.replicate j brk).length ≤ 1000 := by rw [List.length_append, List.length_replicate]; omega
  exact (st.stopped h3.wf rfl (by omega)).2.2.2.2.2.1
set_option maxRecDepth 20000 in
set_option maxHeartbeats 4000000 in
theorem walk_HistoryBreak (w : World) (a : Option Addr) (len cap : Nat) (D : List Int) (h : RowK .i64 w a (4 * len) D) (_ : len ≤ cap) (_ : cap ≤ maxLen) (_ : a = none → cap = 0) (times : Int) (wt : (Lit.int .i64 times).wf = true) :
    Calls Try.prog 14 #[.slice a len cap, .int .i64 times] w fun r w' => r = .returned (.bool true) ∧ Below w.heap.size w w' := by
  have HP := played_any a len cap 60 D w h (by omega)
  clear h
  obtain ⟨i6, hi6, hz60, hz61, hz62⟩ := info_of Try.infoEvent
  have pk := pickedOf_range times 5 (by decide)
  have H1 := fun w => picked_any times 5 w wt (by decide) (by decide)
  obtain ⟨k, hk⟩ : ∃ k : Nat, pickedOf times 5 = k := ⟨(pickedOf times 5).toNat, by omega⟩
  rw [hk] at H1 pk
  have hk5 : k < 5 := by omega
  clear hk pk
  go_enter Try.func14, Try.ntmps14
  go_upto_region 3 with (first
    | (go_at_call 15; refine HP.mono ?_; rintro r W1 ⟨s, es, ans, x, ve, va, rfl, hist, hl, _, _, ⟨⟨a1, c1, a2, c2, ws, rfl, r1, r2, l1, l2, n1, n2, hW, f1, f2⟩⟩, oe, oa, B1⟩; have HH := veil hist; obtain ⟨ae, ce, rfl, re, hce, _, hne, _⟩ := RowK.ofMany oe (evFlat_wf fun v hv => (hist.like v hv).ok); clear hist oe oa f1 f2 HP)
    | (refine q_alloc 5 rfl rfl rfl ?_; intro W2 z2 b2)
    | (refine q_store (ra := a1) (la := a2) (ws' := ws) _ _ rfl rfl rfl rfl z2 hW ?_; intro W3 q3 t3; obtain ⟨X3, b3, B3⟩ := boxed r1 r2 n1 n2 hW B1 b2 t3 q3; have HB3 := veil B3; have HE3 := veil (re.below b3); clear z2 b2 q3 t3 r1 r2 n1 n2 B1 b3 X3 B3 re)
    | (go_at_call 17; refine (H1 _).mono ?_; rintro r w1 ⟨rfl, rfl⟩))
  clear H1
  obtain ⟨base, hbase⟩ : ∃ base, base = W3.heap.size := ⟨_, rfl⟩
  go_upto_region 4 with (at_builtin; refine wpList_append_rows rfl (.const (.slice none 0 0)) (.tmp 25) 31 rfl base 45 i6 _ 6 48 Try.underlying31 hi6 hz60 hz61 hz62 rfl (by decide) (.slice none 0 0) 0 [] rfl (World.ownsRow_nil _ _ _ _) ae es.length ce (evFlat es) rfl (unveil HE3) hne (by unfold maxLen; omega) (by omega) (by omega) ?_; intro v1 W4 o4 g4; simp only [Nat.zero_add, List.nil_append] at o4; have HO4 := veil o4; have HB4 := veil ((Below.refl base W3).grown g4 (by omega) (by simp [Value.ownBlock])); clear o4 g4)
  have A0 : Al W3 W4 base es.length 0 es (es ++ List.replicate 0 brk) v1 := ⟨by simpa using unveil HO4, by simp, by simp, fun v hv => by simp at hv; exact ((unveil HH).like v hv).ok, unveil HB4⟩
  clear HO4 HB4
  go_upto_region 5 with fail
  go_loopw [10, 11] (fun v i wr => ∃ m : Nat, m ≤ k ∧ i = .int .i64 m ∧ Al W3 wr base es.length m es (es ++ List.replicate m brk) v) (fun _ i _ => k - (intOf i).toNat)
  case atStart => exact ⟨0, Nat.zero_le _, rfl, A0⟩
  case round =>
    obtain ⟨m, hmk, rfl, A⟩ := hrel
    clear A0
    obtain ⟨ao, co, rfl⟩ := own_form A.own
    have hlo : (es ++ List.replicate m brk).length = es.length + m := by simp
    have hol : (es ++ List.replicate m brk).length ≤ 65 := by omega
    have HL := veil hlo
    clear hlo
    have HA := veil A
    obtain ⟨os, hos⟩ : ∃ os, os = es ++ List.replicate m brk := ⟨_, rfl⟩
    have HOS := veil hos
    rw [← hos] at hol A HL ⊢
    by_cases hlt : m < k
    · have b7 : Below wr.heap.size wr (wr.alloc (.cells #[.int .i64 4, .int .i64 0, .int .i64 0, .int .i64 0, .int .i64 0, .int .i64 0] 45)) := below1 _ _
      have HO := veil (own_still A.own (fun g _ hg => b7.block g hg))
      have hb6 : base ≤ wr.heap.size := by have := A.bel.size; omega
      have HG : Hid (∀ w4, (wr.alloc (.cells #[.int .i64 4, .int .i64 0, .int .i64 0, .int .i64 0, .int .i64 0, .int .i64 0] 45)).grownBy w4 (Value.slice ao os.length co).ownBlock → Below base W3 w4) := veil fun w4 gg => (A.bel.trans (b7.mono hb6)).grown gg (by have := b7.size; omega) (fun q hq => (A.own.lt q hq).1)
      clear A b7 hos
      go_wp2_with (at_builtin; refine wpList_append_own _ rfl _ _ 31 rfl base 45 i6 _ 6 48 Try.underlying31 hi6 hz60 hz61 hz62 rfl (by decide) (.slice ao os.length co) os.length ((evFlat os).map (Value.int .i64)) rfl (unveil HO) ⟨wr.heap.size, 0, none⟩ 1 1 ([4, 0, 0, 0, 0, 0].map (Value.int .i64)) rfl rfl (news6 _ _ _ _ _ _ _ _) (ints_oneCell _ _) (by unfold maxLen; omega) (by omega) (by simp; omega) ?_; intro v' W8 own8 grow8 _; have HO8 := veil own8; have HB8 := veil (unveil HG W8 grow8); clear own8 grow8)
      have A8 : Al W3 W8 base es.length (m + 1) es (es ++ List.replicate (m + 1) brk) v' := by
        have hA := unveil HA
        have ho := unveil HOS
        refine ⟨?_, by simp, by simp, ?_, unveil HB8⟩
        · rw [rep_snoc, ← ho, evFlat_snoc, List.map_append, List.length_append]; exact unveil HO8
        · rw [rep_snoc]
          intro u hu
          rcases List.mem_append.1 hu with hu | hu
          · exact hA.ok u hu
          · obtain rfl := List.mem_singleton.1 hu
            exact ev_break
      refine ⟨⟨m + 1, by omega, by go_num, A8⟩, by simp [intOf]; omega⟩
    · obtain rfl : m = k := by omega
      have hist := unveil HH
      have ok := A.ok
      obtain ⟨ab, cb, hvb, rb, _, _, _, _⟩ := RowK.ofMany A.own (evFlat_wf ok)
      cases hvb
      have bb : Below W3.heap.size W3 wr := by rw [← hbase]; exact A.bel
      have rE := (unveil HE3).below bb
      have HR1 := replay_yes es es.length rfl s ans hist.tells ae ce wr rE (by omega) (fun v hv => (hist.like v hv).ok)
      have HR2 : Hid (∀ W, Below wr.heap.size wr W → Calls Try.prog 20 #[.slice ao os.length co] W fun e w' => ∃ t x, e = .returned (.tuple #[x, .int .i64 0]) ∧ Brk s t m ∧ QOut W w' t x ∧ Below W.heap.size W w') := veil fun W b => by
        refine (replay_at os os.length rfl ao co W (rb.below b) (by omega) ok).mono ?_
        rintro e w' ⟨x, er, rfl, b2, ⟨rfl, s1, ans1, h1, q⟩ | ⟨rfl, h1, _⟩⟩
        · refine ⟨s1, x, rfl, hist.tells.broken (ans' := ans1) m (by omega) ?_, q, b2⟩
          rw [← hos]; exact h1
        · exfalso
          rw [hos] at h1
          exact hist.tells.unstuck m (by omega) h1
      have HC : Hid (∀ W, Below wr.heap.size wr W → Calls Try.prog 16 #[.slice ae es.length ce, .int .i64 1] W fun e w' => e = .returned (.int .i64 (cnt es 1)) ∧ w' = W) := veil fun W b => by
        have := count_any ae es.length ce (evFlat es) 1 W (rE.below b) (by omega)
        rw [cntTo_all] at this
        exact this
      have sm := hist.small hl
      have e1 := hist.counts.1
      have Bw : Below w.heap.size w wr := (unveil HB3).trans (bb.mono (unveil HB3).size)
      have HSM := veil sm
      have HE1 := veil e1
      clear A rE rb bb ok hist HA hos sm e1 hbase HE3 HB3
      go_upto_region 9 with (first
        | (go_at_call 20; refine HR1.mono ?_; rintro r W5 ⟨x', rfl, ⟨⟨a1', c1', a2', c2', ws', rfl, r1, r2, l1', l2', n1, n2, hW', f1, f2⟩⟩, b5⟩; clear f1 f2 HR1)
        | (refine q_alloc 12 rfl rfl rfl ?_; intro W6 z6 b6)
        | (refine q_store (ra := a1') (la := a2') (ws' := ws') _ _ rfl rfl rfl rfl z6 hW' ?_; intro W7 q7 t7; obtain ⟨X7, b57, B7⟩ := boxed r1 r2 n1 n2 hW' (Below.next Bw b5) b6 t7 q7; have b7 := Below.next b5 b57; have HX7 := veil X7; have hR2 := unveil HR2 W7 b7; clear q7 t7 z6 b6 X7 b57 HR2 b5))
      go_upto_region 10 with (first
        | (go_at_call 20; refine hR2.mono ?_; rintro r W8 ⟨t, x'', rfl, hbk, ⟨⟨a1'', c1'', a2'', c2'', ws'', rfl, r1'', r2'', l1'', l2'', n1'', n2'', hW'', f1, f2⟩⟩, b8⟩; have HBK := veil hbk; clear f1 f2 hR2 hbk)
        | (refine q_alloc 14 rfl rfl rfl ?_; intro W9 z9 b9)
        | (refine q_store (ra := a1'') (la := a2'') (ws' := ws'') _ _ rfl rfl rfl rfl z9 hW'' ?_; intro W10 q10 t10; obtain ⟨X10, b810, B10⟩ := boxed r1'' r2'' n1'' n2'' hW'' (Below.next B7 b8) b9 t10 q10; have b10 := Below.next b8 b810; have Y10 := (unveil HX7).next b10; have hC := unveil HC; have bw10 := Below.next b7 b10; have HC10 : ∀ n : Nat, Calls Try.prog 16 #[.slice ae es.length ce, .int .i64 1] (W10.drewN n) fun e w' => e = .returned (.int .i64 (cnt es 1)) ∧ w' = W10.drewN n := fun n => hC _ (Below.next bw10 (belowN _ n)); clear q10 t10 z9 b9 b810 hC bw10))
      obtain ⟨g0, g1, g2, g3, g4⟩ := X10.q.heads
      obtain ⟨u0, u1, u2, u3, u4⟩ := Y10.q.heads
      have bk := unveil HBK
      have sm := unveil HSM
      have hb1 := bk.ep
      have hb2 := bk.nx
      have hb3 := bk.sz
      have hs1 : IntKind.i64.wrap (s.ep + (m : Int)) = t.ep := by rw [IntKind.wrap_i64]; omega
      have hs2 : IntKind.i64.wrap ((t.rn : Int) + (t.ln : Int)) = ((s.rn + s.ln : Nat) : Int) := by rw [IntKind.wrap_i64]; omega
      have hs3 : IntKind.i64.wrap ((s.rn : Int) + (s.ln : Int)) = ((s.rn + s.ln : Nat) : Int) := by rw [IntKind.wrap_i64]; omega
      rw [hb2, unveil HE1] at g1
      rw [unveil HE1] at u1
      rcases Nat.eq_zero_or_pos m with hm0 | hm0
      · have hmb : ((m : Int) == 0) = true := by simp [hm0]
        clear bk sm hb1 hb2 hb3 X10 Y10 hm0
        go_quiet (first | (go_at_call 16; refine Calls.quiet_of_same (HC10 _)))
        go_wp2
        go_ret
        exact ⟨by simp, Below.next B10 (belowN _ _)⟩
      · have hmb : ((m : Int) == 0) = false := by simp; omega
        have hl0 := bk.ln hm0
        have hlb : ((t.ln : Int) == 0) = true := by simp [hl0]
        clear bk sm hb1 hb2 hb3 X10 Y10 hm0 hl0
        go_quiet (first | (go_at_call 16; refine Calls.quiet_of_same (HC10 _)))
        go_wp2
        go_ret
        exact ⟨by simp, Below.next B10 (belowN _ _)⟩
end Go.Proofs.Ytkeipknbcjkomaa
