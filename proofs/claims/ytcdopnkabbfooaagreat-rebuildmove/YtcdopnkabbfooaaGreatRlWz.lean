/- The walk of berthshiftkeep.RebuildMove. -/
import Derived.Test.YtcdopnkabbfooaaGreatRlVz
namespace Go.Proofs.YtcdopnkabbfooaaGreat
open Go.RowKit

set_option maxRecDepth 20000 in
set_option maxHeartbeats 16000000 in
theorem walk_RebuildMove (w : World) (ep : Int) (wep : (Lit.int .i64 ep).wf = true) (a0 : Option Addr) (len cap : Nat) (D : List Int) (h : RowK .i64 w a0 (4 * len) D) (_ : len ≤ cap) (_ : cap ≤ maxLen) (_ : a0 = none → cap = 0) (a1 : Option Addr) (len1 cap1 : Nat) (D1 : List Int) (h1 : RowK .i64 w a1 (4 * len1) D1) (_ : len1 ≤ cap1) (_ : cap1 ≤ maxLen) (_ : a1 = none → cap1 = 0) (pq : Int) (wpq : (Lit.int .i64 pq).wf = true) :
    Calls Tryz.prog 6 #[.int .i64 ep, .slice a0 len cap, .slice a1 len1 cap1, .int .i64 pq] w fun r w' => r = .returned (.bool true) ∧ Below w.heap.size w w' := by
  obtain ⟨i3, hi3, hz30, hz31, hz32⟩ := info_of Tryz.infoRecT
  have HMv := moved_any ep wep a0 len cap D a1 len1 cap1 D1 none 0 0 (fun _ => false) w h h1 ⟨fun i hi => absurd hi (by omega)⟩
  clear h h1
  have p0 := pickedOf_range pq 4 (by decide)
  have Pp : ∀ w, Calls Tryz.prog 22 #[.int .i64 pq, .int .i64 4] w fun e w' => e = .returned (.int .i64 (pickedOf pq 4)) ∧ w' = w := fun w => (picked_any pq 4 w wpq (by decide) (by decide)).mono fun _ _ h => ⟨h.1, h.2.symm⟩
  generalize pickedOf pq 4 = p at p0 Pp
  obtain ⟨q, rfl⟩ : ∃ q : Nat, p = q := ⟨p.toNat, by omega⟩
  have hq : q < 4 := by omega
  go_enter Tryz.func6, Tryz.ntmps6
  go_upto_region 2 with (go_at_call 25; refine HMv.mono ?_; rintro x V1 ⟨E, es, S, aS, cS, aT, cT, rfl, mo⟩; clear HMv; obtain ⟨Ub, hUb⟩ : ∃ Ub, Ub = es ++ [Ev.brk] := ⟨_, rfl⟩; obtain ⟨F, hF⟩ : ∃ F, F = E + 1 := ⟨_, rfl⟩; rw [← hUb, ← hF]; have HUb := veil hUb; have HF := veil hF; have HMo := veil mo; clear hUb hF mo)
  have mo := unveil HMo
  have iT := mo.iT
  rw [← unveil HUb, ← unveil HF] at iT
  obtain ⟨W1, hW1, KS, KT⟩ : ∃ W, W = (V1.alloc (.cells (bCells S.r S.e S.f S.t S.o aS S.es.length cS) 24)).alloc (.cells (bCells 1 F 0 0 0 aT Ub.length cT) 24) ∧ Kb w W V1.heap.size S aS cS ∧ Kb w W (V1.heap.size + 1) (Bt.act F Ub) aT cT := two_boxed mo.iS iT mo.bel
  rw [← hW1]
  have hl50 := mo.src.len
  have hF1 : 2 ≤ F ∧ F ≤ 1001 := by have := mo.e1; have := mo.e2; have := unveil HF; omega
  have hSe : 1 ≤ S.e ∧ S.e ≤ 1000 := by have h := mo.src.e; have := mo.e1; have := mo.e2; rw [h]; omega
  have HSr := veil mo.r
  have HSok := veil mo.src.ok
  have hSt : 0 ≤ S.t ∧ S.t ≤ 4 := by
    have hs := mo.src.ok.stand
    have hr := mo.r
    unfold Bt.Stand standP at hs
    omega
  have hSl : S.es.length ≤ 50 := by rw [mo.src.es_]; exact hl50
  have HUl : Hid (Ub.length = es.length + 1) := veil (by rw [unveil HUb]; simp)
  have hUl0 : Ub.length ≤ 3000000000000 := by have := unveil HUl; omega
  have HUg : Hid (∀ k (h : k < es.length) (h' : k < Ub.length), Ub[k] = es[k]) := veil (by
    intro k h h'
    have e := unveil HUb
    subst e
    exact List.getElem_append_left h)
  have HUw : Hid (∀ u ∈ evFlat es, (Lit.int .i64 u).wf = true) := veil (by
    intro u hu
    refine KT.i.row.wf u ?_
    show u ∈ evFlat Ub
    rw [unveil HUb, evFlat_snoc]
    exact List.mem_append_left _ hu)
  have HTok : Hid (Bt.Ok ⟨1, F, 0, 0, 0, es ++ [Ev.brk]⟩) := veil (by
    obtain ⟨s, ans, ht⟩ := mo.src.tells
    obtain ⟨s', an', _, htB, _⟩ := ht.brk (by omega)
    exact htB.act_ok (by rw [List.length_append]; simp; omega) (by omega) (by omega))
  obtain ⟨Rb, hRb⟩ : ∃ R, R = V1.heap.size := ⟨_, rfl⟩
  rw [← hRb] at KS KT ⊢
  clear hW1 hRb iT mo HMo HF
  obtain ⟨bT, oT, rfl⟩ := KT.i.row.form (by show 0 < 6 * Ub.length; have := unveil HUl; omega)
  have HKS := veil KS
  have HKT := veil KT
  have hRl : Rb + 1 < W1.heap.size := KT.b.lt
  have hbT : bT < W1.heap.size := KT.i.row.lt (by show 0 < 6 * Ub.length; have := unveil HUl; omega)
  obtain ⟨y0, y1, y2, y3, y4, y5⟩ := KT.b.cells
  dsimp only at y0 y1 y2 y3 y4 y5
  clear KS KT
  have hqi : (0 : Int) ≤ q ∧ (q : Int) ≤ 3 := by omega
  have HO0 : Hid ((W1.alloc (.cells #[.int .i64 4, .int .i64 q, .int .i64 F, .int .i64 1, .int .i64 0, .int .i64 0, .int .i64 0, .int .i64 0, .int .i64 0, .int .i64 0] 30)).ownsRow W1.heap.size 30 10 (.slice (some ⟨W1.heap.size, 0, none⟩) 1 1) (0 + 1) ((recFlat (mvTo q F es 0)).map (Value.int .i64))) := veil (World.ownsRow_lit (base := W1.heap.size) (e := 30) (size := 10) W1 #[.int .i64 4, .int .i64 q, .int .i64 F, .int .i64 1, .int .i64 0, .int .i64 0, .int .i64 0, .int .i64 0, .int .i64 0, .int .i64 0] 1 (Nat.le_refl _) (by decide) rfl)
  have b0 : Below W1.heap.size W1 (W1.alloc (.cells #[.int .i64 4, .int .i64 q, .int .i64 F, .int .i64 1, .int .i64 0, .int .i64 0, .int .i64 0, .int .i64 0, .int .i64 0, .int .i64 0] 30)) := below1 _ _
  go_upto_region 3 with (go_at_call 22; refine (Pp _).mono ?_; rintro x w9 ⟨rfl, hw9⟩; subst w9; clear Pp)
  go_wp2_with fail
  clear y0 y1 y2 y3 y4 y5
  go_loopw [13, 14] (fun v t wr => ∃ k : Nat, ∃ aN cN, k ≤ es.length ∧ t = .int .i64 k ∧ v = .slice aN (k + 1) cN ∧ Hid (wr.ownsRow W1.heap.size 30 10 v (k + 1) ((recFlat (mvTo q F es k)).map (Value.int .i64))) ∧ Below W1.heap.size W1 wr) (fun _ t _ => es.length - (intOf t).toNat)
  case atStart => exact ⟨0, _, _, Nat.zero_le _, rfl, rfl, HO0, b0⟩
  case round =>
    clear HO0 b0
    obtain ⟨k, aN, cN, hk, rfl, rfl, HO, bel⟩ := hrel
    have hsz : W1.heap.size ≤ wr.heap.size := bel.size
    obtain ⟨y0, y1, y2, y3, y4, y5⟩ := ((unveil HKT).next bel).b.cells
    dsimp only at y0 y1 y2 y3 y4 y5
    have hRn : Rb + 1 ≠ wr.heap.size := by omega
    by_cases hlt : k < es.length
    case pos =>
      have hci : (k : Int) + 1 < (Ub.length : Int) := by have := unveil HUl; omega
      have hkU : k < Ub.length := by have := unveil HUl; omega
      have hx := row_evs (es := Ub) ((unveil HKT).next bel).i.row k hkU
      obtain ⟨V, hV⟩ : ∃ V, V = Ub[k] := ⟨_, rfl⟩
      rw [← hV] at hx
      obtain ⟨x0, x1, x2, x3, x4, x5⟩ := hx
      have HV : Hid (V = es[k]) := veil (by rw [hV]; exact unveil HUg k hlt hkU)
      have hbn : bT ≠ wr.heap.size := by omega
      have b5 : Below wr.heap.size wr (wr.drew.alloc (.cells #[.int .i64 5, .int .i64 q, .int .i64 F, .int .i64 0, .int .i64 V.k, .int .i64 V.p, .int .i64 V.i, .int .i64 V.b, .int .i64 V.he, .int .i64 V.hn] 30)) := Below.next (Below.refl _ _).drew (below1 _ _)
      have HO5 : Hid ((wr.drew.alloc (.cells #[.int .i64 5, .int .i64 q, .int .i64 F, .int .i64 0, .int .i64 V.k, .int .i64 V.p, .int .i64 V.i, .int .i64 V.b, .int .i64 V.he, .int .i64 V.hn] 30)).ownsRow W1.heap.size 30 10 (.slice aN (k + 1) cN) (k + 1) ((recFlat (mvTo q F es k)).map (Value.int .i64))) := veil (own_still (unveil HO) (fun g _ hg => b5.block g hg))
      have HG : Hid (∀ v' w4, w4.ownsRow W1.heap.size 30 10 v' (k + 1 + 1) ((recFlat (mvTo q F es k) ++ ([5, (q : Int), F, 0, V.k, V.p, V.i, V.b, V.he, V.hn] : List Int)).map (Value.int .i64)) → (wr.drew.alloc (.cells #[.int .i64 5, .int .i64 q, .int .i64 F, .int .i64 0, .int .i64 V.k, .int .i64 V.p, .int .i64 V.i, .int .i64 V.b, .int .i64 V.he, .int .i64 V.hn] 30)).grownBy w4 (Value.slice aN (k + 1) cN).ownBlock → w4.ownsRow W1.heap.size 30 10 v' (k + 1 + 1) ((recFlat (mvTo q F es (k + 1))).map (Value.int .i64)) ∧ Below W1.heap.size W1 w4) := veil (by
        intro v' w4 own4 grow4
        have e : recFlat (mvTo q F es k) ++ ([5, (q : Int), F, 0, V.k, V.p, V.i, V.b, V.he, V.hn] : List Int) = recFlat (mvTo q F es (k + 1)) := by rw [mvTo_next hlt, recFlat_snoc, ← unveil HV]; rfl
        rw [e] at own4
        exact ⟨own4, (Below.next bel b5).grown grow4 (Below.next bel b5).size (fun g hg => ((unveil HO).lt g hg).1)⟩)
      clear b5 hV HV HO bel HUl HUg HUw HTok HKS HKT HSr HSok HUb
      go_wp2_with fail
      go_region_law (first
        | (refine step_append_many rfl (.tmp 47) (.tmp 57) 37 rfl W1.heap.size 30 i3 _ 10 80 Tryz.underlying37 hi3 hz30 hz31 hz32 rfl (by decide) (.slice aN (k + 1) cN) (k + 1) (recFlat (mvTo q F es k)) rfl (unveil HO5) ⟨wr.heap.size, 0, none⟩ 1 1 ([5, (q : Int), F, 0, V.k, V.p, V.i, V.b, V.he, V.hn] : List Int) rfl rfl (news10 _ _ _ _ _ _ _ _ _ _ _ _) (by unfold maxLen; omega) (by omega) (by simp; omega) ?_; intro v' w4 own4 grow4; have HX := veil (unveil HG v' w4 own4 grow4); obtain ⟨a', cap', rfl⟩ := own_form own4; clear own4 grow4)
        | (go_simp; go_wp2_with fail))
      all_goals (try go_wp2_with fail)
      all_goals (go_roundw <;> first | exact ⟨k + 1, _, _, by omega, by go_num, rfl, veil (unveil HX).1, (unveil HX).2⟩ | (simp [intOf]; omega))
    case neg =>
      obtain rfl : k = es.length := by omega
      have hci : ¬ (es.length : Int) + 1 < (Ub.length : Int) := by have := unveil HUl; omega
      have b5 : Below wr.heap.size wr (wr.alloc (.cells #[.int .i64 6, .int .i64 q, .int .i64 F, .int .i64 0, .int .i64 0, .int .i64 0, .int .i64 0, .int .i64 0, .int .i64 0, .int .i64 0] 30)) := below1 _ _
      have HO5 : Hid ((wr.alloc (.cells #[.int .i64 6, .int .i64 q, .int .i64 F, .int .i64 0, .int .i64 0, .int .i64 0, .int .i64 0, .int .i64 0, .int .i64 0, .int .i64 0] 30)).ownsRow W1.heap.size 30 10 (.slice aN (es.length + 1) cN) (es.length + 1) ((recFlat (mvTo q F es es.length)).map (Value.int .i64))) := veil (own_still (unveil HO) (fun g _ hg => b5.block g hg))
      have HR5 := veil (row_ten wr (recA q F) (rec_wf10 (by decide) (lit_wfR (by omega) (by omega)) (lit_wfR (by omega) (by omega)) (by decide)))
      have HG : Hid (∀ v' w4, w4.ownsRow W1.heap.size 30 10 v' (es.length + 1 + 1) ((recFlat (mvTo q F es es.length) ++ recTen (recA q F)).map (Value.int .i64)) → (wr.alloc (.cells #[.int .i64 6, .int .i64 q, .int .i64 F, .int .i64 0, .int .i64 0, .int .i64 0, .int .i64 0, .int .i64 0, .int .i64 0, .int .i64 0] 30)).grownBy w4 (Value.slice aN (es.length + 1) cN).ownBlock → ∃ G c, v' = .slice (some ⟨G, 0, none⟩) (es.length + 1 + 1) c ∧ Below W1.heap.size W1 w4 ∧ (Calls Tryz.prog 15 #[v'] w4 fun x w' => ∃ Y f A K, x = .returned (.tuple #[.slice (some ⟨Y, 0, none⟩) 4 4, .int .i64 0, .int .i64 0]) ∧ Fb w' Y f A K ∧ f q = Bt.act F Ub ∧ Below w4.heap.size w4 w')) := veil (by
        intro v' w4 own4 grow4
        rw [← recFlat_snoc, mvTo_all, ← movesOf_len (q := q) (e := F)] at own4
        obtain ⟨G, c, rfl, row, hc, _⟩ := rec_own own4 (by rw [movesOf_len]; omega) (moves_wf hqi (by omega) (unveil HUw))
        have hA := all_good q hq (movesOf q F 1 es) ⟨1, F, 0, 0, 0, es ++ [Ev.brk]⟩ (by rw [movesOf_len]; omega) (fun x hx => movesOf_q x hx) (runs_moves hqi (by omega) (unveil HTok)) (some ⟨G, 0, none⟩) c w4 row hc
        rw [← unveil HUb] at hA
        exact ⟨G, c, by rw [movesOf_len], (Below.next bel b5).grown grow4 (Below.next bel b5).size (fun g hg => ((unveil HO).lt g hg).1), hA⟩)
      clear b5 HO bel HUl HUg HUw HTok
      go_upto_region 9 with (at_builtin; refine wpList_append_rows rfl _ _ 37 rfl W1.heap.size 30 i3 _ 10 80 Tryz.underlying37 hi3 hz30 hz31 hz32 rfl (by decide) (.slice aN (es.length + 1) cN) (es.length + 1) _ rfl (unveil HO5) (some ⟨wr.heap.size, 0, none⟩) 1 1 _ rfl (unveil HR5) (fun h => by cases h) (by unfold maxLen; omega) (by omega) (by simp; omega) ?_; intro v' w4 own4 grow4; obtain ⟨G, c, rfl, b4, hA⟩ := unveil HG v' w4 own4 grow4; have HA := veil hA; clear own4 grow4 hA HG HO5 HR5)
      clear y0 y1 y2 y3 y4 y5
      have hA := unveil HA
      clear HA
      go_upto_region 10 with (go_at_call 15; refine hA.mono ?_; rintro x V2 ⟨Y1, f1, A1, C1, rfl, fb1, hf1, b5⟩; clear hA)
      have HK1 := veil ((unveil HKS).next (Below.next b4 b5))
      have HK2 := veil ((unveil HKT).next (Below.next b4 b5))
      have HFb1 := veil (And.intro fb1 hf1)
      clear HKS HKT b4 b5 fb1 hf1
      have hwT := tape_wf (q := q) (B := S) hqi ⟨by omega, by omega⟩ hSt ((unveil HK1).i.row.wf)
      have hrun : Runs Bt.zero (tapeOf q S) S := runs_recs hqi (unveil HSok) (.inr (unveil HSr))
      have HRc : Hid (∀ u, Below V2.heap.size V2 u → Calls Tryz.prog 23 #[.int .i64 q, bVal S.r S.e S.f S.t S.o aS S.es.length cS] u fun x w' => ∃ v, x = .returned v ∧ w'.ownsRow u.heap.size 30 10 v (tapeOf q S).length ((recFlat (tapeOf q S)).map (Value.int .i64)) ∧ Below u.heap.size u w') := veil fun u b => records_any q S aS cS u ((unveil HK1).next b).i (by omega) (fun u hu => by
        simp only [List.mem_cons, List.not_mem_nil, or_false] at hu
        rcases hu with g | g | g <;> rw [g] <;> exact lit_wfR (by omega) (by omega))
      have hTl : (tapeOf q S).length ≤ 60 := by rw [tapeOf_len]; split <;> omega
      have hT0 : 0 < (tapeOf q S).length := by rw [tapeOf_len]; omega
      have HA2 : Hid (∀ v u b, u.ownsRow b 30 10 v (tapeOf q S).length ((recFlat (tapeOf q S)).map (Value.int .i64)) → ∃ G c, v = .slice (some ⟨G, 0, none⟩) (tapeOf q S).length c ∧ (Calls Tryz.prog 15 #[v] u fun x w' => ∃ Y f A K, x = .returned (.tuple #[.slice (some ⟨Y, 0, none⟩) 4 4, .int .i64 0, .int .i64 0]) ∧ Fb w' Y f A K ∧ f q = S ∧ Below u.heap.size u w')) := veil fun v u b o => by
        obtain ⟨G, c, rfl, row, hc, _⟩ := rec_own o hT0 hwT
        exact ⟨G, c, rfl, all_good q hq (tapeOf q S) S (by omega) (fun x hx => tapeOf_q x hx) hrun (some ⟨G, 0, none⟩) c u row hc⟩
      have HA3 : Hid (∀ u a c, RowK .i64 u a (10 * ((tapeOf q S).length + 1)) (recFlat (tapeOf q S) ++ recTen (recG q S.e)) → (tapeOf q S).length + 1 ≤ c → Calls Tryz.prog 15 #[.slice a ((tapeOf q S).length + 1) c] u fun x w' => ∃ Y f A K, x = .returned (.tuple #[.slice (some ⟨Y, 0, none⟩) 4 4, .int .i64 0, .int .i64 0]) ∧ Fb w' Y f A K ∧ f q = ⟨0, S.e, 0, 0, 0, []⟩ ∧ Below u.heap.size u w') := veil fun u a c r hc => by
        obtain ⟨hf, ha⟩ := apply_forget hqi (unveil HSok) (unveil HSr)
        have hl : (tapeOf q S ++ [recG q S.e]).length = (tapeOf q S).length + 1 := by rw [List.length_append]; rfl
        have := all_good q hq (tapeOf q S ++ [recG q S.e]) ⟨0, S.e, 0, 0, 0, []⟩ (by omega) (fun x hx => (List.mem_append.1 hx).elim (fun g => tapeOf_q x g) (fun g => by rw [List.mem_singleton.1 g]; rfl)) (hrun.snoc hf ha) a c u (by rw [recFlat_snoc, hl]; exact r) (by rw [hl]; exact hc)
        rw [hl] at this
        exact this
      have HWT := veil hwT
      clear hwT hrun HSok HSr HUb
      generalize tapeOf q S = T at *
      have hRc := unveil HRc V2 (Below.refl _ _)
      obtain ⟨y0, y1, y2, y3, y4, y5⟩ := (unveil HK1).b.cells
      go_upto_region 11 with (first
        | (go_at_call 23; refine hRc.mono ?_; rintro x V3 ⟨v3, rfl, own3, b3⟩; obtain ⟨G3, c3, rfl, hA⟩ := unveil HA2 v3 V3 _ own3; clear hRc own3 y0 y1 y2 y3 y4 y5 HA2)
        | (go_at_call 15; refine hA.mono ?_; rintro x U ⟨Y2, f2, A2, C2, rfl, fb2, hf2, b4⟩; clear hA))
      have HK1n := veil ((unveil HK1).next (Below.next b3 b4))
      have HK2n := veil ((unveil HK2).next (Below.next b3 b4))
      have HFb1n := veil (And.intro ((unveil HFb1).1.next (Below.next b3 b4)) (unveil HFb1).2)
      have HFb2 := veil (And.intro fb2 hf2)
      have HRcn : Hid (∀ u, Below U.heap.size U u → Calls Tryz.prog 23 #[.int .i64 q, bVal S.r S.e S.f S.t S.o aS S.es.length cS] u fun x w' => ∃ v, x = .returned v ∧ w'.ownsRow u.heap.size 30 10 v T.length ((recFlat T).map (Value.int .i64)) ∧ Below u.heap.size u w') := veil fun u b => unveil HRc u (Below.next (Below.next b3 b4) b)
      clear HK1 HK2 HFb1 fb2 hf2 b3 b4 HRc
      go_cut [21, 22, 23] (fun p r s wx => ∃ Y f A K, p = .slice (some ⟨Y, 0, none⟩) 4 4 ∧ r = .int .i64 0 ∧ s = .int .i64 0 ∧ Hid (Fb wx Y f A K ∧ f q = ⟨0, S.e, 0, 0, 0, []⟩) ∧ Below U.heap.size U wx)
      case first =>
        have rec_wf : ∀ u ∈ recTen (recG q S.e), (Lit.int .i64 u).wf = true := rec_wf10 (by decide) (lit_wfR (by omega) (by omega)) (lit_wfR (by omega) (by omega)) (by decide)
        have hwf2 : ∀ u ∈ recFlat T ++ recTen (recG q S.e), (Lit.int .i64 u).wf = true := fun u hu => (List.mem_append.1 hu).elim (unveil HWT u) (rec_wf u)
        refine wp_region_held_drew (S := Below U.heap.size U) (by kernel_rfl) (below_drew U) (fun hHeld => ?_)
        refine wpAnyH_take (i := 0) (v := .int .i64 q) rfl (by kernel_rfl) (by kernel_rfl) (by kernel_rfl) (fun _ _ _ h => h) (Or.inl ⟨by rfl, fun _ _ => by go_simp⟩) hHeld ?_
        simp only [List.getElem_toArray, List.getElem_cons_zero, Act.put, List.setIfInBounds_toArray, List.set_cons_zero, List.set_cons_succ]
        refine wpAnyH_take (i := 1) (v := bVal S.r S.e S.f S.t S.o aS S.es.length cS) rfl (by kernel_rfl) (by kernel_rfl) (by kernel_rfl) (fun _ _ _ h => h) (Or.inl ⟨by rfl, fun u b => by obtain ⟨z0, z1, z2, z3, z4, z5⟩ := ((unveil HK1n).next b).b.cells; go_simp⟩) hHeld ?_
        simp only [List.getElem_toArray, List.getElem_cons_zero, List.getElem_cons_succ, Act.put, List.setIfInBounds_toArray, List.set_cons_zero, List.set_cons_succ]
        refine wpAnyH_take (i := 3) (v := .int .i64 q) rfl (by kernel_rfl) (by kernel_rfl) (by kernel_rfl) (fun _ _ _ h => h) (Or.inl ⟨by rfl, fun _ _ => by go_simp⟩) hHeld ?_
        simp only [List.getElem_toArray, List.getElem_cons_zero, List.getElem_cons_succ, Act.put, List.setIfInBounds_toArray, List.set_cons_zero, List.set_cons_succ]
        refine wpAnyH_take (i := 4) (v := .pointer (some ⟨Rb, 1, none⟩)) rfl (by kernel_rfl) (by kernel_rfl) (by kernel_rfl) (fun _ _ _ h => h) (Or.inl ⟨by rfl, fun _ _ => by go_simp⟩) hHeld ?_
        simp only [List.getElem_toArray, List.getElem_cons_zero, List.getElem_cons_succ, Act.put, List.setIfInBounds_toArray, List.set_cons_zero, List.set_cons_succ]
        refine wpAnyH_take (i := 5) (v := .int .i64 S.e) rfl (by kernel_rfl) (by kernel_rfl) (by kernel_rfl) (fun _ _ _ h => h) (Or.inl ⟨by rfl, fun u b => by obtain ⟨z0, z1, z2, z3, z4, z5⟩ := ((unveil HK1n).next b).b.cells; go_simp⟩) hHeld ?_
        simp only [List.getElem_toArray, List.getElem_cons_zero, List.getElem_cons_succ, Act.put, List.setIfInBounds_toArray, List.set_cons_zero, List.set_cons_succ]
        refine wpAnyH_take (i := 6) (v := .agg #[.int .i64 7, .int .i64 q, .int .i64 S.e, .int .i64 0, .int .i64 0, .int .i64 0, .int .i64 0, .int .i64 0, .int .i64 0, .int .i64 0]) rfl (by kernel_rfl) (by kernel_rfl) (by kernel_rfl) (fun _ _ _ h => h) (Or.inl ⟨by rfl, fun _ _ => by go_simp⟩) hHeld ?_
        simp only [List.getElem_toArray, List.getElem_cons_zero, List.getElem_cons_succ, Act.put, List.setIfInBounds_toArray, List.set_cons_zero, List.set_cons_succ]
        have bW0 := below_drew U
        obtain ⟨W0, hW0⟩ : ∃ W0, W0 = U.drew := ⟨_, rfl⟩
        rw [← hW0] at bW0  hHeld ⊢
        clear hW0
        refine wpAnyH_ready (rs := [2, 7]) (by kernel_rfl) (by simp) ?_
        refine AllReadyH.cons rfl (fun K hK => ?_) (AllReadyH.cons rfl (fun K hK => ?_) AllReadyH.nil)
        · simp only [List.getElem_toArray, List.getElem_cons_zero, List.getElem_cons_succ]
          go_simp
          refine (unveil HRcn W0 bW0).mono ?_
          rintro e W1 ⟨va, rfl, oa, bn⟩
          have oa := own_lower oa bW0.size
          obtain ⟨aa, ka, rfl⟩ := own_form oa
          have bW1 := Below.next bW0 bn
          clear bn
          refine hK.out _ _ bW1 (fun hHeld => ?_)
          clear hK K
          refine wpAnyH_ready (rs := [7]) (by kernel_rfl) (by simp) ?_
          refine AllReadyH.cons rfl (fun K hK => ?_) AllReadyH.nil
          simp only [List.getElem_toArray, List.getElem_cons_zero, List.getElem_cons_succ]
          go_simp
          obtain ⟨W2, hN, lr, bn⟩ : ∃ W, W = W1.alloc (.cells #[.int .i64 7, .int .i64 q, .int .i64 S.e, .int .i64 0, .int .i64 0, .int .i64 0, .int .i64 0, .int .i64 0, .int .i64 0, .int .i64 0] 30) ∧ RowK .i64 W (some ⟨W1.heap.size, 0, none⟩) 10 (recTen (recG q S.e)) ∧ Below W1.heap.size W1 W := ⟨_, rfl, row_ten W1 (recG q S.e) rec_wf, below1 _ _⟩
          rw [← hN]
          clear hN
          obtain ⟨L, hL⟩ : ∃ L, L = W1.heap.size := ⟨_, rfl⟩
          rw [← hL] at lr ⊢
          clear hL
          have bW2 := Below.next bW1 bn
          have oa := own_still oa (fun g _ hg => bn.block g hg)
          clear bn
          refine hK.out _ _ bW2 (fun hHeld => ?_)
          clear hK K
          refine wpAnyH_ready (rs := [8]) (by kernel_rfl) (by simp) ?_
          refine AllReadyH.cons rfl (fun K hK => ?_) AllReadyH.nil
          simp only [List.getElem_toArray, List.getElem_cons_zero, List.getElem_cons_succ]
          refine ite_wanted rfl ?_
          refine wp_append_rows (.tmp 83) (.tmp 88) 37 rfl U.heap.size 30 i3 _ 10 80 Tryz.underlying37 hi3 hz30 hz31 hz32 rfl (by decide) _ T.length (recFlat T) rfl oa (some ⟨L, 0, none⟩) 1 1 (recTen (recG q S.e)) rfl lr (fun h => by cases h) (by unfold maxLen; omega) (by omega) bW2.size ?_
          intro vb W3 ob gb
          have bW3 : Below U.heap.size U W3 := bW2.grown gb bW2.size (fun g hg => (oa.lt g hg).1)
          obtain ⟨ab, kb, rfl, rb, hkb, _, _, _⟩ := RowK.ofMany ob hwf2
          clear gb ob oa lr
          refine hK.out _ _ bW3 (fun hHeld => ?_)
          clear hK K
          refine wpAnyH_ready (rs := [9]) (by kernel_rfl) (by simp) ?_
          refine AllReadyH.cons rfl (fun K hK => ?_) AllReadyH.nil
          simp only [List.getElem_toArray, List.getElem_cons_zero, List.getElem_cons_succ]
          go_simp
          refine (unveil HA3 W3 ab kb rb hkb).mono ?_
          rintro e W4 ⟨Y3, f3, A3, C3, rfl, fb3, hf3, bn⟩
          clear rb
          have bW4 := Below.next bW3 bn
          clear bn
          refine hK.out _ _ bW4 (fun hHeld => ?_)
          clear hK K
          refine wpAnyH_take (i := 10) (v := .tuple #[.slice (some ⟨Y3, 0, none⟩) 4 4, .int .i64 0, .int .i64 0]) rfl (by kernel_rfl) (by kernel_rfl) (by kernel_rfl) (fun _ _ _ h => h) (Or.inl ⟨by rfl, fun _ _ => by go_simp⟩) hHeld ?_
          simp only [List.getElem_toArray, List.getElem_cons_zero, List.getElem_cons_succ, Act.put, List.setIfInBounds_toArray, List.set_cons_zero, List.set_cons_succ]
          refine wpAnyH_take (i := 11) (v := .slice (some ⟨Y3, 0, none⟩) 4 4) rfl (by kernel_rfl) (by kernel_rfl) (by kernel_rfl) (fun _ _ _ h => h) (Or.inl ⟨by rfl, fun _ _ => by go_simp⟩) hHeld ?_
          simp only [List.getElem_toArray, List.getElem_cons_zero, List.getElem_cons_succ, Act.put, List.setIfInBounds_toArray, List.set_cons_zero, List.set_cons_succ]
          refine wpAnyH_take (i := 12) (v := .int .i64 0) rfl (by kernel_rfl) (by kernel_rfl) (by kernel_rfl) (fun _ _ _ h => h) (Or.inl ⟨by rfl, fun _ _ => by go_simp⟩) hHeld ?_
          simp only [List.getElem_toArray, List.getElem_cons_zero, List.getElem_cons_succ, Act.put, List.setIfInBounds_toArray, List.set_cons_zero, List.set_cons_succ]
          refine wpAnyH_take (i := 13) (v := .int .i64 0) rfl (by kernel_rfl) (by kernel_rfl) (by kernel_rfl) (fun _ _ _ h => h) (Or.inl ⟨by rfl, fun _ _ => by go_simp⟩) hHeld ?_
          simp only [List.getElem_toArray, List.getElem_cons_zero, List.getElem_cons_succ, Act.put, List.setIfInBounds_toArray, List.set_cons_zero, List.set_cons_succ]
          refine wpAnyH_take (i := 14) (v := .slice (some ⟨Y3, 0, none⟩) 4 4) rfl (by kernel_rfl) (by kernel_rfl) (by kernel_rfl) (fun _ _ _ h => h) (Or.inl ⟨by rfl, fun _ _ => by go_simp⟩) hHeld ?_
          simp only [List.getElem_toArray, List.getElem_cons_zero, List.getElem_cons_succ, Act.put, List.setIfInBounds_toArray, List.set_cons_zero, List.set_cons_succ]
          refine wpAnyH_take (i := 15) (v := .int .i64 0) rfl (by kernel_rfl) (by kernel_rfl) (by kernel_rfl) (fun _ _ _ h => h) (Or.inl ⟨by rfl, fun _ _ => by go_simp⟩) hHeld ?_
          simp only [List.getElem_toArray, List.getElem_cons_zero, List.getElem_cons_succ, Act.put, List.setIfInBounds_toArray, List.set_cons_zero, List.set_cons_succ]
          refine wpAnyH_take (i := 16) (v := .int .i64 0) rfl (by kernel_rfl) (by kernel_rfl) (by kernel_rfl) (fun _ _ _ h => h) (Or.inl ⟨by rfl, fun _ _ => by go_simp⟩) hHeld ?_
          simp only [List.getElem_toArray, List.getElem_cons_zero, List.getElem_cons_succ, Act.put, List.setIfInBounds_toArray, List.set_cons_zero, List.set_cons_succ]
          refine wpAnyH_done (by kernel_rfl) ?_ _
          go_wp2_with fail
          go_meet
          exact ⟨Y3, f3, A3, C3, rfl, rfl, rfl, veil ⟨fb3, hf3⟩, bW4⟩
        · simp only [List.getElem_toArray, List.getElem_cons_zero, List.getElem_cons_succ]
          go_simp
          obtain ⟨W1, hN, lr, bn⟩ : ∃ W, W = W0.alloc (.cells #[.int .i64 7, .int .i64 q, .int .i64 S.e, .int .i64 0, .int .i64 0, .int .i64 0, .int .i64 0, .int .i64 0, .int .i64 0, .int .i64 0] 30) ∧ RowK .i64 W (some ⟨W0.heap.size, 0, none⟩) 10 (recTen (recG q S.e)) ∧ Below W0.heap.size W0 W := ⟨_, rfl, row_ten W0 (recG q S.e) rec_wf, below1 _ _⟩
          rw [← hN]
          clear hN
          obtain ⟨L, hL⟩ : ∃ L, L = W0.heap.size := ⟨_, rfl⟩
          rw [← hL] at lr ⊢
          clear hL
          have bW1 := Below.next bW0 bn
          clear bn
          refine hK.out _ _ bW1 (fun hHeld => ?_)
          clear hK K
          refine wpAnyH_ready (rs := [2]) (by kernel_rfl) (by simp) ?_
          refine AllReadyH.cons rfl (fun K hK => ?_) AllReadyH.nil
          simp only [List.getElem_toArray, List.getElem_cons_zero, List.getElem_cons_succ]
          go_simp
          refine (unveil HRcn W1 bW1).mono ?_
          rintro e W2 ⟨va, rfl, oa, bn⟩
          have oa := own_lower oa bW1.size
          obtain ⟨aa, ka, rfl⟩ := own_form oa
          have bW2 := Below.next bW1 bn
          have lr := lr.below bn
          clear bn
          refine hK.out _ _ bW2 (fun hHeld => ?_)
          clear hK K
          refine wpAnyH_ready (rs := [8]) (by kernel_rfl) (by simp) ?_
          refine AllReadyH.cons rfl (fun K hK => ?_) AllReadyH.nil
          simp only [List.getElem_toArray, List.getElem_cons_zero, List.getElem_cons_succ]
          refine ite_wanted rfl ?_
          refine wp_append_rows (.tmp 83) (.tmp 88) 37 rfl U.heap.size 30 i3 _ 10 80 Tryz.underlying37 hi3 hz30 hz31 hz32 rfl (by decide) _ T.length (recFlat T) rfl oa (some ⟨L, 0, none⟩) 1 1 (recTen (recG q S.e)) rfl lr (fun h => by cases h) (by unfold maxLen; omega) (by omega) bW2.size ?_
          intro vb W3 ob gb
          have bW3 : Below U.heap.size U W3 := bW2.grown gb bW2.size (fun g hg => (oa.lt g hg).1)
          obtain ⟨ab, kb, rfl, rb, hkb, _, _, _⟩ := RowK.ofMany ob hwf2
          clear gb ob oa lr
          refine hK.out _ _ bW3 (fun hHeld => ?_)
          clear hK K
          refine wpAnyH_ready (rs := [9]) (by kernel_rfl) (by simp) ?_
          refine AllReadyH.cons rfl (fun K hK => ?_) AllReadyH.nil
          simp only [List.getElem_toArray, List.getElem_cons_zero, List.getElem_cons_succ]
          go_simp
          refine (unveil HA3 W3 ab kb rb hkb).mono ?_
          rintro e W4 ⟨Y3, f3, A3, C3, rfl, fb3, hf3, bn⟩
          clear rb
          have bW4 := Below.next bW3 bn
          clear bn
          refine hK.out _ _ bW4 (fun hHeld => ?_)
          clear hK K
          refine wpAnyH_take (i := 10) (v := .tuple #[.slice (some ⟨Y3, 0, none⟩) 4 4, .int .i64 0, .int .i64 0]) rfl (by kernel_rfl) (by kernel_rfl) (by kernel_rfl) (fun _ _ _ h => h) (Or.inl ⟨by rfl, fun _ _ => by go_simp⟩) hHeld ?_
          simp only [List.getElem_toArray, List.getElem_cons_zero, List.getElem_cons_succ, Act.put, List.setIfInBounds_toArray, List.set_cons_zero, List.set_cons_succ]
          refine wpAnyH_take (i := 11) (v := .slice (some ⟨Y3, 0, none⟩) 4 4) rfl (by kernel_rfl) (by kernel_rfl) (by kernel_rfl) (fun _ _ _ h => h) (Or.inl ⟨by rfl, fun _ _ => by go_simp⟩) hHeld ?_
          simp only [List.getElem_toArray, List.getElem_cons_zero, List.getElem_cons_succ, Act.put, List.setIfInBounds_toArray, List.set_cons_zero, List.set_cons_succ]
          refine wpAnyH_take (i := 12) (v := .int .i64 0) rfl (by kernel_rfl) (by kernel_rfl) (by kernel_rfl) (fun _ _ _ h => h) (Or.inl ⟨by rfl, fun _ _ => by go_simp⟩) hHeld ?_
          simp only [List.getElem_toArray, List.getElem_cons_zero, List.getElem_cons_succ, Act.put, List.setIfInBounds_toArray, List.set_cons_zero, List.set_cons_succ]
          refine wpAnyH_take (i := 13) (v := .int .i64 0) rfl (by kernel_rfl) (by kernel_rfl) (by kernel_rfl) (fun _ _ _ h => h) (Or.inl ⟨by rfl, fun _ _ => by go_simp⟩) hHeld ?_
          simp only [List.getElem_toArray, List.getElem_cons_zero, List.getElem_cons_succ, Act.put, List.setIfInBounds_toArray, List.set_cons_zero, List.set_cons_succ]
          refine wpAnyH_take (i := 14) (v := .slice (some ⟨Y3, 0, none⟩) 4 4) rfl (by kernel_rfl) (by kernel_rfl) (by kernel_rfl) (fun _ _ _ h => h) (Or.inl ⟨by rfl, fun _ _ => by go_simp⟩) hHeld ?_
          simp only [List.getElem_toArray, List.getElem_cons_zero, List.getElem_cons_succ, Act.put, List.setIfInBounds_toArray, List.set_cons_zero, List.set_cons_succ]
          refine wpAnyH_take (i := 15) (v := .int .i64 0) rfl (by kernel_rfl) (by kernel_rfl) (by kernel_rfl) (fun _ _ _ h => h) (Or.inl ⟨by rfl, fun _ _ => by go_simp⟩) hHeld ?_
          simp only [List.getElem_toArray, List.getElem_cons_zero, List.getElem_cons_succ, Act.put, List.setIfInBounds_toArray, List.set_cons_zero, List.set_cons_succ]
          refine wpAnyH_take (i := 16) (v := .int .i64 0) rfl (by kernel_rfl) (by kernel_rfl) (by kernel_rfl) (fun _ _ _ h => h) (Or.inl ⟨by rfl, fun _ _ => by go_simp⟩) hHeld ?_
          simp only [List.getElem_toArray, List.getElem_cons_zero, List.getElem_cons_succ, Act.put, List.setIfInBounds_toArray, List.set_cons_zero, List.set_cons_succ]
          refine wpAnyH_done (by kernel_rfl) ?_ _
          go_wp2_with fail
          go_meet
          exact ⟨Y3, f3, A3, C3, rfl, rfl, rfl, veil ⟨fb3, hf3⟩, bW4⟩
      case rest =>
        obtain ⟨Y3, f3, A3, C3, rfl, rfl, rfl, HFb3, b6⟩ := hcut
        have HK1 := veil ((unveil HK1n).next b6)
        have HK2 := veil ((unveil HK2n).next b6)
        have fb1 := (unveil HFb1n).1.next b6
        have hf1 := (unveil HFb1n).2
        have fb2 := (unveil HFb2).1.next b6
        have hf2 := (unveil HFb2).2
        have hUl : Ub.length ≤ 3000000000000 := hUl0
        have HS1 : Hid (∀ u, Below wc.heap.size wc u → Calls Tryz.prog 24 #[bVal 1 F 0 0 0 (A1 q) Ub.length (C1 q), bVal 1 F 0 0 0 (some ⟨bT, oT, none⟩) Ub.length cT] u fun x w' => x = .returned (.bool true) ∧ Below u.heap.size u w') := veil fun u b => by
          have h1 := ((fb1.next b).bin q hq).row
          rw [hf1] at h1
          exact sameBerthK_yes 1 F 0 0 0 (A1 q) (some ⟨bT, oT, none⟩) Ub.length (C1 q) cT (evFlat Ub) u h1 ((unveil HK2).next b).i.row hUl
        have HS2 : Hid (∀ u, Below wc.heap.size wc u → Calls Tryz.prog 24 #[bVal S.r S.e S.f S.t S.o (A2 q) S.es.length (C2 q), bVal S.r S.e S.f S.t S.o aS S.es.length cS] u fun x w' => x = .returned (.bool true) ∧ Below u.heap.size u w') := veil fun u b => by
          have h1 := ((fb2.next b).bin q hq).row
          rw [hf2] at h1
          exact sameBerthK_yes S.r S.e S.f S.t S.o (A2 q) aS S.es.length (C2 q) cS (evFlat S.es) u h1 ((unveil HK1).next b).i.row (by omega)
        have HC1 : Hid (∀ u, Below wc.heap.size wc u → u.cell? ⟨Y1, q * 6, none⟩ = some (.int .i64 1) ∧ u.cell? ⟨Y1, q * 6 + 1, none⟩ = some (.int .i64 F) ∧ u.cell? ⟨Y1, q * 6 + 2, none⟩ = some (.int .i64 0) ∧ u.cell? ⟨Y1, q * 6 + 3, none⟩ = some (.int .i64 0) ∧ u.cell? ⟨Y1, q * 6 + 4, none⟩ = some (.int .i64 0) ∧ u.cell? ⟨Y1, q * 6 + 5, none⟩ = some (.slice (A1 q) Ub.length (C1 q))) := veil fun u b => by
          have h1 := (fb1.next b).b.at q hq
          rw [hf1] at h1
          exact h1
        have HC2 : Hid (∀ u, Below wc.heap.size wc u → u.cell? ⟨Y2, q * 6, none⟩ = some (.int .i64 S.r) ∧ u.cell? ⟨Y2, q * 6 + 1, none⟩ = some (.int .i64 S.e) ∧ u.cell? ⟨Y2, q * 6 + 2, none⟩ = some (.int .i64 S.f) ∧ u.cell? ⟨Y2, q * 6 + 3, none⟩ = some (.int .i64 S.t) ∧ u.cell? ⟨Y2, q * 6 + 4, none⟩ = some (.int .i64 S.o) ∧ u.cell? ⟨Y2, q * 6 + 5, none⟩ = some (.slice (A2 q) S.es.length (C2 q))) := veil fun u b => by
          have h1 := (fb2.next b).b.at q hq
          rw [hf2] at h1
          exact h1
        have HC3 : Hid (∀ u, Below wc.heap.size wc u → u.cell? ⟨Y3, q * 6, none⟩ = some (.int .i64 0)) := veil fun u b => by
          have h1 := ((unveil HFb3).1.next b).b.at q hq
          rw [(unveil HFb3).2] at h1
          exact h1.1
        have HB := veil (unveil HK1).bel
        clear fb1 hf1 fb2 hf2 b6 HFb1n HFb2 HFb3 HRcn HA3 HWT HK1n HK2n
        go_upto_region 12 with fail
        refine wp_region_held_drew (S := Below wc.heap.size wc) (by kernel_rfl) (below_drew wc) (fun hHeld => ?_)
        refine wpAnyH_take (i := 0) (v := .bool true) rfl (by kernel_rfl) (by kernel_rfl) (by kernel_rfl) (fun _ _ _ h => h) (Or.inl ⟨by rfl, fun _ _ => by go_simp⟩) hHeld ?_
        simp only [List.getElem_toArray, List.getElem_cons_zero, Act.put, List.setIfInBounds_toArray, List.set_cons_zero, List.set_cons_succ]
        refine wpAnyH_take (i := 1) (v := .bool true) rfl (by kernel_rfl) (by kernel_rfl) (by kernel_rfl) (fun _ _ _ h => h) (Or.inl ⟨by rfl, fun _ _ => by go_simp⟩) hHeld ?_
        simp only [List.getElem_toArray, List.getElem_cons_zero, List.getElem_cons_succ, Act.put, List.setIfInBounds_toArray, List.set_cons_zero, List.set_cons_succ]
        refine wpAnyH_take (i := 2) (v := .int .i64 0) rfl (by kernel_rfl) (by kernel_rfl) (by kernel_rfl) (fun _ _ _ h => h) (Or.inl ⟨by rfl, fun _ _ => by go_simp⟩) hHeld ?_
        simp only [List.getElem_toArray, List.getElem_cons_zero, List.getElem_cons_succ, Act.put, List.setIfInBounds_toArray, List.set_cons_zero, List.set_cons_succ]
        refine wpAnyH_take (i := 3) (v := .bool true) rfl (by kernel_rfl) (by kernel_rfl) (by kernel_rfl) (fun _ _ _ h => h) (Or.inl ⟨by rfl, fun _ _ => by go_simp⟩) hHeld ?_
        simp only [List.getElem_toArray, List.getElem_cons_zero, List.getElem_cons_succ, Act.put, List.setIfInBounds_toArray, List.set_cons_zero, List.set_cons_succ]
        refine wpAnyH_take (i := 4) (v := .bool true) rfl (by kernel_rfl) (by kernel_rfl) (by kernel_rfl) (fun _ _ _ h => h) (Or.inl ⟨by rfl, fun _ _ => by go_simp⟩) hHeld ?_
        simp only [List.getElem_toArray, List.getElem_cons_zero, List.getElem_cons_succ, Act.put, List.setIfInBounds_toArray, List.set_cons_zero, List.set_cons_succ]
        refine wpAnyH_take (i := 5) (v := .bool true) rfl (by kernel_rfl) (by kernel_rfl) (by kernel_rfl) (fun _ _ _ h => h) (Or.inl ⟨by rfl, fun _ _ => by go_simp⟩) hHeld ?_
        simp only [List.getElem_toArray, List.getElem_cons_zero, List.getElem_cons_succ, Act.put, List.setIfInBounds_toArray, List.set_cons_zero, List.set_cons_succ]
        refine wpAnyH_take (i := 6) (v := .int .i64 0) rfl (by kernel_rfl) (by kernel_rfl) (by kernel_rfl) (fun _ _ _ h => h) (Or.inl ⟨by rfl, fun _ _ => by go_simp⟩) hHeld ?_
        simp only [List.getElem_toArray, List.getElem_cons_zero, List.getElem_cons_succ, Act.put, List.setIfInBounds_toArray, List.set_cons_zero, List.set_cons_succ]
        refine wpAnyH_take (i := 7) (v := .bool true) rfl (by kernel_rfl) (by kernel_rfl) (by kernel_rfl) (fun _ _ _ h => h) (Or.inl ⟨by rfl, fun _ _ => by go_simp⟩) hHeld ?_
        simp only [List.getElem_toArray, List.getElem_cons_zero, List.getElem_cons_succ, Act.put, List.setIfInBounds_toArray, List.set_cons_zero, List.set_cons_succ]
        refine wpAnyH_take (i := 8) (v := .bool true) rfl (by kernel_rfl) (by kernel_rfl) (by kernel_rfl) (fun _ _ _ h => h) (Or.inl ⟨by rfl, fun _ _ => by go_simp⟩) hHeld ?_
        simp only [List.getElem_toArray, List.getElem_cons_zero, List.getElem_cons_succ, Act.put, List.setIfInBounds_toArray, List.set_cons_zero, List.set_cons_succ]
        refine wpAnyH_take (i := 9) (v := .bool true) rfl (by kernel_rfl) (by kernel_rfl) (by kernel_rfl) (fun _ _ _ h => h) (Or.inl ⟨by rfl, fun _ _ => by go_simp⟩) hHeld ?_
        simp only [List.getElem_toArray, List.getElem_cons_zero, List.getElem_cons_succ, Act.put, List.setIfInBounds_toArray, List.set_cons_zero, List.set_cons_succ]
        refine wpAnyH_take (i := 10) (v := .int .i64 0) rfl (by kernel_rfl) (by kernel_rfl) (by kernel_rfl) (fun _ _ _ h => h) (Or.inl ⟨by rfl, fun _ _ => by go_simp⟩) hHeld ?_
        simp only [List.getElem_toArray, List.getElem_cons_zero, List.getElem_cons_succ, Act.put, List.setIfInBounds_toArray, List.set_cons_zero, List.set_cons_succ]
        refine wpAnyH_take (i := 11) (v := .bool true) rfl (by kernel_rfl) (by kernel_rfl) (by kernel_rfl) (fun _ _ _ h => h) (Or.inl ⟨by rfl, fun _ _ => by go_simp⟩) hHeld ?_
        simp only [List.getElem_toArray, List.getElem_cons_zero, List.getElem_cons_succ, Act.put, List.setIfInBounds_toArray, List.set_cons_zero, List.set_cons_succ]
        refine wpAnyH_take (i := 12) (v := .bool true) rfl (by kernel_rfl) (by kernel_rfl) (by kernel_rfl) (fun _ _ _ h => h) (Or.inl ⟨by rfl, fun _ _ => by go_simp⟩) hHeld ?_
        simp only [List.getElem_toArray, List.getElem_cons_zero, List.getElem_cons_succ, Act.put, List.setIfInBounds_toArray, List.set_cons_zero, List.set_cons_succ]
        refine wpAnyH_take (i := 13) (v := .bool true) rfl (by kernel_rfl) (by kernel_rfl) (by kernel_rfl) (fun _ _ _ h => h) (Or.inl ⟨by rfl, fun _ _ => by go_simp⟩) hHeld ?_
        simp only [List.getElem_toArray, List.getElem_cons_zero, List.getElem_cons_succ, Act.put, List.setIfInBounds_toArray, List.set_cons_zero, List.set_cons_succ]
        refine wpAnyH_take (i := 14) (v := .slice (some ⟨Y1, 0, none⟩) 4 4) rfl (by kernel_rfl) (by kernel_rfl) (by kernel_rfl) (fun _ _ _ h => h) (Or.inl ⟨by rfl, fun _ _ => by go_simp⟩) hHeld ?_
        simp only [List.getElem_toArray, List.getElem_cons_zero, List.getElem_cons_succ, Act.put, List.setIfInBounds_toArray, List.set_cons_zero, List.set_cons_succ]
        refine wpAnyH_take (i := 15) (v := .int .i64 4) rfl (by kernel_rfl) (by kernel_rfl) (by kernel_rfl) (fun _ _ _ h => h) (Or.inl ⟨by rfl, fun _ _ => by go_simp⟩) hHeld ?_
        simp only [List.getElem_toArray, List.getElem_cons_zero, List.getElem_cons_succ, Act.put, List.setIfInBounds_toArray, List.set_cons_zero, List.set_cons_succ]
        refine wpAnyH_take (i := 16) (v := .bool true) rfl (by kernel_rfl) (by kernel_rfl) (by kernel_rfl) (fun _ _ _ h => h) (Or.inl ⟨by rfl, fun _ _ => by go_simp⟩) hHeld ?_
        simp only [List.getElem_toArray, List.getElem_cons_zero, List.getElem_cons_succ, Act.put, List.setIfInBounds_toArray, List.set_cons_zero, List.set_cons_succ]
        refine wpAnyH_take (i := 17) (v := .bool true) rfl (by kernel_rfl) (by kernel_rfl) (by kernel_rfl) (fun _ _ _ h => h) (Or.inl ⟨by rfl, fun _ _ => by go_simp⟩) hHeld ?_
        simp only [List.getElem_toArray, List.getElem_cons_zero, List.getElem_cons_succ, Act.put, List.setIfInBounds_toArray, List.set_cons_zero, List.set_cons_succ]
        refine wpAnyH_take (i := 18) (v := .bool true) rfl (by kernel_rfl) (by kernel_rfl) (by kernel_rfl) (fun _ _ _ h => h) (Or.inl ⟨by rfl, fun _ _ => by go_simp⟩) hHeld ?_
        simp only [List.getElem_toArray, List.getElem_cons_zero, List.getElem_cons_succ, Act.put, List.setIfInBounds_toArray, List.set_cons_zero, List.set_cons_succ]
        refine wpAnyH_take (i := 19) (v := .slice (some ⟨Y2, 0, none⟩) 4 4) rfl (by kernel_rfl) (by kernel_rfl) (by kernel_rfl) (fun _ _ _ h => h) (Or.inl ⟨by rfl, fun _ _ => by go_simp⟩) hHeld ?_
        simp only [List.getElem_toArray, List.getElem_cons_zero, List.getElem_cons_succ, Act.put, List.setIfInBounds_toArray, List.set_cons_zero, List.set_cons_succ]
        refine wpAnyH_take (i := 20) (v := .int .i64 4) rfl (by kernel_rfl) (by kernel_rfl) (by kernel_rfl) (fun _ _ _ h => h) (Or.inl ⟨by rfl, fun _ _ => by go_simp⟩) hHeld ?_
        simp only [List.getElem_toArray, List.getElem_cons_zero, List.getElem_cons_succ, Act.put, List.setIfInBounds_toArray, List.set_cons_zero, List.set_cons_succ]
        refine wpAnyH_take (i := 21) (v := .bool true) rfl (by kernel_rfl) (by kernel_rfl) (by kernel_rfl) (fun _ _ _ h => h) (Or.inl ⟨by rfl, fun _ _ => by go_simp⟩) hHeld ?_
        simp only [List.getElem_toArray, List.getElem_cons_zero, List.getElem_cons_succ, Act.put, List.setIfInBounds_toArray, List.set_cons_zero, List.set_cons_succ]
        refine wpAnyH_take (i := 22) (v := .bool true) rfl (by kernel_rfl) (by kernel_rfl) (by kernel_rfl) (fun _ _ _ h => h) (Or.inl ⟨by rfl, fun _ _ => by go_simp⟩) hHeld ?_
        simp only [List.getElem_toArray, List.getElem_cons_zero, List.getElem_cons_succ, Act.put, List.setIfInBounds_toArray, List.set_cons_zero, List.set_cons_succ]
        refine wpAnyH_take (i := 23) (v := .bool true) rfl (by kernel_rfl) (by kernel_rfl) (by kernel_rfl) (fun _ _ _ h => h) (Or.inl ⟨by rfl, fun _ _ => by go_simp⟩) hHeld ?_
        simp only [List.getElem_toArray, List.getElem_cons_zero, List.getElem_cons_succ, Act.put, List.setIfInBounds_toArray, List.set_cons_zero, List.set_cons_succ]
        refine wpAnyH_take (i := 24) (v := .slice (some ⟨Y3, 0, none⟩) 4 4) rfl (by kernel_rfl) (by kernel_rfl) (by kernel_rfl) (fun _ _ _ h => h) (Or.inl ⟨by rfl, fun _ _ => by go_simp⟩) hHeld ?_
        simp only [List.getElem_toArray, List.getElem_cons_zero, List.getElem_cons_succ, Act.put, List.setIfInBounds_toArray, List.set_cons_zero, List.set_cons_succ]
        refine wpAnyH_take (i := 25) (v := .int .i64 4) rfl (by kernel_rfl) (by kernel_rfl) (by kernel_rfl) (fun _ _ _ h => h) (Or.inl ⟨by rfl, fun _ _ => by go_simp⟩) hHeld ?_
        simp only [List.getElem_toArray, List.getElem_cons_zero, List.getElem_cons_succ, Act.put, List.setIfInBounds_toArray, List.set_cons_zero, List.set_cons_succ]
        refine wpAnyH_take (i := 26) (v := .bool true) rfl (by kernel_rfl) (by kernel_rfl) (by kernel_rfl) (fun _ _ _ h => h) (Or.inl ⟨by rfl, fun _ _ => by go_simp⟩) hHeld ?_
        simp only [List.getElem_toArray, List.getElem_cons_zero, List.getElem_cons_succ, Act.put, List.setIfInBounds_toArray, List.set_cons_zero, List.set_cons_succ]
        refine wpAnyH_take (i := 27) (v := .bool true) rfl (by kernel_rfl) (by kernel_rfl) (by kernel_rfl) (fun _ _ _ h => h) (Or.inl ⟨by rfl, fun _ _ => by go_simp⟩) hHeld ?_
        simp only [List.getElem_toArray, List.getElem_cons_zero, List.getElem_cons_succ, Act.put, List.setIfInBounds_toArray, List.set_cons_zero, List.set_cons_succ]
        refine wpAnyH_take (i := 28) (v := .bool true) rfl (by kernel_rfl) (by kernel_rfl) (by kernel_rfl) (fun _ _ _ h => h) (Or.inl ⟨by rfl, fun _ _ => by go_simp⟩) hHeld ?_
        simp only [List.getElem_toArray, List.getElem_cons_zero, List.getElem_cons_succ, Act.put, List.setIfInBounds_toArray, List.set_cons_zero, List.set_cons_succ]
        refine wpAnyH_take (i := 29) (v := .slice (some ⟨Y1, 0, none⟩) 4 4) rfl (by kernel_rfl) (by kernel_rfl) (by kernel_rfl) (fun _ _ _ h => h) (Or.inl ⟨by rfl, fun _ _ => by go_simp⟩) hHeld ?_
        simp only [List.getElem_toArray, List.getElem_cons_zero, List.getElem_cons_succ, Act.put, List.setIfInBounds_toArray, List.set_cons_zero, List.set_cons_succ]
        refine wpAnyH_take (i := 30) (v := .int .i64 q) rfl (by kernel_rfl) (by kernel_rfl) (by kernel_rfl) (fun _ _ _ h => h) (Or.inl ⟨by rfl, fun _ _ => by go_simp⟩) hHeld ?_
        simp only [List.getElem_toArray, List.getElem_cons_zero, List.getElem_cons_succ, Act.put, List.setIfInBounds_toArray, List.set_cons_zero, List.set_cons_succ]
        refine wpAnyH_take (i := 31) (v := .pointer (some ⟨Y1, q * 6, none⟩)) rfl (by kernel_rfl) (by kernel_rfl) (by kernel_rfl) (fun _ _ _ h => h) (Or.inl ⟨by rfl, fun _ _ => by go_simp⟩) hHeld ?_
        simp only [List.getElem_toArray, List.getElem_cons_zero, List.getElem_cons_succ, Act.put, List.setIfInBounds_toArray, List.set_cons_zero, List.set_cons_succ]
        refine wpAnyH_take (i := 32) (v := bVal 1 F 0 0 0 (A1 q) Ub.length (C1 q)) rfl (by kernel_rfl) (by kernel_rfl) (by kernel_rfl) (fun _ _ _ h => h) (Or.inl ⟨by rfl, fun u b => by obtain ⟨z0, z1, z2, z3, z4, z5⟩ := unveil HC1 u b; go_simp⟩) hHeld ?_
        simp only [List.getElem_toArray, List.getElem_cons_zero, List.getElem_cons_succ, Act.put, List.setIfInBounds_toArray, List.set_cons_zero, List.set_cons_succ]
        refine wpAnyH_take (i := 33) (v := bVal 1 F 0 0 0 (some ⟨bT, oT, none⟩) Ub.length cT) rfl (by kernel_rfl) (by kernel_rfl) (by kernel_rfl) (fun _ _ _ h => h) (Or.inl ⟨by rfl, fun u b => by obtain ⟨z0, z1, z2, z3, z4, z5⟩ := ((unveil HK2).next b).b.cells; go_simp⟩) hHeld ?_
        simp only [List.getElem_toArray, List.getElem_cons_zero, List.getElem_cons_succ, Act.put, List.setIfInBounds_toArray, List.set_cons_zero, List.set_cons_succ]
        have bW0 := below_drew wc
        obtain ⟨W0, hW0⟩ : ∃ W0, W0 = wc.drew := ⟨_, rfl⟩
        rw [← hW0] at bW0  hHeld ⊢
        clear hW0
        refine wpAnyH_ready (rs := [34]) (by kernel_rfl) (by simp) ?_
        refine AllReadyH.cons rfl (fun K hK => ?_) AllReadyH.nil
        simp only [List.getElem_toArray, List.getElem_cons_zero, List.getElem_cons_succ]
        go_simp
        refine (unveil HS1 W0 bW0).mono ?_
        rintro x W1 ⟨rfl, bn⟩
        have bW1 := Below.next bW0 bn
        clear bn
        refine hK.out _ _ bW1 (fun hHeld => ?_)
        clear hK K
        refine wpAnyH_take (i := 35) (v := .bool true) rfl (by kernel_rfl) (by kernel_rfl) (by kernel_rfl) (fun _ _ _ h => h) (Or.inl ⟨by rfl, fun _ _ => by go_simp⟩) hHeld ?_
        simp only [List.getElem_toArray, List.getElem_cons_zero, List.getElem_cons_succ, Act.put, List.setIfInBounds_toArray, List.set_cons_zero, List.set_cons_succ]
        refine wpAnyH_take (i := 36) (v := .bool true) rfl (by kernel_rfl) (by kernel_rfl) (by kernel_rfl) (fun _ _ _ h => h) (Or.inl ⟨by rfl, fun _ _ => by go_simp⟩) hHeld ?_
        simp only [List.getElem_toArray, List.getElem_cons_zero, List.getElem_cons_succ, Act.put, List.setIfInBounds_toArray, List.set_cons_zero, List.set_cons_succ]
        refine wpAnyH_take (i := 37) (v := .slice (some ⟨Y2, 0, none⟩) 4 4) rfl (by kernel_rfl) (by kernel_rfl) (by kernel_rfl) (fun _ _ _ h => h) (Or.inl ⟨by rfl, fun _ _ => by go_simp⟩) hHeld ?_
        simp only [List.getElem_toArray, List.getElem_cons_zero, List.getElem_cons_succ, Act.put, List.setIfInBounds_toArray, List.set_cons_zero, List.set_cons_succ]
        refine wpAnyH_take (i := 38) (v := .int .i64 q) rfl (by kernel_rfl) (by kernel_rfl) (by kernel_rfl) (fun _ _ _ h => h) (Or.inl ⟨by rfl, fun _ _ => by go_simp⟩) hHeld ?_
        simp only [List.getElem_toArray, List.getElem_cons_zero, List.getElem_cons_succ, Act.put, List.setIfInBounds_toArray, List.set_cons_zero, List.set_cons_succ]
        refine wpAnyH_take (i := 39) (v := .pointer (some ⟨Y2, q * 6, none⟩)) rfl (by kernel_rfl) (by kernel_rfl) (by kernel_rfl) (fun _ _ _ h => h) (Or.inl ⟨by rfl, fun _ _ => by go_simp⟩) hHeld ?_
        simp only [List.getElem_toArray, List.getElem_cons_zero, List.getElem_cons_succ, Act.put, List.setIfInBounds_toArray, List.set_cons_zero, List.set_cons_succ]
        refine wpAnyH_take (i := 40) (v := bVal S.r S.e S.f S.t S.o (A2 q) S.es.length (C2 q)) rfl (by kernel_rfl) (by kernel_rfl) (by kernel_rfl) (fun _ _ _ h => h) (Or.inl ⟨by rfl, fun u b => by obtain ⟨z0, z1, z2, z3, z4, z5⟩ := unveil HC2 u b; go_simp⟩) hHeld ?_
        simp only [List.getElem_toArray, List.getElem_cons_zero, List.getElem_cons_succ, Act.put, List.setIfInBounds_toArray, List.set_cons_zero, List.set_cons_succ]
        refine wpAnyH_take (i := 41) (v := bVal S.r S.e S.f S.t S.o aS S.es.length cS) rfl (by kernel_rfl) (by kernel_rfl) (by kernel_rfl) (fun _ _ _ h => h) (Or.inl ⟨by rfl, fun u b => by obtain ⟨z0, z1, z2, z3, z4, z5⟩ := ((unveil HK1).next b).b.cells; go_simp⟩) hHeld ?_
        simp only [List.getElem_toArray, List.getElem_cons_zero, List.getElem_cons_succ, Act.put, List.setIfInBounds_toArray, List.set_cons_zero, List.set_cons_succ]
        refine wpAnyH_ready (rs := [42]) (by kernel_rfl) (by simp) ?_
        refine AllReadyH.cons rfl (fun K hK => ?_) AllReadyH.nil
        simp only [List.getElem_toArray, List.getElem_cons_zero, List.getElem_cons_succ]
        go_simp
        refine (unveil HS2 W1 bW1).mono ?_
        rintro x W2 ⟨rfl, bn⟩
        have bW2 := Below.next bW1 bn
        clear bn
        refine hK.out _ _ bW2 (fun hHeld => ?_)
        clear hK K
        refine wpAnyH_take (i := 43) (v := .bool true) rfl (by kernel_rfl) (by kernel_rfl) (by kernel_rfl) (fun _ _ _ h => h) (Or.inl ⟨by rfl, fun _ _ => by go_simp⟩) hHeld ?_
        simp only [List.getElem_toArray, List.getElem_cons_zero, List.getElem_cons_succ, Act.put, List.setIfInBounds_toArray, List.set_cons_zero, List.set_cons_succ]
        refine wpAnyH_take (i := 44) (v := .bool true) rfl (by kernel_rfl) (by kernel_rfl) (by kernel_rfl) (fun _ _ _ h => h) (Or.inl ⟨by rfl, fun _ _ => by go_simp⟩) hHeld ?_
        simp only [List.getElem_toArray, List.getElem_cons_zero, List.getElem_cons_succ, Act.put, List.setIfInBounds_toArray, List.set_cons_zero, List.set_cons_succ]
        refine wpAnyH_take (i := 45) (v := .slice (some ⟨Y3, 0, none⟩) 4 4) rfl (by kernel_rfl) (by kernel_rfl) (by kernel_rfl) (fun _ _ _ h => h) (Or.inl ⟨by rfl, fun _ _ => by go_simp⟩) hHeld ?_
        simp only [List.getElem_toArray, List.getElem_cons_zero, List.getElem_cons_succ, Act.put, List.setIfInBounds_toArray, List.set_cons_zero, List.set_cons_succ]
        refine wpAnyH_take (i := 46) (v := .int .i64 q) rfl (by kernel_rfl) (by kernel_rfl) (by kernel_rfl) (fun _ _ _ h => h) (Or.inl ⟨by rfl, fun _ _ => by go_simp⟩) hHeld ?_
        simp only [List.getElem_toArray, List.getElem_cons_zero, List.getElem_cons_succ, Act.put, List.setIfInBounds_toArray, List.set_cons_zero, List.set_cons_succ]
        refine wpAnyH_take (i := 47) (v := .pointer (some ⟨Y3, q * 6, none⟩)) rfl (by kernel_rfl) (by kernel_rfl) (by kernel_rfl) (fun _ _ _ h => h) (Or.inl ⟨by rfl, fun _ _ => by go_simp⟩) hHeld ?_
        simp only [List.getElem_toArray, List.getElem_cons_zero, List.getElem_cons_succ, Act.put, List.setIfInBounds_toArray, List.set_cons_zero, List.set_cons_succ]
        refine wpAnyH_take (i := 48) (v := .pointer (some ⟨Y3, q * 6, none⟩)) rfl (by kernel_rfl) (by kernel_rfl) (by kernel_rfl) (fun _ _ _ h => h) (Or.inl ⟨by rfl, fun _ _ => by go_simp⟩) hHeld ?_
        simp only [List.getElem_toArray, List.getElem_cons_zero, List.getElem_cons_succ, Act.put, List.setIfInBounds_toArray, List.set_cons_zero, List.set_cons_succ]
        refine wpAnyH_take (i := 49) (v := .int .i64 0) rfl (by kernel_rfl) (by kernel_rfl) (by kernel_rfl) (fun _ _ _ h => h) (Or.inl ⟨by rfl, fun u b => by have z0 := unveil HC3 u b; go_simp⟩) hHeld ?_
        simp only [List.getElem_toArray, List.getElem_cons_zero, List.getElem_cons_succ, Act.put, List.setIfInBounds_toArray, List.set_cons_zero, List.set_cons_succ]
        refine wpAnyH_take (i := 50) (v := .bool true) rfl (by kernel_rfl) (by kernel_rfl) (by kernel_rfl) (fun _ _ _ h => h) (Or.inl ⟨by rfl, fun _ _ => by go_simp⟩) hHeld ?_
        simp only [List.getElem_toArray, List.getElem_cons_zero, List.getElem_cons_succ, Act.put, List.setIfInBounds_toArray, List.set_cons_zero, List.set_cons_succ]
        refine wpAnyH_take (i := 51) (v := .bool true) rfl (by kernel_rfl) (by kernel_rfl) (by kernel_rfl) (fun _ _ _ h => h) (Or.inl ⟨by rfl, fun _ _ => by go_simp⟩) hHeld ?_
        simp only [List.getElem_toArray, List.getElem_cons_zero, List.getElem_cons_succ, Act.put, List.setIfInBounds_toArray, List.set_cons_zero, List.set_cons_succ]
        refine wpAnyH_take (i := 52) (v := .bool true) rfl (by kernel_rfl) (by kernel_rfl) (by kernel_rfl) (fun _ _ _ h => h) (Or.inl ⟨by rfl, fun _ _ => by go_simp⟩) hHeld ?_
        simp only [List.getElem_toArray, List.getElem_cons_zero, List.getElem_cons_succ, Act.put, List.setIfInBounds_toArray, List.set_cons_zero, List.set_cons_succ]
        refine wpAnyH_done (by kernel_rfl) ?_ _
        go_wp2_with fail
        go_ret
        exact ⟨rfl, Below.next (unveil HB) bW2⟩
end Go.Proofs.YtcdopnkabbfooaaGreat
