/- The walk of berthshiftkeep.RebuildMixed. -/
import Derived.Test.YtcdopnkabbfooaaGreatRlTz
namespace Go.Proofs.YtcdopnkabbfooaaGreat
open Go.RowKit

set_option maxRecDepth 20000 in
set_option maxHeartbeats 8000000 in
theorem walk_RebuildMixed (w : World) (a0 : Option Addr) (len cap : Nat) (D : List Int) (h : RowK .i64 w a0 (4 * len) D) (_ : len ≤ cap) (_ : cap ≤ maxLen) (_ : a0 = none → cap = 0) (a1' : Option Addr) (len1 cap1 : Nat) (D1 : List Int) (h1 : RowK .i64 w a1' (4 * len1) D1) (_ : len1 ≤ cap1) (_ : cap1 ≤ maxLen) (_ : a1' = none → cap1 = 0) (a2' : Option Addr) (len2 cap2 : Nat) (f2 : Nat → Bool) (h2 : RowB w a2' len2 f2) :
    Calls Tryz.prog 8 #[.slice a0 len cap, .slice a1' len1 cap1, .slice a2' len2 cap2] w fun r w' => r = .returned (.bool true) ∧ Below w.heap.size w w' := by
  obtain ⟨i3, hi3, hz30, hz31, hz32⟩ := info_of Tryz.infoRecT
  have HSv := kserved_any 3 a0 len cap 20 D w h (by decide) (by omega)
  have HS2 : Hid (∀ u, Below w.heap.size w u → Calls Tryz.prog 19 #[.int .i64 7, .slice a1' len1 cap1, .int .i64 20] u fun x w' => ∃ E es s ans y, x = .returned (.tuple #[y, .bool true]) ∧ Hist es s ans ∧ es.length ≤ 20 ∧ (∀ v ∈ es, ¬ v.k = 4) ∧ 1 ≤ E ∧ E ≤ 1000 ∧ BOut u w' (Bt.act E es) y ∧ Below u.heap.size u w') := veil fun u b => kserved_any 7 a1' len1 cap1 20 D1 u (h1.below b) (by decide) (by omega)
  have HBo : Hid (∀ u, Below w.heap.size w u → RowB u a2' len2 f2) := veil fun u b => h2.below b
  clear h h1 h2
  go_enter Tryz.func8, Tryz.ntmps8
  go_upto_region 2 with (go_at_call 19; refine HSv.mono ?_; rintro x V1 ⟨E, es, s, ans, y, rfl, hist, hl1, nb, hE1, hF1, ⟨⟨a1, c1, rfl, i1, u1⟩⟩, b1⟩; clear HSv)
  obtain ⟨W1, hW1, K1, _⟩ := Kb.new i1 (Below.refl _ _) b1
  rw [← hW1]
  obtain ⟨Ra, hR⟩ : ∃ R, R = V1.heap.size := ⟨_, rfl⟩
  rw [← hR] at K1 ⊢
  clear hW1 hR i1 u1 b1 nb
  have HOk1 := veil (hist.tells.act_ok (by omega) hE1 (by omega))
  clear hist
  have HSv := unveil HS2 W1 K1.bel
  have HK1a := veil K1
  clear HS2 K1
  go_upto_region 3 with (go_at_call 19; refine HSv.mono ?_; rintro x V2 ⟨F, fs, s, ans, y, rfl, hist, hl2, nb, hE2, hF2, ⟨⟨a2, c2, rfl, i1, u1⟩⟩, b1⟩; clear HSv)
  obtain ⟨W, hW2, K2, bn⟩ := Kb.new i1 (unveil HK1a).bel b1
  rw [← hW2]
  obtain ⟨Rb, hR⟩ : ∃ R, R = V2.heap.size := ⟨_, rfl⟩
  rw [← hR] at K2 ⊢
  have HK1 := veil ((unveil HK1a).next (Below.next b1 bn))
  have HK2 := veil K2
  clear hW2 hR i1 u1 b1 nb bn HK1a K2
  have HOk2 := veil (hist.tells.act_ok (by omega) hE2 (by omega))
  clear hist
  have HRc := records_any 0 (Bt.act E es) a1 c1 W (unveil HK1).i (unveil HOk1).len (fun u hu => by
    simp only [List.mem_cons, List.not_mem_nil, or_false] at hu
    rcases hu with g | g | g <;> rw [g]
    · decide
    · exact lit_wfR (show (0 : Int) ≤ E by omega) (show E ≤ 4294967296 by omega)
    · exact lit_wfR (show (0 : Int) ≤ 0 by omega) (show (0 : Int) ≤ 4294967296 by omega))
  obtain ⟨xb0, xb1, xb2, xb3, xb4, xb5⟩ := (unveil HK1).b.cells
  have htl : (tapeOf 0 (Bt.act E es)).length = es.length + 1 := by rw [tapeOf_len]; show 1 + es.length + (if (1 : Int) = 3 then 1 else 0) = _; rw [if_neg (by decide)]; omega
  go_upto_region 4 with (go_at_call 23; refine HRc.mono ?_; rintro x U ⟨v2, rfl, own2, b2⟩; clear HRc xb0 xb1 xb2 xb3 xb4 xb5)
  have hwf := tape_wf (q := 0) (B := Bt.act E es) (by omega) ⟨show (0 : Int) ≤ E by omega, show E ≤ 1048576 by omega⟩ ⟨show (0 : Int) ≤ 0 by omega, show (0 : Int) ≤ 4 by omega⟩ ((unveil HK1).i.row.wf)
  obtain ⟨g1, k1, rfl, row2, hc2, hm2, _, _⟩ := RowK.ofMany own2 hwf
  have HRun1 : Hid (Runs Bt.zero (tapeOf 0 (Bt.act E es)) (Bt.act E es)) := veil (runs_recs (by omega) (unveil HOk1) (.inl rfl))
  have HQ1 : Hid (∀ r ∈ tapeOf 0 (Bt.act E es), r.q = 0) := veil tapeOf_q
  obtain ⟨P, hP⟩ : ∃ P, P = tapeOf 0 (Bt.act E es) := ⟨_, rfl⟩
  rw [← hP] at htl hwf row2 HRun1 HQ1 ⊢
  have HWf1 := veil hwf
  have HRow1 := veil row2
  have hlP : P.length ≤ 21 := by omega
  have hpP : 0 < P.length := by omega
  obtain ⟨G1, o1, rfl⟩ := row2.form (by omega)
  have HK1b := veil ((unveil HK1).next b2)
  have HK2b := veil ((unveil HK2).next b2)
  clear hP own2 row2 hwf htl HK1 HK2 b2 hc2 hm2
  have HK1 := HK1b
  have HK2 := HK2b
  clear HK1b HK2b
  obtain ⟨W', hW'⟩ : ∃ X, X = U := ⟨_, rfl⟩
  subst hW'
  have HRc := records_any 3 (Bt.act F fs) a2 c2 W' (unveil HK2).i (unveil HOk2).len (fun u hu => by
    simp only [List.mem_cons, List.not_mem_nil, or_false] at hu
    rcases hu with g | g | g <;> rw [g]
    · decide
    · exact lit_wfR (show (0 : Int) ≤ F by omega) (show F ≤ 4294967296 by omega)
    · exact lit_wfR (show (0 : Int) ≤ 0 by omega) (show (0 : Int) ≤ 4294967296 by omega))
  obtain ⟨xb0, xb1, xb2, xb3, xb4, xb5⟩ := (unveil HK2).b.cells
  have htl : (tapeOf 3 (Bt.act F fs)).length = fs.length + 1 := by rw [tapeOf_len]; show 1 + fs.length + (if (1 : Int) = 3 then 1 else 0) = _; rw [if_neg (by decide)]; omega
  go_upto_region 5 with (go_at_call 23; refine HRc.mono ?_; rintro x U ⟨v2, rfl, own2, b2⟩; clear HRc xb0 xb1 xb2 xb3 xb4 xb5)
  have hwf := tape_wf (q := 3) (B := Bt.act F fs) (by omega) ⟨show (0 : Int) ≤ F by omega, show F ≤ 1048576 by omega⟩ ⟨show (0 : Int) ≤ 0 by omega, show (0 : Int) ≤ 4 by omega⟩ ((unveil HK2).i.row.wf)
  obtain ⟨g2, k2, rfl, row2, hc2, hm2, _, _⟩ := RowK.ofMany own2 hwf
  have HRun2 : Hid (Runs Bt.zero (tapeOf 3 (Bt.act F fs)) (Bt.act F fs)) := veil (runs_recs (by omega) (unveil HOk2) (.inl rfl))
  have HQ2 : Hid (∀ r ∈ tapeOf 3 (Bt.act F fs), r.q = 3) := veil tapeOf_q
  obtain ⟨Q, hQ⟩ : ∃ Q, Q = tapeOf 3 (Bt.act F fs) := ⟨_, rfl⟩
  rw [← hQ] at htl hwf row2 HRun2 HQ2 ⊢
  have HWf2 := veil hwf
  have HRow2 := veil row2
  have hlQ : Q.length ≤ 21 := by omega
  have hpQ : 0 < Q.length := by omega
  obtain ⟨G2, o2, rfl⟩ := row2.form (by omega)
  have HK1b := veil ((unveil HK1).next b2)
  have HK2b := veil ((unveil HK2).next b2)
  have HRow1b := veil ((unveil HRow1).below b2)
  clear HRow1
  have HRow1 := HRow1b
  clear HRow1b
  clear hQ own2 row2 hwf htl HK1 HK2 b2 hc2 hm2
  have HK1 := HK1b
  have HK2 := HK2b
  clear HK1b HK2b
  obtain ⟨V, hV⟩ : ∃ X, X = U := ⟨_, rfl⟩
  subst hV
  have HB := veil (unveil HK1).bel
  have HP : Hid (∀ u, Below V.heap.size V u → RowK .i64 u (some ⟨G1, o1, none⟩) (10 * P.length) (recFlat P)) := veil fun u b => (unveil HRow1).below b
  have HQ : Hid (∀ u, Below V.heap.size V u → RowK .i64 u (some ⟨G2, o2, none⟩) (10 * Q.length) (recFlat Q)) := veil fun u b => (unveil HRow2).below b
  have hG1 : G1 < V.heap.size := (unveil HRow1).lt (by omega)
  have hG2 : G2 < V.heap.size := (unveil HRow2).lt (by omega)
  have HBo2 : Hid (∀ u, Below V.heap.size V u → RowB u a2' len2 f2) := veil fun u b => unveil HBo u (Below.next (unveil HB) b)
  clear HRow1 HRow2 HBo
  go_wp2_with fail
  go_loopw [13, 14, 15] (fun v ti tj wr => ∃ i j m : Nat, ∃ R, i ≤ P.length ∧ j ≤ Q.length ∧ ti = .int .i64 i ∧ tj = .int .i64 j ∧ (∃ aN cN, v = .slice aN m cN) ∧ Hid (m = i + j ∧ Mix P Q i j R) ∧ Hid (wr.ownsRow V.heap.size 30 10 v m ((recFlat R).map (Value.int .i64))) ∧ Below V.heap.size V wr) (fun _ ti tj _ => P.length + Q.length - (intOf ti).toNat - (intOf tj).toNat)
  case atStart => exact ⟨0, 0, 0, [], Nat.zero_le _, Nat.zero_le _, rfl, rfl, ⟨none, 0, rfl⟩, veil ⟨rfl, Mix.nil _ _⟩, veil (World.ownsRow_nil _ _ _ _), Below.refl _ _⟩
  case round =>
    obtain ⟨i, j, m, R, hi, hj, rfl, rfl, ⟨aN, cN, rfl⟩, HM, HO, bel⟩ := hrel
    have hm42 : m ≤ 42 := by have := (unveil HM).1; omega
    have hsV : V.heap.size ≤ wr.heap.size := bel.size
    by_cases hi' : i < P.length
    case pos =>
      have hii : (i : Int) < (P.length : Int) := by omega
      by_cases hj' : j < Q.length
      case neg =>
        have hje : ((j : Int) == (Q.length : Int)) = true := by simp; omega
        have rk := unveil HP wr bel
        obtain ⟨r, hr⟩ : ∃ r, r = P[i] := ⟨_, rfl⟩
        have hx := row_rec rk i hi'
        rw [← hr] at hx
        obtain ⟨z0, z1, z2, z3, z4, z5, z6, z7, z8, z9⟩ := hx
        have HM2 : Hid (m + 1 = i + 1 + j ∧ Mix P Q (i + 1) (j) (R ++ [r])) := veil ⟨by have := (unveil HM).1; omega, by rw [hr]; exact (unveil HM).2.left (unveil HQ1) (unveil HWf1) hi'⟩
        have hrw : ∀ u ∈ recTen r, (Lit.int .i64 u).wf = true := fun u hu => unveil HWf1 u (rec_mem (by rw [hr]; exact List.getElem_mem hi') hu)
        have HT : Hid (RowK .i64 (wr.alloc (.cells #[.int .i64 r.k, .int .i64 r.q, .int .i64 r.e, .int .i64 r.p, .int .i64 r.v.k, .int .i64 r.v.p, .int .i64 r.v.i, .int .i64 r.v.b, .int .i64 r.v.he, .int .i64 r.v.hn] 30)) (some ⟨wr.heap.size, 0, none⟩) (10 * 1) (recTen r)) := veil (row_ten wr r hrw)
        have b5 : Below wr.heap.size wr (wr.alloc (.cells #[.int .i64 r.k, .int .i64 r.q, .int .i64 r.e, .int .i64 r.p, .int .i64 r.v.k, .int .i64 r.v.p, .int .i64 r.v.i, .int .i64 r.v.b, .int .i64 r.v.he, .int .i64 r.v.hn] 30)) := below1 _ _
        have HO5 : Hid ((wr.alloc (.cells #[.int .i64 r.k, .int .i64 r.q, .int .i64 r.e, .int .i64 r.p, .int .i64 r.v.k, .int .i64 r.v.p, .int .i64 r.v.i, .int .i64 r.v.b, .int .i64 r.v.he, .int .i64 r.v.hn] 30)).ownsRow V.heap.size 30 10 (.slice aN m cN) m ((recFlat R).map (Value.int .i64))) := veil (own_still (unveil HO) (fun g _ hg => b5.block g hg))
        have HG : Hid (∀ v' w4, w4.ownsRow V.heap.size 30 10 v' (m + 1) ((recFlat R ++ recTen r).map (Value.int .i64)) → (wr.alloc (.cells #[.int .i64 r.k, .int .i64 r.q, .int .i64 r.e, .int .i64 r.p, .int .i64 r.v.k, .int .i64 r.v.p, .int .i64 r.v.i, .int .i64 r.v.b, .int .i64 r.v.he, .int .i64 r.v.hn] 30)).grownBy w4 (Value.slice aN m cN).ownBlock → (∃ aM cM, v' = .slice aM (m + 1) cM) ∧ w4.ownsRow V.heap.size 30 10 v' (m + 1) ((recFlat (R ++ [r])).map (Value.int .i64)) ∧ Below V.heap.size V w4) := veil fun v' w4 o g => ⟨own_form o, by rw [recFlat_snoc]; exact o, (Below.next bel b5).grown g (Below.next bel b5).size (fun q hq => ((unveil HO).lt q hq).1)⟩
        have hbn : G1 ≠ wr.heap.size := by omega
        clear rk hr hrw b5 HO HM HB HK1 HK2 HP HQ HBo2 HRun1 HRun2 HQ1 HQ2 HWf1 HWf2 HOk1 HOk2 bel
        go_wp2_with (at_builtin; refine wpList_append_rows rfl _ _ 37 rfl V.heap.size 30 i3 _ 10 80 Tryz.underlying37 hi3 hz30 hz31 hz32 rfl (by decide) (.slice aN m cN) m (recFlat R) rfl (unveil HO5) (some ⟨wr.heap.size, 0, none⟩) 1 1 (recTen r) rfl (unveil HT) (fun h => by cases h) (by unfold maxLen; omega) (by omega) (by simp; omega) ?_; intro v' w4 o4 g4; obtain ⟨⟨aM, cM, rfl⟩, o5, b6⟩ := unveil HG v' w4 o4 g4; have HO6 := veil o5; have HB6 := veil b6; clear o4 g4 o5 b6 HG HO5 HT)
        all_goals (go_roundw <;> first | exact ⟨i + 1, j, m + 1, R ++ [r], by omega, by omega, by go_num, by go_num, ⟨aM, cM, rfl⟩, HM2, HO6, unveil HB6⟩ | (simp [intOf]; omega))
      case pos =>
        have hje : ((j : Int) == (Q.length : Int)) = false := by simp; omega
        have hji : (j : Int) < (Q.length : Int) := by omega
        have hmi : (i : Int) + (j : Int) = (m : Int) := by have := (unveil HM).1; omega
        by_cases hb : m < len2
        case neg =>
          have hbi : ¬ (m : Int) < (len2 : Int) := by omega
          have rk := unveil HQ wr bel
          obtain ⟨r, hr⟩ : ∃ r, r = Q[j] := ⟨_, rfl⟩
          have hx := row_rec rk j hj'
          rw [← hr] at hx
          obtain ⟨z0, z1, z2, z3, z4, z5, z6, z7, z8, z9⟩ := hx
          have HM2 : Hid (m + 1 = i + (j + 1) ∧ Mix P Q (i) (j + 1) (R ++ [r])) := veil ⟨by have := (unveil HM).1; omega, by rw [hr]; exact (unveil HM).2.right (unveil HQ2) (unveil HWf2) hj'⟩
          have hrw : ∀ u ∈ recTen r, (Lit.int .i64 u).wf = true := fun u hu => unveil HWf2 u (rec_mem (by rw [hr]; exact List.getElem_mem hj') hu)
          have HT : Hid (RowK .i64 (wr.alloc (.cells #[.int .i64 r.k, .int .i64 r.q, .int .i64 r.e, .int .i64 r.p, .int .i64 r.v.k, .int .i64 r.v.p, .int .i64 r.v.i, .int .i64 r.v.b, .int .i64 r.v.he, .int .i64 r.v.hn] 30)) (some ⟨wr.heap.size, 0, none⟩) (10 * 1) (recTen r)) := veil (row_ten wr r hrw)
          have b5 : Below wr.heap.size wr (wr.alloc (.cells #[.int .i64 r.k, .int .i64 r.q, .int .i64 r.e, .int .i64 r.p, .int .i64 r.v.k, .int .i64 r.v.p, .int .i64 r.v.i, .int .i64 r.v.b, .int .i64 r.v.he, .int .i64 r.v.hn] 30)) := below1 _ _
          have HO5 : Hid ((wr.alloc (.cells #[.int .i64 r.k, .int .i64 r.q, .int .i64 r.e, .int .i64 r.p, .int .i64 r.v.k, .int .i64 r.v.p, .int .i64 r.v.i, .int .i64 r.v.b, .int .i64 r.v.he, .int .i64 r.v.hn] 30)).ownsRow V.heap.size 30 10 (.slice aN m cN) m ((recFlat R).map (Value.int .i64))) := veil (own_still (unveil HO) (fun g _ hg => b5.block g hg))
          have HG : Hid (∀ v' w4, w4.ownsRow V.heap.size 30 10 v' (m + 1) ((recFlat R ++ recTen r).map (Value.int .i64)) → (wr.alloc (.cells #[.int .i64 r.k, .int .i64 r.q, .int .i64 r.e, .int .i64 r.p, .int .i64 r.v.k, .int .i64 r.v.p, .int .i64 r.v.i, .int .i64 r.v.b, .int .i64 r.v.he, .int .i64 r.v.hn] 30)).grownBy w4 (Value.slice aN m cN).ownBlock → (∃ aM cM, v' = .slice aM (m + 1) cM) ∧ w4.ownsRow V.heap.size 30 10 v' (m + 1) ((recFlat (R ++ [r])).map (Value.int .i64)) ∧ Below V.heap.size V w4) := veil fun v' w4 o g => ⟨own_form o, by rw [recFlat_snoc]; exact o, (Below.next bel b5).grown g (Below.next bel b5).size (fun q hq => ((unveil HO).lt q hq).1)⟩
          have hbn : G2 ≠ wr.heap.size := by omega
          clear rk hr hrw b5 HO HM HB HK1 HK2 HP HQ HBo2 HRun1 HRun2 HQ1 HQ2 HWf1 HWf2 HOk1 HOk2 bel
          go_wp2_with (at_builtin; refine wpList_append_rows rfl _ _ 37 rfl V.heap.size 30 i3 _ 10 80 Tryz.underlying37 hi3 hz30 hz31 hz32 rfl (by decide) (.slice aN m cN) m (recFlat R) rfl (unveil HO5) (some ⟨wr.heap.size, 0, none⟩) 1 1 (recTen r) rfl (unveil HT) (fun h => by cases h) (by unfold maxLen; omega) (by omega) (by simp; omega) ?_; intro v' w4 o4 g4; obtain ⟨⟨aM, cM, rfl⟩, o5, b6⟩ := unveil HG v' w4 o4 g4; have HO6 := veil o5; have HB6 := veil b6; clear o4 g4 o5 b6 HG HO5 HT)
          all_goals (go_roundw <;> first | exact ⟨i, j + 1, m + 1, R ++ [r], by omega, by omega, by go_num, by go_num, ⟨aM, cM, rfl⟩, HM2, HO6, unveil HB6⟩ | (simp [intOf]; omega))
        case pos =>
          have hbi : (m : Int) < (len2 : Int) := by omega
          obtain ⟨bb, boff, rfl, hbb, xb⟩ := (unveil HBo2 wr bel).cell m hb
          have hbbn : bb ≠ wr.heap.size := by omega
          generalize f2 m = fm at xb
          cases fm with
          | true =>
            have rk := unveil HP wr bel
            obtain ⟨r, hr⟩ : ∃ r, r = P[i] := ⟨_, rfl⟩
            have hx := row_rec rk i hi'
            rw [← hr] at hx
            obtain ⟨z0, z1, z2, z3, z4, z5, z6, z7, z8, z9⟩ := hx
            have HM2 : Hid (m + 1 = i + 1 + j ∧ Mix P Q (i + 1) (j) (R ++ [r])) := veil ⟨by have := (unveil HM).1; omega, by rw [hr]; exact (unveil HM).2.left (unveil HQ1) (unveil HWf1) hi'⟩
            have hrw : ∀ u ∈ recTen r, (Lit.int .i64 u).wf = true := fun u hu => unveil HWf1 u (rec_mem (by rw [hr]; exact List.getElem_mem hi') hu)
            have HT : Hid (RowK .i64 (wr.alloc (.cells #[.int .i64 r.k, .int .i64 r.q, .int .i64 r.e, .int .i64 r.p, .int .i64 r.v.k, .int .i64 r.v.p, .int .i64 r.v.i, .int .i64 r.v.b, .int .i64 r.v.he, .int .i64 r.v.hn] 30)) (some ⟨wr.heap.size, 0, none⟩) (10 * 1) (recTen r)) := veil (row_ten wr r hrw)
            have b5 : Below wr.heap.size wr (wr.alloc (.cells #[.int .i64 r.k, .int .i64 r.q, .int .i64 r.e, .int .i64 r.p, .int .i64 r.v.k, .int .i64 r.v.p, .int .i64 r.v.i, .int .i64 r.v.b, .int .i64 r.v.he, .int .i64 r.v.hn] 30)) := below1 _ _
            have HO5 : Hid ((wr.alloc (.cells #[.int .i64 r.k, .int .i64 r.q, .int .i64 r.e, .int .i64 r.p, .int .i64 r.v.k, .int .i64 r.v.p, .int .i64 r.v.i, .int .i64 r.v.b, .int .i64 r.v.he, .int .i64 r.v.hn] 30)).ownsRow V.heap.size 30 10 (.slice aN m cN) m ((recFlat R).map (Value.int .i64))) := veil (own_still (unveil HO) (fun g _ hg => b5.block g hg))
            have HG : Hid (∀ v' w4, w4.ownsRow V.heap.size 30 10 v' (m + 1) ((recFlat R ++ recTen r).map (Value.int .i64)) → (wr.alloc (.cells #[.int .i64 r.k, .int .i64 r.q, .int .i64 r.e, .int .i64 r.p, .int .i64 r.v.k, .int .i64 r.v.p, .int .i64 r.v.i, .int .i64 r.v.b, .int .i64 r.v.he, .int .i64 r.v.hn] 30)).grownBy w4 (Value.slice aN m cN).ownBlock → (∃ aM cM, v' = .slice aM (m + 1) cM) ∧ w4.ownsRow V.heap.size 30 10 v' (m + 1) ((recFlat (R ++ [r])).map (Value.int .i64)) ∧ Below V.heap.size V w4) := veil fun v' w4 o g => ⟨own_form o, by rw [recFlat_snoc]; exact o, (Below.next bel b5).grown g (Below.next bel b5).size (fun q hq => ((unveil HO).lt q hq).1)⟩
            have hbn : G1 ≠ wr.heap.size := by omega
            clear rk hr hrw b5 HO HM HB HK1 HK2 HP HQ HBo2 HRun1 HRun2 HQ1 HQ2 HWf1 HWf2 HOk1 HOk2 bel
            go_wp2_with (at_builtin; refine wpList_append_rows rfl _ _ 37 rfl V.heap.size 30 i3 _ 10 80 Tryz.underlying37 hi3 hz30 hz31 hz32 rfl (by decide) (.slice aN m cN) m (recFlat R) rfl (unveil HO5) (some ⟨wr.heap.size, 0, none⟩) 1 1 (recTen r) rfl (unveil HT) (fun h => by cases h) (by unfold maxLen; omega) (by omega) (by simp; omega) ?_; intro v' w4 o4 g4; obtain ⟨⟨aM, cM, rfl⟩, o5, b6⟩ := unveil HG v' w4 o4 g4; have HO6 := veil o5; have HB6 := veil b6; clear o4 g4 o5 b6 HG HO5 HT)
            all_goals (go_roundw <;> first | exact ⟨i + 1, j, m + 1, R ++ [r], by omega, by omega, by go_num, by go_num, ⟨aM, cM, rfl⟩, HM2, HO6, unveil HB6⟩ | (simp [intOf]; omega))
          | false =>
            have rk := unveil HQ wr bel
            obtain ⟨r, hr⟩ : ∃ r, r = Q[j] := ⟨_, rfl⟩
            have hx := row_rec rk j hj'
            rw [← hr] at hx
            obtain ⟨z0, z1, z2, z3, z4, z5, z6, z7, z8, z9⟩ := hx
            have HM2 : Hid (m + 1 = i + (j + 1) ∧ Mix P Q (i) (j + 1) (R ++ [r])) := veil ⟨by have := (unveil HM).1; omega, by rw [hr]; exact (unveil HM).2.right (unveil HQ2) (unveil HWf2) hj'⟩
            have hrw : ∀ u ∈ recTen r, (Lit.int .i64 u).wf = true := fun u hu => unveil HWf2 u (rec_mem (by rw [hr]; exact List.getElem_mem hj') hu)
            have HT : Hid (RowK .i64 (wr.alloc (.cells #[.int .i64 r.k, .int .i64 r.q, .int .i64 r.e, .int .i64 r.p, .int .i64 r.v.k, .int .i64 r.v.p, .int .i64 r.v.i, .int .i64 r.v.b, .int .i64 r.v.he, .int .i64 r.v.hn] 30)) (some ⟨wr.heap.size, 0, none⟩) (10 * 1) (recTen r)) := veil (row_ten wr r hrw)
            have b5 : Below wr.heap.size wr (wr.alloc (.cells #[.int .i64 r.k, .int .i64 r.q, .int .i64 r.e, .int .i64 r.p, .int .i64 r.v.k, .int .i64 r.v.p, .int .i64 r.v.i, .int .i64 r.v.b, .int .i64 r.v.he, .int .i64 r.v.hn] 30)) := below1 _ _
            have HO5 : Hid ((wr.alloc (.cells #[.int .i64 r.k, .int .i64 r.q, .int .i64 r.e, .int .i64 r.p, .int .i64 r.v.k, .int .i64 r.v.p, .int .i64 r.v.i, .int .i64 r.v.b, .int .i64 r.v.he, .int .i64 r.v.hn] 30)).ownsRow V.heap.size 30 10 (.slice aN m cN) m ((recFlat R).map (Value.int .i64))) := veil (own_still (unveil HO) (fun g _ hg => b5.block g hg))
            have HG : Hid (∀ v' w4, w4.ownsRow V.heap.size 30 10 v' (m + 1) ((recFlat R ++ recTen r).map (Value.int .i64)) → (wr.alloc (.cells #[.int .i64 r.k, .int .i64 r.q, .int .i64 r.e, .int .i64 r.p, .int .i64 r.v.k, .int .i64 r.v.p, .int .i64 r.v.i, .int .i64 r.v.b, .int .i64 r.v.he, .int .i64 r.v.hn] 30)).grownBy w4 (Value.slice aN m cN).ownBlock → (∃ aM cM, v' = .slice aM (m + 1) cM) ∧ w4.ownsRow V.heap.size 30 10 v' (m + 1) ((recFlat (R ++ [r])).map (Value.int .i64)) ∧ Below V.heap.size V w4) := veil fun v' w4 o g => ⟨own_form o, by rw [recFlat_snoc]; exact o, (Below.next bel b5).grown g (Below.next bel b5).size (fun q hq => ((unveil HO).lt q hq).1)⟩
            have hbn : G2 ≠ wr.heap.size := by omega
            clear rk hr hrw b5 HO HM HB HK1 HK2 HP HQ HBo2 HRun1 HRun2 HQ1 HQ2 HWf1 HWf2 HOk1 HOk2 bel
            go_wp2_with (at_builtin; refine wpList_append_rows rfl _ _ 37 rfl V.heap.size 30 i3 _ 10 80 Tryz.underlying37 hi3 hz30 hz31 hz32 rfl (by decide) (.slice aN m cN) m (recFlat R) rfl (unveil HO5) (some ⟨wr.heap.size, 0, none⟩) 1 1 (recTen r) rfl (unveil HT) (fun h => by cases h) (by unfold maxLen; omega) (by omega) (by simp; omega) ?_; intro v' w4 o4 g4; obtain ⟨⟨aM, cM, rfl⟩, o5, b6⟩ := unveil HG v' w4 o4 g4; have HO6 := veil o5; have HB6 := veil b6; clear o4 g4 o5 b6 HG HO5 HT)
            all_goals (go_roundw <;> first | exact ⟨i, j + 1, m + 1, R ++ [r], by omega, by omega, by go_num, by go_num, ⟨aM, cM, rfl⟩, HM2, HO6, unveil HB6⟩ | (simp [intOf]; omega))
    case neg =>
      have hii : ¬ (i : Int) < (P.length : Int) := by omega
      by_cases hj' : j < Q.length
      case pos =>
        have hje : ((j : Int) == (Q.length : Int)) = false := by simp; omega
        have hji : (j : Int) < (Q.length : Int) := by omega
        have rk := unveil HQ wr bel
        obtain ⟨r, hr⟩ : ∃ r, r = Q[j] := ⟨_, rfl⟩
        have hx := row_rec rk j hj'
        rw [← hr] at hx
        obtain ⟨z0, z1, z2, z3, z4, z5, z6, z7, z8, z9⟩ := hx
        have HM2 : Hid (m + 1 = i + (j + 1) ∧ Mix P Q (i) (j + 1) (R ++ [r])) := veil ⟨by have := (unveil HM).1; omega, by rw [hr]; exact (unveil HM).2.right (unveil HQ2) (unveil HWf2) hj'⟩
        have hrw : ∀ u ∈ recTen r, (Lit.int .i64 u).wf = true := fun u hu => unveil HWf2 u (rec_mem (by rw [hr]; exact List.getElem_mem hj') hu)
        have HT : Hid (RowK .i64 (wr.alloc (.cells #[.int .i64 r.k, .int .i64 r.q, .int .i64 r.e, .int .i64 r.p, .int .i64 r.v.k, .int .i64 r.v.p, .int .i64 r.v.i, .int .i64 r.v.b, .int .i64 r.v.he, .int .i64 r.v.hn] 30)) (some ⟨wr.heap.size, 0, none⟩) (10 * 1) (recTen r)) := veil (row_ten wr r hrw)
        have b5 : Below wr.heap.size wr (wr.alloc (.cells #[.int .i64 r.k, .int .i64 r.q, .int .i64 r.e, .int .i64 r.p, .int .i64 r.v.k, .int .i64 r.v.p, .int .i64 r.v.i, .int .i64 r.v.b, .int .i64 r.v.he, .int .i64 r.v.hn] 30)) := below1 _ _
        have HO5 : Hid ((wr.alloc (.cells #[.int .i64 r.k, .int .i64 r.q, .int .i64 r.e, .int .i64 r.p, .int .i64 r.v.k, .int .i64 r.v.p, .int .i64 r.v.i, .int .i64 r.v.b, .int .i64 r.v.he, .int .i64 r.v.hn] 30)).ownsRow V.heap.size 30 10 (.slice aN m cN) m ((recFlat R).map (Value.int .i64))) := veil (own_still (unveil HO) (fun g _ hg => b5.block g hg))
        have HG : Hid (∀ v' w4, w4.ownsRow V.heap.size 30 10 v' (m + 1) ((recFlat R ++ recTen r).map (Value.int .i64)) → (wr.alloc (.cells #[.int .i64 r.k, .int .i64 r.q, .int .i64 r.e, .int .i64 r.p, .int .i64 r.v.k, .int .i64 r.v.p, .int .i64 r.v.i, .int .i64 r.v.b, .int .i64 r.v.he, .int .i64 r.v.hn] 30)).grownBy w4 (Value.slice aN m cN).ownBlock → (∃ aM cM, v' = .slice aM (m + 1) cM) ∧ w4.ownsRow V.heap.size 30 10 v' (m + 1) ((recFlat (R ++ [r])).map (Value.int .i64)) ∧ Below V.heap.size V w4) := veil fun v' w4 o g => ⟨own_form o, by rw [recFlat_snoc]; exact o, (Below.next bel b5).grown g (Below.next bel b5).size (fun q hq => ((unveil HO).lt q hq).1)⟩
        have hbn : G2 ≠ wr.heap.size := by omega
        clear rk hr hrw b5 HO HM HB HK1 HK2 HP HQ HBo2 HRun1 HRun2 HQ1 HQ2 HWf1 HWf2 HOk1 HOk2 bel
        go_wp2_with (at_builtin; refine wpList_append_rows rfl _ _ 37 rfl V.heap.size 30 i3 _ 10 80 Tryz.underlying37 hi3 hz30 hz31 hz32 rfl (by decide) (.slice aN m cN) m (recFlat R) rfl (unveil HO5) (some ⟨wr.heap.size, 0, none⟩) 1 1 (recTen r) rfl (unveil HT) (fun h => by cases h) (by unfold maxLen; omega) (by omega) (by simp; omega) ?_; intro v' w4 o4 g4; obtain ⟨⟨aM, cM, rfl⟩, o5, b6⟩ := unveil HG v' w4 o4 g4; have HO6 := veil o5; have HB6 := veil b6; clear o4 g4 o5 b6 HG HO5 HT)
        all_goals (go_roundw <;> first | exact ⟨i, j + 1, m + 1, R ++ [r], by omega, by omega, by go_num, by go_num, ⟨aM, cM, rfl⟩, HM2, HO6, unveil HB6⟩ | (simp [intOf]; omega))
      case neg =>
        have hji : ¬ (j : Int) < (Q.length : Int) := by omega
        have HMx : Hid (R.length = m ∧ Mix P Q P.length Q.length R) := veil (by
          have h1 := unveil HM
          have e1 : i = P.length := by omega
          have e2 : j = Q.length := by omega
          exact ⟨by rw [h1.2.l, h1.1], by rw [← e1, ← e2]; exact h1.2⟩)
        have hm0 : 0 < m := by have := (unveil HM).1; omega
        have HA : ∃ G c, (Value.slice aN m cN) = .slice (some ⟨G, 0, none⟩) m c ∧ Calls Tryz.prog 15 #[.slice aN m cN] wr fun x w' => ∃ Y f A K, x = .returned (.tuple #[.slice (some ⟨Y, 0, none⟩) 4 4, .int .i64 0, .int .i64 0]) ∧ Fb w' Y f A K ∧ f 0 = Bt.act E es ∧ f 3 = Bt.act F fs ∧ Below wr.heap.size wr w' := by
          obtain ⟨e, mx⟩ := unveil HMx
          have o := unveil HO
          rw [← e] at o hm0 ⊢
          obtain ⟨G, c, e2, row, hc, _⟩ := rec_own o hm0 mx.wf
          cases e2
          exact ⟨G, _, rfl, mix_all mx (unveil HRun1) (unveil HRun2) (by omega) _ _ wr row hc⟩
        obtain ⟨G, cc, e2, HA⟩ := HA
        cases e2
        have HK1 := veil ((unveil HK1).next bel)
        have HK2 := veil ((unveil HK2).next bel)
        have HB := veil (Below.next (unveil HB) bel)
        clear HM HMx HO HP HQ HBo2 HRun1 HRun2 HQ1 HQ2 HWf1 HWf2 bel
        go_upto_region 15 with (go_at_call 15; refine HA.mono ?_; rintro x U ⟨Y, f, A, K, rfl, fb, hf0, hf3, b3⟩; clear HA)
        have HK1 := veil ((unveil HK1).next b3)
        have HK2 := veil ((unveil HK2).next b3)
        have HB := veil (Below.next (unveil HB) b3)
        have HS1 : Hid (∀ u, Below U.heap.size U u → Calls Tryz.prog 24 #[bVal 1 E 0 0 0 (A 0) es.length (K 0), bVal 1 E 0 0 0 a1 es.length c1] u fun x w' => x = .returned (.bool true) ∧ Below u.heap.size u w') := veil fun u b => by
          have h1 := ((fb.next b).bin 0 (by omega)).row
          rw [hf0] at h1
          exact sameBerthK_yes 1 E 0 0 0 (A 0) a1 es.length (K 0) c1 (evFlat es) u h1 ((unveil HK1).next b).i.row (by omega)
        have HS3 : Hid (∀ u, Below U.heap.size U u → Calls Tryz.prog 24 #[bVal 1 F 0 0 0 (A 3) fs.length (K 3), bVal 1 F 0 0 0 a2 fs.length c2] u fun x w' => x = .returned (.bool true) ∧ Below u.heap.size u w') := veil fun u b => by
          have h1 := ((fb.next b).bin 3 (by omega)).row
          rw [hf3] at h1
          exact sameBerthK_yes 1 F 0 0 0 (A 3) a2 fs.length (K 3) c2 (evFlat fs) u h1 ((unveil HK2).next b).i.row (by omega)
        have HC0 : Hid (∀ u, Below U.heap.size U u → u.cell? ⟨Y, 0, none⟩ = some (.int .i64 1) ∧ u.cell? ⟨Y, 1, none⟩ = some (.int .i64 E) ∧ u.cell? ⟨Y, 2, none⟩ = some (.int .i64 0) ∧ u.cell? ⟨Y, 3, none⟩ = some (.int .i64 0) ∧ u.cell? ⟨Y, 4, none⟩ = some (.int .i64 0) ∧ u.cell? ⟨Y, 5, none⟩ = some (.slice (A 0) es.length (K 0))) := veil fun u b => by
          have h1 := (fb.next b).b.at 0 (by omega)
          rw [hf0] at h1
          exact h1
        have HC3 : Hid (∀ u, Below U.heap.size U u → u.cell? ⟨Y, 18, none⟩ = some (.int .i64 1) ∧ u.cell? ⟨Y, 19, none⟩ = some (.int .i64 F) ∧ u.cell? ⟨Y, 20, none⟩ = some (.int .i64 0) ∧ u.cell? ⟨Y, 21, none⟩ = some (.int .i64 0) ∧ u.cell? ⟨Y, 22, none⟩ = some (.int .i64 0) ∧ u.cell? ⟨Y, 23, none⟩ = some (.slice (A 3) fs.length (K 3))) := veil fun u b => by
          have h1 := (fb.next b).b.at 3 (by omega)
          rw [hf3] at h1
          exact h1
        clear fb hf0 hf3 b3
        refine wp_region_held_drew (S := Below U.heap.size U) (by kernel_rfl) (below_drew U) (fun hHeld => ?_)
        refine wpAnyH_take (i := 0) (v := .bool true) rfl (by kernel_rfl) (by kernel_rfl) (by kernel_rfl) (fun _ _ _ h => h) (Or.inl ⟨by rfl, fun _ _ => by go_simp⟩) hHeld ?_
        simp only [List.getElem_toArray, List.getElem_cons_zero, Act.put, List.setIfInBounds_toArray, List.set_cons_zero, List.set_cons_succ]
        refine wpAnyH_take (i := 1) (v := .bool true) rfl (by kernel_rfl) (by kernel_rfl) (by kernel_rfl) (fun _ _ _ h => h) (Or.inl ⟨by rfl, fun _ _ => by go_simp⟩) hHeld ?_
        simp only [List.getElem_toArray, List.getElem_cons_zero, List.getElem_cons_succ, Act.put, List.setIfInBounds_toArray, List.set_cons_zero, List.set_cons_succ]
        refine wpAnyH_take (i := 2) (v := .bool true) rfl (by kernel_rfl) (by kernel_rfl) (by kernel_rfl) (fun _ _ _ h => h) (Or.inl ⟨by rfl, fun _ _ => by go_simp⟩) hHeld ?_
        simp only [List.getElem_toArray, List.getElem_cons_zero, List.getElem_cons_succ, Act.put, List.setIfInBounds_toArray, List.set_cons_zero, List.set_cons_succ]
        refine wpAnyH_take (i := 3) (v := .bool true) rfl (by kernel_rfl) (by kernel_rfl) (by kernel_rfl) (fun _ _ _ h => h) (Or.inl ⟨by rfl, fun _ _ => by go_simp⟩) hHeld ?_
        simp only [List.getElem_toArray, List.getElem_cons_zero, List.getElem_cons_succ, Act.put, List.setIfInBounds_toArray, List.set_cons_zero, List.set_cons_succ]
        refine wpAnyH_take (i := 4) (v := .bool true) rfl (by kernel_rfl) (by kernel_rfl) (by kernel_rfl) (fun _ _ _ h => h) (Or.inl ⟨by rfl, fun _ _ => by go_simp⟩) hHeld ?_
        simp only [List.getElem_toArray, List.getElem_cons_zero, List.getElem_cons_succ, Act.put, List.setIfInBounds_toArray, List.set_cons_zero, List.set_cons_succ]
        refine wpAnyH_take (i := 5) (v := .int .i64 0) rfl (by kernel_rfl) (by kernel_rfl) (by kernel_rfl) (fun _ _ _ h => h) (Or.inl ⟨by rfl, fun _ _ => by go_simp⟩) hHeld ?_
        simp only [List.getElem_toArray, List.getElem_cons_zero, List.getElem_cons_succ, Act.put, List.setIfInBounds_toArray, List.set_cons_zero, List.set_cons_succ]
        refine wpAnyH_take (i := 6) (v := .bool true) rfl (by kernel_rfl) (by kernel_rfl) (by kernel_rfl) (fun _ _ _ h => h) (Or.inl ⟨by rfl, fun _ _ => by go_simp⟩) hHeld ?_
        simp only [List.getElem_toArray, List.getElem_cons_zero, List.getElem_cons_succ, Act.put, List.setIfInBounds_toArray, List.set_cons_zero, List.set_cons_succ]
        refine wpAnyH_take (i := 7) (v := .bool true) rfl (by kernel_rfl) (by kernel_rfl) (by kernel_rfl) (fun _ _ _ h => h) (Or.inl ⟨by rfl, fun _ _ => by go_simp⟩) hHeld ?_
        simp only [List.getElem_toArray, List.getElem_cons_zero, List.getElem_cons_succ, Act.put, List.setIfInBounds_toArray, List.set_cons_zero, List.set_cons_succ]
        refine wpAnyH_take (i := 8) (v := .bool true) rfl (by kernel_rfl) (by kernel_rfl) (by kernel_rfl) (fun _ _ _ h => h) (Or.inl ⟨by rfl, fun _ _ => by go_simp⟩) hHeld ?_
        simp only [List.getElem_toArray, List.getElem_cons_zero, List.getElem_cons_succ, Act.put, List.setIfInBounds_toArray, List.set_cons_zero, List.set_cons_succ]
        refine wpAnyH_take (i := 9) (v := .slice (some ⟨Y, 0, none⟩) 4 4) rfl (by kernel_rfl) (by kernel_rfl) (by kernel_rfl) (fun _ _ _ h => h) (Or.inl ⟨by rfl, fun _ _ => by go_simp⟩) hHeld ?_
        simp only [List.getElem_toArray, List.getElem_cons_zero, List.getElem_cons_succ, Act.put, List.setIfInBounds_toArray, List.set_cons_zero, List.set_cons_succ]
        refine wpAnyH_take (i := 10) (v := .int .i64 4) rfl (by kernel_rfl) (by kernel_rfl) (by kernel_rfl) (fun _ _ _ h => h) (Or.inl ⟨by rfl, fun _ _ => by go_simp⟩) hHeld ?_
        simp only [List.getElem_toArray, List.getElem_cons_zero, List.getElem_cons_succ, Act.put, List.setIfInBounds_toArray, List.set_cons_zero, List.set_cons_succ]
        refine wpAnyH_take (i := 11) (v := .bool true) rfl (by kernel_rfl) (by kernel_rfl) (by kernel_rfl) (fun _ _ _ h => h) (Or.inl ⟨by rfl, fun _ _ => by go_simp⟩) hHeld ?_
        simp only [List.getElem_toArray, List.getElem_cons_zero, List.getElem_cons_succ, Act.put, List.setIfInBounds_toArray, List.set_cons_zero, List.set_cons_succ]
        refine wpAnyH_take (i := 12) (v := .bool true) rfl (by kernel_rfl) (by kernel_rfl) (by kernel_rfl) (fun _ _ _ h => h) (Or.inl ⟨by rfl, fun _ _ => by go_simp⟩) hHeld ?_
        simp only [List.getElem_toArray, List.getElem_cons_zero, List.getElem_cons_succ, Act.put, List.setIfInBounds_toArray, List.set_cons_zero, List.set_cons_succ]
        refine wpAnyH_take (i := 13) (v := .bool true) rfl (by kernel_rfl) (by kernel_rfl) (by kernel_rfl) (fun _ _ _ h => h) (Or.inl ⟨by rfl, fun _ _ => by go_simp⟩) hHeld ?_
        simp only [List.getElem_toArray, List.getElem_cons_zero, List.getElem_cons_succ, Act.put, List.setIfInBounds_toArray, List.set_cons_zero, List.set_cons_succ]
        refine wpAnyH_take (i := 14) (v := .slice (some ⟨Y, 0, none⟩) 4 4) rfl (by kernel_rfl) (by kernel_rfl) (by kernel_rfl) (fun _ _ _ h => h) (Or.inl ⟨by rfl, fun _ _ => by go_simp⟩) hHeld ?_
        simp only [List.getElem_toArray, List.getElem_cons_zero, List.getElem_cons_succ, Act.put, List.setIfInBounds_toArray, List.set_cons_zero, List.set_cons_succ]
        refine wpAnyH_take (i := 15) (v := .pointer (some ⟨Y, 0, none⟩)) rfl (by kernel_rfl) (by kernel_rfl) (by kernel_rfl) (fun _ _ _ h => h) (Or.inl ⟨by rfl, fun _ _ => by go_simp⟩) hHeld ?_
        simp only [List.getElem_toArray, List.getElem_cons_zero, List.getElem_cons_succ, Act.put, List.setIfInBounds_toArray, List.set_cons_zero, List.set_cons_succ]
        refine wpAnyH_take (i := 16) (v := bVal 1 E 0 0 0 (A 0) es.length (K 0)) rfl (by kernel_rfl) (by kernel_rfl) (by kernel_rfl) (fun _ _ _ h => h) (Or.inl ⟨by rfl, fun u b => by obtain ⟨y0, y1, y2, y3, y4, y5⟩ := unveil HC0 u b; go_simp⟩) hHeld ?_
        simp only [List.getElem_toArray, List.getElem_cons_zero, List.getElem_cons_succ, Act.put, List.setIfInBounds_toArray, List.set_cons_zero, List.set_cons_succ]
        refine wpAnyH_take (i := 17) (v := bVal 1 E 0 0 0 a1 es.length c1) rfl (by kernel_rfl) (by kernel_rfl) (by kernel_rfl) (fun _ _ _ h => h) (Or.inl ⟨by rfl, fun u b => by obtain ⟨y0, y1, y2, y3, y4, y5⟩ := ((unveil HK1).next b).b.cells; go_simp⟩) hHeld ?_
        simp only [List.getElem_toArray, List.getElem_cons_zero, List.getElem_cons_succ, Act.put, List.setIfInBounds_toArray, List.set_cons_zero, List.set_cons_succ]
        have bW0 := below_drew U
        obtain ⟨W0, hW0⟩ : ∃ W0, W0 = U.drew := ⟨_, rfl⟩
        rw [← hW0] at bW0  hHeld ⊢
        clear hW0
        refine wpAnyH_ready (rs := [18]) (by kernel_rfl) (by simp) ?_
        refine AllReadyH.cons rfl (fun K hK => ?_) AllReadyH.nil
        simp only [List.getElem_toArray, List.getElem_cons_zero, List.getElem_cons_succ]
        go_simp
        refine (unveil HS1 W0 bW0).mono ?_
        rintro x W1 ⟨rfl, bn⟩
        have bW1 := Below.next bW0 bn
        clear bn
        refine hK.out _ _ bW1 (fun hHeld => ?_)
        clear hK K
        refine wpAnyH_take (i := 19) (v := .bool true) rfl (by kernel_rfl) (by kernel_rfl) (by kernel_rfl) (fun _ _ _ h => h) (Or.inl ⟨by rfl, fun _ _ => by go_simp⟩) hHeld ?_
        simp only [List.getElem_toArray, List.getElem_cons_zero, List.getElem_cons_succ, Act.put, List.setIfInBounds_toArray, List.set_cons_zero, List.set_cons_succ]
        refine wpAnyH_take (i := 20) (v := .bool true) rfl (by kernel_rfl) (by kernel_rfl) (by kernel_rfl) (fun _ _ _ h => h) (Or.inl ⟨by rfl, fun _ _ => by go_simp⟩) hHeld ?_
        simp only [List.getElem_toArray, List.getElem_cons_zero, List.getElem_cons_succ, Act.put, List.setIfInBounds_toArray, List.set_cons_zero, List.set_cons_succ]
        refine wpAnyH_take (i := 21) (v := .slice (some ⟨Y, 0, none⟩) 4 4) rfl (by kernel_rfl) (by kernel_rfl) (by kernel_rfl) (fun _ _ _ h => h) (Or.inl ⟨by rfl, fun _ _ => by go_simp⟩) hHeld ?_
        simp only [List.getElem_toArray, List.getElem_cons_zero, List.getElem_cons_succ, Act.put, List.setIfInBounds_toArray, List.set_cons_zero, List.set_cons_succ]
        refine wpAnyH_take (i := 22) (v := .pointer (some ⟨Y, 18, none⟩)) rfl (by kernel_rfl) (by kernel_rfl) (by kernel_rfl) (fun _ _ _ h => h) (Or.inl ⟨by rfl, fun _ _ => by go_simp⟩) hHeld ?_
        simp only [List.getElem_toArray, List.getElem_cons_zero, List.getElem_cons_succ, Act.put, List.setIfInBounds_toArray, List.set_cons_zero, List.set_cons_succ]
        refine wpAnyH_take (i := 23) (v := bVal 1 F 0 0 0 (A 3) fs.length (K 3)) rfl (by kernel_rfl) (by kernel_rfl) (by kernel_rfl) (fun _ _ _ h => h) (Or.inl ⟨by rfl, fun u b => by obtain ⟨y0, y1, y2, y3, y4, y5⟩ := unveil HC3 u b; go_simp⟩) hHeld ?_
        simp only [List.getElem_toArray, List.getElem_cons_zero, List.getElem_cons_succ, Act.put, List.setIfInBounds_toArray, List.set_cons_zero, List.set_cons_succ]
        refine wpAnyH_take (i := 24) (v := bVal 1 F 0 0 0 a2 fs.length c2) rfl (by kernel_rfl) (by kernel_rfl) (by kernel_rfl) (fun _ _ _ h => h) (Or.inl ⟨by rfl, fun u b => by obtain ⟨y0, y1, y2, y3, y4, y5⟩ := ((unveil HK2).next b).b.cells; go_simp⟩) hHeld ?_
        simp only [List.getElem_toArray, List.getElem_cons_zero, List.getElem_cons_succ, Act.put, List.setIfInBounds_toArray, List.set_cons_zero, List.set_cons_succ]
        refine wpAnyH_ready (rs := [25]) (by kernel_rfl) (by simp) ?_
        refine AllReadyH.cons rfl (fun K hK => ?_) AllReadyH.nil
        simp only [List.getElem_toArray, List.getElem_cons_zero, List.getElem_cons_succ]
        go_simp
        refine (unveil HS3 W1 bW1).mono ?_
        rintro x W2 ⟨rfl, bn⟩
        have bW2 := Below.next bW1 bn
        clear bn
        refine hK.out _ _ bW2 (fun hHeld => ?_)
        clear hK K
        refine wpAnyH_take (i := 26) (v := .bool true) rfl (by kernel_rfl) (by kernel_rfl) (by kernel_rfl) (fun _ _ _ h => h) (Or.inl ⟨by rfl, fun _ _ => by go_simp⟩) hHeld ?_
        simp only [List.getElem_toArray, List.getElem_cons_zero, List.getElem_cons_succ, Act.put, List.setIfInBounds_toArray, List.set_cons_zero, List.set_cons_succ]
        refine wpAnyH_take (i := 27) (v := .bool true) rfl (by kernel_rfl) (by kernel_rfl) (by kernel_rfl) (fun _ _ _ h => h) (Or.inl ⟨by rfl, fun _ _ => by go_simp⟩) hHeld ?_
        simp only [List.getElem_toArray, List.getElem_cons_zero, List.getElem_cons_succ, Act.put, List.setIfInBounds_toArray, List.set_cons_zero, List.set_cons_succ]
        refine wpAnyH_done (by kernel_rfl) ?_ _
        go_wp2_with fail
        go_ret
        exact ⟨rfl, Below.next (unveil HB) bW2⟩
end Go.Proofs.YtcdopnkabbfooaaGreat
