/- For all slices of deeds l and more, every number keep and all deeds x and y, berthshiftkeep.TapeKeeps(l, more, keep, x, y) returns true: what was synced is read behind every crash; the arguments read behind the call as before it; no condition on them. -/
import Derived.Test.YtlfecmkpafgcmaaRows
import Derived.Test.YtlfecmkpafgcmaaKtI
import Derived.Test.YtlfecmkpafgcmaaKtG
import Derived.Test.YtlfecmkpafgcmaaKtF
import Derived.Test.YtlfecmkpafgcmaaKtO
import Derived.Test.YtlfecmkpafgcmaaTpR
import Derived.Deep.DeepCutAuto
import Derived.Deep.RegionLaw
import Derived.Deep.QuietTactic
import Derived.BigQuiet
namespace Go.Proofs.Ytlfecmkpafgcmaa
open Go.ChangeShapes Go.WideShapes Go.ChangeAt Go.RowKit

theorem own : ownKnob Try.prog.godebug = none := by kernel_rfl
theorem laidOut : laidOutB Try.prog = true := by kernel_rfl

theorem drew_belowK (B : Nat) (W : World) : Below B W W.drew := ⟨rfl, rfl, rfl, Nat.le_refl _, fun _ _ => rfl⟩
/-- a deed in a block of its own. -/
def deedBlock (w : World) (R : Nat) (a b c d : Int) : Prop := w.heap[R]? = some (.cells #[.int .i64 a, .int .i64 b, .int .i64 c, .int .i64 d] 46 (0, 0))
theorem deedBlock.below {w w' : World} {R B : Nat} {a b c d : Int} (h : deedBlock w R a b c d) (hb : Below B w w') (hR : R < B) : deedBlock w' R a b c d := by
  unfold deedBlock at h ⊢; rw [← h]; exact hb.block R hR
theorem deedBlock.cells {w : World} {R : Nat} {a b c d : Int} (h : deedBlock w R a b c d) : w.cell? ⟨R, 0, none⟩ = some (.int .i64 a) ∧ w.cell? ⟨R, 1, none⟩ = some (.int .i64 b) ∧ w.cell? ⟨R, 2, none⟩ = some (.int .i64 c) ∧ w.cell? ⟨R, 3, none⟩ = some (.int .i64 d) := by
  unfold deedBlock at h; simp [World.cell?, h]
theorem two_deeds (w : World) (a b c d a' b' c' d' : Int) : deedBlock ((w.alloc (.cells #[.int .i64 a, .int .i64 b, .int .i64 c, .int .i64 d] 46)).alloc (.cells #[.int .i64 a', .int .i64 b', .int .i64 c', .int .i64 d'] 46)) w.heap.size a b c d :=
  (show deedBlock (w.alloc (.cells #[.int .i64 a, .int .i64 b, .int .i64 c, .int .i64 d] 46)) w.heap.size a b c d from heap_alloc_new w _).below (below1 _ _) (by simp)
theorem two_deeds' (w : World) (a b c d a' b' c' d' : Int) : deedBlock ((w.alloc (.cells #[.int .i64 a, .int .i64 b, .int .i64 c, .int .i64 d] 46)).alloc (.cells #[.int .i64 a', .int .i64 b', .int .i64 c', .int .i64 d'] 46)) (w.heap.size + 1) a' b' c' d' := by
  have := heap_alloc_new (w.alloc (.cells #[.int .i64 a, .int .i64 b, .int .i64 c, .int .i64 d] 46)) (.cells #[.int .i64 a', .int .i64 b', .int .i64 c', .int .i64 d'] 46)
  rw [alloc_size] at this
  exact this

set_option maxRecDepth 100000 in
set_option maxHeartbeats 20000000 in
theorem walk_TapeKeeps (w : World) (a : Option Addr) (len cap : Nat) (D : List Int) (h : RowK .i64 w a (4 * len) D) (hc : len ≤ cap) (hm : cap ≤ maxLen) (_ : a = none → cap = 0) (p : Option Addr) (lp capp : Nat) (M : List Int) (hp : RowK .i64 w p (4 * lp) M) (_ : lp ≤ capp) (_ : capp ≤ maxLen) (_ : p = none → capp = 0) (keep : Int) (wk : (Lit.int .i64 keep).wf = true)
    (xa xb xc xd : Int) (wx : ∀ z ∈ [xa, xb, xc, xd], (Lit.int .i64 z).wf = true) (ya yb yc yd : Int) (wy : ∀ z ∈ [ya, yb, yc, yd], (Lit.int .i64 z).wf = true) :
    Calls Try.prog 5 #[.slice a len cap, .slice p lp capp, .int .i64 keep, .agg #[.int .i64 xa, .int .i64 xb, .int .i64 xc, .int .i64 xd], .agg #[.int .i64 ya, .int .i64 yb, .int .i64 yc, .int .i64 yd]] w fun e w' => e = .returned (.bool true) ∧ Below w.heap.size w w' := by
  obtain ⟨i0, hi, hz0, hz1, hz2⟩ := info_parts Try.infoRecK
  go_enter Try.func5, Try.ntmps5
  go_wp2_with fail
  obtain ⟨W0, hW0, dx0, dy0, B00, S00⟩ : ∃ W0, W0 = (w.alloc (.cells #[.int .i64 xa, .int .i64 xb, .int .i64 xc, .int .i64 xd] 46)).alloc (.cells #[.int .i64 ya, .int .i64 yb, .int .i64 yc, .int .i64 yd] 46) ∧
      deedBlock W0 w.heap.size xa xb xc xd ∧ deedBlock W0 (w.heap.size + 1) ya yb yc yd ∧ Below w.heap.size w W0 ∧ W0.heap.size = w.heap.size + 2 := ⟨_, rfl, two_deeds _ _ _ _ _ _ _ _ _, two_deeds' _ _ _ _ _ _ _ _ _, below2 _ _ _, by simp⟩
  rw [← hW0]
  clear hW0
  refine (taped_own a len cap D _ (h.below B00) hc (by unfold maxLen at hm; exact hm)).mono ?_
  rintro e w1 ⟨a1, n, cap1, v1, rfl, r1, c1, hn1, m1, y1, o1, b1, ot⟩
  have hm10 : min (len / 2) 10 ≤ 10 := by omega
  generalize min (len / 2) 10 = m at r1 o1 hm10 ot
  have hg := recsOf_good D m
  have hrl := recsOf_len D m
  have hfl := framesOf_len (recsOf D m)
  have ht : ∀ z ∈ recsOf D m, z.length = 10 := fun z hz => (hg z hz).len
  have HRL := hide o1.lt
  obtain ⟨ar, capr, rfl, rr, hcr, hcm, hnr, _⟩ := RecRow.ofOwns o1 hrl ht
  have hn := r1.len_eq
  rw [hn, hrl] at hfl
  have B01 := Below.next B00 b1
  have dx1 := dx0.below b1 (by omega)
  have dy1 := dy0.below b1 (by omega)
  have hp1 := hp.below B01
  generalize hrs : recsOf D m = rs at r1 rr hrl ht hn hg
  clear hrs o1 h hc ot B00 dx0 dy0 hp
  go_wp2_with fail
  obtain ⟨W, hW, t0, B0, S0⟩ : ∃ W, W = w1.alloc (.cells #[.slice a1 n cap1, .int .i64 0] 54) ∧ tapeBlock W w1.heap.size a1 n cap1 0 ∧ Below w1.heap.size w1 W ∧ W.heap.size = w1.heap.size + 1 := ⟨_, rfl, tapeBlock.new w1 a1 n cap1 0, below1 _ _, alloc_size _ _⟩
  rw [← hW]
  clear hW
  refine (sync_yes a1 n cap1 (framesOf rs) 0 _ (r1.below B0) hn1 (by omega) (by omega) (by omega)).mono ?_
  rintro e w2 ⟨a2, cap2, rfl, r2, c2, hn2, m2, y2, b2⟩
  have t2 := t0.below b2 t0.lt
  have k0 := t2.cell0
  have k1 := t2.cell1
  have kf := t2.free
  have B2 := Below.next B0 b2
  have I0 : TkI w1 W w1.heap.size 0 (framesOf rs) rs a1 n cap1 ar capr := ⟨t0, r1.below B0, c1, hn1, m1, rr.below B0, by omega, by unfold maxLen at hcm; exact hcm, hnr, fun x hx => by have := (unhide HRL x.block (by rw [hx]; rfl)).2; omega, B0, Nat.le_refl _⟩
  have HI := hide (I0.stored b2 r2 c2 hn2 m2 y2 n)
  clear I0 B0 t0 b2 r2 S0
  go_wp2
  go_loopw [15, 16] (fun v t wr => ∃ (j nt capt : Nat) (at' aa : Option Addr) (ca : Nat), t = .int .i64 ((2 * j : Nat) : Int) ∧ j ≤ min (lp / 2) 6 ∧ v = .slice aa (m + j : Nat) ca ∧ TkI w1 wr w1.heap.size n (framesOf (rs ++ recsOf M j)) (rs ++ recsOf M j) at' nt capt aa ca)
    (fun _ t _ => 12 - (intOf t).toNat)
  case atStart => exact ⟨0, n, cap2, a2, ar, capr, rfl, Nat.zero_le _, rfl, by have := unhide HI; simpa [recsOf] using this⟩
  case round =>
    obtain ⟨j, nt, capt, at', aa, ca, rfl, hj, rfl, I⟩ := hrel
    clear k0 k1 kf t2 HI
    have hfl2 := framesOf_len (recsOf M j)
    rw [recsOf_len] at hfl2
    have hnt := I.row.len_eq
    rw [framesOf_append, List.length_append, hn] at hnt
    have hall : (rs ++ recsOf M j).length = m + j := by rw [List.length_append, hrl, recsOf_len]
    by_cases hgo : j < min (lp / 2) 6
    · have hg1 : ((2 * j : Nat) : Int) + 1 < (lp : Int) := by omega
      have hg2 : ((2 * j : Nat) : Int) < 12 := by omega
      obtain ⟨b, off, rfl⟩ := hp1.form (by omega)
      have rD := hp1.below I.bel
      have hDl := hp1.len_eq
      have kd : ∀ t, t < 8 → wr.cell? ⟨b, off + (8 * j + t), none⟩ = some (.int .i64 (M.getD (8 * j + t) 0)) := fun t ht => rD.at (8 * j + t) (by omega)
      have wd : ∀ t, t < 8 → (Lit.int .i64 (M.getD (8 * j + t) 0)).wf = true := fun t ht => hp1.wf _ (getD_mem M _ (by omega))
      obtain ⟨x0, x1, x2, x3, x4, x5, x6, x7, x8, x9, hrec, hf, hzz⟩ := recAt_good M j
      have HREC := hide hrec
      have HF := hide hf
      clear hrec hf hzz
      have d0 := kd 0 (by omega)
      have d1 := kd 1 (by omega)
      have d2 := kd 2 (by omega)
      have d3 := kd 3 (by omega)
      have d4 := kd 4 (by omega)
      have d5 := kd 5 (by omega)
      have d6 := kd 6 (by omega)
      have d7 := kd 7 (by omega)
      have W0 := hide (wd 0 (by omega))
      have W1 := hide (wd 1 (by omega))
      have W2 := hide (wd 2 (by omega))
      have W3 := hide (wd 3 (by omega))
      have W4 := hide (wd 4 (by omega))
      have W5 := hide (wd 5 (by omega))
      have W6 := hide (wd 6 (by omega))
      have W7 := hide (wd 7 (by omega))
      have HREC2 : Hid (recOf (M.getD (8 * j + 0) 0) (M.getD (8 * j + 1) 0) (M.getD (8 * j + 2) 0) (M.getD (8 * j + 3) 0) (M.getD (8 * j + 4) 0) (M.getD (8 * j + 5) 0) (M.getD (8 * j + 6) 0) (M.getD (8 * j + 7) 0) = [x0, x1, x2, x3, x4, x5, x6, x7, x8, x9]) := unhide HREC
      generalize M.getD (8 * j + 0) 0 = z0 at d0 W0 HREC2
      generalize M.getD (8 * j + 1) 0 = z1 at d1 W1 HREC2
      generalize M.getD (8 * j + 2) 0 = z2 at d2 W2 HREC2
      generalize M.getD (8 * j + 3) 0 = z3 at d3 W3 HREC2
      generalize M.getD (8 * j + 4) 0 = z4 at d4 W4 HREC2
      generalize M.getD (8 * j + 5) 0 = z5 at d5 W5 HREC2
      generalize M.getD (8 * j + 6) 0 = z6 at d6 W6 HREC2
      generalize M.getD (8 * j + 7) 0 = z7 at d7 W7 HREC2
      clear kd wd rD
      obtain ⟨i, hii⟩ : ∃ i, 2 * j = i := ⟨_, rfl⟩
      rw [hii] at hg1 hg2 ⊢
      rw [show off + (8 * j + 0) = off + i * 4 by omega] at d0
      rw [show off + (8 * j + 1) = off + i * 4 + 1 by omega] at d1
      rw [show off + (8 * j + 2) = off + i * 4 + 2 by omega] at d2
      rw [show off + (8 * j + 3) = off + i * 4 + 3 by omega] at d3
      rw [show off + (8 * j + 4) = off + (i + 1) * 4 by omega] at d4
      rw [show off + (8 * j + 5) = off + (i + 1) * 4 + 1 by omega] at d5
      rw [show off + (8 * j + 6) = off + (i + 1) * 4 + 2 by omega] at d6
      rw [show off + (8 * j + 7) = off + (i + 1) * 4 + 3 by omega] at d7
      have HII := hide hii
      clear hii
      have hbl := hp1.lt (by omega)
      have hz1r := I.bel.size
      have hz1s := I.blk.lt
      have hbl2 : b < wr.heap.size := by omega
      have hw1 : IntKind.i64.wrap ((i : Int) + 1) = (i : Int) + 1 := by rw [IntKind.wrap_i64]; omega
      have hg3 : (i : Int) < (lp : Int) := by omega
      have hg4 : (0 : Int) ≤ (i : Int) + 1 := by omega
      go_wp2_with fail
      have RZ : Hid (recBlock (wr.alloc (.cells #[.int .i64 0, .int .i64 0, .int .i64 0, .int .i64 0, .int .i64 0, .int .i64 0, .int .i64 0, .int .i64 0, .int .i64 0, .int .i64 0] 63)).drew wr.heap.size [0, 0, 0, 0, 0, 0, 0, 0, 0, 0]) := hide ⟨rfl, heap_alloc_new wr _⟩
      have LZ : Hid (wr.heap.size < (wr.alloc (.cells #[.int .i64 0, .int .i64 0, .int .i64 0, .int .i64 0, .int .i64 0, .int .i64 0, .int .i64 0, .int .i64 0, .int .i64 0, .int .i64 0] 63)).drew.heap.size) := hide (by show wr.heap.size < (wr.alloc (.cells #[.int .i64 0, .int .i64 0, .int .i64 0, .int .i64 0, .int .i64 0, .int .i64 0, .int .i64 0, .int .i64 0, .int .i64 0, .int .i64 0] 63)).heap.size; rw [alloc_size]; omega)
      have HI := hide I
      have HP1 := hide hp1
      clear I hp1
      go_cut [17] from 53 to 76 (fun t17 wx => ∃ R8, t17 = .pointer (some ⟨R8, 0, none⟩) ∧ recBlock wx R8 [x0, x1, x2, x3, x4, x5, x6, x7, x8, x9] ∧ Below wr.heap.size wr wx ∧ wr.heap.size ≤ R8)
      case first =>
        -- FIRST7
        go_region_with (go_at_call 16; refine (record_of z0 z1 z2 z3 z4 z5 z6 z7 _ (unhide W0) (unhide W1) (unhide W2) (unhide W3) (unhide W4) (unhide W5) (unhide W6) (unhide W7)).mono ?_; rintro e wq ⟨rfl, bb⟩; clear d0 d1 d2 d3 d4 d5 d6 d7; rw [unhide HREC2]; simp only [recVal, List.map_cons, List.map_nil]; first | (have bq : Below wr.heap.size wr wq := Below.next (belowN _ 1) bb) | (have bq : Below wr.heap.size wr wq := Below.next (Below.next (below1 _ _) (belowN _ 1)) bb; have rz : recBlock wq wr.heap.size [0, 0, 0, 0, 0, 0, 0, 0, 0, 0] := (unhide RZ).below bb (unhide LZ); have rzf := rz.free; obtain ⟨m0, m1, m2, m3, m4, m5, m6, m7, m8, m9⟩ := rec_tens rz; clear bb))
        all_goals
          go_wp2_with fail
          go_meet
          first
            | exact ⟨wr.heap.size, rfl, rz.ten x0 x1 x2 x3 x4 x5 x6 x7 x8 x9, (SameBut.ten wq wr.heap.size x0 x1 x2 x3 x4 x5 x6 x7 x8 x9).under bq (Nat.le_refl _), Nat.le_refl _⟩
            | exact ⟨wq.heap.size, rfl, ⟨rfl, heap_alloc_new wq _⟩, Below.next bq (below1 _ _), bq.size⟩
        -- END7
      case rest =>
        obtain ⟨R8, rfl, rb8, B8, hR8⟩ := hcut
        clear d0 d1 d2 d3 d4 d5 d6 d7
        have I8 := (unhide HI).below B8
        have z8 := B8.size
        obtain ⟨m0, m1, m2, m3, m4, m5, m6, m7, m8, m9⟩ := rec_tens rb8
        have k0 := I8.blk.cell0
        have k1 := I8.blk.cell1
        clear B8 RZ LZ HI
        have hbs : bytesL (recAt M j) = bytesOf x0 x1 x2 x3 x4 x5 x6 x7 x8 x9 := by rw [unhide HREC]; rfl
        have hbl9 := bytesL_len (recAt M j)
        rw [hbs] at hbl9
        go_wp2_with fail
        refine (write_any at' nt capt (framesOf (rs ++ recsOf M j)) n x0 x1 x2 x3 x4 x5 x6 x7 x8 x9 _ I8.row I8.nil (by omega) (by omega) (by omega) (unhide HF)).mono ?_
        have HBS := hide hbs
        clear hbs
        generalize bytesOf x0 x1 x2 x3 x4 x5 x6 x7 x8 x9 = bs at hbl9 HBS
        rintro e w9 (⟨hg, _⟩ | ⟨_, a9, cap9, rfl, r9, c9, n9, c9', y9, b9⟩)
        · exact absurd hg (by omega)
        obtain ⟨M9, hM⟩ : ∃ M9, nt + (bs.length + 6) = M9 := ⟨_, rfl⟩
        rw [hM] at r9 c9 ⊢
        have HM := hide hM
        have I9 := I8.stored b9 r9 c9 n9 c9' y9 n
        have t9 := I8.blk.below b9 I8.blk.lt
        have rb9 := rb8.below b9 rb8.lt
        have z9 := b9.size
        have hR8' := I8.blk.lt
        clear m0 m1 m2 m3 m4 m5 m6 m7 m8 m9 k0 k1 hM
        have k0 := t9.cell0
        have k1 := t9.cell1
        have kf := t9.free
        have L9 := t9.lt
        have SX := tape_same w9 w1.heap.size (.slice a9 M9 cap9) (.int .i64 n)
        have rbX : recBlock ((w9.setCell ⟨w1.heap.size, 0, none⟩ (.slice a9 M9 cap9)).setCell ⟨w1.heap.size, 1, none⟩ (.int .i64 n)) R8 [x0, x1, x2, x3, x4, x5, x6, x7, x8, x9] := ⟨rb9.1, (SX.block _ (by omega)).trans rb9.2⟩
        obtain ⟨W9, hW9, I10, rb10⟩ : ∃ W9, W9 = ((w9.setCell ⟨w1.heap.size, 0, none⟩ (.slice a9 M9 cap9)).setCell ⟨w1.heap.size, 1, none⟩ (.int .i64 n)).alloc (.cells #[.slice a9 M9 cap9, .int .i64 n] 54) ∧
            TkI w1 W9 w1.heap.size n (framesOf (rs ++ recsOf M j) ++ frameOf bs) (rs ++ recsOf M j) a9 M9 cap9 aa ca ∧ recBlock W9 R8 [x0, x1, x2, x3, x4, x5, x6, x7, x8, x9] := ⟨_, rfl, I9.below (below1 _ _), rbX.below (below1 _ _) rbX.lt⟩
        have HI10 := hide I10
        have HRB := hide rb10
        clear I8 I9 t9 rb8 rb9 b9 SX r9 I10 rbX
        go_wp2_with fail
        rw [← hW9]
        clear hW9 k0 k1 kf
        obtain ⟨m0, m1, m2, m3, m4, m5, m6, m7, m8, m9⟩ := rec_tens rb10
        clear rb10
        have hmj : m + j ≤ 100 := by omega
        have HALL := hide hall
        have hnil9 := (unhide HI10).rnil
        have HT10 : Hid (∀ z ∈ rs ++ recsOf M j ++ [[x0, x1, x2, x3, x4, x5, x6, x7, x8, x9]], z.length = 10) := hide (fun z hz => by
          rcases List.mem_append.1 hz with hz | hz
          · exact (unhide HI10).recs.ten z hz
          · rw [List.mem_singleton.1 hz]; rfl)
        have HL10 : Hid ((rs ++ recsOf M j ++ [[x0, x1, x2, x3, x4, x5, x6, x7, x8, x9]]).length = m + j + 1) := hide (by rw [List.length_append, unhide HALL]; rfl)
        go_region_law (first
          | (refine step_append_recs rfl (.const (.slice none 0 0)) (.tmp 72) 55 rfl W9.heap.size i0 _ Try.underlying55 hi hz0 hz1 hz2 rfl (.slice none 0 0) 0 [] rfl (World.ownsRow_nil _ _ _ _) aa (m + j) ca (rs ++ recsOf M j) rfl (by first | exact (unhide HI10).recs | exact ((unhide HI10).below (drew_belowK _ _)).recs | exact ((unhide HI10).below (Below.next (drew_belowK _ _) (below1 _ _))).recs | exact ((unhide HI10).below (Below.next (below1 _ _) (drew_belowK _ _))).recs) (unhide HALL).symm hnil9 (by omega) (by first | exact Nat.le_refl _ | (simp; done) | (simp; omega)) ?_; intro v3 w3 own3 grow3; have B3 : Below W9.heap.size W9 w3 := (by first | exact (drew_belowK _ _).grown grow3 (Nat.le_refl _) (fun g hg => by cases hg) | exact (Below.next (drew_belowK _ _) (below1 _ _)).grown grow3 (by simp) (fun g hg => by cases hg)); (first | (have rn3 : recBlock w3 W9.heap.size [x0, x1, x2, x3, x4, x5, x6, x7, x8, x9] := recBlock.grown (w := W9.drew.alloc (.cells #[.int .i64 x0, .int .i64 x1, .int .i64 x2, .int .i64 x3, .int .i64 x4, .int .i64 x5, .int .i64 x6, .int .i64 x7, .int .i64 x8, .int .i64 x9] 63)) (⟨rfl, heap_alloc_new W9.drew _⟩) grow3) | skip); have rb3 : recBlock w3 R8 [x0, x1, x2, x3, x4, x5, x6, x7, x8, x9] := (unhide HRB).below B3 (unhide HRB).lt; have O3 : Hid (w3.ownsRow W9.heap.size 63 10 v3 (m + j) (recCells (rs ++ recsOf M j))) := hide (by simpa using own3); have HB3 := hide B3; have hb3 := B3.size; clear m0 m1 m2 m3 m4 m5 m6 m7 m8 m9 own3 grow3 B3; obtain ⟨m0, m1, m2, m3, m4, m5, m6, m7, m8, m9⟩ := rec_tens rb3; clear rb3)
          | ((first
              | refine step_append_recs rfl (.tmp 73) (.tmp 75) 55 rfl W9.heap.size i0 _ Try.underlying55 hi hz0 hz1 hz2 rfl v3 (m + j) (rs ++ recsOf M j) rfl ((unhide O3).alloc _) (some ⟨w3.heap.size, 0, none⟩) 1 1 [[x0, x1, x2, x3, x4, x5, x6, x7, x8, x9]] rfl (RecRow.one (⟨rfl, heap_alloc_new w3 _⟩) rfl) rfl (by simp) (by omega) (by rw [alloc_size]; omega) ?_
              | refine step_append_recs rfl (.tmp 73) (.tmp 75) 55 rfl W9.heap.size i0 _ Try.underlying55 hi hz0 hz1 hz2 rfl v3 (m + j) (rs ++ recsOf M j) rfl (unhide O3) (some ⟨W9.heap.size, 0, none⟩) 1 1 [[x0, x1, x2, x3, x4, x5, x6, x7, x8, x9]] rfl (RecRow.one rn3 rfl) rfl (by simp) (by omega) hb3 ?_); intro v5 w5 own5 grow5; go_loud (have B5 : Below W9.heap.size W9 w5 := (by first | exact (Below.next (unhide HB3) (below1 _ _)).grown grow5 (by rw [alloc_size]; omega) (fun g hg => ((unhide O3).lt g hg).1) | exact (unhide HB3).grown grow5 hb3 (fun g hg => ((unhide O3).lt g hg).1)); obtain ⟨a5, c5, rfl, r5, l5, cm5, n5, q5⟩ := RecRow.ofOwns own5 (unhide HL10) (unhide HT10); have I5 := (unhide HI10).more B5 r5 (by rw [unhide HL10]; exact l5) (by unfold maxLen at cm5; exact cm5) n5 q5; have HI5 := hide I5; clear I5 B5 r5 own5 grow5 O3 HB3 hb3)))
        all_goals (try go_wp2_with fail)
        all_goals
          have hM := unhide HM
          refine ⟨⟨j + 1, M9, cap9, a9, a5, c5, by rw [show ((2 * (j + 1) : Nat) : Int) = (i : Int) + 2 by have := unhide HII; omega], by omega, by rw [Nat.add_assoc], ?_⟩, by simp [intOf]; omega⟩
          rw [recsOf_snoc, ← List.append_assoc, framesOf_snoc, unhide HBS, unhide HREC]
          exact unhide HI5
    · have hcond : ¬ ((2 * j : Nat) : Int) + 1 < (lp : Int) ∨ (((2 * j : Nat) : Int) + 1 < (lp : Int) ∧ ¬ ((2 * j : Nat) : Int) < 12) := by omega
      have hga : ∀ z ∈ rs ++ recsOf M j, GoodRec z := fun z hz => by
        rcases List.mem_append.1 hz with hz | hz
        · exact hg z hz
        · exact recsOf_good M j z hz
      obtain ⟨pk0, pk1⟩ := pickedOf_range keep 300 (by decide)
      have P1 := fun w => picked_any keep 300 w wk (by decide) (by decide)
      generalize pickedOf keep 300 = kk at pk0 pk1 P1
      obtain ⟨k, rfl⟩ : ∃ k' : Nat, kk = (k' : Int) := ⟨kk.toNat, by omega⟩
      obtain ⟨c, hcc⟩ : ∃ c, min (n + k) nt = c := ⟨_, rfl⟩
      have hlenF := I.row.len_eq
      obtain ⟨⟨more, hmo⟩, ⟨mo, hmo'⟩, hK1⟩ := keeps_read rs (recsOf M j) hga c (by omega) (by omega)
      have hbo := readOf_bounds ((framesOf (rs ++ recsOf M j)).take c)
      have hcut := read_cut ((framesOf (rs ++ recsOf M j)).take c)
      have hmore := fun z (hz : GoodRec z) => read_more ((framesOf (rs ++ recsOf M j)).take c) hz
      obtain ⟨L4, hL4⟩ : ∃ L4, (framesOf (rs ++ recsOf M j)).take c = L4 := ⟨_, rfl⟩
      have HC := hide (crash_toK wr at' nt capt (framesOf (rs ++ recsOf M j)) n k c L4 I.row I.nil I.le (by omega) (by omega) (by omega) (by omega) (by omega) (by unfold leftOf; split <;> omega) hL4)
      rw [hL4] at hmo hmo' hK1 hbo hcut
      simp only [hL4] at hmore
      have hl4 : L4.length = c := by rw [← hL4, List.length_take]; omega
      obtain ⟨gs, K, hro⟩ : ∃ gs K, readOf L4 = (gs, K) := ⟨_, _, rfl⟩
      rw [hro] at hmo hmo' hK1 hbo hcut
      simp only [hro] at hmo hmo' hK1 hbo hcut hmore
      have hlen1 : gs.length + more.length = m + j := by rw [← hall, hmo, List.length_append]
      have hlen2 : gs.length = m + mo.length := by rw [hmo', List.length_append, hrl]
      rw [hl4] at hbo
      have HI := hide I
      have HMO := hide hmo
      have HRO := hide hro
      have HCUT := hide hcut
      have HMORE := hide hmore
      have k0 := I.blk.cell0
      have k1 := I.blk.cell1
      have hz1s := I.blk.lt
      have hi12 : 2 * j ≤ 12 := by omega
      clear I hmo hmo' hro hcut hmore hga hL4 hlenF hgo hp1
      obtain ⟨i, hii⟩ : ∃ i, 2 * j = i := ⟨_, rfl⟩
      rw [hii] at hcond hi12 ⊢
      clear hii
      rcases hcond with hc1 | ⟨hc1, hc2⟩
      all_goals
        go_wp2_with fail
        go_cut [20] (fun f wx => ∃ a4 cap4, f = .int .i64 0 ∧ TkI w1 wx w1.heap.size c L4 (rs ++ recsOf M j) a4 c cap4 aa ca)
        case first =>
          go_region_with (first | (go_at_call 13; refine (P1 _).mono ?_; rintro e w2 ⟨rfl, rfl⟩) | (go_at_call 18; refine (unhide HC _ (drew_belowK _ _)).mono ?_; rintro e w4 ⟨a4, cap4, rfl, r4, l4, n4, cm4, x4, bb⟩; have b4 : Below wr.heap.size wr w4 := Below.next (drew_belowK _ _) bb; have t4 := (unhide HI).blk.below b4 (unhide HI).blk.lt; have q0 := t4.cell0; have q1 := t4.cell1; have qf := t4.free; have I4 := hide ((unhide HI).stored b4 r4 l4 n4 cm4 (fun x hx => by have := x4 x hx; simpa using this) c); clear r4 bb b4 t4))
          all_goals (try go_wp2_with fail)
          all_goals go_meet
          all_goals exact ⟨_, _, rfl, unhide I4⟩
        case rest =>
          obtain ⟨a4, cap4, rfl, I4⟩ := hcut
          clear k0 k1 HC HI P1
          have k0 := I4.blk.cell0
          have k1 := I4.blk.cell1
          have H1 := hide (repair_yes a4 c cap4 L4 c wc I4.row I4.nil I4.le I4.cm (by omega) (by omega) (by omega))
          rw [unhide HRO] at H1
          simp only at H1
          rw [cutOf_le (show K ≤ c by omega)] at H1
          go_wp2_with fail
          refine (unhide H1).mono ?_
          rintro e w5 ⟨a5, cap5, rfl, r5, l5, n5, cm5, x5, b5⟩
          have t5 := I4.blk.below b5 I4.blk.lt
          clear k0 k1
          have k0 := t5.cell0
          have k1 := t5.cell1
          have kf := t5.free
          obtain ⟨W5, hW5, I5⟩ : ∃ W5, W5 = (w5.setCell ⟨w1.heap.size, 0, none⟩ (.slice a5 K cap5)).setCell ⟨w1.heap.size, 1, none⟩ (.int .i64 K) ∧ TkI w1 W5 w1.heap.size K (L4.take K) (rs ++ recsOf M j) a5 K cap5 aa ca := ⟨_, rfl, I4.stored b5 r5 l5 n5 cm5 x5 K⟩
          have H2 := hide (read_any a5 K cap5 (L4.take K) K W5 I5.row I5.nil I5.le I5.cm (by omega) (by omega) (by omega))
          rw [unhide HCUT] at H2
          simp only at H2
          clear H1 I4 t5 r5 b5
          go_upto_region 15 with fail
          rw [← hW5]
          clear hW5 k0 k1 kf
          have k0 := I5.blk.cell0
          have k1 := I5.blk.cell1
          go_wp2_with fail
          refine (unhide H2).mono ?_
          rintro e w6 ⟨a6, cap6, rfl, r6, c6, m6, n6, y6, b6⟩
          have I6 := I5.below b6
          have hI5 := I5.blk.lt
          clear H2 I5 b6 k0 k1
          have k0 := I6.blk.cell0
          obtain ⟨gl, hgl⟩ : ∃ gl, gs.length = gl := ⟨_, rfl⟩
          have ra6 : RecRow w6 aa gs := by have := I6.recs; rw [unhide HMO] at this; exact this.leftK
          have hrle := I6.rle
          rw [hall] at hrle
          rw [hgl] at c6 hlen1 hlen2 hbo ⊢
          have HGL := hide hgl
          have e1 : ¬ (gl : Int) < (m : Int) := by omega
          have e2 : ¬ ((m + j : Nat) : Int) < (gl : Int) := by omega
          have e3 : ((K : Int) == (K : Int)) = true := by simp
          have e4 : (gl : Int) ≤ (ca : Int) := by omega
          have HL2 := hide hlen2
          have HL1 := hide hlen1
          clear hgl hlen2 hlen1
          have H3 := hide (sameRecordsK_yes a6 aa gl cap6 gl ca gs w6 r6 ra6 (unhide HGL).symm (unhide HGL).symm (by omega))
          go_wp2_with fail
          refine (unhide H3).mono ?_
          rintro e w7 ⟨rfl, qd, hw7⟩
          have b7 : Below w6.heap.size w6 w7 := by rw [hw7]; exact belowN _ _
          have I7 := I6.below b7
          have r7 := r6.below b7
          have hzw := b1.size
          have dx7 := dx1.below I7.bel (by omega)
          have dy7 := dy1.below I7.bel (by omega)
          obtain ⟨g0, g1, g2, g3⟩ := dx7.cells
          obtain ⟨h0, h1, h2, h3⟩ := dy7.cells
          obtain ⟨z0, z1, z2, z3, z4, z5, z6, z7, z8, z9, hrec, hf, hzz⟩ := recOf_ok xa xb xc xd ya yb yc yd
          have hgz : GoodRec [z0, z1, z2, z3, z4, z5, z6, z7, z8, z9] := ⟨z0, z1, z2, z3, z4, z5, z6, z7, z8, z9, rfl, hf, hzz⟩
          have H4 := hide (record_of xa xb xc xd ya yb yc yd w7 (wx _ (by simp)) (wx _ (by simp)) (wx _ (by simp)) (wx _ (by simp)) (wy _ (by simp)) (wy _ (by simp)) (wy _ (by simp)) (wy _ (by simp)))
          rw [hrec] at H4
          simp only [recVal, List.map_cons, List.map_nil] at H4
          have HF := hide hf
          have HMR := hide (unhide HMORE _ hgz)
          have hbl := bytesL_len [z0, z1, z2, z3, z4, z5, z6, z7, z8, z9]
          clear hf hzz hrec hgz H3 I6 r6 ra6 b7 hw7 k0 dx7 dy7
          go_wp2_with fail
          refine (unhide H4).mono ?_
          rintro e w8 ⟨rfl, b8⟩
          have hI7 := I7.blk.lt
          have hb8 := b8.size
          obtain ⟨W8, hW8, I8, rb8, r8⟩ : ∃ W8, W8 = w8.alloc (.cells #[.int .i64 z0, .int .i64 z1, .int .i64 z2, .int .i64 z3, .int .i64 z4, .int .i64 z5, .int .i64 z6, .int .i64 z7, .int .i64 z8, .int .i64 z9] 63) ∧ TkI w1 W8 w1.heap.size K (L4.take K) (rs ++ recsOf M j) a5 K cap5 aa ca ∧ recBlock W8 w8.heap.size [z0, z1, z2, z3, z4, z5, z6, z7, z8, z9] ∧ RecRow W8 a6 gs := ⟨_, rfl, (I7.below b8).below (below1 _ _), ⟨rfl, heap_alloc_new w8 _⟩, (r7.below b8).below (below1 _ _)⟩
          clear g0 g1 g2 g3 h0 h1 h2 h3 H4 I7 r7 b8
          go_upto_region 19 with fail
          rw [← hW8]
          clear hW8
          obtain ⟨m0, m1, m2, m3, m4, m5, m6, m7, m8, m9⟩ := rec_tens rb8
          have k0 := I8.blk.cell0
          have k1 := I8.blk.cell1
          have H5 := hide (write_any a5 K cap5 (L4.take K) K z0 z1 z2 z3 z4 z5 z6 z7 z8 z9 W8 I8.row I8.nil (by omega) (by omega) (by omega) (unhide HF))
          have hbs : bytesL [z0, z1, z2, z3, z4, z5, z6, z7, z8, z9] = bytesOf z0 z1 z2 z3 z4 z5 z6 z7 z8 z9 := rfl
          rw [hbs] at hbl HMR
          clear hbs
          generalize bytesOf z0 z1 z2 z3 z4 z5 z6 z7 z8 z9 = bs at hbl HMR H5
          go_wp2_with fail
          refine (unhide H5).mono ?_
          rintro e w9 (⟨hg9, _⟩ | ⟨_, a9, cap9, rfl, r9, c9, n9, c9', y9, b9⟩)
          · exact absurd hg9 (by omega)
          obtain ⟨M9, hM⟩ : ∃ M9, K + (bs.length + 6) = M9 := ⟨_, rfl⟩
          rw [hM] at r9 c9 HMR ⊢
          have hM9 : K ≤ M9 ∧ M9 ≤ 100000 := by omega
          clear hM
          have t9 := I8.blk.below b9 I8.blk.lt
          have SX := tape_same w9 w1.heap.size (.slice a9 M9 cap9) (.int .i64 K)
          have rb9 := rb8.below b9 rb8.lt
          have rbX : recBlock ((w9.setCell ⟨w1.heap.size, 0, none⟩ (.slice a9 M9 cap9)).setCell ⟨w1.heap.size, 1, none⟩ (.int .i64 K)) w8.heap.size [z0, z1, z2, z3, z4, z5, z6, z7, z8, z9] := ⟨rb9.1, (SX.block _ (by omega)).trans rb9.2⟩
          obtain ⟨W9, hW9, I9, rbW, rr9⟩ : ∃ W9, W9 = (w9.setCell ⟨w1.heap.size, 0, none⟩ (.slice a9 M9 cap9)).setCell ⟨w1.heap.size, 1, none⟩ (.int .i64 K) ∧ TkI w1 W9 w1.heap.size K (L4.take K ++ frameOf bs) (rs ++ recsOf M j) a9 M9 cap9 aa ca ∧ recBlock W9 w8.heap.size [z0, z1, z2, z3, z4, z5, z6, z7, z8, z9] ∧ RecRow W9 a6 gs :=
            ⟨_, rfl, I8.stored b9 r9 c9 n9 c9' y9 K, rbX, (r8.below b9).otherK (fun x hx => SX.block _ (by have := y6 x hx; omega)) (by have := SX.size; omega)⟩
          clear m0 m1 m2 m3 m4 m5 m6 m7 m8 m9 k0 k1 H5 I8 rb8 r8 r9 b9 SX rb9 rbX
          have k0 := t9.cell0
          have k1 := t9.cell1
          have kf := t9.free
          have H6 := hide (read_any a9 M9 cap9 (L4.take K ++ frameOf bs) K W9 I9.row I9.nil I9.le I9.cm (by omega) (by omega) (by omega))
          rw [unhide HMR] at H6
          simp only at H6
          go_upto_region 20 with fail
          rw [← hW9]
          clear hW9 k0 k1 kf t9
          have k0 := I9.blk.cell0
          have k1 := I9.blk.cell1
          go_wp2_with fail
          refine (unhide H6).mono ?_
          rintro e w10 ⟨a10, cap10, rfl, r10, c10, m10, n10, y10, b10⟩
          have rr10 := rr9.below b10
          have rb10 := rbW.below b10 rbW.lt
          have hgl1 : (gs ++ [[z0, z1, z2, z3, z4, z5, z6, z7, z8, z9]]).length = gl + 1 := by rw [List.length_append, unhide HGL]; rfl
          rw [hgl1] at c10 ⊢
          have hlast := r10.lastK
          rw [unhide HGL] at hlast
          obtain ⟨b, off, rfl, o0, o1, o2, o3, o4, o5, o6, o7, o8, o9⟩ := hlast
          have B10 := hide (Below.next (Below.next B01 I9.bel) b10)
          have hgl2 : gl ≤ 16 := by have := unhide HL1; omega
          have H7 := hide (fun q => sameRecordsK_yes (some ⟨b, off, none⟩) a6 gl cap10 gl cap6 gs (w10.drewN q) (r10.leftK.below (belowN _ q)) (rr10.below (belowN _ q)) (unhide HGL).symm (unhide HGL).symm (by omega))
          obtain ⟨m0, m1, m2, m3, m4, m5, m6, m7, m8, m9⟩ := rec_tens rb10
          have f1 : (gl : Int) ≤ (cap10 : Int) := by omega
          have f2 : ((gl : Int) + 1 == (gl : Int) + 1) = true := by simp
          clear k0 k1 H6 I9 rbW rr9 b10 r10 rr10 rb10 hgl1 HMR
          go_wp2_with fail
          go_quiet (first | (go_at_call 21; refine Calls.quiet_of (unhide H7 _)))
          go_wp2
          go_ret
          exact ⟨by first | rfl | simp, Below.next (unhide B10) (belowN _ _)⟩

set_option linter.unusedVariables false in
set_option maxRecDepth 100000 in
theorem lifted_TapeKeeps (os : Os) (started : os.Started) (H : Type) (enc : TypeId × Value → H) :
    ReturnsInHanded {} Try.checked os 5 .any (Rows.tapeKeepsSpec.pre6 enc Try.prog Try.f5 Rows.tapeKeepsRow.domain false) (Rows.tapeKeepsSpec.post enc Try.prog Try.f5 false true false false) := by
  refine returnsInHanded_of_change_sized (C := Try.checked) own started (by kernel_rfl) Try.func5
    (ChangeSpec.witness6 (enc := enc) (C := Try.checked) false ⟨#[], #[.slice none 0 0, .slice none 0 0, .int .i64 0, .agg #[.int .i64 0, .int .i64 0, .int .i64 0, .int .i64 0], .agg #[.int .i64 0, .int .i64 0, .int .i64 0, .int .i64 0]], []⟩ 8 (by kernel_rfl) (by kernel_rfl) (by kernel_rfl) (by kernel_rfl)) ?_
  intro W base args ds gs before hval0 hW hcnd hsz0 _
  have hval : ∀ (j : Nat) t v, Try.f5.params[j]? = some t → args[j]? = some v → Value.okWide Try.prog W .any base t v := hval0
  have hsz : (DataW.weightsEach Try.prog (Try.f5.params.toList ++ Rows.tapeKeepsSpec.plain.varTypes Try.prog) (ds ++ gs)).all (· ≤ reachBytes) = true := hsz0
  have hW' := hW
  obtain ⟨p, q, hA0, hV, rfl, hfz, hnd⟩ := hW
  have hA : DataW.TrodAll enc Try.prog W 0 (fun _ => true) true Try.f5.params.toList args.toList ds p := hA0
  rw [Try.params5] at hA hval hsz
  have hK := hA
  have hlt : ∀ x ∈ p, x.block < W.heap.size := fun x hx => hW'.lt x (by simp [hx])
  obtain ⟨v0, vs0, d0, ds0, p0, q0, hargs, rfl, rfl, h0, r0⟩ := trodAll_cons hA
  obtain ⟨v1, vs1, d1, ds1, p1, q1, rfl, rfl, rfl, h1, r1⟩ := trodAll_cons r0
  obtain ⟨v2, vs2, d2, ds2, p2, q2, rfl, rfl, rfl, h2, r2⟩ := trodAll_cons r1
  obtain ⟨v3, vs3, d3, ds3, p3, q3, rfl, rfl, rfl, h3, r3⟩ := trodAll_cons r2
  obtain ⟨v4, vs4, d4, ds4, p4, q4, rfl, rfl, rfl, h4, r4⟩ := trodAll_cons r3
  obtain ⟨rfl, rfl, rfl⟩ := trodAll_nil r4
  obtain rfl : args = #[v0, v1, v2, v3, v4] := by cases args; simp_all
  obtain ⟨rfl, rfl⟩ := trodVars_none hV
  obtain ⟨a0, len0, cap0, l0, rfl, w0, lc0, cm0, na0⟩ := open_Deeds (hval 0 30 v0 rfl rfl) h0
  obtain ⟨a1, len1, cap1, l1, rfl, w1, lc1, cm1, na1⟩ := open_Deeds (hval 1 30 v1 rfl rfl) h1
  obtain ⟨a2, rfl, rfl, rfl, w2⟩ := open_int Try.underlying3 (hval 2 3 v2 rfl rfl) h2
  obtain ⟨x3a, x3b, x3c, x3d, rfl, w3⟩ := open_Deed (hval 3 46 v3 rfl rfl) h3
  obtain ⟨x4a, x4b, x4c, x4d, rfl, w4⟩ := open_Deed (hval 4 46 v4 rfl rfl) h4
  clear hA0 hval0 hsz0
  refine (walk_TapeKeeps W a0 len0 cap0 l0 w0 lc0 cm0 na0 a1 len1 cap1 l1 w1 lc1 cm1 na1 a2 w2 x3a x3b x3c x3d w3 x4a x4b x4c x4d w4).mono fun e W' ⟨he, bel⟩ => ?_
  subst he
  exact ⟨_, rfl, _, _, _, [], _, [], hW', trodAll_mk1 (shut_bool Try.underlying4 _), trodAll_stays laidOut (List.forall_mem_cons.2 ⟨⟨by kernel_rfl, of_decide_eq_true (by kernel_rfl)⟩, List.forall_mem_cons.2 ⟨⟨by kernel_rfl, of_decide_eq_true (by kernel_rfl)⟩, List.forall_mem_cons.2 ⟨⟨by kernel_rfl, of_decide_eq_true (by kernel_rfl)⟩, List.forall_mem_cons.2 ⟨⟨by kernel_rfl, of_decide_eq_true (by kernel_rfl)⟩, List.forall_mem_cons.2 ⟨⟨by kernel_rfl, of_decide_eq_true (by kernel_rfl)⟩, by intro t ht; cases ht⟩⟩⟩⟩⟩) hK bel hlt, rfl, bel.frame _, fun h => by cases h⟩

theorem tapeKeeps_holds : Rows.TapeKeepsSaid :=
  OpenClaim.holds_of_wide 5 Try.f5 rfl rfl rfl rfl rfl rfl rfl ⟨rfl, rfl, rfl, rfl, rfl⟩ rfl rfl rfl rfl rfl (by kernel_rfl) Try.func5 (by kernel_rfl)
    (of_decide_eq_true (by kernel_rfl)) (by unfold Func.isWrapper; first | (rw [if_pos (by decide +kernel)]; kernel_rfl) | (rw [if_neg (by decide +kernel)]; exact ⟨rfl, rfl⟩))
    (fun os started H enc _ => lifted_TapeKeeps os started H enc)
#print axioms tapeKeeps_holds
end Go.Proofs.Ytlfecmkpafgcmaa
