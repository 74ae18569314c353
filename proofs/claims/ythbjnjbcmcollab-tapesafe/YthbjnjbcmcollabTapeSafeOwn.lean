/- For every slice of deeds l and all numbers keep and again, berthshiftkeep.TapeSafe(l, keep, again) returns true: what was synced no crash touches, and behind a crash another one touches nothing; the arguments read behind the call as before it; no condition on them. -/
import Derived.Test.YthbjnjbcmcollabRows
import Derived.Test.YthbjnjbcmcollabKtD
import Derived.Test.YthbjnjbcmcollabKtE
import Derived.Test.YthbjnjbcmcollabKtO
import Derived.Deep.DeepCutAuto
namespace Go.Proofs.Ythbjnjbcmcollab
open Go.ChangeShapes Go.WideShapes Go.ChangeAt Go.RowKit

theorem own : ownKnob Try.prog.godebug = none := by kernel_rfl
theorem laidOut : laidOutB Try.prog = true := by kernel_rfl

theorem drew_below (B : Nat) (W : World) : Below B W W.drew := ⟨rfl, rfl, rfl, Nat.le_refl _, fun _ _ => rfl⟩
theorem zero_tape (wr : World) : tapeBlock ((wr.alloc (.cells #[.slice none 0 0, .int .i64 0] 35)).drew) wr.heap.size none 0 0 0 := tapeBlock.new wr none 0 0 0

/-- a tape that a call made, in a block of its own behind the world wb. -/
structure Made (wb wx : World) (X : Nat) (a : Option Addr) (cap n : Nat) (L : List Int) : Prop where
  blk : tapeBlock wx X a n cap n
  row : RowK .u8 wx a n L
  bel : Below wb.heap.size wb wx
  hX : wb.heap.size ≤ X
  le : n ≤ cap
  nil : a = none → cap = 0
theorem Made.new {wb w3 : World} {a : Option Addr} {cap n : Nat} {L : List Int} (r : RowK .u8 w3 a n L) (b : Below wb.heap.size wb w3) (hle : n ≤ cap) (hn : a = none → cap = 0) :
    Made wb (w3.alloc (.cells #[.slice a n cap, .int .i64 n] 35)) w3.heap.size a cap n L :=
  ⟨tapeBlock.new w3 a n cap n, r.below (below1 _ _), Below.next b (below1 _ _), b.size, hle, hn⟩
theorem Made.old {wb w3 : World} {a : Option Addr} {cap n : Nat} {L : List Int} (r : RowK .u8 w3 a n L) (b : Below wb.heap.size wb w3) (rz : tapeBlock w3 wb.heap.size none 0 0 0) (x : ∀ x, a = some x → wb.heap.size + 1 ≤ x.block) (hle : n ≤ cap) (hn : a = none → cap = 0) :
    Made wb ((w3.setCell ⟨wb.heap.size, 0, none⟩ (.slice a n cap)).setCell ⟨wb.heap.size, 1, none⟩ (.int .i64 n)) wb.heap.size a cap n L :=
  ⟨rz.store a n cap n, (tape_same w3 _ _ _).row r (fun y hy _ => by have := x y hy; omega), (tape_same w3 _ _ _).under b (Nat.le_refl _), Nat.le_refl _, hle, hn⟩

/-- Crash, where what it leaves is known. -/
theorem crash_to (wb : World) (a : Option Addr) (len cap : Nat) (l : List Int) (s keep : Int) (n : Nat) (L : List Int) (h : RowK .u8 wb a len l) (hn : a = none → cap = 0) (hc : len ≤ cap) (h1 : len ≤ 100000) (h2 : 0 ≤ s) (h3 : s ≤ len) (hk : 0 ≤ keep) (hkm : keep ≤ 9223372036854775807)
    (hl : leftOf len s keep = n) (hL : l.take n = L) (w : World) (hb : Below wb.heap.size wb w) :
    Calls Try.prog 14 #[.agg #[.slice a len cap, .int .i64 s], .int .i64 keep] w fun e w' =>
      ∃ a' cap', e = .returned (.tuple #[.agg #[.slice a' n cap', .int .i64 n], .int .i64 0]) ∧ RowK .u8 w' a' n L ∧ n ≤ cap' ∧ (a' = none → cap' = 0) ∧ (∀ x, a' = some x → w.heap.size ≤ x.block) ∧ Below w.heap.size w w' := by
  refine (crash_yes a len cap l s keep w (h.below hb) hn hc h1 h2 h3 hk hkm).mono ?_
  rw [hl, hL]
  rintro e w' ⟨a', cap', g1, g2, g3, g4, _, g6, g7⟩
  exact ⟨a', cap', g1, g2, g3, g4, g6, g7⟩

set_option maxRecDepth 100000 in
set_option maxHeartbeats 20000000 in
theorem walk_TapeSafe (w : World) (a : Option Addr) (len cap : Nat) (D : List Int) (h : RowK .i64 w a (4 * len) D) (hc : len ≤ cap) (hm : cap ≤ maxLen) (_ : a = none → cap = 0) (keep : Int) (wk : (Lit.int .i64 keep).wf = true) (again : Int) (wa : (Lit.int .i64 again).wf = true) :
    Calls Try.prog 7 #[.slice a len cap, .int .i64 keep, .int .i64 again] w fun e w' => e = .returned (.bool true) ∧ Below w.heap.size w w' := by
  have p1 := pickedOf_range keep 100 (by decide)
  have P1 := fun w => picked_any keep 100 w wk (by decide) (by decide)
  generalize pickedOf keep 100 = k at p1 P1
  obtain ⟨k, rfl⟩ : ∃ k' : Nat, k = (k' : Int) := ⟨k.toNat, by omega⟩
  have p2 := pickedOf_range again 100 (by decide)
  have P2 := fun w => picked_any again 100 w wa (by decide) (by decide)
  generalize pickedOf again 100 = j at p2 P2
  obtain ⟨j, rfl⟩ : ∃ j' : Nat, j = (j' : Int) := ⟨j.toNat, by omega⟩
  obtain ⟨_, p1⟩ := p1
  obtain ⟨_, p2⟩ := p2
  go_enter Try.func7, Try.ntmps7
  go_wp2_with fail
  refine (taped_any a len cap D _ h hc (by unfold maxLen at hm; exact hm)).mono ?_
  rintro e w1 ⟨a1, n, cap1, v1, rfl, r1, c1, hn1, m1, y1, o1, b1⟩
  have hm10 : min (len / 2) 10 ≤ 10 := by omega
  generalize min (len / 2) 10 = m at r1 o1 hm10
  have hg := recsOf_good D m
  have hrl := recsOf_len D m
  have hfl := framesOf_len (recsOf D m)
  have ht : ∀ z ∈ recsOf D m, z.length = 10 := fun z hz => (hg z hz).len
  obtain ⟨ar, capr, rfl, rr, hcr, _, _, _⟩ := RecRow.ofOwns o1 hrl ht
  have hn := r1.len_eq
  rw [hn, hrl] at hfl
  generalize framesOf (recsOf D m) = T at r1 hn
  clear hg ht o1 rr h hc
  go_wp2_with fail
  obtain ⟨W, hW, t0, B0, S0⟩ : ∃ W, W = w1.alloc (.cells #[.slice a1 n cap1, .int .i64 0] 35) ∧ tapeBlock W w1.heap.size a1 n cap1 0 ∧ Below w1.heap.size w1 W ∧ W.heap.size = w1.heap.size + 1 := ⟨_, rfl, tapeBlock.new w1 a1 n cap1 0, below1 _ _, alloc_size _ _⟩
  rw [← hW]
  clear hW
  refine (sync_yes a1 n cap1 T 0 _ (r1.below B0) hn1 (by omega) (by omega) (by omega)).mono ?_
  rintro e w2 ⟨a2, cap2, rfl, r2, c2, hn2, m2, y2, b2⟩
  have t2 := t0.below b2 t0.lt
  have q2 := (r1.below B0).below b2
  have B2 := Below.next (Below.next b1 B0) b2
  clear t0 B0 b2 r1 b1 S0
  go_wp2_with fail
  obtain ⟨W3, hW3, s3, B3, S3⟩ : ∃ W, W = w2.alloc (.cells #[.slice a2 n cap2, .int .i64 n] 35) ∧ tapeBlock W w2.heap.size a2 n cap2 n ∧ Below w2.heap.size w2 W ∧ W.heap.size = w2.heap.size + 1 := ⟨_, rfl, tapeBlock.new w2 a2 n cap2 n, below1 _ _, alloc_size _ _⟩
  rw [← hW3]
  clear hW3
  have t3 := t2.below B3 t2.lt
  have q3 := q2.below B3
  have r3 := r2.below B3
  have B3' := Below.next B2 B3
  clear t2 q2 r2 B2 B3 S3
  -- the first crash
  have HC := hide (crash_to W3 a2 n cap2 T n k n T r3 hn2 c2 (by omega) (by omega) (by omega) (by omega) (by omega) (by unfold leftOf; rw [if_neg (by omega)]; omega) (List.take_of_length_le (by omega)))
  have RZ := hide (zero_tape W3)
  have k0 := s3.cell0
  have k1 := s3.cell1
  have hS3 := s3.lt
  go_cut [12, 13] (fun p e wx => ∃ X a' cap', p = .pointer (some ⟨X, 0, none⟩) ∧ e = .int .i64 0 ∧ Made W3 wx X a' cap' n T)
  case first =>
    first | go_region_with (first | (go_at_call 8; refine (P1 _).mono ?_; rintro e w2 ⟨rfl, rfl⟩) | (go_at_call 14; refine (unhide HC _ (by first | exact drew_below _ _ | exact Below.next (below1 _ _) (drew_below _ _))).mono ?_; rintro e w4 ⟨a4, cap4, rfl, r4, l4, n4, x4, bb⟩; first | (have b4 : Below W3.heap.size W3 w4 := Below.next (drew_below _ _) bb; clear bb x4) | (have b4 : Below W3.heap.size W3 w4 := Below.next (Below.next (below1 _ _) (drew_below _ _)) bb; have x5 : ∀ x, a4 = some x → W3.heap.size + 1 ≤ x.block := (fun x hx => by have := x4 x hx; simpa using this); have rz : tapeBlock w4 W3.heap.size none 0 0 0 := ((unhide RZ).below bb (unhide RZ).lt); have rzf := rz.free; have z0 := rz.cell0; have z1 := rz.cell1; clear bb x4))) | fail
    all_goals (try go_wp2_with fail)
    all_goals go_meet
    all_goals first
      | (have m := Made.old r4 b4 rz x5 l4 n4; exact ⟨_, _, _, rfl, rfl, m⟩)
      | (have m := Made.new r4 b4 l4 n4; exact ⟨_, _, _, rfl, rfl, m⟩)
  case rest =>
    obtain ⟨X, a4, cap4, rfl, rfl, M⟩ := hcut
    obtain ⟨W4, hW4⟩ : ∃ W4, W4 = wc := ⟨_, rfl⟩
    subst hW4
    have t4 := t3.below M.bel t3.lt
    have q4 := q3.below M.bel
    have B4 := Below.next B3' M.bel
    clear HC RZ k0 k1 hS3 s3 r3 t3 q3
    -- the second crash
    obtain ⟨mm, hmm⟩ : ∃ mm, mm = min k n := ⟨_, rfl⟩
    have hmn : mm ≤ n := by omega
    obtain ⟨L, hL⟩ : ∃ L, T.take mm = L := ⟨_, rfl⟩
    have HC := hide (crash_to W4 a1 n cap1 T 0 k mm L q4 hn1 c1 (by omega) (by omega) (by omega) (by omega) (by omega) (by unfold leftOf; split <;> omega) hL)
    have RZ := hide (zero_tape W4)
    have HMM := hide hmm
    have hLl : L.length = mm := by rw [← hL, List.length_take]; omega
    clear hmm hL
    have k0 := t4.cell0
    have k1 := t4.cell1
    have hS4 := t4.lt
    go_wp2_with fail
    go_cut [14, 15] (fun p e wx => ∃ X a' cap', p = .pointer (some ⟨X, 0, none⟩) ∧ e = .int .i64 0 ∧ Made W4 wx X a' cap' mm L)
    case first =>
      first | go_region_with (first | (go_at_call 8; refine (P1 _).mono ?_; rintro e w2 ⟨rfl, rfl⟩) | (go_at_call 14; refine (unhide HC _ (by first | exact drew_below _ _ | exact Below.next (below1 _ _) (drew_below _ _))).mono ?_; rintro e w4 ⟨a4, cap4, rfl, r4, l4, n4, x4, bb⟩; first | (have b4 : Below W4.heap.size W4 w4 := Below.next (drew_below _ _) bb; clear bb x4) | (have b4 : Below W4.heap.size W4 w4 := Below.next (Below.next (below1 _ _) (drew_below _ _)) bb; have x5 : ∀ x, a4 = some x → W4.heap.size + 1 ≤ x.block := (fun x hx => by have := x4 x hx; simpa using this); have rz : tapeBlock w4 W4.heap.size none 0 0 0 := ((unhide RZ).below bb (unhide RZ).lt); have rzf := rz.free; have z0 := rz.cell0; have z1 := rz.cell1; clear bb x4))) | fail
      all_goals (try go_wp2_with fail)
      all_goals go_meet
      all_goals first
        | (have m := Made.old r4 b4 rz x5 l4 n4; exact ⟨_, _, _, rfl, rfl, m⟩)
        | (have m := Made.new r4 b4 l4 n4; exact ⟨_, _, _, rfl, rfl, m⟩)
    case rest =>
      obtain ⟨Y, a5, cap5, rfl, rfl, M5⟩ := hcut
      obtain ⟨W5, hW5⟩ : ∃ W5, W5 = wc := ⟨_, rfl⟩
      subst hW5
      have t5 := t4.below M5.bel t4.lt
      have q5 := q4.below M5.bel
      have x5 := M.blk.below M5.bel M.blk.lt
      have xr5 := M.row.below M5.bel
      have B5 := Below.next B4 M5.bel
      clear HC RZ k0 k1 hS4 t4 q4 M B4
      -- the third crash
      have HC := hide (crash_to W5 a5 mm cap5 L mm j mm L M5.row M5.nil M5.le (by omega) (by omega) (by omega) (by omega) (by omega) (by unfold leftOf; rw [if_neg (by omega)]; omega) (List.take_of_length_le (by omega)))
      have RZ := hide (zero_tape W5)
      have k0 := M5.blk.cell0
      have k1 := M5.blk.cell1
      have hS5 := M5.blk.lt
      go_wp2_with fail
      go_cut [16, 17] (fun p e wx => ∃ X a' cap', p = .pointer (some ⟨X, 0, none⟩) ∧ e = .int .i64 0 ∧ Made W5 wx X a' cap' mm L)
      case first =>
        first | go_region_with (first | (go_at_call 8; refine (P2 _).mono ?_; rintro e w2 ⟨rfl, rfl⟩) | (go_at_call 14; refine (unhide HC _ (by first | exact drew_below _ _ | exact Below.next (below1 _ _) (drew_below _ _))).mono ?_; rintro e w4 ⟨a4, cap4, rfl, r4, l4, n4, x4, bb⟩; first | (have b4 : Below W5.heap.size W5 w4 := Below.next (drew_below _ _) bb; clear bb x4) | (have b4 : Below W5.heap.size W5 w4 := Below.next (Below.next (below1 _ _) (drew_below _ _)) bb; have x5 : ∀ x, a4 = some x → W5.heap.size + 1 ≤ x.block := (fun x hx => by have := x4 x hx; simpa using this); have rz : tapeBlock w4 W5.heap.size none 0 0 0 := ((unhide RZ).below bb (unhide RZ).lt); have rzf := rz.free; have z0 := rz.cell0; have z1 := rz.cell1; clear bb x4))) | fail
        all_goals (try go_wp2_with fail)
        all_goals go_meet
        all_goals first
          | (have m := Made.old r4 b4 rz x5 l4 n4; exact ⟨_, _, _, rfl, rfl, m⟩)
          | (have m := Made.new r4 b4 l4 n4; exact ⟨_, _, _, rfl, rfl, m⟩)
      case rest =>
        obtain ⟨Z, a6, cap6, rfl, rfl, M6⟩ := hcut
        obtain ⟨W6, hW6⟩ : ∃ W6, W6 = wc := ⟨_, rfl⟩
        subst hW6
        have t6 := t5.below M6.bel t5.lt
        have q6 := q5.below M6.bel
        have x6 := x5.below M6.bel x5.lt
        have xr6 := xr5.below M6.bel
        have y6 := M5.blk.below M6.bel M5.blk.lt
        have yr6 := M5.row.below M6.bel
        have z6 := M6.blk
        have zr6 := M6.row
        have B6 := hide (Below.next B5 M6.bel)
        clear HC RZ k0 k1 hS5 t5 q5 x5 xr5 M5 M6 B5
        have k0 := t6.cell0
        have k1 := x6.cell0
        have k2 := y6.cell0
        have k3 := y6.cell1
        have k4 := z6.cell0
        have cs1 : ∀ q, (convert 33 9 (.slice a4 n cap4)).run Try.prog (W6.drewN q) = .ok (.string (strOfNums T)) (W6.drewN q) := fun q => run_string_row (P := Try.prog) 33 5 Try.underlying33 Try.underlying5 (xr6.below (belowN _ q)) 9 Try.underlying9
        have cs2 : ∀ q, (convert 33 9 (.slice a1 n cap1)).run Try.prog (W6.drewN q) = .ok (.string (strOfNums T)) (W6.drewN q) := fun q => run_string_row (P := Try.prog) 33 5 Try.underlying33 Try.underlying5 (q6.below (belowN _ q)) 9 Try.underlying9
        have cs3 : ∀ q, (convert 33 9 (.slice a5 mm cap5)).run Try.prog (W6.drewN q) = .ok (.string (strOfNums L)) (W6.drewN q) := fun q => run_string_row (P := Try.prog) 33 5 Try.underlying33 Try.underlying5 (yr6.below (belowN _ q)) 9 Try.underlying9
        have cs4 : ∀ q, (convert 33 9 (.slice a6 mm cap6)).run Try.prog (W6.drewN q) = .ok (.string (strOfNums L)) (W6.drewN q) := fun q => run_string_row (P := Try.prog) 33 5 Try.underlying33 Try.underlying5 (zr6.below (belowN _ q)) 9 Try.underlying9
        have ee1 : ((strOfNums T).toList == (strOfNums T).toList) = true := by simp
        have ee2 : ((strOfNums L).toList == (strOfNums L).toList) = true := by simp
        have em : ((mm : Int) == (mm : Int)) = true := by simp
        have P3 : ∀ q, Calls Try.prog 8 #[.int .i64 keep, .int .i64 100] (W6.drewN q) fun e w' => e = .returned (.int .i64 (k : Int)) ∧ w' = W6.drewN q := fun q => (P1 _).mono fun e w' hh => ⟨hh.1, hh.2.symm⟩
        clear t6 q6 x6 xr6 y6 yr6 z6 zr6 P1 P2
        have hmv := unhide HMM
        by_cases hm0 : m = 0
        · subst hm0
          obtain rfl : n = 0 := by omega
          obtain rfl : mm = 0 := by omega
          clear hmv HMM
          by_cases hk0 : k = 0
          · subst hk0
            go_wp2_with fail
            go_quiet (first | (go_at_call 8; refine Calls.quiet_of_same (P3 _)))
            go_wp2
            go_ret
            exact ⟨rfl, Below.next (unhide B6) (belowN _ _)⟩
          · have hk1 : 0 < k := by omega
            go_wp2_with fail
            go_quiet (first | (go_at_call 8; refine Calls.quiet_of_same (P3 _)))
            go_wp2
            go_ret
            exact ⟨rfl, Below.next (unhide B6) (belowN _ _)⟩
        · have hmN : 0 < m := by omega
          have hnN : 0 < n := by omega
          have hdm : decide (0 < m) = true := by simpa using hmN
          have hdn : decide (0 < n) = true := by simpa using hnN
          by_cases hnk : n < k
          · obtain rfl : mm = n := by omega
            clear hmv HMM
            go_wp2_with fail
            go_quiet (first | (go_at_call 8; refine Calls.quiet_of_same (P3 _)))
            go_wp2
            go_ret
            exact ⟨rfl, Below.next (unhide B6) (belowN _ _)⟩
          · obtain rfl : mm = k := by omega
            clear hmv HMM
            go_wp2_with fail
            go_quiet (first | (go_at_call 8; refine Calls.quiet_of_same (P3 _)))
            go_wp2
            go_ret
            exact ⟨rfl, Below.next (unhide B6) (belowN _ _)⟩

set_option linter.unusedVariables false in
set_option maxRecDepth 100000 in
theorem lifted_TapeSafe (os : Os) (started : os.Started) (H : Type) (enc : TypeId × Value → H) :
    ReturnsInHanded {} Try.checked os 7 .any (Rows.tapeSafeSpec.pre6 enc Try.prog Try.f7 Rows.tapeSafeRow.domain false) (Rows.tapeSafeSpec.post enc Try.prog Try.f7 false true false false) := by
  refine returnsInHanded_of_change_sized (C := Try.checked) own started (by kernel_rfl) Try.func7
    (ChangeSpec.witness6 (enc := enc) (C := Try.checked) false ⟨#[], #[.slice none 0 0, .int .i64 0, .int .i64 0], []⟩ 8 (by kernel_rfl) (by kernel_rfl) (by kernel_rfl) (by kernel_rfl)) ?_
  intro W base args ds gs before hval0 hW hcnd hsz0 _
  have hval : ∀ (j : Nat) t v, Try.f7.params[j]? = some t → args[j]? = some v → Value.okWide Try.prog W .any base t v := hval0
  have hsz : (DataW.weightsEach Try.prog (Try.f7.params.toList ++ Rows.tapeSafeSpec.plain.varTypes Try.prog) (ds ++ gs)).all (· ≤ reachBytes) = true := hsz0
  have hW' := hW
  obtain ⟨p, q, hA0, hV, rfl, hfz, hnd⟩ := hW
  have hA : DataW.TrodAll enc Try.prog W 0 (fun _ => true) true Try.f7.params.toList args.toList ds p := hA0
  rw [Try.params7] at hA hval hsz
  have hK := hA
  have hlt : ∀ x ∈ p, x.block < W.heap.size := fun x hx => hW'.lt x (by simp [hx])
  obtain ⟨v0, vs0, d0, ds0, p0, q0, hargs, rfl, rfl, h0, r0⟩ := trodAll_cons hA
  obtain ⟨v1, vs1, d1, ds1, p1, q1, rfl, rfl, rfl, h1, r1⟩ := trodAll_cons r0
  obtain ⟨v2, vs2, d2, ds2, p2, q2, rfl, rfl, rfl, h2, r2⟩ := trodAll_cons r1
  obtain ⟨rfl, rfl, rfl⟩ := trodAll_nil r2
  obtain rfl : args = #[v0, v1, v2] := by cases args; simp_all
  obtain ⟨rfl, rfl⟩ := trodVars_none hV
  obtain ⟨a0, len0, cap0, l0, rfl, w0, lc0, cm0, na0⟩ := open_Deeds (hval 0 30 v0 rfl rfl) h0
  obtain ⟨a1, rfl, rfl, rfl, w1⟩ := open_int Try.underlying3 (hval 1 3 v1 rfl rfl) h1
  obtain ⟨a2, rfl, rfl, rfl, w2⟩ := open_int Try.underlying3 (hval 2 3 v2 rfl rfl) h2
  clear hA0 hval0 hsz0
  refine (walk_TapeSafe W a0 len0 cap0 l0 w0 lc0 cm0 na0 a1 w1 a2 w2).mono fun e W' ⟨he, bel⟩ => ?_
  subst he
  exact ⟨_, rfl, _, _, _, [], _, [], hW', trodAll_mk1 (shut_bool Try.underlying4 _), trodAll_stays laidOut (List.forall_mem_cons.2 ⟨⟨by kernel_rfl, of_decide_eq_true (by kernel_rfl)⟩, List.forall_mem_cons.2 ⟨⟨by kernel_rfl, of_decide_eq_true (by kernel_rfl)⟩, List.forall_mem_cons.2 ⟨⟨by kernel_rfl, of_decide_eq_true (by kernel_rfl)⟩, by intro t ht; cases ht⟩⟩⟩) hK bel hlt, rfl, bel.frame _, fun h => by cases h⟩

theorem tapeSafe_holds : Rows.TapeSafeSaid :=
  OpenClaim.holds_of_wide 7 Try.f7 rfl rfl rfl rfl rfl rfl rfl ⟨rfl, rfl, rfl, rfl, rfl⟩ rfl rfl rfl rfl rfl (by kernel_rfl) Try.func7 (by kernel_rfl)
    (of_decide_eq_true (by kernel_rfl)) (by unfold Func.isWrapper; first | (rw [if_pos (by decide +kernel)]; kernel_rfl) | (rw [if_neg (by decide +kernel)]; exact ⟨rfl, rfl⟩))
    (fun os started H enc _ => lifted_TapeSafe os started H enc)
#print axioms tapeSafe_holds
end Go.Proofs.Ythbjnjbcmcollab
