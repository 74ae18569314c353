/- Walks of the document's answer's QueueFault. -/
import Derived.Test.YtcdopnkabbfooaaGreatQuF
import Derived.Test.YtcdopnkabbfooaaGreatWdH
namespace Go.Proofs.YtcdopnkabbfooaaGreat
open Go.RowKit

theorem qin_any (n m : Int) (w : World) : Calls Tryz.prog 64 #[.int .i64 n, .int .i64 0, .int .i64 m] w fun e w' => e = .returned (.bool (inR n m)) ∧ w' = w := by
  cases h : inR n m with
  | true =>
    have h' := inR_iff.1 h
    exact (in_yes n 0 m w h'.1 h'.2).mono fun _ _ ⟨a, b⟩ => ⟨a, b.symm⟩
  | false => exact (in_no n 0 m w (inR_not.1 h)).mono fun _ _ ⟨a, b⟩ => ⟨a, b.symm⟩

theorem qin_is {n m : Int} {b : Bool} (h : inR n m = b) (w : World) : Calls Tryz.prog 64 #[.int .i64 n, .int .i64 0, .int .i64 m] w fun e w' => e = .returned (.bool b) ∧ w' = w := by
  rw [← h]; exact qin_any n m w

/-- the Nos of the first messages: those that are ready, then those that are leased. -/
def nosTo (R : List Int) (rn : Nat) (L : List Int) (k : Nat) : List Int := readyNos R rn ++ leaseNos L k
theorem nosTo_len (R : List Int) (rn : Nat) (L : List Int) (k : Nat) : (nosTo R rn L k).length = rn + k := by simp [nosTo, leaseNos_len, readyNos_len]
theorem nosTo_succ (R : List Int) (rn : Nat) (L : List Int) (k : Nat) : nosTo R rn L (k + 1) = nosTo R rn L k ++ [L.getD (4 * k + 2) 0] := by simp [nosTo, leaseNos_succ]
theorem nosTo_zero (R : List Int) (rn : Nat) (L : List Int) : nosTo R rn L 0 = readyNos R rn := by simp [nosTo, leaseNos]
theorem nosTo_dup (R : List Int) (rn : Nat) (L : List Int) (ln : Nat) : (nosTo R rn L ln).Nodup ↔ dupB (nosOf L ln R rn) = false := by
  unfold dupB nosTo nosOf
  rw [decide_eq_false_iff_not, Decidable.not_not]
  exact List.perm_append_comm.nodup_iff
/-- what two loops ask of a list of numbers, up to the place i, and there up to k. -/
def apartTo (l : List Int) (i : Nat) : Prop := ∀ a b, a < b → b < i → l.getD a 0 ≠ l.getD b 0
theorem apartTo_all (l : List Int) : apartTo l l.length ↔ l.Nodup := by
  constructor
  · intro h
    refine List.pairwise_iff_getElem.2 fun i j hi hj hij => ?_
    have := h i j hij hj
    rw [List.getD_eq_getElem?_getD, List.getD_eq_getElem?_getD, List.getElem?_eq_getElem hi, List.getElem?_eq_getElem hj] at this
    exact this
  · intro h a b hab hb
    have := List.pairwise_iff_getElem.1 h a b (by omega) hb hab
    rw [List.getD_eq_getElem?_getD, List.getD_eq_getElem?_getD, List.getElem?_eq_getElem (by omega), List.getElem?_eq_getElem hb]
    exact this

theorem nosTo_wf (R : List Int) (rn : Nat) (L : List Int) (ln : Nat) (hR : ∀ u ∈ R, (Lit.int .i64 u).wf = true) (hL : ∀ u ∈ L, (Lit.int .i64 u).wf = true) : ∀ u ∈ nosTo R rn L ln, (Lit.int .i64 u).wf = true := by
  intro u hu
  simp only [nosTo, readyNos, leaseNos, List.mem_append, List.mem_map] at hu
  rcases hu with ⟨i, _, rfl⟩ | ⟨i, _, rfl⟩
  · exact getD_fits R hR _
  · exact getD_fits L hL _
/-- the lines that are asked of a queue, one by one. -/
theorem not_ok_count {ep nx gv : Int} {R : List Int} {rn : Nat} {L : List Int} {ln : Nat} {wt : Nat → Int} {wz : Nat → Nat → Bool} (h : countB ep nx gv rn ln = false) : ¬ QueueOk ep nx gv R rn L ln wt wz :=
  fun h' => by rw [countB_iff.2 h'.count] at h; cases h
noncomputable def okNum (ep nx gv : Int) (R : List Int) (rn : Nat) (L : List Int) (ln : Nat) (wt : Nat → Int) (wz : Nat → Nat → Bool) : Int := @ite _ (QueueOk ep nx gv R rn L ln wt wz) (Classical.propDecidable _) 0 6
theorem okNum_yes {ep nx gv : Int} {R : List Int} {rn : Nat} {L : List Int} {ln : Nat} {wt : Nat → Int} {wz : Nat → Nat → Bool} (h : QueueOk ep nx gv R rn L ln wt wz) : okNum ep nx gv R rn L ln wt wz = 0 := by
  unfold okNum; exact @if_pos _ (Classical.propDecidable _) h _ _ _
theorem okNum_no {ep nx gv : Int} {R : List Int} {rn : Nat} {L : List Int} {ln : Nat} {wt : Nat → Int} {wz : Nat → Nat → Bool} (h : ¬ QueueOk ep nx gv R rn L ln wt wz) : okNum ep nx gv R rn L ln wt wz = 6 := by
  unfold okNum; exact @if_neg _ (Classical.propDecidable _) h _ _ _
theorem ret_okNum {ep nx gv : Int} {R : List Int} {rn : Nat} {L : List Int} {ln : Nat} {wt : Nat → Int} {wz : Nat → Nat → Bool} {z : Int} (h : z = okNum ep nx gv R rn L ln wt wz) : Ending.returned (.int .i64 z) = .returned (.int .i64 (okNum ep nx gv R rn L ln wt wz)) := by rw [h]

set_option maxRecDepth 20000 in
set_option maxHeartbeats 8000000 in
theorem queueFault_any (ep nx gv : Int) (ra la : Option Addr) (rn rc ln lc : Nat) (R L : List Int) (ws : Nat → Value) (wt : Nat → Int) (wz : Nat → Nat → Bool) (w : World) (hR : RowK .i64 w ra (2 * rn) R) (hL : RowK .i64 w la (4 * ln) L) (hW : Wins ws wt wz)
    (hs : rn + ln ≤ 9223372036854775807) :
    Calls Tryz.prog 88 #[qVal ep nx gv (.slice ra rn rc) (.slice la ln lc) ws] w fun e w' => e = .returned (.int .i64 (okNum ep nx gv R rn L ln wt wz)) ∧ Below w.heap.size w w' := by
  obtain ⟨g0, g1, g2, g3, g4⟩ := qCells_heads ep nx gv (.slice ra rn rc) (.slice la ln lc) ws
  cases h0 : inR ep 1048576 with
  | false =>
    go_enter Tryz.func88, Tryz.ntmps88
    go_wp2_with (go_at_call 64; refine (qin_any _ _ _).mono ?_; rintro e w1 ⟨rfl, rfl⟩)
    go_ret
    exact ⟨ret_okNum (okNum_no (not_ok_count (by simp [countB, h0]))).symm, below1 _ _⟩
  | true => cases h1 : inR nx 1073741824 with
    | false =>
      go_enter Tryz.func88, Tryz.ntmps88
      go_wp2_with (go_at_call 64; refine (qin_any _ _ _).mono ?_; rintro e w1 ⟨rfl, rfl⟩)
      go_ret
      exact ⟨ret_okNum (okNum_no (not_ok_count (by simp [countB, h1]))).symm, below1 _ _⟩
    | true => cases h2 : inR gv 1073741824 with
      | false =>
        go_enter Tryz.func88, Tryz.ntmps88
        go_wp2_with (go_at_call 64; refine (qin_any _ _ _).mono ?_; rintro e w1 ⟨rfl, rfl⟩)
        go_ret
        exact ⟨ret_okNum (okNum_no (not_ok_count (by simp [countB, h2]))).symm, below1 _ _⟩
      | true =>
        by_cases h3 : rn + ln ≤ 500
        case neg =>
          have h3' : ¬ ((rn : Int) + (ln : Int) ≤ 500) := by omega
          go_enter Tryz.func88, Tryz.ntmps88
          go_wp2_with (go_at_call 64; refine (qin_any _ _ _).mono ?_; rintro e w1 ⟨rfl, rfl⟩)
          go_ret
          exact ⟨ret_okNum (okNum_no (not_ok_count (by simp [countB, h3]))).symm, below1 _ _⟩
        have h3' : ((rn : Int) + (ln : Int) ≤ 500) := by omega
        have hcnt : CountOk ep nx gv rn ln := countB_iff.1 (by simp [countB, h0, h1, h2, h3])
        have hn0 := hcnt.n0
        have hn1 := hcnt.n1
        have hg0 := hcnt.g0
        have hg1 := hcnt.g1
        go_enter Tryz.func88, Tryz.ntmps88
        go_wp2_with (go_at_call 64; refine (qin_any _ _ _).mono ?_; rintro e w1 ⟨rfl, rfl⟩)
        obtain ⟨W, hW', qb0, B0, S0⟩ := one_q w ep nx gv (.slice ra rn rc) (.slice la ln lc) ws
        rw [← hW']
        clear hW' g0 g1 g2 g3 g4 h0 h1 h2 h3'
        go_loopw [3] (fun i wr => ∃ k : Nat, k ≤ 4 ∧ i = .int .i64 k ∧ (∀ p, p < k → WinOk (wt p) (wz p)) ∧ Below (w.heap.size + 1) W wr) (fun i _ => 4 - (intOf i).toNat)
        case atStart => exact ⟨0, by omega, rfl, fun p hp => by omega, Below.refl _ _⟩
        case round =>
          obtain ⟨k, hk, rfl, hi, hb⟩ := hrel
          have HB := veil hb
          have HI := veil hi
          by_cases hlt : k < 4
          · have qb := qb0.below hb (by omega)
            have kc : ∀ j, j < 9 → wr.cell? ⟨w.heap.size, 5 + k * 9 + j, none⟩ = some (ws (9 * k + j)) := fun j hj => by
              rw [qb.at, show 5 + k * 9 + j = 5 + (9 * k + j) by omega, qCells_ws _ _ _ _ _ _ _ (by omega)]
            obtain ⟨e0, e1⟩ := hW k hlt
            have m0 : wr.cell? ⟨w.heap.size, 5 + k * 9, none⟩ = some (.int .i64 (wt k)) := by rw [← e0]; exact kc 0 (by omega)
            have m1 : wr.cell? ⟨w.heap.size, 5 + k * 9 + 1, none⟩ = some (.bool (wz k 0)) := by rw [← e1 0 (by omega)]; exact kc 1 (by omega)
            have m2 : wr.cell? ⟨w.heap.size, 5 + k * 9 + 2, none⟩ = some (.bool (wz k 1)) := by rw [← e1 1 (by omega)]; exact kc 2 (by omega)
            have m3 : wr.cell? ⟨w.heap.size, 5 + k * 9 + 3, none⟩ = some (.bool (wz k 2)) := by rw [← e1 2 (by omega)]; exact kc 3 (by omega)
            have m4 : wr.cell? ⟨w.heap.size, 5 + k * 9 + 4, none⟩ = some (.bool (wz k 3)) := by rw [← e1 3 (by omega)]; exact kc 4 (by omega)
            have m5 : wr.cell? ⟨w.heap.size, 5 + k * 9 + 5, none⟩ = some (.bool (wz k 4)) := by rw [← e1 4 (by omega)]; exact kc 5 (by omega)
            have m6 : wr.cell? ⟨w.heap.size, 5 + k * 9 + 6, none⟩ = some (.bool (wz k 5)) := by rw [← e1 5 (by omega)]; exact kc 6 (by omega)
            have m7 : wr.cell? ⟨w.heap.size, 5 + k * 9 + 7, none⟩ = some (.bool (wz k 6)) := by rw [← e1 6 (by omega)]; exact kc 7 (by omega)
            have m8 : wr.cell? ⟨w.heap.size, 5 + k * 9 + 8, none⟩ = some (.bool (wz k 7)) := by rw [← e1 7 (by omega)]; exact kc 8 (by omega)
            clear kc e0 e1 qb hi hb hR hL
            by_cases hok : WinOk (wt k) (wz k)
            · go_wp2_with (go_at_call 100; refine (windowFault_yes _ _ _ hok).mono ?_; rintro e w1 ⟨rfl, b1⟩)
              go_roundw
              case rel =>
                refine ⟨k + 1, by omega, by go_num, fun p hp => ?_, (unveil HB).trans (b1.mono (by have := (unveil HB).size; omega))⟩
                rcases Nat.lt_or_ge p k with h1 | h1
                · exact unveil HI p h1
                · obtain rfl : p = k := by omega
                  exact hok
              case measure => simp [intOf]; omega
            · go_wp2_with (go_at_call 100; refine (windowFault_no _ _ _ hok).mono ?_; rintro e w1 ⟨rfl, b1⟩)
              go_ret
              exact ⟨ret_okNum (okNum_no (fun h => hok (h.wins k hlt))).symm, B0.trans (((unveil HB).trans (b1.mono (by have := (unveil HB).size; omega))).mono (by omega))⟩
          · have HWI : Hid (∀ p, p < 4 → WinOk (wt p) (wz p)) := veil (fun p hp => hi p (by omega))
            clear hi HI
            have qb := qb0.below hb (by omega)
            obtain ⟨c0, c1, c2, c3, c4⟩ := qb.heads
            go_wp2_with fail
            clear c0 c1 c2 c3 c4 qb
            obtain ⟨i0, hi0, hz0, hz1, hz2⟩ := info_of Tryz.infoInt
            go_loopw [4, 5] (fun v i wr => ∃ k : Nat, k ≤ rn ∧ i = .int .i64 k ∧ (∀ p, p < k → ReadyOk nx R p) ∧ wr.ownsRow (w.heap.size + 1) 3 1 v k ((readyNos R k).map (Value.int .i64)) ∧ Below (w.heap.size + 1) W wr) (fun _ i _ => rn - (intOf i).toNat)
            case atStart => exact ⟨0, by omega, rfl, fun p hp => by omega, World.ownsRow_nil _ _ _ _, hb⟩
            case round =>
              obtain ⟨k, hk, rfl, hi, hown, hbB⟩ := hrel
              clear hb HB
              have HI := veil hi
              have HB := veil hbB
              have hsz : w.heap.size + 1 ≤ wr.heap.size := by have := hbB.size; omega
              have qb := qb0.below hbB (by omega)
              obtain ⟨c0, c1, c2, c3, c4⟩ := qb.heads
              have rR := hR.below (B0.trans (hbB.mono (by omega)))
              have hb2 : Hid (Below w.heap.size w wr) := veil (B0.trans (hbB.mono (by omega)))
              clear hi hbB
              by_cases hlt : k < rn
              · obtain ⟨b, off, rfl⟩ := hR.form (by omega)
                have hR2 := veil hR
                have hL2 := veil hL
                obtain ⟨x0, hx0⟩ : ∃ x, x = R.getD (2 * k) 0 := ⟨_, rfl⟩
                obtain ⟨x1, hx1⟩ : ∃ x, x = R.getD (2 * k + 1) 0 := ⟨_, rfl⟩
                have k0 : wr.cell? ⟨b, off + k * 2, none⟩ = some (.int .i64 x0) := by rw [Nat.mul_comm k 2, hx0]; exact rR.at (2 * k) (by omega)
                have k1 : wr.cell? ⟨b, off + k * 2 + 1, none⟩ = some (.int .i64 x1) := by rw [Nat.mul_comm k 2, hx1]; exact rR.at (2 * k + 1) (by omega)
                have hne : w.heap.size ≠ wr.heap.size := by omega
                have hwl : w.heap.size < wr.heap.size := by omega
                have hbl : b < wr.heap.size := rR.lt (by omega)
                have hbn : b ≠ wr.heap.size := by omega
                have X : Hid (x0 = R.getD (2 * k) 0 ∧ x1 = R.getD (2 * k + 1) 0) := veil ⟨hx0, hx1⟩
                have HO := veil hown
                have HR2 := veil rR
                clear hx0 hx1 qb hR hL rR
                cases ha : inR x0 (nx - 1) with
                | false =>
                  go_wp2_with fail
                  go_big_quiet (first | (go_at_call 64; refine Calls.quiet_of_same (qin_is (by assumption) _)))
                  go_wp2
                  go_ret
                  exact ⟨ret_okNum (okNum_no (fun h => by have := (h.hold.ready k hlt).come; rw [← (unveil X).1, ha] at this; simp at this)).symm, Below.next (unveil hb2) (Below.next (below1 _ _) (belowN _ _))⟩
                | true => cases hc : inR x1 1000000 with
                  | false =>
                    go_wp2_with fail
                    go_big_quiet (first | (go_at_call 64; refine Calls.quiet_of_same (qin_is (by assumption) _)))
                    go_wp2
                    go_ret
                    exact ⟨ret_okNum (okNum_no (fun h => by have := (h.hold.ready k hlt).come; rw [← (unveil X).2, hc] at this; simp at this)).symm, Below.next (unveil hb2) (Below.next (below1 _ _) (belowN _ _))⟩
                  | true =>
                    have hcome : Hid ((inR (R.getD (2 * k) 0) (nx - 1) && inR (R.getD (2 * k + 1) 0) 1000000) = true) := veil (by rw [← (unveil X).1, ← (unveil X).2, ha, hc]; rfl)
                    by_cases hz : 0 < k
                    · obtain ⟨m, rfl⟩ : ∃ m, k = m + 1 := ⟨k - 1, by omega⟩
                      obtain ⟨y, hy⟩ : ∃ y, y = R.getD (2 * m) 0 := ⟨_, rfl⟩
                      have ky : wr.cell? ⟨b, off + m * 2, none⟩ = some (.int .i64 y) := by rw [Nat.mul_comm m 2, hy]; exact (unveil HR2).at (2 * m) (by omega)
                      have HY : Hid (lastR R (m + 1) = y) := veil (by rw [hy]; rfl)
                      have hml : (m : Int) < (rn : Int) := by omega
                      clear hy
                      go_wp2_with fail
                      by_cases hr : x0 ≤ y
                      · go_big_quiet (first | (go_at_call 64; refine Calls.quiet_of_same (qin_is (by assumption) _)))
                        go_wp2
                        go_ret
                        exact ⟨ret_okNum (okNum_no (fun h => by have := (h.hold.ready (m + 1) hlt).rise; rw [← (unveil X).1, unveil HY] at this; omega)).symm, Below.next (unveil hb2) (Below.next (below1 _ _) (belowN _ _))⟩
                      · go_big_quiet (first | (go_at_call 64; refine Calls.quiet_of_same (qin_is (by assumption) _)))
                        clear ky hml
                        obtain ⟨W9, h9⟩ : ∃ W9, W9 = (wr.alloc (.cells #[.int .i64 x0, .int .i64 x1] 131)).drewN nq := ⟨_, rfl⟩
                        rw [← h9]
                        have o9 : W9.ownsRow (w.heap.size + 1) 3 1 u4 (m + 1) ((readyNos R ((m + 1))).map (Value.int .i64)) := by rw [h9]; exact (unveil HO).alloc _
                        have l9 : W9.cell? ⟨wr.heap.size, 0, none⟩ = some (.int .i64 x0) := by rw [h9]; simp
                        have b9 : Below (w.heap.size + 1) W W9 := by rw [h9]; exact (unveil HB).trans ((Below.next (below1 _ _) (belowN _ _)).mono hsz)
                        have z9 : w.heap.size + 1 ≤ W9.heap.size := by have := b9.size; omega
                        have H9 := veil b9
                        clear h9 b9 HO k0 k1 c0 c1 c2 c3 c4 hne hwl hbl hbn ha hc
                        go_wp2_with (at_builtin; refine wpList_append_own _ rfl _ _ 138 rfl (w.heap.size + 1) 3 i0 (.int .i64 0) 1 8 Tryz.underlying138 hi0 hz0 hz1 hz2 rfl (by decide) _ _ _ rfl (o9.alloc _) ⟨W9.heap.size, 0, none⟩ 1 1 [.int .i64 x0] rfl rfl (cell_one_new _ _ _) (ints_oneCell .i64 [x0]) (by unfold maxLen; omega) (by omega) (by simp; omega) ?_; intro v' w4 hown4 hgrow4 _)
                        have R1 : Hid (w4.ownsRow (w.heap.size + 1) 3 1 v' ((m + 1) + 1) ((readyNos R ((m + 1) + 1)).map (Value.int .i64))) := veil (by
                          rw [readyNos_succ, List.map_append, ← (unveil X).1]; exact hown4)
                        have R2 : Hid (Below (w.heap.size + 1) W w4) := veil (((unveil H9).alloc z9 _).grown hgrow4 (by simp; omega) (by intro t ht; exact (o9.lt t ht).1))
                        clear hown4 hgrow4 o9 l9
                        go_wp2
                        go_roundw
                        case rel =>
                          refine ⟨(m + 1) + 1, by omega, by go_num, fun p hp => ?_, unveil R1, unveil R2⟩
                          rcases Nat.lt_or_ge p ((m + 1)) with h1 | h1
                          · exact unveil HI p h1
                          · obtain rfl : p = (m + 1) := by omega
                            exact ⟨unveil hcome, by rw [← (unveil X).1, unveil HY]; omega⟩
                        case measure => simp [intOf]; omega
                    · go_wp2_with fail
                      go_big_quiet (first | (go_at_call 64; refine Calls.quiet_of_same (qin_is (by assumption) _)))
                      obtain ⟨W9, h9⟩ : ∃ W9, W9 = (wr.alloc (.cells #[.int .i64 x0, .int .i64 x1] 131)).drewN nq := ⟨_, rfl⟩
                      rw [← h9]
                      have o9 : W9.ownsRow (w.heap.size + 1) 3 1 u4 k ((readyNos R (k)).map (Value.int .i64)) := by rw [h9]; exact (unveil HO).alloc _
                      have l9 : W9.cell? ⟨wr.heap.size, 0, none⟩ = some (.int .i64 x0) := by rw [h9]; simp
                      have b9 : Below (w.heap.size + 1) W W9 := by rw [h9]; exact (unveil HB).trans ((Below.next (below1 _ _) (belowN _ _)).mono hsz)
                      have z9 : w.heap.size + 1 ≤ W9.heap.size := by have := b9.size; omega
                      have H9 := veil b9
                      clear h9 b9 HO k0 k1 c0 c1 c2 c3 c4 hne hwl hbl hbn ha hc
                      go_wp2_with (at_builtin; refine wpList_append_own _ rfl _ _ 138 rfl (w.heap.size + 1) 3 i0 (.int .i64 0) 1 8 Tryz.underlying138 hi0 hz0 hz1 hz2 rfl (by decide) _ _ _ rfl (o9.alloc _) ⟨W9.heap.size, 0, none⟩ 1 1 [.int .i64 x0] rfl rfl (cell_one_new _ _ _) (ints_oneCell .i64 [x0]) (by unfold maxLen; omega) (by omega) (by simp; omega) ?_; intro v' w4 hown4 hgrow4 _)
                      have R1 : Hid (w4.ownsRow (w.heap.size + 1) 3 1 v' (k + 1) ((readyNos R (k + 1)).map (Value.int .i64))) := veil (by
                        rw [readyNos_succ, List.map_append, ← (unveil X).1]; exact hown4)
                      have R2 : Hid (Below (w.heap.size + 1) W w4) := veil (((unveil H9).alloc z9 _).grown hgrow4 (by simp; omega) (by intro t ht; exact (o9.lt t ht).1))
                      clear hown4 hgrow4 o9 l9
                      go_wp2
                      go_roundw
                      case rel =>
                        refine ⟨k + 1, by omega, by go_num, fun p hp => ?_, unveil R1, unveil R2⟩
                        rcases Nat.lt_or_ge p (k) with h1 | h1
                        · exact unveil HI p h1
                        · obtain rfl : p = k := by omega
                          exact ⟨unveil hcome, by have hp : p = 0 := (by omega); subst hp; have h1 := inR_iff.1 (Bool.and_eq_true_iff.1 (unveil hcome)).1; show (-1 : Int) < _; omega⟩
                      case measure => simp [intOf]; omega
              · obtain rfl : k = rn := by omega
                have hown0 : Hid (wr.ownsRow (w.heap.size + 1) 3 1 u4 (k + 0) ((nosTo R k L 0).map (Value.int .i64))) := veil (by rw [nosTo_zero]; exact hown)
                clear hown rR qb hb2
                go_wp2_with fail
                clear c0 c1 c2 c3 c4
                go_loopw [4, 7] (fun v i wr => ∃ j : Nat, j ≤ ln ∧ i = .int .i64 j ∧ (∀ p, p < j → ComeOk nx L p ∧ LeaseOk ep gv L p) ∧ wr.ownsRow (w.heap.size + 1) 3 1 v (k + j) ((nosTo R k L j).map (Value.int .i64)) ∧ Below (w.heap.size + 1) W wr) (fun _ i _ => ln - (intOf i).toNat)
                case atStart => exact ⟨0, by omega, rfl, fun p hp => by omega, unveil hown0, unveil HB⟩
                case round =>
                  obtain ⟨j, hj, rfl, hi', hown, hbC⟩ := hrel
                  have HI' := veil hi'
                  have HB' := veil hbC
                  clear hsz
                  have hsz : w.heap.size + 1 ≤ wr.heap.size := by have := hbC.size; omega
                  have qb := qb0.below hbC (by omega)
                  obtain ⟨c0, c1, c2, c3, c4⟩ := qb.heads
                  have rL := hL.below (B0.trans (hbC.mono (by omega)))
                  have hb2 : Hid (Below w.heap.size w wr) := veil (B0.trans (hbC.mono (by omega)))
                  clear hi' hbC
                  by_cases hlt2 : j < ln
                  · obtain ⟨b, off, rfl⟩ := hL.form (by omega)
                    obtain ⟨x0, hx0⟩ : ∃ x, x = L.getD (4 * j) 0 := ⟨_, rfl⟩
                    obtain ⟨x1, hx1⟩ : ∃ x, x = L.getD (4 * j + 1) 0 := ⟨_, rfl⟩
                    obtain ⟨x2, hx2⟩ : ∃ x, x = L.getD (4 * j + 2) 0 := ⟨_, rfl⟩
                    obtain ⟨x3, hx3⟩ : ∃ x, x = L.getD (4 * j + 3) 0 := ⟨_, rfl⟩
                    have k0 : wr.cell? ⟨b, off + j * 4, none⟩ = some (.int .i64 x0) := by rw [Nat.mul_comm j 4, hx0]; exact rL.at (4 * j) (by omega)
                    have k1 : wr.cell? ⟨b, off + j * 4 + 1, none⟩ = some (.int .i64 x1) := by rw [Nat.mul_comm j 4, hx1]; exact rL.at (4 * j + 1) (by omega)
                    have k2 : wr.cell? ⟨b, off + j * 4 + 2, none⟩ = some (.int .i64 x2) := by rw [Nat.mul_comm j 4, hx2]; exact rL.at (4 * j + 2) (by omega)
                    have k3 : wr.cell? ⟨b, off + j * 4 + 3, none⟩ = some (.int .i64 x3) := by rw [Nat.mul_comm j 4, hx3]; exact rL.at (4 * j + 3) (by omega)
                    have hne : w.heap.size ≠ wr.heap.size := by omega
                    have hwl : w.heap.size < wr.heap.size := by omega
                    have hbl : b < wr.heap.size := rL.lt (by omega)
                    have hbn : b ≠ wr.heap.size := by omega
                    have X : Hid (x0 = L.getD (4 * j) 0 ∧ x1 = L.getD (4 * j + 1) 0 ∧ x2 = L.getD (4 * j + 2) 0 ∧ x3 = L.getD (4 * j + 3) 0) := veil ⟨hx0, hx1, hx2, hx3⟩
                    have HO := veil hown
                    have HR2 := veil rL
                    clear hx0 hx1 hx2 hx3 qb hR hL rL hown hown0
                    cases ha : inR x2 (nx - 1) with
                    | false =>
                      go_wp2_with fail
                      go_big_quiet (first | (go_at_call 64; refine Calls.quiet_of_same (qin_is (by assumption) _)))
                      go_wp2
                      go_ret
                      exact ⟨ret_okNum (okNum_no (fun h => by have := h.hold.come j hlt2; unfold ComeOk at this; rw [← (unveil X).2.2.1, ha] at this; simp at this)).symm, Below.next (unveil hb2) (Below.next (below1 _ _) (belowN _ _))⟩
                    | true => cases hc : inR x3 1000000 with
                      | false =>
                        go_wp2_with fail
                        go_big_quiet (first | (go_at_call 64; refine Calls.quiet_of_same (qin_is (by assumption) _)))
                        go_wp2
                        go_ret
                        exact ⟨ret_okNum (okNum_no (fun h => by have := h.hold.come j hlt2; unfold ComeOk at this; rw [← (unveil X).2.2.2, hc] at this; simp at this)).symm, Below.next (unveil hb2) (Below.next (below1 _ _) (belowN _ _))⟩
                      | true =>
                        have hcome : Hid (ComeOk nx L j) := veil (by unfold ComeOk; rw [← (unveil X).2.2.1, ← (unveil X).2.2.2, ha, hc]; rfl)
                        by_cases he : x0 = ep
                        case neg =>
                          have he1 : (x0 != ep) = true := by simpa using he
                          have he2 : (x0 == ep) = false := by simpa using he
                          go_wp2_with fail
                          go_big_quiet (first | (go_at_call 64; refine Calls.quiet_of_same (qin_is (by assumption) _)))
                          go_wp2
                          go_ret
                          exact ⟨ret_okNum (okNum_no (fun h => he (by rw [(unveil X).1]; exact (h.lease j hlt2).epoch))).symm, Below.next (unveil hb2) (Below.next (below1 _ _) (belowN _ _))⟩
                        subst he
                        cases hd : inR x1 (gv - 1) with
                        | false =>
                          go_wp2_with fail
                          go_big_quiet (first | (go_at_call 64; refine Calls.quiet_of_same (qin_is (by assumption) _)))
                          go_wp2
                          go_ret
                          exact ⟨ret_okNum (okNum_no (fun h => by have := (h.lease j hlt2).no; rw [← (unveil X).2.1, hd] at this; cases this)).symm, Below.next (unveil hb2) (Below.next (below1 _ _) (belowN _ _))⟩
                        | true =>
                          have HD := veil hd
                          by_cases hz : 0 < j
                          · obtain ⟨m, rfl⟩ : ∃ m, j = m + 1 := ⟨j - 1, by omega⟩
                            obtain ⟨y, hy⟩ : ∃ y, y = L.getD (4 * m + 1) 0 := ⟨_, rfl⟩
                            have ky : wr.cell? ⟨b, off + m * 4 + 1, none⟩ = some (.int .i64 y) := by rw [Nat.mul_comm m 4, hy]; exact (unveil HR2).at (4 * m + 1) (by omega)
                            have HY : Hid (lastOf L (m + 1) = y) := veil (by rw [hy]; rfl)
                            have hml : (m : Int) < (ln : Int) := by omega
                            clear hy
                            go_wp2_with fail
                            by_cases hr : x1 ≤ y
                            · go_big_quiet (first | (go_at_call 64; refine Calls.quiet_of_same (qin_is (by assumption) _)))
                              go_wp2
                              go_ret
                              exact ⟨ret_okNum (okNum_no (fun h => by have := (h.lease (m + 1) hlt2).rise; rw [← (unveil X).2.1, unveil HY] at this; omega)).symm, Below.next (unveil hb2) (Below.next (below1 _ _) (belowN _ _))⟩
                            · go_big_quiet (first | (go_at_call 64; refine Calls.quiet_of_same (qin_is (by assumption) _)))
                              clear ky hml
                              obtain ⟨W9, h9⟩ : ∃ W9, W9 = (wr.alloc (.cells #[.int .i64 x0, .int .i64 x1, .int .i64 x2, .int .i64 x3] 133)).drewN nq := ⟨_, rfl⟩
                              rw [← h9]
                              have o9 : W9.ownsRow (w.heap.size + 1) 3 1 u4 (k + (m + 1)) ((nosTo R k L ((m + 1))).map (Value.int .i64)) := by rw [h9]; exact (unveil HO).alloc _
                              have l9 : W9.cell? ⟨wr.heap.size, 2, none⟩ = some (.int .i64 x2) := by rw [h9]; simp
                              have b9 : Below (w.heap.size + 1) W W9 := by rw [h9]; exact (unveil HB').trans ((Below.next (below1 _ _) (belowN _ _)).mono hsz)
                              have z9 : w.heap.size + 1 ≤ W9.heap.size := by have := b9.size; omega
                              have H9 := veil b9
                              clear h9 b9 HO k0 k1 k2 k3 c0 c1 c2 c3 c4 hne hwl hbl hbn ha hc hd
                              go_wp2_with (at_builtin; refine wpList_append_own _ rfl _ _ 138 rfl (w.heap.size + 1) 3 i0 (.int .i64 0) 1 8 Tryz.underlying138 hi0 hz0 hz1 hz2 rfl (by decide) _ _ _ rfl (o9.alloc _) ⟨W9.heap.size, 0, none⟩ 1 1 [.int .i64 x2] rfl rfl (cell_one_new _ _ _) (ints_oneCell .i64 [x2]) (by unfold maxLen; omega) (by omega) (by simp; omega) ?_; intro v' w4 hown4 hgrow4 _)
                              have R1 : Hid (w4.ownsRow (w.heap.size + 1) 3 1 v' (k + ((m + 1) + 1)) ((nosTo R k L ((m + 1) + 1)).map (Value.int .i64))) := veil (by
                                rw [nosTo_succ, List.map_append, ← (unveil X).2.2.1]; exact hown4)
                              have R2 : Hid (Below (w.heap.size + 1) W w4) := veil (((unveil H9).alloc z9 _).grown hgrow4 (by simp; omega) (by intro t ht; exact (o9.lt t ht).1))
                              clear hown4 hgrow4 o9 l9
                              go_wp2
                              go_roundw
                              case rel =>
                                refine ⟨(m + 1) + 1, by omega, by go_num, fun p hp => ?_, unveil R1, unveil R2⟩
                                rcases Nat.lt_or_ge p ((m + 1)) with h1 | h1
                                · exact unveil HI' p h1
                                · obtain rfl : p = (m + 1) := by omega
                                  exact ⟨unveil hcome, (unveil X).1.symm, by rw [← (unveil X).2.1]; exact unveil HD, by rw [← (unveil X).2.1, unveil HY]; omega⟩
                              case measure => simp [intOf]; omega
                          · go_wp2_with fail
                            go_big_quiet (first | (go_at_call 64; refine Calls.quiet_of_same (qin_is (by assumption) _)))
                            obtain ⟨W9, h9⟩ : ∃ W9, W9 = (wr.alloc (.cells #[.int .i64 x0, .int .i64 x1, .int .i64 x2, .int .i64 x3] 133)).drewN nq := ⟨_, rfl⟩
                            rw [← h9]
                            have o9 : W9.ownsRow (w.heap.size + 1) 3 1 u4 (k + j) ((nosTo R k L (j)).map (Value.int .i64)) := by rw [h9]; exact (unveil HO).alloc _
                            have l9 : W9.cell? ⟨wr.heap.size, 2, none⟩ = some (.int .i64 x2) := by rw [h9]; simp
                            have b9 : Below (w.heap.size + 1) W W9 := by rw [h9]; exact (unveil HB').trans ((Below.next (below1 _ _) (belowN _ _)).mono hsz)
                            have z9 : w.heap.size + 1 ≤ W9.heap.size := by have := b9.size; omega
                            have H9 := veil b9
                            clear h9 b9 HO k0 k1 k2 k3 c0 c1 c2 c3 c4 hne hwl hbl hbn ha hc hd
                            go_wp2_with (at_builtin; refine wpList_append_own _ rfl _ _ 138 rfl (w.heap.size + 1) 3 i0 (.int .i64 0) 1 8 Tryz.underlying138 hi0 hz0 hz1 hz2 rfl (by decide) _ _ _ rfl (o9.alloc _) ⟨W9.heap.size, 0, none⟩ 1 1 [.int .i64 x2] rfl rfl (cell_one_new _ _ _) (ints_oneCell .i64 [x2]) (by unfold maxLen; omega) (by omega) (by simp; omega) ?_; intro v' w4 hown4 hgrow4 _)
                            have R1 : Hid (w4.ownsRow (w.heap.size + 1) 3 1 v' (k + (j + 1)) ((nosTo R k L (j + 1)).map (Value.int .i64))) := veil (by
                              rw [nosTo_succ, List.map_append, ← (unveil X).2.2.1]; exact hown4)
                            have R2 : Hid (Below (w.heap.size + 1) W w4) := veil (((unveil H9).alloc z9 _).grown hgrow4 (by simp; omega) (by intro t ht; exact (o9.lt t ht).1))
                            clear hown4 hgrow4 o9 l9
                            go_wp2
                            go_roundw
                            case rel =>
                              refine ⟨j + 1, by omega, by go_num, fun p hp => ?_, unveil R1, unveil R2⟩
                              rcases Nat.lt_or_ge p (j) with h1 | h1
                              · exact unveil HI' p h1
                              · obtain rfl : p = j := by omega
                                exact ⟨unveil hcome, (unveil X).1.symm, by rw [← (unveil X).2.1]; exact unveil HD, by have hp : p = 0 := (by omega); have h1 := inR_iff.1 (unveil HD); rw [← (unveil X).2.1]; subst hp; show (-1 : Int) < _; omega⟩
                            case measure => simp [intOf]; omega
                  · obtain rfl : j = ln := by omega
                    have hfin : Hid (apartTo (nosTo R k L j) (k + j) → QueueOk ep nx gv R k L j wt wz) := veil (fun hap => ⟨hcnt, unveil HWI, ⟨unveil HI, fun p hp => (unveil HI' p hp).1, by
                      rw [← nosTo_dup, ← apartTo_all, nosTo_len]; exact hap⟩, fun p hp => (unveil HI' p hp).2⟩)
                    have hbad : Hid (∀ a b, a < b → b < k + j → (nosTo R k L j).getD a 0 = (nosTo R k L j).getD b 0 → ¬ QueueOk ep nx gv R k L j wt wz) := veil (fun a b h1 h2 h3 h4 => by
                      have h5 := nosTo_dup R k L j
                      rw [h4.hold.apart] at h5
                      have h6 := (apartTo_all _).2 (h5.2 rfl)
                      rw [nosTo_len] at h6
                      exact h6 a b h1 h2 h3)
                    obtain ⟨av, capv, rfl, hrow, _⟩ := RowK.ofOwns hown (nosTo_wf R k L j hR.wf hL.wf)
                    obtain ⟨N, hN⟩ : ∃ N, N = nosTo R k L j := ⟨_, rfl⟩
                    rw [← hN] at hrow hfin hbad
                    obtain ⟨n, hn⟩ : ∃ n, n = k + j := ⟨_, rfl⟩
                    rw [← hn] at hrow hfin hbad
                    obtain ⟨WD, hWD⟩ : ∃ WD, WD = wr := ⟨_, rfl⟩
                    rw [← hWD] at hrow hb2
                    have hnn : Hid (n = k + j ∧ WD = wr) := veil ⟨hn, hWD⟩
                    clear hR hL rL qb hown hown0 HB HB' HI HI' HWI hn hWD hN
                    go_wp2_with fail
                    clear c0 c1 c2 c3 c4
                    go_loopw [9] (fun t w' => ∃ i q : Nat, i ≤ n ∧ t = .int .i64 i ∧ apartTo N i ∧ w' = WD.drewN q) (fun t _ => n - (intOf t).toNat)
                    case atStart => exact ⟨0, 0, by omega, rfl, fun a b h1 h2 => by omega, by rw [(unveil hnn).2]; rfl⟩
                    case round =>
                      obtain ⟨i, q, hi, rfl, hap, rfl⟩ := hrel
                      have HA := veil hap
                      clear hap
                      by_cases hin : i < n
                      · have hin1 : (i : Int) < (k : Int) + (j : Int) := by have := (unveil hnn).1; omega
                        have hin2 : i < k + j := by have := (unveil hnn).1; omega
                        obtain ⟨b, off, rfl⟩ := hrow.form (by omega)
                        have ki : WD.cell? ⟨b, off + i, none⟩ = some (.int .i64 (N.getD i 0)) := hrow.at i hin
                        obtain ⟨x, hx⟩ : ∃ x, x = N.getD i 0 := ⟨_, rfl⟩
                        rw [← hx] at ki
                        have HX := veil hx
                        have HROW := veil hrow
                        clear hx hrow
                        go_wp2_with fail
                        go_loopw [10] (fun t w' => ∃ c q : Nat, c ≤ i ∧ t = .int .i64 c ∧ (∀ a, a < c → N.getD a 0 ≠ N.getD i 0) ∧ w' = WD.drewN q) (fun t _ => i - (intOf t).toNat)
                        case atStart => exact ⟨0, q, by omega, rfl, fun a h1 => by omega, rfl⟩
                        case round =>
                          obtain ⟨c, q2, hc2, rfl, hne2, rfl⟩ := hrel
                          have HN := veil hne2
                          clear hne2
                          by_cases hcl : c < i
                          · have kc : WD.cell? ⟨b, off + c, none⟩ = some (.int .i64 (N.getD c 0)) := (unveil HROW).at c (by omega)
                            obtain ⟨y, hy⟩ : ∃ y, y = N.getD c 0 := ⟨_, rfl⟩
                            rw [← hy] at kc
                            have HY := veil hy
                            have hcn1 : (c : Int) < (k : Int) + (j : Int) := by omega
                            clear hy
                            by_cases hxy : x = y
                            · subst hxy
                              go_wp2_with fail
                              go_big_quiet (fail)
                              go_wp2
                              go_ret
                              exact ⟨ret_okNum (okNum_no (unveil hbad c i hcl hin (by rw [← unveil HY, ← unveil HX]))).symm, by first | exact Below.next (unveil hb2) (belowN _ _) | exact Below.next (Below.next (unveil hb2) (belowN _ _)) (belowN _ _)⟩
                            · have hxy1 : (x == y) = false := by simpa using hxy
                              go_wp2_with fail
                              go_big_quiet (fail)
                              go_wp2
                              go_roundw
                              case rel =>
                                refine ⟨c + 1, q2 + nq, by omega, by go_num, fun a ha => ?_, by first | exact (World.drewN_add _ _ _).symm | exact World.drewN_add _ _ _ | exact World.drewN_drewN _ _ _ | rfl | simp⟩
                                rcases Nat.lt_or_ge a c with h1 | h1
                                · exact unveil HN a h1
                                · obtain rfl : a = c := by omega
                                  rw [← unveil HY, ← unveil HX]
                                  exact fun h => hxy h.symm
                              case measure => simp [intOf]; omega
                          · obtain rfl : c = i := by omega
                            go_wp2
                            go_roundw
                            case rel =>
                              refine ⟨c + 1, q2, by omega, by go_num, fun a b' h1 h2 => ?_, rfl⟩
                              rcases Nat.lt_or_ge b' c with h3 | h3
                              · exact unveil HA a b' h1 h3
                              · obtain rfl : b' = c := by omega
                                exact unveil HN a h1
                            case measure => simp [intOf]; omega
                      · obtain rfl : i = n := by omega
                        have hin1 : ¬ ((i : Int) < (k : Int) + (j : Int)) := by have := (unveil hnn).1; omega
                        have hin2 : ¬ (i < k + j) := by have := (unveil hnn).1; omega
                        go_wp2
                        go_ret
                        exact ⟨ret_okNum (okNum_yes (unveil hfin (unveil HA))).symm, Below.next (unveil hb2) (belowN _ _)⟩
end Go.Proofs.YtcdopnkabbfooaaGreat
