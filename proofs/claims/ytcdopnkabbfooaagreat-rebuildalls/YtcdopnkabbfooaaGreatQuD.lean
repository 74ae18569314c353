/- slices.Sort and slices.Compact on a row of the call's own; the walk of queue.twice. -/
import Derived.Test.YtcdopnkabbfooaaGreatQuC
import Derived.Test.YtcdopnkabbfooaaGreatPkA
import Derived.Sort.OwnSortedInts
import Derived.Lib.OwnBridge
namespace Go.Proofs.YtcdopnkabbfooaaGreat
open Go.RowKit

theorem sort_own (base : Nat) (v : Value) (n : Nat) (l : List Int) (w : World) (h : w.ownsRow base 3 1 v n (l.map (Value.int .i64))) (hn : n < 4611686018427387904) :
    Calls Tryz.prog 118 #[v] w fun e w' => e = .returned (.tuple #[]) ∧ w'.ownsRow base 3 1 v n ((l.mergeSort fun x y => decide (x ≤ y)).map (Value.int .i64)) ∧ w.grownBy w' v.ownBlock := by
  have hl : l.length = n := by simpa using h.1
  rcases h.2 with ⟨rfl, rfl⟩ | ⟨g, cap, cur, rfl, hb, hg, hc, hm, hs, ht⟩
  · have hl0 : l = [] := List.length_eq_zero_iff.1 hl
    subst hl0
    refine (Any.slices_Sort_int_none Tryz.laysSort none 0 w).mono ?_
    rintro e w' ⟨rfl, rfl⟩
    exact ⟨rfl, by simpa using World.ownsRow_nil _ _ _ _, World.grownBy.refl _ _⟩
  · subst hl
    obtain ⟨g', cap', he, _, hgl, _, _, _, hH⟩ := Lib.holds_of_ownsRow h (by simp)
    injection he with e1 _ e3
    injection e1 with e1
    injection e1 with e1
    subst e1; subst e3
    refine (Any.slices_Sort_int Tryz.laysSort g 0 cap l w hH hgl hn).mono ?_
    rintro e w' ⟨rfl, nn, os, rfl⟩
    exact ⟨rfl, Go.ownsRow_sortedI (List.length_mergeSort l) hb hg hc hm hs, Go.grownBy_sortedI _⟩

theorem grown_putRow {w : World} {g q : Nat} (d : Array Int) : w.grownBy (Go.Sort.putRow (Value.int .i64) (Go.Sort.ahead w q) g 0 d) (some g) := by
  refine ⟨rfl, rfl, rfl, by simp [Go.Sort.putRow, Go.Sort.mapBlock, Go.Sort.ahead], fun k hk hne => ?_⟩
  have : g ≠ k := fun e => hne (by rw [e])
  simp [Go.Sort.putRow, Go.Sort.mapBlock, Go.Sort.ahead, Array.getElem?_modify, this]

theorem compact_own (base : Nat) (v : Value) (n : Nat) (l : List Int) (w : World) (h : w.ownsRow base 3 1 v n (l.map (Value.int .i64))) (hn : n < 4611686018427387904) :
    Calls Tryz.prog 119 #[v] w fun e w' => ∃ a c cap, e = .returned (.slice a c cap) ∧ w.grownBy w' v.ownBlock ∧ c ≤ cap ∧ Hid (c = (Lib.compact l).length) := by
  have hl : l.length = n := by simpa using h.1
  rcases h.2 with ⟨rfl, rfl⟩ | ⟨g, cap, cur, rfl, hb, hg, hc, hm, hs, ht⟩
  · have hl0 : l = [] := List.length_eq_zero_iff.1 hl
    subst hl0
    refine (Any.slices_Compact_int_empty Tryz.laysCompact none 0 w).mono ?_
    rintro e w' ⟨rfl, rfl⟩
    exact ⟨none, 0, 0, rfl, World.grownBy.refl _ _, Nat.le_refl _, veil (by simp [Lib.compact, Lib.compactUpTo])⟩
  · subst hl
    obtain ⟨g', cap', he, _, hgl, _, _, _, hH⟩ := Lib.holds_of_ownsRow h (by simp)
    injection he with e1 _ e3
    injection e1 with e1
    injection e1 with e1
    subst e1; subst e3
    refine (Any.slices_Compact_int Tryz.laysCompact g 0 cap l w hH (by omega) hc).mono ?_
    rintro e w' ⟨rfl, q, rfl⟩
    exact ⟨_, _, cap, rfl, grown_putRow _, Nat.le_trans (Lib.compact_length_le l) hc, veil rfl⟩

theorem Tryz.infoInt : (Tryz.prog.info? 3).map (fun i => (i.zero, i.size, i.bytes)) = some (some (.int .i64 0), 1, 8) := by kernel_rfl
theorem info_of {P : Program} {e : TypeId} {z : Value} {s b : Nat} (h : (P.info? e).map (fun i => (i.zero, i.size, i.bytes)) = some (some z, s, b)) : ∃ i, P.info? e = some i ∧ i.zero = some z ∧ i.size = s ∧ i.bytes = b := by
  obtain ⟨i, hi, hzz⟩ := Option.map_eq_some_iff.1 h
  simp only [Prod.mk.injEq] at hzz
  exact ⟨i, hi, hzz.1, hzz.2.1, hzz.2.2⟩
theorem cell_new2 (w : World) (A : Obj) (v : Value) (t : TypeId) : ∀ j u, ([v] : List Value)[j]? = some u → ((w.alloc A).alloc (.cells #[v] t)).cell? ((⟨w.heap.size + 1, 0, none⟩ : Addr).add j) = some u := by
  intro j u hj
  have := cell_one_new (w.alloc A) v t j u hj
  simpa using this
set_option maxRecDepth 20000 in
set_option maxHeartbeats 4000000 in
theorem twice_any (ep nx gv : Int) (ra la : Option Addr) (rn rc ln lc : Nat) (R L : List Int) (ws : Nat → Value) (w : World) (hR : RowK .i64 w ra (2 * rn) R) (hL : RowK .i64 w la (4 * ln) L) (hs : rn + ln ≤ 500) :
    Calls Tryz.prog 108 #[qVal ep nx gv (.slice ra rn rc) (.slice la ln lc) ws] w fun e w' => e = .returned (.bool (dupB (nosOf L ln R rn))) ∧ Below w.heap.size w w' := by
  obtain ⟨i0, hi, hz0, hz1, hz2⟩ := info_of Tryz.infoInt
  obtain ⟨W, hW, qb0, B0, S0⟩ := one_q w ep nx gv (.slice ra rn rc) (.slice la ln lc) ws
  have q0 := qb0
  rw [hW] at q0
  go_enter Tryz.func108, Tryz.ntmps108
  go_wp2_with (first
    | (refine q_loads _ rfl rfl rfl (by assumption) ?_)
    | (go_at_call 105; refine (qcount_any _ _ _ _ _ _ _ _ _ _ _ (by omega)).mono ?_; rintro e w1 ⟨rfl, b1⟩
       have hb1 : Below (w.heap.size + 1) W w1 := by rw [hW]; simpa using b1
       obtain ⟨c0, c1, c2, c3, c4⟩ := (qb0.below hb1 (by omega)).heads
       clear b1 q0)
    | (at_make; refine wpList_make_own _ rfl _ _ 138 rfl (w.heap.size + 1) 3 i0 (.int .i64 0) 1 Tryz.underlying138 hi hz0 hz1 _ _ _ (rn + ln) rfl rfl (by omega) (by rw [hz2]; omega) (by unfold maxLen; omega) (by have := hb1.size; omega) ?_; intro w2 hown1 hgrow1
       have hb2 : Below (w.heap.size + 1) W w2 := hb1.grown hgrow1 (by have := hb1.size; omega) (by simp)
       clear c0 c1 c2 c3 c4
       obtain ⟨c0, c1, c2, c3, c4⟩ := (qb0.below hb2 (by omega)).heads
       clear hb1 hgrow1))
  clear c0 c1 c2 c3 c4 hW
  go_loopw [3, 14] (fun v t wr => ∃ k : Nat, k ≤ ln ∧ t = .int .i64 k ∧ wr.ownsRow (w.heap.size + 1) 3 1 v k ((leaseNos L k).map (Value.int .i64)) ∧ Below (w.heap.size + 1) W wr) (fun _ t _ => ln - (intOf t).toNat)
  case atStart => exact ⟨0, Nat.zero_le _, rfl, by simpa [leaseNos] using hown1, hb2⟩
  case round =>
    obtain ⟨k, hk, rfl, hown, hb⟩ := hrel
    clear hown1 hb2
    have hsz : w.heap.size + 1 ≤ wr.heap.size := by have := hb.size; omega
    have hBw : Below w.heap.size w wr := B0.trans (hb.mono (by omega))
    by_cases hlt : k < ln
    · have rL := hL.below hBw
      have HBw := veil hBw
      have HB := veil hb
      clear hBw hb
      obtain ⟨b, off, rfl⟩ := hL.form (by omega)
      obtain ⟨x0, hx0⟩ : ∃ x, x = L.getD (4 * k) 0 := ⟨_, rfl⟩
      obtain ⟨x1, hx1⟩ : ∃ x, x = L.getD (4 * k + 1) 0 := ⟨_, rfl⟩
      obtain ⟨x2, hx2⟩ : ∃ x, x = L.getD (4 * k + 2) 0 := ⟨_, rfl⟩
      obtain ⟨x3, hx3⟩ : ∃ x, x = L.getD (4 * k + 3) 0 := ⟨_, rfl⟩
      have k0 : wr.cell? ⟨b, off + k * 4, none⟩ = some (.int .i64 x0) := by rw [Nat.mul_comm k 4, hx0]; exact rL.at (4 * k) (by omega)
      have k1 : wr.cell? ⟨b, off + k * 4 + 1, none⟩ = some (.int .i64 x1) := by rw [Nat.mul_comm k 4, hx1]; exact rL.at (4 * k + 1) (by omega)
      have k2 : wr.cell? ⟨b, off + k * 4 + 2, none⟩ = some (.int .i64 x2) := by rw [Nat.mul_comm k 4, hx2]; exact rL.at (4 * k + 2) (by omega)
      have k3 : wr.cell? ⟨b, off + k * 4 + 3, none⟩ = some (.int .i64 x3) := by rw [Nat.mul_comm k 4, hx3]; exact rL.at (4 * k + 3) (by omega)
      have X : Hid (x2 = L.getD (4 * k + 2) 0) := veil hx2
      clear rL hx0 hx1 hx2 hx3
      go_wp2_with (at_builtin; refine wpList_append_own _ rfl _ _ 138 rfl (w.heap.size + 1) 3 i0 (.int .i64 0) 1 8 Tryz.underlying138 hi hz0 hz1 hz2 rfl (by decide) _ _ _ rfl ((hown.alloc _).alloc _) ⟨wr.heap.size + 1, 0, none⟩ 1 1 [.int .i64 x2] rfl rfl (cell_new2 _ _ _ _) (ints_oneCell .i64 [x2]) (by unfold maxLen; omega) (by omega) (by simp; omega) ?_; intro v' w4 hown4 hgrow4 _)
      have R1 : Hid (w4.ownsRow (w.heap.size + 1) 3 1 v' (k + 1) ((leaseNos L (k + 1)).map (Value.int .i64))) := veil (by
        rw [leaseNos_succ, List.map_append, ← unveil X]; exact hown4)
      have R2 : Hid (Below (w.heap.size + 1) W w4) := veil ((((unveil HB).alloc hsz _).alloc (by simp; omega) _).grown hgrow4 (by simp; omega) (by intro t ht; exact (hown.lt t ht).1))
      clear hown4 hgrow4 hown k0 k1 k2 k3
      go_wp2
      go_roundw
      case rel => exact ⟨k + 1, by omega, by go_num, unveil R1, unveil R2⟩
      case measure => simp [intOf]; omega
    · obtain rfl : k = ln := by omega
      obtain ⟨c0, c1, c2, c3, c4⟩ := (qb0.below hb (by omega)).heads
      have hown0 := hown
      rw [← nosOf_zero L k R] at hown0
      clear hown
      go_wp2_with fail
      clear c0 c1 c2 c3 c4
      go_loopw [3, 28] (fun v t wr => ∃ j : Nat, j ≤ rn ∧ t = .int .i64 j ∧ wr.ownsRow (w.heap.size + 1) 3 1 v (k + j) ((nosOf L k R j).map (Value.int .i64)) ∧ Below (w.heap.size + 1) W wr) (fun _ t _ => rn - (intOf t).toNat)
      case atStart => exact ⟨0, Nat.zero_le _, rfl, hown0, hb⟩
      case round =>
        obtain ⟨j, hj, rfl, hown, hb'⟩ := hrel
        clear hown0 hb hBw
        have hsz' : w.heap.size + 1 ≤ wr.heap.size := by have := hb'.size; omega
        have hBw : Below w.heap.size w wr := B0.trans (hb'.mono (by omega))
        by_cases hlt : j < rn
        · have rR := hR.below hBw
          have HBw := veil hBw
          have HB := veil hb'
          clear hBw hb'
          obtain ⟨b, off, rfl⟩ := hR.form (by omega)
          obtain ⟨x0, hx0⟩ : ∃ x, x = R.getD (2 * j) 0 := ⟨_, rfl⟩
          obtain ⟨x1, hx1⟩ : ∃ x, x = R.getD (2 * j + 1) 0 := ⟨_, rfl⟩
          have k0 : wr.cell? ⟨b, off + j * 2, none⟩ = some (.int .i64 x0) := by rw [Nat.mul_comm j 2, hx0]; exact rR.at (2 * j) (by omega)
          have k1 : wr.cell? ⟨b, off + j * 2 + 1, none⟩ = some (.int .i64 x1) := by rw [Nat.mul_comm j 2, hx1]; exact rR.at (2 * j + 1) (by omega)
          have X : Hid (x0 = R.getD (2 * j) 0) := veil hx0
          clear rR hx0 hx1
          go_wp2_with (at_builtin; refine wpList_append_own _ rfl _ _ 138 rfl (w.heap.size + 1) 3 i0 (.int .i64 0) 1 8 Tryz.underlying138 hi hz0 hz1 hz2 rfl (by decide) _ _ _ rfl ((hown.alloc _).alloc _) ⟨wr.heap.size + 1, 0, none⟩ 1 1 [.int .i64 x0] rfl rfl (cell_new2 _ _ _ _) (ints_oneCell .i64 [x0]) (by unfold maxLen; omega) (by omega) (by simp; omega) ?_; intro v' w4 hown4 hgrow4 _)
          have R1 : Hid (w4.ownsRow (w.heap.size + 1) 3 1 v' (k + (j + 1)) ((nosOf L k R (j + 1)).map (Value.int .i64))) := veil (by
            rw [nosOf_succ, List.map_append, ← unveil X]; exact hown4)
          have R2 : Hid (Below (w.heap.size + 1) W w4) := veil ((((unveil HB).alloc hsz' _).alloc (by simp; omega) _).grown hgrow4 (by simp; omega) (by intro t ht; exact (hown.lt t ht).1))
          clear hown4 hgrow4 hown k0 k1
          go_wp2
          go_roundw
          case rel => exact ⟨j + 1, by omega, by go_num, unveil R1, unveil R2⟩
          case measure => simp [intOf]; omega
        · obtain rfl : j = rn := by omega
          have hn : k + j < 4611686018427387904 := by omega
          clear hR hL
          have HB := veil hb'
          have HO := veil hown
          clear hb' hown hBw
          go_wp2_with (go_at_call 118; refine (sort_own _ _ _ _ _ (unveil HO) hn).mono ?_; rintro e w5 ⟨rfl, hown5, hgrow5⟩)
          have hb5 : Below (w.heap.size + 1) W w5 := (unveil HB).grown hgrow5 hsz' (by intro t ht; exact ((unveil HO).lt t ht).1)
          have O5 := veil hown5
          clear hown5 hgrow5 HO HB
          have q5 := qb0.below hb5 (by omega)
          refine wp_region_held_drew (S := fun w' => qBlock w' w.heap.size ep nx gv (.slice ra j rc) (.slice la k lc) ws) (by kernel_rfl) q5 (fun hHeld => ?_)
          refine wpAnyH_take (i := 0) (v := _) rfl (by kernel_rfl) (by kernel_rfl) (by kernel_rfl) (fun _ _ _ h => h) (Or.inl ⟨by rfl, fun _ _ => rfl⟩) hHeld ?_
          simp only [List.getElem_toArray, List.getElem_cons_zero, Act.put, List.setIfInBounds_toArray, List.set_cons_zero, List.set_cons_succ]
          refine wpAnyH_take (i := 3) (v := _) rfl (by kernel_rfl) (by kernel_rfl) (by kernel_rfl) (fun _ _ _ h => h) (yields_q _ rfl rfl rfl (fun _ h => h)) hHeld ?_
          simp only [List.getElem_toArray, List.getElem_cons_zero, List.getElem_cons_succ, Act.put, List.setIfInBounds_toArray, List.set_cons_zero, List.set_cons_succ]
          refine wpAnyH_ready (rs := [1]) (by kernel_rfl) (by simp) ?_
          refine AllReadyH.cons rfl (fun K hK => ?_) AllReadyH.nil
          simp only [List.getElem_toArray, List.getElem_cons_zero, List.getElem_cons_succ]
          go_simp
          refine (compact_own (w.heap.size + 1) _ (k + j) _ w5.drew (unveil O5) hn).mono ?_
          rintro e w6 ⟨a6, c, cap6, rfl, g6, h6, C6⟩
          have hb6 : Below (w.heap.size + 1) W w6 := (show Below (w.heap.size + 1) W w5.drew from ⟨hb5.os, hb5.tape, hb5.output, hb5.size, hb5.block⟩).grown g6 (by have := hb5.size; simp; omega) (by intro t ht; exact ((unveil O5).lt t ht).1)
          have q6 := qb0.below hb6 (by omega)
          refine hK.out _ _ q6 (fun hHeld => ?_)
          clear hK K g6
          refine wpAnyH_take (i := 2) (v := .int .i64 (c : Int)) rfl (by kernel_rfl) (by kernel_rfl) (by kernel_rfl) (fun _ _ _ h => h) (Or.inl ⟨by rfl, fun _ _ => by go_simp⟩) hHeld ?_
          simp only [List.getElem_toArray, List.getElem_cons_zero, List.getElem_cons_succ, Act.put, List.setIfInBounds_toArray, List.set_cons_zero, List.set_cons_succ]
          refine wpAnyH_ready (rs := [4]) (by kernel_rfl) (by simp) ?_
          refine AllReadyH.cons rfl (fun K hK => ?_) AllReadyH.nil
          simp only [List.getElem_toArray, List.getElem_cons_zero, List.getElem_cons_succ]
          go_simp
          refine (qcount_any _ _ _ _ _ _ _ _ _ _ _ (by omega)).mono ?_
          rintro e w7 ⟨rfl, b7⟩
          refine hK.out _ _ (q6.next b7) (fun hHeld => ?_)
          clear hK K
          refine wpAnyH_take (i := 5) (v := .bool (decide ((c : Int) < ((j + k : Nat) : Int)))) rfl (by kernel_rfl) (by kernel_rfl) (by kernel_rfl) (fun _ _ _ h => h) (Or.inl ⟨by rfl, fun _ _ => by go_simp⟩) hHeld ?_
          simp only [List.getElem_toArray, List.getElem_cons_zero, List.getElem_cons_succ, Act.put, List.setIfInBounds_toArray, List.set_cons_zero, List.set_cons_succ]
          refine wpAnyH_take (i := 6) (v := .bool (decide ((c : Int) < ((j + k : Nat) : Int)))) rfl (by kernel_rfl) (by kernel_rfl) (by kernel_rfl) (fun _ _ _ h => h) (Or.inl ⟨by rfl, fun _ _ => by go_simp⟩) hHeld ?_
          simp only [List.getElem_toArray, List.getElem_cons_zero, List.getElem_cons_succ, Act.put, List.setIfInBounds_toArray, List.set_cons_zero, List.set_cons_succ]
          refine wpAnyH_done (by kernel_rfl) ?_ _
          have hd := dupB_eq (nosOf L k R j) c (j + k) (unveil C6) (by rw [nosOf_len]; omega)
          rw [hd]
          clear hd
          have hb7 : Below w.heap.size w w7 := B0.trans ((hb6.trans (b7.mono (by have := hb6.size; omega))).mono (by omega))
          have HB7 := veil hb7
          clear hb7 hb6 hb5 q6 q5 b7 hHeld
          go_wp2
          go_ret
          exact ⟨rfl, unveil HB7⟩
end Go.Proofs.YtcdopnkabbfooaaGreat
