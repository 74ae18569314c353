/- The walk of the keep package's busy. -/
import Derived.Test.YtmkbidglfnpgjaaPnR
namespace Go.Proofs.Ytmkbidglfnpgjaa
open Go.RowKit

theorem gap_pos (l : List Ld) (n : Nat) (hn : 0 < n) : 0 < gapOf (works l n) ↔ ∃ i : Nat, i < n ∧ ¬ workAt l i = workAt l 0 := by
  have hl := works_len l n
  have ib := (busyOf_is (works l n) (by omega)).1
  have ii := (idleOf_is (works l n) (by omega)).1
  have h1 := ib.lt
  have h2 := ii.lt
  rw [gapOf_at l n hn]
  have gb := ib.ge
  have gi := ii.le
  constructor
  · intro h
    rcases Classical.em (∃ i : Nat, i < n ∧ ¬ workAt l i = workAt l 0) with h3 | h3
    · exact h3
    · have all : ∀ i : Nat, i < n → workAt l i = workAt l 0 := fun i hi => Classical.byContradiction fun hne => h3 ⟨i, hi, hne⟩
      have a1 := all (busyOf (works l n)) (by omega)
      have a2 := all (idleOf (works l n)) (by omega)
      omega
  · rintro ⟨i, hi, hne⟩
    have a1 := gb i (by omega)
    have a2 := gi i (by omega)
    have a3 := gb 0 (by omega)
    have a4 := gi 0 (by omega)
    rw [works_at l n _ hi, works_at l n _ (by omega)] at a1
    rw [works_at l n _ (by omega), works_at l n _ hi] at a2
    rw [works_at l n _ (by omega), works_at l n _ (by omega)] at a3 a4
    have e0 : ((0 : Nat) : Int) = 0 := rfl
    rw [e0] at a3 a4
    omega
/-- five works in memory. -/
def w5Block (w : World) (g : Nat) (ws : List Int) : Prop := w.heap[g]? = some (.cells (ws.map (Value.int .i64)).toArray 58 (0, 0)) ∧ ws.length = 5
theorem w5Block.at {w : World} {g : Nat} {ws : List Int} (h : w5Block w g ws) (j : Nat) (hj : j < 5) : w.cell? ⟨g, j, none⟩ = some (.int .i64 (ws.getD j 0)) ∧ w.frozen? ⟨g, j, none⟩ = false := by
  obtain ⟨h1, h2⟩ := h
  refine ⟨?_, by simp [World.frozen?, h1]⟩
  simp [World.cell?, h1, List.getElem?_eq_getElem (show j < ws.length by omega)]
theorem w5Block.lt {w : World} {g : Nat} {ws : List Int} (h : w5Block w g ws) : g < w.heap.size := by
  rcases Nat.lt_or_ge g w.heap.size with h' | h'
  · exact h'
  · have := h.1; simp [Array.getElem?_eq_none h'] at this
theorem w5Block.set {w : World} {g : Nat} {ws : List Int} (h : w5Block w g ws) (j : Nat) (z : Int) : w5Block (w.setCell ⟨g, j, none⟩ (.int .i64 z)) g (ws.set j z) := by
  refine ⟨?_, by rw [List.length_set]; exact h.2⟩
  rw [heap_setP h.1]
  simp [List.map_set]
set_option maxRecDepth 20000 in
set_option maxHeartbeats 4000000 in
theorem busy_any (nodes : Nat) (a : Option Addr) (c : Nat) (l : List Ld) (w : World) (hA : RowK .i64 w a (3 * l.length) (ldFlat l)) (h1 : 1 ≤ nodes) (h5 : nodes ≤ 5) (hr : Rise nodes l) :
    Calls Try.prog 17 #[.slice a l.length c, .int .i64 nodes] w fun e w' => e = .returned (.bool (decide (0 < gapOf (works l nodes)))) ∧ Below w.heap.size w w' := by
  have hl4 := hr.len
  have Hyes : Hid ((∃ i : Nat, i < nodes ∧ ¬ workAt l i = workAt l 0) → decide (0 < gapOf (works l nodes)) = true) := veil fun h => decide_eq_true ((gap_pos l nodes (by omega)).2 h)
  have Hno : Hid ((∀ i : Nat, i < nodes → workAt l i = workAt l 0) → decide (0 < gapOf (works l nodes)) = false) := veil fun h => decide_eq_false (fun h2 => by obtain ⟨i, hi, hne⟩ := (gap_pos l nodes (by omega)).1 h2; exact hne (h i hi))
  have HB := veil (fun k n => hr.workTo n k)
  have HO := veil (fun k (hk : k < l.length) => hr.ok k hk)
  have HS := veil (fun k (hk : k < l.length) n hn => works_step l 5 k n hk hn)
  have HT : Hid (l.take l.length = l) := veil (List.take_length)
  have HX : Hid (∀ k m, m < 5 → (works (l.take k) 5).getD m 0 = workAt (l.take k) m) := veil (fun k m hm => works_at _ _ _ hm)
  have HX2 : Hid (∀ m, m < 5 → (works l 5).getD m 0 = workAt l m) := veil (fun m hm => works_at _ _ _ hm)
  have H0 : Hid (w5Block (w.alloc (.cells #[.int .i64 0, .int .i64 0, .int .i64 0, .int .i64 0, .int .i64 0] 58)) w.heap.size (works (l.take 0) 5)) := veil ⟨by rw [List.take_zero, works_none]; exact heap_alloc_new w _, works_len _ _⟩
  clear hr
  generalize decide (0 < gapOf (works l nodes)) = res at *
  generalize hN : l.length = n at *
  clear hN
  go_enter Try.func17, Try.ntmps17
  go_wp2
  go_loopw [6] (fun t wr => ∃ k : Nat, k ≤ n ∧ t = .int .i64 k ∧ w5Block wr w.heap.size (works (l.take k) 5) ∧ Below w.heap.size w wr) (fun t _ => n - (intOf t).toNat)
  case atStart => exact ⟨0, Nat.zero_le _, rfl, unveil H0, below1 _ _⟩
  case round =>
    clear H0
    obtain ⟨k, hk, rfl, ow, bel⟩ := hrel
    by_cases hlt : k < n
    · have rA := hA.below bel
      obtain ⟨b, off, rfl⟩ := hA.form (by omega)
      obtain ⟨x0, x1, x2⟩ := rA.three k hlt
      have ho := unveil HO k hlt
      obtain ⟨m, hm⟩ : ∃ m : Nat, (ldAt l k).n = m := ⟨(ldAt l k).n.toNat, by have := ho.n0; omega⟩
      have hmn : m < 5 := by have := ho.n4; omega
      have hST := unveil HS k hlt m hm
      have e1 := unveil HX k m hmn
      have hb0 := unveil HB k m
      have hw0 := ho.w0
      have hw1 := ho.w1
      obtain ⟨y0, y1⟩ := ow.at m hmn
      have hbw : b < w.heap.size := hA.lt (by omega)
      have hbn : b ≠ w.heap.size := by omega
      rw [hm] at x1
      rw [e1] at y0 hST
      generalize workAt (l.take k) m = y at *
      have HE := veil (fun (W : World) (h : w5Block W w.heap.size (works (l.take k) 5)) => by have := h.set m (y + (ldAt l k).w); rwa [hST] at this)
      have OW := veil ow
      have BL := veil bel
      have HA2 := veil hA
      clear rA ow bel hA ho hST e1
      generalize (ldAt l k).q = q at *
      generalize (ldAt l k).w = wk at *
      clear hm
      go_wp2_with fail
      go_region
      all_goals (try go_wp2_with fail)
      all_goals exact ⟨⟨k + 1, by omega, by go_num, by have := unveil HE _ (unveil OW); exact this, ((unveil BL).setCell (Nat.le_refl _) _).drew⟩, by simp [intOf]; omega⟩
    · have hkn : k = n := by omega
      have OW : Hid (w5Block wr w.heap.size (works l 5)) := veil (by rw [hkn, unveil HT] at ow; exact ow)
      have BL := veil bel
      clear ow bel hkn hA HB HO HS HT HX
      go_wp2
      have HAt := veil (fun j (hj : j < 5) => by have h := ((unveil OW).at j hj).1; rw [unveil HX2 j hj] at h; exact h)
      clear OW HX2
      go_loopw [7] (fun t wx => ∃ j : Nat, 1 ≤ j ∧ j ≤ nodes ∧ t = .int .i64 j ∧ (∃ q, wx = wr.drewN q) ∧ Hid (∀ i : Nat, i < j → workAt l i = workAt l 0)) (fun t _ => nodes - (intOf t).toNat)
      case atStart => exact ⟨1, by omega, h1, rfl, ⟨0, rfl⟩, veil (fun i hi => by obtain rfl : i = 0 := by omega
                                                                                  rfl)⟩
      case round =>
        obtain ⟨j, hj1, hj2, rfl, ⟨q, rfl⟩, HJ⟩ := hrel
        by_cases hjn : j < nodes
        · have c1 := unveil HAt j (by omega)
          have c0 := unveil HAt 0 (by omega)
          have e0 : ((0 : Nat) : Int) = 0 := rfl
          rw [e0] at c0
          have HRR := veil (fun h => unveil Hyes ⟨j, hjn, h⟩)
          have HJJ : Hid (workAt l j = workAt l 0 → ∀ i : Nat, i < j + 1 → workAt l i = workAt l 0) := veil fun h i hi => by
            by_cases e : i < j
            · exact unveil HJ i e
            · obtain rfl : i = j := by omega
              exact h
          have C1 : (wr.drewN q).cell? ⟨w.heap.size, j, none⟩ = some (.int .i64 (workAt l j)) := c1
          have C0 : (wr.drewN q).cell? ⟨w.heap.size, 0, none⟩ = some (.int .i64 (workAt l 0)) := c0
          have BQ := veil (below_n (unveil BL) q)
          have HQ : Hid (∀ q2, (wr.drewN q).drewN q2 = wr.drewN (q + q2)) := veil fun q2 => World.drewN_drewN _ _ _
          clear c1 c0 e0 HAt BL HJ
          generalize hv : workAt l j = vj at *
          generalize hv0 : workAt l 0 = v0 at *
          generalize wr.drewN q = W at *
          by_cases hne : vj = v0
          · subst hne
            have HJ2 := veil (unveil HJJ rfl)
            clear HJJ HRR hv hv0
            go_wp2_with fail
            go_quiet (fail)
            go_wp2
            go_roundw
            case rel => exact ⟨j + 1, by omega, by omega, by go_num, ⟨_, unveil HQ _⟩, veil (fun i hi => by have := unveil HJ2 i hi; exact this)⟩
            case measure => simp [intOf]; omega
          · have hres := veil (unveil HRR hne)
            have hb : (vj != v0) = true := by simpa using hne
            clear HJJ HRR hv hv0
            go_wp2_with fail
            go_quiet (fail)
            go_wp2
            go_ret
            exact ⟨congrArg (fun z => Ending.returned (.bool z)) (unveil hres).symm, below_n (unveil BQ) _⟩
        · have hres := veil (unveil Hno (fun i hi => unveil HJ i (by omega)))
          have BQ := veil (below_n (unveil BL) q)
          clear HAt HJ Hyes Hno
          go_wp2
          go_ret
          exact ⟨congrArg (fun z => Ending.returned (.bool z)) (unveil hres).symm, unveil BQ⟩
end Go.Proofs.Ytmkbidglfnpgjaa
