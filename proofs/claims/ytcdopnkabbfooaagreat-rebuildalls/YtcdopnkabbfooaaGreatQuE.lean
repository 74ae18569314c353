/- Walks of queue.mayHold and Check. -/
import Derived.Test.YtcdopnkabbfooaaGreatQuD
namespace Go.Proofs.YtcdopnkabbfooaaGreat
open Go.RowKit

/-- the messages that are ready: each may have come, their Nos rise. -/
def lastR (R : List Int) (k : Nat) : Int := if k = 0 then -1 else R.getD (2 * (k - 1)) 0
structure ReadyOk (nx : Int) (R : List Int) (i : Nat) : Prop where
  come : (inR (R.getD (2 * i) 0) (nx - 1) && inR (R.getD (2 * i + 1) 0) 1000000) = true
  rise : lastR R i < R.getD (2 * i) 0
def ComeOk (nx : Int) (L : List Int) (i : Nat) : Prop := (inR (L.getD (4 * i + 2) 0) (nx - 1) && inR (L.getD (4 * i + 3) 0) 1000000) = true
structure HoldOk (nx : Int) (R : List Int) (rn : Nat) (L : List Int) (ln : Nat) : Prop where
  ready : ∀ i, i < rn → ReadyOk nx R i
  come : ∀ i, i < ln → ComeOk nx L i
  apart : dupB (nosOf L ln R rn) = false
noncomputable def holdB (nx : Int) (R : List Int) (rn : Nat) (L : List Int) (ln : Nat) : Bool := @decide (HoldOk nx R rn L ln) (Classical.propDecidable _)
theorem holdB_yes {nx : Int} {R : List Int} {rn : Nat} {L : List Int} {ln : Nat} (h : HoldOk nx R rn L ln) : holdB nx R rn L ln = true := by
  unfold holdB; exact @decide_eq_true _ (Classical.propDecidable _) h
theorem holdB_no {nx : Int} {R : List Int} {rn : Nat} {L : List Int} {ln : Nat} (h : ¬ HoldOk nx R rn L ln) : holdB nx R rn L ln = false := by
  unfold holdB; exact @decide_eq_false _ (Classical.propDecidable _) h
theorem holdB_iff {nx : Int} {R : List Int} {rn : Nat} {L : List Int} {ln : Nat} : holdB nx R rn L ln = true ↔ HoldOk nx R rn L ln := by
  unfold holdB; exact @decide_eq_true_iff _ (Classical.propDecidable _)

set_option maxRecDepth 20000 in
set_option maxHeartbeats 4000000 in
theorem mayHold_any (ep nx gv : Int) (ra la : Option Addr) (rn rc ln lc : Nat) (R L : List Int) (ws : Nat → Value) (w : World) (hR : RowK .i64 w ra (2 * rn) R) (hL : RowK .i64 w la (4 * ln) L) (hs : rn + ln ≤ 500) (hn0 : 0 ≤ nx) (hn1 : nx ≤ 1073741824) :
    Calls Tryz.prog 94 #[qVal ep nx gv (.slice ra rn rc) (.slice la ln lc) ws] w fun e w' => e = .returned (.bool (holdB nx R rn L ln)) ∧ Below w.heap.size w w' := by
  obtain ⟨g0, g1, g2, g3, g4⟩ := qCells_heads ep nx gv (.slice ra rn rc) (.slice la ln lc) ws
  go_enter Tryz.func94, Tryz.ntmps94
  go_wp2_with fail
  obtain ⟨W, hW, qb0, B0, S0⟩ := one_q w ep nx gv (.slice ra rn rc) (.slice la ln lc) ws
  rw [← hW]
  clear hW g0 g1 g2 g3 g4
  go_loopw [3, 11] (fun z i wr => ∃ k : Nat, k ≤ rn ∧ i = .int .i64 k ∧ z = .int .i64 (lastR R k) ∧ (∀ p, p < k → ReadyOk nx R p) ∧ qBlock wr w.heap.size ep nx gv (.slice ra rn rc) (.slice la ln lc) ws ∧ Below w.heap.size w wr) (fun _ i _ => rn - (intOf i).toNat)
  case atStart => exact ⟨0, by omega, rfl, rfl, fun p hp => by omega, qb0, B0⟩
  case round =>
    obtain ⟨k, hk, rfl, rfl, hi, qb, B⟩ := hrel
    clear B0 S0 qb0
    have HB := veil B
    have HQ := veil qb
    have HI := veil hi
    obtain ⟨c0, c1, c2, c3, c4⟩ := qb.heads
    have rR := hR.below B
    have rL := hL.below B
    clear B hi qb
    by_cases hlt : k < rn
    · obtain ⟨b, off, rfl⟩ := hR.form (by omega)
      obtain ⟨x0, hx0⟩ : ∃ x, x = R.getD (2 * k) 0 := ⟨_, rfl⟩
      obtain ⟨x1, hx1⟩ : ∃ x, x = R.getD (2 * k + 1) 0 := ⟨_, rfl⟩
      have k0 : wr.cell? ⟨b, off + k * 2, none⟩ = some (.int .i64 x0) := by rw [Nat.mul_comm k 2, hx0]; exact rR.at (2 * k) (by omega)
      have k1 : wr.cell? ⟨b, off + k * 2 + 1, none⟩ = some (.int .i64 x1) := by rw [Nat.mul_comm k 2, hx1]; exact rR.at (2 * k + 1) (by omega)
      have hwl : w.heap.size < wr.heap.size := (unveil HQ).lt
      have hne : w.heap.size ≠ wr.heap.size := by omega
      obtain ⟨z, hz⟩ : ∃ z, z = lastR R k := ⟨_, rfl⟩
      rw [← hz]
      have X : Hid (x0 = R.getD (2 * k) 0 ∧ x1 = R.getD (2 * k + 1) 0 ∧ z = lastR R k) := veil ⟨hx0, hx1, hz⟩
      have q1 : qBlock (wr.alloc (.cells #[.int .i64 x0, .int .i64 x1] 131)) w.heap.size ep nx gv (.slice (some ⟨b, off, none⟩) rn rc) (.slice la ln lc) ws := (unveil HQ).next (below1 _ _)
      clear rR rL hx0 hx1 hz c0 c1 c2 c3 c4
      cases hc : (inR x0 (nx - 1) && inR x1 1000000) with
      | false =>
        go_wp2_with (first
          | (refine q_loads _ rfl rfl rfl (by assumption) ?_)
          | (go_at_call 107; refine (mayCome_any _ _ _ _ _ _ _ _ _ hn0 hn1).mono ?_; rintro e w1 ⟨rfl, b1⟩; rw [hc]))
        go_ret
        exact ⟨by rw [holdB_no (fun h => by have := (h.ready k hlt).come; rw [← (unveil X).1, ← (unveil X).2.1, hc] at this; cases this)]; rfl, Below.next (unveil HB) (below1t b1)⟩
      | true =>
        have hcell : ∀ w1, Below (wr.alloc (.cells #[.int .i64 x0, .int .i64 x1] 131)).heap.size (wr.alloc (.cells #[.int .i64 x0, .int .i64 x1] 131)) w1 → w1.cell? ⟨wr.heap.size, 0, none⟩ = some (.int .i64 x0) := fun w1 b1 => (b1.cell (p := ⟨wr.heap.size, 0, none⟩) (by simp)).trans (by simp)
        have HC := veil hcell
        clear hcell
        by_cases hr : x0 ≤ z
        · go_wp2_with (first
            | (refine q_loads _ rfl rfl rfl (by assumption) ?_)
            | (go_at_call 107; refine (mayCome_any _ _ _ _ _ _ _ _ _ hn0 hn1).mono ?_; rintro e w1 ⟨rfl, b1⟩; rw [hc]; have m0 := unveil HC w1 b1))
          go_ret
          exact ⟨by rw [holdB_no (fun h => by have := (h.ready k hlt).rise; rw [← (unveil X).1, ← (unveil X).2.2] at this; omega)]; rfl, Below.next (unveil HB) (below1t b1)⟩
        · go_wp2_with (first
            | (refine q_loads _ rfl rfl rfl (by assumption) ?_)
            | (go_at_call 107; refine (mayCome_any _ _ _ _ _ _ _ _ _ hn0 hn1).mono ?_; rintro e w1 ⟨rfl, b1⟩; rw [hc]; have m0 := unveil HC w1 b1))
          go_roundw
          case rel =>
            obtain ⟨y0, y1, y2⟩ := unveil X
            refine ⟨k + 1, by omega, by go_num, ?_, fun p hp => ?_, q1.next b1, Below.next (unveil HB) (below1t b1)⟩
            · rw [y0]; rfl
            · rcases Nat.lt_or_ge p k with h1 | h1
              · exact unveil HI p h1
              · obtain rfl : p = k := by omega
                exact ⟨by rw [← y0, ← y1]; exact hc, by rw [← y0, ← y2]; omega⟩
          case measure => simp [intOf]; omega
    · obtain rfl : k = rn := by omega
      clear rR rL
      go_wp2_with fail
      clear c0 c1 c2 c3 c4
      go_loopw [31] (fun i wr => ∃ j : Nat, j ≤ ln ∧ i = .int .i64 j ∧ (∀ p, p < j → ComeOk nx L p) ∧ qBlock wr w.heap.size ep nx gv (.slice ra k rc) (.slice la ln lc) ws ∧ Below w.heap.size w wr) (fun i _ => ln - (intOf i).toNat)
      case atStart => exact ⟨0, by omega, rfl, fun p hp => by omega, unveil HQ, unveil HB⟩
      case round =>
        obtain ⟨j, hj, rfl, hi, qb, B⟩ := hrel
        have HB' := veil B
        have HQ' := veil qb
        have HI' := veil hi
        have rL := hL.below B
        have rR := hR.below B
        clear B hi
        by_cases hlt : j < ln
        · obtain ⟨b, off, rfl⟩ := hL.form (by omega)
          obtain ⟨x0, hx0⟩ : ∃ x, x = L.getD (4 * j) 0 := ⟨_, rfl⟩
          obtain ⟨x1, hx1⟩ : ∃ x, x = L.getD (4 * j + 1) 0 := ⟨_, rfl⟩
          obtain ⟨x2, hx2⟩ : ∃ x, x = L.getD (4 * j + 2) 0 := ⟨_, rfl⟩
          obtain ⟨x3, hx3⟩ : ∃ x, x = L.getD (4 * j + 3) 0 := ⟨_, rfl⟩
          have k0 : wr.cell? ⟨b, off + j * 4, none⟩ = some (.int .i64 x0) := by rw [Nat.mul_comm j 4, hx0]; exact rL.at (4 * j) (by omega)
          have k1 : wr.cell? ⟨b, off + j * 4 + 1, none⟩ = some (.int .i64 x1) := by rw [Nat.mul_comm j 4, hx1]; exact rL.at (4 * j + 1) (by omega)
          have k2 : wr.cell? ⟨b, off + j * 4 + 2, none⟩ = some (.int .i64 x2) := by rw [Nat.mul_comm j 4, hx2]; exact rL.at (4 * j + 2) (by omega)
          have k3 : wr.cell? ⟨b, off + j * 4 + 3, none⟩ = some (.int .i64 x3) := by rw [Nat.mul_comm j 4, hx3]; exact rL.at (4 * j + 3) (by omega)
          have X : Hid (x2 = L.getD (4 * j + 2) 0 ∧ x3 = L.getD (4 * j + 3) 0) := veil ⟨hx2, hx3⟩
          have q1 : qBlock (wr.alloc (.cells #[.int .i64 x0, .int .i64 x1, .int .i64 x2, .int .i64 x3] 133)) w.heap.size ep nx gv (.slice ra k rc) (.slice (some ⟨b, off, none⟩) ln lc) ws := qb.next (below1 _ _)
          clear rL rR hx0 hx1 hx2 hx3 qb
          cases hc : (inR x2 (nx - 1) && inR x3 1000000) with
          | false =>
            go_wp2_with (first
              | (refine q_loads _ rfl rfl rfl (by assumption) ?_)
              | (go_at_call 107; refine (mayCome_any _ _ _ _ _ _ _ _ _ hn0 hn1).mono ?_; rintro e w1 ⟨rfl, b1⟩; rw [hc]))
            go_ret
            exact ⟨by rw [holdB_no (fun h => by have := h.come j hlt; unfold ComeOk at this; rw [← (unveil X).1, ← (unveil X).2, hc] at this; cases this)]; rfl, Below.next (unveil HB') (below1t b1)⟩
          | true =>
            go_wp2_with (first
              | (refine q_loads _ rfl rfl rfl (by assumption) ?_)
              | (go_at_call 107; refine (mayCome_any _ _ _ _ _ _ _ _ _ hn0 hn1).mono ?_; rintro e w1 ⟨rfl, b1⟩; rw [hc]))
            go_roundw
            case rel =>
              obtain ⟨y2, y3⟩ := unveil X
              refine ⟨j + 1, by omega, by go_num, fun p hp => ?_, q1.next b1, Below.next (unveil HB') (below1t b1)⟩
              rcases Nat.lt_or_ge p j with h1 | h1
              · exact unveil HI' p h1
              · obtain rfl : p = j := by omega
                unfold ComeOk; rw [← y2, ← y3]; exact hc
            case measure => simp [intOf]; omega
        · obtain rfl : j = ln := by omega
          have ht := twice_any ep nx gv ra la k rc j lc R L ws wr rR rL hs
          cases hd : dupB (nosOf L j R k) with
          | false =>
            rw [hd] at ht
            clear rR rL hR hL
            go_wp2_with (first
              | (refine q_loads _ rfl rfl rfl (by assumption) ?_)
              | (go_at_call 108; refine ht.mono ?_; rintro e w1 ⟨rfl, b1⟩))
            go_ret
            exact ⟨by rw [holdB_yes ⟨unveil HI, unveil HI', hd⟩]; rfl, Below.next (unveil HB') b1⟩
          | true =>
            rw [hd] at ht
            clear rR rL hR hL
            go_wp2_with (first
              | (refine q_loads _ rfl rfl rfl (by assumption) ?_)
              | (go_at_call 108; refine ht.mono ?_; rintro e w1 ⟨rfl, b1⟩))
            go_ret
            exact ⟨by rw [holdB_no (fun h => by have := h.apart; rw [hd] at this; cases this)]; rfl, Below.next (unveil HB') b1⟩
end Go.Proofs.YtcdopnkabbfooaaGreat
