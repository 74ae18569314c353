/- Walks of queue.mayRemember and mayLease. -/
import Derived.Test.YtcdopnkabbfooaaGreatQuA
namespace Go.Proofs.YtcdopnkabbfooaaGreat
open Go.RowKit

theorem one_q (w : World) (ep nx gv : Int) (r l : Value) (ws : Nat → Value) : ∃ W, W = w.alloc (.cells (qCells ep nx gv r l ws) 92) ∧ qBlock W w.heap.size ep nx gv r l ws ∧ Below w.heap.size w W ∧ W.heap.size = w.heap.size + 1 :=
  ⟨_, rfl, qBlock.new w ep nx gv r l ws, below1 _ _, by simp⟩

/-- the windows' cells. -/
def Wins (ws : Nat → Value) (wt : Nat → Int) (wz : Nat → Nat → Bool) : Prop := ∀ p, p < 4 → ws (9 * p) = .int .i64 (wt p) ∧ ∀ j, j < 8 → ws (9 * p + 1 + j) = .bool (wz p j)
theorem below4 {p : Nat → Prop} (h0 : p 0) (h1 : p 1) (h2 : p 2) (h3 : p 3) : ∀ i, i < 4 → p i
  | 0, _ => h0
  | 1, _ => h1
  | 2, _ => h2
  | 3, _ => h3
  | n + 4, h => absurd h (by omega)
theorem Wins.nine {ws : Nat → Value} {wt : Nat → Int} {wz : Nat → Nat → Bool} (h : Wins ws wt wz) (p : Nat) (hp : p < 4) :
    Value.agg #[ws (9 * p), ws (9 * p + 1 + 0), ws (9 * p + 1 + 1), ws (9 * p + 1 + 2), ws (9 * p + 1 + 3), ws (9 * p + 1 + 4), ws (9 * p + 1 + 5), ws (9 * p + 1 + 6), ws (9 * p + 1 + 7)] = winVal (wt p) (wz p) := by
  obtain ⟨h0, h1⟩ := h p hp
  rw [h0, h1 0 (by omega), h1 1 (by omega), h1 2 (by omega), h1 3 (by omega), h1 4 (by omega), h1 5 (by omega), h1 6 (by omega), h1 7 (by omega)]
set_option maxHeartbeats 1000000 in
theorem run_index_wins {ws : Nat → Value} {wt : Nat → Int} {wz : Nat → Nat → Bool} (h : Wins ws wt wz) : ∀ p : Nat, p < 4 → ∀ w : World, (Instr.index 90 (.agg (wsList ws).toArray) (.int .i64 p)).run Tryz.prog w = .ok (winVal (wt p) (wz p)) w := by
  intro p hp w
  rw [← h.nine p hp]
  revert p
  refine below4 ?_ ?_ ?_ ?_ <;> (simp [Instr.index, run_underlying Tryz.underlying90, asIntOf, go_sem, wsList])

theorem wins_dec {n : Nat} (P : Nat → Prop) (h : ¬ ∀ i, i < n → P i) : ∃ i, i < n ∧ ¬ P i := by
  rcases Classical.em (∃ i, i < n ∧ ¬ P i) with h1 | h1
  · exact h1
  · exact absurd (fun i hi => Classical.byContradiction fun h2 => h1 ⟨i, hi, h2⟩) h
/-- may each window be? -/
noncomputable def winsB (wt : Nat → Int) (wz : Nat → Nat → Bool) : Bool := @decide (∀ p, p < 4 → WinOk (wt p) (wz p)) (Classical.propDecidable _)
theorem winsB_yes {wt : Nat → Int} {wz : Nat → Nat → Bool} (h : ∀ p, p < 4 → WinOk (wt p) (wz p)) : winsB wt wz = true := by
  unfold winsB; exact @decide_eq_true _ (Classical.propDecidable _) h
theorem winsB_no {wt : Nat → Int} {wz : Nat → Nat → Bool} (p : Nat) (hp : p < 4) (h : ¬ WinOk (wt p) (wz p)) : winsB wt wz = false := by
  unfold winsB; exact @decide_eq_false _ (Classical.propDecidable _) (fun h' => h (h' p hp))
theorem winsB_iff {wt : Nat → Int} {wz : Nat → Nat → Bool} : winsB wt wz = true ↔ ∀ p, p < 4 → WinOk (wt p) (wz p) := by
  unfold winsB; exact @decide_eq_true_iff _ (Classical.propDecidable _)

set_option maxRecDepth 20000 in
set_option maxHeartbeats 4000000 in
theorem mayRemember_any (ep nx gv : Int) (r l : Value) (ws : Nat → Value) (wt : Nat → Int) (wz : Nat → Nat → Bool) (w : World) (h : Wins ws wt wz) :
    Calls Tryz.prog 93 #[qVal ep nx gv r l ws] w fun e w' => e = .returned (.bool (winsB wt wz)) ∧ Below w.heap.size w w' := by
  have hix := run_index_wins h
  clear h
  have q0 := qBlock.new w ep nx gv r l ws
  go_enter Tryz.func93, Tryz.ntmps93
  go_wp2_with (refine q_wins _ rfl rfl rfl (by assumption) ?_)
  clear q0
  obtain ⟨W, hW, -, B0, S0⟩ := one_q w ep nx gv r l ws
  rw [← hW]
  clear hW
  go_loopw [7] (fun i wr => ∃ k : Nat, k ≤ 4 ∧ i = .int .i64 k ∧ (∀ p, p < k → WinOk (wt p) (wz p)) ∧ Below w.heap.size w wr) (fun i _ => 4 - (intOf i).toNat)
  case atStart => exact ⟨0, by omega, rfl, fun p hp => by omega, B0⟩
  case round =>
    obtain ⟨k, hk, rfl, hi, B⟩ := hrel
    clear B0 S0
    have HB := veil B
    have HI := veil hi
    clear B hi
    by_cases hlt : k < 4
    · have hk1 := hix k hlt
      clear hix
      by_cases hok : WinOk (wt k) (wz k)
      · go_wp2_with (go_at_call 106; refine (check_yes _ _ _ hok).mono ?_; rintro e w1 ⟨rfl, b1⟩)
        go_roundw
        case rel =>
          refine ⟨k + 1, by omega, by go_num, fun p hp => ?_, Below.next (unveil HB) (below1t b1)⟩
          rcases Nat.lt_or_ge p k with h1 | h1
          · exact unveil HI p h1
          · obtain rfl : p = k := by omega
            exact hok
        case measure => simp [intOf]; omega
      · go_wp2_with (go_at_call 106; refine (check_no _ _ _ hok).mono ?_; rintro e w1 ⟨rfl, b1⟩)
        go_ret
        exact ⟨by rw [winsB_no k hlt hok]; rfl, Below.next (unveil HB) (below1t b1)⟩
    · obtain rfl : k = 4 := by omega
      go_wp2
      go_ret
      exact ⟨by rw [winsB_yes (unveil HI)]; rfl, unveil HB⟩

/-- the leases' handles: of each the queue's epoch, a number below Given, above the one ahead of it. -/
def lastOf (L : List Int) (k : Nat) : Int := if k = 0 then -1 else L.getD (4 * (k - 1) + 1) 0
structure LeaseOk (ep gv : Int) (L : List Int) (i : Nat) : Prop where
  epoch : L.getD (4 * i) 0 = ep
  no : inR (L.getD (4 * i + 1) 0) (gv - 1) = true
  rise : lastOf L i < L.getD (4 * i + 1) 0
noncomputable def leaseB (ep gv : Int) (L : List Int) (n : Nat) : Bool := @decide (∀ i, i < n → LeaseOk ep gv L i) (Classical.propDecidable _)
theorem leaseB_yes {ep gv : Int} {L : List Int} {n : Nat} (h : ∀ i, i < n → LeaseOk ep gv L i) : leaseB ep gv L n = true := by
  unfold leaseB; exact @decide_eq_true _ (Classical.propDecidable _) h
theorem leaseB_no {ep gv : Int} {L : List Int} {n : Nat} (p : Nat) (hp : p < n) (h : ¬ LeaseOk ep gv L p) : leaseB ep gv L n = false := by
  unfold leaseB; exact @decide_eq_false _ (Classical.propDecidable _) (fun h' => h (h' p hp))
theorem leaseB_iff {ep gv : Int} {L : List Int} {n : Nat} : leaseB ep gv L n = true ↔ ∀ i, i < n → LeaseOk ep gv L i := by
  unfold leaseB; exact @decide_eq_true_iff _ (Classical.propDecidable _)

set_option maxRecDepth 20000 in
set_option maxHeartbeats 4000000 in
theorem mayLease_any (ep nx gv : Int) (r : Value) (la : Option Addr) (ln lc : Nat) (L : List Int) (ws : Nat → Value) (w : World) (hg0 : 0 ≤ gv) (hg1 : gv ≤ 1073741824) (hL : RowK .i64 w la (4 * ln) L) (hln : ln ≤ 9223372036854775807) :
    Calls Tryz.prog 95 #[qVal ep nx gv r (.slice la ln lc) ws] w fun e w' => e = .returned (.bool (leaseB ep gv L ln)) ∧ Below w.heap.size w w' := by
  obtain ⟨g0, g1, g2, g3, g4⟩ := qCells_heads ep nx gv r (.slice la ln lc) ws
  go_enter Tryz.func95, Tryz.ntmps95
  go_wp2_with fail
  obtain ⟨W, hW, qb0, B0, S0⟩ := one_q w ep nx gv r (.slice la ln lc) ws
  rw [← hW]
  clear hW
  clear g0 g1 g2 g3 g4
  go_loopw [3, 9] (fun z i wr => ∃ k : Nat, k ≤ ln ∧ i = .int .i64 k ∧ z = .int .i64 (lastOf L k) ∧ (∀ p, p < k → LeaseOk ep gv L p) ∧ qBlock wr w.heap.size ep nx gv r (.slice la ln lc) ws ∧ Below w.heap.size w wr) (fun _ i _ => ln - (intOf i).toNat)
  case atStart => exact ⟨0, by omega, rfl, rfl, fun p hp => by omega, qb0, B0⟩
  case round =>
    obtain ⟨k, hk, rfl, rfl, hi, qb, B⟩ := hrel
    clear B0 S0 qb0
    have HB := veil B
    have HQ := veil qb
    have HI := veil hi
    obtain ⟨c0, c1, c2, c3, c4⟩ := qb.heads
    have rL := hL.below B
    clear B hi qb
    by_cases hlt : k < ln
    · obtain ⟨b, off, rfl⟩ := hL.form (by omega)
      obtain ⟨x0, hx0⟩ : ∃ x, x = L.getD (4 * k) 0 := ⟨_, rfl⟩
      obtain ⟨x1, hx1⟩ : ∃ x, x = L.getD (4 * k + 1) 0 := ⟨_, rfl⟩
      obtain ⟨x2, hx2⟩ : ∃ x, x = L.getD (4 * k + 2) 0 := ⟨_, rfl⟩
      obtain ⟨x3, hx3⟩ : ∃ x, x = L.getD (4 * k + 3) 0 := ⟨_, rfl⟩
      have k0 : wr.cell? ⟨b, off + k * 4, none⟩ = some (.int .i64 x0) := by rw [Nat.mul_comm k 4, hx0]; exact rL.at (4 * k) (by omega)
      have k1 : wr.cell? ⟨b, off + k * 4 + 1, none⟩ = some (.int .i64 x1) := by rw [Nat.mul_comm k 4, hx1]; exact rL.at (4 * k + 1) (by omega)
      have k2 : wr.cell? ⟨b, off + k * 4 + 2, none⟩ = some (.int .i64 x2) := by rw [Nat.mul_comm k 4, hx2]; exact rL.at (4 * k + 2) (by omega)
      have k3 : wr.cell? ⟨b, off + k * 4 + 3, none⟩ = some (.int .i64 x3) := by rw [Nat.mul_comm k 4, hx3]; exact rL.at (4 * k + 3) (by omega)
      have hwl : w.heap.size < wr.heap.size := (unveil HQ).lt
      have hne : w.heap.size ≠ wr.heap.size := by omega
      obtain ⟨z, hz⟩ : ∃ z, z = lastOf L k := ⟨_, rfl⟩
      rw [← hz]
      have X : Hid (x0 = L.getD (4 * k) 0 ∧ x1 = L.getD (4 * k + 1) 0 ∧ z = lastOf L k) := veil ⟨hx0, hx1, hz⟩
      clear rL hx0 hx1 hx2 hx3 hz
      by_cases he : x0 = ep
      case neg =>
        go_wp2
        go_ret
        exact ⟨by rw [leaseB_no k hlt (fun h => he (by rw [(unveil X).1]; exact h.epoch))]; rfl, Below.next (unveil HB) (below1 _ _)⟩
      cases hi : inR x1 (gv - 1) with
      | false =>
        go_wp2_with (go_at_call 104; refine (qwithin_any _ _ _).mono ?_; rintro e w1 ⟨rfl, rfl⟩)
        go_ret
        exact ⟨by rw [leaseB_no k hlt (fun h => by have := h.no; rw [← (unveil X).2.1, hi] at this; cases this)]; rfl, Below.next (unveil HB) (below1 _ _)⟩
      | true =>
        by_cases hr : x1 ≤ z
        · go_wp2_with (go_at_call 104; refine (qwithin_any _ _ _).mono ?_; rintro e w1 ⟨rfl, rfl⟩)
          go_ret
          exact ⟨by rw [leaseB_no k hlt (fun h => by have := h.rise; rw [← (unveil X).2.1, ← (unveil X).2.2] at this; omega)]; rfl, Below.next (unveil HB) (below1 _ _)⟩
        · go_wp2_with (go_at_call 104; refine (qwithin_any _ _ _).mono ?_; rintro e w1 ⟨rfl, rfl⟩)
          go_roundw
          case rel =>
            obtain ⟨y0, y1, y2⟩ := unveil X
            refine ⟨k + 1, by omega, by go_num, ?_, fun p hp => ?_, (unveil HQ).next (below1 _ _), Below.next (unveil HB) (below1 _ _)⟩
            · rw [y1]; rfl
            · rcases Nat.lt_or_ge p k with h1 | h1
              · exact unveil HI p h1
              · obtain rfl : p = k := by omega
                exact ⟨by rw [← y0]; exact he, by rw [← y1]; exact hi, by rw [← y1, ← y2]; omega⟩
          case measure => simp [intOf]; omega
    · obtain rfl : k = ln := by omega
      go_wp2
      go_ret
      exact ⟨by rw [leaseB_yes (unveil HI)]; rfl, unveil HB⟩
end Go.Proofs.YtcdopnkabbfooaaGreat
