/- Walks of berthshiftref.WindowFault and IdSeen. -/
import Derived.Test.YtcdopnkabbfooaaGreatWdF
namespace Go.Proofs.YtcdopnkabbfooaaGreat
open Go.RowKit

/-- two arrays compared. -/
theorem run_equal_seen_at (d : Nat) (a0 a1 a2 a3 a4 a5 a6 a7 b0 b1 b2 b3 b4 b5 b6 b7 : Bool) (w : World) :
    (Op.equalIn (d + 1 + 1) 87 (.agg #[.bool a0, .bool a1, .bool a2, .bool a3, .bool a4, .bool a5, .bool a6, .bool a7]) (.agg #[.bool b0, .bool b1, .bool b2, .bool b3, .bool b4, .bool b5, .bool b6, .bool b7])).run Tryz.prog w
      = .ok (a0 == b0 && (a1 == b1 && (a2 == b2 && (a3 == b3 && (a4 == b4 && (a5 == b5 && (a6 == b6 && a7 == b7))))))) w := by
  have hb : ∀ (x y : Bool) w, (Op.equalIn (d + 1) 4 (.bool x) (.bool y)).run Tryz.prog w = .ok (x == y) w := fun x y w => run_equalIn_bool w d 4 x y Tryz.underlying4
  rw [Op.equalIn]
  generalize d + 1 = dd at hb ⊢
  simp only [Sem.run_bind, run_underlying Tryz.underlying87, Result.andThen_ok]
  simp [go_sem, List.range', hb]
  repeat' split
  all_goals simp_all
theorem run_equal_seen (a0 a1 a2 a3 a4 a5 a6 a7 b0 b1 b2 b3 b4 b5 b6 b7 : Bool) (w : World) :
    (Op.equalIn 9999 87 (.agg #[.bool a0, .bool a1, .bool a2, .bool a3, .bool a4, .bool a5, .bool a6, .bool a7]) (.agg #[.bool b0, .bool b1, .bool b2, .bool b3, .bool b4, .bool b5, .bool b6, .bool b7])).run Tryz.prog w
      = .ok (a0 == b0 && (a1 == b1 && (a2 == b2 && (a3 == b3 && (a4 == b4 && (a5 == b5 && (a6 == b6 && a7 == b7))))))) w := run_equal_seen_at 9997 a0 a1 a2 a3 a4 a5 a6 a7 b0 b1 b2 b3 b4 b5 b6 b7 w

theorem winIn_yes (n lo hi : Int) (w : World) (h0 : lo ≤ n) (h1 : n ≤ hi) : Calls Tryz.prog 64 #[.int .i64 n, .int .i64 lo, .int .i64 hi] w fun e w' => e = .returned (.bool true) ∧ w = w' := by
  go_enter Tryz.func64, Tryz.ntmps64
  go_wp2
  go_ret
  exact ⟨rfl, rfl⟩
theorem winIn_no (n lo hi : Int) (w : World) (h : ¬ (lo ≤ n ∧ n ≤ hi)) : Calls Tryz.prog 64 #[.int .i64 n, .int .i64 lo, .int .i64 hi] w fun e w' => e = .returned (.bool false) ∧ w = w' := by
  by_cases h0 : lo ≤ n
  · have h1 : ¬ n ≤ hi := fun h1 => h ⟨h0, h1⟩
    clear h
    go_enter Tryz.func64, Tryz.ntmps64
    go_wp2
    go_ret
    exact ⟨rfl, rfl⟩
  · clear h
    go_enter Tryz.func64, Tryz.ntmps64
    go_wp2
    go_ret
    exact ⟨rfl, rfl⟩

set_option maxRecDepth 20000 in
set_option maxHeartbeats 1000000 in
theorem windowFault_range (t : Int) (s : Nat → Bool) (w : World) (h : ¬ (0 ≤ t ∧ t ≤ 1073741825)) :
    Calls Tryz.prog 100 #[winVal t s] w fun e w' => e = .returned (.int .i64 6) ∧ Below w.heap.size w w' := by
  go_enter Tryz.func100, Tryz.ntmps100
  go_wp2_with (go_at_call 64; refine (winIn_no t 0 1073741825 _ h).mono ?_; rintro e w1 ⟨rfl, rfl⟩)
  go_ret
  exact ⟨rfl, below1 _ _⟩

/-- the window of a window's ids is the window. -/
theorem ids_window {t : Int} {s : Nat → Bool} (h : WinOk t s) (a : Option Addr) (cap : Nat) (w : World) (r : RowK .i64 w a (idsTo t s 8).length (idsTo t s 8)) :
    Calls Tryz.prog 103 #[.slice a (idsTo t s 8).length cap] w fun e w' => e = .returned (winVal t s) ∧ Below w.heap.size w w' := by
  have hl := h.low
  have hh := h.high
  have hln := length_idsTo t s 8
  by_cases hz : t = 0
  · have hnil : idsTo t s 8 = [] := by
      rw [List.eq_nil_iff_forall_not_mem]
      intro x hx
      have := h.nonneg (mem_ids.1 hx)
      omega
    have e : winVal t s = winVal 0 noneS := winVal_eq hz (by
      intro i hi
      cases hsi : s i
      · rfl
      · have := h.ids i hi hsi; omega)
    rw [hnil, e]
    exact windowOf_nil a cap w
  · have h7 : s 7 = true := by rcases h.last with h' | h'; exact absurd h' hz; exact h'
    have hm : t - 1 ∈ idsTo t s 8 := mem_idsTo.2 ⟨7, by omega, h7, by omega⟩
    have hp := idsTo_sorted t s 8
    have hb : ∀ x ∈ idsTo t s 8, x < t := fun x hx => (h.nonneg (mem_ids.1 hx)).2
    have ht : topOf (idsTo t s 8) = t := topOf_eq hp hm hb
    have e : winVal t s = winVal t (seenOf t (idsTo t s 8)) := winVal_eq rfl (by
      intro i hi
      rw [← inWin_at (t := t) (s := s) i hi, Bool.eq_iff_iff]
      simp only [seenOf, decide_eq_true_eq]
      exact mem_ids.symm)
    rw [e]
    refine (windowOf_any a _ cap (idsTo t s 8) w r (List.length_pos_iff.2 (by intro h0; rw [h0] at hm; cases hm)) (by omega) ?_).mono ?_
    · intro x hx
      have := h.nonneg (mem_ids.1 hx)
      rw [ht]
      omega
    · rw [ht]
      exact fun e w' h => h

set_option maxRecDepth 20000 in
set_option maxHeartbeats 2000000 in
theorem windowFault_yes (t : Int) (s : Nat → Bool) (w : World) (h : WinOk t s) :
    Calls Tryz.prog 100 #[winVal t s] w fun e w' => e = .returned (.int .i64 0) ∧ Below w.heap.size w w' := by
  have hl := h.low
  have hh := h.high
  go_enter Tryz.func100, Tryz.ntmps100
  go_wp2_with fail
  obtain ⟨W, hW, wb0, B0, S0⟩ := one_box w t s
  rw [← hW]
  clear hW
  refine (winIn_yes t 0 1073741825 _ hl hh).mono ?_
  rintro e w1 ⟨rfl, rfl⟩
  obtain ⟨c0, c1, c2, c3, c4, c5, c6, c7, c8⟩ := wb0.cells
  go_wp2_with fail
  refine (idsOf_any t s _ hl hh).mono ?_
  rintro e w2 ⟨a, cap, rfl, r2, k2, n2, m2, b2⟩
  clear c0 c1 c2 c3 c4 c5 c6 c7 c8
  have wb := wb0.next b2
  have B2 := Below.next B0 b2
  obtain ⟨c0, c1, c2, c3, c4, c5, c6, c7, c8⟩ := wb.cells
  clear wb0 B0 S0 b2
  have HC := veil (ids_window h a cap)
  have HP := veil (fun x hx => h.nonneg (mem_ids.1 hx) : ∀ x ∈ idsTo t s 8, 0 ≤ x ∧ x < t)
  generalize idsTo t s 8 = l at r2 k2 HC HP ⊢
  obtain ⟨n, hn⟩ : ∃ n, n = l.length := ⟨_, rfl⟩
  rw [← hn] at r2 k2 HC ⊢
  have HN := veil hn
  clear hn
  by_cases hz : n = 0
  · subst hz
    have hq := run_equal_seen
    go_wp2_with fail
    first | go_region_with (go_at_call 103; refine (unveil HC _ (by first | exact r2 | exact r2.below (belowN _ 1))).mono ?_; rintro e w5 ⟨rfl, bb⟩; have b5 : Below w2.heap.size w2 w5 := (by first | exact bb | exact Below.next (belowN _ _) bb); obtain ⟨q0, q1, q2, q3, q4, q5, q6, q7, q8⟩ := (wb.next b5).cells) | fail
    all_goals
      go_wp2
      go_ret
      exact ⟨rfl, Below.next B2 b5⟩
  · obtain ⟨b, off, rfl⟩ := r2.form (by omega)
    have hx := r2.at 0 (by omega)
    rw [Nat.add_zero] at hx
    have h0 := unveil HP (l.getD 0 0) (by
      have e := unveil HN
      rw [List.getD_eq_getElem?_getD, List.getElem?_eq_getElem (by omega)]; simp)
    generalize l.getD 0 0 = x at hx h0
    obtain ⟨h0, _⟩ := h0
    have hq := run_equal_seen
    have hn1 : (0 : Int) < (n : Int) := by omega
    have hx0 : decide (x < 0) = false := by simp; omega
    go_wp2_with fail
    first | go_region_with (go_at_call 103; refine (unveil HC _ (by first | exact r2 | exact r2.below (belowN _ 1))).mono ?_; rintro e w5 ⟨rfl, bb⟩; have b5 : Below w2.heap.size w2 w5 := (by first | exact bb | exact Below.next (belowN _ _) bb); obtain ⟨q0, q1, q2, q3, q4, q5, q6, q7, q8⟩ := (wb.next b5).cells) | fail
    all_goals
      go_wp2
      go_ret
      exact ⟨rfl, Below.next B2 b5⟩
end Go.Proofs.YtcdopnkabbfooaaGreat
