/- Walk of window.Seen. -/
import Derived.Test.YtcdopnkabbfooaaGreatWdB
namespace Go.Proofs.YtcdopnkabbfooaaGreat
open Go.RowKit

set_option maxHeartbeats 1000000 in
theorem seen_state (t id : Int) (s : Nat → Bool) (w : World) (h : ¬ WinOk t s) :
    Calls Tryz.prog 120 #[winVal t s, .int .i64 id] w fun e w' => e = .returned (.tuple #[.bool false, .int .i64 6]) ∧ Below w.heap.size w w' := by
  go_enter Tryz.func120, Tryz.ntmps120
  go_wp2_with (go_at_call 106; refine (check_no t s _ h).mono ?_; rintro e w1 ⟨rfl, b1⟩)
  go_ret2
  exact ⟨rfl, below1t b1⟩

set_option maxHeartbeats 1000000 in
theorem seen_range (t id : Int) (s : Nat → Bool) (w : World) (h : WinOk t s) (hr : ¬ (0 ≤ id ∧ id ≤ 1073741824)) :
    Calls Tryz.prog 120 #[winVal t s, .int .i64 id] w fun e w' => e = .returned (.tuple #[.bool false, .int .i64 2]) ∧ Below w.heap.size w w' := by
  by_cases h0 : id < 0
  · go_enter Tryz.func120, Tryz.ntmps120
    go_wp2_with (go_at_call 106; refine (check_yes t s _ h).mono ?_; rintro e w1 ⟨rfl, b1⟩)
    go_ret2
    exact ⟨rfl, below1t b1⟩
  · have h1 : 1073741824 < id := by omega
    have h2 : ¬ id ≤ 1073741824 := by omega
    clear hr
    go_enter Tryz.func120, Tryz.ntmps120
    go_wp2_with (go_at_call 106; refine (check_yes t s _ h).mono ?_; rintro e w1 ⟨rfl, b1⟩)
    go_ret2
    exact ⟨rfl, below1t b1⟩

set_option maxHeartbeats 1000000 in
theorem seen_low (t id : Int) (s : Nat → Bool) (w : World) (h : WinOk t s) (h0 : 0 ≤ id) (h1 : id ≤ 1073741824) (h2 : id < t - 8) :
    Calls Tryz.prog 120 #[winVal t s, .int .i64 id] w fun e w' => e = .returned (.tuple #[.bool false, .int .i64 9]) ∧ Below w.heap.size w w' := by
  have hl := h.low
  have hh := h.high
  go_enter Tryz.func120, Tryz.ntmps120
  go_wp2_with fail
  obtain ⟨W, hW, wb0, B0, S0⟩ := one_box w t s
  rw [← hW]
  clear hW
  refine (check_yes t s _ h).mono ?_
  rintro e w1 ⟨rfl, b1⟩
  have wb := wb0.next b1
  have HB := veil (Below.next B0 b1)
  obtain ⟨c0, c1, c2, c3, c4, c5, c6, c7, c8⟩ := wb.cells
  clear wb wb0 B0 S0 b1 h
  go_wp2_with (go_at_call 117; refine (lowest_any t s _ hl hh).mono ?_; rintro e w2 ⟨rfl, b2⟩)
  go_ret2
  exact ⟨rfl, Below.next (unveil HB) b2⟩

set_option maxHeartbeats 1000000 in
theorem seen_in (t : Int) (k : Nat) (s : Nat → Bool) (w : World) (h : WinOk t s) (h0 : 0 ≤ t - 8 + (k : Int)) (h1 : k < 8) :
    Calls Tryz.prog 120 #[winVal t s, .int .i64 (t - 8 + (k : Int))] w fun e w' => e = .returned (.tuple #[.bool (s k), .int .i64 0]) ∧ Below w.heap.size w w' := by
  have hl := h.low
  have hh := h.high
  obtain ⟨id, hid⟩ : ∃ id, id = t - 8 + (k : Int) := ⟨_, rfl⟩
  rw [← hid]
  have h3 : ¬ id < t - 8 := by omega
  have h4 : ¬ id < 0 := by omega
  have h5 : ¬ 1073741824 < id := by omega
  have h6 : id < t := by omega
  have h7 : (id - (t - 8)).toNat = k := by omega
  have h8 : 0 ≤ id - (t - 8) := by omega
  have h9 : id - (t - 8) < 8 := by omega
  have HI := veil hid
  clear hid h0
  go_enter Tryz.func120, Tryz.ntmps120
  go_wp2_with fail
  obtain ⟨W, hW, wb0, B0, S0⟩ := one_box w t s
  rw [← hW]
  clear hW
  refine (check_yes t s _ h).mono ?_
  rintro e w1 ⟨rfl, b1⟩
  have wb := wb0.next b1
  have HW := veil wb
  have HB := veil (Below.next B0 b1)
  obtain ⟨c0, c1, c2, c3, c4, c5, c6, c7, c8⟩ := wb.cells
  clear wb wb0 B0 S0 b1 h
  go_wp2_with (go_at_call 117; refine (lowest_any t s _ hl hh).mono ?_; rintro e w2 ⟨rfl, b2⟩; have wb2 := (unveil HW).next b2; have HB2 := veil (Below.next (unveil HB) b2); clear HB HW; obtain ⟨c0, c1, c2, c3, c4, c5, c6, c7, c8⟩ := wb2.cells; have ck := wb2.cell k h1; have HW := veil wb2; clear wb2; have HB := HB2)
  go_ret2
  exact ⟨rfl, unveil HB⟩

set_option maxHeartbeats 1000000 in
theorem seen_over (t id : Int) (s : Nat → Bool) (w : World) (h : WinOk t s) (h0 : 0 ≤ id) (h1 : id ≤ 1073741824) (h2 : t ≤ id) :
    Calls Tryz.prog 120 #[winVal t s, .int .i64 id] w fun e w' => e = .returned (.tuple #[.bool false, .int .i64 0]) ∧ Below w.heap.size w w' := by
  have hl := h.low
  have hh := h.high
  have h3 : ¬ id < t - 8 := by omega
  have h4 : ¬ id < 0 := by omega
  have h5 : ¬ 1073741824 < id := by omega
  have h6 : ¬ id < t := by omega
  go_enter Tryz.func120, Tryz.ntmps120
  go_wp2_with fail
  obtain ⟨W, hW, wb0, B0, S0⟩ := one_box w t s
  rw [← hW]
  clear hW
  refine (check_yes t s _ h).mono ?_
  rintro e w1 ⟨rfl, b1⟩
  have wb := wb0.next b1
  have HW := veil wb
  have HB := veil (Below.next B0 b1)
  obtain ⟨c0, c1, c2, c3, c4, c5, c6, c7, c8⟩ := wb.cells
  clear wb wb0 B0 S0 b1 h
  go_wp2_with (go_at_call 117; refine (lowest_any t s _ hl hh).mono ?_; rintro e w2 ⟨rfl, b2⟩; obtain ⟨c0, c1, c2, c3, c4, c5, c6, c7, c8⟩ := ((unveil HW).next b2).cells)
  go_ret2
  exact ⟨rfl, Below.next (unveil HB) b2⟩

/-- Seen at an id that the window is not above. -/
theorem seen_yes (t id : Int) (s : Nat → Bool) (w : World) (h : WinOk t s) (h0 : 0 ≤ id) (h1 : id ≤ 1073741824) (h2 : t - 8 ≤ id) :
    Calls Tryz.prog 120 #[winVal t s, .int .i64 id] w fun e w' => e = .returned (.tuple #[.bool (inWin t s id), .int .i64 0]) ∧ Below w.heap.size w w' := by
  by_cases hlt : id < t
  · obtain ⟨k, hk⟩ : ∃ k : Nat, id = t - 8 + k := ⟨(id - (t - 8)).toNat, by omega⟩
    subst hk
    rw [inWin_at k (by omega)]
    exact seen_in t k s w h h0 (by omega)
  · have e1 : inWin t s id = false := by
      simp only [inWin]
      rw [show decide (id < t) = false by simp; omega]
      simp
    rw [e1]
    exact seen_over t id s w h h0 h1 (by omega)
end Go.Proofs.YtcdopnkabbfooaaGreat
