/- Walks of window.lowest and Check. -/
import Derived.Test.YtcdopnkabbfooaaGreatWdA
import Derived.Deep.RegionHeld3
import Derived.Deep.QuietTactic
import Derived.BigQuiet
namespace Go.Proofs.YtcdopnkabbfooaaGreat
open Go.RowKit

/-- a window in memory: its nine cells at a block of its own. -/
def winBlock (w : World) (R : Nat) (t : Int) (s : Nat → Bool) : Prop := w.heap[R]? = some (.cells (winCells t s) 89 (0, 0))
theorem winBlock.cell0 {w : World} {R : Nat} {t : Int} {s : Nat → Bool} (h : winBlock w R t s) : w.cell? ⟨R, 0, none⟩ = some (.int .i64 t) := by
  unfold winBlock at h; simp [World.cell?, h]
theorem winBlock.cell {w : World} {R : Nat} {t : Int} {s : Nat → Bool} (h : winBlock w R t s) : ∀ i, i < 8 → w.cell? ⟨R, 1 + i, none⟩ = some (.bool (s i)) := by
  unfold winBlock at h
  refine below8 ?_ ?_ ?_ ?_ ?_ ?_ ?_ ?_ <;> simp [World.cell?, h]
theorem winBlock.cells {w : World} {R : Nat} {t : Int} {s : Nat → Bool} (h : winBlock w R t s) :
    w.cell? ⟨R, 0, none⟩ = some (.int .i64 t) ∧ w.cell? ⟨R, 1, none⟩ = some (.bool (s 0)) ∧ w.cell? ⟨R, 2, none⟩ = some (.bool (s 1)) ∧ w.cell? ⟨R, 3, none⟩ = some (.bool (s 2)) ∧ w.cell? ⟨R, 4, none⟩ = some (.bool (s 3)) ∧
    w.cell? ⟨R, 5, none⟩ = some (.bool (s 4)) ∧ w.cell? ⟨R, 6, none⟩ = some (.bool (s 5)) ∧ w.cell? ⟨R, 7, none⟩ = some (.bool (s 6)) ∧ w.cell? ⟨R, 8, none⟩ = some (.bool (s 7)) :=
  ⟨h.cell0, h.cell 0 (by omega), h.cell 1 (by omega), h.cell 2 (by omega), h.cell 3 (by omega), h.cell 4 (by omega), h.cell 5 (by omega), h.cell 6 (by omega), h.cell 7 (by omega)⟩
theorem winBlock.free {w : World} {R : Nat} {t : Int} {s : Nat → Bool} (h : winBlock w R t s) (o : Nat) : w.frozen? ⟨R, o, none⟩ = false := by
  unfold winBlock at h; simp [World.frozen?, h]
theorem winBlock.lt {w : World} {R : Nat} {t : Int} {s : Nat → Bool} (h : winBlock w R t s) : R < w.heap.size := by
  unfold winBlock at h
  rcases Nat.lt_or_ge R w.heap.size with h' | h'
  · exact h'
  · simp [Array.getElem?_eq_none h'] at h
theorem winBlock.below {w w' : World} {R B : Nat} {t : Int} {s : Nat → Bool} (h : winBlock w R t s) (hb : Below B w w') (hR : R < B) : winBlock w' R t s := by
  unfold winBlock at h ⊢; rw [← h]; exact hb.block R hR
theorem winBlock.next {w w' : World} {R : Nat} {t : Int} {s : Nat → Bool} (h : winBlock w R t s) (hb : Below w.heap.size w w') : winBlock w' R t s := h.below hb h.lt
theorem winBlock.new (w : World) (t : Int) (s : Nat → Bool) : winBlock (w.alloc (.cells (winCells t s) 89)) w.heap.size t s := heap_alloc_new w _

theorem heap_set {w : World} {R o : Nat} {cs : Array Value} {T : TypeId} {v : Value} (h : w.heap[R]? = some (.cells cs T (0, 0))) : (w.setCell ⟨R, o, none⟩ v).heap[R]? = some (.cells (cs.set! o v) T (0, 0)) := by
  rw [setCell_eq_setRow w R o _ _ (0, 0) _ h, setRow_heap w R _ _ _ _ h]
  rfl
/-- a window stored over another one. -/
abbrev winStore (w : World) (R : Nat) (t : Int) (s : Nat → Bool) : World :=
  ((((((((w.setCell ⟨R, 0, none⟩ (.int .i64 t)).setCell ⟨R, 1, none⟩ (.bool (s 0))).setCell ⟨R, 2, none⟩ (.bool (s 1))).setCell ⟨R, 3, none⟩ (.bool (s 2))).setCell ⟨R, 4, none⟩ (.bool (s 3))).setCell ⟨R, 5, none⟩ (.bool (s 4))).setCell ⟨R, 6, none⟩ (.bool (s 5))).setCell ⟨R, 7, none⟩ (.bool (s 6))).setCell ⟨R, 8, none⟩ (.bool (s 7))
theorem winBlock.store {w : World} {R : Nat} {t : Int} {s : Nat → Bool} (h : winBlock w R t s) (t' : Int) (s' : Nat → Bool) : winBlock (winStore w R t' s') R t' s' := by
  unfold winBlock at h ⊢
  rw [winStore, heap_set (heap_set (heap_set (heap_set (heap_set (heap_set (heap_set (heap_set (heap_set h))))))))]
  simp
theorem winStore_below {B : Nat} {w0 w : World} (hb : Below B w0 w) (R : Nat) (hR : B ≤ R) (t : Int) (s : Nat → Bool) : Below B w0 (winStore w R t s) :=
  ((((((((hb.setCell hR _).setCell hR _).setCell hR _).setCell hR _).setCell hR _).setCell hR _).setCell hR _).setCell hR _).setCell hR _
theorem winStore_other (w : World) (R : Nat) (t : Int) (s : Nat → Bool) (k : Nat) (hk : k ≠ R) : (winStore w R t s).heap[k]? = w.heap[k]? := by
  simp only [winStore]
  repeat rw [Below.heap_setCell _ _ _ k hk]
/-- one bool stored. -/
theorem winBlock.mark {w : World} {R : Nat} {t : Int} {s : Nat → Bool} (h : winBlock w R t s) (k : Nat) (hk : k < 8) (b : Bool) (s' : Nat → Bool) (hs : ∀ i, i < 8 → s' i = if i = k then b else s i) : winBlock (w.setCell ⟨R, 1 + k, none⟩ (.bool b)) R t s' := by
  have := heap_set (o := 1 + k) (v := .bool b) h
  rw [winCells_set t s s' b k hk hs] at this
  exact this

theorem winBlock.other {w : World} {R R' o : Nat} {t : Int} {s : Nat → Bool} {v : Value} (h : winBlock w R t s) (hR : R ≠ R') : winBlock (w.setCell ⟨R', o, none⟩ v) R t s := by
  unfold winBlock at h ⊢
  rw [Below.heap_setCell _ _ _ R hR]
  exact h

theorem one_box (w : World) (t : Int) (s : Nat → Bool) : ∃ W, W = w.alloc (.cells (winCells t s) 89) ∧ winBlock W w.heap.size t s ∧ Below w.heap.size w W ∧ W.heap.size = w.heap.size + 1 :=
  ⟨_, rfl, winBlock.new w t s, below1 _ _, by simp⟩

/-- an array's element, by value. -/
theorem run_index_seen (s : Nat → Bool) : ∀ k : Nat, k < 8 → ∀ w : World,
    (Instr.index 87 (.agg #[.bool (s 0), .bool (s 1), .bool (s 2), .bool (s 3), .bool (s 4), .bool (s 5), .bool (s 6), .bool (s 7)]) (.int .i64 k)).run Tryz.prog w = .ok (.bool (s k)) w := by
  refine below8 ?_ ?_ ?_ ?_ ?_ ?_ ?_ ?_ <;> (intro w; simp [Instr.index, run_underlying Tryz.underlying87, asIntOf, go_sem])

set_option maxHeartbeats 400000 in
theorem lowest_any (t : Int) (s : Nat → Bool) (w : World) (h0 : 0 ≤ t) (h1 : t ≤ 1073741825) :
    Calls Tryz.prog 117 #[winVal t s] w fun e w' => e = .returned (.int .i64 (t - 8)) ∧ Below w.heap.size w w' := by
  go_enter Tryz.func117, Tryz.ntmps117
  go_wp2
  go_ret
  exact ⟨rfl, below1 _ _⟩

set_option maxHeartbeats 1000000 in
theorem check_yes (t : Int) (s : Nat → Bool) (w : World) (h : WinOk t s) :
    Calls Tryz.prog 106 #[winVal t s] w fun e w' => e = .returned (.int .i64 0) ∧ Below w.heap.size w w' := by
  have hl := h.low
  have hh := h.high
  go_enter Tryz.func106, Tryz.ntmps106
  go_wp2_with fail
  obtain ⟨W, hW, wb0, B0, S0⟩ := one_box w t s
  rw [← hW]
  clear hW
  go_loopw [15] (fun i wr => ∃ k : Nat, k ≤ 8 ∧ i = .int .i64 k ∧ winBlock wr w.heap.size t s ∧ Below w.heap.size w wr) (fun i _ => 8 - (intOf i).toNat)
  case atStart => exact ⟨0, by omega, rfl, wb0, B0⟩
  case round =>
    obtain ⟨k, hk, rfl, wb, B⟩ := hrel
    clear wb0 B0 S0
    have HB := veil B
    have HW := veil wb
    obtain ⟨c0, c1, c2, c3, c4, c5, c6, c7, c8⟩ := wb.cells
    clear wb B
    by_cases hlt : k < 8
    · have hid := h.ids k hlt
      have hix := run_index_seen s k hlt
      cases hb : s k
      · rw [hb] at hix
        go_wp2
        go_roundw
        case rel => exact ⟨k + 1, by omega, by go_num, unveil HW, unveil HB⟩
        case measure => simp [intOf]; omega
      · have hid' := hid hb
        rw [hb] at hix
        clear hid
        go_wp2_with (go_at_call 117; refine (lowest_any t s _ hl hh).mono ?_; rintro e w1 ⟨rfl, b1⟩)
        go_roundw
        case rel => exact ⟨k + 1, by omega, by go_num, (unveil HW).next b1, Below.next (unveil HB) b1⟩
        case measure => simp [intOf]; omega
    · obtain rfl : k = 8 := by omega
      rcases h.last with hz | hz
      · subst hz
        go_wp2
        go_ret
        exact ⟨rfl, unveil HB⟩
      · go_wp2
        all_goals (go_ret; exact ⟨rfl, unveil HB⟩)

set_option maxHeartbeats 1000000 in
theorem check_no (t : Int) (s : Nat → Bool) (w : World) (h : ¬ WinOk t s) :
    Calls Tryz.prog 106 #[winVal t s] w fun e w' => e = .returned (.int .i64 6) ∧ Below w.heap.size w w' := by
  by_cases hr : 0 ≤ t ∧ t ≤ 1073741825
  case neg =>
    by_cases h0 : t < 0
    · go_enter Tryz.func106, Tryz.ntmps106
      go_wp2
      go_ret
      exact ⟨rfl, below1 _ _⟩
    · have h1 : 1073741825 < t := by omega
      have h2 : ¬ t ≤ 1073741825 := by omega
      have h3 : 0 ≤ t := by omega
      clear hr
      go_enter Tryz.func106, Tryz.ntmps106
      go_wp2
      go_ret
      exact ⟨rfl, below1 _ _⟩
  obtain ⟨hl, hh⟩ := hr
  have hn : (∀ i : Nat, i < 8 → s i = true → 8 ≤ t + i) → ¬ t = 0 ∧ s 7 = false := by
    intro hi
    refine ⟨fun h0 => h ⟨hl, hh, hi, .inl h0⟩, ?_⟩
    cases h7 : s 7
    · rfl
    · exact absurd ⟨hl, hh, hi, .inr h7⟩ h
  have HN := veil hn
  clear hn h
  go_enter Tryz.func106, Tryz.ntmps106
  go_wp2_with fail
  obtain ⟨W, hW, wb0, B0, S0⟩ := one_box w t s
  rw [← hW]
  clear hW
  go_loopw [15] (fun i wr => ∃ k : Nat, k ≤ 8 ∧ i = .int .i64 k ∧ (∀ i : Nat, i < k → s i = true → 8 ≤ t + i) ∧ winBlock wr w.heap.size t s ∧ Below w.heap.size w wr) (fun i _ => 8 - (intOf i).toNat)
  case atStart => exact ⟨0, by omega, rfl, fun i hi => by omega, wb0, B0⟩
  case round =>
    obtain ⟨k, hk, rfl, hi, wb, B⟩ := hrel
    clear wb0 B0 S0
    have HB := veil B
    have HW := veil wb
    have HI := veil hi
    obtain ⟨c0, c1, c2, c3, c4, c5, c6, c7, c8⟩ := wb.cells
    clear wb B hi
    by_cases hlt : k < 8
    · have hix := run_index_seen s k hlt
      cases hb : s k
      · rw [hb] at hix
        have HI' : Hid (∀ i : Nat, i < k + 1 → s i = true → 8 ≤ t + i) := veil (by
          intro i h1 h2
          rcases Nat.lt_or_ge i k with h3 | h3
          · exact unveil HI i h3 h2
          · obtain rfl : i = k := by omega
            rw [hb] at h2; cases h2)
        go_wp2
        go_roundw
        case rel => exact ⟨k + 1, by omega, by go_num, unveil HI', unveil HW, unveil HB⟩
        case measure => simp [intOf]; omega
      · rw [hb] at hix
        by_cases hid : 8 ≤ t + k
        · have HI' : Hid (∀ i : Nat, i < k + 1 → s i = true → 8 ≤ t + i) := veil (by
            intro i h1 h2
            rcases Nat.lt_or_ge i k with h3 | h3
            · exact unveil HI i h3 h2
            · obtain rfl : i = k := by omega
              exact hid)
          go_wp2_with (go_at_call 117; refine (lowest_any t s _ hl hh).mono ?_; rintro e w1 ⟨rfl, b1⟩)
          go_roundw
          case rel => exact ⟨k + 1, by omega, by go_num, unveil HI', (unveil HW).next b1, Below.next (unveil HB) b1⟩
          case measure => simp [intOf]; omega
        · go_wp2_with (go_at_call 117; refine (lowest_any t s _ hl hh).mono ?_; rintro e w1 ⟨rfl, b1⟩)
          go_ret
          exact ⟨rfl, Below.next (unveil HB) b1⟩
    · obtain rfl : k = 8 := by omega
      obtain ⟨h0, h7⟩ := unveil HN (unveil HI)
      go_wp2
      go_ret
      exact ⟨rfl, unveil HB⟩
end Go.Proofs.YtcdopnkabbfooaaGreat
