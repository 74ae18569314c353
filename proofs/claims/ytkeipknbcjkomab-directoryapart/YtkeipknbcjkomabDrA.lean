/- Directories: what may be; walks of directory.nowhere, isNode, isQueue, mayStand and Check. -/
import Derived.Test.YtkeipknbcjkomabWdA
import Derived.Test.YtkeipknbcjkomabProg
import Derived.Deep.RegionHeld3
import Derived.Deep.QuietTactic
import Derived.Deep.DeepCutAuto
import Derived.BigQuiet
namespace Go.Proofs.Ytkeipknbcjkomab
open Go.RowKit

abbrev plVal (n e : Int) : Value := .agg #[.int .i64 n, .int .i64 e]
abbrev dirCells (n e : Nat → Int) : Array Value := #[.int .i64 (n 0), .int .i64 (e 0), .int .i64 (n 1), .int .i64 (e 1), .int .i64 (n 2), .int .i64 (e 2), .int .i64 (n 3), .int .i64 (e 3)]
abbrev dirVal (n e : Nat → Int) : Value := .agg (dirCells n e)
/-- places that may be. -/
def PlOk (n e : Int) : Prop := (n = -1 ∧ e = 0) ∨ (0 ≤ n ∧ n ≤ 4 ∧ 1 ≤ e ∧ e ≤ 1048576)
def DirOk (n e : Nat → Int) : Prop := ∀ p, p < 4 → PlOk (n p) (e p)
theorem below4d {p : Nat → Prop} (h0 : p 0) (h1 : p 1) (h2 : p 2) (h3 : p 3) : ∀ i, i < 4 → p i
  | 0, _ => h0
  | 1, _ => h1
  | 2, _ => h2
  | 3, _ => h3
  | n + 4, h => absurd h (by omega)
set_option maxRecDepth 20000 in
theorem run_index_places (n e : Nat → Int) : ∀ p : Nat, p < 4 → ∀ w : World, (Instr.index 24 (dirVal n e) (.int .i64 p)).run Try.prog w = .ok (plVal (n p) (e p)) w := by
  refine below4d ?_ ?_ ?_ ?_ <;> (intro w; simp [Instr.index, run_underlying Try.underlying24, asIntOf, go_sem])
/-- a place in memory. -/
def plBlock (w : World) (R : Nat) (n e : Int) : Prop := w.heap[R]? = some (.cells #[.int .i64 n, .int .i64 e] 23 (0, 0))
theorem plBlock.cells {w : World} {R : Nat} {n e : Int} (h : plBlock w R n e) : w.cell? ⟨R, 0, none⟩ = some (.int .i64 n) ∧ w.cell? ⟨R, 1, none⟩ = some (.int .i64 e) := by
  unfold plBlock at h; simp [World.cell?, h]
theorem plBlock.lt {w : World} {R : Nat} {n e : Int} (h : plBlock w R n e) : R < w.heap.size := by
  unfold plBlock at h
  rcases Nat.lt_or_ge R w.heap.size with h' | h'
  · exact h'
  · simp [Array.getElem?_eq_none h'] at h
theorem plBlock.next {w w' : World} {R : Nat} {n e : Int} (h : plBlock w R n e) (hb : Below w.heap.size w w') : plBlock w' R n e := by
  have := h.lt
  unfold plBlock at h ⊢; rw [← h]; exact hb.block R this
theorem one_pl (w : World) (n e : Int) : ∃ W, W = w.alloc (.cells #[.int .i64 n, .int .i64 e] 23) ∧ plBlock W w.heap.size n e ∧ Below w.heap.size w W :=
  ⟨_, rfl, heap_alloc_new w _, below1 _ _⟩
set_option maxRecDepth 20000 in
theorem nowhere_any (w : World) : Calls Try.prog 45 #[] w fun e w' => e = .returned (plVal (-1) 0) ∧ Below w.heap.size w w' := by
  go_enter Try.func45, Try.ntmps45
  go_wp2
  exact bodyPost_ret (v := plVal (-1) 0) (by simp [results, Try.results45, go_sem]) rfl ⟨rfl, below1 _ _⟩

theorem isNode_any (x : Int) (w : World) : Calls Try.prog 49 #[.int .i64 x] w fun e w' => e = .returned (.bool (decide (0 ≤ x ∧ x ≤ 4))) ∧ w' = w := by
  by_cases h1 : 0 ≤ x
  · by_cases h2 : x ≤ 4
    · rw [decide_eq_true (show 0 ≤ x ∧ x ≤ 4 from ⟨h1, h2⟩)]
      have h3 : x < 5 := by omega
      go_enter Try.func49, Try.ntmps49
      go_wp2
      go_ret
      exact ⟨rfl, rfl⟩
    · rw [decide_eq_false (show ¬ (0 ≤ x ∧ x ≤ 4) from fun h => h2 h.2)]
      have h3 : ¬ x < 5 := by omega
      go_enter Try.func49, Try.ntmps49
      go_wp2
      go_ret
      exact ⟨rfl, rfl⟩
  · rw [decide_eq_false (show ¬ (0 ≤ x ∧ x ≤ 4) from fun h => h1 h.1)]
    go_enter Try.func49, Try.ntmps49
    go_wp2
    go_ret
    exact ⟨rfl, rfl⟩
theorem isQueue_any (x : Int) (w : World) : Calls Try.prog 48 #[.int .i64 x] w fun e w' => e = .returned (.bool (decide (0 ≤ x ∧ x ≤ 3))) ∧ w' = w := by
  by_cases h1 : 0 ≤ x
  · by_cases h2 : x ≤ 3
    · rw [decide_eq_true (show 0 ≤ x ∧ x ≤ 3 from ⟨h1, h2⟩)]
      have h3 : x < 4 := by omega
      go_enter Try.func48, Try.ntmps48
      go_wp2
      go_ret
      exact ⟨rfl, rfl⟩
    · rw [decide_eq_false (show ¬ (0 ≤ x ∧ x ≤ 3) from fun h => h2 h.2)]
      have h3 : ¬ x < 4 := by omega
      go_enter Try.func48, Try.ntmps48
      go_wp2
      go_ret
      exact ⟨rfl, rfl⟩
  · rw [decide_eq_false (show ¬ (0 ≤ x ∧ x ≤ 3) from fun h => h1 h.1)]
    go_enter Try.func48, Try.ntmps48
    go_wp2
    go_ret
    exact ⟨rfl, rfl⟩
theorem In_any (x lo hi : Int) (w : World) : Calls Try.prog 47 #[.int .i64 x, .int .i64 lo, .int .i64 hi] w fun e w' => e = .returned (.bool (decide (lo ≤ x ∧ x ≤ hi))) ∧ w' = w := by
  by_cases h1 : lo ≤ x
  · by_cases h2 : x ≤ hi
    · rw [decide_eq_true (show lo ≤ x ∧ x ≤ hi from ⟨h1, h2⟩)]
      go_enter Try.func47, Try.ntmps47
      go_wp2
      go_ret
      exact ⟨rfl, rfl⟩
    · rw [decide_eq_false (show ¬ (lo ≤ x ∧ x ≤ hi) from fun h => h2 h.2)]
      go_enter Try.func47, Try.ntmps47
      go_wp2
      go_ret
      exact ⟨rfl, rfl⟩
  · rw [decide_eq_false (show ¬ (lo ≤ x ∧ x ≤ hi) from fun h => h1 h.1)]
    go_enter Try.func47, Try.ntmps47
    go_wp2
    go_ret
    exact ⟨rfl, rfl⟩
def standB (n e : Int) : Bool := decide (0 ≤ n ∧ n ≤ 4 ∧ 1 ≤ e ∧ e ≤ 1048576)
set_option maxRecDepth 20000 in
theorem mayStand_any (n e : Int) (w : World) : Calls Try.prog 46 #[plVal n e] w fun r w' => r = .returned (.bool (standB n e)) ∧ Below w.heap.size w w' := by
  have HN := fun w => isNode_any n w
  by_cases h1 : 0 ≤ n ∧ n ≤ 4
  · rw [decide_eq_true h1] at HN
    by_cases h2 : 1 ≤ e
    · by_cases h3 : e ≤ 1048576
      · rw [show standB n e = true from decide_eq_true ⟨h1.1, h1.2, h2, h3⟩]
        clear h1
        go_enter Try.func46, Try.ntmps46
        go_wp2_with (go_at_call 49; refine (HN _).mono ?_; rintro r w1 ⟨rfl, rfl⟩)
        go_ret
        exact ⟨rfl, below1 _ _⟩
      · rw [show standB n e = false from decide_eq_false (fun h => h3 h.2.2.2)]
        clear h1
        go_enter Try.func46, Try.ntmps46
        go_wp2_with (go_at_call 49; refine (HN _).mono ?_; rintro r w1 ⟨rfl, rfl⟩)
        go_ret
        exact ⟨by simp [h3], below1 _ _⟩
    · rw [show standB n e = false from decide_eq_false (fun h => h2 h.2.2.1)]
      clear h1
      go_enter Try.func46, Try.ntmps46
      go_wp2_with (go_at_call 49; refine (HN _).mono ?_; rintro r w1 ⟨rfl, rfl⟩)
      go_ret
      exact ⟨rfl, below1 _ _⟩
  · rw [decide_eq_false h1] at HN
    rw [show standB n e = false from decide_eq_false (fun h => h1 ⟨h.1, h.2.1⟩)]
    clear h1
    go_enter Try.func46, Try.ntmps46
    go_wp2_with (go_at_call 49; refine (HN _).mono ?_; rintro r w1 ⟨rfl, rfl⟩)
    go_ret
    exact ⟨rfl, below1 _ _⟩
set_option maxRecDepth 20000 in
set_option maxHeartbeats 2000000 in
theorem dcheck_any (n e : Nat → Int) (w : World) : Calls Try.prog 15 #[dirVal n e] w fun r w' => ((DirOk n e ∧ r = .returned (.int .i64 0)) ∨ (¬ DirOk n e ∧ r = .returned (.int .i64 6))) ∧ Below w.heap.size w w' := by
  have hix := run_index_places n e
  go_enter Try.func15, Try.ntmps15
  go_wp2_with fail
  obtain ⟨W, hW, B0⟩ : ∃ W, W = w.alloc (.cells (dirCells n e) 26) ∧ Below w.heap.size w W := ⟨_, rfl, below1 _ _⟩
  rw [← hW]
  clear hW
  go_loopw [7] (fun i wr => ∃ k : Nat, k ≤ 4 ∧ i = .int .i64 k ∧ (∀ p, p < k → PlOk (n p) (e p)) ∧ Below w.heap.size w wr) (fun i _ => 4 - (intOf i).toNat)
  case atStart => exact ⟨0, by omega, rfl, fun p hp => by omega, B0⟩
  case round =>
    obtain ⟨k, hk, rfl, hi, B⟩ := hrel
    clear B0
    have HB := veil B
    have HI := veil hi
    clear B hi
    by_cases hlt : k < 4
    · have hk1 := hix k hlt
      clear hix
      have HS := fun w => mayStand_any (n k) (e k) w
      have HE : Hid (DirOk n e → PlOk (n k) (e k)) := veil (fun h => h k hlt)
      have HP : Hid (∀ x y, x = n k → y = e k → PlOk x y → ∀ p, p < k + 1 → PlOk (n p) (e p)) := veil (fun x y hx hy h p hp => by
        rcases Nat.lt_or_ge p k with h1 | h1
        · exact unveil HI p h1
        · obtain rfl : p = k := by omega
          rw [← hx, ← hy]; exact h)
      obtain ⟨x, hx⟩ : ∃ x, n k = x := ⟨_, rfl⟩
      obtain ⟨y, hy⟩ : ∃ y, e k = y := ⟨_, rfl⟩
      rw [hx, hy] at hk1 HS HE
      have HX := veil (And.intro hx hy)
      clear hx hy
      go_wp2_with fail
      obtain ⟨W, hW, pb, b0⟩ := one_pl wr x y
      rw [← hW]
      clear hW
      obtain ⟨c0, c1⟩ := pb.cells
      have HB1 := veil (Below.next (unveil HB) b0)
      clear HB b0
      by_cases h1 : x = -1 ∧ y = 0
      · obtain ⟨rfl, rfl⟩ := h1
        go_cut [17] (fun c wx => c = .bool false ∧ Below W.heap.size W wx)
        case first =>
          first | go_region_with (first
            | (go_at_call 45; refine (nowhere_any _).mono ?_; rintro r w5 ⟨rfl, bb⟩; have b5 : Below W.heap.size W w5 := (by first | exact bb | exact Below.next (belowN _ _) bb | exact Below.next (below_drew _) bb); obtain ⟨q0, q1⟩ := (pb.next b5).cells)
            | (go_at_call 46; refine (HS _).mono ?_; rintro r w6 ⟨rfl, bb'⟩; have b6 : Below W.heap.size W w6 := (by first | exact Below.next b5 bb' | exact Below.next b5 (Below.next (belowN _ _) bb')))) | fail
          all_goals (try go_wp2_with fail)
          all_goals go_meet
          all_goals exact ⟨rfl, b5⟩
        case rest =>
          obtain ⟨rfl, b7⟩ := hcut
          go_wp2
          go_roundw
          case rel => exact ⟨k + 1, by omega, by go_num, unveil HP _ _ (unveil HX).1.symm (unveil HX).2.symm (.inl ⟨rfl, rfl⟩), Below.next (unveil HB1) b7⟩
          case measure => simp [intOf]; omega
      · have hd : ¬ x = -1 ∨ (x = -1 ∧ ¬ y = 0) := by omega
        have HN := veil h1
        clear h1
        cases h2 : standB x y with
        | true =>
          rw [h2] at HS
          rcases hd with hd | ⟨rfl, hd⟩
          case inr => simp [standB] at h2
          go_cut [17] (fun c wx => c = .bool false ∧ Below W.heap.size W wx)
          case first =>
            first | go_region_with (first
                      | (go_at_call 45; refine (nowhere_any _).mono ?_; rintro r w5 ⟨rfl, bb⟩; have b5 : Below W.heap.size W w5 := (by first | exact bb | exact Below.next (belowN _ _) bb | exact Below.next (below_drew _) bb); obtain ⟨q0, q1⟩ := (pb.next b5).cells)
                      | (go_at_call 46; refine (HS _).mono ?_; rintro r w6 ⟨rfl, bb'⟩; have b6 : Below W.heap.size W w6 := (by first | exact Below.next b5 bb' | exact Below.next b5 (Below.next (belowN _ _) bb')))) | fail
            all_goals (try go_wp2_with fail)
            all_goals go_meet
            all_goals exact ⟨rfl, b6⟩
          case rest =>
            obtain ⟨rfl, b7⟩ := hcut
            go_wp2
            go_roundw
            case rel => exact ⟨k + 1, by omega, by go_num, unveil HP _ _ (unveil HX).1.symm (unveil HX).2.symm (.inr (of_decide_eq_true h2)), Below.next (unveil HB1) b7⟩
            case measure => simp [intOf]; omega
        | false =>
          rw [h2] at HS
          rcases hd with hd | ⟨rfl, hd⟩
          case inl =>
            go_cut [17] (fun c wx => c = .bool true ∧ Below W.heap.size W wx)
            case first =>
              first | go_region_with (first
                        | (go_at_call 45; refine (nowhere_any _).mono ?_; rintro r w5 ⟨rfl, bb⟩; have b5 : Below W.heap.size W w5 := (by first | exact bb | exact Below.next (belowN _ _) bb | exact Below.next (below_drew _) bb); obtain ⟨q0, q1⟩ := (pb.next b5).cells)
                        | (go_at_call 46; refine (HS _).mono ?_; rintro r w6 ⟨rfl, bb'⟩; have b6 : Below W.heap.size W w6 := (by first | exact Below.next b5 bb' | exact Below.next b5 (Below.next (belowN _ _) bb')))) | fail
              all_goals (try go_wp2_with fail)
              all_goals go_meet
              all_goals exact ⟨rfl, b6⟩
            case rest =>
              obtain ⟨rfl, b7⟩ := hcut
              go_wp2
              go_ret
              refine ⟨.inr ⟨fun h => ?_, rfl⟩, Below.next (unveil HB1) b7⟩
              rcases unveil HE h with h3 | h3
              · first | exact unveil HN h3 | exact hd h3.2
              · exact absurd (decide_eq_true h3) (by rw [show decide _ = standB _ _ from rfl, h2]; simp)
          case inr =>
            go_cut [17] (fun c wx => c = .bool true ∧ Below W.heap.size W wx)
            case first =>
              first | go_region_with (first
                        | (go_at_call 45; refine (nowhere_any _).mono ?_; rintro r w5 ⟨rfl, bb⟩; have b5 : Below W.heap.size W w5 := (by first | exact bb | exact Below.next (belowN _ _) bb | exact Below.next (below_drew _) bb); obtain ⟨q0, q1⟩ := (pb.next b5).cells)
                        | (go_at_call 46; refine (HS _).mono ?_; rintro r w6 ⟨rfl, bb'⟩; have b6 : Below W.heap.size W w6 := (by first | exact Below.next b5 bb' | exact Below.next b5 (Below.next (belowN _ _) bb')))) | fail
              all_goals (try go_wp2_with fail)
              all_goals go_meet
              all_goals exact ⟨rfl, b6⟩
            case rest =>
              obtain ⟨rfl, b7⟩ := hcut
              go_wp2
              go_ret
              refine ⟨.inr ⟨fun h => ?_, rfl⟩, Below.next (unveil HB1) b7⟩
              rcases unveil HE h with h3 | h3
              · first | exact unveil HN h3 | exact hd h3.2
              · exact absurd (decide_eq_true h3) (by rw [show decide _ = standB _ _ from rfl, h2]; simp)
    · obtain rfl : k = 4 := by omega
      go_wp2
      go_ret
      exact ⟨.inl ⟨unveil HI, rfl⟩, unveil HB⟩
end Go.Proofs.Ytkeipknbcjkomab
