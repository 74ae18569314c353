/- Walk of the document's ActWord. -/
import Derived.Test.YtekbdkppnjnaaaaDoorLnG
namespace Go.Proofs.YtekbdkppnjnaaaaDoor
open Go.RowKit

set_option maxRecDepth 20000 in
set_option maxHeartbeats 2000000 in
theorem actWord_any (f : Nat → Int) (w : World) : Calls Tryd.prog 26 #[aVal f] w fun e w' => e = .returned (.string (kword (kno (f 0) (f 5)))) ∧ Below w.heap.size w w' := by
  obtain ⟨W1, hW1, A1, B1⟩ : ∃ W1, W1 = w.alloc (.cells (aCells f) 27) ∧ aBlock W1 w.heap.size f ∧ Below w.heap.size w W1 := ⟨_, rfl, aBlock.new w f, below1 _ _⟩
  have x0 := A1.cell 0 (by omega)
  have x5 := A1.cell 5 (by omega)
  clear A1
  have hc := kno_cases (f 0) (f 5)
  obtain ⟨i, hi⟩ : ∃ i, i = kno (f 0) (f 5) := ⟨_, rfl⟩
  rw [← hi] at hc ⊢
  clear hi
  rcases hc with ⟨g, rfl⟩ | ⟨g, rfl⟩ | ⟨g, rfl⟩ | ⟨g, rfl⟩ | ⟨g, rfl⟩ | ⟨g, rfl⟩ | ⟨g, rfl⟩ | ⟨g, rfl⟩ | ⟨g, rfl⟩ | ⟨g, g5, rfl⟩ | ⟨g, g5, rfl⟩ | ⟨g, g5, rfl⟩ | ⟨rfl, g1, g10, g3, g9, g8, g4, g5, g6, g7, p1, p2, p3⟩
  · rw [g] at x0
    go_enter Tryd.func26, Tryd.ntmps26
    go_upto_region 1 with fail
    rw [← hW1]
    clear hW1
    go_wp2
    go_ret
    exact ⟨rfl, B1⟩
  · rw [g] at x0
    go_enter Tryd.func26, Tryd.ntmps26
    go_upto_region 1 with fail
    rw [← hW1]
    clear hW1
    go_wp2
    go_ret
    exact ⟨rfl, B1⟩
  · rw [g] at x0
    go_enter Tryd.func26, Tryd.ntmps26
    go_upto_region 1 with fail
    rw [← hW1]
    clear hW1
    go_wp2
    go_ret
    exact ⟨rfl, B1⟩
  · rw [g] at x0
    go_enter Tryd.func26, Tryd.ntmps26
    go_upto_region 1 with fail
    rw [← hW1]
    clear hW1
    go_wp2
    go_ret
    exact ⟨rfl, B1⟩
  · rw [g] at x0
    go_enter Tryd.func26, Tryd.ntmps26
    go_upto_region 1 with fail
    rw [← hW1]
    clear hW1
    go_wp2
    go_ret
    exact ⟨rfl, B1⟩
  · rw [g] at x0
    go_enter Tryd.func26, Tryd.ntmps26
    go_upto_region 1 with fail
    rw [← hW1]
    clear hW1
    go_wp2
    go_ret
    exact ⟨rfl, B1⟩
  · rw [g] at x0
    go_enter Tryd.func26, Tryd.ntmps26
    go_upto_region 1 with fail
    rw [← hW1]
    clear hW1
    go_wp2
    go_ret
    exact ⟨rfl, B1⟩
  · rw [g] at x0
    go_enter Tryd.func26, Tryd.ntmps26
    go_upto_region 1 with fail
    rw [← hW1]
    clear hW1
    go_wp2
    go_ret
    exact ⟨rfl, B1⟩
  · rw [g] at x0
    go_enter Tryd.func26, Tryd.ntmps26
    go_upto_region 1 with fail
    rw [← hW1]
    clear hW1
    go_wp2
    go_ret
    exact ⟨rfl, B1⟩
  · rw [g] at x0
    rw [g5] at x5
    go_enter Tryd.func26, Tryd.ntmps26
    go_upto_region 1 with fail
    rw [← hW1]
    clear hW1
    go_wp2
    go_ret
    exact ⟨rfl, B1⟩
  · rw [g] at x0
    rw [g5] at x5
    go_enter Tryd.func26, Tryd.ntmps26
    go_upto_region 1 with fail
    rw [← hW1]
    clear hW1
    go_wp2
    go_ret
    exact ⟨rfl, B1⟩
  · rw [g] at x0
    rw [g5] at x5
    go_enter Tryd.func26, Tryd.ntmps26
    go_upto_region 1 with fail
    rw [← hW1]
    clear hW1
    go_wp2
    go_ret
    exact ⟨rfl, B1⟩
  · generalize f 0 = K at x0 g1 g10 g3 g9 g8 g4 g5 g6 g7 p1 p2 p3
    generalize f 5 = O at x5 p1 p2 p3
    have q1 : (K == 1) = false := by simpa using g1
    have q10 : (K == 10) = false := by simpa using g10
    have q3 : (K == 3) = false := by simpa using g3
    have q9 : (K == 9) = false := by simpa using g9
    have q8 : (K == 8) = false := by simpa using g8
    have q4 : (K == 4) = false := by simpa using g4
    have q5 : (K == 5) = false := by simpa using g5
    have q6 : (K == 6) = false := by simpa using g6
    have q7 : (K == 7) = false := by simpa using g7
    by_cases k2 : (K == 2) = true
    · have e2 : K = 2 := by simpa using k2
      have r1 : (O == 1) = false := by simpa using fun e => p1 ⟨e2, e⟩
      have r2 : (O == 2) = false := by simpa using fun e => p2 ⟨e2, e⟩
      have r3 : (O == 3) = false := by simpa using fun e => p3 ⟨e2, e⟩
      clear p1 p2 p3 e2 g1 g10 g3 g9 g8 g4 g5 g6 g7
      go_enter Tryd.func26, Tryd.ntmps26
      go_upto_region 1 with fail
      rw [← hW1]
      clear hW1
      go_wp2
      go_ret
      exact ⟨rfl, B1⟩
    · have k2' : (K == 2) = false := by simpa using k2
      clear p1 p2 p3 k2 g1 g10 g3 g9 g8 g4 g5 g6 g7
      go_enter Tryd.func26, Tryd.ntmps26
      go_upto_region 1 with fail
      rw [← hW1]
      clear hW1
      go_wp2
      go_ret
      exact ⟨rfl, B1⟩
end Go.Proofs.YtekbdkppnjnaaaaDoor
