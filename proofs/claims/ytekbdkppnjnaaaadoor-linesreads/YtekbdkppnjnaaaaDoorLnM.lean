/- Check and the document's ActFault answer the same. -/
import Derived.Test.YtekbdkppnjnaaaaDoorLnL
namespace Go.Proofs.YtekbdkppnjnaaaaDoor
open Go.RowKit

theorem allIn_nil (m : List Int) : allIn [] m ↔ True := ⟨fun _ => trivial, fun _ k h => by simp at h⟩
theorem allIn_cons (a b : Int) (l m : List Int) : allIn (a :: l) (b :: m) ↔ (0 ≤ a ∧ a ≤ b) ∧ allIn l m := by
  constructor
  · intro h
    exact ⟨h 0 (by simp) (by simp), fun k h1 h2 => h (k + 1) (by simp; omega) (by simp; omega)⟩
  · rintro ⟨h0, h⟩ k h1 h2
    cases k with
    | zero => exact h0
    | succ k => exact h k (by simpa using h1) (by simpa using h2)
theorem inB_iff {n m : Int} : inB n m = true ↔ 0 ≤ n ∧ n ≤ m := by unfold inB; rw [decide_eq_true_eq]
theorem fault_pub {p i b : Int} : (eventFault 1 p i b 0 0 == 0) = true ↔ (0 ≤ p ∧ p ≤ 3) ∧ (0 ≤ i ∧ i ≤ 1073741824) ∧ (0 ≤ b ∧ b ≤ 1000000) := by
  rw [beq_iff_eq]
  unfold eventFault
  rw [if_pos rfl]
  by_cases h : 0 ≤ p ∧ p ≤ 3 ∧ 0 ≤ i ∧ i ≤ 1073741824 ∧ 0 ≤ b ∧ b ≤ 1000000
  · rw [if_neg (fun g => g h), if_pos ⟨rfl, rfl⟩]
    omega
  · rw [if_pos h]
    omega
theorem fault_recv : (eventFault 2 0 0 0 0 0 == 0) = true := by decide
theorem fault_ack {e n : Int} : (eventFault 3 0 0 0 e n == 0) = true ↔ (0 ≤ e ∧ e ≤ 1048576) ∧ (0 ≤ n ∧ n ≤ 1073741824) := by
  rw [beq_iff_eq]
  unfold eventFault
  rw [if_neg (by decide), if_pos rfl]
  by_cases h : 0 ≤ e ∧ e ≤ 1048576 ∧ 0 ≤ n ∧ n ≤ 1073741824
  · rw [if_neg (fun g => g h), if_pos ⟨rfl, rfl, rfl⟩]
    omega
  · rw [if_pos h]
    omega
theorem bound_0 (f : Nat → Int) : boundB (over (noffs 0) (bareK 0) f) = true ↔ allIn ((noffs 0).map f) (mosts 0) := by
  have e : boundB (over (noffs 0) (bareK 0) f) = (inB (f 1) 4 && (inB (f 2) 3 && (inB 0 100000 && (inB 0 1048576 && ((1 : Int) != 2 || eventFault 0 0 0 0 0 0 == 0))))) := rfl
  have e2 : allIn ((noffs 0).map f) (mosts 0) = allIn [f 2, f 1] [3, 4] := rfl
  rw [e, e2]
  simp only [allIn_cons, allIn_nil, Bool.and_eq_true, inB_iff]
  have z : ((1 : Int) != 2 || eventFault 0 0 0 0 0 0 == 0) = true := rfl
  rw [z]
  simp only [eq_self, and_true]
  omega
theorem bound_1 (f : Nat → Int) : boundB (over (noffs 1) (bareK 1) f) = true ↔ allIn ((noffs 1).map f) (mosts 1) := by
  have e : boundB (over (noffs 1) (bareK 1) f) = (inB (f 1) 4 && (inB (f 2) 3 && (inB 0 100000 && (inB 0 1048576 && ((10 : Int) != 2 || eventFault 0 0 0 0 0 0 == 0))))) := rfl
  have e2 : allIn ((noffs 1).map f) (mosts 1) = allIn [f 2, f 1] [3, 4] := rfl
  rw [e, e2]
  simp only [allIn_cons, allIn_nil, Bool.and_eq_true, inB_iff]
  have z : ((10 : Int) != 2 || eventFault 0 0 0 0 0 0 == 0) = true := rfl
  rw [z]
  simp only [eq_self, and_true]
  omega
theorem bound_2 (f : Nat → Int) : boundB (over (noffs 2) (bareK 2) f) = true ↔ allIn ((noffs 2).map f) (mosts 2) := by
  have e : boundB (over (noffs 2) (bareK 2) f) = (inB (f 1) 4 && (inB 0 3 && (inB 0 100000 && (inB 0 1048576 && ((3 : Int) != 2 || eventFault 0 0 0 0 0 0 == 0))))) := rfl
  have e2 : allIn ((noffs 2).map f) (mosts 2) = allIn [f 1] [4] := rfl
  rw [e, e2]
  simp only [allIn_cons, allIn_nil, Bool.and_eq_true, inB_iff]
  have z : ((3 : Int) != 2 || eventFault 0 0 0 0 0 0 == 0) = true := rfl
  rw [z]
  simp only [eq_self, and_true]
  omega
theorem bound_3 (f : Nat → Int) : boundB (over (noffs 3) (bareK 3) f) = true ↔ allIn ((noffs 3).map f) (mosts 3) := by
  have e : boundB (over (noffs 3) (bareK 3) f) = (inB (f 1) 4 && (inB 0 3 && (inB 0 100000 && (inB 0 1048576 && ((9 : Int) != 2 || eventFault 0 0 0 0 0 0 == 0))))) := rfl
  have e2 : allIn ((noffs 3).map f) (mosts 3) = allIn [f 1] [4] := rfl
  rw [e, e2]
  simp only [allIn_cons, allIn_nil, Bool.and_eq_true, inB_iff]
  have z : ((9 : Int) != 2 || eventFault 0 0 0 0 0 0 == 0) = true := rfl
  rw [z]
  simp only [eq_self, and_true]
  omega
theorem bound_4 (f : Nat → Int) : boundB (over (noffs 4) (bareK 4) f) = true ↔ allIn ((noffs 4).map f) (mosts 4) := by
  have e : boundB (over (noffs 4) (bareK 4) f) = (inB (f 1) 4 && (inB 0 3 && (inB (f 4) 100000 && (inB 0 1048576 && ((8 : Int) != 2 || eventFault 0 0 0 0 0 0 == 0))))) := rfl
  have e2 : allIn ((noffs 4).map f) (mosts 4) = allIn [f 1, f 4] [4, 100000] := rfl
  rw [e, e2]
  simp only [allIn_cons, allIn_nil, Bool.and_eq_true, inB_iff]
  have z : ((8 : Int) != 2 || eventFault 0 0 0 0 0 0 == 0) = true := rfl
  rw [z]
  simp only [eq_self, and_true]
  omega
theorem bound_5 (f : Nat → Int) : boundB (over (noffs 5) (bareK 5) f) = true ↔ allIn ((noffs 5).map f) (mosts 5) := by
  have e : boundB (over (noffs 5) (bareK 5) f) = (inB 0 4 && (inB 0 3 && (inB 0 100000 && (inB (f 3) 1048576 && ((4 : Int) != 2 || eventFault 0 0 0 0 0 0 == 0))))) := rfl
  have e2 : allIn ((noffs 5).map f) (mosts 5) = allIn [f 3] [1048576] := rfl
  rw [e, e2]
  simp only [allIn_cons, allIn_nil, Bool.and_eq_true, inB_iff]
  have z : ((4 : Int) != 2 || eventFault 0 0 0 0 0 0 == 0) = true := rfl
  rw [z]
  simp only [eq_self, and_true]
  omega
theorem bound_6 (f : Nat → Int) : boundB (over (noffs 6) (bareK 6) f) = true ↔ allIn ((noffs 6).map f) (mosts 6) := by
  have e : boundB (over (noffs 6) (bareK 6) f) = (inB 0 4 && (inB 0 3 && (inB 0 100000 && (inB (f 3) 1048576 && ((5 : Int) != 2 || eventFault 0 0 0 0 0 0 == 0))))) := rfl
  have e2 : allIn ((noffs 6).map f) (mosts 6) = allIn [f 3] [1048576] := rfl
  rw [e, e2]
  simp only [allIn_cons, allIn_nil, Bool.and_eq_true, inB_iff]
  have z : ((5 : Int) != 2 || eventFault 0 0 0 0 0 0 == 0) = true := rfl
  rw [z]
  simp only [eq_self, and_true]
  omega
theorem bound_7 (f : Nat → Int) : boundB (over (noffs 7) (bareK 7) f) = true ↔ allIn ((noffs 7).map f) (mosts 7) := by
  have e : boundB (over (noffs 7) (bareK 7) f) = (inB 0 4 && (inB 0 3 && (inB 0 100000 && (inB (f 3) 1048576 && ((6 : Int) != 2 || eventFault 0 0 0 0 0 0 == 0))))) := rfl
  have e2 : allIn ((noffs 7).map f) (mosts 7) = allIn [f 3] [1048576] := rfl
  rw [e, e2]
  simp only [allIn_cons, allIn_nil, Bool.and_eq_true, inB_iff]
  have z : ((6 : Int) != 2 || eventFault 0 0 0 0 0 0 == 0) = true := rfl
  rw [z]
  simp only [eq_self, and_true]
  omega
theorem bound_8 (f : Nat → Int) : boundB (over (noffs 8) (bareK 8) f) = true ↔ allIn ((noffs 8).map f) (mosts 8) := by
  have e : boundB (over (noffs 8) (bareK 8) f) = (inB 0 4 && (inB 0 3 && (inB 0 100000 && (inB 0 1048576 && ((7 : Int) != 2 || eventFault 0 0 0 0 0 0 == 0))))) := rfl
  have e2 : allIn ((noffs 8).map f) (mosts 8) = allIn [] [] := rfl
  rw [e, e2]
  simp only [allIn_nil, Bool.and_eq_true, inB_iff]
  have z : ((7 : Int) != 2 || eventFault 0 0 0 0 0 0 == 0) = true := rfl
  rw [z]
  decide
theorem bound_9 (f : Nat → Int) : boundB (over (noffs 9) (bareK 9) f) = true ↔ allIn ((noffs 9).map f) (mosts 9) := by
  have e : boundB (over (noffs 9) (bareK 9) f) = (inB (f 1) 4 && (inB (f 2) 3 && (inB 0 100000 && (inB 0 1048576 && ((2 : Int) != 2 || eventFault 1 (f 6) (f 7) (f 8) 0 0 == 0))))) := rfl
  have e2 : allIn ((noffs 9).map f) (mosts 9) = allIn [f 1, f 2, f 6, f 7, f 8] [4, 3, 3, 1073741824, 1000000] := rfl
  rw [e, e2]
  simp only [allIn_cons, allIn_nil, Bool.and_eq_true, inB_iff]
  have z : (((2 : Int) != 2 || eventFault 1 (f 6) (f 7) (f 8) 0 0 == 0) = true) = ((eventFault 1 (f 6) (f 7) (f 8) 0 0 == 0) = true) := rfl
  rw [z, fault_pub]
  simp only [and_true]
  omega
theorem bound_10 (f : Nat → Int) : boundB (over (noffs 10) (bareK 10) f) = true ↔ allIn ((noffs 10).map f) (mosts 10) := by
  have e : boundB (over (noffs 10) (bareK 10) f) = (inB (f 1) 4 && (inB (f 2) 3 && (inB 0 100000 && (inB 0 1048576 && ((2 : Int) != 2 || eventFault 2 0 0 0 0 0 == 0))))) := rfl
  have e2 : allIn ((noffs 10).map f) (mosts 10) = allIn [f 1, f 2] [4, 3] := rfl
  rw [e, e2]
  simp only [allIn_cons, allIn_nil, Bool.and_eq_true, inB_iff]
  have z : (((2 : Int) != 2 || eventFault 2 0 0 0 0 0 == 0) = true) = ((eventFault 2 0 0 0 0 0 == 0) = true) := rfl
  rw [z, fault_recv]
  simp only [eq_self, and_true]
  omega
theorem bound_11 (f : Nat → Int) : boundB (over (noffs 11) (bareK 11) f) = true ↔ allIn ((noffs 11).map f) (mosts 11) := by
  have e : boundB (over (noffs 11) (bareK 11) f) = (inB (f 1) 4 && (inB (f 2) 3 && (inB 0 100000 && (inB 0 1048576 && ((2 : Int) != 2 || eventFault 3 0 0 0 (f 9) (f 10) == 0))))) := rfl
  have e2 : allIn ((noffs 11).map f) (mosts 11) = allIn [f 1, f 2, f 9, f 10] [4, 3, 1048576, 1073741824] := rfl
  rw [e, e2]
  simp only [allIn_cons, allIn_nil, Bool.and_eq_true, inB_iff]
  have z : (((2 : Int) != 2 || eventFault 3 0 0 0 (f 9) (f 10) == 0) = true) = ((eventFault 3 0 0 0 (f 9) (f 10) == 0) = true) := rfl
  rw [z, fault_ack]
  simp only [and_true]
  omega
theorem bound_iff (f : Nat → Int) : ∀ i, i < 12 → (boundB (over (noffs i) (bareK i) f) = true ↔ allIn ((noffs i).map f) (mosts i)) :=
  below12 (bound_0 f) (bound_1 f) (bound_2 f) (bound_3 f) (bound_4 f) (bound_5 f) (bound_6 f) (bound_7 f) (bound_8 f) (bound_9 f) (bound_10 f) (bound_11 f)
theorem eqA_same (f : Nat → Int) (i : Nat) (hi : i < 12) : eqA (less (noffs i) f) (bareK i) = eqA f (over (noffs i) (bareK i) f) := by
  obtain ⟨_, _, _, _, h0, h5⟩ := noffs_facts i hi
  rw [Bool.eq_iff_iff, eqA_iff, eqA_iff]
  constructor <;> intro h j hj <;> have := h j hj <;> unfold less over at *
  · by_cases e : j ∈ noffs i
    · rw [if_pos e]
    · rw [if_neg e] at this ⊢; exact this
  · by_cases e : j ∈ noffs i
    · rw [if_pos e]
      have n0 : j ≠ 0 := fun g => h0 (g ▸ e)
      have n5 : j ≠ 5 := fun g => h5 (g ▸ e)
      simp [bareK, n0, n5]
    · rw [if_neg e] at this ⊢; exact this
theorem chk_ref (f : Nat → Int) : chk f = refFault f := by
  unfold chk refFault
  by_cases hi : kno (f 0) (f 5) < 12
  · rw [if_pos hi, if_pos hi, offs_noffs hi, eqA_same f _ hi]
    have hb := bound_iff f _ hi
    by_cases e : allIn ((noffs (kno (f 0) (f 5))).map f) (mosts (kno (f 0) (f 5)))
    · rw [if_pos (hb.2 e), if_pos e]
    · rw [if_neg (fun g => e (hb.1 g)), if_neg e]
  · rw [if_neg hi, if_neg hi]
set_option maxRecDepth 20000 in
theorem walk_LinesChecks (w : World) (hK : Kinds w) (f : Nat → Int) : Calls Tryd.prog 3 #[aVal f] w fun e w' => e = .returned (.bool true) ∧ Below w.heap.size w w' := by
  obtain ⟨W1, hW1, A1, B1⟩ : ∃ W1, W1 = w.alloc (.cells (aCells f) 27) ∧ aBlock W1 w.heap.size f ∧ Below w.heap.size w W1 := ⟨_, rfl, aBlock.new w f, below1 _ _⟩
  have H1 := lcheck_any f W1 (hK.next B1)
  have H2 := fun u => actFault_any f u
  rw [← chk_ref] at H2
  generalize chk f = r at H1 H2
  obtain ⟨x0, x1, x2, x3, x4, x5, x6, x7, x8, x9, x10⟩ := A1.cells
  have HA := veil A1
  clear A1 hK
  go_enter Tryd.func3, Tryd.ntmps3
  go_upto_region 1 with fail
  rw [← hW1]
  clear hW1
  go_wp2_with (first
    | (go_at_call 10; refine H1.mono ?_; rintro e V1 ⟨rfl, b1⟩; clear H1 x0 x1 x2 x3 x4 x5 x6 x7 x8 x9 x10; obtain ⟨x0, x1, x2, x3, x4, x5, x6, x7, x8, x9, x10⟩ := ((unveil HA).next b1).cells)
    | (go_at_call 11; refine (H2 _).mono ?_; rintro e V2 ⟨rfl, b2⟩; clear H2))
  go_ret
  exact ⟨by simp, Below.next (Below.next B1 b1) b2⟩
end Go.Proofs.YtekbdkppnjnaaaaDoor
