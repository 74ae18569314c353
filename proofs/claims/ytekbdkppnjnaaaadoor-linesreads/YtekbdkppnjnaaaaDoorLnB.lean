/- Walks of lines.within, numbersOfOp and numbers: pointers to an act's numbers. -/
import Derived.Test.YtekbdkppnjnaaaaDoorLnA
import Derived.Laws.OwnMore
import Derived.RegionTactic
import Derived.BigRegion
namespace Go.Proofs.YtekbdkppnjnaaaaDoor
open Go.RowKit

abbrev ptr (B o : Nat) : Value := .pointer (some ⟨B, o, none⟩)
theorem Tryd.infoPtr : (Tryd.prog.info? 83).map (fun i => (i.zero, i.size, i.bytes)) = some (some (.pointer none), 1, 8) := by kernel_rfl
/-- is a number from 0 to most? -/
def inB (n m : Int) : Bool := decide (0 ≤ n ∧ n ≤ m)
theorem lwithin_any (n m : Int) (w : World) : Calls Tryd.prog 39 #[.int .i64 n, .int .i64 m] w fun e w' => e = .returned (.bool (inB n m)) ∧ w' = w := by
  by_cases h : 0 ≤ n
  · by_cases h1 : n ≤ m
    · rw [show inB n m = true from decide_eq_true ⟨h, h1⟩]
      go_enter Tryd.func39, Tryd.ntmps39
      go_wp2
      go_ret
      exact ⟨rfl, rfl⟩
    · rw [show inB n m = false from decide_eq_false fun g => h1 g.2]
      go_enter Tryd.func39, Tryd.ntmps39
      go_wp2
      go_ret
      exact ⟨rfl, rfl⟩
  · rw [show inB n m = false from decide_eq_false fun g => h g.1]
    go_enter Tryd.func39, Tryd.ntmps39
    go_wp2
    go_ret
    exact ⟨rfl, rfl⟩
/-- a row of pointers that the call itself made. -/
abbrev pRow (w : World) (base : Nat) (v : Value) (B : Nat) (os : List Nat) : Prop := w.ownsRow base 83 1 v os.length (os.map (ptr B))
theorem pRow.lit (w : World) (base B : Nat) (os : List Nat) (cs : Array Value) (hb : base ≤ w.heap.size) (hc : cs.toList = os.map (ptr B)) (hl : os.length ≤ 5) : pRow (w.alloc (.cells cs 83)) base (.slice (some ⟨w.heap.size, 0, none⟩) os.length os.length) B os := by
  have hs : cs.size = os.length := by rw [← Array.length_toList, hc, List.length_map]
  have := World.ownsRow_lit (base := base) (e := 83) (size := 1) w cs os.length hb (by unfold maxLen; omega) (by omega)
  rw [hc] at this
  exact this
theorem numbersOfOp_pub (B : Nat) (f : Nat → Int) (w : World) (hb : aBlock w B f) (h5 : f 5 = 1) :
    Calls Tryd.prog 53 #[ptr B 5] w fun e w' => ∃ X, e = .returned (.slice (some ⟨X, 0, none⟩) 3 3) ∧ w.heap.size ≤ X ∧ w'.heap[X]? = some (.cells #[ptr B 6, ptr B 7, ptr B 8] 83 (0, 0)) ∧ Below w.heap.size w w' := by
  have x5 := hb.cell 5 (by omega)
  rw [h5] at x5
  go_enter Tryd.func53, Tryd.ntmps53
  go_wp2
  go_region
  all_goals (go_wp2; go_ret; exact ⟨_, rfl, by simp, heap_alloc_new _ _, Below.next (Below.refl _ _).drew (below1 _ _)⟩)
theorem numbersOfOp_ack (B : Nat) (f : Nat → Int) (w : World) (hb : aBlock w B f) (h5 : f 5 = 3) :
    Calls Tryd.prog 53 #[ptr B 5] w fun e w' => ∃ X, e = .returned (.slice (some ⟨X, 0, none⟩) 2 2) ∧ w.heap.size ≤ X ∧ w'.heap[X]? = some (.cells #[ptr B 9, ptr B 10] 83 (0, 0)) ∧ Below w.heap.size w w' := by
  have x5 := hb.cell 5 (by omega)
  rw [h5] at x5
  go_enter Tryd.func53, Tryd.ntmps53
  go_wp2
  go_region
  all_goals (go_wp2; go_ret; exact ⟨_, rfl, by simp, heap_alloc_new _ _, Below.next (Below.refl _ _).drew (below1 _ _)⟩)
theorem numbersOfOp_other (B : Nat) (f : Nat → Int) (w : World) (hb : aBlock w B f) (h1 : ¬ f 5 = 1) (h3 : ¬ f 5 = 3) :
    Calls Tryd.prog 53 #[ptr B 5] w fun e w' => e = .returned (.slice none 0 0) ∧ w' = w := by
  have x5 := hb.cell 5 (by omega)
  have g1 : (f 5 == 1) = false := by simpa using h1
  have g3 : (f 5 == 3) = false := by simpa using h3
  go_enter Tryd.func53, Tryd.ntmps53
  go_wp2
  go_ret
  exact ⟨rfl, rfl⟩
theorem numbers_1 (B : Nat) (f : Nat → Int) (w : World) (hb : aBlock w B f) (h0 : f 0 = 1) :
    Calls Tryd.prog 38 #[ptr B 0] w fun e w' => ∃ v, e = .returned v ∧ pRow w' w.heap.size v B [2, 1] ∧ Below w.heap.size w w' := by
  have x0 := hb.cell 0 (by omega)
  rw [h0] at x0
  go_enter Tryd.func38, Tryd.ntmps38
  go_wp2
  go_region
  all_goals (go_wp2; go_ret; exact ⟨_, rfl, pRow.lit _ _ B [2, 1] _ (by simp) rfl (by decide), Below.next (Below.refl _ _).drew (below1 _ _)⟩)
theorem numbers_10 (B : Nat) (f : Nat → Int) (w : World) (hb : aBlock w B f) (h0 : f 0 = 10) :
    Calls Tryd.prog 38 #[ptr B 0] w fun e w' => ∃ v, e = .returned v ∧ pRow w' w.heap.size v B [2, 1] ∧ Below w.heap.size w w' := by
  have x0 := hb.cell 0 (by omega)
  rw [h0] at x0
  go_enter Tryd.func38, Tryd.ntmps38
  go_wp2
  go_region
  all_goals (go_wp2; go_ret; exact ⟨_, rfl, pRow.lit _ _ B [2, 1] _ (by simp) rfl (by decide), Below.next (Below.refl _ _).drew (below1 _ _)⟩)
theorem numbers_3 (B : Nat) (f : Nat → Int) (w : World) (hb : aBlock w B f) (h0 : f 0 = 3) :
    Calls Tryd.prog 38 #[ptr B 0] w fun e w' => ∃ v, e = .returned v ∧ pRow w' w.heap.size v B [1] ∧ Below w.heap.size w w' := by
  have x0 := hb.cell 0 (by omega)
  rw [h0] at x0
  go_enter Tryd.func38, Tryd.ntmps38
  go_wp2
  go_ret
  exact ⟨_, rfl, pRow.lit _ _ B [1] _ (Nat.le_refl _) rfl (by decide), below1 _ _⟩
theorem numbers_9 (B : Nat) (f : Nat → Int) (w : World) (hb : aBlock w B f) (h0 : f 0 = 9) :
    Calls Tryd.prog 38 #[ptr B 0] w fun e w' => ∃ v, e = .returned v ∧ pRow w' w.heap.size v B [1] ∧ Below w.heap.size w w' := by
  have x0 := hb.cell 0 (by omega)
  rw [h0] at x0
  go_enter Tryd.func38, Tryd.ntmps38
  go_wp2
  go_ret
  exact ⟨_, rfl, pRow.lit _ _ B [1] _ (Nat.le_refl _) rfl (by decide), below1 _ _⟩
theorem numbers_8 (B : Nat) (f : Nat → Int) (w : World) (hb : aBlock w B f) (h0 : f 0 = 8) :
    Calls Tryd.prog 38 #[ptr B 0] w fun e w' => ∃ v, e = .returned v ∧ pRow w' w.heap.size v B [1, 4] ∧ Below w.heap.size w w' := by
  have x0 := hb.cell 0 (by omega)
  rw [h0] at x0
  go_enter Tryd.func38, Tryd.ntmps38
  go_wp2
  go_region
  all_goals (go_wp2; go_ret; exact ⟨_, rfl, pRow.lit _ _ B [1, 4] _ (by simp) rfl (by decide), Below.next (Below.refl _ _).drew (below1 _ _)⟩)
theorem numbers_4 (B : Nat) (f : Nat → Int) (w : World) (hb : aBlock w B f) (h0 : f 0 = 4) :
    Calls Tryd.prog 38 #[ptr B 0] w fun e w' => ∃ v, e = .returned v ∧ pRow w' w.heap.size v B [3] ∧ Below w.heap.size w w' := by
  have x0 := hb.cell 0 (by omega)
  rw [h0] at x0
  go_enter Tryd.func38, Tryd.ntmps38
  go_wp2
  go_ret
  exact ⟨_, rfl, pRow.lit _ _ B [3] _ (Nat.le_refl _) rfl (by decide), below1 _ _⟩
theorem numbers_5 (B : Nat) (f : Nat → Int) (w : World) (hb : aBlock w B f) (h0 : f 0 = 5) :
    Calls Tryd.prog 38 #[ptr B 0] w fun e w' => ∃ v, e = .returned v ∧ pRow w' w.heap.size v B [3] ∧ Below w.heap.size w w' := by
  have x0 := hb.cell 0 (by omega)
  rw [h0] at x0
  go_enter Tryd.func38, Tryd.ntmps38
  go_wp2
  go_ret
  exact ⟨_, rfl, pRow.lit _ _ B [3] _ (Nat.le_refl _) rfl (by decide), below1 _ _⟩
theorem numbers_6 (B : Nat) (f : Nat → Int) (w : World) (hb : aBlock w B f) (h0 : f 0 = 6) :
    Calls Tryd.prog 38 #[ptr B 0] w fun e w' => ∃ v, e = .returned v ∧ pRow w' w.heap.size v B [3] ∧ Below w.heap.size w w' := by
  have x0 := hb.cell 0 (by omega)
  rw [h0] at x0
  go_enter Tryd.func38, Tryd.ntmps38
  go_wp2
  go_ret
  exact ⟨_, rfl, pRow.lit _ _ B [3] _ (Nat.le_refl _) rfl (by decide), below1 _ _⟩
theorem numbers_none (B : Nat) (f : Nat → Int) (w : World) (hb : aBlock w B f) (h1 : ¬ f 0 = 1) (h10 : ¬ f 0 = 10) (h3 : ¬ f 0 = 3) (h9 : ¬ f 0 = 9) (h8 : ¬ f 0 = 8) (h4 : ¬ f 0 = 4) (h5 : ¬ f 0 = 5) (h6 : ¬ f 0 = 6) (h2 : ¬ f 0 = 2) :
    Calls Tryd.prog 38 #[ptr B 0] w fun e w' => ∃ v, e = .returned v ∧ pRow w' w.heap.size v B [] ∧ Below w.heap.size w w' := by
  have x0 := hb.cell 0 (by omega)
  have g1 : (f 0 == 1) = false := by simpa using h1
  have g10 : (f 0 == 10) = false := by simpa using h10
  have g3 : (f 0 == 3) = false := by simpa using h3
  have g9 : (f 0 == 9) = false := by simpa using h9
  have g8 : (f 0 == 8) = false := by simpa using h8
  have g4 : (f 0 == 4) = false := by simpa using h4
  have g5 : (f 0 == 5) = false := by simpa using h5
  have g6 : (f 0 == 6) = false := by simpa using h6
  have g2 : (f 0 == 2) = false := by simpa using h2
  go_enter Tryd.func38, Tryd.ntmps38
  go_wp2
  go_ret
  exact ⟨_, rfl, World.ownsRow_nil _ _ _ _, Below.refl _ _⟩
theorem row_cells {w : World} {X : Nat} {l : List Value} {T : TypeId} (h : w.heap[X]? = some (.cells l.toArray T (0, 0))) : ∀ j u, l[j]? = some u → w.cell? ((⟨X, 0, none⟩ : Addr).add j) = some u := by
  intro j u hj
  rw [Addr.add_mid]
  simp [World.cell?, h, hj]
end Go.Proofs.YtekbdkppnjnaaaaDoor
