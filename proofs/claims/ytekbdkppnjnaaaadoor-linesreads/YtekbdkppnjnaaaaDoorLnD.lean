/- Walks of lines' bare and inBounds. -/
import Derived.Test.YtekbdkppnjnaaaaDoorLnC
import Derived.Deep.DeepCutAuto
namespace Go.Proofs.YtekbdkppnjnaaaaDoor
open Go.RowKit

abbrev kVal (i : Nat) : Value := .agg #[.string (kword i), .int .i64 (kact i), .int .i64 (kop i)]
def vec (l : List Int) : Nat → Int := fun i => l.getD i 0
theorem aVal_ext {f g : Nat → Int} (h : ∀ i, i < 11 → f i = g i) : aVal f = aVal g := by
  rw [aVal, aVal, aCells, aCells, h 0 (by omega), h 1 (by omega), h 2 (by omega), h 3 (by omega), h 4 (by omega), h 5 (by omega), h 6 (by omega), h 7 (by omega), h 8 (by omega), h 9 (by omega), h 10 (by omega)]
theorem aBlock.ext {w : World} {R : Nat} {f g : Nat → Int} (h : aBlock w R f) (e : ∀ i, i < 11 → f i = g i) : aBlock w R g := by
  unfold aBlock at h ⊢
  have := aVal_ext e
  rw [aVal, aVal, Value.agg.injEq] at this
  rw [← this]
  exact h
theorem a_stored {w wx : World} {R N : Nat} {f : Nat → Int} (h : aBlock wx R f) (bel : Below N w wx) (hN : N ≤ R) (v0 v1 v2 v3 v4 v5 v6 v7 v8 v9 v10 : Int) :
    ∃ W, W = ((((((((((wx.setCell ⟨R, 0, none⟩ (.int .i64 v0)).setCell ⟨R, 1, none⟩ (.int .i64 v1)).setCell ⟨R, 2, none⟩ (.int .i64 v2)).setCell ⟨R, 3, none⟩ (.int .i64 v3)).setCell ⟨R, 4, none⟩ (.int .i64 v4)).setCell ⟨R, 5, none⟩ (.int .i64 v5)).setCell ⟨R, 6, none⟩ (.int .i64 v6)).setCell ⟨R, 7, none⟩ (.int .i64 v7)).setCell ⟨R, 8, none⟩ (.int .i64 v8)).setCell ⟨R, 9, none⟩ (.int .i64 v9)).setCell ⟨R, 10, none⟩ (.int .i64 v10) ∧ aBlock W R (vec [v0, v1, v2, v3, v4, v5, v6, v7, v8, v9, v10]) ∧ Below N w W ∧ Turned R wx W :=
  ⟨_, rfl, h.store (vec [v0, v1, v2, v3, v4, v5, v6, v7, v8, v9, v10]), (aStore_turn wx R (vec [v0, v1, v2, v3, v4, v5, v6, v7, v8, v9, v10])).under bel hN, aStore_turn wx R (vec [v0, v1, v2, v3, v4, v5, v6, v7, v8, v9, v10])⟩
theorem ret_bare {W : World} {R : Nat} {f : Nat → Int} {tmps : Array Value} (d : aBlock W R f) (t2 : tmps[2]? = some (.pointer (some ⟨R, 0, none⟩))) :
    (results Tryd.f24 tmps).run Tryd.prog W = .ok (aVal f) W := by
  simp [results, Tryd.results24, t2, asAddr, load_act d]
set_option maxRecDepth 20000 in
theorem bare_any (i : Nat) (w : World) : Calls Tryd.prog 24 #[kVal i] w fun e w' => e = .returned (aVal (bareK i)) ∧ Below w.heap.size w w' := by
  show Calls Tryd.prog _ #[.agg #[.string (kword i), .int .i64 (kact i), .int .i64 (kop i)]] w _
  generalize hs : kword i = s
  generalize ha : kact i = a
  generalize ho : kop i = o
  have hv : aVal (bareK i) = aVal (vec [a, 0, 0, 0, 0, o, 0, 0, 0, 0, 0]) := by
    refine aVal_ext (below11 ?_ ?_ ?_ ?_ ?_ ?_ ?_ ?_ ?_ ?_ ?_) <;> simp [bareK, vec, ha, ho]
  rw [hv]
  clear hv ha ho hs
  obtain ⟨W1, hW1, kb0, kb1, kb2, z, b1⟩ : ∃ W1, W1 = (w.alloc (.cells #[.string s, .int .i64 a, .int .i64 o] 49)).alloc (.cells #[.int .i64 0, .int .i64 0, .int .i64 0, .int .i64 0, .int .i64 0, .int .i64 0, .int .i64 0, .int .i64 0, .int .i64 0, .int .i64 0, .int .i64 0] 27) ∧
      W1.cell? ⟨w.heap.size, 0, none⟩ = some (.string s) ∧ W1.cell? ⟨w.heap.size, 1, none⟩ = some (.int .i64 a) ∧ W1.cell? ⟨w.heap.size, 2, none⟩ = some (.int .i64 o) ∧ aBlock W1 (w.heap.size + 1) (fun _ => 0) ∧ Below w.heap.size w W1 := by
    refine ⟨_, rfl, by simp, by simp, by simp, ?_, below2 _ _ _⟩
    have := aBlock.new (w.alloc (.cells #[.string s, .int .i64 a, .int .i64 o] 49)) (fun _ => 0)
    rw [World.size_alloc] at this
    exact this
  obtain ⟨z0, z1, z2, z3, z4, z5, z6, z7, z8, z9, z10⟩ := z.cells
  have zf := z.free
  go_enter Tryd.func24, Tryd.ntmps24
  go_upto_region 1 with fail
  rw [← hW1]
  clear hW1
  go_wp2
  obtain ⟨W2, hW2, d2, b2, _⟩ := a_stored z b1 (by omega) a 0 0 0 0 o 0 0 0 0 0
  rw [← hW2]
  exact bodyPost_ret (ret_bare d2 rfl) rfl ⟨rfl, b2⟩
/-- may the numbers of an act be? -/
def boundB (f : Nat → Int) : Bool := inB (f 1) 4 && (inB (f 2) 3 && (inB (f 4) 100000 && (inB (f 3) 1048576 && (f 0 != 2 || eventFault (f 5) (f 6) (f 7) (f 8) (f 9) (f 10) == 0))))
set_option maxRecDepth 20000 in
set_option maxHeartbeats 2000000 in
theorem inBounds_any (f : Nat → Int) (w : World) : Calls Tryd.prog 25 #[aVal f] w fun e w' => e = .returned (.bool (boundB f)) ∧ Below w.heap.size w w' := by
  obtain ⟨W1, hW1, z, bl⟩ : ∃ W1, W1 = w.alloc (.cells (aCells f) 27) ∧ aBlock W1 w.heap.size f ∧ Below w.heap.size w W1 := ⟨_, rfl, aBlock.new w f, below1 _ _⟩
  obtain ⟨x0, x1, x2, x3, x4, x5, x6, x7, x8, x9, x10⟩ := z.cells
  clear z
  have HC := check_any (f 5) (f 6) (f 7) (f 8) (f 9) (f 10) W1
  have H1 := lwithin_any (f 1) 4 W1
  have H2 := lwithin_any (f 2) 3 W1
  have H3 := lwithin_any (f 4) 100000 W1
  have H4 := lwithin_any (f 3) 1048576 W1
  unfold boundB
  obtain ⟨b1, h1⟩ : ∃ b, b = inB (f 1) 4 := ⟨_, rfl⟩
  obtain ⟨b2, h2⟩ : ∃ b, b = inB (f 2) 3 := ⟨_, rfl⟩
  obtain ⟨b3, h3⟩ : ∃ b, b = inB (f 4) 100000 := ⟨_, rfl⟩
  obtain ⟨b4, h4⟩ : ∃ b, b = inB (f 3) 1048576 := ⟨_, rfl⟩
  obtain ⟨ev, h5⟩ : ∃ b, b = eventFault (f 5) (f 6) (f 7) (f 8) (f 9) (f 10) := ⟨_, rfl⟩
  rw [← h1] at H1 ⊢
  rw [← h2] at H2 ⊢
  rw [← h3] at H3 ⊢
  rw [← h4] at H4 ⊢
  rw [← h5] at HC ⊢
  clear h1 h2 h3 h4 h5
  cases b1 with
  | false =>
    go_enter Tryd.func25, Tryd.ntmps25
    go_upto_region 1 with fail
    rw [← hW1]
    clear hW1
    go_wp2_with (first | (go_at_call 39; with_reducible refine H1.mono ?_; rintro e w1 ⟨rfl, rfl⟩; clear H1))
    go_ret
    exact ⟨by simp, bl⟩
  | true =>
    cases b2 with
    | false =>
      go_enter Tryd.func25, Tryd.ntmps25
      go_upto_region 1 with fail
      rw [← hW1]
      clear hW1
      go_wp2_with (first | (go_at_call 39; with_reducible refine H1.mono ?_; rintro e w1 ⟨rfl, rfl⟩; clear H1) | (go_at_call 39; with_reducible refine H2.mono ?_; rintro e w1 ⟨rfl, rfl⟩; clear H2))
      go_ret
      exact ⟨by simp, bl⟩
    | true =>
      cases b3 with
      | false =>
        go_enter Tryd.func25, Tryd.ntmps25
        go_upto_region 1 with fail
        rw [← hW1]
        clear hW1
        go_wp2_with (first | (go_at_call 39; with_reducible refine H1.mono ?_; rintro e w1 ⟨rfl, rfl⟩; clear H1) | (go_at_call 39; with_reducible refine H2.mono ?_; rintro e w1 ⟨rfl, rfl⟩; clear H2) | (go_at_call 39; with_reducible refine H3.mono ?_; rintro e w1 ⟨rfl, rfl⟩; clear H3))
        go_ret
        exact ⟨by simp, bl⟩
      | true =>
        cases b4 with
        | false =>
          go_enter Tryd.func25, Tryd.ntmps25
          go_upto_region 1 with fail
          rw [← hW1]
          clear hW1
          go_wp2_with (first | (go_at_call 39; with_reducible refine H1.mono ?_; rintro e w1 ⟨rfl, rfl⟩; clear H1) | (go_at_call 39; with_reducible refine H2.mono ?_; rintro e w1 ⟨rfl, rfl⟩; clear H2) | (go_at_call 39; with_reducible refine H3.mono ?_; rintro e w1 ⟨rfl, rfl⟩; clear H3) | (go_at_call 39; with_reducible refine H4.mono ?_; rintro e w1 ⟨rfl, rfl⟩; clear H4))
          go_ret
          exact ⟨by simp, bl⟩
        | true =>
          by_cases h0 : f 0 = 2
          · have g0 : (f 0 != 2) = false := by simp [h0]
            rw [g0]
            go_enter Tryd.func25, Tryd.ntmps25
            go_upto_region 1 with fail
            rw [← hW1]
            clear hW1
            go_wp2_with (first | (go_at_call 39; with_reducible refine H1.mono ?_; rintro e w1 ⟨rfl, rfl⟩; clear H1) | (go_at_call 39; with_reducible refine H2.mono ?_; rintro e w1 ⟨rfl, rfl⟩; clear H2) | (go_at_call 39; with_reducible refine H3.mono ?_; rintro e w1 ⟨rfl, rfl⟩; clear H3) | (go_at_call 39; with_reducible refine H4.mono ?_; rintro e w1 ⟨rfl, rfl⟩; clear H4) | (go_at_call 40; with_reducible refine HC.mono ?_; rintro e w2 ⟨rfl, b2⟩; clear HC))
            go_ret
            exact ⟨by simp, Below.next bl b2⟩
          · have g0 : (f 0 != 2) = true := by simp [h0]
            rw [g0]
            go_enter Tryd.func25, Tryd.ntmps25
            go_upto_region 1 with fail
            rw [← hW1]
            clear hW1
            go_wp2_with (first | (go_at_call 39; with_reducible refine H1.mono ?_; rintro e w1 ⟨rfl, rfl⟩; clear H1) | (go_at_call 39; with_reducible refine H2.mono ?_; rintro e w1 ⟨rfl, rfl⟩; clear H2) | (go_at_call 39; with_reducible refine H3.mono ?_; rintro e w1 ⟨rfl, rfl⟩; clear H3) | (go_at_call 39; with_reducible refine H4.mono ?_; rintro e w1 ⟨rfl, rfl⟩; clear H4))
            go_ret
            exact ⟨by simp, bl⟩
end Go.Proofs.YtekbdkppnjnaaaaDoor
