/- The walks of tape.Read at nothing, of berthshiftlaw.sameRecords. -/
import Derived.Test.YtlfecmkpafgcmaaTpL
namespace Go.Proofs.Ytlfecmkpafgcmaa
open Go.RowKit

theorem readOf_nil : readOf [] = ([], 0) := rfl

set_option maxRecDepth 20000 in
set_option maxHeartbeats 1000000 in
theorem read_nil (s : Int) (w : World) (h2 : 0 ≤ s) (h3 : s ≤ ((0 : Nat) : Int)) :
    Calls Try.prog 20 #[.agg #[.slice none 0 0, .int .i64 s]] w fun e w' => e = .returned (.tuple #[.slice none 0 0, .int .i64 0, .int .i64 0]) ∧ Below w.heap.size w w' := by
  go_enter Try.func20, Try.ntmps20
  go_wp2_with fail
  obtain ⟨W, hW, tb0, B0, S0⟩ : ∃ W, W = w.alloc (.cells #[.slice none 0 0, .int .i64 s] 54) ∧ tapeBlock W w.heap.size none 0 0 s ∧ Below w.heap.size w W ∧ W.heap.size = w.heap.size + 1 := ⟨_, rfl, tapeBlock.new w _ 0 0 s, below1 _ _, alloc_size _ _⟩
  rw [← hW]
  clear hW
  refine (mayBe_yes none 0 0 s _ (by omega) h2 h3).mono ?_
  rintro e w1 ⟨rfl, b1⟩
  have tb1 := tb0.below b1 tb0.lt
  have B1 := Below.next B0 b1
  clear tb0 B0 b1
  go_wp2
  go_loopw [5, 6] (fun v t wr => t = .int .i64 0 ∧ v = .slice none 0 0 ∧ w1 = wr) (fun _ _ _ => 0)
  case atStart => exact ⟨rfl, rfl, rfl⟩
  case round =>
    obtain ⟨rfl, rfl, rfl⟩ := hrel
    have c0 := tb1.cell0
    go_wp2_with fail
    refine (unframe_short _ _ _ _ (by omega)).mono ?_
    rintro e w3 ⟨rfl, b3⟩
    have B3 := Below.next B1 b3
    clear b3 B1 c0 tb1
    simp only [recVal, zeros, List.map_cons, List.map_nil]
    go_wp2
    exact bodyPost_ret (ret_Read rfl rfl rfl) rfl ⟨rfl, Below.next B3 (below1 _ _)⟩

set_option maxRecDepth 20000 in
set_option maxHeartbeats 1000000 in
theorem read_zero (x : Addr) (cap : Nat) (s : Int) (w : World) (h2 : 0 ≤ s) (h3 : s ≤ ((0 : Nat) : Int)) :
    Calls Try.prog 20 #[.agg #[.slice (some x) 0 cap, .int .i64 s]] w fun e w' => e = .returned (.tuple #[.slice none 0 0, .int .i64 0, .int .i64 0]) ∧ Below w.heap.size w w' := by
  go_enter Try.func20, Try.ntmps20
  go_wp2_with fail
  obtain ⟨W, hW, tb0, B0, S0⟩ : ∃ W, W = w.alloc (.cells #[.slice (some x) 0 cap, .int .i64 s] 54) ∧ tapeBlock W w.heap.size (some x) 0 cap s ∧ Below w.heap.size w W ∧ W.heap.size = w.heap.size + 1 := ⟨_, rfl, tapeBlock.new w _ 0 cap s, below1 _ _, alloc_size _ _⟩
  rw [← hW]
  clear hW
  refine (mayBe_yes (some x) 0 cap s _ (by omega) h2 h3).mono ?_
  rintro e w1 ⟨rfl, b1⟩
  have tb1 := tb0.below b1 tb0.lt
  have B1 := Below.next B0 b1
  clear tb0 B0 b1
  go_wp2
  go_loopw [5, 6] (fun v t wr => t = .int .i64 0 ∧ v = .slice none 0 0 ∧ w1 = wr) (fun _ _ _ => 0)
  case atStart => exact ⟨rfl, rfl, rfl⟩
  case round =>
    obtain ⟨rfl, rfl, rfl⟩ := hrel
    have c0 := tb1.cell0
    go_wp2_with fail
    all_goals
      refine (unframe_short _ _ _ _ (by omega)).mono ?_
      rintro e w3 ⟨rfl, b3⟩
      have B3 := Below.next B1 b3
      clear b3 B1 c0 tb1
      simp only [recVal, zeros, List.map_cons, List.map_nil]
      go_wp2
      exact bodyPost_ret (ret_Read rfl rfl rfl) rfl ⟨rfl, Below.next B3 (below1 _ _)⟩

theorem read_any (a : Option Addr) (len cap : Nat) (l : List Int) (s : Int) (w : World) (h : RowK .u8 w a len l) (hn : a = none → cap = 0) (hlc : len ≤ cap) (hc : cap ≤ 9223372036854775807) (h1 : len ≤ 100000) (h2 : 0 ≤ s) (h3 : s ≤ len) :
    Calls Try.prog 20 #[.agg #[.slice a len cap, .int .i64 s]] w fun e w' =>
      ∃ a' cap', e = .returned (.tuple #[.slice a' (readOf l).1.length cap', .int .i64 (readOf l).2, .int .i64 0]) ∧ RecRow w' a' (readOf l).1 ∧ (readOf l).1.length ≤ cap' ∧ cap' ≤ 9223372036854775807 ∧ (a' = none → cap' = 0) ∧ (∀ x, a' = some x → w.heap.size ≤ x.block) ∧ Below w.heap.size w w' := by
  cases a with
  | none =>
    have hc0 := hn rfl
    subst hc0
    have hl0 : len = 0 := by omega
    subst hl0
    have hl : l = [] := List.length_eq_zero_iff.1 h.len_eq
    subst hl
    rw [readOf_nil]
    refine (read_nil s w h2 h3).mono ?_
    rintro e w' ⟨rfl, hb⟩
    exact ⟨none, 0, rfl, RecRow.nil _ _, Nat.le_refl _, by omega, fun _ => rfl, (fun x hx => by cases hx), hb⟩
  | some x =>
    obtain ⟨b, off, sp⟩ := x
    by_cases h0 : 0 < len
    · obtain ⟨b', off', he⟩ := h.form h0
      rw [he] at h ⊢
      exact read_some b' off' len cap l s w h hlc hc h1 h2 h3
    · have hl0 : len = 0 := by omega
      subst hl0
      have hl : l = [] := List.length_eq_zero_iff.1 h.len_eq
      subst hl
      rw [readOf_nil]
      refine (read_zero ⟨b, off, sp⟩ cap s w h2 h3).mono ?_
      rintro e w' ⟨rfl, hb⟩
      exact ⟨none, 0, rfl, RecRow.nil _ _, Nat.le_refl _, by omega, fun _ => rfl, (fun x hx => by cases hx), hb⟩

theorem flat_getD (rs : List (List Int)) (ht : ∀ z ∈ rs, z.length = 10) (k j : Nat) (hk : k < rs.length) (hj : j < 10) : rs.flatten.getD (k * 10 + j) 0 = (rs.getD k []).getD j 0 := by
  induction rs generalizing k with
  | nil => simp at hk
  | cons z rs ih =>
    have hz := ht z (by simp)
    cases k with
    | zero => simp [List.getD_eq_getElem?_getD, List.getElem?_append_left (show j < z.length by omega)]
    | succ k =>
      have := ih (fun y hy => ht y (by simp [hy])) k (by simpa using hk)
      simp only [List.flatten_cons, List.getD_eq_getElem?_getD, List.getElem?_cons_succ] at this ⊢
      rw [List.getElem?_append_right (by omega), show (k + 1) * 10 + j - z.length = k * 10 + j by omega]
      exact this

end Go.Proofs.Ytlfecmkpafgcmaa
