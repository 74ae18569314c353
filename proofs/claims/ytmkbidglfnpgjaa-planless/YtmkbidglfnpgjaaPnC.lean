/- Walks of slices.Index, Max and Min at []int, of plan.busiest, idlest, within, mayStand and check. -/
import Derived.Test.YtmkbidglfnpgjaaPnB
import Derived.Lib.Strings
import Derived.Lib.Walk
import Derived.Deep.QuietTactic
import Derived.BigQuiet
namespace Go.Proofs.Ytmkbidglfnpgjaa
open Go.RowKit

set_option maxHeartbeats 1000000 in
theorem index_row (g c k : Nat) (ws : List Int) (x : Int) (w : World) (h : RowK .i64 w (some ⟨g, 0, none⟩) ws.length ws) (hn : ws.length ≤ 9223372036854775806) (hk : k < ws.length) (he : ws.getD k 0 = x) (low : ∀ j, j < k → ¬ ws.getD j 0 = x) :
    Calls Try.prog 31 #[.slice (some ⟨g, 0, none⟩) ws.length c, .int .i64 x] w fun e w' => e = .returned (.int .i64 k) ∧ w' = w := by
  have at_ : ∀ j, j < ws.length → w.cell? ⟨g, j, none⟩ = some (.int .i64 (ws.getD j 0)) := fun j hj => by have := h.at j hj; rwa [Nat.zero_add] at this
  have A := veil at_
  clear at_ h
  generalize hN : ws.length = n at *
  clear hN
  go_enter Try.func31, Try.ntmps31
  go_wp2
  go_loop [5, 8] (fun _ i => ∃ m : Nat, m ≤ k ∧ i = .int .i64 m) (fun _ i => n - (intOf i).toNat)
  case atStart => exact ⟨0, Nat.zero_le _, rfl⟩
  case round =>
    obtain ⟨m, hm, rfl⟩ := hrel
    have hlt : m < n := by omega
    have hcell := unveil A m hlt
    by_cases hmk : m = k
    · subst hmk
      rw [he] at hcell
      go_wp2
      go_ret
      exact ⟨rfl, rfl⟩
    · have hne := low m (by omega)
      generalize ws.getD m 0 = y at hcell hne
      have hb : (x == y) = false := by simp; exact fun e => hne e.symm
      go_wp2
      · exact ⟨⟨m + 1, by omega, by go_num⟩, by simp [intOf]; omega⟩

set_option maxHeartbeats 2000000 in
theorem max_row (g c : Nat) (ws : List Int) (w : World) (h : RowK .i64 w (some ⟨g, 0, none⟩) ws.length ws) (hn : ws.length ≤ 9223372036854775806) (h0 : 0 < ws.length) :
    Calls Try.prog 32 #[.slice (some ⟨g, 0, none⟩) ws.length c] w fun e w' => e = .returned (.int .i64 (Lib.maxOf ws)) ∧ w' = w := by
  have at_ : ∀ j, j < ws.length → w.cell? ⟨g, j, none⟩ = some (.int .i64 (ws.getD j 0)) := fun j hj => by have := h.at j hj; rwa [Nat.zero_add] at this
  have st : ∀ k, 0 < k → k < ws.length → Lib.maxOf (ws.take (k + 1)) = max (Lib.maxOf (ws.take k)) (ws.getD k 0) := fun k a b => Lib.maxOf_step ws k a b
  have fin : Lib.maxOf (ws.take ws.length) = Lib.maxOf ws := by rw [List.take_length]
  have one := Lib.maxOf_one ws
  have ST := veil st
  have A := veil at_
  have F := veil fin
  have c0 := at_ 0 h0
  clear at_ h st fin
  generalize hN : ws.length = n at *
  clear hN
  rw [← one] at c0
  clear one
  go_enter Try.func32, Try.ntmps32
  go_wp2
  go_loop [3, 4] (fun m i => ∃ k : Nat, 0 < k ∧ k ≤ n ∧ i = .int .i64 k ∧ m = .int .i64 (Lib.maxOf (ws.take k))) (fun _ i => n - (intOf i).toNat)
  case atStart => exact ⟨1, by omega, h0, rfl, rfl⟩
  case round =>
    obtain ⟨k, hk0, hk, rfl, rfl⟩ := hrel
    by_cases hlt : k < n
    · have hcell := unveil A k hlt
      have hs := unveil ST k hk0 hlt
      generalize ws.getD k 0 = y at hcell hs
      have HS := veil hs
      clear hs
      go_wp2
      exact ⟨⟨k + 1, by omega, by omega, by go_num, by rw [unveil HS]⟩, by simp [intOf]; omega⟩
    · go_wp2
      go_ret
      obtain rfl : k = n := by omega
      exact ⟨congrArg (fun z => Ending.returned (.int .i64 z)) (unveil F), rfl⟩

set_option maxHeartbeats 2000000 in
theorem min_row (g c : Nat) (ws : List Int) (w : World) (h : RowK .i64 w (some ⟨g, 0, none⟩) ws.length ws) (hn : ws.length ≤ 9223372036854775806) (h0 : 0 < ws.length) :
    Calls Try.prog 33 #[.slice (some ⟨g, 0, none⟩) ws.length c] w fun e w' => e = .returned (.int .i64 (Lib.minOf ws)) ∧ w' = w := by
  have at_ : ∀ j, j < ws.length → w.cell? ⟨g, j, none⟩ = some (.int .i64 (ws.getD j 0)) := fun j hj => by have := h.at j hj; rwa [Nat.zero_add] at this
  have st : ∀ k, 0 < k → k < ws.length → Lib.minOf (ws.take (k + 1)) = min (Lib.minOf (ws.take k)) (ws.getD k 0) := fun k a b => Lib.minOf_step ws k a b
  have fin : Lib.minOf (ws.take ws.length) = Lib.minOf ws := by rw [List.take_length]
  have one := Lib.minOf_one ws
  have ST := veil st
  have A := veil at_
  have F := veil fin
  have c0 := at_ 0 h0
  clear at_ h st fin
  generalize hN : ws.length = n at *
  clear hN
  rw [← one] at c0
  clear one
  go_enter Try.func33, Try.ntmps33
  go_wp2
  go_loop [3, 4] (fun m i => ∃ k : Nat, 0 < k ∧ k ≤ n ∧ i = .int .i64 k ∧ m = .int .i64 (Lib.minOf (ws.take k))) (fun _ i => n - (intOf i).toNat)
  case atStart => exact ⟨1, by omega, h0, rfl, rfl⟩
  case round =>
    obtain ⟨k, hk0, hk, rfl, rfl⟩ := hrel
    by_cases hlt : k < n
    · have hcell := unveil A k hlt
      have hs := unveil ST k hk0 hlt
      generalize ws.getD k 0 = y at hcell hs
      have HS := veil hs
      clear hs
      go_wp2
      exact ⟨⟨k + 1, by omega, by omega, by go_num, by rw [unveil HS]⟩, by simp [intOf]; omega⟩
    · go_wp2
      go_ret
      obtain rfl : k = n := by omega
      exact ⟨congrArg (fun z => Ending.returned (.int .i64 z)) (unveil F), rfl⟩

theorem busiest_row (g c : Nat) (ws : List Int) (w : World) (h : RowK .i64 w (some ⟨g, 0, none⟩) ws.length ws) (hn : ws.length ≤ 9223372036854775806) (h0 : 0 < ws.length) :
    Calls Try.prog 21 #[.slice (some ⟨g, 0, none⟩) ws.length c] w fun e w' => e = .returned (.int .i64 (busyOf ws)) ∧ w' = w := by
  obtain ⟨m, h1, h2, h3⟩ := busy_is ws h0
  have e1 : busyOf ws = m := by unfold busyOf; rw [h3]; rfl
  rw [e1]
  have HM := max_row g c ws w h hn h0
  have HI := index_row g c m ws (Lib.maxOf ws) w h hn h1.lt h2.symm (fun j hj e => by have := h1.low j hj; rw [h2] at e; omega)
  clear e1 h1 h2 h3 h hn h0
  generalize Lib.maxOf ws = x at HM HI
  generalize ws.length = n at HM HI ⊢
  go_enter Try.func21, Try.ntmps21
  go_wp2_with (first | (go_at_call 32; refine HM.mono ?_; rintro _ _ ⟨rfl, rfl⟩; clear HM) | (go_at_call 31; refine HI.mono ?_; rintro _ _ ⟨rfl, rfl⟩; clear HI))
  go_ret
  exact ⟨rfl, rfl⟩

theorem idlest_row (g c : Nat) (ws : List Int) (w : World) (h : RowK .i64 w (some ⟨g, 0, none⟩) ws.length ws) (hn : ws.length ≤ 9223372036854775806) (h0 : 0 < ws.length) :
    Calls Try.prog 22 #[.slice (some ⟨g, 0, none⟩) ws.length c] w fun e w' => e = .returned (.int .i64 (idleOf ws)) ∧ w' = w := by
  obtain ⟨m, h1, h2, h3⟩ := idle_is ws h0
  have e1 : idleOf ws = m := by unfold idleOf; rw [h3]; rfl
  rw [e1]
  have HM := min_row g c ws w h hn h0
  have HI := index_row g c m ws (Lib.minOf ws) w h hn h1.lt h2.symm (fun j hj e => by have := h1.low j hj; rw [h2] at e; omega)
  clear e1 h1 h2 h3 h hn h0
  generalize Lib.minOf ws = x at HM HI
  generalize ws.length = n at HM HI ⊢
  go_enter Try.func22, Try.ntmps22
  go_wp2_with (first | (go_at_call 33; refine HM.mono ?_; rintro _ _ ⟨rfl, rfl⟩; clear HM) | (go_at_call 31; refine HI.mono ?_; rintro _ _ ⟨rfl, rfl⟩; clear HI))
  go_ret
  exact ⟨rfl, rfl⟩

theorem within_any (n most : Int) (w : World) : Calls Try.prog 26 #[.int .i64 n, .int .i64 most] w fun e w' => e = .returned (.bool (decide (0 ≤ n ∧ n ≤ most))) ∧ w' = w := by
  by_cases h1 : 0 ≤ n
  · by_cases h2 : n ≤ most
    · rw [decide_eq_true (show 0 ≤ n ∧ n ≤ most from ⟨h1, h2⟩)]
      go_enter Try.func26, Try.ntmps26
      go_wp2
      go_ret
      exact ⟨rfl, rfl⟩
    · rw [decide_eq_false (show ¬ (0 ≤ n ∧ n ≤ most) from fun h => h2 h.2)]
      go_enter Try.func26, Try.ntmps26
      go_wp2
      go_ret
      exact ⟨rfl, rfl⟩
  · rw [decide_eq_false (show ¬ (0 ≤ n ∧ n ≤ most) from fun h => h1 h.1)]
    go_enter Try.func26, Try.ntmps26
    go_wp2
    go_ret
    exact ⟨rfl, rfl⟩
abbrev ldVal (x : Ld) : Value := .agg #[.int .i64 x.q, .int .i64 x.n, .int .i64 x.w]
def ldB (nodes : Int) (x : Ld) : Bool := decide (0 ≤ x.q ∧ x.q ≤ 3) && (decide (0 ≤ x.n ∧ x.n ≤ nodes - 1) && decide (0 ≤ x.w ∧ x.w ≤ 1073741824))
theorem ldB_iff (nodes : Int) (x : Ld) : ldB nodes x = true ↔ LdOk nodes x := by
  unfold ldB
  simp only [Bool.and_eq_true, decide_eq_true_eq]
  exact ⟨fun h => ⟨h.1.1, h.1.2, h.2.1.1, by omega, h.2.2.1, h.2.2.2⟩, fun h => ⟨⟨h.q0, h.q3⟩, ⟨h.n0, by have := h.n4; omega⟩, ⟨h.w0, h.w1⟩⟩⟩
set_option maxRecDepth 20000 in
theorem mayStand_ld (x : Ld) (nodes : Int) (w : World) (h1 : 1 ≤ nodes) (h5 : nodes ≤ 5) : Calls Try.prog 30 #[ldVal x, .int .i64 nodes] w fun e w' => e = .returned (.bool (ldB nodes x)) ∧ Below w.heap.size w w' := by
  obtain ⟨q, n, wk⟩ := x
  unfold ldB
  have HQ := fun w => within_any q 3 w
  have HN := fun w => within_any n (nodes - 1) w
  have HW := fun w => within_any wk 1073741824 w
  show Calls Try.prog 30 #[.agg #[.int .i64 q, .int .i64 n, .int .i64 wk], .int .i64 nodes] w _
  show Calls Try.prog 30 _ w fun e w' => e = .returned (.bool (decide (0 ≤ q ∧ q ≤ 3) && (decide (0 ≤ n ∧ n ≤ nodes - 1) && decide (0 ≤ wk ∧ wk ≤ 1073741824)))) ∧ Below w.heap.size w w'
  generalize decide (0 ≤ q ∧ q ≤ 3) = a at HQ ⊢
  generalize decide (0 ≤ n ∧ n ≤ nodes - 1) = b at HN ⊢
  generalize decide (0 ≤ wk ∧ wk ≤ 1073741824) = d at HW ⊢
  cases a <;> cases b <;> cases d
  all_goals
    go_enter Try.func30, Try.ntmps30
    go_wp2_with (first | (go_at_call 26; first | (refine (HQ _).mono ?_; rintro _ _ ⟨rfl, rfl⟩; clear HQ) | (refine (HN _).mono ?_; rintro _ _ ⟨rfl, rfl⟩; clear HN) | (refine (HW _).mono ?_; rintro _ _ ⟨rfl, rfl⟩; clear HW)))
    go_ret
    exact ⟨rfl, below1 _ _⟩
end Go.Proofs.Ytmkbidglfnpgjaa
