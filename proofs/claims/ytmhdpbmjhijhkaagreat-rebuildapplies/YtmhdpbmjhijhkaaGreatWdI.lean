/- Walk of berthshiftref.IdSeen. -/
import Derived.Test.YtmhdpbmjhijhkaaGreatWdH
namespace Go.Proofs.YtmhdpbmjhijhkaaGreat
open Go.RowKit

set_option maxRecDepth 20000 in
set_option maxHeartbeats 1000000 in
theorem idSeen_state (t id : Int) (s : Nat → Bool) (w : World) (h : ¬ WinOk t s) :
    Calls Tryz.prog 101 #[winVal t s, .int .i64 id] w fun e w' => e = .returned (.tuple #[.bool false, .int .i64 6]) ∧ Below w.heap.size w w' := by
  go_enter Tryz.func101, Tryz.ntmps101
  go_wp2_with (go_at_call 100; refine (windowFault_no t s _ h).mono ?_; rintro e w1 ⟨rfl, b1⟩)
  go_ret2
  exact ⟨rfl, below1t b1⟩

set_option maxRecDepth 20000 in
set_option maxHeartbeats 1000000 in
theorem idSeen_range (t id : Int) (s : Nat → Bool) (w : World) (h : WinOk t s) (hr : ¬ (0 ≤ id ∧ id ≤ 1073741824)) :
    Calls Tryz.prog 101 #[winVal t s, .int .i64 id] w fun e w' => e = .returned (.tuple #[.bool false, .int .i64 2]) ∧ Below w.heap.size w w' := by
  go_enter Tryz.func101, Tryz.ntmps101
  go_wp2_with (first | (go_at_call 100; refine (windowFault_yes t s _ h).mono ?_; rintro e w1 ⟨rfl, b1⟩) | (go_at_call 64; refine (winIn_no id 0 1073741824 _ hr).mono ?_; rintro e w2 ⟨rfl, rfl⟩))
  go_ret2
  exact ⟨rfl, below1t b1⟩

set_option maxRecDepth 20000 in
set_option maxHeartbeats 1000000 in
theorem idSeen_low (t id : Int) (s : Nat → Bool) (w : World) (h : WinOk t s) (h0 : 0 ≤ id) (h1 : id ≤ 1073741824) (h2 : id < t - 8) :
    Calls Tryz.prog 101 #[winVal t s, .int .i64 id] w fun e w' => e = .returned (.tuple #[.bool false, .int .i64 9]) ∧ Below w.heap.size w w' := by
  have hl := h.low
  have hh := h.high
  have h3 : id + 8 < t := by omega
  go_enter Tryz.func101, Tryz.ntmps101
  go_wp2_with fail
  obtain ⟨W, hW, wb0, B0, S0⟩ := one_box w t s
  rw [← hW]
  clear hW
  refine (windowFault_yes t s _ h).mono ?_
  rintro e w1 ⟨rfl, b1⟩
  have c0 := (wb0.next b1).cell0
  have HB := veil (Below.next B0 b1)
  clear wb0 B0 S0 b1 h
  go_wp2_with (go_at_call 64; refine (winIn_yes id 0 1073741824 _ h0 h1).mono ?_; rintro e w2 ⟨rfl, rfl⟩)
  go_ret2
  exact ⟨rfl, unveil HB⟩

/-- the id is none of the first k. -/
def NoneOf (l : List Int) (id : Int) (k : Nat) : Prop := ∀ j, j < k → ¬ l.getD j 0 = id

set_option maxRecDepth 20000 in
set_option maxHeartbeats 2000000 in
theorem idSeen_yes (t id : Int) (s : Nat → Bool) (w : World) (h : WinOk t s) (h0 : 0 ≤ id) (h1 : id ≤ 1073741824) (h2 : t - 8 ≤ id) :
    Calls Tryz.prog 101 #[winVal t s, .int .i64 id] w fun e w' => e = .returned (.tuple #[.bool (inWin t s id), .int .i64 0]) ∧ Below w.heap.size w w' := by
  have hl := h.low
  have hh := h.high
  have h3 : ¬ id + 8 < t := by omega
  have hm : Hid (id ∈ idsTo t s 8 ↔ inWin t s id = true) := veil mem_ids
  generalize inWin t s id = b at hm ⊢
  go_enter Tryz.func101, Tryz.ntmps101
  go_wp2_with fail
  obtain ⟨W, hW, wb0, B0, S0⟩ := one_box w t s
  rw [← hW]
  clear hW
  refine (windowFault_yes t s _ h).mono ?_
  rintro e w1 ⟨rfl, b1⟩
  have wb := wb0.next b1
  have HB := veil (Below.next B0 b1)
  obtain ⟨c0, c1, c2, c3, c4, c5, c6, c7, c8⟩ := wb.cells
  clear wb wb0 B0 S0 b1 h
  go_wp2_with (go_at_call 64; refine (winIn_yes id 0 1073741824 _ h0 h1).mono ?_; rintro e w2 ⟨rfl, rfl⟩)
  refine (idsOf_any t s _ hl hh).mono ?_
  rintro e w2 ⟨a, cap, rfl, r2, k2, n2, m2, b2⟩
  have HB2 := veil (Below.next (unveil HB) b2)
  have hln := length_idsTo t s 8
  clear HB b2 c0 c1 c2 c3 c4 c5 c6 c7 c8
  generalize idsTo t s 8 = l at r2 k2 hm hln ⊢
  obtain ⟨n, hn⟩ : ∃ n, n = l.length := ⟨_, rfl⟩
  rw [← hn] at r2 k2 hln ⊢
  have HN := veil hn
  clear hn
  go_wp2_with fail
  go_loopw [8] (fun i wr => ∃ k : Nat, k ≤ n ∧ i = .int .i64 k ∧ NoneOf l id k ∧ wr = w2) (fun i _ => n - (intOf i).toNat)
  case atStart => exact ⟨0, by omega, rfl, fun j hj => by omega, rfl⟩
  case round =>
    obtain ⟨k, hk, rfl, hno, rfl⟩ := hrel
    have HO := hno
    clear hno
    by_cases hlt : k < n
    · obtain ⟨b', off, rfl⟩ := r2.form (by omega)
      have hx := r2.at k hlt
      by_cases hid : l.getD k 0 = id
      · have hb : b = true := (unveil hm).1 (by rw [← hid]; exact mem_getD (by have := unveil HN; omega))
        rw [hid] at hx
        have e1 : (id == id) = true := by simp
        clear hid
        subst hb
        go_wp2
        go_ret2
        exact ⟨rfl, unveil HB2⟩
      · have e1 : (l.getD k 0 == id) = false := by simpa using hid
        have HO' : NoneOf l id (k + 1) := (by
          intro j hj
          rcases Nat.lt_or_ge j k with h | h
          · exact HO j h
          · obtain rfl : j = k := by omega
            exact hid)
        clear hid
        generalize l.getD k 0 = x at hx e1
        go_wp2
        go_roundw
        case rel => exact ⟨k + 1, by omega, by go_num, HO', by first | rfl | trivial⟩
        case measure => simp [intOf]; omega
    · obtain rfl : k = n := by omega
      have hb : b = false := by
        cases b
        · rfl
        · obtain ⟨j, hj, he⟩ := List.mem_iff_getElem.1 ((unveil hm).2 rfl)
          exact absurd (by rw [List.getD_eq_getElem?_getD, List.getElem?_eq_getElem hj]; simpa using he) (HO j (by have := unveil HN; omega))
      subst hb
      go_wp2
      go_ret2
      exact ⟨rfl, unveil HB2⟩
end Go.Proofs.YtmhdpbmjhijhkaaGreat
