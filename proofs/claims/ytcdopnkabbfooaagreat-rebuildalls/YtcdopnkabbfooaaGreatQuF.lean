/- The walk of queue.Check. -/
import Derived.Test.YtcdopnkabbfooaaGreatQuE
namespace Go.Proofs.YtcdopnkabbfooaaGreat
open Go.RowKit

/-- Epoch, Next, Given and how many messages there are, within their bounds. -/
def countB (ep nx gv : Int) (rn ln : Nat) : Bool := inR ep 1048576 && inR nx 1073741824 && inR gv 1073741824 && decide (rn + ln ≤ 500)
structure CountOk (ep nx gv : Int) (rn ln : Nat) : Prop where
  e0 : 0 ≤ ep
  e1 : ep ≤ 1048576
  n0 : 0 ≤ nx
  n1 : nx ≤ 1073741824
  g0 : 0 ≤ gv
  g1 : gv ≤ 1073741824
  sz : rn + ln ≤ 500
theorem countB_iff {ep nx gv : Int} {rn ln : Nat} : countB ep nx gv rn ln = true ↔ CountOk ep nx gv rn ln := by
  unfold countB
  rw [Bool.and_eq_true, Bool.and_eq_true, Bool.and_eq_true, inR_iff, inR_iff, inR_iff, decide_eq_true_eq]
  exact ⟨fun ⟨⟨⟨⟨a, b⟩, c, d⟩, e, f⟩, g⟩ => ⟨a, b, c, d, e, f, g⟩, fun ⟨a, b, c, d, e, f, g⟩ => ⟨⟨⟨⟨a, b⟩, c, d⟩, e, f⟩, g⟩⟩
/-- queues that may be. -/
structure QueueOk (ep nx gv : Int) (R : List Int) (rn : Nat) (L : List Int) (ln : Nat) (wt : Nat → Int) (wz : Nat → Nat → Bool) : Prop where
  count : CountOk ep nx gv rn ln
  wins : ∀ p, p < 4 → WinOk (wt p) (wz p)
  hold : HoldOk nx R rn L ln
  lease : ∀ i, i < ln → LeaseOk ep gv L i

set_option maxRecDepth 20000 in
set_option maxHeartbeats 4000000 in
theorem qcheck_bool (ep nx gv : Int) (ra la : Option Addr) (rn rc ln lc : Nat) (R L : List Int) (ws : Nat → Value) (wt : Nat → Int) (wz : Nat → Nat → Bool) (w : World) (hR : RowK .i64 w ra (2 * rn) R) (hL : RowK .i64 w la (4 * ln) L) (hW : Wins ws wt wz)
    (hs : rn + ln ≤ 9223372036854775807) (B1 B2 B3 B4 : Bool) (h1 : B1 = countB ep nx gv rn ln) (h2 : B1 = true → B2 = winsB wt wz) (h3 : B1 = true → B3 = holdB nx R rn L ln) (h4 : B1 = true → B4 = leaseB ep gv L ln) :
    Calls Tryz.prog 85 #[qVal ep nx gv (.slice ra rn rc) (.slice la ln lc) ws] w fun e w' => e = .returned (.int .i64 (if B1 && B2 && B3 && B4 then 0 else 6)) ∧ Below w.heap.size w w' := by
  have hRS := veil hR
  have hLS := veil hL
  have q0 := qBlock.new w ep nx gv (.slice ra rn rc) (.slice la ln lc) ws
  have hcnt := mayCount_any ep nx gv ra la rn rc ln lc ws (w.alloc (.cells (qCells ep nx gv (.slice ra rn rc) (.slice la ln lc) ws) 92)) hs
  rw [show (inR ep 1048576 && inR nx 1073741824 && inR gv 1073741824 && decide (rn + ln ≤ 500)) = B1 from h1.symm] at hcnt
  have hrem : ∀ w1, Calls Tryz.prog 93 _ w1 _ := fun w1 => mayRemember_any ep nx gv (.slice ra rn rc) (.slice la ln lc) ws wt wz w1 hW
  cases B1 with
  | false =>
    clear hR hL hrem h1 h2 h3 h4
    go_enter Tryz.func85, Tryz.ntmps85
    go_wp2_with (first
      | (refine q_loads _ rfl rfl rfl (by assumption) ?_)
      | (go_at_call 92; refine hcnt.mono ?_; rintro e w1 ⟨rfl, b1⟩))
    go_ret
    exact ⟨rfl, below1t b1⟩
  | true =>
    have hok := countB_iff.1 h1.symm
    rw [← h2 rfl] at hrem
    cases B2 with
    | false =>
      clear hR hL h1 h2 h3 h4 hok
      go_enter Tryz.func85, Tryz.ntmps85
      go_wp2_with (first
        | (refine q_loads _ rfl rfl rfl (by assumption) ?_)
        | (go_at_call 92; refine hcnt.mono ?_; rintro e w1 ⟨rfl, b1⟩; have q1 := q0.next b1)
        | (go_at_call 93; refine (hrem _).mono ?_; rintro e w2 ⟨rfl, b2⟩))
      go_ret
      exact ⟨rfl, Below.next (below1t b1) b2⟩
    | true =>
      have hhold : ∀ w1, Below w.heap.size w w1 → Calls Tryz.prog 94 _ w1 _ := fun w1 b => mayHold_any ep nx gv ra la rn rc ln lc R L ws w1 (hR.below b) (hL.below b) hok.sz hok.n0 hok.n1
      have hlease : ∀ w1, Below w.heap.size w w1 → Calls Tryz.prog 95 _ w1 _ := fun w1 b => mayLease_any ep nx gv (.slice ra rn rc) la ln lc L ws w1 hok.g0 hok.g1 (hL.below b) (by omega)
      rw [← h3 rfl] at hhold
      rw [← h4 rfl] at hlease
      clear hR hL hok h1 h2 h3 h4
      have HH := veil hhold
      have HL := veil hlease
      clear hhold hlease
      cases B3 with
      | false =>
        go_enter Tryz.func85, Tryz.ntmps85
        go_wp2_with (first
          | (refine q_loads _ rfl rfl rfl (by assumption) ?_)
          | (go_at_call 92; refine hcnt.mono ?_; rintro e w1 ⟨rfl, b1⟩; have q1 := q0.next b1)
          | (go_at_call 93; refine (hrem _).mono ?_; rintro e w2 ⟨rfl, b2⟩; have q2 := q1.next b2)
          | (go_at_call 94; refine (unveil HH _ (Below.next (below1t b1) b2)).mono ?_; rintro e w3 ⟨rfl, b3⟩))
        go_ret
        exact ⟨rfl, Below.next (Below.next (below1t b1) b2) b3⟩
      | true =>
        cases B4 with
        | false =>
          go_enter Tryz.func85, Tryz.ntmps85
          go_wp2_with (first
            | (refine q_loads _ rfl rfl rfl (by assumption) ?_)
            | (go_at_call 92; refine hcnt.mono ?_; rintro e w1 ⟨rfl, b1⟩; have q1 := q0.next b1)
            | (go_at_call 93; refine (hrem _).mono ?_; rintro e w2 ⟨rfl, b2⟩; have q2 := q1.next b2)
            | (go_at_call 94; refine (unveil HH _ (Below.next (below1t b1) b2)).mono ?_; rintro e w3 ⟨rfl, b3⟩; have q3 := q2.next b3)
            | (go_at_call 95; refine (unveil HL _ (Below.next (Below.next (below1t b1) b2) b3)).mono ?_; rintro e w4 ⟨rfl, b4⟩))
          go_ret
          exact ⟨rfl, Below.next (Below.next (Below.next (below1t b1) b2) b3) b4⟩
        | true =>
          go_enter Tryz.func85, Tryz.ntmps85
          go_wp2_with (first
            | (refine q_loads _ rfl rfl rfl (by assumption) ?_)
            | (go_at_call 92; refine hcnt.mono ?_; rintro e w1 ⟨rfl, b1⟩; have q1 := q0.next b1)
            | (go_at_call 93; refine (hrem _).mono ?_; rintro e w2 ⟨rfl, b2⟩; have q2 := q1.next b2)
            | (go_at_call 94; refine (unveil HH _ (Below.next (below1t b1) b2)).mono ?_; rintro e w3 ⟨rfl, b3⟩; have q3 := q2.next b3)
            | (go_at_call 95; refine (unveil HL _ (Below.next (Below.next (below1t b1) b2) b3)).mono ?_; rintro e w4 ⟨rfl, b4⟩))
          go_ret
          exact ⟨rfl, Below.next (Below.next (Below.next (below1t b1) b2) b3) b4⟩

theorem queueOk_bools {ep nx gv : Int} {R : List Int} {rn : Nat} {L : List Int} {ln : Nat} {wt : Nat → Int} {wz : Nat → Nat → Bool} :
    (countB ep nx gv rn ln && winsB wt wz && holdB nx R rn L ln && leaseB ep gv L ln) = true ↔ QueueOk ep nx gv R rn L ln wt wz := by
  rw [Bool.and_eq_true, Bool.and_eq_true, Bool.and_eq_true, countB_iff, winsB_iff, holdB_iff, leaseB_iff]
  exact ⟨fun ⟨⟨⟨a, b⟩, c⟩, d⟩ => ⟨a, b, c, d⟩, fun ⟨a, b, c, d⟩ => ⟨⟨⟨a, b⟩, c⟩, d⟩⟩
theorem qcheck_yes (ep nx gv : Int) (ra la : Option Addr) (rn rc ln lc : Nat) (R L : List Int) (ws : Nat → Value) (wt : Nat → Int) (wz : Nat → Nat → Bool) (w : World) (hR : RowK .i64 w ra (2 * rn) R) (hL : RowK .i64 w la (4 * ln) L) (hW : Wins ws wt wz) (h : QueueOk ep nx gv R rn L ln wt wz) :
    Calls Tryz.prog 85 #[qVal ep nx gv (.slice ra rn rc) (.slice la ln lc) ws] w fun e w' => e = .returned (.int .i64 0) ∧ Below w.heap.size w w' := by
  have := qcheck_bool ep nx gv ra la rn rc ln lc R L ws wt wz w hR hL hW (by have := h.count.sz; omega) _ _ _ _ rfl (fun _ => rfl) (fun _ => rfl) (fun _ => rfl)
  rwa [queueOk_bools.2 h, if_pos rfl] at this
theorem qcheck_no (ep nx gv : Int) (ra la : Option Addr) (rn rc ln lc : Nat) (R L : List Int) (ws : Nat → Value) (wt : Nat → Int) (wz : Nat → Nat → Bool) (w : World) (hR : RowK .i64 w ra (2 * rn) R) (hL : RowK .i64 w la (4 * ln) L) (hW : Wins ws wt wz) (hs : rn + ln ≤ 9223372036854775807) (h : ¬ QueueOk ep nx gv R rn L ln wt wz) :
    Calls Tryz.prog 85 #[qVal ep nx gv (.slice ra rn rc) (.slice la ln lc) ws] w fun e w' => e = .returned (.int .i64 6) ∧ Below w.heap.size w w' := by
  have := qcheck_bool ep nx gv ra la rn rc ln lc R L ws wt wz w hR hL hW hs _ _ _ _ rfl (fun _ => rfl) (fun _ => rfl) (fun _ => rfl)
  rwa [if_neg (fun h' => h (queueOk_bools.1 h'))] at this
end Go.Proofs.YtcdopnkabbfooaaGreat
