/- The walk of berthshiftlaw.HistoryAnswers. -/
import Derived.Test.YtlfecmkpafgcmaaLsAz
import Derived.Test.YtlfecmkpafgcmaaEvOz
namespace Go.Proofs.Ytlfecmkpafgcmaa
open Go.RowKit

set_option maxRecDepth 20000 in
set_option maxHeartbeats 8000000 in
theorem walk_HistoryAnswers (w : World) (a : Option Addr) (len cap : Nat) (D : List Int) (h : RowK .i64 w a (6 * len) D) (hlc : len ≤ cap) (_ : a = none → cap = 0) (z : cap * 48 ≤ 140737488351232) :
    Calls Try.prog 3 #[.slice a len cap] w fun e w' => e = .returned (.bool true) ∧ Below w.heap.size w w' := by
  obtain ⟨es, hes⟩ : ∃ es, es = evsOf D len := ⟨_, rfl⟩
  have hl : len = es.length := by rw [hes, evsOf_len]
  have hr : RowK .i64 w a (6 * es.length) (evFlat es) := by rw [hes]; exact evFlat_of_row h
  clear h hes
  subst hl
  have hs : es.length * 48 ≤ 140737488351232 := by omega
  have HC := veil (eventsCopy_any a es.length cap (evFlat es) w hr hs)
  have hwf := veil hr.wf
  have HR := veil hr
  have HEv : Hid (Calls Try.prog 7 #[.slice a es.length cap] w fun e w' => ∃ a2 c2, e = .returned (.slice a2 es.length c2) ∧ RowK .i64 w' a2 (6 * es.length) (evFlat es) ∧ Below w.heap.size w w') := veil (by
    clear hr HR
    go_enter Try.func7, Try.ntmps7
    go_wp2_with (go_at_call 24; refine (unveil HC).mono ?_; rintro e W1 ⟨v1, rfl, o1, b1⟩; obtain ⟨a2, c2, rfl, r2, _⟩ := own_events (unveil hwf) rfl o1; clear HC o1)
    go_ret
    exact ⟨a2, c2, rfl, r2, b1⟩)
  clear hr HC
  go_enter Try.func3, Try.ntmps3
  go_upto_region 2 with (first
    | (go_at_call 7; refine (unveil HEv).mono ?_; rintro e W1 ⟨a2, c2, rfl, r2, b1⟩; have HA := veil (answers_any es a2 c2 W1 r2); clear HEv r2)
    | (go_at_call 6; refine (unveil HA).mono ?_; rintro e W2 ⟨va, er, rfl, av, b2⟩; have HAv := veil av; have HB2 := veil (Below.next b1 b2); clear HA av b1 b2))
  have HD := veil (answersOf_any es a cap W2 ((unveil HR).below (unveil HB2)))
  go_upto_region 3 with (go_at_call 8; refine (unveil HD).mono ?_; rintro e W3 ⟨vb, er', rfl, av', b3⟩; obtain ⟨rfl, n, p, p', c, c', A, hn, rfl, rfl, ra, rb⟩ := Av.same (unveil HAv) av' b3 (Below.refl _ _); have HB3 := veil (Below.next (unveil HB2) b3); have HS := veil (sameAnswersL_yes p p' n c c' A W3 ra rb hn); clear HD av' ra rb b3)
  go_wp2_with (go_at_call 9; refine (unveil HS).mono ?_; rintro e W4 ⟨rfl, m, rfl⟩; clear HS)
  go_ret
  exact ⟨by first | rfl | simp, Below.next (unveil HB3) (belowN _ _)⟩
end Go.Proofs.Ytlfecmkpafgcmaa
