/- The walk of berthshiftlaw.HistoryReplays. -/
import Derived.Test.YtbhlpiomoookcaaRtAz
import Derived.Test.YtbhlpiomoookcaaLsHz
import Derived.Test.YtbhlpiomoookcaaRbL
import Derived.Test.YtbhlpiomoookcaaOpAll
namespace Go.Proofs.Ytbhlpiomoookcaa
open Go.RowKit

/-- a queue in a new box. -/
theorem bx_made {W5 W6 W7 : World} {s : St} {a1 : Option Addr} {c1 : Nat} {a2 : Option Addr} {c2 : Nat} {ws : Nat → Value} (r1 : RowK .i64 W5 a1 (2 * s.rn) s.R) (r2 : RowK .i64 W5 a2 (4 * s.ln) s.L) (n1 : a1 = none → c1 = 0) (n2 : a2 = none → c2 = 0) (hW : Wins ws s.wt s.wz)
    (b6 : Below W5.heap.size W5 W6) (q7 : qBlock W7 W5.heap.size s.ep s.nx s.gv (.slice a1 s.rn c1) (.slice a2 s.ln c2) ws) (t7 : Turned W5.heap.size W6 W7) :
    Bx W7 W5.heap.size s a1 c1 a2 c2 ws ∧ Below W5.heap.size W5 W7 :=
  ⟨⟨q7, t7.row (r1.below b6) (fun x hx h0 => by have := r1.blk_lt x hx h0; omega), t7.row (r2.below b6) (fun x hx h0 => by have := r2.blk_lt x hx h0; omega), n1, n2, hW⟩, t7.under b6 (Nat.le_refl _)⟩
theorem Rv.small {es : List Ev} {s : St} {er : Int} (h : Rv es s er) : s.rn + s.ln ≤ 500 := by
  cases h with
  | size => decide
  | form => decide
  | told ans hl ht => exact ht.wf.ok.count.sz
set_option maxRecDepth 20000 in
set_option maxHeartbeats 8000000 in
theorem walk_HistoryReplays (w : World) (a : Option Addr) (len cap : Nat) (D : List Int) (h : RowK .i64 w a (6 * len) D) (hlc : len ≤ cap) (_ : a = none → cap = 0) (z : cap * 48 ≤ 140737488351232) :
    Calls Try.prog 4 #[.slice a len cap] w fun e w' => e = .returned (.bool true) ∧ Below w.heap.size w w' := by
  obtain ⟨es, hes⟩ : ∃ es, es = evsOf D len := ⟨_, rfl⟩
  have hl : len = es.length := by rw [hes, evsOf_len]
  have hr : RowK .i64 w a (6 * es.length) (evFlat es) := by rw [hes]; exact evFlat_of_row h
  clear h hes
  subst hl
  have hs : es.length * 48 ≤ 140737488351232 := by omega
  have hm : es.length ≤ 3000000000000 := by omega
  have HC := veil (eventsCopy_any a es.length cap (evFlat es) w hr hs)
  have hwf := veil hr.wf
  have HR := veil hr
  have HEv : Hid (Calls Try.prog 16 #[.slice a es.length cap] w fun e w' => ∃ a2 c2, e = .returned (.slice a2 es.length c2) ∧ RowK .i64 w' a2 (6 * es.length) (evFlat es) ∧ Below w.heap.size w w') := veil (by
    clear hr HR
    go_enter Try.func16, Try.ntmps16
    go_wp2_with (go_at_call 45; refine (unveil HC).mono ?_; rintro e W1 ⟨v1, rfl, o1, b1⟩; obtain ⟨a2, c2, rfl, r2, _⟩ := own_events (unveil hwf) rfl o1; clear HC o1)
    go_ret
    exact ⟨a2, c2, rfl, r2, b1⟩)
  clear hr HC
  go_enter Try.func4, Try.ntmps4
  go_upto_region 2 with (go_at_call 16; refine (unveil HEv).mono ?_; rintro e W1 ⟨a2, c2, rfl, r2, b1⟩; clear HEv)
  have HRp := veil (replay_all es a2 c2 W1 r2)
  go_upto_region 3 with (first
    | (go_at_call 17; refine (unveil HRp).mono ?_; rintro e W2 ⟨x, er, s, rfl, rv, ⟨⟨p1, d1, p2, d2, ws, rfl, t1, t2, _, _, m1, m2, hW, _, _⟩⟩, b2⟩; have HV := veil rv; clear HRp rv)
    | (refine q_alloc 4 rfl rfl rfl ?_; intro W3 z3 b3)
    | (refine q_store (ra := p1) (la := p2) (ws' := ws) _ _ rfl rfl rfl rfl z3 hW ?_; intro W4 q4 t4; obtain ⟨X4, b4⟩ := bx_made t1 t2 m1 m2 hW b3 q4 t4; have B4 := Below.next b1 (Below.next b2 b4); have r4 := r2.below (Below.next b2 b4); have HX4 := veil X4; have HB4 := veil B4; have HR4 := veil r4; clear z3 b3 q4 t4 X4 b4 B4 r4 t1 t2 b1 b2 r2))
  have HRd := veil (replayedOf_any es a cap W4 ((unveil HR).below (unveil HB4)))
  go_upto_region 4 with (first
    | (go_at_call 18; refine (unveil HRd).mono ?_; rintro e W5 ⟨x, er', s', rfl, rv, ⟨⟨p5, d5, p6, d6, vs, rfl, t5, t6, _, _, m5, m6, hV, _, _⟩⟩, b5⟩; obtain ⟨rfl, rfl⟩ := (unveil HV).one rv; clear HRd rv)
    | (refine q_alloc 6 rfl rfl rfl ?_; intro W6 z6 b6)
    | (refine q_store (ra := p5) (la := p6) (ws' := vs) _ _ rfl rfl rfl rfl z6 hV ?_; intro W7 q7 t7; obtain ⟨X7, b7⟩ := bx_made t5 t6 m5 m6 hV b6 q7 t7; have B7 := Below.next b5 b7; have X4 := (unveil HX4).next B7; have r7 := (unveil HR4).below B7; have HX7 := veil X7; have HX4' := veil X4; have HR7 := veil r7; have HB7 := veil (Below.next (unveil HB4) B7); clear z6 b6 q7 t7 X7 b7 B7 X4 r7 t5 t6 b5 HX4 HR4))
  have hsz := (unveil HV).small
  have HS1 := veil (sameBx (unveil HX4') (unveil HX7) (by omega) (by omega))
  have qa := (unveil HX4').q
  have qb := (unveil HX7).q
  go_wp2_with (first
    | (refine q_loads _ rfl rfl rfl qa ?_)
    | (refine q_loads _ rfl rfl rfl qb ?_)
    | (go_at_call 15; refine (unveil HS1).mono ?_; rintro e W8 ⟨rfl, b8⟩; have HB8 := veil (Below.next (unveil HB7) b8); have HS2 := veil (sameEventsL_below a2 a es.length c2 cap (evFlat es) W8 ((unveil HR7).below b8) ((unveil HR).below (unveil HB8)) hm); clear HS1 qa qb b8)
    | (go_at_call 19; refine (unveil HS2).mono ?_; rintro e W9 ⟨rfl, b9⟩; clear HS2))
  go_ret
  exact ⟨by first | rfl | simp, Below.next (unveil HB8) b9⟩
end Go.Proofs.Ytbhlpiomoookcaa
