/- queue.Do and the document's QueueDone, at whatever queue and event. -/
import Derived.Test.YtbhlpiomoookcaaRqJz
import Derived.Test.YtbhlpiomoookcaaKkAll
namespace Go.Proofs.Ytbhlpiomoookcaa
open Go.RowKit

/-- what both answer. -/
def DoZ (s : St) (v : Ev) (s' : St) (an : An) (ch : Bool) (er : Int) : Prop := (s.Ok ∧ DoR s v s' an ch er) ∨ (¬ s.Ok ∧ s' = St.zero ∧ an = An.zero ∧ ch = false ∧ er = 6)
theorem DoZ.det {s s1 s2 : St} {v : Ev} {a1 a2 : An} {c1 c2 : Bool} {e1 e2 : Int} (lr : s.R.length = 2 * s.rn) (ll : s.L.length = 4 * s.ln) (x : DoZ s v s1 a1 c1 e1) (y : DoZ s v s2 a2 c2 e2) : s1 = s2 ∧ a1 = a2 ∧ c1 = c2 ∧ e1 = e2 := by
  rcases x with ⟨h, x⟩ | ⟨h, rfl, rfl, rfl, rfl⟩
  · rcases y with ⟨_, y⟩ | ⟨h', _⟩
    · exact DoR.det ⟨h, lr, ll⟩ x y
    · exact absurd h h'
  · rcases y with ⟨h', _⟩ | ⟨_, rfl, rfl, rfl, rfl⟩
    · exact absurd h' h
    · exact ⟨rfl, rfl, rfl, rfl⟩
theorem do_all (s : St) (ra la : Option Addr) (rc lc : Nat) (ws : Nat → Value) (v : Ev) (w : World) (hR : RowK .i64 w ra (2 * s.rn) s.R) (hL : RowK .i64 w la (4 * s.ln) s.L) (nR : ra = none → rc = 0) (nL : la = none → lc = 0) (hW : Wins ws s.wt s.wz) (hs : s.rn + s.ln ≤ 9223372036854775807) :
    Calls Try.prog 13 #[qVal s.ep s.nx s.gv (.slice ra s.rn rc) (.slice la s.ln lc) ws, evIn v] w fun e w' => ∃ (s' : St) (an : An) (ch : Bool) (er : Int) (x : Value), e = .returned (.tuple #[x, anOf an, .bool ch, .int .i64 er]) ∧ DoZ s v s' an ch er ∧ QOut w w' s' x ∧ Below w.heap.size w w' := by
  by_cases h : s.Ok
  · refine (do_any s ra la rc lc ws v w hR hL nR nL hW h).mono ?_
    rintro e w' ⟨s', an, ch, er, x, rfl, d, q, b⟩
    exact ⟨s', an, ch, er, x, rfl, .inl ⟨h, d⟩, q, b⟩
  · refine (do_state s ra la rc lc ws v w hR hL hW hs h).mono ?_
    rintro e w' ⟨rfl, b⟩
    exact ⟨St.zero, An.zero, false, 6, _, rfl, .inr ⟨h, rfl, rfl, rfl, rfl⟩, ⟨⟨none, 0, none, 0, zeroW, rfl, RowK.nil _ _ _, RowK.nil _ _ _, Nat.le_refl _, Nat.le_refl _, fun _ => rfl, fun _ => rfl, zeroWins, fun x hx => (by cases hx), fun x hx => (by cases hx)⟩⟩, b⟩
theorem queueDone_all (s : St) (ra la : Option Addr) (rc lc : Nat) (ws : Nat → Value) (v : Ev) (w : World) (hR : RowK .i64 w ra (2 * s.rn) s.R) (hL : RowK .i64 w la (4 * s.ln) s.L) (hW : Wins ws s.wt s.wz) (hs : s.rn + s.ln ≤ 9223372036854775807) :
    Calls Try.prog 14 #[qVal s.ep s.nx s.gv (.slice ra s.rn rc) (.slice la s.ln lc) ws, evIn v] w fun e w' => ∃ (s' : St) (an : An) (ch : Bool) (er : Int) (x : Value), e = .returned (.tuple #[x, anOf an, .bool ch, .int .i64 er]) ∧ DoZ s v s' an ch er ∧ QOut w w' s' x ∧ Below w.heap.size w w' := by
  by_cases h : s.Ok
  · refine (queueDone_any s ra la rc lc ws v w hR hL hW h).mono ?_
    rintro e w' ⟨s', an, ch, er, x, rfl, d, q, b⟩
    exact ⟨s', an, ch, er, x, rfl, .inl ⟨h, d⟩, q, b⟩
  · refine (queueDone_state s ra la rc lc ws v w hR hL hW hs h).mono ?_
    rintro e w' ⟨rfl, b⟩
    exact ⟨St.zero, An.zero, false, 6, _, rfl, .inr ⟨h, rfl, rfl, rfl, rfl⟩, ⟨⟨none, 0, none, 0, zeroW, rfl, RowK.nil _ _ _, RowK.nil _ _ _, Nat.le_refl _, Nat.le_refl _, fun _ => rfl, fun _ => rfl, zeroWins, fun x hx => (by cases hx), fun x hx => (by cases hx)⟩⟩, b⟩

theorem Step.size {s s' : St} {v : Ev} {an : An} {ch : Bool} (h : Step s v s' an ch) {m : Nat} (hr : s.rn + s.ln ≤ m) : s'.rn + s'.ln ≤ m + 1 := by
  cases h <;> (try dsimp only) <;> omega
theorem DoZ.size {s s' : St} {v : Ev} {an : An} {ch : Bool} {er : Int} (h : DoZ s v s' an ch er) (_ : s.rn ≤ 9000000000000) (_ : s.ln ≤ 9000000000000) : s'.rn ≤ 9000000000000 ∧ s'.ln ≤ 9000000000000 := by
  rcases h with ⟨ok, h⟩ | ⟨_, rfl, _⟩
  · cases h with
    | step hv st => have := st.size ok.count.sz; omega
    | form _ _ _ => exact ⟨by decide, by decide⟩
  · exact ⟨by decide, by decide⟩
/-- a queue and an answer in two new boxes. -/
theorem dq_made {W5 W6 W7 : World} {s : St} {a1 : Option Addr} {c1 : Nat} {a2 : Option Addr} {c2 : Nat} {ws : Nat → Value} (c he no bd : Int) (r1 : RowK .i64 W5 a1 (2 * s.rn) s.R) (r2 : RowK .i64 W5 a2 (4 * s.ln) s.L) (n1 : a1 = none → c1 = 0) (n2 : a2 = none → c2 = 0) (hW : Wins ws s.wt s.wz)
    (hs : W5.heap.size < W6.heap.size) (b6 : Below W5.heap.size W5 W6) (q7 : qBlock W7 W5.heap.size s.ep s.nx s.gv (.slice a1 s.rn c1) (.slice a2 s.ln c2) ws) (t7 : Turned W5.heap.size (W6.alloc (.cells #[.int .i64 0, .int .i64 0, .int .i64 0, .int .i64 0] 37)) W7) :
    ∃ W, W = (((W7.setCell ⟨W6.heap.size, 0, none⟩ (.int .i64 c)).setCell ⟨W6.heap.size, 1, none⟩ (.int .i64 he)).setCell ⟨W6.heap.size, 2, none⟩ (.int .i64 no)).setCell ⟨W6.heap.size, 3, none⟩ (.int .i64 bd) ∧ Bx W W5.heap.size s a1 c1 a2 c2 ws ∧ ansBlock W W6.heap.size c he no bd ∧ Below W5.heap.size W5 W := by
  have y7 := (ansBlock.new W6 0 0 0 0).turned t7 (by omega)
  have T8 := ans_turned W7 W6.heap.size c he no bd
  have b7 := Below.next b6 (below1 W6 (.cells #[.int .i64 0, .int .i64 0, .int .i64 0, .int .i64 0] 37))
  have B7 := t7.under b7 (Nat.le_refl _)
  have r17 := t7.row (r1.below b7) (fun x hx h0 => by have := r1.blk_lt x hx h0; omega)
  have r27 := t7.row (r2.below b7) (fun x hx h0 => by have := r2.blk_lt x hx h0; omega)
  exact ⟨_, rfl, ⟨T8.queue q7 (by omega), T8.row r17 (fun x hx h0 => by have := r1.blk_lt x hx h0; omega), T8.row r27 (fun x hx h0 => by have := r2.blk_lt x hx h0; omega), n1, n2, hW⟩, y7.store c he no bd, T8.under B7 (by omega)⟩
end Go.Proofs.Ytbhlpiomoookcaa
