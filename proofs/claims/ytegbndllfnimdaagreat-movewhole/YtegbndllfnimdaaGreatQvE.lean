/- queue.Do at a queue that may be, with whatever event. -/
import Derived.Test.YtegbndllfnimdaaGreatQkB
namespace Go.Proofs.YtegbndllfnimdaaGreat
open Go.RowKit

def An.zero : An := ⟨0, 0, 0, 0⟩
/-- what Do answers of a queue that may be. -/
inductive DoR (s : St) (v : Ev) : St → An → Bool → Int → Prop
  | step {s' : St} {an : An} {ch : Bool} (hv : v.Ok) (st : Step s v s' an ch) : DoR s v s' an ch 0
  | form (er : Int) (hv : eventFault v.k v.p v.i v.b v.he v.hn = er) (h : ¬ er = 0) : DoR s v St.zero An.zero false er
theorem DoR.err {s s' : St} {v : Ev} {an : An} {ch : Bool} {er : Int} (h : DoR s v s' an ch er) : er = 0 ∨ (¬ er = 0 ∧ ch = false) := by
  cases h with
  | step => exact .inl rfl
  | form _ _ h => exact .inr ⟨h, rfl⟩
theorem do_any (s : St) (ra la : Option Addr) (rc lc : Nat) (ws : Nat → Value) (v : Ev) (w : World) (hR : RowK .i64 w ra (2 * s.rn) s.R) (hL : RowK .i64 w la (4 * s.ln) s.L) (nR : ra = none → rc = 0) (nL : la = none → lc = 0) (hW : Wins ws s.wt s.wz) (h : s.Ok) :
    Calls Tryz.prog 14 #[qVal s.ep s.nx s.gv (.slice ra s.rn rc) (.slice la s.ln lc) ws, evIn v] w fun e w' => ∃ (s' : St) (an : An) (ch : Bool) (er : Int) (x : Value), e = .returned (.tuple #[x, anOf an, .bool ch, .int .i64 er]) ∧ DoR s v s' an ch er ∧ QOut w w' s' x ∧ Below w.heap.size w w' := by
  by_cases hv : v.Ok
  · refine (do_step s ra la rc lc ws v w hR hL nR nL hW h hv).mono ?_
    rintro e w' ⟨s', an, ch, x, rfl, st, q, b⟩
    exact ⟨s', an, ch, 0, x, rfl, .step hv st, q, b⟩
  · refine (do_form s ra la rc lc ws v w hR hL hW h _ hv (veil rfl)).mono ?_
    rintro e w' ⟨rfl, b⟩
    exact ⟨St.zero, An.zero, false, _, _, rfl, .form _ rfl hv, ⟨⟨none, 0, none, 0, zeroW, rfl, RowK.nil _ _ _, RowK.nil _ _ _, Nat.le_refl _, Nat.le_refl _, fun _ => rfl, fun _ => rfl, zeroWins, fun x hx => (by cases hx), fun x hx => (by cases hx)⟩⟩, b⟩

end Go.Proofs.YtegbndllfnimdaaGreat
