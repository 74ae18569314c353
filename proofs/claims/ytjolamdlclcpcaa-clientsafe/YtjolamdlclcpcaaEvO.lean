/- Lists of events as rows, without berths. -/
import Derived.Test.YtjolamdlclcpcaaQkD
import Derived.Test.YtjolamdlclcpcaaHsA
namespace Go.Proofs.Ytjolamdlclcpcaa
open Go.RowKit

/-- events out of a row of numbers. -/
def evsOf (D : List Int) : Nat → List Ev
  | 0 => []
  | n + 1 => evsOf D n ++ [⟨D.getD (6 * n) 0, D.getD (6 * n + 1) 0, D.getD (6 * n + 2) 0, D.getD (6 * n + 3) 0, D.getD (6 * n + 4) 0, D.getD (6 * n + 5) 0⟩]
theorem evsOf_len (D : List Int) : ∀ n, (evsOf D n).length = n
  | 0 => rfl
  | n + 1 => by rw [evsOf, List.length_append, evsOf_len D n]; rfl
theorem evFlat_evsOf (D : List Int) : ∀ n, 6 * n ≤ D.length → evFlat (evsOf D n) = D.take (6 * n)
  | 0, _ => by simp [evsOf, evFlat]
  | n + 1, h => by
    rw [evsOf, evFlat_snoc, evFlat_evsOf D n (by omega), take_six D n (by omega)]
    rfl
theorem evFlat_of_row {w : World} {a : Option Addr} {n : Nat} {D : List Int} (h : RowK .i64 w a (6 * n) D) : RowK .i64 w a (6 * (evsOf D n).length) (evFlat (evsOf D n)) := by
  rw [evsOf_len, evFlat_evsOf D n (by have := h.len_eq; omega), List.take_of_length_le (by have := h.len_eq; omega)]
  exact h
/-- a row of events of one's own. -/
theorem own_events {w w' : World} {v : Value} {es : List Ev} {D : List Int} (hw : ∀ u ∈ D, (Lit.int .i64 u).wf = true) (hD : D = evFlat es) (o : w'.ownsRow w.heap.size 37 6 v es.length (D.map (Value.int .i64))) :
    ∃ a c, v = .slice a es.length c ∧ RowK .i64 w' a (6 * es.length) (evFlat es) ∧ es.length ≤ c ∧ (a = none → c = 0) ∧ (∀ x, a = some x → w.heap.size ≤ x.block) := by
  subst hD
  obtain ⟨a, c, e, r, l, _, n, x⟩ := RowK.ofMany o hw
  exact ⟨a, c, e, r, l, n, x⟩
end Go.Proofs.Ytjolamdlclcpcaa
