/- The walk of berthshiftkeep.count: how many events are of a kind. -/
import Derived.Test.YtjolamdlclcpcaaQkC
namespace Go.Proofs.Ytjolamdlclcpcaa
open Go.RowKit

/-- of the first i events so many are of a kind. -/
def cntTo (D : List Int) (k : Int) : Nat → Nat
  | 0 => 0
  | i + 1 => cntTo D k i + if D.getD (6 * i) 0 = k then 1 else 0
theorem cntTo_le (D : List Int) (k : Int) : ∀ i, cntTo D k i ≤ i
  | 0 => Nat.le_refl _
  | i + 1 => by
    have := cntTo_le D k i
    unfold cntTo
    split <;> omega
theorem evFlat_at : ∀ (es : List Ev) (i : Nat) (h : i < es.length) (j : Nat), j < 6 → (evFlat es).getD (6 * i + j) 0 = (evCells es[i]).getD j 0
  | [], _, h, _, _ => absurd h (Nat.not_lt_zero _)
  | v :: es, 0, _, j, hj => by
    have hl : (evCells v).length = 6 := rfl
    show (evCells v ++ evFlat es).getD (6 * 0 + j) 0 = _
    rw [Nat.mul_zero, Nat.zero_add, getD_left _ _ _ (by omega)]
    rfl
  | v :: es, i + 1, h, j, hj => by
    have hl : (evCells v).length = 6 := rfl
    show (evCells v ++ evFlat es).getD (6 * (i + 1) + j) 0 = _
    rw [show 6 * (i + 1) + j = 6 + (6 * i + j) by omega, getD_right _ _ _ 6 hl, evFlat_at es i (by simpa using h) j hj]
    rfl
theorem evFlat_len (es : List Ev) : (evFlat es).length = 6 * es.length := by
  induction es with
  | nil => rfl
  | cons v es ih =>
    show (evCells v ++ evFlat es).length = _
    rw [List.length_append, ih]
    show 6 + _ = 6 * (es.length + 1)
    omega
theorem cntTo_es (es : List Ev) (k : Int) : ∀ i, i ≤ es.length → cntTo (evFlat es) k i = cnt (es.take i) k
  | 0, _ => by simp [cntTo, cnt]
  | i + 1, h => by
    have e := evFlat_at es i (by omega) 0 (by omega)
    rw [Nat.add_zero] at e
    rw [List.take_succ_eq_append_getElem (show i < es.length by omega), cnt_snoc]
    unfold cntTo
    rw [cntTo_es es k i (by omega), e]
    rfl
theorem cntTo_all (es : List Ev) (k : Int) : cntTo (evFlat es) k es.length = cnt es k := by
  rw [cntTo_es es k es.length (Nat.le_refl _), List.take_length]
end Go.Proofs.Ytjolamdlclcpcaa
