/- A window of a desk stored anew. -/
import Derived.Test.YtcdopnkabbfooaaGreatQuR
import Derived.Test.YtcdopnkabbfooaaGreatWdE
namespace Go.Proofs.YtcdopnkabbfooaaGreat
open Go.RowKit

def wput (ws : Nat → Value) (j : Nat) (v : Value) : Nat → Value := fun i => if i = j then v else ws i
theorem qCells_wset (ep nx gv : Int) (r l : Value) (ws : Nat → Value) (j : Nat) (v : Value) (h : j < 36) : (qCells ep nx gv r l ws).set! (5 + j) v = qCells ep nx gv r l (wput ws j v) := by
  apply Array.ext_getElem?
  intro i
  rcases Nat.lt_or_ge i 41 with hi | hi
  · rcases Nat.lt_or_ge i 5 with h5 | h5
    · have a := qCells_heads ep nx gv r l ws
      have b := qCells_heads ep nx gv r l (wput ws j v)
      rw [Array.set!_eq_setIfInBounds, Array.getElem?_setIfInBounds_ne (by omega)]
      obtain ⟨a0, a1, a2, a3, a4⟩ := a
      obtain ⟨b0, b1, b2, b3, b4⟩ := b
      match i, h5 with
      | 0, _ => rw [a0, b0]
      | 1, _ => rw [a1, b1]
      | 2, _ => rw [a2, b2]
      | 3, _ => rw [a3, b3]
      | 4, _ => rw [a4, b4]
    · obtain ⟨m, rfl⟩ : ∃ m, i = 5 + m := ⟨i - 5, by omega⟩
      rw [qCells_ws _ _ _ _ _ _ m (by omega), Array.set!_eq_setIfInBounds]
      by_cases e : m = j
      · subst e
        rw [Array.getElem?_setIfInBounds_self_of_lt (by rw [qCells_size]; omega)]
        simp [wput]
      · rw [Array.getElem?_setIfInBounds_ne (by omega), qCells_ws _ _ _ _ _ _ m (by omega)]
        simp [wput, e]
  · rw [Array.getElem?_eq_none (by rw [Array.set!_eq_setIfInBounds, Array.size_setIfInBounds, qCells_size]; exact hi), Array.getElem?_eq_none (by rw [qCells_size]; exact hi)]
theorem dBlock.wset {w : World} {B : Nat} {ep nx gv : Int} {r l : Value} {ws : Nat → Value} (h : dBlock w B ep nx gv r l ws) (o j : Nat) (v : Value) (ho : o = 5 + j) (hj : j < 36) : dBlock (w.setCell ⟨B, o, none⟩ v) B ep nx gv r l (wput ws j v) := by
  have := heap_set (o := o) (v := v) h
  unfold dBlock
  rw [this, ho, qCells_wset _ _ _ _ _ _ _ _ hj]
/-- a window's nine cells, stored into a desk. -/
abbrev winInto (w : World) (B o : Nat) (t : Int) (s : Nat → Bool) : World :=
  ((((((((w.setCell ⟨B, o, none⟩ (.int .i64 t)).setCell ⟨B, o + 1, none⟩ (.bool (s 0))).setCell ⟨B, o + 2, none⟩ (.bool (s 1))).setCell ⟨B, o + 3, none⟩ (.bool (s 2))).setCell ⟨B, o + 4, none⟩ (.bool (s 3))).setCell ⟨B, o + 5, none⟩ (.bool (s 4))).setCell ⟨B, o + 6, none⟩ (.bool (s 5))).setCell ⟨B, o + 7, none⟩ (.bool (s 6))).setCell ⟨B, o + 8, none⟩ (.bool (s 7))
def wwin (ws : Nat → Value) (P : Nat) (t : Int) (s : Nat → Bool) : Nat → Value :=
  wput (wput (wput (wput (wput (wput (wput (wput (wput ws (9 * P) (.int .i64 t)) (9 * P + 1) (.bool (s 0))) (9 * P + 2) (.bool (s 1))) (9 * P + 3) (.bool (s 2))) (9 * P + 4) (.bool (s 3))) (9 * P + 5) (.bool (s 4))) (9 * P + 6) (.bool (s 5))) (9 * P + 7) (.bool (s 6))) (9 * P + 8) (.bool (s 7))
theorem dBlock.winInto {w : World} {B : Nat} {ep nx gv : Int} {r l : Value} {ws : Nat → Value} (h : dBlock w B ep nx gv r l ws) (P : Nat) (hP : P < 4) (t : Int) (s : Nat → Bool) : dBlock (winInto w B (5 + P * 9) t s) B ep nx gv r l (wwin ws P t s) :=
  ((((((((h.wset _ (9 * P) _ (by omega) (by omega)).wset _ (9 * P + 1) _ (by omega) (by omega)).wset _ (9 * P + 2) _ (by omega) (by omega)).wset _ (9 * P + 3) _ (by omega) (by omega)).wset _ (9 * P + 4) _ (by omega) (by omega)).wset _ (9 * P + 5) _ (by omega) (by omega)).wset _ (9 * P + 6) _ (by omega) (by omega)).wset _ (9 * P + 7) _ (by omega) (by omega)).wset _ (9 * P + 8) _ (by omega) (by omega)
theorem winInto_turned (w : World) (B o : Nat) (t : Int) (s : Nat → Bool) : Turned B w (winInto w B o t s) :=
  ((((((((Turned.set B _ w _).trans (Turned.set B _ _ _)).trans (Turned.set B _ _ _)).trans (Turned.set B _ _ _)).trans (Turned.set B _ _ _)).trans (Turned.set B _ _ _)).trans (Turned.set B _ _ _)).trans (Turned.set B _ _ _)).trans (Turned.set B _ _ _)
/-- one of four, put anew. -/
def tput {α : Type} (f : Nat → α) (P : Nat) (x : α) : Nat → α := fun q => if q = P then x else f q
theorem Wins.put {ws : Nat → Value} {wt : Nat → Int} {wz : Nat → Nat → Bool} (h : Wins ws wt wz) (P : Nat) (t : Int) (s : Nat → Bool) : Wins (wwin ws P t s) (tput wt P t) (tput wz P s) := by
  intro q hq
  obtain ⟨h0, h1⟩ := h q hq
  by_cases e : q = P
  · subst e
    refine ⟨by simp [wwin, wput, tput], ?_⟩
    intro j hj
    match j, hj with
    | 0, _ => simp [wwin, wput, tput]
    | 1, _ => simp [wwin, wput, tput, Nat.add_assoc]
    | 2, _ => simp [wwin, wput, tput, Nat.add_assoc]
    | 3, _ => simp [wwin, wput, tput, Nat.add_assoc]
    | 4, _ => simp [wwin, wput, tput, Nat.add_assoc]
    | 5, _ => simp [wwin, wput, tput, Nat.add_assoc]
    | 6, _ => simp [wwin, wput, tput, Nat.add_assoc]
    | 7, _ => simp [wwin, wput, tput, Nat.add_assoc]
  · have ne : ∀ j, j < 9 → wwin ws P t s (9 * q + j) = ws (9 * q + j) := fun j hj => by
      unfold wwin wput
      rw [if_neg (by omega), if_neg (by omega), if_neg (by omega), if_neg (by omega), if_neg (by omega), if_neg (by omega), if_neg (by omega), if_neg (by omega), if_neg (by omega)]
    refine ⟨?_, fun j hj => ?_⟩
    · rw [show 9 * q = 9 * q + 0 from rfl, ne 0 (by omega), Nat.add_zero, h0]; simp [tput, e]
    · rw [Nat.add_assoc, ne (1 + j) (by omega), ← Nat.add_assoc, h1 j hj]; simp [tput, e]
end Go.Proofs.YtcdopnkabbfooaaGreat
