/- A window loaded, and stored into a queue: each by one law. -/
import Derived.Test.YtmhdpbmjhijhkaaGreatRqD
namespace Go.Proofs.YtmhdpbmjhijhkaaGreat
open Go.RowKit

theorem qBlock.wset {w : World} {B : Nat} {ep nx gv : Int} {r l : Value} {ws : Nat → Value} (h : qBlock w B ep nx gv r l ws) (o j : Nat) (v : Value) (ho : o = 5 + j) (hj : j < 36) : qBlock (w.setCell ⟨B, o, none⟩ v) B ep nx gv r l (wput ws j v) := by
  have := heap_set (o := o) (v := v) h
  unfold qBlock
  rw [this, ho, qCells_wset _ _ _ _ _ _ _ _ hj]
theorem qBlock.winInto {w : World} {B : Nat} {ep nx gv : Int} {r l : Value} {ws : Nat → Value} (h : qBlock w B ep nx gv r l ws) (P : Nat) (hP : P < 4) (t : Int) (s : Nat → Bool) : qBlock (winInto w B (5 + P * 9) t s) B ep nx gv r l (wwin ws P t s) :=
  ((((((((h.wset _ (9 * P) _ (by omega) (by omega)).wset _ (9 * P + 1) _ (by omega) (by omega)).wset _ (9 * P + 2) _ (by omega) (by omega)).wset _ (9 * P + 3) _ (by omega) (by omega)).wset _ (9 * P + 4) _ (by omega) (by omega)).wset _ (9 * P + 5) _ (by omega) (by omega)).wset _ (9 * P + 6) _ (by omega) (by omega)).wset _ (9 * P + 7) _ (by omega) (by omega)).wset _ (9 * P + 8) _ (by omega) (by omega)
theorem win_loads {ops : Array Oper} {rest : List Oper} {o : Oper} {a : Act} {Q : Exit → Act → World → Prop} {w : World} {R : Nat} {t : Int} {s : Nat → Bool} (x : Operand) (ho : o.op = .load 89 x) (hw : Region.wanted o (yielded ops a.tmps) = true) (hx : a.eval x = .pointer (some ⟨R, 0, none⟩)) (wb : winBlock w R t s)
    (h : wpList Tryz.prog ops Q rest (a.put o.dst (winVal t s)) w) : wpList Tryz.prog ops Q (o :: rest) a w :=
  wpList_step fun K hK => by
    rw [if_pos hw]
    exact wp_load_row 89 x ho R hx 89 _ (0, 0) _ wb Tryz.underlying89 rfl (by kernel_rfl) (hK _ _ h)
theorem setCells_win (w : World) (B o : Nat) (t : Int) (s : Nat → Bool) : w.setCells B o [.int .i64 t, .bool (s 0), .bool (s 1), .bool (s 2), .bool (s 3), .bool (s 4), .bool (s 5), .bool (s 6), .bool (s 7)] = winInto w B o t s := by
  simp only [World.setCells, winInto, Nat.add_assoc, Nat.reduceAdd]
theorem win_into {ops : Array Oper} {rest : List Oper} {o : Oper} {a : Act} {Q : Exit → Act → World → Prop} {w : World} {B : Nat} {ep nx gv t : Int} {r l : Value} {ws : Nat → Value} {s : Nat → Bool} (P : Nat) (hP : P < 4) (x y : Operand) (ho : o.op = .store 89 x y) (hw : Region.wanted o (yielded ops a.tmps) = true) (hx : a.eval x = .pointer (some ⟨B, 5 + P * 9, none⟩)) (hy : a.eval y = winVal t s) (qb : qBlock w B ep nx gv r l ws)
    (h : ∀ w', qBlock w' B ep nx gv r l (wwin ws P t s) → Turned B w w' → wpList Tryz.prog ops Q rest (a.put o.dst undef) w') : wpList Tryz.prog ops Q (o :: rest) a w :=
  wpList_step fun K hK => by
    rw [if_pos hw]
    exact wp_store_mid 89 x y ho B (5 + P * 9) #[.int .i64 t, .bool (s 0), .bool (s 1), .bool (s 2), .bool (s 3), .bool (s 4), .bool (s 5), .bool (s 6), .bool (s 7)] hx hy (fun j hj => by
      have := qb.there (5 + P * 9 + j) (by have : j < 9 := hj; omega)
      rwa [Nat.zero_add] at this) (by kernel_rfl) (by simp [Value.oneCell']) (by
      show K _ (w.setCells B (5 + P * 9) [.int .i64 t, .bool (s 0), .bool (s 1), .bool (s 2), .bool (s 3), .bool (s 4), .bool (s 5), .bool (s 6), .bool (s 7)])
      rw [setCells_win]
      exact hK _ _ (h _ (qb.winInto P hP t s) (winInto_turned w B (5 + P * 9) t s)))
end Go.Proofs.YtmhdpbmjhijhkaaGreat
