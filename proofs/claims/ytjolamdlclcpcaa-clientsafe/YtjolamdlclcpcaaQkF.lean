/- Laws of one operation on a queue, for regions that draw their order. -/
import Derived.Test.YtjolamdlclcpcaaQkE
import Derived.Deep.RegionHeld3
namespace Go.Proofs.Ytjolamdlclcpcaa
open Go.RowKit

theorem RowK.blk_lt {k : IntKind} {w : World} {a : Option Addr} {len : Nat} {l : List Int} (h : RowK k w a len l) (x : Addr) (hx : a = some x) (h0 : 0 < len) : x.block < w.heap.size := by
  obtain ⟨b, off, ha, hlt, _⟩ := h.cell 0 h0
  rw [hx] at ha
  cases ha
  exact hlt
theorem q_alloc_wp {o : Oper} {a : Act} {K : Act → World → Prop} {Q : Exit → Act → World → Prop} {w : World} (d : Nat) (ho : o.op = .alloc 54) (hd : o.dst = some d)
    (h : ∀ w', qBlock w' w.heap.size 0 0 0 (.slice none 0 0) (.slice none 0 0) zeroW → Below w.heap.size w w' → K (a.put (some d) (.pointer (some ⟨w.heap.size, 0, none⟩))) w') : o.wp Try.prog a w K Q := by
  obtain ⟨z1, z2⟩ := zq_made (w := w) rfl
  have := h _ z1 z2
  rw [← hd] at this
  unfold Oper.wp
  simp only [execOp, ho]
  simpa [go_sem] using this
theorem q_store_wp {o : Oper} {a : Act} {K : Act → World → Prop} {Q : Exit → Act → World → Prop} {w : World} {R : Nat} {ep nx gv : Int} {r l : Value} {ws : Nat → Value} {ra la : Option Addr} {rn rc ln lc : Nat} {ws' : Nat → Value} {ep' nx' gv' : Int} {wt : Nat → Int} {wz : Nat → Nat → Bool} (x y : Operand) (ho : o.op = .store 54 x y) (hx : a.eval x = .pointer (some ⟨R, 0, none⟩)) (hy : a.eval y = qVal ep' nx' gv' (.slice ra rn rc) (.slice la ln lc) ws')
    (qb : qBlock w R ep nx gv r l ws) (hW : Wins ws' wt wz)
    (h : ∀ w', qBlock w' R ep' nx' gv' (.slice ra rn rc) (.slice la ln lc) ws' → Turned R w w' → K (a.put o.dst undef) w') : o.wp Try.prog a w K Q :=
  wp_store_mid 54 x y ho R 0 _ hx hy (by rw [qCells_size]; exact qb.there) (by rw [qCells_size]; exact Try.infoQ) (qCells_one hW) (h _ (qb.stored _ _ _ _ _ _) (Turned.sets R _ 0 w))
end Go.Proofs.Ytjolamdlclcpcaa
