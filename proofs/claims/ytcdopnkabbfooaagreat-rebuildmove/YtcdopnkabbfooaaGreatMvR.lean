/- Slices of bools. -/
import Derived.Test.YtcdopnkabbfooaaGreatBase
namespace Go.Proofs.YtcdopnkabbfooaaGreat
open Go.RowKit

/-- a slice of bools. -/
structure RowB (w : World) (a : Option Addr) (len : Nat) (f : Nat → Bool) : Prop where
  cell : ∀ i, i < len → ∃ b off, a = some ⟨b, off, none⟩ ∧ b < w.heap.size ∧ w.cell? ⟨b, off + i, none⟩ = some (.bool (f i))
theorem RowB.below {w w' : World} {a : Option Addr} {len : Nat} {f : Nat → Bool} (h : RowB w a len f) (hb : Below w.heap.size w w') : RowB w' a len f :=
  ⟨fun i hi => by
    obtain ⟨b, off, ha, hlt, hc⟩ := h.cell i hi
    exact ⟨b, off, ha, Nat.lt_of_lt_of_le hlt hb.size, (hb.cell hlt).trans hc⟩⟩
end Go.Proofs.YtcdopnkabbfooaaGreat
