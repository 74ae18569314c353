/- A slice of bools that came in. -/
import Derived.Test.YtcdopnkabbfooaaGreatMvR
import Derived.Test.YtcdopnkabbfooaaGreatRaLow
namespace Go.Proofs.YtcdopnkabbfooaaGreat
open Go.ChangeShapes Go.WideShapes Go.ChangeAt Go.RowKit

theorem cells_boolM : Tryz.prog.cellsOf 4 = 1 := by kernel_rfl
section
variable {H : Type} {enc : TypeId × Value → H} {W : World}
/-- the bool that a cell holds. -/
def boolAtCell (w : World) (a : Addr) : Bool := match w.cell? a with
  | some (.bool z) => z
  | _ => false
set_option maxRecDepth 20000 in
theorem open_Bools {r : Reach} {b0 : Nat} {v : Value} {d : DataW H} {p : List MemPlace} (hv : Value.okWide Tryz.prog W r b0 57 v) (h : DataW.Trod enc Tryz.prog W 0 (fun _ => true) true 57 v d p) :
    ∃ a len cap f, v = .slice a len cap ∧ RowB W a len f := by
  obtain ⟨a, len, cap, rfl⟩ := okWide_slice Tryz.underlying57 hv
  obtain ⟨fuel, hf⟩ := h
  rcases Go.Deep.open_slice Tryz.underlying57 hf with ⟨hcs, _⟩ | ⟨x, l, c, m, n, Dd, Pl, hcs, _, hl, hm, hmm, _, hall⟩
  · simp [Value.cells] at hcs
    obtain ⟨rfl, rfl, rfl⟩ := hcs
    exact ⟨none, 0, 0, fun _ => false, rfl, ⟨fun i hi => absurd hi (Nat.not_lt_zero _)⟩⟩
  · simp [Value.cells] at hcs
    obtain ⟨rfl, rfl, rfl⟩ := hcs
    simp only [if_true] at hmm
    subst hmm
    have key : ∀ i, i < len → ∃ z, W.cell? (x.add (i * 1)) = some (.bool z) := by
      intro i hi
      obtain ⟨cs', h1, h2⟩ := hall i (by omega)
      rw [cells_boolM] at h1
      obtain ⟨z, rfl, _⟩ := DataW.trod_bool Tryz.underlying4 h2
      have h3 := (World.cells?_some h1).2.2 0 (by omega)
      exact ⟨z, by simpa [Addr.add] using h3⟩
    obtain ⟨b, off, spot⟩ := x
    by_cases h0 : len = 0
    · subst h0
      exact ⟨_, _, _, fun _ => false, rfl, ⟨fun i hi => absurd hi (Nat.not_lt_zero _)⟩⟩
    have hspot : spot = none := by
      obtain ⟨z, hz⟩ := key 0 (by omega)
      simpa [Addr.add] using World.cell?_spot hz
    subst hspot
    have hadd : ∀ (o j : Nat), (⟨b, o, none⟩ : Addr).add j = ⟨b, o + j, none⟩ := fun o j => by unfold Addr.add; split <;> simp_all
    refine ⟨_, _, _, fun i => boolAtCell W ⟨b, off + i, none⟩, rfl, ⟨fun i hi => ?_⟩⟩
    obtain ⟨z, hz⟩ := key i hi
    rw [hadd, Nat.mul_one] at hz
    refine ⟨b, off, rfl, ?_, ?_⟩
    · unfold World.cell? at hz
      by_cases hbl : b < W.heap.size
      · exact hbl
      · simp [Array.getElem?_eq_none (show W.heap.size ≤ b by omega)] at hz
    · show W.cell? _ = some (.bool (boolAtCell W ⟨b, off + i, none⟩))
      unfold boolAtCell
      rw [hz]
end
end Go.Proofs.YtcdopnkabbfooaaGreat
