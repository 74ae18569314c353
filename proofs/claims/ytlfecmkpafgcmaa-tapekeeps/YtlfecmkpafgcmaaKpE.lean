/- Plain facts on records of raw numbers; deeds that came in by value. -/
import Derived.Test.YtlfecmkpafgcmaaKpD
import Derived.Test.YtlfecmkpafgcmaaPlA
namespace Go.Proofs.Ytlfecmkpafgcmaa
open Go.ChangeShapes Go.WideShapes Go.ChangeAt Go.RowKit

theorem evOf_ok (k a b c : Int) : ∃ e0 e1 e2 e3 e4 e5, evOf k a b c = [e0, e1, e2, e3, e4, e5] ∧ eventFault e0 e1 e2 e3 e4 e5 = 0 := by
  obtain ⟨a0, a1⟩ := pickedOf_range a 2 (by omega)
  obtain ⟨b0, b1⟩ := pickedOf_range b 24 (by omega)
  obtain ⟨c0, c1⟩ := pickedOf_range c 1000 (by omega)
  obtain ⟨a2, a3⟩ := pickedOf_range a 3 (by omega)
  obtain ⟨b2, b3⟩ := pickedOf_range b 6 (by omega)
  unfold evOf
  by_cases h1 : pickedOf k 8 < 3
  · rw [if_pos h1]
    refine ⟨_, _, _, _, _, _, rfl, ?_⟩
    unfold eventFault
    rw [if_pos rfl, if_neg (by omega), if_pos (by omega)]
  rw [if_neg h1]
  by_cases h2 : pickedOf k 8 < 5
  · rw [if_pos h2]
    exact ⟨_, _, _, _, _, _, rfl, rfl⟩
  rw [if_neg h2]
  by_cases h3 : pickedOf k 8 < 7
  · rw [if_pos h3]
    refine ⟨_, _, _, _, _, _, rfl, ?_⟩
    unfold eventFault
    rw [if_neg (by omega), if_pos rfl, if_neg (by omega), if_pos (by omega)]
  rw [if_neg h3]
  exact ⟨_, _, _, _, _, _, rfl, rfl⟩

/-- such a record may stand on a tape. -/
theorem recOf_ok (k a b c k' a' b' c' : Int) : ∃ x0 x1 x2 x3 x4 x5 x6 x7 x8 x9, recOf k a b c k' a' b' c' = [x0, x1, x2, x3, x4, x5, x6, x7, x8, x9] ∧ recordFault x0 x1 x2 x3 x4 x5 x6 x7 x8 x9 = 0 ∧ (¬ (x0 = 2 ∨ x0 = 5) → x4 = 0 ∧ x5 = 0 ∧ x6 = 0 ∧ x7 = 0 ∧ x8 = 0 ∧ x9 = 0) := by
  obtain ⟨k0, k1⟩ := pickedOf_range k' 7 (by omega)
  obtain ⟨a0, a1⟩ := pickedOf_range a' 4 (by omega)
  obtain ⟨b0, b1⟩ := pickedOf_range b' 1048577 (by omega)
  obtain ⟨c0, c1⟩ := pickedOf_range c' 5 (by omega)
  unfold recOf
  by_cases h : 1 + pickedOf k' 7 = 2 ∨ 1 + pickedOf k' 7 = 5
  · rw [if_pos h]
    obtain ⟨e0, e1, e2, e3, e4, e5, he, hf⟩ := evOf_ok k a b c
    rw [he]
    refine ⟨_, _, _, _, _, _, _, _, _, _, rfl, ?_, fun hh => absurd h hh⟩
    unfold recordFault
    rw [if_neg (by omega), if_neg (by omega), if_pos h, hf]
  · rw [if_neg h]
    refine ⟨_, _, _, _, _, _, _, _, _, _, rfl, ?_, fun _ => ⟨rfl, rfl, rfl, rfl, rfl, rfl⟩⟩
    unfold recordFault
    rw [if_neg (by omega), if_neg (by omega), if_neg h]
    rfl

set_option maxRecDepth 20000 in
theorem open_Deed {H : Type} {enc : TypeId × Value → H} {W : World} {base : Nat} {sp : Nat → Bool} {held : Bool} {r : Reach} {b0 : Nat} {v : Value} {d : DataW H} {p : List MemPlace} (hv : Value.okWide Try.prog W r b0 46 v) (h : DataW.Trod enc Try.prog W base sp held 46 v d p) :
    ∃ x0 x1 x2 x3 : Int, v = .agg #[.int .i64 x0, .int .i64 x1, .int .i64 x2, .int .i64 x3] ∧ ∀ z ∈ [x0, x1, x2, x3], (Lit.int .i64 z).wf = true := by
  have cells_deed : Try.prog.cellsOf 46 = 4 := by kernel_rfl
  obtain ⟨cs, n, rfl, hsz, hf⟩ := open_struct Try.underlying46 hv h
  rw [cells_deed] at hsz
  have hi : Ints cs.toList := by
    obtain ⟨xs, n, _, _, hl, hlen, hf⟩ := DataW.trod_struct Try.underlying46 hf
    rw [cells_deed] at hl
    match xs, hlen with
    | [y0, y1, y2, y3], _ =>
      have f0 : DataW.trod enc Try.prog W base sp held n 3 ((cs.toList.drop 0).take (Try.prog.cellsOf 3)) = some y0 := hf 0 _ rfl
      have f1 : DataW.trod enc Try.prog W base sp held n 3 ((cs.toList.drop 1).take (Try.prog.cellsOf 3)) = some y1 := hf 1 _ rfl
      have f2 : DataW.trod enc Try.prog W base sp held n 3 ((cs.toList.drop 2).take (Try.prog.cellsOf 3)) = some y2 := hf 2 _ rfl
      have f3 : DataW.trod enc Try.prog W base sp held n 3 ((cs.toList.drop 3).take (Try.prog.cellsOf 3)) = some y3 := hf 3 _ rfl
      rw [cells_int] at f0 f1 f2 f3
      exact ints_step (o := 0) (n := 1) (ints_int Try.underlying3 f0) (ints_step (o := 1) (n := 1) (ints_int Try.underlying3 f1) (ints_step (o := 2) (n := 1) (ints_int Try.underlying3 f2) (ints_step (o := 3) (n := 1) (ints_int Try.underlying3 f3) (ints_end (by omega)))))
  obtain ⟨zs, hz, hw⟩ := hi
  have hl : zs.length = 4 := by have := congrArg List.length hz; simp at this; omega
  match zs, hl with
  | [x0, x1, x2, x3], _ => exact ⟨x0, x1, x2, x3, by rw [← Array.toArray_toList (xs := cs), hz]; rfl, hw⟩
end Go.Proofs.Ytlfecmkpafgcmaa
