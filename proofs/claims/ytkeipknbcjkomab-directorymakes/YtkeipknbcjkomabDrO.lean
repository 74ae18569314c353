/- A directory that came in by value: eight integers. -/
import Derived.Test.YtkeipknbcjkomabDrA
import Derived.Test.YtkeipknbcjkomabPkO
namespace Go.Proofs.Ytkeipknbcjkomab
open Go.ChangeShapes Go.WideShapes Go.ChangeAt Go.RowKit

theorem cells_directory : Try.prog.cellsOf 26 = 8 := by kernel_rfl
theorem cells_places : Try.prog.cellsOf 24 = 8 := by kernel_rfl
theorem cells_place : Try.prog.cellsOf 23 = 2 := by kernel_rfl
section
variable {H : Type} {enc : TypeId × Value → H} {W : World}
theorem ints_place {base : Nat} {sp : Nat → Bool} {held : Bool} {fuel : Nat} {cs : List Value} {x : DataW H × List MemPlace} (h : DataW.trod enc Try.prog W base sp held fuel 23 cs = some x) : Ints cs := by
  obtain ⟨xs, n, _, _, hl, hlen, hf⟩ := DataW.trod_struct Try.underlying23 h
  rw [cells_place] at hl
  match xs, hlen with
  | [y0, y1], _ =>
    have f0 : DataW.trod enc Try.prog W base sp held n 3 ((cs.drop 0).take (Try.prog.cellsOf 3)) = some y0 := hf 0 _ rfl
    have f1 : DataW.trod enc Try.prog W base sp held n 3 ((cs.drop 1).take (Try.prog.cellsOf 3)) = some y1 := hf 1 _ rfl
    rw [cells_int] at f0 f1
    exact ints_step (o := 0) (n := 1) (ints_int Try.underlying3 f0) (ints_step (o := 1) (n := 1) (ints_int Try.underlying3 f1) (ints_end (by omega)))
theorem ints_places {base : Nat} {sp : Nat → Bool} {held : Bool} {fuel : Nat} {cs : List Value} {x : DataW H × List MemPlace} (h : DataW.trod enc Try.prog W base sp held fuel 24 cs = some x) : Ints cs := by
  obtain ⟨xs, n, _, _, hl, hlen, hf⟩ := DataW.trod_array Try.underlying24 h
  rw [cells_places] at hl
  rw [cells_place] at hf
  match xs, hlen with
  | [y0, y1, y2, y3], _ =>
    have f0 : DataW.trod enc Try.prog W base sp held n 23 ((cs.drop 0).take 2) = some y0 := hf 0 (by omega)
    have f1 : DataW.trod enc Try.prog W base sp held n 23 ((cs.drop 2).take 2) = some y1 := hf 1 (by omega)
    have f2 : DataW.trod enc Try.prog W base sp held n 23 ((cs.drop 4).take 2) = some y2 := hf 2 (by omega)
    have f3 : DataW.trod enc Try.prog W base sp held n 23 ((cs.drop 6).take 2) = some y3 := hf 3 (by omega)
    exact ints_step (o := 0) (n := 2) (ints_place f0) (ints_step (o := 2) (n := 2) (ints_place f1) (ints_step (o := 4) (n := 2) (ints_place f2) (ints_step (o := 6) (n := 2) (ints_place f3) (ints_end (by omega)))))
set_option maxRecDepth 20000 in
theorem open_Directory {base : Nat} {sp : Nat → Bool} {held : Bool} {r : Reach} {b0 : Nat} {v : Value} {d : DataW H} {p : List MemPlace} (hv : Value.okWide Try.prog W r b0 26 v) (h : DataW.Trod enc Try.prog W base sp held 26 v d p) :
    ∃ n e : Nat → Int, v = dirVal n e ∧ ∀ k, k < 4 → (Lit.int .i64 (n k)).wf = true ∧ (Lit.int .i64 (e k)).wf = true := by
  obtain ⟨cs, n, rfl, hsz, hf⟩ := open_struct Try.underlying26 hv h
  rw [cells_directory] at hsz
  have hi : Ints cs.toList := by
    obtain ⟨xs, n, _, _, hl, hlen, hf⟩ := DataW.trod_struct Try.underlying26 hf
    rw [cells_directory] at hl
    match xs, hlen with
    | [y0], _ =>
      have f0 : DataW.trod enc Try.prog W base sp held n 24 ((cs.toList.drop 0).take (Try.prog.cellsOf 24)) = some y0 := hf 0 _ rfl
      rw [cells_places] at f0
      exact ints_step (o := 0) (n := 8) (ints_places f0) (ints_end (by omega))
  obtain ⟨zs, hz, hw⟩ := hi
  have hl : zs.length = 8 := by have := congrArg List.length hz; simp at this; omega
  match zs, hl with
  | [x0, x1, x2, x3, x4, x5, x6, x7], _ =>
    refine ⟨fun p => match p with | 0 => x0 | 1 => x2 | 2 => x4 | _ => x6, fun p => match p with | 0 => x1 | 1 => x3 | 2 => x5 | _ => x7, ?_, ?_⟩
    · rw [← Array.toArray_toList (xs := cs), hz]; rfl
    · exact below4d ⟨hw x0 (by simp), hw x1 (by simp)⟩ ⟨hw x2 (by simp), hw x3 (by simp)⟩ ⟨hw x4 (by simp), hw x5 (by simp)⟩ ⟨hw x6 (by simp), hw x7 (by simp)⟩
end
end Go.Proofs.Ytkeipknbcjkomab
