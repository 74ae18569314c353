/- Structs of numbers that came in by value: their cells are integers. -/
import Derived.Test.YtekbdkppnjnaaaaDoorBase
import Derived.Test.YtekbdkppnjnaaaaDoorProg
namespace Go.Proofs.YtekbdkppnjnaaaaDoor
open Go.ChangeShapes Go.WideShapes Go.ChangeAt Go.RowKit

section
variable {H : Type} {enc : TypeId × Value → H} {P : Program} {W : World} {base : Nat} {sp : Nat → Bool} {held : Bool}

/-- a list of cells that are all integers of kind i64. -/
def Ints (cs : List Value) : Prop := ∃ zs : List Int, cs = zs.map (Value.int .i64) ∧ ∀ z ∈ zs, (Lit.int .i64 z).wf = true

theorem Ints.nil : Ints [] := ⟨[], rfl, by simp⟩
theorem Ints.app {a b : List Value} (ha : Ints a) (hb : Ints b) : Ints (a ++ b) := by
  obtain ⟨x, rfl, hx⟩ := ha
  obtain ⟨y, rfl, hy⟩ := hb
  refine ⟨x ++ y, by simp, ?_⟩
  intro z hz
  rcases List.mem_append.1 hz with h | h
  · exact hx z h
  · exact hy z h

theorem ints_int {t : TypeId} {fuel : Nat} {cs : List Value} {x : DataW H × List MemPlace} (ht : P.underlying t = some (.int .i64)) (h : DataW.trod enc P W base sp held fuel t cs = some x) : Ints cs := by
  obtain ⟨n, rfl, _, hw⟩ := DataW.trod_int ht h
  exact ⟨[n], rfl, by simpa using hw⟩

theorem take_split (cs : List Value) (o n : Nat) : cs.drop o = (cs.drop o).take n ++ cs.drop (o + n) := by
  rw [← List.drop_drop]; exact (List.take_append_drop n (cs.drop o)).symm

/-- one field more from the front. -/
theorem ints_step {cs : List Value} {o n : Nat} (h1 : Ints ((cs.drop o).take n)) (h2 : Ints (cs.drop (o + n))) : Ints (cs.drop o) := by
  rw [take_split cs o n]; exact h1.app h2
theorem ints_end {cs : List Value} {o : Nat} (h : cs.length ≤ o) : Ints (cs.drop o) := by
  rw [List.drop_eq_nil_of_le h]; exact Ints.nil
end

theorem cells_int : Tryd.prog.cellsOf 3 = 1 := by kernel_rfl
theorem cells_handle : Tryd.prog.cellsOf 23 = 2 := by kernel_rfl
theorem cells_event : Tryd.prog.cellsOf 25 = 6 := by kernel_rfl
section
variable {H : Type} {enc : TypeId × Value → H} {W : World} {base : Nat} {sp : Nat → Bool} {held : Bool}

theorem ints_handle {fuel : Nat} {cs : List Value} {x : DataW H × List MemPlace} (h : DataW.trod enc Tryd.prog W base sp held fuel 23 cs = some x) : Ints cs := by
  obtain ⟨xs, n, _, _, hl, hlen, hf⟩ := DataW.trod_struct Tryd.underlying23 h
  rw [cells_handle] at hl
  match xs, hlen with
  | [y0, y1], _ =>
    have f0 : DataW.trod enc Tryd.prog W base sp held n 3 ((cs.drop 0).take (Tryd.prog.cellsOf 3)) = some y0 := hf 0 _ rfl
    rw [cells_int] at f0
    have f1 : DataW.trod enc Tryd.prog W base sp held n 3 ((cs.drop 1).take (Tryd.prog.cellsOf 3)) = some y1 := hf 1 _ rfl
    rw [cells_int] at f1
    exact ints_step (o := 0) (n := 1) (ints_int Tryd.underlying3 f0) (ints_step (o := 1) (n := 1) (ints_int Tryd.underlying3 f1) (ints_end (by omega)))

theorem ints_event {fuel : Nat} {cs : List Value} {x : DataW H × List MemPlace} (h : DataW.trod enc Tryd.prog W base sp held fuel 25 cs = some x) : Ints cs := by
  obtain ⟨xs, n, _, _, hl, hlen, hf⟩ := DataW.trod_struct Tryd.underlying25 h
  rw [cells_event] at hl
  match xs, hlen with
  | [y0, y1, y2, y3, y4], _ =>
    have f0 : DataW.trod enc Tryd.prog W base sp held n 3 ((cs.drop 0).take (Tryd.prog.cellsOf 3)) = some y0 := hf 0 _ rfl
    rw [cells_int] at f0
    have f1 : DataW.trod enc Tryd.prog W base sp held n 3 ((cs.drop 1).take (Tryd.prog.cellsOf 3)) = some y1 := hf 1 _ rfl
    rw [cells_int] at f1
    have f2 : DataW.trod enc Tryd.prog W base sp held n 3 ((cs.drop 2).take (Tryd.prog.cellsOf 3)) = some y2 := hf 2 _ rfl
    rw [cells_int] at f2
    have f3 : DataW.trod enc Tryd.prog W base sp held n 3 ((cs.drop 3).take (Tryd.prog.cellsOf 3)) = some y3 := hf 3 _ rfl
    rw [cells_int] at f3
    have f4 : DataW.trod enc Tryd.prog W base sp held n 23 ((cs.drop 4).take (Tryd.prog.cellsOf 23)) = some y4 := hf 4 _ rfl
    rw [cells_handle] at f4
    exact ints_step (o := 0) (n := 1) (ints_int Tryd.underlying3 f0) (ints_step (o := 1) (n := 1) (ints_int Tryd.underlying3 f1) (ints_step (o := 2) (n := 1) (ints_int Tryd.underlying3 f2)
      (ints_step (o := 3) (n := 1) (ints_int Tryd.underlying3 f3) (ints_step (o := 4) (n := 2) (ints_handle f4) (ints_end (by omega))))))

set_option maxRecDepth 20000 in
theorem open_Event {r : Reach} {b0 : Nat} {v : Value} {d : DataW H} {p : List MemPlace} (hv : Value.okWide Tryd.prog W r b0 25 v) (h : DataW.Trod enc Tryd.prog W base sp held 25 v d p) :
    ∃ x0 x1 x2 x3 x4 x5 : Int, v = .agg #[.int .i64 x0, .int .i64 x1, .int .i64 x2, .int .i64 x3, .int .i64 x4, .int .i64 x5] ∧ ∀ z ∈ [x0, x1, x2, x3, x4, x5], (Lit.int .i64 z).wf = true := by
  obtain ⟨cs, n, rfl, hsz, hf⟩ := open_struct Tryd.underlying25 hv h
  rw [cells_event] at hsz
  obtain ⟨zs, hz, hw⟩ := ints_event hf
  have hl : zs.length = 6 := by have := congrArg List.length hz; simp at this; omega
  match zs, hl with
  | [x0, x1, x2, x3, x4, x5], _ => exact ⟨x0, x1, x2, x3, x4, x5, by rw [← Array.toArray_toList (xs := cs), hz]; rfl, hw⟩

end
end Go.Proofs.YtekbdkppnjnaaaaDoor
