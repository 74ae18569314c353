/- Windows that came in by value: a number and eight bools. -/
import Derived.Test.YtjolamdlclcpcaaWdA
namespace Go.Proofs.Ytjolamdlclcpcaa
open Go.ChangeShapes Go.WideShapes Go.ChangeAt Go.RowKit

theorem cells_intW : Try.prog.cellsOf 3 = 1 := by kernel_rfl
theorem cells_boolW : Try.prog.cellsOf 4 = 1 := by kernel_rfl
theorem cells_seen : Try.prog.cellsOf 49 = 8 := by kernel_rfl
theorem cells_window : Try.prog.cellsOf 51 = 9 := by kernel_rfl

section
variable {H : Type} {enc : TypeId × Value → H} {W : World} {base : Nat} {sp : Nat → Bool} {held : Bool}

theorem bools_seen {fuel : Nat} {cs : List Value} {x : DataW H × List MemPlace} (h : DataW.trod enc Try.prog W base sp held fuel 49 cs = some x) : ∃ s : Nat → Bool, ∀ i, i < 8 → cs[i]? = some (.bool (s i)) := by
  obtain ⟨xs, n, _, _, hl, hlen, hf⟩ := DataW.trod_array Try.underlying49 h
  rw [cells_boolW] at hf
  have hb : ∀ i, i < 8 → ∃ b, cs[i]? = some (.bool b) := by
    intro i hi
    have hx : xs[i]? = some (xs[i]'(by omega)) := List.getElem?_eq_getElem (by omega)
    have := hf i hi
    rw [hx, Nat.mul_one] at this
    obtain ⟨b, hb, _⟩ := DataW.trod_bool Try.underlying4 this
    refine ⟨b, ?_⟩
    have h0 : ((cs.drop i).take 1)[0]? = some (.bool b) := by rw [hb]; rfl
    simpa using h0
  refine ⟨fun i => match cs[i]? with | some (.bool b) => b | _ => false, fun i hi => ?_⟩
  obtain ⟨b, hb⟩ := hb i hi
  simp only [hb]

set_option maxRecDepth 20000 in
theorem window_cells {fuel : Nat} {cs : List Value} {x : DataW H × List MemPlace} (h : DataW.trod enc Try.prog W base sp held fuel 51 cs = some x) (hsz : cs.length = 9) :
    ∃ (t : Int) (s : Nat → Bool), cs = [.int .i64 t, .bool (s 0), .bool (s 1), .bool (s 2), .bool (s 3), .bool (s 4), .bool (s 5), .bool (s 6), .bool (s 7)] ∧ (Lit.int .i64 t).wf = true := by
  obtain ⟨xs, n, _, _, _, hlen, hf⟩ := DataW.trod_struct Try.underlying51 h
  match xs, hlen with
  | [y0, y1], _ =>
    have f0 : DataW.trod enc Try.prog W base sp held n 3 ((cs.drop 0).take (Try.prog.cellsOf 3)) = some y0 := hf 0 _ rfl
    rw [cells_intW] at f0
    have f1 : DataW.trod enc Try.prog W base sp held n 49 ((cs.drop 1).take (Try.prog.cellsOf 49)) = some y1 := hf 1 _ rfl
    rw [cells_seen] at f1
    obtain ⟨t, ht, _, hw⟩ := DataW.trod_int Try.underlying3 f0
    obtain ⟨s, hs⟩ := bools_seen f1
    refine ⟨t, s, ?_, hw⟩
    match cs, hsz with
    | [v0, v1, v2, v3, v4, v5, v6, v7, v8], _ =>
      have e0 : v0 = .int .i64 t := by simpa using ht
      have e1 : v1 = .bool (s 0) := by simpa using hs 0 (by omega)
      have e2 : v2 = .bool (s 1) := by simpa using hs 1 (by omega)
      have e3 : v3 = .bool (s 2) := by simpa using hs 2 (by omega)
      have e4 : v4 = .bool (s 3) := by simpa using hs 3 (by omega)
      have e5 : v5 = .bool (s 4) := by simpa using hs 4 (by omega)
      have e6 : v6 = .bool (s 5) := by simpa using hs 5 (by omega)
      have e7 : v7 = .bool (s 6) := by simpa using hs 6 (by omega)
      have e8 : v8 = .bool (s 7) := by simpa using hs 7 (by omega)
      rw [e0, e1, e2, e3, e4, e5, e6, e7, e8]

set_option maxRecDepth 20000 in
theorem open_Window {r : Reach} {b0 : Nat} {v : Value} {d : DataW H} {p : List MemPlace} (hv : Value.okWide Try.prog W r b0 51 v) (h : DataW.Trod enc Try.prog W base sp held 51 v d p) :
    ∃ (t : Int) (s : Nat → Bool), v = winVal t s ∧ (Lit.int .i64 t).wf = true := by
  obtain ⟨cs, n, rfl, hsz, hf⟩ := open_struct Try.underlying51 hv h
  rw [cells_window] at hsz
  obtain ⟨t, s, hz, hw⟩ := window_cells hf (by simpa using hsz)
  exact ⟨t, s, by rw [← Array.toArray_toList (xs := cs), hz], hw⟩
end
end Go.Proofs.Ytjolamdlclcpcaa
