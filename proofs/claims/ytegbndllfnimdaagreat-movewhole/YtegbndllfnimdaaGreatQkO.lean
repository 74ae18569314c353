/- A deed, and a slice of deeds, that came in: their cells are integers (without the packing). -/
import Derived.Test.YtegbndllfnimdaaGreatPkO
import Derived.Deep.Slices
namespace Go.Proofs.YtegbndllfnimdaaGreat
open Go.ChangeShapes Go.WideShapes Go.ChangeAt Go.RowKit

theorem cells_deed' : Tryz.prog.cellsOf 78 = 4 := by kernel_rfl

section
variable {H : Type} {enc : TypeId × Value → H} {W : World}

theorem ints_deed {base : Nat} {sp : Nat → Bool} {held : Bool} {fuel : Nat} {cs : List Value} {x : DataW H × List MemPlace} (h : DataW.trod enc Tryz.prog W base sp held fuel 78 cs = some x) : Ints cs ∧ cs.length = 4 := by
  obtain ⟨xs, n, _, _, hl, hlen, hf⟩ := DataW.trod_struct Tryz.underlying78 h
  rw [cells_deed'] at hl
  refine ⟨?_, hl⟩
  match xs, hlen with
  | [y0, y1, y2, y3], _ =>
    have f0 : DataW.trod enc Tryz.prog W base sp held n 3 ((cs.drop 0).take (Tryz.prog.cellsOf 3)) = some y0 := hf 0 _ rfl
    have f1 : DataW.trod enc Tryz.prog W base sp held n 3 ((cs.drop 1).take (Tryz.prog.cellsOf 3)) = some y1 := hf 1 _ rfl
    have f2 : DataW.trod enc Tryz.prog W base sp held n 3 ((cs.drop 2).take (Tryz.prog.cellsOf 3)) = some y2 := hf 2 _ rfl
    have f3 : DataW.trod enc Tryz.prog W base sp held n 3 ((cs.drop 3).take (Tryz.prog.cellsOf 3)) = some y3 := hf 3 _ rfl
    rw [cells_int] at f0 f1 f2 f3
    exact ints_step (o := 0) (n := 1) (ints_int Tryz.underlying3 f0) (ints_step (o := 1) (n := 1) (ints_int Tryz.underlying3 f1) (ints_step (o := 2) (n := 1) (ints_int Tryz.underlying3 f2) (ints_step (o := 3) (n := 1) (ints_int Tryz.underlying3 f3) (ints_end (by omega)))))

/-- the number that a cell holds. -/
def numAtCell (w : World) (a : Addr) : Int := match w.cell? a with
  | some (.int .i64 z) => z
  | _ => 0

set_option maxRecDepth 20000 in
theorem open_Deeds {r : Reach} {b0 : Nat} {v : Value} {d : DataW H} {p : List MemPlace} (hv : Value.okWide Tryz.prog W r b0 22 v) (h : DataW.Trod enc Tryz.prog W 0 (fun _ => true) true 22 v d p) :
    ∃ a len cap D, v = .slice a len cap ∧ RowK .i64 W a (4 * len) D ∧ len ≤ cap ∧ cap ≤ maxLen ∧ (a = none → cap = 0) := by
  obtain ⟨a, len, cap, rfl⟩ := okWide_slice Tryz.underlying22 hv
  obtain ⟨fuel, hf⟩ := h
  rcases Go.Deep.open_slice Tryz.underlying22 hf with ⟨hcs, _⟩ | ⟨x, l, c, m, n, Dd, Pl, hcs, _, hl, hm, hmm, _, hall⟩
  · simp [Value.cells] at hcs
    obtain ⟨rfl, rfl, rfl⟩ := hcs
    exact ⟨none, 0, 0, [], rfl, RowK.nil _ _ _, Nat.le_refl _, by unfold maxLen; omega, fun _ => rfl⟩
  · simp [Value.cells] at hcs
    obtain ⟨rfl, rfl, rfl⟩ := hcs
    simp only [if_true] at hmm
    subst hmm
    have key : ∀ i, i < len → ∀ t, t < 4 → ∃ z, W.cell? ((x.add (i * 4)).add t) = some (.int .i64 z) ∧ (Lit.int .i64 z).wf = true := by
      intro i hi t ht
      obtain ⟨cs', h1, h2⟩ := hall i (by omega)
      rw [cells_deed'] at h1
      obtain ⟨⟨zs, rfl, hw⟩, hl4⟩ := ints_deed h2
      have hl4' : zs.length = 4 := by simpa using hl4
      have h3 := (World.cells?_some h1).2.2 t ht
      rw [h3, List.getElem?_map, List.getElem?_eq_getElem (show t < zs.length by omega)]
      exact ⟨zs[t]'(by omega), rfl, hw _ (List.getElem_mem _)⟩
    obtain ⟨b, off, spot⟩ := x
    by_cases h0 : len = 0
    · subst h0
      exact ⟨_, _, _, [], rfl, RowK.nil _ _ _, hl, hm, by simp⟩
    have hspot : spot = none := by
      obtain ⟨z, hz, _⟩ := key 0 (by omega) 0 (by omega)
      simpa [Addr.add] using World.cell?_spot hz
    subst hspot
    have hadd : ∀ i t, ((⟨b, off, none⟩ : Addr).add i).add t = ⟨b, off + (i + t), none⟩ := by
      intro i t
      have h1 : ∀ (o j : Nat), (⟨b, o, none⟩ : Addr).add j = ⟨b, o + j, none⟩ := fun o j => by unfold Addr.add; split <;> simp_all
      rw [h1, h1, Nat.add_assoc]
    have cell : ∀ j, j < 4 * len → W.cell? ⟨b, off + j, none⟩ = some (.int .i64 (numAtCell W ⟨b, off + j, none⟩)) ∧ (Lit.int .i64 (numAtCell W ⟨b, off + j, none⟩)).wf = true := by
      intro j hj
      obtain ⟨z, hz, hw⟩ := key (j / 4) (by omega) (j % 4) (by omega)
      rw [hadd, show j / 4 * 4 + j % 4 = j by omega] at hz
      have hn : numAtCell W ⟨b, off + j, none⟩ = z := by unfold numAtCell; rw [hz]
      rw [hn]
      exact ⟨hz, hw⟩
    refine ⟨_, _, _, (List.range (4 * len)).map (fun j => numAtCell W ⟨b, off + j, none⟩), rfl, ⟨by simp, ?_, ?_⟩, hl, hm, by simp⟩
    · intro u hu
      simp only [List.mem_map, List.mem_range] at hu
      obtain ⟨j, hj, rfl⟩ := hu
      exact (cell j hj).2
    · intro j hj
      have hc := (cell j hj).1
      refine ⟨b, off, rfl, ?_, ?_⟩
      · unfold World.cell? at hc
        by_cases hbl : b < W.heap.size
        · exact hbl
        · simp [Array.getElem?_eq_none (show W.heap.size ≤ b by omega)] at hc
      · rw [hc]
        simp [List.getD_eq_getElem?_getD, hj]
end
set_option maxRecDepth 20000 in
theorem open_Deed {H : Type} {enc : TypeId × Value → H} {W : World} {base : Nat} {sp : Nat → Bool} {held : Bool} {r : Reach} {b0 : Nat} {v : Value} {d : DataW H} {p : List MemPlace} (hv : Value.okWide Tryz.prog W r b0 78 v) (h : DataW.Trod enc Tryz.prog W base sp held 78 v d p) :
    ∃ x0 x1 x2 x3 : Int, v = .agg #[.int .i64 x0, .int .i64 x1, .int .i64 x2, .int .i64 x3] ∧ ∀ z ∈ [x0, x1, x2, x3], (Lit.int .i64 z).wf = true := by
  have cells_deed : Tryz.prog.cellsOf 78 = 4 := by kernel_rfl
  obtain ⟨cs, n, rfl, hsz, hf⟩ := open_struct Tryz.underlying78 hv h
  rw [cells_deed] at hsz
  have hi : Ints cs.toList := by
    obtain ⟨xs, n, _, _, hl, hlen, hf⟩ := DataW.trod_struct Tryz.underlying78 hf
    rw [cells_deed] at hl
    match xs, hlen with
    | [y0, y1, y2, y3], _ =>
      have f0 : DataW.trod enc Tryz.prog W base sp held n 3 ((cs.toList.drop 0).take (Tryz.prog.cellsOf 3)) = some y0 := hf 0 _ rfl
      have f1 : DataW.trod enc Tryz.prog W base sp held n 3 ((cs.toList.drop 1).take (Tryz.prog.cellsOf 3)) = some y1 := hf 1 _ rfl
      have f2 : DataW.trod enc Tryz.prog W base sp held n 3 ((cs.toList.drop 2).take (Tryz.prog.cellsOf 3)) = some y2 := hf 2 _ rfl
      have f3 : DataW.trod enc Tryz.prog W base sp held n 3 ((cs.toList.drop 3).take (Tryz.prog.cellsOf 3)) = some y3 := hf 3 _ rfl
      rw [cells_int] at f0 f1 f2 f3
      exact ints_step (o := 0) (n := 1) (ints_int Tryz.underlying3 f0) (ints_step (o := 1) (n := 1) (ints_int Tryz.underlying3 f1) (ints_step (o := 2) (n := 1) (ints_int Tryz.underlying3 f2) (ints_step (o := 3) (n := 1) (ints_int Tryz.underlying3 f3) (ints_end (by omega)))))
  obtain ⟨zs, hz, hw⟩ := hi
  have hl : zs.length = 4 := by have := congrArg List.length hz; simp at this; omega
  match zs, hl with
  | [x0, x1, x2, x3], _ => exact ⟨x0, x1, x2, x3, by rw [← Array.toArray_toList (xs := cs), hz]; rfl, hw⟩
end Go.Proofs.YtegbndllfnimdaaGreat
