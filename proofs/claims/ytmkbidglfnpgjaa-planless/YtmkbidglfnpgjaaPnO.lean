/- Slices of loads and of burdens that came in: their cells are integers. -/
import Derived.Test.YtmkbidglfnpgjaaPnA
import Derived.Deep.Slices
namespace Go.Proofs.Ytmkbidglfnpgjaa
open Go.ChangeShapes Go.WideShapes Go.ChangeAt Go.RowKit

section
variable {H : Type} {enc : TypeId × Value → H} {P : Program} {W : World} {base : Nat} {sp : Nat → Bool} {held : Bool}

/-- a list of cells that are all integers of kind i64. -/
def Ints (cs : List Value) : Prop := ∃ zs : List Int, cs = zs.map (Value.int .i64) ∧ ∀ z ∈ zs, (Lit.int .i64 z).wf = true

theorem Ints.nil : Ints [] := ⟨[], rfl, by simp⟩
theorem Ints.app {a b : List Value} (ha : Ints a) (hb : Ints b) : Ints (a ++ b) := by
  obtain ⟨x, rfl, hx⟩ := ha
  obtain ⟨y, rfl, hy⟩ := hb
  refine ⟨x ++ y, by simp, ?_⟩
  intro z hz
  rcases List.mem_append.1 hz with h | h
  · exact hx z h
  · exact hy z h

theorem ints_int {t : TypeId} {fuel : Nat} {cs : List Value} {x : DataW H × List MemPlace} (ht : P.underlying t = some (.int .i64)) (h : DataW.trod enc P W base sp held fuel t cs = some x) : Ints cs := by
  obtain ⟨n, rfl, _, hw⟩ := DataW.trod_int ht h
  exact ⟨[n], rfl, by simpa using hw⟩

theorem take_split (cs : List Value) (o n : Nat) : cs.drop o = (cs.drop o).take n ++ cs.drop (o + n) := by
  rw [← List.drop_drop]; exact (List.take_append_drop n (cs.drop o)).symm

/-- one field more from the front. -/
theorem ints_step {cs : List Value} {o n : Nat} (h1 : Ints ((cs.drop o).take n)) (h2 : Ints (cs.drop (o + n))) : Ints (cs.drop o) := by
  rw [take_split cs o n]; exact h1.app h2
theorem ints_end {cs : List Value} {o : Nat} (h : cs.length ≤ o) : Ints (cs.drop o) := by
  rw [List.drop_eq_nil_of_le h]; exact Ints.nil
end

theorem cells_int : Try.prog.cellsOf 3 = 1 := by kernel_rfl

theorem cells_load : Try.prog.cellsOf 41 = 3 := by kernel_rfl
theorem ints_load {H : Type} {enc : TypeId × Value → H} {W : World} {base : Nat} {sp : Nat → Bool} {held : Bool} {fuel : Nat} {cs : List Value} {x : DataW H × List MemPlace} (h : DataW.trod enc Try.prog W base sp held fuel 41 cs = some x) : Ints cs ∧ cs.length = 3 := by
  obtain ⟨xs, n, _, _, hl, hlen, hf⟩ := DataW.trod_struct Try.underlying41 h
  rw [cells_load] at hl
  refine ⟨?_, hl⟩
  match xs, hlen with
  | [y0, y1, y2], _ =>
    have f0 : DataW.trod enc Try.prog W base sp held n 3 ((cs.drop 0).take (Try.prog.cellsOf 3)) = some y0 := hf 0 _ rfl
    have f1 : DataW.trod enc Try.prog W base sp held n 3 ((cs.drop 1).take (Try.prog.cellsOf 3)) = some y1 := hf 1 _ rfl
    have f2 : DataW.trod enc Try.prog W base sp held n 3 ((cs.drop 2).take (Try.prog.cellsOf 3)) = some y2 := hf 2 _ rfl
    rw [cells_int] at f0 f1 f2
    exact ints_step (o := 0) (n := 1) (ints_int Try.underlying3 f0) (ints_step (o := 1) (n := 1) (ints_int Try.underlying3 f1) (ints_step (o := 2) (n := 1) (ints_int Try.underlying3 f2) (ints_end (by omega))))
theorem cells_burden : Try.prog.cellsOf 57 = 2 := by kernel_rfl
theorem ints_burden {H : Type} {enc : TypeId × Value → H} {W : World} {base : Nat} {sp : Nat → Bool} {held : Bool} {fuel : Nat} {cs : List Value} {x : DataW H × List MemPlace} (h : DataW.trod enc Try.prog W base sp held fuel 57 cs = some x) : Ints cs ∧ cs.length = 2 := by
  obtain ⟨xs, n, _, _, hl, hlen, hf⟩ := DataW.trod_struct Try.underlying57 h
  rw [cells_burden] at hl
  refine ⟨?_, hl⟩
  match xs, hlen with
  | [y0, y1], _ =>
    have f0 : DataW.trod enc Try.prog W base sp held n 3 ((cs.drop 0).take (Try.prog.cellsOf 3)) = some y0 := hf 0 _ rfl
    have f1 : DataW.trod enc Try.prog W base sp held n 3 ((cs.drop 1).take (Try.prog.cellsOf 3)) = some y1 := hf 1 _ rfl
    rw [cells_int] at f0 f1
    exact ints_step (o := 0) (n := 1) (ints_int Try.underlying3 f0) (ints_step (o := 1) (n := 1) (ints_int Try.underlying3 f1) (ints_end (by omega)))

section
variable {H : Type} {enc : TypeId × Value → H} {W : World}
/-- the number that a cell holds. -/
def numOfCell (w : World) (a : Addr) : Int := match w.cell? a with
  | some (.int .i64 z) => z
  | _ => 0

/-- a slice of structs of numbers, by its cell. -/
theorem open_many {t e : TypeId} {size : Nat} (ht : Try.prog.underlying t = some (.slice e)) (hc : Try.prog.cellsOf e = size) (h0 : 0 < size)
    (hints : ∀ {fuel : Nat} {cs : List Value} {x : DataW H × List MemPlace}, DataW.trod enc Try.prog W 0 (fun _ => true) true fuel e cs = some x → Ints cs ∧ cs.length = size)
    {fuel : Nat} {cs : List Value} {d : DataW H} {p : List MemPlace} (hf : DataW.trod enc Try.prog W 0 (fun _ => true) true fuel t cs = some (d, p)) :
    ∃ a len cap D, cs = [.slice a len cap] ∧ RowK .i64 W a (size * len) D ∧ len ≤ cap ∧ cap ≤ maxLen ∧ (a = none → cap = 0) ∧ ((d = .nil ∧ cap = 0) ∨ ∃ es sp, d = .slice es sp ∧ es.length + sp.length = cap) := by
  rcases Go.Deep.open_slice ht hf with ⟨rfl, hx⟩ | ⟨x, l, c, m, n, Dd, Pl, rfl, _, hl, hm, hmm, hx, hall⟩
  · simp only [Prod.mk.injEq] at hx
    exact ⟨none, 0, 0, [], rfl, RowK.nil _ _ _, Nat.le_refl _, by unfold maxLen; omega, fun _ => rfl, .inl ⟨hx.1, rfl⟩⟩
  · simp only [if_true] at hmm
    subst hmm
    simp only [Prod.mk.injEq] at hx
    have hdat : (d = .nil ∧ m = 0) ∨ ∃ es sp, d = .slice es sp ∧ es.length + sp.length = m := .inr ⟨_, _, hx.1, by simp; omega⟩
    have key : ∀ i, i < l → ∀ t, t < size → ∃ z, W.cell? ((x.add (i * size)).add t) = some (.int .i64 z) ∧ (Lit.int .i64 z).wf = true := by
      intro i hi t ht
      obtain ⟨cs', h1, h2⟩ := hall i (by omega)
      rw [hc] at h1
      obtain ⟨⟨zs, rfl, hw⟩, hl4⟩ := hints h2
      have hl4' : zs.length = size := by simpa using hl4
      have h3 := (World.cells?_some h1).2.2 t ht
      rw [h3, List.getElem?_map, List.getElem?_eq_getElem (show t < zs.length by omega)]
      exact ⟨zs[t]'(by omega), rfl, hw _ (List.getElem_mem _)⟩
    obtain ⟨b, off, spot⟩ := x
    by_cases hl0 : l = 0
    · subst hl0
      exact ⟨_, _, _, [], rfl, RowK.nil _ _ _, hl, hm, by simp, hdat⟩
    have hspot : spot = none := by
      obtain ⟨z, hz, _⟩ := key 0 (by omega) 0 (by omega)
      simpa [Addr.add] using World.cell?_spot hz
    subst hspot
    have hadd : ∀ i t, ((⟨b, off, none⟩ : Addr).add i).add t = ⟨b, off + (i + t), none⟩ := by
      intro i t
      have h1 : ∀ (o j : Nat), (⟨b, o, none⟩ : Addr).add j = ⟨b, o + j, none⟩ := fun o j => by unfold Addr.add; split <;> simp_all
      rw [h1, h1, Nat.add_assoc]
    have cell : ∀ j, j < size * l → W.cell? ⟨b, off + j, none⟩ = some (.int .i64 (numOfCell W ⟨b, off + j, none⟩)) ∧ (Lit.int .i64 (numOfCell W ⟨b, off + j, none⟩)).wf = true := by
      intro j hj
      obtain ⟨z, hz, hw⟩ := key (j / size) (Nat.div_lt_of_lt_mul hj) (j % size) (Nat.mod_lt _ h0)
      rw [hadd, Nat.mul_comm (j / size) size, Nat.div_add_mod] at hz
      have hn : numOfCell W ⟨b, off + j, none⟩ = z := by unfold numOfCell; rw [hz]
      rw [hn]
      exact ⟨hz, hw⟩
    refine ⟨_, _, _, (List.range (size * l)).map (fun j => numOfCell W ⟨b, off + j, none⟩), rfl, ⟨by simp, ?_, ?_⟩, hl, hm, by simp, hdat⟩
    · intro u hu
      simp only [List.mem_map, List.mem_range] at hu
      obtain ⟨j, hj, rfl⟩ := hu
      exact (cell j hj).2
    · intro j hj
      have hcj := (cell j hj).1
      refine ⟨b, off, rfl, ?_, ?_⟩
      · unfold World.cell? at hcj
        by_cases hbl : b < W.heap.size
        · exact hbl
        · simp [Array.getElem?_eq_none (show W.heap.size ≤ b by omega)] at hcj
      · rw [hcj]
        simp [List.getD_eq_getElem?_getD, hj]

end
set_option maxRecDepth 20000 in
theorem open_Loads {H : Type} {enc : TypeId × Value → H} {W : World} {r : Reach} {b0 : Nat} {v : Value} {d : DataW H} {p : List MemPlace} (hv : Value.okWide Try.prog W r b0 22 v) (h : DataW.Trod enc Try.prog W 0 (fun _ => true) true 22 v d p) :
    ∃ a len cap D, v = .slice a len cap ∧ RowK .i64 W a (3 * len) D ∧ len ≤ cap ∧ cap ≤ maxLen ∧ (a = none → cap = 0) ∧ ((d = .nil ∧ cap = 0) ∨ ∃ es sp, d = .slice es sp ∧ es.length + sp.length = cap) := by
  obtain ⟨a, len, cap, rfl⟩ := okWide_slice Try.underlying22 hv
  obtain ⟨fuel, hf⟩ := h
  obtain ⟨a', len', cap', D, hcs, r1⟩ := open_many Try.underlying22 cells_load (by decide) ints_load hf
  simp [Value.cells] at hcs
  obtain ⟨rfl, rfl, rfl⟩ := hcs
  exact ⟨_, _, _, D, rfl, r1⟩
set_option maxRecDepth 20000 in
theorem open_Burdens {H : Type} {enc : TypeId × Value → H} {W : World} {r : Reach} {b0 : Nat} {v : Value} {d : DataW H} {p : List MemPlace} (hv : Value.okWide Try.prog W r b0 34 v) (h : DataW.Trod enc Try.prog W 0 (fun _ => true) true 34 v d p) :
    ∃ a len cap D, v = .slice a len cap ∧ RowK .i64 W a (2 * len) D ∧ len ≤ cap ∧ cap ≤ maxLen ∧ (a = none → cap = 0) ∧ ((d = .nil ∧ cap = 0) ∨ ∃ es sp, d = .slice es sp ∧ es.length + sp.length = cap) := by
  obtain ⟨a, len, cap, rfl⟩ := okWide_slice Try.underlying34 hv
  obtain ⟨fuel, hf⟩ := h
  obtain ⟨a', len', cap', D, hcs, r1⟩ := open_many Try.underlying34 cells_burden (by decide) ints_burden hf
  simp [Value.cells] at hcs
  obtain ⟨rfl, rfl, rfl⟩ := hcs
  exact ⟨_, _, _, D, rfl, r1⟩
end Go.Proofs.Ytmkbidglfnpgjaa
