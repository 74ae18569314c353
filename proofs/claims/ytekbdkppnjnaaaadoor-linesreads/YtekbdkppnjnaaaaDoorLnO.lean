/- Acts and lists of acts that came in; the table of kinds out of the row's own condition. -/
import Derived.Test.YtekbdkppnjnaaaaDoorLnE
import Derived.Test.YtekbdkppnjnaaaaDoorRows
import Derived.Test.YtekbdkppnjnaaaaDoorPkO
import Derived.Deep.Slices
import Derived.LaidMore
import Derived.Stop.Joined
import Derived.Stop.LaidErr
namespace Go.Proofs.YtekbdkppnjnaaaaDoor
open Go.ChangeShapes Go.WideShapes Go.ChangeAt Go.RowKit

theorem cells_act : Tryd.prog.cellsOf 27 = 11 := by kernel_rfl
theorem ints_act {H : Type} {enc : TypeId × Value → H} {W : World} {base : Nat} {sp : Nat → Bool} {held : Bool} {fuel : Nat} {cs : List Value} {x : DataW H × List MemPlace} (h : DataW.trod enc Tryd.prog W base sp held fuel 27 cs = some x) : Ints cs ∧ cs.length = 11 := by
  obtain ⟨xs, n, _, _, hl, hlen, hf⟩ := DataW.trod_struct Tryd.underlying27 h
  rw [cells_act] at hl
  refine ⟨?_, hl⟩
  match xs, hlen with
  | [y0, y1, y2, y3, y4, y5], _ =>
    have f0 : DataW.trod enc Tryd.prog W base sp held n 3 ((cs.drop 0).take (Tryd.prog.cellsOf 3)) = some y0 := hf 0 _ rfl
    rw [cells_int] at f0
    have f1 : DataW.trod enc Tryd.prog W base sp held n 3 ((cs.drop 1).take (Tryd.prog.cellsOf 3)) = some y1 := hf 1 _ rfl
    rw [cells_int] at f1
    have f2 : DataW.trod enc Tryd.prog W base sp held n 3 ((cs.drop 2).take (Tryd.prog.cellsOf 3)) = some y2 := hf 2 _ rfl
    rw [cells_int] at f2
    have f3 : DataW.trod enc Tryd.prog W base sp held n 3 ((cs.drop 3).take (Tryd.prog.cellsOf 3)) = some y3 := hf 3 _ rfl
    rw [cells_int] at f3
    have f4 : DataW.trod enc Tryd.prog W base sp held n 3 ((cs.drop 4).take (Tryd.prog.cellsOf 3)) = some y4 := hf 4 _ rfl
    rw [cells_int] at f4
    have f5 : DataW.trod enc Tryd.prog W base sp held n 25 ((cs.drop 5).take (Tryd.prog.cellsOf 25)) = some y5 := hf 5 _ rfl
    rw [cells_event] at f5
    exact ints_step (o := 0) (n := 1) (ints_int Tryd.underlying3 f0) (ints_step (o := 1) (n := 1) (ints_int Tryd.underlying3 f1) (ints_step (o := 2) (n := 1) (ints_int Tryd.underlying3 f2) (ints_step (o := 3) (n := 1) (ints_int Tryd.underlying3 f3) (ints_step (o := 4) (n := 1) (ints_int Tryd.underlying3 f4) (ints_step (o := 5) (n := 6) (ints_event f5) (ints_end (by omega)))))))
theorem cells_feat : Tryd.prog.cellsOf 78 = 5 := by kernel_rfl
theorem ints_feat {H : Type} {enc : TypeId × Value → H} {W : World} {base : Nat} {sp : Nat → Bool} {held : Bool} {fuel : Nat} {cs : List Value} {x : DataW H × List MemPlace} (h : DataW.trod enc Tryd.prog W base sp held fuel 78 cs = some x) : Ints cs ∧ cs.length = 5 := by
  obtain ⟨xs, n, _, _, hl, hlen, hf⟩ := DataW.trod_struct Tryd.underlying78 h
  rw [cells_feat] at hl
  refine ⟨?_, hl⟩
  match xs, hlen with
  | [y0, y1, y2, y3, y4], _ =>
    have f0 : DataW.trod enc Tryd.prog W base sp held n 3 ((cs.drop 0).take (Tryd.prog.cellsOf 3)) = some y0 := hf 0 _ rfl
    rw [cells_int] at f0
    have f1 : DataW.trod enc Tryd.prog W base sp held n 3 ((cs.drop 1).take (Tryd.prog.cellsOf 3)) = some y1 := hf 1 _ rfl
    rw [cells_int] at f1
    have f2 : DataW.trod enc Tryd.prog W base sp held n 3 ((cs.drop 2).take (Tryd.prog.cellsOf 3)) = some y2 := hf 2 _ rfl
    rw [cells_int] at f2
    have f3 : DataW.trod enc Tryd.prog W base sp held n 3 ((cs.drop 3).take (Tryd.prog.cellsOf 3)) = some y3 := hf 3 _ rfl
    rw [cells_int] at f3
    have f4 : DataW.trod enc Tryd.prog W base sp held n 3 ((cs.drop 4).take (Tryd.prog.cellsOf 3)) = some y4 := hf 4 _ rfl
    rw [cells_int] at f4
    exact ints_step (o := 0) (n := 1) (ints_int Tryd.underlying3 f0) (ints_step (o := 1) (n := 1) (ints_int Tryd.underlying3 f1) (ints_step (o := 2) (n := 1) (ints_int Tryd.underlying3 f2) (ints_step (o := 3) (n := 1) (ints_int Tryd.underlying3 f3) (ints_step (o := 4) (n := 1) (ints_int Tryd.underlying3 f4) (ints_end (by omega))))))
set_option maxRecDepth 20000 in
theorem open_Act {H : Type} {enc : TypeId × Value → H} {W : World} {base : Nat} {sp : Nat → Bool} {held : Bool} {r : Reach} {b0 : Nat} {v : Value} {d : DataW H} {p : List MemPlace} (hv : Value.okWide Tryd.prog W r b0 27 v) (h : DataW.Trod enc Tryd.prog W base sp held 27 v d p) :
    ∃ f : Nat → Int, v = aVal f := by
  obtain ⟨cs, n, rfl, hsz, hf⟩ := open_struct Tryd.underlying27 hv h
  rw [cells_act] at hsz
  obtain ⟨⟨zs, hz, hw⟩, _⟩ := ints_act hf
  have hl : zs.length = 11 := by have := congrArg List.length hz; simp at this; omega
  match zs, hl with
  | [x0, x1, x2, x3, x4, x5, x6, x7, x8, x9, x10], _ => exact ⟨vec [x0, x1, x2, x3, x4, x5, x6, x7, x8, x9, x10], by rw [← Array.toArray_toList (xs := cs), hz]; rfl⟩
section
variable {H : Type} {enc : TypeId × Value → H} {W : World}
/-- the number that a cell holds. -/
def numOfCell (w : World) (a : Addr) : Int := match w.cell? a with
  | some (.int .i64 z) => z
  | _ => 0

/-- a slice of structs of numbers, by its cell. -/
theorem open_many {t e : TypeId} {size : Nat} (ht : Tryd.prog.underlying t = some (.slice e)) (hc : Tryd.prog.cellsOf e = size) (h0 : 0 < size)
    (hints : ∀ {fuel : Nat} {cs : List Value} {x : DataW H × List MemPlace}, DataW.trod enc Tryd.prog W 0 (fun _ => true) true fuel e cs = some x → Ints cs ∧ cs.length = size)
    {fuel : Nat} {cs : List Value} {d : DataW H} {p : List MemPlace} (hf : DataW.trod enc Tryd.prog W 0 (fun _ => true) true fuel t cs = some (d, p)) :
    ∃ a len cap D, cs = [.slice a len cap] ∧ RowK .i64 W a (size * len) D ∧ len ≤ cap ∧ cap ≤ maxLen ∧ (a = none → cap = 0) ∧ ((d = .nil ∧ cap = 0) ∨ ∃ es sp, d = .slice es sp ∧ es.length + sp.length = cap) := by
  rcases Go.Deep.open_slice ht hf with ⟨rfl, hx⟩ | ⟨x, l, c, m, n, Dd, Pl, rfl, _, hl, hm, hmm, hx, hall⟩
  · simp only [Prod.mk.injEq] at hx
    exact ⟨none, 0, 0, [], rfl, RowK.nil _ _ _, Nat.le_refl _, by unfold maxLen; omega, fun _ => rfl, .inl ⟨hx.1, rfl⟩⟩
  · simp only [if_true] at hmm
    subst hmm
    simp only [Prod.mk.injEq] at hx
    have hdat : (d = .nil ∧ m = 0) ∨ ∃ es sp, d = .slice es sp ∧ es.length + sp.length = m := .inr ⟨_, _, hx.1, by simp; omega⟩
    have key : ∀ i, i < l → ∀ t, t < size → ∃ z, W.cell? ((x.add (i * size)).add t) = some (.int .i64 z) ∧ (Lit.int .i64 z).wf = true := by
      intro i hi t ht
      obtain ⟨cs', h1, h2⟩ := hall i (by omega)
      rw [hc] at h1
      obtain ⟨⟨zs, rfl, hw⟩, hl4⟩ := hints h2
      have hl4' : zs.length = size := by simpa using hl4
      have h3 := (World.cells?_some h1).2.2 t ht
      rw [h3, List.getElem?_map, List.getElem?_eq_getElem (show t < zs.length by omega)]
      exact ⟨zs[t]'(by omega), rfl, hw _ (List.getElem_mem _)⟩
    obtain ⟨b, off, spot⟩ := x
    by_cases hl0 : l = 0
    · subst hl0
      exact ⟨_, _, _, [], rfl, RowK.nil _ _ _, hl, hm, by simp, hdat⟩
    have hspot : spot = none := by
      obtain ⟨z, hz, _⟩ := key 0 (by omega) 0 (by omega)
      simpa [Addr.add] using World.cell?_spot hz
    subst hspot
    have hadd : ∀ i t, ((⟨b, off, none⟩ : Addr).add i).add t = ⟨b, off + (i + t), none⟩ := by
      intro i t
      have h1 : ∀ (o j : Nat), (⟨b, o, none⟩ : Addr).add j = ⟨b, o + j, none⟩ := fun o j => by unfold Addr.add; split <;> simp_all
      rw [h1, h1, Nat.add_assoc]
    have cell : ∀ j, j < size * l → W.cell? ⟨b, off + j, none⟩ = some (.int .i64 (numOfCell W ⟨b, off + j, none⟩)) ∧ (Lit.int .i64 (numOfCell W ⟨b, off + j, none⟩)).wf = true := by
      intro j hj
      obtain ⟨z, hz, hw⟩ := key (j / size) (Nat.div_lt_of_lt_mul hj) (j % size) (Nat.mod_lt _ h0)
      rw [hadd, Nat.mul_comm (j / size) size, Nat.div_add_mod] at hz
      have hn : numOfCell W ⟨b, off + j, none⟩ = z := by unfold numOfCell; rw [hz]
      rw [hn]
      exact ⟨hz, hw⟩
    refine ⟨_, _, _, (List.range (size * l)).map (fun j => numOfCell W ⟨b, off + j, none⟩), rfl, ⟨by simp, ?_, ?_⟩, hl, hm, by simp, hdat⟩
    · intro u hu
      simp only [List.mem_map, List.mem_range] at hu
      obtain ⟨j, hj, rfl⟩ := hu
      exact (cell j hj).2
    · intro j hj
      have hcj := (cell j hj).1
      refine ⟨b, off, rfl, ?_, ?_⟩
      · unfold World.cell? at hcj
        by_cases hbl : b < W.heap.size
        · exact hbl
        · simp [Array.getElem?_eq_none (show W.heap.size ≤ b by omega)] at hcj
      · rw [hcj]
        simp [List.getD_eq_getElem?_getD, hj]
set_option maxRecDepth 20000 in
theorem open_Acts {r : Reach} {b0 : Nat} {v : Value} {d : DataW H} {p : List MemPlace} (hv : Value.okWide Tryd.prog W r b0 31 v) (h : DataW.Trod enc Tryd.prog W 0 (fun _ => true) true 31 v d p) :
    ∃ a len cap D, v = .slice a len cap ∧ RowK .i64 W a (11 * len) D ∧ len ≤ cap ∧ cap ≤ maxLen ∧ (a = none → cap = 0) ∧ ((d = .nil ∧ cap = 0) ∨ ∃ es sp, d = .slice es sp ∧ es.length + sp.length = cap) := by
  obtain ⟨a, len, cap, rfl⟩ := okWide_slice Tryd.underlying31 hv
  obtain ⟨fuel, hf⟩ := h
  obtain ⟨a', len', cap', D, hcs, r1⟩ := open_many Tryd.underlying31 cells_act (by decide) ints_act hf
  simp [Value.cells] at hcs
  obtain ⟨rfl, rfl, rfl⟩ := hcs
  exact ⟨_, _, _, D, rfl, r1⟩
set_option maxRecDepth 20000 in
theorem open_Feats {r : Reach} {b0 : Nat} {v : Value} {d : DataW H} {p : List MemPlace} (hv : Value.okWide Tryd.prog W r b0 42 v) (h : DataW.Trod enc Tryd.prog W 0 (fun _ => true) true 42 v d p) :
    ∃ a len cap D, v = .slice a len cap ∧ RowK .i64 W a (5 * len) D ∧ len ≤ cap ∧ cap ≤ maxLen ∧ (a = none → cap = 0) ∧ ((d = .nil ∧ cap = 0) ∨ ∃ es sp, d = .slice es sp ∧ es.length + sp.length = cap) := by
  obtain ⟨a, len, cap, rfl⟩ := okWide_slice Tryd.underlying42 hv
  obtain ⟨fuel, hf⟩ := h
  obtain ⟨a', len', cap', D, hcs, r1⟩ := open_many Tryd.underlying42 cells_feat (by decide) ints_feat hf
  simp [Value.cells] at hcs
  obtain ⟨rfl, rfl, rfl⟩ := hcs
  exact ⟨_, _, _, D, rfl, r1⟩
end
theorem gKinds : Tryd.prog.globalNamed "berthshift/lines.kinds" = some 0 := by kernel_rfl
theorem tKinds : (Tryd.prog.globals[0]?).map (·.type) = some 79 := by kernel_rfl
theorem cells_kind : Tryd.prog.cellsOf 49 = 3 := by kernel_rfl
theorem cells_kinds : Tryd.prog.cellsOf 79 = 36 := by kernel_rfl
theorem cells_str : Tryd.prog.cellsOf 9 = 1 := by kernel_rfl
set_option maxRecDepth 20000 in
theorem kind_cells {enc : TypeId × Value → Unit} {W : World} {base : Nat} {sp : Nat → Bool} {held : Bool} {fuel : Nat} {cs : List Value} {x : DataW Unit × List MemPlace} {b : List UInt8} {a o : Int} (h : DataW.trod enc Tryd.prog W base sp held fuel 49 cs = some x) (hx : x.1 = .agg [.lit (.string b), .lit (.int .i64 a), .lit (.int .i64 o)]) : cs = [.string ⟨b.toArray⟩, .int .i64 a, .int .i64 o] := by
  obtain ⟨xs, n, _, rfl, hl, hlen, hf⟩ := DataW.trod_struct Tryd.underlying49 h
  rw [cells_kind] at hl
  match xs, hlen with
  | [y0, y1, y2], _ =>
    have f0 : DataW.trod enc Tryd.prog W base sp held n 9 ((cs.drop 0).take (Tryd.prog.cellsOf 9)) = some y0 := hf 0 _ rfl
    have f1 : DataW.trod enc Tryd.prog W base sp held n 3 ((cs.drop 1).take (Tryd.prog.cellsOf 3)) = some y1 := hf 1 _ rfl
    have f2 : DataW.trod enc Tryd.prog W base sp held n 3 ((cs.drop 2).take (Tryd.prog.cellsOf 3)) = some y2 := hf 2 _ rfl
    rw [cells_str] at f0
    rw [cells_int] at f1 f2
    obtain ⟨s, e0, rfl, _⟩ := DataW.trod_string Tryd.underlying9 f0
    obtain ⟨z1, e1, rfl, _⟩ := DataW.trod_int Tryd.underlying3 f1
    obtain ⟨z2, e2, rfl, _⟩ := DataW.trod_int Tryd.underlying3 f2
    simp only [List.map_cons, List.map_nil, DataW.agg.injEq, List.cons.injEq, DataW.lit.injEq, Lit.string.injEq, Lit.int.injEq, and_true, true_and] at hx
    obtain ⟨rfl, rfl, rfl⟩ := hx
    match cs, hl with
    | [c0, c1, c2], _ =>
      simp at e0 e1 e2
      subst e0 e1 e2
      rfl
set_option maxRecDepth 20000 in
theorem kList_chunk : ∀ i, i < 12 → (kList.drop (i * 3)).take 3 = [.string (kword i), .int .i64 (kact i), .int .i64 (kop i)] := by
  refine below12 ?_ ?_ ?_ ?_ ?_ ?_ ?_ ?_ ?_ ?_ ?_ ?_ <;> rfl
theorem chunks {l : List Value} (hl : l.length = 36) (h : ∀ i, i < 12 → (l.drop (i * 3)).take 3 = [.string (kword i), .int .i64 (kact i), .int .i64 (kop i)]) : l = kList := by
  have key : ∀ m : List Value, ∀ j, m[j]? = ((m.drop (j / 3 * 3)).take 3)[j % 3]? := fun m j => by
    rw [List.getElem?_take, if_pos (Nat.mod_lt _ (by decide)), List.getElem?_drop]
    congr 1
    omega
  refine List.ext_getElem? fun j => ?_
  by_cases hj : j < 36
  · rw [key l j, key kList j, h (j / 3) (by omega), kList_chunk (j / 3) (by omega)]
  · rw [List.getElem?_eq_none (by omega), List.getElem?_eq_none (by rw [kList_len]; omega)]
set_option maxRecDepth 20000 in
theorem kinds_of_laid {W : World} (h : laidMet Tryd.prog [("berthshift/lines.kinds", Rows.laid_berthshift_lines_kinds)] W) : Kinds W := by
  obtain ⟨ps, ⟨g0, t0, cs0, f0, p0, q0, hg0, ht0, hv0, hd0, _, _⟩, _, _⟩ := h
  obtain rfl := Option.some.inj (gKinds.symm.trans hg0)
  obtain rfl := Option.some.inj (tKinds.symm.trans ht0)
  obtain ⟨xs, m, rfl, hx, hlen, hn, hel⟩ := DataW.trod_array Tryd.underlying79 hd0
  rw [cells_kinds] at hlen
  have hcs : cs0.toList = kList := by
    refine chunks hlen fun i hi => ?_
    have h1 := hel i hi
    rw [cells_kind] at h1
    have hm : xs.map (·.1) = _ := (DataW.agg.inj (Prod.mk.inj hx).1).symm
    have h2 : (xs.map (·.1))[i]? = some (.agg [.lit (.string (kword i).data.toList), .lit (.int .i64 (kact i)), .lit (.int .i64 (kop i))]) := by
      rw [hm]
      revert i
      refine below12 ?_ ?_ ?_ ?_ ?_ ?_ ?_ ?_ ?_ ?_ ?_ ?_ <;> intros <;> rfl
    rw [List.getElem?_map] at h2
    cases hxi : xs[i]? with
    | none => rw [hxi] at h2; cases h2
    | some x =>
      rw [hxi] at h1 h2
      have := kind_cells h1 (Option.some.inj h2)
      rw [this]
  have hb : ∃ e fz, W.heap[0]? = some (.cells cs0 e fz) := by
    simp only [World.var?, gKinds, Option.bind_some] at hv0
    split at hv0
    · rename_i cs e fz heq
      cases hv0
      exact ⟨e, fz, heq⟩
    · cases hv0
  obtain ⟨e, fz, hb⟩ := hb
  exact ⟨e, fz, by rw [hb, ← hcs]⟩
end Go.Proofs.YtekbdkppnjnaaaaDoor
