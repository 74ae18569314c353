/- A client that came in by value: its numbers, what waits, where queues are. Errands that came in. -/
import Derived.Test.YtjolamdlclcpcaaHsO
import Derived.Test.YtjolamdlclcpcaaClA
namespace Go.Proofs.Ytjolamdlclcpcaa
open Go.ChangeShapes Go.WideShapes Go.ChangeAt Go.RowKit

theorem cells_client : Try.prog.cellsOf 25 = 7 := by kernel_rfl
theorem cells_eventsC : Try.prog.cellsOf 22 = 1 := by kernel_rfl
theorem cells_four : Try.prog.cellsOf 23 = 4 := by kernel_rfl
theorem bytes_eventC : Try.prog.bytesOf 37 = 48 := by kernel_rfl
section
variable {H : Type} {enc : TypeId × Value → H} {W : World}
theorem ints_four {base : Nat} {sp : Nat → Bool} {held : Bool} {fuel : Nat} {cs : List Value} {x : DataW H × List MemPlace} (h : DataW.trod enc Try.prog W base sp held fuel 23 cs = some x) : Ints cs := by
  obtain ⟨xs, n, _, _, hl, hlen, hf⟩ := DataW.trod_array Try.underlying23 h
  rw [cells_four] at hl
  rw [cells_int] at hf
  match xs, hlen with
  | [y0, y1, y2, y3], _ =>
    have f0 : DataW.trod enc Try.prog W base sp held n 3 ((cs.drop 0).take 1) = some y0 := hf 0 (by omega)
    have f1 : DataW.trod enc Try.prog W base sp held n 3 ((cs.drop 1).take 1) = some y1 := hf 1 (by omega)
    have f2 : DataW.trod enc Try.prog W base sp held n 3 ((cs.drop 2).take 1) = some y2 := hf 2 (by omega)
    have f3 : DataW.trod enc Try.prog W base sp held n 3 ((cs.drop 3).take 1) = some y3 := hf 3 (by omega)
    exact ints_step (o := 0) (n := 1) (ints_int Try.underlying3 f0) (ints_step (o := 1) (n := 1) (ints_int Try.underlying3 f1) (ints_step (o := 2) (n := 1) (ints_int Try.underlying3 f2) (ints_step (o := 3) (n := 1) (ints_int Try.underlying3 f3) (ints_end (by omega)))))
set_option maxRecDepth 20000 in
set_option maxHeartbeats 1000000 in
theorem open_Client {r : Reach} {b0 : Nat} {v : Value} {d : DataW H} {p : List MemPlace} (hv : Value.okWide Try.prog W r b0 25 v) (h : DataW.Trod enc Try.prog W 0 (fun _ => true) true 25 v d p) :
    ∃ (C : Cl) (a : Option Addr) (c : Nat), v = cVal C.p C.n a C.es.length c C.wh ∧ (c * 48 ≤ 140737488351232 → CIn W C a c) ∧
      ∀ (ts : List TypeId) (ds : List (DataW H)) (j : Nat), (DataW.weightsEach Try.prog ts ds).all (· ≤ reachBytes) = true → ts[j]? = some 25 → ds[j]? = some d → c * 48 ≤ 140737488351232 := by
  obtain ⟨cs, n, rfl, hsz, hf⟩ := open_struct Try.underlying25 hv h
  rw [cells_client] at hsz
  obtain ⟨xs, m, _, hx, hl, hlen, hfs⟩ := DataW.trod_struct Try.underlying25 hf
  obtain ⟨cs⟩ := cs
  have hsz' : cs.length = 7 := by simpa using hsz
  match xs, hlen with
  | [y0, y1, y2, y3], _ =>
    have f0 : DataW.trod enc Try.prog W 0 (fun _ => true) true m 3 ((cs.drop 0).take (Try.prog.cellsOf 3)) = some y0 := hfs 0 _ rfl
    have f1 : DataW.trod enc Try.prog W 0 (fun _ => true) true m 3 ((cs.drop 1).take (Try.prog.cellsOf 3)) = some y1 := hfs 1 _ rfl
    have f2 : DataW.trod enc Try.prog W 0 (fun _ => true) true m 22 ((cs.drop 2).take (Try.prog.cellsOf 22)) = some y2 := hfs 2 _ rfl
    have f3 : DataW.trod enc Try.prog W 0 (fun _ => true) true m 23 ((cs.drop 3).take (Try.prog.cellsOf 23)) = some y3 := hfs 3 _ rfl
    rw [cells_int] at f0 f1
    rw [cells_eventsC] at f2
    rw [cells_four] at f3
    obtain ⟨z0, e0, _, _⟩ := DataW.trod_int Try.underlying3 f0
    obtain ⟨z1, e1, _, _⟩ := DataW.trod_int Try.underlying3 f1
    obtain ⟨a, len, cap, D, e2, row, len', _, nil, dat⟩ := open_many Try.underlying22 cells_event (by decide) ints_event6 (d := y2.1) (p := y2.2) f2
    obtain ⟨zs, hz, hw⟩ := ints_four f3
    have hzl : zs.length = 4 := by have := congrArg List.length hz; simp at this; omega
    match zs, hzl with
    | [u0, u1, u2, u3], _ =>
      refine ⟨⟨z0, z1, evsOf D len, fun q => match q with | 0 => u0 | 1 => u1 | 2 => u2 | _ => u3⟩, a, cap, ?_, fun hc => ⟨evFlat_of_row row, by rw [evsOf_len]; exact len', nil, by simp only [evsOf_len]; omega⟩, ?_⟩
      · match cs, hsz' with
        | [v0, v1, v2, v3, v4, v5, v6], _ =>
          simp at e0 e1 e2 hz
          obtain ⟨h3, h4, h5, h6⟩ := hz
          rw [e0, e1, e2, h3, h4, h5, h6, evsOf_len]
          rfl
      · intro ts ds j hall ht hd
        have hx1 : d = .agg [y0.1, y1.1, y2.1, y3.1] := by simpa using (Prod.mk.inj hx).1
        subst hx1
        rcases dat with ⟨_, rfl⟩ | ⟨es, sp, he', rfl⟩
        · simp
        · have := List.all_eq_true.1 hall _ (DataW.weights_mem_each ht hd ((es.length + sp.length) * Try.prog.bytesOf 37) (by rw [he']; simp [DataW.weights, DataW.weightsEach, Try.underlying25, Try.underlying22]))
          rw [bytes_eventC] at this
          exact of_decide_eq_true this
end
theorem cells_errand : Try.prog.cellsOf 57 = 2 := by kernel_rfl
theorem ints_errand {H : Type} {enc : TypeId × Value → H} {W : World} {base : Nat} {sp : Nat → Bool} {held : Bool} {fuel : Nat} {cs : List Value} {x : DataW H × List MemPlace} (h : DataW.trod enc Try.prog W base sp held fuel 57 cs = some x) : Ints cs ∧ cs.length = 2 := by
  obtain ⟨xs, n, _, _, hl, hlen, hf⟩ := DataW.trod_struct Try.underlying57 h
  rw [cells_errand] at hl
  refine ⟨?_, hl⟩
  match xs, hlen with
  | [y0, y1], _ =>
    have f0 : DataW.trod enc Try.prog W base sp held n 3 ((cs.drop 0).take (Try.prog.cellsOf 3)) = some y0 := hf 0 _ rfl
    have f1 : DataW.trod enc Try.prog W base sp held n 3 ((cs.drop 1).take (Try.prog.cellsOf 3)) = some y1 := hf 1 _ rfl
    rw [cells_int] at f0 f1
    exact ints_step (o := 0) (n := 1) (ints_int Try.underlying3 f0) (ints_step (o := 1) (n := 1) (ints_int Try.underlying3 f1) (ints_end (by omega)))
set_option maxRecDepth 20000 in
theorem open_Errands {H : Type} {enc : TypeId × Value → H} {W : World} {r : Reach} {b0 : Nat} {v : Value} {d : DataW H} {p : List MemPlace} (hv : Value.okWide Try.prog W r b0 46 v) (h : DataW.Trod enc Try.prog W 0 (fun _ => true) true 46 v d p) :
    ∃ a len cap D, v = .slice a len cap ∧ RowK .i64 W a (2 * len) D ∧ len ≤ cap ∧ cap ≤ maxLen ∧ (a = none → cap = 0) ∧ ((d = .nil ∧ cap = 0) ∨ ∃ es sp, d = .slice es sp ∧ es.length + sp.length = cap) := by
  obtain ⟨a, len, cap, rfl⟩ := okWide_slice Try.underlying46 hv
  obtain ⟨fuel, hf⟩ := h
  obtain ⟨a', len', cap', D, hcs, r1⟩ := open_many Try.underlying46 cells_errand (by decide) ints_errand hf
  simp [Value.cells] at hcs
  obtain ⟨rfl, rfl, rfl⟩ := hcs
  exact ⟨_, _, _, D, rfl, r1⟩
end Go.Proofs.Ytjolamdlclcpcaa
