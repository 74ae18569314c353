/- A tape that came in by value: its bytes and how many of them are synced. -/
import Derived.Test.YtdpenbgmmgljoaaPkO
namespace Go.Proofs.Ytdpenbgmmgljoaa
open Go.ChangeShapes Go.WideShapes Go.ChangeAt Go.RowKit

section
variable {H : Type} {enc : TypeId × Value → H} {P : Program}

/-- a slice of integers that came in, by its cell. -/
theorem open_row_cell {W : World} {t e : TypeId} {k : IntKind} (ht : P.underlying t = some (.slice e)) (he : P.underlying e = some (.int k)) (hc : P.cellsOf e = 1) {fuel : Nat} {cs : List Value} {d : DataW H} {p : List MemPlace}
    (hf : DataW.trod enc P W 0 (fun _ => true) true fuel t cs = some (d, p)) :
    ∃ a len cap l, cs = [.slice a len cap] ∧ RowK k W a len l ∧ len ≤ cap ∧ cap ≤ maxLen ∧ (a = none → cap = 0) ∧ ((d = .nil ∧ cap = 0) ∨ ∃ es sp, d = .slice es sp ∧ es.length + sp.length = cap) := by
  rcases open_ints ht he hc hf with ⟨rfl, hx⟩ | ⟨x, len, cap, zs, rfl, _, hl, hm, hz, hx, hcell, hwz⟩
  · simp only [Prod.mk.injEq] at hx
    exact ⟨none, 0, 0, [], rfl, RowK.nil _ _ _, Nat.le_refl _, by unfold maxLen; omega, fun _ => rfl, .inl ⟨hx.1, rfl⟩⟩
  · simp only [Prod.mk.injEq] at hx
    have hz' : zs.length = cap := by simpa using hz
    refine ⟨_, _, _, zs.take len, rfl, ⟨by simp; omega, fun u hu => hwz u (List.mem_of_mem_take hu), fun i hi => ?_⟩, hl, hm, by simp, .inr ?_⟩
    · have hci := hcell i (by omega)
      obtain ⟨b, off, spot⟩ := x
      have hspot : spot = none := by
        simpa [Addr.add] using World.cell?_spot (hcell 0 (by omega))
      subst hspot
      have hadd : (⟨b, off, none⟩ : Addr).add i = ⟨b, off + i, none⟩ := by unfold Addr.add; split <;> simp_all
      rw [hadd] at hci
      refine ⟨b, off, rfl, ?_, ?_⟩
      · unfold World.cell? at hci
        by_cases hbl : b < W.heap.size
        · exact hbl
        · simp [Array.getElem?_eq_none (show W.heap.size ≤ b by omega)] at hci
      · rw [hci]
        simp [hi]
    · exact ⟨_, _, hx.1, by simp [lits]; omega⟩
end

theorem cells_tape : Try.prog.cellsOf 27 = 2 := by kernel_rfl
theorem cells_bytes : Try.prog.cellsOf 22 = 1 := by kernel_rfl
theorem cells_byte : Try.prog.cellsOf 5 = 1 := by kernel_rfl
theorem bytes_byte : Try.prog.bytesOf 5 = 1 := by kernel_rfl

section
variable {H : Type} {enc : TypeId × Value → H} {W : World}

theorem open_Tape {r : Reach} {b0 : Nat} {v : Value} {d : DataW H} {p : List MemPlace} (hv : Value.okWide Try.prog W r b0 27 v) (h : DataW.Trod enc Try.prog W 0 (fun _ => true) true 27 v d p) :
    ∃ a len cap l s da db, v = .agg #[.slice a len cap, .int .i64 s] ∧ RowK .u8 W a len l ∧ len ≤ cap ∧ cap ≤ maxLen ∧ (a = none → cap = 0) ∧ (Lit.int .i64 s).wf = true ∧ d = .agg [da, db] ∧
      ((da = .nil ∧ cap = 0) ∨ ∃ es sp, da = .slice es sp ∧ es.length + sp.length = cap) := by
  obtain ⟨cs, n, rfl, hsz, hf⟩ := open_struct Try.underlying27 hv h
  rw [cells_tape] at hsz
  obtain ⟨xs, m, _, hx, hl, hlen, hfs⟩ := DataW.trod_struct Try.underlying27 hf
  obtain ⟨cs⟩ := cs
  match xs, hlen, cs, hsz with
  | [y0, y1], _, [c0, c1], _ =>
    have f0 : DataW.trod enc Try.prog W 0 (fun _ => true) true m 22 (([c0, c1].drop 0).take (Try.prog.cellsOf 22)) = some y0 := hfs 0 _ rfl
    rw [cells_bytes] at f0
    have f1 : DataW.trod enc Try.prog W 0 (fun _ => true) true m 3 (([c0, c1].drop 1).take (Try.prog.cellsOf 3)) = some y1 := hfs 1 _ rfl
    rw [cells_int] at f1
    obtain ⟨a, len, cap, l, hcs, hr, hc, hm, hn, hd⟩ := open_row_cell Try.underlying22 Try.underlying5 cells_byte (d := y0.1) (p := y0.2) f0
    obtain ⟨z, hz, _, hw⟩ := DataW.trod_int Try.underlying3 f1
    simp at hcs hz
    subst hcs
    subst hz
    simp at hx
    exact ⟨a, len, cap, l, z, y0.1, y1.1, rfl, hr, hc, hm, hn, hw, hx.1, hd⟩

theorem sized_Tape {ts : List TypeId} {ds : List (DataW H)} (h : (DataW.weightsEach Try.prog ts ds).all (· ≤ reachBytes) = true) {j : Nat} {da db : DataW H} {cap : Nat} (ht : ts[j]? = some 27) (hd : ds[j]? = some (.agg [da, db]))
    (hc : (da = .nil ∧ cap = 0) ∨ ∃ es sp, da = .slice es sp ∧ es.length + sp.length = cap) : cap * 1 ≤ 140737488351232 := by
  rcases hc with ⟨_, rfl⟩ | ⟨es, sp, rfl, rfl⟩
  · simp
  · have := List.all_eq_true.1 h _ (DataW.weights_mem_each ht hd ((es.length + sp.length) * Try.prog.bytesOf 5) (by simp [DataW.weights, DataW.weightsEach, Try.underlying27, Try.underlying22]))
    rw [bytes_byte] at this
    simpa [reachBytes] using this
end
end Go.Proofs.Ytdpenbgmmgljoaa
