/- The numbers of answers. -/
import Derived.Test.YtlfecmkpafgcmaaHsN
namespace Go.Proofs.Ytlfecmkpafgcmaa
open Go.RowKit

theorem Step.an_wf {s s' : St} {v : Ev} {an : An} {ch : Bool} (ok : s.Ok) (h : Step s v s' an ch) : ∀ u ∈ anCells an, (Lit.int .i64 u).wf = true := by
  have e0 := ok.count.e0
  have e1 := ok.count.e1
  have g0 := ok.count.g0
  have g1 := ok.count.g1
  intro u hu
  cases h with
  | recv hk hr hg =>
    have hb := ready_bounds ok hr
    simp only [anCells, List.mem_cons, List.not_mem_nil, or_false] at hu
    rcases hu with rfl | rfl | rfl | rfl
    · decide
    · exact wf_in e0 (by omega)
    · exact wf_in g0 (by omega)
    · exact wf_in hb.2.2.1 (by have := hb.2.2.2; simp at this ⊢; omega)
  | pubLow => simp only [anCells, List.mem_cons, List.not_mem_nil, or_false] at hu; rcases hu with rfl | rfl | rfl | rfl <;> decide
  | pubOld => simp only [anCells, List.mem_cons, List.not_mem_nil, or_false] at hu; rcases hu with rfl | rfl | rfl | rfl <;> decide
  | pubFull => simp only [anCells, List.mem_cons, List.not_mem_nil, or_false] at hu; rcases hu with rfl | rfl | rfl | rfl <;> decide
  | pub => simp only [anCells, List.mem_cons, List.not_mem_nil, or_false] at hu; rcases hu with rfl | rfl | rfl | rfl <;> decide
  | recEmpty => simp only [anCells, List.mem_cons, List.not_mem_nil, or_false] at hu; rcases hu with rfl | rfl | rfl | rfl <;> decide
  | recFull => simp only [anCells, List.mem_cons, List.not_mem_nil, or_false] at hu; rcases hu with rfl | rfl | rfl | rfl <;> decide
  | ackStale => simp only [anCells, List.mem_cons, List.not_mem_nil, or_false] at hu; rcases hu with rfl | rfl | rfl | rfl <;> decide
  | ackNone => simp only [anCells, List.mem_cons, List.not_mem_nil, or_false] at hu; rcases hu with rfl | rfl | rfl | rfl <;> decide
  | ack => simp only [anCells, List.mem_cons, List.not_mem_nil, or_false] at hu; rcases hu with rfl | rfl | rfl | rfl <;> decide
  | endFull => simp only [anCells, List.mem_cons, List.not_mem_nil, or_false] at hu; rcases hu with rfl | rfl | rfl | rfl <;> decide
  | stop => simp only [anCells, List.mem_cons, List.not_mem_nil, or_false] at hu; rcases hu with rfl | rfl | rfl | rfl <;> decide
theorem Tells.an_wf {es : List Ev} {s : St} {ans : List An} (h : Tells es s ans) : ∀ u ∈ anFlat ans, (Lit.int .i64 u).wf = true := by
  induction h with
  | nil => intro u hu; cases hu
  | snoc h hv st ih =>
    intro u hu
    rw [anFlat_snoc] at hu
    rcases List.mem_append.1 hu with hu | hu
    · exact ih u hu
    · exact st.an_wf h.wf.ok u hu
theorem RowK.four {w : World} {b off n : Nat} {D : List Int} (h : RowK .i64 w (some ⟨b, off, none⟩) (4 * n) D) (k : Nat) (hk : k < n) :
    w.cell? ⟨b, off + k * 4, none⟩ = some (.int .i64 (D.getD (4 * k) 0)) ∧ w.cell? ⟨b, off + k * 4 + 1, none⟩ = some (.int .i64 (D.getD (4 * k + 1) 0)) ∧ w.cell? ⟨b, off + k * 4 + 2, none⟩ = some (.int .i64 (D.getD (4 * k + 2) 0)) ∧ w.cell? ⟨b, off + k * 4 + 3, none⟩ = some (.int .i64 (D.getD (4 * k + 3) 0)) := by
  rw [Nat.mul_comm k 4]
  exact ⟨h.at (4 * k) (by omega), h.at (4 * k + 1) (by omega), h.at (4 * k + 2) (by omega), h.at (4 * k + 3) (by omega)⟩
end Go.Proofs.Ytlfecmkpafgcmaa
