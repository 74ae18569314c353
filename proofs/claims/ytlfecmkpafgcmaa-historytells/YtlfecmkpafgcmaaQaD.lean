/- The walk of berthshiftkeep.QueueKeeps. -/
import Derived.Test.YtlfecmkpafgcmaaQkE
namespace Go.Proofs.Ytlfecmkpafgcmaa
open Go.RowKit

theorem evFlat_wf {es : List Ev} (h : ∀ v ∈ es, v.Ok) : ∀ u ∈ evFlat es, (Lit.int .i64 u).wf = true := by
  intro u hu
  obtain ⟨v, hv, hu⟩ := List.mem_flatMap.1 hu
  have hb : 0 ≤ u ∧ u ≤ 1073741824 := by
    simp only [evCells, List.mem_cons, List.not_mem_nil, or_false] at hu
    rcases Ev.cases (h v hv) with c | c | c | c <;> omega
  exact wf_in (by omega) (by omega)
end Go.Proofs.Ytlfecmkpafgcmaa
