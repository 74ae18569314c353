/- The records of a queue that was taken over. -/
import Derived.Test.YtcdopnkabbfooaaGreatRkTop
import Derived.Test.YtcdopnkabbfooaaGreatMvCz
namespace Go.Proofs.YtcdopnkabbfooaaGreat
open Go.RowKit

def mvTo (q e : Int) (es : List Ev) (k : Nat) : List Rec := recB q e 1 :: (es.take k).map (recI q e)
theorem mvTo_len {q e : Int} {es : List Ev} {k : Nat} (hk : k ≤ es.length) : (mvTo q e es k).length = k + 1 := by
  unfold mvTo
  rw [List.length_cons, List.length_map, List.length_take]
  omega
theorem mvTo_next {q e : Int} {es : List Ev} {k : Nat} (hk : k < es.length) : mvTo q e es (k + 1) = mvTo q e es k ++ [recI q e es[k]] := by
  unfold mvTo
  rw [List.take_add_one, List.getElem?_eq_getElem hk, List.cons_append, List.map_append]
  rfl
theorem mvTo_all {q e : Int} {es : List Ev} : mvTo q e es es.length ++ [recA q e] = movesOf q e 1 es := by
  unfold mvTo movesOf
  rw [List.take_length]
  rfl
theorem movesOf_len {q e : Int} {es : List Ev} : (movesOf q e 1 es).length = es.length + 1 + 1 := by
  rw [← mvTo_all, List.length_append, mvTo_len (Nat.le_refl _)]; rfl
theorem movesOf_q {q e p : Int} {es : List Ev} : ∀ r ∈ movesOf q e p es, r.q = q := by
  intro r hr
  unfold movesOf at hr
  rcases List.mem_cons.1 hr with g | g
  · rw [g]; rfl
  · rcases List.mem_append.1 g with g | g
    · obtain ⟨v, _, rfl⟩ := List.mem_map.1 g; rfl
    · rw [List.mem_singleton.1 g]; rfl
theorem evs_wf {es : List Ev} {v : Ev} (h : ∀ u ∈ evFlat es, (Lit.int .i64 u).wf = true) (hv : v ∈ es) : ∀ u ∈ evCells v, (Lit.int .i64 u).wf = true := fun u hu => h u (List.mem_flatMap.2 ⟨v, hv, hu⟩)
theorem moves_wf {q e : Int} {es : List Ev} (hq : 0 ≤ q ∧ q ≤ 3) (he : 0 ≤ e ∧ e ≤ 1048576) (h : ∀ u ∈ evFlat es, (Lit.int .i64 u).wf = true) : ∀ u ∈ recFlat (movesOf q e 1 es), (Lit.int .i64 u).wf = true := by
  have w1 := lit_wfR hq.1 (by omega)
  have w2 := lit_wfR he.1 (by omega)
  intro u hu
  obtain ⟨r, hr, hu⟩ := List.mem_flatMap.1 hu
  unfold movesOf at hr
  rcases List.mem_cons.1 hr with g | g
  · rw [g] at hu
    exact rec_wf10 (by decide) w1 w2 (by decide) u hu
  · rcases List.mem_append.1 g with g | g
    · obtain ⟨v, hv, rfl⟩ := List.mem_map.1 g
      have hvv := evs_wf h hv
      simp only [recTen, recI, List.mem_cons, List.not_mem_nil, or_false] at hu
      rcases hu with g | g | g | g | g
      · rw [g]; decide
      · rw [g]; exact w1
      · rw [g]; exact w2
      · rw [g]; decide
      · exact hvv u (by simpa [evCells] using g)
    · rw [List.mem_singleton.1 g] at hu
      exact rec_wf10 (by decide) w1 w2 (by decide) u hu
end Go.Proofs.YtcdopnkabbfooaaGreat
