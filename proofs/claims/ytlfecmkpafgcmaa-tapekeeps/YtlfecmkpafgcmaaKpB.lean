/- Plain facts on what is decoded and encoded: no program in sight but for their names. -/
import Derived.Test.YtlfecmkpafgcmaaPkK
import Derived.Test.YtlfecmkpafgcmaaKpA
namespace Go.Proofs.Ytlfecmkpafgcmaa
open Go.RowKit

theorem errAt_zero {l : List Int} {t : Nat} (h : errAt l t = 0) : 4 ≤ (l.drop (4 * t)).length ∧ ¬ 127 < (l.drop (4 * t)).getD 0 0 := by
  unfold errAt takenOf at h
  split at h
  · simp at h
  · split at h
    · simp at h
    · exact ⟨by omega, by assumption⟩

theorem four_numAt {l : List Int} {t : Nat} (hw : ∀ u ∈ l, (Lit.int .u8 u).wf = true) (h : errAt l t = 0) : four (numAt l t) = (l.drop (4 * t)).take 4 := by
  obtain ⟨h4, h127⟩ := errAt_zero h
  have hw' : ∀ u ∈ l.drop (4 * t), (Lit.int .u8 u).wf = true := fun u hu => hw u (List.mem_of_mem_drop hu)
  unfold numAt takenOf
  rw [if_neg (by omega), if_neg h127]
  have b0 := byte_bounds hw' 0
  have b1 := byte_bounds hw' 1
  have b2 := byte_bounds hw' 2
  have b3 := byte_bounds hw' 3
  match l.drop (4 * t), h4, h127, b0, b1, b2, b3 with
  | c0 :: c1 :: c2 :: c3 :: r, _, h127, b0, b1, b2, b3 =>
    simp only [List.getD_cons_zero, List.getD_cons_succ, List.take_succ_cons, List.take_zero] at *
    unfold four
    congr 1
    · omega
    congr 1
    · omega
    congr 1
    · omega
    congr 1
    omega

theorem fours_nums {l : List Int} (hw : ∀ u ∈ l, (Lit.int .u8 u).wf = true) : ∀ n, (∀ t, t < n → errAt l t = 0) → fours ((List.range n).map (numAt l)) = l.take (4 * n)
  | 0, _ => by simp [fours]
  | n + 1, h => by
    have ih := fours_nums hw n (fun t ht => h t (by omega))
    have h4 := four_numAt hw (h n (by omega))
    rw [List.range_succ, List.map_append]
    unfold fours at *
    rw [List.flatMap_append, ih]
    simp only [List.map_cons, List.map_nil, List.flatMap_cons, List.flatMap_nil, List.append_nil]
    rw [h4, show 4 * (n + 1) = 4 * n + 4 by omega, List.take_add]

theorem firstErr_all {l : List Int} : ∀ (n s : Nat), firstErr l s n = 0 → ∀ u, u < n → errAt l (s + u) = 0
  | 0, _, _, u, hu => by omega
  | n + 1, s, h, u, hu => by
    simp only [firstErr] at h
    by_cases h0 : errAt l s = 0
    · rw [if_pos h0] at h
      by_cases hz : u = 0
      · rw [hz]; exact h0
      · have := firstErr_all n (s + 1) h (u - 1) (by omega)
        rwa [show s + 1 + (u - 1) = s + u by omega] at this
    · rw [if_neg h0] at h; exact absurd h h0

/-- what was decoded with an error is nothing. -/
theorem decode_bad {l zs : List Int} {er : Int} (h : decodeOf l = (zs, er)) (he : ¬ er = 0) : zs = zeros := by
  unfold decodeOf at h
  by_cases h1 : ¬ firstErr l 0 4 = 0
  · rw [if_pos h1] at h; exact (Prod.mk.inj h).1.symm
  rw [if_neg h1] at h
  by_cases h2 : hasEv (numAt l 0) = true ∧ ¬ firstErr l 4 6 = 0
  · rw [if_pos h2] at h; exact (Prod.mk.inj h).1.symm
  rw [if_neg h2] at h
  by_cases h3 : ¬ l.length = 4 * (if hasEv (numAt l 0) then 10 else 4) ∨ ¬ faultOf l = 0
  · rw [if_pos h3] at h; exact (Prod.mk.inj h).1.symm
  · rw [if_neg h3] at h; exact absurd (Prod.mk.inj h).2.symm he

/-- what was decoded without one: the numbers, all of the bytes. -/
theorem decode_good {l zs : List Int} (h : decodeOf l = (zs, 0)) :
    zs = numsOf l ∧ faultOf l = 0 ∧ ((hasEv (numAt l 0) = true ∧ l.length = 40 ∧ ∀ t, t < 10 → errAt l t = 0) ∨ (hasEv (numAt l 0) = false ∧ l.length = 16 ∧ ∀ t, t < 4 → errAt l t = 0)) := by
  unfold decodeOf at h
  by_cases h1 : ¬ firstErr l 0 4 = 0
  · rw [if_pos h1] at h; exact absurd (Prod.mk.inj h).2 h1
  rw [if_neg h1] at h
  by_cases h2 : hasEv (numAt l 0) = true ∧ ¬ firstErr l 4 6 = 0
  · rw [if_pos h2] at h; exact absurd (Prod.mk.inj h).2 h2.2
  rw [if_neg h2] at h
  by_cases h3 : ¬ l.length = 4 * (if hasEv (numAt l 0) then 10 else 4) ∨ ¬ faultOf l = 0
  · rw [if_pos h3] at h; exact absurd (Prod.mk.inj h).2 (by decide)
  rw [if_neg h3] at h
  have e1 := firstErr_all 4 0 (Classical.not_not.1 h1)
  refine ⟨(Prod.mk.inj h).1.symm, ?_, ?_⟩
  · exact Classical.not_not.1 (fun hh => h3 (.inr hh))
  · have hl : l.length = 4 * (if hasEv (numAt l 0) then 10 else 4) := Classical.not_not.1 (fun hh => h3 (.inl hh))
    cases hev : hasEv (numAt l 0) with
    | true =>
      rw [hev] at hl
      have e2 := firstErr_all 6 4 (Classical.not_not.1 (fun hh => h2 ⟨hev, hh⟩))
      refine .inl ⟨rfl, hl, fun t ht => ?_⟩
      by_cases h4 : t < 4
      · have := e1 t h4; rwa [Nat.zero_add] at this
      · have := e2 (t - 4) (by omega); rwa [show 4 + (t - 4) = t by omega] at this
    | false =>
      rw [hev] at hl
      exact .inr ⟨rfl, hl, fun t ht => by have := e1 t ht; rwa [Nat.zero_add] at this⟩

theorem wf_bytes_eq {l : List Int} (hw : ∀ u ∈ l, (Lit.int .u8 u).wf = true) {n : Nat} (hl : l.length = 4 * n) (h : ∀ t, t < n → errAt l t = 0) : fours ((List.range n).map (numAt l)) = l := by
  rw [fours_nums hw n h, ← hl, List.take_length]
end Go.Proofs.Ytlfecmkpafgcmaa
