/- Windows behind several ids: what a window remembers of them; Take at whatever id. -/
import Derived.Test.YtjolamdlclcpcaaWdE
namespace Go.Proofs.Ytjolamdlclcpcaa
open Go.RowKit

/-- the window (t, s) remembers the ids A, as far as it goes. -/
structure WinInv (A : List Int) (t : Int) (s : Nat → Bool) : Prop where
  ok : WinOk t s
  mem : ∀ x, t - 8 ≤ x → (inWin t s x = true ↔ x ∈ A)
  zero : A = [] → t = 0
  last : A ≠ [] → t - 1 ∈ A
  less : ∀ x ∈ A, x < t

theorem WinInv.none : WinInv [] 0 noneS := ⟨WinOk.none, fun x _ => by rw [inWin_none]; simp, fun _ => rfl, fun h => absurd rfl h, by simp⟩
theorem WinInv.keep {A : List Int} {t id : Int} {s : Nat → Bool} (h : WinInv A t s) (hi : inWin t s id = true) : WinInv (A ++ [id]) t s := by
  have hr : t - 8 ≤ id := by obtain ⟨i, _, _, rfl⟩ := inWin_iff.1 hi; omega
  have hA : id ∈ A := (h.mem id hr).1 hi
  have hm : ∀ x, x ∈ A ++ [id] ↔ x ∈ A := by
    intro x
    simp only [List.mem_append, List.mem_singleton]
    exact ⟨fun h => h.elim (fun h => h) (fun h => by rw [h]; exact hA), .inl⟩
  refine ⟨h.ok, fun x hx => by rw [hm]; exact h.mem x hx, by simp, fun _ => ?_, fun x hx => h.less x ((hm x).1 hx)⟩
  rw [hm]
  exact h.last (by intro h0; rw [h0] at hA; cases hA)
theorem WinInv.take {A : List Int} {t id : Int} {s : Nat → Bool} (h : WinInv A t s) (h0 : 0 ≤ id) (h1 : id ≤ 1073741824) (hn : inWin t s id = false) : WinInv (A ++ [id]) (takeT t id) (takeS t s id) := by
  have hg := takeT_gt t id
  refine ⟨h.ok.take h0 h1, ?_, by simp, fun _ => ?_, ?_⟩
  · intro x hx
    rw [inWin_take hx]
    simp only [Bool.or_eq_true, decide_eq_true_eq, List.mem_append, List.mem_singleton]
    rw [h.mem x (by omega)]
    exact Or.comm
  · simp only [List.mem_append, List.mem_singleton]
    by_cases hc : t ≤ id
    · right
      unfold takeT
      rw [if_pos hc]
      omega
    · left
      have e : takeT t id = t := by unfold takeT; rw [if_neg hc]
      rw [e]
      refine h.last (fun hA => ?_)
      have := h.zero hA
      omega
  · intro x hx
    simp only [List.mem_append, List.mem_singleton] at hx
    rcases hx with hx | rfl
    · have := h.less x hx; omega
    · exact hg.2
/-- two windows that remember the same ids are one. -/
theorem WinInv.same {A B : List Int} {t t' : Int} {s s' : Nat → Bool} (h : WinInv A t s) (h' : WinInv B t' s') (hAB : ∀ x, x ∈ A ↔ x ∈ B) : t = t' ∧ ∀ i, i < 8 → s i = s' i := by
  have ht : t = t' := by
    by_cases hA : A = []
    · have hB : B = [] := List.eq_nil_iff_forall_not_mem.2 fun x hx => by rw [← hAB, hA] at hx; cases hx
      rw [h.zero hA, h'.zero hB]
    · have hB : B ≠ [] := fun hB => hA (List.eq_nil_iff_forall_not_mem.2 fun x hx => by rw [hAB, hB] at hx; cases hx)
      have h1 := h'.less _ ((hAB _).1 (h.last hA))
      have h2 := h.less _ ((hAB _).2 (h'.last hB))
      omega
  subst ht
  refine ⟨rfl, fun i hi => ?_⟩
  rw [← inWin_at (t := t) (s := s) i hi, ← inWin_at (t := t) (s := s') i hi, Bool.eq_iff_iff, h.mem _ (by omega), h'.mem _ (by omega)]
  exact hAB _

/-- Take at an id that is not below the window. -/
theorem take_step {A : List Int} {t id : Int} {s : Nat → Bool} (h : WinInv A t s) (h0 : 0 ≤ id) (h1 : id ≤ 1073741824) (h2 : t - 8 ≤ id) :
    ∃ T S b, WinInv (A ++ [id]) T S ∧ t ≤ T ∧ id < T ∧ T ≤ takeT t id ∧ (b = false → T = t ∧ S = s ∧ id ∈ A) ∧ (b = true → id ∉ A) ∧
      ∀ w, Calls Try.prog 68 #[winVal t s, .int .i64 id] w fun e w' => e = .returned (.tuple #[winVal T S, .bool b, .int .i64 0]) ∧ Below w.heap.size w w' := by
  have hg := takeT_gt t id
  cases hi : inWin t s id
  · refine ⟨takeT t id, takeS t s id, true, h.take h0 h1 hi, hg.1, hg.2, Int.le_refl _, fun h => (by cases h), fun _ hA => ?_, fun w => take_new t id s w h.ok h0 h1 h2 hi⟩
    rw [← h.mem id h2, hi] at hA
    cases hA
  · have hA := (h.mem id h2).1 hi
    exact ⟨t, s, false, h.keep hi, Int.le_refl _, h.less id hA, hg.1, fun _ => ⟨rfl, rfl, hA⟩, fun h => (by cases h), fun w => take_old t id s w h.ok h0 h1 hi⟩
end Go.Proofs.Ytjolamdlclcpcaa
