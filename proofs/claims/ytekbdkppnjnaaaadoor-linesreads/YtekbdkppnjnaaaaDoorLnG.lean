/- Comparing acts; what Check answers. -/
import Derived.Test.YtekbdkppnjnaaaaDoorLnF
namespace Go.Proofs.YtekbdkppnjnaaaaDoor
open Go.RowKit

def eqA (f g : Nat → Int) : Bool := decide (f 0 = g 0 ∧ f 1 = g 1 ∧ f 2 = g 2 ∧ f 3 = g 3 ∧ f 4 = g 4 ∧ f 5 = g 5 ∧ f 6 = g 6 ∧ f 7 = g 7 ∧ f 8 = g 8 ∧ f 9 = g 9 ∧ f 10 = g 10)
theorem eqA_iff {f g : Nat → Int} : eqA f g = true ↔ ∀ i, i < 11 → f i = g i := by
  unfold eqA
  rw [decide_eq_true_eq]
  constructor
  · rintro ⟨h0, h1, h2, h3, h4, h5, h6, h7, h8, h9, h10⟩
    exact below11 h0 h1 h2 h3 h4 h5 h6 h7 h8 h9 h10
  · intro h
    exact ⟨h 0 (by omega), h 1 (by omega), h 2 (by omega), h 3 (by omega), h 4 (by omega), h 5 (by omega), h 6 (by omega), h 7 (by omega), h 8 (by omega), h 9 (by omega), h 10 (by omega)⟩
set_option maxRecDepth 20000 in
theorem run_equal_acts (f g : Nat → Int) (w : World) : (Op.equalIn 10000 27 (aVal f) (aVal g)).run Tryd.prog w = .ok (eqA f g) w := by
  rw [run_equalIn_agg (P := Tryd.prog) w 9999 27 _ _ Tryd.underlying27 (by kernel_rfl)]
  unfold eqA
  by_cases h0 : f 0 = g 0
  case neg => simp [go_sem, h0]
  by_cases h1 : f 1 = g 1
  case neg => simp [go_sem, h0, h1]
  by_cases h2 : f 2 = g 2
  case neg => simp [go_sem, h0, h1, h2]
  by_cases h3 : f 3 = g 3
  case neg => simp [go_sem, h0, h1, h2, h3]
  by_cases h4 : f 4 = g 4
  case neg => simp [go_sem, h0, h1, h2, h3, h4]
  by_cases h5 : f 5 = g 5
  case neg => simp [go_sem, h0, h1, h2, h3, h4, h5]
  by_cases h6 : f 6 = g 6
  case neg => simp [go_sem, h0, h1, h2, h3, h4, h5, h6]
  by_cases h7 : f 7 = g 7
  case neg => simp [go_sem, h0, h1, h2, h3, h4, h5, h6, h7]
  by_cases h8 : f 8 = g 8
  case neg => simp [go_sem, h0, h1, h2, h3, h4, h5, h6, h7, h8]
  by_cases h9 : f 9 = g 9
  case neg => simp [go_sem, h0, h1, h2, h3, h4, h5, h6, h7, h8, h9]
  by_cases h10 : f 10 = g 10
  case neg => simp [go_sem, h0, h1, h2, h3, h4, h5, h6, h7, h8, h9, h10]
  simp [go_sem, h0, h1, h2, h3, h4, h5, h6, h7, h8, h9, h10]
/-- what Check answers. -/
def chk (f : Nat → Int) : Int :=
  if kno (f 0) (f 5) < 12 then (if boundB (over (offs (f 0) (f 5)) (bareK (kno (f 0) (f 5))) f) = true then (if eqA (less (offs (f 0) (f 5)) f) (bareK (kno (f 0) (f 5))) = true then 0 else 3) else 2) else 3
theorem offs_bare {f : Nat → Int} (h : kno (f 0) (f 5) < 12) : offs (bareK (kno (f 0) (f 5)) 0) (bareK (kno (f 0) (f 5)) 5) = offs (f 0) (f 5) := by
  obtain ⟨h1, h2, h3⟩ := kno_act _ _ h
  have e0 : bareK (kno (f 0) (f 5)) 0 = f 0 := h1
  have e5 : bareK (kno (f 0) (f 5)) 5 = kop (kno (f 0) (f 5)) := rfl
  rw [e0, e5]
  by_cases e : f 0 = 2
  · rw [h2 e]
  · exact offs_other e
end Go.Proofs.YtekbdkppnjnaaaaDoor
