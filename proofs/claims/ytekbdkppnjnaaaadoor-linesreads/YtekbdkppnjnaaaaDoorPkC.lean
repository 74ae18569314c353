/- Walks of pack.Check, pack.Record and of the document's answers to them: one plain function each says what both answer. -/
import Derived.Test.YtekbdkppnjnaaaaDoorPkA
namespace Go.Proofs.YtekbdkppnjnaaaaDoor
open Go.RowKit

theorem ret_int {k : IntKind} {a b : Int} (h : a = b) : Ending.returned (.int k a) = .returned (.int k b) := by rw [h]

/-- is there nothing in an event? -/
def nothingOf (k p i b he hn : Int) : Int := if k = 0 ∧ p = 0 ∧ i = 0 ∧ b = 0 ∧ he = 0 ∧ hn = 0 then 0 else 3

/-- what is wrong with an event (0: nothing). -/
def eventFault (k p i b he hn : Int) : Int :=
  if k = 1 then (if ¬ (0 ≤ p ∧ p ≤ 3 ∧ 0 ≤ i ∧ i ≤ 1073741824 ∧ 0 ≤ b ∧ b ≤ 1000000) then 2 else if he = 0 ∧ hn = 0 then 0 else 3)
  else if k = 3 then (if ¬ (0 ≤ he ∧ he ≤ 1048576 ∧ 0 ≤ hn ∧ hn ≤ 1073741824) then 2 else if p = 0 ∧ i = 0 ∧ b = 0 then 0 else 3)
  else if (k = 2 ∨ k = 4) ∧ p = 0 ∧ i = 0 ∧ b = 0 ∧ he = 0 ∧ hn = 0 then 0 else 3

theorem nothing_any (k p i b he hn : Int) (w : World) :
    Calls Tryd.prog 55 #[.agg #[.int .i64 k, .int .i64 p, .int .i64 i, .int .i64 b, .int .i64 he, .int .i64 hn]] w fun e w' =>
      e = .returned (.int .i64 (nothingOf k p i b he hn)) ∧ Below w.heap.size w w' := by
  go_enter Tryd.func55, Tryd.ntmps55
  go_wp2
  all_goals
    go_ret
    refine ⟨ret_int ?_, (Below.refl _ _).alloc (Nat.le_refl _) _⟩
    simp only [nothingOf]
    repeat' split
    all_goals omega

set_option maxRecDepth 20000 in
set_option maxHeartbeats 1000000 in
theorem check_any (k p i b he hn : Int) (w : World) :
    Calls Tryd.prog 40 #[.agg #[.int .i64 k, .int .i64 p, .int .i64 i, .int .i64 b, .int .i64 he, .int .i64 hn]] w fun e w' =>
      e = .returned (.int .i64 (eventFault k p i b he hn)) ∧ Below w.heap.size w w' := by
  obtain ⟨v, hv⟩ : ∃ v, eventFault k p i b he hn = v := ⟨_, rfl⟩
  rw [hv]
  have HV : Hid (eventFault k p i b he hn = v) := hv
  clear hv
  have tri : ∀ x m : Int, x < 0 ∨ ¬ x ≤ m ∧ 0 ≤ x ∨ (0 ≤ x ∧ x ≤ m) := by intro x m; omega
  have S : (k = 2 ∨ k = 4 ∨ k < 1 ∨ 4 < k) ∨ (k = 1 ∧ (p < 0 ∨ ¬ p ≤ 3 ∧ 0 ≤ p ∨ (0 ≤ p ∧ p ≤ 3) ∧ (i < 0 ∨ ¬ i ≤ 1073741824 ∧ 0 ≤ i ∨ (0 ≤ i ∧ i ≤ 1073741824) ∧ (b < 0 ∨ ¬ b ≤ 1000000 ∧ 0 ≤ b ∨ (0 ≤ b ∧ b ≤ 1000000))))) ∨
      (k = 3 ∧ (he < 0 ∨ ¬ he ≤ 1048576 ∧ 0 ≤ he ∨ (0 ≤ he ∧ he ≤ 1048576) ∧ (hn < 0 ∨ ¬ hn ≤ 1073741824 ∧ 0 ≤ hn ∨ (0 ≤ hn ∧ hn ≤ 1073741824)))) := by
    by_cases k1 : k = 1
    · refine .inr (.inl ⟨k1, ?_⟩)
      rcases tri p 3 with h | h | h
      · exact .inl h
      · exact .inr (.inl h)
      refine .inr (.inr ⟨h, ?_⟩)
      rcases tri i 1073741824 with h | h | h
      · exact .inl h
      · exact .inr (.inl h)
      exact .inr (.inr ⟨h, tri b 1000000⟩)
    · by_cases k3 : k = 3
      · refine .inr (.inr ⟨k3, ?_⟩)
        rcases tri he 1048576 with h | h | h
        · exact .inl h
        · exact .inr (.inl h)
        exact .inr (.inr ⟨h, tri hn 1073741824⟩)
      · exact .inl (by omega)
  clear tri
  rcases S with (rfl | rfl | h1 | h1) | ⟨rfl, h1 | ⟨h1, h1'⟩ | ⟨⟨h1, h2⟩, h3 | ⟨h3, h3'⟩ | ⟨⟨h3, h4⟩, h5 | ⟨h5, h5'⟩ | ⟨h5, h6⟩⟩⟩⟩ | ⟨rfl, h1 | ⟨h1, h1'⟩ | ⟨⟨h1, h2⟩, h3 | ⟨h3, h3'⟩ | ⟨h3, h4⟩⟩⟩
  all_goals
    go_enter Tryd.func40, Tryd.ntmps40
    go_wp2_with (first | (go_at_call 55; refine (nothing_any _ _ _ _ _ _ _).mono ?_; rintro e w1 ⟨rfl, hb⟩) | (go_at_call 54; go_in))
    go_ret
    refine ⟨ret_int ?_, ?_⟩
    · have h := HV.out
      subst h
      clear HV
      unfold eventFault
      try unfold nothingOf
      repeat' split
      all_goals omega
    · first | exact below2 _ _ _ | exact below2t hb
end Go.Proofs.YtekbdkppnjnaaaaDoor
