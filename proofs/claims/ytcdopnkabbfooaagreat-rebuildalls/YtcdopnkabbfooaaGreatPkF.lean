/- Walks of berthshiftref.EventFault at the kinds without fields, and at what is no kind. -/
import Derived.Test.YtcdopnkabbfooaaGreatPkD
namespace Go.Proofs.YtcdopnkabbfooaaGreat
open Go.RowKit

set_option maxRecDepth 20000 in
set_option maxHeartbeats 1000000 in
theorem fault_bare (k p i b he hn : Int) (w : World) (hk : k = 2 ∨ k = 4) :
    Calls Tryz.prog 66 #[.agg #[.int .i64 k, .int .i64 p, .int .i64 i, .int .i64 b, .int .i64 he, .int .i64 hn]] w fun e w' =>
      e = .returned (.int .i64 (eventFault k p i b he hn)) ∧ Below w.heap.size w w' := by
  obtain ⟨v, hv⟩ : ∃ v, eventFault k p i b he hn = v := ⟨_, rfl⟩
  rw [hv]
  have HV : Hid (eventFault k p i b he hn = v) := hv
  clear hv
  have S : (¬ p = 0 ∨ (p = 0 ∧ (¬ i = 0 ∨ (i = 0 ∧ (¬ b = 0 ∨ (b = 0 ∧ (¬ he = 0 ∨ (he = 0 ∧ (¬ hn = 0 ∨ hn = 0))))))))) := by
    by_cases h0 : p = 0
    · refine .inr ⟨h0, ?_⟩
      by_cases h1 : i = 0
      · refine .inr ⟨h1, ?_⟩
        by_cases h2 : b = 0
        · refine .inr ⟨h2, ?_⟩
          by_cases h3 : he = 0
          · exact .inr ⟨h3, by omega⟩
          · exact .inl h3
        · exact .inl h2
      · exact .inl h1
    · exact .inl h0
  rcases hk with rfl | rfl
  all_goals
    rcases S with h7 | ⟨rfl, h7 | ⟨rfl, h7 | ⟨rfl, h7 | ⟨rfl, h7 | rfl⟩⟩⟩⟩
    all_goals
      try have h8 := ne_true h7
      go_enter Tryz.func66, Tryz.ntmps66
      go_wp2
      go_ret
      refine ⟨ret_int ?_, below1 _ _⟩
      have h := HV.out
      subst h
      clear HV
      unfold eventFault
      repeat' split
      all_goals omega

set_option maxRecDepth 20000 in
set_option maxHeartbeats 400000 in
theorem fault_none (k p i b he hn : Int) (w : World) (hk : ¬ 1 ≤ k ∨ ¬ k ≤ 4 ∧ 1 ≤ k) :
    Calls Tryz.prog 66 #[.agg #[.int .i64 k, .int .i64 p, .int .i64 i, .int .i64 b, .int .i64 he, .int .i64 hn]] w fun e w' =>
      e = .returned (.int .i64 (eventFault k p i b he hn)) ∧ Below w.heap.size w w' := by
  have hv : eventFault k p i b he hn = 3 := by
    unfold eventFault
    repeat' split
    all_goals omega
  rw [hv]
  clear hv
  rcases hk with h1 | ⟨h1, h2⟩
  all_goals
    go_enter Tryz.func66, Tryz.ntmps66
    go_wp2
    go_ret
    exact ⟨rfl, below1 _ _⟩
end Go.Proofs.YtcdopnkabbfooaaGreat
