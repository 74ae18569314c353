/- Walks of berthshiftref.EventFault at the other kinds: it answers the plain function eventFault. -/
import Derived.Test.YtcdopnkabbfooaaGreatPkD
namespace Go.Proofs.YtcdopnkabbfooaaGreat
open Go.RowKit

set_option maxRecDepth 20000 in
set_option maxHeartbeats 1000000 in
theorem fault_ack (p i b he hn : Int) (w : World) :
    Calls Tryz.prog 66 #[.agg #[.int .i64 3, .int .i64 p, .int .i64 i, .int .i64 b, .int .i64 he, .int .i64 hn]] w fun e w' =>
      e = .returned (.int .i64 (eventFault 3 p i b he hn)) ∧ Below w.heap.size w w' := by
  obtain ⟨v, hv⟩ : ∃ v, eventFault 3 p i b he hn = v := ⟨_, rfl⟩
  rw [hv]
  have HV : Hid (eventFault 3 p i b he hn = v) := hv
  clear hv
  have S : (he < 0 ∨ (¬ he ≤ 1048576 ∧ 0 ≤ he) ∨ (0 ≤ he ∧ he ≤ 1048576) ∧ (hn < 0 ∨ (¬ hn ≤ 1073741824 ∧ 0 ≤ hn) ∨ (0 ≤ hn ∧ hn ≤ 1073741824) ∧ (¬ p = 0 ∨ (p = 0 ∧ (¬ i = 0 ∨ (i = 0 ∧ (¬ b = 0 ∨ b = 0))))))) := by
    rcases tri he 1048576 with h | h | h
    · exact .inl h
    · exact .inr (.inl h)
    refine .inr (.inr ⟨h, ?_⟩)
    rcases tri hn 1073741824 with h | h | h
    · exact .inl h
    · exact .inr (.inl h)
    refine .inr (.inr ⟨h, ?_⟩)
    by_cases h0 : p = 0
    · refine .inr ⟨h0, ?_⟩
      by_cases h1 : i = 0
      · exact .inr ⟨h1, by omega⟩
      · exact .inl h1
    · exact .inl h0
  rcases S with h1 | ⟨h1, h1'⟩ | ⟨⟨h1, h2⟩, h3 | ⟨h3, h3'⟩ | ⟨⟨h3, h4⟩, h7 | ⟨rfl, h7 | ⟨rfl, h7 | rfl⟩⟩⟩⟩
  all_goals
    try have h8 := ne_true h7
    go_enter Tryz.func66, Tryz.ntmps66
    go_wp2
    go_ret
    refine ⟨ret_int ?_, below1 _ _⟩
    have h := HV.out
    subst h
    clear HV
    unfold eventFault
    repeat' split
    all_goals omega
end Go.Proofs.YtcdopnkabbfooaaGreat
