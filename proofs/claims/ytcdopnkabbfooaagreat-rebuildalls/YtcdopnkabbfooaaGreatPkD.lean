/- Walks of berthshiftref.EventFault: it answers the plain function eventFault. -/
import Derived.Test.YtcdopnkabbfooaaGreatPkC
namespace Go.Proofs.YtcdopnkabbfooaaGreat
open Go.RowKit

theorem tri (x m : Int) : x < 0 ∨ (¬ x ≤ m ∧ 0 ≤ x) ∨ (0 ≤ x ∧ x ≤ m) := by omega
theorem ne_true {x : Int} (h : ¬ x = 0) : (x != 0) = true := by simpa using h
theorem ne_false {x : Int} (h : x = 0) : (x != 0) = false := by simpa using h

set_option maxRecDepth 20000 in
set_option maxHeartbeats 1000000 in
theorem fault_pub (p i b he hn : Int) (w : World) :
    Calls Tryz.prog 66 #[.agg #[.int .i64 1, .int .i64 p, .int .i64 i, .int .i64 b, .int .i64 he, .int .i64 hn]] w fun e w' =>
      e = .returned (.int .i64 (eventFault 1 p i b he hn)) ∧ Below w.heap.size w w' := by
  obtain ⟨v, hv⟩ : ∃ v, eventFault 1 p i b he hn = v := ⟨_, rfl⟩
  rw [hv]
  have HV : Hid (eventFault 1 p i b he hn = v) := hv
  clear hv
  have S : (p < 0 ∨ (¬ p ≤ 3 ∧ 0 ≤ p) ∨ (0 ≤ p ∧ p ≤ 3) ∧ (i < 0 ∨ (¬ i ≤ 1073741824 ∧ 0 ≤ i) ∨ (0 ≤ i ∧ i ≤ 1073741824) ∧ (b < 0 ∨ (¬ b ≤ 1000000 ∧ 0 ≤ b) ∨ (0 ≤ b ∧ b ≤ 1000000) ∧ (¬ he = 0 ∨ (he = 0 ∧ (¬ hn = 0 ∨ hn = 0)))))) := by
    rcases tri p 3 with h | h | h
    · exact .inl h
    · exact .inr (.inl h)
    refine .inr (.inr ⟨h, ?_⟩)
    rcases tri i 1073741824 with h | h | h
    · exact .inl h
    · exact .inr (.inl h)
    refine .inr (.inr ⟨h, ?_⟩)
    rcases tri b 1000000 with h | h | h
    · exact .inl h
    · exact .inr (.inl h)
    refine .inr (.inr ⟨h, ?_⟩)
    by_cases h0 : he = 0
    · refine .inr ⟨h0, ?_⟩
      by_cases h1 : hn = 0
      · exact .inr h1
      · exact .inl h1
    · exact .inl h0
  rcases S with h1 | ⟨h1, h1'⟩ | ⟨⟨h1, h2⟩, h3 | ⟨h3, h3'⟩ | ⟨⟨h3, h4⟩, h5 | ⟨h5, h5'⟩ | ⟨⟨h5, h6⟩, h7 | ⟨rfl, h7 | rfl⟩⟩⟩⟩
  all_goals
    try have h8 := ne_true h7
    go_enter Tryz.func66, Tryz.ntmps66
    go_wp2
    go_ret
    refine ⟨ret_int ?_, below1 _ _⟩
    have h := HV.out
    subst h
    clear HV
    unfold eventFault
    repeat' split
    all_goals omega
end Go.Proofs.YtcdopnkabbfooaaGreat
