/- Walks of pack.Record and berthshiftref.RecordFault: both answer the plain function recordFault. -/
import Derived.Test.YtcdopnkabbfooaaGreatPkE
import Derived.Test.YtcdopnkabbfooaaGreatPkF
namespace Go.Proofs.YtcdopnkabbfooaaGreat
open Go.RowKit

theorem fault_any (k p i b he hn : Int) (w : World) :
    Calls Tryz.prog 66 #[.agg #[.int .i64 k, .int .i64 p, .int .i64 i, .int .i64 b, .int .i64 he, .int .i64 hn]] w fun e w' =>
      e = .returned (.int .i64 (eventFault k p i b he hn)) ∧ Below w.heap.size w w' := by
  by_cases h1 : k = 1
  · subst h1; exact fault_pub p i b he hn w
  · by_cases h3 : k = 3
    · subst h3; exact fault_ack p i b he hn w
    · by_cases h2 : k = 2 ∨ k = 4
      · exact fault_bare k p i b he hn w h2
      · exact fault_none k p i b he hn w (by omega)

/-- what is wrong with a record (0: nothing). -/
def recordFault (k q ep pe ek p i b he hn : Int) : Int :=
  if ¬ (1 ≤ k ∧ k ≤ 7) then 3
  else if ¬ (0 ≤ q ∧ q ≤ 3 ∧ 0 ≤ ep ∧ ep ≤ 1048576 ∧ 0 ≤ pe ∧ pe ≤ 4) then 2
  else if k = 2 ∨ k = 5 then eventFault ek p i b he hn else nothingOf ek p i b he hn

/-- the ways through the tests of a record. -/
theorem record_ways (k q ep pe : Int) : (k < 1 ∧ ¬ 1 ≤ k) ∨ (¬ k ≤ 7 ∧ 1 ≤ k) ∨ ((1 ≤ k ∧ k ≤ 7) ∧ (q < 0 ∨ (¬ q ≤ 3 ∧ 0 ≤ q) ∨ (0 ≤ q ∧ q ≤ 3) ∧ (ep < 0 ∨ (¬ ep ≤ 1048576 ∧ 0 ≤ ep) ∨ (0 ≤ ep ∧ ep ≤ 1048576) ∧
    (pe < 0 ∨ (¬ pe ≤ 4 ∧ 0 ≤ pe) ∨ (0 ≤ pe ∧ pe ≤ 4) ∧ (k = 2 ∨ k = 5 ∨ (k == 2) = false ∧ (k == 5) = false))))) := by
  by_cases h : k < 1
  · exact .inl ⟨h, by omega⟩
  by_cases h' : ¬ k ≤ 7
  · exact .inr (.inl ⟨h', by omega⟩)
  refine .inr (.inr ⟨by omega, ?_⟩)
  rcases tri q 3 with h | h | h
  · exact .inl h
  · exact .inr (.inl h)
  refine .inr (.inr ⟨h, ?_⟩)
  rcases tri ep 1048576 with h | h | h
  · exact .inl h
  · exact .inr (.inl h)
  refine .inr (.inr ⟨h, ?_⟩)
  rcases tri pe 4 with h | h | h
  · exact .inl h
  · exact .inr (.inl h)
  refine .inr (.inr ⟨h, ?_⟩)
  by_cases h2 : k = 2
  · exact .inl h2
  by_cases h5 : k = 5
  · exact .inr (.inl h5)
  exact .inr (.inr ⟨by simpa using h2, by simpa using h5⟩)

set_option maxHeartbeats 1000000 in
theorem record_any (k q ep pe ek p i b he hn : Int) (w : World) :
    Calls Tryz.prog 29 #[.agg #[.int .i64 k, .int .i64 q, .int .i64 ep, .int .i64 pe, .int .i64 ek, .int .i64 p, .int .i64 i, .int .i64 b, .int .i64 he, .int .i64 hn]] w fun e w' =>
      e = .returned (.int .i64 (recordFault k q ep pe ek p i b he hn)) ∧ Below w.heap.size w w' := by
  obtain ⟨v, hv⟩ : ∃ v, recordFault k q ep pe ek p i b he hn = v := ⟨_, rfl⟩
  rw [hv]
  have HV : Hid (recordFault k q ep pe ek p i b he hn = v) := hv
  clear hv
  rcases record_ways k q ep pe with ⟨h1, h2⟩ | ⟨h1, h2⟩ | ⟨⟨h1, h2⟩, h3 | ⟨h3, h4⟩ | ⟨⟨h3, h4⟩, h5 | ⟨h5, h6⟩ | ⟨⟨h5, h6⟩, h7 | ⟨h7, h8⟩ | ⟨⟨h7, h8⟩, rfl | rfl | ⟨h9, h10⟩⟩⟩⟩⟩
  all_goals
    go_enter Tryz.func29, Tryz.ntmps29
    go_wp2_with (first | (go_at_call 55; refine (nothing_any _ _ _ _ _ _ _).mono ?_; rintro e w1 ⟨rfl, hb⟩) | (go_at_call 54; refine (check_any _ _ _ _ _ _ _).mono ?_; rintro e w1 ⟨rfl, hb⟩) | (go_at_call 52; go_in) | (go_at_call 53; go_in))
    go_ret
    refine ⟨ret_int ?_, ?_⟩
    · have h := HV.out
      subst h
      clear HV
      unfold recordFault
      repeat' split
      all_goals first | rfl | omega | (simp at h9 h10; omega)
    · first | exact below1 _ _ | exact below1t hb

set_option maxHeartbeats 1000000 in
theorem recordFault_any (k q ep pe ek p i b he hn : Int) (w : World) :
    Calls Tryz.prog 33 #[.agg #[.int .i64 k, .int .i64 q, .int .i64 ep, .int .i64 pe, .int .i64 ek, .int .i64 p, .int .i64 i, .int .i64 b, .int .i64 he, .int .i64 hn]] w fun e w' =>
      e = .returned (.int .i64 (recordFault k q ep pe ek p i b he hn)) ∧ Below w.heap.size w w' := by
  obtain ⟨v, hv⟩ : ∃ v, recordFault k q ep pe ek p i b he hn = v := ⟨_, rfl⟩
  rw [hv]
  have HV : Hid (recordFault k q ep pe ek p i b he hn = v) := hv
  clear hv
  rcases record_ways k q ep pe with ⟨h1, h2⟩ | ⟨h1, h2⟩ | ⟨⟨h1, h2⟩, h3 | ⟨h3, h4⟩ | ⟨⟨h3, h4⟩, h5 | ⟨h5, h6⟩ | ⟨⟨h5, h6⟩, h7 | ⟨h7, h8⟩ | ⟨⟨h7, h8⟩, rfl | rfl | ⟨h9, h10⟩⟩⟩⟩⟩
  all_goals
    go_enter Tryz.func33, Tryz.ntmps33
    go_wp2_with (first | (go_at_call 66; refine (fault_any _ _ _ _ _ _ _).mono ?_; rintro e w1 ⟨rfl, hb⟩) | (go_at_call 64; go_in))
    all_goals
      go_ret
      refine ⟨ret_int ?_, ?_⟩
      · have h := HV.out
        subst h
        clear HV
        unfold recordFault
        try unfold nothingOf
        repeat' split
        all_goals first | rfl | omega | (simp at h9 h10; omega)
      · first | exact below1 _ _ | exact below1t hb
end Go.Proofs.YtcdopnkabbfooaaGreat
