/- What Read and RecordsOf answer, whatever the tape. -/
import Derived.Test.YtlfecmkpafgcmaaTpP
namespace Go.Proofs.Ytlfecmkpafgcmaa
open Go.RowKit

theorem readF_bounds (b : List Int) : ∀ (f k : Nat) (rs : List (List Int)), k ≤ b.length → 6 * rs.length ≤ k → 6 * (readF f b k rs).1.length ≤ (readF f b k rs).2 ∧ (readF f b k rs).2 ≤ b.length
  | 0, k, rs, h1, h2 => ⟨h2, h1⟩
  | f + 1, k, rs, h1, h2 => by
    cases hu : unframeOf (b.drop k) with
    | none => rw [readF_end hu]; exact ⟨h2, h1⟩
    | some p =>
      obtain ⟨zs, m⟩ := p
      rw [readF_step hu]
      obtain ⟨_, hm, hl, _⟩ := unframe_some hu
      rw [List.length_drop] at hl
      exact readF_bounds b f (k + m) (rs ++ [zs]) (by omega) (by simp; omega)
theorem readOf_bounds (b : List Int) : 6 * (readOf b).1.length ≤ (readOf b).2 ∧ (readOf b).2 ≤ b.length := readF_bounds b _ 0 [] (Nat.zero_le _) (Nat.le_refl _)

/-- what Read answers: records, how many bytes they have, and the error. -/
def readOut (l : List Int) (s : Int) : List (List Int) × Nat × Int := if ¬ (l.length ≤ 100000 ∧ 0 ≤ s ∧ s ≤ l.length) then ([], 0, 6) else ((readOf l).1, (readOf l).2, 0)

theorem read_all (a : Option Addr) (len cap : Nat) (l : List Int) (s : Int) (w : World) (h : RowK .u8 w a len l) (hn : a = none → cap = 0) (hlc : len ≤ cap) (hc : cap ≤ 9223372036854775807) (hm : len ≤ 140737488351232) :
    Calls Try.prog 20 #[.agg #[.slice a len cap, .int .i64 s]] w fun e w' =>
      ∃ a' n cap' rs k er, readOut l s = (rs, k, er) ∧ e = .returned (.tuple #[.slice a' n cap', .int .i64 (k : Nat), .int .i64 er]) ∧ n = rs.length ∧ n ≤ 100000 ∧ RecRow w' a' rs ∧ n ≤ cap' ∧ cap' ≤ 9223372036854775807 ∧ Below w.heap.size w w' := by
  have hl := h.len_eq
  unfold readOut
  rw [hl]
  by_cases may : len ≤ 100000 ∧ 0 ≤ s ∧ s ≤ len
  · rw [if_neg (not_not_intro may)]
    obtain ⟨h1, h2, h3⟩ := may
    refine (read_any a len cap l s w h hn hlc hc h1 h2 h3).mono ?_
    rintro e w' ⟨a', cap', rfl, hr, hc1, hc2, _, _, hb⟩
    have := readOf_bounds l
    exact ⟨a', _, cap', _, _, _, rfl, rfl, rfl, by omega, hr, hc1, hc2, hb⟩
  · rw [if_pos may]
    refine (read_no a len cap s w hm may).mono ?_
    rintro e w' ⟨rfl, hb⟩
    exact ⟨none, 0, 0, [], 0, 6, rfl, rfl, rfl, by omega, RecRow.nil _ _, by omega, by omega, hb⟩
end Go.Proofs.Ytlfecmkpafgcmaa
