/- Plain facts: the bytes of a record, and the numbers among them. -/
import Derived.Test.YtlfecmkpafgcmaaKpB
import Derived.Test.YtlfecmkpafgcmaaPkL
namespace Go.Proofs.Ytlfecmkpafgcmaa
open Go.RowKit

/-- the bytes of a record. -/
def bytesOf (x0 x1 x2 x3 x4 x5 x6 x7 x8 x9 : Int) : List Int := if x0 = 2 ∨ x0 = 5 then fours [x0, x1, x2, x3, x4, x5, x6, x7, x8, x9] else fours [x0, x1, x2, x3]

theorem encode_of (x0 x1 x2 x3 x4 x5 x6 x7 x8 x9 : Int) (w : World) (h : recordFault x0 x1 x2 x3 x4 x5 x6 x7 x8 x9 = 0) :
    Calls Try.prog 32 #[.agg #[.int .i64 x0, .int .i64 x1, .int .i64 x2, .int .i64 x3, .int .i64 x4, .int .i64 x5, .int .i64 x6, .int .i64 x7, .int .i64 x8, .int .i64 x9]] w fun e w' =>
      ∃ g n, e = .returned (.tuple #[.slice (some ⟨g, 0, none⟩) n n, .int .i64 0]) ∧ n = (if x0 = 2 ∨ x0 = 5 then 40 else 16) ∧ RowK .u8 w' (some ⟨g, 0, none⟩) n (bytesOf x0 x1 x2 x3 x4 x5 x6 x7 x8 x9) ∧ Below w.heap.size w w' := by
  by_cases hk : x0 = 2 ∨ x0 = 5
  · refine (encode_ten _ _ _ _ _ _ _ _ _ _ w h hk).mono ?_
    rintro e w' ⟨g, rfl, _, hr, hb⟩
    exact ⟨g, 40, rfl, by rw [if_pos hk], by unfold bytesOf; rw [if_pos hk]; exact hr, hb⟩
  · refine (encode_four _ _ _ _ _ _ _ _ _ _ w h hk).mono ?_
    rintro e w' ⟨g, rfl, _, hr, hb⟩
    exact ⟨g, 16, rfl, by rw [if_neg hk], by unfold bytesOf; rw [if_neg hk]; exact hr, hb⟩

theorem drop_fours : ∀ (t : Nat) (zs : List Int), t ≤ zs.length → (fours zs).drop (4 * t) = fours (zs.drop t)
  | 0, zs, _ => by simp
  | t + 1, [], h => by simp at h
  | t + 1, z :: zs, h => by
    have ih := drop_fours t zs (by simpa using h)
    have : fours (z :: zs) = four z ++ fours zs := rfl
    rw [this, show 4 * (t + 1) = 4 + 4 * t by omega, ← List.drop_drop]
    have h4 : (four z ++ fours zs).drop 4 = fours zs := rfl
    rw [h4, ih]
    rfl

/-- the t-th number of bytes that numbers were put to, with something behind them. -/
theorem at_fours (zs tail : List Int) (hr : ∀ n ∈ zs, 0 ≤ n ∧ n ≤ 2147483647) (t : Nat) (ht : t < zs.length) : numAt (fours zs ++ tail) t = zs.getD t 0 ∧ errAt (fours zs ++ tail) t = 0 := by
  have hd : (fours zs ++ tail).drop (4 * t) = fours (zs.drop t) ++ tail := by
    rw [List.drop_append_of_le_length (by rw [fours_len]; omega), drop_fours t zs (by omega)]
  unfold numAt errAt
  rw [hd, List.drop_eq_getElem_cons ht]
  have hm := hr zs[t] (List.getElem_mem ht)
  have : fours (zs[t] :: zs.drop (t + 1)) ++ tail = four zs[t] ++ (fours (zs.drop (t + 1)) ++ tail) := by
    rw [show fours (zs[t] :: zs.drop (t + 1)) = four zs[t] ++ fours (zs.drop (t + 1)) from rfl, List.append_assoc]
  rw [this, takenOf_four _ _ hm.1 hm.2]
  simp [ht]

end Go.Proofs.Ytlfecmkpafgcmaa
