/- Walks of pack.Take and berthshiftref.Taken: the number that four bytes are; of other slices the refusal. -/
import Derived.Test.YtdpenbgmmgljoacPkA
import Derived.Deep.QuietTactic
import Derived.BigQuiet
namespace Go.Proofs.Ytdpenbgmmgljoac
open Go.RowKit

theorem wraps_i64 (n : Int) (h₀ : 0 ≤ n) (h₁ : n < 2 ^ 62) : IntKind.i64.wrap n = n := by rw [IntKind.wrap_i64]; omega
theorem or24 (c0 c1 : Int) (r0 : 0 ≤ c0) (s0 : c0 ≤ 255) (r1 : 0 ≤ c1) (s1 : c1 ≤ 255) : bits .or .i64 (c0 * 16777216) (c1 * 65536) = c0 * 16777216 + c1 * 65536 :=
  bits_join .i64 62 (by decide) wraps_i64 24 _ _ (by omega) (by omega) (by omega) (by omega) (by omega) (by omega)
theorem or16 (c0 c1 c2 : Int) (r0 : 0 ≤ c0) (s0 : c0 ≤ 255) (r1 : 0 ≤ c1) (s1 : c1 ≤ 255) (r2 : 0 ≤ c2) (s2 : c2 ≤ 255) : bits .or .i64 (c0 * 16777216 + c1 * 65536) (c2 * 256) = c0 * 16777216 + c1 * 65536 + c2 * 256 :=
  bits_join .i64 62 (by decide) wraps_i64 16 _ _ (by omega) (by omega) (by omega) (by omega) (by omega) (by omega)
theorem or8 (c0 c1 c2 c3 : Int) (r0 : 0 ≤ c0) (s0 : c0 ≤ 255) (r1 : 0 ≤ c1) (s1 : c1 ≤ 255) (r2 : 0 ≤ c2) (s2 : c2 ≤ 255) (r3 : 0 ≤ c3) (s3 : c3 ≤ 255) : bits .or .i64 (c0 * 16777216 + c1 * 65536 + c2 * 256) c3 = c0 * 16777216 + c1 * 65536 + c2 * 256 + c3 :=
  bits_join .i64 62 (by decide) wraps_i64 8 _ _ (by omega) (by omega) (by omega) (by omega) (by omega) (by omega)

/-- the number that a list of bytes begins with, and the error, as Take and Taken answer them. -/
def takenOf (l : List Int) : Int × Int :=
  if l.length < 4 then (0, 4)
  else if 127 < l.getD 0 0 then (0, 2)
  else (16777216 * l.getD 0 0 + 65536 * l.getD 1 0 + 256 * l.getD 2 0 + l.getD 3 0, 0)

theorem byte_bounds {l : List Int} (hw : ∀ u ∈ l, (Lit.int .u8 u).wf = true) (k : Nat) : 0 ≤ l.getD k 0 ∧ l.getD k 0 ≤ 255 := by
  by_cases h : k < l.length
  · have := bounds_u8 (hw _ (getD_mem l k h)); omega
  · rw [List.getD_eq_getElem?_getD, List.getElem?_eq_none (by omega)]; simp

theorem takenOf_short {l : List Int} (h : l.length < 4) : takenOf l = (0, 4) := by simp [takenOf, h]
theorem takenOf_long {l : List Int} (h : ¬ l.length < 4) : Value.tuple #[.int .i64 (takenOf l).1, .int .i64 (takenOf l).2] = if 127 < l.getD 0 0 then .tuple #[.int .i64 0, .int .i64 2] else .tuple #[.int .i64 (16777216 * l.getD 0 0 + 65536 * l.getD 1 0 + 256 * l.getD 2 0 + l.getD 3 0), .int .i64 0] := by
  unfold takenOf
  rw [if_neg h]
  split <;> rfl

end Go.Proofs.Ytdpenbgmmgljoac
