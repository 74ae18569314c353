/- Walks of pack.Take and berthshiftref.Taken: the number that four bytes are; of other slices the refusal. -/
import Derived.Test.YtlfecmkpafgcmaaPkA
import Derived.Deep.QuietTactic
import Derived.BigQuiet
namespace Go.Proofs.Ytlfecmkpafgcmaa
open Go.RowKit

theorem wraps_i64 (n : Int) (h₀ : 0 ≤ n) (h₁ : n < 2 ^ 62) : IntKind.i64.wrap n = n := by rw [IntKind.wrap_i64]; omega
theorem or24 (c0 c1 : Int) (r0 : 0 ≤ c0) (s0 : c0 ≤ 255) (r1 : 0 ≤ c1) (s1 : c1 ≤ 255) : bits .or .i64 (c0 * 16777216) (c1 * 65536) = c0 * 16777216 + c1 * 65536 :=
  bits_join .i64 62 (by decide) wraps_i64 24 _ _ (by omega) (by omega) (by omega) (by omega) (by omega) (by omega)
theorem or16 (c0 c1 c2 : Int) (r0 : 0 ≤ c0) (s0 : c0 ≤ 255) (r1 : 0 ≤ c1) (s1 : c1 ≤ 255) (r2 : 0 ≤ c2) (s2 : c2 ≤ 255) : bits .or .i64 (c0 * 16777216 + c1 * 65536) (c2 * 256) = c0 * 16777216 + c1 * 65536 + c2 * 256 :=
  bits_join .i64 62 (by decide) wraps_i64 16 _ _ (by omega) (by omega) (by omega) (by omega) (by omega) (by omega)
theorem or8 (c0 c1 c2 c3 : Int) (r0 : 0 ≤ c0) (s0 : c0 ≤ 255) (r1 : 0 ≤ c1) (s1 : c1 ≤ 255) (r2 : 0 ≤ c2) (s2 : c2 ≤ 255) (r3 : 0 ≤ c3) (s3 : c3 ≤ 255) : bits .or .i64 (c0 * 16777216 + c1 * 65536 + c2 * 256) c3 = c0 * 16777216 + c1 * 65536 + c2 * 256 + c3 :=
  bits_join .i64 62 (by decide) wraps_i64 8 _ _ (by omega) (by omega) (by omega) (by omega) (by omega) (by omega)

/-- the number that a list of bytes begins with, and the error, as Take and Taken answer them. -/
def takenOf (l : List Int) : Int × Int :=
  if l.length < 4 then (0, 4)
  else if 127 < l.getD 0 0 then (0, 2)
  else (16777216 * l.getD 0 0 + 65536 * l.getD 1 0 + 256 * l.getD 2 0 + l.getD 3 0, 0)

set_option maxRecDepth 20000 in
set_option maxHeartbeats 400000 in
theorem take_cells (b off len cap : Nat) (c0 c1 c2 c3 : Int) (w : World) (hl : 4 ≤ len)
    (k0 : w.cell? ⟨b, off, none⟩ = some (.int .u8 c0)) (k1 : w.cell? ⟨b, off + 1, none⟩ = some (.int .u8 c1)) (k2 : w.cell? ⟨b, off + 2, none⟩ = some (.int .u8 c2)) (k3 : w.cell? ⟨b, off + 3, none⟩ = some (.int .u8 c3))
    (r0 : 0 ≤ c0) (s0 : c0 ≤ 255) (r1 : 0 ≤ c1) (s1 : c1 ≤ 255) (r2 : 0 ≤ c2) (s2 : c2 ≤ 255) (r3 : 0 ≤ c3) (s3 : c3 ≤ 255) :
    Calls Try.prog 86 #[.slice (some ⟨b, off, none⟩) len cap] w fun e w' =>
      e = .returned (if 127 < c0 then .tuple #[.int .i64 0, .int .i64 2] else .tuple #[.int .i64 (16777216 * c0 + 65536 * c1 + 256 * c2 + c3), .int .i64 0]) ∧ ∃ n, w' = w.drewN n := by
  have J1 := or24 c0 c1 r0 s0 r1 s1
  have J2 := or16 c0 c1 c2 r0 s0 r1 s1 r2 s2
  have J3 := or8 c0 c1 c2 c3 r0 s0 r1 s1 r2 s2 r3 s3
  by_cases hc : 127 < c0
  · rw [if_pos hc]
    go_enter Try.func86, Try.ntmps86
    go_wp2
    go_quiet (fail)
    go_wp2
    go_ret2
    exact ⟨rfl, _, rfl⟩
  · rw [if_neg hc]
    go_enter Try.func86, Try.ntmps86
    go_wp2
    go_quiet (fail)
    go_wp2
    go_ret2
    refine ⟨?_, _, rfl⟩
    rw [show 16777216 * c0 + 65536 * c1 + 256 * c2 + c3 = c0 * 16777216 + c1 * 65536 + c2 * 256 + c3 by omega]
    rfl

theorem take_short (a : Option Addr) (len cap : Nat) (w : World) (hl : len < 4) : Calls Try.prog 86 #[.slice a len cap] w fun e w' => e = .returned (.tuple #[.int .i64 0, .int .i64 4]) ∧ w = w' := by
  go_enter Try.func86, Try.ntmps86
  go_wp2
  go_ret2
  exact ⟨rfl, rfl⟩
theorem byte_bounds {l : List Int} (hw : ∀ u ∈ l, (Lit.int .u8 u).wf = true) (k : Nat) : 0 ≤ l.getD k 0 ∧ l.getD k 0 ≤ 255 := by
  by_cases h : k < l.length
  · have := bounds_u8 (hw _ (getD_mem l k h)); omega
  · rw [List.getD_eq_getElem?_getD, List.getElem?_eq_none (by omega)]; simp

theorem takenOf_short {l : List Int} (h : l.length < 4) : takenOf l = (0, 4) := by simp [takenOf, h]
theorem takenOf_long {l : List Int} (h : ¬ l.length < 4) : Value.tuple #[.int .i64 (takenOf l).1, .int .i64 (takenOf l).2] = if 127 < l.getD 0 0 then .tuple #[.int .i64 0, .int .i64 2] else .tuple #[.int .i64 (16777216 * l.getD 0 0 + 65536 * l.getD 1 0 + 256 * l.getD 2 0 + l.getD 3 0), .int .i64 0] := by
  unfold takenOf
  rw [if_neg h]
  split <;> rfl

/-- Take, whatever the bytes. -/
theorem take_any (a : Option Addr) (len cap : Nat) (l : List Int) (w : World) (h : RowK .u8 w a len l) :
    Calls Try.prog 86 #[.slice a len cap] w fun e w' => e = .returned (.tuple #[.int .i64 (takenOf l).1, .int .i64 (takenOf l).2]) ∧ ∃ n, w' = w.drewN n := by
  by_cases h4 : l.length < 4
  · rw [takenOf_short h4]
    refine (take_short a len cap w (by rw [← h.len_eq]; exact h4)).mono ?_
    rintro e w' ⟨rfl, rfl⟩
    exact ⟨rfl, 0, rfl⟩
  · rw [takenOf_long h4]
    have hl := h.len_eq
    obtain ⟨b, off, rfl⟩ := h.form (by omega)
    have b0 := byte_bounds h.wf 0
    have b1 := byte_bounds h.wf 1
    have b2 := byte_bounds h.wf 2
    have b3 := byte_bounds h.wf 3
    exact take_cells b off len cap _ _ _ _ w (by omega) (h.at 0 (by omega)) (h.at 1 (by omega)) (h.at 2 (by omega)) (h.at 3 (by omega)) b0.1 b0.2 b1.1 b1.2 b2.1 b2.2 b3.1 b3.2
end Go.Proofs.Ytlfecmkpafgcmaa
