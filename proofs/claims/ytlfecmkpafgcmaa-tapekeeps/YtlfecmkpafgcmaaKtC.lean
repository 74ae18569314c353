/- Records of deeds and their frames; what berthshiftkeep.taped returns lies in its cells. -/
import Derived.Test.YtlfecmkpafgcmaaKtA
import Derived.Test.YtlfecmkpafgcmaaTpH
namespace Go.Proofs.Ytlfecmkpafgcmaa
open Go.RowKit

/-- the bytes of a record that is told by its ten numbers. -/
def bytesL (z : List Int) : List Int := bytesOf (z.getD 0 0) (z.getD 1 0) (z.getD 2 0) (z.getD 3 0) (z.getD 4 0) (z.getD 5 0) (z.getD 6 0) (z.getD 7 0) (z.getD 8 0) (z.getD 9 0)
/-- the frames of records, one behind the other. -/
def framesOf (rs : List (List Int)) : List Int := rs.flatMap (fun z => frameOf (bytesL z))
theorem framesOf_snoc (rs : List (List Int)) (z : List Int) : framesOf (rs ++ [z]) = framesOf rs ++ frameOf (bytesL z) := by simp [framesOf]
/-- the j-th record of deeds. -/
def recAt (D : List Int) (j : Nat) : List Int := recOf (D.getD (8 * j) 0) (D.getD (8 * j + 1) 0) (D.getD (8 * j + 2) 0) (D.getD (8 * j + 3) 0) (D.getD (8 * j + 4) 0) (D.getD (8 * j + 5) 0) (D.getD (8 * j + 6) 0) (D.getD (8 * j + 7) 0)
def recsOf (D : List Int) (m : Nat) : List (List Int) := (List.range m).map (recAt D)
theorem recsOf_snoc (D : List Int) (m : Nat) : recsOf D (m + 1) = recsOf D m ++ [recAt D m] := by simp [recsOf, List.range_succ]
theorem recsOf_len (D : List Int) (m : Nat) : (recsOf D m).length = m := by simp [recsOf]
/-- a record that may stand on a tape. -/
def GoodRec (z : List Int) : Prop := ∃ x0 x1 x2 x3 x4 x5 x6 x7 x8 x9, z = [x0, x1, x2, x3, x4, x5, x6, x7, x8, x9] ∧ recordFault x0 x1 x2 x3 x4 x5 x6 x7 x8 x9 = 0 ∧ (¬ (x0 = 2 ∨ x0 = 5) → x4 = 0 ∧ x5 = 0 ∧ x6 = 0 ∧ x7 = 0 ∧ x8 = 0 ∧ x9 = 0)
theorem recAt_good (D : List Int) (j : Nat) : GoodRec (recAt D j) := recOf_ok _ _ _ _ _ _ _ _
theorem recsOf_good (D : List Int) (m : Nat) : ∀ z ∈ recsOf D m, GoodRec z := by
  intro z hz
  simp only [recsOf, List.mem_map] at hz
  obtain ⟨j, _, rfl⟩ := hz
  exact recAt_good D j
theorem GoodRec.len {z : List Int} (h : GoodRec z) : z.length = 10 := by
  obtain ⟨_, _, _, _, _, _, _, _, _, _, rfl, _⟩ := h
  rfl
theorem bytesL_len (z : List Int) : 16 ≤ (bytesL z).length ∧ (bytesL z).length ≤ 40 := by
  unfold bytesL
  rw [bytesOf_len]
  split <;> omega
theorem framesOf_len (rs : List (List Int)) : 22 * rs.length ≤ (framesOf rs).length ∧ (framesOf rs).length ≤ 46 * rs.length := by
  induction rs with
  | nil => simp [framesOf]
  | cons z rs ih =>
    have := bytesL_len z
    have hf : framesOf (z :: rs) = frameOf (bytesL z) ++ framesOf rs := by simp [framesOf]
    rw [hf, List.length_append, frameOf_len, List.length_cons]
    omega

theorem ret_taped {W : World} {R : Nat} {a : Option Addr} {len cap : Nat} {s : Int} {v : Value} {b : Bool} {tmps : Array Value} (h : tapeBlock W R a len cap s) (t : tmps[2]? = some (.pointer (some ⟨R, 0, none⟩))) (t3 : tmps[3]? = some v) (t4 : tmps[4]? = some (.bool b)) :
    (results Try.f14 tmps).run Try.prog W = .ok (.tuple #[.agg #[.slice a len cap, .int .i64 s], v, .bool b]) W := by
  have k0 := h.cell0
  have k1 := h.cell1
  simp [results, Try.results14, go_sem, k0, k1, t, t3, t4]

theorem Try.infoRecK : (Try.prog.info? 63).map (fun i => (i.zero, i.size, i.bytes)) = some (some (.agg #[.int .i64 0, .int .i64 0, .int .i64 0, .int .i64 0, .int .i64 0, .int .i64 0, .int .i64 0, .int .i64 0, .int .i64 0, .int .i64 0]), 10, 80) := by kernel_rfl

theorem rec_tens {w : World} {R : Nat} {x0 x1 x2 x3 x4 x5 x6 x7 x8 x9 : Int} (h : recBlock w R [x0, x1, x2, x3, x4, x5, x6, x7, x8, x9]) :
    w.cell? ⟨R, 0, none⟩ = some (.int .i64 x0) ∧ w.cell? ⟨R, 1, none⟩ = some (.int .i64 x1) ∧ w.cell? ⟨R, 2, none⟩ = some (.int .i64 x2) ∧ w.cell? ⟨R, 3, none⟩ = some (.int .i64 x3) ∧ w.cell? ⟨R, 4, none⟩ = some (.int .i64 x4) ∧
    w.cell? ⟨R, 5, none⟩ = some (.int .i64 x5) ∧ w.cell? ⟨R, 6, none⟩ = some (.int .i64 x6) ∧ w.cell? ⟨R, 7, none⟩ = some (.int .i64 x7) ∧ w.cell? ⟨R, 8, none⟩ = some (.int .i64 x8) ∧ w.cell? ⟨R, 9, none⟩ = some (.int .i64 x9) := by
  have m0 := h.cell 0 (by omega)
  have m1 := h.cell 1 (by omega)
  have m2 := h.cell 2 (by omega)
  have m3 := h.cell 3 (by omega)
  have m4 := h.cell 4 (by omega)
  have m5 := h.cell 5 (by omega)
  have m6 := h.cell 6 (by omega)
  have m7 := h.cell 7 (by omega)
  have m8 := h.cell 8 (by omega)
  have m9 := h.cell 9 (by omega)
  simp only [List.getD_cons_zero, List.getD_cons_succ] at m0 m1 m2 m3 m4 m5 m6 m7 m8 m9
  exact ⟨m0, m1, m2, m3, m4, m5, m6, m7, m8, m9⟩

end Go.Proofs.Ytlfecmkpafgcmaa
