/- Plain facts: what the frame that bytes begin with is, as the program asks it and as the document's answer does; all frames, one behind the other. -/
import Derived.Test.YtlfecmkpafgcmaaTpF
import Derived.Test.YtlfecmkpafgcmaaPlB
namespace Go.Proofs.Ytlfecmkpafgcmaa
open Go.RowKit

/-- how many bytes the record has, by the first two bytes. -/
def toldOf (b : List Int) : Nat := (256 * b.getD 0 0 + b.getD 1 0).toNat
/-- the record that bytes begin with, and how many bytes its frame has. -/
def unframeOf (b : List Int) : Option (List Int × Nat) :=
  if b.length < 2 then none
  else if b.length < toldOf b + 6 then none
  else if ¬ four (sumOf (b.take (toldOf b + 2))) = (b.drop (toldOf b + 2)).take 4 then none
  else if ¬ (decodeOf ((b.drop 2).take (toldOf b))).2 = 0 then none
  else some ((decodeOf ((b.drop 2).take (toldOf b))).1, toldOf b + 6)

/-- all records from the place k on, rs those ahead. -/
def readF : Nat → List Int → Nat → List (List Int) → List (List Int) × Nat
  | 0, _, k, rs => (rs, k)
  | f + 1, b, k, rs => match unframeOf (b.drop k) with
    | none => (rs, k)
    | some (zs, m) => readF f b (k + m) (rs ++ [zs])
def readOf (b : List Int) : List (List Int) × Nat := readF (b.length + 1) b 0 []

theorem readF_end {f : Nat} {b : List Int} {k : Nat} {rs : List (List Int)} (h : unframeOf (b.drop k) = none) : readF f b k rs = (rs, k) := by
  cases f with
  | zero => rfl
  | succ f => simp only [readF, h]
theorem readF_step {f : Nat} {b : List Int} {k m : Nat} {rs : List (List Int)} {zs : List Int} (h : unframeOf (b.drop k) = some (zs, m)) : readF (f + 1) b k rs = readF f b (k + m) (rs ++ [zs]) := by
  simp only [readF, h]

theorem unframe_some {b zs : List Int} {m : Nat} (h : unframeOf b = some (zs, m)) :
    2 ≤ b.length ∧ m = toldOf b + 6 ∧ m ≤ b.length ∧ four (sumOf (b.take (toldOf b + 2))) = (b.drop (toldOf b + 2)).take 4 ∧ decodeOf ((b.drop 2).take (toldOf b)) = (zs, 0) := by
  unfold unframeOf at h
  split at h
  · cases h
  split at h
  · cases h
  split at h
  · cases h
  split at h
  · cases h
  rename_i h1 h2 h3 h4
  simp only [Option.some.injEq, Prod.mk.injEq] at h
  refine ⟨by omega, h.2.symm, by omega, Classical.not_not.1 h3, ?_⟩
  exact Prod.ext h.1 (Classical.not_not.1 h4)

/-- the state of a loop that reads: what is to come makes the whole. -/
def Going (b : List Int) (k : Nat) (rs : List (List Int)) : Prop := k ≤ b.length ∧ ∃ f, b.length + 1 ≤ f + k ∧ readF f b k rs = readOf b
theorem going_start (b : List Int) : Going b 0 [] := ⟨Nat.zero_le _, b.length + 1, by omega, rfl⟩
theorem going_end {b : List Int} {k : Nat} {rs : List (List Int)} (h : Going b k rs) (hn : unframeOf (b.drop k) = none) : readOf b = (rs, k) := by
  obtain ⟨_, f, _, hf⟩ := h
  rw [← hf, readF_end hn]
theorem going_step {b : List Int} {k m : Nat} {rs : List (List Int)} {zs : List Int} (h : Going b k rs) (hn : unframeOf (b.drop k) = some (zs, m)) : Going b (k + m) (rs ++ [zs]) := by
  obtain ⟨hk, f, hf, he⟩ := h
  obtain ⟨_, hm, hl, _⟩ := unframe_some hn
  rw [List.length_drop] at hl
  cases f with
  | zero => omega
  | succ f => exact ⟨by omega, f, by omega, by rw [← he, readF_step hn]⟩
theorem unframe_len {b zs : List Int} {m : Nat} (h : unframeOf b = some (zs, m)) : zs.length = 10 := by
  obtain ⟨_, _, _, _, hd⟩ := unframe_some h
  have : (decodeOf ((b.drop 2).take (toldOf b))).1.length = 10 := by
    unfold decodeOf
    repeat' split
    all_goals first | rfl | (unfold numsOf; split <;> rfl)
  rw [hd] at this
  exact this
theorem toldOf_le {b : List Int} (hw : ∀ u ∈ b, (Lit.int .u8 u).wf = true) : toldOf b ≤ 65535 := by
  have h0 := byte_bounds hw 0
  have h1 := byte_bounds hw 1
  unfold toldOf
  omega
theorem toldOf_cast {b : List Int} (hw : ∀ u ∈ b, (Lit.int .u8 u).wf = true) : (toldOf b : Int) = 256 * b.getD 0 0 + b.getD 1 0 := by
  have h0 := byte_bounds hw 0
  have h1 := byte_bounds hw 1
  unfold toldOf
  omega
end Go.Proofs.Ytlfecmkpafgcmaa
