/- Plain facts for TapeKeeps: what is read behind a tear and a repair, and one record more. -/
import Derived.Test.YtlfecmkpafgcmaaKtD
namespace Go.Proofs.Ytlfecmkpafgcmaa
open Go.RowKit

/-- behind what was read a record more is read. -/
theorem read_more (b : List Int) {z : List Int} (hz : GoodRec z) : readOf (b.take (readOf b).2 ++ frameOf (bytesL z)) = ((readOf b).1 ++ [z], (readOf b).2 + ((bytesL z).length + 6)) := by
  have h := (readOf_steps b).1
  have hb := (readOf_bounds b).2
  have hl : (b.take (readOf b).2).length = (readOf b).2 := by rw [List.length_take]; omega
  have h1 : Steps (b.take (readOf b).2 ++ frameOf (bytesL z)) (readOf b).2 (readOf b).1 := h.same (by rw [List.take_left' hl])
  have h2 := h1.more (zs := z) (m := (bytesL z).length + 6) (by
    rw [List.drop_left' hl]
    have := unframe_frame hz []
    rwa [List.append_nil] at this)
  exact h2.end (by rw [List.drop_eq_nil_of_le (by rw [List.length_append, frameOf_len, hl]; omega)]; rfl)
/-- of bytes that were torn behind the first records these are read, and perhaps more. -/
theorem keeps_read (rs ms : List (List Int)) (hg : ∀ z ∈ rs ++ ms, GoodRec z) (c : Nat) (h1 : (framesOf rs).length ≤ c) (h2 : c ≤ (framesOf (rs ++ ms)).length) :
    (∃ more, rs ++ ms = (readOf ((framesOf (rs ++ ms)).take c)).1 ++ more) ∧ (∃ mo, (readOf ((framesOf (rs ++ ms)).take c)).1 = rs ++ mo) ∧ (framesOf rs).length ≤ (readOf ((framesOf (rs ++ ms)).take c)).2 := by
  obtain ⟨more, h3, _⟩ := read_torn (rs ++ ms) hg c h2
  have hs := frames_steps rs (framesOf ms) (fun z hz => hg z (by simp [hz]))
  rw [← framesOf_append] at hs
  have hs2 : Steps ((framesOf (rs ++ ms)).take c) (framesOf rs).length rs := hs.same (by rw [List.take_take, Nat.min_eq_left h1])
  obtain ⟨mo, h4, h5, _⟩ := hs2.prefix
  exact ⟨⟨more, h3⟩, ⟨mo, h4⟩, h5⟩
end Go.Proofs.Ytlfecmkpafgcmaa
