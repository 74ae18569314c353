/- Plain facts: a frame is whole where framing what its record says makes just these bytes. -/
import Derived.Test.YtlfecmkpafgcmaaTpJ
namespace Go.Proofs.Ytlfecmkpafgcmaa
open Go.RowKit

theorem head_told {b : List Int} (hw : ∀ u ∈ b, (Lit.int .u8 u).wf = true) (hl : toldOf b + 2 ≤ b.length) : headOf ((b.drop 2).take (toldOf b)) = b.take (toldOf b + 2) := by
  have hc := toldOf_cast hw
  have h0 := byte_bounds hw 0
  have h1 := byte_bounds hw 1
  match b, hl with
  | c0 :: c1 :: r, hl =>
    simp only [List.getD_cons_zero, List.getD_cons_succ] at hc h0 h1
    generalize toldOf (c0 :: c1 :: r) = n at hc hl ⊢
    have hr : (r.take n).length = n := by simp at hl ⊢; omega
    simp only [List.drop_succ_cons, List.drop_zero, List.take_succ_cons, headOf, hr, List.cons_append, List.nil_append, List.cons.injEq, and_true]
    omega
  | [], hl => simp at hl
  | [c0], hl => simp at hl

theorem frame_whole {b : List Int} (hw : ∀ u ∈ b, (Lit.int .u8 u).wf = true) (hl : toldOf b + 6 ≤ b.length) :
    frameOf ((b.drop 2).take (toldOf b)) = b.take (toldOf b + 6) ↔ four (sumOf (b.take (toldOf b + 2))) = (b.drop (toldOf b + 2)).take 4 := by
  have ht : b.take (toldOf b + 6) = b.take (toldOf b + 2) ++ (b.drop (toldOf b + 2)).take 4 := by
    rw [show toldOf b + 6 = (toldOf b + 2) + 4 by omega, List.take_add]
  unfold frameOf
  rw [head_told hw (by omega), ht]
  exact ⟨fun h => List.append_cancel_left h, fun h => by rw [h]⟩

theorem decode_bytes {l zs : List Int} (hw : ∀ u ∈ l, (Lit.int .u8 u).wf = true) (h : decodeOf l = (zs, 0)) :
    ∃ x0 x1 x2 x3 x4 x5 x6 x7 x8 x9, zs = [x0, x1, x2, x3, x4, x5, x6, x7, x8, x9] ∧ recordFault x0 x1 x2 x3 x4 x5 x6 x7 x8 x9 = 0 ∧ bytesOf x0 x1 x2 x3 x4 x5 x6 x7 x8 x9 = l := by
  obtain ⟨hz, hf, hc⟩ := decode_good h
  rcases hc with ⟨hev, hl, he⟩ | ⟨hev, hl, he⟩
  · have hb := wf_bytes_eq hw (n := 10) hl he
    have hn : numsOf l = [numAt l 0, numAt l 1, numAt l 2, numAt l 3, numAt l 4, numAt l 5, numAt l 6, numAt l 7, numAt l 8, numAt l 9] := by unfold numsOf; rw [hev]; rfl
    have hk : numAt l 0 = 2 ∨ numAt l 0 = 5 := by simpa [hasEv] using hev
    unfold faultOf at hf
    rw [hn] at hf
    refine ⟨_, _, _, _, _, _, _, _, _, _, hz.trans hn, hf, ?_⟩
    unfold bytesOf
    rw [if_pos hk]
    exact hb
  · have hb := wf_bytes_eq hw (n := 4) hl he
    have hn : numsOf l = [numAt l 0, numAt l 1, numAt l 2, numAt l 3, 0, 0, 0, 0, 0, 0] := by unfold numsOf; rw [hev]; rfl
    have hk : ¬ (numAt l 0 = 2 ∨ numAt l 0 = 5) := by simpa [hasEv] using hev
    unfold faultOf at hf
    rw [hn] at hf
    refine ⟨_, _, _, _, _, _, _, _, _, _, hz.trans hn, hf, ?_⟩
    unfold bytesOf
    rw [if_neg hk]
    exact hb

theorem unframe_yes {b zs : List Int} (hw : ∀ u ∈ b, (Lit.int .u8 u).wf = true) (h2 : 2 ≤ b.length) (hl : toldOf b + 6 ≤ b.length) (hd : decodeOf ((b.drop 2).take (toldOf b)) = (zs, 0)) (hf : frameOf ((b.drop 2).take (toldOf b)) = b.take (toldOf b + 6)) :
    unframeOf b = some (zs, toldOf b + 6) := by
  unfold unframeOf
  rw [if_neg (by omega), if_neg (by omega), if_neg (not_not_intro ((frame_whole hw hl).1 hf)), hd, if_neg (not_not_intro rfl)]
theorem unframe_not_len {b : List Int} (hl : b.length < toldOf b + 6) : unframeOf b = none := by
  unfold unframeOf
  by_cases h1 : b.length < 2
  · rw [if_pos h1]
  · rw [if_neg h1, if_pos hl]
theorem unframe_not_dec {b : List Int} (hd : ¬ (decodeOf ((b.drop 2).take (toldOf b))).2 = 0) : unframeOf b = none := by
  unfold unframeOf
  by_cases h1 : b.length < 2
  · rw [if_pos h1]
  by_cases h2 : b.length < toldOf b + 6
  · rw [if_neg h1, if_pos h2]
  by_cases h3 : ¬ four (sumOf (b.take (toldOf b + 2))) = (b.drop (toldOf b + 2)).take 4
  · rw [if_neg h1, if_neg h2, if_pos h3]
  · rw [if_neg h1, if_neg h2, if_neg h3, if_pos hd]
theorem unframe_not_frame {b : List Int} (hw : ∀ u ∈ b, (Lit.int .u8 u).wf = true) (hl : toldOf b + 6 ≤ b.length) (hf : ¬ frameOf ((b.drop 2).take (toldOf b)) = b.take (toldOf b + 6)) : unframeOf b = none := by
  unfold unframeOf
  by_cases h1 : b.length < 2
  · rw [if_pos h1]
  · rw [if_neg h1, if_neg (by omega), if_pos (fun h => hf ((frame_whole hw hl).2 h))]
theorem unframe_not_two {b : List Int} (hl : b.length < 2) : unframeOf b = none := by
  unfold unframeOf
  rw [if_pos hl]
end Go.Proofs.Ytlfecmkpafgcmaa
