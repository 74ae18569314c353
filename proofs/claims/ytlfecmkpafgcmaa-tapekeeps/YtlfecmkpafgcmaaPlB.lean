/- Plain facts: what the bytes of a record are decoded to, whole, torn, and with something behind them. -/
import Derived.Test.YtlfecmkpafgcmaaPlA
namespace Go.Proofs.Ytlfecmkpafgcmaa
open Go.RowKit

theorem decode_tail (x0 x1 x2 x3 x4 x5 x6 x7 x8 x9 : Int) (tail : List Int) (hf : recordFault x0 x1 x2 x3 x4 x5 x6 x7 x8 x9 = 0) (hz : ¬ (x0 = 2 ∨ x0 = 5) → x4 = 0 ∧ x5 = 0 ∧ x6 = 0 ∧ x7 = 0 ∧ x8 = 0 ∧ x9 = 0) :
    decodeOf (bytesOf x0 x1 x2 x3 x4 x5 x6 x7 x8 x9 ++ tail) = if tail = [] then ([x0, x1, x2, x3, x4, x5, x6, x7, x8, x9], 0) else (zeros, 3) := by
  have hr := recordNums_range hf
  unfold bytesOf
  by_cases hk : x0 = 2 ∨ x0 = 5
  · rw [if_pos hk]
    have A := fun t ht => at_fours [x0, x1, x2, x3, x4, x5, x6, x7, x8, x9] tail hr t ht
    have hlen : (fours [x0, x1, x2, x3, x4, x5, x6, x7, x8, x9] ++ tail).length = 40 + tail.length := by simp [fours_len]
    generalize fours [x0, x1, x2, x3, x4, x5, x6, x7, x8, x9] ++ tail = L at A hlen
    have n0 : numAt L 0 = x0 := (A 0 (by simp)).1
    have n1 : numAt L 1 = x1 := (A 1 (by simp)).1
    have n2 : numAt L 2 = x2 := (A 2 (by simp)).1
    have n3 : numAt L 3 = x3 := (A 3 (by simp)).1
    have n4 : numAt L 4 = x4 := (A 4 (by simp)).1
    have n5 : numAt L 5 = x5 := (A 5 (by simp)).1
    have n6 : numAt L 6 = x6 := (A 6 (by simp)).1
    have n7 : numAt L 7 = x7 := (A 7 (by simp)).1
    have n8 : numAt L 8 = x8 := (A 8 (by simp)).1
    have n9 : numAt L 9 = x9 := (A 9 (by simp)).1
    have hev : hasEv x0 = true := by simp [hasEv, hk]
    have hn : numsOf L = [x0, x1, x2, x3, x4, x5, x6, x7, x8, x9] := by unfold numsOf; rw [n0, hev, n1, n2, n3, n4, n5, n6, n7, n8, n9]; rfl
    have hF : faultOf L = 0 := by unfold faultOf; rw [hn, n0, n1, n2, n3]; exact hf
    rw [decode_ev (fun u hu => (A u (by simp; omega)).2) (by rw [n0]; exact hk) (fun u hu => (A (4 + u) (by simp; omega)).2), hF, hn, hlen]
    cases tail with
    | nil => simp
    | cons y ys => simp
  · rw [if_neg hk]
    obtain ⟨rfl, rfl, rfl, rfl, rfl, rfl⟩ := hz hk
    have hr4 : ∀ n ∈ [x0, x1, x2, x3], 0 ≤ n ∧ n ≤ 2147483647 := fun n hn => hr n (by simp at hn ⊢; rcases hn with h | h | h | h <;> simp [h])
    have A := fun t ht => at_fours [x0, x1, x2, x3] tail hr4 t ht
    have hlen : (fours [x0, x1, x2, x3] ++ tail).length = 16 + tail.length := by simp [fours_len]
    generalize fours [x0, x1, x2, x3] ++ tail = L at A hlen
    have n0 : numAt L 0 = x0 := (A 0 (by simp)).1
    have n1 : numAt L 1 = x1 := (A 1 (by simp)).1
    have n2 : numAt L 2 = x2 := (A 2 (by simp)).1
    have n3 : numAt L 3 = x3 := (A 3 (by simp)).1
    have hev : hasEv x0 = false := by simp only [hasEv, decide_eq_false_iff_not]; exact hk
    have hn : numsOf L = [x0, x1, x2, x3, 0, 0, 0, 0, 0, 0] := by unfold numsOf; rw [n0, hev, n1, n2, n3]; rfl
    have hF : faultOf L = 0 := by unfold faultOf; rw [hn, n0, n1, n2, n3]; exact hf
    rw [decode_bare (fun u hu => (A u (by simp; omega)).2) (by rw [n0]; exact hk), hF, hn, hlen]
    cases tail with
    | nil => simp
    | cons y ys => simp

/-- numbers that were torn: those ahead of the tear are whole. -/
theorem at_torn (zs : List Int) (hr : ∀ n ∈ zs, 0 ≤ n ∧ n ≤ 2147483647) (c t : Nat) (ht : t < zs.length) (hc : 4 * t + 4 ≤ c) : numAt ((fours zs).take c) t = zs.getD t 0 ∧ errAt ((fours zs).take c) t = 0 := by
  have hd : ((fours zs).take c).drop (4 * t) = (fours (zs.drop t)).take (c - 4 * t) := by
    rw [List.drop_take, drop_fours t zs (by omega)]
  unfold numAt errAt
  rw [hd, List.drop_eq_getElem_cons ht]
  have hm := hr zs[t] (List.getElem_mem ht)
  have : (fours (zs[t] :: zs.drop (t + 1))).take (c - 4 * t) = four zs[t] ++ (fours (zs.drop (t + 1))).take (c - 4 * t - 4) := by
    rw [show fours (zs[t] :: zs.drop (t + 1)) = four zs[t] ++ fours (zs.drop (t + 1)) from rfl, List.take_append]
    rw [List.take_of_length_le (show (four zs[t]).length ≤ c - 4 * t by simp [four]; omega)]
    rfl
  rw [this, takenOf_four _ _ hm.1 hm.2]
  simp [ht]

theorem torn_err (zs : List Int) (c : Nat) (hc : c ≤ 4 * zs.length) : errAt ((fours zs).take c) (c / 4) = 4 := by
  unfold errAt
  rw [takenOf_short (by simp [fours_len]; omega)]

theorem decode_torn (x0 x1 x2 x3 x4 x5 x6 x7 x8 x9 : Int) (c : Nat) (hf : recordFault x0 x1 x2 x3 x4 x5 x6 x7 x8 x9 = 0) (hc : c < (if x0 = 2 ∨ x0 = 5 then 40 else 16)) :
    decodeOf ((bytesOf x0 x1 x2 x3 x4 x5 x6 x7 x8 x9).take c) = (zeros, 4) := by
  have hr := recordNums_range hf
  unfold bytesOf
  by_cases hk : x0 = 2 ∨ x0 = 5
  · rw [if_pos hk] at hc ⊢
    have A := fun t ht hc' => at_torn [x0, x1, x2, x3, x4, x5, x6, x7, x8, x9] hr c t ht hc'
    have E := torn_err [x0, x1, x2, x3, x4, x5, x6, x7, x8, x9] c (by simp; omega)
    generalize (fours [x0, x1, x2, x3, x4, x5, x6, x7, x8, x9]).take c = L at A E
    have he : ∀ u, u < c / 4 → errAt L u = 0 := fun u hu => (A u (by simp; omega) (by omega)).2
    by_cases h4 : c / 4 < 4
    · rw [decode_first h4 he (by rw [E]; decide), E]
    · have n0 : numAt L 0 = x0 := (A 0 (by simp) (by omega)).1
      rw [decode_second (t := c / 4 - 4) (fun u hu => he u (by omega)) (by rw [n0]; exact hk) (by omega) (fun u hu => he (4 + u) (by omega)) (by rw [show 4 + (c / 4 - 4) = c / 4 by omega, E]; decide), show 4 + (c / 4 - 4) = c / 4 by omega, E]
  · rw [if_neg hk] at hc ⊢
    have hr4 : ∀ n ∈ [x0, x1, x2, x3], 0 ≤ n ∧ n ≤ 2147483647 := fun n hn => hr n (by simp at hn ⊢; rcases hn with h | h | h | h <;> simp [h])
    have A := fun t ht hc' => at_torn [x0, x1, x2, x3] hr4 c t ht hc'
    have E := torn_err [x0, x1, x2, x3] c (by simp; omega)
    generalize (fours [x0, x1, x2, x3]).take c = L at A E
    rw [decode_first (t := c / 4) (by omega) (fun u hu => (A u (by simp; omega) (by omega)).2) (by rw [E]; decide), E]

theorem bytesOf_wf {x0 x1 x2 x3 x4 x5 x6 x7 x8 x9 : Int} (hf : recordFault x0 x1 x2 x3 x4 x5 x6 x7 x8 x9 = 0) : ∀ u ∈ bytesOf x0 x1 x2 x3 x4 x5 x6 x7 x8 x9, (Lit.int .u8 u).wf = true := by
  have hr := recordNums_range hf
  unfold bytesOf
  split
  · exact fours_wf _ hr
  · exact fours_wf _ (fun n hn => hr n (by simp at hn ⊢; rcases hn with h | h | h | h <;> simp [h]))
end Go.Proofs.Ytlfecmkpafgcmaa
