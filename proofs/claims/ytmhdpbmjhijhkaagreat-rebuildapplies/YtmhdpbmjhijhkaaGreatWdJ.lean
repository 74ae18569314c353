/- An id laid into rising ids, as the document's answer does it: plain facts. -/
import Derived.Test.YtmhdpbmjhijhkaaGreatWdI
namespace Go.Proofs.YtmhdpbmjhijhkaaGreat
open Go.RowKit

/-- what stands behind the first k ids, the new one laid ahead of the first greater one; and whether it was laid. -/
def layK (l : List Int) (id : Int) : Nat → List Int × Bool
  | 0 => ([], false)
  | k + 1 => if (layK l id k).2 = false ∧ id < l.getD k 0 then ((layK l id k).1 ++ [id] ++ [l.getD k 0], true) else ((layK l id k).1 ++ [l.getD k 0], (layK l id k).2)
/-- all ids with the new one. -/
def laid (l : List Int) (id : Int) : List Int := if (layK l id l.length).2 then (layK l id l.length).1 else (layK l id l.length).1 ++ [id]

structure LayInv (l : List Int) (id : Int) (k : Nat) : Prop where
  sorted : (layK l id k).1.Pairwise (· < ·)
  mem : ∀ x, x ∈ (layK l id k).1 ↔ (x ∈ l.take k ∨ (x = id ∧ (layK l id k).2 = true))
  done : (layK l id k).2 = true → ∀ j, k ≤ j → j < l.length → id < l.getD j 0
  open_ : (layK l id k).2 = false → ∀ x ∈ l.take k, x < id
  len : (layK l id k).1.length = if (layK l id k).2 then k + 1 else k

theorem getD_rising {l : List Int} (hp : l.Pairwise (· < ·)) {i j : Nat} (hij : i < j) (hj : j < l.length) : l.getD i 0 < l.getD j 0 := by
  rw [List.getD_eq_getElem?_getD, List.getD_eq_getElem?_getD, List.getElem?_eq_getElem hj, List.getElem?_eq_getElem (show i < l.length by omega)]
  exact List.pairwise_iff_getElem.1 hp i j (by omega) hj hij
theorem take_less {l : List Int} (hp : l.Pairwise (· < ·)) {k : Nat} (hk : k < l.length) {x : Int} (hx : x ∈ l.take k) : x < l.getD k 0 := by
  obtain ⟨i, hi, rfl⟩ := List.mem_iff_getElem.1 hx
  simp only [List.length_take] at hi
  have := getD_rising hp (show i < k by omega) hk
  rw [List.getD_eq_getElem?_getD, List.getElem?_eq_getElem (show i < l.length by omega)] at this
  simpa using this
theorem take_more (l : List Int) (k : Nat) (hk : k < l.length) : l.take (k + 1) = l.take k ++ [l.getD k 0] := by
  rw [List.take_succ_eq_append_getElem hk]
  simp [hk]

theorem lay_inv {l : List Int} {id : Int} (hp : l.Pairwise (· < ·)) (hid : id ∉ l) : ∀ k, k ≤ l.length → LayInv l id k
  | 0, _ => ⟨by simp [layK], by simp [layK], by simp [layK], by simp [layK], by simp [layK]⟩
  | k + 1, hk => by
    have ih := lay_inv hp hid k (by omega)
    have hx : l.getD k 0 ≠ id := fun h => hid (by rw [← h]; exact mem_getD (by omega))
    have ht := take_more l k (by omega)
    have hl := fun x (hx : x ∈ l.take k) => take_less hp (show k < l.length by omega) hx
    have hr := fun j (h1 : k < j) (h2 : j < l.length) => getD_rising hp h1 h2
    obtain ⟨h1, h2, h3, h4, h5⟩ := ih
    by_cases hc : (layK l id k).2 = false ∧ id < l.getD k 0
    · have e : layK l id (k + 1) = ((layK l id k).1 ++ [id] ++ [l.getD k 0], true) := by rw [layK, if_pos hc]
      have hm : ∀ x ∈ (layK l id k).1, x ∈ l.take k := fun x hx => by
        rcases (h2 x).1 hx with h | h
        · exact h
        · rw [hc.1] at h; exact absurd h.2 (by simp)
      refine ⟨?_, ?_, ?_, ?_, ?_⟩
      · rw [e]
        simp only [List.append_assoc, List.pairwise_append, List.pairwise_cons, List.mem_append, List.mem_singleton]
        refine ⟨h1, ⟨⟨by simp, by simp⟩, ⟨by simp, by simp⟩, ?_⟩, ?_⟩
        · intro a ha b hb
          rw [ha, hb]; exact hc.2
        · intro a ha b hb
          rcases hb with rfl | rfl
          · exact h4 hc.1 a (hm a ha)
          · exact hl a (hm a ha)
      · intro x
        rw [e, ht]
        simp only [List.mem_append, List.mem_singleton, and_true]
        constructor
        · rintro ((h | h) | h)
          · exact .inl (.inl (hm x h))
          · exact .inr h
          · exact .inl (.inr h)
        · rintro ((h | h) | h)
          · exact .inl (.inl ((h2 x).2 (.inl h)))
          · exact .inr h
          · exact .inl (.inr h)
      · intro _ j hj hj2
        have := hr j (by omega) hj2
        omega
      · rw [e]; intro h; cases h
      · rw [e]
        rw [hc.1] at h5
        simp at h5
        simp [h5]
    · have e : layK l id (k + 1) = ((layK l id k).1 ++ [l.getD k 0], (layK l id k).2) := by rw [layK, if_neg hc]
      refine ⟨?_, ?_, ?_, ?_, ?_⟩
      · rw [e]
        simp only [List.pairwise_append, List.pairwise_cons, List.mem_singleton]
        refine ⟨h1, ⟨by simp, by simp⟩, ?_⟩
        intro a ha b hb
        rw [hb]
        rcases (h2 a).1 ha with h | ⟨rfl, h⟩
        · exact hl a h
        · exact h3 h k (Nat.le_refl _) (by omega)
      · intro x
        rw [e, ht]
        simp only [List.mem_append, List.mem_singleton]
        rw [h2 x]
        constructor
        · rintro ((h | h) | h)
          · exact .inl (.inl h)
          · exact .inr h
          · exact .inl (.inr h)
        · rintro ((h | h) | h)
          · exact .inl (.inl h)
          · exact .inr h
          · exact .inl (.inr h)
      · rw [e]
        exact fun h j hj hj2 => h3 h j (by omega) hj2
      · rw [e, ht]
        intro h x hx
        rcases List.mem_append.1 hx with hx | hx
        · exact h4 h x hx
        · rw [List.mem_singleton] at hx
          have : ¬ id < l.getD k 0 := fun hh => hc ⟨h, hh⟩
          omega
      · rw [e]
        simp only [List.length_append, List.length_singleton]
        rw [h5]
        split <;> omega

theorem laid_mem {l : List Int} {id : Int} (hp : l.Pairwise (· < ·)) (hid : id ∉ l) (x : Int) : x ∈ laid l id ↔ (x = id ∨ x ∈ l) := by
  obtain ⟨_, h2, _, _, _⟩ := lay_inv hp hid l.length (Nat.le_refl _)
  rw [List.take_of_length_le (Nat.le_refl _)] at h2
  unfold laid
  by_cases hd : (layK l id l.length).2 = true
  · rw [if_pos hd, h2]
    simp only [hd, and_true]
    exact Or.comm
  · rw [if_neg hd, List.mem_append, h2, List.mem_singleton]
    simp only [hd]
    constructor
    · rintro ((h | h) | h)
      · exact .inr h
      · exact absurd h.2 (by simp)
      · exact .inl h
    · rintro (h | h)
      · exact .inr h
      · exact .inl (.inl h)
theorem laid_sorted {l : List Int} {id : Int} (hp : l.Pairwise (· < ·)) (hid : id ∉ l) : (laid l id).Pairwise (· < ·) := by
  obtain ⟨h1, h2, _, h4, _⟩ := lay_inv hp hid l.length (Nat.le_refl _)
  rw [List.take_of_length_le (Nat.le_refl _)] at h2 h4
  unfold laid
  by_cases hd : (layK l id l.length).2 = true
  · rw [if_pos hd]
    exact h1
  · rw [if_neg hd, List.pairwise_append]
    have hd' : (layK l id l.length).2 = false := by simpa using hd
    refine ⟨h1, by simp, fun a ha b hb => ?_⟩
    rw [List.mem_singleton] at hb
    rw [hb]
    rcases (h2 a).1 ha with h | h
    · exact h4 hd' a h
    · exact absurd h.2 hd
theorem laid_length (l : List Int) (id : Int) : (laid l id).length ≤ 2 * l.length + 1 := by
  have : ∀ k, (layK l id k).1.length ≤ 2 * k := by
    intro k
    induction k with
    | zero => simp [layK]
    | succ k ih =>
      rw [layK]
      split <;> simp <;> omega
  have := this l.length
  unfold laid
  split
  · omega
  · simp; omega

/-- the window of a window's ids with a new one is the window behind that id. -/
theorem laid_window {t id : Int} {s : Nat → Bool} (h : WinOk t s) (h0 : 0 ≤ id) (hn : inWin t s id = false) :
    topOf (laid (idsTo t s 8) id) = takeT t id ∧ (∀ i, i < 8 → seenOf (takeT t id) (laid (idsTo t s 8) id) i = takeS t s id i) ∧ (∀ x ∈ laid (idsTo t s 8) id, 0 ≤ x ∧ x < takeT t id) ∧ id ∈ laid (idsTo t s 8) id := by
  have hp := idsTo_sorted t s 8
  have hid : id ∉ idsTo t s 8 := by
    rw [mem_ids, hn]; simp
  have hg := takeT_gt t id
  have hm := laid_mem hp hid
  have hb : ∀ x ∈ laid (idsTo t s 8) id, 0 ≤ x ∧ x < takeT t id := by
    intro x hx
    rcases (hm x).1 hx with rfl | hx
    · omega
    · have := h.nonneg (mem_ids.1 hx); omega
  refine ⟨topOf_eq (laid_sorted hp hid) ?_ (fun x hx => (hb x hx).2), fun i _ => ?_, hb, (hm id).2 (.inl rfl)⟩
  · rw [hm]
    by_cases hc : t ≤ id
    · left
      unfold takeT
      rw [if_pos hc]
      omega
    · right
      unfold takeT
      rw [if_neg hc]
      have h7 : s 7 = true := by
        rcases h.last with h' | h'
        · omega
        · exact h'
      exact mem_idsTo.2 ⟨7, by omega, h7, by omega⟩
  · unfold seenOf takeS
    rw [Bool.eq_iff_iff]
    simp only [decide_eq_true_eq, Bool.or_eq_true]
    rw [hm, mem_ids]
end Go.Proofs.YtmhdpbmjhijhkaaGreat
