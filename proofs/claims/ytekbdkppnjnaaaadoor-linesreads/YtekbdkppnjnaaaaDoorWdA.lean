/- Windows: their cells, the ids that they hold, what a window becomes when an id is taken: plain facts. -/
import Derived.Test.YtekbdkppnjnaaaaDoorBase
import Derived.Test.YtekbdkppnjnaaaaDoorProg
namespace Go.Proofs.YtekbdkppnjnaaaaDoor
open Go.RowKit

/-- a window's cells: its top, and of the eight ids below it which were taken. -/
abbrev winCells (t : Int) (s : Nat → Bool) : Array Value := #[.int .i64 t, .bool (s 0), .bool (s 1), .bool (s 2), .bool (s 3), .bool (s 4), .bool (s 5), .bool (s 6), .bool (s 7)]
abbrev winVal (t : Int) (s : Nat → Bool) : Value := .agg #[.int .i64 t, .bool (s 0), .bool (s 1), .bool (s 2), .bool (s 3), .bool (s 4), .bool (s 5), .bool (s 6), .bool (s 7)]
def noneS : Nat → Bool := fun _ => false
theorem veil {p : Prop} (h : p) : Hid p := h
theorem unveil {p : Prop} (h : Hid p) : p := h

theorem below8 {p : Nat → Prop} (h0 : p 0) (h1 : p 1) (h2 : p 2) (h3 : p 3) (h4 : p 4) (h5 : p 5) (h6 : p 6) (h7 : p 7) : ∀ i, i < 8 → p i
  | 0, _ => h0
  | 1, _ => h1
  | 2, _ => h2
  | 3, _ => h3
  | 4, _ => h4
  | 5, _ => h5
  | 6, _ => h6
  | 7, _ => h7
  | n + 8, h => absurd h (by omega)
theorem winVal_eq {t t' : Int} {s s' : Nat → Bool} (ht : t = t') (hs : ∀ i, i < 8 → s i = s' i) : winVal t s = winVal t' s' := by
  simp only [winVal, ht, hs 0 (by omega), hs 1 (by omega), hs 2 (by omega), hs 3 (by omega), hs 4 (by omega), hs 5 (by omega), hs 6 (by omega), hs 7 (by omega)]
/-- the cells with one bool changed. -/
theorem winCells_set (t : Int) (s s' : Nat → Bool) (b : Bool) (k : Nat) (hk : k < 8) (hs : ∀ i, i < 8 → s' i = if i = k then b else s i) : (winCells t s).set! (1 + k) (.bool b) = winCells t s' := by
  have e0 := hs 0 (by omega)
  have e1 := hs 1 (by omega)
  have e2 := hs 2 (by omega)
  have e3 := hs 3 (by omega)
  have e4 := hs 4 (by omega)
  have e5 := hs 5 (by omega)
  have e6 := hs 6 (by omega)
  have e7 := hs 7 (by omega)
  rw [winCells, winCells, e0, e1, e2, e3, e4, e5, e6, e7]
  revert k
  refine below8 ?_ ?_ ?_ ?_ ?_ ?_ ?_ ?_ <;> (intros; rfl)

/-- windows that may be. -/
structure WinOk (t : Int) (s : Nat → Bool) : Prop where
  low : 0 ≤ t
  high : t ≤ 1073741825
  ids : ∀ i : Nat, i < 8 → s i = true → 8 ≤ t + i
  last : t = 0 ∨ s 7 = true

/-- the id x was taken, and is remembered. -/
def inWin (t : Int) (s : Nat → Bool) (x : Int) : Bool := decide (t - 8 ≤ x) && decide (x < t) && s (x - (t - 8)).toNat

theorem inWin_iff {t x : Int} {s : Nat → Bool} : inWin t s x = true ↔ ∃ i : Nat, i < 8 ∧ s i = true ∧ x = t - 8 + i := by
  unfold inWin
  constructor
  · intro h
    simp only [Bool.and_eq_true, decide_eq_true_eq] at h
    exact ⟨(x - (t - 8)).toNat, by omega, h.2, by omega⟩
  · rintro ⟨i, hi, hs, rfl⟩
    have e : (t - 8 + (i : Int) - (t - 8)).toNat = i := by omega
    simp only [Bool.and_eq_true, decide_eq_true_eq]
    rw [e]
    exact ⟨⟨by omega, by omega⟩, hs⟩
theorem inWin_at {t : Int} {s : Nat → Bool} (i : Nat) (hi : i < 8) : inWin t s (t - 8 + i) = s i := by
  rw [Bool.eq_iff_iff, inWin_iff]
  constructor
  · rintro ⟨j, _, hs, he⟩
    obtain rfl : i = j := by omega
    exact hs
  · exact fun h => ⟨i, hi, h, rfl⟩
theorem inWin_none (t x : Int) : inWin t noneS x = false := by
  simp [inWin, noneS]
theorem WinOk.none : WinOk 0 noneS := ⟨by omega, by omega, fun i _ h => by simp [noneS] at h, .inl rfl⟩
theorem WinOk.nonneg {t x : Int} {s : Nat → Bool} (h : WinOk t s) (hx : inWin t s x = true) : 0 ≤ x ∧ x < t := by
  obtain ⟨i, hi, hs, rfl⟩ := inWin_iff.1 hx
  have := h.ids i hi hs
  omega

/-- a window behind an id that was new. -/
def takeT (t id : Int) : Int := if t ≤ id then id + 1 else t
def takeS (t : Int) (s : Nat → Bool) (id : Int) : Nat → Bool := fun j => decide (takeT t id - 8 + j = id) || inWin t s (takeT t id - 8 + j)
theorem takeT_gt (t id : Int) : t ≤ takeT t id ∧ id < takeT t id := by unfold takeT; split <;> omega
theorem inWin_take {t id x : Int} {s : Nat → Bool} (hx : takeT t id - 8 ≤ x) : inWin (takeT t id) (takeS t s id) x = (decide (x = id) || inWin t s x) := by
  have hg := takeT_gt t id
  by_cases hlt : x < takeT t id
  · obtain ⟨i, hi⟩ : ∃ i : Nat, x = takeT t id - 8 + i := ⟨(x - (takeT t id - 8)).toNat, by omega⟩
    subst hi
    rw [inWin_at i (by omega)]
    rfl
  · have h1 : inWin (takeT t id) (takeS t s id) x = false := by simp [inWin, hlt]
    have h2 : inWin t s x = false := by
      simp only [inWin]
      rw [show decide (x < t) = false by simp; omega]
      simp
    have h3 : decide (x = id) = false := by simp; omega
    rw [h1, h2, h3]
    rfl
theorem inWin_low {t x : Int} {s : Nat → Bool} (hx : x < t - 8) : inWin t s x = false := by
  simp only [inWin]
  rw [show decide (t - 8 ≤ x) = false by simp; omega]
  simp
theorem WinOk.take {t id : Int} {s : Nat → Bool} (h : WinOk t s) (h0 : 0 ≤ id) (h1 : id ≤ 1073741824) : WinOk (takeT t id) (takeS t s id) := by
  have hl := h.low
  have hh := h.high
  have hg := takeT_gt t id
  refine ⟨by omega, by unfold takeT; split <;> omega, ?_, .inr ?_⟩
  · intro i hi hs
    have : (decide (takeT t id - 8 + i = id) || inWin t s (takeT t id - 8 + i)) = true := hs
    simp only [Bool.or_eq_true, decide_eq_true_eq] at this
    rcases this with e | e
    · omega
    · have := h.nonneg e; omega
  · show (decide (takeT t id - 8 + ((7 : Nat) : Int) = id) || inWin t s (takeT t id - 8 + ((7 : Nat) : Int))) = true
    by_cases hc : t ≤ id
    · have e : takeT t id = id + 1 := by unfold takeT; rw [if_pos hc]
      rw [e]
      simp
      left
      omega
    · have e : takeT t id = t := by unfold takeT; rw [if_neg hc]
      rw [e, inWin_at 7 (by omega)]
      rcases h.last with hz | hz
      · omega
      · simp [hz]

/-- the ids that a window remembers, of the first k places. -/
def idsTo (t : Int) (s : Nat → Bool) (k : Nat) : List Int := (List.range k).filterMap (fun i => if s i then some (t - 8 + (i : Int)) else none)
theorem idsTo_succ (t : Int) (s : Nat → Bool) (k : Nat) : idsTo t s (k + 1) = idsTo t s k ++ (if s k then [t - 8 + (k : Int)] else []) := by
  unfold idsTo
  rw [List.range_succ, List.filterMap_append]
  congr 1
  by_cases h : s k <;> simp [h]
theorem mem_idsTo {t x : Int} {s : Nat → Bool} {k : Nat} : x ∈ idsTo t s k ↔ ∃ i : Nat, i < k ∧ s i = true ∧ x = t - 8 + i := by
  unfold idsTo
  rw [List.mem_filterMap]
  constructor
  · rintro ⟨i, hi, he⟩
    by_cases h : s i = true
    · rw [if_pos h] at he
      exact ⟨i, by simpa using hi, h, by simpa using he.symm⟩
    · rw [if_neg h] at he
      cases he
  · rintro ⟨i, hi, hs, rfl⟩
    exact ⟨i, by simpa using hi, by rw [if_pos hs]⟩
theorem mem_ids {t x : Int} {s : Nat → Bool} : x ∈ idsTo t s 8 ↔ inWin t s x = true := by rw [mem_idsTo, inWin_iff]
theorem length_idsTo (t : Int) (s : Nat → Bool) (k : Nat) : (idsTo t s k).length ≤ k := by
  induction k with
  | zero => simp [idsTo]
  | succ k ih =>
    rw [idsTo_succ, List.length_append]
    split <;> simp <;> omega
theorem idsTo_sorted (t : Int) (s : Nat → Bool) (k : Nat) : (idsTo t s k).Pairwise (· < ·) := by
  induction k with
  | zero => simp [idsTo]
  | succ k ih =>
    rw [idsTo_succ, List.pairwise_append]
    refine ⟨ih, by split <;> simp, ?_⟩
    intro a ha b hb
    obtain ⟨i, hi, _, rfl⟩ := mem_idsTo.1 ha
    split at hb
    · simp at hb; omega
    · simp at hb

/-- what the document's answer makes of ids. -/
def topOf (l : List Int) : Int := l.getD (l.length - 1) 0 + 1
def seenOf (t : Int) (l : List Int) : Nat → Bool := fun j => decide (t - 8 + (j : Int) ∈ l)
theorem last_mem {l : List Int} (h : l ≠ []) : topOf l - 1 ∈ l := by
  have : l.length - 1 < l.length := by have := List.length_pos_iff.2 h; omega
  unfold topOf
  rw [List.getD_eq_getElem?_getD, List.getElem?_eq_getElem this]
  simp
theorem last_great {l : List Int} (hp : l.Pairwise (· < ·)) {x : Int} (hx : x ∈ l) : x < topOf l := by
  obtain ⟨i, hi, rfl⟩ := List.mem_iff_getElem.1 hx
  unfold topOf
  rw [List.getD_eq_getElem?_getD, List.getElem?_eq_getElem (show l.length - 1 < l.length by omega)]
  simp only [Option.getD_some]
  rcases Nat.lt_or_ge i (l.length - 1) with h | h
  · have := List.pairwise_iff_getElem.1 hp i (l.length - 1) hi (by omega) h
    omega
  · have e : i = l.length - 1 := by omega
    subst e
    omega
theorem first_least {l : List Int} (hp : l.Pairwise (· < ·)) {x : Int} (hx : x ∈ l) : l.getD 0 0 ≤ x := by
  cases l with
  | nil => cases hx
  | cons a l =>
    rcases List.mem_cons.1 hx with rfl | h
    · simp
    · have := (List.pairwise_cons.1 hp).1 x h
      simp
      omega
theorem topOf_eq {l : List Int} (hp : l.Pairwise (· < ·)) {t : Int} (ht : t - 1 ∈ l) (hm : ∀ x ∈ l, x < t) : topOf l = t := by
  have h1 := last_great hp ht
  have h2 := hm _ (last_mem (by intro h; rw [h] at ht; cases ht))
  omega
end Go.Proofs.YtekbdkppnjnaaaaDoor
