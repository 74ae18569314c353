/- Plain facts: of sorted numbers the runs are fewer just where one comes twice. -/
import Derived.Test.YtcdopnkabbfooaaGreatQuB
import Derived.Test.YtcdopnkabbfooaaGreatQuL
namespace Go.Proofs.YtcdopnkabbfooaaGreat
open Go.RowKit

/-- the messages' Nos: those that are leased, then those that are ready. -/
def leaseNos (L : List Int) (k : Nat) : List Int := (List.range k).map fun i => L.getD (4 * i + 2) 0
def readyNos (R : List Int) (k : Nat) : List Int := (List.range k).map fun i => R.getD (2 * i) 0
def nosOf (L : List Int) (ln : Nat) (R : List Int) (rn : Nat) : List Int := leaseNos L ln ++ readyNos R rn
theorem leaseNos_len (L : List Int) (k : Nat) : (leaseNos L k).length = k := by simp [leaseNos]
theorem readyNos_len (R : List Int) (k : Nat) : (readyNos R k).length = k := by simp [readyNos]
theorem leaseNos_succ (L : List Int) (k : Nat) : leaseNos L (k + 1) = leaseNos L k ++ [L.getD (4 * k + 2) 0] := by
  simp [leaseNos, List.range_succ]
theorem readyNos_succ (R : List Int) (k : Nat) : readyNos R (k + 1) = readyNos R k ++ [R.getD (2 * k) 0] := by
  simp [readyNos, List.range_succ]
theorem nosOf_len (L : List Int) (ln : Nat) (R : List Int) (rn : Nat) : (nosOf L ln R rn).length = ln + rn := by simp [nosOf, leaseNos_len, readyNos_len]
theorem nosOf_succ (L : List Int) (ln : Nat) (R : List Int) (k : Nat) : nosOf L ln R (k + 1) = nosOf L ln R k ++ [R.getD (2 * k) 0] := by
  simp [nosOf, readyNos_succ]
theorem nosOf_zero (L : List Int) (ln : Nat) (R : List Int) : nosOf L ln R 0 = leaseNos L ln := by simp [nosOf, readyNos]
theorem getD_fits (l : List Int) (hw : ∀ u ∈ l, (Lit.int .i64 u).wf = true) (i : Nat) : (Lit.int .i64 (l.getD i 0)).wf = true := by
  rcases Nat.lt_or_ge i l.length with h | h
  · rw [List.getD_eq_getElem?_getD, List.getElem?_eq_getElem h]; exact hw _ (List.getElem_mem h)
  · rw [List.getD_eq_getElem?_getD, List.getElem?_eq_none h]; decide

theorem sorted_le (l : List Int) : (l.mergeSort fun x y => decide (x ≤ y)).Pairwise (fun x y => x ≤ y) := by
  have h := List.pairwise_mergeSort (le := fun x y : Int => decide (x ≤ y)) (fun a b c h1 h2 => by simp at *; omega) (fun a b => by simp; omega) l
  exact h.imp (fun h => by simpa using h)
/-- of sorted numbers the runs are fewer just where one comes twice. -/
theorem compact_few (s : List Int) (hs : s.Pairwise (fun x y => x ≤ y)) : (Lib.compact s).length < s.length ↔ ¬ s.Nodup := by
  have e : (Lib.compact s).length = ((List.range s.length).filter (Lib.keeps s.toArray)).length := by simp [Lib.compact, Lib.compactUpTo]
  have e2 : (Lib.compact s).length < s.length ↔ ∃ j, j < s.length ∧ Lib.keeps s.toArray j = false := by
    rw [e]
    conv => lhs; rhs; rw [← List.length_range (n := s.length)]
    rw [List.length_filter_lt_length_iff_exists]
    simp
  rw [e2]
  have hp := List.pairwise_iff_getElem.1 hs
  constructor
  · rintro ⟨j, hj, hk⟩ hn
    have hn' := List.pairwise_iff_getElem.1 hn
    simp only [Lib.keeps, decide_eq_false_iff_not, not_or, Decidable.not_not] at hk
    have h0 : 0 < j := by omega
    have := hn' (j - 1) j (by omega) hj (by omega)
    have e1 : s.toArray[j]! = s[j] := by rw [getElem!_pos s.toArray j (by simpa using hj)]; simp
    have e2 : s.toArray[j - 1]! = s[j - 1]'(by omega) := by rw [getElem!_pos s.toArray (j - 1) (by simp; omega)]; simp
    have h2 := hk.2
    rw [e1, e2] at h2
    exact this h2.symm
  · intro hn
    rcases Classical.em (∃ j, j < s.length ∧ Lib.keeps s.toArray j = false) with h | h
    · exact h
    · refine absurd (List.pairwise_iff_getElem.2 fun i j hi hj hij => ?_) hn
      intro he
      refine h ⟨j, hj, ?_⟩
      have h1 : s[i] ≤ s[j - 1]'(by omega) := by
        rcases Nat.lt_or_ge i (j - 1) with h' | h'
        · exact hp i (j - 1) hi (by omega) h'
        · have : i = j - 1 := by omega
          subst this; exact Int.le_refl _
      have h2 : s[j - 1]'(by omega) ≤ s[j] := hp (j - 1) j (by omega) hj (by omega)
      have h3 : s[j] = s[j - 1]'(by omega) := by omega
      simp only [Lib.keeps, decide_eq_false_iff_not, not_or, Decidable.not_not]
      refine ⟨by omega, ?_⟩
      have e1 : s.toArray[j]! = s[j] := by rw [getElem!_pos s.toArray j (by simpa using hj)]; simp
      have e2 : s.toArray[j - 1]! = s[j - 1]'(by omega) := by rw [getElem!_pos s.toArray (j - 1) (by simp; omega)]; simp
      rw [e1, e2]; exact h3
/-- do two of the numbers agree? -/
def dupB (l : List Int) : Bool := decide (¬ l.Nodup)
theorem dupB_eq (l : List Int) (c n : Nat) (hc : c = (Lib.compact (l.mergeSort fun x y => decide (x ≤ y))).length) (hn : n = l.length) : decide ((c : Int) < (n : Int)) = dupB l := by
  have h1 := compact_few _ (sorted_le l)
  rw [List.length_mergeSort, ← hc, ← hn, (List.mergeSort_perm l _).nodup_iff] at h1
  unfold dupB
  rw [decide_eq_decide]
  rw [← h1]
  omega
end Go.Proofs.YtcdopnkabbfooaaGreat
