/- Which load goes, as the document's answer finds it: plain facts. -/
import Derived.Test.YtmkbidglfnpgjaaPnL
namespace Go.Proofs.Ytmkbidglfnpgjaa
open Go.RowKit

/-- a load that may go, of those that haven't gone. -/
def CandG (node gap : Int) (gone : Int → Bool) (x : Ld) : Prop := x.n = node ∧ gone x.q = false ∧ 1 ≤ x.w ∧ x.w ≤ gap - 1
/-- the best one of those from j on. -/
inductive BestFrom (l : List Ld) (node gap : Int) (gone : Int → Bool) (j : Nat) : Int → Prop
  | none : (∀ i, j ≤ i → i < l.length → ¬ CandG node gap gone (ldAt l i)) → BestFrom l node gap gone j (-1)
  | some (k : Nat) : j ≤ k → k < l.length → CandG node gap gone (ldAt l k) → (∀ i, j ≤ i → i < l.length → CandG node gap gone (ldAt l i) → (ldAt l i).w ≤ (ldAt l k).w) → (∀ i, j ≤ i → i < k → CandG node gap gone (ldAt l i) → (ldAt l i).w < (ldAt l k).w) → BestFrom l node gap gone j k
section
variable {l : List Ld} {node gap : Int} {gone : Int → Bool}
theorem BestFrom.begin : BestFrom l node gap gone l.length (-1) := .none (fun i h1 h2 => by omega)
theorem BestFrom.skip {p : Nat} {b : Int} (h : BestFrom l node gap gone (p + 1) b) (hc : ¬ CandG node gap gone (ldAt l p)) : BestFrom l node gap gone p b := by
  cases h with
  | none h => exact .none (fun i h1 h2 => by
      by_cases e : i = p
      · rw [e]; exact hc
      · exact h i (by omega) h2)
  | some k h1 h2 h3 h4 h5 => exact .some k (by omega) h2 h3 (fun i a b c => by
      by_cases e : i = p
      · rw [e] at c; exact absurd c hc
      · exact h4 i (by omega) b c) (fun i a b c => by
      by_cases e : i = p
      · rw [e] at c; exact absurd c hc
      · exact h5 i (by omega) b c)
theorem BestFrom.first {p : Nat} (h : BestFrom l node gap gone (p + 1) (-1)) (hp : p < l.length) (hc : CandG node gap gone (ldAt l p)) : BestFrom l node gap gone p (p : Int) := by
  have h' : ∀ i, p + 1 ≤ i → i < l.length → ¬ CandG node gap gone (ldAt l i) := by
    generalize hz : (-1 : Int) = z at h
    cases h with
    | none h => exact h
    | some k _ _ _ _ _ => omega
  exact .some p (Nat.le_refl _) hp hc (fun i a b c => by
    by_cases e : i = p
    · rw [e]; exact Int.le_refl _
    · exact absurd c (h' i (by omega) b)) (fun i a b c => by omega)
theorem BestFrom.of {j : Nat} {k : Nat} (h : BestFrom l node gap gone j (k : Int)) : k < l.length ∧ j ≤ k ∧ CandG node gap gone (ldAt l k) ∧ (∀ i, j ≤ i → i < l.length → CandG node gap gone (ldAt l i) → (ldAt l i).w ≤ (ldAt l k).w) ∧ (∀ i, j ≤ i → i < k → CandG node gap gone (ldAt l i) → (ldAt l i).w < (ldAt l k).w) := by
  generalize hz : (k : Int) = z at h
  cases h with
  | none h => omega
  | some k' h1 h2 h3 h4 h5 =>
    obtain rfl : k = k' := by omega
    exact ⟨h2, h1, h3, h4, h5⟩
theorem BestFrom.better {p k : Nat} (h : BestFrom l node gap gone (p + 1) (k : Int)) (hp : p < l.length) (hc : CandG node gap gone (ldAt l p)) (hw : (ldAt l k).w ≤ (ldAt l p).w) : BestFrom l node gap gone p (p : Int) := by
  obtain ⟨h1, h2, h3, h4, h5⟩ := h.of
  exact .some p (Nat.le_refl _) hp hc (fun i a b c => by
    by_cases e : i = p
    · rw [e]; exact Int.le_refl _
    · have := h4 i (by omega) b c; omega) (fun i a b c => by omega)
theorem BestFrom.worse {p k : Nat} (h : BestFrom l node gap gone (p + 1) (k : Int)) (hw : ¬ (ldAt l k).w ≤ (ldAt l p).w) : BestFrom l node gap gone p (k : Int) := by
  obtain ⟨h1, h2, h3, h4, h5⟩ := h.of
  refine .some k (by omega) h1 h3 (fun i a b c => ?_) (fun i a b c => ?_)
  · by_cases e : i = p
    · rw [e]; omega
    · exact h4 i (by omega) b c
  · by_cases e : i = p
    · rw [e]; omega
    · exact h5 i (by omega) b c
theorem BestFrom.cases' {j : Nat} {b : Int} (h : BestFrom l node gap gone j b) : b = -1 ∨ ∃ k : Nat, b = k ∧ k < l.length := by
  cases h with
  | none _ => exact .inl rfl
  | some k _ h2 _ _ _ => exact .inr ⟨k, rfl, h2⟩
end
theorem candG_iff {node gap : Int} {gone : Int → Bool} {x : Ld} (hg : gone x.q = false) : CandG node gap gone x ↔ Cand node gap x := by
  unfold CandG Cand
  constructor
  · rintro ⟨h1, _, h3, h4⟩; exact ⟨h1, by omega, by omega⟩
  · rintro ⟨h1, h2, h3⟩; exact ⟨h1, hg, by omega, by omega⟩
/-- none goes, in both. -/
theorem Now.best_none {nodes : Nat} {now rest : List Ld} {gone : Int → Bool} {ws : List Int} (h : Now nodes now gone ws rest) (hb : BestFrom now (busyOf ws) (gapOf ws) gone 0 (-1)) : goesOf ws rest = -1 := by
  have h' : ∀ i, i < now.length → ¬ CandG (busyOf ws) (gapOf ws) gone (ldAt now i) := by
    generalize hz : (-1 : Int) = z at hb
    cases hb with
    | none h => exact fun i => h i (Nat.zero_le _)
    | some k _ _ _ _ _ => omega
  rcases goes_is ws rest with e | ⟨j, e, hj, hc⟩
  · exact e
  · obtain ⟨b, hbl, eb, hg⟩ := h.restMem j hj
    exact absurd ((candG_iff (by rw [eb]; exact hg)).2 (by rw [eb]; exact hc)) (h' b hbl)
/-- the same one goes, in both. -/
theorem Now.best_some {nodes : Nat} {now rest : List Ld} {gone : Int → Bool} {ws : List Int} (h : Now nodes now gone ws rest) {b : Nat} (hb : BestFrom now (busyOf ws) (gapOf ws) gone 0 (b : Int)) : ∃ j : Nat, goesOf ws rest = j ∧ j < rest.length ∧ ldAt rest j = ldAt now b ∧ Cand (busyOf ws) (gapOf ws) (ldAt now b) := by
  obtain ⟨hbl, _, hc, hmax, hlow⟩ := hb.of
  have hcb := (candG_iff hc.2.1).1 hc
  obtain ⟨kk, hkk, ek⟩ := h.memRest b hbl hc.2.1
  unfold goesOf
  rcases heavTo_is rest (busyOf ws) (gapOf ws) rest.length with ⟨_, hn⟩ | ⟨i, hi, e, hci, hm, hl⟩
  · exact absurd (by rw [ek]; exact hcb) (hn kk hkk)
  · refine ⟨i, by rw [e], hi, ?_, hcb⟩
    obtain ⟨b', hb', eb', hg'⟩ := h.restMem i hi
    have hc' : CandG (busyOf ws) (gapOf ws) gone (ldAt now b') := (candG_iff (by rw [eb']; exact hg')).2 (by rw [eb']; exact hci)
    have w1 := hmax b' (Nat.zero_le _) hb' hc'
    have w2 := hm kk hkk (by rw [ek]; exact hcb)
    rw [ek] at w2
    rw [eb'] at w1
    rcases Nat.lt_trichotomy b' b with hlt | heq | hgt
    · have := hlow b' (Nat.zero_le _) hlt hc'
      rw [eb'] at this
      omega
    · rw [← eb', heq]
    · have hq := h.rise.less hgt hb'
      rw [eb', ← ek] at hq
      rcases Nat.lt_trichotomy kk i with h1 | h1 | h1
      · have := hl kk h1 (by rw [ek]; exact hcb)
        rw [ek] at this
        omega
      · rw [h1] at hq; omega
      · have := h.restLess h1 hkk; omega
theorem flat_set : ∀ (l : List Ld) (b : Nat) (t : Int), b < l.length → (ldFlat l).set (b * 3 + 1) t = ldFlat (l.set b ⟨(ldAt l b).q, t, (ldAt l b).w⟩)
  | [], b, _, h => absurd h (Nat.not_lt_zero _)
  | x :: l, 0, t, _ => by simp [ldFlat, ldAt]
  | x :: l, b + 1, t, h => by
    have ih := flat_set l b t (by simpa using h)
    rw [show (b + 1) * 3 + 1 = (b * 3 + 1) + 1 + 1 + 1 by omega]
    simp only [ldFlat, List.set_cons_succ, ih]
    simp [ldAt]
theorem ldOwn.set {w : World} {base g n c : Nat} {l : List Ld} (h : ldOwn w base (.slice (some ⟨g, 0, none⟩) n c) l) (hn : l.length = n) (b : Nat) (hb : b < n) (t : Int) : ldOwn (w.setCell ⟨g, b * 3 + 1, none⟩ (.int .i64 t)) base (.slice (some ⟨g, 0, none⟩) n c) (l.set b ⟨(ldAt l b).q, t, (ldAt l b).w⟩) := by
  unfold ldOwn at h ⊢
  rw [hn] at h
  have := (World.ownsRow.stored h (b * 3 + 1) (.int .i64 t)).1
  rw [← List.map_set, flat_set l b t (by omega)] at this
  rw [List.length_set, hn]
  exact this
/-- who has gone, in memory. -/
def goneBlock (w : World) (g : Nat) (gone : Int → Bool) : Prop := w.heap[g]? = some (.cells #[.bool (gone 0), .bool (gone 1), .bool (gone 2), .bool (gone 3)] 4 (0, 0))
theorem goneBlock.at {w : World} {g : Nat} {gone : Int → Bool} (h : goneBlock w g gone) (q : Nat) (hq : q < 4) : w.cell? ⟨g, q, none⟩ = some (.bool (gone q)) ∧ w.frozen? ⟨g, q, none⟩ = false := by
  unfold goneBlock at h
  refine ⟨?_, by simp [World.frozen?, h]⟩
  match q, hq with
  | 0, _ => simp [World.cell?, h]
  | 1, _ => simp [World.cell?, h]
  | 2, _ => simp [World.cell?, h]
  | 3, _ => simp [World.cell?, h]
theorem goneBlock.lt {w : World} {g : Nat} {gone : Int → Bool} (h : goneBlock w g gone) : g < w.heap.size := by
  unfold goneBlock at h
  rcases Nat.lt_or_ge g w.heap.size with h' | h'
  · exact h'
  · simp [Array.getElem?_eq_none h'] at h
theorem goneBlock.set {w : World} {g : Nat} {gone : Int → Bool} (h : goneBlock w g gone) (q : Nat) (hq : q < 4) : goneBlock (w.setCell ⟨g, q, none⟩ (.bool true)) g (fun z => gone z || z == q) := by
  unfold goneBlock at h ⊢
  rw [heap_setP h]
  match q, hq with
  | 0, _ => simp
  | 1, _ => simp
  | 2, _ => simp
  | 3, _ => simp
end Go.Proofs.Ytmkbidglfnpgjaa
