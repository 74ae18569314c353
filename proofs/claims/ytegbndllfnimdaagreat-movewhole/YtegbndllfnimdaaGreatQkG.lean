/- An event does one thing to a queue: the steps are a function. -/
import Derived.Test.YtegbndllfnimdaaGreatQkC
namespace Go.Proofs.YtegbndllfnimdaaGreat

theorem inWin_under {t x : Int} {s : Nat → Bool} (h : x < t - 8) : inWin t s x = false := by
  unfold inWin
  rw [decide_eq_false (by omega)]
  simp
theorem getD_ext {A B : List Int} {n : Nat} (ha : A.length = 2 * n) (hb : B.length = 2 * n) (h : ∀ i, i < n → A.getD (2 * i) 0 = B.getD (2 * i) 0 ∧ A.getD (2 * i + 1) 0 = B.getD (2 * i + 1) 0) : A = B := by
  apply List.ext_getElem (by omega)
  intro i h1 h2
  have e : ∀ (L : List Int) (hL : i < L.length), L[i] = L.getD i 0 := fun L hL => by simp [List.getElem?_eq_getElem hL]
  rw [e A h1, e B h2]
  have hi := h (i / 2) (by omega)
  rcases Nat.mod_two_eq_zero_or_one i with hm | hm
  · have : 2 * (i / 2) = i := by omega
    rw [this] at hi
    exact hi.1
  · have : 2 * (i / 2) + 1 = i := by omega
    rw [this] at hi
    exact hi.2
theorem ordered_one {s : St} {A B : List Int} (h : s.Wf) (ha : Ordered (s.R ++ msgsTo s.L s.ln) A (s.rn + s.ln)) (hb : Ordered (s.R ++ msgsTo s.L s.ln) B (s.rn + s.ln)) : A = B := by
  have ra := ordered_rise h ha
  have rb := ordered_rise h hb
  have sorted : ∀ (C : List Int) (n : Nat), (∀ i, i + 1 < n → C.getD (2 * i) 0 < C.getD (2 * (i + 1)) 0) → (pairsOf C n).Pairwise (fun x y => x.1 < y.1) := by
    intro C n hC
    have far : ∀ j i, i < j → j < n → C.getD (2 * i) 0 < C.getD (2 * j) 0 := by
      intro j
      induction j with
      | zero => intro i h1; omega
      | succ j ih =>
        intro i h1 h2
        have hs := hC j h2
        rcases Nat.lt_or_ge i j with h3 | h3
        · have := ih i h3 (by omega); omega
        · obtain rfl : i = j := by omega
          exact hs
    rw [List.pairwise_iff_getElem]
    intro i j hi hj hij
    have hi' : i < n := by simpa [pairsOf] using hi
    have hj' : j < n := by simpa [pairsOf] using hj
    simp only [pairsOf, List.getElem_map, List.getElem_range, pairAt]
    exact far j i hij hj'
  have hp : (pairsOf A (s.rn + s.ln)).Perm (pairsOf B (s.rn + s.ln)) := ha.perm.trans hb.perm.symm
  have he : pairsOf A (s.rn + s.ln) = pairsOf B (s.rn + s.ln) := by
    refine List.Perm.eq_of_pairwise (le := fun x y => x.1 < y.1) ?_ (sorted A _ ra) (sorted B _ rb) hp
    intro a b _ _ h1 h2
    omega
  refine getD_ext ha.len hb.len (fun i hi => ?_)
  have h1 : (pairsOf A (s.rn + s.ln))[i]? = (pairsOf B (s.rn + s.ln))[i]? := by rw [he]
  simp [pairsOf, hi, pairAt] at h1
  simpa using h1
theorem Step.det {s s1 s2 : St} {v : Ev} {a1 a2 : An} {c1 c2 : Bool} (h : s.Wf) (x : Step s v s1 a1 c1) (y : Step s v s2 a2 c2) : s1 = s2 ∧ a1 = a2 ∧ c1 = c2 := by
  cases x with
  | pubLow hk g => cases y with
    | pubLow => exact ⟨rfl, rfl, rfl⟩
    | pubOld _ g2 => rw [inWin_under g] at g2; cases g2
    | pubFull | pub | recEmpty | recFull | recv | ackStale | ackNone | ack | endFull | stop => omega
  | pubOld hk g => cases y with
    | pubLow _ g2 => rw [inWin_under g2] at g; cases g
    | pubOld => exact ⟨rfl, rfl, rfl⟩
    | pubFull _ _ g2 => rw [g] at g2; cases g2
    | pub _ _ g2 => rw [g] at g2; cases g2
    | recEmpty | recFull | recv | ackStale | ackNone | ack | endFull | stop => omega
  | pubFull hk g g1 g2 => cases y with
    | pubOld _ g3 => rw [g1] at g3; cases g3
    | pubFull => exact ⟨rfl, rfl, rfl⟩
    | pubLow | pub | recEmpty | recFull | recv | ackStale | ackNone | ack | endFull | stop => omega
  | pub hk g g1 g2 g3 => obtain ⟨rfl, rfl, rfl⟩ := y.published hk g g1 g2 g3; exact ⟨rfl, rfl, rfl⟩
  | recEmpty hk g => obtain ⟨rfl, rfl, rfl⟩ := y.emptied hk g; exact ⟨rfl, rfl, rfl⟩
  | recFull hk g g1 => cases y with
    | recFull => exact ⟨rfl, rfl, rfl⟩
    | pubLow | pubOld | pubFull | pub | recEmpty | recv | ackStale | ackNone | ack | endFull | stop => omega
  | recv hk g g1 => obtain ⟨rfl, rfl, rfl⟩ := y.received hk g g1; exact ⟨rfl, rfl, rfl⟩
  | ackStale hk g => obtain ⟨rfl, rfl, rfl⟩ := y.stale hk g; exact ⟨rfl, rfl, rfl⟩
  | ackNone hk g g1 => cases y with
    | ackNone => exact ⟨rfl, rfl, rfl⟩
    | ackStale _ g2 => exact absurd g g2
    | pubLow | pubOld | pubFull | pub | recEmpty | recFull | recv | ack | endFull | stop => omega
  | ack hk g m hm g1 => cases y with
    | ack _ _ m' hm' g2 =>
      obtain rfl : m = m' := by omega
      exact ⟨rfl, rfl, rfl⟩
    | ackStale _ g2 => exact absurd g g2
    | pubLow | pubOld | pubFull | pub | recEmpty | recFull | recv | ackNone | endFull | stop => omega
  | endFull hk g => cases y with
    | endFull => exact ⟨rfl, rfl, rfl⟩
    | pubLow | pubOld | pubFull | pub | recEmpty | recFull | recv | ackStale | ackNone | ack | stop => omega
  | stop hk g R' ho => cases y with
    | stop _ _ R2 ho2 =>
      obtain rfl := ordered_one h ho ho2
      exact ⟨rfl, rfl, rfl⟩
    | pubLow | pubOld | pubFull | pub | recEmpty | recFull | recv | ackStale | ackNone | ack | endFull => omega
/-- events that may be, each of which changes something: a history. -/
inductive Tells : List Ev → St → List An → Prop
  | nil : Tells [] St.zero []
  | snoc {es : List Ev} {s s' : St} {ans : List An} {v : Ev} {an : An} (h : Tells es s ans) (hv : v.Ok) (st : Step s v s' an true) : Tells (es ++ [v]) s' (ans ++ [an])
theorem Hist.tells {es : List Ev} {s : St} {ans : List An} (h : Hist es s ans) : Tells es s ans := by
  induction h with
  | nil => exact .nil
  | snoc h hv st ih => exact .snoc ih hv.ok st
theorem Tells.wf {es : List Ev} {s : St} {ans : List An} (h : Tells es s ans) : s.Wf := by
  induction h with
  | nil => exact St.zero_wf
  | snoc h hv st ih => exact st.wf ih hv
theorem Tells.last {es : List Ev} {v : Ev} {s : St} {ans : List An} (h : Tells (es ++ [v]) s ans) : ∃ s0 ans0 an, Tells es s0 ans0 ∧ v.Ok ∧ Step s0 v s an true ∧ ans = ans0 ++ [an] := by
  generalize he : es ++ [v] = l at h
  cases h with
  | nil => simp at he
  | @snoc es' s0 s' ans0 v' an h hv st =>
    obtain ⟨rfl, hv'⟩ := List.append_inj' he rfl
    cases hv'
    exact ⟨s0, ans0, an, h, hv, st, rfl⟩
theorem Tells.one {es : List Ev} {s1 s2 : St} {ans1 ans2 : List An} (h1 : Tells es s1 ans1) (h2 : Tells es s2 ans2) : s1 = s2 ∧ ans1 = ans2 := by
  induction h1 generalizing s2 ans2 with
  | nil =>
    generalize he : ([] : List Ev) = l at h2
    cases h2 with
    | nil => exact ⟨rfl, rfl⟩
    | snoc => simp at he
  | snoc h hv st ih =>
    obtain ⟨s0, ans0, an, h3, _, st2, rfl⟩ := h2.last
    obtain ⟨rfl, rfl⟩ := ih h3
    obtain ⟨rfl, rfl, _⟩ := st.det h.wf st2
    exact ⟨rfl, rfl⟩
/-- the beginning of a history is one. -/
theorem Tells.take {es : List Ev} {s : St} {ans : List An} (h : Tells es s ans) : ∀ k, k ≤ es.length → ∃ s0, Tells (es.take k) s0 (ans.take k) := by
  induction h with
  | nil => intro k _; exact ⟨St.zero, by simpa using Tells.nil⟩
  | @snoc es s s' ans v an h hv st ih =>
    intro k hk
    have hl : ans.length = es.length := by
      clear ih st hk
      induction h with
      | nil => rfl
      | snoc _ _ _ ih => simp [ih]
    rcases Nat.lt_or_ge es.length k with h1 | h1
    · obtain rfl : k = (es ++ [v]).length := by simp at hk ⊢; omega
      refine ⟨s', ?_⟩
      rw [List.take_length, List.take_of_length_le (by simp; omega)]
      exact .snoc h hv st
    · obtain ⟨s0, h0⟩ := ih k h1
      refine ⟨s0, ?_⟩
      rw [List.take_append_of_le_length h1, List.take_append_of_le_length (by omega)]
      exact h0
theorem Tells.step {es : List Ev} {s : St} {ans : List An} (h : Tells es s ans) {k : Nat} (hk : k < es.length) {s0 : St} {a0 : List An} (h0 : Tells (es.take k) s0 a0) : ∃ s1 an, Step s0 es[k] s1 an true ∧ es[k].Ok := by
  obtain ⟨s1, h1⟩ := h.take (k + 1) hk
  rw [List.take_succ_eq_append_getElem hk] at h1
  obtain ⟨s2, ans2, an, h2, hv, st, _⟩ := h1.last
  obtain ⟨rfl, _⟩ := h2.one h0
  exact ⟨s1, an, st, hv⟩
end Go.Proofs.YtegbndllfnimdaaGreat
