/- Histories, once more: how many events of a kind; what one more event does. -/
import Derived.Test.YtlfecmkpafgcmaaQkG
import Derived.Test.YtlfecmkpafgcmaaHsE
namespace Go.Proofs.Ytlfecmkpafgcmaa
open Go.RowKit

theorem Tells.counts {es : List Ev} {s : St} {ans : List An} (h : Tells es s ans) : s.nx = cnt es 1 ∧ s.ep = cnt es 4 ∧ s.rn + s.ln + cnt es 3 = cnt es 1 ∧ s.gv ≤ es.length := by
  induction h with
  | nil => exact ⟨rfl, rfl, rfl, by decide⟩
  | @snoc es s s' ans v an h hv st ih =>
    obtain ⟨i1, i2, i3, i4⟩ := ih
    have h1 := cnt_snoc es v 1
    have h3 := cnt_snoc es v 3
    have h4 := cnt_snoc es v 4
    have hl : (es ++ [v]).length = es.length + 1 := by simp
    cases st with
    | pub hk _ _ _ _ =>
      rw [hk] at h1 h3 h4
      simp at h1 h3 h4
      refine ⟨?_, ?_, ?_, ?_⟩
      · show s.nx + 1 = _; omega
      · show s.ep = _; omega
      · show s.rn + 1 + s.ln + _ = _; omega
      · show s.gv ≤ _; omega
    | recv hk _ _ =>
      rw [hk] at h1 h3 h4
      simp at h1 h3 h4
      refine ⟨?_, ?_, ?_, ?_⟩
      · show s.nx = _; omega
      · show s.ep = _; omega
      · show s.rn - 1 + (s.ln + 1) + _ = _; omega
      · show s.gv + 1 ≤ _; omega
    | ack hk _ m hm _ =>
      rw [hk] at h1 h3 h4
      simp at h1 h3 h4
      refine ⟨?_, ?_, ?_, ?_⟩
      · show s.nx = _; omega
      · show s.ep = _; omega
      · show s.rn + (s.ln - 1) + _ = _; omega
      · show s.gv ≤ _; omega
    | stop hk _ R' _ =>
      rw [hk] at h1 h3 h4
      simp at h1 h3 h4
      refine ⟨?_, ?_, ?_, ?_⟩
      · show s.nx = _; omega
      · show s.ep + 1 = _; omega
      · show s.rn + s.ln + 0 + _ = _; omega
      · show (0 : Int) ≤ _; omega
theorem Tells.len {es : List Ev} {s : St} {ans : List An} (h : Tells es s ans) : ans.length = es.length := by
  induction h with
  | nil => rfl
  | snoc h hv st ih => simp [ih]
/-- whoever is stuck is stuck at an event that changes nothing: not within a history. -/
theorem Tells.free {es : List Ev} {s : St} {ans : List An} (h : Tells es s ans) (bad : ∃ k s ans s' an, ∃ hk : k < es.length, Tells (es.take k) s ans ∧ Step s es[k] s' an false) : False := by
  obtain ⟨k, s0, ans0, s', an, hk, ht, st⟩ := bad
  obtain ⟨s1, an1, st1, _⟩ := h.step hk ht
  have := (st1.det ht.wf st).2.2
  cases this
theorem Tells.more {es : List Ev} {s : St} {ans : List An} (h : Tells es s ans) {v : Ev} (bad : ∃ k s ans s' an, ∃ hk : k < (es ++ [v]).length, Tells ((es ++ [v]).take k) s ans ∧ Step s (es ++ [v])[k] s' an false) : ∃ s' an, Step s v s' an false := by
  obtain ⟨k, s0, ans0, s', an, hk, ht, st⟩ := bad
  rcases Nat.lt_or_ge k es.length with h1 | h1
  · exfalso
    refine h.free ⟨k, s0, ans0, s', an, h1, ?_, ?_⟩
    · rw [List.take_append_of_le_length (by omega)] at ht; exact ht
    · rw [List.getElem_append_left h1] at st; exact st
  · have hk2 : k = es.length := by simp at hk; omega
    subst hk2
    rw [List.take_left' rfl] at ht
    obtain ⟨rfl, _⟩ := h.one ht
    rw [List.getElem_append_right (Nat.le_refl _)] at st
    simp at st
    exact ⟨s', an, st⟩
/-- Replay, of a list that is spelt by its length. -/
theorem replay_at (es : List Ev) (n : Nat) (hn : es.length = n) (a : Option Addr) (cap : Nat) (w : World) (hr : RowK .i64 w a (6 * n) (evFlat es)) (hl : n ≤ 2000) (hok : ∀ v ∈ es, v.Ok) :
    Calls Try.prog 11 #[.slice a n cap] w fun e w' => ∃ x er, e = .returned (.tuple #[x, .int .i64 er]) ∧ Below w.heap.size w w' ∧
      ((er = 0 ∧ ∃ s ans, Tells es s ans ∧ QOut w w' s x) ∨ (er = 3 ∧ (∃ k s ans s' an, ∃ hk : k < es.length, Tells (es.take k) s ans ∧ Step s es[k] s' an false) ∧ QOut w w' St.zero x)) := by
  subst hn
  exact replay_any es a cap w hr hl hok
/-- Replay of a history. -/
theorem replay_yes (es : List Ev) (n : Nat) (hn : es.length = n) (s : St) (ans : List An) (ht : Tells es s ans) (a : Option Addr) (cap : Nat) (w : World) (hr : RowK .i64 w a (6 * n) (evFlat es)) (hl : n ≤ 2000) (hok : ∀ v ∈ es, v.Ok) :
    Calls Try.prog 11 #[.slice a n cap] w fun e w' => ∃ x, e = .returned (.tuple #[x, .int .i64 0]) ∧ QOut w w' s x ∧ Below w.heap.size w w' := by
  refine (replay_at es n hn a cap w hr hl hok).mono ?_
  rintro e w' ⟨x, er, rfl, b, ⟨rfl, s1, ans1, h1, q⟩ | ⟨rfl, h1, _⟩⟩
  · obtain ⟨rfl, _⟩ := ht.one h1
    exact ⟨x, rfl, q, b⟩
  · exact absurd h1 (fun h => ht.free h)
/-- Replay of a history with an event behind it that changes nothing. -/
theorem replay_no (es : List Ev) (v : Ev) (n : Nat) (hn : (es ++ [v]).length = n) (s : St) (ans : List An) (ht : Tells es s ans) (hv : ∀ s' an, ¬ Step s v s' an true) (a : Option Addr) (cap : Nat) (w : World) (hr : RowK .i64 w a (6 * n) (evFlat (es ++ [v]))) (hl : n ≤ 2000) (hok : ∀ u ∈ es ++ [v], u.Ok) :
    Calls Try.prog 11 #[.slice a n cap] w fun e w' => ∃ x, e = .returned (.tuple #[x, .int .i64 3]) ∧ QOut w w' St.zero x ∧ Below w.heap.size w w' := by
  refine (replay_at (es ++ [v]) n hn a cap w hr hl hok).mono ?_
  rintro e w' ⟨x, er, rfl, b, ⟨rfl, s1, ans1, h1, q⟩ | ⟨rfl, h1, q⟩⟩
  · obtain ⟨s0, ans0, an, h2, _, st, _⟩ := h1.last
    obtain ⟨rfl, _⟩ := ht.one h2
    exact absurd st (hv _ _)
  · exact ⟨x, rfl, q, b⟩
end Go.Proofs.Ytlfecmkpafgcmaa
