/- Plain facts of histories: how many events of a kind there are, what the windows remember, where a handle is. -/
import Derived.Test.YtjolamdlclcpcaaQkB
import Derived.Test.YtjolamdlclcpcaaWdL
namespace Go.Proofs.Ytjolamdlclcpcaa

/-- how many events of a kind there are. -/
def cnt (es : List Ev) (k : Int) : Nat := es.countP (fun v => decide (v.k = k))
theorem cnt_nil (k : Int) : cnt [] k = 0 := rfl
theorem cnt_snoc (es : List Ev) (v : Ev) (k : Int) : cnt (es ++ [v]) k = cnt es k + if v.k = k then 1 else 0 := by
  unfold cnt
  rw [List.countP_append]
  by_cases h : v.k = k <;> simp [h]
theorem cnt_le (es : List Ev) (k : Int) : cnt es k ≤ es.length := List.countP_le_length
theorem Hist.counts {es : List Ev} {s : St} {ans : List An} (h : Hist es s ans) : s.nx = cnt es 1 ∧ s.ep = cnt es 4 ∧ s.rn + s.ln + cnt es 3 = cnt es 1 ∧ s.gv ≤ es.length := by
  induction h with
  | nil => exact ⟨rfl, rfl, rfl, by decide⟩
  | @snoc es s s' ans v an h hv st ih =>
    obtain ⟨i1, i2, i3, i4⟩ := ih
    have h1 := cnt_snoc es v 1
    have h3 := cnt_snoc es v 3
    have h4 := cnt_snoc es v 4
    have hl : (es ++ [v]).length = es.length + 1 := by simp
    cases st with
    | pub hk _ _ _ _ =>
      rw [hk] at h1 h3 h4
      simp at h1 h3 h4
      refine ⟨?_, ?_, ?_, ?_⟩
      · show s.nx + 1 = _; omega
      · show s.ep = _; omega
      · show s.rn + 1 + s.ln + _ = _; omega
      · show s.gv ≤ _; omega
    | recv hk _ _ =>
      rw [hk] at h1 h3 h4
      simp at h1 h3 h4
      refine ⟨?_, ?_, ?_, ?_⟩
      · show s.nx = _; omega
      · show s.ep = _; omega
      · show s.rn - 1 + (s.ln + 1) + _ = _; omega
      · show s.gv + 1 ≤ _; omega
    | ack hk _ m hm _ =>
      rw [hk] at h1 h3 h4
      simp at h1 h3 h4
      refine ⟨?_, ?_, ?_, ?_⟩
      · show s.nx = _; omega
      · show s.ep = _; omega
      · show s.rn + (s.ln - 1) + _ = _; omega
      · show s.gv ≤ _; omega
    | stop hk _ R' _ =>
      rw [hk] at h1 h3 h4
      simp at h1 h3 h4
      refine ⟨?_, ?_, ?_, ?_⟩
      · show s.nx = _; omega
      · show s.ep + 1 = _; omega
      · show s.rn + s.ln + 0 + _ = _; omega
      · show (0 : Int) ≤ _; omega
/-- ids that a producer published. -/
def pubIds (es : List Ev) (p : Nat) : List Int := (es.filter (fun v => decide (v.k = 1) && decide (v.p.toNat = p))).map Ev.i
theorem pubIds_snoc (es : List Ev) (v : Ev) (p : Nat) : pubIds (es ++ [v]) p = pubIds es p ++ if v.k = 1 ∧ v.p.toNat = p then [v.i] else [] := by
  unfold pubIds
  rw [List.filter_append, List.map_append]
  congr 1
  by_cases h1 : v.k = 1 <;> by_cases h2 : v.p.toNat = p <;> simp [h1, h2]
theorem Hist.win {es : List Ev} {s : St} {ans : List An} (h : Hist es s ans) (p : Nat) : WinInv (pubIds es p) (s.wt p) (s.wz p) := by
  induction h with
  | nil => exact WinInv.none
  | @snoc es s s' ans v an h hv st ih =>
    rw [pubIds_snoc]
    cases st with
    | pub hk hl hn _ _ =>
      show WinInv _ (tput s.wt v.p.toNat _ p) (tput s.wz v.p.toNat _ p)
      unfold tput
      by_cases e : p = v.p.toNat
      · rw [if_pos e, if_pos e, if_pos ⟨hk, e.symm⟩, ← e]
        rw [← e] at hl hn
        have := hv.i
        exact ih.take (by omega) (by omega) hn
      · rw [if_neg e, if_neg e, if_neg (fun h => e h.2.symm), List.append_nil]
        exact ih
    | recv hk _ _ =>
      rw [if_neg (fun h => by omega), List.append_nil]
      exact ih
    | ack hk _ m hm _ =>
      rw [if_neg (fun h => by omega), List.append_nil]
      exact ih
    | stop hk _ R' _ =>
      rw [if_neg (fun h => by omega), List.append_nil]
      exact ih
theorem Hist.like {es : List Ev} {s : St} {ans : List An} (h : Hist es s ans) : ∀ v ∈ es, DeedLike v := by
  induction h with
  | nil => intro v hv; cases hv
  | snoc h hv st ih =>
    intro u hu
    rcases List.mem_append.1 hu with hu | hu
    · exact ih u hu
    · obtain rfl := List.mem_singleton.1 hu
      exact hv
theorem pubIds_mem {es : List Ev} {v : Ev} (h : v ∈ es) (hk : v.k = 1) : v.i ∈ pubIds es v.p.toNat :=
  List.mem_map.2 ⟨v, List.mem_filter.2 ⟨h, by simp [hk]⟩, rfl⟩
theorem Hist.pubIds_none {es : List Ev} {s : St} {ans : List An} (h : Hist es s ans) (p : Nat) (hp : 2 ≤ p) : pubIds es p = [] := by
  unfold pubIds
  rw [List.map_eq_nil_iff, List.filter_eq_nil_iff]
  intro v hv
  have := (h.like v hv).p
  simp
  omega
/-- where a handle is: nowhere, or at a place. -/
theorem idx_spec {α : Type} [Inhabited α] (eq : α → α → Bool) (x : α) : ∀ (l : List α) (i : Nat), (Lib.idxByFrom eq x l i = -1 ∧ ∀ j, j < l.length → eq x l[j]! = false) ∨ ∃ k, k < l.length ∧ Lib.idxByFrom eq x l i = ((i + k : Nat) : Int) ∧ eq x l[k]! = true
  | [], _ => .inl ⟨rfl, fun j hj => absurd hj (Nat.not_lt_zero _)⟩
  | y :: r, i => by
    cases h : eq x y with
    | true => exact .inr ⟨0, by simp, by simp [Lib.idxByFrom, h], by simpa using h⟩
    | false =>
      rcases idx_spec eq x r (i + 1) with ⟨e, ha⟩ | ⟨k, hk, e, ht⟩
      · refine .inl ⟨by simp [Lib.idxByFrom, h, e], fun j hj => ?_⟩
        cases j with
        | zero => simpa using h
        | succ j => simpa using ha j (by simpa using hj)
      · refine .inr ⟨k + 1, by simpa using hk, ?_, by simpa using ht⟩
        have : Lib.idxByFrom eq x (y :: r) i = Lib.idxByFrom eq x r (i + 1) := by simp [Lib.idxByFrom, h]
        rw [this, e]
        congr 1
        omega
theorem ackAt_spec (he hn : Int) (L : List Int) (ln : Nat) : (ackAt he hn L ln = -1 ∧ ∀ j, j < ln → ¬ (L.getD (4 * j) 0 = he ∧ L.getD (4 * j + 1) 0 = hn)) ∨ ∃ m : Nat, m < ln ∧ ackAt he hn L ln = m ∧ L.getD (4 * m) 0 = he ∧ L.getD (4 * m + 1) 0 = hn := by
  have hl : ((quadsOf L ln).take ln) = quadsOf L ln := List.take_of_length_le (by rw [quadsOf_len]; exact Nat.le_refl _)
  unfold ackAt
  rw [hl]
  unfold Lib.idxBy
  rcases idx_spec (fun _ y => isHandle he hn y) default (quadsOf L ln) 0 with ⟨e, ha⟩ | ⟨m, hm, e, ht⟩
  · refine .inl ⟨e, fun j hj ⟨h1, h2⟩ => ?_⟩
    have := ha j (by rw [quadsOf_len]; exact hj)
    rw [quadsOf_at L ln j hj] at this
    simp [isHandle, quadAt] at this
    simp at h1 h2
    exact this h1 h2
  · rw [quadsOf_len] at hm
    rw [quadsOf_at L ln m hm] at ht
    simp [isHandle, quadAt] at ht
    refine .inr ⟨m, hm, by rw [e, Nat.zero_add], ?_, ?_⟩
    · simpa using ht.1
    · simpa using ht.2
theorem lease_lt {s : St} (h : s.Ok) : ∀ (j i : Nat), i < j → j < s.ln → s.L.getD (4 * i + 1) 0 < s.L.getD (4 * j + 1) 0
  | 0, _, h1, _ => absurd h1 (Nat.not_lt_zero _)
  | j + 1, i, h1, h2 => by
    have hr := lease_rise h h2
    rcases Nat.lt_or_ge i j with h3 | h3
    · have := lease_lt h j i h3 (by omega)
      omega
    · obtain rfl : i = j := by omega
      exact hr
/-- an ack of a lease's handle: it was there, and is gone. -/
theorem Step.acked {s s' : St} {v : Ev} {an : An} {ch : Bool} (h : s.Wf) (st : Step s v s' an ch) (hk : v.k = 3) (j : Nat) (hj : j < s.ln) (h1 : v.he = s.L.getD (4 * j) 0) (h2 : v.hn = s.L.getD (4 * j + 1) 0) :
    ch = true ∧ an = ⟨0, 0, 0, 0⟩ ∧ s'.ep = s.ep ∧ s'.rn = s.rn ∧ s'.ln = s.ln - 1 ∧ ackAt v.he v.hn s'.L s'.ln = -1 := by
  have hep := (lease_bounds h.ok hj).1
  cases st with
  | pubLow hk' | pubOld hk' | pubFull hk' | pub hk' | recEmpty hk' | recFull hk' | recv hk' | endFull hk' | stop hk' => omega
  | ackStale _ h' => exact absurd (h1.trans hep) h'
  | ackNone _ _ ha =>
    rcases ackAt_spec v.he v.hn s.L s.ln with ⟨_, h3⟩ | ⟨m, _, h3, _⟩
    · exact absurd ⟨h1.symm, h2.symm⟩ (h3 j hj)
    · omega
  | ack _ _ m hm ha =>
    refine ⟨rfl, rfl, rfl, rfl, rfl, ?_⟩
    rcases ackAt_spec v.he v.hn s.L s.ln with ⟨h3, _⟩ | ⟨m', hm', h3, h4, h5⟩
    · omega
    · obtain rfl : m' = m := by omega
      rcases ackAt_spec v.he v.hn (s.L.take (4 * m') ++ s.L.drop (4 * m' + 4)) (s.ln - 1) with ⟨h6, _⟩ | ⟨i, hi, h6, h7, h8⟩
      · exact h6
      · exfalso
        have e := cut_get s.L m' s.ln i 1 h.ll hm (by omega)
        rw [e] at h8
        rw [← h5] at h8
        split at h8
        · have := lease_lt h.ok m' i (by omega) hm; omega
        · have := lease_lt h.ok (i + 1) m' (by omega) (by omega); omega
theorem Step.gone {s s' : St} {v : Ev} {an : An} {ch : Bool} (st : Step s v s' an ch) (hk : v.k = 3) (h1 : v.he = s.ep) (ha : ackAt v.he v.hn s.L s.ln = -1) : ch = false ∧ an = ⟨7, 0, 0, 0⟩ := by
  cases st with
  | pubLow hk' | pubOld hk' | pubFull hk' | pub hk' | recEmpty hk' | recFull hk' | recv hk' | endFull hk' | stop hk' => omega
  | ackStale _ h' => exact absurd h1 h'
  | ackNone _ _ _ => exact ⟨rfl, rfl⟩
  | ack _ _ m hm hb => omega
theorem Step.stale {s s' : St} {v : Ev} {an : An} {ch : Bool} (st : Step s v s' an ch) (hk : v.k = 3) (h1 : ¬ v.he = s.ep) : ch = false ∧ an = ⟨11, 0, 0, 0⟩ ∧ s' = s := by
  cases st with
  | pubLow hk' | pubOld hk' | pubFull hk' | pub hk' | recEmpty hk' | recFull hk' | recv hk' | endFull hk' | stop hk' => omega
  | ackStale _ h' => exact ⟨rfl, rfl, rfl⟩
  | ackNone _ h' _ => exact absurd h' h1
  | ack _ h' m hm hb => exact absurd h' h1
theorem ackAt_none (he hn : Int) (L : List Int) : ackAt he hn L 0 = -1 := by
  rcases ackAt_spec he hn L 0 with ⟨h, _⟩ | ⟨m, hm, _⟩
  · exact h
  · omega
/-- a break: what it leaves. -/
theorem Step.stopped {s s' : St} {v : Ev} {an : An} {ch : Bool} (h : s.Wf) (st : Step s v s' an ch) (hk : v.k = 4) (h1 : s.ep < 1048576) :
    ch = true ∧ an = ⟨0, 0, 0, 0⟩ ∧ s'.ep = s.ep + 1 ∧ s'.nx = s.nx ∧ s'.rn = s.rn + s.ln ∧ s'.ln = 0 ∧ s'.wt = s.wt ∧ s'.wz = s.wz ∧ ∀ i, i + 1 < s'.rn → s'.R.getD (2 * i) 0 < s'.R.getD (2 * (i + 1)) 0 := by
  cases st with
  | pubLow hk' | pubOld hk' | pubFull hk' | pub hk' | recEmpty hk' | recFull hk' | recv hk' | ackStale hk' | ackNone hk' | ack hk' => omega
  | endFull _ h' => omega
  | stop _ _ R' ho => exact ⟨rfl, rfl, rfl, rfl, rfl, rfl, rfl, rfl, ordered_rise h ho⟩
/-- a receive where something is ready. -/
theorem Step.received {s s' : St} {v : Ev} {an : An} {ch : Bool} (st : Step s v s' an ch) (hk : v.k = 2) (h1 : 0 < s.rn) (h2 : s.gv < 1073741824) :
    ch = true ∧ an = ⟨0, s.ep, s.gv, s.R.getD 1 0⟩ ∧ s' = ⟨s.ep, s.nx, s.gv + 1, s.rn - 1, s.R.drop 2, s.ln + 1, s.L ++ [s.ep, s.gv, s.R.getD 0 0, s.R.getD 1 0], s.wt, s.wz⟩ := by
  cases st with
  | pubLow hk' | pubOld hk' | pubFull hk' | pub hk' | ackStale hk' | ackNone hk' | ack hk' | endFull hk' | stop hk' => omega
  | recEmpty _ h' => omega
  | recFull _ _ h' => omega
  | recv _ _ _ => exact ⟨rfl, rfl, rfl⟩
theorem Step.emptied {s s' : St} {v : Ev} {an : An} {ch : Bool} (st : Step s v s' an ch) (hk : v.k = 2) (h1 : s.rn = 0) : ch = false ∧ an = ⟨10, 0, 0, 0⟩ ∧ s' = s := by
  cases st with
  | pubLow hk' | pubOld hk' | pubFull hk' | pub hk' | ackStale hk' | ackNone hk' | ack hk' | endFull hk' | stop hk' => omega
  | recEmpty _ h' => exact ⟨rfl, rfl, rfl⟩
  | recFull _ h' _ => omega
  | recv _ h' _ => omega
/-- a publish of an id that is new, where there is room. -/
theorem Step.published {s s' : St} {v : Ev} {an : An} {ch : Bool} (st : Step s v s' an ch) (hk : v.k = 1) (h1 : s.wt v.p.toNat - 8 ≤ v.i) (hn : inWin (s.wt v.p.toNat) (s.wz v.p.toNat) v.i = false) (h2 : s.rn + s.ln < 500) (h3 : s.nx < 1073741824) :
    ch = true ∧ an = ⟨0, 0, 0, 0⟩ ∧ s' = ⟨s.ep, s.nx + 1, s.gv, s.rn + 1, s.R ++ [s.nx, v.b], s.ln, s.L, tput s.wt v.p.toNat (takeT (s.wt v.p.toNat) v.i), tput s.wz v.p.toNat (takeS (s.wt v.p.toNat) (s.wz v.p.toNat) v.i)⟩ := by
  cases st with
  | recEmpty hk' | recFull hk' | recv hk' | ackStale hk' | ackNone hk' | ack hk' | endFull hk' | stop hk' => omega
  | pubLow _ h' => omega
  | pubOld _ h' => rw [hn] at h'; cases h'
  | pubFull _ _ _ h' => omega
  | pub _ _ _ _ _ => exact ⟨rfl, rfl, rfl⟩
/-- an id that was published comes again: nothing is added. -/
theorem Step.twice {es : List Ev} {s s' : St} {ans : List An} {u v : Ev} {an : An} {ch : Bool} (h : Hist es s ans) (hu : u ∈ es) (hk : u.k = 1) (hv : v.k = 1) (hp : v.p = u.p) (hi : v.i = u.i) (st : Step s v s' an ch) : ch = false ∧ (an = ⟨0, 0, 0, 0⟩ ∨ an = ⟨9, 0, 0, 0⟩) ∧ s' = s := by
  have hm := pubIds_mem hu hk
  have hw := h.win u.p.toNat
  cases st with
  | recEmpty hk' | recFull hk' | recv hk' | ackStale hk' | ackNone hk' | ack hk' | endFull hk' | stop hk' => omega
  | pubLow _ h' => exact ⟨rfl, .inr rfl, rfl⟩
  | pubOld _ h' => exact ⟨rfl, .inl rfl, rfl⟩
  | pubFull _ h1 h2 _ =>
    rw [hp, hi] at h1 h2
    rw [(hw.mem _ h1).2 hm] at h2
    cases h2
  | pub _ h1 h2 _ _ =>
    rw [hp, hi] at h1 h2
    rw [(hw.mem _ h1).2 hm] at h2
    cases h2
end Go.Proofs.Ytjolamdlclcpcaa
