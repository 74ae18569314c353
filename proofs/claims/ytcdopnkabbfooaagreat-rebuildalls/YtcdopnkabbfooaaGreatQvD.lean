/- A queue that may be stays one: what each event leaves (plain). -/
import Derived.Test.YtcdopnkabbfooaaGreatQvA
namespace Go.Proofs.YtcdopnkabbfooaaGreat

/-- a queue that may be, with lists of its lengths. -/
structure St.Wf (s : St) : Prop where
  ok : s.Ok
  lr : s.R.length = 2 * s.rn
  ll : s.L.length = 4 * s.ln
theorem getD_left (A B : List Int) (j : Nat) (h : j < A.length) : (A ++ B).getD j 0 = A.getD j 0 := by
  simp [List.getElem?_append_left h]
theorem getD_right (A B : List Int) (j n : Nat) (h : A.length = n) : (A ++ B).getD (n + j) 0 = B.getD j 0 := by
  subst h
  simp [List.getElem?_append_right]
theorem getD_drop (A : List Int) (k j : Nat) : (A.drop k).getD j 0 = A.getD (k + j) 0 := by simp
theorem dupB_false {l : List Int} : dupB l = false ↔ l.Nodup := by simp [dupB]
theorem ready_bounds {s : St} (h : s.Ok) {i : Nat} (hi : i < s.rn) : 0 ≤ s.R.getD (2 * i) 0 ∧ s.R.getD (2 * i) 0 ≤ s.nx - 1 ∧ 0 ≤ s.R.getD (2 * i + 1) 0 ∧ s.R.getD (2 * i + 1) 0 ≤ 1000000 := by
  have := (h.hold.ready i hi).come
  rw [Bool.and_eq_true, inR_iff, inR_iff] at this
  exact ⟨this.1.1, this.1.2, this.2.1, this.2.2⟩
theorem come_bounds {s : St} (h : s.Ok) {i : Nat} (hi : i < s.ln) : 0 ≤ s.L.getD (4 * i + 2) 0 ∧ s.L.getD (4 * i + 2) 0 ≤ s.nx - 1 ∧ 0 ≤ s.L.getD (4 * i + 3) 0 ∧ s.L.getD (4 * i + 3) 0 ≤ 1000000 := by
  have := h.hold.come i hi
  unfold ComeOk at this
  rw [Bool.and_eq_true, inR_iff, inR_iff] at this
  exact ⟨this.1.1, this.1.2, this.2.1, this.2.2⟩
theorem lease_bounds {s : St} (h : s.Ok) {i : Nat} (hi : i < s.ln) : s.L.getD (4 * i) 0 = s.ep ∧ 0 ≤ s.L.getD (4 * i + 1) 0 ∧ s.L.getD (4 * i + 1) 0 ≤ s.gv - 1 := by
  have := h.lease i hi
  have h2 := inR_iff.1 this.no
  exact ⟨this.epoch, h2.1, h2.2⟩
theorem ready_rise {s : St} (h : s.Ok) {i : Nat} (hi : i + 1 < s.rn) : s.R.getD (2 * i) 0 < s.R.getD (2 * (i + 1)) 0 := by
  have := (h.hold.ready (i + 1) hi).rise
  unfold lastR at this
  rw [if_neg (by omega), show 2 * (i + 1 - 1) = 2 * i by omega] at this
  exact this
theorem lease_rise {s : St} (h : s.Ok) {i : Nat} (hi : i + 1 < s.ln) : s.L.getD (4 * i + 1) 0 < s.L.getD (4 * (i + 1) + 1) 0 := by
  have := (h.lease (i + 1) hi).rise
  unfold lastOf at this
  rw [if_neg (by omega), show 4 * (i + 1 - 1) + 1 = 4 * i + 1 by omega] at this
  exact this
/-- ready messages, put together. -/
theorem ready_mk {nx : Int} {R : List Int} {n : Nat} (h1 : ∀ i, i < n → 0 ≤ R.getD (2 * i) 0 ∧ R.getD (2 * i) 0 ≤ nx - 1 ∧ 0 ≤ R.getD (2 * i + 1) 0 ∧ R.getD (2 * i + 1) 0 ≤ 1000000) (h2 : ∀ i, i + 1 < n → R.getD (2 * i) 0 < R.getD (2 * (i + 1)) 0) : ∀ i, i < n → ReadyOk nx R i := by
  intro i hi
  obtain ⟨a, b, c, d⟩ := h1 i hi
  refine ⟨by rw [Bool.and_eq_true, inR_iff, inR_iff]; exact ⟨⟨a, b⟩, c, d⟩, ?_⟩
  unfold lastR
  split
  · omega
  · have := h2 (i - 1) (by omega)
    rw [show 2 * (i - 1 + 1) = 2 * i by omega] at this
    exact this
theorem lease_mk {ep gv : Int} {L : List Int} {n : Nat} (h1 : ∀ i, i < n → L.getD (4 * i) 0 = ep ∧ 0 ≤ L.getD (4 * i + 1) 0 ∧ L.getD (4 * i + 1) 0 ≤ gv - 1) (h2 : ∀ i, i + 1 < n → L.getD (4 * i + 1) 0 < L.getD (4 * (i + 1) + 1) 0) : ∀ i, i < n → LeaseOk ep gv L i := by
  intro i hi
  obtain ⟨a, b, c⟩ := h1 i hi
  refine ⟨a, inR_iff.2 ⟨b, c⟩, ?_⟩
  unfold lastOf
  split
  · omega
  · have := h2 (i - 1) (by omega)
    rw [show 4 * (i - 1 + 1) + 1 = 4 * i + 1 by omega] at this
    exact this
theorem come_mk {nx : Int} {L : List Int} {n : Nat} (h1 : ∀ i, i < n → 0 ≤ L.getD (4 * i + 2) 0 ∧ L.getD (4 * i + 2) 0 ≤ nx - 1 ∧ 0 ≤ L.getD (4 * i + 3) 0 ∧ L.getD (4 * i + 3) 0 ≤ 1000000) : ∀ i, i < n → ComeOk nx L i := by
  intro i hi
  obtain ⟨a, b, c, d⟩ := h1 i hi
  unfold ComeOk
  rw [Bool.and_eq_true, inR_iff, inR_iff]
  exact ⟨⟨a, b⟩, c, d⟩
theorem readyNos_congr {R R' : List Int} {n : Nat} (h : ∀ i, i < n → R.getD (2 * i) 0 = R'.getD (2 * i) 0) : readyNos R n = readyNos R' n :=
  List.map_congr_left fun i hi => h i (List.mem_range.1 hi)
theorem leaseNos_congr {L L' : List Int} {n : Nat} (h : ∀ i, i < n → L.getD (4 * i + 2) 0 = L'.getD (4 * i + 2) 0) : leaseNos L n = leaseNos L' n :=
  List.map_congr_left fun i hi => h i (List.mem_range.1 hi)
theorem nos_less {s : St} (h : s.Ok) : ∀ x ∈ nosOf s.L s.ln s.R s.rn, x < s.nx := by
  intro x hx
  rcases List.mem_append.1 hx with hx | hx
  · obtain ⟨i, hi, rfl⟩ := List.mem_map.1 hx
    have := come_bounds h (List.mem_range.1 hi)
    omega
  · obtain ⟨i, hi, rfl⟩ := List.mem_map.1 hx
    have := ready_bounds h (List.mem_range.1 hi)
    omega
theorem readyNos_drop (R : List Int) (n : Nat) (h : 0 < n) : readyNos R n = R.getD 0 0 :: readyNos (R.drop 2) (n - 1) := by
  obtain ⟨m, rfl⟩ : ∃ m, n = m + 1 := ⟨n - 1, by omega⟩
  simp only [readyNos, List.range_succ_eq_map, List.map_cons, List.map_map, Nat.add_sub_cancel, Nat.mul_zero]
  congr 1
  apply List.map_congr_left
  intro i _
  simp only [Function.comp, getD_drop]
  rw [show 2 * Nat.succ i = 2 + 2 * i by omega]
theorem cut_get (L : List Int) (m ln i j : Nat) (hl : L.length = 4 * ln) (hm : m < ln) (hj : j < 4) : (L.take (4 * m) ++ L.drop (4 * m + 4)).getD (4 * i + j) 0 = if i < m then L.getD (4 * i + j) 0 else L.getD (4 * (i + 1) + j) 0 := by
  rw [cut_at]
  by_cases h : i < m
  · rw [if_pos ⟨by omega, by omega⟩, if_pos h]
  · rw [if_neg (by omega), if_pos (by omega), if_neg h, show 4 * i + j + 4 = 4 * (i + 1) + j by omega]
theorem leaseNos_cut (L : List Int) (m ln : Nat) (hl : L.length = 4 * ln) (hm : m < ln) : leaseNos (L.take (4 * m) ++ L.drop (4 * m + 4)) (ln - 1) = (leaseNos L ln).eraseIdx m := by
  apply List.ext_getElem
  · simp [leaseNos, List.length_eraseIdx, hm]
  · intro i h1 h2
    have hi : i < ln - 1 := by simpa [leaseNos] using h1
    rw [List.getElem_eraseIdx]
    simp only [leaseNos, List.getElem_map, List.getElem_range]
    rw [cut_get L m ln i 2 hl hm (by omega)]
    split <;> rfl
theorem msgsTo_len (L : List Int) : ∀ k, (msgsTo L k).length = 2 * k
  | 0 => rfl
  | k + 1 => by simp [msgsTo, msgsTo_len L k]; omega
theorem msgsTo_at (L : List Int) : ∀ k i, i < k → (msgsTo L k).getD (2 * i) 0 = L.getD (4 * i + 2) 0 ∧ (msgsTo L k).getD (2 * i + 1) 0 = L.getD (4 * i + 3) 0
  | 0, _, h => absurd h (Nat.not_lt_zero _)
  | k + 1, i, h => by
    have hl := msgsTo_len L k
    unfold msgsTo
    rcases Nat.lt_or_ge i k with h' | h'
    · rw [getD_left _ _ _ (by omega), getD_left _ _ _ (by omega)]
      exact msgsTo_at L k i h'
    · obtain rfl : i = k := by omega
      rw [show 2 * i = 2 * i + 0 from rfl, getD_right _ _ 0 _ hl, Nat.add_zero, getD_right _ _ 1 _ hl]
      exact ⟨rfl, rfl⟩
/-- the pairs of the ready messages and of the leased ones. -/
theorem all_at {s : St} (h : s.Wf) (i : Nat) (hi : i < s.rn + s.ln) : (i < s.rn ∧ pairAt (s.R ++ msgsTo s.L s.ln) i = pairAt s.R i) ∨ ∃ j, j < s.ln ∧ i = s.rn + j ∧ pairAt (s.R ++ msgsTo s.L s.ln) i = (s.L.getD (4 * j + 2) 0, s.L.getD (4 * j + 3) 0) := by
  have hr := h.lr
  rcases Nat.lt_or_ge i s.rn with h1 | h1
  · left
    refine ⟨h1, ?_⟩
    unfold pairAt
    rw [getD_left _ _ _ (by omega), getD_left _ _ _ (by omega)]
  · right
    refine ⟨i - s.rn, by omega, by omega, ?_⟩
    have hm := msgsTo_at s.L s.ln (i - s.rn) (by omega)
    unfold pairAt
    have e1 : 2 * i = 2 * s.rn + 2 * (i - s.rn) := by omega
    have e2 : 2 * i + 1 = 2 * s.rn + (2 * (i - s.rn) + 1) := by omega
    rw [e2, e1, getD_right _ _ _ _ hr, getD_right _ _ _ _ hr, hm.1, hm.2]
theorem ordered_nos {s : St} {R' : List Int} (h : s.Wf) (ho : Ordered (s.R ++ msgsTo s.L s.ln) R' (s.rn + s.ln)) : (readyNos R' (s.rn + s.ln)).Perm (nosOf s.L s.ln s.R s.rn) := by
  have e : ∀ (R : List Int) n, readyNos R n = (pairsOf R n).map Prod.fst := fun R n => by simp [readyNos, pairsOf, pairAt]
  have hp := ho.perm.map Prod.fst
  rw [← e, ← e] at hp
  refine hp.trans ?_
  have : readyNos (s.R ++ msgsTo s.L s.ln) (s.rn + s.ln) = readyNos s.R s.rn ++ leaseNos s.L s.ln := by
    apply List.ext_getElem
    · simp [readyNos, leaseNos]
    · intro i h1 h2
      have hi : i < s.rn + s.ln := by simpa [readyNos] using h1
      rw [List.getElem_append]
      simp only [readyNos, leaseNos, List.getElem_map, List.getElem_range, List.length_map, List.length_range]
      rcases all_at h i hi with ⟨h3, h4⟩ | ⟨j, h3, h4, h5⟩
      · rw [dif_pos h3]
        exact congrArg Prod.fst h4
      · rw [dif_neg (by omega)]
        have := congrArg Prod.fst h5
        simp only [pairAt] at this
        rw [this, show i - s.rn = j by omega]
  rw [this]
  exact List.perm_append_comm
theorem ordered_come {s : St} {R' : List Int} (h : s.Wf) (ho : Ordered (s.R ++ msgsTo s.L s.ln) R' (s.rn + s.ln)) : ∀ i, i < s.rn + s.ln → 0 ≤ R'.getD (2 * i) 0 ∧ R'.getD (2 * i) 0 ≤ s.nx - 1 ∧ 0 ≤ R'.getD (2 * i + 1) 0 ∧ R'.getD (2 * i + 1) 0 ≤ 1000000 := by
  intro i hi
  have hm : pairAt R' i ∈ pairsOf R' (s.rn + s.ln) := List.mem_map.2 ⟨i, List.mem_range.2 hi, rfl⟩
  obtain ⟨j, hj, he⟩ := List.mem_map.1 (ho.perm.mem_iff.1 hm)
  have hj := List.mem_range.1 hj
  have e1 := congrArg Prod.fst he
  have e2 := congrArg Prod.snd he
  rcases all_at h j hj with ⟨h3, h4⟩ | ⟨k, h3, h4, h5⟩
  · rw [h4] at e1 e2
    simp only [pairAt] at e1 e2
    rw [← e1, ← e2]
    exact ready_bounds h.ok h3
  · rw [h5] at e1 e2
    simp only [pairAt] at e1 e2
    rw [← e1, ← e2]
    exact come_bounds h.ok h3
theorem ordered_rise {s : St} {R' : List Int} (h : s.Wf) (ho : Ordered (s.R ++ msgsTo s.L s.ln) R' (s.rn + s.ln)) : ∀ i, i + 1 < s.rn + s.ln → R'.getD (2 * i) 0 < R'.getD (2 * (i + 1)) 0 := by
  intro i hi
  have h1 := ho.rise i (i + 1) (by omega) hi
  have hn : (readyNos R' (s.rn + s.ln)).Nodup := (ordered_nos h ho).nodup_iff.2 (dupB_false.1 h.ok.hold.apart)
  have h2 := List.pairwise_iff_getElem.1 hn i (i + 1) (by simp [readyNos]; omega) (by simp [readyNos]; omega) (by omega)
  simp only [readyNos, List.getElem_map, List.getElem_range] at h2
  omega

theorem Step.wf {s s' : St} {v : Ev} {an : An} {ch : Bool} (h : s.Wf) (hv : v.Ok) (st : Step s v s' an ch) : s'.Wf := by
  have ok := h.ok
  have hc := ok.count
  have hlr := h.lr
  have hll := h.ll
  cases st with
  | pubLow | pubOld | pubFull | recEmpty | recFull | ackStale | ackNone | endFull => exact h
  | pub hk h1 h2 hr hx =>
    have hb : 0 ≤ v.b ∧ v.b ≤ 1000000 ∧ 0 ≤ v.i ∧ v.i ≤ 1073741824 := by
      rcases Ev.cases hv with h | h | h | h <;> omega
    refine ⟨⟨⟨hc.e0, hc.e1, by have := hc.n0; show 0 ≤ s.nx + 1; omega, by show s.nx + 1 ≤ _; omega, hc.g0, hc.g1, by show s.rn + 1 + s.ln ≤ 500; omega⟩, ?_, ⟨?_, ?_, ?_⟩, ok.lease⟩, ?_, hll⟩
    · intro p hp
      show WinOk (tput s.wt v.p.toNat _ p) (tput s.wz v.p.toNat _ p)
      unfold tput
      by_cases e : p = v.p.toNat
      · rw [if_pos e, if_pos e, ← e]
        exact (ok.wins p hp).take (by omega) (by omega)
      · rw [if_neg e, if_neg e]
        exact ok.wins p hp
    · refine ready_mk (fun i hi => ?_) (fun i hi => ?_)
      · have hi : i < s.rn + 1 := hi
        show 0 ≤ (s.R ++ [s.nx, v.b]).getD (2 * i) 0 ∧ (s.R ++ [s.nx, v.b]).getD (2 * i) 0 ≤ s.nx + 1 - 1 ∧ 0 ≤ (s.R ++ [s.nx, v.b]).getD (2 * i + 1) 0 ∧ (s.R ++ [s.nx, v.b]).getD (2 * i + 1) 0 ≤ 1000000
        rcases Nat.lt_or_ge i s.rn with h' | h'
        · rw [getD_left _ _ _ (by omega), getD_left _ _ _ (by omega)]
          have := ready_bounds ok h'
          omega
        · obtain rfl : i = s.rn := by omega
          rw [getD_right _ _ 1 _ hlr, show 2 * s.rn = 2 * s.rn + 0 from rfl, getD_right _ _ 0 _ hlr]
          have := hc.n0
          simp
          omega
      · have hi : i + 1 < s.rn + 1 := hi
        show (s.R ++ [s.nx, v.b]).getD (2 * i) 0 < (s.R ++ [s.nx, v.b]).getD (2 * (i + 1)) 0
        rw [getD_left _ _ _ (by omega)]
        rcases Nat.lt_or_ge (i + 1) s.rn with h' | h'
        · rw [getD_left _ _ _ (by omega)]
          exact ready_rise ok h'
        · rw [show 2 * (i + 1) = 2 * s.rn + 0 by omega, getD_right _ _ 0 _ hlr]
          have := ready_bounds ok (show i < s.rn by omega)
          simp at this ⊢
          omega
    · refine come_mk (fun i hi => ?_)
      have := come_bounds ok hi
      exact ⟨this.1, by have := this.2.1; show s.L.getD (4 * i + 2) 0 ≤ s.nx + 1 - 1; omega, this.2.2⟩
    · show dupB (nosOf s.L s.ln (s.R ++ [s.nx, v.b]) (s.rn + 1)) = false
      rw [dupB_false, nosOf_succ, show 2 * s.rn = 2 * s.rn + 0 from rfl, getD_right _ _ 0 _ hlr]
      have e : nosOf s.L s.ln (s.R ++ [s.nx, v.b]) s.rn = nosOf s.L s.ln s.R s.rn := by
        unfold nosOf
        rw [readyNos_congr (fun i hi => getD_left _ _ _ (by omega))]
      rw [e, List.nodup_append]
      refine ⟨dupB_false.1 ok.hold.apart, by simp, fun a ha b hb => ?_⟩
      have := nos_less ok a ha
      simp at hb
      omega
    · show (s.R ++ [s.nx, v.b]).length = 2 * (s.rn + 1)
      simp
      omega
  | recv hk h1 hg =>
    refine ⟨⟨⟨hc.e0, hc.e1, hc.n0, hc.n1, by have := hc.g0; show 0 ≤ s.gv + 1; omega, by show s.gv + 1 ≤ _; omega, by have := hc.sz; show s.rn - 1 + (s.ln + 1) ≤ 500; omega⟩, ok.wins, ⟨?_, ?_, ?_⟩, ?_⟩, ?_, ?_⟩
    · refine ready_mk (fun i hi => ?_) (fun i hi => ?_)
      · have hi : i < s.rn - 1 := hi
        have := ready_bounds ok (show i + 1 < s.rn by omega)
        show 0 ≤ (s.R.drop 2).getD (2 * i) 0 ∧ (s.R.drop 2).getD (2 * i) 0 ≤ s.nx - 1 ∧ 0 ≤ (s.R.drop 2).getD (2 * i + 1) 0 ∧ (s.R.drop 2).getD (2 * i + 1) 0 ≤ 1000000
        rw [getD_drop, getD_drop, show 2 + 2 * i = 2 * (i + 1) by omega, show 2 + (2 * i + 1) = 2 * (i + 1) + 1 by omega]
        exact this
      · have hi : i + 1 < s.rn - 1 := hi
        have := ready_rise ok (show i + 1 + 1 < s.rn by omega)
        show (s.R.drop 2).getD (2 * i) 0 < (s.R.drop 2).getD (2 * (i + 1)) 0
        rw [getD_drop, getD_drop, show 2 + 2 * i = 2 * (i + 1) by omega, show 2 + 2 * (i + 1) = 2 * (i + 1 + 1) by omega]
        exact this
    · refine come_mk (fun i hi => ?_)
      have hi : i < s.ln + 1 := hi
      show 0 ≤ (s.L ++ [s.ep, s.gv, s.R.getD 0 0, s.R.getD 1 0]).getD (4 * i + 2) 0 ∧ (s.L ++ [s.ep, s.gv, s.R.getD 0 0, s.R.getD 1 0]).getD (4 * i + 2) 0 ≤ s.nx - 1 ∧ 0 ≤ (s.L ++ [s.ep, s.gv, s.R.getD 0 0, s.R.getD 1 0]).getD (4 * i + 3) 0 ∧ (s.L ++ [s.ep, s.gv, s.R.getD 0 0, s.R.getD 1 0]).getD (4 * i + 3) 0 ≤ 1000000
      rcases Nat.lt_or_ge i s.ln with h' | h'
      · rw [getD_left _ _ _ (by omega), getD_left _ _ _ (by omega)]
        exact come_bounds ok h'
      · obtain rfl : i = s.ln := by omega
        rw [getD_right _ _ 2 _ hll, getD_right _ _ 3 _ hll]
        exact ready_bounds ok h1
    · show dupB (nosOf (s.L ++ [s.ep, s.gv, s.R.getD 0 0, s.R.getD 1 0]) (s.ln + 1) (s.R.drop 2) (s.rn - 1)) = false
      have e : nosOf (s.L ++ [s.ep, s.gv, s.R.getD 0 0, s.R.getD 1 0]) (s.ln + 1) (s.R.drop 2) (s.rn - 1) = nosOf s.L s.ln s.R s.rn := by
        unfold nosOf
        rw [leaseNos_succ, getD_right _ _ 2 _ hll, leaseNos_congr (fun i hi => getD_left _ _ _ (by omega)), readyNos_drop s.R s.rn h1, List.append_assoc]
        rfl
      rw [e]
      exact ok.hold.apart
    · refine lease_mk (fun i hi => ?_) (fun i hi => ?_)
      · have hi : i < s.ln + 1 := hi
        show (s.L ++ [s.ep, s.gv, s.R.getD 0 0, s.R.getD 1 0]).getD (4 * i) 0 = s.ep ∧ 0 ≤ (s.L ++ [s.ep, s.gv, s.R.getD 0 0, s.R.getD 1 0]).getD (4 * i + 1) 0 ∧ (s.L ++ [s.ep, s.gv, s.R.getD 0 0, s.R.getD 1 0]).getD (4 * i + 1) 0 ≤ s.gv + 1 - 1
        rcases Nat.lt_or_ge i s.ln with h' | h'
        · rw [getD_left _ _ _ (by omega), getD_left _ _ _ (by omega)]
          have := lease_bounds ok h'
          omega
        · obtain rfl : i = s.ln := by omega
          rw [getD_right _ _ 1 _ hll, show 4 * s.ln = 4 * s.ln + 0 from rfl, getD_right _ _ 0 _ hll]
          have := hc.g0
          simp
          omega
      · have hi : i + 1 < s.ln + 1 := hi
        show (s.L ++ [s.ep, s.gv, s.R.getD 0 0, s.R.getD 1 0]).getD (4 * i + 1) 0 < (s.L ++ [s.ep, s.gv, s.R.getD 0 0, s.R.getD 1 0]).getD (4 * (i + 1) + 1) 0
        rw [getD_left _ _ _ (by omega)]
        rcases Nat.lt_or_ge (i + 1) s.ln with h' | h'
        · rw [getD_left _ _ _ (by omega)]
          exact lease_rise ok h'
        · rw [show 4 * (i + 1) + 1 = 4 * s.ln + 1 by omega, getD_right _ _ 1 _ hll]
          have := lease_bounds ok (show i < s.ln by omega)
          simp at this ⊢
          omega
    · show (s.R.drop 2).length = 2 * (s.rn - 1)
      simp
      omega
    · show (s.L ++ [s.ep, s.gv, s.R.getD 0 0, s.R.getD 1 0]).length = 4 * (s.ln + 1)
      simp
      omega
  | ack hk h1 m hm ha =>
    have g := fun i j (hj : j < 4) => cut_get s.L m s.ln i j hll hm hj
    refine ⟨⟨⟨hc.e0, hc.e1, hc.n0, hc.n1, hc.g0, hc.g1, by have := hc.sz; show s.rn + (s.ln - 1) ≤ 500; omega⟩, ok.wins, ⟨ok.hold.ready, ?_, ?_⟩, ?_⟩, hlr, ?_⟩
    · refine come_mk (fun i hi => ?_)
      have hi : i < s.ln - 1 := hi
      show 0 ≤ (s.L.take (4 * m) ++ s.L.drop (4 * m + 4)).getD (4 * i + 2) 0 ∧ (s.L.take (4 * m) ++ s.L.drop (4 * m + 4)).getD (4 * i + 2) 0 ≤ s.nx - 1 ∧ 0 ≤ (s.L.take (4 * m) ++ s.L.drop (4 * m + 4)).getD (4 * i + 3) 0 ∧ (s.L.take (4 * m) ++ s.L.drop (4 * m + 4)).getD (4 * i + 3) 0 ≤ 1000000
      rw [g i 2 (by omega), g i 3 (by omega)]
      split
      · exact come_bounds ok (by omega)
      · exact come_bounds ok (by omega)
    · show dupB (nosOf (s.L.take (4 * m) ++ s.L.drop (4 * m + 4)) (s.ln - 1) s.R s.rn) = false
      rw [dupB_false]
      unfold nosOf
      rw [leaseNos_cut s.L m s.ln hll hm]
      exact List.Nodup.sublist ((List.eraseIdx_sublist _ _).append (List.Sublist.refl _)) (dupB_false.1 ok.hold.apart)
    · refine lease_mk (fun i hi => ?_) (fun i hi => ?_)
      · have hi : i < s.ln - 1 := hi
        show (s.L.take (4 * m) ++ s.L.drop (4 * m + 4)).getD (4 * i) 0 = s.ep ∧ 0 ≤ (s.L.take (4 * m) ++ s.L.drop (4 * m + 4)).getD (4 * i + 1) 0 ∧ (s.L.take (4 * m) ++ s.L.drop (4 * m + 4)).getD (4 * i + 1) 0 ≤ s.gv - 1
        rw [g i 1 (by omega), show 4 * i = 4 * i + 0 from rfl, g i 0 (by omega)]
        split
        · exact lease_bounds ok (by omega)
        · exact lease_bounds ok (by omega)
      · have hi : i + 1 < s.ln - 1 := hi
        show (s.L.take (4 * m) ++ s.L.drop (4 * m + 4)).getD (4 * i + 1) 0 < (s.L.take (4 * m) ++ s.L.drop (4 * m + 4)).getD (4 * (i + 1) + 1) 0
        rw [g i 1 (by omega), g (i + 1) 1 (by omega)]
        have a1 := lease_rise ok (show i + 1 < s.ln by omega)
        have a2 := lease_rise ok (show i + 1 + 1 < s.ln by omega)
        split <;> split <;> omega
    · show (s.L.take (4 * m) ++ s.L.drop (4 * m + 4)).length = 4 * (s.ln - 1)
      simp
      omega
  | stop hk h1 R' ho =>
    refine ⟨⟨⟨by have := hc.e0; show 0 ≤ s.ep + 1; omega, by show s.ep + 1 ≤ _; omega, hc.n0, hc.n1, by show (0 : Int) ≤ 0; omega, by show (0 : Int) ≤ _; omega, by have := hc.sz; show s.rn + s.ln + 0 ≤ 500; omega⟩, ok.wins, ⟨ready_mk (ordered_come h ho) (ordered_rise h ho), fun i hi => absurd hi (Nat.not_lt_zero _), ?_⟩, fun i hi => absurd hi (Nat.not_lt_zero _)⟩, ho.len, rfl⟩
    show dupB (nosOf [] 0 R' (s.rn + s.ln)) = false
    rw [dupB_false]
    unfold nosOf
    rw [show leaseNos [] 0 = [] from rfl, List.nil_append]
    exact (ordered_nos h ho).nodup_iff.2 (dupB_false.1 ok.hold.apart)
end Go.Proofs.YtcdopnkabbfooaaGreat
