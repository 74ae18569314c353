/- Texts put together: RlA, RlB, RlM, RlC, RlI, RlD, RlF, RlE, RlG, RlH, RlJ, RlN. -/
import Derived.Test.YtcdopnkabbfooaaGreatRaDeed
import Derived.Maps.AppendAt
import Derived.Laws.OwnMore
namespace Go.Proofs.YtcdopnkabbfooaaGreat
open Go.RowKit

theorem bare_okS {B : Bt} (h : B.Stand) : B.bare.Ok := by
  refine ⟨?_, by simp [Bt.bare], St.zero, [], .nil⟩
  unfold Bt.Stand standP at h
  show standP B.r B.e B.f B.t B.o 0
  unfold standP
  rcases h with h | h | h | h | h
  · exact .inl ⟨h.1, rfl, h.2.2⟩
  · exact .inr (.inl h)
  · exact .inr (.inr (.inl h))
  · exact .inr (.inr (.inr (.inl h)))
  · exact .inr (.inr (.inr (.inr h)))
open Classical in
/-- what rebuild's begin answers, whether the events are a history or not. -/
noncomputable def beginT (B : Bt) (r : Rec) : Option Bt :=
  if (beginOf B.bare r.e r.p).2 = 0 then some (if (beginOf B.bare r.e r.p).1.e = B.e then ⟨(beginOf B.bare r.e r.p).1.r, (beginOf B.bare r.e r.p).1.e, (beginOf B.bare r.e r.p).1.f, (beginOf B.bare r.e r.p).1.t, (beginOf B.bare r.e r.p).1.o, B.es⟩ else (beginOf B.bare r.e r.p).1) else none
open Classical in
/-- the deed of a record, whether the events are a history or not. -/
noncomputable def deedT (B : Bt) (r : Rec) : Option Bt := if r.k = 4 then beginT B r else deedOf B r
theorem deedT_ok {B : Bt} {r : Rec} (ok : B.Ok) : deedT B r = deedOf B r := by
  unfold deedT
  by_cases hk : r.k = 4
  · rw [if_pos hk]
    unfold deedOf
    rw [if_neg (by omega), if_neg (by omega), if_neg (by omega), if_pos hk]
    obtain ⟨D, er, hD⟩ : ∃ D er, beginOf B.bare r.e r.p = (D, er) := ⟨_, _, rfl⟩
    obtain ⟨_, hno, hyes⟩ := begin_bare ok r.e r.p D er hD
    unfold beginT
    rw [hD]
    by_cases h0 : er = 0
    · obtain ⟨y0, y1, y2⟩ := hyes h0
      rw [if_pos h0, if_pos y0]
      by_cases h1 : D.e = B.e
      · rw [if_pos h1, y1 h1]
      · rw [if_neg h1, y2 h1]
    · rw [if_neg h0, if_neg (hno h0)]
  · rw [if_neg hk]
/-- what begin gives: the berth as it was, or a new one. -/
theorem beginT_some {B D : Bt} {r : Rec} (h : B.Stand) (hd : beginT B r = some D) : D = B ∨ (D = ⟨4, r.e, r.p, 0, 0, []⟩ ∧ 1 ≤ r.e ∧ r.e ≤ 1048576 ∧ 0 ≤ r.p ∧ r.p ≤ 4) := by
  have ok := bare_okS h
  unfold beginT at hd
  obtain ⟨E, er, hE⟩ : ∃ E er, beginOf B.bare r.e r.p = (E, er) := ⟨_, _, rfl⟩
  rw [hE] at hd
  unfold beginOf at hE
  rw [if_neg (fun g => g ok)] at hE
  by_cases g0 : ¬ ((1 ≤ r.e ∧ r.e ≤ 1048576) ∧ (0 ≤ r.p ∧ r.p ≤ 4))
  · rw [if_pos g0] at hE
    obtain ⟨rfl, rfl⟩ := Prod.mk.inj hE
    rw [if_neg (by decide)] at hd
    cases hd
  rw [if_neg g0] at hE
  have g0' := Decidable.not_not.1 g0
  by_cases g1 : B.r = 1 ∨ B.r = 2 ∨ B.r = 3
  · rw [if_pos (show B.bare.r = 1 ∨ B.bare.r = 2 ∨ B.bare.r = 3 from g1)] at hE
    obtain ⟨rfl, rfl⟩ := Prod.mk.inj hE
    rw [if_neg (by decide)] at hd
    cases hd
  rw [if_neg (show ¬ (B.bare.r = 1 ∨ B.bare.r = 2 ∨ B.bare.r = 3) from g1)] at hE
  by_cases g2 : B.r = 4 ∧ B.e = r.e ∧ B.f = r.p
  · rw [if_pos (show B.bare.r = 4 ∧ B.bare.e = r.e ∧ B.bare.f = r.p from g2)] at hE
    obtain ⟨rfl, rfl⟩ := Prod.mk.inj hE
    rw [if_pos rfl, if_pos (show B.bare.e = B.e from rfl)] at hd
    cases hd
    exact .inl rfl
  rw [if_neg (show ¬ (B.bare.r = 4 ∧ B.bare.e = r.e ∧ B.bare.f = r.p) from g2)] at hE
  by_cases g3 : r.e ≤ B.e
  · rw [if_pos (show r.e ≤ B.bare.e from g3)] at hE
    obtain ⟨rfl, rfl⟩ := Prod.mk.inj hE
    rw [if_neg (by decide)] at hd
    cases hd
  rw [if_neg (show ¬ r.e ≤ B.bare.e from g3)] at hE
  obtain ⟨rfl, rfl⟩ := Prod.mk.inj hE
  rw [if_pos rfl, if_neg (show ¬ r.e = B.e by omega)] at hd
  cases hd
  exact .inr ⟨rfl, g0'.1.1, g0'.1.2, g0'.2.1, g0'.2.2⟩
/-- a deed keeps a berth such that it may stand, and its events are none, or those that were there and perhaps one more. -/
theorem deedT_some {B D : Bt} {r : Rec} (h : B.Stand) (hf : r.fault = 0) (hd : deedT B r = some D) : D.Stand ∧ (D.es = [] ∨ B.es <+: D.es) := by
  have hr : (1 ≤ r.k ∧ r.k ≤ 7) ∧ (0 ≤ r.q ∧ r.q ≤ 3 ∧ 0 ≤ r.e ∧ r.e ≤ 1048576 ∧ 0 ≤ r.p ∧ r.p ≤ 4) := by
    unfold Rec.fault recordFault at hf
    split at hf
    · omega
    · rename_i h1
      split at hf
      · omega
      · rename_i h2
        exact ⟨Decidable.not_not.1 h1, Decidable.not_not.1 h2⟩
  have hs := h
  unfold Bt.Stand standP at hs
  unfold deedT at hd
  by_cases hk : r.k = 4
  · rw [if_pos hk] at hd
    rcases beginT_some h hd with rfl | ⟨rfl, g1, g2, g3, g4⟩
    · exact ⟨h, .inr (List.prefix_refl _)⟩
    · exact ⟨.inr (.inr (.inr (.inr ⟨rfl, g1, g2, g3, g4, rfl, rfl⟩))), .inl rfl⟩
  rw [if_neg hk] at hd
  unfold deedOf at hd
  by_cases k1 : r.k = 1
  · rw [if_pos k1] at hd
    split at hd
    · rename_i g
      cases hd
      exact ⟨.inr (.inl ⟨rfl, by simp only; omega, by simp only; omega, rfl, rfl, rfl⟩), .inl rfl⟩
    · cases hd
  rw [if_neg k1] at hd
  by_cases k2 : r.k = 2
  · rw [if_pos k2] at hd
    split at hd
    · rename_i g
      cases hd
      refine ⟨?_, .inr (List.prefix_append _ _)⟩
      unfold Bt.Stand standP
      simp only [Bt.more]
      refine .inr (.inl ⟨g.2.2, ?_⟩)
      omega
    · cases hd
  rw [if_neg k2] at hd
  by_cases k3 : r.k = 3
  · rw [if_pos k3] at hd
    split at hd
    · rename_i g
      cases hd
      refine ⟨?_, .inr (List.prefix_refl _)⟩
      show standP 3 B.e B.f r.p B.o _
      unfold standP
      refine .inr (.inr (.inr (.inl ⟨rfl, ?_⟩)))
      omega
    · cases hd
  rw [if_neg k3, if_neg hk] at hd
  by_cases k5 : r.k = 5
  · rw [if_pos k5] at hd
    split at hd
    · rename_i g
      cases hd
      refine ⟨?_, .inr (List.prefix_append _ _)⟩
      unfold Bt.Stand standP
      simp only [Bt.more]
      refine .inr (.inr (.inr (.inr ⟨g.2.2, ?_⟩)))
      omega
    · cases hd
  rw [if_neg k5] at hd
  by_cases k6 : r.k = 6
  · rw [if_pos k6] at hd
    split at hd
    · rename_i g
      cases hd
      refine ⟨?_, .inr (List.prefix_append _ _)⟩
      show standP 1 B.e 0 B.t B.o _
      unfold standP
      refine .inr (.inl ⟨rfl, ?_⟩)
      omega
    · cases hd
  rw [if_neg k6] at hd
  split at hd
  · rename_i g
    cases hd
    refine ⟨?_, .inl rfl⟩
    show standP 0 B.e 0 0 0 0
    unfold standP
    exact .inl ⟨rfl, rfl, by omega, by omega, rfl, rfl, rfl⟩
  · cases hd
open Classical in
/-- one record on berths, as told does it: what ends is looked at. -/
noncomputable def stepT (B : Bt) (r : Rec) : Option Bt :=
  match deedT B r with
  | none => none
  | some D => if D.es.length < B.es.length ∧ ¬ B.Ok then none else some D
theorem stepT_some {B D : Bt} {r : Rec} (h : stepT B r = some D) : deedT B r = some D ∧ (D.es.length < B.es.length → B.Ok) := by
  unfold stepT at h
  split at h
  · cases h
  · rename_i E hE
    split at h
    · cases h
    · rename_i g
      cases h
      exact ⟨hE, fun h1 => Classical.byContradiction fun h2 => g ⟨h1, h2⟩⟩
theorem stepT_ok {B : Bt} {r : Rec} (ok : B.Ok) : stepT B r = deedT B r := by
  unfold stepT
  cases h : deedT B r with
  | none => rfl
  | some D => simp only; rw [if_neg (fun g => g.2 ok)]
/-- a berth whose next one may be may be itself. -/
theorem back_ok {B D : Bt} {r : Rec} (hs : B.Stand) (hf : r.fault = 0) (h : stepT B r = some D) (hD : D.Ok) : B.Ok := by
  obtain ⟨h1, h2⟩ := stepT_some h
  obtain ⟨_, h3⟩ := deedT_some hs hf h1
  by_cases hl : D.es.length < B.es.length
  · exact h2 hl
  · have hp : B.es <+: D.es := by
      rcases h3 with h3 | h3
      · rw [h3] at hl ⊢
        have : B.es = [] := List.length_eq_zero_iff.1 (by simpa using hl)
        rw [this]
        exact List.prefix_refl _
      · exact h3
    obtain ⟨t, ht⟩ := hp
    obtain ⟨s, ans, hT⟩ := hD.told
    have hlen := hD.len
    rw [← ht] at hT hlen
    obtain ⟨s0, hT0⟩ := hT.take B.es.length (by simp)
    rw [List.take_left'] at hT0
    · exact ⟨hs, by simp at hlen; omega, s0, _, hT0⟩
    · rfl
/-- all that records make of berths, as told tells it: the berths, or an error. -/
def At (S : List Bt) (r : Rec) : Bt := S.getD r.q.toNat Bt.zero
def put (S : List Bt) (r : Rec) (D : Bt) : List Bt := S.set r.q.toNat D
open Classical in
noncomputable def toldS (S : List Bt) : List Rec → Option (List Bt) × Int
  | [] => if ∀ B ∈ S, B.Ok then (some S, 0) else (none, 3)
  | r :: l => if ¬ r.fault = 0 then (none, r.fault) else match stepT (At S r) r with
    | none => (none, 3)
    | some D => toldS (put S r D) l
/-- the same as the document tells it: the berths, or a place and an error. -/
noncomputable def rebS (S : List Bt) (i : Nat) : List Rec → Option (List Bt) × Nat × Int
  | [] => (some S, 0, 0)
  | r :: l => if ¬ r.fault = 0 then (none, i, r.fault) else match applyOf (At S r) r with
    | (D, e) => if e = 0 then rebS (put S r D) (i + 1) l else (none, i, e)
end Go.Proofs.YtcdopnkabbfooaaGreat

namespace Go.Proofs.YtcdopnkabbfooaaGreat
open Go.RowKit

theorem fault_q {r : Rec} (hf : r.fault = 0) : 0 ≤ r.q ∧ r.q ≤ 3 := by
  unfold Rec.fault recordFault at hf
  split at hf
  · omega
  · split at hf
    · omega
    · rename_i h2
      have := Decidable.not_not.1 h2
      omega
theorem at_mem {S : List Bt} {r : Rec} (hl : S.length = 4) (hf : r.fault = 0) : At S r ∈ S := by
  have hq := fault_q hf
  have hi : r.q.toNat < S.length := by omega
  unfold At
  rw [List.getD_eq_getElem?_getD, List.getElem?_eq_getElem hi]
  exact List.getElem_mem hi
theorem put_len {S : List Bt} {r : Rec} {D : Bt} : (put S r D).length = S.length := List.length_set
theorem put_all {P : Bt → Prop} {S : List Bt} {r : Rec} {D : Bt} (h : ∀ B ∈ S, P B) (hD : P D) : ∀ B ∈ put S r D, P B := fun B hB => by
  rcases List.mem_or_eq_of_mem_set hB with h1 | h1
  · exact h B h1
  · rw [h1]; exact hD
theorem put_back {P : Bt → Prop} {S : List Bt} {r : Rec} {D : Bt} (hl : S.length = 4) (hf : r.fault = 0) (h : ∀ B ∈ put S r D, P B) : P D ∧ ∀ i, i ≠ r.q.toNat → ∀ hi : i < S.length, P S[i] := by
  have hq := fault_q hf
  have hi : r.q.toNat < S.length := by omega
  refine ⟨h D (List.mem_set hi D), fun i hne hi' => h _ ?_⟩
  have : (put S r D)[i]'(by rw [put_len]; exact hi') = S[i] := List.getElem_set_ne (fun e => hne e.symm) _
  rw [← this]
  exact List.getElem_mem _
/-- where told finds berths, those at the start may be. -/
theorem told_ok : ∀ (l : List Rec) (S S' : List Bt) (e : Int), S.length = 4 → (∀ B ∈ S, B.Stand) → toldS S l = (some S', e) → (∀ B ∈ S, B.Ok) ∧ e = 0
  | [], S, S', e, _, _, h => by
    unfold toldS at h
    split at h
    · rename_i g; exact ⟨g, (Prod.mk.inj h).2.symm⟩
    · cases (Prod.mk.inj h).1
  | r :: l, S, S', e, hl, hs, h => by
    unfold toldS at h
    split at h
    · cases (Prod.mk.inj h).1
    · rename_i hf0
      have hf := Decidable.not_not.1 hf0
      split at h
      · cases (Prod.mk.inj h).1
      · rename_i D hD
        have hA := hs _ (at_mem hl hf)
        have hDs := (deedT_some hA hf (stepT_some hD).1).1
        obtain ⟨ih, he⟩ := told_ok l (put S r D) S' e (by rw [put_len]; exact hl) (put_all hs hDs) h
        obtain ⟨hDo, ho⟩ := put_back hl hf ih
        have hAo := back_ok hA hf hD hDo
        refine ⟨fun B hB => ?_, he⟩
        obtain ⟨i, hi, rfl⟩ := List.getElem_of_mem hB
        by_cases hne : i = r.q.toNat
        · have : At S r = S[i] := by
            unfold At
            rw [List.getD_eq_getElem?_getD, ← hne, List.getElem?_eq_getElem hi]
            rfl
          rw [← this]
          exact hAo
        · exact ho i hne hi
/-- where told finds berths, the document finds the same. -/
theorem told_reb : ∀ (l : List Rec) (S S' : List Bt) (e : Int) (i : Nat), S.length = 4 → (∀ B ∈ S, B.Stand) → toldS S l = (some S', e) → rebS S i l = (some S', 0, 0)
  | [], S, S', e, i, _, _, h => by
    unfold toldS at h
    split at h
    · obtain ⟨h1, _⟩ := Prod.mk.inj h; cases h1; rfl
    · cases (Prod.mk.inj h).1
  | r :: l, S, S', e, i, hl, hs, h => by
    have hok := (told_ok _ _ _ _ hl hs h).1
    unfold toldS at h
    split at h
    · cases (Prod.mk.inj h).1
    · rename_i hf0
      have hf := Decidable.not_not.1 hf0
      split at h
      · cases (Prod.mk.inj h).1
      · rename_i D hD
        have hA := hs _ (at_mem hl hf)
        have hAo := hok _ (at_mem hl hf)
        have hDs := (deedT_some hA hf (stepT_some hD).1).1
        have ih := told_reb l (put S r D) S' e (i + 1) (by rw [put_len]; exact hl) (put_all hs hDs) h
        have hDo := (put_back hl hf (told_ok l (put S r D) S' e (by rw [put_len]; exact hl) (put_all hs hDs) h).1).1
        have hd : deedOf (At S r) r = some D := by rw [← deedT_ok hAo]; exact (stepT_some hD).1
        unfold rebS
        rw [if_neg hf0, apply_good hAo hf hd hDo]
        simp only [if_true]
        exact ih
/-- where the document finds berths, told finds the same. -/
theorem reb_told : ∀ (l : List Rec) (S S' : List Bt) (i j : Nat) (e : Int), S.length = 4 → (∀ B ∈ S, B.Ok) → rebS S i l = (some S', j, e) → toldS S l = (some S', 0) ∧ j = 0 ∧ e = 0
  | [], S, S', i, j, e, _, hok, h => by
    unfold rebS at h
    cases h
    unfold toldS
    rw [if_pos hok]
    exact ⟨rfl, rfl, rfl⟩
  | r :: l, S, S', i, j, e, hl, hok, h => by
    unfold rebS at h
    split at h
    · cases h
    · rename_i hf0
      have hf := Decidable.not_not.1 hf0
      have hAo := hok _ (at_mem hl hf)
      cases hd : deedOf (At S r) r with
      | none =>
        rw [apply_none hAo hf hd] at h
        simp at h
      | some D =>
        by_cases hDo : D.Ok
        · rw [apply_good hAo hf hd hDo] at h
          simp only [if_true] at h
          have ih := reb_told l (put S r D) S' (i + 1) j e (by rw [put_len]; exact hl) (put_all hok hDo) h
          unfold toldS
          rw [if_neg hf0, stepT_ok hAo, deedT_ok hAo, hd]
          exact ih
        · rw [apply_bad hAo hf hd hDo] at h
          simp at h
/-- where the document finds a fault, it finds it at a place; what stands ahead makes berths, and told says the same error of what goes so far. -/
theorem reb_fault : ∀ (l : List Rec) (S : List Bt) (i j : Nat) (e : Int), S.length = 4 → (∀ B ∈ S, B.Ok) → rebS S i l = (none, j, e) → ∃ n, n < l.length ∧ j = i + n ∧ ¬ e = 0 ∧ (∀ k, k ≤ n → ∃ S', toldS S (l.take k) = (some S', 0)) ∧ ∀ k, n < k → (toldS S (l.take k)).1 = none ∧ (k = n + 1 → (toldS S (l.take k)).2 = e)
  | [], S, i, j, e, _, _, h => by unfold rebS at h; cases h
  | r :: l, S, i, j, e, hl, hok, h => by
    have hnil : ∃ S', toldS S ((r :: l).take 0) = (some S', 0) := ⟨S, by simp only [List.take_zero]; unfold toldS; rw [if_pos hok]⟩
    have hz : ∀ k, k ≤ 0 → ∃ S', toldS S ((r :: l).take k) = (some S', 0) := fun k hk => by
      rw [Nat.le_zero.1 hk]
      exact hnil
    unfold rebS at h
    split at h
    · rename_i hf
      cases h
      refine ⟨0, by simp, rfl, hf, hz, fun k hk => ?_⟩
      obtain ⟨m, rfl⟩ : ∃ m, k = m + 1 := ⟨k - 1, by omega⟩
      rw [List.take_succ_cons]
      unfold toldS
      rw [if_pos hf]
      exact ⟨rfl, fun _ => rfl⟩
    · rename_i hf0
      have hf := Decidable.not_not.1 hf0
      have hAo := hok _ (at_mem hl hf)
      cases hd : deedOf (At S r) r with
      | none =>
        rw [apply_none hAo hf hd] at h
        simp at h
        obtain ⟨rfl, rfl⟩ := h
        refine ⟨0, by simp, rfl, by decide, hz, fun k hk => ?_⟩
        obtain ⟨m, rfl⟩ : ∃ m, k = m + 1 := ⟨k - 1, by omega⟩
        rw [List.take_succ_cons]
        unfold toldS
        rw [if_neg hf0, stepT_ok hAo, deedT_ok hAo, hd]
        exact ⟨rfl, fun _ => rfl⟩
      | some D =>
        by_cases hDo : D.Ok
        · rw [apply_good hAo hf hd hDo] at h
          simp only [if_true] at h
          obtain ⟨n, h1, h2, h3, h4, h5⟩ := reb_fault l (put S r D) (i + 1) j e (by rw [put_len]; exact hl) (put_all hok hDo) h
          have hstep : ∀ m, toldS S ((r :: l).take (m + 1)) = toldS (put S r D) (l.take m) := by
            intro m
            rw [List.take_succ_cons]
            conv => lhs; unfold toldS
            rw [if_neg hf0, stepT_ok hAo, deedT_ok hAo, hd]
          refine ⟨n + 1, by simp; omega, by omega, h3, fun k hk => ?_, fun k hk => ?_⟩
          · rcases Nat.eq_zero_or_pos k with rfl | hp
            · exact hnil
            · obtain ⟨m, rfl⟩ : ∃ m, k = m + 1 := ⟨k - 1, by omega⟩
              rw [hstep]
              exact h4 m (by omega)
          · obtain ⟨m, rfl⟩ : ∃ m, k = m + 1 := ⟨k - 1, by omega⟩
            rw [hstep]
            exact ⟨(h5 m (by omega)).1, fun hk' => (h5 m (by omega)).2 (by omega)⟩
        · rw [apply_bad hAo hf hd hDo] at h
          simp at h
          obtain ⟨rfl, rfl⟩ := h
          have hbad : ∀ m, (toldS S ((r :: l).take (m + 1))).1 = none := by
            intro m
            cases hc : (toldS S ((r :: l).take (m + 1))).1 with
            | none => rfl
            | some S' =>
              exfalso
              have hS := hok
              have he : toldS S ((r :: l).take (m + 1)) = (some S', (toldS S ((r :: l).take (m + 1))).2) := by rw [← hc]
              rw [List.take_succ_cons] at he
              have hss : ∀ B ∈ S, B.Stand := fun B hB => (hok B hB).stand
              conv at he => lhs; unfold toldS
              rw [if_neg hf0, stepT_ok hAo, deedT_ok hAo, hd] at he
              simp only at he
              have hDs := (deedT_some hAo.stand hf (by rw [deedT_ok hAo]; exact hd)).1
              have := (told_ok _ _ _ _ (by rw [put_len]; exact hl) (put_all hss hDs) he).1
              exact hDo (put_back hl hf this).1
          refine ⟨0, by simp, rfl, by decide, hz, fun k hk => ?_⟩
          obtain ⟨m, rfl⟩ : ∃ m, k = m + 1 := ⟨k - 1, by omega⟩
          refine ⟨hbad m, fun hk' => ?_⟩
          obtain rfl : m = 0 := by omega
          have := hbad 0
          rw [List.take_succ_cons, List.take_zero] at this ⊢
          conv => lhs; unfold toldS
          conv at this => lhs; unfold toldS
          rw [if_neg hf0, stepT_ok hAo, deedT_ok hAo, hd] at this ⊢
          simp only at this ⊢
          unfold toldS at this ⊢
          split at this
          · cases this
          · rename_i g; rw [if_neg g]
end Go.Proofs.YtcdopnkabbfooaaGreat

namespace Go.Proofs.YtcdopnkabbfooaaGreat
open Go.RowKit

/-- records of one queue, one behind the other: the berth ahead, and the one behind. -/
inductive Runs : Bt → List Rec → Bt → Prop
  | nil (B : Bt) : Runs B [] B
  | cons {B D E : Bt} {r : Rec} {l : List Rec} (hf : r.fault = 0) (ha : applyOf B r = (D, 0)) (h : Runs D l E) : Runs B (r :: l) E
theorem Runs.one {B D : Bt} {r : Rec} (hf : r.fault = 0) (ha : applyOf B r = (D, 0)) : Runs B [r] D := .cons hf ha (.nil D)
theorem Runs.app {B D E : Bt} {l m : List Rec} (h : Runs B l D) (h' : Runs D m E) : Runs B (l ++ m) E := by
  induction h with
  | nil B => exact h'
  | cons hf ha _ ih => exact .cons hf ha (ih h')
theorem Runs.snoc {B D E : Bt} {r : Rec} {l : List Rec} (h : Runs B l D) (hf : r.fault = 0) (ha : applyOf D r = (E, 0)) : Runs B (l ++ [r]) E := h.app (.one hf ha)
theorem Runs.nil_eq {B D : Bt} (h : Runs B [] D) : D = B := by cases h; rfl
theorem at_set_same {S : List Bt} {q : Nat} {D : Bt} (h : q < S.length) : (S.set q D).getD q Bt.zero = D := by
  rw [List.getD_eq_getElem?_getD, List.getElem?_set_self h]
  rfl
theorem at_set_other {S : List Bt} {q k : Nat} {D : Bt} (h : q ≠ k) : (S.set q D).getD k Bt.zero = S.getD k Bt.zero := by
  rw [List.getD_eq_getElem?_getD, List.getD_eq_getElem?_getD, List.getElem?_set_ne h]
/-- QUEUES DO NOT KNOW OF EACH OTHER: where each queue's own records run, all of them do, in whatever order. -/
theorem runs_reb : ∀ (l : List Rec) (S S' : List Bt) (i : Nat), S.length = 4 → S'.length = 4 → (∀ r ∈ l, r.q.toNat < 4) →
    (∀ q, q < 4 → Runs (S.getD q Bt.zero) (l.filter (fun r => decide (r.q.toNat = q))) (S'.getD q Bt.zero)) → rebS S i l = (some S', 0, 0)
  | [], S, S', i, hl, hl', _, h => by
    unfold rebS
    have : S = S' := by
      refine List.ext_getElem (by omega) fun k h1 h2 => ?_
      have := (h k (by omega)).nil_eq
      rw [List.getD_eq_getElem?_getD, List.getD_eq_getElem?_getD, List.getElem?_eq_getElem h1, List.getElem?_eq_getElem h2] at this
      exact this.symm
    rw [this]
  | r :: l, S, S', i, hl, hl', hq, h => by
    have hr := hq r (List.mem_cons_self ..)
    have h0 := h r.q.toNat hr
    rw [List.filter_cons_of_pos (by simp)] at h0
    cases h0 with
    | @cons _ D _ _ _ hf ha h1 =>
      unfold rebS
      rw [if_neg (fun g => g hf)]
      have ha' : applyOf (At S r) r = (D, 0) := ha
      rw [ha']
      simp only [if_true]
      refine runs_reb l (put S r D) S' (i + 1) (by rw [put_len]; exact hl) hl' (fun x hx => hq x (List.mem_cons_of_mem _ hx)) fun q hq4 => ?_
      unfold put
      by_cases he : r.q.toNat = q
      · subst he
        rw [at_set_same (by omega)]
        exact h1
      · rw [at_set_other he]
        have := h q hq4
        rw [List.filter_cons_of_neg (by simpa using he)] at this
        exact this
/-- the same where all records are of one queue. -/
theorem runs_reb1 {l : List Rec} {S : List Bt} {B : Bt} {q : Nat} (i : Nat) (hl : S.length = 4) (hq : q < 4) (hr : ∀ r ∈ l, r.q.toNat = q) (h : Runs (S.getD q Bt.zero) l B) : rebS S i l = (some (S.set q B), 0, 0) := by
  refine runs_reb l S (S.set q B) i hl (by rw [List.length_set]; exact hl) (fun r hm => by rw [hr r hm]; exact hq) fun k hk => ?_
  by_cases he : q = k
  · subst he
    rw [at_set_same (by omega), List.filter_eq_self.2 (fun r hm => by simpa using hr r hm)]
    exact h
  · rw [at_set_other he, List.filter_eq_nil_iff.2 (fun r hm => by simpa using fun g => he ((hr r hm).symm.trans g))]
    exact .nil _
/-- where records make berths, and one more does not fit, its place is told. -/
theorem reb_behind : ∀ (l : List Rec) (S S' : List Bt) (i : Nat) (r : Rec) (x : Bt) (e : Int), rebS S i l = (some S', 0, 0) → r.fault = 0 → applyOf (At S' r) r = (x, e) → ¬ e = 0 → rebS S i (l ++ [r]) = (none, i + l.length, e)
  | [], S, S', i, r, x, e, h, hf, ha, he => by
    unfold rebS at h
    cases h
    simp only [List.nil_append]
    unfold rebS
    rw [if_neg (fun g => g hf), ha]
    simp only [if_neg he]
    rfl
  | r0 :: l, S, S', i, r, x, e, h, hf, ha, he => by
    rw [List.cons_append]
    unfold rebS at h ⊢
    split at h
    · cases h
    · rename_i hf0
      rw [if_neg hf0]
      obtain ⟨D, e0, hD⟩ : ∃ D e0, applyOf (At S r0) r0 = (D, e0) := ⟨_, _, rfl⟩
      rw [hD] at h ⊢
      simp only at h ⊢
      split at h
      · rename_i he0
        rw [if_pos he0, reb_behind l _ S' (i + 1) r x e h hf ha he, List.length_cons]
        congr 2
        omega
      · cases h
/-- the records of a berth that serves, or that is sealed. -/
def recC (q e : Int) : Rec := ⟨1, q, e, 0, ⟨0, 0, 0, 0, 0, 0⟩⟩
def recH (q e : Int) (v : Ev) : Rec := ⟨2, q, e, 0, v⟩
def recS (q e p : Int) : Rec := ⟨3, q, e, p, ⟨0, 0, 0, 0, 0, 0⟩⟩
def recG (q e : Int) : Rec := ⟨7, q, e, 0, ⟨0, 0, 0, 0, 0, 0⟩⟩
def recA (q e : Int) : Rec := ⟨6, q, e, 0, ⟨0, 0, 0, 0, 0, 0⟩⟩
def recB (q e p : Int) : Rec := ⟨4, q, e, p, ⟨0, 0, 0, 0, 0, 0⟩⟩
def recI (q e : Int) (v : Ev) : Rec := ⟨5, q, e, 0, v⟩
def tapeOf (q : Int) (B : Bt) : List Rec := recC q B.e :: (B.es.map (recH q B.e) ++ if B.r = 3 then [recS q B.e B.t] else [])
theorem recC_fault {q e : Int} (hq : 0 ≤ q ∧ q ≤ 3) (he : 1 ≤ e ∧ e ≤ 1048576) : (recC q e).fault = 0 := by
  unfold Rec.fault recordFault recC nothingOf
  simp only
  rw [if_neg (by omega), if_neg (by omega), if_neg (by omega)]
  simp
theorem recS_fault {q e p : Int} (hq : 0 ≤ q ∧ q ≤ 3) (he : 1 ≤ e ∧ e ≤ 1048576) (hp : 0 ≤ p ∧ p ≤ 4) : (recS q e p).fault = 0 := by
  unfold Rec.fault recordFault recS nothingOf
  simp only
  rw [if_neg (by omega), if_neg (by omega), if_neg (by omega)]
  simp
theorem recG_fault {q e : Int} (hq : 0 ≤ q ∧ q ≤ 3) (he : 1 ≤ e ∧ e ≤ 1048576) : (recG q e).fault = 0 := by
  unfold Rec.fault recordFault recG nothingOf
  simp only
  rw [if_neg (by omega), if_neg (by omega), if_neg (by omega)]
  simp
theorem recA_fault {q e : Int} (hq : 0 ≤ q ∧ q ≤ 3) (he : 1 ≤ e ∧ e ≤ 1048576) : (recA q e).fault = 0 := by
  unfold Rec.fault recordFault recA nothingOf
  simp only
  rw [if_neg (by omega), if_neg (by omega), if_neg (by omega)]
  simp
theorem recB_fault {q e p : Int} (hq : 0 ≤ q ∧ q ≤ 3) (he : 1 ≤ e ∧ e ≤ 1048576) (hp : 0 ≤ p ∧ p ≤ 4) : (recB q e p).fault = 0 := by
  unfold Rec.fault recordFault recB nothingOf
  simp only
  rw [if_neg (by omega), if_neg (by omega), if_neg (by omega)]
  simp
theorem recH_fault {q e : Int} {v : Ev} (hq : 0 ≤ q ∧ q ≤ 3) (he : 1 ≤ e ∧ e ≤ 1048576) (hv : v.Ok) : (recH q e v).fault = 0 := by
  unfold Rec.fault recordFault recH
  simp only
  rw [if_neg (by omega), if_neg (by omega), if_pos (by simp)]
  exact hv
theorem recI_fault {q e : Int} {v : Ev} (hq : 0 ≤ q ∧ q ≤ 3) (he : 1 ≤ e ∧ e ≤ 1048576) (hv : v.Ok) : (recI q e v).fault = 0 := by
  unfold Rec.fault recordFault recI
  simp only
  rw [if_neg (by omega), if_neg (by omega), if_pos (by simp)]
  exact hv
/-- a history's records, one behind the other. -/
theorem runs_hist {q e : Int} (hq : 0 ≤ q ∧ q ≤ 3) (he : 1 ≤ e ∧ e ≤ 1048576) {es : List Ev} {s : St} {ans : List An} (h : Tells es s ans) (hl : es.length ≤ 2000) : Runs ⟨1, e, 0, 0, 0, []⟩ (es.map (recH q e)) ⟨1, e, 0, 0, 0, es⟩ := by
  induction h with
  | nil => exact .nil _
  | @snoc es s s' ans v an h hv st ih =>
    have hl0 : es.length ≤ 2000 := by simp at hl; omega
    rw [List.map_append]
    refine (ih hl0).snoc (recH_fault hq he hv) ?_
    refine apply_good ⟨.inr (.inl ⟨rfl, he.1, he.2, rfl, rfl, rfl⟩), hl0, _, _, h⟩ (recH_fault hq he hv) ?_ ⟨.inr (.inl ⟨rfl, he.1, he.2, rfl, rfl, rfl⟩), hl, _, _, .snoc h hv st⟩
    unfold deedOf recH Bt.more
    simp
/-- the same for what is taken over. -/
theorem runs_over {q e p : Int} (hq : 0 ≤ q ∧ q ≤ 3) (he : 1 ≤ e ∧ e ≤ 1048576) (hp : 0 ≤ p ∧ p ≤ 4) {es : List Ev} {s : St} {ans : List An} (h : Tells es s ans) (hl : es.length ≤ 2000) : Runs ⟨4, e, p, 0, 0, []⟩ (es.map (recI q e)) ⟨4, e, p, 0, 0, es⟩ := by
  induction h with
  | nil => exact .nil _
  | @snoc es s s' ans v an h hv st ih =>
    have hl0 : es.length ≤ 2000 := by simp at hl; omega
    rw [List.map_append]
    refine (ih hl0).snoc (recI_fault hq he hv) ?_
    refine apply_good ⟨.inr (.inr (.inr (.inr ⟨rfl, he.1, he.2, hp.1, hp.2, rfl, rfl⟩))), hl0, _, _, h⟩ (recI_fault hq he hv) ?_ ⟨.inr (.inr (.inr (.inr ⟨rfl, he.1, he.2, hp.1, hp.2, rfl, rfl⟩))), hl, _, _, .snoc h hv st⟩
    unfold deedOf recI Bt.more
    simp
theorem one_ok {e : Int} (he : 1 ≤ e ∧ e ≤ 1048576) : Bt.Ok ⟨1, e, 0, 0, 0, []⟩ := ⟨.inr (.inl ⟨rfl, he.1, he.2, rfl, rfl, rfl⟩), by simp, _, _, .nil⟩
theorem runs_create {q e e0 : Int} (hq : 0 ≤ q ∧ q ≤ 3) (he : 1 ≤ e ∧ e ≤ 1048576) (h0 : 0 ≤ e0 ∧ e0 < e) : Runs ⟨0, e0, 0, 0, 0, []⟩ [recC q e] ⟨1, e, 0, 0, 0, []⟩ := by
  refine .one (recC_fault hq he) (apply_good ⟨.inl ⟨rfl, rfl, h0.1, by simp only; omega, rfl, rfl, rfl⟩, by simp, _, _, .nil⟩ (recC_fault hq he) ?_ (one_ok he))
  unfold deedOf recC
  simp
  omega
/-- A BERTH IS REBUILT AS IT WAS, active or sealed. -/
theorem runs_recs {q : Int} {B : Bt} (hq : 0 ≤ q ∧ q ≤ 3) (ok : B.Ok) (hr : B.r = 1 ∨ B.r = 3) : Runs Bt.zero (tapeOf q B) B := by
  obtain ⟨s, ans, ht⟩ := ok.told
  have hs := ok.stand
  have hlen := ok.len
  obtain ⟨r, e, f, t, o, es⟩ := B
  unfold Bt.Stand standP at hs
  simp only at hr hs ht hlen
  have he : 1 ≤ e ∧ e ≤ 1048576 := by omega
  have hall := (runs_create hq he (e0 := 0) (by omega)).app (runs_hist hq he ht hlen)
  have hf : f = 0 ∧ o = 0 := by omega
  obtain ⟨rfl, rfl⟩ := hf
  unfold tapeOf
  simp only
  rcases hr with rfl | rfl
  · have : t = 0 := by omega
    subst this
    rw [if_neg (by decide), List.append_nil]
    exact hall
  · have hp : 0 ≤ t ∧ t ≤ 4 := by omega
    rw [if_pos rfl]
    refine hall.snoc (r := recS q e t) (recS_fault hq he hp) (apply_good ⟨.inr (.inl ⟨rfl, he.1, he.2, rfl, rfl, rfl⟩), hlen, _, _, ht⟩ (recS_fault hq he hp) ?_ ⟨.inr (.inr (.inr (.inl ⟨rfl, he.1, he.2, rfl, hp.1, hp.2, rfl⟩))), hlen, _, _, ht⟩)
    unfold deedOf recS
    simp
theorem tapeOf_q {q : Int} {B : Bt} : ∀ r ∈ tapeOf q B, r.q = q := by
  intro r hr
  unfold tapeOf at hr
  rcases List.mem_cons.1 hr with rfl | hr
  · rfl
  rcases List.mem_append.1 hr with hr | hr
  · obtain ⟨v, _, rfl⟩ := List.mem_map.1 hr
    rfl
  · split at hr
    · rw [List.mem_singleton.1 hr]
      rfl
    · cases hr
theorem tapeOf_len {q : Int} {B : Bt} : (tapeOf q B).length = 1 + B.es.length + if B.r = 3 then 1 else 0 := by
  unfold tapeOf
  rw [List.length_cons, List.length_append, List.length_map]
  split <;> simp <;> omega
/-- WHAT IS CUT OFF BEHIND IS AS IF IT HAD NOT BEEN DONE. -/
theorem tapeOf_take {q : Int} {B : Bt} (hr : B.r = 1) {k : Nat} : (tapeOf q B).take (k + 1) = tapeOf q ⟨B.r, B.e, B.f, B.t, B.o, B.es.take k⟩ := by
  unfold tapeOf
  simp only [hr]
  rw [List.take_succ_cons, if_neg (by decide), List.append_nil, List.append_nil, List.map_take]
theorem ok_take {B : Bt} (ok : B.Ok) (hr : B.r = 1) {k : Nat} (hk : k ≤ B.es.length) : Bt.Ok ⟨B.r, B.e, B.f, B.t, B.o, B.es.take k⟩ := by
  obtain ⟨s, ans, ht⟩ := ok.told
  obtain ⟨s0, ht0⟩ := ht.take k hk
  have hs := ok.stand
  have := ok.len
  unfold Bt.Stand standP at hs
  refine ⟨?_, by simp only [List.length_take]; omega, s0, _, ht0⟩
  unfold Bt.Stand standP
  simp only
  exact .inr (.inl (by omega))
theorem deed_active {B : Bt} {q e : Int} (hr : B.r = 1) : deedOf B (recA q e) = none := by
  unfold deedOf recA
  simp [hr]
theorem deed_create {B : Bt} {q e : Int} (hr : ¬ B.r = 0) : deedOf B (recC q e) = none := by
  unfold deedOf recC
  simp [hr]
theorem deed_forget {B : Bt} {q e : Int} (hr : ¬ B.r = 3) : deedOf B (recG q e) = none := by
  unfold deedOf recG
  simp [hr]
theorem apply_forget {B : Bt} {q : Int} (hq : 0 ≤ q ∧ q ≤ 3) (ok : B.Ok) (hr : B.r = 3) : (recG q B.e).fault = 0 ∧ applyOf B (recG q B.e) = (⟨0, B.e, 0, 0, 0, []⟩, 0) := by
  have hs := ok.stand
  unfold Bt.Stand standP at hs
  have he : 1 ≤ B.e ∧ B.e ≤ 1048576 := by omega
  refine ⟨recG_fault hq he, apply_good ok (recG_fault hq he) ?_ ⟨.inl ⟨rfl, rfl, by simp only; omega, by simp only; omega, rfl, rfl, rfl⟩, by simp, _, _, .nil⟩⟩
  unfold deedOf recG
  simp [hr]
/-- the end of a move that took over: its records make it. -/
def movesOf (q : Int) (e p : Int) (es : List Ev) : List Rec := recB q e p :: (es.map (recI q e) ++ [recA q e])
theorem runs_moves {q e p : Int} (hq : 0 ≤ q ∧ q ≤ 3) (hp : 0 ≤ p ∧ p ≤ 4) {es : List Ev} (ok : Bt.Ok ⟨1, e, 0, 0, 0, es ++ [Ev.brk]⟩) : Runs Bt.zero (movesOf q e p es) ⟨1, e, 0, 0, 0, es ++ [Ev.brk]⟩ := by
  have hs := ok.stand
  have hlen := ok.len
  unfold Bt.Stand standP at hs
  simp only at hs hlen
  rw [List.length_append, List.length_singleton] at hlen
  have he : 1 ≤ e ∧ e ≤ 1048576 := by omega
  obtain ⟨s, ans, ht⟩ := ok.told
  obtain ⟨s0, ht0⟩ := ht.take es.length (by simp)
  simp only at ht0
  rw [List.take_left'] at ht0
  rotate_left
  · rfl
  have hst : ∀ l : List Ev, (Bt.mk 4 e p 0 0 l).Stand := fun l => .inr (.inr (.inr (.inr ⟨rfl, he.1, he.2, hp.1, hp.2, rfl, rfl⟩)))
  unfold movesOf
  refine .cons (D := ⟨4, e, p, 0, 0, []⟩) (recB_fault hq he hp) (apply_good Bt.zero_ok (recB_fault hq he hp) ?_ ⟨hst _, by simp, _, _, .nil⟩) ?_
  · have hb : beginOf Bt.zero e p = (⟨4, e, p, 0, 0, []⟩, 0) := by
      have hr : Bt.zero.r = 0 := rfl
      have hz0 : Bt.zero.e = 0 := rfl
      unfold beginOf
      rw [if_neg (fun g => g Bt.zero_ok), if_neg (by omega), if_neg (by rw [hr]; decide), if_neg (by rw [hr]; omega), if_neg (by rw [hz0]; omega)]
    unfold deedOf recB
    simp only
    rw [if_neg (by decide), if_neg (by decide), if_neg (by decide), if_pos trivial, hb]
    rfl
  refine (runs_over hq he hp ht0 (by omega)).snoc (recA_fault hq he) (apply_good ⟨hst _, by simp only; omega, _, _, ht0⟩ (recA_fault hq he) ?_ ok)
  unfold deedOf recA
  simp
end Go.Proofs.YtcdopnkabbfooaaGreat

namespace Go.Proofs.YtcdopnkabbfooaaGreat
open Go.RowKit

set_option maxRecDepth 20000 in
set_option maxHeartbeats 4000000 in
theorem bbegin_new (B : Bt) (a : Option Addr) (c : Nat) (ep fr : Int) (w : World) (hb : BIn w B a c) (ok : B.Ok) (h1 : 1 ≤ ep ∧ ep ≤ 1048576) (h2 : 0 ≤ fr ∧ fr ≤ 4) (h5 : ¬ (B.r = 1 ∨ B.r = 2 ∨ B.r = 3)) (h7 : ¬ ep ≤ B.e) : Calls Tryz.prog 47 #[bVal B.r B.e B.f B.t B.o a B.es.length c, .int .i64 ep, .int .i64 fr] w fun x w' => x = .returned (.tuple #[bVal 4 ep fr 0 0 none 0 0, .int .i64 0]) ∧ Below w.heap.size w w' := by
  have HE := fun w => isEpoch_any ep w
  have HN := fun w => isBerthNode_any fr w
  have HS := fun w => serves_any B.r B.e B.f B.t B.o a B.es.length c w
  rw [decide_eq_true h1] at HE
  rw [decide_eq_true h2] at HN
  rw [decide_eq_false (show ¬ (B.r = 1 ∨ B.r = 2) by omega)] at HS
  have H1 := veil (And.intro h1 h2)
  have h4 : ¬ B.r = 3 := by omega
  have h6 : ¬ (B.r = 4 ∧ B.e = ep ∧ B.f = fr) := by omega
  have H3 : Hid (¬ (B.r = 1 ∨ B.r = 2)) := veil (by omega)
  have H5 : Hid (¬ (B.r = 1 ∨ B.r = 2 ∨ B.r = 3)) := veil h5
  clear h1 h2 h5
  go_enter Tryz.func47, Tryz.ntmps47
  go_upto_region 1 with fail
  obtain ⟨W1, hW1, M1⟩ := Mb.made w B a c
  rw [← hW1]
  clear hW1
  have HC := bcheck_yes B a c W1 (hb.next M1.bel) ok
  obtain ⟨x0, x1, x2, x3, x4, x5⟩ := M1.b.cells
  have HM := veil M1
  clear M1
  have e4 : (B.r == 3) = false := by simpa using h4
  go_upto_region 7 with (first | (go_at_call 28; refine HC.mono ?_; rintro x W2 ⟨rfl, b2⟩; clear HC x0 x1 x2 x3 x4 x5; have M2 := (unveil HM).next b2; obtain ⟨x0, x1, x2, x3, x4, x5⟩ := M2.b.cells; have HM2 := veil M2; clear M2 b2 HM) | (go_at_call 67; refine (HE _).mono ?_; rintro x w3 ⟨rfl, hw3⟩; subst w3) | (go_at_call 43; refine (HN _).mono ?_; rintro x w3 ⟨rfl, hw3⟩; subst w3) | (go_at_call 72; refine (HS _).mono ?_; rintro x W3 ⟨rfl, b3⟩; have M3 := (unveil HM2).next b3; clear HM2 x0 x1 x2 x3 x4 x5; obtain ⟨x0, x1, x2, x3, x4, x5⟩ := M3.b.cells; have HM2 := veil M3; clear M3 b3 ))
  clear e4 h4 HE HN
  have h6' : ((B.r == 4) = false) ∨ ((B.r == 4) = true ∧ (B.e == ep) = false) := by
    by_cases g1 : B.r = 4
    · exact .inr ⟨by simpa using g1, by simp; omega⟩
    · exact .inl (by simpa using g1)
  clear h6
  have zf := (unveil HM2).z.free
  obtain ⟨z0, z1, z2, z3, z4, z5⟩ := (unveil HM2).z.cells
  rcases h6' with g1 | ⟨g1, g2⟩
  all_goals
    go_wp2
    obtain ⟨W4, hW4, d4, b4, _⟩ := b_stored (unveil HM2).z (unveil HM2).bel (show w.heap.size ≤ w.heap.size + 1 by omega) 4 ep fr 0 0 none 0 0
    rw [← hW4]
    exact bodyPost_ret (ret_bBegin d4 rfl rfl) rfl ⟨rfl, b4⟩
end Go.Proofs.YtcdopnkabbfooaaGreat

namespace Go.Proofs.YtcdopnkabbfooaaGreat
open Go.RowKit

/-- a row lies where the old one lay, or in memory that is new since w. -/
def Lies (w : World) (old v : Value) : Prop := ∀ g, v.ownBlock = some g → old.ownBlock = some g ∨ w.heap.size ≤ g
theorem Lies.lower {w w1 : World} {old v : Value} (h : Lies w1 old v) (hs : w.heap.size ≤ w1.heap.size) : Lies w old v := fun g hg => (h g hg).imp id (fun h => Nat.le_trans hs h)
def slLen : Value → Nat
  | .slice _ n _ => n
  | _ => 0
/-- what a deed answers: no berth, or one whose events are the owner's row, where the old ones lay or in new memory; where it has fewer events, nothing was changed. -/
def DeedP (w w' : World) (base : Nat) (old : Value) (x : Ending) (o : Option Bt) : Prop :=
  match o with
  | none => x = .returned (.tuple #[bVal 0 0 0 0 0 none 0 0, .bool false])
  | some D => ∃ a c, x = .returned (.tuple #[bVal D.r D.e D.f D.t D.o a D.es.length c, .bool true]) ∧ w'.ownsRow base 28 6 (.slice a D.es.length c) D.es.length ((evFlat D.es).map (Value.int .i64)) ∧ Lies w old (.slice a D.es.length c) ∧ (D.es.length < slLen old → Below w.heap.size w w')
theorem DeedP.fresh {w w' : World} {base : Nat} {old : Value} {x : Ending} {o : Option Bt} (h : DeedR w' w.heap.size x o) (hb : base ≤ w.heap.size) (bel : Below w.heap.size w w') : DeedP w w' base old x o := by
  cases o with
  | none => exact h
  | some D =>
    obtain ⟨a, c, h1, h2⟩ := h
    exact ⟨a, c, h1, own_lower h2 hb, fun g hg => .inr (h2.lt g hg).1, fun _ => bel⟩
theorem DeedP.lie {w w' : World} {base : Nat} {old : Value} {r e f t o : Int} {a : Option Addr} {n c : Nat} {D : Bt} (h : DeedR w' base (.returned (.tuple #[bVal r e f t o a n c, .bool true])) (some D)) (hl : Lies w old (.slice a n c)) (hn : slLen old ≤ n) : DeedP w w' base old (.returned (.tuple #[bVal r e f t o a n c, .bool true])) (some D) := by
  obtain ⟨a', c', h1, h2⟩ := h
  have h3 := h1
  simp at h3
  obtain ⟨_, _, _, _, _, rfl, hn', rfl⟩ := h3
  refine ⟨a, c, h1, h2, ?_, fun h => by omega⟩
  rw [← hn']
  exact hl
end Go.Proofs.YtcdopnkabbfooaaGreat

namespace Go.Proofs.YtcdopnkabbfooaaGreat
open Go.RowKit

theorem begin_cases {B D : Bt} {ep fr er : Int} (ok : B.bare.Ok) (h : beginOf B.bare ep fr = (D, er)) : (¬ er = 0 ∧ D.es = []) ∨ (D = B.bare ∧ er = 0 ∧ D.e = B.e) ∨ (D = ⟨4, ep, fr, 0, 0, []⟩ ∧ er = 0 ∧ (1 ≤ ep ∧ ep ≤ 1048576) ∧ (0 ≤ fr ∧ fr ≤ 4) ∧ ¬ (B.r = 1 ∨ B.r = 2 ∨ B.r = 3) ∧ ¬ ep ≤ B.e) := by
  unfold beginOf at h
  rw [if_neg (fun g => g ok)] at h
  by_cases g0 : ¬ ((1 ≤ ep ∧ ep ≤ 1048576) ∧ (0 ≤ fr ∧ fr ≤ 4))
  · rw [if_pos g0] at h
    obtain ⟨rfl, rfl⟩ := Prod.mk.inj h
    exact .inl ⟨by decide, rfl⟩
  rw [if_neg g0] at h
  have g0' := Decidable.not_not.1 g0
  by_cases g1 : B.r = 1 ∨ B.r = 2 ∨ B.r = 3
  · rw [if_pos (show B.bare.r = 1 ∨ B.bare.r = 2 ∨ B.bare.r = 3 from g1)] at h
    obtain ⟨rfl, rfl⟩ := Prod.mk.inj h
    exact .inl ⟨by decide, rfl⟩
  rw [if_neg (show ¬ (B.bare.r = 1 ∨ B.bare.r = 2 ∨ B.bare.r = 3) from g1)] at h
  by_cases g2 : B.r = 4 ∧ B.e = ep ∧ B.f = fr
  · rw [if_pos (show B.bare.r = 4 ∧ B.bare.e = ep ∧ B.bare.f = fr from g2)] at h
    obtain ⟨rfl, rfl⟩ := Prod.mk.inj h
    exact .inr (.inl ⟨rfl, rfl, rfl⟩)
  rw [if_neg (show ¬ (B.bare.r = 4 ∧ B.bare.e = ep ∧ B.bare.f = fr) from g2)] at h
  by_cases g3 : ep ≤ B.e
  · rw [if_pos (show ep ≤ B.bare.e from g3)] at h
    obtain ⟨rfl, rfl⟩ := Prod.mk.inj h
    exact .inl ⟨by decide, rfl⟩
  rw [if_neg (show ¬ ep ≤ B.bare.e from g3)] at h
  obtain ⟨rfl, rfl⟩ := Prod.mk.inj h
  exact .inr (.inr ⟨rfl, rfl, g0'.1, g0'.2, g1, g3⟩)
set_option maxRecDepth 20000 in
set_option maxHeartbeats 4000000 in
theorem begin_told (B : Bt) (a : Option Addr) (c : Nat) (r : Rec) (w : World) (base : Nat) (hown : w.ownsRow base 28 6 (.slice a B.es.length c) B.es.length ((evFlat B.es).map (Value.int .i64))) (hs : B.Stand) :
    Calls Tryz.prog 61 #[bVal B.r B.e B.f B.t B.o a B.es.length c, recIn r] w fun x w' => DeedP w w' base (.slice a B.es.length c) x (beginT B r) ∧ Below w.heap.size w w' := by
  obtain ⟨D, er, hD⟩ : ∃ D er, beginOf B.bare r.e r.p = (D, er) := ⟨_, _, rfl⟩
  have ok := bare_okS hs
  have hes : D.es = [] := by
    rcases begin_cases ok hD with h | ⟨rfl, h, _⟩ | ⟨rfl, _⟩
    · exact h.2
    · rfl
    · rfl
  have HB : ∀ w, Calls Tryz.prog 47 #[bVal B.r B.e B.f B.t B.o none 0 0, .int .i64 r.e, .int .i64 r.p] w fun x w' => ∃ a' c', x = .returned (.tuple #[bVal D.r D.e D.f D.t D.o a' 0 c', .int .i64 er]) ∧ (er = 0 → ¬ D.e = B.e → a' = none ∧ c' = 0) ∧ Below w.heap.size w w' := fun w => by
    rcases begin_cases ok hD with ⟨h, _⟩ | ⟨rfl, h0, h⟩ | ⟨rfl, h0, g1, g2, g3, g4⟩
    · refine (bbegin_any B.bare none 0 r.e r.p w ⟨RowK.nil _ _ _, Nat.le_refl _, fun _ => rfl⟩).mono fun x w' ⟨y, B', er', h1, h2, h3, h4⟩ => ?_
      rw [hD] at h2
      obtain ⟨rfl, rfl⟩ := Prod.mk.inj h2
      obtain ⟨a', c', rfl, i3, _⟩ := h3
      rw [hes] at h1
      exact ⟨a', c', h1, fun h' => absurd h' h, h4⟩
    · refine (bbegin_any B.bare none 0 r.e r.p w ⟨RowK.nil _ _ _, Nat.le_refl _, fun _ => rfl⟩).mono fun x w' ⟨y, B', er', h1, h2, h3, h4⟩ => ?_
      rw [hD] at h2
      obtain ⟨rfl, rfl⟩ := Prod.mk.inj h2
      obtain ⟨a', c', rfl, i3, _⟩ := h3
      rw [hes] at h1
      exact ⟨a', c', h1, fun _ h' => absurd rfl h', h4⟩
    · refine (bbegin_new B.bare none 0 r.e r.p w ⟨RowK.nil _ _ _, Nat.le_refl _, fun _ => rfl⟩ ok g1 g2 g3 g4).mono fun x w' ⟨h1, h4⟩ => ?_
      rw [h0]
      exact ⟨none, 0, h1, fun _ _ => ⟨rfl, rfl⟩, h4⟩
  have hT : beginT B r = if er = 0 then some (if D.e = B.e then ⟨D.r, D.e, D.f, D.t, D.o, B.es⟩ else D) else none := by unfold beginT; rw [hD]
  have HT := veil hT
  have HES := veil hes
  clear hD hes hT ok hs
  go_enter Tryz.func61, Tryz.ntmps61
  go_upto_region 1 with fail
  obtain ⟨W1, hW1, M1⟩ := Mr.made w B a c r
  rw [← hW1]
  clear hW1
  obtain ⟨W2, hW2, G2⟩ := Bg.made M1 hown
  obtain ⟨x0, x1, x2, x3, x4, x5⟩ := M1.b.cells
  have xf := M1.b.free
  have HW2 := veil hW2
  have HG2 := veil G2
  clear hW2 G2 M1 hown
  go_upto_region 3 with fail
  rw [← unveil HW2]
  clear HW2 x0 x1 x2 x3 x4 x5 xf
  have hc := HB W2
  obtain ⟨x0, x1, x2, x3, x4, x5⟩ := (unveil HG2).b.cells
  obtain ⟨r0, r1, r2, r3, r4, r5, r6, r7, r8, r9⟩ := (unveil HG2).rc.cells
  clear HB
  go_upto_region 4 with (go_at_call 47; refine hc.mono ?_; rintro x W3 ⟨a', c', rfl, n3, b3⟩; clear hc x0 x1 x2 x3 x4 x5 r0 r1 r2 r3 r4 r5 r6 r7 r8 r9; have HI3 := veil n3; have HG3 := veil ((unveil HG2).next b3); clear n3 b3)
  obtain ⟨W4, hW4, d4, b4⟩ : ∃ W4, W4 = W3.alloc (.cells (bCells D.r D.e D.f D.t D.o a' 0 c') 24) ∧ bBlock W4 W3.heap.size D.r D.e D.f D.t D.o a' 0 c' ∧ Below W3.heap.size W3 W4 := ⟨_, rfl, bBlock.new _ _ _ _ _ _ _ _ _, below1 _ _⟩
  rw [← hW4]
  have G4 := (unveil HG3).next b4
  have hlt : w.heap.size + 2 < W3.heap.size := (unveil HG3).z.lt
  have HG4 := veil G4
  have HD4 := veil d4
  clear hW4 HG3 HG2 G4
  by_cases h0 : er = 0
  case neg =>
    have e1 : (er != 0) = true := by simp [h0]
    have HR : beginT B r = none := by rw [unveil HT, if_neg h0]
    have HRV := veil HR
    obtain ⟨z0, z1, z2, z3, z4, z5⟩ := (unveil HG4).z.cells
    have zf := (unveil HG4).z.free
    clear h0 HR b4 d4
    go_wp2
    obtain ⟨W5, hW5, d5, b5, _⟩ := b_stored (unveil HG4).z (unveil HG4).bel (show w.heap.size ≤ w.heap.size + 2 by omega) 0 0 0 0 0 none 0 0
    rw [← hW5]
    refine bodyPost_ret (ret_begin d5 rfl rfl) rfl ⟨?_, b5⟩
    rw [unveil HRV]
    exact rfl
  case pos =>
  have e1 : (er != 0) = false := by simp [h0]
  have HR : beginT B r = some (if D.e = B.e then ⟨D.r, D.e, D.f, D.t, D.o, B.es⟩ else D) := by rw [unveil HT, if_pos h0]
  have HNN : Hid (¬ D.e = B.e → a' = none ∧ c' = 0) := veil (unveil HI3 h0)
  have HRV := veil HR
  clear h0 HR b4 HI3
  obtain ⟨x0, x1, x2, x3, x4, x5⟩ := (unveil HG4).b.cells
  obtain ⟨k0, k1, k2, k3, k4, k5⟩ := d4.cells
  have kf := d4.free
  clear d4
  by_cases h1 : D.e = B.e
  case neg =>
    have e2 : (D.e == B.e) = false := by simp [h1]
    obtain ⟨rfl, rfl⟩ := unveil HNN h1
    have HD : Hid (beginT B r = some D) := veil (by rw [unveil HRV, if_neg h1])
    obtain ⟨z0, z1, z2, z3, z4, z5⟩ := (unveil HG4).z.cells
    have zf := (unveil HG4).z.free
    clear h1 HNN HRV
    go_wp2
    obtain ⟨W5, hW5, d5, b5, t5⟩ := b_stored (unveil HG4).z (unveil HG4).bel (show w.heap.size ≤ w.heap.size + 2 by omega) D.r D.e D.f D.t D.o none 0 0
    rw [← hW5]
    refine bodyPost_ret (ret_begin d5 rfl rfl) rfl ⟨?_, b5⟩
    rw [unveil HD]
    refine ⟨none, 0, ?_, ?_, (fun g hg => by cases hg), fun _ => b5⟩
    · rw [unveil HES]; rfl
    · rw [unveil HES]; exact World.ownsRow_nil _ _ _ _
  case pos =>
  have e2 : (D.e == B.e) = true := by simp [h1]
  have HD : Hid (beginT B r = some ⟨D.r, D.e, D.f, D.t, D.o, B.es⟩) := veil (by rw [unveil HRV, if_pos h1])
  clear h1 HNN HRV
  go_upto_region 8 with fail
  have hlt' := (unveil HD4).lt
  have t5 := Turned.set W3.heap.size 5 W4 (.slice a B.es.length c)
  obtain ⟨W5, hW5, d5⟩ : ∃ W5, W5 = W4.setCell ⟨W3.heap.size, 5, none⟩ (.slice a B.es.length c) ∧ bBlock W5 W3.heap.size D.r D.e D.f D.t D.o a B.es.length c := by
    refine ⟨_, rfl, ?_⟩
    have := unveil HD4
    unfold bBlock at this ⊢
    rw [heap_setB this]
    simp
  rw [← hW5] at t5 ⊢
  have z5 := (unveil HG4).z.turned t5 (by omega)
  have o5 := t5.owns (unveil HG4).own (own_off (unveil HG4).own (unveil HD4) (by decide))
  have b5 := t5.under (unveil HG4).bel (by omega)
  clear hW5 x0 x1 x2 x3 x4 x5 k0 k1 k2 k3 k4 k5 kf e1 e2
  obtain ⟨k0, k1, k2, k3, k4, k5⟩ := d5.cells
  obtain ⟨z0, z1, z2, z3, z4, z6⟩ := z5.cells
  have zf := z5.free
  have Z5 := veil z5
  have O5 := veil o5
  have B5 := veil b5
  clear d5 z5 o5 b5 t5 HD4 HG4
  go_wp2
  obtain ⟨W6, hW6, d6, b6, t6⟩ := b_stored (unveil Z5) (unveil B5) (show w.heap.size ≤ w.heap.size + 2 by omega) D.r D.e D.f D.t D.o a B.es.length c
  rw [← hW6]
  refine bodyPost_ret (ret_begin d6 rfl rfl) rfl ⟨?_, b6⟩
  rw [unveil HD]
  exact ⟨a, c, rfl, t6.owns (unveil O5) (own_off (unveil O5) (unveil Z5) (by decide)), fun g hg => .inl hg, fun _ => b6⟩
end Go.Proofs.YtcdopnkabbfooaaGreat

namespace Go.Proofs.YtcdopnkabbfooaaGreat
open Go.RowKit

set_option maxRecDepth 20000 in
set_option maxHeartbeats 4000000 in
theorem add_long (B : Bt) (a : Option Addr) (c : Nat) (r : Rec) (w : World) (base : Nat) (hown : w.ownsRow base 28 6 (.slice a B.es.length c) B.es.length ((evFlat B.es).map (Value.int .i64))) (hb : base ≤ w.heap.size) (hs : (B.es.length + 1) * 48 ≤ 140737488355328) :
    Calls Tryz.prog 59 #[bVal B.r B.e B.f B.t B.o a B.es.length c, recIn r] w fun x w' => DeedP w w' base (.slice a B.es.length c) x (some (B.more [r.v])) ∧ w.grownBy w' (Value.slice a B.es.length c).ownBlock := by
  obtain ⟨i6, hi6, hz60, hz61, hz62⟩ := info_of Tryz.infoEvent
  go_enter Tryz.func59, Tryz.ntmps59
  go_upto_region 1 with fail
  obtain ⟨W1, hW1, M1⟩ := Mr.made w B a c r
  rw [← hW1]
  clear hW1
  have hz1 := block_lt M1.z
  have O1 := Ow.made M1 hown
  obtain ⟨x0, x1, x2, x3, x4, x5⟩ := M1.b.cells
  obtain ⟨r0, r1, r2, r3, r4, r5, r6, r7, r8, r9⟩ := M1.rc.cells
  have g1 : B.es.length + 1 ≤ maxLen := by unfold maxLen; omega
  have g2 : (B.es.length + 1) * 48 ≤ 140737488355328 := hs
  have g3 : base ≤ W1.heap.size := by omega
  have g4 := six_news W1 r.v.k r.v.p r.v.i r.v.b r.v.he r.v.hn 28
  have g5 := O1.own.alloc (.cells #[.int .i64 r.v.k, .int .i64 r.v.p, .int .i64 r.v.i, .int .i64 r.v.b, .int .i64 r.v.he, .int .i64 r.v.hn] 28)
  have G1 := veil g1
  have G2 := veil g2
  have G3 := veil g3
  have G4 := veil g4
  have G5 := veil g5
  have HO1 := veil O1
  have HOW := veil hown
  clear g1 g2 g3 g4 g5 M1 O1 hown
  go_upto_region 2 with (at_builtin; refine wpList_append_own_at _ rfl (.tmp 7) (.tmp 10) 22 rfl base 28 i6 _ 6 48 Tryz.underlying22 hi6 hz60 hz61 hz62 rfl (by decide) (.slice a B.es.length c) B.es.length ((evFlat B.es).map (Value.int .i64)) rfl (unveil G5) ⟨W1.heap.size, 0, none⟩ 1 1 ([r.v.k, r.v.p, r.v.i, r.v.b, r.v.he, r.v.hn].map (Value.int .i64)) rfl rfl (unveil G4) (ints_oneCell .i64 _) (unveil G1) (unveil G2) (by have := unveil G3; simp; omega) ?_; intro v2 W2 own2 grow2 _ hat2; obtain ⟨a2, c2, rfl⟩ := own_form own2; have HAT : Hid (Lies w (.slice a B.es.length c) (.slice a2 (B.es.length + 1) c2)) := veil (fun g hg => by rcases hat2 with e | e <;> rw [e] at hg <;> first | exact .inl hg | (cases hg; exact .inr (by simp; omega))); clear hat2; obtain ⟨k2, K2⟩ := (unveil HO1).added (unveil HOW) own2 grow2; clear x0 x1 x2 x3 x4 x5 r0 r1 r2 r3 r4 r5 r6 r7 r8 r9 own2 grow2; have x5 := k2.cells.2.2.2.2.2; have xf := k2.free 5; have HK := veil k2; have HK2 := veil K2; clear k2 K2)
  obtain ⟨W3, hW3, O3⟩ : ∃ W3, W3 = W2.setCell ⟨w.heap.size, 5, none⟩ (.slice a2 (B.es.length + 1) c2) ∧ Ow w W3 base (Value.slice a B.es.length c).ownBlock B.r B.e B.f B.t B.o a2 (B.es.length + 1) c2 (B.es ++ [r.v]) := by
    refine ⟨_, rfl, unveil HK2 _ (Turned.set _ _ _ _) _ _ _ _ _ ?_⟩
    have := unveil HK
    unfold bBlock at this ⊢
    rw [heap_setB this]
    simp
  rw [← hW3]
  clear hW3 x5 xf HK HK2
  obtain ⟨W4, hW4, d4, D4, b4⟩ := O3.out
  obtain ⟨y0, y1, y2, y3, y4, y5⟩ := O3.b.cells
  obtain ⟨z0, z1, z2, z3, z4, z5⟩ := O3.z.cells
  have zf := O3.z.free
  have D5 := veil (D4 (by simp))
  have HB4 := veil b4
  have HD4 := veil d4
  have HW4 := veil hW4
  clear hW4 d4 D4 b4 O3 HO1 HOW G1 G2 G3 G4 G5
  go_wp2
  rw [← unveil HW4]
  exact bodyPost_ret (ret_add (unveil HD4) rfl rfl) rfl ⟨DeedP.lie (unveil D5) (unveil HAT) (by simp [slLen]), unveil HB4⟩
set_option maxRecDepth 20000 in
set_option maxHeartbeats 4000000 in
theorem activate_long (B : Bt) (a : Option Addr) (c : Nat) (r : Rec) (w : World) (base : Nat) (hown : w.ownsRow base 28 6 (.slice a B.es.length c) B.es.length ((evFlat B.es).map (Value.int .i64))) (hb : base ≤ w.heap.size) (hs : (B.es.length + 1) * 48 ≤ 140737488355328) :
    Calls Tryz.prog 62 #[bVal B.r B.e B.f B.t B.o a B.es.length c, recIn r] w fun x w' => DeedP w w' base (.slice a B.es.length c) x (some ⟨1, B.e, 0, B.t, B.o, B.es ++ [Ev.brk]⟩) ∧ w.grownBy w' (Value.slice a B.es.length c).ownBlock := by
  obtain ⟨i6, hi6, hz60, hz61, hz62⟩ := info_of Tryz.infoEvent
  go_enter Tryz.func62, Tryz.ntmps62
  go_upto_region 1 with fail
  obtain ⟨W0, hW0, M0⟩ := Mr.made w B a c r
  rw [← hW0]
  clear hW0
  have O0 := Ow.made M0 hown
  obtain ⟨x0, x1, x2, x3, x4, x5⟩ := M0.b.cells
  have xf := M0.b.free
  have HO0 := veil O0
  have HOW := veil hown
  clear M0 O0 hown
  go_upto_region 2 with fail
  obtain ⟨W1, hW1, O1⟩ : ∃ W1, W1 = (W0.setCell ⟨w.heap.size, 0, none⟩ (.int .i64 1)).setCell ⟨w.heap.size, 2, none⟩ (.int .i64 0) ∧ Ow w W1 base (Value.slice a B.es.length c).ownBlock 1 B.e 0 B.t B.o a B.es.length c B.es := by
    refine ⟨_, rfl, (unveil HO0).turned ((Turned.set _ _ _ _).trans (Turned.set _ _ _ _)) ?_⟩
    have := (unveil HO0).b
    unfold bBlock at this ⊢
    rw [heap_setB (heap_setB this)]
    simp
  rw [← hW1]
  clear hW1 x0 x1 x2 x3 x4 x5 xf HO0
  have hz1 := O1.z.lt
  obtain ⟨x0, x1, x2, x3, x4, x5⟩ := O1.b.cells
  have g1 : B.es.length + 1 ≤ maxLen := by unfold maxLen; omega
  have g2 : (B.es.length + 1) * 48 ≤ 140737488355328 := hs
  have g3 : base ≤ W1.heap.size := by omega
  have g4 := six_news W1 4 0 0 0 0 0 28
  have g5 := O1.own.alloc (.cells #[.int .i64 4, .int .i64 0, .int .i64 0, .int .i64 0, .int .i64 0, .int .i64 0] 28)
  have G1 := veil g1
  have G2 := veil g2
  have G3 := veil g3
  have G4 := veil g4
  have G5 := veil g5
  have HO1 := veil O1
  clear g1 g2 g3 g4 g5 O1
  go_upto_region 3 with (at_builtin; refine wpList_append_own_at _ rfl (.tmp 9) (.tmp 11) 22 rfl base 28 i6 _ 6 48 Tryz.underlying22 hi6 hz60 hz61 hz62 rfl (by decide) (.slice a B.es.length c) B.es.length ((evFlat B.es).map (Value.int .i64)) rfl (unveil G5) ⟨W1.heap.size, 0, none⟩ 1 1 ([4, 0, 0, 0, 0, 0].map (Value.int .i64)) rfl rfl (unveil G4) (ints_oneCell .i64 _) (unveil G1) (unveil G2) (by have := unveil G3; simp; omega) ?_; intro v2 W2 own2 grow2 _ hat2; obtain ⟨a2, c2, rfl⟩ := own_form own2; have HAT : Hid (Lies w (.slice a B.es.length c) (.slice a2 (B.es.length + 1) c2)) := veil (fun g hg => by rcases hat2 with e | e <;> rw [e] at hg <;> first | exact .inl hg | (cases hg; exact .inr (by simp; omega))); clear hat2; obtain ⟨k2, K2⟩ := (unveil HO1).added (x := Ev.brk) (unveil HOW) own2 grow2; clear x0 x1 x2 x3 x4 x5 own2 grow2; have x5 := k2.cells.2.2.2.2.2; have xf := k2.free 5; have HK := veil k2; have HK2 := veil K2; clear k2 K2)
  obtain ⟨W3, hW3, O3⟩ : ∃ W3, W3 = W2.setCell ⟨w.heap.size, 5, none⟩ (.slice a2 (B.es.length + 1) c2) ∧ Ow w W3 base (Value.slice a B.es.length c).ownBlock 1 B.e 0 B.t B.o a2 (B.es.length + 1) c2 (B.es ++ [Ev.brk]) := by
    refine ⟨_, rfl, unveil HK2 _ (Turned.set _ _ _ _) _ _ _ _ _ ?_⟩
    have := unveil HK
    unfold bBlock at this ⊢
    rw [heap_setB this]
    simp
  rw [← hW3]
  clear hW3 x5 xf HK HK2
  obtain ⟨W4, hW4, d4, D4, b4⟩ := O3.out
  obtain ⟨y0, y1, y2, y3, y4, y5⟩ := O3.b.cells
  obtain ⟨z0, z1, z2, z3, z4, z5⟩ := O3.z.cells
  have zf := O3.z.free
  have D5 := veil (D4 (by simp))
  have HB4 := veil b4
  have HD4 := veil d4
  have HW4 := veil hW4
  clear hW4 d4 D4 b4 O3 HO1 HOW G1 G2 G3 G4 G5
  go_wp2
  rw [← unveil HW4]
  exact bodyPost_ret (ret_activate (unveil HD4) rfl rfl) rfl ⟨DeedP.lie (unveil D5) (unveil HAT) (by simp [slLen]), unveil HB4⟩
set_option maxRecDepth 20000 in
set_option maxHeartbeats 4000000 in
theorem seal_long (B : Bt) (a : Option Addr) (c : Nat) (r : Rec) (w : World) (base : Nat) (hown : w.ownsRow base 28 6 (.slice a B.es.length c) B.es.length ((evFlat B.es).map (Value.int .i64))) :
    Calls Tryz.prog 60 #[bVal B.r B.e B.f B.t B.o a B.es.length c, recIn r] w fun x w' => DeedP w w' base (.slice a B.es.length c) x (some ⟨3, B.e, B.f, r.p, B.o, B.es⟩) ∧ w.grownBy w' (Value.slice a B.es.length c).ownBlock := by
  go_enter Tryz.func60, Tryz.ntmps60
  go_upto_region 1 with fail
  obtain ⟨W0, hW0, M0⟩ := Mr.made w B a c r
  rw [← hW0]
  clear hW0
  have O0 := Ow.made M0 hown
  obtain ⟨x0, x1, x2, x3, x4, x5⟩ := M0.b.cells
  obtain ⟨r0, r1, r2, r3, r4, r5, r6, r7, r8, r9⟩ := M0.rc.cells
  have xf := M0.b.free
  have HO0 := veil O0
  clear M0 O0 hown
  go_region
  obtain ⟨W3, hW3, O3⟩ : ∃ W3, W3 = ((W0.setCell ⟨w.heap.size, 0, none⟩ (.int .i64 3)).setCell ⟨w.heap.size, 3, none⟩ (.int .i64 r.p)).drew ∧ Ow w W3 base (Value.slice a B.es.length c).ownBlock 3 B.e B.f r.p B.o a B.es.length c B.es := by
    refine ⟨_, rfl, (unveil HO0).turned (((Turned.set _ _ _ _).trans (Turned.set _ _ _ _)).trans (Turned.drawn _ _)) ?_⟩
    have := (unveil HO0).b
    unfold bBlock at this ⊢
    show ((W0.setCell ⟨w.heap.size, 0, none⟩ (.int .i64 3)).setCell ⟨w.heap.size, 3, none⟩ (.int .i64 r.p)).heap[w.heap.size]? = _
    rw [heap_setB (heap_setB this)]
    simp
  rw [← hW3]
  clear hW3 x0 x1 x2 x3 x4 x5 r0 r1 r2 r3 r4 r5 r6 r7 r8 r9 xf HO0
  obtain ⟨W4, hW4, d4, D4, b4⟩ := O3.out
  obtain ⟨y0, y1, y2, y3, y4, y5⟩ := O3.b.cells
  obtain ⟨z0, z1, z2, z3, z4, z5⟩ := O3.z.cells
  have zf := O3.z.free
  have D5 := veil (D4 rfl)
  have HB4 := veil b4
  have HD4 := veil d4
  have HW4 := veil hW4
  clear hW4 d4 D4 b4 O3
  go_wp2
  rw [← unveil HW4]
  exact bodyPost_ret (ret_seal (unveil HD4) rfl rfl) rfl ⟨DeedP.lie (unveil D5) (fun g hg => .inl hg) (by simp [slLen]), unveil HB4⟩
end Go.Proofs.YtcdopnkabbfooaaGreat

namespace Go.Proofs.YtcdopnkabbfooaaGreat
open Go.RowKit

theorem DeedP.parts {w w' : World} {base : Nat} {old : Value} {x : Ending} {o : Option Bt} (h : DeedP w w' base old x o) : ∃ a c, x = .returned (.tuple #[bVal (optB o).r (optB o).e (optB o).f (optB o).t (optB o).o a (optB o).es.length c, .bool o.isSome]) ∧ w'.ownsRow base 28 6 (.slice a (optB o).es.length c) (optB o).es.length ((evFlat (optB o).es).map (Value.int .i64)) ∧ (o = none → a = none ∧ c = 0) ∧ Lies w old (.slice a (optB o).es.length c) ∧ (o.isSome = true → (optB o).es.length < slLen old → Below w.heap.size w w') := by
  cases o with
  | none => exact ⟨none, 0, h, World.ownsRow_nil _ _ _ _, fun _ => ⟨rfl, rfl⟩, (fun g hg => by cases hg), fun h => by cases h⟩
  | some D => obtain ⟨a, c, h1, h2, h3, h4⟩ := h; exact ⟨a, c, h1, h2, (fun h => by cases h), h3, fun _ => h4⟩
theorem DeedP.of {w w' : World} {base : Nat} {old : Value} {o : Option Bt} {a : Option Addr} {c : Nat} (h : w'.ownsRow base 28 6 (.slice a (optB o).es.length c) (optB o).es.length ((evFlat (optB o).es).map (Value.int .i64))) (hn : o = none → a = none ∧ c = 0) (hl : Lies w old (.slice a (optB o).es.length c)) (hb : o.isSome = true → (optB o).es.length < slLen old → Below w.heap.size w w') : DeedP w w' base old (.returned (.tuple #[bVal (optB o).r (optB o).e (optB o).f (optB o).t (optB o).o a (optB o).es.length c, .bool o.isSome])) o := by
  cases o with
  | none => obtain ⟨rfl, rfl⟩ := hn rfl; rfl
  | some D => exact ⟨a, c, rfl, h, hl, hb rfl⟩
set_option maxRecDepth 20000 in
set_option maxHeartbeats 4000000 in
theorem asf_deedR (B : Bt) (base : Nat) (a : Option Addr) (c : Nat) (r : Rec) (w : World) (P Q N : Nat) (role : Int) (o : Option Bt) (hP : w.cell? ⟨P, 0, none⟩ = some (.int .i64 role)) (hQ : w.cell? ⟨Q, 0, none⟩ = some (.func (.func N) #[] #[])) (hr : ∀ k, (Value.slice a B.es.length c).ownBlock = some k → k < w.heap.size)
    (heg : ∀ args w, (callFunc N args).run Tryz.prog w = .ok (.enter N args) w)
    (HN : ∀ W, Below w.heap.size w W → Calls Tryz.prog N #[bVal B.r B.e B.f B.t B.o a B.es.length c, recIn r] W fun x w' => DeedP W w' base (.slice a B.es.length c) x o ∧ W.grownBy w' (Value.slice a B.es.length c).ownBlock) :
    Calls Tryz.prog 78 #[bVal B.r B.e B.f B.t B.o a B.es.length c, recIn r, .pointer (some ⟨P, 0, none⟩), .pointer (some ⟨Q, 0, none⟩)] w fun x w' => DeedP w w' base (.slice a B.es.length c) x (asD B r role o) ∧ w.grownBy w' (Value.slice a B.es.length c).ownBlock := by
  have lP := World.block_lt_of_cell? w _ hP
  have lQ := World.block_lt_of_cell? w _ hQ
  have HNV := veil HN
  have HR := veil hr
  clear HN hr
  go_enter Tryz.func78, Tryz.ntmps78
  go_upto_region 1 with fail
  obtain ⟨W1, hW1, M1⟩ := Mr.made w B a c r
  rw [← hW1]
  clear hW1
  have p1 : W1.cell? ⟨P, 0, none⟩ = some (.int .i64 role) := (M1.bel.cell (p := ⟨P, 0, none⟩) lP).trans hP
  have q1 : W1.cell? ⟨Q, 0, none⟩ = some (.func (.func N) #[] #[]) := (M1.bel.cell (p := ⟨Q, 0, none⟩) lQ).trans hQ
  obtain ⟨x0, x1, x2, x3, x4, x5⟩ := M1.b.cells
  obtain ⟨r0, r1, r2, r3, r4, r5, r6, r7, r8, r9⟩ := M1.rc.cells
  have HM := veil M1
  clear M1 hP hQ lP lQ
  by_cases h : B.r = role ∧ B.e = r.e
  case neg =>
    have hd : asD B r role o = none := if_neg h
    have HD := veil hd
    obtain ⟨z0, z1, z2, z3, z4, z5⟩ := (unveil HM).z.cells
    have zf := (unveil HM).z.free
    have e0 : (B.r != role) = true ∨ ((B.r != role) = false ∧ (B.e != r.e) = true) := by
      by_cases h1 : B.r = role
      · exact .inr ⟨by simp [h1], by simp; exact fun h2 => h ⟨h1, h2⟩⟩
      · exact .inl (by simp [h1])
    clear h hd
    rcases e0 with e1 | ⟨e1, e2⟩
    all_goals
      go_wp2
      obtain ⟨W4, hW4, d4, b4, _⟩ := b_stored (unveil HM).z (unveil HM).bel (show w.heap.size ≤ w.heap.size + 2 by omega) 0 0 0 0 0 none 0 0
      rw [← hW4]
      refine bodyPost_ret (ret_asf d4 rfl rfl) rfl ⟨?_, below_grows _ b4⟩
      rw [unveil HD]
      exact rfl
  case pos =>
  have hd : asD B r role o = o := if_pos h
  have HD := veil hd
  have e1 : (B.r != role) = false := by simp [h.1]
  have e2 : (B.e != r.e) = false := by simp [h.2]
  clear h hd
  go_wp2_with (go_at_fn N; refine (unveil HNV _ (unveil HM).bel).mono ?_; rintro x W3 ⟨d3, g3⟩; obtain ⟨a3, c3, rfl, i3, n3, l3, f3⟩ := d3.parts; have HL3 := veil l3; have HF3 := veil f3; have zb := (unveil HM).grown g3 (unveil HR); have zf := zb.free; obtain ⟨z0, z1, z2, z3, z4, z5⟩ := zb.cells; have HZ := veil zb; have HI := veil i3; have HN3 := veil n3; have HG3 := veil (grows_trans (below_grows _ (unveil HM).bel) g3); clear d3 g3 zb i3 n3 l3 f3 x0 x1 x2 x3 x4 x5 r0 r1 r2 r3 r4 r5 r6 r7 r8 r9 p1 q1)
  obtain ⟨W4, hW4, d4, _, t4⟩ := b_stored (unveil HZ) (Below.refl _ _) (Nat.le_refl _) (optB o).r (optB o).e (optB o).f (optB o).t (optB o).o a3 (optB o).es.length c3
  rw [← hW4]
  refine bodyPost_ret (ret_asf d4 rfl rfl) rfl ⟨?_, grows_turned (unveil HG3) t4 (by omega)⟩
  rw [unveil HD]
  exact DeedP.of (t4.owns (unveil HI) (own_off (unveil HI) (unveil HZ) (by decide))) (unveil HN3) ((unveil HL3).lower (unveil HM).bel.size) (fun h1 h2 => t4.under (Below.next (unveil HM).bel (unveil HF3 h1 h2)) (by omega))
set_option maxRecDepth 20000 in
set_option maxHeartbeats 4000000 in
theorem alonef_deedR (B : Bt) (base : Nat) (a : Option Addr) (c : Nat) (r : Rec) (w : World) (Q N : Nat) (o : Option Bt) (hQ : w.cell? ⟨Q, 0, none⟩ = some (.func (.func N) #[] #[])) (hr : ∀ k, (Value.slice a B.es.length c).ownBlock = some k → k < w.heap.size)
    (heg : ∀ args w, (callFunc N args).run Tryz.prog w = .ok (.enter N args) w)
    (HN : ∀ W, Below w.heap.size w W → Calls Tryz.prog N #[bVal B.r B.e B.f B.t B.o a B.es.length c, recIn r] W fun x w' => DeedP W w' base (.slice a B.es.length c) x o ∧ W.grownBy w' (Value.slice a B.es.length c).ownBlock) :
    Calls Tryz.prog 77 #[bVal B.r B.e B.f B.t B.o a B.es.length c, recIn r, .pointer (some ⟨Q, 0, none⟩)] w fun x w' => DeedP w w' base (.slice a B.es.length c) x (aloneD r o) ∧ w.grownBy w' (Value.slice a B.es.length c).ownBlock := by
  have lQ := World.block_lt_of_cell? w _ hQ
  have HNV := veil HN
  have HR := veil hr
  clear HN hr
  go_enter Tryz.func77, Tryz.ntmps77
  go_upto_region 1 with fail
  obtain ⟨W1, hW1, M1⟩ := Mr.made w B a c r
  rw [← hW1]
  clear hW1
  have q1 : W1.cell? ⟨Q, 0, none⟩ = some (.func (.func N) #[] #[]) := (M1.bel.cell (p := ⟨Q, 0, none⟩) lQ).trans hQ
  obtain ⟨x0, x1, x2, x3, x4, x5⟩ := M1.b.cells
  obtain ⟨r0, r1, r2, r3, r4, r5, r6, r7, r8, r9⟩ := M1.rc.cells
  have HM := veil M1
  clear M1 hQ lQ
  by_cases h : r.p = 0
  case neg =>
    have hd : aloneD r o = none := if_neg h
    have HD := veil hd
    obtain ⟨z0, z1, z2, z3, z4, z5⟩ := (unveil HM).z.cells
    have zf := (unveil HM).z.free
    have e1 : (r.p != 0) = true := by simp [h]
    clear h hd
    go_wp2
    obtain ⟨W4, hW4, d4, b4, _⟩ := b_stored (unveil HM).z (unveil HM).bel (show w.heap.size ≤ w.heap.size + 2 by omega) 0 0 0 0 0 none 0 0
    rw [← hW4]
    refine bodyPost_ret (ret_alonef d4 rfl rfl) rfl ⟨?_, below_grows _ b4⟩
    rw [unveil HD]
    exact rfl
  case pos =>
  have hd : aloneD r o = o := if_pos h
  have HD := veil hd
  have e1 : (r.p != 0) = false := by simp [h]
  clear h hd
  go_wp2_with (go_at_fn N; refine (unveil HNV _ (unveil HM).bel).mono ?_; rintro x W3 ⟨d3, g3⟩; obtain ⟨a3, c3, rfl, i3, n3, l3, f3⟩ := d3.parts; have HL3 := veil l3; have HF3 := veil f3; have zb := (unveil HM).grown g3 (unveil HR); have zf := zb.free; obtain ⟨z0, z1, z2, z3, z4, z5⟩ := zb.cells; have HZ := veil zb; have HI := veil i3; have HN3 := veil n3; have HG3 := veil (grows_trans (below_grows _ (unveil HM).bel) g3); clear d3 g3 zb i3 n3 l3 f3 x0 x1 x2 x3 x4 x5 r0 r1 r2 r3 r4 r5 r6 r7 r8 r9 q1)
  obtain ⟨W4, hW4, d4, _, t4⟩ := b_stored (unveil HZ) (Below.refl _ _) (Nat.le_refl _) (optB o).r (optB o).e (optB o).f (optB o).t (optB o).o a3 (optB o).es.length c3
  rw [← hW4]
  refine bodyPost_ret (ret_alonef d4 rfl rfl) rfl ⟨?_, grows_turned (unveil HG3) t4 (by omega)⟩
  rw [unveil HD]
  exact DeedP.of (t4.owns (unveil HI) (own_off (unveil HI) (unveil HZ) (by decide))) (unveil HN3) ((unveil HL3).lower (unveil HM).bel.size) (fun h1 h2 => t4.under (Below.next (unveil HM).bel (unveil HF3 h1 h2)) (by omega))
set_option maxRecDepth 20000 in
set_option maxHeartbeats 4000000 in
theorem alonef_asR (B : Bt) (base : Nat) (a : Option Addr) (c : Nat) (r : Rec) (w : World) (Q N P1 P2 : Nat) (o : Option Bt) (hQ : w.cell? ⟨Q, 0, none⟩ = some (.func (.func N) #[] #[.pointer (some ⟨P1, 0, none⟩), .pointer (some ⟨P2, 0, none⟩)])) (hr : ∀ k, (Value.slice a B.es.length c).ownBlock = some k → k < w.heap.size)
    (heg : ∀ args w, (callFunc N args).run Tryz.prog w = .ok (.enter N args) w)
    (HN : ∀ W, Below w.heap.size w W → Calls Tryz.prog N #[bVal B.r B.e B.f B.t B.o a B.es.length c, recIn r, .pointer (some ⟨P1, 0, none⟩), .pointer (some ⟨P2, 0, none⟩)] W fun x w' => DeedP W w' base (.slice a B.es.length c) x o ∧ W.grownBy w' (Value.slice a B.es.length c).ownBlock) :
    Calls Tryz.prog 77 #[bVal B.r B.e B.f B.t B.o a B.es.length c, recIn r, .pointer (some ⟨Q, 0, none⟩)] w fun x w' => DeedP w w' base (.slice a B.es.length c) x (aloneD r o) ∧ w.grownBy w' (Value.slice a B.es.length c).ownBlock := by
  have lQ := World.block_lt_of_cell? w _ hQ
  have HNV := veil HN
  have HR := veil hr
  clear HN hr
  go_enter Tryz.func77, Tryz.ntmps77
  go_upto_region 1 with fail
  obtain ⟨W1, hW1, M1⟩ := Mr.made w B a c r
  rw [← hW1]
  clear hW1
  have q1 : W1.cell? ⟨Q, 0, none⟩ = some (.func (.func N) #[] #[.pointer (some ⟨P1, 0, none⟩), .pointer (some ⟨P2, 0, none⟩)]) := (M1.bel.cell (p := ⟨Q, 0, none⟩) lQ).trans hQ
  obtain ⟨x0, x1, x2, x3, x4, x5⟩ := M1.b.cells
  obtain ⟨r0, r1, r2, r3, r4, r5, r6, r7, r8, r9⟩ := M1.rc.cells
  have HM := veil M1
  clear M1 hQ lQ
  by_cases h : r.p = 0
  case neg =>
    have hd : aloneD r o = none := if_neg h
    have HD := veil hd
    obtain ⟨z0, z1, z2, z3, z4, z5⟩ := (unveil HM).z.cells
    have zf := (unveil HM).z.free
    have e1 : (r.p != 0) = true := by simp [h]
    clear h hd
    go_wp2
    obtain ⟨W4, hW4, d4, b4, _⟩ := b_stored (unveil HM).z (unveil HM).bel (show w.heap.size ≤ w.heap.size + 2 by omega) 0 0 0 0 0 none 0 0
    rw [← hW4]
    refine bodyPost_ret (ret_alonef d4 rfl rfl) rfl ⟨?_, below_grows _ b4⟩
    rw [unveil HD]
    exact rfl
  case pos =>
  have hd : aloneD r o = o := if_pos h
  have HD := veil hd
  have e1 : (r.p != 0) = false := by simp [h]
  clear h hd
  go_wp2_with (go_at_fn N; refine (unveil HNV _ (unveil HM).bel).mono ?_; rintro x W3 ⟨d3, g3⟩; obtain ⟨a3, c3, rfl, i3, n3, l3, f3⟩ := d3.parts; have HL3 := veil l3; have HF3 := veil f3; have zb := (unveil HM).grown g3 (unveil HR); have zf := zb.free; obtain ⟨z0, z1, z2, z3, z4, z5⟩ := zb.cells; have HZ := veil zb; have HI := veil i3; have HN3 := veil n3; have HG3 := veil (grows_trans (below_grows _ (unveil HM).bel) g3); clear d3 g3 zb i3 n3 l3 f3 x0 x1 x2 x3 x4 x5 r0 r1 r2 r3 r4 r5 r6 r7 r8 r9 q1)
  obtain ⟨W4, hW4, d4, _, t4⟩ := b_stored (unveil HZ) (Below.refl _ _) (Nat.le_refl _) (optB o).r (optB o).e (optB o).f (optB o).t (optB o).o a3 (optB o).es.length c3
  rw [← hW4]
  refine bodyPost_ret (ret_alonef d4 rfl rfl) rfl ⟨?_, grows_turned (unveil HG3) t4 (by omega)⟩
  rw [unveil HD]
  exact DeedP.of (t4.owns (unveil HI) (own_off (unveil HI) (unveil HZ) (by decide))) (unveil HN3) ((unveil HL3).lower (unveil HM).bel.size) (fun h1 h2 => t4.under (Below.next (unveil HM).bel (unveil HF3 h1 h2)) (by omega))
/-- as Doer and Plain, with the owner's row. -/
def DoerR (w : World) (base : Nat) (v : Value) (B : Bt) (a : Option Addr) (c : Nat) (r : Rec) (o : Option Bt) : Prop := ∃ g cap, v = .func (.func g) #[] cap ∧ (∀ args w, (callFunc g args).run Tryz.prog w = .ok (.enter g args) w) ∧
  ∀ W, Below w.heap.size w W → Calls Tryz.prog g (#[bVal B.r B.e B.f B.t B.o a B.es.length c, recIn r] ++ cap) W fun x w' => DeedP W w' base (.slice a B.es.length c) x o ∧ W.grownBy w' (Value.slice a B.es.length c).ownBlock
def PlainR (w : World) (base : Nat) (N : Nat) (B : Bt) (a : Option Addr) (c : Nat) (r : Rec) (o : Option Bt) : Prop := (∀ args w, (callFunc N args).run Tryz.prog w = .ok (.enter N args) w) ∧
  ∀ W, Below w.heap.size w W → Calls Tryz.prog N #[bVal B.r B.e B.f B.t B.o a B.es.length c, recIn r] W fun x w' => DeedP W w' base (.slice a B.es.length c) x o ∧ W.grownBy w' (Value.slice a B.es.length c).ownBlock
section
variable {w : World} {B : Bt} {a : Option Addr} {c base : Nat} {r : Rec}
theorem plainR_create (hb : base ≤ w.heap.size) : PlainR w base 57 B a c r (createOf B r) :=
  ⟨enters_of Tryz.func57 (by kernel_rfl) rfl, fun W b => (create_deed B a c r W).mono fun x w' ⟨h1, h2⟩ => ⟨DeedP.fresh h1 (Nat.le_trans hb b.size) h2, below_grows _ h2⟩⟩
theorem plainR_forget (hb : base ≤ w.heap.size) : PlainR w base 63 B a c r (some (forgetD B)) :=
  ⟨enters_of Tryz.func63 (by kernel_rfl) rfl, fun W b => (forget_deed B a c r W).mono fun x w' ⟨h1, h2⟩ => ⟨DeedP.fresh h1 (Nat.le_trans hb b.size) h2, below_grows _ h2⟩⟩
theorem plainR_add (hown : w.ownsRow base 28 6 (.slice a B.es.length c) B.es.length ((evFlat B.es).map (Value.int .i64))) (hb : base ≤ w.heap.size) (hs : (B.es.length + 1) * 48 ≤ 140737488355328) : PlainR w base 59 B a c r (some (B.more [r.v])) :=
  ⟨enters_of Tryz.func59 (by kernel_rfl) rfl, fun W b => add_long B a c r W base (below_still hown b) (Nat.le_trans hb b.size) hs⟩
theorem plainR_activate (hown : w.ownsRow base 28 6 (.slice a B.es.length c) B.es.length ((evFlat B.es).map (Value.int .i64))) (hb : base ≤ w.heap.size) (hs : (B.es.length + 1) * 48 ≤ 140737488355328) : PlainR w base 62 B a c r (some ⟨1, B.e, 0, B.t, B.o, B.es ++ [Ev.brk]⟩) :=
  ⟨enters_of Tryz.func62 (by kernel_rfl) rfl, fun W b => activate_long B a c r W base (below_still hown b) (Nat.le_trans hb b.size) hs⟩
theorem plainR_seal (hown : w.ownsRow base 28 6 (.slice a B.es.length c) B.es.length ((evFlat B.es).map (Value.int .i64))) : PlainR w base 60 B a c r (some ⟨3, B.e, B.f, r.p, B.o, B.es⟩) :=
  ⟨enters_of Tryz.func60 (by kernel_rfl) rfl, fun W b => seal_long B a c r W base (below_still hown b)⟩
theorem plainR_begin (hown : w.ownsRow base 28 6 (.slice a B.es.length c) B.es.length ((evFlat B.es).map (Value.int .i64))) (hs : B.Stand) : PlainR w base 61 B a c r (beginT B r) :=
  ⟨enters_of Tryz.func61 (by kernel_rfl) rfl, fun W b => (begin_told B a c r W base (below_still hown b) hs).mono fun x w' ⟨h1, h2⟩ => ⟨h1, below_grows _ h2⟩⟩
theorem PlainR.doer {N : Nat} {o : Option Bt} (h : PlainR w base N B a c r o) : DoerR w base (.func (.func N) #[] #[]) B a c r o := ⟨N, #[], rfl, h.1, h.2⟩
theorem doerR_al {v : Value} {N : Nat} {o : Option Bt} (hv : IsAl w v N) (h : PlainR w base N B a c r o) (hr : ∀ k, (Value.slice a B.es.length c).ownBlock = some k → k < w.heap.size) : DoerR w base v B a c r (aloneD r o) := by
  obtain ⟨Q, rfl, hq⟩ := hv
  exact ⟨_, _, rfl, enters_of Tryz.func77 (by kernel_rfl) rfl, fun W b => alonef_deedR B base a c r W Q N o (keeps_below b _ _ hq) (fun k hk => Nat.lt_of_lt_of_le (hr k hk) b.size) h.1 (fun W' b' => h.2 W' (below_far b b'))⟩
theorem doerR_as {v : Value} {N : Nat} {role : Int} {o : Option Bt} (hv : IsAs w v role N) (h : PlainR w base N B a c r o) (hr : ∀ k, (Value.slice a B.es.length c).ownBlock = some k → k < w.heap.size) : DoerR w base v B a c r (asD B r role o) := by
  obtain ⟨P, Q, rfl, hp, hq⟩ := hv
  exact ⟨_, _, rfl, enters_of Tryz.func78 (by kernel_rfl) rfl, fun W b => asf_deedR B base a c r W P Q N role o (keeps_below b _ _ hp) (keeps_below b _ _ hq) (fun k hk => Nat.lt_of_lt_of_le (hr k hk) b.size) h.1 (fun W' b' => h.2 W' (below_far b b'))⟩
theorem doerR_aa {v : Value} {N : Nat} {role : Int} {o : Option Bt} (hv : IsAA w v role N) (h : PlainR w base N B a c r o) (hr : ∀ k, (Value.slice a B.es.length c).ownBlock = some k → k < w.heap.size) : DoerR w base v B a c r (aloneD r (asD B r role o)) := by
  obtain ⟨Q, u, rfl, hq, P1, P2, rfl, hp1, hp2⟩ := hv
  exact ⟨_, _, rfl, enters_of Tryz.func77 (by kernel_rfl) rfl, fun W b => alonef_asR B base a c r W Q 78 P1 P2 _ (keeps_below b _ _ hq) (fun k hk => Nat.lt_of_lt_of_le (hr k hk) b.size) (enters_of Tryz.func78 (by kernel_rfl) rfl)
    (fun W' b' => asf_deedR B base a c r W' P1 P2 N role o (keeps_below (below_far b b') _ _ hp1) (keeps_below (below_far b b') _ _ hp2) (fun k hk => Nat.lt_of_lt_of_le (hr k hk) (below_far b b').size) h.1 (fun W'' b'' => h.2 W'' (below_far (below_far b b') b'')))⟩
/-- the function that the table has for a record. -/
theorem Table.doerR {M : Nat} {v1 v2 v3 v5 v6 v7 : Value} (t : Table w M v1 v2 v3 v5 v6 v7) (hown : w.ownsRow base 28 6 (.slice a B.es.length c) B.es.length ((evFlat B.es).map (Value.int .i64))) (hb : base ≤ w.heap.size) (hs : B.Stand) (hlen : (B.es.length + 1) * 48 ≤ 140737488355328) (hk : r.k = 1 ∨ r.k = 2 ∨ r.k = 3 ∨ r.k = 4 ∨ r.k = 5 ∨ r.k = 6 ∨ r.k = 7) :
    ∃ v, (Instr.lookup 64 (.map (some M)) (.int .i64 r.k) false).run Tryz.prog w = .ok v w ∧ DoerR w base v B a c r (deedT B r) := by
  obtain ⟨l1, l2, l3, l4, l5, l6, l7⟩ := run_deedAt t
  have hr : ∀ k, (Value.slice a B.es.length c).ownBlock = some k → k < w.heap.size := fun k hk => (hown.lt k hk).2
  rcases hk with e | e | e | e | e | e | e <;> rw [e]
  · refine ⟨_, l1, ?_⟩
    have : deedT B r = aloneD r (createOf B r) := by unfold deedT; rw [if_neg (by omega)]; unfold deedOf aloneD createOf; rw [if_pos e]; by_cases g : r.p = 0 <;> simp [g]
    rw [this]
    exact doerR_al t.d1 (plainR_create hb) hr
  · refine ⟨_, l2, ?_⟩
    have : deedT B r = aloneD r (asD B r 1 (some (B.more [r.v]))) := by unfold deedT; rw [if_neg (by omega)]; unfold deedOf aloneD asD; rw [if_neg (by omega), if_pos e]; by_cases g : r.p = 0 <;> by_cases g1 : B.e = r.e <;> by_cases g2 : B.r = 1 <;> simp [g, g1, g2]
    rw [this]
    exact doerR_aa t.d2 (plainR_add hown hb hlen) hr
  · refine ⟨_, l3, ?_⟩
    have : deedT B r = asD B r 1 (some ⟨3, B.e, B.f, r.p, B.o, B.es⟩) := by unfold deedT; rw [if_neg (by omega)]; unfold deedOf asD; rw [if_neg (by omega), if_neg (by omega), if_pos e]; by_cases g1 : B.e = r.e <;> by_cases g2 : B.r = 1 <;> simp [g1, g2]
    rw [this]
    exact doerR_as t.d3 (plainR_seal hown) hr
  · refine ⟨_, l4, ?_⟩
    have : deedT B r = beginT B r := by unfold deedT; rw [if_pos e]
    rw [this]
    exact (plainR_begin hown hs).doer
  · refine ⟨_, l5, ?_⟩
    have : deedT B r = aloneD r (asD B r 4 (some (B.more [r.v]))) := by unfold deedT; rw [if_neg (by omega)]; unfold deedOf aloneD asD; rw [if_neg (by omega), if_neg (by omega), if_neg (by omega), if_neg (by omega), if_pos e]; by_cases g : r.p = 0 <;> by_cases g1 : B.e = r.e <;> by_cases g2 : B.r = 4 <;> simp [g, g1, g2]
    rw [this]
    exact doerR_aa t.d5 (plainR_add hown hb hlen) hr
  · refine ⟨_, l6, ?_⟩
    have : deedT B r = aloneD r (asD B r 4 (some ⟨1, B.e, 0, B.t, B.o, B.es ++ [Ev.brk]⟩)) := by unfold deedT; rw [if_neg (by omega)]; unfold deedOf aloneD asD; rw [if_neg (by omega), if_neg (by omega), if_neg (by omega), if_neg (by omega), if_neg (by omega), if_pos e]; by_cases g : r.p = 0 <;> by_cases g1 : B.e = r.e <;> by_cases g2 : B.r = 4 <;> simp [g, g1, g2]
    rw [this]
    exact doerR_aa t.d6 (plainR_activate hown hb hlen) hr
  · refine ⟨_, l7, ?_⟩
    have : deedT B r = aloneD r (asD B r 3 (some (forgetD B))) := by unfold deedT; rw [if_neg (by omega)]; unfold deedOf aloneD asD forgetD; rw [if_neg (by omega), if_neg (by omega), if_neg (by omega), if_neg (by omega), if_neg (by omega), if_neg (by omega)]; by_cases g : r.p = 0 <;> by_cases g1 : B.e = r.e <;> by_cases g2 : B.r = 3 <;> simp [g, g1, g2]
    rw [this]
    exact doerR_aa t.d7 (plainR_forget hb) hr
end
end Go.Proofs.YtcdopnkabbfooaaGreat

namespace Go.Proofs.YtcdopnkabbfooaaGreat
open Go.RowKit

set_option maxRecDepth 20000 in
set_option maxHeartbeats 4000000 in
theorem search_any (g R n p : Nat) (w : World) (hn : n ≤ 1000000000000000) (hp : p ≤ n)
    (heg : ∀ args w, (callFunc g args).run Tryz.prog w = .ok (.enter g args) w)
    (HF : ∀ (h : Nat) (W : World), h < n → Below w.heap.size w W → Calls Tryz.prog g #[.int .i64 h, .pointer (some ⟨R, 0, none⟩)] W fun x w' => x = .returned (.bool (decide (p ≤ h))) ∧ Below W.heap.size W w') :
    Calls Tryz.prog 37 #[.int .i64 n, .func (.func g) #[] #[.pointer (some ⟨R, 0, none⟩)]] w fun x w' => x = .returned (.int .i64 p) ∧ Below w.heap.size w w' := by
  have HFV := veil HF
  clear HF
  go_enter Tryz.func37, Tryz.ntmps37
  go_wp2
  go_loopw [5, 6] (fun t s wr => ∃ i j : Nat, i ≤ p ∧ p ≤ j ∧ j ≤ n ∧ t = .int .i64 i ∧ s = .int .i64 j ∧ Below w.heap.size w wr) (fun t s _ => (intOf s).toNat - (intOf t).toNat)
  case atStart => exact ⟨0, n, Nat.zero_le _, hp, Nat.le_refl _, rfl, rfl, Below.refl _ _⟩
  case round =>
    obtain ⟨i, j, h1, h2, h3, rfl, rfl, bel⟩ := hrel
    have HB := veil bel
    clear bel
    by_cases hlt : i < j
    · go_upto_region 4 with fail
      obtain ⟨m, hm, m1, m2⟩ : ∃ m : Nat, ((i : Int) + (j : Int)) / 2 = (m : Int) ∧ i ≤ m ∧ m < j := ⟨(i + j) / 2, by omega, by omega, by omega⟩
      rw [hm]
      have HC := unveil HFV m wr (by omega) (unveil HB)
      have hmn : m ≤ 1000000000000000 := by omega
      by_cases hpm : p ≤ m
      · rw [decide_eq_true hpm] at HC
        have HP := veil hpm
        clear hpm hm
        go_wp2_with (go_at_fn g; refine HC.mono ?_; rintro x W2 ⟨rfl, b2⟩; have HB2 := veil (Below.next (unveil HB) b2); clear HC b2)
        all_goals (go_roundw <;> first | exact ⟨i, m, h1, unveil HP, by omega, rfl, rfl, unveil HB2⟩ | (simp [intOf]; omega))
      · rw [decide_eq_false hpm] at HC
        have HP := veil hpm
        clear hpm hm
        go_wp2_with (go_at_fn g; refine HC.mono ?_; rintro x W2 ⟨rfl, b2⟩; have HB2 := veil (Below.next (unveil HB) b2); clear HC b2)
        all_goals (go_roundw <;> first | exact ⟨m + 1, j, by have := unveil HP; omega, h2, h3, by go_num, rfl, unveil HB2⟩ | (simp [intOf]; omega))
    · obtain rfl : i = p := by omega
      go_wp2
      go_ret
      exact ⟨rfl, unveil HB⟩
end Go.Proofs.YtcdopnkabbfooaaGreat

namespace Go.Proofs.YtcdopnkabbfooaaGreat
open Go.RowKit

theorem Tryz.infoBerth : (Tryz.prog.info? 24).map (fun i => (i.zero, i.size, i.bytes)) = some (some (bVal 0 0 0 0 0 none 0 0), 6, 64) := by kernel_rfl
/-- the cells of four zero berths. -/
def zero4 : Array Value := bCells 0 0 0 0 0 none 0 0 ++ bCells 0 0 0 0 0 none 0 0 ++ bCells 0 0 0 0 0 none 0 0 ++ bCells 0 0 0 0 0 none 0 0
theorem run_makeB (w : World) : (Instr.makeSlice 39 (.int .i64 4) (.int .i64 4)).run Tryz.prog w = .ok (.slice (some ⟨w.heap.size, 0, none⟩) 4 4) (w.alloc (.cells zero4 24)) := by
  obtain ⟨i, h1, h2, h3, h4⟩ := info_of Tryz.infoBerth
  have := run_make (P := Tryz.prog) w 39 24 i _ Tryz.underlying39 h1 h2 .i64 .i64 4 4 (by omega) (by omega) (by rw [h4]; omega) (by omega)
  rw [h3] at this
  have e : madeCells (bVal 0 0 0 0 0 none 0 0).cells (Int.toNat 4 * 6) = zero4 := by first | kernel_rfl | (apply Array.toList_inj.1; simp [madeCells, zero4, bCells, List.range_succ, Value.cells]) | (simp [madeCells, zero4, Array.range, Value.cells]; rfl)
  rw [e] at this
  exact this
end Go.Proofs.YtcdopnkabbfooaaGreat

namespace Go.Proofs.YtcdopnkabbfooaaGreat
open Go.RowKit

theorem below4b {P : Nat → Prop} (h0 : P 0) (h1 : P 1) (h2 : P 2) (h3 : P 3) : ∀ i, i < 4 → P i
  | 0, _ => h0
  | 1, _ => h1
  | 2, _ => h2
  | 3, _ => h3
  | n + 4, h => absurd h (by omega)
def upd {α : Type} (f : Nat → α) (q : Nat) (x : α) : Nat → α := fun p => if p = q then x else f p
theorem upd_same {α : Type} (f : Nat → α) (q : Nat) (x : α) : upd f q x q = x := by simp [upd]
theorem upd_other {α : Type} (f : Nat → α) {q p : Nat} (x : α) (h : p ≠ q) : upd f q x p = f p := by simp [upd, h]
abbrev btCells (f : Nat → Bt) (A : Nat → Option Addr) (K : Nat → Nat) : Array Value :=
  #[.int .i64 (f 0).r, .int .i64 (f 0).e, .int .i64 (f 0).f, .int .i64 (f 0).t, .int .i64 (f 0).o, .slice (A 0) (f 0).es.length (K 0), .int .i64 (f 1).r, .int .i64 (f 1).e, .int .i64 (f 1).f, .int .i64 (f 1).t, .int .i64 (f 1).o, .slice (A 1) (f 1).es.length (K 1),
    .int .i64 (f 2).r, .int .i64 (f 2).e, .int .i64 (f 2).f, .int .i64 (f 2).t, .int .i64 (f 2).o, .slice (A 2) (f 2).es.length (K 2), .int .i64 (f 3).r, .int .i64 (f 3).e, .int .i64 (f 3).f, .int .i64 (f 3).t, .int .i64 (f 3).o, .slice (A 3) (f 3).es.length (K 3)]
def fBlock (w : World) (Y : Nat) (f : Nat → Bt) (A : Nat → Option Addr) (K : Nat → Nat) : Prop := w.heap[Y]? = some (.cells (btCells f A K) 24 (0, 0))
section
variable {w w' : World} {Y : Nat} {f : Nat → Bt} {A : Nat → Option Addr} {K : Nat → Nat}
theorem fBlock.lt (h : fBlock w Y f A K) : Y < w.heap.size := block_lt h
theorem fBlock.free (h : fBlock w Y f A K) (o : Nat) : w.frozen? ⟨Y, o, none⟩ = false := by
  unfold fBlock at h; simp [World.frozen?, h]
theorem fBlock.at (h : fBlock w Y f A K) : ∀ q, q < 4 → w.cell? ⟨Y, q * 6, none⟩ = some (.int .i64 (f q).r) ∧ w.cell? ⟨Y, q * 6 + 1, none⟩ = some (.int .i64 (f q).e) ∧ w.cell? ⟨Y, q * 6 + 2, none⟩ = some (.int .i64 (f q).f) ∧ w.cell? ⟨Y, q * 6 + 3, none⟩ = some (.int .i64 (f q).t) ∧ w.cell? ⟨Y, q * 6 + 4, none⟩ = some (.int .i64 (f q).o) ∧ w.cell? ⟨Y, q * 6 + 5, none⟩ = some (.slice (A q) (f q).es.length (K q)) := by
  unfold fBlock at h
  refine below4b ?_ ?_ ?_ ?_ <;> simp [World.cell?, h]
theorem fBlock.put (h : fBlock w Y f A K) (q : Nat) (hq : q < 4) (D : Bt) (a : Option Addr) (c : Nat) : fBlock ((((((w.setCell ⟨Y, q * 6, none⟩ (.int .i64 D.r)).setCell ⟨Y, q * 6 + 1, none⟩ (.int .i64 D.e)).setCell ⟨Y, q * 6 + 2, none⟩ (.int .i64 D.f)).setCell ⟨Y, q * 6 + 3, none⟩ (.int .i64 D.t)).setCell ⟨Y, q * 6 + 4, none⟩ (.int .i64 D.o)).setCell ⟨Y, q * 6 + 5, none⟩ (.slice a D.es.length c)) Y (upd f q D) (upd A q a) (upd K q c) := by
  unfold fBlock at h ⊢
  rw [heap_setB (heap_setB (heap_setB (heap_setB (heap_setB (heap_setB h)))))]
  have : ∀ q, q < 4 → ((((((btCells f A K).set! (q * 6) (.int .i64 D.r)).set! (q * 6 + 1) (.int .i64 D.e)).set! (q * 6 + 2) (.int .i64 D.f)).set! (q * 6 + 3) (.int .i64 D.t)).set! (q * 6 + 4) (.int .i64 D.o)).set! (q * 6 + 5) (.slice a D.es.length c) = btCells (upd f q D) (upd A q a) (upd K q c) := by
    refine below4b ?_ ?_ ?_ ?_ <;> simp [upd]
  rw [this q hq]
end
theorem six_turn (w : World) (Y q : Nat) (v0 v1 v2 v3 v4 v5 : Value) : Turned Y w ((((((w.setCell ⟨Y, q * 6, none⟩ v0).setCell ⟨Y, q * 6 + 1, none⟩ v1).setCell ⟨Y, q * 6 + 2, none⟩ v2).setCell ⟨Y, q * 6 + 3, none⟩ v3).setCell ⟨Y, q * 6 + 4, none⟩ v4).setCell ⟨Y, q * 6 + 5, none⟩ v5) :=
  (((((Turned.set Y _ w _).trans (Turned.set Y _ _ _)).trans (Turned.set Y _ _ _)).trans (Turned.set Y _ _ _)).trans (Turned.set Y _ _ _)).trans (Turned.set Y _ _ _)
/-- the events' slice of a berth. -/
abbrev evSl (f : Nat → Bt) (A : Nat → Option Addr) (K : Nat → Nat) (q : Nat) : Value := .slice (A q) (f q).es.length (K q)
/-- btCells berths in memory. -/
structure Fbt (W : World) (Y : Nat) (f : Nat → Bt) (A : Nat → Option Addr) (K : Nat → Nat) : Prop where
  b : fBlock W Y f A K
  own : ∀ q, q < 4 → W.ownsRow (Y + 1) 28 6 (evSl f A K q) (f q).es.length ((evFlat (f q).es).map (Value.int .i64))
  apart : ∀ p q, p < 4 → q < 4 → p ≠ q → ∀ g, (evSl f A K p).ownBlock = some g → ¬ (evSl f A K q).ownBlock = some g
  stand : ∀ q, q < 4 → (f q).Stand
  wf : ∀ q, q < 4 → ∀ u ∈ evFlat (f q).es, (Lit.int .i64 u).wf = true
theorem Fbt.next {W W' : World} {Y : Nat} {f : Nat → Bt} {A : Nat → Option Addr} {K : Nat → Nat} (h : Fbt W Y f A K) (b : Below W.heap.size W W') : Fbt W' Y f A K :=
  ⟨(b.block _ h.b.lt).trans h.b, fun q hq => own_still (h.own q hq) (fun g _ hg => b.block g hg), h.apart, h.stand, h.wf⟩
theorem Fbt.bin {W : World} {Y : Nat} {f : Nat → Bt} {A : Nat → Option Addr} {K : Nat → Nat} (h : Fbt W Y f A K) (q : Nat) (hq : q < 4) : BIn W (f q) (A q) (K q) := by
  obtain ⟨a, c, e, r, l, _, n, _⟩ := RowK.ofMany (h.own q hq) (h.wf q hq)
  cases e
  exact ⟨r, l, n⟩
/-- a deed was done on one berth: its row may have grown; the others are as they were. -/
theorem Fbt.deed {W W' : World} {Y : Nat} {f : Nat → Bt} {A : Nat → Option Addr} {K : Nat → Nat} (h : Fbt W Y f A K) (q : Nat) (hq : q < 4) (g : W.grownBy W' (evSl f A K q).ownBlock) :
    fBlock W' Y f A K ∧ ∀ p, p < 4 → p ≠ q → W'.ownsRow (Y + 1) 28 6 (evSl f A K p) (f p).es.length ((evFlat (f p).es).map (Value.int .i64)) := by
  refine ⟨(g.block _ h.b.lt (fun e => ?_)).trans h.b, fun p hp hne => own_grown (h.own p hp) g (fun x hx e => h.apart p q hp hq hne x hx e)⟩
  have := ((h.own q hq).lt _ e.symm).1
  omega
/-- the new berth was stored. -/
theorem Fbt.put {W W' W'' : World} {Y : Nat} {f : Nat → Bt} {A : Nat → Option Addr} {K : Nat → Nat} (h : Fbt W Y f A K) (q : Nat) (hq : q < 4) {D : Bt} {a : Option Addr} {c : Nat}
    (ho : ∀ p, p < 4 → p ≠ q → W'.ownsRow (Y + 1) 28 6 (evSl f A K p) (f p).es.length ((evFlat (f p).es).map (Value.int .i64)))
    (hD : W'.ownsRow (Y + 1) 28 6 (.slice a D.es.length c) D.es.length ((evFlat D.es).map (Value.int .i64))) (hl : Lies W (evSl f A K q) (.slice a D.es.length c)) (hs : D.Stand) (hw : ∀ u ∈ evFlat D.es, (Lit.int .i64 u).wf = true)
    (t : Turned Y W' W'') (b : fBlock W'' Y (upd f q D) (upd A q a) (upd K q c)) : Fbt W'' Y (upd f q D) (upd A q a) (upd K q c) := by
  have eq1 : evSl (upd f q D) (upd A q a) (upd K q c) q = .slice a D.es.length c := by simp only [evSl, upd_same]
  have ne1 : ∀ p, p ≠ q → evSl (upd f q D) (upd A q a) (upd K q c) p = evSl f A K p := fun p hp => by simp only [evSl, upd_other _ _ hp]
  refine ⟨b, fun p hp => ?_, fun p p' hp hp' hne g hg => ?_, fun p hp => ?_, fun p hp => ?_⟩
  · by_cases e : p = q
    · subst e
      rw [eq1, upd_same]
      exact t.own hD (by omega)
    · rw [ne1 p e, upd_other _ _ e]
      exact t.own (ho p hp e) (by omega)
  · by_cases e : p = q
    · subst e
      rw [eq1] at hg
      rw [ne1 p' (fun h => hne h.symm)]
      rcases hl g hg with h1 | h1
      · exact h.apart p p' hp hp' hne g h1
      · exact fun h2 => by have := ((h.own p' hp').lt g h2).2; omega
    · rw [ne1 p e] at hg
      by_cases e' : p' = q
      · subst e'
        rw [eq1]
        intro h2
        rcases hl g h2 with h1 | h1
        · exact h.apart p p' hp hp' hne g hg h1
        · have := ((h.own p hp).lt g hg).2; omega
      · rw [ne1 p' e']
        exact h.apart p p' hp hp' hne g hg
  · by_cases e : p = q
    · subst e; rw [upd_same]; exact hs
    · rw [upd_other _ _ e]; exact h.stand p hp
  · by_cases e : p = q
    · subst e; rw [upd_same]; exact hw
    · rw [upd_other _ _ e]; exact h.wf p hp
/-- the berths as a list. -/
def bts (f : Nat → Bt) : List Bt := [f 0, f 1, f 2, f 3]
theorem bts_len (f : Nat → Bt) : (bts f).length = 4 := rfl
theorem bts_at (f : Nat → Bt) (r : Rec) (q : Nat) (hq : q < 4) (e : r.q = q) : At (bts f) r = f q := by
  have h1 : r.q.toNat = q := by omega
  unfold At
  rw [h1]
  have : ∀ q, q < 4 → (bts f).getD q Bt.zero = f q := by refine below4b ?_ ?_ ?_ ?_ <;> rfl
  exact this q hq
theorem bts_put (f : Nat → Bt) (r : Rec) (D : Bt) (q : Nat) (hq : q < 4) (e : r.q = q) : put (bts f) r D = bts (upd f q D) := by
  have h1 : r.q.toNat = q := by omega
  unfold put
  rw [h1]
  have : ∀ q, q < 4 → (bts f).set q D = bts (upd f q D) := by refine below4b ?_ ?_ ?_ ?_ <;> simp [bts, upd]
  exact this q hq
theorem bts_all (f : Nat → Bt) (P : Bt → Prop) : (∀ B ∈ bts f, P B) ↔ ∀ q, q < 4 → P (f q) := by
  constructor
  · intro h
    exact below4b (h _ (by simp [bts])) (h _ (by simp [bts])) (h _ (by simp [bts])) (h _ (by simp [bts]))
  · intro h B hB
    simp only [bts, List.mem_cons, List.not_mem_nil, or_false] at hB
    rcases hB with rfl | rfl | rfl | rfl
    · exact h 0 (by omega)
    · exact h 1 (by omega)
    · exact h 2 (by omega)
    · exact h 3 (by omega)
/-- records as a row of numbers. -/
def recTen (r : Rec) : List Int := [r.k, r.q, r.e, r.p, r.v.k, r.v.p, r.v.i, r.v.b, r.v.he, r.v.hn]
def recFlat (rs : List Rec) : List Int := rs.flatMap recTen
theorem recFlat_at : ∀ (rs : List Rec) (i : Nat) (h : i < rs.length) (j : Nat), j < 10 → (recFlat rs).getD (10 * i + j) 0 = (recTen rs[i]).getD j 0
  | [], _, h, _, _ => absurd h (Nat.not_lt_zero _)
  | v :: rs, 0, _, j, hj => by
    have hl : (recTen v).length = 10 := rfl
    show (recTen v ++ recFlat rs).getD (10 * 0 + j) 0 = _
    rw [Nat.mul_zero, Nat.zero_add, getD_left _ _ _ (by omega)]
    rfl
  | v :: rs, i + 1, h, j, hj => by
    have hl : (recTen v).length = 10 := rfl
    show (recTen v ++ recFlat rs).getD (10 * (i + 1) + j) 0 = _
    rw [show 10 * (i + 1) + j = 10 + (10 * i + j) by omega, getD_right _ _ _ 10 hl, recFlat_at rs i (by simpa using h) j hj]
    rfl
theorem row_rec {w : World} {b off : Nat} {rs : List Rec} (hr : RowK .i64 w (some ⟨b, off, none⟩) (10 * rs.length) (recFlat rs)) (k : Nat) (hk : k < rs.length) :
    w.cell? ⟨b, off + k * 10, none⟩ = some (.int .i64 rs[k].k) ∧ w.cell? ⟨b, off + k * 10 + 1, none⟩ = some (.int .i64 rs[k].q) ∧ w.cell? ⟨b, off + k * 10 + 2, none⟩ = some (.int .i64 rs[k].e) ∧ w.cell? ⟨b, off + k * 10 + 3, none⟩ = some (.int .i64 rs[k].p) ∧ w.cell? ⟨b, off + k * 10 + 4, none⟩ = some (.int .i64 rs[k].v.k) ∧
    w.cell? ⟨b, off + k * 10 + 5, none⟩ = some (.int .i64 rs[k].v.p) ∧ w.cell? ⟨b, off + k * 10 + 6, none⟩ = some (.int .i64 rs[k].v.i) ∧ w.cell? ⟨b, off + k * 10 + 7, none⟩ = some (.int .i64 rs[k].v.b) ∧ w.cell? ⟨b, off + k * 10 + 8, none⟩ = some (.int .i64 rs[k].v.he) ∧ w.cell? ⟨b, off + k * 10 + 9, none⟩ = some (.int .i64 rs[k].v.hn) := by
  have ea : ∀ t, t < 10 → w.cell? ⟨b, off + (10 * k + t), none⟩ = some (.int .i64 ((recTen rs[k]).getD t 0)) := fun t ht => by
    rw [← recFlat_at rs k hk t ht]
    exact hr.at (10 * k + t) (by omega)
  rw [Nat.mul_comm k 10]
  exact ⟨ea 0 (by omega), ea 1 (by omega), ea 2 (by omega), ea 3 (by omega), ea 4 (by omega), ea 5 (by omega), ea 6 (by omega), ea 7 (by omega), ea 8 (by omega), ea 9 (by omega)⟩
theorem Table.next {w w' : World} {M : Nat} {v1 v2 v3 v5 v6 v7 : Value} (t : Table w M v1 v2 v3 v5 v6 v7) (b : Below w.heap.size w w') : Table w' M v1 v2 v3 v5 v6 v7 :=
  ⟨(b.block _ (block_lt t.tab)).trans t.tab, t.d1.keep (keeps_below b), t.d2.keep (keeps_below b), t.d3.keep (keeps_below b), t.d5.keep (keeps_below b), t.d6.keep (keeps_below b), t.d7.keep (keeps_below b)⟩
theorem rec_wf {w : World} {a : Option Addr} {rs : List Rec} (hr : RowK .i64 w a (10 * rs.length) (recFlat rs)) (k : Nat) (hk : k < rs.length) : ∀ u ∈ evCells rs[k].v, (Lit.int .i64 u).wf = true := fun u hu => by
  refine hr.wf u (List.mem_flatMap.2 ⟨rs[k], List.getElem_mem hk, ?_⟩)
  simp only [evCells, recTen, List.mem_cons, List.not_mem_nil, or_false] at hu ⊢
  rcases hu with h | h | h | h | h | h <;> simp [h]
/-- the numbers of a deed's events are in form. -/
theorem deedT_wf {B D : Bt} {r : Rec} (hs : B.Stand) (hd : deedT B r = some D) (hB : ∀ u ∈ evFlat B.es, (Lit.int .i64 u).wf = true) (hr : ∀ u ∈ evCells r.v, (Lit.int .i64 u).wf = true) : (∀ u ∈ evFlat D.es, (Lit.int .i64 u).wf = true) ∧ D.es.length ≤ B.es.length + 1 := by
  have nil : ∀ u ∈ evFlat [], (Lit.int .i64 u).wf = true := fun u hu => by cases hu
  have more : ∀ v : Ev, (∀ u ∈ evCells v, (Lit.int .i64 u).wf = true) → (∀ u ∈ evFlat (B.es ++ [v]), (Lit.int .i64 u).wf = true) ∧ (B.es ++ [v]).length ≤ B.es.length + 1 := fun v hv => ⟨fun u hu => by
    rw [evFlat_snoc] at hu
    rcases List.mem_append.1 hu with h | h
    · exact hB u h
    · exact hv u h, by simp⟩
  unfold deedT at hd
  by_cases hk : r.k = 4
  · rw [if_pos hk] at hd
    rcases beginT_some hs hd with rfl | ⟨rfl, _⟩
    · exact ⟨hB, by omega⟩
    · exact ⟨nil, by simp⟩
  rw [if_neg hk] at hd
  unfold deedOf at hd
  repeat' split at hd
  all_goals first
    | (cases hd; done)
    | (cases hd; exact ⟨nil, by simp⟩)
    | (cases hd; exact ⟨hB, by simp⟩)
    | (cases hd; exact more _ hr)
    | (cases hd; exact more _ (by intro u hu; simp [evCells, Ev.brk] at hu; rcases hu with rfl | rfl <;> decide))
    | contradiction
end Go.Proofs.YtcdopnkabbfooaaGreat

namespace Go.Proofs.YtcdopnkabbfooaaGreat
open Go.RowKit

theorem Tryz.infoRecT : (Tryz.prog.info? 30).map (fun i => (i.zero, i.size, i.bytes)) = some (some (.agg #[.int .i64 0, .int .i64 0, .int .i64 0, .int .i64 0, .int .i64 0, .int .i64 0, .int .i64 0, .int .i64 0, .int .i64 0, .int .i64 0]), 10, 80) := by kernel_rfl
theorem recFlat_snoc (l : List Rec) (r : Rec) : recFlat (l ++ [r]) = recFlat l ++ recTen r := by simp [recFlat]
theorem recFlat_len : ∀ l : List Rec, (recFlat l).length = 10 * l.length
  | [] => rfl
  | r :: l => by
    show (recTen r ++ recFlat l).length = _
    rw [List.length_append, recFlat_len l, List.length_cons]
    have : (recTen r).length = 10 := rfl
    omega
theorem news10 (w : World) (x0 x1 x2 x3 x4 x5 x6 x7 x8 x9 : Int) (t : TypeId) : ∀ j u, ([x0, x1, x2, x3, x4, x5, x6, x7, x8, x9].map (Value.int .i64))[j]? = some u → (w.alloc (.cells #[.int .i64 x0, .int .i64 x1, .int .i64 x2, .int .i64 x3, .int .i64 x4, .int .i64 x5, .int .i64 x6, .int .i64 x7, .int .i64 x8, .int .i64 x9] t)).drew.cell? ((⟨w.heap.size, 0, none⟩ : Addr).add j) = some u := by
  intro j u hj
  rw [Addr.add_mid]
  match j, hj with
  | 0, hj => simp at hj; subst hj; simp
  | 1, hj => simp at hj; subst hj; simp
  | 2, hj => simp at hj; subst hj; simp
  | 3, hj => simp at hj; subst hj; simp
  | 4, hj => simp at hj; subst hj; simp
  | 5, hj => simp at hj; subst hj; simp
  | 6, hj => simp at hj; subst hj; simp
  | 7, hj => simp at hj; subst hj; simp
  | 8, hj => simp at hj; subst hj; simp
  | 9, hj => simp at hj; subst hj; simp
  | n + 10, hj => simp at hj
def histOf (q : Int) (B : Bt) (k : Nat) : List Rec := recC q B.e :: (B.es.take k).map (recH q B.e)
theorem histOf_len {q : Int} {B : Bt} {k : Nat} (hk : k ≤ B.es.length) : (histOf q B k).length = k + 1 := by
  unfold histOf
  rw [List.length_cons, List.length_map, List.length_take]
  omega
theorem histOf_next {q : Int} {B : Bt} {k : Nat} (hk : k < B.es.length) : histOf q B (k + 1) = histOf q B k ++ [recH q B.e B.es[k]] := by
  unfold histOf
  rw [List.take_add_one, List.getElem?_eq_getElem hk, List.cons_append, List.map_append]
  rfl
theorem histOf_act {q : Int} {B : Bt} (hr : ¬ B.r = 3) : histOf q B B.es.length = tapeOf q B := by
  unfold histOf tapeOf
  rw [List.take_length, if_neg hr, List.append_nil]
theorem histOf_seal {q : Int} {B : Bt} (hr : B.r = 3) : histOf q B B.es.length ++ [recS q B.e B.t] = tapeOf q B := by
  unfold histOf tapeOf
  rw [List.take_length, if_pos hr]
  rfl
theorem row_evs {w : World} {b off : Nat} {es : List Ev} (hr : RowK .i64 w (some ⟨b, off, none⟩) (6 * es.length) (evFlat es)) (k : Nat) (hk : k < es.length) :
    w.cell? ⟨b, off + k * 6, none⟩ = some (.int .i64 es[k].k) ∧ w.cell? ⟨b, off + k * 6 + 1, none⟩ = some (.int .i64 es[k].p) ∧ w.cell? ⟨b, off + k * 6 + 2, none⟩ = some (.int .i64 es[k].i) ∧ w.cell? ⟨b, off + k * 6 + 3, none⟩ = some (.int .i64 es[k].b) ∧ w.cell? ⟨b, off + k * 6 + 4, none⟩ = some (.int .i64 es[k].he) ∧ w.cell? ⟨b, off + k * 6 + 5, none⟩ = some (.int .i64 es[k].hn) := by
  have ea : ∀ t, t < 6 → w.cell? ⟨b, off + (6 * k + t), none⟩ = some (.int .i64 ((evCells es[k]).getD t 0)) := fun t ht => by
    rw [← evFlat_at es k hk t ht]
    exact hr.at (6 * k + t) (by omega)
  rw [Nat.mul_comm k 6]
  exact ⟨ea 0 (by omega), ea 1 (by omega), ea 2 (by omega), ea 3 (by omega), ea 4 (by omega), ea 5 (by omega)⟩
theorem row_ten (W : World) (r : Rec) (hw : ∀ u ∈ recTen r, (Lit.int .i64 u).wf = true) : RowK .i64 (W.alloc (.cells #[.int .i64 r.k, .int .i64 r.q, .int .i64 r.e, .int .i64 r.p, .int .i64 r.v.k, .int .i64 r.v.p, .int .i64 r.v.i, .int .i64 r.v.b, .int .i64 r.v.he, .int .i64 r.v.hn] 30)) (some ⟨W.heap.size, 0, none⟩) 10 (recTen r) := by
  have h := heap_alloc_new W (.cells #[.int .i64 r.k, .int .i64 r.q, .int .i64 r.e, .int .i64 r.p, .int .i64 r.v.k, .int .i64 r.v.p, .int .i64 r.v.i, .int .i64 r.v.b, .int .i64 r.v.he, .int .i64 r.v.hn] 30)
  generalize W.alloc (.cells #[.int .i64 r.k, .int .i64 r.q, .int .i64 r.e, .int .i64 r.p, .int .i64 r.v.k, .int .i64 r.v.p, .int .i64 r.v.i, .int .i64 r.v.b, .int .i64 r.v.he, .int .i64 r.v.hn] 30) = W' at h ⊢
  refine ⟨rfl, hw, fun j hj => ⟨W.heap.size, 0, rfl, block_lt h, ?_⟩⟩
  have hj' : j = 0 ∨ j = 1 ∨ j = 2 ∨ j = 3 ∨ j = 4 ∨ j = 5 ∨ j = 6 ∨ j = 7 ∨ j = 8 ∨ j = 9 := by omega
  rcases hj' with rfl | rfl | rfl | rfl | rfl | rfl | rfl | rfl | rfl | rfl <;> simp [World.cell?, h, recTen]
/-- the tape on its way. -/
structure Tw (w W0 W : World) (q : Int) (B : Bt) (a : Option Addr) (c k : Nat) (v : Value) : Prop where
  up : W0.heap.size = w.heap.size + 1
  first : Below w.heap.size w W0
  bel : Below W0.heap.size W0 W
  b : bBlock W w.heap.size B.r B.e B.f B.t B.o a B.es.length c
  inn : BIn W B a c
  own : W.ownsRow W0.heap.size 30 10 v (k + 1) ((recFlat (histOf q B k)).map (Value.int .i64))
set_option maxRecDepth 20000 in
set_option maxHeartbeats 4000000 in
theorem records_any (q : Int) (B : Bt) (a : Option Addr) (c : Nat) (w : World) (hB : BIn w B a c) (hlen : B.es.length ≤ 2000) (hw : ∀ u ∈ [q, B.e, B.t], (Lit.int .i64 u).wf = true) :
    Calls Tryz.prog 23 #[.int .i64 q, bVal B.r B.e B.f B.t B.o a B.es.length c] w fun x w' => ∃ v, x = .returned v ∧ w'.ownsRow w.heap.size 30 10 v (tapeOf q B).length ((recFlat (tapeOf q B)).map (Value.int .i64)) ∧ Below w.heap.size w w' := by
  obtain ⟨i3, hi3, hz30, hz31, hz32⟩ := info_of Tryz.infoRecT
  have HF : Hid (∀ W0 v' w4, Tw w W0 w4 q B a c B.es.length v' → ¬ B.r = 3 → w4.ownsRow w.heap.size 30 10 v' (tapeOf q B).length ((recFlat (tapeOf q B)).map (Value.int .i64)) ∧ Below w.heap.size w w4) := veil (by
    intro W0 v' w4 T hr
    have := T.own
    rw [histOf_act hr] at this
    have hl : (tapeOf q B).length = B.es.length + 1 := by rw [← histOf_act hr, histOf_len (Nat.le_refl _)]
    rw [hl]
    exact ⟨own_lower this (by rw [T.up]; omega), Below.trans T.first (T.bel.mono (by rw [T.up]; omega))⟩)
  have hb0 := bBlock.new w B.r B.e B.f B.t B.o a B.es.length c
  have T0 : Tw w (w.alloc (.cells (bCells B.r B.e B.f B.t B.o a B.es.length c) 24)) ((w.alloc (.cells (bCells B.r B.e B.f B.t B.o a B.es.length c) 24)).alloc (.cells #[.int .i64 1, .int .i64 q, .int .i64 B.e, .int .i64 0, .int .i64 0, .int .i64 0, .int .i64 0, .int .i64 0, .int .i64 0, .int .i64 0] 30)) q B a c 0 (.slice (some ⟨w.heap.size + 1, 0, none⟩) 1 1) := by
    refine ⟨by simp, below1 _ _, below1 _ _, hb0.next (below1 _ _), (hB.next (below1 _ _)).next (below1 _ _), ?_⟩
    have := World.ownsRow_lit (base := (w.alloc (.cells (bCells B.r B.e B.f B.t B.o a B.es.length c) 24)).heap.size) (e := 30) (size := 10) (w.alloc (.cells (bCells B.r B.e B.f B.t B.o a B.es.length c) 24)) #[.int .i64 1, .int .i64 q, .int .i64 B.e, .int .i64 0, .int .i64 0, .int .i64 0, .int .i64 0, .int .i64 0, .int .i64 0, .int .i64 0] 1 (Nat.le_refl _) (by decide) rfl
    have e0 : (w.alloc (.cells (bCells B.r B.e B.f B.t B.o a B.es.length c) 24)).heap.size = w.heap.size + 1 := by simp
    rw [e0] at this ⊢
    exact this
  have HT0 := veil T0
  have HB := veil hB
  clear T0 hb0 hB
  go_enter Tryz.func23, Tryz.ntmps23
  go_wp2
  obtain ⟨W0, hW0⟩ : ∃ W0, W0 = w.alloc (.cells (bCells B.r B.e B.f B.t B.o a B.es.length c) 24) := ⟨_, rfl⟩
  have HB0 : Hid (BIn w B a c ∧ bBlock W0 w.heap.size B.r B.e B.f B.t B.o a B.es.length c) := veil (by rw [hW0]; exact ⟨unveil HB, bBlock.new w _ _ _ _ _ _ _ _⟩)
  clear HB
  go_loopw [5, 6] (fun v t wr => ∃ k : Nat, ∃ aN cN, k ≤ B.es.length ∧ t = .int .i64 k ∧ v = .slice aN (k + 1) cN ∧ Hid (Tw w W0 wr q B a c k v)) (fun _ t _ => B.es.length - (intOf t).toNat)
  case atStart => exact ⟨0, _, _, Nat.zero_le _, rfl, rfl, by rw [hW0]; exact HT0⟩
  case round =>
    clear HT0 hW0
    obtain ⟨k, aN, cN, hk, rfl, rfl, HT⟩ := hrel
    obtain ⟨y0, y1, y2, y3, y4, y5⟩ := (unveil HT).b.cells
    have hRl := (unveil HT).b.lt
    have hRn : w.heap.size ≠ wr.heap.size := by omega
    by_cases hlt : k < B.es.length
    case neg =>
      obtain rfl : k = B.es.length := by omega
      by_cases hr : B.r = 3
      case neg =>
        have HFF := veil (unveil HF _ _ _ (unveil HT) hr)
        clear HF HT
        go_wp2
        go_ret
        exact ⟨_, rfl, unveil HFF⟩
      case pos =>
        have HO5 : Hid ((wr.alloc (.cells #[.int .i64 3, .int .i64 q, .int .i64 B.e, .int .i64 B.t, .int .i64 0, .int .i64 0, .int .i64 0, .int .i64 0, .int .i64 0, .int .i64 0] 30)).ownsRow W0.heap.size 30 10 (.slice aN (B.es.length + 1) cN) (B.es.length + 1) ((recFlat (histOf q B B.es.length)).map (Value.int .i64))) := veil ((unveil HT).own.alloc _)
        have HR5 := veil (row_ten wr (recS q B.e B.t) (fun u hu => by
          simp only [recTen, recS, List.mem_cons, List.not_mem_nil, or_false] at hu
          rcases hu with rfl | rfl | rfl | rfl | rfl | rfl | rfl | rfl | rfl | rfl
          · decide
          · exact hw _ (by simp)
          · exact hw _ (by simp)
          · exact hw _ (by simp)
          all_goals decide))
        have hsz : W0.heap.size ≤ wr.heap.size := (unveil HT).bel.size
        have HG : Hid (∀ v' w4, w4.ownsRow W0.heap.size 30 10 v' (B.es.length + 1 + 1) ((recFlat (histOf q B B.es.length) ++ recTen (recS q B.e B.t)).map (Value.int .i64)) → (wr.alloc (.cells #[.int .i64 3, .int .i64 q, .int .i64 B.e, .int .i64 B.t, .int .i64 0, .int .i64 0, .int .i64 0, .int .i64 0, .int .i64 0, .int .i64 0] 30)).grownBy w4 (Value.slice aN (B.es.length + 1) cN).ownBlock → w4.ownsRow w.heap.size 30 10 v' (tapeOf q B).length ((recFlat (tapeOf q B)).map (Value.int .i64)) ∧ Below w.heap.size w w4) := veil (by
          intro v' w4 own4 grow4
          have T := unveil HT
          rw [← recFlat_snoc, histOf_seal hr] at own4
          have hl : (tapeOf q B).length = B.es.length + 1 + 1 := by rw [← histOf_seal hr, List.length_append, histOf_len (Nat.le_refl _)]; rfl
          rw [hl]
          have b4 : Below W0.heap.size W0 w4 := (T.bel.trans ((below1 _ _).mono T.bel.size)).grown grow4 (by simp; omega) (fun g hg => (T.own.lt g hg).1)
          exact ⟨own_lower own4 (by rw [T.up]; omega), Below.trans T.first (b4.mono (by rw [T.up]; omega))⟩)
        clear HF HT
        go_wp2_with (at_builtin; refine wpList_append_rows rfl _ _ 37 rfl W0.heap.size 30 i3 _ 10 80 Tryz.underlying37 hi3 hz30 hz31 hz32 rfl (by decide) (.slice aN (B.es.length + 1) cN) (B.es.length + 1) _ rfl (unveil HO5) (some ⟨wr.heap.size, 0, none⟩) 1 1 _ rfl (unveil HR5) (fun h => by cases h) (by unfold maxLen; omega) (by omega) (by simp; omega) ?_; intro v' w4 own4 grow4; have HX := veil (unveil HG v' w4 own4 grow4); clear own4 grow4)
        go_ret
        exact ⟨_, rfl, unveil HX⟩
    case pos =>
      obtain ⟨b, off, rfl⟩ := (unveil HT).inn.row.form (by omega)
      obtain ⟨x0, x1, x2, x3, x4, x5⟩ := row_evs (unveil HT).inn.row k hlt
      have hbl : b < wr.heap.size := (unveil HT).inn.row.lt (by omega)
      have hbn : b ≠ wr.heap.size := by omega
      have hc := (unveil HT).inn.cap
      have hsz : W0.heap.size ≤ wr.heap.size := (unveil HT).bel.size
      obtain ⟨V, hV⟩ : ∃ V, V = B.es[k] := ⟨_, rfl⟩
      rw [← hV] at x0 x1 x2 x3 x4 x5
      have b5 : Below wr.heap.size wr (wr.drew.alloc (.cells #[.int .i64 2, .int .i64 q, .int .i64 B.e, .int .i64 0, .int .i64 V.k, .int .i64 V.p, .int .i64 V.i, .int .i64 V.b, .int .i64 V.he, .int .i64 V.hn] 30)) := Below.next (Below.refl _ _).drew (below1 _ _)
      have HO5 : Hid ((wr.drew.alloc (.cells #[.int .i64 2, .int .i64 q, .int .i64 B.e, .int .i64 0, .int .i64 V.k, .int .i64 V.p, .int .i64 V.i, .int .i64 V.b, .int .i64 V.he, .int .i64 V.hn] 30)).ownsRow W0.heap.size 30 10 (.slice aN (k + 1) cN) (k + 1) ((recFlat (histOf q B k)).map (Value.int .i64))) := veil (own_still (unveil HT).own (fun g _ hg => b5.block g hg))
      have HG : Hid (∀ v' w4, w4.ownsRow W0.heap.size 30 10 v' (k + 1 + 1) ((recFlat (histOf q B k) ++ [2, q, B.e, 0, V.k, V.p, V.i, V.b, V.he, V.hn]).map (Value.int .i64)) → (wr.drew.alloc (.cells #[.int .i64 2, .int .i64 q, .int .i64 B.e, .int .i64 0, .int .i64 V.k, .int .i64 V.p, .int .i64 V.i, .int .i64 V.b, .int .i64 V.he, .int .i64 V.hn] 30)).grownBy w4 (Value.slice aN (k + 1) cN).ownBlock → Tw w W0 w4 q B (some ⟨b, off, none⟩) c (k + 1) v') := veil (by
        intro v' w4 own4 grow4
        have T := unveil HT
        have e : recFlat (histOf q B k) ++ [2, q, B.e, 0, V.k, V.p, V.i, V.b, V.he, V.hn] = recFlat (histOf q B (k + 1)) := by rw [histOf_next hlt, recFlat_snoc, hV]; rfl
        rw [e] at own4
        have b4 : Below W0.heap.size W0 w4 := (T.bel.trans (b5.mono T.bel.size)).grown grow4 (by have := b5.size; omega) (fun g hg => (T.own.lt g hg).1)
        have bb : Below w.heap.size w w4 := Below.trans T.first (b4.mono (by rw [T.up]; omega))
        exact ⟨T.up, T.first, b4, bBlock.below (unveil HB0).2 b4 (by rw [T.up]; omega), ⟨(unveil HB0).1.row.below bb, (unveil HB0).1.cap, (unveil HB0).1.nil⟩, own4⟩)
      clear HF b5 hV HT
      go_wp2_with fail
      go_region_law (first
        | (refine step_append_many rfl (.tmp 19) (.tmp 29) 37 rfl W0.heap.size 30 i3 _ 10 80 Tryz.underlying37 hi3 hz30 hz31 hz32 rfl (by decide) (.slice aN (k + 1) cN) (k + 1) (recFlat (histOf q B k)) rfl (unveil HO5) ⟨wr.heap.size, 0, none⟩ 1 1 [2, q, B.e, 0, V.k, V.p, V.i, V.b, V.he, V.hn] rfl rfl (news10 _ _ _ _ _ _ _ _ _ _ _ _) (by unfold maxLen; omega) (by omega) (by simp; omega) ?_; intro v' w4 own4 grow4; have HT4 := veil (unveil HG v' w4 own4 grow4); obtain ⟨a', cap', rfl⟩ := own_form own4; clear own4 grow4)
        | (go_simp; go_wp2_with fail))
      all_goals (try go_wp2_with fail)
      all_goals (go_roundw <;> first | exact ⟨k + 1, _, _, by omega, by go_num, rfl, HT4⟩ | (simp [intOf]; omega))
end Go.Proofs.YtcdopnkabbfooaaGreat
