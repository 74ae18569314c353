/- The walk of slices.Delete at leases: one lease taken out. -/
import Derived.Test.YtcdopnkabbfooaaGreatQuV
import Derived.Deep.RegionLaw
namespace Go.Proofs.YtcdopnkabbfooaaGreat
open Go.RowKit

theorem run_clear_one4 (w : World) (b o c : Nat) (ty : TypeId) (hc : ∀ j, j < 4 → (w.cell? ⟨b, o + j, none⟩).isSome = true) (hf : ∀ j, j < 4 → w.frozen? ⟨b, o + j, none⟩ = false) :
    (Builtin.clear_ #[86] ty #[.slice (some ⟨b, o, none⟩) 1 c]).run Tryz.prog w = .ok (.tuple #[]) (w.setCells b o [.int .i64 0, .int .i64 0, .int .i64 0, .int .i64 0]) := by
  have hst := run_storeCells_cells (P := Tryz.prog) b o [.int .i64 0, .int .i64 0, .int .i64 0, .int .i64 0] 0 w (by simpa using hc) (by simpa using hf) (by simp [Value.oneCell'])
  simp only [Nat.add_zero] at hst
  simp [Builtin.clear_, run_underlying Tryz.underlying86, Tryz.zeroValue133, Builtin.zeroCells, Value.cells]
  rw [show (List.map (fun i => ([Value.int IntKind.i64 0, Value.int IntKind.i64 0, Value.int IntKind.i64 0, Value.int IntKind.i64 0] : List Value)[i % 4]?.getD default) (List.range 4)) = [Value.int IntKind.i64 0, Value.int IntKind.i64 0, Value.int IntKind.i64 0, Value.int IntKind.i64 0] from rfl, hst]
  rfl
theorem cut_at (L : List Int) (k j : Nat) : (L.take (4 * k) ++ L.drop (4 * k + 4)).getD j 0 = if j < 4 * k ∧ j < L.length then L.getD j 0 else if 4 * k ≤ L.length then L.getD (j + 4) 0 else 0 := by
  simp only [List.getD_eq_getElem?_getD]
  rcases Nat.lt_or_ge j (4 * k) with h | h
  · rcases Nat.lt_or_ge j L.length with h2 | h2
    · rw [if_pos ⟨h, h2⟩, List.getElem?_append_left (by simp; omega), List.getElem?_take_of_lt h]
    · rw [if_neg (by omega), if_neg (by omega), List.getElem?_eq_none (by simp; omega)]
      rfl
  · rw [if_neg (by omega)]
    rcases Nat.lt_or_ge L.length (4 * k) with h2 | h2
    · rw [if_neg (by omega), List.getElem?_eq_none (by simp; omega)]
      rfl
    · rw [if_pos h2, List.getElem?_append_right (by simp; omega), List.getElem?_drop]
      congr 2
      simp
      omega

set_option maxRecDepth 20000 in
set_option maxHeartbeats 4000000 in
theorem delete_one {w : World} {base g ln c : Nat} {L : List Int} (k : Nat) (h : w.ownsRow base 133 4 (.slice (some ⟨g, 0, none⟩) ln c) ln (L.map (Value.int .i64))) (hk : k < ln) :
    Calls Tryz.prog 113 #[.slice (some ⟨g, 0, none⟩) ln c, .int .i64 k, .int .i64 (k + 1)] w fun e w' => e = .returned (.slice (some ⟨g, 0, none⟩) (ln - 1) c) ∧ Turned g w w' ∧ ∀ j, j < 4 * (ln - 1) → w'.cell? ⟨g, j, none⟩ = some (.int .i64 ((L.take (4 * k) ++ L.drop (4 * k + 4)).getD j 0)) := by
  obtain ⟨i2, hi2, hz20, hz21, hz22⟩ := info_of Tryz.infoLease
  have hcells := h.cells (g := g) rfl
  have hlen : L.length = ln * 4 := by have := h.1; simpa using this
  rcases h.2 with ⟨h0, _⟩ | ⟨g', cap, cur, e, _, hg, hc, hm, hs, ht⟩
  · cases h0
  cases e
  have cell : ∀ j, j < ln * 4 → w.cell? ⟨g, j, none⟩ = some (.int .i64 (L.getD j 0)) := fun j hj => by
    have := hcells j (.int .i64 (L.getD j 0)) (by simp [List.getElem?_eq_getElem (show j < L.length by omega)])
    simpa [Addr.add_mid] using this
  have free : ∀ o, w.frozen? ⟨g, o, none⟩ = false := fun o => by simp [World.frozen?, hg]
  unfold maxLen at hm
  obtain ⟨news, hnews⟩ : ∃ news, news = (L.drop (4 * k + 4)).map (Value.int .i64) := ⟨_, rfl⟩
  have hnl : news.length = (ln - (k + 1)) * 4 := by rw [hnews]; simp; omega
  have hget : ∀ t, t < (ln - (k + 1)) * 4 → news[t]? = some (.int .i64 (L.getD (4 * k + 4 + t) 0)) := fun t ht => by
    rw [hnews]; simp [List.getElem?_eq_getElem (show 4 * k + 4 + t < L.length by omega)]
  obtain ⟨m, hmk⟩ : ∃ m, m = k + 1 := ⟨_, rfl⟩
  have hmi : (k : Int) + 1 = (m : Int) := by omega
  rw [hmi]
  rw [← hmk] at hnl hget
  obtain ⟨A, hA, hsrc⟩ : ∃ A : Addr, (if c = m then some (⟨g, 0, none⟩ : Addr) else some ⟨g, m * 4, none⟩) = some A ∧ Hid (∀ t u, news[t]? = some u → w.drew.cell? (A.add t) = some u) := by
    by_cases hh : c = m
    · refine ⟨⟨g, 0, none⟩, by simp [hh], veil fun t u hu => ?_⟩
      have h0 : news.length = 0 := by rw [hnl]; omega
      rw [List.length_eq_zero_iff.1 h0] at hu
      simp at hu
    · refine ⟨⟨g, m * 4, none⟩, by simp [hh], veil fun t u hu => ?_⟩
      have ht : t < (ln - m) * 4 := by
        have := (List.getElem?_eq_some_iff.1 hu).1
        rwa [hnl] at this
      rw [hget t ht] at hu
      cases hu
      rw [Addr.add_mid, show m * 4 + t = 4 * k + 4 + t by omega]
      exact cell (4 * k + 4 + t) (by omega)
  have s2 : Hid (∀ u ∈ news, u.oneCell' = true) := veil (by
    intro u hu
    rw [hnews] at hu
    obtain ⟨x, _, rfl⟩ := List.mem_map.1 hu
    rfl)
  have s3 : Hid (∀ t, t < news.length → (w.drew.cell? ⟨g, 0 + k * 4 + t, none⟩).isSome = true ∧ w.drew.frozen? ⟨g, 0 + k * 4 + t, none⟩ = false) := veil (by
    intro t ht
    rw [hnl] at ht
    exact ⟨by show (w.cell? _).isSome = true; rw [Nat.zero_add, cell _ (by omega)]; rfl, free _⟩)
  have s1 : Hid (news.length = (ln - m) * 4) := veil hnl
  obtain ⟨W1, hW1⟩ : ∃ W1, W1 = w.drew.setCells g (0 + k * 4) news := ⟨_, rfl⟩
  have HW1 : Hid (W1 = w.drew.setCells g (0 + k * 4) news) := veil hW1
  have T1 : Turned g w W1 := by rw [hW1]; exact (turned_drew g w).trans (Turned.sets g _ _ _)
  have inn : ∀ t, t < news.length → W1.cell? ⟨g, k * 4 + t, none⟩ = news[t]? := fun t ht => by
    rw [hW1, Nat.zero_add]
    have := World.cell?_setCells_in g news (k * 4) w.drew (fun j hj => by have := (unveil s3 j hj).1; rwa [Nat.zero_add] at this) t ht
    rw [this, List.getElem?_eq_getElem ht]
  have out : ∀ o, o < k * 4 ∨ k * 4 + news.length ≤ o → W1.cell? ⟨g, o, none⟩ = w.cell? ⟨g, o, none⟩ := fun o ho => by
    rw [hW1, Nat.zero_add]
    exact World.cell?_setCells_out g news (k * 4) w.drew ⟨g, o, none⟩ (fun _ _ => by simpa using ho)
  have f1 : ∀ o, W1.frozen? ⟨g, o, none⟩ = false := fun o => by rw [hW1, World.frozen?_setCells]; exact free o
  have ne : k + (ln - m) = ln - 1 := by omega
  have hcl : ∀ ty, (Builtin.clear_ #[86] ty #[.slice (some ⟨g, (ln - 1) * 4, none⟩) (ln - (ln - 1)) (c - (ln - 1))]).run Tryz.prog W1 = .ok (.tuple #[]) (W1.setCells g ((ln - 1) * 4) [.int .i64 0, .int .i64 0, .int .i64 0, .int .i64 0]) :=
    fun ty => by
      rw [show ln - (ln - 1) = 1 by omega]
      exact run_clear_one4 W1 g ((ln - 1) * 4) _ ty (fun j hj => by rw [out _ (by rw [hnl]; omega), cell _ (by omega)]; rfl) (fun j _ => f1 _)
  have HF : Hid (Turned g w (W1.setCells g ((ln - 1) * 4) [.int .i64 0, .int .i64 0, .int .i64 0, .int .i64 0]) ∧ ∀ j, j < 4 * (ln - 1) → (W1.setCells g ((ln - 1) * 4) [.int .i64 0, .int .i64 0, .int .i64 0, .int .i64 0]).cell? ⟨g, j, none⟩ = some (.int .i64 ((L.take (4 * k) ++ L.drop (4 * k + 4)).getD j 0))) := veil (by
    refine ⟨T1.trans (Turned.sets g _ _ _), fun j hj => ?_⟩
    rw [World.cell?_setCells_out g _ _ W1 ⟨g, j, none⟩ (fun _ _ => Or.inl (by show j < _; omega)), cut_at]
    rcases Nat.lt_or_ge j (4 * k) with h1 | h1
    · rw [if_pos ⟨h1, by omega⟩, out j (by omega)]
      exact cell j (by omega)
    · rw [if_neg (by omega), if_pos (by omega)]
      have := inn (j - k * 4) (by rw [hnl]; omega)
      rw [show k * 4 + (j - k * 4) = j by omega] at this
      rw [this, hget _ (by omega), show 4 * k + 4 + (j - k * 4) = j + 4 by omega])
  have hic : k ≤ c := by omega
  have hjc : m ≤ c := by omega
  have hjl : m ≤ ln := by omega
  have hkm : k < m := by omega
  have hkm' : ¬ k = m := by omega
  have Hmk := veil hmk
  clear hmk hmi hW1 T1 inn out f1 hget hnews hnl cell free hcells hs ht hlen h hg
  go_enter Tryz.func113, Tryz.ntmps113
  go_wp2_with fail
  go_region_law (refine step_append_room rfl (.tmp 22) (.tmp 25) 86 rfl 133 i2 4 Tryz.underlying86 hi2 hz21 g 0 k c (by simp [Act.eval, Act.put]) A (ln - m) (c - m) news (by simp [Act.eval, Act.put]) (unveil s1) (unveil hsrc) (unveil s2) (by omega) (unveil s3) ?_; rw [← unveil HW1, ne])
  all_goals go_wp2
  go_ret
  exact ⟨rfl, unveil HF⟩
end Go.Proofs.YtcdopnkabbfooaaGreat
