/- The walk of slices.Delete and of slices.Clone at loads. -/
import Derived.Test.YtmkbidglfnpgjaaPnI
import Derived.Lib.SliceRun
namespace Go.Proofs.Ytmkbidglfnpgjaa
open Go.RowKit

theorem heap_setP {w : World} {R o : Nat} {cs : Array Value} {T : TypeId} {v : Value} (h : w.heap[R]? = some (.cells cs T (0, 0))) : (w.setCell ⟨R, o, none⟩ v).heap[R]? = some (.cells (cs.set! o v) T (0, 0)) := by
  rw [setCell_eq_setRow w R o _ _ (0, 0) _ h, setRow_heap w R _ _ _ _ h]
  rfl
section
variable {R : Nat}
/-- a block's cells, all stored anew. -/
theorem heap_setCells_all : ∀ (vs : List Value) (o : Nat) (w : World) (cs : Array Value) (t : TypeId), w.heap[R]? = some (.cells cs t (0, 0)) → o + vs.length ≤ cs.size →
    ∃ cs', (w.setCells R o vs).heap[R]? = some (.cells cs' t (0, 0)) ∧ cs'.size = cs.size ∧ ∀ i, cs'[i]? = if o ≤ i ∧ i < o + vs.length then vs[i - o]? else cs[i]?
  | [], o, w, cs, t, h, _ => ⟨cs, h, rfl, fun i => by rw [if_neg (by simp)]⟩
  | v :: vs, o, w, cs, t, h, hl => by
    have h1 := heap_setP (o := o) (v := v) h
    simp only [List.length_cons] at hl
    obtain ⟨cs', h2, h3, h4⟩ := heap_setCells_all vs (o + 1) _ _ t h1 (by simp; omega)
    refine ⟨cs', h2, by simpa using h3, fun i => ?_⟩
    rw [h4]
    by_cases ha : o + 1 ≤ i ∧ i < o + 1 + vs.length
    · rw [if_pos ha, if_pos ⟨by omega, by simp; omega⟩, show i - o = (i - (o + 1)) + 1 by omega]
      rfl
    · rw [if_neg ha]
      by_cases hi : i = o
      · subst hi
        rw [if_pos ⟨by omega, by simp⟩]
        simp [show i < cs.size by omega]
      · rw [if_neg (by simp; omega)]
        simp [show ¬ o = i by omega]
end
theorem run_clear_one3 (w : World) (b o c : Nat) (ty : TypeId) (hc : ∀ j, j < 3 → (w.cell? ⟨b, o + j, none⟩).isSome = true) (hf : ∀ j, j < 3 → w.frozen? ⟨b, o + j, none⟩ = false) :
    (Builtin.clear_ #[22] ty #[.slice (some ⟨b, o, none⟩) 1 c]).run Try.prog w = .ok (.tuple #[]) (w.setCells b o [.int .i64 0, .int .i64 0, .int .i64 0]) := by
  have hst := run_storeCells_cells (P := Try.prog) b o [.int .i64 0, .int .i64 0, .int .i64 0] 0 w (by simpa using hc) (by simpa using hf) (by simp [Value.oneCell'])
  simp only [Nat.add_zero] at hst
  simp [Builtin.clear_, run_underlying Try.underlying22, Try.zeroValue41, Builtin.zeroCells, Value.cells]
  rw [show (List.map (fun i => ([Value.int IntKind.i64 0, Value.int IntKind.i64 0, Value.int IntKind.i64 0] : List Value)[i % 3]?.getD default) (List.range 3)) = [Value.int IntKind.i64 0, Value.int IntKind.i64 0, Value.int IntKind.i64 0] from rfl, hst]
  rfl
theorem cut_at3 (L : List Int) (k j : Nat) : (L.take (3 * k) ++ L.drop (3 * k + 3)).getD j 0 = if j < 3 * k ∧ j < L.length then L.getD j 0 else if 3 * k ≤ L.length then L.getD (j + 3) 0 else 0 := by
  simp only [List.getD_eq_getElem?_getD]
  rcases Nat.lt_or_ge j (3 * k) with h | h
  · rcases Nat.lt_or_ge j L.length with h2 | h2
    · rw [if_pos ⟨h, h2⟩, List.getElem?_append_left (by simp; omega), List.getElem?_take_of_lt h]
    · rw [if_neg (by omega), if_neg (by omega), List.getElem?_eq_none (by simp; omega)]
      rfl
  · rw [if_neg (by omega)]
    rcases Nat.lt_or_ge L.length (3 * k) with h2 | h2
    · rw [if_neg (by omega), List.getElem?_eq_none (by simp; omega)]
      rfl
    · rw [if_pos h2, List.getElem?_append_right (by simp; omega), List.getElem?_drop]
      congr 2
      simp
      omega

set_option maxRecDepth 20000 in
set_option maxHeartbeats 4000000 in
theorem delete_ld {w : World} {base g ln c : Nat} {L : List Int} (k : Nat) (h : w.ownsRow base 41 3 (.slice (some ⟨g, 0, none⟩) ln c) ln (L.map (Value.int .i64))) (hk : k < ln) :
    Calls Try.prog 35 #[.slice (some ⟨g, 0, none⟩) ln c, .int .i64 k, .int .i64 (k + 1)] w fun e w' => e = .returned (.slice (some ⟨g, 0, none⟩) (ln - 1) c) ∧ Turned g w w' ∧ (∀ j, j < 3 * (ln - 1) → w'.cell? ⟨g, j, none⟩ = some (.int .i64 ((L.take (3 * k) ++ L.drop (3 * k + 3)).getD j 0))) ∧ ∃ cs', w'.heap[g]? = some (.cells cs' 41 (0, 0)) ∧ cs'.size = c * 3 := by
  obtain ⟨i2, hi2, hz20, hz21, hz22⟩ := info_ofP Try.infoLoad
  have hcells := h.cells (g := g) rfl
  have hlen : L.length = ln * 3 := by have := h.1; simpa using this
  rcases h.2 with ⟨h0, _⟩ | ⟨g', cap, cur, e, _, hg, hc, hm, hs, ht⟩
  · cases h0
  cases e
  have cell : ∀ j, j < ln * 3 → w.cell? ⟨g, j, none⟩ = some (.int .i64 (L.getD j 0)) := fun j hj => by
    have := hcells j (.int .i64 (L.getD j 0)) (by simp [List.getElem?_eq_getElem (show j < L.length by omega)])
    simpa [Addr.add_mid] using this
  have free : ∀ o, w.frozen? ⟨g, o, none⟩ = false := fun o => by simp [World.frozen?, hg]
  unfold maxLen at hm
  obtain ⟨news, hnews⟩ : ∃ news, news = (L.drop (3 * k + 3)).map (Value.int .i64) := ⟨_, rfl⟩
  have hnl : news.length = (ln - (k + 1)) * 3 := by rw [hnews]; simp; omega
  have hget : ∀ t, t < (ln - (k + 1)) * 3 → news[t]? = some (.int .i64 (L.getD (3 * k + 3 + t) 0)) := fun t ht => by
    rw [hnews]; simp [List.getElem?_eq_getElem (show 3 * k + 3 + t < L.length by omega)]
  obtain ⟨m, hmk⟩ : ∃ m, m = k + 1 := ⟨_, rfl⟩
  have hmi : (k : Int) + 1 = (m : Int) := by omega
  rw [hmi]
  rw [← hmk] at hnl hget
  obtain ⟨A, hA, hsrc⟩ : ∃ A : Addr, (if c = m then some (⟨g, 0, none⟩ : Addr) else some ⟨g, m * 3, none⟩) = some A ∧ Hid (∀ t u, news[t]? = some u → w.drew.cell? (A.add t) = some u) := by
    by_cases hh : c = m
    · refine ⟨⟨g, 0, none⟩, by simp [hh], veil fun t u hu => ?_⟩
      have h0 : news.length = 0 := by rw [hnl]; omega
      rw [List.length_eq_zero_iff.1 h0] at hu
      simp at hu
    · refine ⟨⟨g, m * 3, none⟩, by simp [hh], veil fun t u hu => ?_⟩
      have ht : t < (ln - m) * 3 := by
        have := (List.getElem?_eq_some_iff.1 hu).1
        rwa [hnl] at this
      rw [hget t ht] at hu
      cases hu
      rw [Addr.add_mid, show m * 3 + t = 3 * k + 3 + t by omega]
      exact cell (3 * k + 3 + t) (by omega)
  have s2 : Hid (∀ u ∈ news, u.oneCell' = true) := veil (by
    intro u hu
    rw [hnews] at hu
    obtain ⟨x, _, rfl⟩ := List.mem_map.1 hu
    rfl)
  have s3 : Hid (∀ t, t < news.length → (w.drew.cell? ⟨g, 0 + k * 3 + t, none⟩).isSome = true ∧ w.drew.frozen? ⟨g, 0 + k * 3 + t, none⟩ = false) := veil (by
    intro t ht
    rw [hnl] at ht
    exact ⟨by show (w.cell? _).isSome = true; rw [Nat.zero_add, cell _ (by omega)]; rfl, free _⟩)
  have s1 : Hid (news.length = (ln - m) * 3) := veil hnl
  obtain ⟨W1, hW1⟩ : ∃ W1, W1 = w.drew.setCells g (0 + k * 3) news := ⟨_, rfl⟩
  have HW1 : Hid (W1 = w.drew.setCells g (0 + k * 3) news) := veil hW1
  have T1 : Turned g w W1 := by rw [hW1]; exact (turned_drew g w).trans (Turned.sets g _ _ _)
  have inn : ∀ t, t < news.length → W1.cell? ⟨g, k * 3 + t, none⟩ = news[t]? := fun t ht => by
    rw [hW1, Nat.zero_add]
    have := World.cell?_setCells_in g news (k * 3) w.drew (fun j hj => by have := (unveil s3 j hj).1; rwa [Nat.zero_add] at this) t ht
    rw [this, List.getElem?_eq_getElem ht]
  have out : ∀ o, o < k * 3 ∨ k * 3 + news.length ≤ o → W1.cell? ⟨g, o, none⟩ = w.cell? ⟨g, o, none⟩ := fun o ho => by
    rw [hW1, Nat.zero_add]
    exact World.cell?_setCells_out g news (k * 3) w.drew ⟨g, o, none⟩ (fun _ _ => by simpa using ho)
  have f1 : ∀ o, W1.frozen? ⟨g, o, none⟩ = false := fun o => by rw [hW1, World.frozen?_setCells]; exact free o
  have ne : k + (ln - m) = ln - 1 := by omega
  have hcl : ∀ ty, (Builtin.clear_ #[22] ty #[.slice (some ⟨g, (ln - 1) * 3, none⟩) (ln - (ln - 1)) (c - (ln - 1))]).run Try.prog W1 = .ok (.tuple #[]) (W1.setCells g ((ln - 1) * 3) [.int .i64 0, .int .i64 0, .int .i64 0]) :=
    fun ty => by
      rw [show ln - (ln - 1) = 1 by omega]
      exact run_clear_one3 W1 g ((ln - 1) * 3) _ ty (fun j hj => by rw [out _ (by rw [hnl]; omega), cell _ (by omega)]; rfl) (fun j _ => f1 _)
  have HF : Hid (Turned g w (W1.setCells g ((ln - 1) * 3) [.int .i64 0, .int .i64 0, .int .i64 0]) ∧ (∀ j, j < 3 * (ln - 1) → (W1.setCells g ((ln - 1) * 3) [.int .i64 0, .int .i64 0, .int .i64 0]).cell? ⟨g, j, none⟩ = some (.int .i64 ((L.take (3 * k) ++ L.drop (3 * k + 3)).getD j 0))) ∧ ∃ cs', (W1.setCells g ((ln - 1) * 3) [.int .i64 0, .int .i64 0, .int .i64 0]).heap[g]? = some (.cells cs' 41 (0, 0)) ∧ cs'.size = c * 3) := veil (by
    obtain ⟨cs1, g1, s1', _⟩ := heap_setCells_all (R := g) news (0 + k * 3) w.drew cur 41 hg (by rw [hnl, hs]; omega)
    rw [← hW1] at g1
    obtain ⟨cs2, g2, s2', _⟩ := heap_setCells_all (R := g) [.int .i64 0, .int .i64 0, .int .i64 0] ((ln - 1) * 3) W1 cs1 41 g1 (by rw [s1', hs]; simp; omega)
    refine ⟨T1.trans (Turned.sets g _ _ _), fun j hj => ?_, cs2, g2, by rw [s2', s1', hs]⟩
    rw [World.cell?_setCells_out g _ _ W1 ⟨g, j, none⟩ (fun _ _ => Or.inl (by show j < _; omega)), cut_at3]
    rcases Nat.lt_or_ge j (3 * k) with h1 | h1
    · rw [if_pos ⟨h1, by omega⟩, out j (by omega)]
      exact cell j (by omega)
    · rw [if_neg (by omega), if_pos (by omega)]
      have := inn (j - k * 3) (by rw [hnl]; omega)
      rw [show k * 3 + (j - k * 3) = j by omega] at this
      rw [this, hget _ (by omega), show 3 * k + 3 + (j - k * 3) = j + 3 by omega])
  have hic : k ≤ c := by omega
  have hjc : m ≤ c := by omega
  have hjl : m ≤ ln := by omega
  have hkm : k < m := by omega
  have hkm' : ¬ k = m := by omega
  have Hmk := veil hmk
  clear hmk hmi hW1 T1 inn out f1 hget hnews hnl cell free hcells hs ht hlen h hg
  go_enter Try.func35, Try.ntmps35
  go_wp2_with fail
  go_region_law (refine step_append_room rfl (.tmp 22) (.tmp 25) 22 rfl 41 i2 3 Try.underlying22 hi2 hz21 g 0 k c (by simp [Act.eval, Act.put]) A (ln - m) (c - m) news (by simp [Act.eval, Act.put]) (unveil s1) (unveil hsrc) (unveil s2) (by omega) (unveil s3) ?_; rw [← unveil HW1, ne])
  all_goals go_wp2
  go_ret
  exact ⟨rfl, unveil HF⟩
theorem erase_flat (l : List Ld) (k : Nat) : (ldFlat l).take (3 * k) ++ (ldFlat l).drop (3 * k + 3) = ldFlat (l.eraseIdx k) := by
  rw [show 3 * k + 3 = 3 * (k + 1) by omega, ldFlat_take, ldFlat_drop, ← ldFlat_append, List.eraseIdx_eq_take_drop_succ]
/-- loads in memory of one's own. -/
def ldOwn (w : World) (base : Nat) (v : Value) (l : List Ld) : Prop := w.ownsRow base 41 3 v l.length ((ldFlat l).map (Value.int .i64))
theorem delete_own {w : World} {base g c : Nat} {l : List Ld} (k : Nat) (h : ldOwn w base (.slice (some ⟨g, 0, none⟩) l.length c) l) (hk : k < l.length) :
    Calls Try.prog 35 #[.slice (some ⟨g, 0, none⟩) l.length c, .int .i64 k, .int .i64 (k + 1)] w fun e w' => e = .returned (.slice (some ⟨g, 0, none⟩) (l.length - 1) c) ∧ Turned g w w' ∧ ldOwn w' base (.slice (some ⟨g, 0, none⟩) (l.length - 1) c) (l.eraseIdx k) := by
  refine (delete_ld k h hk).mono ?_
  rintro e w' ⟨rfl, T, cells, cs, hg, hs⟩
  have hlen : (l.eraseIdx k).length = l.length - 1 := List.length_eraseIdx_of_lt hk
  rcases h.2 with ⟨h0, _⟩ | ⟨g', cap, cur, e, hb, _, hc, hm, _, _⟩
  · cases h0
  cases e
  refine ⟨rfl, T, ?_, .inr ⟨g, c, cs, by rw [hlen], hb, hg, by rw [hlen]; omega, hm, hs, ?_⟩⟩
  · rw [List.length_map, ldFlat_len]; omega
  · rw [hlen]
    apply List.ext_getElem?
    intro j
    rw [erase_flat] at cells
    by_cases hj : j < 3 * (l.length - 1)
    · have := cells j hj
      simp only [World.cell?, hg] at this
      rw [List.getElem?_take_of_lt (by omega), Array.getElem?_toList, List.getElem?_map, List.getElem?_eq_getElem (by rw [ldFlat_len, hlen]; exact hj)]
      rw [List.getD_eq_getElem?_getD, List.getElem?_eq_getElem (by rw [ldFlat_len, hlen]; exact hj)] at this
      simpa using this
    · rw [List.getElem?_eq_none (by simp; omega), List.getElem?_eq_none (by rw [List.length_map, ldFlat_len, hlen]; omega)]
set_option maxRecDepth 20000 in
theorem clone_ld (a : Option Addr) (c : Nat) (l : List Ld) (w : World) (hA : RowK .i64 w a (3 * l.length) (ldFlat l)) (hn : a = none → c = 0) (hs : l.length * 24 ≤ 140737488351232) :
    Calls Try.prog 28 #[.slice a l.length c] w fun e w' => ∃ v, e = .returned v ∧ ldOwn w' w.heap.size v l ∧ Below w.heap.size w w' := by
  obtain ⟨i2, hi2, hz20, hz21, hz22⟩ := info_ofP Try.infoLoad
  cases a with
  | none =>
    have hl : l = [] := by
      rcases Nat.eq_zero_or_pos l.length with h | h
      · exact List.length_eq_zero_iff.1 h
      · obtain ⟨_, _, h', _⟩ := hA.cell 0 (by omega); cases h'
    subst hl
    have q : ∀ (w : World) (n c n' c' : Nat), (binOp .eql 22 (.slice none n c) (.slice none n' c')).run Try.prog w = .ok (.bool true) w := fun w n c n' c' => Lib.run_eql_slice_nil w _ _ none n c n' c' Try.underlying22
    go_enter Try.func28, Try.ntmps28
    go_wp2
    go_ret
    exact ⟨_, rfl, World.ownsRow_nil _ _ _ _, Below.refl _ _⟩
  | some x =>
    have q : ∀ (w : World) (n c n' c' : Nat), (binOp .eql 22 (.slice (some x) n c) (.slice none n' c')).run Try.prog w = .ok (.bool false) w := fun w n c n' c' => Lib.run_eql_slice_nil w _ _ (some x) n c n' c' Try.underlying22
    have HF : Hid (∀ v' w' w1, w1.ownsRow w.heap.size 41 3 (.slice (some ⟨w.heap.size, 0, none⟩) 0 0) 0 [] → Below w.heap.size w w1 → w'.ownsRow w.heap.size 41 3 v' l.length ((ldFlat l).map (Value.int .i64)) → w1.grownBy w' (some w.heap.size) → ldOwn w' w.heap.size v' l ∧ Below w.heap.size w w') := veil (by
      intro v' w' w1 o1 b1 own grow
      exact ⟨own, b1.grown grow b1.size (fun q hq => by cases hq; exact Nat.le_refl _)⟩)
    have O1 : Hid ((w.alloc (.cells #[] 41)).ownsRow w.heap.size 41 3 (.slice (some ⟨w.heap.size, 0, none⟩) 0 0) 0 []) := veil (World.ownsRow_made w #[] 0 (Nat.le_refl _) (Nat.zero_le _) (by simp))
    have B1 : Hid (Below w.heap.size w (w.alloc (.cells #[] 41))) := veil (below1 _ _)
    have RA := veil (hA.below (unveil B1))
    clear hA
    generalize l.length = n at *
    generalize ldFlat l = D at *
    go_enter Try.func28, Try.ntmps28
    go_wp2_with (at_builtin; refine wpList_append_rows rfl _ _ 22 rfl w.heap.size 41 i2 _ 3 24 Try.underlying22 hi2 hz20 hz21 hz22 rfl (by decide) (.slice (some ⟨w.heap.size, 0, none⟩) 0 0) 0 [] rfl (unveil O1) (some x) n c D rfl (unveil RA) hn (by unfold maxLen; omega) (by omega) (unveil B1).size ?_; intro v' w4 own4 grow4; rw [List.nil_append, Nat.zero_add] at own4; have R := veil (unveil HF v' w4 _ (unveil O1) (unveil B1) own4 grow4); clear own4 grow4)
    go_ret
    exact ⟨v', rfl, unveil R⟩
end Go.Proofs.Ytmkbidglfnpgjaa
