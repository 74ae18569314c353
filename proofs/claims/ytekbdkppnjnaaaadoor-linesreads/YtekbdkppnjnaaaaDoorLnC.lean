/- Walk of lines.numbers at a Call, and whatever the act. -/
import Derived.Test.YtekbdkppnjnaaaaDoorLnB
import Derived.Deep.RegionHeld3
namespace Go.Proofs.YtekbdkppnjnaaaaDoor
open Go.RowKit

theorem ite_wanted {c : Bool} {A B : Prop} (h : c = true) (a : A) : if c = true then A else B := by rw [if_pos h]; exact a
theorem wp_append_ptrs {P : Program} {w : World} {o : Oper} {a : Act} {K : Act → World → Prop} {Q : Exit → Act → World → Prop} (s x : Operand) (t : TypeId)
    (ho : o.op = .call { callee := .builtin .append, args := #[s, x], argTypes := #[t, t] })
    (base : Nat) (e : TypeId) (i : TypeInfo) (z : Value) (bytes : Nat) (ht : P.underlying t = some (.slice e)) (hi : P.info? e = some i) (hz : i.zero = some z)
    (hsize : i.size = 1) (hby : i.bytes = bytes) (hzs : z.cells.size = 1)
    (v : Value) (n : Nat) (xs : List Value) (hs : a.eval s = v) (hown : w.ownsRow base e 1 v n xs)
    (ad : Addr) (m c : Nat) (l : List Value) (hx : a.eval x = .slice (some ad) m c) (hl : l.length = m) (hnews : ∀ j u, l[j]? = some u → w.cell? (ad.add j) = some u) (h1 : ∀ u ∈ l, u.oneCell' = true)
    (h63 : n + m ≤ maxLen) (hbytes : (n + m) * bytes ≤ 140737488355328) (hbase : base ≤ w.heap.size)
    (h : ∀ v' w', w'.ownsRow base e 1 v' (n + m) (xs ++ l) → w.grownBy w' v.ownBlock → K (a.put o.dst v') w') : o.wp P a w K Q :=
  wp_append_own w s x t ho base e i z 1 bytes ht hi hz hsize hby hzs (by decide) v n _ hs hown ad m c l hx (by omega) hnews h1 h63 hbytes hbase (fun v' w' h1 h2 _ => h v' w' h1 h2)
theorem wp_append_nil {P : Program} {w : World} {o : Oper} {a : Act} {K : Act → World → Prop} {Q : Exit → Act → World → Prop} (s x : Operand) (t : TypeId)
    (ho : o.op = .call { callee := .builtin .append, args := #[s, x], argTypes := #[t, t] })
    (base : Nat) (e : TypeId) (i : TypeInfo) (size : Nat) (ht : P.underlying t = some (.slice e)) (hi : P.info? e = some i)
    (v : Value) (n : Nat) (xs : List Value) (hs : a.eval s = v) (hown : w.ownsRow base e size v n xs) (hx : a.eval x = .slice none 0 0)
    (h : K (a.put o.dst v) w) : o.wp P a w K Q := by
  have hrun := run_append_owned_none (P := P) (w := w) base t o.type e i size ht hi v n xs hown
  unfold Oper.wp
  simp [execOp, ho, resolve, invoke, builtin, hs, hx, hrun, Result.andThen]
  exact h
theorem below_drew (w : World) : Below w.heap.size w w.drew := (Below.refl _ _).drew
set_option maxRecDepth 20000 in
set_option maxHeartbeats 1000000 in
theorem numbers_2_other (B : Nat) (f : Nat → Int) (w : World) (hb : aBlock w B f) (h0 : f 0 = 2) (h1 : ¬ f 5 = 1) (h3 : ¬ f 5 = 3) :
    Calls Tryd.prog 38 #[ptr B 0] w fun e w' => ∃ v, e = .returned v ∧ pRow w' w.heap.size v B [1, 2] ∧ Below w.heap.size w w' := by
  obtain ⟨i3, hi3, hz30, hz31, hz32⟩ := info_of Tryd.infoPtr
  have x0 := hb.cell 0 (by omega)
  rw [h0] at x0
  have HC : Hid (∀ u, Below w.heap.size w u → Calls Tryd.prog 53 #[ptr B 5] u fun e w' => e = .returned (.slice none 0 0) ∧ w' = u) := veil fun u b => numbersOfOp_other B f u (hb.next b) h1 h3
  clear hb h0
  go_enter Tryd.func38, Tryd.ntmps38
  go_wp2_with fail
  refine wp_region_held_drew (S := Below w.heap.size w) (by kernel_rfl) (below_drew w) (fun hHeld => ?_)
  refine wpAnyH_take (i := 0) (v := ptr B 0) rfl (by kernel_rfl) (by kernel_rfl) (by kernel_rfl) (fun _ _ _ h => h) (Or.inl ⟨by rfl, fun _ _ => by go_simp⟩) hHeld ?_
  simp only [List.getElem_toArray, List.getElem_cons_zero, Act.put, List.setIfInBounds_toArray, List.set_cons_zero, List.set_cons_succ]
  refine wpAnyH_take (i := 1) (v := ptr B 0) rfl (by kernel_rfl) (by kernel_rfl) (by kernel_rfl) (fun _ _ _ h => h) (Or.inl ⟨by rfl, fun _ _ => by go_simp⟩) hHeld ?_
  simp only [List.getElem_toArray, List.getElem_cons_zero, List.getElem_cons_succ, Act.put, List.setIfInBounds_toArray, List.set_cons_zero, List.set_cons_succ]
  refine wpAnyH_take (i := 2) (v := ptr B 1) rfl (by kernel_rfl) (by kernel_rfl) (by kernel_rfl) (fun _ _ _ h => h) (Or.inl ⟨by rfl, fun _ _ => by go_simp⟩) hHeld ?_
  simp only [List.getElem_toArray, List.getElem_cons_zero, List.getElem_cons_succ, Act.put, List.setIfInBounds_toArray, List.set_cons_zero, List.set_cons_succ]
  refine wpAnyH_take (i := 3) (v := ptr B 0) rfl (by kernel_rfl) (by kernel_rfl) (by kernel_rfl) (fun _ _ _ h => h) (Or.inl ⟨by rfl, fun _ _ => by go_simp⟩) hHeld ?_
  simp only [List.getElem_toArray, List.getElem_cons_zero, List.getElem_cons_succ, Act.put, List.setIfInBounds_toArray, List.set_cons_zero, List.set_cons_succ]
  refine wpAnyH_take (i := 4) (v := ptr B 0) rfl (by kernel_rfl) (by kernel_rfl) (by kernel_rfl) (fun _ _ _ h => h) (Or.inl ⟨by rfl, fun _ _ => by go_simp⟩) hHeld ?_
  simp only [List.getElem_toArray, List.getElem_cons_zero, List.getElem_cons_succ, Act.put, List.setIfInBounds_toArray, List.set_cons_zero, List.set_cons_succ]
  refine wpAnyH_take (i := 5) (v := ptr B 2) rfl (by kernel_rfl) (by kernel_rfl) (by kernel_rfl) (fun _ _ _ h => h) (Or.inl ⟨by rfl, fun _ _ => by go_simp⟩) hHeld ?_
  simp only [List.getElem_toArray, List.getElem_cons_zero, List.getElem_cons_succ, Act.put, List.setIfInBounds_toArray, List.set_cons_zero, List.set_cons_succ]
  refine wpAnyH_take (i := 7) (v := ptr B 0) rfl (by kernel_rfl) (by kernel_rfl) (by kernel_rfl) (fun _ _ _ h => h) (Or.inl ⟨by rfl, fun _ _ => by go_simp⟩) hHeld ?_
  simp only [List.getElem_toArray, List.getElem_cons_zero, List.getElem_cons_succ, Act.put, List.setIfInBounds_toArray, List.set_cons_zero, List.set_cons_succ]
  refine wpAnyH_take (i := 8) (v := ptr B 0) rfl (by kernel_rfl) (by kernel_rfl) (by kernel_rfl) (fun _ _ _ h => h) (Or.inl ⟨by rfl, fun _ _ => by go_simp⟩) hHeld ?_
  simp only [List.getElem_toArray, List.getElem_cons_zero, List.getElem_cons_succ, Act.put, List.setIfInBounds_toArray, List.set_cons_zero, List.set_cons_succ]
  refine wpAnyH_take (i := 9) (v := ptr B 5) rfl (by kernel_rfl) (by kernel_rfl) (by kernel_rfl) (fun _ _ _ h => h) (Or.inl ⟨by rfl, fun _ _ => by go_simp⟩) hHeld ?_
  simp only [List.getElem_toArray, List.getElem_cons_zero, List.getElem_cons_succ, Act.put, List.setIfInBounds_toArray, List.set_cons_zero, List.set_cons_succ]
  have bW0 := below_drew w
  obtain ⟨W0, hW0⟩ : ∃ W0, W0 = w.drew := ⟨_, rfl⟩
  rw [← hW0] at bW0 hHeld ⊢
  clear hW0
  refine wpAnyH_ready (rs := [6, 10]) (by kernel_rfl) (by simp) ?_
  refine AllReadyH.cons rfl (fun K hK => ?_) (AllReadyH.cons rfl (fun K hK => ?_) AllReadyH.nil)
  · simp only [List.getElem_toArray, List.getElem_cons_zero, List.getElem_cons_succ]
    go_simp
    have ow : (W0.alloc (.cells #[ptr B 1, ptr B 2] 83)).ownsRow w.heap.size 83 1 (.slice (some ⟨W0.heap.size, 0, none⟩) 2 2) 2 [ptr B 1, ptr B 2] := pRow.lit W0 w.heap.size B [1, 2] _ bW0.size rfl (by decide)
    have bW1 := Below.next bW0 (below1 W0 (.cells #[ptr B 1, ptr B 2] 83))
    obtain ⟨L, hLe, hL⟩ : ∃ L, L = W0.heap.size ∧ w.heap.size ≤ L := ⟨_, rfl, bW0.size⟩
    rw [← hLe] at ow ⊢
    obtain ⟨W1, hW1⟩ : ∃ W1, W1 = W0.alloc (.cells #[ptr B 1, ptr B 2] 83) := ⟨_, rfl⟩
    rw [← hW1] at ow bW1 ⊢
    clear hW1 hLe
    refine hK.out _ _ bW1 (fun hHeld => ?_)
    clear hK K
    refine wpAnyH_ready (rs := [10]) (by kernel_rfl) (by simp) ?_
    refine AllReadyH.cons rfl (fun K hK => ?_) AllReadyH.nil
    simp only [List.getElem_toArray, List.getElem_cons_zero, List.getElem_cons_succ]
    go_simp
    refine (unveil HC W1 bW1).mono ?_
    rintro e W2 ⟨rfl, hn⟩
    subst hn
    refine hK.out _ _ bW1 (fun hHeld => ?_)
    clear hK K
    refine wpAnyH_ready (rs := [11]) (by kernel_rfl) (by simp) ?_
    refine AllReadyH.cons rfl (fun K hK => ?_) AllReadyH.nil
    simp only [List.getElem_toArray, List.getElem_cons_zero, List.getElem_cons_succ]
    refine ite_wanted rfl ?_
    refine wp_append_nil (.tmp 49) (.tmp 53) 80 rfl w.heap.size 83 i3 1 Tryd.underlying80 hi3 (.slice (some ⟨L, 0, none⟩) 2 2) 2 [ptr B 1, ptr B 2] rfl ow rfl ?_
    refine hK.out _ _ bW1 (fun hHeld => ?_)
    clear hK K
    refine wpAnyH_take (i := 12) (v := .slice (some ⟨L, 0, none⟩) 2 2) rfl (by kernel_rfl) (by kernel_rfl) (by kernel_rfl) (fun _ _ _ h => h) (Or.inl ⟨by rfl, fun _ _ => by go_simp⟩) hHeld ?_
    simp only [List.getElem_toArray, List.getElem_cons_zero, List.getElem_cons_succ, Act.put, List.setIfInBounds_toArray, List.set_cons_zero, List.set_cons_succ]
    refine wpAnyH_done (by kernel_rfl) ?_ _
    go_wp2_with fail
    go_ret
    exact ⟨_, rfl, ow, bW1⟩
  · simp only [List.getElem_toArray, List.getElem_cons_zero, List.getElem_cons_succ]
    go_simp
    refine (unveil HC W0 bW0).mono ?_
    rintro e W1 ⟨rfl, hn⟩
    subst hn
    refine hK.out _ _ bW0 (fun hHeld => ?_)
    clear hK K
    refine wpAnyH_ready (rs := [6]) (by kernel_rfl) (by simp) ?_
    refine AllReadyH.cons rfl (fun K hK => ?_) AllReadyH.nil
    simp only [List.getElem_toArray, List.getElem_cons_zero, List.getElem_cons_succ]
    go_simp
    have ow : (W1.alloc (.cells #[ptr B 1, ptr B 2] 83)).ownsRow w.heap.size 83 1 (.slice (some ⟨W1.heap.size, 0, none⟩) 2 2) 2 [ptr B 1, ptr B 2] := pRow.lit W1 w.heap.size B [1, 2] _ bW0.size rfl (by decide)
    have bW2 := Below.next bW0 (below1 W1 (.cells #[ptr B 1, ptr B 2] 83))
    obtain ⟨L, hLe, hL⟩ : ∃ L, L = W1.heap.size ∧ w.heap.size ≤ L := ⟨_, rfl, bW0.size⟩
    rw [← hLe] at ow ⊢
    obtain ⟨W2, hW2⟩ : ∃ W2, W2 = W1.alloc (.cells #[ptr B 1, ptr B 2] 83) := ⟨_, rfl⟩
    rw [← hW2] at ow bW2 ⊢
    clear hW2 hLe
    refine hK.out _ _ bW2 (fun hHeld => ?_)
    clear hK K
    refine wpAnyH_ready (rs := [11]) (by kernel_rfl) (by simp) ?_
    refine AllReadyH.cons rfl (fun K hK => ?_) AllReadyH.nil
    simp only [List.getElem_toArray, List.getElem_cons_zero, List.getElem_cons_succ]
    refine ite_wanted rfl ?_
    refine wp_append_nil (.tmp 49) (.tmp 53) 80 rfl w.heap.size 83 i3 1 Tryd.underlying80 hi3 (.slice (some ⟨L, 0, none⟩) 2 2) 2 [ptr B 1, ptr B 2] rfl ow rfl ?_
    refine hK.out _ _ bW2 (fun hHeld => ?_)
    clear hK K
    refine wpAnyH_take (i := 12) (v := .slice (some ⟨L, 0, none⟩) 2 2) rfl (by kernel_rfl) (by kernel_rfl) (by kernel_rfl) (fun _ _ _ h => h) (Or.inl ⟨by rfl, fun _ _ => by go_simp⟩) hHeld ?_
    simp only [List.getElem_toArray, List.getElem_cons_zero, List.getElem_cons_succ, Act.put, List.setIfInBounds_toArray, List.set_cons_zero, List.set_cons_succ]
    refine wpAnyH_done (by kernel_rfl) ?_ _
    go_wp2_with fail
    go_ret
    exact ⟨_, rfl, ow, bW2⟩
set_option maxRecDepth 20000 in
set_option maxHeartbeats 1000000 in
theorem numbers_2_pub (B : Nat) (f : Nat → Int) (w : World) (hb : aBlock w B f) (h0 : f 0 = 2) (h5 : f 5 = 1) :
    Calls Tryd.prog 38 #[ptr B 0] w fun e w' => ∃ v, e = .returned v ∧ pRow w' w.heap.size v B [1, 2, 6, 7, 8] ∧ Below w.heap.size w w' := by
  obtain ⟨i3, hi3, hz30, hz31, hz32⟩ := info_of Tryd.infoPtr
  have x0 := hb.cell 0 (by omega)
  rw [h0] at x0
  have HC : Hid (∀ u, Below w.heap.size w u → Calls Tryd.prog 53 #[ptr B 5] u fun e w' => ∃ X, e = .returned (.slice (some ⟨X, 0, none⟩) 3 3) ∧ u.heap.size ≤ X ∧ w'.heap[X]? = some (.cells #[ptr B 6, ptr B 7, ptr B 8] 83 (0, 0)) ∧ Below u.heap.size u w') := veil fun u b => numbersOfOp_pub B f u (hb.next b) h5
  clear hb h0
  go_enter Tryd.func38, Tryd.ntmps38
  go_wp2_with fail
  refine wp_region_held_drew (S := Below w.heap.size w) (by kernel_rfl) (below_drew w) (fun hHeld => ?_)
  refine wpAnyH_take (i := 0) (v := ptr B 0) rfl (by kernel_rfl) (by kernel_rfl) (by kernel_rfl) (fun _ _ _ h => h) (Or.inl ⟨by rfl, fun _ _ => by go_simp⟩) hHeld ?_
  simp only [List.getElem_toArray, List.getElem_cons_zero, Act.put, List.setIfInBounds_toArray, List.set_cons_zero, List.set_cons_succ]
  refine wpAnyH_take (i := 1) (v := ptr B 0) rfl (by kernel_rfl) (by kernel_rfl) (by kernel_rfl) (fun _ _ _ h => h) (Or.inl ⟨by rfl, fun _ _ => by go_simp⟩) hHeld ?_
  simp only [List.getElem_toArray, List.getElem_cons_zero, List.getElem_cons_succ, Act.put, List.setIfInBounds_toArray, List.set_cons_zero, List.set_cons_succ]
  refine wpAnyH_take (i := 2) (v := ptr B 1) rfl (by kernel_rfl) (by kernel_rfl) (by kernel_rfl) (fun _ _ _ h => h) (Or.inl ⟨by rfl, fun _ _ => by go_simp⟩) hHeld ?_
  simp only [List.getElem_toArray, List.getElem_cons_zero, List.getElem_cons_succ, Act.put, List.setIfInBounds_toArray, List.set_cons_zero, List.set_cons_succ]
  refine wpAnyH_take (i := 3) (v := ptr B 0) rfl (by kernel_rfl) (by kernel_rfl) (by kernel_rfl) (fun _ _ _ h => h) (Or.inl ⟨by rfl, fun _ _ => by go_simp⟩) hHeld ?_
  simp only [List.getElem_toArray, List.getElem_cons_zero, List.getElem_cons_succ, Act.put, List.setIfInBounds_toArray, List.set_cons_zero, List.set_cons_succ]
  refine wpAnyH_take (i := 4) (v := ptr B 0) rfl (by kernel_rfl) (by kernel_rfl) (by kernel_rfl) (fun _ _ _ h => h) (Or.inl ⟨by rfl, fun _ _ => by go_simp⟩) hHeld ?_
  simp only [List.getElem_toArray, List.getElem_cons_zero, List.getElem_cons_succ, Act.put, List.setIfInBounds_toArray, List.set_cons_zero, List.set_cons_succ]
  refine wpAnyH_take (i := 5) (v := ptr B 2) rfl (by kernel_rfl) (by kernel_rfl) (by kernel_rfl) (fun _ _ _ h => h) (Or.inl ⟨by rfl, fun _ _ => by go_simp⟩) hHeld ?_
  simp only [List.getElem_toArray, List.getElem_cons_zero, List.getElem_cons_succ, Act.put, List.setIfInBounds_toArray, List.set_cons_zero, List.set_cons_succ]
  refine wpAnyH_take (i := 7) (v := ptr B 0) rfl (by kernel_rfl) (by kernel_rfl) (by kernel_rfl) (fun _ _ _ h => h) (Or.inl ⟨by rfl, fun _ _ => by go_simp⟩) hHeld ?_
  simp only [List.getElem_toArray, List.getElem_cons_zero, List.getElem_cons_succ, Act.put, List.setIfInBounds_toArray, List.set_cons_zero, List.set_cons_succ]
  refine wpAnyH_take (i := 8) (v := ptr B 0) rfl (by kernel_rfl) (by kernel_rfl) (by kernel_rfl) (fun _ _ _ h => h) (Or.inl ⟨by rfl, fun _ _ => by go_simp⟩) hHeld ?_
  simp only [List.getElem_toArray, List.getElem_cons_zero, List.getElem_cons_succ, Act.put, List.setIfInBounds_toArray, List.set_cons_zero, List.set_cons_succ]
  refine wpAnyH_take (i := 9) (v := ptr B 5) rfl (by kernel_rfl) (by kernel_rfl) (by kernel_rfl) (fun _ _ _ h => h) (Or.inl ⟨by rfl, fun _ _ => by go_simp⟩) hHeld ?_
  simp only [List.getElem_toArray, List.getElem_cons_zero, List.getElem_cons_succ, Act.put, List.setIfInBounds_toArray, List.set_cons_zero, List.set_cons_succ]
  have bW0 := below_drew w
  obtain ⟨W0, hW0⟩ : ∃ W0, W0 = w.drew := ⟨_, rfl⟩
  rw [← hW0] at bW0 hHeld ⊢
  clear hW0
  refine wpAnyH_ready (rs := [6, 10]) (by kernel_rfl) (by simp) ?_
  refine AllReadyH.cons rfl (fun K hK => ?_) (AllReadyH.cons rfl (fun K hK => ?_) AllReadyH.nil)
  · simp only [List.getElem_toArray, List.getElem_cons_zero, List.getElem_cons_succ]
    go_simp
    have ow : (W0.alloc (.cells #[ptr B 1, ptr B 2] 83)).ownsRow w.heap.size 83 1 (.slice (some ⟨W0.heap.size, 0, none⟩) 2 2) 2 [ptr B 1, ptr B 2] := pRow.lit W0 w.heap.size B [1, 2] _ bW0.size rfl (by decide)
    have bW1 := Below.next bW0 (below1 W0 (.cells #[ptr B 1, ptr B 2] 83))
    obtain ⟨L, hLe, hL⟩ : ∃ L, L = W0.heap.size ∧ w.heap.size ≤ L := ⟨_, rfl, bW0.size⟩
    rw [← hLe] at ow ⊢
    obtain ⟨W1, hW1⟩ : ∃ W1, W1 = W0.alloc (.cells #[ptr B 1, ptr B 2] 83) := ⟨_, rfl⟩
    rw [← hW1] at ow bW1 ⊢
    clear hW1 hLe
    refine hK.out _ _ bW1 (fun hHeld => ?_)
    clear hK K
    refine wpAnyH_ready (rs := [10]) (by kernel_rfl) (by simp) ?_
    refine AllReadyH.cons rfl (fun K hK => ?_) AllReadyH.nil
    simp only [List.getElem_toArray, List.getElem_cons_zero, List.getElem_cons_succ]
    go_simp
    refine (unveil HC W1 bW1).mono ?_
    rintro e W2 ⟨X, rfl, hX0, hX, bn⟩
    have bW2 := Below.next bW1 bn
    have ow2 := own_still ow (fun g _ hg => bn.block g hg)
    refine hK.out _ _ bW2 (fun hHeld => ?_)
    clear hK K
    refine wpAnyH_ready (rs := [11]) (by kernel_rfl) (by simp) ?_
    refine AllReadyH.cons rfl (fun K hK => ?_) AllReadyH.nil
    simp only [List.getElem_toArray, List.getElem_cons_zero, List.getElem_cons_succ]
    refine ite_wanted rfl ?_
    refine wp_append_ptrs (.tmp 49) (.tmp 53) 80 rfl w.heap.size 83 i3 _ 8 Tryd.underlying80 hi3 hz30 hz31 hz32 rfl (.slice (some ⟨L, 0, none⟩) 2 2) 2 [ptr B 1, ptr B 2] rfl ow2 ⟨X, 0, none⟩ 3 3 [ptr B 6, ptr B 7, ptr B 8] rfl rfl (row_cells hX) (by simp [Value.oneCell']) (by unfold maxLen; omega) (by omega) bW2.size ?_
    intro v' w4 own4 grow4
    have b4 : Below w.heap.size w w4 := bW2.grown grow4 bW2.size (fun x hx => by cases hx; exact hL)
    refine hK.out _ _ b4 (fun hHeld => ?_)
    clear hK K
    refine wpAnyH_take (i := 12) (v := v') rfl (by kernel_rfl) (by kernel_rfl) (by kernel_rfl) (fun _ _ _ h => h) (Or.inl ⟨by rfl, fun _ _ => by go_simp⟩) hHeld ?_
    simp only [List.getElem_toArray, List.getElem_cons_zero, List.getElem_cons_succ, Act.put, List.setIfInBounds_toArray, List.set_cons_zero, List.set_cons_succ]
    refine wpAnyH_done (by kernel_rfl) ?_ _
    go_wp2_with fail
    go_ret
    exact ⟨_, rfl, own4, b4⟩
  · simp only [List.getElem_toArray, List.getElem_cons_zero, List.getElem_cons_succ]
    go_simp
    refine (unveil HC W0 bW0).mono ?_
    rintro e W1 ⟨X, rfl, hX0, hX, bn⟩
    have bW1 := Below.next bW0 bn
    refine hK.out _ _ bW1 (fun hHeld => ?_)
    clear hK K
    refine wpAnyH_ready (rs := [6]) (by kernel_rfl) (by simp) ?_
    refine AllReadyH.cons rfl (fun K hK => ?_) AllReadyH.nil
    simp only [List.getElem_toArray, List.getElem_cons_zero, List.getElem_cons_succ]
    go_simp
    have ow : (W1.alloc (.cells #[ptr B 1, ptr B 2] 83)).ownsRow w.heap.size 83 1 (.slice (some ⟨W1.heap.size, 0, none⟩) 2 2) 2 [ptr B 1, ptr B 2] := pRow.lit W1 w.heap.size B [1, 2] _ bW1.size rfl (by decide)
    have bW2 := Below.next bW1 (below1 W1 (.cells #[ptr B 1, ptr B 2] 83))
    have hX2 := ((below1 W1 (.cells #[ptr B 1, ptr B 2] 83)).block X (block_lt hX)).trans hX
    obtain ⟨L, hLe, hL⟩ : ∃ L, L = W1.heap.size ∧ w.heap.size ≤ L := ⟨_, rfl, bW1.size⟩
    rw [← hLe] at ow ⊢
    obtain ⟨W2, hW2⟩ : ∃ W2, W2 = W1.alloc (.cells #[ptr B 1, ptr B 2] 83) := ⟨_, rfl⟩
    rw [← hW2] at ow bW2 hX2 ⊢
    clear hW2 hLe
    refine hK.out _ _ bW2 (fun hHeld => ?_)
    clear hK K
    refine wpAnyH_ready (rs := [11]) (by kernel_rfl) (by simp) ?_
    refine AllReadyH.cons rfl (fun K hK => ?_) AllReadyH.nil
    simp only [List.getElem_toArray, List.getElem_cons_zero, List.getElem_cons_succ]
    refine ite_wanted rfl ?_
    refine wp_append_ptrs (.tmp 49) (.tmp 53) 80 rfl w.heap.size 83 i3 _ 8 Tryd.underlying80 hi3 hz30 hz31 hz32 rfl (.slice (some ⟨L, 0, none⟩) 2 2) 2 [ptr B 1, ptr B 2] rfl ow ⟨X, 0, none⟩ 3 3 [ptr B 6, ptr B 7, ptr B 8] rfl rfl (row_cells hX2) (by simp [Value.oneCell']) (by unfold maxLen; omega) (by omega) bW2.size ?_
    intro v' w4 own4 grow4
    have b4 : Below w.heap.size w w4 := bW2.grown grow4 bW2.size (fun x hx => by cases hx; exact hL)
    refine hK.out _ _ b4 (fun hHeld => ?_)
    clear hK K
    refine wpAnyH_take (i := 12) (v := v') rfl (by kernel_rfl) (by kernel_rfl) (by kernel_rfl) (fun _ _ _ h => h) (Or.inl ⟨by rfl, fun _ _ => by go_simp⟩) hHeld ?_
    simp only [List.getElem_toArray, List.getElem_cons_zero, List.getElem_cons_succ, Act.put, List.setIfInBounds_toArray, List.set_cons_zero, List.set_cons_succ]
    refine wpAnyH_done (by kernel_rfl) ?_ _
    go_wp2_with fail
    go_ret
    exact ⟨_, rfl, own4, b4⟩
set_option maxRecDepth 20000 in
set_option maxHeartbeats 1000000 in
theorem numbers_2_ack (B : Nat) (f : Nat → Int) (w : World) (hb : aBlock w B f) (h0 : f 0 = 2) (h5 : f 5 = 3) :
    Calls Tryd.prog 38 #[ptr B 0] w fun e w' => ∃ v, e = .returned v ∧ pRow w' w.heap.size v B [1, 2, 9, 10] ∧ Below w.heap.size w w' := by
  obtain ⟨i3, hi3, hz30, hz31, hz32⟩ := info_of Tryd.infoPtr
  have x0 := hb.cell 0 (by omega)
  rw [h0] at x0
  have HC : Hid (∀ u, Below w.heap.size w u → Calls Tryd.prog 53 #[ptr B 5] u fun e w' => ∃ X, e = .returned (.slice (some ⟨X, 0, none⟩) 2 2) ∧ u.heap.size ≤ X ∧ w'.heap[X]? = some (.cells #[ptr B 9, ptr B 10] 83 (0, 0)) ∧ Below u.heap.size u w') := veil fun u b => numbersOfOp_ack B f u (hb.next b) h5
  clear hb h0
  go_enter Tryd.func38, Tryd.ntmps38
  go_wp2_with fail
  refine wp_region_held_drew (S := Below w.heap.size w) (by kernel_rfl) (below_drew w) (fun hHeld => ?_)
  refine wpAnyH_take (i := 0) (v := ptr B 0) rfl (by kernel_rfl) (by kernel_rfl) (by kernel_rfl) (fun _ _ _ h => h) (Or.inl ⟨by rfl, fun _ _ => by go_simp⟩) hHeld ?_
  simp only [List.getElem_toArray, List.getElem_cons_zero, Act.put, List.setIfInBounds_toArray, List.set_cons_zero, List.set_cons_succ]
  refine wpAnyH_take (i := 1) (v := ptr B 0) rfl (by kernel_rfl) (by kernel_rfl) (by kernel_rfl) (fun _ _ _ h => h) (Or.inl ⟨by rfl, fun _ _ => by go_simp⟩) hHeld ?_
  simp only [List.getElem_toArray, List.getElem_cons_zero, List.getElem_cons_succ, Act.put, List.setIfInBounds_toArray, List.set_cons_zero, List.set_cons_succ]
  refine wpAnyH_take (i := 2) (v := ptr B 1) rfl (by kernel_rfl) (by kernel_rfl) (by kernel_rfl) (fun _ _ _ h => h) (Or.inl ⟨by rfl, fun _ _ => by go_simp⟩) hHeld ?_
  simp only [List.getElem_toArray, List.getElem_cons_zero, List.getElem_cons_succ, Act.put, List.setIfInBounds_toArray, List.set_cons_zero, List.set_cons_succ]
  refine wpAnyH_take (i := 3) (v := ptr B 0) rfl (by kernel_rfl) (by kernel_rfl) (by kernel_rfl) (fun _ _ _ h => h) (Or.inl ⟨by rfl, fun _ _ => by go_simp⟩) hHeld ?_
  simp only [List.getElem_toArray, List.getElem_cons_zero, List.getElem_cons_succ, Act.put, List.setIfInBounds_toArray, List.set_cons_zero, List.set_cons_succ]
  refine wpAnyH_take (i := 4) (v := ptr B 0) rfl (by kernel_rfl) (by kernel_rfl) (by kernel_rfl) (fun _ _ _ h => h) (Or.inl ⟨by rfl, fun _ _ => by go_simp⟩) hHeld ?_
  simp only [List.getElem_toArray, List.getElem_cons_zero, List.getElem_cons_succ, Act.put, List.setIfInBounds_toArray, List.set_cons_zero, List.set_cons_succ]
  refine wpAnyH_take (i := 5) (v := ptr B 2) rfl (by kernel_rfl) (by kernel_rfl) (by kernel_rfl) (fun _ _ _ h => h) (Or.inl ⟨by rfl, fun _ _ => by go_simp⟩) hHeld ?_
  simp only [List.getElem_toArray, List.getElem_cons_zero, List.getElem_cons_succ, Act.put, List.setIfInBounds_toArray, List.set_cons_zero, List.set_cons_succ]
  refine wpAnyH_take (i := 7) (v := ptr B 0) rfl (by kernel_rfl) (by kernel_rfl) (by kernel_rfl) (fun _ _ _ h => h) (Or.inl ⟨by rfl, fun _ _ => by go_simp⟩) hHeld ?_
  simp only [List.getElem_toArray, List.getElem_cons_zero, List.getElem_cons_succ, Act.put, List.setIfInBounds_toArray, List.set_cons_zero, List.set_cons_succ]
  refine wpAnyH_take (i := 8) (v := ptr B 0) rfl (by kernel_rfl) (by kernel_rfl) (by kernel_rfl) (fun _ _ _ h => h) (Or.inl ⟨by rfl, fun _ _ => by go_simp⟩) hHeld ?_
  simp only [List.getElem_toArray, List.getElem_cons_zero, List.getElem_cons_succ, Act.put, List.setIfInBounds_toArray, List.set_cons_zero, List.set_cons_succ]
  refine wpAnyH_take (i := 9) (v := ptr B 5) rfl (by kernel_rfl) (by kernel_rfl) (by kernel_rfl) (fun _ _ _ h => h) (Or.inl ⟨by rfl, fun _ _ => by go_simp⟩) hHeld ?_
  simp only [List.getElem_toArray, List.getElem_cons_zero, List.getElem_cons_succ, Act.put, List.setIfInBounds_toArray, List.set_cons_zero, List.set_cons_succ]
  have bW0 := below_drew w
  obtain ⟨W0, hW0⟩ : ∃ W0, W0 = w.drew := ⟨_, rfl⟩
  rw [← hW0] at bW0 hHeld ⊢
  clear hW0
  refine wpAnyH_ready (rs := [6, 10]) (by kernel_rfl) (by simp) ?_
  refine AllReadyH.cons rfl (fun K hK => ?_) (AllReadyH.cons rfl (fun K hK => ?_) AllReadyH.nil)
  · simp only [List.getElem_toArray, List.getElem_cons_zero, List.getElem_cons_succ]
    go_simp
    have ow : (W0.alloc (.cells #[ptr B 1, ptr B 2] 83)).ownsRow w.heap.size 83 1 (.slice (some ⟨W0.heap.size, 0, none⟩) 2 2) 2 [ptr B 1, ptr B 2] := pRow.lit W0 w.heap.size B [1, 2] _ bW0.size rfl (by decide)
    have bW1 := Below.next bW0 (below1 W0 (.cells #[ptr B 1, ptr B 2] 83))
    obtain ⟨L, hLe, hL⟩ : ∃ L, L = W0.heap.size ∧ w.heap.size ≤ L := ⟨_, rfl, bW0.size⟩
    rw [← hLe] at ow ⊢
    obtain ⟨W1, hW1⟩ : ∃ W1, W1 = W0.alloc (.cells #[ptr B 1, ptr B 2] 83) := ⟨_, rfl⟩
    rw [← hW1] at ow bW1 ⊢
    clear hW1 hLe
    refine hK.out _ _ bW1 (fun hHeld => ?_)
    clear hK K
    refine wpAnyH_ready (rs := [10]) (by kernel_rfl) (by simp) ?_
    refine AllReadyH.cons rfl (fun K hK => ?_) AllReadyH.nil
    simp only [List.getElem_toArray, List.getElem_cons_zero, List.getElem_cons_succ]
    go_simp
    refine (unveil HC W1 bW1).mono ?_
    rintro e W2 ⟨X, rfl, hX0, hX, bn⟩
    have bW2 := Below.next bW1 bn
    have ow2 := own_still ow (fun g _ hg => bn.block g hg)
    refine hK.out _ _ bW2 (fun hHeld => ?_)
    clear hK K
    refine wpAnyH_ready (rs := [11]) (by kernel_rfl) (by simp) ?_
    refine AllReadyH.cons rfl (fun K hK => ?_) AllReadyH.nil
    simp only [List.getElem_toArray, List.getElem_cons_zero, List.getElem_cons_succ]
    refine ite_wanted rfl ?_
    refine wp_append_ptrs (.tmp 49) (.tmp 53) 80 rfl w.heap.size 83 i3 _ 8 Tryd.underlying80 hi3 hz30 hz31 hz32 rfl (.slice (some ⟨L, 0, none⟩) 2 2) 2 [ptr B 1, ptr B 2] rfl ow2 ⟨X, 0, none⟩ 2 2 [ptr B 9, ptr B 10] rfl rfl (row_cells hX) (by simp [Value.oneCell']) (by unfold maxLen; omega) (by omega) bW2.size ?_
    intro v' w4 own4 grow4
    have b4 : Below w.heap.size w w4 := bW2.grown grow4 bW2.size (fun x hx => by cases hx; exact hL)
    refine hK.out _ _ b4 (fun hHeld => ?_)
    clear hK K
    refine wpAnyH_take (i := 12) (v := v') rfl (by kernel_rfl) (by kernel_rfl) (by kernel_rfl) (fun _ _ _ h => h) (Or.inl ⟨by rfl, fun _ _ => by go_simp⟩) hHeld ?_
    simp only [List.getElem_toArray, List.getElem_cons_zero, List.getElem_cons_succ, Act.put, List.setIfInBounds_toArray, List.set_cons_zero, List.set_cons_succ]
    refine wpAnyH_done (by kernel_rfl) ?_ _
    go_wp2_with fail
    go_ret
    exact ⟨_, rfl, own4, b4⟩
  · simp only [List.getElem_toArray, List.getElem_cons_zero, List.getElem_cons_succ]
    go_simp
    refine (unveil HC W0 bW0).mono ?_
    rintro e W1 ⟨X, rfl, hX0, hX, bn⟩
    have bW1 := Below.next bW0 bn
    refine hK.out _ _ bW1 (fun hHeld => ?_)
    clear hK K
    refine wpAnyH_ready (rs := [6]) (by kernel_rfl) (by simp) ?_
    refine AllReadyH.cons rfl (fun K hK => ?_) AllReadyH.nil
    simp only [List.getElem_toArray, List.getElem_cons_zero, List.getElem_cons_succ]
    go_simp
    have ow : (W1.alloc (.cells #[ptr B 1, ptr B 2] 83)).ownsRow w.heap.size 83 1 (.slice (some ⟨W1.heap.size, 0, none⟩) 2 2) 2 [ptr B 1, ptr B 2] := pRow.lit W1 w.heap.size B [1, 2] _ bW1.size rfl (by decide)
    have bW2 := Below.next bW1 (below1 W1 (.cells #[ptr B 1, ptr B 2] 83))
    have hX2 := ((below1 W1 (.cells #[ptr B 1, ptr B 2] 83)).block X (block_lt hX)).trans hX
    obtain ⟨L, hLe, hL⟩ : ∃ L, L = W1.heap.size ∧ w.heap.size ≤ L := ⟨_, rfl, bW1.size⟩
    rw [← hLe] at ow ⊢
    obtain ⟨W2, hW2⟩ : ∃ W2, W2 = W1.alloc (.cells #[ptr B 1, ptr B 2] 83) := ⟨_, rfl⟩
    rw [← hW2] at ow bW2 hX2 ⊢
    clear hW2 hLe
    refine hK.out _ _ bW2 (fun hHeld => ?_)
    clear hK K
    refine wpAnyH_ready (rs := [11]) (by kernel_rfl) (by simp) ?_
    refine AllReadyH.cons rfl (fun K hK => ?_) AllReadyH.nil
    simp only [List.getElem_toArray, List.getElem_cons_zero, List.getElem_cons_succ]
    refine ite_wanted rfl ?_
    refine wp_append_ptrs (.tmp 49) (.tmp 53) 80 rfl w.heap.size 83 i3 _ 8 Tryd.underlying80 hi3 hz30 hz31 hz32 rfl (.slice (some ⟨L, 0, none⟩) 2 2) 2 [ptr B 1, ptr B 2] rfl ow ⟨X, 0, none⟩ 2 2 [ptr B 9, ptr B 10] rfl rfl (row_cells hX2) (by simp [Value.oneCell']) (by unfold maxLen; omega) (by omega) bW2.size ?_
    intro v' w4 own4 grow4
    have b4 : Below w.heap.size w w4 := bW2.grown grow4 bW2.size (fun x hx => by cases hx; exact hL)
    refine hK.out _ _ b4 (fun hHeld => ?_)
    clear hK K
    refine wpAnyH_take (i := 12) (v := v') rfl (by kernel_rfl) (by kernel_rfl) (by kernel_rfl) (fun _ _ _ h => h) (Or.inl ⟨by rfl, fun _ _ => by go_simp⟩) hHeld ?_
    simp only [List.getElem_toArray, List.getElem_cons_zero, List.getElem_cons_succ, Act.put, List.setIfInBounds_toArray, List.set_cons_zero, List.set_cons_succ]
    refine wpAnyH_done (by kernel_rfl) ?_ _
    go_wp2_with fail
    go_ret
    exact ⟨_, rfl, own4, b4⟩
theorem numbers_any (B : Nat) (f : Nat → Int) (w : World) (hb : aBlock w B f) :
    Calls Tryd.prog 38 #[ptr B 0] w fun e w' => ∃ v, e = .returned v ∧ pRow w' w.heap.size v B (offs (f 0) (f 5)) ∧ Below w.heap.size w w' := by
  by_cases h1 : f 0 = 1
  · rw [show offs (f 0) (f 5) = [2, 1] by rw [h1]; rfl]
    exact numbers_1 B f w hb h1
  by_cases h10 : f 0 = 10
  · rw [show offs (f 0) (f 5) = [2, 1] by rw [h10]; rfl]
    exact numbers_10 B f w hb h10
  by_cases h3 : f 0 = 3
  · rw [show offs (f 0) (f 5) = [1] by rw [h3]; rfl]
    exact numbers_3 B f w hb h3
  by_cases h9 : f 0 = 9
  · rw [show offs (f 0) (f 5) = [1] by rw [h9]; rfl]
    exact numbers_9 B f w hb h9
  by_cases h8 : f 0 = 8
  · rw [show offs (f 0) (f 5) = [1, 4] by rw [h8]; rfl]
    exact numbers_8 B f w hb h8
  by_cases h4 : f 0 = 4
  · rw [show offs (f 0) (f 5) = [3] by rw [h4]; rfl]
    exact numbers_4 B f w hb h4
  by_cases h5 : f 0 = 5
  · rw [show offs (f 0) (f 5) = [3] by rw [h5]; rfl]
    exact numbers_5 B f w hb h5
  by_cases h6 : f 0 = 6
  · rw [show offs (f 0) (f 5) = [3] by rw [h6]; rfl]
    exact numbers_6 B f w hb h6
  by_cases h2 : f 0 = 2
  · by_cases g1 : f 5 = 1
    · rw [show offs (f 0) (f 5) = [1, 2, 6, 7, 8] by rw [h2, g1]; rfl]
      exact numbers_2_pub B f w hb h2 g1
    by_cases g3 : f 5 = 3
    · rw [show offs (f 0) (f 5) = [1, 2, 9, 10] by rw [h2, g3]; rfl]
      exact numbers_2_ack B f w hb h2 g3
    · rw [show offs (f 0) (f 5) = [1, 2] by rw [h2]; unfold offs; rw [if_neg (by decide), if_neg (by decide), if_neg (by decide), if_neg (by decide), if_pos rfl, if_neg g1, if_neg g3]]
      exact numbers_2_other B f w hb h2 g1 g3
  · rw [show offs (f 0) (f 5) = [] by unfold offs; rw [if_neg (by omega), if_neg (by omega), if_neg (by omega), if_neg (by omega), if_neg h2]]
    exact numbers_none B f w hb h1 h10 h3 h9 h8 h4 h5 h6 h2
end Go.Proofs.YtekbdkppnjnaaaaDoor
