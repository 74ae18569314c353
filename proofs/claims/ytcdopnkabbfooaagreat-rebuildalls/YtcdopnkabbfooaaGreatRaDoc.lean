/- Texts put together: RqA, RqB, RqG. -/
import Derived.Test.YtcdopnkabbfooaaGreatQuI
import Derived.Deep.QuietTactic
import Derived.Test.YtcdopnkabbfooaaGreatQuY
import Derived.Test.YtcdopnkabbfooaaGreatRqC
import Derived.Test.YtcdopnkabbfooaaGreatQvD
import Derived.Deep.DeepCutAuto
namespace Go.Proofs.YtcdopnkabbfooaaGreat
open Go.RowKit

/-- whether a message with a greater No stands among the first k. -/
def mDone (R : List Int) (no : Int) : Nat → Bool
  | 0 => false
  | k + 1 => mDone R no k || decide (no < R.getD (2 * k) 0)
/-- the first k messages with one put ahead of the first that is greater. -/
def mOut (R : List Int) (no bd : Int) : Nat → List Int
  | 0 => []
  | k + 1 => (if mDone R no k = false ∧ no < R.getD (2 * k) 0 then mOut R no bd k ++ [no, bd] else mOut R no bd k) ++ [R.getD (2 * k) 0, R.getD (2 * k + 1) 0]
def mFin (R : List Int) (no bd : Int) (k : Nat) : List Int := if mDone R no k = true then mOut R no bd k else mOut R no bd k ++ [no, bd]

/-- messageIn on its way. -/
structure Mi (w wr : World) (no bd : Int) (v : Value) (n : Nat) (M : List Int) : Prop where
  box : wr.heap[w.heap.size]? = some (.cells #[.int .i64 no, .int .i64 bd] 131 (0, 0))
  ow : wr.ownsRow (w.heap.size + 1) 131 2 v n (M.map (Value.int .i64))
  bel : Below w.heap.size w wr
section
variable {w wr : World} {no bd : Int} {v : Value} {n : Nat} {M : List Int}
theorem Mi.size (h : Mi w wr no bd v n M) : w.heap.size < wr.heap.size := by
  have h := h.box
  by_cases c : w.heap.size < wr.heap.size
  · exact c
  · rw [Array.getElem?_eq_none (by omega)] at h; cases h
theorem Mi.drew (h : Mi w wr no bd v n M) (m : Nat) : Mi w (wr.drewN m) no bd v n M :=
  ⟨h.box, own_still h.ow (fun _ _ _ => rfl), Below.next h.bel ⟨rfl, rfl, rfl, Nat.le_refl _, fun _ _ => rfl⟩⟩
theorem Mi.own5 (h : Mi w wr no bd v n M) (x0 x1 : Int) : (wr.alloc (.cells #[.int .i64 x0, .int .i64 x1] 131)).ownsRow (w.heap.size + 1) 131 2 v n (M.map (Value.int .i64)) :=
  own_still h.ow (fun g _ hg => (below1 wr _).block g hg)
theorem Mi.put (h : Mi w wr no bd v n M) (x0 x1 : Int) {w4 : World} {v' : Value} (g : (wr.alloc (.cells #[.int .i64 x0, .int .i64 x1] 131)).grownBy w4 v.ownBlock)
    (o : w4.ownsRow (w.heap.size + 1) 131 2 v' (n + 1) ((M ++ [x0, x1]).map (Value.int .i64))) : Mi w w4 no bd v' (n + 1) (M ++ [x0, x1]) := by
  have hs := h.size
  have hb : Below (w.heap.size + 1) wr w4 := ((below1 wr (.cells #[.int .i64 x0, .int .i64 x1] 131)).mono (by omega)).grown g (by have := (below1 wr (.cells #[.int .i64 x0, .int .i64 x1] 131)).size; omega) (fun q hq => (h.ow.lt q hq).1)
  exact ⟨(hb.block w.heap.size (by omega)).trans h.box, o, h.bel.trans (hb.mono (by omega))⟩
end
set_option maxRecDepth 20000 in
set_option maxHeartbeats 2000000 in
theorem messageIn_any (ra : Option Addr) (rn rc : Nat) (R : List Int) (no bd : Int) (w : World) (hR : RowK .i64 w ra (2 * rn) R) (hs : rn * 16 ≤ 140737488351232) :
    Calls Tryz.prog 91 #[.slice ra rn rc, .agg #[.int .i64 no, .int .i64 bd]] w fun e w' => ∃ v, e = .returned v ∧ w'.ownsRow w.heap.size 131 2 v (rn + 1) ((mFin R no bd rn).map (Value.int .i64)) ∧ Below w.heap.size w w' := by
  obtain ⟨i2, hi2, hz20, hz21, hz22⟩ := info_of Tryz.infoMsg
  go_enter Tryz.func91, Tryz.ntmps91
  go_wp2_with fail
  obtain ⟨W, hW⟩ : ∃ W, W = w.alloc (.cells #[.int .i64 no, .int .i64 bd] 131) := ⟨_, rfl⟩
  have M0 : Mi w W no bd (.slice none 0 0) 0 [] := by
    rw [hW]
    exact ⟨heap_alloc_new w _, World.ownsRow_nil _ _ _ _, below1 _ _⟩
  rw [← hW]
  clear hW
  go_loopw [5, 6, 7] (fun v d t wr => ∃ (k n : Nat) (dn : Bool) (M : List Int), k ≤ rn ∧ t = .int .i64 k ∧ d = .bool dn ∧ n ≤ k + 1 ∧ Mi w wr no bd v n M ∧ Hid (dn = mDone R no k ∧ n = k + dn.toNat ∧ M = mOut R no bd k)) (fun _ _ t _ => rn - (intOf t).toNat)
  case atStart => exact ⟨0, 0, false, [], Nat.zero_le _, rfl, rfl, by omega, M0, veil ⟨rfl, rfl, rfl⟩⟩
  case round =>
    obtain ⟨k, n, dn, M, hk, rfl, rfl, hn, C, HI⟩ := hrel
    clear M0
    obtain ⟨a1, c1, rfl⟩ := own_form C.ow
    have m0 : wr.cell? ⟨w.heap.size, 0, none⟩ = some (.int .i64 no) := by simp [World.cell?, C.box]
    have m1 : wr.cell? ⟨w.heap.size, 1, none⟩ = some (.int .i64 bd) := by simp [World.cell?, C.box]
    have hsz := C.size
    have hwn : w.heap.size ≠ wr.heap.size := by omega
    by_cases hlt : k < rn
    · have rR := hR.below C.bel
      obtain ⟨b, off, rfl⟩ := hR.form (by omega)
      obtain ⟨x0, hx0⟩ : ∃ x, x = R.getD (2 * k) 0 := ⟨_, rfl⟩
      obtain ⟨x1, hx1⟩ : ∃ x, x = R.getD (2 * k + 1) 0 := ⟨_, rfl⟩
      have KC : Hid (∀ w3, Below w.heap.size w w3 → w3.cell? ⟨b, off + k * 2, none⟩ = some (.int .i64 x0) ∧ w3.cell? ⟨b, off + k * 2 + 1, none⟩ = some (.int .i64 x1) ∧ b < w3.heap.size ∧ b ≠ w3.heap.size) := veil fun w3 hb => by
        have r3 := hR.below hb
        have := r3.lt (by omega)
        refine ⟨?_, ?_, this, by omega⟩
        · rw [Nat.mul_comm k 2, hx0]; exact r3.at (2 * k) (by omega)
        · rw [Nat.mul_comm k 2, hx1]; exact r3.at (2 * k + 1) (by omega)
      obtain ⟨k0, k1, hbl, hbn⟩ := unveil KC wr C.bel
      have HX : Hid (x0 = R.getD (2 * k) 0 ∧ x1 = R.getD (2 * k + 1) 0) := veil ⟨hx0, hx1⟩
      have HR := veil hR
      have HC := veil C
      have HO5 := veil (C.own5 x0 x1)
      have HO6 := veil (C.own5 no bd)
      clear hx0 hx1 rR hR C
      cases dn with
      | true =>
        go_wp2_with fail
        go_quiet (fail)
        obtain ⟨W2, hW2⟩ : ∃ W2, W2 = wr.drewN nq := ⟨_, rfl⟩
        have HC : Hid (Mi w W2 no bd (.slice a1 n c1) n M) := veil (by rw [hW2]; exact (unveil HC).drew nq)
        rw [← hW2]
        clear hW2 k0 k1 m0 m1 hsz hwn hbl hbn HO5 HO6
        have m0 : W2.cell? ⟨w.heap.size, 0, none⟩ = some (.int .i64 no) := by simp [World.cell?, (unveil HC).box]
        have m1 : W2.cell? ⟨w.heap.size, 1, none⟩ = some (.int .i64 bd) := by simp [World.cell?, (unveil HC).box]
        have hsz := (unveil HC).size
        have hwn : w.heap.size ≠ W2.heap.size := by omega
        obtain ⟨k0, k1, hbl, hbn⟩ := unveil KC W2 (unveil HC).bel
        have HO5 := veil ((unveil HC).own5 x0 x1)
        have HO6 := veil ((unveil HC).own5 no bd)
        go_wp2_with (at_builtin; refine wpList_append_own _ rfl _ _ 85 rfl (w.heap.size + 1) 131 i2 _ 2 16 Tryz.underlying85 hi2 hz20 hz21 hz22 rfl (by decide) (.slice a1 n c1) n (M.map (Value.int .i64)) rfl (unveil HO5) ⟨W2.heap.size, 0, none⟩ 1 1 ([x0, x1].map (Value.int .i64)) rfl rfl (news2 _ _ _ _) (ints_oneCell _ _) (by unfold maxLen; omega) (by omega) (by simp; omega) ?_; intro v' w4 own4 grow4 _; obtain ⟨a', cap', rfl⟩ := own_form own4; rw [← List.map_append] at own4; have HC4 := veil ((unveil HC).put x0 x1 grow4 own4); clear own4 grow4)
        have HI4 : Hid (true = mDone R no (k + 1) ∧ n + 1 = k + 1 + true.toNat ∧ M ++ [x0, x1] = mOut R no bd (k + 1)) := veil (by
          obtain ⟨i1, i2, i3⟩ := unveil HI
          obtain ⟨e0, e1⟩ := unveil HX
          refine ⟨by simp [mDone, ← i1], by simp at i2 ⊢; omega, ?_⟩
          simp [mOut, ← i1, i3, e0, e1])
        all_goals (go_roundw <;> first | exact ⟨k + 1, n + 1, true, _, by omega, by go_num, rfl, by omega, unveil HC4, HI4⟩ | (simp [intOf]; omega))
      | false =>
        by_cases hg : no < x0
        · have hd : decide (no < x0) = true := by simp; exact hg
          go_wp2_with fail
          go_quiet (fail)
          obtain ⟨W2, hW2⟩ : ∃ W2, W2 = wr.drewN nq := ⟨_, rfl⟩
          have HC : Hid (Mi w W2 no bd (.slice a1 n c1) n M) := veil (by rw [hW2]; exact (unveil HC).drew nq)
          rw [← hW2]
          clear hW2 k0 k1 m0 m1 hsz hwn hbl hbn HO5 HO6
          have m0 : W2.cell? ⟨w.heap.size, 0, none⟩ = some (.int .i64 no) := by simp [World.cell?, (unveil HC).box]
          have m1 : W2.cell? ⟨w.heap.size, 1, none⟩ = some (.int .i64 bd) := by simp [World.cell?, (unveil HC).box]
          have hsz := (unveil HC).size
          have hwn : w.heap.size ≠ W2.heap.size := by omega
          obtain ⟨k0, k1, hbl, hbn⟩ := unveil KC W2 (unveil HC).bel
          have HO5 := veil ((unveil HC).own5 x0 x1)
          have HO6 := veil ((unveil HC).own5 no bd)
          go_wp2_with (first
            | (at_builtin; refine wpList_append_own _ rfl (.tmp 26) (.tmp 28) 85 rfl (w.heap.size + 1) 131 i2 _ 2 16 Tryz.underlying85 hi2 hz20 hz21 hz22 rfl (by decide) (.slice a1 n c1) n (M.map (Value.int .i64)) rfl (unveil HO6) ⟨W2.heap.size, 0, none⟩ 1 1 ([no, bd].map (Value.int .i64)) rfl rfl (news2 _ _ _ _) (ints_oneCell _ _) (by unfold maxLen; omega) (by omega) (by simp; omega) ?_; intro v' w4 own4 grow4 _; obtain ⟨a', cap', rfl⟩ := own_form own4; rw [← List.map_append] at own4; have C4 := (unveil HC).put no bd grow4 own4; obtain ⟨y0, y1, ybl, ybn⟩ := unveil KC w4 C4.bel; have HO7 := veil (C4.own5 x0 x1); have hs4 := C4.size; have HC4 := veil C4; clear own4 grow4 C4 k0 k1 m0 m1)
            | (at_builtin; refine wpList_append_own _ rfl (.tmp 30) (.tmp 35) 85 rfl (w.heap.size + 1) 131 i2 _ 2 16 Tryz.underlying85 hi2 hz20 hz21 hz22 rfl (by decide) (.slice a' (n + 1) cap') (n + 1) ((M ++ [no, bd]).map (Value.int .i64)) rfl (unveil HO7) ⟨w4.heap.size, 0, none⟩ 1 1 ([x0, x1].map (Value.int .i64)) rfl rfl (news2 _ _ _ _) (ints_oneCell _ _) (by unfold maxLen; omega) (by omega) (by simp; omega) ?_; intro v' w5 own5 grow5 _; obtain ⟨a5, cap5, rfl⟩ := own_form own5; rw [← List.map_append] at own5; have HC5 := veil ((unveil HC4).put x0 x1 grow5 own5); clear own5 grow5))
          have HI4 : Hid (true = mDone R no (k + 1) ∧ n + 1 + 1 = k + 1 + true.toNat ∧ M ++ [no, bd] ++ [x0, x1] = mOut R no bd (k + 1)) := veil (by
            obtain ⟨i1, i2, i3⟩ := unveil HI
            obtain ⟨e0, e1⟩ := unveil HX
            rw [e0] at hg
            refine ⟨?_, by simp at i2 ⊢; omega, ?_⟩
            · simp only [mDone, ← i1, Bool.false_or]; exact (decide_eq_true hg).symm
            · rw [mOut, if_pos ⟨i1.symm, hg⟩, i3, e0, e1])
          all_goals (go_roundw <;> first | exact ⟨k + 1, n + 1 + 1, true, _, by omega, by go_num, rfl, by have := (unveil HI).2.1; simp at this; omega, unveil HC5, HI4⟩ | (simp [intOf]; omega))
        · have hd : decide (no < x0) = false := by simp; omega
          go_wp2_with fail
          go_quiet (fail)
          obtain ⟨W2, hW2⟩ : ∃ W2, W2 = wr.drewN nq := ⟨_, rfl⟩
          have HC : Hid (Mi w W2 no bd (.slice a1 n c1) n M) := veil (by rw [hW2]; exact (unveil HC).drew nq)
          rw [← hW2]
          clear hW2 k0 k1 m0 m1 hsz hwn hbl hbn HO5 HO6
          have m0 : W2.cell? ⟨w.heap.size, 0, none⟩ = some (.int .i64 no) := by simp [World.cell?, (unveil HC).box]
          have m1 : W2.cell? ⟨w.heap.size, 1, none⟩ = some (.int .i64 bd) := by simp [World.cell?, (unveil HC).box]
          have hsz := (unveil HC).size
          have hwn : w.heap.size ≠ W2.heap.size := by omega
          obtain ⟨k0, k1, hbl, hbn⟩ := unveil KC W2 (unveil HC).bel
          have HO5 := veil ((unveil HC).own5 x0 x1)
          have HO6 := veil ((unveil HC).own5 no bd)
          go_wp2_with (at_builtin; refine wpList_append_own _ rfl _ _ 85 rfl (w.heap.size + 1) 131 i2 _ 2 16 Tryz.underlying85 hi2 hz20 hz21 hz22 rfl (by decide) (.slice a1 n c1) n (M.map (Value.int .i64)) rfl (unveil HO5) ⟨W2.heap.size, 0, none⟩ 1 1 ([x0, x1].map (Value.int .i64)) rfl rfl (news2 _ _ _ _) (ints_oneCell _ _) (by unfold maxLen; omega) (by omega) (by simp; omega) ?_; intro v' w4 own4 grow4 _; obtain ⟨a', cap', rfl⟩ := own_form own4; rw [← List.map_append] at own4; have HC4 := veil ((unveil HC).put x0 x1 grow4 own4); clear own4 grow4)
          have HI4 : Hid (false = mDone R no (k + 1) ∧ n + 1 = k + 1 + false.toNat ∧ M ++ [x0, x1] = mOut R no bd (k + 1)) := veil (by
            obtain ⟨i1, i2, i3⟩ := unveil HI
            obtain ⟨e0, e1⟩ := unveil HX
            rw [e0] at hg
            refine ⟨?_, by simp at i2 ⊢; omega, ?_⟩
            · simp only [mDone, ← i1, Bool.false_or]; exact (decide_eq_false (by omega)).symm
            · rw [mOut, if_neg (fun h => absurd h.2 (by omega)), i3, e0, e1])
          all_goals (go_roundw <;> first | exact ⟨k + 1, n + 1, false, _, by omega, by go_num, rfl, by omega, unveil HC4, HI4⟩ | (simp [intOf]; omega))
    · obtain rfl : k = rn := by omega
      have HC := veil C
      have HO6 := veil (C.own5 no bd)
      have HR := veil hR
      clear C hR
      cases dn with
      | true =>
        go_wp2
        go_ret
        refine ⟨_, rfl, ?_, (unveil HC).bel⟩
        obtain ⟨i1, i2, i3⟩ := unveil HI
        have := own_lower (unveil HC).ow (Nat.le_succ _)
        rw [mFin, if_pos i1.symm, ← i3]
        obtain rfl : n = k + 1 := by simpa using i2
        exact this
      | false =>
        go_wp2_with (at_builtin; refine wpList_append_own _ rfl _ _ 85 rfl (w.heap.size + 1) 131 i2 _ 2 16 Tryz.underlying85 hi2 hz20 hz21 hz22 rfl (by decide) (.slice a1 n c1) n (M.map (Value.int .i64)) rfl (unveil HO6) ⟨wr.heap.size, 0, none⟩ 1 1 ([no, bd].map (Value.int .i64)) rfl rfl (news2 _ _ _ _) (ints_oneCell _ _) (by unfold maxLen; omega) (by omega) (by simp; omega) ?_; intro v' w4 own4 grow4 _; obtain ⟨a', cap', rfl⟩ := own_form own4; rw [← List.map_append] at own4; have HC4 := veil ((unveil HC).put no bd grow4 own4); clear own4 grow4)
        go_ret
        refine ⟨_, rfl, ?_, (unveil HC4).bel⟩
        obtain ⟨i1, i2, i3⟩ := unveil HI
        have := own_lower (unveil HC4).ow (Nat.le_succ _)
        rw [mFin, if_neg (by rw [← i1]; simp), ← i3]
        obtain rfl : n = k := by simpa using i2
        exact this
end Go.Proofs.YtcdopnkabbfooaaGreat

namespace Go.Proofs.YtcdopnkabbfooaaGreat
open Go.RowKit

theorem getD_pairR {n : Nat} (A : List Int) (x y : Int) (h : A.length = 2 * n) : (A ++ [x, y]).getD (2 * n) 0 = x ∧ (A ++ [x, y]).getD (2 * n + 1) 0 = y := by
  constructor
  · rw [← h]; simp
  · rw [← h]; simp
theorem getD_pairL (A : List Int) (x y : Int) (i : Nat) (h : i < A.length) : (A ++ [x, y]).getD i 0 = A.getD i 0 := by
  simp [List.getElem?_append_left h]
theorem pairsOf_snoc (A : List Int) (x y : Int) (n : Nat) (h : A.length = 2 * n) : pairsOf (A ++ [x, y]) (n + 1) = pairsOf A n ++ [(x, y)] := by
  unfold pairsOf
  rw [List.range_succ, List.map_append]
  congr 1
  · apply List.map_congr_left
    intro i hi
    have hi : i < n := List.mem_range.1 hi
    unfold pairAt
    rw [getD_pairL _ _ _ _ (by omega), getD_pairL _ _ _ _ (by omega)]
  · obtain ⟨h0, h1⟩ := getD_pairR (n := n) A x y h
    simp only [List.map_cons, List.map_nil, pairAt, h0, h1]
theorem mOut_len (R : List Int) (no bd : Int) : ∀ k, (mOut R no bd k).length = 2 * (k + (mDone R no k).toNat)
  | 0 => rfl
  | k + 1 => by
    have ih := mOut_len R no bd k
    rw [mOut, mDone]
    cases hd : mDone R no k with
    | true => rw [hd] at ih; simp [ih]; omega
    | false =>
      rw [hd] at ih
      by_cases hg : no < R.getD (2 * k) 0
      · rw [if_pos ⟨rfl, hg⟩, decide_eq_true hg]; simp [ih]; omega
      · rw [if_neg (fun h => hg h.2), decide_eq_false hg]; simp [ih]; omega
theorem mFin_len (R : List Int) (no bd : Int) (k : Nat) : (mFin R no bd k).length = 2 * (k + 1) := by
  have h := mOut_len R no bd k
  unfold mFin
  cases hd : mDone R no k with
  | true => rw [hd] at h; rw [if_pos rfl, h]; rfl
  | false => rw [hd] at h; rw [if_neg (by simp)]; simp [h]; omega
/-- the pairs that messageIn makes of the first k. -/
theorem mOut_pairs (R : List Int) (no bd : Int) : ∀ k, (mDone R no k = false → pairsOf (mOut R no bd k) k = pairsOf R k) ∧ (mDone R no k = true → (pairsOf (mOut R no bd k) (k + 1)).Perm (pairsOf R k ++ [(no, bd)]))
  | 0 => ⟨fun _ => rfl, fun h => by cases h⟩
  | k + 1 => by
    obtain ⟨i1, i2⟩ := mOut_pairs R no bd k
    have hl := mOut_len R no bd k
    have hs : pairsOf R (k + 1) = pairsOf R k ++ [(R.getD (2 * k) 0, R.getD (2 * k + 1) 0)] := by unfold pairsOf; rw [List.range_succ, List.map_append]; rfl
    rw [mOut, mDone, hs]
    cases hd : mDone R no k with
    | true =>
      rw [hd] at hl
      refine ⟨fun h => by simp at h, fun _ => ?_⟩
      rw [if_neg (by simp), pairsOf_snoc _ _ _ (k + 1) (by simpa using hl)]
      refine ((i2 hd).append_right _).trans ?_
      rw [List.append_assoc, List.append_assoc]
      exact (List.Perm.refl _).append (List.perm_append_comm)
    | false =>
      rw [hd] at hl
      by_cases hg : no < R.getD (2 * k) 0
      · refine ⟨fun h => by rw [decide_eq_true hg] at h; simp at h, fun _ => ?_⟩
        rw [if_pos ⟨rfl, hg⟩, pairsOf_snoc _ _ _ (k + 1) (by simp at hl ⊢; omega), pairsOf_snoc _ _ _ k (by simpa using hl), i1 hd, List.append_assoc, List.append_assoc]
        exact (List.Perm.refl _).append (List.perm_append_comm)
      · refine ⟨fun _ => ?_, fun h => by rw [decide_eq_false hg] at h; simp at h⟩
        rw [if_neg (fun h => hg h.2), pairsOf_snoc _ _ _ k (by simpa using hl), i1 hd]
theorem mFin_perm (R : List Int) (no bd : Int) (k : Nat) : (pairsOf (mFin R no bd k) (k + 1)).Perm (pairsOf R k ++ [(no, bd)]) := by
  obtain ⟨i1, i2⟩ := mOut_pairs R no bd k
  have hl := mOut_len R no bd k
  unfold mFin
  cases hd : mDone R no k with
  | true => rw [if_pos rfl]; exact i2 hd
  | false => rw [hd] at hl; rw [if_neg (by simp), pairsOf_snoc _ _ _ k (by simpa using hl), i1 hd]
/-- a row of messages whose Nos don't fall. -/
def Rises (A : List Int) (n : Nat) : Prop := ∀ i j, i < j → j < n → A.getD (2 * i) 0 ≤ A.getD (2 * j) 0
theorem Rises.snoc {A : List Int} {n : Nat} (h : Rises A n) (hl : A.length = 2 * n) (x y : Int) (hx : ∀ i, i < n → A.getD (2 * i) 0 ≤ x) : Rises (A ++ [x, y]) (n + 1) := by
  intro i j hij hj
  rw [getD_pairL _ _ _ _ (show 2 * i < A.length by omega)]
  by_cases c : j = n
  · subst c; rw [(getD_pairR (n := j) A x y hl).1]; exact hx i hij
  · rw [getD_pairL _ _ _ _ (show 2 * j < A.length by omega)]; exact h i j hij (by omega)
theorem mOut_rises (R : List Int) (no bd : Int) (n : Nat) (hR : Rises R n) : ∀ k, k ≤ n → Rises (mOut R no bd k) (k + (mDone R no k).toNat) ∧ (∀ i, i < k + (mDone R no k).toNat → (mOut R no bd k).getD (2 * i) 0 ≤ no ∨ ∃ j, j < k ∧ (mOut R no bd k).getD (2 * i) 0 ≤ R.getD (2 * j) 0) ∧ (mDone R no k = false → ∀ i, i < k → (mOut R no bd k).getD (2 * i) 0 ≤ no) ∧ (mDone R no k = true → ∃ j, j < k ∧ no < R.getD (2 * j) 0)
  | 0, _ => ⟨fun i j _ hj => by simp [mDone] at hj, fun i hi => by simp [mDone] at hi, fun _ i hi => by omega, fun h => by cases h⟩
  | k + 1, hk => by
    obtain ⟨i1, i2, i3, i4⟩ := mOut_rises R no bd n hR k (by omega)
    have hl := mOut_len R no bd k
    rw [mOut, mDone]
    cases hd : mDone R no k with
    | true =>
      rw [hd] at hl i1 i2
      obtain ⟨j0, hj0, hj1⟩ := i4 hd
      have hle : ∀ i, i < k + 1 → (mOut R no bd k).getD (2 * i) 0 ≤ R.getD (2 * k) 0 := fun i hi => by
        rcases i2 i hi with h | ⟨j, h1, h2⟩
        · have := hR j0 k hj0 (by omega); omega
        · have := hR j k h1 (by omega); omega
      rw [if_neg (by simp)]
      simp only [Bool.true_or, Bool.toNat_true]
      refine ⟨i1.snoc (by simpa using hl) _ _ hle, fun i hi => .inr ⟨k, by omega, ?_⟩, fun h => by simp at h, fun _ => ⟨j0, by omega, hj1⟩⟩
      by_cases c : i = k + 1
      · subst c; rw [(getD_pairR (n := k + 1) _ _ _ (by simpa using hl)).1]; exact Int.le_refl _
      · rw [getD_pairL _ _ _ _ (by simp at hl; omega)]; exact hle i (by omega)
    | false =>
      rw [hd] at hl i1 i2
      have i3 := i3 hd
      by_cases hg : no < R.getD (2 * k) 0
      · rw [if_pos ⟨rfl, hg⟩, decide_eq_true hg]
        simp only [Bool.or_true, Bool.toNat_true]
        have hl1 : (mOut R no bd k).length = 2 * k := by simpa using hl
        have r1 : Rises (mOut R no bd k ++ [no, bd]) (k + 1) := Rises.snoc (by simpa using i1) hl1 _ _ i3
        have hl2 : (mOut R no bd k ++ [no, bd]).length = 2 * (k + 1) := by simp [hl1]; omega
        have le1 : ∀ i, i < k + 1 → (mOut R no bd k ++ [no, bd]).getD (2 * i) 0 ≤ no := fun i hi => by
          by_cases c : i = k
          · subst c; rw [(getD_pairR (n := i) _ _ _ hl1).1]; exact Int.le_refl _
          · rw [getD_pairL _ _ _ _ (by omega)]; exact i3 i (by omega)
        refine ⟨r1.snoc hl2 _ _ (fun i hi => by have := le1 i hi; omega), fun i hi => ?_, fun h => by simp at h, fun _ => ⟨k, by omega, hg⟩⟩
        by_cases c : i = k + 1
        · subst c; exact .inr ⟨k, by omega, by rw [(getD_pairR (n := k + 1) _ _ _ hl2).1]; exact Int.le_refl _⟩
        · rw [getD_pairL _ _ _ _ (by omega)]; exact .inl (le1 i (by omega))
      · rw [if_neg (fun h => hg h.2), decide_eq_false hg]
        simp only [Bool.or_false, Bool.toNat_false, Nat.add_zero] at i1 hl ⊢
        have le1 : ∀ i, i < k → (mOut R no bd k).getD (2 * i) 0 ≤ R.getD (2 * k) 0 := fun i hi => by
          have e := congrArg Prod.fst (List.map_inj_left.1 ((mOut_pairs R no bd k).1 hd) i (List.mem_range.2 hi))
          have e : (mOut R no bd k).getD (2 * i) 0 = R.getD (2 * i) 0 := e
          rw [e]; exact hR i k hi (by omega)
        refine ⟨i1.snoc (by simpa using hl) _ _ le1, fun i hi => ?_, fun _ i hi => ?_, fun h => by simp at h⟩
        · by_cases c : i = k
          · subst c; exact .inr ⟨i, by omega, by rw [(getD_pairR (n := i) _ _ _ (by simpa using hl)).1]; exact Int.le_refl _⟩
          · rw [getD_pairL _ _ _ _ (by omega)]; exact .inl (i3 i (by omega))
        · by_cases c : i = k
          · subst c; rw [(getD_pairR (n := i) _ _ _ (by simpa using hl)).1]; omega
          · rw [getD_pairL _ _ _ _ (by omega)]; exact i3 i (by omega)
theorem mFin_rises (R : List Int) (no bd : Int) (n : Nat) (hR : Rises R n) : Rises (mFin R no bd n) (n + 1) := by
  obtain ⟨i1, i2, i3, i4⟩ := mOut_rises R no bd n hR n (Nat.le_refl _)
  have hl := mOut_len R no bd n
  unfold mFin
  cases hd : mDone R no n with
  | true => rw [hd] at i1; rw [if_pos rfl]; exact i1
  | false =>
    rw [hd] at i1 hl
    rw [if_neg (by simp)]
    exact Rises.snoc (by simpa using i1) (by simpa using hl) _ _ (i3 hd)
theorem mFin_ordered {X A : List Int} {n : Nat} (h : Ordered X A n) (hX : X.length = 2 * n) (no bd : Int) : Ordered (X ++ [no, bd]) (mFin A no bd n) (n + 1) :=
  ⟨mFin_len A no bd n, by rw [pairsOf_snoc X no bd n hX]; exact (mFin_perm A no bd n).trans (h.perm.append_right _), mFin_rises A no bd n h.rise⟩
end Go.Proofs.YtcdopnkabbfooaaGreat

namespace Go.Proofs.YtcdopnkabbfooaaGreat
open Go.RowKit

section
variable {w wx wy : World} {E Z A X : Nat} {s t : St} {rv lv v1 v2 v3 r l : Value} {ws wv : Nat → Value} {v : Ev} {ep nx gv : Int}
theorem qBlock.put0 (h : qBlock wx X ep nx gv r l ws) (y : Int) : qBlock (wx.setCell ⟨X, 0, none⟩ (.int .i64 y)) X y nx gv r l ws := by
  have := heap_set (o := 0) (v := .int .i64 y) h
  unfold qBlock
  rw [this]
  rfl
theorem qBlock.put1 (h : qBlock wx X ep nx gv r l ws) (y : Int) : qBlock (wx.setCell ⟨X, 1, none⟩ (.int .i64 y)) X ep y gv r l ws := by
  have := heap_set (o := 1) (v := .int .i64 y) h
  unfold qBlock
  rw [this]
  rfl
theorem qBlock.put2 (h : qBlock wx X ep nx gv r l ws) (y : Int) : qBlock (wx.setCell ⟨X, 2, none⟩ (.int .i64 y)) X ep nx y r l ws := by
  have := heap_set (o := 2) (v := .int .i64 y) h
  unfold qBlock
  rw [this]
  rfl
/-- the copy's ready messages stored anew. -/
theorem Qd.newReady (h : Qd w wx E Z A X s rv lv ws v t v1 v2 wv) (n : Nat) (M : List Int) (own : wx.ownsRow (A + 1) 131 2 v3 n (M.map (Value.int .i64))) : Qd w (wx.setCell ⟨X, 3, none⟩ v3) E Z A X s rv lv ws v ⟨t.ep, t.nx, t.gv, n, M, t.ln, t.L, t.wt, t.wz⟩ v3 v2 wv := by
  have T := Turned.set X 3 wx v3
  exact ⟨h.d.turned T h.upX, h.q.ready _, T.owns own (own_off own h.q (by decide)), T.owns h.o2 (own_off h.o2 h.q (by decide)), h.upX⟩
/-- the copy behind a break. -/
theorem Qd.broken (h : Qd w wx E Z A X s rv lv ws v t v1 v2 wv) (y : Int) : Qd w (((wx.setCell ⟨X, 4, none⟩ (.slice none 0 0)).setCell ⟨X, 0, none⟩ (.int .i64 y)).setCell ⟨X, 2, none⟩ (.int .i64 0)) E Z A X s rv lv ws v ⟨y, t.nx, 0, t.rn, t.R, 0, [], t.wt, t.wz⟩ v1 (.slice none 0 0) wv := by
  have C1 := h.noLeases
  have C2 := C1.turn (wt := t.wt) (wz := t.wz) (Turned.set X 0 _ (.int .i64 y)) (C1.q.put0 y)
  exact C2.turn (wt := t.wt) (wz := t.wz) (Turned.set X 2 _ (.int .i64 0)) (C2.q.put2 0)
end
theorem ready_rises {s : St} (h : s.Ok) : Rises s.R s.rn := by
  have far : ∀ j i, i < j → j < s.rn → s.R.getD (2 * i) 0 < s.R.getD (2 * j) 0 := by
    intro j
    induction j with
    | zero => intro i h1; omega
    | succ j ih =>
      intro i h1 h2
      have hs := (h.hold.ready (j + 1) h2).rise
      have hs : s.R.getD (2 * j) 0 < s.R.getD (2 * (j + 1)) 0 := hs
      rcases Nat.lt_or_ge i j with h3 | h3
      · have := ih i h3 (by omega); omega
      · obtain rfl : i = j := by omega
        exact hs
  intro i j h1 h2
  have := far j i h1 h2
  omega
set_option maxRecDepth 20000 in
set_option maxHeartbeats 4000000 in
theorem queueDone_endFull (s : St) (ra la : Option Addr) (rc lc : Nat) (ws : Nat → Value) (v : Ev) (w : World) (hR : RowK .i64 w ra (2 * s.rn) s.R) (hL : RowK .i64 w la (4 * s.ln) s.L) (hW : Wins ws s.wt s.wz) (h : s.Ok) (hv : Hid v.Ok) (HK : Hid (v.k = 4)) (HE : Hid (s.ep = 1048576)) :
    Calls Tryz.prog 84 #[qVal s.ep s.nx s.gv (.slice ra s.rn rc) (.slice la s.ln lc) ws, evIn v] w fun e w' => QdR s v w e w' := by
  have HC : ∀ w, Calls Tryz.prog 66 #[evIn v] w fun e w' => e = .returned (.int .i64 0) ∧ Below w.heap.size w w' := fun w => by
    have := fault_any v.k v.p v.i v.b v.he v.hn w
    rwa [show eventFault v.k v.p v.i v.b v.he v.hn = 0 from unveil hv] at this
  have hsz := h.count.sz
  have hs : s.rn + s.ln ≤ 9223372036854775807 := by omega
  go_enter Tryz.func84, Tryz.ntmps84
  go_wp2_with (first
    | (refine q_box 2 _ rfl rfl rfl rfl ?_; intro W1 q1 b1)
    | (refine q_alloc 4 rfl rfl rfl ?_; intro W3 z3 b3; have DD := Dos.made q1 b1 z3 b3; have DQ := DD.q; have HDD := veil DD; clear DD z3 b3 q1 b1)
    | (refine q_loads _ rfl rfl rfl (by assumption) ?_)
    | (go_at_call 88; refine (queueFault_yes _ _ _ _ _ _ _ _ _ _ _ _ s.wt s.wz _ (hR.below (unveil HDD).bel) (hL.below (unveil HDD).bel) hW hs h).mono ?_; rintro e W4 ⟨rfl, b4⟩; have D4 := (unveil HDD).next b4; have ev4 := D4.e; have v0 : W4.cell? ⟨W1.heap.size, 0, none⟩ = some (.int .i64 v.k) := (by simp [World.cell?, ev4]); have v1 : W4.cell? ⟨W1.heap.size, 1, none⟩ = some (.int .i64 v.p) := (by simp [World.cell?, ev4]); have v2 : W4.cell? ⟨W1.heap.size, 2, none⟩ = some (.int .i64 v.i) := (by simp [World.cell?, ev4]); have v3 : W4.cell? ⟨W1.heap.size, 3, none⟩ = some (.int .i64 v.b) := (by simp [World.cell?, ev4]); have v4 : W4.cell? ⟨W1.heap.size, 4, none⟩ = some (.int .i64 v.he) := (by simp [World.cell?, ev4]); have v5 : W4.cell? ⟨W1.heap.size, 5, none⟩ = some (.int .i64 v.hn) := (by simp [World.cell?, ev4]); have HD4 := veil D4; clear D4 HDD DQ b4 ev4)
    | (go_at_call 66; refine (HC _).mono ?_; rintro e W5 ⟨rfl, b5⟩; have D5 := (unveil HD4).next b5; have DQ5 := D5.q; have HD5 := veil D5; clear D5 HD4 b5 v0 v1 v2 v3 v4 v5)
    | (go_at_call 89; refine (queueCopy_any _ _ _ _ _ _ _ _ _ s.R s.L ws s.wt s.wz _ (hR.below (unveil HD5).bel) (hL.below (unveil HD5).bel) hW (by omega) (by omega)).mono ?_; rintro e W6 ⟨v1, v2, rfl, o1, o2, b6⟩; obtain ⟨a1, c1, rfl⟩ := own_form o1; obtain ⟨a2, c2, rfl⟩ := own_form o2; have hA5 := (unveil HD5).a.lt; have HO1 := veil (own_lower o1 hA5); have HO2 := veil (own_lower o2 hA5); have HD6 := veil ((unveil HD5).next b6); clear DQ5 o1 o2 b6)
    | (refine q_alloc 9 rfl rfl rfl ?_; intro W7 z7 b7; have HB7 := veil b7; clear b7)
    | (refine q_store _ _ rfl rfl rfl rfl z7 hW ?_; intro W8 q8 t8; have HQ8 := veil (Qd.made (unveil HD6) (unveil HO1) (unveil HO2) (unveil HB7) q8 t8); clear t8 HD6 HO1 HO2 HB7 z7 hA5 HD5; obtain ⟨c0, c1', c2', c3, c4⟩ := (unveil HQ8).d.q.heads; have z8 := (unveil HQ8).d.z; have hups := (unveil HQ8).ups; have u0 : W8.cell? ⟨W1.heap.size, 0, none⟩ = some (.int .i64 (4 : Int)) := (by simp [World.cell?, (unveil HQ8).d.e, unveil HK]); have u1 : W8.cell? ⟨W1.heap.size, 1, none⟩ = some (.int .i64 v.p) := (by simp [World.cell?, (unveil HQ8).d.e]); have u2 : W8.cell? ⟨W1.heap.size, 2, none⟩ = some (.int .i64 v.i) := (by simp [World.cell?, (unveil HQ8).d.e]); have u3 : W8.cell? ⟨W1.heap.size, 3, none⟩ = some (.int .i64 v.b) := (by simp [World.cell?, (unveil HQ8).d.e]); have u4 : W8.cell? ⟨W1.heap.size, 4, none⟩ = some (.int .i64 v.he) := (by simp [World.cell?, (unveil HQ8).d.e]); have u5 : W8.cell? ⟨W1.heap.size, 5, none⟩ = some (.int .i64 v.hn) := (by simp [World.cell?, (unveil HQ8).d.e]); rw [unveil HE] at c0)
    | (refine q_store _ _ rfl rfl rfl rfl (by assumption) hW ?_; intro W9 q9 t9; have a9 := (unveil HQ8).d.a.turned t9 (by have := (unveil HQ8).ups; omega); obtain ⟨x0, x1, x2, x3⟩ := a9.cells; have xf := a9.free; have HQ9 := veil q9; have HT9 := veil t9; clear q9 t9 a9))
  obtain ⟨fa, fT, fq, fb⟩ := (unveil HQ8).out (unveil HT9) hW hR.wf hL.wf 14 0 0 0
  exact bodyPost_ret (ret_QueueDone (fT.queue (unveil HQ9) (by have := (unveil HQ8).ups; omega)) fa rfl rfl rfl rfl) rfl (QdR.of (s' := s) (.endFull (unveil HK) (unveil HE)) fq fb)

set_option maxRecDepth 20000 in
set_option maxHeartbeats 4000000 in
theorem queueDone_stop (s : St) (ra la : Option Addr) (rc lc : Nat) (ws : Nat → Value) (v : Ev) (w : World) (hR : RowK .i64 w ra (2 * s.rn) s.R) (hL : RowK .i64 w la (4 * s.ln) s.L) (hW : Wins ws s.wt s.wz) (h : s.Ok) (hv : Hid v.Ok) (HK : Hid (v.k = 4)) (hep : s.ep < 1048576) :
    Calls Tryz.prog 84 #[qVal s.ep s.nx s.gv (.slice ra s.rn rc) (.slice la s.ln lc) ws, evIn v] w fun e w' => QdR s v w e w' := by
  have heb : (s.ep == 1048576) = false := by simp; omega
  have he0 := h.count.e0
  have he1 := h.count.e1
  have HEP := veil hep
  clear hep
  have HC : ∀ w, Calls Tryz.prog 66 #[evIn v] w fun e w' => e = .returned (.int .i64 0) ∧ Below w.heap.size w w' := fun w => by
    have := fault_any v.k v.p v.i v.b v.he v.hn w
    rwa [show eventFault v.k v.p v.i v.b v.he v.hn = 0 from unveil hv] at this
  have hsz := h.count.sz
  have hs : s.rn + s.ln ≤ 9223372036854775807 := by omega
  go_enter Tryz.func84, Tryz.ntmps84
  go_wp2_with (first
    | (refine q_box 2 _ rfl rfl rfl rfl ?_; intro W1 q1 b1)
    | (refine q_alloc 4 rfl rfl rfl ?_; intro W3 z3 b3; have DD := Dos.made q1 b1 z3 b3; have DQ := DD.q; have HDD := veil DD; clear DD z3 b3 q1 b1)
    | (refine q_loads _ rfl rfl rfl (by assumption) ?_)
    | (go_at_call 88; refine (queueFault_yes _ _ _ _ _ _ _ _ _ _ _ _ s.wt s.wz _ (hR.below (unveil HDD).bel) (hL.below (unveil HDD).bel) hW hs h).mono ?_; rintro e W4 ⟨rfl, b4⟩; have D4 := (unveil HDD).next b4; have ev4 := D4.e; have v0 : W4.cell? ⟨W1.heap.size, 0, none⟩ = some (.int .i64 v.k) := (by simp [World.cell?, ev4]); have v1 : W4.cell? ⟨W1.heap.size, 1, none⟩ = some (.int .i64 v.p) := (by simp [World.cell?, ev4]); have v2 : W4.cell? ⟨W1.heap.size, 2, none⟩ = some (.int .i64 v.i) := (by simp [World.cell?, ev4]); have v3 : W4.cell? ⟨W1.heap.size, 3, none⟩ = some (.int .i64 v.b) := (by simp [World.cell?, ev4]); have v4 : W4.cell? ⟨W1.heap.size, 4, none⟩ = some (.int .i64 v.he) := (by simp [World.cell?, ev4]); have v5 : W4.cell? ⟨W1.heap.size, 5, none⟩ = some (.int .i64 v.hn) := (by simp [World.cell?, ev4]); have HD4 := veil D4; clear D4 HDD DQ b4 ev4)
    | (go_at_call 66; refine (HC _).mono ?_; rintro e W5 ⟨rfl, b5⟩; have D5 := (unveil HD4).next b5; have DQ5 := D5.q; have HD5 := veil D5; clear D5 HD4 b5 v0 v1 v2 v3 v4 v5)
    | (go_at_call 89; refine (queueCopy_any _ _ _ _ _ _ _ _ _ s.R s.L ws s.wt s.wz _ (hR.below (unveil HD5).bel) (hL.below (unveil HD5).bel) hW (by omega) (by omega)).mono ?_; rintro e W6 ⟨v1, v2, rfl, o1, o2, b6⟩; obtain ⟨a1, c1, rfl⟩ := own_form o1; obtain ⟨a2, c2, rfl⟩ := own_form o2; have hA5 := (unveil HD5).a.lt; have HO1 := veil (own_lower o1 hA5); have HO2 := veil (own_lower o2 hA5); have HD6 := veil ((unveil HD5).next b6); clear DQ5 o1 o2 b6)
    | (refine q_alloc 9 rfl rfl rfl ?_; intro W7 z7 b7; have HB7 := veil b7; clear b7)
    | (refine q_store _ _ rfl rfl rfl rfl z7 hW ?_; intro W8 q8 t8; have HQ8 := veil (Qd.made (unveil HD6) (unveil HO1) (unveil HO2) (unveil HB7) q8 t8); clear t8 HD6 HO1 HO2 HB7 z7 hA5 HD5; obtain ⟨c0, c1', c2', c3, c4⟩ := (unveil HQ8).d.q.heads; have z8 := (unveil HQ8).d.z; have hups := (unveil HQ8).ups; have u0 : W8.cell? ⟨W1.heap.size, 0, none⟩ = some (.int .i64 (4 : Int)) := (by simp [World.cell?, (unveil HQ8).d.e, unveil HK]); have u1 : W8.cell? ⟨W1.heap.size, 1, none⟩ = some (.int .i64 v.p) := (by simp [World.cell?, (unveil HQ8).d.e]); have u2 : W8.cell? ⟨W1.heap.size, 2, none⟩ = some (.int .i64 v.i) := (by simp [World.cell?, (unveil HQ8).d.e]); have u3 : W8.cell? ⟨W1.heap.size, 3, none⟩ = some (.int .i64 v.b) := (by simp [World.cell?, (unveil HQ8).d.e]); have u4 : W8.cell? ⟨W1.heap.size, 4, none⟩ = some (.int .i64 v.he) := (by simp [World.cell?, (unveil HQ8).d.e]); have u5 : W8.cell? ⟨W1.heap.size, 5, none⟩ = some (.int .i64 v.hn) := (by simp [World.cell?, (unveil HQ8).d.e]); obtain ⟨d0, d1, d2, d3, d4⟩ := q8.heads; have df := q8.free))
  have C0 := unveil HQ8
  clear HQ8 c0 c1' c2' c3 c4 z8 hups u0 u1 u2 u3 u4 u5 d0 d1 d2 d3 d4 df q8
  go_loopw [17] (fun t wr => ∃ (k : Nat) (M : List Int) (v1 : Value), k ≤ s.ln ∧ t = .int .i64 k ∧ Qd w wr W1.heap.size (W1.heap.size + 1) W3.heap.size W6.heap.size s (.slice ra s.rn rc) (.slice la s.ln lc) ws v ⟨s.ep, s.nx, s.gv, s.rn + k, M, s.ln, s.L, s.wt, s.wz⟩ v1 (.slice a2 s.ln c2) ws ∧ Hid (Ordered (s.R ++ msgsTo s.L k) M (s.rn + k))) (fun t _ => s.ln - (intOf t).toNat)
  case atStart => exact ⟨0, s.R, _, Nat.zero_le _, rfl, C0, veil (by rw [msgsTo, List.append_nil]; exact ⟨hR.len_eq, List.Perm.refl _, ready_rises h⟩)⟩
  case round =>
    obtain ⟨k, M, v1, hk, rfl, C, HI⟩ := hrel
    clear C0
    obtain ⟨a1', c1', rfl⟩ := own_form C.o1
    obtain ⟨e0, e1, e2, e3, e4⟩ := C.d.q.heads
    obtain ⟨d0, d1, d2, d3, d4⟩ := C.q.heads
    have HC := veil C
    have wM : ∀ u ∈ M, (Lit.int .i64 u).wf = true := (unveil HI).wf (fun u hu => by
      rcases List.mem_append.1 hu with hu | hu
      · exact hR.wf u hu
      · exact msgsTo_wf hL.wf _ u hu)
    by_cases hlt : k < s.ln
    case pos =>
      obtain ⟨b, off, rfl⟩ := hL.form (by omega)
      obtain ⟨x2, hx2⟩ : ∃ x, x = s.L.getD (4 * k + 2) 0 := ⟨_, rfl⟩
      obtain ⟨x3, hx3⟩ : ∃ x, x = s.L.getD (4 * k + 3) 0 := ⟨_, rfl⟩
      have r3 := hL.below C.d.bel
      have hbl : b < wr.heap.size := r3.lt (by omega)
      have k2 : wr.cell? ⟨b, off + k * 4 + 2, none⟩ = some (.int .i64 x2) := by rw [Nat.mul_comm k 4, hx2]; exact r3.at (4 * k + 2) (by omega)
      have k3 : wr.cell? ⟨b, off + k * 4 + 3, none⟩ = some (.int .i64 x3) := by rw [Nat.mul_comm k 4, hx3]; exact r3.at (4 * k + 3) (by omega)
      have HI4 : Hid (Ordered (s.R ++ msgsTo s.L (k + 1)) (mFin M x2 x3 (s.rn + k)) (s.rn + k + 1)) := veil (by
        rw [msgsTo, ← List.append_assoc, ← hx2, ← hx3]
        exact mFin_ordered (unveil HI) (by have := (unveil HI).perm.length_eq; have := hR.len_eq; rw [List.length_append, msgsTo_len]; omega) x2 x3)
      have HRow : Hid (∀ w3, Below wr.heap.size wr w3 → RowK .i64 w3 a1' (2 * (s.rn + k)) M) := veil fun w3 hb => by
        obtain ⟨_, _, e, r, _⟩ := RowK.ofMany (C.next hb).o1 wM
        cases e
        exact r
      have HL := veil hL
      clear C hx2 hx3 hL r3 wM
      go_wp2_with fail
      first | go_region_with (first | (go_at_call 91; refine (messageIn_any _ _ _ M _ _ _ (unveil HRow _ (by first | with_reducible exact below_drew _ | exact below_drew _)) (by omega)).mono ?_; rintro e w4 ⟨v', rfl, own4, b4⟩; obtain ⟨a', cap', rfl⟩ := own_form own4; have C4 := (unveil HC).next (by first | with_reducible exact Below.next (below_drew _) b4 | exact Below.next (below_drew _) b4); have o4 := own_lower own4 (by have := (unveil HC).ltA; first | exact this | (simp; omega)); have f3 := C4.q.free; have k4 := C4.q.heads.2.2.2.1; have HC4 := veil (C4.newReady _ _ o4); clear C4 own4 o4 b4)) | fail
      all_goals (try clear e0 e1 e2 e3 e4 d0 d1 d2 d3 d4 k2 k3 HRow)
      all_goals go_wp2
      all_goals (go_roundw <;> first | exact ⟨k + 1, _, _, by omega, by go_num, (by first | exact unveil HC4 | exact (unveil HC4).next (below_drew _)), HI4⟩ | (simp [intOf]; omega))
    case neg =>
      obtain rfl : k = s.ln := by omega
      have df := C.q.free
      have C9 := C.broken (s.ep + 1)
      have q9' := C9.q
      have z9 := C9.d.z
      have HC9 := veil C9
      have hups := C.ups
      have hn1 : w.heap.size ≠ W6.heap.size := by omega
      have hn2 : W6.heap.size ≠ w.heap.size := by omega
      clear C C9
      go_wp2_with (first | (refine q_loads _ rfl rfl rfl q9' ?_) | (refine q_store _ _ rfl rfl rfl rfl z9 hW ?_; intro W9 q9 t9; have a9 := (unveil HC9).d.a.turned t9 (by have := (unveil HC9).ups; omega); obtain ⟨x0, x1, x2, x3⟩ := a9.cells; have xf := a9.free; have HQ9 := veil q9; have HT9 := veil t9; clear q9 t9 a9))
      obtain ⟨fa, fT, fq, fb⟩ := (unveil HC9).out (unveil HT9) hW wM (fun u hu => by cases hu) 0 0 0 0
      exact bodyPost_ret (ret_QueueDone (fT.queue (unveil HQ9) (by have := (unveil HC9).ups; omega)) fa rfl rfl rfl rfl) rfl (QdR.of (s' := _) (.stop (unveil HK) (unveil HEP) M (unveil HI)) fq fb)
end Go.Proofs.YtcdopnkabbfooaaGreat
