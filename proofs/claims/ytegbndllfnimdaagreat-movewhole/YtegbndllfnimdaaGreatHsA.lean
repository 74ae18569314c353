/- Lists of events: with how many events two lists begin alike; the walks of history.Common, of the document's answer's CommonTo and EventsCopy. -/
import Derived.Test.YtegbndllfnimdaaGreatQuH
import Derived.Deep.QuietTactic
namespace Go.Proofs.YtegbndllfnimdaaGreat
open Go.RowKit

theorem Tryz.infoEvent : (Tryz.prog.info? 48).map (fun i => (i.zero, i.size, i.bytes)) = some (some (.agg #[.int .i64 0, .int .i64 0, .int .i64 0, .int .i64 0, .int .i64 0, .int .i64 0]), 6, 48) := by kernel_rfl
/-- the k-th events are the same. -/
def SameAt (A B : List Int) (k : Nat) : Prop := ∀ j, j < 6 → A.getD (6 * k + j) 0 = B.getD (6 * k + j) 0
/-- two lists begin alike with just n events. -/
structure IsCommon (A B : List Int) (la lb n : Nat) : Prop where
  lea : n ≤ la
  leb : n ≤ lb
  same : ∀ k, k < n → SameAt A B k
  stop : n = la ∨ n = lb ∨ ¬ SameAt A B n
theorem IsCommon.le {A B : List Int} {la lb n m : Nat} (h : IsCommon A B la lb n) (g : IsCommon A B la lb m) : n ≤ m := by
  rcases Nat.lt_or_ge m n with hlt | hge
  · rcases g.stop with h1 | h1 | h1
    · have := h.lea; omega
    · have := h.leb; omega
    · exact absurd (h.same m hlt) h1
  · exact hge
theorem IsCommon.unique {A B : List Int} {la lb n m : Nat} (h : IsCommon A B la lb n) (g : IsCommon A B la lb m) : n = m := Nat.le_antisymm (h.le g) (g.le h)
theorem six_ne {p0 p1 p2 p3 p4 p5 q0 q1 q2 q3 q4 q5 : Int} (hs : ¬ (p0 = q0 ∧ p1 = q1 ∧ p2 = q2 ∧ p3 = q3 ∧ p4 = q4 ∧ p5 = q5)) :
    (¬ p0 = q0) ∨ (p0 = q0 ∧ ¬ p1 = q1) ∨ (p0 = q0 ∧ p1 = q1 ∧ ¬ p2 = q2) ∨ (p0 = q0 ∧ p1 = q1 ∧ p2 = q2 ∧ ¬ p3 = q3) ∨ (p0 = q0 ∧ p1 = q1 ∧ p2 = q2 ∧ p3 = q3 ∧ ¬ p4 = q4) ∨ (p0 = q0 ∧ p1 = q1 ∧ p2 = q2 ∧ p3 = q3 ∧ p4 = q4 ∧ ¬ p5 = q5) := by
  by_cases e0 : p0 = q0
  · by_cases e1 : p1 = q1
    · by_cases e2 : p2 = q2
      · by_cases e3 : p3 = q3
        · by_cases e4 : p4 = q4
          · exact .inr (.inr (.inr (.inr (.inr ⟨e0, e1, e2, e3, e4, fun e5 => hs ⟨e0, e1, e2, e3, e4, e5⟩⟩))))
          · exact .inr (.inr (.inr (.inr (.inl ⟨e0, e1, e2, e3, e4⟩))))
        · exact .inr (.inr (.inr (.inl ⟨e0, e1, e2, e3⟩)))
      · exact .inr (.inr (.inl ⟨e0, e1, e2⟩))
    · exact .inr (.inl ⟨e0, e1⟩)
  · exact .inl e0
/-- six cells of a row. -/
theorem RowK.six {w : World} {b off n : Nat} {D : List Int} (h : RowK .i64 w (some ⟨b, off, none⟩) (6 * n) D) (k : Nat) (hk : k < n) :
    w.cell? ⟨b, off + k * 6, none⟩ = some (.int .i64 (D.getD (6 * k) 0)) ∧ w.cell? ⟨b, off + k * 6 + 1, none⟩ = some (.int .i64 (D.getD (6 * k + 1) 0)) ∧ w.cell? ⟨b, off + k * 6 + 2, none⟩ = some (.int .i64 (D.getD (6 * k + 2) 0)) ∧
    w.cell? ⟨b, off + k * 6 + 3, none⟩ = some (.int .i64 (D.getD (6 * k + 3) 0)) ∧ w.cell? ⟨b, off + k * 6 + 4, none⟩ = some (.int .i64 (D.getD (6 * k + 4) 0)) ∧ w.cell? ⟨b, off + k * 6 + 5, none⟩ = some (.int .i64 (D.getD (6 * k + 5) 0)) := by
  rw [Nat.mul_comm k 6]
  exact ⟨h.at (6 * k) (by omega), h.at (6 * k + 1) (by omega), h.at (6 * k + 2) (by omega), h.at (6 * k + 3) (by omega), h.at (6 * k + 4) (by omega), h.at (6 * k + 5) (by omega)⟩

set_option maxHeartbeats 2000000 in
theorem common_any (a b : Option Addr) (la ca lb cb : Nat) (A B : List Int) (w : World) (hA : RowK .i64 w a (6 * la) A) (hB : RowK .i64 w b (6 * lb) B) (h1 : la ≤ 9223372036854775806) (h2 : lb ≤ 9223372036854775806) :
    Calls Tryz.prog 94 #[.slice a la ca, .slice b lb cb] w fun e w' => ∃ n : Nat, e = .returned (.int .i64 n) ∧ IsCommon A B la lb n ∧ Below w.heap.size w w' := by
  go_enter Tryz.func94, Tryz.ntmps94
  go_wp2
  go_loopw [5] (fun t wr => ∃ k m : Nat, k ≤ la ∧ k ≤ lb ∧ t = .int .i64 k ∧ wr = w.drewN m ∧ Hid (∀ j, j < k → SameAt A B j)) (fun t _ => la - (intOf t).toNat)
  case atStart => exact ⟨0, 0, Nat.zero_le _, Nat.zero_le _, rfl, rfl, veil (fun j hj => absurd hj (Nat.not_lt_zero _))⟩
  case round =>
    obtain ⟨k, m, hka, hkb, rfl, rfl, HS⟩ := hrel
    by_cases h3 : k < la
    case neg =>
      obtain rfl : k = la := by omega
      clear hA hB
      go_wp2_with fail
      go_quiet (fail)
      go_wp2
      go_ret
      exact ⟨k, rfl, ⟨Nat.le_refl _, hkb, unveil HS, .inl rfl⟩, ⟨rfl, rfl, rfl, Nat.le_refl _, fun _ _ => rfl⟩⟩
    case pos =>
    by_cases h4 : k < lb
    case neg =>
      obtain rfl : k = lb := by omega
      clear hA hB
      go_wp2_with fail
      go_quiet (fail)
      go_wp2
      go_ret
      exact ⟨k, rfl, ⟨hka, Nat.le_refl _, unveil HS, .inr (.inl rfl)⟩, ⟨rfl, rfl, rfl, Nat.le_refl _, fun _ _ => rfl⟩⟩
    case pos =>
    obtain ⟨b1, o1, rfl⟩ := hA.form (by omega)
    obtain ⟨b2, o2, rfl⟩ := hB.form (by omega)
    obtain ⟨x0, x1, x2, x3, x4, x5⟩ := hA.six k h3
    obtain ⟨y0, y1, y2, y3, y4, y5⟩ := hB.six k h4
    have HE : Hid (SameAt A B k ↔ (A.getD (6 * k) 0 = B.getD (6 * k) 0 ∧ A.getD (6 * k + 1) 0 = B.getD (6 * k + 1) 0 ∧ A.getD (6 * k + 2) 0 = B.getD (6 * k + 2) 0 ∧ A.getD (6 * k + 3) 0 = B.getD (6 * k + 3) 0 ∧ A.getD (6 * k + 4) 0 = B.getD (6 * k + 4) 0 ∧ A.getD (6 * k + 5) 0 = B.getD (6 * k + 5) 0)) := veil (by
      constructor
      · intro h; exact ⟨h 0 (by omega), h 1 (by omega), h 2 (by omega), h 3 (by omega), h 4 (by omega), h 5 (by omega)⟩
      · rintro ⟨e0, e1, e2, e3, e4, e5⟩ j hj
        match j, hj with
        | 0, _ => exact e0
        | 1, _ => exact e1
        | 2, _ => exact e2
        | 3, _ => exact e3
        | 4, _ => exact e4
        | 5, _ => exact e5)
    clear hA hB
    generalize A.getD (6 * k) 0 = p0 at x0 HE
    generalize A.getD (6 * k + 1) 0 = p1 at x1 HE
    generalize A.getD (6 * k + 2) 0 = p2 at x2 HE
    generalize A.getD (6 * k + 3) 0 = p3 at x3 HE
    generalize A.getD (6 * k + 4) 0 = p4 at x4 HE
    generalize A.getD (6 * k + 5) 0 = p5 at x5 HE
    generalize B.getD (6 * k) 0 = q0 at y0 HE
    generalize B.getD (6 * k + 1) 0 = q1 at y1 HE
    generalize B.getD (6 * k + 2) 0 = q2 at y2 HE
    generalize B.getD (6 * k + 3) 0 = q3 at y3 HE
    generalize B.getD (6 * k + 4) 0 = q4 at y4 HE
    generalize B.getD (6 * k + 5) 0 = q5 at y5 HE
    by_cases hs : p0 = q0 ∧ p1 = q1 ∧ p2 = q2 ∧ p3 = q3 ∧ p4 = q4 ∧ p5 = q5
    · have HS1 : Hid (∀ j, j < k + 1 → SameAt A B j) := veil fun j hj => by
        rcases Nat.lt_or_ge j k with h | h
        · exact unveil HS j h
        · obtain rfl : j = k := by omega
          exact (unveil HE).2 hs
      clear HE HS
      obtain ⟨rfl, rfl, rfl, rfl, rfl, rfl⟩ := hs
      go_wp2_with fail
      go_quiet (fail)
      clear x0 x1 x2 x3 x4 x5 y0 y1 y2 y3 y4 y5
      go_wp2
      go_roundw
      case rel => exact ⟨k + 1, m + nq, by omega, by omega, by go_num, by first | exact (World.drewN_add _ _ _).symm | exact World.drewN_add _ _ _ | exact World.drewN_drewN _ _ _ | rfl | simp, HS1⟩
      case measure => simp [intOf]; omega
    · have HN : Hid (¬ SameAt A B k) := veil fun h => hs ((unveil HE).1 h)
      have hd := six_ne hs
      clear HE hs
      rcases hd with hd | ⟨rfl, hd⟩ | ⟨rfl, rfl, hd⟩ | ⟨rfl, rfl, rfl, hd⟩ | ⟨rfl, rfl, rfl, rfl, hd⟩ | ⟨rfl, rfl, rfl, rfl, rfl, hd⟩
      all_goals
        go_wp2_with fail
        go_quiet (fail)
        go_wp2
        go_ret
        exact ⟨k, rfl, ⟨hka, hkb, unveil HS, .inr (.inr (unveil HN))⟩, ⟨rfl, rfl, rfl, Nat.le_refl _, fun _ _ => rfl⟩⟩

theorem news6 (w : World) (x0 x1 x2 x3 x4 x5 : Int) (t : TypeId) : ∀ j u, ([x0, x1, x2, x3, x4, x5].map (Value.int .i64))[j]? = some u → (w.alloc (.cells #[.int .i64 x0, .int .i64 x1, .int .i64 x2, .int .i64 x3, .int .i64 x4, .int .i64 x5] t)).drew.cell? ((⟨w.heap.size, 0, none⟩ : Addr).add j) = some u := by
  intro j u hj
  rw [Addr.add_mid]
  match j, hj with
  | 0, hj => simp at hj; subst hj; simp
  | 1, hj => simp at hj; subst hj; simp
  | 2, hj => simp at hj; subst hj; simp
  | 3, hj => simp at hj; subst hj; simp
  | 4, hj => simp at hj; subst hj; simp
  | 5, hj => simp at hj; subst hj; simp
  | n + 6, hj => simp at hj
theorem getD_at6 (R : List Int) (k : Nat) (h : k < R.length) : R.getD k 0 = R[k] := by simp [List.getElem?_eq_getElem h]
theorem take_six (L : List Int) (k : Nat) (h : 6 * k + 6 ≤ L.length) : L.take (6 * (k + 1)) = L.take (6 * k) ++ [L.getD (6 * k) 0, L.getD (6 * k + 1) 0, L.getD (6 * k + 2) 0, L.getD (6 * k + 3) 0, L.getD (6 * k + 4) 0, L.getD (6 * k + 5) 0] := by
  rw [show 6 * (k + 1) = (6 * k + 5) + 1 by omega, List.take_succ_eq_append_getElem (show 6 * k + 5 < L.length by omega), List.take_succ_eq_append_getElem (show 6 * k + 4 < L.length by omega), List.take_succ_eq_append_getElem (show 6 * k + 3 < L.length by omega), List.take_succ_eq_append_getElem (show 6 * k + 2 < L.length by omega), List.take_succ_eq_append_getElem (show 6 * k + 1 < L.length by omega), List.take_succ_eq_append_getElem (show 6 * k < L.length by omega), getD_at6 L (6 * k) (by omega), getD_at6 L (6 * k + 1) (by omega), getD_at6 L (6 * k + 2) (by omega), getD_at6 L (6 * k + 3) (by omega), getD_at6 L (6 * k + 4) (by omega), getD_at6 L (6 * k + 5) (by omega), List.append_assoc, List.append_assoc, List.append_assoc, List.append_assoc, List.append_assoc]
  rfl
set_option maxRecDepth 20000 in
set_option maxHeartbeats 2000000 in
theorem eventsCopy_any (a : Option Addr) (la ca : Nat) (A : List Int) (w : World) (hA : RowK .i64 w a (6 * la) A) (hs : la * 48 ≤ 140737488351232) :
    Calls Tryz.prog 80 #[.slice a la ca] w fun e w' => ∃ v, e = .returned v ∧ w'.ownsRow w.heap.size 48 6 v la (A.map (Value.int .i64)) ∧ Below w.heap.size w w' := by
  obtain ⟨i2, hi2, hz20, hz21, hz22⟩ := info_of Tryz.infoEvent
  go_enter Tryz.func80, Tryz.ntmps80
  go_wp2
  go_loopw [3, 4] (fun v t wr => ∃ k : Nat, k ≤ la ∧ t = .int .i64 k ∧ wr.ownsRow w.heap.size 48 6 v k ((A.take (6 * k)).map (Value.int .i64)) ∧ Below w.heap.size w wr) (fun _ t _ => la - (intOf t).toNat)
  case atStart => exact ⟨0, Nat.zero_le _, rfl, World.ownsRow_nil _ _ _ _, Below.refl _ _⟩
  case round =>
    obtain ⟨k, hk, rfl, ow, bel⟩ := hrel
    obtain ⟨a1, c1, rfl⟩ := own_form ow
    by_cases hlt : k < la
    · have rA := hA.below bel
      obtain ⟨b, off, rfl⟩ := hA.form (by omega)
      obtain ⟨x0, x1, x2, x3, x4, x5⟩ := rA.six k hlt
      have hT : Hid (A.take (6 * (k + 1)) = A.take (6 * k) ++ [A.getD (6 * k) 0, A.getD (6 * k + 1) 0, A.getD (6 * k + 2) 0, A.getD (6 * k + 3) 0, A.getD (6 * k + 4) 0, A.getD (6 * k + 5) 0]) := veil (take_six A k (by have := hA.len_eq; omega))
      have hbl : b < wr.heap.size := rA.lt (by omega)
      have hbn : b ≠ wr.heap.size := by omega
      clear rA
      generalize A.getD (6 * k) 0 = p0 at x0 hT
      generalize A.getD (6 * k + 1) 0 = p1 at x1 hT
      generalize A.getD (6 * k + 2) 0 = p2 at x2 hT
      generalize A.getD (6 * k + 3) 0 = p3 at x3 hT
      generalize A.getD (6 * k + 4) 0 = p4 at x4 hT
      generalize A.getD (6 * k + 5) 0 = p5 at x5 hT
      have b5 : Below wr.heap.size wr (wr.alloc (.cells #[.int .i64 p0, .int .i64 p1, .int .i64 p2, .int .i64 p3, .int .i64 p4, .int .i64 p5] 48)) := below1 _ _
      have HO5 : Hid ((wr.alloc (.cells #[.int .i64 p0, .int .i64 p1, .int .i64 p2, .int .i64 p3, .int .i64 p4, .int .i64 p5] 48)).ownsRow w.heap.size 48 6 (.slice a1 k c1) k ((A.take (6 * k)).map (Value.int .i64))) := veil (own_still ow (fun g _ hg => b5.block g hg))
      have hws : w.heap.size ≤ wr.heap.size := bel.size
      have HG : Hid (∀ w4, (wr.alloc (.cells #[.int .i64 p0, .int .i64 p1, .int .i64 p2, .int .i64 p3, .int .i64 p4, .int .i64 p5] 48)).grownBy w4 (Value.slice a1 k c1).ownBlock → Below w.heap.size w w4) := veil fun w4 g => (bel.trans (b5.mono bel.size)).grown g (by have := b5.size; omega) (fun q hq => (ow.lt q hq).1)
      have HA := veil hA
      clear ow bel b5 hA
      go_wp2_with (at_builtin; refine wpList_append_own _ rfl _ _ 24 rfl w.heap.size 48 i2 _ 6 48 Tryz.underlying24 hi2 hz20 hz21 hz22 rfl (by decide) (.slice a1 k c1) k ((A.take (6 * k)).map (Value.int .i64)) rfl (unveil HO5) ⟨wr.heap.size, 0, none⟩ 1 1 ([p0, p1, p2, p3, p4, p5].map (Value.int .i64)) rfl rfl (news6 _ _ _ _ _ _ _ _) (ints_oneCell _ _) (by unfold maxLen; omega) (by omega) (by simp; omega) ?_; intro v' w4 own4 grow4 _; obtain ⟨a', cap', rfl⟩ := own_form own4; rw [← List.map_append, ← unveil hT] at own4; have HO4 := veil own4; have HB4 := veil (unveil HG w4 grow4); clear own4 grow4)
      all_goals (go_roundw <;> first | exact ⟨k + 1, by omega, by go_num, unveil HO4, unveil HB4⟩ | (simp [intOf]; omega))
    · obtain rfl : k = la := by omega
      have htk : A.take (6 * k) = A := List.take_of_length_le (by have := hA.len_eq; omega)
      rw [htk] at ow
      have HO := veil ow
      have HB := veil bel
      clear ow bel htk hA
      go_wp2
      go_ret
      exact ⟨_, rfl, unveil HO, unveil HB⟩
end Go.Proofs.YtegbndllfnimdaaGreat
