/- Lists of events: with how many events two lists begin alike; the walks of history.Common, of the document's answer's CommonTo and EventsCopy. -/
import Derived.Test.YtjolamdlclcpcaaQuH
import Derived.Deep.QuietTactic
namespace Go.Proofs.Ytjolamdlclcpcaa
open Go.RowKit

theorem Try.infoEvent : (Try.prog.info? 37).map (fun i => (i.zero, i.size, i.bytes)) = some (some (.agg #[.int .i64 0, .int .i64 0, .int .i64 0, .int .i64 0, .int .i64 0, .int .i64 0]), 6, 48) := by kernel_rfl
/-- the k-th events are the same. -/
def SameAt (A B : List Int) (k : Nat) : Prop := ∀ j, j < 6 → A.getD (6 * k + j) 0 = B.getD (6 * k + j) 0
/-- two lists begin alike with just n events. -/
structure IsCommon (A B : List Int) (la lb n : Nat) : Prop where
  lea : n ≤ la
  leb : n ≤ lb
  same : ∀ k, k < n → SameAt A B k
  stop : n = la ∨ n = lb ∨ ¬ SameAt A B n
theorem IsCommon.le {A B : List Int} {la lb n m : Nat} (h : IsCommon A B la lb n) (g : IsCommon A B la lb m) : n ≤ m := by
  rcases Nat.lt_or_ge m n with hlt | hge
  · rcases g.stop with h1 | h1 | h1
    · have := h.lea; omega
    · have := h.leb; omega
    · exact absurd (h.same m hlt) h1
  · exact hge
theorem IsCommon.unique {A B : List Int} {la lb n m : Nat} (h : IsCommon A B la lb n) (g : IsCommon A B la lb m) : n = m := Nat.le_antisymm (h.le g) (g.le h)
theorem six_ne {p0 p1 p2 p3 p4 p5 q0 q1 q2 q3 q4 q5 : Int} (hs : ¬ (p0 = q0 ∧ p1 = q1 ∧ p2 = q2 ∧ p3 = q3 ∧ p4 = q4 ∧ p5 = q5)) :
    (¬ p0 = q0) ∨ (p0 = q0 ∧ ¬ p1 = q1) ∨ (p0 = q0 ∧ p1 = q1 ∧ ¬ p2 = q2) ∨ (p0 = q0 ∧ p1 = q1 ∧ p2 = q2 ∧ ¬ p3 = q3) ∨ (p0 = q0 ∧ p1 = q1 ∧ p2 = q2 ∧ p3 = q3 ∧ ¬ p4 = q4) ∨ (p0 = q0 ∧ p1 = q1 ∧ p2 = q2 ∧ p3 = q3 ∧ p4 = q4 ∧ ¬ p5 = q5) := by
  by_cases e0 : p0 = q0
  · by_cases e1 : p1 = q1
    · by_cases e2 : p2 = q2
      · by_cases e3 : p3 = q3
        · by_cases e4 : p4 = q4
          · exact .inr (.inr (.inr (.inr (.inr ⟨e0, e1, e2, e3, e4, fun e5 => hs ⟨e0, e1, e2, e3, e4, e5⟩⟩))))
          · exact .inr (.inr (.inr (.inr (.inl ⟨e0, e1, e2, e3, e4⟩))))
        · exact .inr (.inr (.inr (.inl ⟨e0, e1, e2, e3⟩)))
      · exact .inr (.inr (.inl ⟨e0, e1, e2⟩))
    · exact .inr (.inl ⟨e0, e1⟩)
  · exact .inl e0
/-- six cells of a row. -/
theorem RowK.six {w : World} {b off n : Nat} {D : List Int} (h : RowK .i64 w (some ⟨b, off, none⟩) (6 * n) D) (k : Nat) (hk : k < n) :
    w.cell? ⟨b, off + k * 6, none⟩ = some (.int .i64 (D.getD (6 * k) 0)) ∧ w.cell? ⟨b, off + k * 6 + 1, none⟩ = some (.int .i64 (D.getD (6 * k + 1) 0)) ∧ w.cell? ⟨b, off + k * 6 + 2, none⟩ = some (.int .i64 (D.getD (6 * k + 2) 0)) ∧
    w.cell? ⟨b, off + k * 6 + 3, none⟩ = some (.int .i64 (D.getD (6 * k + 3) 0)) ∧ w.cell? ⟨b, off + k * 6 + 4, none⟩ = some (.int .i64 (D.getD (6 * k + 4) 0)) ∧ w.cell? ⟨b, off + k * 6 + 5, none⟩ = some (.int .i64 (D.getD (6 * k + 5) 0)) := by
  rw [Nat.mul_comm k 6]
  exact ⟨h.at (6 * k) (by omega), h.at (6 * k + 1) (by omega), h.at (6 * k + 2) (by omega), h.at (6 * k + 3) (by omega), h.at (6 * k + 4) (by omega), h.at (6 * k + 5) (by omega)⟩

theorem news6 (w : World) (x0 x1 x2 x3 x4 x5 : Int) (t : TypeId) : ∀ j u, ([x0, x1, x2, x3, x4, x5].map (Value.int .i64))[j]? = some u → (w.alloc (.cells #[.int .i64 x0, .int .i64 x1, .int .i64 x2, .int .i64 x3, .int .i64 x4, .int .i64 x5] t)).drew.cell? ((⟨w.heap.size, 0, none⟩ : Addr).add j) = some u := by
  intro j u hj
  rw [Addr.add_mid]
  match j, hj with
  | 0, hj => simp at hj; subst hj; simp
  | 1, hj => simp at hj; subst hj; simp
  | 2, hj => simp at hj; subst hj; simp
  | 3, hj => simp at hj; subst hj; simp
  | 4, hj => simp at hj; subst hj; simp
  | 5, hj => simp at hj; subst hj; simp
  | n + 6, hj => simp at hj
theorem getD_at6 (R : List Int) (k : Nat) (h : k < R.length) : R.getD k 0 = R[k] := by simp [List.getElem?_eq_getElem h]
theorem take_six (L : List Int) (k : Nat) (h : 6 * k + 6 ≤ L.length) : L.take (6 * (k + 1)) = L.take (6 * k) ++ [L.getD (6 * k) 0, L.getD (6 * k + 1) 0, L.getD (6 * k + 2) 0, L.getD (6 * k + 3) 0, L.getD (6 * k + 4) 0, L.getD (6 * k + 5) 0] := by
  rw [show 6 * (k + 1) = (6 * k + 5) + 1 by omega, List.take_succ_eq_append_getElem (show 6 * k + 5 < L.length by omega), List.take_succ_eq_append_getElem (show 6 * k + 4 < L.length by omega), List.take_succ_eq_append_getElem (show 6 * k + 3 < L.length by omega), List.take_succ_eq_append_getElem (show 6 * k + 2 < L.length by omega), List.take_succ_eq_append_getElem (show 6 * k + 1 < L.length by omega), List.take_succ_eq_append_getElem (show 6 * k < L.length by omega), getD_at6 L (6 * k) (by omega), getD_at6 L (6 * k + 1) (by omega), getD_at6 L (6 * k + 2) (by omega), getD_at6 L (6 * k + 3) (by omega), getD_at6 L (6 * k + 4) (by omega), getD_at6 L (6 * k + 5) (by omega), List.append_assoc, List.append_assoc, List.append_assoc, List.append_assoc, List.append_assoc]
  rfl
set_option maxRecDepth 20000 in
set_option maxHeartbeats 2000000 in
theorem eventsCopy_any (a : Option Addr) (la ca : Nat) (A : List Int) (w : World) (hA : RowK .i64 w a (6 * la) A) (hs : la * 48 ≤ 140737488351232) :
    Calls Try.prog 53 #[.slice a la ca] w fun e w' => ∃ v, e = .returned v ∧ w'.ownsRow w.heap.size 37 6 v la (A.map (Value.int .i64)) ∧ Below w.heap.size w w' := by
  obtain ⟨i2, hi2, hz20, hz21, hz22⟩ := info_of Try.infoEvent
  go_enter Try.func53, Try.ntmps53
  go_wp2
  go_loopw [3, 4] (fun v t wr => ∃ k : Nat, k ≤ la ∧ t = .int .i64 k ∧ wr.ownsRow w.heap.size 37 6 v k ((A.take (6 * k)).map (Value.int .i64)) ∧ Below w.heap.size w wr) (fun _ t _ => la - (intOf t).toNat)
  case atStart => exact ⟨0, Nat.zero_le _, rfl, World.ownsRow_nil _ _ _ _, Below.refl _ _⟩
  case round =>
    obtain ⟨k, hk, rfl, ow, bel⟩ := hrel
    obtain ⟨a1, c1, rfl⟩ := own_form ow
    by_cases hlt : k < la
    · have rA := hA.below bel
      obtain ⟨b, off, rfl⟩ := hA.form (by omega)
      obtain ⟨x0, x1, x2, x3, x4, x5⟩ := rA.six k hlt
      have hT : Hid (A.take (6 * (k + 1)) = A.take (6 * k) ++ [A.getD (6 * k) 0, A.getD (6 * k + 1) 0, A.getD (6 * k + 2) 0, A.getD (6 * k + 3) 0, A.getD (6 * k + 4) 0, A.getD (6 * k + 5) 0]) := veil (take_six A k (by have := hA.len_eq; omega))
      have hbl : b < wr.heap.size := rA.lt (by omega)
      have hbn : b ≠ wr.heap.size := by omega
      clear rA
      generalize A.getD (6 * k) 0 = p0 at x0 hT
      generalize A.getD (6 * k + 1) 0 = p1 at x1 hT
      generalize A.getD (6 * k + 2) 0 = p2 at x2 hT
      generalize A.getD (6 * k + 3) 0 = p3 at x3 hT
      generalize A.getD (6 * k + 4) 0 = p4 at x4 hT
      generalize A.getD (6 * k + 5) 0 = p5 at x5 hT
      have b5 : Below wr.heap.size wr (wr.alloc (.cells #[.int .i64 p0, .int .i64 p1, .int .i64 p2, .int .i64 p3, .int .i64 p4, .int .i64 p5] 37)) := below1 _ _
      have HO5 : Hid ((wr.alloc (.cells #[.int .i64 p0, .int .i64 p1, .int .i64 p2, .int .i64 p3, .int .i64 p4, .int .i64 p5] 37)).ownsRow w.heap.size 37 6 (.slice a1 k c1) k ((A.take (6 * k)).map (Value.int .i64))) := veil (own_still ow (fun g _ hg => b5.block g hg))
      have hws : w.heap.size ≤ wr.heap.size := bel.size
      have HG : Hid (∀ w4, (wr.alloc (.cells #[.int .i64 p0, .int .i64 p1, .int .i64 p2, .int .i64 p3, .int .i64 p4, .int .i64 p5] 37)).grownBy w4 (Value.slice a1 k c1).ownBlock → Below w.heap.size w w4) := veil fun w4 g => (bel.trans (b5.mono bel.size)).grown g (by have := b5.size; omega) (fun q hq => (ow.lt q hq).1)
      have HA := veil hA
      clear ow bel b5 hA
      go_wp2_with (at_builtin; refine wpList_append_own _ rfl _ _ 22 rfl w.heap.size 37 i2 _ 6 48 Try.underlying22 hi2 hz20 hz21 hz22 rfl (by decide) (.slice a1 k c1) k ((A.take (6 * k)).map (Value.int .i64)) rfl (unveil HO5) ⟨wr.heap.size, 0, none⟩ 1 1 ([p0, p1, p2, p3, p4, p5].map (Value.int .i64)) rfl rfl (news6 _ _ _ _ _ _ _ _) (ints_oneCell _ _) (by unfold maxLen; omega) (by omega) (by simp; omega) ?_; intro v' w4 own4 grow4 _; obtain ⟨a', cap', rfl⟩ := own_form own4; rw [← List.map_append, ← unveil hT] at own4; have HO4 := veil own4; have HB4 := veil (unveil HG w4 grow4); clear own4 grow4)
      all_goals (go_roundw <;> first | exact ⟨k + 1, by omega, by go_num, unveil HO4, unveil HB4⟩ | (simp [intOf]; omega))
    · obtain rfl : k = la := by omega
      have htk : A.take (6 * k) = A := List.take_of_length_le (by have := hA.len_eq; omega)
      rw [htk] at ow
      have HO := veil ow
      have HB := veil bel
      clear ow bel htk hA
      go_wp2
      go_ret
      exact ⟨_, rfl, unveil HO, unveil HB⟩
end Go.Proofs.Ytjolamdlclcpcaa
