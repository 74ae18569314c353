/- The walk of the document's answer's QueueCopy. -/
import Derived.Test.YtcdopnkabbfooaaGreatQuH
import Derived.Deep.DeepCutAuto
namespace Go.Proofs.YtcdopnkabbfooaaGreat
open Go.RowKit

/-- a queue on its way to be copied: what was handed in, the result, the copy. -/
structure Cop (w wr : World) (r1 r2 r3 : Nat) (ep nx gv : Int) (rq lq : Value) (ws : Nat → Value) (v1 v2 : Value) (n1 n2 : Nat) (M1 M2 : List Int) : Prop where
  q1 : qBlock wr r1 ep nx gv rq lq ws
  z2 : qBlock wr r2 0 0 0 (.slice none 0 0) (.slice none 0 0) zeroW
  q3 : qBlock wr r3 ep nx gv v1 v2 ws
  o1 : wr.ownsRow (r3 + 1) 131 2 v1 n1 (M1.map (Value.int .i64))
  o2 : wr.ownsRow (r3 + 1) 133 4 v2 n2 (M2.map (Value.int .i64))
  bel : Below w.heap.size w wr
  up1 : w.heap.size ≤ r1
  up2 : r1 < r2
  up3 : r2 < r3

section
variable {w wr W5 w4 : World} {r1 r2 r3 : Nat} {ep nx gv : Int} {rq lq : Value} {ws : Nat → Value} {v1 v2 v' : Value} {n1 n2 : Nat} {M1 M2 : List Int}
theorem Cop.size (C : Cop w wr r1 r2 r3 ep nx gv rq lq ws v1 v2 n1 n2 M1 M2) : r3 + 1 ≤ wr.heap.size := C.q3.lt
theorem Cop.grown {row : Option Nat} (C : Cop w wr r1 r2 r3 ep nx gv rq lq ws v1 v2 n1 n2 M1 M2) (b5 : Below wr.heap.size wr W5) (g : W5.grownBy w4 row) (hrow : ∀ t, row = some t → r3 + 1 ≤ t) : Below (r3 + 1) wr w4 :=
  (b5.mono C.size).grown g (by have := b5.size; have := C.size; omega) hrow
/-- one message more, appended and stored. -/
theorem Cop.ready (C : Cop w wr r1 r2 r3 ep nx gv rq lq ws v1 v2 n1 n2 M1 M2) (b5 : Below wr.heap.size wr W5) (g : W5.grownBy w4 v1.ownBlock) (x0 x1 : Int)
    (own : w4.ownsRow (r3 + 1) 131 2 v' (n1 + 1) ((M1 ++ [x0, x1]).map (Value.int .i64))) : qBlock w4 r3 ep nx gv v1 v2 ws ∧ Cop w (w4.setCell ⟨r3, 3, none⟩ v') r1 r2 r3 ep nx gv rq lq ws v' v2 (n1 + 1) n2 (M1 ++ [x0, x1]) M2 := by
  have hb := C.grown b5 g (fun t ht => (C.o1.lt t ht).1)
  have q4 := C.q3.below hb (by omega)
  have u1 := C.up1
  have u2 := C.up2
  have u3 := C.up3
  have T := Turned.set r3 3 w4 v'
  refine ⟨q4, T.queue (C.q1.below hb (by omega)) (by omega), T.queue (C.z2.below hb (by omega)) (by omega), q4.ready v', T.own own (by omega), ?_, T.under (C.bel.trans (hb.mono (by omega))) (by omega), u1, u2, u3⟩
  have o2' : W5.ownsRow (r3 + 1) 133 4 v2 n2 (M2.map (Value.int .i64)) := own_still C.o2 (fun g _ hg => b5.block g hg)
  exact T.own (own_grown o2' g (fun g2 h2 h3 => own_apart C.o1 C.o2 (by decide) g2 h3 h2)) (by omega)
theorem Cop.lease (C : Cop w wr r1 r2 r3 ep nx gv rq lq ws v1 v2 n1 n2 M1 M2) (b5 : Below wr.heap.size wr W5) (g : W5.grownBy w4 v2.ownBlock) (x0 x1 x2 x3 : Int)
    (own : w4.ownsRow (r3 + 1) 133 4 v' (n2 + 1) ((M2 ++ [x0, x1, x2, x3]).map (Value.int .i64))) : qBlock w4 r3 ep nx gv v1 v2 ws ∧ Cop w (w4.setCell ⟨r3, 4, none⟩ v') r1 r2 r3 ep nx gv rq lq ws v1 v' n1 (n2 + 1) M1 (M2 ++ [x0, x1, x2, x3]) := by
  have hb := C.grown b5 g (fun t ht => (C.o2.lt t ht).1)
  have q4 := C.q3.below hb (by omega)
  have u1 := C.up1
  have u2 := C.up2
  have u3 := C.up3
  have T := Turned.set r3 4 w4 v'
  refine ⟨q4, T.queue (C.q1.below hb (by omega)) (by omega), T.queue (C.z2.below hb (by omega)) (by omega), q4.leases v', ?_, T.own own (by omega), T.under (C.bel.trans (hb.mono (by omega))) (by omega), u1, u2, u3⟩
  have o1' : W5.ownsRow (r3 + 1) 131 2 v1 n1 (M1.map (Value.int .i64)) := own_still C.o1 (fun g _ hg => b5.block g hg)
  exact T.own (own_grown o1' g (fun g2 h2 h3 => own_apart C.o2 C.o1 (by decide) g2 h3 h2)) (by omega)
end
theorem getD_at (R : List Int) (k : Nat) (h : k < R.length) : R.getD k 0 = R[k] := by simp [List.getElem?_eq_getElem h]
theorem take_pair (R : List Int) (k : Nat) (h : 2 * k + 2 ≤ R.length) : R.take (2 * (k + 1)) = R.take (2 * k) ++ [R.getD (2 * k) 0, R.getD (2 * k + 1) 0] := by
  rw [show 2 * (k + 1) = (2 * k + 1) + 1 by omega, List.take_succ_eq_append_getElem (show 2 * k + 1 < R.length by omega), List.take_succ_eq_append_getElem (show 2 * k < R.length by omega), getD_at R (2 * k) (by omega), getD_at R (2 * k + 1) (by omega), List.append_assoc]
  rfl
theorem take_four (L : List Int) (k : Nat) (h : 4 * k + 4 ≤ L.length) : L.take (4 * (k + 1)) = L.take (4 * k) ++ [L.getD (4 * k) 0, L.getD (4 * k + 1) 0, L.getD (4 * k + 2) 0, L.getD (4 * k + 3) 0] := by
  rw [show 4 * (k + 1) = (4 * k + 3) + 1 by omega, List.take_succ_eq_append_getElem (show 4 * k + 3 < L.length by omega), List.take_succ_eq_append_getElem (show 4 * k + 2 < L.length by omega), List.take_succ_eq_append_getElem (show 4 * k + 1 < L.length by omega), List.take_succ_eq_append_getElem (show 4 * k < L.length by omega), getD_at L (4 * k) (by omega), getD_at L (4 * k + 1) (by omega), getD_at L (4 * k + 2) (by omega), getD_at L (4 * k + 3) (by omega), List.append_assoc, List.append_assoc, List.append_assoc]
  rfl
theorem ret_QueueCopy {W : World} {R : Nat} {ep nx gv : Int} {r l : Value} {ws : Nat → Value} {tmps : Array Value} (h : qBlock W R ep nx gv r l ws) (t : tmps.getD 2 undef = .pointer (some ⟨R, 0, none⟩)) :
    (results Tryz.f89 tmps).run Tryz.prog W = .ok (qVal ep nx gv r l ws) W :=
  results_cell_row Tryz.results89 tmps W R 92 _ (0, 0) _ t h Tryz.underlying92 rfl (by rw [qCells_size]; exact Tryz.infoQ)
set_option maxRecDepth 20000 in
set_option maxHeartbeats 4000000 in
theorem queueCopy_any (ep nx gv : Int) (ra la : Option Addr) (rn rc ln lc : Nat) (R L : List Int) (ws : Nat → Value) (wt : Nat → Int) (wz : Nat → Nat → Bool) (w : World) (hR : RowK .i64 w ra (2 * rn) R) (hL : RowK .i64 w la (4 * ln) L) (hW : Wins ws wt wz) (hs1 : rn * 16 ≤ 140737488351232) (hs2 : ln * 32 ≤ 140737488351232) :
    Calls Tryz.prog 89 #[qVal ep nx gv (.slice ra rn rc) (.slice la ln lc) ws] w fun e w' => ∃ v1 v2, e = .returned (qVal ep nx gv v1 v2 ws) ∧ w'.ownsRow w.heap.size 131 2 v1 rn (R.map (Value.int .i64)) ∧ w'.ownsRow w.heap.size 133 4 v2 ln (L.map (Value.int .i64)) ∧ Below w.heap.size w w' := by
  obtain ⟨i1, hi1, hz10, hz11, hz12⟩ := info_of Tryz.infoMsg
  obtain ⟨i2, hi2, hz20, hz21, hz22⟩ := info_of Tryz.infoLease
  go_enter Tryz.func89, Tryz.ntmps89
  go_wp2_with (first
    | (refine q_box 1 _ rfl rfl rfl rfl ?_; intro W1 q1 b1)
    | (refine q_alloc 2 rfl rfl rfl ?_; intro W2 z2 b2; have q2 := q1.next b2)
    | (refine q_loads _ rfl rfl rfl q2 ?_)
    | (refine q_alloc 3 rfl rfl rfl ?_; intro W3 z3 b3; have y3 := z2.next b3; have q3 := q2.next b3)
    | (refine q_store _ _ rfl rfl rfl rfl z3 hW ?_; intro W4 q4 h4; obtain ⟨c0, c1, c2, c3, c4⟩ := q4.heads; have cf := q4.free))
  have s1 : w.heap.size < W1.heap.size := q1.lt
  have s2 : W1.heap.size < W2.heap.size := z2.lt
  have hB : w.heap.size ≤ W2.heap.size := by omega
  have hlq : Below W2.heap.size W3 W4 := h4.under (Below.refl _ _) (Nat.le_refl _)
  have C0 : Cop w ((W4.setCell ⟨W2.heap.size, 3, none⟩ (.slice none 0 0)).setCell ⟨W2.heap.size, 4, none⟩ (.slice none 0 0)) w.heap.size W1.heap.size W2.heap.size ep nx gv (.slice ra rn rc) (.slice la ln lc) ws (.slice none 0 0) (.slice none 0 0) 0 0 [] [] :=
    ⟨((h4.queue q3 (by omega)).other (by omega)).other (by omega), ((h4.queue y3 (by omega)).other (by omega)).other (by omega), (q4.ready _).leases _, World.ownsRow_nil _ _ _ _, World.ownsRow_nil _ _ _ _,
      ((h4.under (Below.next (Below.next b1 b2) b3) (by omega)).setCell hB _).setCell hB _, Nat.le_refl _, s1, s2⟩
  clear c0 c1 c2 c3 c4 cf q1 b1 z2 b2 q2 z3 b3 y3 q3 q4 h4 hlq hB
  obtain ⟨W5, hW5⟩ : ∃ W5, W5 = (W4.setCell ⟨W2.heap.size, 3, none⟩ (.slice none 0 0)).setCell ⟨W2.heap.size, 4, none⟩ (.slice none 0 0) := ⟨_, rfl⟩
  rw [← hW5] at C0 ⊢
  clear hW5
  obtain ⟨r2, hr2⟩ : ∃ r2, r2 = W1.heap.size := ⟨_, rfl⟩
  obtain ⟨r3, hr3⟩ : ∃ r3, r3 = W2.heap.size := ⟨_, rfl⟩
  rw [← hr2] at C0 s1 s2 ⊢
  rw [← hr3] at C0 s2 ⊢
  clear hr2 hr3
  go_loopw [4] (fun t wr => ∃ (k : Nat) (v : Value), k ≤ rn ∧ t = .int .i64 k ∧ Cop w wr w.heap.size r2 r3 ep nx gv (.slice ra rn rc) (.slice la ln lc) ws v (.slice none 0 0) k 0 (R.take (2 * k)) []) (fun t _ => rn - (intOf t).toNat)
  case atStart => exact ⟨0, _, by omega, rfl, C0⟩
  case round =>
    obtain ⟨k, v, hk, rfl, C⟩ := hrel
    clear C0
    obtain ⟨c0, c1, c2, c3, c4⟩ := C.q1.heads
    by_cases hlt : k < rn
    · have rR := hR.below C.bel
      obtain ⟨b, off, rfl⟩ := hR.form (by omega)
      obtain ⟨x0, hx0⟩ : ∃ x, x = R.getD (2 * k) 0 := ⟨_, rfl⟩
      obtain ⟨x1, hx1⟩ : ∃ x, x = R.getD (2 * k + 1) 0 := ⟨_, rfl⟩
      have k0 : wr.cell? ⟨b, off + k * 2, none⟩ = some (.int .i64 x0) := by rw [Nat.mul_comm k 2, hx0]; exact rR.at (2 * k) (by omega)
      have k1 : wr.cell? ⟨b, off + k * 2 + 1, none⟩ = some (.int .i64 x1) := by rw [Nat.mul_comm k 2, hx1]; exact rR.at (2 * k + 1) (by omega)
      have hbl : b < wr.heap.size := rR.lt (by omega)
      have hbn : b ≠ wr.heap.size := by omega
      have hsz := C.size
      have hn1 : w.heap.size ≠ wr.heap.size := by omega
      have hl1 : w.heap.size < wr.heap.size := by omega
      have hn3 : r3 ≠ wr.heap.size := by omega
      have hl3 : r3 < wr.heap.size := by omega
      have d3 := C.q3.heads.2.2.2.1
      have hT : Hid (R.take (2 * (k + 1)) = R.take (2 * k) ++ [x0, x1]) := veil (by rw [hx0, hx1]; exact take_pair R k (by have := hR.len_eq; omega))
      have b5 : Below wr.heap.size wr (wr.alloc (.cells #[.int .i64 x0, .int .i64 x1] 131)).drew := Below.next (below1 _ _) ⟨rfl, rfl, rfl, Nat.le_refl _, fun _ _ => rfl⟩
      have HO5 : Hid ((wr.alloc (.cells #[.int .i64 x0, .int .i64 x1] 131)).drew.ownsRow (r3 + 1) 131 2 v k ((R.take (2 * k)).map (Value.int .i64))) := veil (own_still C.o1 (fun g _ hg => b5.block g hg))
      have HC := veil C
      have HB5 := veil b5
      have HR := veil hR
      clear C rR hx0 hx1 b5 hR
      go_wp2_with fail
      go_region_law (refine step_append_many rfl (.tmp 17) (.tmp 23) 85 rfl (r3 + 1) 131 i1 _ 2 16 Tryz.underlying85 hi1 hz10 hz11 hz12 rfl (by decide) v k (R.take (2 * k)) rfl (unveil HO5) ⟨wr.heap.size, 0, none⟩ 1 1 [x0, x1] rfl rfl (news2 _ _ _ _) (by unfold maxLen; omega) (by omega) (by simp; omega) ?_; intro v' w4 own4 grow4; obtain ⟨a', cap', rfl⟩ := own_form own4; obtain ⟨q4, C4⟩ := (unveil HC).ready (unveil HB5) grow4 x0 x1 own4; have k3 := q4.heads.2.2.2.1; have f3 := q4.free; rw [← unveil hT] at C4; have HC4 := veil C4; clear C4 q4 own4 grow4)
      all_goals go_wp2
      all_goals (go_roundw <;> first | exact ⟨k + 1, _, by omega, by go_num, unveil HC4⟩ | (simp [intOf]; omega))
    · obtain rfl : k = rn := by omega
      have htk : R.take (2 * k) = R := List.take_of_length_le (by have := hR.len_eq; omega)
      rw [htk] at C
      clear htk hR
      go_wp2_with fail
      clear c0 c1 c2 c3 c4
      go_loopw [5] (fun t wr => ∃ (j : Nat) (v2 : Value), j ≤ ln ∧ t = .int .i64 j ∧ Cop w wr w.heap.size r2 r3 ep nx gv (.slice ra k rc) (.slice la ln lc) ws v v2 k j R (L.take (4 * j))) (fun t _ => ln - (intOf t).toNat)
      case atStart => exact ⟨0, _, by omega, rfl, C⟩
      case round =>
        obtain ⟨j, v2, hj, rfl, C'⟩ := hrel
        clear C
        obtain ⟨c0, c1, c2, c3, c4⟩ := C'.q1.heads
        by_cases hlt2 : j < ln
        · have rL := hL.below C'.bel
          obtain ⟨b, off, rfl⟩ := hL.form (by omega)
          obtain ⟨x0, hx0⟩ : ∃ x, x = L.getD (4 * j) 0 := ⟨_, rfl⟩
          obtain ⟨x1, hx1⟩ : ∃ x, x = L.getD (4 * j + 1) 0 := ⟨_, rfl⟩
          obtain ⟨x2, hx2⟩ : ∃ x, x = L.getD (4 * j + 2) 0 := ⟨_, rfl⟩
          obtain ⟨x3, hx3⟩ : ∃ x, x = L.getD (4 * j + 3) 0 := ⟨_, rfl⟩
          have k0 : wr.cell? ⟨b, off + j * 4, none⟩ = some (.int .i64 x0) := by rw [Nat.mul_comm j 4, hx0]; exact rL.at (4 * j) (by omega)
          have k1 : wr.cell? ⟨b, off + j * 4 + 1, none⟩ = some (.int .i64 x1) := by rw [Nat.mul_comm j 4, hx1]; exact rL.at (4 * j + 1) (by omega)
          have k2 : wr.cell? ⟨b, off + j * 4 + 2, none⟩ = some (.int .i64 x2) := by rw [Nat.mul_comm j 4, hx2]; exact rL.at (4 * j + 2) (by omega)
          have k3' : wr.cell? ⟨b, off + j * 4 + 3, none⟩ = some (.int .i64 x3) := by rw [Nat.mul_comm j 4, hx3]; exact rL.at (4 * j + 3) (by omega)
          have hbl : b < wr.heap.size := rL.lt (by omega)
          have hbn : b ≠ wr.heap.size := by omega
          have hsz := C'.size
          have hn1 : w.heap.size ≠ wr.heap.size := by omega
          have hl1 : w.heap.size < wr.heap.size := by omega
          have hn3 : r3 ≠ wr.heap.size := by omega
          have hl3 : r3 < wr.heap.size := by omega
          have d4 := C'.q3.heads.2.2.2.2
          have hT : Hid (L.take (4 * (j + 1)) = L.take (4 * j) ++ [x0, x1, x2, x3]) := veil (by rw [hx0, hx1, hx2, hx3]; exact take_four L j (by have := hL.len_eq; omega))
          have b5 : Below wr.heap.size wr (wr.alloc (.cells #[.int .i64 x0, .int .i64 x1, .int .i64 x2, .int .i64 x3] 133)).drew := Below.next (below1 _ _) ⟨rfl, rfl, rfl, Nat.le_refl _, fun _ _ => rfl⟩
          have HO5 : Hid ((wr.alloc (.cells #[.int .i64 x0, .int .i64 x1, .int .i64 x2, .int .i64 x3] 133)).drew.ownsRow (r3 + 1) 133 4 v2 j ((L.take (4 * j)).map (Value.int .i64))) := veil (own_still C'.o2 (fun g _ hg => b5.block g hg))
          have HC := veil C'
          have HB5 := veil b5
          have HL := veil hL
          clear C' rL hx0 hx1 hx2 hx3 b5 hL
          go_wp2_with fail
          go_region_law (refine step_append_many rfl (.tmp 34) (.tmp 40) 86 rfl (r3 + 1) 133 i2 _ 4 32 Tryz.underlying86 hi2 hz20 hz21 hz22 rfl (by decide) v2 j (L.take (4 * j)) rfl (unveil HO5) ⟨wr.heap.size, 0, none⟩ 1 1 [x0, x1, x2, x3] rfl rfl (news4 _ _ _ _ _ _) (by unfold maxLen; omega) (by omega) (by simp; omega) ?_; intro v' w4 own4 grow4; obtain ⟨a', cap', rfl⟩ := own_form own4; obtain ⟨q4, C4⟩ := (unveil HC).lease (unveil HB5) grow4 x0 x1 x2 x3 own4; have k3 := q4.heads.2.2.2.2; have f3 := q4.free; rw [← unveil hT] at C4; have HC4 := veil C4; clear C4 q4 own4 grow4)
          all_goals go_wp2
          all_goals (go_roundw <;> first | exact ⟨j + 1, _, by omega, by go_num, unveil HC4⟩ | (simp [intOf]; omega))
        · obtain rfl : j = ln := by omega
          have htk : L.take (4 * j) = L := List.take_of_length_le (by have := hL.len_eq; omega)
          rw [htk] at C'
          clear htk hL
          obtain ⟨a1, cap1, rfl⟩ := own_form C'.o1
          obtain ⟨a2, cap2, rfl⟩ := own_form C'.o2
          have f1 := C'.q3
          have f2 := C'.z2
          have HC := veil C'
          clear C'
          go_wp2_with (first
            | (refine q_loads _ rfl rfl rfl f1 ?_)
            | (refine q_store _ _ rfl rfl rfl rfl f2 hW ?_; intro W6 q6 h6))
          have C6 := unveil HC
          exact bodyPost_ret (ret_QueueCopy q6 rfl) rfl ⟨_, _, rfl, own_lower (h6.own C6.o1 (by have := C6.up3; omega)) (by have := C6.up1; have := C6.up2; have := C6.up3; omega), own_lower (h6.own C6.o2 (by have := C6.up3; omega)) (by have := C6.up1; have := C6.up2; have := C6.up3; omega), h6.under C6.bel (by have := C6.up1; have := C6.up2; omega)⟩
end Go.Proofs.YtcdopnkabbfooaaGreat
