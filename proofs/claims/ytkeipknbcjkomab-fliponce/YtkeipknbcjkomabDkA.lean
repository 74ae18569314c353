/- The walk of berthshiftkeep.FlipOnce. -/
import Derived.Test.YtkeipknbcjkomabDrK
namespace Go.Proofs.Ytkeipknbcjkomab
open Go.RowKit

set_option maxRecDepth 20000 in
set_option maxHeartbeats 4000000 in
theorem walk_FlipOnce (w : World) (q : Int) (wq : (Lit.int .i64 q).wf = true) (a : Int) (wa : (Lit.int .i64 a).wf = true) (b : Int) (wb : (Lit.int .i64 b).wf = true) (c : Int) (wc : (Lit.int .i64 c).wf = true) :
    Calls Try.prog 8 #[.int .i64 q, .int .i64 a, .int .i64 b, .int .i64 c] w fun r w' => r = .returned (.bool true) ∧ Below w.heap.size w w' := by
  have p1 := pickedOf_range q 4 (by decide)
  have H1 := fun w => picked_any q 4 w wq (by decide) (by decide)
  have p2 := pickedOf_range a 5 (by decide)
  have H2 := fun w => picked_any a 5 w wa (by decide) (by decide)
  have p3 := pickedOf_range b 4 (by decide)
  have H3 := fun w => picked_any b 4 w wb (by decide) (by decide)
  have p4 := pickedOf_range c 4 (by decide)
  have H4 := fun w => picked_any c 4 w wc (by decide) (by decide)
  obtain ⟨k, hk⟩ : ∃ k : Nat, pickedOf q 4 = k := ⟨(pickedOf q 4).toNat, by omega⟩
  rw [hk] at H1 p1
  have hk4 : k < 4 := by omega
  clear hk p1
  generalize pickedOf a 5 = x at p2 H2
  generalize pickedOf b 4 = y at p3 H3
  generalize pickedOf c 4 = z at p4 H4
  go_enter Try.func8, Try.ntmps8
  go_upto_region 5 with (go_at_call 25; first | (refine (H1 _).mono ?_; rintro r w1 ⟨rfl, rfl⟩; clear H1) | (refine (H2 _).mono ?_; rintro r w1 ⟨rfl, rfl⟩; clear H2) | (refine (H3 _).mono ?_; rintro r w1 ⟨rfl, rfl⟩; clear H3) | (refine (H4 _).mono ?_; rintro r w1 ⟨rfl, rfl⟩; clear H4))
  have hY : 0 ≤ (x + 1 + y) % 5 ∧ (x + 1 + y) % 5 ≤ 4 ∧ ¬ x = (x + 1 + y) % 5 := by omega
  have hZ : 0 ≤ (x + 1 + z) % 5 ∧ (x + 1 + z) % 5 ≤ 4 ∧ ¬ x = (x + 1 + z) % 5 := by omega
  generalize (x + 1 + y) % 5 = Y at hY ⊢
  generalize (x + 1 + z) % 5 = Z at hZ ⊢
  have ok1 := new_ok.put k x 1 (by omega) (by omega)
  have ok2 := ok1.put k Y (1 + 1) (by omega) (by omega)
  have HM := fun w => make_yes (newF 4) zeroF k x w new_ok hk4 (by omega) (newF_at k hk4)
  have e1k : dput zeroF k 1 k = 1 := dput_self _ _ _
  have n1k : dput (newF 4) k x k = x := dput_self _ _ _
  have HF1 := fun w => flip_yes (dput (newF 4) k x) (dput zeroF k 1) k 1 Y w ok1 hk4 (by rw [n1k]; omega) (by rw [n1k, e1k]; exact goOf_yes ⟨hY.1, hY.2.1⟩ rfl hY.2.2 (by decide))
  rw [e1k] at HF1
  have e2k : dput (dput zeroF k 1) k (1 + 1) k = 2 := dput_self _ _ _
  have n2k : dput (dput (newF 4) k x) k Y k = Y := dput_self _ _ _
  have HF2 := fun w => flip_no (dput (dput (newF 4) k x) k Y) (dput (dput zeroF k 1) k (1 + 1)) k 1 Z 15 w ok2 hk4 (by rw [n2k]; omega) (by rw [n2k, e2k]; exact goOf_epoch ⟨hZ.1, hZ.2.1⟩ (by decide)) (by decide)
  have HW := fun w => where_here (dput (dput (newF 4) k x) k Y) (dput (dput zeroF k 1) k (1 + 1)) k w ok2 hk4 (by rw [n2k]; omega)
  rw [n2k, e2k] at HW
  have HM2 := fun w => make_twice (dput (dput (newF 4) k x) k Y) (dput (dput zeroF k 1) k (1 + 1)) k Z w ok2 hk4 ⟨hZ.1, hZ.2.1⟩ (by rw [n2k]; omega)
  clear ok1 ok2 e1k n1k e2k n2k
  generalize dput (dput (newF 4) k x) k Y = n2 at HF1 HF2 HW HM2
  generalize dput (dput zeroF k 1) k (1 + 1) = e2 at HF1 HF2 HW HM2
  generalize dput (newF 4) k x = n1 at HF1 HM
  generalize dput zeroF k 1 = e1 at HF1 HM
  have HN := fun w => new_any w
  generalize newF 4 = n0 at HN HM
  go_wp2_with (first
    | (go_at_call 17; refine (HN _).mono ?_; rintro r w1 ⟨rfl, b1⟩)
    | (go_at_call 21; refine (HM _).mono ?_; rintro r w2 ⟨rfl, b2⟩; clear HM)
    | (go_at_call 23; refine (HF1 _).mono ?_; rintro r w3 ⟨rfl, b3⟩; clear HF1)
    | (go_at_call 23; refine (HF2 _).mono ?_; rintro r w4 ⟨rfl, b4⟩; clear HF2; have D4 := (dirBlock.new w3 n2 e2).next b4; obtain ⟨c0, c1, c2, c3, c4, c5, c6, c7⟩ := D4.cells; have hl4 := D4.lt; have hn4 : w3.heap.size ≠ w4.heap.size := (by omega))
    | (go_at_call 19; refine (HW _).mono ?_; rintro r w5 ⟨rfl, b5⟩; clear HW c0 c1 c2 c3 c4 c5 c6 c7; have D5 := (D4.next (below1 w4 (.cells zeroC 26))).next b5; obtain ⟨c0, c1, c2, c3, c4, c5, c6, c7⟩ := D5.cells; have hl5 := D5.lt; have hn5 : w3.heap.size ≠ w5.heap.size := (by omega))
    | (go_at_call 21; refine (HM2 _).mono ?_; rintro r w6 ⟨rfl, b6⟩; clear HM2 c0 c1 c2 c3 c4 c5 c6 c7; have P6 := (pl_new w5 Y 2).next b6; obtain ⟨p0, p1⟩ := P6.cells; have hl6 := P6.lt; have hn6 : w5.heap.size ≠ w6.heap.size := (by omega)))
  go_ret
  refine ⟨by simp, ?_⟩
  exact Below.next (Below.next (Below.next (Below.next (Below.next (Below.next (Below.next (Below.next (Below.next (Below.next b1 b2) (below1 _ _)) b3) (below1 _ _)) b4) (below1 _ _)) b5) (below1 _ _)) b6) (below1 _ _)

end Go.Proofs.Ytkeipknbcjkomab
