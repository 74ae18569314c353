/- The walk of berthshiftkeep.DirectoryApart. -/
import Derived.Test.YtkeipknbcjkomabDrK
namespace Go.Proofs.Ytkeipknbcjkomab
open Go.RowKit

set_option maxRecDepth 20000 in
set_option maxHeartbeats 4000000 in
theorem walk_DirectoryApart (w : World) (a : Int) (wa : (Lit.int .i64 a).wf = true) (b : Int) (wb : (Lit.int .i64 b).wf = true) (c : Int) (wc : (Lit.int .i64 c).wf = true) :
    Calls Try.prog 10 #[.int .i64 a, .int .i64 b, .int .i64 c] w fun r w' => r = .returned (.bool true) ∧ Below w.heap.size w w' := by
  have p2 := pickedOf_range a 5 (by decide)
  have H2 := fun w => picked_any a 5 w wa (by decide) (by decide)
  have p3 := pickedOf_range b 5 (by decide)
  have H3 := fun w => picked_any b 5 w wb (by decide) (by decide)
  have p4 := pickedOf_range c 4 (by decide)
  have H4 := fun w => picked_any c 4 w wc (by decide) (by decide)
  generalize pickedOf a 5 = x at p2 H2
  generalize pickedOf b 5 = y at p3 H3
  generalize pickedOf c 4 = z at p4 H4
  have ok1 := new_ok.put 0 x 1 (by omega) (by omega)
  have ok2 := ok1.put 3 y 1 (by omega) (by omega)
  have hT : 0 ≤ (y + 1 + z) % 5 ∧ (y + 1 + z) % 5 ≤ 4 ∧ ¬ y = (y + 1 + z) % 5 := by omega
  obtain ⟨T, hTT⟩ : ∃ T, (y + 1 + z) % 5 = T := ⟨_, rfl⟩
  rw [hTT] at hT
  have ok3 := ok2.put 3 T (1 + 1) (by omega) (by omega)
  have HM := fun w => make_yes (newF 4) zeroF 0 x w new_ok (by omega) (by omega) (newF_at 0 (by omega))
  have HM2 := fun w => make_yes (dput (newF 4) 0 x) (dput zeroF 0 1) 3 y w ok1 (by omega) (by omega) (by rw [dput_other _ _ _ _ (by omega)]; exact newF_at 3 (by omega))
  have n2k : dput (dput (newF 4) 0 x) 3 y 3 = y := dput_self _ _ _
  have e2k : dput (dput zeroF 0 1) 3 1 3 = 1 := dput_self _ _ _
  have HF := fun w => flip_yes (dput (dput (newF 4) 0 x) 3 y) (dput (dput zeroF 0 1) 3 1) 3 1 T w ok2 (by omega) (by rw [n2k]; omega) (by rw [n2k, e2k]; exact goOf_yes ⟨hT.1, hT.2.1⟩ rfl hT.2.2 (by decide))
  rw [e2k] at HF
  have n30 : dput (dput (dput (newF 4) 0 x) 3 y) 3 T 0 = x := by rw [dput_other _ _ _ _ (by omega), dput_other _ _ _ _ (by omega)]; exact dput_self _ _ _
  have e30 : dput (dput (dput zeroF 0 1) 3 1) 3 (1 + 1) 0 = 1 := by rw [dput_other _ _ _ _ (by omega), dput_other _ _ _ _ (by omega)]; exact dput_self _ _ _
  have n33 : dput (dput (dput (newF 4) 0 x) 3 y) 3 T 3 = T := dput_self _ _ _
  have e33 : dput (dput (dput zeroF 0 1) 3 1) 3 (1 + 1) 3 = 2 := dput_self _ _ _
  have n31 : dput (dput (dput (newF 4) 0 x) 3 y) 3 T 1 = -1 := by rw [dput_other _ _ _ _ (by omega), dput_other _ _ _ _ (by omega), dput_other _ _ _ _ (by omega)]; exact newF_at 1 (by omega)
  have HW0 := fun w => where_here (dput (dput (dput (newF 4) 0 x) 3 y) 3 T) (dput (dput (dput zeroF 0 1) 3 1) 3 (1 + 1)) 0 w ok3 (by omega) (by rw [n30]; omega)
  rw [n30, e30] at HW0
  have HW3 := fun w => where_here (dput (dput (dput (newF 4) 0 x) 3 y) 3 T) (dput (dput (dput zeroF 0 1) 3 1) 3 (1 + 1)) 3 w ok3 (by omega) (by rw [n33]; omega)
  rw [n33, e33] at HW3
  have HW1 := fun w => where_none (dput (dput (dput (newF 4) 0 x) 3 y) 3 T) (dput (dput (dput zeroF 0 1) 3 1) 3 (1 + 1)) 1 w ok3 (by omega) n31
  clear ok1 ok2 ok3 n2k e2k n30 e30 n33 e33 n31
  generalize dput (dput (dput (newF 4) 0 x) 3 y) 3 T = n3 at HF HW0 HW3 HW1
  generalize dput (dput (dput zeroF 0 1) 3 1) 3 (1 + 1) = e3 at HF HW0 HW3 HW1
  generalize dput (dput (newF 4) 0 x) 3 y = n2 at HF HM2
  generalize dput (dput zeroF 0 1) 3 1 = e2 at HF HM2
  generalize dput (newF 4) 0 x = n1 at HM HM2
  generalize dput zeroF 0 1 = e1 at HM HM2
  have HN := fun w => new_any w
  generalize newF 4 = n0 at HN HM
  go_enter Try.func10, Try.ntmps10
  go_upto_region 2 with (first
    | (go_at_call 17; refine (HN _).mono ?_; rintro r w1 ⟨rfl, b1⟩)
    | (go_at_call 25; refine (H2 _).mono ?_; rintro r w1' ⟨rfl, rfl⟩)
    | (go_at_call 21; refine (HM _).mono ?_; rintro r w2 ⟨rfl, b2⟩))
  have D0 := dirBlock.new w2 n1 e1
  have B0 : Below w.heap.size w (w2.alloc (.cells (dirCells n1 e1) 26)) := Below.next (Below.next b1 b2) (below1 _ _)
  obtain ⟨W2, hW2⟩ : ∃ W2, W2 = w2.alloc (.cells (dirCells n1 e1) 26) := ⟨_, rfl⟩
  rw [← hW2] at D0 B0 ⊢
  obtain ⟨R, hR⟩ : ∃ R, R = w2.heap.size := ⟨_, rfl⟩
  have hRw : w.heap.size ≤ R := by rw [hR]; exact Nat.le_trans b1.size b2.size
  rw [← hR] at D0 ⊢
  clear hR hW2 b1 b2 HM
  obtain ⟨c0, c1, c2, c3, c4, c5, c6, c7⟩ := D0.cells
  have HD0 := veil D0
  clear D0
  go_cut [9] (fun c wx => c = .int .i64 0 ∧ dirBlock wx R n2 e2 ∧ Below w.heap.size w wx)
  case first =>
    first | go_region_with (first
      | (go_at_call 25; refine (H3 _).mono ?_; rintro r w1' ⟨rfl, rfl⟩)
      | (go_at_call 21; refine (HM2 _).mono ?_; rintro r w3 ⟨rfl, bb⟩; have b3 : Below W2.heap.size W2 w3 := (by first | exact bb | exact Below.next (below_drew _) bb | exact Below.next (belowN _ _) bb); have D3 := (unveil HD0).next b3; obtain ⟨u0, u1, u2, u3, u4, u5, u6, u7⟩ := D3.cells; have uf := D3.free; have HD3 := veil D3; have HB3 := veil (Below.next B0 b3); clear D3 bb)) | fail
    all_goals (try go_wp2_with fail)
    all_goals go_meet
    all_goals
      obtain ⟨W5, hW5, D5, B5⟩ := dir_stored (unveil HD3) (unveil HB3) hRw n2 e2
      rw [← hW5]
      exact ⟨rfl, D5, B5⟩
  case rest =>
    obtain ⟨rfl, D4, B4⟩ := hcut
    obtain ⟨W4, hW4⟩ : ∃ W4, W4 = wc := ⟨_, rfl⟩
    subst hW4
    clear c0 c1 c2 c3 c4 c5 c6 c7 HD0 B0 HM2
    go_upto_region 4 with (first
      | (go_at_call 25; refine (H3 _).mono ?_; rintro r w1' ⟨rfl, rfl⟩; clear H3)
      | (go_at_call 25; refine (H4 _).mono ?_; rintro r w1' ⟨rfl, rfl⟩))
    rw [hTT]
    obtain ⟨c0, c1, c2, c3, c4, c5, c6, c7⟩ := D4.cells
    clear D4 H4 hTT
    go_upto_region 8 with (first
      | (go_at_call 23; refine (HF _).mono ?_; rintro r w5 ⟨rfl, b5⟩; clear HF c0 c1 c2 c3 c4 c5 c6 c7)
      | (go_at_call 19; refine (HW0 _).mono ?_; rintro r w6 ⟨rfl, b6⟩; clear HW0; have D6 := (dirBlock.new w5 n3 e3).next b6; obtain ⟨c0, c1, c2, c3, c4, c5, c6, c7⟩ := D6.cells; have hl6 := D6.lt; have hn6 : w5.heap.size ≠ w6.heap.size := (by omega))
      | (go_at_call 19; refine (HW3 _).mono ?_; rintro r w7 ⟨rfl, b7⟩; clear HW3 c0 c1 c2 c3 c4 c5 c6 c7; have D7 := (D6.next (below1 w6 (.cells #[.int .i64 x, .int .i64 1] 23))).next b7; obtain ⟨c0, c1, c2, c3, c4, c5, c6, c7⟩ := D7.cells; have hl7 := D7.lt; have hn7 : w5.heap.size ≠ w7.heap.size := (by omega); have P7 := (pl_new w6 x 1).next b7; have hlp7 := P7.lt)
      | (go_at_call 19; refine (HW1 _).mono ?_; rintro r w8 ⟨rfl, b8⟩; clear HW1 c0 c1 c2 c3 c4 c5 c6 c7; have P8 := (P7.next (below1 w7 (.cells #[.int .i64 T, .int .i64 2] 23))).next b8; have O8 := (pl_new w7 T 2).next b8))
    have P9 := P8.next (below1 w8 (.cells #[.int .i64 0, .int .i64 0] 23))
    have O9 := O8.next (below1 w8 (.cells #[.int .i64 0, .int .i64 0] 23))
    have B9 : Below w.heap.size w (w8.alloc (.cells #[.int .i64 0, .int .i64 0] 23)) := Below.next (Below.next (Below.next (Below.next (Below.next (Below.next (Below.next (Below.next B4 b5) (below1 _ _)) b6) (below1 _ _)) b7) (below1 _ _)) b8) (below1 _ _)
    obtain ⟨W9, hW9⟩ : ∃ W9, W9 = w8.alloc (.cells #[.int .i64 0, .int .i64 0] 23) := ⟨_, rfl⟩
    rw [← hW9] at P9 O9 B9 ⊢
    clear hW9 D6 D7 P7 P8 O8 b5 b6 b7 b8 hl6 hn6 hl7 hn7 hlp7 B4
    obtain ⟨x0, x1⟩ := P9.cells
    obtain ⟨o0, o1⟩ := O9.cells
    clear P9 O9
    have H2q : ∀ w, Calls Try.prog 25 #[.int .i64 a, .int .i64 5] w fun e w' => e = .returned (.int .i64 x) ∧ w' = w := fun w => (H2 w).mono fun _ _ h => ⟨h.1, h.2.symm⟩
    go_quiet (first | (go_at_call 25; refine Calls.quiet_of_same (H2q _)))
    go_wp2
    go_ret
    exact ⟨by simp, Below.next B9 (belowN _ _)⟩
end Go.Proofs.Ytkeipknbcjkomab
