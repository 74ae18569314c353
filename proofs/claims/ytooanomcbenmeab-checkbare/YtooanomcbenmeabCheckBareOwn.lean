/- For all deeds x and y and every int which, berthshiftkeep.CheckBare(x, y, which) returns true: an event has just the fields of its kind, with another one it may not be; the arguments read behind the call as before it; no condition on them. -/
import Derived.Test.YtooanomcbenmeabRows
import Derived.Test.YtooanomcbenmeabKpE
namespace Go.Proofs.Ytooanomcbenmeab
open Go.ChangeShapes Go.WideShapes Go.ChangeAt Go.RowKit

theorem own : ownKnob Try.prog.godebug = none := by kernel_rfl
theorem laidOut : laidOutB Try.prog = true := by kernel_rfl
theorem bcell {W w1 : World} (hb : Below W.heap.size W w1) : (∀ b o, b < W.heap.size → w1.cell? ⟨b, o, none⟩ = W.cell? ⟨b, o, none⟩) :=
  fun b o h => hb.cell (p := ⟨b, o, none⟩) h
theorem ee (x : Int) : (x == x) = true := by simp

/-- the four shapes of an event of raw numbers. -/
theorem evOf_shape (k a b c : Int) : (∃ p i d : Int, evOf k a b c = [1, p, i, d, 0, 0] ∧ 0 ≤ p ∧ p ≤ 3 ∧ 0 ≤ i ∧ i ≤ 1073741824 ∧ 0 ≤ d ∧ d ≤ 1000000) ∨ evOf k a b c = [2, 0, 0, 0, 0, 0] ∨ (∃ h n : Int, evOf k a b c = [3, 0, 0, 0, h, n] ∧ 0 ≤ h ∧ h ≤ 1048576 ∧ 0 ≤ n ∧ n ≤ 1073741824) ∨ evOf k a b c = [4, 0, 0, 0, 0, 0] := by
  obtain ⟨a0, a1⟩ := pickedOf_range a 2 (by omega)
  obtain ⟨b0, b1⟩ := pickedOf_range b 24 (by omega)
  obtain ⟨c0, c1⟩ := pickedOf_range c 1000 (by omega)
  obtain ⟨a2, a3⟩ := pickedOf_range a 3 (by omega)
  obtain ⟨b2, b3⟩ := pickedOf_range b 6 (by omega)
  unfold evOf
  by_cases h1 : pickedOf k 8 < 3
  · rw [if_pos h1]; exact .inl ⟨_, _, _, rfl, by omega, by omega, by omega, by omega, by omega, by omega⟩
  rw [if_neg h1]
  by_cases h2 : pickedOf k 8 < 5
  · rw [if_pos h2]; exact .inr (.inl rfl)
  rw [if_neg h2]
  by_cases h3 : pickedOf k 8 < 7
  · rw [if_pos h3]; exact .inr (.inr (.inl ⟨_, _, rfl, by omega, by omega, by omega, by omega⟩))
  rw [if_neg h3]
  exact .inr (.inr (.inr rfl))

set_option maxHeartbeats 1000000 in
theorem walk_CheckBare (w : World) (k a b c : Int) (wx : ∀ z ∈ [k, a, b, c], (Lit.int .i64 z).wf = true) (k' a' b' c' : Int) (wy : ∀ z ∈ [k', a', b', c'], (Lit.int .i64 z).wf = true) (wh : Int) (wwh : (Lit.int .i64 wh).wf = true) :
    Calls Try.prog 8 #[.agg #[.int .i64 k, .int .i64 a, .int .i64 b, .int .i64 c], .agg #[.int .i64 k', .int .i64 a', .int .i64 b', .int .i64 c'], .int .i64 wh] w fun e w' => e = .returned (.bool true) ∧ Below w.heap.size w w' := by
  obtain ⟨o0, o1, o2, o3, o4, o5, ho, hfo⟩ := evOf_ok k' a' b' c'
  obtain ⟨e0, e1, e2, e3, e4, e5, he, hfe⟩ := evOf_ok k a b c
  have HO := hide ho
  have HE := hide he
  have HFO := hide hfo
  have HFE := hide hfe
  have HX := hide wx
  have HY := hide wy
  have HSH := hide (evOf_shape k a b c)
  clear ho he hfo hfe wx wy
  go_enter Try.func8, Try.ntmps8
  go_wp2_with fail
  refine (event_any k a b c _ (unhide HX k (by simp)) (unhide HX a (by simp)) (unhide HX b (by simp)) (unhide HX c (by simp))).mono ?_
  rintro e w1 ⟨rfl, b1⟩
  rw [unhide HE]
  simp only [List.map_cons, List.map_nil]
  have hc1 := bcell b1
  have hz1 : w.heap.size + 1 < w1.heap.size := by have := b1.size; simp at this; omega
  have B1 := hide (below2t b1)
  clear b1
  go_wp2_with fail
  refine (event_any k' a' b' c' _ (unhide HY k' (by simp)) (unhide HY a' (by simp)) (unhide HY b' (by simp)) (unhide HY c' (by simp))).mono ?_
  rintro e w2 ⟨rfl, b2⟩
  rw [unhide HO]
  simp only [List.map_cons, List.map_nil]
  have hc2 := bcell b2
  have hz2 : w1.heap.size < w2.heap.size := by have := b2.size; simp at this; omega
  have B2 := hide (Below.next (unhide B1) (below1t b2))
  clear b2 hc1
  go_wp2_with fail
  refine (check_any _ _ _ _ _ _ _).mono ?_
  rintro e w3 ⟨rfl, b3⟩
  rw [unhide HFE]
  have hc3 := bcell b3
  have hz3 : w2.heap.size < w3.heap.size := by have := b3.size; simp at this; omega
  have B3 := hide (Below.next (unhide B2) (below1t b3))
  clear b3
  go_wp2_with fail
  refine (check_any _ _ _ _ _ _ _).mono ?_
  rintro e w4 ⟨rfl, b4⟩
  rw [unhide HFO]
  have hz4 : w2.heap.size < w4.heap.size := by have := b4.size; omega
  have E4 : Hid (∀ o, w4.cell? ⟨w1.heap.size, o, none⟩ = w3.cell? ⟨w1.heap.size, o, none⟩) := hide (fun o => b4.cell (p := ⟨w1.heap.size, o, none⟩) (by simp; omega))
  have B4 := hide (Below.next (unhide B3) b4)
  clear b4
  go_wp2_with fail
  refine (check_any _ _ _ _ _ _ _).mono ?_
  rintro e w5 ⟨rfl, b5⟩
  rw [show eventFault 0 0 0 0 0 0 = 3 from rfl]
  have hz5 : w2.heap.size < w5.heap.size := by have := b5.size; omega
  have E5 : Hid (∀ o, w5.cell? ⟨w1.heap.size, o, none⟩ = w3.cell? ⟨w1.heap.size, o, none⟩) := hide (fun o => (b5.cell (p := ⟨w1.heap.size, o, none⟩) (by simp; omega)).trans (unhide E4 o))
  have B5 := hide (Below.next (unhide B4) b5)
  clear b5 E4
  have c0 : w5.cell? ⟨w1.heap.size, 0, none⟩ = some (.int .i64 e0) := (unhide E5 0).trans (by rw [hc3 _ _ (by simp; omega), World.cell?_alloc_past _ _ _ (by simpa using hz2), hc2 _ _ (by simp)]; simp)
  have c1 : w5.cell? ⟨w1.heap.size, 1, none⟩ = some (.int .i64 e1) := (unhide E5 1).trans (by rw [hc3 _ _ (by simp; omega), World.cell?_alloc_past _ _ _ (by simpa using hz2), hc2 _ _ (by simp)]; simp)
  have c2 : w5.cell? ⟨w1.heap.size, 2, none⟩ = some (.int .i64 e2) := (unhide E5 2).trans (by rw [hc3 _ _ (by simp; omega), World.cell?_alloc_past _ _ _ (by simpa using hz2), hc2 _ _ (by simp)]; simp)
  have c3 : w5.cell? ⟨w1.heap.size, 3, none⟩ = some (.int .i64 e3) := (unhide E5 3).trans (by rw [hc3 _ _ (by simp; omega), World.cell?_alloc_past _ _ _ (by simpa using hz2), hc2 _ _ (by simp)]; simp)
  have c4 : w5.cell? ⟨w1.heap.size, 4, none⟩ = some (.int .i64 e4) := (unhide E5 4).trans (by rw [hc3 _ _ (by simp; omega), World.cell?_alloc_past _ _ _ (by simpa using hz2), hc2 _ _ (by simp)]; simp)
  have c5 : w5.cell? ⟨w1.heap.size, 5, none⟩ = some (.int .i64 e5) := (unhide E5 5).trans (by rw [hc3 _ _ (by simp; omega), World.cell?_alloc_past _ _ _ (by simpa using hz2), hc2 _ _ (by simp)]; simp)
  clear hc2 hc3 E5 hz1
  obtain ⟨p0, p1⟩ := pickedOf_range wh 3 (by omega)
  go_wp2_with fail
  refine (picked_any wh 3 _ wwh (by omega) (by omega)).mono ?_
  rintro e w6 ⟨rfl, rfl⟩
  generalize pickedOf wh 3 = pk at p0 p1
  have P : pk = 0 ∨ pk = 1 ∨ pk = 2 := by omega
  have HP := hide P
  clear p0 p1 P wwh
  have HS : Hid (((e0 = 1 ∧ e4 = 0 ∧ e5 = 0) ∧ 0 ≤ e1 ∧ e1 ≤ 3 ∧ 0 ≤ e2 ∧ e2 ≤ 1073741824 ∧ 0 ≤ e3 ∧ e3 ≤ 1000000) ∨ (e0 = 2 ∧ e1 = 0 ∧ e2 = 0 ∧ e3 = 0 ∧ e4 = 0 ∧ e5 = 0) ∨ ((e0 = 3 ∧ e1 = 0 ∧ e2 = 0 ∧ e3 = 0) ∧ 0 ≤ e4 ∧ e4 ≤ 1048576 ∧ 0 ≤ e5 ∧ e5 ≤ 1073741824) ∨ (e0 = 4 ∧ e1 = 0 ∧ e2 = 0 ∧ e3 = 0 ∧ e4 = 0 ∧ e5 = 0)) := hide (by
    have h := unhide HSH
    rw [unhide HE] at h
    simp only [List.cons.injEq, and_true] at h
    rcases h with ⟨p, i, d, ⟨rfl, rfl, rfl, rfl, rfl, rfl⟩, h1, h2, h3, h4, h5, h6⟩ | ⟨rfl, rfl, rfl, rfl, rfl, rfl⟩ | ⟨h, n, ⟨rfl, rfl, rfl, rfl, rfl, rfl⟩, h1, h2, h3, h4⟩ | ⟨rfl, rfl, rfl, rfl, rfl, rfl⟩
    · exact .inl ⟨⟨rfl, rfl, rfl⟩, h1, h2, h3, h4, h5, h6⟩
    · exact .inr (.inl ⟨rfl, rfl, rfl, rfl, rfl, rfl⟩)
    · exact .inr (.inr (.inl ⟨⟨rfl, rfl, rfl, rfl⟩, h1, h2, h3, h4⟩))
    · exact .inr (.inr (.inr ⟨rfl, rfl, rfl, rfl, rfl, rfl⟩)))
  clear HSH HE HO HFO HFE HX HY
  have s1 := ee e1
  have s2 := ee e2
  have s3 := ee e3
  have s4 := ee e4
  have s5 := ee e5
  rcases unhide HS with ⟨⟨rfl, rfl, rfl⟩, g1, g2, g3, g4, g5, g6⟩ | ⟨rfl, rfl, rfl, rfl, rfl, rfl⟩ | ⟨⟨rfl, rfl, rfl, rfl⟩, g1, g2, g3, g4⟩ | ⟨rfl, rfl, rfl, rfl, rfl, rfl⟩
  · rcases unhide HP with rfl | rfl | rfl
    · have HZ : Hid (eventFault 1 e1 e2 1 0 0 = 0) := hide (by
        unfold eventFault
        repeat' split
        all_goals omega)
      go_wp2_with fail
      refine (check_any _ _ _ _ _ _ _).mono ?_
      rintro e w7 ⟨rfl, b7⟩
      rw [unhide HZ]
      have d0 := ((b7.cell (p := ⟨w1.heap.size, 0, none⟩) (by simp; omega)).trans ((below1 w5 _).cell (p := ⟨w1.heap.size, 0, none⟩) (by simp; omega))).trans c0
      have d1 := ((b7.cell (p := ⟨w1.heap.size, 1, none⟩) (by simp; omega)).trans ((below1 w5 _).cell (p := ⟨w1.heap.size, 1, none⟩) (by simp; omega))).trans c1
      have d2 := ((b7.cell (p := ⟨w1.heap.size, 2, none⟩) (by simp; omega)).trans ((below1 w5 _).cell (p := ⟨w1.heap.size, 2, none⟩) (by simp; omega))).trans c2
      have d3 := ((b7.cell (p := ⟨w1.heap.size, 3, none⟩) (by simp; omega)).trans ((below1 w5 _).cell (p := ⟨w1.heap.size, 3, none⟩) (by simp; omega))).trans c3
      have d4 := ((b7.cell (p := ⟨w1.heap.size, 4, none⟩) (by simp; omega)).trans ((below1 w5 _).cell (p := ⟨w1.heap.size, 4, none⟩) (by simp; omega))).trans c4
      have d5 := ((b7.cell (p := ⟨w1.heap.size, 5, none⟩) (by simp; omega)).trans ((below1 w5 _).cell (p := ⟨w1.heap.size, 5, none⟩) (by simp; omega))).trans c5
      have hc7 := bcell b7
      have hz7 : w5.heap.size < w7.heap.size := by have := b7.size; simp at this; omega
      have B7 := hide (Below.next (unhide B5) (below1t b7))
      clear b7 c0 c1 c2 c3 c4 c5
      go_wp2
      all_goals
        go_ret
        exact ⟨rfl, unhide B7⟩
    · have HZ : Hid (eventFault 1 e1 e2 e3 0 1 = 3) := hide (by
        unfold eventFault
        repeat' split
        all_goals omega)
      go_wp2_with fail
      refine (check_any _ _ _ _ _ _ _).mono ?_
      rintro e w7 ⟨rfl, b7⟩
      rw [unhide HZ]
      have d0 := ((b7.cell (p := ⟨w1.heap.size, 0, none⟩) (by simp; omega)).trans ((below1 w5 _).cell (p := ⟨w1.heap.size, 0, none⟩) (by simp; omega))).trans c0
      have d1 := ((b7.cell (p := ⟨w1.heap.size, 1, none⟩) (by simp; omega)).trans ((below1 w5 _).cell (p := ⟨w1.heap.size, 1, none⟩) (by simp; omega))).trans c1
      have d2 := ((b7.cell (p := ⟨w1.heap.size, 2, none⟩) (by simp; omega)).trans ((below1 w5 _).cell (p := ⟨w1.heap.size, 2, none⟩) (by simp; omega))).trans c2
      have d3 := ((b7.cell (p := ⟨w1.heap.size, 3, none⟩) (by simp; omega)).trans ((below1 w5 _).cell (p := ⟨w1.heap.size, 3, none⟩) (by simp; omega))).trans c3
      have d4 := ((b7.cell (p := ⟨w1.heap.size, 4, none⟩) (by simp; omega)).trans ((below1 w5 _).cell (p := ⟨w1.heap.size, 4, none⟩) (by simp; omega))).trans c4
      have d5 := ((b7.cell (p := ⟨w1.heap.size, 5, none⟩) (by simp; omega)).trans ((below1 w5 _).cell (p := ⟨w1.heap.size, 5, none⟩) (by simp; omega))).trans c5
      have hc7 := bcell b7
      have hz7 : w5.heap.size < w7.heap.size := by have := b7.size; simp at this; omega
      have B7 := hide (Below.next (unhide B5) (below1t b7))
      clear b7 c0 c1 c2 c3 c4 c5
      go_wp2
      all_goals
        go_ret
        exact ⟨rfl, unhide B7⟩
    · have HZ : Hid (eventFault 1 e1 1 e3 0 0 = 0) := hide (by
        unfold eventFault
        repeat' split
        all_goals omega)
      go_wp2_with fail
      refine (check_any _ _ _ _ _ _ _).mono ?_
      rintro e w7 ⟨rfl, b7⟩
      rw [unhide HZ]
      have d0 := ((b7.cell (p := ⟨w1.heap.size, 0, none⟩) (by simp; omega)).trans ((below1 w5 _).cell (p := ⟨w1.heap.size, 0, none⟩) (by simp; omega))).trans c0
      have d1 := ((b7.cell (p := ⟨w1.heap.size, 1, none⟩) (by simp; omega)).trans ((below1 w5 _).cell (p := ⟨w1.heap.size, 1, none⟩) (by simp; omega))).trans c1
      have d2 := ((b7.cell (p := ⟨w1.heap.size, 2, none⟩) (by simp; omega)).trans ((below1 w5 _).cell (p := ⟨w1.heap.size, 2, none⟩) (by simp; omega))).trans c2
      have d3 := ((b7.cell (p := ⟨w1.heap.size, 3, none⟩) (by simp; omega)).trans ((below1 w5 _).cell (p := ⟨w1.heap.size, 3, none⟩) (by simp; omega))).trans c3
      have d4 := ((b7.cell (p := ⟨w1.heap.size, 4, none⟩) (by simp; omega)).trans ((below1 w5 _).cell (p := ⟨w1.heap.size, 4, none⟩) (by simp; omega))).trans c4
      have d5 := ((b7.cell (p := ⟨w1.heap.size, 5, none⟩) (by simp; omega)).trans ((below1 w5 _).cell (p := ⟨w1.heap.size, 5, none⟩) (by simp; omega))).trans c5
      have hc7 := bcell b7
      have hz7 : w5.heap.size < w7.heap.size := by have := b7.size; simp at this; omega
      have B7 := hide (Below.next (unhide B5) (below1t b7))
      clear b7 c0 c1 c2 c3 c4 c5
      go_wp2
      all_goals
        go_ret
        exact ⟨rfl, unhide B7⟩
  · rcases unhide HP with rfl | rfl | rfl
    · have HZ : Hid (eventFault 2 0 0 1 0 0 = 3) := hide (by
        unfold eventFault
        repeat' split
        all_goals omega)
      go_wp2_with fail
      refine (check_any _ _ _ _ _ _ _).mono ?_
      rintro e w7 ⟨rfl, b7⟩
      rw [unhide HZ]
      have d0 := ((b7.cell (p := ⟨w1.heap.size, 0, none⟩) (by simp; omega)).trans ((below1 w5 _).cell (p := ⟨w1.heap.size, 0, none⟩) (by simp; omega))).trans c0
      have d1 := ((b7.cell (p := ⟨w1.heap.size, 1, none⟩) (by simp; omega)).trans ((below1 w5 _).cell (p := ⟨w1.heap.size, 1, none⟩) (by simp; omega))).trans c1
      have d2 := ((b7.cell (p := ⟨w1.heap.size, 2, none⟩) (by simp; omega)).trans ((below1 w5 _).cell (p := ⟨w1.heap.size, 2, none⟩) (by simp; omega))).trans c2
      have d3 := ((b7.cell (p := ⟨w1.heap.size, 3, none⟩) (by simp; omega)).trans ((below1 w5 _).cell (p := ⟨w1.heap.size, 3, none⟩) (by simp; omega))).trans c3
      have d4 := ((b7.cell (p := ⟨w1.heap.size, 4, none⟩) (by simp; omega)).trans ((below1 w5 _).cell (p := ⟨w1.heap.size, 4, none⟩) (by simp; omega))).trans c4
      have d5 := ((b7.cell (p := ⟨w1.heap.size, 5, none⟩) (by simp; omega)).trans ((below1 w5 _).cell (p := ⟨w1.heap.size, 5, none⟩) (by simp; omega))).trans c5
      have hc7 := bcell b7
      have hz7 : w5.heap.size < w7.heap.size := by have := b7.size; simp at this; omega
      have B7 := hide (Below.next (unhide B5) (below1t b7))
      clear b7 c0 c1 c2 c3 c4 c5
      go_wp2
      all_goals
        go_ret
        exact ⟨rfl, unhide B7⟩
    · have HZ : Hid (eventFault 2 0 0 0 0 1 = 3) := hide (by
        unfold eventFault
        repeat' split
        all_goals omega)
      go_wp2_with fail
      refine (check_any _ _ _ _ _ _ _).mono ?_
      rintro e w7 ⟨rfl, b7⟩
      rw [unhide HZ]
      have d0 := ((b7.cell (p := ⟨w1.heap.size, 0, none⟩) (by simp; omega)).trans ((below1 w5 _).cell (p := ⟨w1.heap.size, 0, none⟩) (by simp; omega))).trans c0
      have d1 := ((b7.cell (p := ⟨w1.heap.size, 1, none⟩) (by simp; omega)).trans ((below1 w5 _).cell (p := ⟨w1.heap.size, 1, none⟩) (by simp; omega))).trans c1
      have d2 := ((b7.cell (p := ⟨w1.heap.size, 2, none⟩) (by simp; omega)).trans ((below1 w5 _).cell (p := ⟨w1.heap.size, 2, none⟩) (by simp; omega))).trans c2
      have d3 := ((b7.cell (p := ⟨w1.heap.size, 3, none⟩) (by simp; omega)).trans ((below1 w5 _).cell (p := ⟨w1.heap.size, 3, none⟩) (by simp; omega))).trans c3
      have d4 := ((b7.cell (p := ⟨w1.heap.size, 4, none⟩) (by simp; omega)).trans ((below1 w5 _).cell (p := ⟨w1.heap.size, 4, none⟩) (by simp; omega))).trans c4
      have d5 := ((b7.cell (p := ⟨w1.heap.size, 5, none⟩) (by simp; omega)).trans ((below1 w5 _).cell (p := ⟨w1.heap.size, 5, none⟩) (by simp; omega))).trans c5
      have hc7 := bcell b7
      have hz7 : w5.heap.size < w7.heap.size := by have := b7.size; simp at this; omega
      have B7 := hide (Below.next (unhide B5) (below1t b7))
      clear b7 c0 c1 c2 c3 c4 c5
      go_wp2
      all_goals
        go_ret
        exact ⟨rfl, unhide B7⟩
    · have HZ : Hid (eventFault 2 0 1 0 0 0 = 3) := hide (by
        unfold eventFault
        repeat' split
        all_goals omega)
      go_wp2_with fail
      refine (check_any _ _ _ _ _ _ _).mono ?_
      rintro e w7 ⟨rfl, b7⟩
      rw [unhide HZ]
      have d0 := ((b7.cell (p := ⟨w1.heap.size, 0, none⟩) (by simp; omega)).trans ((below1 w5 _).cell (p := ⟨w1.heap.size, 0, none⟩) (by simp; omega))).trans c0
      have d1 := ((b7.cell (p := ⟨w1.heap.size, 1, none⟩) (by simp; omega)).trans ((below1 w5 _).cell (p := ⟨w1.heap.size, 1, none⟩) (by simp; omega))).trans c1
      have d2 := ((b7.cell (p := ⟨w1.heap.size, 2, none⟩) (by simp; omega)).trans ((below1 w5 _).cell (p := ⟨w1.heap.size, 2, none⟩) (by simp; omega))).trans c2
      have d3 := ((b7.cell (p := ⟨w1.heap.size, 3, none⟩) (by simp; omega)).trans ((below1 w5 _).cell (p := ⟨w1.heap.size, 3, none⟩) (by simp; omega))).trans c3
      have d4 := ((b7.cell (p := ⟨w1.heap.size, 4, none⟩) (by simp; omega)).trans ((below1 w5 _).cell (p := ⟨w1.heap.size, 4, none⟩) (by simp; omega))).trans c4
      have d5 := ((b7.cell (p := ⟨w1.heap.size, 5, none⟩) (by simp; omega)).trans ((below1 w5 _).cell (p := ⟨w1.heap.size, 5, none⟩) (by simp; omega))).trans c5
      have hc7 := bcell b7
      have hz7 : w5.heap.size < w7.heap.size := by have := b7.size; simp at this; omega
      have B7 := hide (Below.next (unhide B5) (below1t b7))
      clear b7 c0 c1 c2 c3 c4 c5
      go_wp2
      all_goals
        go_ret
        exact ⟨rfl, unhide B7⟩
  · rcases unhide HP with rfl | rfl | rfl
    · have HZ : Hid (eventFault 3 0 0 1 e4 e5 = 3) := hide (by
        unfold eventFault
        repeat' split
        all_goals omega)
      go_wp2_with fail
      refine (check_any _ _ _ _ _ _ _).mono ?_
      rintro e w7 ⟨rfl, b7⟩
      rw [unhide HZ]
      have d0 := ((b7.cell (p := ⟨w1.heap.size, 0, none⟩) (by simp; omega)).trans ((below1 w5 _).cell (p := ⟨w1.heap.size, 0, none⟩) (by simp; omega))).trans c0
      have d1 := ((b7.cell (p := ⟨w1.heap.size, 1, none⟩) (by simp; omega)).trans ((below1 w5 _).cell (p := ⟨w1.heap.size, 1, none⟩) (by simp; omega))).trans c1
      have d2 := ((b7.cell (p := ⟨w1.heap.size, 2, none⟩) (by simp; omega)).trans ((below1 w5 _).cell (p := ⟨w1.heap.size, 2, none⟩) (by simp; omega))).trans c2
      have d3 := ((b7.cell (p := ⟨w1.heap.size, 3, none⟩) (by simp; omega)).trans ((below1 w5 _).cell (p := ⟨w1.heap.size, 3, none⟩) (by simp; omega))).trans c3
      have d4 := ((b7.cell (p := ⟨w1.heap.size, 4, none⟩) (by simp; omega)).trans ((below1 w5 _).cell (p := ⟨w1.heap.size, 4, none⟩) (by simp; omega))).trans c4
      have d5 := ((b7.cell (p := ⟨w1.heap.size, 5, none⟩) (by simp; omega)).trans ((below1 w5 _).cell (p := ⟨w1.heap.size, 5, none⟩) (by simp; omega))).trans c5
      have hc7 := bcell b7
      have hz7 : w5.heap.size < w7.heap.size := by have := b7.size; simp at this; omega
      have B7 := hide (Below.next (unhide B5) (below1t b7))
      clear b7 c0 c1 c2 c3 c4 c5
      go_wp2
      all_goals
        go_ret
        exact ⟨rfl, unhide B7⟩
    · have HZ : Hid (eventFault 3 0 0 0 e4 1 = 0) := hide (by
        unfold eventFault
        repeat' split
        all_goals omega)
      go_wp2_with fail
      refine (check_any _ _ _ _ _ _ _).mono ?_
      rintro e w7 ⟨rfl, b7⟩
      rw [unhide HZ]
      have d0 := ((b7.cell (p := ⟨w1.heap.size, 0, none⟩) (by simp; omega)).trans ((below1 w5 _).cell (p := ⟨w1.heap.size, 0, none⟩) (by simp; omega))).trans c0
      have d1 := ((b7.cell (p := ⟨w1.heap.size, 1, none⟩) (by simp; omega)).trans ((below1 w5 _).cell (p := ⟨w1.heap.size, 1, none⟩) (by simp; omega))).trans c1
      have d2 := ((b7.cell (p := ⟨w1.heap.size, 2, none⟩) (by simp; omega)).trans ((below1 w5 _).cell (p := ⟨w1.heap.size, 2, none⟩) (by simp; omega))).trans c2
      have d3 := ((b7.cell (p := ⟨w1.heap.size, 3, none⟩) (by simp; omega)).trans ((below1 w5 _).cell (p := ⟨w1.heap.size, 3, none⟩) (by simp; omega))).trans c3
      have d4 := ((b7.cell (p := ⟨w1.heap.size, 4, none⟩) (by simp; omega)).trans ((below1 w5 _).cell (p := ⟨w1.heap.size, 4, none⟩) (by simp; omega))).trans c4
      have d5 := ((b7.cell (p := ⟨w1.heap.size, 5, none⟩) (by simp; omega)).trans ((below1 w5 _).cell (p := ⟨w1.heap.size, 5, none⟩) (by simp; omega))).trans c5
      have hc7 := bcell b7
      have hz7 : w5.heap.size < w7.heap.size := by have := b7.size; simp at this; omega
      have B7 := hide (Below.next (unhide B5) (below1t b7))
      clear b7 c0 c1 c2 c3 c4 c5
      go_wp2
      all_goals
        go_ret
        exact ⟨rfl, unhide B7⟩
    · have HZ : Hid (eventFault 3 0 1 0 e4 e5 = 3) := hide (by
        unfold eventFault
        repeat' split
        all_goals omega)
      go_wp2_with fail
      refine (check_any _ _ _ _ _ _ _).mono ?_
      rintro e w7 ⟨rfl, b7⟩
      rw [unhide HZ]
      have d0 := ((b7.cell (p := ⟨w1.heap.size, 0, none⟩) (by simp; omega)).trans ((below1 w5 _).cell (p := ⟨w1.heap.size, 0, none⟩) (by simp; omega))).trans c0
      have d1 := ((b7.cell (p := ⟨w1.heap.size, 1, none⟩) (by simp; omega)).trans ((below1 w5 _).cell (p := ⟨w1.heap.size, 1, none⟩) (by simp; omega))).trans c1
      have d2 := ((b7.cell (p := ⟨w1.heap.size, 2, none⟩) (by simp; omega)).trans ((below1 w5 _).cell (p := ⟨w1.heap.size, 2, none⟩) (by simp; omega))).trans c2
      have d3 := ((b7.cell (p := ⟨w1.heap.size, 3, none⟩) (by simp; omega)).trans ((below1 w5 _).cell (p := ⟨w1.heap.size, 3, none⟩) (by simp; omega))).trans c3
      have d4 := ((b7.cell (p := ⟨w1.heap.size, 4, none⟩) (by simp; omega)).trans ((below1 w5 _).cell (p := ⟨w1.heap.size, 4, none⟩) (by simp; omega))).trans c4
      have d5 := ((b7.cell (p := ⟨w1.heap.size, 5, none⟩) (by simp; omega)).trans ((below1 w5 _).cell (p := ⟨w1.heap.size, 5, none⟩) (by simp; omega))).trans c5
      have hc7 := bcell b7
      have hz7 : w5.heap.size < w7.heap.size := by have := b7.size; simp at this; omega
      have B7 := hide (Below.next (unhide B5) (below1t b7))
      clear b7 c0 c1 c2 c3 c4 c5
      go_wp2
      all_goals
        go_ret
        exact ⟨rfl, unhide B7⟩
  · rcases unhide HP with rfl | rfl | rfl
    · have HZ : Hid (eventFault 4 0 0 1 0 0 = 3) := hide (by
        unfold eventFault
        repeat' split
        all_goals omega)
      go_wp2_with fail
      refine (check_any _ _ _ _ _ _ _).mono ?_
      rintro e w7 ⟨rfl, b7⟩
      rw [unhide HZ]
      have d0 := ((b7.cell (p := ⟨w1.heap.size, 0, none⟩) (by simp; omega)).trans ((below1 w5 _).cell (p := ⟨w1.heap.size, 0, none⟩) (by simp; omega))).trans c0
      have d1 := ((b7.cell (p := ⟨w1.heap.size, 1, none⟩) (by simp; omega)).trans ((below1 w5 _).cell (p := ⟨w1.heap.size, 1, none⟩) (by simp; omega))).trans c1
      have d2 := ((b7.cell (p := ⟨w1.heap.size, 2, none⟩) (by simp; omega)).trans ((below1 w5 _).cell (p := ⟨w1.heap.size, 2, none⟩) (by simp; omega))).trans c2
      have d3 := ((b7.cell (p := ⟨w1.heap.size, 3, none⟩) (by simp; omega)).trans ((below1 w5 _).cell (p := ⟨w1.heap.size, 3, none⟩) (by simp; omega))).trans c3
      have d4 := ((b7.cell (p := ⟨w1.heap.size, 4, none⟩) (by simp; omega)).trans ((below1 w5 _).cell (p := ⟨w1.heap.size, 4, none⟩) (by simp; omega))).trans c4
      have d5 := ((b7.cell (p := ⟨w1.heap.size, 5, none⟩) (by simp; omega)).trans ((below1 w5 _).cell (p := ⟨w1.heap.size, 5, none⟩) (by simp; omega))).trans c5
      have hc7 := bcell b7
      have hz7 : w5.heap.size < w7.heap.size := by have := b7.size; simp at this; omega
      have B7 := hide (Below.next (unhide B5) (below1t b7))
      clear b7 c0 c1 c2 c3 c4 c5
      go_wp2
      all_goals
        go_ret
        exact ⟨rfl, unhide B7⟩
    · have HZ : Hid (eventFault 4 0 0 0 0 1 = 3) := hide (by
        unfold eventFault
        repeat' split
        all_goals omega)
      go_wp2_with fail
      refine (check_any _ _ _ _ _ _ _).mono ?_
      rintro e w7 ⟨rfl, b7⟩
      rw [unhide HZ]
      have d0 := ((b7.cell (p := ⟨w1.heap.size, 0, none⟩) (by simp; omega)).trans ((below1 w5 _).cell (p := ⟨w1.heap.size, 0, none⟩) (by simp; omega))).trans c0
      have d1 := ((b7.cell (p := ⟨w1.heap.size, 1, none⟩) (by simp; omega)).trans ((below1 w5 _).cell (p := ⟨w1.heap.size, 1, none⟩) (by simp; omega))).trans c1
      have d2 := ((b7.cell (p := ⟨w1.heap.size, 2, none⟩) (by simp; omega)).trans ((below1 w5 _).cell (p := ⟨w1.heap.size, 2, none⟩) (by simp; omega))).trans c2
      have d3 := ((b7.cell (p := ⟨w1.heap.size, 3, none⟩) (by simp; omega)).trans ((below1 w5 _).cell (p := ⟨w1.heap.size, 3, none⟩) (by simp; omega))).trans c3
      have d4 := ((b7.cell (p := ⟨w1.heap.size, 4, none⟩) (by simp; omega)).trans ((below1 w5 _).cell (p := ⟨w1.heap.size, 4, none⟩) (by simp; omega))).trans c4
      have d5 := ((b7.cell (p := ⟨w1.heap.size, 5, none⟩) (by simp; omega)).trans ((below1 w5 _).cell (p := ⟨w1.heap.size, 5, none⟩) (by simp; omega))).trans c5
      have hc7 := bcell b7
      have hz7 : w5.heap.size < w7.heap.size := by have := b7.size; simp at this; omega
      have B7 := hide (Below.next (unhide B5) (below1t b7))
      clear b7 c0 c1 c2 c3 c4 c5
      go_wp2
      all_goals
        go_ret
        exact ⟨rfl, unhide B7⟩
    · have HZ : Hid (eventFault 4 0 1 0 0 0 = 3) := hide (by
        unfold eventFault
        repeat' split
        all_goals omega)
      go_wp2_with fail
      refine (check_any _ _ _ _ _ _ _).mono ?_
      rintro e w7 ⟨rfl, b7⟩
      rw [unhide HZ]
      have d0 := ((b7.cell (p := ⟨w1.heap.size, 0, none⟩) (by simp; omega)).trans ((below1 w5 _).cell (p := ⟨w1.heap.size, 0, none⟩) (by simp; omega))).trans c0
      have d1 := ((b7.cell (p := ⟨w1.heap.size, 1, none⟩) (by simp; omega)).trans ((below1 w5 _).cell (p := ⟨w1.heap.size, 1, none⟩) (by simp; omega))).trans c1
      have d2 := ((b7.cell (p := ⟨w1.heap.size, 2, none⟩) (by simp; omega)).trans ((below1 w5 _).cell (p := ⟨w1.heap.size, 2, none⟩) (by simp; omega))).trans c2
      have d3 := ((b7.cell (p := ⟨w1.heap.size, 3, none⟩) (by simp; omega)).trans ((below1 w5 _).cell (p := ⟨w1.heap.size, 3, none⟩) (by simp; omega))).trans c3
      have d4 := ((b7.cell (p := ⟨w1.heap.size, 4, none⟩) (by simp; omega)).trans ((below1 w5 _).cell (p := ⟨w1.heap.size, 4, none⟩) (by simp; omega))).trans c4
      have d5 := ((b7.cell (p := ⟨w1.heap.size, 5, none⟩) (by simp; omega)).trans ((below1 w5 _).cell (p := ⟨w1.heap.size, 5, none⟩) (by simp; omega))).trans c5
      have hc7 := bcell b7
      have hz7 : w5.heap.size < w7.heap.size := by have := b7.size; simp at this; omega
      have B7 := hide (Below.next (unhide B5) (below1t b7))
      clear b7 c0 c1 c2 c3 c4 c5
      go_wp2
      all_goals
        go_ret
        exact ⟨rfl, unhide B7⟩

set_option linter.unusedVariables false in
set_option maxRecDepth 100000 in
theorem lifted_CheckBare (os : Os) (started : os.Started) (H : Type) (enc : TypeId × Value → H) :
    ReturnsInHanded {} Try.checked os 8 .any (Rows.checkBareSpec.pre6 enc Try.prog Try.f8 Rows.checkBareRow.domain false) (Rows.checkBareSpec.post enc Try.prog Try.f8 false true false false) := by
  refine returnsInHanded_of_change_sized (C := Try.checked) own started (by kernel_rfl) Try.func8
    (ChangeSpec.witness6 (enc := enc) (C := Try.checked) false ⟨#[], #[.agg #[.int .i64 0, .int .i64 0, .int .i64 0, .int .i64 0], .agg #[.int .i64 0, .int .i64 0, .int .i64 0, .int .i64 0], .int .i64 0], []⟩ 8 (by kernel_rfl) (by kernel_rfl) (by kernel_rfl) (by kernel_rfl)) ?_
  intro W base args ds gs before hval0 hW hcnd hsz0 _
  have hval : ∀ (j : Nat) t v, Try.f8.params[j]? = some t → args[j]? = some v → Value.okWide Try.prog W .any base t v := hval0
  have hsz : (DataW.weightsEach Try.prog (Try.f8.params.toList ++ Rows.checkBareSpec.plain.varTypes Try.prog) (ds ++ gs)).all (· ≤ reachBytes) = true := hsz0
  have hW' := hW
  obtain ⟨p, q, hA0, hV, rfl, hfz, hnd⟩ := hW
  have hA : DataW.TrodAll enc Try.prog W 0 (fun _ => true) true Try.f8.params.toList args.toList ds p := hA0
  rw [Try.params8] at hA hval hsz
  have hK := hA
  have hlt : ∀ x ∈ p, x.block < W.heap.size := fun x hx => hW'.lt x (by simp [hx])
  obtain ⟨v0, vs0, d0, ds0, p0, q0, hargs, rfl, rfl, h0, r0⟩ := trodAll_cons hA
  obtain ⟨v1, vs1, d1, ds1, p1, q1, rfl, rfl, rfl, h1, r1⟩ := trodAll_cons r0
  obtain ⟨v2, vs2, d2, ds2, p2, q2, rfl, rfl, rfl, h2, r2⟩ := trodAll_cons r1
  obtain ⟨rfl, rfl, rfl⟩ := trodAll_nil r2
  obtain rfl : args = #[v0, v1, v2] := by cases args; simp_all
  obtain ⟨rfl, rfl⟩ := trodVars_none hV
  obtain ⟨x0a, x0b, x0c, x0d, rfl, w0⟩ := open_Deed (hval 0 32 v0 rfl rfl) h0
  obtain ⟨x1a, x1b, x1c, x1d, rfl, w1⟩ := open_Deed (hval 1 32 v1 rfl rfl) h1
  obtain ⟨a2, rfl, rfl, rfl, w2⟩ := open_int Try.underlying3 (hval 2 3 v2 rfl rfl) h2
  clear hA0 hval0 hsz0
  refine (walk_CheckBare W x0a x0b x0c x0d w0 x1a x1b x1c x1d w1 a2 w2).mono fun e W' ⟨he, bel⟩ => ?_
  subst he
  exact ⟨_, rfl, _, _, _, [], _, [], hW', trodAll_mk1 (shut_bool Try.underlying4 _), trodAll_stays laidOut (List.forall_mem_cons.2 ⟨⟨by kernel_rfl, of_decide_eq_true (by kernel_rfl)⟩, List.forall_mem_cons.2 ⟨⟨by kernel_rfl, of_decide_eq_true (by kernel_rfl)⟩, List.forall_mem_cons.2 ⟨⟨by kernel_rfl, of_decide_eq_true (by kernel_rfl)⟩, by intro t ht; cases ht⟩⟩⟩) hK bel hlt, rfl, bel.frame _, fun h => by cases h⟩

theorem checkBare_holds : Rows.CheckBareSaid :=
  OpenClaim.holds_of_wide 8 Try.f8 rfl rfl rfl rfl rfl rfl rfl ⟨rfl, rfl, rfl, rfl, rfl⟩ rfl rfl rfl rfl rfl (by kernel_rfl) Try.func8 (by kernel_rfl)
    (of_decide_eq_true (by kernel_rfl)) (by unfold Func.isWrapper; first | (rw [if_pos (by decide +kernel)]; kernel_rfl) | (rw [if_neg (by decide +kernel)]; exact ⟨rfl, rfl⟩))
    (fun os started H enc _ => lifted_CheckBare os started H enc)
#print axioms checkBare_holds
end Go.Proofs.Ytooanomcbenmeab
