/- The walk of the document's answer's Written. -/
import Derived.Test.YtdpenbgmmgljoaaTpH
namespace Go.Proofs.Ytdpenbgmmgljoaa
open Go.RowKit

theorem recBytes_of (x0 x1 x2 x3 x4 x5 x6 x7 x8 x9 : Int) (w : World) (h : recordFault x0 x1 x2 x3 x4 x5 x6 x7 x8 x9 = 0) :
    Calls Try.prog 30 #[.agg #[.int .i64 x0, .int .i64 x1, .int .i64 x2, .int .i64 x3, .int .i64 x4, .int .i64 x5, .int .i64 x6, .int .i64 x7, .int .i64 x8, .int .i64 x9]] w fun e w' =>
      ∃ g cap, e = .returned (.tuple #[.slice (some ⟨g, 0, none⟩) (bytesOf x0 x1 x2 x3 x4 x5 x6 x7 x8 x9).length cap, .int .i64 0]) ∧ RowK .u8 w' (some ⟨g, 0, none⟩) (bytesOf x0 x1 x2 x3 x4 x5 x6 x7 x8 x9).length (bytesOf x0 x1 x2 x3 x4 x5 x6 x7 x8 x9) ∧ Below w.heap.size w w' := by
  rw [bytesOf_len]
  by_cases hk : x0 = 2 ∨ x0 = 5
  · rw [if_pos hk]
    refine (bytes_ten _ _ _ _ _ _ _ _ _ _ w h hk).mono ?_
    rintro e w' ⟨g, cap, rfl, hr, hb⟩
    exact ⟨g, cap, rfl, by unfold bytesOf; rw [if_pos hk]; exact hr, hb⟩
  · rw [if_neg hk]
    refine (bytes_four _ _ _ _ _ _ _ _ _ _ w h hk).mono ?_
    rintro e w' ⟨g, cap, rfl, hr, hb⟩
    exact ⟨g, cap, rfl, by unfold bytesOf; rw [if_neg hk]; exact hr, hb⟩

set_option maxHeartbeats 1000000 in
theorem written_no (a : Option Addr) (len cap : Nat) (s x0 x1 x2 x3 x4 x5 x6 x7 x8 x9 : Int) (w : World) (hm : len ≤ 140737488351232) (h : ¬ (len ≤ 100000 ∧ 0 ≤ s ∧ s ≤ len)) :
    Calls Try.prog 14 #[.agg #[.slice a len cap, .int .i64 s], .agg #[.int .i64 x0, .int .i64 x1, .int .i64 x2, .int .i64 x3, .int .i64 x4, .int .i64 x5, .int .i64 x6, .int .i64 x7, .int .i64 x8, .int .i64 x9]] w fun e w' => e = .returned (.tuple #[.agg #[.slice none 0 0, .int .i64 0], .int .i64 6]) ∧ Below w.heap.size w w' := by
  go_enter Try.func14, Try.ntmps14
  go_wp2_with fail
  obtain ⟨W, hW, tb0, rb, tb1, B0, S0⟩ := three_boxes w a len cap s x0 x1 x2 x3 x4 x5 x6 x7 x8 x9
  rw [← hW]
  clear hW
  refine (tapeMay_no a len cap s _ hm h).mono ?_
  rintro e w1 ⟨rfl, b1⟩
  have tb2 := tb1.below b1 tb1.lt
  have j0 := tb2.cell0
  have j1 := tb2.cell1
  have jf := tb2.free
  go_wp2
  exact bodyPost_ret (ret_Written (tb2.store none 0 0 0) rfl rfl) rfl ⟨rfl, (tape_same w1 _ _ _).under (Below.next B0 b1) (by omega)⟩

set_option maxHeartbeats 1000000 in
theorem written_bad (a : Option Addr) (len cap : Nat) (s x0 x1 x2 x3 x4 x5 x6 x7 x8 x9 : Int) (w : World) (h1 : len ≤ 100000) (h2 : 0 ≤ s) (h3 : s ≤ len) (hf : ¬ recordFault x0 x1 x2 x3 x4 x5 x6 x7 x8 x9 = 0) :
    Calls Try.prog 14 #[.agg #[.slice a len cap, .int .i64 s], .agg #[.int .i64 x0, .int .i64 x1, .int .i64 x2, .int .i64 x3, .int .i64 x4, .int .i64 x5, .int .i64 x6, .int .i64 x7, .int .i64 x8, .int .i64 x9]] w fun e w' => e = .returned (.tuple #[.agg #[.slice none 0 0, .int .i64 0], .int .i64 (recordFault x0 x1 x2 x3 x4 x5 x6 x7 x8 x9)]) ∧ Below w.heap.size w w' := by
  go_enter Try.func14, Try.ntmps14
  go_wp2_with fail
  obtain ⟨W, hW, tb0, rb, tb1, B0, S0⟩ := three_boxes w a len cap s x0 x1 x2 x3 x4 x5 x6 x7 x8 x9
  rw [← hW]
  clear hW
  refine (tapeMay_yes a len cap s _ h1 h2 h3).mono ?_
  rintro e w1 ⟨rfl, b1⟩
  have tb2 := tb1.below b1 tb1.lt
  have rb1 := rb.below b1 rb.lt
  have m0 := rb1.cell 0 (by omega)
  have m1 := rb1.cell 1 (by omega)
  have m2 := rb1.cell 2 (by omega)
  have m3 := rb1.cell 3 (by omega)
  have m4 := rb1.cell 4 (by omega)
  have m5 := rb1.cell 5 (by omega)
  have m6 := rb1.cell 6 (by omega)
  have m7 := rb1.cell 7 (by omega)
  have m8 := rb1.cell 8 (by omega)
  have m9 := rb1.cell 9 (by omega)
  simp only [List.getD_cons_zero, List.getD_cons_succ] at m0 m1 m2 m3 m4 m5 m6 m7 m8 m9
  have B1 := Below.next B0 b1
  clear b1 B0 tb0 tb1 rb rb1
  go_wp2_with fail
  refine (bytes_no x0 x1 x2 x3 x4 x5 x6 x7 x8 x9 _ hf).mono ?_
  rintro e w2 ⟨rfl, b2⟩
  have tb3 := tb2.below b2 tb2.lt
  have B2 := Below.next B1 b2
  have j0 := tb3.cell0
  have j1 := tb3.cell1
  have jf := tb3.free
  have hne : (recordFault x0 x1 x2 x3 x4 x5 x6 x7 x8 x9 == 0) = false := by simpa using hf
  clear m0 m1 m2 m3 m4 m5 m6 m7 m8 m9 b2 tb2 B1 hf
  go_wp2
  exact bodyPost_ret (ret_Written (tb3.store none 0 0 0) rfl rfl) rfl ⟨rfl, (tape_same w2 _ _ _).under B2 (by omega)⟩

set_option maxHeartbeats 1000000 in
theorem written_any (a : Option Addr) (len cap : Nat) (l : List Int) (s x0 x1 x2 x3 x4 x5 x6 x7 x8 x9 : Int) (w : World) (h : RowK .u8 w a len l) (h1 : len ≤ 100000) (h2 : 0 ≤ s) (h3 : s ≤ len) (hf : recordFault x0 x1 x2 x3 x4 x5 x6 x7 x8 x9 = 0) :
    Calls Try.prog 14 #[.agg #[.slice a len cap, .int .i64 s], .agg #[.int .i64 x0, .int .i64 x1, .int .i64 x2, .int .i64 x3, .int .i64 x4, .int .i64 x5, .int .i64 x6, .int .i64 x7, .int .i64 x8, .int .i64 x9]] w fun e w' =>
      (100000 < len + ((bytesOf x0 x1 x2 x3 x4 x5 x6 x7 x8 x9).length + 6) ∧ e = .returned (.tuple #[.agg #[.slice none 0 0, .int .i64 0], .int .i64 14]) ∧ Below w.heap.size w w') ∨
      (len + ((bytesOf x0 x1 x2 x3 x4 x5 x6 x7 x8 x9).length + 6) ≤ 100000 ∧ ∃ a' cap', e = .returned (.tuple #[.agg #[.slice a' (len + ((bytesOf x0 x1 x2 x3 x4 x5 x6 x7 x8 x9).length + 6)) cap', .int .i64 s], .int .i64 0]) ∧
        RowK .u8 w' a' (len + ((bytesOf x0 x1 x2 x3 x4 x5 x6 x7 x8 x9).length + 6)) (l ++ frameOf (bytesOf x0 x1 x2 x3 x4 x5 x6 x7 x8 x9)) ∧ Below w.heap.size w w') := by
  obtain ⟨i0, hi, hz0, hz1, hz2⟩ := info_parts Try.info5
  have hl := h.len_eq
  go_enter Try.func14, Try.ntmps14
  go_wp2_with fail
  obtain ⟨W, hW, tb0, rb, tb1, B0, S0⟩ := three_boxes w a len cap s x0 x1 x2 x3 x4 x5 x6 x7 x8 x9
  rw [← hW]
  have r0 := h.below B0
  clear hW h
  refine (tapeMay_yes a len cap s _ h1 h2 h3).mono ?_
  rintro e w1 ⟨rfl, b1⟩
  have ta2 := tb0.below b1 tb0.lt
  have tb2 := tb1.below b1 tb1.lt
  have rb1 := rb.below b1 rb.lt
  have r1 := r0.below b1
  have z1 := b1.size
  have m0 := rb1.cell 0 (by omega)
  have m1 := rb1.cell 1 (by omega)
  have m2 := rb1.cell 2 (by omega)
  have m3 := rb1.cell 3 (by omega)
  have m4 := rb1.cell 4 (by omega)
  have m5 := rb1.cell 5 (by omega)
  have m6 := rb1.cell 6 (by omega)
  have m7 := rb1.cell 7 (by omega)
  have m8 := rb1.cell 8 (by omega)
  have m9 := rb1.cell 9 (by omega)
  simp only [List.getD_cons_zero, List.getD_cons_succ] at m0 m1 m2 m3 m4 m5 m6 m7 m8 m9
  have B1 := Below.next B0 b1
  clear b1 B0 tb0 tb1 rb rb1 r0
  go_wp2_with fail
  refine (recBytes_of x0 x1 x2 x3 x4 x5 x6 x7 x8 x9 _ hf).mono ?_
  rintro e w2 ⟨g, gc, rfl, r2, b2⟩
  have hn1 : (bytesOf x0 x1 x2 x3 x4 x5 x6 x7 x8 x9).length ≤ 40 := by rw [bytesOf_len]; split <;> omega
  generalize hbs : bytesOf x0 x1 x2 x3 x4 x5 x6 x7 x8 x9 = bs at r2 hn1 ⊢
  have ta3 := ta2.below b2 ta2.lt
  have tb3 := tb2.below b2 tb2.lt
  have q2 := r1.below b2
  have B2 := Below.next B1 b2
  have z2 := b2.size
  clear m0 m1 m2 m3 m4 m5 m6 m7 m8 m9 b2 tb2 ta2 r1 B1 hf
  have HB := hide hbs
  clear hbs
  go_wp2_with fail
  refine (framed_any (some ⟨g, 0, none⟩) bs.length gc bs _ r2 (by omega)).mono ?_
  rintro e w3 ⟨a3, cap3, rfl, r3, b3⟩
  have ta4 := ta3.below b3 ta3.lt
  have tb4 := tb3.below b3 tb3.lt
  have q3 := q2.below b3
  have B3 := Below.next B2 b3
  have z3 := b3.size
  have k0 := ta4.cell0
  have k1 := ta4.cell1
  have j0 := tb4.cell0
  have j1 := tb4.cell1
  have jf := tb4.free
  clear ta3 tb3 q2 B2 b3 r2
  by_cases hfull : 100000 < len + (bs.length + 6)
  · have hd : (100000 : Int) < (len : Int) + ((bs.length + 6 : Nat) : Int) := by omega
    have HF := hide hfull
    clear hfull
    obtain ⟨m, hm⟩ : ∃ m, bs.length + 6 = m := ⟨_, rfl⟩
    rw [hm] at hd ⊢
    go_wp2
    exact bodyPost_ret (ret_Written (tb4.store none 0 0 0) rfl rfl) rfl (.inl ⟨by rw [unhide HB]; exact unhide HF, rfl, (tape_same w3 _ _ _).under B3 (by omega)⟩)
  · have hd : ¬ (100000 : Int) < (len : Int) + ((bs.length + 6 : Nat) : Int) := by omega
    have HF := hide hfull
    clear j0 j1 jf hfull
    obtain ⟨m, hm⟩ : ∃ m, bs.length + 6 = m := ⟨_, rfl⟩
    have hm46 : m ≤ 46 := by omega
    have hfl : (frameOf bs).length = m := by rw [frameOf_len]; exact hm
    rw [hm] at hd r3 ⊢
    obtain ⟨F, hF⟩ : ∃ F, frameOf bs = F := ⟨_, rfl⟩
    rw [hF] at r3 hfl
    have HFr := hide hF
    clear hF
    go_wp2_with fail
    refine (octetsN_own a len cap l _ q3 len (Nat.le_refl _) (by omega)).mono ?_
    rintro e w4 ⟨a4, cap4, rfl, r4, _, _, _, y4, b4, o4⟩
    rw [List.take_of_length_le (by omega)] at o4
    have wl := hide q3.wf
    have hT : w.heap.size + 1 + 1 < w3.heap.size := by omega
    clear q3 k0 k1 r4
    go_wp2
    go_loopw [9, 10] (fun v t wr => ∃ j : Nat, j ≤ m ∧ t = .int .i64 j ∧ wr.ownsRow w3.heap.size 5 1 v (len + j) ((l ++ F.take j).map (Value.int .u8)) ∧ Below w3.heap.size w3 wr)
      (fun _ t _ => m - (intOf t).toNat)
    case atStart => exact ⟨0, Nat.zero_le _, rfl, by simpa using o4, b4⟩
    case round =>
      obtain ⟨j, hj, rfl, hown, hbel⟩ := hrel
      clear o4 b4
      have hsz : w3.heap.size ≤ wr.heap.size := hbel.size
      by_cases hlt : j < m
      · have r5 := r3.below hbel
        obtain ⟨b, off, rfl⟩ := r5.form (by omega)
        have kq := r5.at j (by omega)
        have HX : Hid (F.take (j + 1) = F.take j ++ [F.getD j 0]) := take_snoc F j (by omega)
        generalize F.getD j 0 = x at kq HX
        go_wp2_with (at_builtin; refine wpList_append_own _ rfl _ _ 22 rfl w3.heap.size 5 i0 (.int .u8 0) 1 1 Try.underlying22 hi hz0 hz1 hz2 rfl (by decide) _ _ _ rfl (hown.alloc _) ⟨wr.heap.size, 0, none⟩ 1 1 [.int .u8 x] rfl rfl (cell_one_new _ _ _) (ints_oneCell .u8 [x]) (by unfold maxLen; omega) (by omega) (by simp; omega) ?_; intro v' w6 hown6 hgrow6 _)
        have R1 : Hid (w6.ownsRow w3.heap.size 5 1 v' (len + (j + 1)) ((l ++ F.take (j + 1)).map (Value.int .u8))) := by
          rw [unhide HX, ← List.append_assoc, List.map_append]; exact hown6
        have R2 : Below w3.heap.size w3 w6 := (hbel.alloc hsz _).grown hgrow6 (by simp; omega) (by intro t ht; exact (hown.lt t ht).1)
        clear hown6 hgrow6 hown kq r5
        go_wp2
        go_roundw
        case rel => exact ⟨j + 1, by omega, by go_num, R1.out, R2⟩
        case measure => simp [intOf]; omega
      · have hj' : j = m := by omega
        subst hj'
        rw [List.take_of_length_le (by omega)] at hown
        obtain ⟨a', cap', rfl, hr, _, _, _, hx'⟩ := RowK.ofOwns hown (fun u hu => by
          rcases List.mem_append.1 hu with hu | hu
          · exact unhide wl u hu
          · exact r3.wf u hu)
        clear hown
        have ta5 := ta4.below hbel (by omega)
        have tb5 := tb4.below hbel hT
        have k1 := ta5.cell1
        have j0 := tb5.cell0
        have j1 := tb5.cell1
        have jf := tb5.free
        have B5 := Below.next B3 hbel
        clear hbel ta4 tb4 B3
        go_wp2
        refine bodyPost_ret (ret_Written (tb5.store a' (len + j) cap' s) rfl rfl) rfl (.inr ?_)
        have hfull := unhide HF
        rw [unhide HB, hm, unhide HFr]
        exact ⟨by omega, a', cap', rfl, (tape_same wr _ _ _).row hr (fun x hx _ => by have := hx' x hx; omega), (tape_same wr _ _ _).under B5 (by omega)⟩
end Go.Proofs.Ytdpenbgmmgljoaa
