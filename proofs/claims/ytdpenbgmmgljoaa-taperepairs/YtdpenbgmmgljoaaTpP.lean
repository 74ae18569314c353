/- The walk of the document's answer's RecordsOf. -/
import Derived.Test.YtdpenbgmmgljoaaTpN
import Derived.Test.YtdpenbgmmgljoaaTpM
import Derived.Test.YtdpenbgmmgljoaaTpI
import Derived.Test.YtdpenbgmmgljoaaPkN
namespace Go.Proofs.Ytdpenbgmmgljoaa
open Go.RowKit

set_option maxHeartbeats 400000 in
theorem recordsOf_no (a : Option Addr) (len cap : Nat) (s : Int) (w : World) (hm : len ≤ 140737488351232) (h : ¬ (len ≤ 100000 ∧ 0 ≤ s ∧ s ≤ len)) :
    Calls Try.prog 21 #[.agg #[.slice a len cap, .int .i64 s]] w fun e w' => e = .returned (.tuple #[.slice none 0 0, .int .i64 0, .int .i64 6]) ∧ Below w.heap.size w w' := by
  go_enter Try.func21, Try.ntmps21
  go_wp2_with fail
  refine (tapeMay_no a len cap s _ hm h).mono ?_
  rintro e w1 ⟨rfl, b1⟩
  go_wp2
  exact bodyPost_ret (ret_RecordsOf rfl rfl rfl) rfl ⟨rfl, below1t b1⟩

theorem ext_getD {l l' : List Int} (hl : l.length = l'.length) (h : ∀ j, j < l.length → l.getD j 0 = l'.getD j 0) : l = l' := by
  refine List.ext_getElem hl fun i h1 h2 => ?_
  have := h i h1
  simpa [List.getD_eq_getElem?_getD, List.getElem?_eq_getElem h1, List.getElem?_eq_getElem h2] using this
theorem getD_take (l : List Int) (n i : Nat) (h : i < n) : (l.take n).getD i 0 = l.getD i 0 := by
  simp [List.getD_eq_getElem?_getD, h]

set_option maxRecDepth 20000 in
set_option maxHeartbeats 4000000 in
theorem recordsOf_any (a : Option Addr) (len cap : Nat) (l : List Int) (s : Int) (w : World) (h : RowK .u8 w a len l) (hlc : len ≤ cap) (hc : cap ≤ 140737488351232) (h1 : len ≤ 100000) (h2 : 0 ≤ s) (h3 : s ≤ len) :
    Calls Try.prog 21 #[.agg #[.slice a len cap, .int .i64 s]] w fun e w' =>
      ∃ a' cap', e = .returned (.tuple #[.slice a' (readOf l).1.length cap', .int .i64 (readOf l).2, .int .i64 0]) ∧ RecRow w' a' (readOf l).1 ∧ (readOf l).1.length ≤ cap' ∧ Below w.heap.size w w' := by
  obtain ⟨i0, hi, hz0, hz1, hz2⟩ := info_parts Try.infoRec
  have hl := h.len_eq
  go_enter Try.func21, Try.ntmps21
  go_wp2_with fail
  obtain ⟨W, hW, tb0, B0, S0⟩ : ∃ W, W = w.alloc (.cells #[.slice a len cap, .int .i64 s] 27) ∧ tapeBlock W w.heap.size a len cap s ∧ Below w.heap.size w W ∧ W.heap.size = w.heap.size + 1 := ⟨_, rfl, tapeBlock.new w _ len cap s, below1 _ _, alloc_size _ _⟩
  rw [← hW]
  have r0 := h.below B0
  clear hW h
  refine (tapeMay_yes a len cap s _ h1 h2 h3).mono ?_
  rintro e w1 ⟨rfl, b1⟩
  have tb1 := tb0.below b1 tb0.lt
  have r1 := r0.below b1
  have B1 := Below.next B0 b1
  have z1 := b1.size
  clear tb0 r0 B0 b1
  go_wp2
  go_loopw [5, 6] (fun v t wr => ∃ (k : Nat) (rs : List (List Int)), t = .int .i64 k ∧ Going l k rs ∧ 6 * rs.length ≤ k ∧ (∀ z ∈ rs, z.length = 10) ∧ wr.ownsRow w1.heap.size 33 10 v rs.length (recCells rs) ∧ Below w1.heap.size w1 wr)
    (fun _ t _ => len - (intOf t).toNat)
  case atStart => exact ⟨0, [], rfl, going_start l, Nat.le_refl _, by simp, World.ownsRow_nil _ _ _ _, Below.refl _ _⟩
  case round =>
    obtain ⟨k, rs, rfl, hgo, h6, hten, hown, hbel⟩ := hrel
    have hk : k ≤ len := by have := hgo.1; omega
    have tb2 := tb1.below hbel tb1.lt
    have r2 := r1.below hbel
    have z2 := hbel.size
    have c0 := tb2.cell0
    have hdl : (l.drop k).length = len - k := by simp; omega
    by_cases ht2 : len < k + 2
    · have hd : ¬ (k : Int) + 2 ≤ (len : Int) := by omega
      have hu : unframeOf (l.drop k) = none := unframe_not_two (by omega)
      have he := hide (going_end hgo hu)
      obtain ⟨a', cap', hv, hr, hc', hm', hn', hx'⟩ := RecRow.ofOwns hown rfl hten
      subst hv
      clear hown
      go_wp2
      refine bodyPost_ret (ret_RecordsOf rfl rfl rfl) rfl ?_
      rw [unhide he]
      exact ⟨a', cap', rfl, hr, hc', Below.next B1 hbel⟩
    · have hd : (k : Int) + 2 ≤ (len : Int) := by omega
      obtain ⟨b, off, rfl⟩ := r2.form (by omega)
      have rk := r2.from (some ⟨b, off + k, none⟩) k (fun _ => rfl)
      have hb0 := byte_bounds rk.wf 0
      have hb1 := byte_bounds rk.wf 1
      have htc := toldOf_cast rk.wf
      have k0 := rk.at 0 (by omega)
      have k1 := rk.at 1 (by omega)
      rw [Nat.add_zero] at k0
      have HW := hide rk.wf
      generalize hbb : l.drop k = bb at rk hb0 hb1 htc k0 k1 hdl HW
      generalize bb.getD 0 0 = c at hb0 htc k0
      generalize bb.getD 1 0 = d at hb1 htc k1
      obtain ⟨p0, q0⟩ := hb0
      obtain ⟨p1, q1⟩ := hb1
      obtain ⟨n, hn⟩ : ∃ n, toldOf bb = n := ⟨_, rfl⟩
      rw [hn] at htc
      have HN := hide hn
      have HBB := hide hbb
      clear hn hbb
      have HT := hide htc
      have hn1 : n ≤ 65535 := by omega
      clear htc
      have hki : (k : Int) < (len : Int) := by omega
      have hki1 : (k : Int) + 1 < (len : Int) := by omega
      have hw1 : IntKind.i64.wrap ((k : Int) + 1) = (k : Int) + 1 := wraps_i64 _ (by omega) (by omega)
      have hw2 : IntKind.i64.wrap (256 * c) = 256 * c := wraps_i64 _ (by omega) (by omega)
      have hw3 : IntKind.i64.wrap (256 * c + d) = 256 * c + d := wraps_i64 _ (by omega) (by omega)
      have k2 : wr.cell? ⟨b, off + (k + 1), none⟩ = some (.int .u8 d) := by rw [← Nat.add_assoc]; exact k1
      go_wp2_with fail
      go_quiet (fail)
      obtain ⟨w2, hw2', hbel2⟩ : ∃ w2, w2 = wr.drewN nq ∧ Below wr.heap.size wr w2 := ⟨_, rfl, belowN _ _⟩
      rw [← hw2']
      clear hw2'
      have o2 := own_below hown hbel2
      have r3 := r2.below hbel2
      have rk3 := rk.below hbel2
      have tb3 := tb2.below hbel2 tb2.lt
      have z3 := hbel2.size
      have B2 : Below w1.heap.size w1 w2 := hbel.trans (hbel2.mono z2)
      have e1 : 256 * c + d = (n : Int) := by have := unhide HT; omega
      rw [e1]
      clear hown r2 rk tb2 hbel hbel2 c0 k0 k1 k2 hw1 hw2 hw3 e1 p0 q0 p1 q1 HT
      have c0 := tb3.cell0
      by_cases hshort : len < k + n + 6
      · have hd2 : (len : Int) < (k : Int) + (n : Int) + 6 := by omega
        have hu : unframeOf (l.drop k) = none := by rw [unhide HBB]; exact unframe_not_len (by rw [unhide HN]; omega)
        have he := hide (going_end hgo hu)
        obtain ⟨a', cap', hv, hr, hc', hm', hn', hx'⟩ := RecRow.ofOwns o2 rfl hten
        subst hv
        clear o2 hu
        go_wp2
        refine bodyPost_ret (ret_RecordsOf rfl rfl rfl) rfl ?_
        rw [unhide he]
        exact ⟨a', cap', rfl, hr, hc', Below.next B1 B2⟩
      · have hd2 : ¬ (len : Int) < (k : Int) + (n : Int) + 6 := by omega
        have hs1 : (k : Int) + 2 ≤ (cap : Int) := by omega
        have hs2 : (k : Int) + 2 + (n : Int) ≤ (cap : Int) := by omega
        have hcapne : ¬ cap = k + 2 := by omega
        go_wp2_with fail
        have hxe : (l.drop (k + 2)).take n = (bb.drop 2).take n := by rw [← unhide HBB, List.drop_drop]
        have rd := r3.part (some ⟨b, off + (k + 2), none⟩) (k + 2) n (by omega) (fun _ => rfl)
        rw [hxe] at rd
        have hXw := hide rd.wf
        obtain ⟨X, hX⟩ : ∃ X, (bb.drop 2).take n = X := ⟨_, rfl⟩
        rw [hX] at rd hXw
        have HX := hide hX
        clear hX hxe
        refine (recordOf_any _ n (cap - (k + 2)) X _ rd (by omega) (by omega) (by simp)).mono ?_
        rintro e w3 ⟨rfl, b3⟩
        have o3 := own_below o2 b3
        have r4 := r3.below b3
        have rk4 := rk3.below b3
        have tb4 := tb3.below b3 tb3.lt
        have z4 := b3.size
        have B3 : Below w1.heap.size w1 w3 := B2.trans (b3.mono (by omega))
        clear o2 r3 rk3 tb3 b3 c0 rd B2
        have hl10 : (decodeOf X).1.length = 10 := by
          unfold decodeOf
          repeat' split
          all_goals first | rfl | (unfold numsOf; split <;> rfl)
        obtain ⟨zs, er, hde⟩ : ∃ zs er, decodeOf X = (zs, er) := ⟨_, _, rfl⟩
        rw [hde] at hl10 ⊢
        have HDE := hide hde
        clear hde
        simp only at hl10
        match zs, hl10 with
        | [x0, x1, x2, x3, x4, x5, x6, x7, x8, x9], _ =>
          simp only [recVal, List.map_cons, List.map_nil]
          have L4 := tb4.lt
          by_cases her : er = 0
          · subst her
            have hdb := decode_bytes (unhide hXw) (unhide HDE)
            obtain ⟨y0, y1, y2, y3, y4, y5, y6, y7, y8, y9, hzs, hf, hby⟩ := hdb
            simp only [List.cons.injEq, and_true] at hzs
            obtain ⟨rfl, rfl, rfl, rfl, rfl, rfl, rfl, rfl, rfl, rfl⟩ := hzs
            go_wp2_with fail
            obtain ⟨W4, hW4, rb4, b4, S4⟩ := rec_new w3 x0 x1 x2 x3 x4 x5 x6 x7 x8 x9
            rw [← hW4]
            clear hW4
            refine (recBytes_of x0 x1 x2 x3 x4 x5 x6 x7 x8 x9 _ hf).mono ?_
            rw [hby]
            rintro e w5 ⟨g, gc, rfl, r5, b5⟩
            have b45 := Below.next b4 b5
            have hXl : X.length = n := by rw [← unhide HX]; simp; omega
            rw [hXl] at r5 ⊢
            have HXL := hide hXl
            clear hXl
            have o5 := own_below o3 b45
            have q5 := r4.below b45
            have rk5 := rk4.below b45
            have tb5 := tb4.below b45 tb4.lt
            have rb5 := rb4.below b5 rb4.lt
            have z5 := b45.size
            have B5 : Below w1.heap.size w1 w5 := B3.trans (b45.mono (by omega))
            clear o3 r4 rk4 tb4 rb4 b4 b5 b45 B3 hby hf
            go_wp2_with fail
            refine (framed_any (some ⟨g, 0, none⟩) n gc X _ r5 (by omega)).mono ?_
            rintro e w6 ⟨a6, cap6, rfl, r6, b6⟩
            have o6 := own_below o5 b6
            have q6 := q5.below b6
            have rk6 := rk5.below b6
            have tb6 := tb5.below b6 tb5.lt
            have rb6 := rb5.below b6 rb5.lt
            have z6 := b6.size
            have B6 : Below w1.heap.size w1 w6 := B5.trans (b6.mono (by omega))
            clear o5 q5 rk5 tb5 rb5 b6 B5 r5
            obtain ⟨F, hF⟩ : ∃ F, frameOf X = F := ⟨_, rfl⟩
            rw [hF] at r6
            have HF := hide hF
            clear hF
            have hFl := r6.len_eq
            go_wp2
            go_loopw [13] (fun t wq => ∃ i m : Nat, i ≤ n + 6 ∧ t = .int .i64 i ∧ (∀ j, j < i → F.getD j 0 = bb.getD j 0) ∧ wq = w6.drewN m) (fun t _ => n + 6 - (intOf t).toNat)
            case atStart => exact ⟨0, 0, Nat.zero_le _, rfl, fun j hj => by omega, rfl⟩
            case round =>
              obtain ⟨i, m, hi6, rfl, heq, rfl⟩ := hrel
              have c6 := tb6.cell0
              by_cases hlt : i < n + 6
              · obtain ⟨g6, off6, rfl⟩ := r6.form (by omega)
                have kF := r6.at i hlt
                have kD := rk6.at i (by omega)
                rw [Nat.add_assoc] at kD
                have hI1 : (i : Int) < (n : Int) + 6 := by omega
                have hI2 : (k : Int) + (i : Int) < (len : Int) := by omega
                have hI3 : IntKind.i64.wrap ((k : Int) + (i : Int)) = (k : Int) + (i : Int) := wraps_i64 _ (by omega) (by omega)
                obtain ⟨x, hx⟩ : ∃ x, F.getD i 0 = x := ⟨_, rfl⟩
                obtain ⟨y, hy⟩ : ∃ y, bb.getD i 0 = y := ⟨_, rfl⟩
                rw [hx] at kF
                rw [hy] at kD
                have HEQ := hide heq
                have HXX := hide hx
                have HYY := hide hy
                clear heq hx hy
                by_cases hxy : x = y
                · subst hxy
                  have hn0 : (x == x) = true := by simp
                  go_wp2_with fail
                  go_quiet (fail)
                  clear kF kD c6 hI1 hI2 hI3
                  go_wp2
                  go_roundw
                  case rel => exact ⟨i + 1, m + nq, by omega, by go_num, fun j hj => by
                    by_cases hji : j < i
                    · exact unhide HEQ j hji
                    · have : j = i := by omega
                      subst this
                      rw [unhide HXX, unhide HYY], by first | exact (World.drewN_add _ _ _).symm | rfl | simp⟩
                  case measure => simp [intOf]; omega
                · have hn0 : (x == y) = false := by simpa using hxy
                  have hu : unframeOf (l.drop k) = none := by
                    rw [unhide HBB]
                    refine unframe_not_frame (unhide HW) (by rw [unhide HN]; omega) ?_
                    rw [unhide HN, unhide HX, unhide HF]
                    intro hh
                    have h9 := unhide HXX
                    rw [hh, getD_take _ _ _ hlt, unhide HYY] at h9
                    exact hxy h9.symm
                  have he := hide (going_end hgo hu)
                  obtain ⟨a', cap', hv, hr, hc', hm', hn', hx'⟩ := RecRow.ofOwns o6 rfl hten
                  subst hv
                  clear o6 hu hxy
                  go_wp2_with fail
                  go_quiet (fail)
                  clear kF kD c6 hI1 hI2 hI3
                  go_wp2
                  refine bodyPost_ret (ret_RecordsOf rfl rfl rfl) rfl ?_
                  rw [unhide he]
                  exact ⟨a', cap', rfl, hr.below (Below.next (belowN _ _) (belowN _ _)), hc', Below.next (Below.next B1 B6) (Below.next (belowN _ _) (belowN _ _))⟩
              · have hi7 : i = n + 6 := by omega
                subst hi7
                have hFb : F = bb.take (n + 6) := ext_getD (by simp; omega) (fun j hj => by rw [heq j (by omega), getD_take _ _ _ (by omega)])
                have hu : unframeOf (l.drop k) = some ([x0, x1, x2, x3, x4, x5, x6, x7, x8, x9], n + 6) := by
                  rw [unhide HBB]
                  have := unframe_yes (zs := [x0, x1, x2, x3, x4, x5, x6, x7, x8, x9]) (unhide HW) (by omega) (by rw [unhide HN]; omega) (by rw [unhide HN, unhide HX]; exact unhide HDE) (by rw [unhide HN, unhide HX, unhide HF]; exact hFb)
                  rw [unhide HN] at this
                  exact this
                have hgo2 := hide (going_step hgo hu)
                clear hu hFb heq
                have o7 := own_below o6 (belowN w6 m)
                have rb7 := rb6.below (belowN w6 m) rb6.lt
                have B7 : Below w1.heap.size w1 (w6.drewN m) := B6.trans ((belowN w6 m).mono (by omega))
                generalize w6.drewN m = w7 at o7 rb7 B7 ⊢
                clear o6 rb6 tb6 rk6 q6 c6 r6 B6
                obtain ⟨m0, m1, m2, m3, m4, m5, m6, m7, m8, m9⟩ := recBlock.tens rb7
                have rn : Hid (recBlock (w7.alloc (.cells #[.int .i64 x0, .int .i64 x1, .int .i64 x2, .int .i64 x3, .int .i64 x4, .int .i64 x5, .int .i64 x6, .int .i64 x7, .int .i64 x8, .int .i64 x9] 33)) w7.heap.size [x0, x1, x2, x3, x4, x5, x6, x7, x8, x9]) := ⟨rfl, heap_alloc_new w7 _⟩
                have z7 := B7.size
                go_wp2_with (at_builtin; refine wpList_append_own _ rfl _ _ 44 rfl w1.heap.size 33 i0 _ 10 80 Try.underlying44 hi hz0 hz1 hz2 rfl (by decide) _ _ _ rfl (o7.alloc _) ⟨w7.heap.size, 0, none⟩ 1 1 ([x0, x1, x2, x3, x4, x5, x6, x7, x8, x9].map (Value.int .i64)) rfl rfl (ten_news (unhide rn)) (ints_oneCell .i64 _) (by unfold maxLen; omega) (by omega) (by simp; omega) ?_; intro v' w8 hown8 hgrow8 _)
                have hlt8 := o7.lt
                have R1 : Hid (w8.ownsRow w1.heap.size 33 10 v' (rs ++ [[x0, x1, x2, x3, x4, x5, x6, x7, x8, x9]]).length (recCells (rs ++ [[x0, x1, x2, x3, x4, x5, x6, x7, x8, x9]]))) := by
                  rw [recCells_snoc, List.length_append]; exact hown8
                have R2 : Below w1.heap.size w1 w8 := (B7.alloc z7 _).grown hgrow8 (by simp; omega) (by intro t ht; exact (hlt8 t ht).1)
                have R3 : Hid (∀ z ∈ rs ++ [[x0, x1, x2, x3, x4, x5, x6, x7, x8, x9]], z.length = 10) := hide (fun z hz => by
                  rcases List.mem_append.1 hz with hz | hz
                  · exact hten z hz
                  · simp at hz; subst hz; rfl)
                clear hown8 hgrow8 o7 rn hlt8
                go_wp2
                go_roundw
                case rel => exact ⟨k + (n + 6), _, by go_num, unhide hgo2, by simp; omega, unhide R3, unhide R1, R2⟩
                case measure => simp [intOf]; omega
          · have hne : (er == 0) = false := by simpa using her
            have hu : unframeOf (l.drop k) = none := by
              rw [unhide HBB]
              refine unframe_not_dec ?_
              rw [unhide HN, unhide HX, unhide HDE]
              exact her
            have he := hide (going_end hgo hu)
            obtain ⟨a', cap', hv, hr, hc', hm', hn', hx'⟩ := RecRow.ofOwns o3 rfl hten
            subst hv
            clear o3 hu her
            go_wp2
            refine bodyPost_ret (ret_RecordsOf rfl rfl rfl) rfl ?_
            rw [unhide he]
            exact ⟨a', cap', rfl, hr.below (below1 _ _), hc', Below.next (Below.next B1 B3) (below1 _ _)⟩
end Go.Proofs.Ytdpenbgmmgljoaa
