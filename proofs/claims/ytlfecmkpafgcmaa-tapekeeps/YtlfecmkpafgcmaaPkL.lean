/- The walk of pack.Decode: whatever the bytes, it answers the plain function decodeOf. -/
import Derived.Test.YtlfecmkpafgcmaaPkK
namespace Go.Proofs.Ytlfecmkpafgcmaa
open Go.RowKit

set_option maxRecDepth 20000 in
set_option maxHeartbeats 2000000 in
theorem decode_any (a : Option Addr) (len cap : Nat) (l : List Int) (w : World) (hb : RowK .u8 w a len l) (hlc : len ≤ cap) (hc : cap ≤ 9223372036854775807) :
    Calls Try.prog 50 #[.slice a len cap] w fun e w' => e = .returned (.tuple #[recVal (decodeOf l).1, .int .i64 (decodeOf l).2]) ∧ Below w.heap.size w w' := by
  have hmf : ∀ (fn : Fn) (first cap : Array Value) (w : World), (Instr.makeFunc fn first cap).run Try.prog w = .ok (.func fn first cap) w := fun _ _ _ _ => rfl
  have hR0 : recBlock ((w.alloc (.cells #[.int .i64 0, .int .i64 0, .int .i64 0, .int .i64 0, .int .i64 0, .int .i64 0, .int .i64 0, .int .i64 0, .int .i64 0, .int .i64 0] 63)).alloc (.cells #[.int .i64 0] 24)) w.heap.size zeros := by
    refine ⟨rfl, ?_⟩
    rw [Below.heap_alloc _ _ _ (by simp)]
    exact heap_alloc_new w _
  have hE0 : ((w.alloc (.cells #[.int .i64 0, .int .i64 0, .int .i64 0, .int .i64 0, .int .i64 0, .int .i64 0, .int .i64 0, .int .i64 0, .int .i64 0, .int .i64 0] 63)).alloc (.cells #[.int .i64 0] 24)).heap[w.heap.size + 1]? = some (.cells #[.int .i64 0] 24 (0, 0)) := by
    have := heap_alloc_new (w.alloc (.cells #[.int .i64 0, .int .i64 0, .int .i64 0, .int .i64 0, .int .i64 0, .int .i64 0, .int .i64 0, .int .i64 0, .int .i64 0, .int .i64 0] 63)) (.cells #[.int .i64 0] 24)
    simpa using this
  have HR0 := hide hR0
  have HE0 := hide hE0
  have HB := hide hb
  clear hR0 hE0 hb
  go_enter_defers Try.func50, Try.ntmps50
  go_wp2_with fail
  refine (numbers_any _ _).mono ?_
  rintro e w1 ⟨rfl, b1⟩
  have hs1 : w.heap.size + 2 ≤ w1.heap.size := by have := b1.size; simp at this; omega
  have HR1 := hide ((unhide HR0).below b1 (by simp; omega))
  have HE1 : Hid (w1.heap[w.heap.size + 1]? = some (.cells #[.int .i64 0] 24 (0, 0))) := hide ((b1.block (w.heap.size + 1) (by simp)).trans (unhide HE0))
  have HB1 := hide (below2t b1)
  have HW1 := hide ((unhide HB).below (unhide HB1))
  have hblk : ∀ x, a = some x → 0 < len → x.block ≠ w.heap.size := fun x hx h0 => by
    obtain ⟨b0, o0, hb0, hl0, _⟩ := (unhide HB).cell 0 h0
    rw [hx] at hb0
    simp at hb0
    subst hb0
    exact Nat.ne_of_lt hl0
  have HK := hide hblk
  clear HR0 HE0 b1 HB hblk
  go_wp2_with fail
  have HR2 := hide ((unhide HR1).below (below1 w1 (.cells (tenPtrs w.heap.size) 109)) (by omega))
  have HE2 : Hid ((w1.alloc (.cells (tenPtrs w.heap.size) 109)).heap[w.heap.size + 1]? = some (.cells #[.int .i64 0] 24 (0, 0))) := hide (((below1 w1 (.cells (tenPtrs w.heap.size) 109)).block (w.heap.size + 1) (by omega)).trans (unhide HE1))
  have HW2 := hide ((unhide HW1).below (below1 w1 (.cells (tenPtrs w.heap.size) 109)))
  have HB2 := hide (Below.next (unhide HB1) (below1 w1 (.cells (tenPtrs w.heap.size) 109)))
  have HP2 : Hid (∀ o, o < 10 → (w1.alloc (.cells (tenPtrs w.heap.size) 109)).cell? ⟨w1.heap.size, o, none⟩ = some (.pointer (some ⟨w.heap.size, o, none⟩))) := hide (fun o ho => ptr_cells w1 _ o ho)
  clear HR1 HE1 HW1 HB1
  refine (fill_any w1.heap.size w.heap.size 0 4 10 a len cap l zeros _ (by omega) (by omega) (unhide HP2) (unhide HR2) (unhide HW2) (unhide HK) hlc hc).mono ?_
  rintro e w2 ⟨(⟨a', cap', len', rfl, herr, hrow, hne', hlc', hc', hrec⟩ | ⟨t, zs', ht, hlt, hez, rfl, hrec⟩), hsame⟩
  rotate_left
  · have hE3 : w2.heap[w.heap.size + 1]? = some (.cells #[.int .i64 0] 24 (0, 0)) := (hsame.block _ (by omega)).trans (unhide HE2)
    have HB3 := hide ((unhide HB2).trans (hsame.below (Nat.le_refl _)))
    have HD := hide (decode_first ht hlt hez)
    have HR3 := hide hrec
    have HE3 := hide hE3
    clear HR2 HE2 HW2 HB2 HP2 hsame hrec hE3 ht hlt hez
    go_wp2
    refine leaves_cons (f := 68) (args := #[.pointer (some ⟨w.heap.size, 0, none⟩), .pointer (some ⟨w.heap.size + 1, 0, none⟩)]) (by simp) (by simp [go_sem]) ?_
    refine (catch_panicking w.heap.size (w.heap.size + 1) _ (errAt l t) 0 24 _ (unhide HR3) (unhide HE3) (by omega)).mono ?_
    rintro e u' w9 ⟨rfl, rfl, z1, z2, z3⟩
    have BB := (unhide HB3).trans (z3.mono (by omega))
    rw [unhide HD]
    exact leaves_end z1 z2 BB rfl rfl
  · have hE3 : w2.heap[w.heap.size + 1]? = some (.cells #[.int .i64 0] 24 (0, 0)) := (hsame.block _ (by omega)).trans (unhide HE2)
    have HB3 := hide ((unhide HB2).trans (hsame.below (Nat.le_refl _)))
    have HP3 : Hid (∀ o, o < 10 → w2.cell? ⟨w1.heap.size, o, none⟩ = some (.pointer (some ⟨w.heap.size, o, none⟩))) := hide (fun o ho => (hsame.cell (by omega)).trans (unhide HP2 o ho))
    have HR3 : Hid (recBlock w2 w.heap.size [numAt l 0, numAt l 1, numAt l 2, numAt l 3, 0, 0, 0, 0, 0, 0]) := hide hrec
    have HE3 := hide hE3
    have HW3 := hide hrow
    have HX := hide herr
    have HN3 := hide hne'
    clear HR2 HE2 HW2 HB2 HP2 hsame hrec hE3 hrow herr HK hne'
    have kk : w2.cell? ⟨w.heap.size, 0, none⟩ = some (.int .i64 (numAt l 0)) := (unhide HR3).cell 0 (by omega)
    go_wp2_with fail
    by_cases hk : numAt l 0 = 2 ∨ numAt l 0 = 5
    · refine (hasEvent_yes _ _ hk).mono ?_
      rintro e w3 ⟨rfl, rfl⟩
      have HK2 := hide hk
      clear hk kk
      go_wp2_with fail
      refine (fill_any w1.heap.size w.heap.size 4 6 6 a' len' cap' (l.drop (4 * 4)) [numAt l 0, numAt l 1, numAt l 2, numAt l 3, 0, 0, 0, 0, 0, 0] _ (by omega) (by omega) (unhide HP3) (unhide HR3) (unhide HW3) (unhide HN3) hlc' hc').mono ?_
      rintro e w4 ⟨(⟨a4, cap4, len4, rfl, herr, hrow, hne', _, _, hrec⟩ | ⟨t, zs', ht, hlt, hez, rfl, hrec⟩), hsame⟩
      rotate_left
      · have hE4 : w4.heap[w.heap.size + 1]? = some (.cells #[.int .i64 0] 24 (0, 0)) := (hsame.block _ (by omega)).trans (unhide HE3)
        have HB4 := hide ((unhide HB3).trans (hsame.below (Nat.le_refl _)))
        have HD := hide (decode_second (unhide HX) (unhide HK2) ht (fun u hu => by rw [← errAt_drop]; exact hlt u hu) (by rw [← errAt_drop]; exact hez))
        have HR4 := hide hrec
        have HE4 := hide hE4
        clear HR3 HE3 HW3 HB3 HP3 hsame hrec hE4 ht hlt hez
        rw [errAt_drop]
        go_wp2
        refine leaves_cons (f := 68) (args := #[.pointer (some ⟨w.heap.size, 0, none⟩), .pointer (some ⟨w.heap.size + 1, 0, none⟩)]) (by simp) (by simp [go_sem]) ?_
        refine (catch_panicking w.heap.size (w.heap.size + 1) _ (errAt l (4 + t)) 0 24 _ (unhide HR4) (unhide HE4) (by omega)).mono ?_
        rintro e u' w9 ⟨rfl, rfl, z1, z2, z3⟩
        have BB := (unhide HB4).trans (z3.mono (by omega))
        rw [unhide HD]
        exact leaves_end z1 z2 BB rfl rfl
      · have hE4 : w4.heap[w.heap.size + 1]? = some (.cells #[.int .i64 0] 24 (0, 0)) := (hsame.block _ (by omega)).trans (unhide HE3)
        have HB4 := hide ((unhide HB3).trans (hsame.below (Nat.le_refl _)))
        have hrec' : recBlock w4 w.heap.size [numAt l 0, numAt l 1, numAt l 2, numAt l 3, numAt l 4, numAt l 5, numAt l 6, numAt l 7, numAt l 8, numAt l 9] := by
          have h : recBlock w4 w.heap.size [numAt l 0, numAt l 1, numAt l 2, numAt l 3, numAt (l.drop (4 * 4)) 0, numAt (l.drop (4 * 4)) 1, numAt (l.drop (4 * 4)) 2, numAt (l.drop (4 * 4)) 3, numAt (l.drop (4 * 4)) 4, numAt (l.drop (4 * 4)) 5] := hrec
          rw [numAt_drop, numAt_drop, numAt_drop, numAt_drop, numAt_drop, numAt_drop] at h
          exact h
        have HR4 := hide hrec'
        have HE4 := hide hE4
        have HW4 := hide hrow
        have HX4 : Hid (∀ u, u < 6 → errAt l (4 + u) = 0) := hide (fun u hu => by rw [← errAt_drop]; exact herr u hu)
        have HX6 : Hid (∀ u, u < 10 → errAt l u = 0) := hide (fun u hu => by
          by_cases h : u < 4
          · exact unhide HX u h
          · have := unhide HX4 (u - 4) (by omega); rwa [show 4 + (u - 4) = u by omega] at this)
        clear HR3 HE3 HW3 HB3 HP3 hsame hrec hrec' hE4 hrow herr hne' HN3 hlc' hc'
        have HF : Hid (faultOf l = recordFault (numAt l 0) (numAt l 1) (numAt l 2) (numAt l 3) (numAt l 4) (numAt l 5) (numAt l 6) (numAt l 7) (numAt l 8) (numAt l 9)) := hide (by unfold faultOf numsOf; rw [show hasEv (numAt l 0) = true from by simp only [hasEv, decide_eq_true_iff]; exact unhide HK2]; rfl)
        have HN : Hid (numsOf l = [numAt l 0, numAt l 1, numAt l 2, numAt l 3, numAt l 4, numAt l 5, numAt l 6, numAt l 7, numAt l 8, numAt l 9]) := hide (by unfold numsOf; rw [show hasEv (numAt l 0) = true from by simp only [hasEv, decide_eq_true_iff]; exact unhide HK2]; rfl)
        have HL : Hid (l.length - 40 = len4) := hide (by have := (unhide HW4).len_eq; simp at this; omega)
        have HL2 : Hid (40 ≤ l.length) := hide (len_of_err (unhide HX6))
        by_cases hl0 : 0 < len4
        · have HD : Hid (decodeOf l = (zeros, 3)) := hide (by rw [decode_ev (unhide HX) (unhide HK2) (unhide HX4), if_pos (.inl (by have := unhide HL; omega))])
          have hgt : (0 : Int) < (len4 : Int) := by omega
          have k0 := (unhide HR4).cell 0 (by omega)
          have k1 := (unhide HR4).cell 1 (by omega)
          have k2 := (unhide HR4).cell 2 (by omega)
          have k3 := (unhide HR4).cell 3 (by omega)
          have k4 := (unhide HR4).cell 4 (by omega)
          have k5 := (unhide HR4).cell 5 (by omega)
          have k6 := (unhide HR4).cell 6 (by omega)
          have k7 := (unhide HR4).cell 7 (by omega)
          have k8 := (unhide HR4).cell 8 (by omega)
          have k9 := (unhide HR4).cell 9 (by omega)
          simp only [List.getD_cons_zero, List.getD_cons_succ] at k0 k1 k2 k3 k4 k5 k6 k7 k8 k9
          have kf := (unhide HR4).free
          have ke : w4.cell? ⟨w.heap.size + 1, 0, none⟩ = some (.int .i64 0) := by simp [World.cell?, unhide HE4]
          have kef : w4.frozen? ⟨w.heap.size + 1, 0, none⟩ = false := by simp [World.frozen?, unhide HE4]
          go_wp2
          refine leaves_cons (f := 68) (args := #[.pointer (some ⟨w.heap.size, 0, none⟩), .pointer (some ⟨w.heap.size + 1, 0, none⟩)]) (by simp) (by simp [go_sem]) ?_
          refine (catch_idle ⟨w.heap.size, 0, none⟩ ⟨w.heap.size + 1, 0, none⟩ _).mono ?_
          rintro e u' w9 ⟨rfl, rfl, rfl⟩
          have Z := stored_ten 0 0 0 0 0 0 0 0 0 0 3 (unhide HR4) (unhide HE4) (unhide HB4)
          clear k0 k1 k2 k3 k4 k5 k6 k7 k8 k9 kf ke kef
          rw [unhide HD]
          exact leaves_end Z.1 Z.2.1 Z.2.2 rfl rfl
        · have hz0 : len4 = 0 := by omega
          have hl40 : l.length = 40 := by have := unhide HL; have := unhide HL2; omega
          have HL3 := hide hl40
          clear hl40 hl0
          subst hz0
          have k0 := (unhide HR4).cell 0 (by omega)
          have k1 := (unhide HR4).cell 1 (by omega)
          have k2 := (unhide HR4).cell 2 (by omega)
          have k3 := (unhide HR4).cell 3 (by omega)
          have k4 := (unhide HR4).cell 4 (by omega)
          have k5 := (unhide HR4).cell 5 (by omega)
          have k6 := (unhide HR4).cell 6 (by omega)
          have k7 := (unhide HR4).cell 7 (by omega)
          have k8 := (unhide HR4).cell 8 (by omega)
          have k9 := (unhide HR4).cell 9 (by omega)
          simp only [List.getD_cons_zero, List.getD_cons_succ] at k0 k1 k2 k3 k4 k5 k6 k7 k8 k9
          go_wp2_with fail
          refine (record_any _ _ _ _ _ _ _ _ _ _ _).mono ?_
          rintro e w7 ⟨rfl, b7⟩
          clear k0 k1 k2 k3 k4 k5 k6 k7 k8 k9
          have HR7 := hide ((unhide HR4).below b7 (unhide HR4).lt)
          have HE7 : Hid (w7.heap[w.heap.size + 1]? = some (.cells #[.int .i64 0] 24 (0, 0))) := hide ((b7.block _ (lt_of_block (unhide HE4))).trans (unhide HE4))
          have HB7 := hide (Below.next (unhide HB4) b7)
          by_cases hf : recordFault (numAt l 0) (numAt l 1) (numAt l 2) (numAt l 3) (numAt l 4) (numAt l 5) (numAt l 6) (numAt l 7) (numAt l 8) (numAt l 9) = 0
          · have HD : Hid (decodeOf l = ([numAt l 0, numAt l 1, numAt l 2, numAt l 3, numAt l 4, numAt l 5, numAt l 6, numAt l 7, numAt l 8, numAt l 9], 0)) := hide (by rw [decode_ev (unhide HX) (unhide HK2) (unhide HX4), if_neg (by rw [unhide HF, unhide HL3, hf]; simp), unhide HN])
            have hnf : (recordFault (numAt l 0) (numAt l 1) (numAt l 2) (numAt l 3) (numAt l 4) (numAt l 5) (numAt l 6) (numAt l 7) (numAt l 8) (numAt l 9) != 0) = false := by simpa using hf
            have k0 := (unhide HR7).cell 0 (by omega)
            have k1 := (unhide HR7).cell 1 (by omega)
            have k2 := (unhide HR7).cell 2 (by omega)
            have k3 := (unhide HR7).cell 3 (by omega)
            have k4 := (unhide HR7).cell 4 (by omega)
            have k5 := (unhide HR7).cell 5 (by omega)
            have k6 := (unhide HR7).cell 6 (by omega)
            have k7 := (unhide HR7).cell 7 (by omega)
            have k8 := (unhide HR7).cell 8 (by omega)
            have k9 := (unhide HR7).cell 9 (by omega)
            simp only [List.getD_cons_zero, List.getD_cons_succ] at k0 k1 k2 k3 k4 k5 k6 k7 k8 k9
            have kf := (unhide HR7).free
            have ke : w7.cell? ⟨w.heap.size + 1, 0, none⟩ = some (.int .i64 0) := by simp [World.cell?, unhide HE7]
            have kef : w7.frozen? ⟨w.heap.size + 1, 0, none⟩ = false := by simp [World.frozen?, unhide HE7]
            go_wp2
            refine leaves_cons (f := 68) (args := #[.pointer (some ⟨w.heap.size, 0, none⟩), .pointer (some ⟨w.heap.size + 1, 0, none⟩)]) (by simp) (by simp [go_sem]) ?_
            refine (catch_idle ⟨w.heap.size, 0, none⟩ ⟨w.heap.size + 1, 0, none⟩ _).mono ?_
            rintro e u' w9 ⟨rfl, rfl, rfl⟩
            have Z := stored_ten (numAt l 0) (numAt l 1) (numAt l 2) (numAt l 3) (numAt l 4) (numAt l 5) (numAt l 6) (numAt l 7) (numAt l 8) (numAt l 9) 0 (unhide HR7) (unhide HE7) (unhide HB7)
            clear k0 k1 k2 k3 k4 k5 k6 k7 k8 k9 kf ke kef
            rw [unhide HD]
            exact leaves_end Z.1 Z.2.1 Z.2.2 rfl rfl
          · have HD : Hid (decodeOf l = (zeros, 3)) := hide (by rw [decode_ev (unhide HX) (unhide HK2) (unhide HX4), if_pos (.inr (by rw [unhide HF]; exact hf))])
            have hnf : (recordFault (numAt l 0) (numAt l 1) (numAt l 2) (numAt l 3) (numAt l 4) (numAt l 5) (numAt l 6) (numAt l 7) (numAt l 8) (numAt l 9) != 0) = true := by simpa using hf
            have k0 := (unhide HR7).cell 0 (by omega)
            have k1 := (unhide HR7).cell 1 (by omega)
            have k2 := (unhide HR7).cell 2 (by omega)
            have k3 := (unhide HR7).cell 3 (by omega)
            have k4 := (unhide HR7).cell 4 (by omega)
            have k5 := (unhide HR7).cell 5 (by omega)
            have k6 := (unhide HR7).cell 6 (by omega)
            have k7 := (unhide HR7).cell 7 (by omega)
            have k8 := (unhide HR7).cell 8 (by omega)
            have k9 := (unhide HR7).cell 9 (by omega)
            simp only [List.getD_cons_zero, List.getD_cons_succ] at k0 k1 k2 k3 k4 k5 k6 k7 k8 k9
            have kf := (unhide HR7).free
            have ke : w7.cell? ⟨w.heap.size + 1, 0, none⟩ = some (.int .i64 0) := by simp [World.cell?, unhide HE7]
            have kef : w7.frozen? ⟨w.heap.size + 1, 0, none⟩ = false := by simp [World.frozen?, unhide HE7]
            go_wp2
            refine leaves_cons (f := 68) (args := #[.pointer (some ⟨w.heap.size, 0, none⟩), .pointer (some ⟨w.heap.size + 1, 0, none⟩)]) (by simp) (by simp [go_sem]) ?_
            refine (catch_idle ⟨w.heap.size, 0, none⟩ ⟨w.heap.size + 1, 0, none⟩ _).mono ?_
            rintro e u' w9 ⟨rfl, rfl, rfl⟩
            have Z := stored_ten 0 0 0 0 0 0 0 0 0 0 3 (unhide HR7) (unhide HE7) (unhide HB7)
            clear k0 k1 k2 k3 k4 k5 k6 k7 k8 k9 kf ke kef
            rw [unhide HD]
            exact leaves_end Z.1 Z.2.1 Z.2.2 rfl rfl
    · refine (hasEvent_no _ _ hk).mono ?_
      rintro e w3 ⟨rfl, rfl⟩
      have HK2 := hide hk
      clear hk kk HP3 HN3 hlc' hc'
      have HF : Hid (faultOf l = recordFault (numAt l 0) (numAt l 1) (numAt l 2) (numAt l 3) 0 0 0 0 0 0) := hide (by unfold faultOf numsOf; rw [show hasEv (numAt l 0) = false from by simp only [hasEv, decide_eq_false_iff_not]; exact unhide HK2]; rfl)
      have HN : Hid (numsOf l = [numAt l 0, numAt l 1, numAt l 2, numAt l 3, 0, 0, 0, 0, 0, 0]) := hide (by unfold numsOf; rw [show hasEv (numAt l 0) = false from by simp only [hasEv, decide_eq_false_iff_not]; exact unhide HK2]; rfl)
      have HL : Hid (l.length - 16 = len') := hide (by have := (unhide HW3).len_eq; simp at this; omega)
      have HL2 : Hid (16 ≤ l.length) := hide (len_of_err (unhide HX))
      by_cases hl0 : 0 < len'
      · have HD : Hid (decodeOf l = (zeros, 3)) := hide (by rw [decode_bare (unhide HX) (unhide HK2), if_pos (.inl (by have := unhide HL; omega))])
        have hgt : (0 : Int) < (len' : Int) := by omega
        have k0 := (unhide HR3).cell 0 (by omega)
        have k1 := (unhide HR3).cell 1 (by omega)
        have k2 := (unhide HR3).cell 2 (by omega)
        have k3 := (unhide HR3).cell 3 (by omega)
        have k4 := (unhide HR3).cell 4 (by omega)
        have k5 := (unhide HR3).cell 5 (by omega)
        have k6 := (unhide HR3).cell 6 (by omega)
        have k7 := (unhide HR3).cell 7 (by omega)
        have k8 := (unhide HR3).cell 8 (by omega)
        have k9 := (unhide HR3).cell 9 (by omega)
        simp only [List.getD_cons_zero, List.getD_cons_succ] at k0 k1 k2 k3 k4 k5 k6 k7 k8 k9
        have kf := (unhide HR3).free
        have ke : w2.cell? ⟨w.heap.size + 1, 0, none⟩ = some (.int .i64 0) := by simp [World.cell?, unhide HE3]
        have kef : w2.frozen? ⟨w.heap.size + 1, 0, none⟩ = false := by simp [World.frozen?, unhide HE3]
        go_wp2
        refine leaves_cons (f := 68) (args := #[.pointer (some ⟨w.heap.size, 0, none⟩), .pointer (some ⟨w.heap.size + 1, 0, none⟩)]) (by simp) (by simp [go_sem]) ?_
        refine (catch_idle ⟨w.heap.size, 0, none⟩ ⟨w.heap.size + 1, 0, none⟩ _).mono ?_
        rintro e u' w9 ⟨rfl, rfl, rfl⟩
        have Z := stored_ten 0 0 0 0 0 0 0 0 0 0 3 (unhide HR3) (unhide HE3) (unhide HB3)
        clear k0 k1 k2 k3 k4 k5 k6 k7 k8 k9 kf ke kef
        rw [unhide HD]
        exact leaves_end Z.1 Z.2.1 Z.2.2 rfl rfl
      · have hz0 : len' = 0 := by omega
        have hl40 : l.length = 16 := by have := unhide HL; have := unhide HL2; omega
        have HL3 := hide hl40
        clear hl40 hl0
        subst hz0
        have k0 := (unhide HR3).cell 0 (by omega)
        have k1 := (unhide HR3).cell 1 (by omega)
        have k2 := (unhide HR3).cell 2 (by omega)
        have k3 := (unhide HR3).cell 3 (by omega)
        have k4 := (unhide HR3).cell 4 (by omega)
        have k5 := (unhide HR3).cell 5 (by omega)
        have k6 := (unhide HR3).cell 6 (by omega)
        have k7 := (unhide HR3).cell 7 (by omega)
        have k8 := (unhide HR3).cell 8 (by omega)
        have k9 := (unhide HR3).cell 9 (by omega)
        simp only [List.getD_cons_zero, List.getD_cons_succ] at k0 k1 k2 k3 k4 k5 k6 k7 k8 k9
        go_wp2_with fail
        refine (record_any _ _ _ _ _ _ _ _ _ _ _).mono ?_
        rintro e w7 ⟨rfl, b7⟩
        clear k0 k1 k2 k3 k4 k5 k6 k7 k8 k9
        have HR7 := hide ((unhide HR3).below b7 (unhide HR3).lt)
        have HE7 : Hid (w7.heap[w.heap.size + 1]? = some (.cells #[.int .i64 0] 24 (0, 0))) := hide ((b7.block _ (lt_of_block (unhide HE3))).trans (unhide HE3))
        have HB7 := hide (Below.next (unhide HB3) b7)
        by_cases hf : recordFault (numAt l 0) (numAt l 1) (numAt l 2) (numAt l 3) 0 0 0 0 0 0 = 0
        · have HD : Hid (decodeOf l = ([numAt l 0, numAt l 1, numAt l 2, numAt l 3, 0, 0, 0, 0, 0, 0], 0)) := hide (by rw [decode_bare (unhide HX) (unhide HK2), if_neg (by rw [unhide HF, unhide HL3, hf]; simp), unhide HN])
          have hnf : (recordFault (numAt l 0) (numAt l 1) (numAt l 2) (numAt l 3) 0 0 0 0 0 0 != 0) = false := by simpa using hf
          have k0 := (unhide HR7).cell 0 (by omega)
          have k1 := (unhide HR7).cell 1 (by omega)
          have k2 := (unhide HR7).cell 2 (by omega)
          have k3 := (unhide HR7).cell 3 (by omega)
          have k4 := (unhide HR7).cell 4 (by omega)
          have k5 := (unhide HR7).cell 5 (by omega)
          have k6 := (unhide HR7).cell 6 (by omega)
          have k7 := (unhide HR7).cell 7 (by omega)
          have k8 := (unhide HR7).cell 8 (by omega)
          have k9 := (unhide HR7).cell 9 (by omega)
          simp only [List.getD_cons_zero, List.getD_cons_succ] at k0 k1 k2 k3 k4 k5 k6 k7 k8 k9
          have kf := (unhide HR7).free
          have ke : w7.cell? ⟨w.heap.size + 1, 0, none⟩ = some (.int .i64 0) := by simp [World.cell?, unhide HE7]
          have kef : w7.frozen? ⟨w.heap.size + 1, 0, none⟩ = false := by simp [World.frozen?, unhide HE7]
          go_wp2
          refine leaves_cons (f := 68) (args := #[.pointer (some ⟨w.heap.size, 0, none⟩), .pointer (some ⟨w.heap.size + 1, 0, none⟩)]) (by simp) (by simp [go_sem]) ?_
          refine (catch_idle ⟨w.heap.size, 0, none⟩ ⟨w.heap.size + 1, 0, none⟩ _).mono ?_
          rintro e u' w9 ⟨rfl, rfl, rfl⟩
          have Z := stored_ten (numAt l 0) (numAt l 1) (numAt l 2) (numAt l 3) 0 0 0 0 0 0 0 (unhide HR7) (unhide HE7) (unhide HB7)
          clear k0 k1 k2 k3 k4 k5 k6 k7 k8 k9 kf ke kef
          rw [unhide HD]
          exact leaves_end Z.1 Z.2.1 Z.2.2 rfl rfl
        · have HD : Hid (decodeOf l = (zeros, 3)) := hide (by rw [decode_bare (unhide HX) (unhide HK2), if_pos (.inr (by rw [unhide HF]; exact hf))])
          have hnf : (recordFault (numAt l 0) (numAt l 1) (numAt l 2) (numAt l 3) 0 0 0 0 0 0 != 0) = true := by simpa using hf
          have k0 := (unhide HR7).cell 0 (by omega)
          have k1 := (unhide HR7).cell 1 (by omega)
          have k2 := (unhide HR7).cell 2 (by omega)
          have k3 := (unhide HR7).cell 3 (by omega)
          have k4 := (unhide HR7).cell 4 (by omega)
          have k5 := (unhide HR7).cell 5 (by omega)
          have k6 := (unhide HR7).cell 6 (by omega)
          have k7 := (unhide HR7).cell 7 (by omega)
          have k8 := (unhide HR7).cell 8 (by omega)
          have k9 := (unhide HR7).cell 9 (by omega)
          simp only [List.getD_cons_zero, List.getD_cons_succ] at k0 k1 k2 k3 k4 k5 k6 k7 k8 k9
          have kf := (unhide HR7).free
          have ke : w7.cell? ⟨w.heap.size + 1, 0, none⟩ = some (.int .i64 0) := by simp [World.cell?, unhide HE7]
          have kef : w7.frozen? ⟨w.heap.size + 1, 0, none⟩ = false := by simp [World.frozen?, unhide HE7]
          go_wp2
          refine leaves_cons (f := 68) (args := #[.pointer (some ⟨w.heap.size, 0, none⟩), .pointer (some ⟨w.heap.size + 1, 0, none⟩)]) (by simp) (by simp [go_sem]) ?_
          refine (catch_idle ⟨w.heap.size, 0, none⟩ ⟨w.heap.size + 1, 0, none⟩ _).mono ?_
          rintro e u' w9 ⟨rfl, rfl, rfl⟩
          have Z := stored_ten 0 0 0 0 0 0 0 0 0 0 3 (unhide HR7) (unhide HE7) (unhide HB7)
          clear k0 k1 k2 k3 k4 k5 k6 k7 k8 k9 kf ke kef
          rw [unhide HD]
          exact leaves_end Z.1 Z.2.1 Z.2.2 rfl rfl
end Go.Proofs.Ytlfecmkpafgcmaa
