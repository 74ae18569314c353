/- The walk of tape.unframe. -/
import Derived.Test.YtlfecmkpafgcmaaTpJ
import Derived.Test.YtlfecmkpafgcmaaPkM
import Derived.Lib.Bytes
namespace Go.Proofs.Ytlfecmkpafgcmaa
open Go.RowKit

theorem RowK.part {k : IntKind} {w : World} {b off len : Nat} {l : List Int} (h : RowK k w (some ⟨b, off, none⟩) len l) (a : Option Addr) (lo n : Nat) (hle : lo + n ≤ len) (ha : 0 < n → a = some ⟨b, off + lo, none⟩) : RowK k w a n ((l.drop lo).take n) := by
  have hl := h.len_eq
  refine ⟨by simp; omega, fun u hu => h.wf u (List.mem_of_mem_drop (List.mem_of_mem_take hu)), fun i hi => ?_⟩
  refine ⟨b, off + lo, ha (by omega), h.lt (by omega), ?_⟩
  have := h.at (lo + i) (by omega)
  rw [Nat.add_assoc, this]
  simp [List.getD_eq_getElem?_getD, hi]

theorem equal_any (a a' : Option Addr) (len len' cap cap' : Nat) (l l' : List Int) (w : World) (h : RowK .u8 w a len l) (h' : RowK .u8 w a' len' l') :
    Calls Try.prog 49 #[.slice a len cap, .slice a' len' cap'] w fun e w' =>
      e = .returned (.bool ((strOfNums l).toList == (strOfNums l').toList)) ∧ w = w' := by
  have c1 := run_string_row (P := Try.prog) 52 5 Try.underlying52 Try.underlying5 (cap := cap) h 9 Try.underlying9
  have c2 := run_string_row (P := Try.prog) 52 5 Try.underlying52 Try.underlying5 (cap := cap') h' 9 Try.underlying9
  clear h h'
  go_enter Try.func49, Try.ntmps49
  go_wp2
  go_ret
  exact ⟨rfl, rfl⟩

/-- unlike bytes are unlike strings. -/
theorem strOf_inj {l l' : List Int} (hw : ∀ u ∈ l, (Lit.int .u8 u).wf = true) (hw' : ∀ u ∈ l', (Lit.int .u8 u).wf = true) (h : (strOfNums l).toList = (strOfNums l').toList) : l = l' := by
  rw [Go.Lib.strOfNums_toList, Go.Lib.strOfNums_toList] at h
  unfold Go.Lib.bytesOf at h
  refine List.ext_getElem (by have := congrArg List.length h; simpa using this) fun i h1 h2 => ?_
  have e : (l.map fun n => UInt8.ofNat n.toNat)[i]? = (l'.map fun n => UInt8.ofNat n.toNat)[i]? := by rw [h]
  simp only [List.getElem?_map, List.getElem?_eq_getElem h1, List.getElem?_eq_getElem h2, Option.map_some, Option.some.injEq] at e
  have b1 := bounds_u8 (hw _ (List.getElem_mem h1))
  have b2 := bounds_u8 (hw' _ (List.getElem_mem h2))
  have e2 := congrArg UInt8.toNat e
  simp only [UInt8.toNat_ofNat'] at e2
  omega

theorem ret_unframe {W : World} {R : Nat} {zs : List Int} {m : Int} {tmps : Array Value} (h1 : recBlock W R zs) (t2 : tmps[2]? = some (.pointer (some ⟨R, 0, none⟩))) (t3 : tmps[3]? = some (.int .i64 m)) :
    (results Try.f35 tmps).run Try.prog W = .ok (.tuple #[recVal zs, .int .i64 m]) W := by
  have hl := h1.1
  have k0 := h1.cell 0 (by omega)
  have k1 := h1.cell 1 (by omega)
  have k2 := h1.cell 2 (by omega)
  have k3 := h1.cell 3 (by omega)
  have k4 := h1.cell 4 (by omega)
  have k5 := h1.cell 5 (by omega)
  have k6 := h1.cell 6 (by omega)
  have k7 := h1.cell 7 (by omega)
  have k8 := h1.cell 8 (by omega)
  have k9 := h1.cell 9 (by omega)
  clear h1
  match zs, hl with
  | [y0, y1, y2, y3, y4, y5, y6, y7, y8, y9], _ =>
    simp at k0 k1 k2 k3 k4 k5 k6 k7 k8 k9
    simp [results, Try.results35, go_sem, k0, k1, k2, k3, k4, k5, k6, k7, k8, k9, recVal, t2, t3]

theorem zero_box (w : World) : ∃ W, W = w.alloc (.cells #[.int .i64 0, .int .i64 0, .int .i64 0, .int .i64 0, .int .i64 0, .int .i64 0, .int .i64 0, .int .i64 0, .int .i64 0, .int .i64 0] 63) ∧
    recBlock W w.heap.size zeros ∧ Below w.heap.size w W ∧ W.heap.size = w.heap.size + 1 :=
  ⟨_, rfl, ⟨rfl, heap_alloc_new w _⟩, below1 _ _, alloc_size _ _⟩

theorem or_told (c0 c1 : Int) (r0 : 0 ≤ c0) (s0 : c0 ≤ 255) (r1 : 0 ≤ c1) (s1 : c1 ≤ 255) : bits .or .i64 (c0 * 256) c1 = c0 * 256 + c1 :=
  bits_join .i64 62 (by decide) wraps_i64 8 _ _ (by omega) (by omega) (by omega) (by omega) (by omega) (by omega)

theorem recBlock.tens {w : World} {R : Nat} {x0 x1 x2 x3 x4 x5 x6 x7 x8 x9 : Int} (h : recBlock w R [x0, x1, x2, x3, x4, x5, x6, x7, x8, x9]) :
    w.cell? ⟨R, 0, none⟩ = some (.int .i64 x0) ∧ w.cell? ⟨R, 1, none⟩ = some (.int .i64 x1) ∧ w.cell? ⟨R, 2, none⟩ = some (.int .i64 x2) ∧ w.cell? ⟨R, 3, none⟩ = some (.int .i64 x3) ∧ w.cell? ⟨R, 4, none⟩ = some (.int .i64 x4) ∧
    w.cell? ⟨R, 5, none⟩ = some (.int .i64 x5) ∧ w.cell? ⟨R, 6, none⟩ = some (.int .i64 x6) ∧ w.cell? ⟨R, 7, none⟩ = some (.int .i64 x7) ∧ w.cell? ⟨R, 8, none⟩ = some (.int .i64 x8) ∧ w.cell? ⟨R, 9, none⟩ = some (.int .i64 x9) := by
  have m0 := h.cell 0 (by omega)
  have m1 := h.cell 1 (by omega)
  have m2 := h.cell 2 (by omega)
  have m3 := h.cell 3 (by omega)
  have m4 := h.cell 4 (by omega)
  have m5 := h.cell 5 (by omega)
  have m6 := h.cell 6 (by omega)
  have m7 := h.cell 7 (by omega)
  have m8 := h.cell 8 (by omega)
  have m9 := h.cell 9 (by omega)
  simp only [List.getD_cons_zero, List.getD_cons_succ] at m0 m1 m2 m3 m4 m5 m6 m7 m8 m9
  exact ⟨m0, m1, m2, m3, m4, m5, m6, m7, m8, m9⟩

/-- what unframe answers. -/
def framePair (b : List Int) : List Int × Nat := match unframeOf b with
  | none => (zeros, 0)
  | some p => p

set_option maxRecDepth 20000 in
set_option maxHeartbeats 1000000 in
theorem unframe_short (a : Option Addr) (len cap : Nat) (w : World) (h : len < 2) :
    Calls Try.prog 35 #[.slice a len cap] w fun e w' => e = .returned (.tuple #[recVal zeros, .int .i64 0]) ∧ Below w.heap.size w w' := by
  go_enter Try.func35, Try.ntmps35
  go_wp2
  obtain ⟨W, hW, rb, B, _⟩ := zero_box w
  rw [← hW]
  exact bodyPost_ret (ret_unframe rb rfl rfl) rfl ⟨rfl, B⟩

theorem zero_drew (w : World) (n : Nat) : ∃ W, W = (w.alloc (.cells #[.int .i64 0, .int .i64 0, .int .i64 0, .int .i64 0, .int .i64 0, .int .i64 0, .int .i64 0, .int .i64 0, .int .i64 0, .int .i64 0] 63)).drewN n ∧
    recBlock W w.heap.size zeros ∧ Below w.heap.size w W ∧ W.heap.size = w.heap.size + 1 :=
  ⟨_, rfl, ⟨rfl, heap_alloc_new w _⟩, Below.next (below1 _ _) (belowN _ _), alloc_size w _⟩

set_option maxRecDepth 20000 in
set_option maxHeartbeats 2000000 in
theorem unframe_long (b off len cap : Nat) (l : List Int) (w : World) (h : RowK .u8 w (some ⟨b, off, none⟩) len l) (h2 : 2 ≤ len) (hlc : len ≤ cap) (hc : cap ≤ 9223372036854775807) (hm : len ≤ 1000000) :
    Calls Try.prog 35 #[.slice (some ⟨b, off, none⟩) len cap] w fun e w' => e = .returned (.tuple #[recVal (framePair l).1, .int .i64 (framePair l).2]) ∧ Below w.heap.size w w' := by
  have hl := h.len_eq
  have hb0 := byte_bounds h.wf 0
  have hb1 := byte_bounds h.wf 1
  have htc := toldOf_cast h.wf
  have k0 := h.at 0 (by omega)
  have k1 := h.at 1 (by omega)
  have hbl := h.lt (by omega)
  rw [Nat.add_zero] at k0
  generalize l.getD 0 0 = c0 at hb0 htc k0
  generalize l.getD 1 0 = c1 at hb1 htc k1
  obtain ⟨p0, q0⟩ := hb0
  obtain ⟨p1, q1⟩ := hb1
  have J := or_told c0 c1 p0 q0 p1 q1
  obtain ⟨n, hn⟩ : ∃ n, toldOf l = n := ⟨_, rfl⟩
  rw [hn] at htc
  have HN := hide hn
  clear hn
  have e1 : 2 + (c0 * 256 + c1) = ((n + 2 : Nat) : Int) := by omega
  have hn1 : n ≤ 65535 := by omega
  have HT := hide htc
  have HE := hide e1
  clear htc e1
  go_enter Try.func35, Try.ntmps35
  go_wp2_with fail
  go_quiet (fail)
  rw [unhide HE]
  obtain ⟨W, hW, rb, B0, S0⟩ := zero_drew w nq
  rw [← hW]
  have r0 := h.below B0
  clear hW k0 k1 h
  obtain ⟨E, hE⟩ : ∃ E : Int, ((n + 2 : Nat) : Int) = E := ⟨_, rfl⟩
  rw [hE]
  have hE0 : (0 : Int) ≤ E := by omega
  have hE1 : E ≤ 70000 := by omega
  have hwr : IntKind.i64.wrap (E + 4) = E + 4 := wraps_i64 _ (by omega) (by omega)
  have HEN : Hid (((n + 2 : Nat) : Int) = E) := hE
  clear hE
  by_cases ht : len < n + 6
  · have hd : (len : Int) < E + 4 := by have := unhide HEN; omega
    have HP : Hid (framePair l = (zeros, 0)) := by
      show framePair l = (zeros, 0)
      unfold framePair unframeOf
      rw [unhide HN, if_neg (by omega), if_pos (by omega)]
    have hT := hide ht
    clear ht
    go_wp2_with fail
    go_quiet (fail)
    obtain ⟨W1, hW1, rb1, B1⟩ : ∃ W1, W1 = W.drewN nq ∧ recBlock W1 w.heap.size zeros ∧ Below w.heap.size w W1 := ⟨_, rfl, rb, Below.next B0 (belowN _ _)⟩
    rw [← hW1]
    clear hW1
    have kf := rb1.free
    obtain ⟨m0, m1, m2, m3, m4, m5, m6, m7, m8, m9⟩ := recBlock.tens rb1
    go_wp2
    exact bodyPost_ret (ret_unframe (rb1.ten 0 0 0 0 0 0 0 0 0 0) rfl rfl) rfl ⟨by rw [unhide HP]; rfl, (SameBut.ten W1 w.heap.size 0 0 0 0 0 0 0 0 0 0).under B1 (Nat.le_refl _)⟩
  · have hd : decide ((len : Int) < E + 4) = false := by have := unhide HEN; simp; omega
    have hE2 : E ≤ (cap : Int) := by have := unhide HEN; omega
    have hE3 : E + 4 ≤ (cap : Int) := by have := unhide HEN; omega
    have hE4 : E ≤ E + 4 := by omega
    have hT := hide ht
    clear ht
    go_wp2_with fail
    have hEt : E.toNat = n + 2 := by have := unhide HEN; omega
    have hE5 : (E + 4).toNat - E.toNat = 4 := by omega
    have hTT := unhide hT
    have rs : RowK .u8 W.drew (some ⟨b, off, none⟩) E.toNat (l.take (n + 2)) := by rw [hEt]; exact (r0.below (belowN _ 1)).take (n + 2) (by omega)
    have rp : RowK .u8 W (some ⟨b, off + E.toNat, none⟩) ((E + 4).toNat - E.toNat) ((l.drop (n + 2)).take 4) := by
      rw [hE5, hEt]
      exact r0.part _ (n + 2) 4 (by omega) (fun _ => rfl)
    have hsum := sum_wf (l.take (n + 2))
    clear hTT hEt hE5
    by_cases hq : four (sumOf (l.take (n + 2))) = (l.drop (n + 2)).take 4
    · have hb : ((strOfNums (four (sumOf (l.take (n + 2))))).toList == (strOfNums ((l.drop (n + 2)).take 4)).toList) = true := by rw [hq]; simp
      have HQ := hide hq
      clear hq
      go_region_held3 (fun _ => True) (trivial) ((first | (go_at_call 48; refine (sum4_any _ E.toNat _ (l.take (n + 2)) _ rs (by omega)).mono ?_; rintro e w1 ⟨rfl, r1, bb⟩; have b2 : Below W.heap.size W w1 := Below.next (belowN _ 1) bb; have r2 : RowK .u8 w1 (some ⟨w.heap.size + 1, 0, none⟩) 4 (four (sumOf (l.take (n + 2)))) := (by rw [← S0]; exact r1); have rp1 := rp.below b2) | (go_at_call 49; refine (equal_any _ _ _ _ _ _ (four (sumOf (l.take (n + 2)))) ((l.drop (n + 2)).take 4) _ r2 rp1).mono ?_; rintro e w2 ⟨rfl, rfl⟩)))
      have rb1 := rb.below b2 rb.lt
      have B1 := Below.next B0 b2
      have z2 := b2.size
      have hTT := unhide hT
      have hEt : E.toNat - 2 = n := by have := unhide HEN; omega
      have rd : RowK .u8 w1 (some ⟨b, off + 2, none⟩) (E.toNat - 2) ((l.drop 2).take n) := by rw [hEt]; exact (r0.below b2).part _ 2 n (by omega) (fun _ => rfl)
      have hE6 : (2 : Int) ≤ E := by have := unhide HEN; omega
      have hcc : E.toNat - 2 ≤ cap - 2 := by omega
      have hcd : cap - 2 ≤ 9223372036854775807 := by omega
      have hl10 : (decodeOf ((l.drop 2).take n)).1.length = 10 := by
        unfold decodeOf
        repeat' split
        all_goals first | rfl | (unfold numsOf; split <;> rfl)
      have HU : Hid (framePair l = if ¬ (decodeOf ((l.drop 2).take n)).2 = 0 then (zeros, 0) else ((decodeOf ((l.drop 2).take n)).1, n + 6)) := by
        show framePair l = _
        unfold framePair unframeOf
        rw [unhide HN, if_neg (by omega), if_neg (by omega), if_neg (not_not_intro (unhide HQ))]
        by_cases hz : (decodeOf ((l.drop 2).take n)).2 = 0
        · rw [if_neg (not_not_intro hz), if_neg (not_not_intro hz)]
        · rw [if_pos hz, if_pos hz]
      have HDL := hide hl10
      clear rs rp rp1 r1 r2 bb b2 rb B0 r0 hsum hb hEt hTT hd hl10
      go_wp2_with fail
      refine (decode_any _ _ _ ((l.drop 2).take n) _ rd hcc hcd).mono ?_
      rintro e w3 ⟨rfl, b3⟩
      have rb3 := rb1.below b3 rb1.lt
      have B3 := Below.next B1 b3
      obtain ⟨zs, er, hde⟩ : ∃ zs er, decodeOf ((l.drop 2).take n) = (zs, er) := ⟨_, _, rfl⟩
      rw [hde] at HDL HU ⊢
      simp only at HU
      have hlz : zs.length = 10 := unhide HDL
      clear HDL hde rd rb1 B1 b3
      have kf := rb3.free
      have L3 := rb3.lt
      obtain ⟨m0, m1, m2, m3, m4, m5, m6, m7, m8, m9⟩ := recBlock.tens rb3
      match zs, hlz with
      | [x0, x1, x2, x3, x4, x5, x6, x7, x8, x9], _ =>
        simp only [recVal, List.map_cons, List.map_nil]
        have HUU := hide (unhide HU)
        clear HU
        by_cases her : er = 0
        · subst her
          have HP : Hid (framePair l = ([x0, x1, x2, x3, x4, x5, x6, x7, x8, x9], n + 6)) := by show framePair l = _; rw [unhide HUU, if_neg (not_not_intro rfl)]
          have hfin : E + 4 = ((n + 6 : Nat) : Int) := by have := unhide HEN; omega
          have HFin := hide hfin
          clear hfin
          go_wp2
          have SB := SameBut.ten w3 w.heap.size x0 x1 x2 x3 x4 x5 x6 x7 x8 x9
          have RT := rb3.ten x0 x1 x2 x3 x4 x5 x6 x7 x8 x9
          have BT := SB.under B3 (Nat.le_refl _)
          exact bodyPost_ret (ret_unframe (RT.below (below1 _ _) RT.lt) rfl rfl) rfl ⟨by rw [unhide HP, unhide HFin], BT.alloc BT.size _⟩
        · have hne : (er == 0) = false := by simpa using her
          have HP : Hid (framePair l = (zeros, 0)) := by show framePair l = _; rw [unhide HUU, if_pos her]
          clear her
          go_wp2
          have SB := SameBut.ten w3 w.heap.size 0 0 0 0 0 0 0 0 0 0
          have RT := rb3.ten 0 0 0 0 0 0 0 0 0 0
          have BT := SB.under B3 (Nat.le_refl _)
          exact bodyPost_ret (ret_unframe (RT.below (below1 _ _) RT.lt) rfl rfl) rfl ⟨by rw [unhide HP]; rfl, BT.alloc BT.size _⟩
    · have hb : ((strOfNums (four (sumOf (l.take (n + 2))))).toList == (strOfNums ((l.drop (n + 2)).take 4)).toList) = false := by
        simp only [beq_eq_false_iff_ne, ne_eq]
        exact fun hh => hq (strOf_inj hsum rp.wf hh)
      have HP : Hid (framePair l = (zeros, 0)) := by
        show framePair l = (zeros, 0)
        have := unhide hT
        unfold framePair unframeOf
        rw [unhide HN, if_neg (by omega), if_neg (by omega), if_pos hq]
      clear hq
      go_region_held3 (fun _ => True) (trivial) ((first | (go_at_call 48; refine (sum4_any _ E.toNat _ (l.take (n + 2)) _ rs (by omega)).mono ?_; rintro e w1 ⟨rfl, r1, bb⟩; have b2 : Below W.heap.size W w1 := Below.next (belowN _ 1) bb; have r2 : RowK .u8 w1 (some ⟨w.heap.size + 1, 0, none⟩) 4 (four (sumOf (l.take (n + 2)))) := (by rw [← S0]; exact r1); have rp1 := rp.below b2) | (go_at_call 49; refine (equal_any _ _ _ _ _ _ (four (sumOf (l.take (n + 2)))) ((l.drop (n + 2)).take 4) _ r2 rp1).mono ?_; rintro e w2 ⟨rfl, rfl⟩)))
      have rb1 := rb.below b2 rb.lt
      have B1 := Below.next B0 b2
      have kf := rb1.free
      obtain ⟨m0, m1, m2, m3, m4, m5, m6, m7, m8, m9⟩ := recBlock.tens rb1
      go_wp2
      exact bodyPost_ret (ret_unframe (rb1.ten 0 0 0 0 0 0 0 0 0 0) rfl rfl) rfl ⟨by rw [unhide HP]; rfl, (SameBut.ten _ w.heap.size 0 0 0 0 0 0 0 0 0 0).under B1 (Nat.le_refl _)⟩

theorem unframe_any (a : Option Addr) (len cap : Nat) (l : List Int) (w : World) (h : RowK .u8 w a len l) (hlc : len ≤ cap) (hc : cap ≤ 9223372036854775807) (hm : len ≤ 1000000) :
    Calls Try.prog 35 #[.slice a len cap] w fun e w' => e = .returned (.tuple #[recVal (framePair l).1, .int .i64 (framePair l).2]) ∧ Below w.heap.size w w' := by
  by_cases h2 : len < 2
  · have hp : framePair l = (zeros, 0) := by
      have := h.len_eq
      unfold framePair unframeOf
      rw [if_pos (by omega)]
    rw [hp]
    exact unframe_short a len cap w h2
  · obtain ⟨b, off, rfl⟩ := h.form (by omega)
    exact unframe_long b off len cap l w h (by omega) hlc hc hm
end Go.Proofs.Ytlfecmkpafgcmaa
