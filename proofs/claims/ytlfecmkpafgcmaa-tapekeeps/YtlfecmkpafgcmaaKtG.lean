/- taped once more: the bytes of the tape that it makes are a row of its own. -/
import Derived.Test.YtlfecmkpafgcmaaKtE
import Derived.Test.YtlfecmkpafgcmaaTpS
import Derived.Test.YtlfecmkpafgcmaaKtC
import Derived.Deep.CutRange
namespace Go.Proofs.Ytlfecmkpafgcmaa
open Go.RowKit

set_option maxRecDepth 20000 in
set_option maxHeartbeats 4000000 in
theorem taped_own (a : Option Addr) (len cap : Nat) (D : List Int) (w : World) (h : RowK .i64 w a (4 * len) D) (hc : len ≤ cap) (hm : cap ≤ 9223372036854775807) :
    Calls Try.prog 14 #[.slice a len cap] w fun e w' => ∃ at' n capt v, e = .returned (.tuple #[.agg #[.slice at' n capt, .int .i64 0], v, .bool true]) ∧
      RowK .u8 w' at' n (framesOf (recsOf D (min (len / 2) 10))) ∧ n ≤ capt ∧ (at' = none → capt = 0) ∧ capt ≤ 9223372036854775807 ∧ (∀ x, at' = some x → w.heap.size ≤ x.block) ∧
      w'.ownsRow w.heap.size 63 10 v (min (len / 2) 10) ((recsOf D (min (len / 2) 10)).flatten.map (Value.int .i64)) ∧ Below w.heap.size w w' ∧ w'.ownsRow w.heap.size 5 1 (.slice at' n capt) n ((framesOf (recsOf D (min (len / 2) 10))).map (Value.int .u8)) := by
  obtain ⟨i0, hi, hz0, hz1, hz2⟩ := info_parts Try.infoRecK
  have hDl := h.len_eq
  go_enter Try.func14, Try.ntmps14
  go_wp2
  obtain ⟨W, hW, ta, tb, B0, S0⟩ := two_boxes w none 0 0 0
  rw [← hW]
  have r0 := h.below B0
  clear hW
  go_loopw [6, 7] (fun v t wr => ∃ (j n capt : Nat) (at' : Option Addr), t = .int .i64 ((2 * j : Nat) : Int) ∧ j ≤ min (len / 2) 10 ∧ tapeBlock wr (w.heap.size + 1) at' n capt 0 ∧ tapeBlock wr w.heap.size none 0 0 0 ∧ RowK .u8 wr at' n (framesOf (recsOf D j)) ∧ n ≤ capt ∧ (at' = none → capt = 0) ∧ capt ≤ 9223372036854775807 ∧ (∀ x, at' = some x → w.heap.size + 2 ≤ x.block) ∧
      wr.ownsRow (w.heap.size + 2) 63 10 v j ((recsOf D j).flatten.map (Value.int .i64)) ∧ Below w.heap.size w wr ∧ w.heap.size + 2 ≤ wr.heap.size ∧ wr.ownsRow (w.heap.size + 2) 5 1 (.slice at' n capt) n ((framesOf (recsOf D j)).map (Value.int .u8)))
    (fun _ t _ => 20 - (intOf t).toNat)
  case atStart => exact ⟨0, 0, 0, none, rfl, Nat.zero_le _, tb, ta, RowK.nil _ _ _, Nat.le_refl _, fun _ => rfl, by omega, fun x hx => (by cases hx), World.ownsRow_nil _ _ _ _, B0, by omega, World.ownsRow_nil _ _ _ _⟩
  case round =>
    obtain ⟨j, n, capt, at', rfl, hj, tt, tr, rt, hnc, hnn, hcm, hax, hown, hbel, hsz, hto⟩ := hrel
    have HTO := hide hto
    clear hto
    have hfl := framesOf_len (recsOf D j)
    rw [recsOf_len, rt.len_eq] at hfl
    by_cases hgo : j < min (len / 2) 10
    · have hg1 : ((2 * j : Nat) : Int) + 1 < (len : Int) := by omega
      have hg2 : ((2 * j : Nat) : Int) < 20 := by omega
      obtain ⟨b, off, rfl⟩ := h.form (by omega)
      have rD := h.below hbel
      have kd : ∀ t, t < 8 → wr.cell? ⟨b, off + (8 * j + t), none⟩ = some (.int .i64 (D.getD (8 * j + t) 0)) := fun t ht => rD.at (8 * j + t) (by omega)
      have wd : ∀ t, t < 8 → (Lit.int .i64 (D.getD (8 * j + t) 0)).wf = true := fun t ht => h.wf _ (getD_mem D _ (by omega))
      obtain ⟨x0, x1, x2, x3, x4, x5, x6, x7, x8, x9, hrec, hf, hzz⟩ := recAt_good D j
      have HREC := hide hrec
      have HF := hide hf
      clear hrec hf hzz
      have d0 := kd 0 (by omega)
      have d1 := kd 1 (by omega)
      have d2 := kd 2 (by omega)
      have d3 := kd 3 (by omega)
      have d4 := kd 4 (by omega)
      have d5 := kd 5 (by omega)
      have d6 := kd 6 (by omega)
      have d7 := kd 7 (by omega)
      have W0 := hide (wd 0 (by omega))
      have W1 := hide (wd 1 (by omega))
      have W2 := hide (wd 2 (by omega))
      have W3 := hide (wd 3 (by omega))
      have W4 := hide (wd 4 (by omega))
      have W5 := hide (wd 5 (by omega))
      have W6 := hide (wd 6 (by omega))
      have W7 := hide (wd 7 (by omega))
      have HREC2 : Hid (recOf (D.getD (8 * j + 0) 0) (D.getD (8 * j + 1) 0) (D.getD (8 * j + 2) 0) (D.getD (8 * j + 3) 0) (D.getD (8 * j + 4) 0) (D.getD (8 * j + 5) 0) (D.getD (8 * j + 6) 0) (D.getD (8 * j + 7) 0) = [x0, x1, x2, x3, x4, x5, x6, x7, x8, x9]) := unhide HREC
      generalize D.getD (8 * j + 0) 0 = y0 at d0 W0 HREC2
      generalize D.getD (8 * j + 1) 0 = y1 at d1 W1 HREC2
      generalize D.getD (8 * j + 2) 0 = y2 at d2 W2 HREC2
      generalize D.getD (8 * j + 3) 0 = y3 at d3 W3 HREC2
      generalize D.getD (8 * j + 4) 0 = y4 at d4 W4 HREC2
      generalize D.getD (8 * j + 5) 0 = y5 at d5 W5 HREC2
      generalize D.getD (8 * j + 6) 0 = y6 at d6 W6 HREC2
      generalize D.getD (8 * j + 7) 0 = y7 at d7 W7 HREC2
      clear kd wd rD
      obtain ⟨i, hii⟩ : ∃ i, 2 * j = i := ⟨_, rfl⟩
      rw [hii] at hg1 hg2 ⊢
      rw [show off + (8 * j + 0) = off + i * 4 by omega] at d0
      rw [show off + (8 * j + 1) = off + i * 4 + 1 by omega] at d1
      rw [show off + (8 * j + 2) = off + i * 4 + 2 by omega] at d2
      rw [show off + (8 * j + 3) = off + i * 4 + 3 by omega] at d3
      rw [show off + (8 * j + 4) = off + (i + 1) * 4 by omega] at d4
      rw [show off + (8 * j + 5) = off + (i + 1) * 4 + 1 by omega] at d5
      rw [show off + (8 * j + 6) = off + (i + 1) * 4 + 2 by omega] at d6
      rw [show off + (8 * j + 7) = off + (i + 1) * 4 + 3 by omega] at d7
      have HII := hide hii
      clear hii
      have hbl := h.lt (by omega)
      have hbl2 : b < wr.heap.size := by omega
      have hw1 : IntKind.i64.wrap ((i : Int) + 1) = (i : Int) + 1 := by rw [IntKind.wrap_i64]; omega
      have hg3 : (i : Int) < (len : Int) := by omega
      have hg4 : (0 : Int) ≤ (i : Int) + 1 := by omega
      go_wp2_with fail
      have RZ : Hid (recBlock (wr.alloc (.cells #[.int .i64 0, .int .i64 0, .int .i64 0, .int .i64 0, .int .i64 0, .int .i64 0, .int .i64 0, .int .i64 0, .int .i64 0, .int .i64 0] 63)).drew wr.heap.size [0, 0, 0, 0, 0, 0, 0, 0, 0, 0]) := hide ⟨rfl, heap_alloc_new wr _⟩
      have LZ : Hid (wr.heap.size < (wr.alloc (.cells #[.int .i64 0, .int .i64 0, .int .i64 0, .int .i64 0, .int .i64 0, .int .i64 0, .int .i64 0, .int .i64 0, .int .i64 0, .int .i64 0] 63)).drew.heap.size) := hide (by show wr.heap.size < (wr.alloc (.cells #[.int .i64 0, .int .i64 0, .int .i64 0, .int .i64 0, .int .i64 0, .int .i64 0, .int .i64 0, .int .i64 0, .int .i64 0, .int .i64 0] 63)).heap.size; rw [alloc_size]; omega)
      have HOWN := hide hown
      have HAX := hide hax
      have HBEL := hide hbel
      clear hown hax hbel
      have KB : Hid (∀ w', Below wr.heap.size wr w' → w'.cell? ⟨b, off + i * 4, none⟩ = some (.int .i64 y0) ∧ w'.cell? ⟨b, off + i * 4 + 1, none⟩ = some (.int .i64 y1) ∧ w'.cell? ⟨b, off + i * 4 + 2, none⟩ = some (.int .i64 y2) ∧ w'.cell? ⟨b, off + i * 4 + 3, none⟩ = some (.int .i64 y3) ∧ w'.cell? ⟨b, off + (i + 1) * 4, none⟩ = some (.int .i64 y4) ∧ w'.cell? ⟨b, off + (i + 1) * 4 + 1, none⟩ = some (.int .i64 y5) ∧ w'.cell? ⟨b, off + (i + 1) * 4 + 2, none⟩ = some (.int .i64 y6) ∧ w'.cell? ⟨b, off + (i + 1) * 4 + 3, none⟩ = some (.int .i64 y7)) := hide (fun w' hb => ⟨(hb.cell hbl2).trans d0, (hb.cell hbl2).trans d1, (hb.cell hbl2).trans d2, (hb.cell hbl2).trans d3, (hb.cell hbl2).trans d4, (hb.cell hbl2).trans d5, (hb.cell hbl2).trans d6, (hb.cell hbl2).trans d7⟩)
      go_cut [8] from 11 to 55 (fun t8 wx => ∃ R8, t8 = .pointer (some ⟨R8, 0, none⟩) ∧ recBlock wx R8 [x0, x1, x2, x3, x4, x5, x6, x7, x8, x9] ∧ Below wr.heap.size wr wx ∧ w.heap.size + 2 ≤ R8)
      case first =>
        go_region_with (go_at_call 16; refine (record_of y0 y1 y2 y3 y4 y5 y6 y7 _ (unhide W0) (unhide W1) (unhide W2) (unhide W3) (unhide W4) (unhide W5) (unhide W6) (unhide W7)).mono ?_; rintro e wq ⟨rfl, bb⟩; clear d0 d1 d2 d3 d4 d5 d6 d7; rw [unhide HREC2]; simp only [recVal, List.map_cons, List.map_nil]; first | (have bq : Below wr.heap.size wr wq := Below.next (belowN _ 1) bb) | (have bq : Below wr.heap.size wr wq := Below.next (Below.next (below1 _ _) (belowN _ 1)) bb; have rz : recBlock wq wr.heap.size [0, 0, 0, 0, 0, 0, 0, 0, 0, 0] := (unhide RZ).below bb (unhide LZ); have rzf := rz.free; obtain ⟨m0, m1, m2, m3, m4, m5, m6, m7, m8, m9⟩ := rec_tens rz; clear bb))
        all_goals
          go_wp2_with fail
          go_meet
          first
            | exact ⟨wr.heap.size, rfl, rz.ten x0 x1 x2 x3 x4 x5 x6 x7 x8 x9, (SameBut.ten wq wr.heap.size x0 x1 x2 x3 x4 x5 x6 x7 x8 x9).under bq (Nat.le_refl _), hsz⟩
            | exact ⟨wq.heap.size, rfl, ⟨rfl, heap_alloc_new wq _⟩, Below.next bq (below1 _ _), by have := bq.size; omega⟩
      case rest =>
        obtain ⟨R8, rfl, rb8, B8, hR8⟩ := hcut
        clear d0 d1 d2 d3 d4 d5 d6 d7
        have tt8 := tt.below B8 tt.lt
        have tr8 := tr.below B8 tr.lt
        have rt8 := rt.below B8
        have o8 := hide (own_below (unhide HOWN) B8)
        have BB8 := hide (Below.next (unhide HBEL) B8)
        have z8 := B8.size
        obtain ⟨m0, m1, m2, m3, m4, m5, m6, m7, m8, m9⟩ := rec_tens rb8
        have k0 := tt8.cell0
        have k1 := tt8.cell1
        clear B8 RZ LZ KB
        have hbs : bytesL (recAt D j) = bytesOf x0 x1 x2 x3 x4 x5 x6 x7 x8 x9 := by rw [unhide HREC]; rfl
        have hbl9 := bytesL_len (recAt D j)
        rw [hbs] at hbl9
        go_wp2_with fail
        refine (write_own at' n capt (framesOf (recsOf D j)) 0 x0 x1 x2 x3 x4 x5 x6 x7 x8 x9 _ rt8 hnn (by omega) (by omega) (by omega) (unhide HF)).mono ?_
        have HBS := hide hbs
        clear hbs
        generalize bytesOf x0 x1 x2 x3 x4 x5 x6 x7 x8 x9 = bs at hbl9 HBS
        rintro e w9 (⟨hg, _⟩ | ⟨_, a9, cap9, rfl, r9, c9, n9, c9', y9, b9, ot9⟩)
        · exact absurd hg (by omega)
        obtain ⟨M, hM⟩ : ∃ M, n + (bs.length + 6) = M := ⟨_, rfl⟩
        rw [hM] at r9 c9 ot9 ⊢
        have OT9 := hide ot9
        clear ot9
        have HM := hide hM
        have hMn : ¬ (M : Int) ≤ (n : Int) := by omega
        have tt9 := tt8.below b9 tt8.lt
        have tr9 := tr8.below b9 tr8.lt
        have rb9 := rb8.below b9 rb8.lt
        have o9 := hide (own_below (unhide o8) b9)
        have BB9 := hide (Below.next (unhide BB8) b9)
        have z9 := b9.size
        have L9 := rb9.lt
        have Lt := tt9.lt
        clear m0 m1 m2 m3 m4 m5 m6 m7 m8 m9 k0 k1 tt8 tr8 rb8 rt8 b9 hM
        obtain ⟨m0, m1, m2, m3, m4, m5, m6, m7, m8, m9⟩ := rec_tens rb9
        have k0 := tt9.cell0
        have k1 := tt9.cell1
        have kf := tt9.free
        have SX := tape_same w9 (w.heap.size + 1) (.slice a9 M cap9) (.int .i64 0)
        have hsx := SX.size
        have oX := hide (((ownsRow_setCell_below (ownsRow_setCell_below (unhide o9) (a := ⟨w.heap.size + 1, 0, none⟩) (by simp) (.slice a9 M cap9)) (a := ⟨w.heap.size + 1, 1, none⟩) (by simp) (.int .i64 0)).alloc (.cells #[.slice a9 M cap9, .int .i64 0] 54)).alloc (.cells #[.int .i64 x0, .int .i64 x1, .int .i64 x2, .int .i64 x3, .int .i64 x4, .int .i64 x5, .int .i64 x6, .int .i64 x7, .int .i64 x8, .int .i64 x9] 63))
        have rn : Hid (recBlock ((((w9.setCell ⟨w.heap.size + 1, 0, none⟩ (.slice a9 M cap9)).setCell ⟨w.heap.size + 1, 1, none⟩ (.int .i64 0)).alloc (.cells #[.slice a9 M cap9, .int .i64 0] 54)).alloc (.cells #[.int .i64 x0, .int .i64 x1, .int .i64 x2, .int .i64 x3, .int .i64 x4, .int .i64 x5, .int .i64 x6, .int .i64 x7, .int .i64 x8, .int .i64 x9] 63)) (w9.heap.size + 1) [x0, x1, x2, x3, x4, x5, x6, x7, x8, x9]) := ⟨rfl, by
          have h0 := heap_alloc_new (((w9.setCell ⟨w.heap.size + 1, 0, none⟩ (.slice a9 M cap9)).setCell ⟨w.heap.size + 1, 1, none⟩ (.int .i64 0)).alloc (.cells #[.slice a9 M cap9, .int .i64 0] 54)) (.cells #[.int .i64 x0, .int .i64 x1, .int .i64 x2, .int .i64 x3, .int .i64 x4, .int .i64 x5, .int .i64 x6, .int .i64 x7, .int .i64 x8, .int .i64 x9] 63)
          rw [alloc_size, hsx] at h0
          exact h0⟩
        have tX : Hid (tapeBlock ((w9.setCell ⟨w.heap.size + 1, 0, none⟩ (.slice a9 M cap9)).setCell ⟨w.heap.size + 1, 1, none⟩ (.int .i64 0)) (w.heap.size + 1) a9 M cap9 0) := hide (tt9.store a9 M cap9 0)
        have trX : Hid (tapeBlock ((w9.setCell ⟨w.heap.size + 1, 0, none⟩ (.slice a9 M cap9)).setCell ⟨w.heap.size + 1, 1, none⟩ (.int .i64 0)) w.heap.size none 0 0 0) := hide (by unfold tapeBlock at tr9 ⊢; rw [SX.block _ (by omega)]; exact tr9)
        have rX : Hid (RowK .u8 ((w9.setCell ⟨w.heap.size + 1, 0, none⟩ (.slice a9 M cap9)).setCell ⟨w.heap.size + 1, 1, none⟩ (.int .i64 0)) a9 M (framesOf (recsOf D j) ++ frameOf bs)) := hide (SX.row r9 (fun x hx _ => by have := y9 x hx; omega))
        have bX : Hid (Below w.heap.size w ((w9.setCell ⟨w.heap.size + 1, 0, none⟩ (.slice a9 M cap9)).setCell ⟨w.heap.size + 1, 1, none⟩ (.int .i64 0))) := hide (SX.under (unhide BB9) (by omega))
        have hlto : Hid (∀ t, (Value.ownBlock u6) = some t → w.heap.size + 2 ≤ t ∧ t < wr.heap.size) := hide ((unhide HOWN).lt)
        have OTX := hide ((own_still (own_mono' (unhide OT9) (show w.heap.size + 2 ≤ _ by omega)) (fun g hg _ => SX.block g (by omega)) : ((w9.setCell ⟨w.heap.size + 1, 0, none⟩ (.slice a9 M cap9)).setCell ⟨w.heap.size + 1, 1, none⟩ (.int .i64 0)).ownsRow (w.heap.size + 2) 5 1 (.slice a9 M cap9) M ((framesOf (recsOf D j) ++ frameOf bs).map (Value.int .u8))))
        have HSX := hide hsx
        clear SX hsx r9 tr9 rb9
        go_wp2_with (at_builtin; refine wpList_append_own _ rfl _ _ 55 rfl (w.heap.size + 2) 63 i0 _ 10 80 Try.underlying55 hi hz0 hz1 hz2 rfl (by decide) _ _ _ rfl (unhide oX) ⟨w9.heap.size + 1, 0, none⟩ 1 1 ([x0, x1, x2, x3, x4, x5, x6, x7, x8, x9].map (Value.int .i64)) rfl rfl (ten_new (unhide rn)) (ints_oneCell .i64 _) (by unfold maxLen; omega) (by omega) (by rw [alloc_size, alloc_size, unhide HSX]; omega) ?_; intro v' w10 hown10 hgrow10 _)
        have hgs := unhide HSX
        have b10 : Below (w.heap.size + 2) ((w9.setCell ⟨w.heap.size + 1, 0, none⟩ (.slice a9 M cap9)).setCell ⟨w.heap.size + 1, 1, none⟩ (.int .i64 0)) w10 := (((Below.refl _ _).alloc (by omega) _).alloc (by rw [alloc_size]; omega) _).grown hgrow10 (by rw [alloc_size, alloc_size]; omega) (fun t ht => (unhide hlto t ht).1)
        have tX10 := (unhide tX).below b10 (by omega)
        have trX10 := (unhide trX).below b10 (by omega)
        have rX10 := ((unhide rX).below (below2 _ _ _)).grown hgrow10 (fun x hx he => by have h1 := (unhide hlto x.block he.symm).2; have h2 := y9 x hx; omega)
        have oT10 := (((unhide OTX).alloc _).alloc _).kept hgrow10 (by
          cases a9 with
          | none => exact .inl rfl
          | some x => exact .inr (fun he => by have h1 := (unhide hlto x.block he.symm).2; have h2 := y9 x rfl; omega))
        have B10 : Below w.heap.size w w10 := (unhide bX).trans (b10.mono (by omega))
        have s10 := b10.size
        refine ⟨⟨j + 1, M, cap9, a9, by rw [show ((2 * (j + 1) : Nat) : Int) = (i : Int) + 2 by have := unhide HII; omega], by omega, tX10, trX10, by rw [recsOf_snoc, framesOf_snoc, unhide HBS]; exact rX10, c9, n9, c9', fun x hx => by have := y9 x hx; omega, ?_, B10, by omega, by rw [recsOf_snoc, framesOf_snoc, unhide HBS]; exact oT10⟩, ?_⟩
        · rw [recsOf_snoc, unhide HREC, flat_snoc, List.map_append]
          exact hown10
        · simp [intOf]
          omega
    · have hjm : j = min (len / 2) 10 := by omega
      have HJ := hide hjm
      clear hjm
      have k0 := tt.cell0
      have k1 := tt.cell1
      have j0 := tr.cell0
      have j1 := tr.cell1
      have jf := tr.free
      have SY := tape_same wr w.heap.size (.slice at' n capt) (.int .i64 0)
      have oY := hide (own_mono (ownsRow_setCell_below (ownsRow_setCell_below hown (a := ⟨w.heap.size, 0, none⟩) (by simp) (.slice at' n capt)) (a := ⟨w.heap.size, 1, none⟩) (by simp) (.int .i64 0)) (show w.heap.size ≤ w.heap.size + 2 by omega))
      have rY := hide (SY.row rt (fun x hx _ => by have := hax x hx; omega))
      have bY := hide (SY.under hbel (Nat.le_refl _))
      have tY := hide (tr.store at' n capt 0)
      have oTY := hide (own_mono' (own_still (unhide HTO) (fun g hg _ => SY.block g (by omega))) (show w.heap.size ≤ w.heap.size + 2 by omega))
      have HAX := hide hax
      clear SY hown rt hbel hax
      have hcond : ¬ ((2 * j : Nat) : Int) + 1 < (len : Int) ∨ (((2 * j : Nat) : Int) + 1 < (len : Int) ∧ ¬ ((2 * j : Nat) : Int) < 20) := by
        have := unhide HJ
        omega
      obtain ⟨i, hii⟩ : ∃ i, 2 * j = i := ⟨_, rfl⟩
      have hi20 : i ≤ 20 := by have := unhide HJ; omega
      rw [hii] at hcond ⊢
      clear hii
      rcases hcond with hc1 | ⟨hc1, hc2⟩
      all_goals
        go_wp2
        refine bodyPost_ret (ret_taped (unhide tY) rfl rfl rfl) rfl ?_
        rw [← unhide HJ]
        exact ⟨at', n, capt, u6, rfl, unhide rY, hnc, hnn, hcm, fun x hx => by have := unhide HAX x hx; omega, by first | exact unhide oY | (rw [← List.map_flatten]; exact unhide oY), unhide bY, unhide oTY⟩
end Go.Proofs.Ytlfecmkpafgcmaa
