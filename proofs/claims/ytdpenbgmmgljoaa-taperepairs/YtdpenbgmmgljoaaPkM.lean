/- The walk of berthshiftref.RecordOf: whatever the bytes, it answers the plain function decodeOf. -/
import Derived.Test.YtdpenbgmmgljoaaPkK
import Derived.Test.YtdpenbgmmgljoaaPkI
import Derived.Deep.RegionHeld3
namespace Go.Proofs.Ytdpenbgmmgljoaa
open Go.RowKit

def cntOf (l : List Int) : Nat := if hasEv (numAt l 0) then 10 else 4
def numsTo (l : List Int) (j : Nat) : List Int := (List.range j).map (numAt l)

/-- 'b[4*j:]' of a row. -/
theorem RowK.dropN {k : IntKind} {w : World} {b off len : Nat} {l : List Int} (h : RowK k w (some ⟨b, off, none⟩) len l) (a : Option Addr) (d : Nat) (hd : d ≤ len) (ha : d < len → a = some ⟨b, off + d, none⟩) : RowK k w a (len - d) (l.drop d) := by
  refine ⟨by simp [h.len_eq], fun u hu => h.wf u (List.mem_of_mem_drop hu), fun i hi => ?_⟩
  refine ⟨b, off + d, ha (by omega), h.lt (by omega), ?_⟩
  have := h.at (d + i) (by omega)
  rw [Nat.add_assoc, this]
  simp [List.getD_eq_getElem?_getD]

theorem decode_at {l : List Int} {j c : Nat} (he : ∀ t, t < j → errAt l t = 0) (h : ¬ errAt l j = 0) (hc : 0 < j → c = cntOf l) (hlt : j < c) : decodeOf l = (zeros, errAt l j) := by
  by_cases h4 : j < 4
  · exact decode_first h4 he h
  · have hcn := hc (by omega)
    unfold cntOf at hcn
    split at hcn
    · rename_i hev
      have := decode_second (l := l) (t := j - 4) (fun u hu => he u (by omega)) (by simpa [hasEv] using hev) (by omega) (fun u hu => he (4 + u) (by omega)) (by rw [show 4 + (j - 4) = j by omega]; exact h)
      rwa [show 4 + (j - 4) = j by omega] at this
    · omega

theorem ret_end {W : World} {R : Nat} {zs : List Int} {x : Int} {tmps : Array Value} (h1 : recBlock W R zs)
    (t2 : tmps[2]? = some (.pointer (some ⟨R, 0, none⟩))) (t3 : tmps[3]? = some (.int .i64 x)) : (results Try.f36 tmps).run Try.prog W = .ok (.tuple #[recVal zs, .int .i64 x]) W := by
  have hl := h1.1
  have k0 := h1.cell 0 (by omega)
  have k1 := h1.cell 1 (by omega)
  have k2 := h1.cell 2 (by omega)
  have k3 := h1.cell 3 (by omega)
  have k4 := h1.cell 4 (by omega)
  have k5 := h1.cell 5 (by omega)
  have k6 := h1.cell 6 (by omega)
  have k7 := h1.cell 7 (by omega)
  have k8 := h1.cell 8 (by omega)
  have k9 := h1.cell 9 (by omega)
  clear h1
  match zs, hl with
  | [y0, y1, y2, y3, y4, y5, y6, y7, y8, y9], _ =>
    simp at k0 k1 k2 k3 k4 k5 k6 k7 k8 k9
    simp [results, Try.results36, go_sem, k0, k1, k2, k3, k4, k5, k6, k7, k8, k9, recVal, t2, t3]

theorem recBlock.drew {w : World} {R : Nat} {zs : List Int} (h : recBlock w R zs) : recBlock w.drew R zs := h
theorem six_facts {w W : World} {R S B : Nat} {zs : List Int} {y0 y1 y2 y3 : Int} (x4 x5 x6 x7 x8 x9 : Int) (hR : recBlock W R zs) (hC : recBlock W S [y0, y1, y2, y3, 0, 0, 0, 0, 0, 0]) (hne : R ≠ S) (hB : Below B w W) (hle : B ≤ S) :
    recBlock ((((((W.setCell ⟨S, 4, none⟩ (.int .i64 x4)).setCell ⟨S, 5, none⟩ (.int .i64 x5)).setCell ⟨S, 6, none⟩ (.int .i64 x6)).setCell ⟨S, 7, none⟩ (.int .i64 x7)).setCell ⟨S, 8, none⟩ (.int .i64 x8)).setCell ⟨S, 9, none⟩ (.int .i64 x9)).drew R zs ∧ recBlock ((((((W.setCell ⟨S, 4, none⟩ (.int .i64 x4)).setCell ⟨S, 5, none⟩ (.int .i64 x5)).setCell ⟨S, 6, none⟩ (.int .i64 x6)).setCell ⟨S, 7, none⟩ (.int .i64 x7)).setCell ⟨S, 8, none⟩ (.int .i64 x8)).setCell ⟨S, 9, none⟩ (.int .i64 x9)).drew S [y0, y1, y2, y3, x4, x5, x6, x7, x8, x9] ∧ Below B w ((((((W.setCell ⟨S, 4, none⟩ (.int .i64 x4)).setCell ⟨S, 5, none⟩ (.int .i64 x5)).setCell ⟨S, 6, none⟩ (.int .i64 x6)).setCell ⟨S, 7, none⟩ (.int .i64 x7)).setCell ⟨S, 8, none⟩ (.int .i64 x8)).setCell ⟨S, 9, none⟩ (.int .i64 x9)).drew := by
  have h1 : recBlock ((((((W.setCell ⟨S, 4, none⟩ (.int .i64 x4)).setCell ⟨S, 5, none⟩ (.int .i64 x5)).setCell ⟨S, 6, none⟩ (.int .i64 x6)).setCell ⟨S, 7, none⟩ (.int .i64 x7)).setCell ⟨S, 8, none⟩ (.int .i64 x8)).setCell ⟨S, 9, none⟩ (.int .i64 x9)) R zs := (((((hR.other hne 4 _).other hne 5 _).other hne 6 _).other hne 7 _).other hne 8 _).other hne 9 _
  have h2 : recBlock ((((((W.setCell ⟨S, 4, none⟩ (.int .i64 x4)).setCell ⟨S, 5, none⟩ (.int .i64 x5)).setCell ⟨S, 6, none⟩ (.int .i64 x6)).setCell ⟨S, 7, none⟩ (.int .i64 x7)).setCell ⟨S, 8, none⟩ (.int .i64 x8)).setCell ⟨S, 9, none⟩ (.int .i64 x9)) S [y0, y1, y2, y3, x4, x5, x6, x7, x8, x9] := (((((hC.set 4 x4).set 5 x5).set 6 x6).set 7 x7).set 8 x8).set 9 x9
  have h3 : Below B w ((((((W.setCell ⟨S, 4, none⟩ (.int .i64 x4)).setCell ⟨S, 5, none⟩ (.int .i64 x5)).setCell ⟨S, 6, none⟩ (.int .i64 x6)).setCell ⟨S, 7, none⟩ (.int .i64 x7)).setCell ⟨S, 8, none⟩ (.int .i64 x8)).setCell ⟨S, 9, none⟩ (.int .i64 x9)) := (((((hB.setCell (p := ⟨S, 4, none⟩) hle _).setCell (p := ⟨S, 5, none⟩) hle _).setCell (p := ⟨S, 6, none⟩) hle _).setCell (p := ⟨S, 7, none⟩) hle _).setCell (p := ⟨S, 8, none⟩) hle _).setCell (p := ⟨S, 9, none⟩) hle _
  exact ⟨h1.drew, h2.drew, h3.drew⟩

theorem belowN' (B : Nat) (w : World) (n : Nat) : Below B w (w.drewN n) := ⟨rfl, rfl, rfl, Nat.le_refl _, fun _ _ => rfl⟩

set_option maxHeartbeats 4000000 in
theorem recordOf_some (b0 off0 : Nat) (len cap : Nat) (l : List Int) (w : World) (hb : RowK .u8 w (some ⟨b0, off0, none⟩) len l) (hlc : len ≤ cap) (hc : cap ≤ 140737488351232) (h0 : 0 < len) :
    Calls Try.prog 36 #[.slice (some ⟨b0, off0, none⟩) len cap] w fun e w' => e = .returned (.tuple #[recVal (decodeOf l).1, .int .i64 (decodeOf l).2]) ∧ Below w.heap.size w w' := by
  obtain ⟨i0, hi, hz0, hz1, hz2⟩ := info_parts Try.info3
  have HB := hide hb
  have HL := hide hb.len_eq
  clear hb
  go_enter Try.func36, Try.ntmps36
  go_wp2_with fail
  go_loopw [4, 5, 6] (fun m v i wr => ∃ j c : Nat, i = .int .i64 j ∧ m = .int .i64 c ∧ (c = 4 ∨ c = 10) ∧ (0 < j → c = cntOf l) ∧ (j = 0 → c = 4) ∧ j ≤ c ∧ (∀ t, t < j → errAt l t = 0) ∧ wr.ownsRow (w.heap.size + 1) 3 1 v j ((numsTo l j).map (Value.int .i64)) ∧
      Below (w.heap.size + 1) (w.alloc (.cells #[.int .i64 0, .int .i64 0, .int .i64 0, .int .i64 0, .int .i64 0, .int .i64 0, .int .i64 0, .int .i64 0, .int .i64 0, .int .i64 0] 33)) wr)
    (fun _ _ i _ => 10 - (intOf i).toNat)
  case atStart => exact ⟨0, 4, rfl, rfl, .inl rfl, fun h => by omega, fun _ => rfl, by omega, fun t ht => by omega, World.ownsRow_nil _ _ _ _, Below.refl _ _⟩
  case round =>
    obtain ⟨j, c, rfl, rfl, hc4, hcj, hc0, hjc, herr, hown, hbel⟩ := hrel
    by_cases hlt : j < c
    · have hlen : 4 * j ≤ len := by
        rcases Nat.eq_zero_or_pos j with h | h
        · omega
        · have := len_of_err (l := l) (n := j - 1) (fun u hu => herr u (by omega))
          rw [unhide HL] at this; omega
      have HE := hide herr
      have HO := hide hown
      have HBe := hide hbel
      have HC := hide hcj
      have HC0 := hide hc0
      clear herr hown hbel hcj hc0
      have HWr : Hid (RowK .u8 wr (some ⟨b0, off0, none⟩) len l) := hide ((unhide HB).below (Below.next (below1 w (.cells #[.int .i64 0, .int .i64 0, .int .i64 0, .int .i64 0, .int .i64 0, .int .i64 0, .int .i64 0, .int .i64 0, .int .i64 0, .int .i64 0] 33)) ((unhide HBe).mono (by simp))))
      by_cases hz : errAt l j = 0
      · have hl4 : 4 * j + 4 ≤ len := by
          have := len_of_err (l := l) (n := j) (fun u hu => by
            by_cases h : u = j
            · rw [h]; exact hz
            · exact unhide HE u (by omega))
          rw [unhide HL] at this; omega
        have hcne : ¬ cap = 4 * j := by omega
        go_wp2_with fail
        refine (taken_any _ _ _ (l.drop (4 * j)) _ ((unhide HWr).dropN _ (4 * j) hlen (fun _ => rfl))).mono ?_
        rintro e w3 ⟨rfl, q, rfl⟩
        have hz' : ((takenOf (l.drop (4 * j))).2 != 0) = false := by simpa [errAt] using hz
        obtain ⟨x, hx⟩ : ∃ x, (takenOf (l.drop (4 * j))).1 = x := ⟨_, rfl⟩
        rw [hx]
        have HX : Hid (numAt l j = x) := hide hx
        clear hx hcne
        have HS : Hid (numsTo l (j + 1) = numsTo l j ++ [x]) := hide (by rw [← unhide HX]; simp [numsTo, List.range_succ])
        have hsz : w.heap.size + 1 ≤ wr.heap.size := by have := (unhide HBe).size; simpa using this
        have hown : (wr.drewN q).ownsRow (w.heap.size + 1) 3 1 _ j ((numsTo l j).map (Value.int .i64)) := unhide HO
        have W : (0 < j ∧ ((j : Int) == 0) = false) ∨ (Hid (j = 0 ∧ x = 2) ∧ ((j : Int) == 0) = true ∧ (x == 2) = true) ∨ (Hid (j = 0 ∧ x = 5) ∧ ((j : Int) == 0) = true ∧ (x == 2) = false ∧ (x == 5) = true) ∨ (Hid (j = 0 ∧ ¬ x = 2 ∧ ¬ x = 5) ∧ ((j : Int) == 0) = true ∧ (x == 2) = false ∧ (x == 5) = false) := by
          rcases Nat.eq_zero_or_pos j with h | h
          · have h' : ((j : Int) == 0) = true := by simp; omega
            by_cases h2 : x = 2
            · exact .inr (.inl ⟨hide ⟨h, h2⟩, h', by simpa using h2⟩)
            · by_cases h5 : x = 5
              · exact .inr (.inr (.inl ⟨hide ⟨h, h5⟩, h', by simpa using h2, by simpa using h5⟩))
              · exact .inr (.inr (.inr ⟨hide ⟨h, h2, h5⟩, h', by simpa using h2, by simpa using h5⟩))
          · exact .inl ⟨h, by simp; omega⟩
        rcases W with ⟨hj0, hj1⟩ | ⟨HJ, hj1, hx2⟩ | ⟨HJ, hj1, hx2, hx5⟩ | ⟨HJ, hj1, hx2, hx5⟩
        all_goals
          go_wp2_with (at_builtin; refine wpList_append_own _ rfl _ _ 65 rfl (w.heap.size + 1) 3 i0 (.int .i64 0) 1 8 Try.underlying65 hi hz0 hz1 hz2 rfl (by decide) _ _ _ rfl (hown.alloc _) ⟨wr.heap.size, 0, none⟩ 1 1 [.int .i64 x] rfl rfl (cell_one_new _ _ _) (ints_oneCell .i64 [x]) (by unfold maxLen; omega) (by omega) (by simp; omega) ?_; intro v' w4 hown4 hgrow4 _)
          have R2 : Below (w.heap.size + 1) _ w4 := (((unhide HBe).trans (belowN' _ wr q)).alloc hsz _).grown hgrow4 (by simp; omega) (by intro t ht; exact ((unhide HO).lt t ht).1)
          have R1 : w4.ownsRow (w.heap.size + 1) 3 1 v' (j + 1) ((numsTo l (j + 1)).map (Value.int .i64)) := by
            rw [unhide HS, List.map_append]; exact hown4
          have R3 : ∀ t, t < j + 1 → errAt l t = 0 := fun t ht => by
            by_cases h : t = j
            · rw [h]; exact hz
            · exact unhide HE t (by omega)
          clear hown4 hgrow4
        · exact ⟨⟨j + 1, c, by go_num, rfl, hc4, fun _ => unhide HC hj0, fun h => by omega, by omega, R3, R1, R2⟩, by simp [intOf]; omega⟩
        · obtain ⟨hj, hx⟩ := unhide HJ
          have hcn : cntOf l = 10 := by unfold cntOf hasEv; rw [← hj, unhide HX, hx]; rfl
          exact ⟨⟨j + 1, 10, by go_num, rfl, .inr rfl, fun _ => hcn.symm, fun h => by omega, by omega, R3, R1, R2⟩, by simp [intOf]; omega⟩
        · obtain ⟨hj, hx⟩ := unhide HJ
          have hcn : cntOf l = 10 := by unfold cntOf hasEv; rw [← hj, unhide HX, hx]; rfl
          exact ⟨⟨j + 1, 10, by go_num, rfl, .inr rfl, fun _ => hcn.symm, fun h => by omega, by omega, R3, R1, R2⟩, by simp [intOf]; omega⟩
        · obtain ⟨hj, h2, h5⟩ := unhide HJ
          have hcn : cntOf l = 4 := by unfold cntOf hasEv; rw [← hj, unhide HX]; simp [h2, h5]
          have hc0 := unhide HC0 hj
          exact ⟨⟨j + 1, c, by go_num, rfl, hc4, fun _ => by omega, fun h => by omega, by omega, R3, R1, R2⟩, by simp [intOf]; omega⟩
      · have hz' : ((takenOf (l.drop (4 * j))).2 != 0) = true := by simpa [errAt] using hz
        have HR : Hid (recBlock wr w.heap.size [0, 0, 0, 0, 0, 0, 0, 0, 0, 0]) := hide ⟨rfl, ((unhide HBe).block w.heap.size (by omega)).trans (heap_alloc_new w _)⟩
        have HD : Hid (decodeOf l = (zeros, errAt l j)) := hide (decode_at (unhide HE) hz (unhide HC) hlt)
        have HBw : Hid (Below w.heap.size w wr) := hide (Below.next (below1 w (.cells #[.int .i64 0, .int .i64 0, .int .i64 0, .int .i64 0, .int .i64 0, .int .i64 0, .int .i64 0, .int .i64 0, .int .i64 0, .int .i64 0] 33)) ((unhide HBe).mono (by simp)))
        go_wp2_with fail
        all_goals
          refine (taken_any _ _ _ (l.drop (4 * j)) _ ((unhide HWr).dropN _ (4 * j) hlen (fun h => by first | rfl | omega))).mono ?_
          rintro e w3 ⟨rfl, q, rfl⟩
          have k0 := (unhide HR).cell 0 (by omega)
          have k1 := (unhide HR).cell 1 (by omega)
          have k2 := (unhide HR).cell 2 (by omega)
          have k3 := (unhide HR).cell 3 (by omega)
          have k4 := (unhide HR).cell 4 (by omega)
          have k5 := (unhide HR).cell 5 (by omega)
          have k6 := (unhide HR).cell 6 (by omega)
          have k7 := (unhide HR).cell 7 (by omega)
          have k8 := (unhide HR).cell 8 (by omega)
          have k9 := (unhide HR).cell 9 (by omega)
          simp only [List.getD_cons_zero, List.getD_cons_succ] at k0 k1 k2 k3 k4 k5 k6 k7 k8 k9
          have kf := (unhide HR).free
          go_wp2
          rw [unhide HD]
          have Z1 := ((unhide HR).drewN q).ten 0 0 0 0 0 0 0 0 0 0
          have Z2 := SameBut.ten (wr.drewN q) w.heap.size 0 0 0 0 0 0 0 0 0 0
          exact bodyPost_ret (ret_end Z1 rfl rfl) rfl ⟨rfl, ((unhide HBw).trans (belowN' _ wr q)).trans (Z2.below (Nat.le_refl _))⟩
    · have hjn : j = c := by omega
      subst hjn
      obtain ⟨g, cp, hv, hg1, hg2, hg3⟩ := own_put hown (by omega)
      subst hv
      have HR : Hid (recBlock wr w.heap.size [0, 0, 0, 0, 0, 0, 0, 0, 0, 0]) := hide ⟨rfl, (hbel.block w.heap.size (by omega)).trans (heap_alloc_new w _)⟩
      have HBw : Hid (Below w.heap.size w wr) := hide (Below.next (below1 w (.cells #[.int .i64 0, .int .i64 0, .int .i64 0, .int .i64 0, .int .i64 0, .int .i64 0, .int .i64 0, .int .i64 0, .int .i64 0, .int .i64 0] 33)) (hbel.mono (by simp)))
      have hsz : w.heap.size + 1 ≤ wr.heap.size := by have := hbel.size; simpa using this
      clear hbel
      rcases hc4 with rfl | rfl
      · have hcn : 4 = cntOf l := hcj (by omega)
        have HE := hide herr
        have hev : hasEv (numAt l 0) = false := by
          cases h : hasEv (numAt l 0) with
          | false => rfl
          | true => unfold cntOf at hcn; rw [h] at hcn; simp at hcn
        have HK2 : Hid (¬ (numAt l 0 = 2 ∨ numAt l 0 = 5)) := hide (by simpa [hasEv] using hev)
        have HF : Hid (faultOf l = recordFault (numAt l 0) (numAt l 1) (numAt l 2) (numAt l 3) 0 0 0 0 0 0) := hide (by unfold faultOf numsOf; rw [hev]; rfl)
        have HN : Hid (numsOf l = [numAt l 0, numAt l 1, numAt l 2, numAt l 3, 0, 0, 0, 0, 0, 0]) := hide (by unfold numsOf; rw [hev]; rfl)
        have hne : w.heap.size ≠ wr.heap.size := by omega
        have hle : w.heap.size ≤ wr.heap.size := by omega
        have HRA : Hid (recBlock ((wr.alloc (.cells #[.int .i64 (numAt l 0), .int .i64 (numAt l 1), .int .i64 (numAt l 2), .int .i64 (numAt l 3), .int .i64 (0), .int .i64 (0), .int .i64 (0), .int .i64 (0), .int .i64 (0), .int .i64 (0)] 33)).drew) w.heap.size [0, 0, 0, 0, 0, 0, 0, 0, 0, 0]) := hide ((unhide HR).below (B := wr.heap.size) (below1 wr _).drew (by omega))
        have HBA : Hid (Below w.heap.size w ((wr.alloc (.cells #[.int .i64 (numAt l 0), .int .i64 (numAt l 1), .int .i64 (numAt l 2), .int .i64 (numAt l 3), .int .i64 (0), .int .i64 (0), .int .i64 (0), .int .i64 (0), .int .i64 (0), .int .i64 (0)] 33)).drew)) := hide (Below.next (unhide HBw) (below1 wr _)).drew
        have HCA : Hid (recBlock ((wr.alloc (.cells #[.int .i64 (numAt l 0), .int .i64 (numAt l 1), .int .i64 (numAt l 2), .int .i64 (numAt l 3), .int .i64 (0), .int .i64 (0), .int .i64 (0), .int .i64 (0), .int .i64 (0), .int .i64 (0)] 33)).drew) wr.heap.size [numAt l 0, numAt l 1, numAt l 2, numAt l 3, 0, 0, 0, 0, 0, 0]) := hide ⟨rfl, heap_alloc_new wr _⟩
        have HQ : Hid (∀ o, o < 4 → ((wr.alloc (.cells #[.int .i64 (numAt l 0), .int .i64 (numAt l 1), .int .i64 (numAt l 2), .int .i64 (numAt l 3), .int .i64 (0), .int .i64 (0), .int .i64 (0), .int .i64 (0), .int .i64 (0), .int .i64 (0)] 33)).drew).cell? ⟨g, o, none⟩ = some (.int .i64 ((numsTo l 4).getD o 0))) := hide (fun o ho => ((below1 wr _).cell (p := ⟨g, o, none⟩) hg2).trans (by have := hg3 o ho; rwa [Nat.zero_add] at this))
        have q0 : wr.cell? ⟨g, 0, none⟩ = some (.int .i64 (numAt l 0)) := hg3 0 (by omega)
        have q1 : wr.cell? ⟨g, 1, none⟩ = some (.int .i64 (numAt l 1)) := hg3 1 (by omega)
        have q2 : wr.cell? ⟨g, 2, none⟩ = some (.int .i64 (numAt l 2)) := hg3 2 (by omega)
        have q3 : wr.cell? ⟨g, 3, none⟩ = some (.int .i64 (numAt l 3)) := hg3 3 (by omega)
        clear hg3 hcn herr hcj hc0 hown hev
        go_wp2
        go_region
        generalize (wr.alloc (.cells #[.int .i64 (numAt l 0), .int .i64 (numAt l 1), .int .i64 (numAt l 2), .int .i64 (numAt l 3), .int .i64 (0), .int .i64 (0), .int .i64 (0), .int .i64 (0), .int .i64 (0), .int .i64 (0)] 33)).drew = WA at HRA HBA HCA HQ ⊢
        clear q0 q1 q2 q3 HR HBw
        by_cases hl16 : l.length = 16
        · have hlb : ((len : Int) != 16) = false := by have := unhide HL; simp; omega
          have m0 := (unhide HCA).cell 0 (by omega)
          have m1 := (unhide HCA).cell 1 (by omega)
          have m2 := (unhide HCA).cell 2 (by omega)
          have m3 := (unhide HCA).cell 3 (by omega)
          have m4 := (unhide HCA).cell 4 (by omega)
          have m5 := (unhide HCA).cell 5 (by omega)
          have m6 := (unhide HCA).cell 6 (by omega)
          have m7 := (unhide HCA).cell 7 (by omega)
          have m8 := (unhide HCA).cell 8 (by omega)
          have m9 := (unhide HCA).cell 9 (by omega)
          simp only [List.getD_cons_zero, List.getD_cons_succ] at m0 m1 m2 m3 m4 m5 m6 m7 m8 m9
          go_wp2_with fail
          refine (recordFault_any _ _ _ _ _ _ _ _ _ _ _).mono ?_
          rintro e w7 ⟨rfl, b7⟩
          clear m0 m1 m2 m3 m4 m5 m6 m7 m8 m9
          have HR7 := hide ((unhide HRA).below b7 (unhide HRA).lt)
          have HB7 := hide (Below.next (unhide HBA) b7)
          have HC7 := hide ((unhide HCA).below b7 (unhide HCA).lt)
          clear b7 hlb
          have k0 := (unhide HR7).cell 0 (by omega)
          have k1 := (unhide HR7).cell 1 (by omega)
          have k2 := (unhide HR7).cell 2 (by omega)
          have k3 := (unhide HR7).cell 3 (by omega)
          have k4 := (unhide HR7).cell 4 (by omega)
          have k5 := (unhide HR7).cell 5 (by omega)
          have k6 := (unhide HR7).cell 6 (by omega)
          have k7 := (unhide HR7).cell 7 (by omega)
          have k8 := (unhide HR7).cell 8 (by omega)
          have k9 := (unhide HR7).cell 9 (by omega)
          simp only [List.getD_cons_zero, List.getD_cons_succ] at k0 k1 k2 k3 k4 k5 k6 k7 k8 k9
          have kf := (unhide HR7).free
          have m0 := (unhide HC7).cell 0 (by omega)
          have m1 := (unhide HC7).cell 1 (by omega)
          have m2 := (unhide HC7).cell 2 (by omega)
          have m3 := (unhide HC7).cell 3 (by omega)
          have m4 := (unhide HC7).cell 4 (by omega)
          have m5 := (unhide HC7).cell 5 (by omega)
          have m6 := (unhide HC7).cell 6 (by omega)
          have m7 := (unhide HC7).cell 7 (by omega)
          have m8 := (unhide HC7).cell 8 (by omega)
          have m9 := (unhide HC7).cell 9 (by omega)
          simp only [List.getD_cons_zero, List.getD_cons_succ] at m0 m1 m2 m3 m4 m5 m6 m7 m8 m9
          by_cases hf : recordFault (numAt l 0) (numAt l 1) (numAt l 2) (numAt l 3) 0 0 0 0 0 0 = 0
          · have HD : Hid (decodeOf l = ([numAt l 0, numAt l 1, numAt l 2, numAt l 3, 0, 0, 0, 0, 0, 0], 0)) := hide (by rw [decode_bare (unhide HE) (unhide HK2), if_neg (by rw [unhide HF, hl16, hf]; simp), unhide HN])
            have hnf : (recordFault (numAt l 0) (numAt l 1) (numAt l 2) (numAt l 3) 0 0 0 0 0 0 != 0) = false := by simpa using hf
            clear hf
            go_wp2
            rw [unhide HD]
            have Z1 := (unhide HR7).ten (numAt l 0) (numAt l 1) (numAt l 2) (numAt l 3) 0 0 0 0 0 0
            have Z2 := SameBut.ten w7 w.heap.size (numAt l 0) (numAt l 1) (numAt l 2) (numAt l 3) 0 0 0 0 0 0
            exact bodyPost_ret (ret_end Z1 rfl rfl) rfl ⟨rfl, (unhide HB7).trans (Z2.below (Nat.le_refl _))⟩
          · have HD : Hid (decodeOf l = (zeros, 3)) := hide (by rw [decode_bare (unhide HE) (unhide HK2), if_pos (.inr (by rw [unhide HF]; exact hf))])
            have hnf : (recordFault (numAt l 0) (numAt l 1) (numAt l 2) (numAt l 3) 0 0 0 0 0 0 != 0) = true := by simpa using hf
            clear hf
            go_wp2
            rw [unhide HD]
            have Z1 := (unhide HR7).ten 0 0 0 0 0 0 0 0 0 0
            have Z2 := SameBut.ten w7 w.heap.size 0 0 0 0 0 0 0 0 0 0
            exact bodyPost_ret (ret_end Z1 rfl rfl) rfl ⟨rfl, (unhide HB7).trans (Z2.below (Nat.le_refl _))⟩
        · have hlb : ((len : Int) != 16) = true := by have := unhide HL; simp; omega
          have HD : Hid (decodeOf l = (zeros, 3)) := hide (by rw [decode_bare (unhide HE) (unhide HK2), if_pos (.inl hl16)])
          have k0 := (unhide HRA).cell 0 (by omega)
          have k1 := (unhide HRA).cell 1 (by omega)
          have k2 := (unhide HRA).cell 2 (by omega)
          have k3 := (unhide HRA).cell 3 (by omega)
          have k4 := (unhide HRA).cell 4 (by omega)
          have k5 := (unhide HRA).cell 5 (by omega)
          have k6 := (unhide HRA).cell 6 (by omega)
          have k7 := (unhide HRA).cell 7 (by omega)
          have k8 := (unhide HRA).cell 8 (by omega)
          have k9 := (unhide HRA).cell 9 (by omega)
          simp only [List.getD_cons_zero, List.getD_cons_succ] at k0 k1 k2 k3 k4 k5 k6 k7 k8 k9
          have kf := (unhide HRA).free
          go_wp2
          rw [unhide HD]
          have Z1 := (unhide HRA).ten 0 0 0 0 0 0 0 0 0 0
          have Z2 := SameBut.ten WA w.heap.size 0 0 0 0 0 0 0 0 0 0
          exact bodyPost_ret (ret_end Z1 rfl rfl) rfl ⟨rfl, (unhide HBA).trans (Z2.below (Nat.le_refl _))⟩
      · have hcn : 10 = cntOf l := hcj (by omega)
        have HE := hide herr
        have hev : hasEv (numAt l 0) = true := by
          cases h : hasEv (numAt l 0) with
          | true => rfl
          | false => unfold cntOf at hcn; rw [h] at hcn; simp at hcn
        have HK2 : Hid (numAt l 0 = 2 ∨ numAt l 0 = 5) := hide (by simpa [hasEv] using hev)
        have HF : Hid (faultOf l = recordFault (numAt l 0) (numAt l 1) (numAt l 2) (numAt l 3) (numAt l 4) (numAt l 5) (numAt l 6) (numAt l 7) (numAt l 8) (numAt l 9)) := hide (by unfold faultOf numsOf; rw [hev]; rfl)
        have HN : Hid (numsOf l = [numAt l 0, numAt l 1, numAt l 2, numAt l 3, numAt l 4, numAt l 5, numAt l 6, numAt l 7, numAt l 8, numAt l 9]) := hide (by unfold numsOf; rw [hev]; rfl)
        have hne : w.heap.size ≠ wr.heap.size := by omega
        have hle : w.heap.size ≤ wr.heap.size := by omega
        have HRA : Hid (recBlock ((wr.alloc (.cells #[.int .i64 (numAt l 0), .int .i64 (numAt l 1), .int .i64 (numAt l 2), .int .i64 (numAt l 3), .int .i64 (0), .int .i64 (0), .int .i64 (0), .int .i64 (0), .int .i64 (0), .int .i64 (0)] 33)).drew) w.heap.size [0, 0, 0, 0, 0, 0, 0, 0, 0, 0]) := hide ((unhide HR).below (B := wr.heap.size) (below1 wr _).drew (by omega))
        have HBA : Hid (Below w.heap.size w ((wr.alloc (.cells #[.int .i64 (numAt l 0), .int .i64 (numAt l 1), .int .i64 (numAt l 2), .int .i64 (numAt l 3), .int .i64 (0), .int .i64 (0), .int .i64 (0), .int .i64 (0), .int .i64 (0), .int .i64 (0)] 33)).drew)) := hide (Below.next (unhide HBw) (below1 wr _)).drew
        have HCA : Hid (recBlock ((wr.alloc (.cells #[.int .i64 (numAt l 0), .int .i64 (numAt l 1), .int .i64 (numAt l 2), .int .i64 (numAt l 3), .int .i64 (0), .int .i64 (0), .int .i64 (0), .int .i64 (0), .int .i64 (0), .int .i64 (0)] 33)).drew) wr.heap.size [numAt l 0, numAt l 1, numAt l 2, numAt l 3, 0, 0, 0, 0, 0, 0]) := hide ⟨rfl, heap_alloc_new wr _⟩
        have HQ : Hid (∀ o, o < 10 → ((wr.alloc (.cells #[.int .i64 (numAt l 0), .int .i64 (numAt l 1), .int .i64 (numAt l 2), .int .i64 (numAt l 3), .int .i64 (0), .int .i64 (0), .int .i64 (0), .int .i64 (0), .int .i64 (0), .int .i64 (0)] 33)).drew).cell? ⟨g, o, none⟩ = some (.int .i64 ((numsTo l 10).getD o 0))) := hide (fun o ho => ((below1 wr _).cell (p := ⟨g, o, none⟩) hg2).trans (by have := hg3 o ho; rwa [Nat.zero_add] at this))
        have q0 : wr.cell? ⟨g, 0, none⟩ = some (.int .i64 (numAt l 0)) := hg3 0 (by omega)
        have q1 : wr.cell? ⟨g, 1, none⟩ = some (.int .i64 (numAt l 1)) := hg3 1 (by omega)
        have q2 : wr.cell? ⟨g, 2, none⟩ = some (.int .i64 (numAt l 2)) := hg3 2 (by omega)
        have q3 : wr.cell? ⟨g, 3, none⟩ = some (.int .i64 (numAt l 3)) := hg3 3 (by omega)
        clear hg3 hcn herr hcj hc0 hown hev
        go_wp2
        go_region
        generalize (wr.alloc (.cells #[.int .i64 (numAt l 0), .int .i64 (numAt l 1), .int .i64 (numAt l 2), .int .i64 (numAt l 3), .int .i64 (0), .int .i64 (0), .int .i64 (0), .int .i64 (0), .int .i64 (0), .int .i64 (0)] 33)).drew = WA at HRA HBA HCA HQ ⊢
        clear q0 q1 q2 q3 HR HBw
        have p4 : WA.cell? ⟨g, 4, none⟩ = some (.int .i64 (numAt l 4)) := unhide HQ 4 (by omega)
        have p5 : WA.cell? ⟨g, 5, none⟩ = some (.int .i64 (numAt l 5)) := unhide HQ 5 (by omega)
        have p6 : WA.cell? ⟨g, 6, none⟩ = some (.int .i64 (numAt l 6)) := unhide HQ 6 (by omega)
        have p7 : WA.cell? ⟨g, 7, none⟩ = some (.int .i64 (numAt l 7)) := unhide HQ 7 (by omega)
        have p8 : WA.cell? ⟨g, 8, none⟩ = some (.int .i64 (numAt l 8)) := unhide HQ 8 (by omega)
        have p9 : WA.cell? ⟨g, 9, none⟩ = some (.int .i64 (numAt l 9)) := unhide HQ 9 (by omega)
        have m0 := (unhide HCA).cell 0 (by omega)
        have m1 := (unhide HCA).cell 1 (by omega)
        have m2 := (unhide HCA).cell 2 (by omega)
        have m3 := (unhide HCA).cell 3 (by omega)
        have m4 := (unhide HCA).cell 4 (by omega)
        have m5 := (unhide HCA).cell 5 (by omega)
        have m6 := (unhide HCA).cell 6 (by omega)
        have m7 := (unhide HCA).cell 7 (by omega)
        have m8 := (unhide HCA).cell 8 (by omega)
        have m9 := (unhide HCA).cell 9 (by omega)
        simp only [List.getD_cons_zero, List.getD_cons_succ] at m0 m1 m2 m3 m4 m5 m6 m7 m8 m9
        have mf := (unhide HCA).free
        have SX := six_facts (numAt l 4) (numAt l 5) (numAt l 6) (numAt l 7) (numAt l 8) (numAt l 9) (unhide HRA) (unhide HCA) hne (unhide HBA) hle
        have HRB := hide SX.1
        have HCB := hide SX.2.1
        have HBB := hide SX.2.2
        clear SX
        have hgne : ¬ g = wr.heap.size := by omega
        have hgne' : ¬ wr.heap.size = g := by omega
        go_wp2
        go_region_held3 (fun w' => w'.cell? ⟨g, 4, none⟩ = some (.int .i64 (numAt l 4)) ∧ w'.cell? ⟨g, 5, none⟩ = some (.int .i64 (numAt l 5)) ∧ w'.cell? ⟨g, 6, none⟩ = some (.int .i64 (numAt l 6)) ∧ w'.cell? ⟨g, 7, none⟩ = some (.int .i64 (numAt l 7)) ∧ w'.cell? ⟨g, 8, none⟩ = some (.int .i64 (numAt l 8)) ∧ w'.cell? ⟨g, 9, none⟩ = some (.int .i64 (numAt l 9))) (go_keep) (fail)
        generalize ((((((WA.setCell ⟨wr.heap.size, 4, none⟩ (.int .i64 (numAt l 4))).setCell ⟨wr.heap.size, 5, none⟩ (.int .i64 (numAt l 5))).setCell ⟨wr.heap.size, 6, none⟩ (.int .i64 (numAt l 6))).setCell ⟨wr.heap.size, 7, none⟩ (.int .i64 (numAt l 7))).setCell ⟨wr.heap.size, 8, none⟩ (.int .i64 (numAt l 8))).setCell ⟨wr.heap.size, 9, none⟩ (.int .i64 (numAt l 9))).drew = WB at HRB HCB HBB ⊢
        clear p4 p5 p6 p7 p8 p9 m0 m1 m2 m3 m4 m5 m6 m7 m8 m9 mf HRA HBA HCA HQ
        by_cases hl16 : l.length = 40
        · have hlb : ((len : Int) != 40) = false := by have := unhide HL; simp; omega
          have m0 := (unhide HCB).cell 0 (by omega)
          have m1 := (unhide HCB).cell 1 (by omega)
          have m2 := (unhide HCB).cell 2 (by omega)
          have m3 := (unhide HCB).cell 3 (by omega)
          have m4 := (unhide HCB).cell 4 (by omega)
          have m5 := (unhide HCB).cell 5 (by omega)
          have m6 := (unhide HCB).cell 6 (by omega)
          have m7 := (unhide HCB).cell 7 (by omega)
          have m8 := (unhide HCB).cell 8 (by omega)
          have m9 := (unhide HCB).cell 9 (by omega)
          simp only [List.getD_cons_zero, List.getD_cons_succ] at m0 m1 m2 m3 m4 m5 m6 m7 m8 m9
          go_wp2_with fail
          refine (recordFault_any _ _ _ _ _ _ _ _ _ _ _).mono ?_
          rintro e w7 ⟨rfl, b7⟩
          clear m0 m1 m2 m3 m4 m5 m6 m7 m8 m9
          have HR7 := hide ((unhide HRB).below b7 (unhide HRB).lt)
          have HB7 := hide (Below.next (unhide HBB) b7)
          have HC7 := hide ((unhide HCB).below b7 (unhide HCB).lt)
          clear b7 hlb
          have k0 := (unhide HR7).cell 0 (by omega)
          have k1 := (unhide HR7).cell 1 (by omega)
          have k2 := (unhide HR7).cell 2 (by omega)
          have k3 := (unhide HR7).cell 3 (by omega)
          have k4 := (unhide HR7).cell 4 (by omega)
          have k5 := (unhide HR7).cell 5 (by omega)
          have k6 := (unhide HR7).cell 6 (by omega)
          have k7 := (unhide HR7).cell 7 (by omega)
          have k8 := (unhide HR7).cell 8 (by omega)
          have k9 := (unhide HR7).cell 9 (by omega)
          simp only [List.getD_cons_zero, List.getD_cons_succ] at k0 k1 k2 k3 k4 k5 k6 k7 k8 k9
          have kf := (unhide HR7).free
          have m0 := (unhide HC7).cell 0 (by omega)
          have m1 := (unhide HC7).cell 1 (by omega)
          have m2 := (unhide HC7).cell 2 (by omega)
          have m3 := (unhide HC7).cell 3 (by omega)
          have m4 := (unhide HC7).cell 4 (by omega)
          have m5 := (unhide HC7).cell 5 (by omega)
          have m6 := (unhide HC7).cell 6 (by omega)
          have m7 := (unhide HC7).cell 7 (by omega)
          have m8 := (unhide HC7).cell 8 (by omega)
          have m9 := (unhide HC7).cell 9 (by omega)
          simp only [List.getD_cons_zero, List.getD_cons_succ] at m0 m1 m2 m3 m4 m5 m6 m7 m8 m9
          by_cases hf : recordFault (numAt l 0) (numAt l 1) (numAt l 2) (numAt l 3) (numAt l 4) (numAt l 5) (numAt l 6) (numAt l 7) (numAt l 8) (numAt l 9) = 0
          · have HD : Hid (decodeOf l = ([numAt l 0, numAt l 1, numAt l 2, numAt l 3, numAt l 4, numAt l 5, numAt l 6, numAt l 7, numAt l 8, numAt l 9], 0)) := hide (by rw [decode_ev (fun u hu => unhide HE u (by omega)) (unhide HK2) (fun u hu => unhide HE (4 + u) (by omega)), if_neg (by rw [unhide HF, hl16, hf]; simp), unhide HN])
            have hnf : (recordFault (numAt l 0) (numAt l 1) (numAt l 2) (numAt l 3) (numAt l 4) (numAt l 5) (numAt l 6) (numAt l 7) (numAt l 8) (numAt l 9) != 0) = false := by simpa using hf
            clear hf
            go_wp2
            rw [unhide HD]
            have Z1 := (unhide HR7).ten (numAt l 0) (numAt l 1) (numAt l 2) (numAt l 3) (numAt l 4) (numAt l 5) (numAt l 6) (numAt l 7) (numAt l 8) (numAt l 9)
            have Z2 := SameBut.ten w7 w.heap.size (numAt l 0) (numAt l 1) (numAt l 2) (numAt l 3) (numAt l 4) (numAt l 5) (numAt l 6) (numAt l 7) (numAt l 8) (numAt l 9)
            exact bodyPost_ret (ret_end Z1 rfl rfl) rfl ⟨rfl, (unhide HB7).trans (Z2.below (Nat.le_refl _))⟩
          · have HD : Hid (decodeOf l = (zeros, 3)) := hide (by rw [decode_ev (fun u hu => unhide HE u (by omega)) (unhide HK2) (fun u hu => unhide HE (4 + u) (by omega)), if_pos (.inr (by rw [unhide HF]; exact hf))])
            have hnf : (recordFault (numAt l 0) (numAt l 1) (numAt l 2) (numAt l 3) (numAt l 4) (numAt l 5) (numAt l 6) (numAt l 7) (numAt l 8) (numAt l 9) != 0) = true := by simpa using hf
            clear hf
            go_wp2
            rw [unhide HD]
            have Z1 := (unhide HR7).ten 0 0 0 0 0 0 0 0 0 0
            have Z2 := SameBut.ten w7 w.heap.size 0 0 0 0 0 0 0 0 0 0
            exact bodyPost_ret (ret_end Z1 rfl rfl) rfl ⟨rfl, (unhide HB7).trans (Z2.below (Nat.le_refl _))⟩
        · have hlb : ((len : Int) != 40) = true := by have := unhide HL; simp; omega
          have HD : Hid (decodeOf l = (zeros, 3)) := hide (by rw [decode_ev (fun u hu => unhide HE u (by omega)) (unhide HK2) (fun u hu => unhide HE (4 + u) (by omega)), if_pos (.inl hl16)])
          have k0 := (unhide HRB).cell 0 (by omega)
          have k1 := (unhide HRB).cell 1 (by omega)
          have k2 := (unhide HRB).cell 2 (by omega)
          have k3 := (unhide HRB).cell 3 (by omega)
          have k4 := (unhide HRB).cell 4 (by omega)
          have k5 := (unhide HRB).cell 5 (by omega)
          have k6 := (unhide HRB).cell 6 (by omega)
          have k7 := (unhide HRB).cell 7 (by omega)
          have k8 := (unhide HRB).cell 8 (by omega)
          have k9 := (unhide HRB).cell 9 (by omega)
          simp only [List.getD_cons_zero, List.getD_cons_succ] at k0 k1 k2 k3 k4 k5 k6 k7 k8 k9
          have kf := (unhide HRB).free
          go_wp2
          rw [unhide HD]
          have Z1 := (unhide HRB).ten 0 0 0 0 0 0 0 0 0 0
          have Z2 := SameBut.ten WB w.heap.size 0 0 0 0 0 0 0 0 0 0
          exact bodyPost_ret (ret_end Z1 rfl rfl) rfl ⟨rfl, (unhide HBB).trans (Z2.below (Nat.le_refl _))⟩
end Go.Proofs.Ytdpenbgmmgljoaa
