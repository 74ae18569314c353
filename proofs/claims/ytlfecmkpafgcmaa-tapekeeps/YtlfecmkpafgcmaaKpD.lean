/- The walk of berthshiftkeep.record: a record that may stand on a tape. -/
import Derived.Test.YtlfecmkpafgcmaaKpC
import Derived.Test.YtlfecmkpafgcmaaKpB
namespace Go.Proofs.Ytlfecmkpafgcmaa
open Go.RowKit

/-- the record of raw numbers. -/
def recOf (k a b c k' a' b' c' : Int) : List Int :=
  [1 + pickedOf k' 7, pickedOf a' 4, pickedOf b' 1048577, pickedOf c' 5] ++ (if 1 + pickedOf k' 7 = 2 ∨ 1 + pickedOf k' 7 = 5 then evOf k a b c else [0, 0, 0, 0, 0, 0])

theorem evOf_len (k a b c : Int) : (evOf k a b c).length = 6 := by
  unfold evOf
  repeat' split
  all_goals rfl

theorem six_set {w W : World} {R S B : Nat} {zs : List Int} {y0 y1 y2 y3 : Int} (x4 x5 x6 x7 x8 x9 : Int) (hR : recBlock W R zs) (hC : recBlock W S [y0, y1, y2, y3, 0, 0, 0, 0, 0, 0]) (hne : R ≠ S) (hB : Below B w W) (hle : B ≤ S) :
    recBlock ((((((W.setCell ⟨S, 4, none⟩ (.int .i64 x4)).setCell ⟨S, 5, none⟩ (.int .i64 x5)).setCell ⟨S, 6, none⟩ (.int .i64 x6)).setCell ⟨S, 7, none⟩ (.int .i64 x7)).setCell ⟨S, 8, none⟩ (.int .i64 x8)).setCell ⟨S, 9, none⟩ (.int .i64 x9)) R zs ∧ recBlock ((((((W.setCell ⟨S, 4, none⟩ (.int .i64 x4)).setCell ⟨S, 5, none⟩ (.int .i64 x5)).setCell ⟨S, 6, none⟩ (.int .i64 x6)).setCell ⟨S, 7, none⟩ (.int .i64 x7)).setCell ⟨S, 8, none⟩ (.int .i64 x8)).setCell ⟨S, 9, none⟩ (.int .i64 x9)) S [y0, y1, y2, y3, x4, x5, x6, x7, x8, x9] ∧ Below B w ((((((W.setCell ⟨S, 4, none⟩ (.int .i64 x4)).setCell ⟨S, 5, none⟩ (.int .i64 x5)).setCell ⟨S, 6, none⟩ (.int .i64 x6)).setCell ⟨S, 7, none⟩ (.int .i64 x7)).setCell ⟨S, 8, none⟩ (.int .i64 x8)).setCell ⟨S, 9, none⟩ (.int .i64 x9)) := by
  have h1 : recBlock ((((((W.setCell ⟨S, 4, none⟩ (.int .i64 x4)).setCell ⟨S, 5, none⟩ (.int .i64 x5)).setCell ⟨S, 6, none⟩ (.int .i64 x6)).setCell ⟨S, 7, none⟩ (.int .i64 x7)).setCell ⟨S, 8, none⟩ (.int .i64 x8)).setCell ⟨S, 9, none⟩ (.int .i64 x9)) R zs := (((((hR.other hne 4 _).other hne 5 _).other hne 6 _).other hne 7 _).other hne 8 _).other hne 9 _
  have h2 : recBlock ((((((W.setCell ⟨S, 4, none⟩ (.int .i64 x4)).setCell ⟨S, 5, none⟩ (.int .i64 x5)).setCell ⟨S, 6, none⟩ (.int .i64 x6)).setCell ⟨S, 7, none⟩ (.int .i64 x7)).setCell ⟨S, 8, none⟩ (.int .i64 x8)).setCell ⟨S, 9, none⟩ (.int .i64 x9)) S [y0, y1, y2, y3, x4, x5, x6, x7, x8, x9] := (((((hC.set 4 x4).set 5 x5).set 6 x6).set 7 x7).set 8 x8).set 9 x9
  have h3 : Below B w ((((((W.setCell ⟨S, 4, none⟩ (.int .i64 x4)).setCell ⟨S, 5, none⟩ (.int .i64 x5)).setCell ⟨S, 6, none⟩ (.int .i64 x6)).setCell ⟨S, 7, none⟩ (.int .i64 x7)).setCell ⟨S, 8, none⟩ (.int .i64 x8)).setCell ⟨S, 9, none⟩ (.int .i64 x9)) := (((((hB.setCell (p := ⟨S, 4, none⟩) hle _).setCell (p := ⟨S, 5, none⟩) hle _).setCell (p := ⟨S, 6, none⟩) hle _).setCell (p := ⟨S, 7, none⟩) hle _).setCell (p := ⟨S, 8, none⟩) hle _).setCell (p := ⟨S, 9, none⟩) hle _
  exact ⟨h1, h2, h3⟩

theorem size1 (w : World) (o : Obj) : (w.alloc o).heap.size = w.heap.size + 1 := by simp
theorem new_at (w : World) (o : Obj) (n : Nat) (h : n = w.heap.size) : (w.alloc o).heap[n]? = some o := by subst h; exact heap_alloc_new w o
theorem alloc4 (w : World) (o1 o2 o3 o4 : Obj) :
    ((((w.alloc o1).alloc o2).alloc o3).alloc o4).drew.heap[w.heap.size + 1 + 1 + 1]? = some o4 ∧ ((((w.alloc o1).alloc o2).alloc o3).alloc o4).drew.heap[w.heap.size + 1 + 1]? = some o3 ∧
    ((((w.alloc o1).alloc o2).alloc o3).alloc o4).drew.heap[w.heap.size]? = some o1 ∧ Below w.heap.size w ((((w.alloc o1).alloc o2).alloc o3).alloc o4).drew := by
  have s1 := size1 w o1
  have s2 := size1 (w.alloc o1) o2
  have s3 := size1 ((w.alloc o1).alloc o2) o3
  have d : ((((w.alloc o1).alloc o2).alloc o3).alloc o4).drew.heap = ((((w.alloc o1).alloc o2).alloc o3).alloc o4).heap := rfl
  rw [d]
  refine ⟨new_at _ _ _ (by omega), ?_, ?_, ?_⟩
  · rw [Below.heap_alloc _ _ _ (by omega)]
    exact new_at _ _ _ (by omega)
  · rw [Below.heap_alloc _ _ _ (by omega), Below.heap_alloc _ _ _ (by omega), Below.heap_alloc _ _ _ (by omega)]
    exact new_at _ _ _ rfl
  · exact (((below2 w o1 o2).alloc (by omega) o3).alloc (by omega) o4).drew

theorem ten_all {w W : World} {R B : Nat} {zs : List Int} (v0 v1 v2 v3 v4 v5 v6 v7 v8 v9 : Int) (hR : recBlock W R zs) (hB : Below B w W) (hle : B ≤ R) : recBlock ((((((((((W.setCell ⟨R, 0, none⟩ (.int .i64 v0)).setCell ⟨R, 1, none⟩ (.int .i64 v1)).setCell ⟨R, 2, none⟩ (.int .i64 v2)).setCell ⟨R, 3, none⟩ (.int .i64 v3)).setCell ⟨R, 4, none⟩ (.int .i64 v4)).setCell ⟨R, 5, none⟩ (.int .i64 v5)).setCell ⟨R, 6, none⟩ (.int .i64 v6)).setCell ⟨R, 7, none⟩ (.int .i64 v7)).setCell ⟨R, 8, none⟩ (.int .i64 v8)).setCell ⟨R, 9, none⟩ (.int .i64 v9)) R [v0, v1, v2, v3, v4, v5, v6, v7, v8, v9] ∧ Below B w ((((((((((W.setCell ⟨R, 0, none⟩ (.int .i64 v0)).setCell ⟨R, 1, none⟩ (.int .i64 v1)).setCell ⟨R, 2, none⟩ (.int .i64 v2)).setCell ⟨R, 3, none⟩ (.int .i64 v3)).setCell ⟨R, 4, none⟩ (.int .i64 v4)).setCell ⟨R, 5, none⟩ (.int .i64 v5)).setCell ⟨R, 6, none⟩ (.int .i64 v6)).setCell ⟨R, 7, none⟩ (.int .i64 v7)).setCell ⟨R, 8, none⟩ (.int .i64 v8)).setCell ⟨R, 9, none⟩ (.int .i64 v9)) :=
  ⟨hR.ten v0 v1 v2 v3 v4 v5 v6 v7 v8 v9, hB.trans ((SameBut.ten W R v0 v1 v2 v3 v4 v5 v6 v7 v8 v9).below hle)⟩

theorem ret_rec {W : World} {R : Nat} {zs : List Int} {tmps : Array Value} (h1 : recBlock W R zs) (t4 : tmps[4]? = some (.pointer (some ⟨R, 0, none⟩))) : (results Try.f16 tmps).run Try.prog W = .ok (recVal zs) W := by
  have hl := h1.1
  have k0 := h1.cell 0 (by omega)
  have k1 := h1.cell 1 (by omega)
  have k2 := h1.cell 2 (by omega)
  have k3 := h1.cell 3 (by omega)
  have k4 := h1.cell 4 (by omega)
  have k5 := h1.cell 5 (by omega)
  have k6 := h1.cell 6 (by omega)
  have k7 := h1.cell 7 (by omega)
  have k8 := h1.cell 8 (by omega)
  have k9 := h1.cell 9 (by omega)
  clear h1
  match zs, hl with
  | [y0, y1, y2, y3, y4, y5, y6, y7, y8, y9], _ =>
    simp at k0 k1 k2 k3 k4 k5 k6 k7 k8 k9
    simp [results, Try.results16, go_sem, k0, k1, k2, k3, k4, k5, k6, k7, k8, k9, recVal, t4]

set_option maxRecDepth 20000 in
set_option maxHeartbeats 2000000 in
theorem record_of (k a b c k' a' b' c' : Int) (w : World) (wk : (Lit.int .i64 k).wf = true) (wa : (Lit.int .i64 a).wf = true) (wb : (Lit.int .i64 b).wf = true) (wc : (Lit.int .i64 c).wf = true)
    (wk' : (Lit.int .i64 k').wf = true) (wa' : (Lit.int .i64 a').wf = true) (wb' : (Lit.int .i64 b').wf = true) (wc' : (Lit.int .i64 c').wf = true) :
    Calls Try.prog 16 #[.agg #[.int .i64 k, .int .i64 a, .int .i64 b, .int .i64 c], .agg #[.int .i64 k', .int .i64 a', .int .i64 b', .int .i64 c']] w fun e w' => e = .returned (recVal (recOf k a b c k' a' b' c')) ∧ Below w.heap.size w w' := by
  obtain ⟨r0, r1⟩ := pickedOf_range k' 7 (by omega)
  have HW : Hid (IntKind.i64.wrap (1 + pickedOf k' 7) = 1 + pickedOf k' 7) := hide (wraps_i64 _ (by omega) (by omega))
  go_enter Try.func16, Try.ntmps16
  go_wp2_with fail
  go_region_held3 (fun w' => w'.cell? ⟨w.heap.size + 1, 0, none⟩ = some (.int .i64 k') ∧ w'.cell? ⟨w.heap.size + 1, 1, none⟩ = some (.int .i64 a') ∧ w'.cell? ⟨w.heap.size + 1, 2, none⟩ = some (.int .i64 b') ∧ w'.cell? ⟨w.heap.size + 1, 3, none⟩ = some (.int .i64 c')) (go_keep) ((go_at_call 13; refine (picked_any _ _ _ (by assumption) (by omega) (by omega)).mono ?_; rintro e w' ⟨rfl, rfl⟩))
  all_goals
    rename_i hHeld
    clear hHeld
    rw [unhide HW]
    obtain ⟨kk, hkk⟩ : ∃ kk, 1 + pickedOf k' 7 = kk := ⟨_, rfl⟩
    rw [hkk]
    have A4 := alloc4 w (.cells #[.int .i64 k, .int .i64 a, .int .i64 b, .int .i64 c] 46) (.cells #[.int .i64 k', .int .i64 a', .int .i64 b', .int .i64 c'] 46) (.cells #[.int .i64 0, .int .i64 0, .int .i64 0, .int .i64 0, .int .i64 0, .int .i64 0, .int .i64 0, .int .i64 0, .int .i64 0, .int .i64 0] 63) (.cells #[.int .i64 kk, .int .i64 (pickedOf a' 4), .int .i64 (pickedOf b' 1048577), .int .i64 (pickedOf c' 5), .int .i64 0, .int .i64 0, .int .i64 0, .int .i64 0, .int .i64 0, .int .i64 0] 63)
    have HA : Hid (recBlock (((((w.alloc (.cells #[.int .i64 k, .int .i64 a, .int .i64 b, .int .i64 c] 46)).alloc (.cells #[.int .i64 k', .int .i64 a', .int .i64 b', .int .i64 c'] 46)).alloc (.cells #[.int .i64 0, .int .i64 0, .int .i64 0, .int .i64 0, .int .i64 0, .int .i64 0, .int .i64 0, .int .i64 0, .int .i64 0, .int .i64 0] 63)).alloc (.cells #[.int .i64 kk, .int .i64 (pickedOf a' 4), .int .i64 (pickedOf b' 1048577), .int .i64 (pickedOf c' 5), .int .i64 0, .int .i64 0, .int .i64 0, .int .i64 0, .int .i64 0, .int .i64 0] 63)).drew) (w.heap.size + 1 + 1 + 1) [kk, pickedOf a' 4, pickedOf b' 1048577, pickedOf c' 5, 0, 0, 0, 0, 0, 0]) := hide ⟨rfl, A4.1⟩
    have HZ : Hid (recBlock (((((w.alloc (.cells #[.int .i64 k, .int .i64 a, .int .i64 b, .int .i64 c] 46)).alloc (.cells #[.int .i64 k', .int .i64 a', .int .i64 b', .int .i64 c'] 46)).alloc (.cells #[.int .i64 0, .int .i64 0, .int .i64 0, .int .i64 0, .int .i64 0, .int .i64 0, .int .i64 0, .int .i64 0, .int .i64 0, .int .i64 0] 63)).alloc (.cells #[.int .i64 kk, .int .i64 (pickedOf a' 4), .int .i64 (pickedOf b' 1048577), .int .i64 (pickedOf c' 5), .int .i64 0, .int .i64 0, .int .i64 0, .int .i64 0, .int .i64 0, .int .i64 0] 63)).drew) (w.heap.size + 1 + 1) [0, 0, 0, 0, 0, 0, 0, 0, 0, 0]) := hide ⟨rfl, A4.2.1⟩
    have HD : Hid ((((((w.alloc (.cells #[.int .i64 k, .int .i64 a, .int .i64 b, .int .i64 c] 46)).alloc (.cells #[.int .i64 k', .int .i64 a', .int .i64 b', .int .i64 c'] 46)).alloc (.cells #[.int .i64 0, .int .i64 0, .int .i64 0, .int .i64 0, .int .i64 0, .int .i64 0, .int .i64 0, .int .i64 0, .int .i64 0, .int .i64 0] 63)).alloc (.cells #[.int .i64 kk, .int .i64 (pickedOf a' 4), .int .i64 (pickedOf b' 1048577), .int .i64 (pickedOf c' 5), .int .i64 0, .int .i64 0, .int .i64 0, .int .i64 0, .int .i64 0, .int .i64 0] 63)).drew).heap[w.heap.size]? = some (.cells #[.int .i64 k, .int .i64 a, .int .i64 b, .int .i64 c] 46 (0, 0))) := hide A4.2.2.1
    have HB : Hid (Below w.heap.size w (((((w.alloc (.cells #[.int .i64 k, .int .i64 a, .int .i64 b, .int .i64 c] 46)).alloc (.cells #[.int .i64 k', .int .i64 a', .int .i64 b', .int .i64 c'] 46)).alloc (.cells #[.int .i64 0, .int .i64 0, .int .i64 0, .int .i64 0, .int .i64 0, .int .i64 0, .int .i64 0, .int .i64 0, .int .i64 0, .int .i64 0] 63)).alloc (.cells #[.int .i64 kk, .int .i64 (pickedOf a' 4), .int .i64 (pickedOf b' 1048577), .int .i64 (pickedOf c' 5), .int .i64 0, .int .i64 0, .int .i64 0, .int .i64 0, .int .i64 0, .int .i64 0] 63)).drew)) := hide A4.2.2.2
    clear A4
    generalize ((((w.alloc (.cells #[.int .i64 k, .int .i64 a, .int .i64 b, .int .i64 c] 46)).alloc (.cells #[.int .i64 k', .int .i64 a', .int .i64 b', .int .i64 c'] 46)).alloc (.cells #[.int .i64 0, .int .i64 0, .int .i64 0, .int .i64 0, .int .i64 0, .int .i64 0, .int .i64 0, .int .i64 0, .int .i64 0, .int .i64 0] 63)).alloc (.cells #[.int .i64 kk, .int .i64 (pickedOf a' 4), .int .i64 (pickedOf b' 1048577), .int .i64 (pickedOf c' 5), .int .i64 0, .int .i64 0, .int .i64 0, .int .i64 0, .int .i64 0, .int .i64 0] 63)).drew = WA at HA HZ HB HD ⊢
    have HK := hide hkk
    have hkr : 1 ≤ kk ∧ kk ≤ 7 := by omega
    clear hkk HW r0 r1 wk' wa' wb' wc'
    by_cases hev : kk = 2 ∨ kk = 5
    · have HR : Hid (recOf k a b c k' a' b' c' = [kk, pickedOf a' 4, pickedOf b' 1048577, pickedOf c' 5] ++ evOf k a b c) := hide (by unfold recOf; rw [unhide HK, if_pos hev])
      have d0 : WA.cell? ⟨w.heap.size, 0, none⟩ = some (.int .i64 k) := by simp [World.cell?, unhide HD]
      have d1 : WA.cell? ⟨w.heap.size, 1, none⟩ = some (.int .i64 a) := by simp [World.cell?, unhide HD]
      have d2 : WA.cell? ⟨w.heap.size, 2, none⟩ = some (.int .i64 b) := by simp [World.cell?, unhide HD]
      have d3 : WA.cell? ⟨w.heap.size, 3, none⟩ = some (.int .i64 c) := by simp [World.cell?, unhide HD]
      have m0 := (unhide HA).cell 0 (by omega)
      simp only [List.getD_cons_zero] at m0
      have W2 : (kk == 2) = true ∨ ((kk == 2) = false ∧ (kk == 5) = true) := by
        rcases hev with h | h
        · exact .inl (by simpa using h)
        · exact .inr ⟨by simp; omega, by simpa using h⟩
      clear hev hkr
      rcases W2 with h2 | ⟨h2, h5⟩
      all_goals
        go_wp2_with fail
        refine (event_any k a b c _ wk wa wb wc).mono ?_
        rintro e w5 ⟨rfl, b5⟩
        have hl := evOf_len k a b c
        have HA5 := hide ((unhide HA).below b5 (unhide HA).lt)
        have HZ5 := hide ((unhide HZ).below b5 (unhide HZ).lt)
        have HB5 := hide (Below.next (unhide HB) b5)
        clear HA HZ HB HD d0 d1 d2 d3 m0 b5
        generalize evOf k a b c = ev at hl HR ⊢
        match ev, hl with
        | [x4, x5, x6, x7, x8, x9], _ =>
          simp only [List.map_cons, List.map_nil]
          have m0 := (unhide HA5).cell 0 (by omega)
          have m1 := (unhide HA5).cell 1 (by omega)
          have m2 := (unhide HA5).cell 2 (by omega)
          have m3 := (unhide HA5).cell 3 (by omega)
          have m4 := (unhide HA5).cell 4 (by omega)
          have m5 := (unhide HA5).cell 5 (by omega)
          have m6 := (unhide HA5).cell 6 (by omega)
          have m7 := (unhide HA5).cell 7 (by omega)
          have m8 := (unhide HA5).cell 8 (by omega)
          have m9 := (unhide HA5).cell 9 (by omega)
          simp only [List.getD_cons_zero, List.getD_cons_succ] at m0 m1 m2 m3 m4 m5 m6 m7 m8 m9
          have z0 := (unhide HZ5).cell 0 (by omega)
          have z1 := (unhide HZ5).cell 1 (by omega)
          have z2 := (unhide HZ5).cell 2 (by omega)
          have z3 := (unhide HZ5).cell 3 (by omega)
          have z4 := (unhide HZ5).cell 4 (by omega)
          have z5 := (unhide HZ5).cell 5 (by omega)
          have z6 := (unhide HZ5).cell 6 (by omega)
          have z7 := (unhide HZ5).cell 7 (by omega)
          have z8 := (unhide HZ5).cell 8 (by omega)
          have z9 := (unhide HZ5).cell 9 (by omega)
          simp only [List.getD_cons_zero, List.getD_cons_succ] at z0 z1 z2 z3 z4 z5 z6 z7 z8 z9
          have mf := (unhide HA5).free
          have zf := (unhide HZ5).free
          go_wp2
          rw [unhide HR]
          have SX := six_set x4 x5 x6 x7 x8 x9 (unhide HZ5) (unhide HA5) (by omega) (unhide HB5) (by omega)
          have Z := ten_all kk (pickedOf a' 4) (pickedOf b' 1048577) (pickedOf c' 5) x4 x5 x6 x7 x8 x9 SX.1 SX.2.2 (by omega)
          exact bodyPost_ret (ret_rec Z.1 rfl) rfl ⟨rfl, Z.2⟩
    · have HR : Hid (recOf k a b c k' a' b' c' = [kk, pickedOf a' 4, pickedOf b' 1048577, pickedOf c' 5, 0, 0, 0, 0, 0, 0]) := hide (by unfold recOf; rw [unhide HK, if_neg hev]; rfl)
      have h2 : (kk == 2) = false := by simp; omega
      have h5 : (kk == 5) = false := by simp; omega
      have m0 := (unhide HA).cell 0 (by omega)
      have m1 := (unhide HA).cell 1 (by omega)
      have m2 := (unhide HA).cell 2 (by omega)
      have m3 := (unhide HA).cell 3 (by omega)
      have m4 := (unhide HA).cell 4 (by omega)
      have m5 := (unhide HA).cell 5 (by omega)
      have m6 := (unhide HA).cell 6 (by omega)
      have m7 := (unhide HA).cell 7 (by omega)
      have m8 := (unhide HA).cell 8 (by omega)
      have m9 := (unhide HA).cell 9 (by omega)
      simp only [List.getD_cons_zero, List.getD_cons_succ] at m0 m1 m2 m3 m4 m5 m6 m7 m8 m9
      have z0 := (unhide HZ).cell 0 (by omega)
      have z1 := (unhide HZ).cell 1 (by omega)
      have z2 := (unhide HZ).cell 2 (by omega)
      have z3 := (unhide HZ).cell 3 (by omega)
      have z4 := (unhide HZ).cell 4 (by omega)
      have z5 := (unhide HZ).cell 5 (by omega)
      have z6 := (unhide HZ).cell 6 (by omega)
      have z7 := (unhide HZ).cell 7 (by omega)
      have z8 := (unhide HZ).cell 8 (by omega)
      have z9 := (unhide HZ).cell 9 (by omega)
      simp only [List.getD_cons_zero, List.getD_cons_succ] at z0 z1 z2 z3 z4 z5 z6 z7 z8 z9
      have zf := (unhide HZ).free
      clear hev hkr
      go_wp2
      rw [unhide HR]
      have Z1 := (unhide HZ).ten kk (pickedOf a' 4) (pickedOf b' 1048577) (pickedOf c' 5) 0 0 0 0 0 0
      have Z2 := SameBut.ten WA (w.heap.size + 1 + 1) kk (pickedOf a' 4) (pickedOf b' 1048577) (pickedOf c' 5) 0 0 0 0 0 0
      exact bodyPost_ret (ret_rec Z1 rfl) rfl ⟨rfl, (unhide HB).trans (Z2.below (by omega))⟩
end Go.Proofs.Ytlfecmkpafgcmaa
