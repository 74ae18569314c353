/- Walks of berthshiftref.idsOf and windowOf: a window's ids, and the window of ids. -/
import Derived.Test.YtcdopnkabbfooaaGreatWdE
import Derived.OwnWalk
namespace Go.Proofs.YtcdopnkabbfooaaGreat
open Go.RowKit

theorem Tryz.infoI : (Tryz.prog.info? 3).map (fun i => (i.zero, i.size, i.bytes)) = some (some (.int .i64 0), 1, 8) := by kernel_rfl

theorem wf_i64 {x : Int} (h0 : -9223372036854775808 ≤ x) (h1 : x ≤ 9223372036854775807) : (Lit.int .i64 x).wf = true := by
  have e0 : IntKind.i64.min = -9223372036854775808 := by rfl
  have e1 : IntKind.i64.max = 9223372036854775807 := by rfl
  simp [Lit.wf, e0, e1]
  omega
theorem ids_wf {t : Int} {s : Nat → Bool} (h0 : 0 ≤ t) (h1 : t ≤ 1073741825) (k : Nat) (hk : k ≤ 8) : ∀ u ∈ idsTo t s k, (Lit.int .i64 u).wf = true := by
  intro u hu
  obtain ⟨i, hi, _, rfl⟩ := mem_idsTo.1 hu
  exact wf_i64 (by omega) (by omega)

set_option maxRecDepth 20000 in
set_option maxHeartbeats 1000000 in
theorem idsOf_any (t : Int) (s : Nat → Bool) (w : World) (h0 : 0 ≤ t) (h1 : t ≤ 1073741825) :
    Calls Tryz.prog 102 #[winVal t s] w fun e w' => ∃ a cap, e = .returned (.slice a (idsTo t s 8).length cap) ∧ RowK .i64 w' a (idsTo t s 8).length (idsTo t s 8) ∧ (idsTo t s 8).length ≤ cap ∧ (a = none → cap = 0) ∧ cap ≤ 9223372036854775807 ∧ Below w.heap.size w w' := by
  obtain ⟨i0, hi, hz0, hz1, hz2⟩ := info_parts Tryz.infoI
  go_enter Tryz.func102, Tryz.ntmps102
  go_wp2_with fail
  obtain ⟨W, hW, wb0, B0, S0⟩ := one_box w t s
  rw [← hW]
  clear hW
  go_loopw [3, 4] (fun v i wr => ∃ k : Nat, k ≤ 8 ∧ i = .int .i64 k ∧ wr.ownsRow (w.heap.size + 1) 3 1 v (idsTo t s k).length ((idsTo t s k).map (Value.int .i64)) ∧ winBlock wr w.heap.size t s ∧ Below (w.heap.size + 1) W wr)
    (fun _ i _ => 8 - (intOf i).toNat)
  case atStart => exact ⟨0, by omega, rfl, World.ownsRow_nil _ _ _ _, wb0, Below.refl _ _⟩
  case round =>
    obtain ⟨k, hk, rfl, hown, wb, B⟩ := hrel
    have c0 := wb.cell0
    by_cases hlt : k < 8
    · have ck := wb.cell k hlt
      have hln := length_idsTo t s k
      have HX := veil (idsTo_succ t s k)
      cases hb : s k
      · rw [hb] at ck HX
        have e1 : Hid (idsTo t s (k + 1) = idsTo t s k) := veil (by rw [unveil HX]; simp)
        clear HX
        have HO := veil hown
        have HW := veil wb
        have HB := veil B
        clear hown wb B wb0 B0 S0
        go_wp2
        go_roundw
        case rel => exact ⟨k + 1, by omega, by go_num, by rw [unveil e1]; exact unveil HO, unveil HW, unveil HB⟩
        case measure => simp [intOf]; omega
      · rw [hb] at ck HX
        obtain ⟨x, hx⟩ : ∃ x, x = t - 8 + (k : Int) := ⟨_, rfl⟩
        have hwr : IntKind.i64.wrap (t - 8 + (k : Int)) = x := by rw [IntKind.wrap_i64]; omega
        have e1 : Hid (idsTo t s (k + 1) = idsTo t s k ++ [x]) := veil (by rw [unveil HX, hx]; simp)
        clear HX hx
        obtain ⟨L, hL⟩ : ∃ L, L = idsTo t s k := ⟨_, rfl⟩
        rw [← hL] at e1 hown hln
        have HL := veil hL
        clear hL
        have hsz : w.heap.size + 1 ≤ wr.heap.size := by have := B.size; omega
        go_wp2_with (at_builtin; refine wpList_append_own _ rfl _ _ 138 rfl (w.heap.size + 1) 3 i0 (.int .i64 0) 1 8 Tryz.underlying138 hi hz0 hz1 hz2 rfl (by decide) _ _ _ rfl (hown.alloc _) ⟨wr.heap.size, 0, none⟩ 1 1 [.int .i64 x] rfl rfl (cell_one_new _ _ _) (ints_oneCell .i64 [x]) (by unfold maxLen; omega) (by omega) (by simp; omega) ?_; intro v' w4 hown4 hgrow4 _)
        have R1 : Hid (w4.ownsRow (w.heap.size + 1) 3 1 v' (idsTo t s (k + 1)).length ((idsTo t s (k + 1)).map (Value.int .i64))) := by
          rw [unveil e1, List.map_append, List.length_append]; exact hown4
        have R2 : Below (w.heap.size + 1) W w4 := (B.alloc hsz _).grown hgrow4 (by simp; omega) (by intro t ht; exact (hown.lt t ht).1)
        have R3 : winBlock w4 w.heap.size t s := wb0.below R2 (by omega)
        clear hown4 hgrow4 hown ck c0 wb B
        go_wp2
        go_roundw
        case rel => exact ⟨k + 1, by omega, by go_num, R1.out, R3, R2⟩
        case measure => simp [intOf]; omega
    · obtain rfl : k = 8 := by omega
      obtain ⟨a', cap', rfl, hr, hc', hm', hn', hx'⟩ := RowK.ofOwns hown (ids_wf h0 h1 8 (Nat.le_refl _))
      have B1 : Below w.heap.size w wr := B0.trans (B.mono (by omega))
      clear hown wb B
      go_wp2
      go_ret
      exact ⟨a', cap', rfl, hr, hc', hn', by unfold maxLen at hm'; exact hm', B1⟩

theorem ret_windowOf {W : World} {R : Nat} {t : Int} {s : Nat → Bool} {tmps : Array Value} (h : winBlock W R t s) (t2 : tmps[2]? = some (.pointer (some ⟨R, 0, none⟩))) :
    (results Tryz.f103 tmps).run Tryz.prog W = .ok (winVal t s) W := by
  obtain ⟨c0, c1, c2, c3, c4, c5, c6, c7, c8⟩ := h.cells
  simp [results, Tryz.results103, go_sem, c0, c1, c2, c3, c4, c5, c6, c7, c8, t2]

theorem two_nones (w : World) : ∃ W, W = (w.alloc (.cells #[.int .i64 0, .bool false, .bool false, .bool false, .bool false, .bool false, .bool false, .bool false, .bool false] 89)).alloc (.cells #[.int .i64 0, .bool false, .bool false, .bool false, .bool false, .bool false, .bool false, .bool false, .bool false] 89) ∧
    winBlock W w.heap.size 0 noneS ∧ winBlock W (w.heap.size + 1) 0 noneS ∧ Below w.heap.size w W ∧ W.heap.size = w.heap.size + 2 := two_wins w 0 noneS

set_option maxRecDepth 20000 in
set_option maxHeartbeats 1000000 in
theorem windowOf_nil (a : Option Addr) (cap : Nat) (w : World) :
    Calls Tryz.prog 103 #[.slice a 0 cap] w fun e w' => e = .returned (winVal 0 noneS) ∧ Below w.heap.size w w' := by
  go_enter Tryz.func103, Tryz.ntmps103
  go_wp2
  obtain ⟨W, hW, wb0, wb1, B0, S0⟩ := two_nones w
  rw [← hW]
  exact bodyPost_ret (ret_windowOf wb0 rfl) rfl ⟨rfl, B0⟩

theorem winBlock.congr {w : World} {R : Nat} {t : Int} {s s' : Nat → Bool} (h : winBlock w R t s) (hs : ∀ i, i < 8 → s' i = s i) : winBlock w R t s' := by
  unfold winBlock at h ⊢
  rw [h]
  simp only [winCells, hs 0 (by omega), hs 1 (by omega), hs 2 (by omega), hs 3 (by omega), hs 4 (by omega), hs 5 (by omega), hs 6 (by omega), hs 7 (by omega)]
theorem seenOf_snoc (t : Int) (l : List Int) (k : Nat) (hk : k < l.length) (j : Nat) : seenOf t (l.take (k + 1)) j = (decide (t - 8 + (j : Int) = l.getD k 0) || seenOf t (l.take k) j) := by
  have e : l.take (k + 1) = l.take k ++ [l.getD k 0] := by
    rw [List.take_succ_eq_append_getElem hk]
    simp [hk]
  unfold seenOf
  rw [e, Bool.eq_iff_iff]
  simp only [decide_eq_true_eq, List.mem_append, List.mem_singleton, Bool.or_eq_true]
  exact Or.comm

theorem wins_at (w : World) (T : Int) : ∃ W, W = (w.alloc (.cells #[.int .i64 0, .bool false, .bool false, .bool false, .bool false, .bool false, .bool false, .bool false, .bool false] 89)).alloc (.cells #[.int .i64 T, .bool false, .bool false, .bool false, .bool false, .bool false, .bool false, .bool false, .bool false] 89) ∧
    winBlock W w.heap.size 0 noneS ∧ winBlock W (w.heap.size + 1) T noneS ∧ Below w.heap.size w W ∧ W.heap.size = w.heap.size + 2 := by
  refine ⟨_, rfl, (winBlock.new w 0 noneS).below (below1 _ _) (by simp), ?_, below2 _ _ _, by simp⟩
  have := winBlock.new (w.alloc (.cells (winCells 0 noneS) 89)) T noneS
  rw [show (w.alloc (.cells (winCells 0 noneS) 89)).heap.size = w.heap.size + 1 by simp] at this
  exact this

set_option maxRecDepth 20000 in
set_option maxHeartbeats 2000000 in
theorem windowOf_any (a : Option Addr) (n cap : Nat) (l : List Int) (w : World) (h : RowK .i64 w a n l) (hn : 0 < n) (hm : n ≤ 1000) (hb : ∀ x ∈ l, -100 ≤ x ∧ x ≤ 2000000000 ∧ x < topOf l) :
    Calls Tryz.prog 103 #[.slice a n cap] w fun e w' => e = .returned (winVal (topOf l) (seenOf (topOf l) l)) ∧ Below w.heap.size w w' := by
  have hl := h.len_eq
  obtain ⟨b, off, rfl⟩ := h.form hn
  have hne : l ≠ [] := by intro h0; rw [h0] at hl; simp at hl; omega
  have hbt := hb _ (last_mem hne)
  have hlast := h.at (n - 1) (by omega)
  obtain ⟨T, hT⟩ : ∃ T, T = topOf l := ⟨_, rfl⟩
  have hT1 : l.getD (n - 1) 0 = T - 1 := by rw [hT, topOf, hl]; omega
  rw [hT1] at hlast
  rw [← hT] at hb hbt ⊢
  have hw1 : IntKind.i64.wrap ((n : Int) - 1) = ((n - 1 : Nat) : Int) := by rw [IntKind.wrap_i64]; omega
  have hw2 : IntKind.i64.wrap (T - 1 + 1) = T := by rw [IntKind.wrap_i64]; omega
  have hbl := h.lt hn
  have hbl1 : b < w.heap.size + 1 := by omega
  clear hT hT1
  have hn0 : ((n : Int) == 0) = false := by simp; omega
  go_enter Tryz.func103, Tryz.ntmps103
  go_wp2_with fail
  obtain ⟨W, hW, wb0, wb1, B0, S0⟩ : ∃ W, W = (w.alloc (.cells #[.int .i64 0, .bool false, .bool false, .bool false, .bool false, .bool false, .bool false, .bool false, .bool false] 89)).alloc (.cells #[.int .i64 T, .bool false, .bool false, .bool false, .bool false, .bool false, .bool false, .bool false, .bool false] 89) ∧
      winBlock W w.heap.size 0 noneS ∧ winBlock W (w.heap.size + 1) T noneS ∧ Below w.heap.size w W ∧ W.heap.size = w.heap.size + 2 := wins_at w T
  rw [← hW]
  clear hW
  go_loopw [4] (fun i wr => ∃ k : Nat, k ≤ n ∧ i = .int .i64 k ∧ winBlock wr w.heap.size 0 noneS ∧ winBlock wr (w.heap.size + 1) T (seenOf T (l.take k)) ∧ Below w.heap.size w wr)
    (fun i _ => n - (intOf i).toNat)
  case atStart => exact ⟨0, by omega, rfl, wb0, wb1.congr (fun i _ => by simp [seenOf, noneS]), B0⟩
  case round =>
    obtain ⟨k, hk, rfl, va, vb, B⟩ := hrel
    by_cases hlt : k < n
    · have r := (h.below B).at k hlt
      have hx := hb (l.getD k 0) (by rw [List.getD_eq_getElem?_getD, List.getElem?_eq_getElem (by omega)]; simp)
      have HX := veil (seenOf_snoc T l k (by omega))
      generalize l.getD k 0 = x at r hx HX
      have c0 := vb.cell0
      have hw3 : IntKind.i64.wrap (IntKind.i64.wrap (x - T) + 8) = x - T + 8 := by rw [IntKind.wrap_i64, IntKind.wrap_i64]; omega
      by_cases hge : 0 ≤ x - T + 8
      · obtain ⟨j, hj⟩ : ∃ j : Nat, x - T + 8 = (j : Int) := ⟨(x - T + 8).toNat, by omega⟩
        have hj8 : j < 8 := by omega
        have ck := vb.cell j hj8
        have cf := vb.free
        rw [hj] at hw3 hge
        have vc := vb.mark j hj8 true (seenOf T (l.take (k + 1))) (by
          intro i hi
          rw [unveil HX]
          by_cases hij : i = j
          · subst hij
            rw [if_pos rfl, show decide (T - 8 + (i : Int) = x) = true by simp; omega]
            rfl
          · rw [if_neg hij, show decide (T - 8 + (i : Int) = x) = false by simp; omega]
            rfl)
        have vd := va.other (o := 1 + j) (v := .bool true) (R' := w.heap.size + 1) (by omega)
        have B2 : Below w.heap.size w (wr.setCell ⟨w.heap.size + 1, 1 + j, none⟩ (.bool true)) := mark_below B (by omega)
        have VC := veil vc
        have VD := veil vd
        have HB := veil B2
        clear vc vd B2 va vb B HX
        go_wp2_with fail
        go_region
        go_wp2
        go_roundw
        case rel => exact ⟨k + 1, by omega, by go_num, unveil VD, unveil VC, (unveil HB).drew⟩
        case measure => simp [intOf]; omega
      · have vc := vb.congr (s' := seenOf T (l.take (k + 1))) (by
          intro i hi
          rw [unveil HX, show decide (T - 8 + (i : Int) = x) = false by simp; omega]
          rfl)
        have VC := veil vc
        have VD := veil va
        have HB := veil B
        clear vc va vb B HX
        go_wp2_with fail
        go_region
        go_wp2
        go_roundw
        case rel => exact ⟨k + 1, by omega, by go_num, unveil VD, unveil VC, (unveil HB).drew⟩
        case measure => simp [intOf]; omega
    · obtain rfl : k = n := by omega
      rw [List.take_of_length_le (by omega)] at vb
      obtain ⟨c0, c1, c2, c3, c4, c5, c6, c7, c8⟩ := vb.cells
      obtain ⟨d0, d1, d2, d3, d4, d5, d6, d7, d8⟩ := va.cells
      have df := va.free
      have VD := veil va
      have HB := veil B
      clear va vb B
      go_wp2
      exact bodyPost_ret (ret_windowOf ((unveil VD).store T (seenOf T l)) rfl) rfl ⟨rfl, winStore_below (unveil HB) _ (Nat.le_refl _) _ _⟩
end Go.Proofs.YtcdopnkabbfooaaGreat
