/- Walk of berthshiftref.IdTaken. -/
import Derived.Test.YtmhdpbmjhijhkaaGreatWdJ
namespace Go.Proofs.YtmhdpbmjhijhkaaGreat
open Go.RowKit

theorem ret_IdTaken {W : World} {R : Nat} {t e : Int} {s : Nat → Bool} {b : Bool} {tmps : Array Value} (h : winBlock W R t s) (t4 : tmps[4]? = some (.pointer (some ⟨R, 0, none⟩))) (t5 : tmps[5]? = some (.bool b)) (t6 : tmps[6]? = some (.int .i64 e)) :
    (results Tryz.f90 tmps).run Tryz.prog W = .ok (.tuple #[winVal t s, .bool b, .int .i64 e]) W := by
  obtain ⟨c0, c1, c2, c3, c4, c5, c6, c7, c8⟩ := h.cells
  simp [results, Tryz.results90, go_sem, c0, c1, c2, c3, c4, c5, c6, c7, c8, t4, t5, t6]

set_option maxHeartbeats 1000000 in
/-- an error of IdSeen. -/
theorem idTaken_err (t id e0 : Int) (s : Nat → Bool) (w : World) (he : ¬ e0 = 0) (h : ∀ w, Calls Tryz.prog 101 #[winVal t s, .int .i64 id] w fun e w' => e = .returned (.tuple #[.bool false, .int .i64 e0]) ∧ Below w.heap.size w w') :
    Calls Tryz.prog 90 #[winVal t s, .int .i64 id] w fun e w' => e = .returned (.tuple #[winVal 0 noneS, .bool false, .int .i64 e0]) ∧ Below w.heap.size w w' := by
  go_enter Tryz.func90, Tryz.ntmps90
  go_wp2_with fail
  obtain ⟨W, hW, wb0, wb1, B0, S0⟩ := two_wins w t s
  rw [← hW]
  clear hW
  refine (h _).mono ?_
  rintro e w1 ⟨rfl, b1⟩
  have wb := wb1.next b1
  have HW := veil wb
  have HB := veil (Below.next B0 b1)
  obtain ⟨d0, d1, d2, d3, d4, d5, d6, d7, d8⟩ := wb.cells
  have df := wb.free
  clear wb wb0 wb1 B0 S0 b1 h
  go_wp2
  exact bodyPost_ret (ret_IdTaken (unveil HW).none rfl rfl rfl) rfl ⟨rfl, winNone_below (unveil HB) _ (by omega)⟩

set_option maxRecDepth 20000 in
set_option maxHeartbeats 1000000 in
theorem idTaken_old (t id : Int) (s : Nat → Bool) (w : World) (h : WinOk t s) (h0 : 0 ≤ id) (h1 : id ≤ 1073741824) (h2 : inWin t s id = true) :
    Calls Tryz.prog 90 #[winVal t s, .int .i64 id] w fun e w' => e = .returned (.tuple #[winVal t s, .bool false, .int .i64 0]) ∧ Below w.heap.size w w' := by
  have h3 : t - 8 ≤ id := by
    obtain ⟨i, _, _, rfl⟩ := inWin_iff.1 h2
    omega
  go_enter Tryz.func90, Tryz.ntmps90
  go_wp2_with fail
  obtain ⟨W, hW, wb0, wb1, B0, S0⟩ := two_wins w t s
  rw [← hW]
  clear hW
  refine (idSeen_yes t id s _ h h0 h1 h3).mono ?_
  rw [h2]
  rintro e w1 ⟨rfl, b1⟩
  have wa := wb0.next b1
  have wb := wb1.next b1
  have HW := veil wb
  have HB := veil (Below.next B0 b1)
  obtain ⟨c0, c1, c2, c3, c4, c5, c6, c7, c8⟩ := wa.cells
  obtain ⟨d0, d1, d2, d3, d4, d5, d6, d7, d8⟩ := wb.cells
  have df := wb.free
  clear wa wb wb0 wb1 B0 S0 b1 h
  go_wp2
  exact bodyPost_ret (ret_IdTaken ((unveil HW).store t s) rfl rfl rfl) rfl ⟨rfl, winStore_below (unveil HB) _ (by omega) _ _⟩

theorem layK_yes {l : List Int} {id : Int} {k : Nat} (hd : (layK l id k).2 = false) (hx : id < l.getD k 0) : layK l id (k + 1) = ((layK l id k).1 ++ [id] ++ [l.getD k 0], true) := by rw [layK, if_pos ⟨hd, hx⟩]
theorem layK_no {l : List Int} {id : Int} {k : Nat} (h : ¬ ((layK l id k).2 = false ∧ id < l.getD k 0)) : layK l id (k + 1) = ((layK l id k).1 ++ [l.getD k 0], (layK l id k).2) := by rw [layK, if_neg h]

set_option maxRecDepth 20000 in
set_option maxHeartbeats 4000000 in
theorem idTaken_new (t id : Int) (s : Nat → Bool) (w : World) (h : WinOk t s) (h0 : 0 ≤ id) (h1 : id ≤ 1073741824) (h2 : t - 8 ≤ id) (h3 : inWin t s id = false) :
    Calls Tryz.prog 90 #[winVal t s, .int .i64 id] w fun e w' => e = .returned (.tuple #[winVal (takeT t id) (takeS t s id), .bool true, .int .i64 0]) ∧ Below w.heap.size w w' := by
  have hl := h.low
  have hh := h.high
  obtain ⟨i0, hi, hz0, hz1, hz2⟩ := info_parts Tryz.infoI
  obtain ⟨p1, p2, p3, p4⟩ := laid_window h h0 h3
  have hT := takeT_gt t id
  have hT2 : takeT t id ≤ 1073741825 := by unfold takeT; split <;> omega
  have hln := length_idsTo t s 8
  have hwl := ids_wf (s := s) hl hh 8 (Nat.le_refl _)
  go_enter Tryz.func90, Tryz.ntmps90
  go_wp2_with fail
  obtain ⟨W, hW, wb0, wb1, B0, S0⟩ := two_wins w t s
  rw [← hW]
  clear hW
  refine (idSeen_yes t id s _ h h0 h1 h2).mono ?_
  rw [h3]
  rintro e w1 ⟨rfl, b1⟩
  have wa := wb0.next b1
  have wb := wb1.next b1
  have HW := veil wb
  have HB := veil (Below.next B0 b1)
  obtain ⟨c0, c1, c2, c3, c4, c5, c6, c7, c8⟩ := wa.cells
  clear wa wb wb0 wb1 B0 S0 b1
  go_wp2_with fail
  refine (idsOf_any t s _ hl hh).mono ?_
  rintro e w2 ⟨a, cap, rfl, r2, k2, n2, m2, b2⟩
  have vb := (unveil HW).next b2
  have HV := veil vb
  have hR := vb.lt
  have HB2 := veil (Below.next (unveil HB) b2)
  clear c0 c1 c2 c3 c4 c5 c6 c7 c8 HW HB b2 vb h h3
  have hll := laid_length (idsTo t s 8) id
  generalize idsTo t s 8 = l at r2 k2 hln p1 p2 p3 p4 hwl hll ⊢
  obtain ⟨n, hn⟩ : ∃ n, n = l.length := ⟨_, rfl⟩
  rw [← hn] at r2 k2 hln hll ⊢
  have HN := veil hn
  clear hn
  have HF : Hid (∀ (a : Option Addr) (m cap : Nat) (w' : World), RowK .i64 w' a m (laid l id) → Calls Tryz.prog 103 #[.slice a m cap] w' fun e w'' => e = .returned (winVal (takeT t id) (takeS t s id)) ∧ Below w'.heap.size w' w'') := veil (by
    intro a m cap w' r
    have hm := r.len_eq
    have hpos : 0 < (laid l id).length := List.length_pos_iff.2 (by intro h0; rw [h0] at p4; cases p4)
    rw [← winVal_eq (rfl : takeT t id = takeT t id) p2]
    have := windowOf_any a m cap (laid l id) w' r (by omega) (by omega) (by intro x hx; have := p3 x hx; rw [p1]; omega)
    rw [p1] at this
    exact this)
  have HL : Hid (∀ u ∈ laid l id, (Lit.int .i64 u).wf = true) := veil (by
    intro u hu
    have := p3 u hu
    exact wf_i64 (by omega) (by omega))
  have HD1 : Hid ((layK l id n).2 = true → laid l id = (layK l id n).1) := veil (by
    intro hd
    rw [unveil HN] at hd ⊢
    unfold laid
    rw [if_pos hd])
  have HD0 : Hid ((layK l id n).2 = false → laid l id = (layK l id n).1 ++ [id]) := veil (by
    intro hd
    rw [unveil HN] at hd ⊢
    unfold laid
    rw [if_neg (by rw [hd]; simp)])
  clear p1 p2 p3 p4
  go_wp2_with fail
  go_loopw [10, 11, 12] (fun v d i wr => ∃ k : Nat, k ≤ n ∧ i = .int .i64 k ∧ d = .bool (layK l id k).2 ∧ wr.ownsRow w2.heap.size 3 1 v (layK l id k).1.length ((layK l id k).1.map (Value.int .i64)) ∧ (layK l id k).1.length ≤ 2 * k ∧ Below w2.heap.size w2 wr)
    (fun _ _ i _ => n - (intOf i).toNat)
  case atStart => exact ⟨0, by omega, rfl, rfl, World.ownsRow_nil _ _ _ _, by simp [layK], Below.refl _ _⟩
  case round =>
    obtain ⟨k, hk, rfl, rfl, hown, hlen, B⟩ := hrel
    have hsz : w2.heap.size ≤ wr.heap.size := B.size
    by_cases hlt : k < n
    · obtain ⟨b', off, rfl⟩ := r2.form (by omega)
      have hx := (r2.below B).at k hlt
      have HX : Hid (∀ w', Below w2.heap.size w2 w' → w'.cell? ⟨b', off + k, none⟩ = some (.int .i64 (l.getD k 0))) := veil (fun w' hb => (r2.below hb).at k hlt)
      have LY := veil (@layK_yes l id k)
      have LN := veil (@layK_no l id k)
      generalize l.getD k 0 = x at hx HX LY LN
      obtain ⟨o, d, hod⟩ : ∃ o d, layK l id k = (o, d) := ⟨_, _, rfl⟩
      rw [hod] at hown hlen LY LN ⊢
      clear hod
      simp only at hown hlen
      by_cases hc : d = false ∧ id < x
      · obtain ⟨rfl, hidx⟩ := hc
        have e1 : Hid (layK l id (k + 1) = (o ++ [id] ++ [x], true)) := veil (unveil LY rfl hidx)
        clear LY LN
        go_wp2_with (first
          | (at_builtin; refine wpList_append_own _ rfl _ _ 138 rfl w2.heap.size 3 i0 (.int .i64 0) 1 8 Tryz.underlying138 hi hz0 hz1 hz2 rfl (by decide) _ _ _ rfl (hown.alloc _) ⟨wr.heap.size, 0, none⟩ 1 1 [.int .i64 id] rfl rfl (cell_one_new _ _ _) (ints_oneCell .i64 [id]) (by unfold maxLen; omega) (by omega) (by simp; omega) ?_; intro v4 w4 hown4 hgrow4 _; have B4 : Below w2.heap.size w2 w4 := (B.alloc hsz _).grown hgrow4 (by simp; omega) (by intro t ht; exact (hown.lt t ht).1); have hsz4 := B4.size; have hx4 := unveil HX w4 B4; clear hown hgrow4 hx)
          | (at_builtin; refine wpList_append_own _ rfl _ _ 138 rfl w2.heap.size 3 i0 (.int .i64 0) 1 8 Tryz.underlying138 hi hz0 hz1 hz2 rfl (by decide) _ _ _ rfl (hown4.alloc _) ⟨w4.heap.size, 0, none⟩ 1 1 [.int .i64 x] rfl rfl (cell_one_new _ _ _) (ints_oneCell .i64 [x]) (by unfold maxLen; omega) (by omega) (by simp; omega) ?_; intro v6 w6 hown6 hgrow6 _; have B6 : Below w2.heap.size w2 w6 := (B4.alloc hsz4 _).grown hgrow6 (by simp; omega) (by intro t ht; exact (hown4.lt t ht).1); clear hown4 hgrow6 hx4))
        go_roundw
        case rel => exact ⟨k + 1, by omega, by go_num, by rw [unveil e1], by rw [unveil e1]; simpa using hown6, by rw [unveil e1]; simp; omega, B6⟩
        case measure => simp [intOf]; omega
      · have e1 : Hid (layK l id (k + 1) = (o ++ [x], d)) := veil (unveil LN hc)
        clear LY LN
        have hcd : ¬ (d = false) ∨ ¬ id < x := by
          by_cases hd : d = false
          · exact .inr fun h => hc ⟨hd, h⟩
          · exact .inl hd
        clear hc
        rcases hcd with hd | hidx
        · obtain rfl : d = true := by simpa using hd
          clear hd
          go_wp2_with (at_builtin; refine wpList_append_own _ rfl _ _ 138 rfl w2.heap.size 3 i0 (.int .i64 0) 1 8 Tryz.underlying138 hi hz0 hz1 hz2 rfl (by decide) _ _ _ rfl (hown.alloc _) ⟨wr.heap.size, 0, none⟩ 1 1 [.int .i64 x] rfl rfl (cell_one_new _ _ _) (ints_oneCell .i64 [x]) (by unfold maxLen; omega) (by omega) (by simp; omega) ?_; intro v4 w4 hown4 hgrow4 _; have B4 : Below w2.heap.size w2 w4 := (B.alloc hsz _).grown hgrow4 (by simp; omega) (by intro t ht; exact (hown.lt t ht).1); clear hown hgrow4 hx)
          go_roundw
          case rel => exact ⟨k + 1, by omega, by go_num, by rw [unveil e1], by rw [unveil e1]; simpa using hown4, by rw [unveil e1]; simp; omega, B4⟩
          case measure => simp [intOf]; omega
        · cases d
          · go_wp2_with (at_builtin; refine wpList_append_own _ rfl _ _ 138 rfl w2.heap.size 3 i0 (.int .i64 0) 1 8 Tryz.underlying138 hi hz0 hz1 hz2 rfl (by decide) _ _ _ rfl (hown.alloc _) ⟨wr.heap.size, 0, none⟩ 1 1 [.int .i64 x] rfl rfl (cell_one_new _ _ _) (ints_oneCell .i64 [x]) (by unfold maxLen; omega) (by omega) (by simp; omega) ?_; intro v4 w4 hown4 hgrow4 _; have B4 : Below w2.heap.size w2 w4 := (B.alloc hsz _).grown hgrow4 (by simp; omega) (by intro t ht; exact (hown.lt t ht).1); clear hown hgrow4 hx)
            go_roundw
            case rel => exact ⟨k + 1, by omega, by go_num, by rw [unveil e1], by rw [unveil e1]; simpa using hown4, by rw [unveil e1]; simp; omega, B4⟩
            case measure => simp [intOf]; omega
          · go_wp2_with (at_builtin; refine wpList_append_own _ rfl _ _ 138 rfl w2.heap.size 3 i0 (.int .i64 0) 1 8 Tryz.underlying138 hi hz0 hz1 hz2 rfl (by decide) _ _ _ rfl (hown.alloc _) ⟨wr.heap.size, 0, none⟩ 1 1 [.int .i64 x] rfl rfl (cell_one_new _ _ _) (ints_oneCell .i64 [x]) (by unfold maxLen; omega) (by omega) (by simp; omega) ?_; intro v4 w4 hown4 hgrow4 _; have B4 : Below w2.heap.size w2 w4 := (B.alloc hsz _).grown hgrow4 (by simp; omega) (by intro t ht; exact (hown.lt t ht).1); clear hown hgrow4 hx)
            go_roundw
            case rel => exact ⟨k + 1, by omega, by go_num, by rw [unveil e1], by rw [unveil e1]; simpa using hown4, by rw [unveil e1]; simp; omega, B4⟩
            case measure => simp [intOf]; omega
    · obtain rfl : k = n := by omega
      generalize laid l id = out at HF HL HD1 HD0
      obtain ⟨o, d, hod⟩ : ∃ o d, layK l id k = (o, d) := ⟨_, _, rfl⟩
      rw [hod] at hown hlen HD1 HD0 ⊢
      clear hod
      simp only at hown hlen HD1 HD0
      have HV2 := veil (fun w' (hb : Below w2.heap.size w2 w') => (unveil HV).below hb hR)
      cases d
      · have eo : out = o ++ [id] := unveil HD0 rfl
        go_wp2_with (first
          | (at_builtin; refine wpList_append_own _ rfl _ _ 138 rfl w2.heap.size 3 i0 (.int .i64 0) 1 8 Tryz.underlying138 hi hz0 hz1 hz2 rfl (by decide) _ _ _ rfl (hown.alloc _) ⟨wr.heap.size, 0, none⟩ 1 1 [.int .i64 id] rfl rfl (cell_one_new _ _ _) (ints_oneCell .i64 [id]) (by unfold maxLen; omega) (by omega) (by simp; omega) ?_; intro v4 w4 hown4 hgrow4 _; have B4 : Below w2.heap.size w2 w4 := (B.alloc hsz _).grown hgrow4 (by simp; omega) (by intro t ht; exact (hown.lt t ht).1); clear hown hgrow4))
        obtain ⟨a4, cap4, rfl, r4, _, _, _, _⟩ := RowK.ofOwns (l := out) (by rw [eo]; simpa using hown4) (unveil HL)
        refine (unveil HF a4 _ cap4 _ r4).mono ?_
        rintro e w6 ⟨rfl, b6⟩
        have vb := (unveil HV2 _ B4).next b6
        have HB6 := veil (Below.next (Below.next (unveil HB2) B4) b6)
        obtain ⟨d0, d1, d2, d3, d4, d5, d6, d7, d8⟩ := vb.cells
        have df := vb.free
        have VB := veil vb
        clear vb b6 r4
        go_wp2
        exact bodyPost_ret (ret_IdTaken ((unveil VB).store (takeT t id) (takeS t s id)) rfl rfl rfl) rfl ⟨rfl, winStore_below (unveil HB6) _ (by omega) _ _⟩
      · have eo : out = o := unveil HD1 rfl
        obtain ⟨a4, cap4, rfl, r4, _, _, _, _⟩ := RowK.ofOwns (l := out) (by rw [eo]; exact hown) (unveil HL)
        clear hown
        go_wp2_with fail
        refine (unveil HF a4 _ cap4 _ r4).mono ?_
        rintro e w6 ⟨rfl, b6⟩
        have vb := (unveil HV2 _ B).next b6
        have HB6 := veil (Below.next (Below.next (unveil HB2) B) b6)
        obtain ⟨d0, d1, d2, d3, d4, d5, d6, d7, d8⟩ := vb.cells
        have df := vb.free
        have VB := veil vb
        clear vb b6 r4
        go_wp2
        exact bodyPost_ret (ret_IdTaken ((unveil VB).store (takeT t id) (takeS t s id)) rfl rfl rfl) rfl ⟨rfl, winStore_below (unveil HB6) _ (by omega) _ _⟩
end Go.Proofs.YtmhdpbmjhijhkaaGreat
