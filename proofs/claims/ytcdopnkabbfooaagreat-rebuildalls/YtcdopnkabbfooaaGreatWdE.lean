/- Walk of window.Take. -/
import Derived.Test.YtcdopnkabbfooaaGreatWdD
namespace Go.Proofs.YtcdopnkabbfooaaGreat
open Go.RowKit

theorem ret_Take {W : World} {R : Nat} {t e : Int} {s : Nat → Bool} {b : Bool} {tmps : Array Value} (h : winBlock W R t s) (t4 : tmps[4]? = some (.pointer (some ⟨R, 0, none⟩))) (t5 : tmps[5]? = some (.bool b)) (t6 : tmps[6]? = some (.int .i64 e)) :
    (results Tryz.f109 tmps).run Tryz.prog W = .ok (.tuple #[winVal t s, .bool b, .int .i64 e]) W := by
  obtain ⟨c0, c1, c2, c3, c4, c5, c6, c7, c8⟩ := h.cells
  simp [results, Tryz.results109, go_sem, c0, c1, c2, c3, c4, c5, c6, c7, c8, t4, t5, t6]

theorem two_wins (w : World) (t : Int) (s : Nat → Bool) : ∃ W, W = (w.alloc (.cells (winCells t s) 89)).alloc (.cells #[.int .i64 0, .bool false, .bool false, .bool false, .bool false, .bool false, .bool false, .bool false, .bool false] 89) ∧
    winBlock W w.heap.size t s ∧ winBlock W (w.heap.size + 1) 0 noneS ∧ Below w.heap.size w W ∧ W.heap.size = w.heap.size + 2 := by
  refine ⟨_, rfl, (winBlock.new w t s).below (below1 _ _) (by simp), ?_, below2 _ _ _, by simp⟩
  have := winBlock.new (w.alloc (.cells (winCells t s) 89)) 0 noneS
  rw [show (w.alloc (.cells (winCells t s) 89)).heap.size = w.heap.size + 1 by simp] at this
  exact this

/-- no window stored over another one. -/
theorem winBlock.none {w : World} {R : Nat} {t : Int} {s : Nat → Bool} (h : winBlock w R t s) :
    winBlock (((((((((w.setCell ⟨R, 0, none⟩ (.int .i64 0)).setCell ⟨R, 1, none⟩ (.bool false)).setCell ⟨R, 2, none⟩ (.bool false)).setCell ⟨R, 3, none⟩ (.bool false)).setCell ⟨R, 4, none⟩ (.bool false)).setCell ⟨R, 5, none⟩ (.bool false)).setCell ⟨R, 6, none⟩ (.bool false)).setCell ⟨R, 7, none⟩ (.bool false)).setCell ⟨R, 8, none⟩ (.bool false)) R 0 noneS :=
  h.store 0 noneS
theorem winNone_below {B : Nat} {w0 w : World} (hb : Below B w0 w) (R : Nat) (hR : B ≤ R) :
    Below B w0 (((((((((w.setCell ⟨R, 0, none⟩ (.int .i64 0)).setCell ⟨R, 1, none⟩ (.bool false)).setCell ⟨R, 2, none⟩ (.bool false)).setCell ⟨R, 3, none⟩ (.bool false)).setCell ⟨R, 4, none⟩ (.bool false)).setCell ⟨R, 5, none⟩ (.bool false)).setCell ⟨R, 6, none⟩ (.bool false)).setCell ⟨R, 7, none⟩ (.bool false)).setCell ⟨R, 8, none⟩ (.bool false)) :=
  winStore_below hb R hR 0 noneS

set_option maxHeartbeats 1000000 in
/-- an error of Seen. -/
theorem take_err (t id e0 : Int) (s : Nat → Bool) (w : World) (he : ¬ e0 = 0) (h : ∀ w, Calls Tryz.prog 120 #[winVal t s, .int .i64 id] w fun e w' => e = .returned (.tuple #[.bool false, .int .i64 e0]) ∧ Below w.heap.size w w') :
    Calls Tryz.prog 109 #[winVal t s, .int .i64 id] w fun e w' => e = .returned (.tuple #[winVal 0 noneS, .bool false, .int .i64 e0]) ∧ Below w.heap.size w w' := by
  go_enter Tryz.func109, Tryz.ntmps109
  go_wp2_with fail
  obtain ⟨W, hW, wb0, wb1, B0, S0⟩ := two_wins w t s
  rw [← hW]
  clear hW
  refine (h _).mono ?_
  rintro e w1 ⟨rfl, b1⟩
  have wb := wb1.next b1
  have HW := veil wb
  have HB := veil (Below.next B0 b1)
  obtain ⟨d0, d1, d2, d3, d4, d5, d6, d7, d8⟩ := wb.cells
  have df := wb.free
  clear wb wb0 wb1 B0 S0 b1 h
  go_wp2
  exact bodyPost_ret (ret_Take (unveil HW).none rfl rfl rfl) rfl ⟨rfl, winNone_below (unveil HB) _ (by omega)⟩

theorem take_state (t id : Int) (s : Nat → Bool) (w : World) (h : ¬ WinOk t s) :
    Calls Tryz.prog 109 #[winVal t s, .int .i64 id] w fun e w' => e = .returned (.tuple #[winVal 0 noneS, .bool false, .int .i64 6]) ∧ Below w.heap.size w w' :=
  take_err t id 6 s w (by decide) (fun w => seen_state t id s w h)
theorem take_range (t id : Int) (s : Nat → Bool) (w : World) (h : WinOk t s) (hr : ¬ (0 ≤ id ∧ id ≤ 1073741824)) :
    Calls Tryz.prog 109 #[winVal t s, .int .i64 id] w fun e w' => e = .returned (.tuple #[winVal 0 noneS, .bool false, .int .i64 2]) ∧ Below w.heap.size w w' :=
  take_err t id 2 s w (by decide) (fun w => seen_range t id s w h hr)
theorem take_low (t id : Int) (s : Nat → Bool) (w : World) (h : WinOk t s) (h0 : 0 ≤ id) (h1 : id ≤ 1073741824) (h2 : id < t - 8) :
    Calls Tryz.prog 109 #[winVal t s, .int .i64 id] w fun e w' => e = .returned (.tuple #[winVal 0 noneS, .bool false, .int .i64 9]) ∧ Below w.heap.size w w' :=
  take_err t id 9 s w (by decide) (fun w => seen_low t id s w h h0 h1 h2)

set_option maxHeartbeats 1000000 in
theorem take_old (t id : Int) (s : Nat → Bool) (w : World) (h : WinOk t s) (h0 : 0 ≤ id) (h1 : id ≤ 1073741824) (h2 : inWin t s id = true) :
    Calls Tryz.prog 109 #[winVal t s, .int .i64 id] w fun e w' => e = .returned (.tuple #[winVal t s, .bool false, .int .i64 0]) ∧ Below w.heap.size w w' := by
  have h3 : t - 8 ≤ id := by
    obtain ⟨i, _, _, rfl⟩ := inWin_iff.1 h2
    omega
  go_enter Tryz.func109, Tryz.ntmps109
  go_wp2_with fail
  obtain ⟨W, hW, wb0, wb1, B0, S0⟩ := two_wins w t s
  rw [← hW]
  clear hW
  refine (seen_yes t id s _ h h0 h1 h3).mono ?_
  rw [h2]
  rintro e w1 ⟨rfl, b1⟩
  have wa := wb0.next b1
  have wb := wb1.next b1
  have HW := veil wb
  have HB := veil (Below.next B0 b1)
  obtain ⟨c0, c1, c2, c3, c4, c5, c6, c7, c8⟩ := wa.cells
  obtain ⟨d0, d1, d2, d3, d4, d5, d6, d7, d8⟩ := wb.cells
  have df := wb.free
  clear wa wb wb0 wb1 B0 S0 b1 h
  go_wp2
  exact bodyPost_ret (ret_Take ((unveil HW).store t s) rfl rfl rfl) rfl ⟨rfl, winStore_below (unveil HB) _ (by omega) _ _⟩

theorem mark_below {B R o : Nat} {w0 w : World} {v : Value} (hb : Below B w0 w) (hR : B ≤ R) : Below B w0 (w.setCell ⟨R, o, none⟩ v) := hb.setCell hR v

set_option maxHeartbeats 1000000 in
theorem take_gap (t : Int) (k : Nat) (s s' : Nat → Bool) (w : World) (h : WinOk t s) (h0 : 0 ≤ t - 8 + (k : Int)) (h1 : k < 8) (h2 : s k = false) (hs : ∀ i, i < 8 → s' i = if i = k then true else s i) :
    Calls Tryz.prog 109 #[winVal t s, .int .i64 (t - 8 + (k : Int))] w fun e w' => e = .returned (.tuple #[winVal t s', .bool true, .int .i64 0]) ∧ Below w.heap.size w w' := by
  have hl := h.low
  have hh := h.high
  obtain ⟨id, hid⟩ : ∃ id, id = t - 8 + (k : Int) := ⟨_, rfl⟩
  have H1 : ∀ w, Calls Tryz.prog 120 #[winVal t s, .int .i64 id] w fun e w' => e = .returned (.tuple #[.bool false, .int .i64 0]) ∧ Below w.heap.size w w' := by
    intro w
    have := seen_in t k s w h h0 h1
    rw [h2] at this
    rw [hid]
    exact this
  rw [← hid]
  have h6 : ¬ t ≤ id := by omega
  have h7 : (id - (t - 8)).toNat = k := by omega
  have h8 : 0 ≤ id - (t - 8) := by omega
  have h9 : id - (t - 8) < 8 := by omega
  have HI := veil hid
  have HS := veil hs
  clear hid h0 hs
  go_enter Tryz.func109, Tryz.ntmps109
  go_wp2_with fail
  obtain ⟨W, hW, wb0, wb1, B0, S0⟩ := two_wins w t s
  rw [← hW]
  clear hW
  refine (H1 _).mono ?_
  rintro e w1 ⟨rfl, b1⟩
  have wa := wb0.next b1
  have wb := wb1.next b1
  have HV := veil wa
  have HW := veil wb
  have HB := veil (Below.next B0 b1)
  obtain ⟨c0, c1, c2, c3, c4, c5, c6, c7, c8⟩ := wa.cells
  clear wa wb wb0 wb1 B0 S0 b1 h h2 H1
  go_wp2_with (go_at_call 117; refine (lowest_any t s _ hl hh).mono ?_; rintro e w2 ⟨rfl, b2⟩; have va := (unveil HV).next b2; have vb := (unveil HW).next b2; have HB2 := veil (Below.next (unveil HB) b2); clear HB HW HV; have ck := va.cell k h1; have cf := va.free; have vc := va.mark k h1 true s' (unveil HS); have vd := vb.other (o := 1 + k) (v := .bool true) (R' := w.heap.size) (by omega); obtain ⟨c0, c1, c2, c3, c4, c5, c6, c7, c8⟩ := vc.cells; obtain ⟨d0, d1, d2, d3, d4, d5, d6, d7, d8⟩ := vd.cells; have df := vd.free; have VC := veil vc; have VD := veil vd; clear va vb vc vd)
  exact bodyPost_ret (ret_Take ((unveil VD).store t s') rfl rfl rfl) rfl ⟨rfl, winStore_below (mark_below (unveil HB2) (Nat.le_refl _)) _ (by omega) _ _⟩

set_option maxHeartbeats 2000000 in
theorem take_jump (t id : Int) (s s1 s' : Nat → Bool) (w : World) (h : WinOk t s) (h0 : t ≤ id) (h1 : id ≤ 1073741824) (hs1 : s1 = fun j : Nat => inWin t s (id + 1 - 8 + (j : Int))) (hs : ∀ i, i < 8 → s' i = if i = 7 then true else s1 i) :
    Calls Tryz.prog 109 #[winVal t s, .int .i64 id] w fun e w' => e = .returned (.tuple #[winVal (id + 1) s', .bool true, .int .i64 0]) ∧ Below w.heap.size w w' := by
  have hl := h.low
  have hh := h.high
  obtain ⟨T, hT⟩ : ∃ T, T = id + 1 := ⟨_, rfl⟩
  have H2 : ∀ w, Calls Tryz.prog 121 #[winVal t s, .int .i64 T] w fun e w' => e = .returned (winVal T s1) ∧ Below w.heap.size w w' := by
    intro w
    have := raised_any t T s w hl (by omega) (by omega)
    rw [hs1, ← hT]
    exact this
  have H1 := fun w => seen_over t id s w h (by omega) h1 h0
  rw [← hT]
  have h7 : id - (T - 8) = 7 := by omega
  have h8 : 0 ≤ T := by omega
  have h9 : T ≤ 1073741825 := by omega
  have hw : IntKind.i64.wrap (id + 1) = T := by rw [IntKind.wrap_i64]; omega
  have HS := veil hs
  clear hs hs1 hT
  go_enter Tryz.func109, Tryz.ntmps109
  go_wp2_with fail
  obtain ⟨W, hW, wb0, wb1, B0, S0⟩ := two_wins w t s
  rw [← hW]
  clear hW
  refine (H1 _).mono ?_
  rintro e w1 ⟨rfl, b1⟩
  have wa := wb0.next b1
  have wb := wb1.next b1
  have HV := veil wa
  have HW := veil wb
  have HB := veil (Below.next B0 b1)
  obtain ⟨c0, c1, c2, c3, c4, c5, c6, c7, c8⟩ := wa.cells
  clear wa wb wb0 wb1 B0 S0 b1 h H1
  go_wp2_with fail
  refine (H2 _).mono ?_
  rintro e w2 ⟨rfl, b2⟩
  have va := (unveil HV).next b2
  have vb := (unveil HW).next b2
  have HB2 := veil (Below.next (unveil HB) b2)
  obtain ⟨c0, c1, c2, c3, c4, c5, c6, c7, c8⟩ := va.cells
  have cf := va.free
  clear HB HV HW b2 H2
  go_wp2_with fail
  obtain ⟨W3, hW3, va3, vb3, HB3⟩ : ∃ W3, W3 = winStore w2 w.heap.size T s1 ∧ winBlock W3 w.heap.size T s1 ∧ winBlock W3 (w.heap.size + 1) 0 noneS ∧ Below w.heap.size w W3 := by
    refine ⟨_, rfl, va.store T s1, ?_, winStore_below (unveil HB2) _ (Nat.le_refl _) _ _⟩
    unfold winBlock at vb ⊢
    rw [winStore_other _ _ _ _ _ (by omega)]
    exact vb
  unfold winStore at hW3
  rw [← hW3]
  clear hW3 va vb HB2 c0 c1 c2 c3 c4 c5 c6 c7 c8 cf
  refine (lowest_any T s1 _ h8 h9).mono ?_
  rintro e w4 ⟨rfl, b4⟩
  have va := va3.next b4
  have vb := vb3.next b4
  have HB4 := veil (Below.next HB3 b4)
  have vc := va.mark 7 (by omega) true s' (unveil HS)
  have vd := vb.other (o := 8) (v := .bool true) (R' := w.heap.size) (by omega)
  have ck := va.cell 7 (by omega)
  have cf := va.free
  obtain ⟨c0, c1, c2, c3, c4, c5, c6, c7, c8⟩ := vc.cells
  obtain ⟨d0, d1, d2, d3, d4, d5, d6, d7, d8⟩ := vd.cells
  have df := vd.free
  have VC := veil vc
  have VD := veil vd
  clear va vb vc vd va3 vb3 HB3 b4
  go_wp2
  exact bodyPost_ret (ret_Take ((unveil VD).store T s') rfl rfl rfl) rfl ⟨rfl, winStore_below (mark_below (unveil HB4) (Nat.le_refl _)) _ (by omega) _ _⟩

/-- Take at an id that is new. -/
theorem take_new (t id : Int) (s : Nat → Bool) (w : World) (h : WinOk t s) (h0 : 0 ≤ id) (h1 : id ≤ 1073741824) (h2 : t - 8 ≤ id) (h3 : inWin t s id = false) :
    Calls Tryz.prog 109 #[winVal t s, .int .i64 id] w fun e w' => e = .returned (.tuple #[winVal (takeT t id) (takeS t s id), .bool true, .int .i64 0]) ∧ Below w.heap.size w w' := by
  by_cases hc : t ≤ id
  · have e : takeT t id = id + 1 := by unfold takeT; rw [if_pos hc]
    have := take_jump t id s (fun j : Nat => inWin t s (id + 1 - 8 + (j : Int))) (takeS t s id) w h hc h1 rfl (by
      intro i hi
      unfold takeS
      rw [e]
      by_cases h7 : i = 7
      · subst h7
        rw [if_pos rfl, show decide (id + 1 - 8 + ((7 : Nat) : Int) = id) = true by simp; omega]
        rfl
      · rw [if_neg h7, show decide (id + 1 - 8 + (i : Int) = id) = false by simp; omega]
        rfl)
    rw [e]
    exact this
  · have e : takeT t id = t := by unfold takeT; rw [if_neg hc]
    obtain ⟨k, hk⟩ : ∃ k : Nat, id = t - 8 + k := ⟨(id - (t - 8)).toNat, by omega⟩
    have hk8 : k < 8 := by omega
    have hsk : s k = false := by rw [← inWin_at (t := t) (s := s) k hk8, ← hk]; exact h3
    have := take_gap t k s (takeS t s id) w h (by omega) hk8 hsk (by
      intro i hi
      unfold takeS
      rw [e, inWin_at i hi]
      by_cases h7 : i = k
      · subst h7
        rw [if_pos rfl, show decide (t - 8 + (i : Int) = id) = true by simp; omega]
        rfl
      · rw [if_neg h7, show decide (t - 8 + (i : Int) = id) = false by simp; omega]
        rfl)
    rw [e]
    rw [← hk] at this
    exact this
end Go.Proofs.YtcdopnkabbfooaaGreat
