/- Write once more: what it makes is a row of its own. -/
import Derived.Test.YtlfecmkpafgcmaaTpH
namespace Go.Proofs.Ytlfecmkpafgcmaa
open Go.RowKit

theorem own_mono' {w : World} {base base' e size n : Nat} {v : Value} {xs : List Value} (h : w.ownsRow base e size v n xs) (hb : base' ≤ base) : w.ownsRow base' e size v n xs := by
  refine ⟨h.1, ?_⟩
  rcases h.2 with h' | ⟨g, cap, cur, h1, h2, h3⟩
  · exact .inl h'
  · exact .inr ⟨g, cap, cur, h1, Nat.le_trans hb h2, h3⟩
theorem own_still {w w' : World} {base e size n : Nat} {v : Value} {xs : List Value} (h : w.ownsRow base e size v n xs) (hs : ∀ g, base ≤ g → g < w.heap.size → w'.heap[g]? = w.heap[g]?) : w'.ownsRow base e size v n xs := by
  refine ⟨h.1, ?_⟩
  rcases h.2 with h' | ⟨g, cap, cur, h1, h2, h3, h4⟩
  · exact .inl h'
  · have hlt : g < w.heap.size := by
      rcases Nat.lt_or_ge g w.heap.size with h' | h'
      · exact h'
      · rw [Array.getElem?_eq_none h'] at h3; cases h3
    exact .inr ⟨g, cap, cur, h1, h2, (hs g h2 hlt).trans h3, h4⟩
theorem joined_two_own (b : Nat) (t : TypeId) (f : Nat × Nat) (a : Option Addr) (len cap : Nat) (l : List Int) (a' : Option Addr) (len' cap' : Nat) (l' : List Int) (W : World)
    (hcell : W.heap[b]? = some (.cells #[.slice a len cap, .slice a' len' cap'] t f)) (hb : b < W.heap.size) (hs : len + len' ≤ 1000000)
    (hp : RowK .u8 W a len l) (hpn : a = none → cap = 0) (hq : RowK .u8 W a' len' l') (hqn : a' = none → cap' = 0) :
    Calls Try.prog 34 #[.slice (some ⟨b, 0, none⟩) 2 2] W fun e w' =>
      ∃ a2 cap2, e = .returned (.slice a2 (len + len') cap2) ∧ RowK .u8 w' a2 (len + len') (l ++ l') ∧ len + len' ≤ cap2 ∧ (a2 = none → cap2 = 0) ∧ cap2 ≤ 9223372036854775807 ∧ (∀ x, a2 = some x → W.heap.size ≤ x.block) ∧ Below W.heap.size W w' ∧ w'.ownsRow W.heap.size 5 1 (.slice a2 (len + len') cap2) (len + len') ((l ++ l').map (Value.int .u8)) := by
  have e1 : sizes [⟨a, len, cap, l⟩, ⟨a', len', cap', l'⟩] = len + len' := by simp [sizes]
  have e2 : jointly [⟨a, len, cap, l⟩, ⟨a', len', cap', l'⟩] = l ++ l' := by simp [jointly]
  have h := joined_own b 0 2 [⟨a, len, cap, l⟩, ⟨a', len', cap', l'⟩] W (by simp) hb (by rw [e1]; exact hs) (two_cells ⟨a, len, cap, l⟩ ⟨a', len', cap', l'⟩ hcell) (two_rows ⟨a, len, cap, l⟩ ⟨a', len', cap', l'⟩ hp hpn hq hqn)
  rw [e1, e2] at h
  exact h

set_option maxRecDepth 20000 in
set_option maxHeartbeats 1000000 in
theorem write_own (a : Option Addr) (len cap : Nat) (l : List Int) (s x0 x1 x2 x3 x4 x5 x6 x7 x8 x9 : Int) (w : World) (h : RowK .u8 w a len l) (hn : a = none → cap = 0) (h1 : len ≤ 100000) (h2 : 0 ≤ s) (h3 : s ≤ len) (hf : recordFault x0 x1 x2 x3 x4 x5 x6 x7 x8 x9 = 0) :
    Calls Try.prog 17 #[.agg #[.slice a len cap, .int .i64 s], .agg #[.int .i64 x0, .int .i64 x1, .int .i64 x2, .int .i64 x3, .int .i64 x4, .int .i64 x5, .int .i64 x6, .int .i64 x7, .int .i64 x8, .int .i64 x9]] w fun e w' =>
      (100000 < len + ((bytesOf x0 x1 x2 x3 x4 x5 x6 x7 x8 x9).length + 6) ∧ e = .returned (.tuple #[.agg #[.slice none 0 0, .int .i64 0], .int .i64 14]) ∧ Below w.heap.size w w') ∨
      (len + ((bytesOf x0 x1 x2 x3 x4 x5 x6 x7 x8 x9).length + 6) ≤ 100000 ∧ ∃ a' cap', e = .returned (.tuple #[.agg #[.slice a' (len + ((bytesOf x0 x1 x2 x3 x4 x5 x6 x7 x8 x9).length + 6)) cap', .int .i64 s], .int .i64 0]) ∧
        RowK .u8 w' a' (len + ((bytesOf x0 x1 x2 x3 x4 x5 x6 x7 x8 x9).length + 6)) (l ++ frameOf (bytesOf x0 x1 x2 x3 x4 x5 x6 x7 x8 x9)) ∧ len + ((bytesOf x0 x1 x2 x3 x4 x5 x6 x7 x8 x9).length + 6) ≤ cap' ∧ (a' = none → cap' = 0) ∧ cap' ≤ 9223372036854775807 ∧ (∀ x, a' = some x → w.heap.size ≤ x.block) ∧ Below w.heap.size w w' ∧
        w'.ownsRow w.heap.size 5 1 (.slice a' (len + ((bytesOf x0 x1 x2 x3 x4 x5 x6 x7 x8 x9).length + 6)) cap') (len + ((bytesOf x0 x1 x2 x3 x4 x5 x6 x7 x8 x9).length + 6)) ((l ++ frameOf (bytesOf x0 x1 x2 x3 x4 x5 x6 x7 x8 x9)).map (Value.int .u8))) := by
  have HL : Hid ((bytesOf x0 x1 x2 x3 x4 x5 x6 x7 x8 x9).length = if x0 = 2 ∨ x0 = 5 then 40 else 16) := bytesOf_len x0 x1 x2 x3 x4 x5 x6 x7 x8 x9
  go_enter Try.func17, Try.ntmps17
  go_wp2_with fail
  obtain ⟨W, hW, tb0, rb, tb1, B0, S0⟩ := three_boxes w a len cap s x0 x1 x2 x3 x4 x5 x6 x7 x8 x9
  rw [← hW]
  have r0 := h.below B0
  clear hW h
  refine (mayBe_yes a len cap s _ h1 h2 h3).mono ?_
  rintro e w1 ⟨rfl, b1⟩
  have ta2 := tb0.below b1 tb0.lt
  have tb2 := tb1.below b1 tb1.lt
  have rb1 := rb.below b1 rb.lt
  have r1 := r0.below b1
  have z1 := b1.size
  have m0 := rb1.cell 0 (by omega)
  have m1 := rb1.cell 1 (by omega)
  have m2 := rb1.cell 2 (by omega)
  have m3 := rb1.cell 3 (by omega)
  have m4 := rb1.cell 4 (by omega)
  have m5 := rb1.cell 5 (by omega)
  have m6 := rb1.cell 6 (by omega)
  have m7 := rb1.cell 7 (by omega)
  have m8 := rb1.cell 8 (by omega)
  have m9 := rb1.cell 9 (by omega)
  simp only [List.getD_cons_zero, List.getD_cons_succ] at m0 m1 m2 m3 m4 m5 m6 m7 m8 m9
  have B1 := Below.next B0 b1
  clear b1 B0 tb0 tb1 rb rb1 r0
  go_wp2_with fail
  refine (encode_of x0 x1 x2 x3 x4 x5 x6 x7 x8 x9 _ hf).mono ?_
  rintro e w2 ⟨g, n, rfl, hnn, r2, b2⟩
  have hnl : n = (bytesOf x0 x1 x2 x3 x4 x5 x6 x7 x8 x9).length := r2.len_eq.symm
  have hn1 : n ≤ 40 := by rw [hnn]; split <;> omega
  clear hnn HL
  subst hnl
  generalize hbs : bytesOf x0 x1 x2 x3 x4 x5 x6 x7 x8 x9 = bs at r2 hn1 ⊢
  have ta3 := ta2.below b2 ta2.lt
  have tb3 := tb2.below b2 tb2.lt
  have q2 := r1.below b2
  have B2 := Below.next B1 b2
  have z2 := b2.size
  clear m0 m1 m2 m3 m4 m5 m6 m7 m8 m9 b2 tb2 ta2 r1 B1 hf
  have HB := hide hbs
  clear hbs
  go_wp2_with fail
  refine (frame_any (some ⟨g, 0, none⟩) bs.length bs.length bs _ r2 (by simp) (by omega)).mono ?_
  rintro e w3 ⟨a3, cap3, rfl, r3, c3, n3, _, y3, b3⟩
  have ta4 := ta3.below b3 ta3.lt
  have tb4 := tb3.below b3 tb3.lt
  have q3 := q2.below b3
  have B3 := Below.next B2 b3
  have z3 := b3.size
  have k0 := ta4.cell0
  have k1 := ta4.cell1
  have j0 := tb4.cell0
  have j1 := tb4.cell1
  have jf := tb4.free
  clear ta3 tb3 q2 B2 b3 r2
  by_cases hfull : 100000 < len + (bs.length + 6)
  · have hd : (100000 : Int) < (len : Int) + ((bs.length + 6 : Nat) : Int) := by omega
    have HF := hide hfull
    clear hfull
    obtain ⟨m, hm⟩ : ∃ m, bs.length + 6 = m := ⟨_, rfl⟩
    rw [hm] at hd ⊢
    go_wp2
    exact bodyPost_ret (ret_Write (tb4.store none 0 0 0) rfl rfl) rfl (.inl ⟨by rw [unhide HB]; exact unhide HF, rfl, (tape_same w3 _ _ _).under B3 (by omega)⟩)
  · have hd : ¬ (100000 : Int) < (len : Int) + ((bs.length + 6 : Nat) : Int) := by omega
    have hS : w.heap.size < w3.heap.size := by omega
    have hT : w.heap.size + 1 + 1 < w3.heap.size := by omega
    have HF := hide hfull
    clear j0 j1 jf hfull
    obtain ⟨m, hm⟩ : ∃ m, bs.length + 6 = m := ⟨_, rfl⟩
    rw [hm] at hd r3 c3 ⊢
    go_wp2_with fail
    have BW : Below w3.heap.size w3 (w3.alloc (.cells #[.slice a len cap, .slice a3 m cap3] 52)).drew := (below1 _ _).drew
    have hcell : (w3.alloc (.cells #[.slice a len cap, .slice a3 m cap3] 52)).drew.heap[w3.heap.size]? = some (.cells #[.slice a len cap, .slice a3 m cap3] 52) := heap_alloc_new w3 _
    have hlt1 : w3.heap.size < (w3.alloc (.cells #[.slice a len cap, .slice a3 m cap3] 52)).drew.heap.size := by
      have := alloc_size w3 (.cells #[.slice a len cap, .slice a3 m cap3] 52)
      show w3.heap.size < (w3.alloc (.cells #[.slice a len cap, .slice a3 m cap3] 52)).heap.size
      omega
    go_region_held3 (fun w' => w'.cell? ⟨w.heap.size, 0, none⟩ = some (.slice a len cap) ∧ w'.cell? ⟨w.heap.size, 1, none⟩ = some (.int .i64 s)) (first | go_keep | exact ⟨(b5.cell (p := ⟨w.heap.size, 0, none⟩) hS).trans k0, (b5.cell (p := ⟨w.heap.size, 1, none⟩) hS).trans k1⟩ | exact ⟨((tape_same w5 _ _ _).cell (by omega)).trans ((b5.cell (p := ⟨w.heap.size, 0, none⟩) hS).trans k0), ((tape_same w5 _ _ _).cell (by omega)).trans ((b5.cell (p := ⟨w.heap.size, 1, none⟩) hS).trans k1)⟩) ((go_at_call 34; refine (joined_two_own w3.heap.size _ _ a len cap l a3 m cap3 (frameOf bs) _ hcell hlt1 (by omega) (q3.below BW) hn (r3.below BW) n3).mono ?_; rintro e w5 ⟨a5, cap5, rfl, r5, c5, n5, m5, y5, bb, oo⟩; have o5 := hide oo; clear oo; have b5 : Below w3.heap.size w3 w5 := Below.next BW bb; have tb6 := tb4.below b5 hT; have j0 := tb6.cell0; have j1 := tb6.cell1; have jf := tb6.free; have y6 : ∀ x, a5 = some x → w3.heap.size ≤ x.block := fun x hx => Nat.le_trans (Nat.le_of_lt hlt1) (y5 x hx)))
    go_wp2
    refine bodyPost_ret (ret_Write (tb6.store a5 (len + m) cap5 s) rfl rfl) rfl (.inr ?_)
    have hfull := unhide HF
    rw [unhide HB, hm]
    exact ⟨by omega, a5, cap5, rfl, (tape_same w5 _ _ _).row r5 (fun x hx _ => by have := y6 x hx; omega), c5, n5, m5, fun x hx => by have := y6 x hx; omega, (tape_same w5 _ _ _).under (Below.next B3 b5) (by omega), own_mono' (own_still (unhide o5) (fun g hg _ => (tape_same w5 _ _ _).block g (by omega))) (by omega)⟩
end Go.Proofs.Ytlfecmkpafgcmaa
