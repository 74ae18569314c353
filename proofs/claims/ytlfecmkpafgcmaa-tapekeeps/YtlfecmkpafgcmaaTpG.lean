/- The walk of tape.Write. -/
import Derived.Test.YtlfecmkpafgcmaaTpF
import Derived.Test.YtlfecmkpafgcmaaPlB
namespace Go.Proofs.Ytlfecmkpafgcmaa
open Go.RowKit

/-- a tape, a record and a tape of nothing, each at a block of its own. -/
theorem three_boxes (w : World) (a : Option Addr) (len cap : Nat) (s : Int) (x0 x1 x2 x3 x4 x5 x6 x7 x8 x9 : Int) :
    ∃ W, W = ((w.alloc (.cells #[.slice a len cap, .int .i64 s] 54)).alloc (.cells #[.int .i64 x0, .int .i64 x1, .int .i64 x2, .int .i64 x3, .int .i64 x4, .int .i64 x5, .int .i64 x6, .int .i64 x7, .int .i64 x8, .int .i64 x9] 63)).alloc (.cells #[.slice none 0 0, .int .i64 0] 54) ∧
    tapeBlock W w.heap.size a len cap s ∧ recBlock W (w.heap.size + 1) [x0, x1, x2, x3, x4, x5, x6, x7, x8, x9] ∧ tapeBlock W (w.heap.size + 1 + 1) none 0 0 0 ∧ Below w.heap.size w W ∧ W.heap.size = w.heap.size + 1 + 1 + 1 := by
  refine ⟨_, rfl, ?_, ?_, ?_, ?_, ?_⟩
  · exact (((tapeBlock.new w a len cap s).below (below1 _ _) (by simp)).below (below1 _ _) (by simp; omega))
  · have h0 : ((w.alloc (.cells #[.slice a len cap, .int .i64 s] 54)).alloc (.cells #[.int .i64 x0, .int .i64 x1, .int .i64 x2, .int .i64 x3, .int .i64 x4, .int .i64 x5, .int .i64 x6, .int .i64 x7, .int .i64 x8, .int .i64 x9] 63)).heap[w.heap.size + 1]? = some (.cells #[.int .i64 x0, .int .i64 x1, .int .i64 x2, .int .i64 x3, .int .i64 x4, .int .i64 x5, .int .i64 x6, .int .i64 x7, .int .i64 x8, .int .i64 x9] 63) := by
      have := heap_alloc_new (w.alloc (.cells #[.slice a len cap, .int .i64 s] 54)) (.cells #[.int .i64 x0, .int .i64 x1, .int .i64 x2, .int .i64 x3, .int .i64 x4, .int .i64 x5, .int .i64 x6, .int .i64 x7, .int .i64 x8, .int .i64 x9] 63)
      rw [alloc_size] at this
      exact this
    exact ⟨rfl, by rw [Below.heap_alloc _ _ _ (by rw [alloc_size, alloc_size]; omega)]; exact h0⟩
  · have := tapeBlock.new ((w.alloc (.cells #[.slice a len cap, .int .i64 s] 54)).alloc (.cells #[.int .i64 x0, .int .i64 x1, .int .i64 x2, .int .i64 x3, .int .i64 x4, .int .i64 x5, .int .i64 x6, .int .i64 x7, .int .i64 x8, .int .i64 x9] 63)) none 0 0 0
    rw [alloc_size, alloc_size] at this
    exact this
  · exact (below2 _ _ _).alloc (by rw [alloc_size, alloc_size]; omega) _
  · rw [alloc_size, alloc_size, alloc_size]

theorem ret_Write {W : World} {R : Nat} {a : Option Addr} {len cap : Nat} {s e : Int} {tmps : Array Value} (h : tapeBlock W R a len cap s) (t : tmps[4]? = some (.pointer (some ⟨R, 0, none⟩))) (te : tmps[5]? = some (.int .i64 e)) :
    (results Try.f17 tmps).run Try.prog W = .ok (.tuple #[.agg #[.slice a len cap, .int .i64 s], .int .i64 e]) W := by
  have k0 := h.cell0
  have k1 := h.cell1
  simp [results, Try.results17, go_sem, k0, k1, t, te]
/-- two slices side by side in memory, as joined takes them. -/
theorem two_cells {W : World} {b : Nat} {t : TypeId} {f : Nat × Nat} (p q : Part) (hb : W.heap[b]? = some (.cells #[.slice p.a p.len p.cap, .slice q.a q.len q.cap] t f)) :
    ∀ k, k < [p, q].length → W.cell? ⟨b, 0 + k, none⟩ = some (.slice ([p, q].getD k noPart).a ([p, q].getD k noPart).len ([p, q].getD k noPart).cap) := by
  intro k hk
  match k, hk with
  | 0, _ => simp [World.cell?, hb]
  | 1, _ => simp [World.cell?, hb]
theorem two_rows {W : World} (p q : Part) (hp : RowK .u8 W p.a p.len p.l) (hpn : p.a = none → p.cap = 0) (hq : RowK .u8 W q.a q.len q.l) (hqn : q.a = none → q.cap = 0) :
    ∀ k, k < [p, q].length → RowK .u8 W ([p, q].getD k noPart).a ([p, q].getD k noPart).len ([p, q].getD k noPart).l ∧ (([p, q].getD k noPart).a = none → ([p, q].getD k noPart).cap = 0) := by
  intro k hk
  match k, hk with
  | 0, _ => exact ⟨hp, hpn⟩
  | 1, _ => exact ⟨hq, hqn⟩

set_option maxRecDepth 20000 in
set_option maxHeartbeats 1000000 in
theorem write_no (a : Option Addr) (len cap : Nat) (s x0 x1 x2 x3 x4 x5 x6 x7 x8 x9 : Int) (w : World) (hm : len ≤ 140737488351232) (h : ¬ (len ≤ 100000 ∧ 0 ≤ s ∧ s ≤ len)) :
    Calls Try.prog 17 #[.agg #[.slice a len cap, .int .i64 s], .agg #[.int .i64 x0, .int .i64 x1, .int .i64 x2, .int .i64 x3, .int .i64 x4, .int .i64 x5, .int .i64 x6, .int .i64 x7, .int .i64 x8, .int .i64 x9]] w fun e w' => e = .returned (.tuple #[.agg #[.slice none 0 0, .int .i64 0], .int .i64 6]) ∧ Below w.heap.size w w' := by
  go_enter Try.func17, Try.ntmps17
  go_wp2_with fail
  obtain ⟨W, hW, tb0, rb, tb1, B0, S0⟩ := three_boxes w a len cap s x0 x1 x2 x3 x4 x5 x6 x7 x8 x9
  rw [← hW]
  clear hW
  refine (mayBe_no a len cap s _ hm h).mono ?_
  rintro e w1 ⟨rfl, b1⟩
  have tb2 := tb1.below b1 tb1.lt
  have j0 := tb2.cell0
  have j1 := tb2.cell1
  have jf := tb2.free
  go_wp2
  exact bodyPost_ret (ret_Write (tb2.store none 0 0 0) rfl rfl) rfl ⟨rfl, (tape_same w1 _ _ _).under (Below.next B0 b1) (by omega)⟩

set_option maxRecDepth 20000 in
set_option maxHeartbeats 1000000 in
theorem write_bad (a : Option Addr) (len cap : Nat) (s x0 x1 x2 x3 x4 x5 x6 x7 x8 x9 : Int) (w : World) (h1 : len ≤ 100000) (h2 : 0 ≤ s) (h3 : s ≤ len) (hf : ¬ recordFault x0 x1 x2 x3 x4 x5 x6 x7 x8 x9 = 0) :
    Calls Try.prog 17 #[.agg #[.slice a len cap, .int .i64 s], .agg #[.int .i64 x0, .int .i64 x1, .int .i64 x2, .int .i64 x3, .int .i64 x4, .int .i64 x5, .int .i64 x6, .int .i64 x7, .int .i64 x8, .int .i64 x9]] w fun e w' => e = .returned (.tuple #[.agg #[.slice none 0 0, .int .i64 0], .int .i64 (recordFault x0 x1 x2 x3 x4 x5 x6 x7 x8 x9)]) ∧ Below w.heap.size w w' := by
  go_enter Try.func17, Try.ntmps17
  go_wp2_with fail
  obtain ⟨W, hW, tb0, rb, tb1, B0, S0⟩ := three_boxes w a len cap s x0 x1 x2 x3 x4 x5 x6 x7 x8 x9
  rw [← hW]
  clear hW
  refine (mayBe_yes a len cap s _ h1 h2 h3).mono ?_
  rintro e w1 ⟨rfl, b1⟩
  have tb2 := tb1.below b1 tb1.lt
  have rb1 := rb.below b1 rb.lt
  have m0 := rb1.cell 0 (by omega)
  have m1 := rb1.cell 1 (by omega)
  have m2 := rb1.cell 2 (by omega)
  have m3 := rb1.cell 3 (by omega)
  have m4 := rb1.cell 4 (by omega)
  have m5 := rb1.cell 5 (by omega)
  have m6 := rb1.cell 6 (by omega)
  have m7 := rb1.cell 7 (by omega)
  have m8 := rb1.cell 8 (by omega)
  have m9 := rb1.cell 9 (by omega)
  simp only [List.getD_cons_zero, List.getD_cons_succ] at m0 m1 m2 m3 m4 m5 m6 m7 m8 m9
  have B1 := Below.next B0 b1
  clear b1 B0 tb0 tb1 rb rb1
  go_wp2_with fail
  refine (encode_no x0 x1 x2 x3 x4 x5 x6 x7 x8 x9 _ hf).mono ?_
  rintro e w2 ⟨rfl, b2⟩
  have tb3 := tb2.below b2 tb2.lt
  have B2 := Below.next B1 b2
  have j0 := tb3.cell0
  have j1 := tb3.cell1
  have jf := tb3.free
  have hne : (recordFault x0 x1 x2 x3 x4 x5 x6 x7 x8 x9 == 0) = false := by simpa using hf
  clear m0 m1 m2 m3 m4 m5 m6 m7 m8 m9 b2 tb2 B1 hf
  go_wp2
  exact bodyPost_ret (ret_Write (tb3.store none 0 0 0) rfl rfl) rfl ⟨rfl, (tape_same w2 _ _ _).under B2 (by omega)⟩
end Go.Proofs.Ytlfecmkpafgcmaa
