/- The document's answer's BerthFault. -/
import Derived.Test.YtbhlpiomoookcaaGreatRtAz
import Derived.Test.YtbhlpiomoookcaaGreatBeAll
namespace Go.Proofs.YtbhlpiomoookcaaGreat
open Go.RowKit
theorem inB_any (x lo hi : Int) (w : World) : Calls Tryz.prog 26 #[.int .i64 x, .int .i64 lo, .int .i64 hi] w fun e w' => e = .returned (.bool (decide (lo ≤ x ∧ x ≤ hi))) ∧ w' = w := by
  by_cases h1 : lo ≤ x
  · by_cases h2 : x ≤ hi
    · rw [decide_eq_true (show lo ≤ x ∧ x ≤ hi from ⟨h1, h2⟩)]
      go_enter Tryz.func26, Tryz.ntmps26
      go_wp2
      go_ret
      exact ⟨rfl, rfl⟩
    · rw [decide_eq_false (show ¬ (lo ≤ x ∧ x ≤ hi) from fun h => h2 h.2)]
      go_enter Tryz.func26, Tryz.ntmps26
      go_wp2
      go_ret
      exact ⟨rfl, rfl⟩
  · rw [decide_eq_false (show ¬ (lo ≤ x ∧ x ≤ hi) from fun h => h1 h.1)]
    go_enter Tryz.func26, Tryz.ntmps26
    go_wp2
    go_ret
    exact ⟨rfl, rfl⟩
theorem inB_yes (x lo hi : Int) (h : lo ≤ x ∧ x ≤ hi) (w : World) : Calls Tryz.prog 26 #[.int .i64 x, .int .i64 lo, .int .i64 hi] w fun e w' => e = .returned (.bool true) ∧ w' = w := by
  have := inB_any x lo hi w
  rwa [decide_eq_true h] at this
theorem inB_no (x lo hi : Int) (h : ¬ (lo ≤ x ∧ x ≤ hi)) (w : World) : Calls Tryz.prog 26 #[.int .i64 x, .int .i64 lo, .int .i64 hi] w fun e w' => e = .returned (.bool false) ∧ w' = w := by
  have := inB_any x lo hi w
  rwa [decide_eq_false h] at this
/-- what BerthFault answers. -/
inductive Fb (r e f t o : Int) (es : List Ev) : Int → Prop
  | stand (h : ¬ standP r e f t o es.length) : Fb r e f t o es 6
  | form {s : St} {er : Int} (h : standP r e f t o es.length) (hr : Rv es s er) (h0 : ¬ er = 0) : Fb r e f t o es 6
  | ok {s : St} (h : standP r e f t o es.length) (hr : Rv es s 0) : Fb r e f t o es 0
set_option maxRecDepth 20000 in
set_option maxHeartbeats 4000000 in
theorem faultB_0 (e f t o : Int) (es : List Ev) (a : Option Addr) (c : Nat) (w : World) (hr : RowK .i64 w a (6 * es.length) (evFlat es)) : Calls Tryz.prog 25 #[bVal 0 e f t o a es.length c] w fun x w' => ∃ er, x = .returned (.int .i64 er) ∧ Fb 0 e f t o es er ∧ Below w.heap.size w w' := by
  have cr := inB_yes 0 0 4 (by decide)
  by_cases he : 0 ≤ e ∧ e ≤ 1048576
  case neg =>
    have HN : Hid (¬ standP 0 e f t o es.length) := veil (by unfold standP; omega)
    have ce := inB_no e 0 1048576 he
    clear he
    go_enter Tryz.func25, Tryz.ntmps25
    go_wp2_with (first | (go_at_call 26; refine (cr _).mono ?_; rintro x w1 ⟨rfl, rfl⟩; clear cr) | (go_at_call 26; refine (ce _).mono ?_; rintro x w1 ⟨rfl, rfl⟩; clear ce))
    go_ret
    exact ⟨6, rfl, .stand (unveil HN), below1 _ _⟩
  case pos =>
  have ce := inB_yes e 0 1048576 he
  have He := veil he
  clear he
  by_cases hn : es.length = 0
  case neg =>
    have HN : Hid (¬ standP 0 e f t o es.length) := veil (by unfold standP; omega)
    have hn1 : 0 < es.length := by omega
    clear hn
    go_enter Tryz.func25, Tryz.ntmps25
    go_wp2_with (first | (go_at_call 26; refine (cr _).mono ?_; rintro x w1 ⟨rfl, rfl⟩; clear cr) | (go_at_call 26; refine (ce _).mono ?_; rintro x w1 ⟨rfl, rfl⟩; clear ce))
    go_ret
    exact ⟨6, rfl, .stand (unveil HN), below1 _ _⟩
  case pos =>
  have hn1 : ¬ 0 < es.length := by omega
  have hn2 : ¬ (0 : Int) < (es.length : Int) := by omega
  have Hn := veil hn
  clear hn
  by_cases hf : f = 0
  case neg =>
    have HN : Hid (¬ standP 0 e f t o es.length) := veil (by unfold standP; omega)
    go_enter Tryz.func25, Tryz.ntmps25
    go_wp2_with (first | (go_at_call 26; refine (cr _).mono ?_; rintro x w1 ⟨rfl, rfl⟩; clear cr) | (go_at_call 26; refine (ce _).mono ?_; rintro x w1 ⟨rfl, rfl⟩; clear ce))
    go_ret
    exact ⟨6, rfl, .stand (unveil HN), below1 _ _⟩
  case pos =>
  subst hf
  by_cases ht : t = 0
  case neg =>
    have HN : Hid (¬ standP 0 e 0 t o es.length) := veil (by unfold standP; omega)
    go_enter Tryz.func25, Tryz.ntmps25
    go_wp2_with (first | (go_at_call 26; refine (cr _).mono ?_; rintro x w1 ⟨rfl, rfl⟩; clear cr) | (go_at_call 26; refine (ce _).mono ?_; rintro x w1 ⟨rfl, rfl⟩; clear ce))
    go_ret
    exact ⟨6, rfl, .stand (unveil HN), below1 _ _⟩
  case pos =>
  subst ht
  by_cases ho : o = 0
  case neg =>
    have HN : Hid (¬ standP 0 e 0 0 o es.length) := veil (by unfold standP; omega)
    go_enter Tryz.func25, Tryz.ntmps25
    go_wp2_with (first | (go_at_call 26; refine (cr _).mono ?_; rintro x w1 ⟨rfl, rfl⟩; clear cr) | (go_at_call 26; refine (ce _).mono ?_; rintro x w1 ⟨rfl, rfl⟩; clear ce))
    go_ret
    exact ⟨6, rfl, .stand (unveil HN), below1 _ _⟩
  case pos =>
  subst ho
  have HS : Hid (standP 0 e 0 0 0 es.length) := veil (by unfold standP; have := unveil He; have := unveil Hn; omega)
  go_enter Tryz.func25, Tryz.ntmps25
  go_upto_region 12 with (first | (go_at_call 26; refine (cr _).mono ?_; rintro x w1 ⟨rfl, rfl⟩; clear cr) | (go_at_call 26; refine (ce _).mono ?_; rintro x w1 ⟨rfl, rfl⟩; clear ce))
  obtain ⟨W1, hW1, c5, b1⟩ : ∃ W1, W1 = w.alloc (.cells (bCells 0 e 0 0 0 a es.length c) 24) ∧ W1.cell? ⟨w.heap.size, 5, none⟩ = some (.slice a es.length c) ∧ Below w.heap.size w W1 := ⟨_, rfl, (bBlock.new w _ _ _ _ _ _ _ _).cells.2.2.2.2.2, below1 _ _⟩
  rw [← hW1]
  clear hW1
  have HR := replayedOf_any es a c W1 (hr.below b1)
  go_upto_region 13 with (first
    | (go_at_call 34; refine HR.mono ?_; rintro x W2 ⟨y, er, s, rfl, rv, ⟨⟨a1, c1, a2, c2, ws, rfl, r1, r2, l1, l2, n1, n2, hW, f1, f2⟩⟩, b2⟩; have HV := veil rv; have B2 := Below.next b1 b2; clear HR b1 b2 c5 rv r1 r2 f1 f2)
    | (refine q_alloc 4 rfl rfl rfl ?_; intro W3 z3 b3; have B3 := Below.next B2 b3; have hz3 := B2.size; clear B2 b3)
    | (refine q_store (ra := a1) (la := a2) (ws' := ws) _ _ rfl rfl rfl rfl z3 hW ?_; intro W4 q4 t4; have B4 := t4.under B3 hz3; clear q4 t4 B3 z3))
  by_cases h0 : er = 0
  · subst h0
    go_wp2
    go_ret
    exact ⟨0, rfl, .ok (unveil HS) (unveil HV), B4⟩
  · go_wp2
    go_ret
    exact ⟨6, rfl, .form (unveil HS) (unveil HV) h0, B4⟩
set_option maxRecDepth 20000 in
set_option maxHeartbeats 4000000 in
theorem faultB_1 (e f t o : Int) (es : List Ev) (a : Option Addr) (c : Nat) (w : World) (hr : RowK .i64 w a (6 * es.length) (evFlat es)) : Calls Tryz.prog 25 #[bVal 1 e f t o a es.length c] w fun x w' => ∃ er, x = .returned (.int .i64 er) ∧ Fb 1 e f t o es er ∧ Below w.heap.size w w' := by
  have cr := inB_yes 1 0 4 (by decide)
  by_cases he : 1 ≤ e ∧ e ≤ 1048576
  case neg =>
    have HN : Hid (¬ standP 1 e f t o es.length) := veil (by unfold standP; omega)
    have ce := inB_no e 1 1048576 he
    clear he
    go_enter Tryz.func25, Tryz.ntmps25
    go_wp2_with (first | (go_at_call 26; refine (cr _).mono ?_; rintro x w1 ⟨rfl, rfl⟩; clear cr) | (go_at_call 26; refine (ce _).mono ?_; rintro x w1 ⟨rfl, rfl⟩; clear ce))
    go_ret
    exact ⟨6, rfl, .stand (unveil HN), below1 _ _⟩
  case pos =>
  have ce := inB_yes e 1 1048576 he
  have He := veil he
  clear he
  by_cases hf : f = 0
  case neg =>
    have HN : Hid (¬ standP 1 e f t o es.length) := veil (by unfold standP; omega)
    go_enter Tryz.func25, Tryz.ntmps25
    go_wp2_with (first | (go_at_call 26; refine (cr _).mono ?_; rintro x w1 ⟨rfl, rfl⟩; clear cr) | (go_at_call 26; refine (ce _).mono ?_; rintro x w1 ⟨rfl, rfl⟩; clear ce))
    go_ret
    exact ⟨6, rfl, .stand (unveil HN), below1 _ _⟩
  case pos =>
  subst hf
  by_cases ht : t = 0
  case neg =>
    have HN : Hid (¬ standP 1 e 0 t o es.length) := veil (by unfold standP; omega)
    go_enter Tryz.func25, Tryz.ntmps25
    go_wp2_with (first | (go_at_call 26; refine (cr _).mono ?_; rintro x w1 ⟨rfl, rfl⟩; clear cr) | (go_at_call 26; refine (ce _).mono ?_; rintro x w1 ⟨rfl, rfl⟩; clear ce))
    go_ret
    exact ⟨6, rfl, .stand (unveil HN), below1 _ _⟩
  case pos =>
  subst ht
  by_cases ho : o = 0
  case neg =>
    have HN : Hid (¬ standP 1 e 0 0 o es.length) := veil (by unfold standP; omega)
    go_enter Tryz.func25, Tryz.ntmps25
    go_wp2_with (first | (go_at_call 26; refine (cr _).mono ?_; rintro x w1 ⟨rfl, rfl⟩; clear cr) | (go_at_call 26; refine (ce _).mono ?_; rintro x w1 ⟨rfl, rfl⟩; clear ce))
    go_ret
    exact ⟨6, rfl, .stand (unveil HN), below1 _ _⟩
  case pos =>
  subst ho
  have HS : Hid (standP 1 e 0 0 0 es.length) := veil (by unfold standP; have := unveil He; omega)
  go_enter Tryz.func25, Tryz.ntmps25
  go_upto_region 12 with (first | (go_at_call 26; refine (cr _).mono ?_; rintro x w1 ⟨rfl, rfl⟩; clear cr) | (go_at_call 26; refine (ce _).mono ?_; rintro x w1 ⟨rfl, rfl⟩; clear ce))
  obtain ⟨W1, hW1, c5, b1⟩ : ∃ W1, W1 = w.alloc (.cells (bCells 1 e 0 0 0 a es.length c) 24) ∧ W1.cell? ⟨w.heap.size, 5, none⟩ = some (.slice a es.length c) ∧ Below w.heap.size w W1 := ⟨_, rfl, (bBlock.new w _ _ _ _ _ _ _ _).cells.2.2.2.2.2, below1 _ _⟩
  rw [← hW1]
  clear hW1
  have HR := replayedOf_any es a c W1 (hr.below b1)
  go_upto_region 13 with (first
    | (go_at_call 34; refine HR.mono ?_; rintro x W2 ⟨y, er, s, rfl, rv, ⟨⟨a1, c1, a2, c2, ws, rfl, r1, r2, l1, l2, n1, n2, hW, f1, f2⟩⟩, b2⟩; have HV := veil rv; have B2 := Below.next b1 b2; clear HR b1 b2 c5 rv r1 r2 f1 f2)
    | (refine q_alloc 4 rfl rfl rfl ?_; intro W3 z3 b3; have B3 := Below.next B2 b3; have hz3 := B2.size; clear B2 b3)
    | (refine q_store (ra := a1) (la := a2) (ws' := ws) _ _ rfl rfl rfl rfl z3 hW ?_; intro W4 q4 t4; have B4 := t4.under B3 hz3; clear q4 t4 B3 z3))
  by_cases h0 : er = 0
  · subst h0
    go_wp2
    go_ret
    exact ⟨0, rfl, .ok (unveil HS) (unveil HV), B4⟩
  · go_wp2
    go_ret
    exact ⟨6, rfl, .form (unveil HS) (unveil HV) h0, B4⟩
set_option maxRecDepth 20000 in
set_option maxHeartbeats 4000000 in
theorem faultB_2 (e f t o : Int) (es : List Ev) (a : Option Addr) (c : Nat) (w : World) (hr : RowK .i64 w a (6 * es.length) (evFlat es)) : Calls Tryz.prog 25 #[bVal 2 e f t o a es.length c] w fun x w' => ∃ er, x = .returned (.int .i64 er) ∧ Fb 2 e f t o es er ∧ Below w.heap.size w w' := by
  have cr := inB_yes 2 0 4 (by decide)
  by_cases he : 1 ≤ e ∧ e ≤ 1048576
  case neg =>
    have HN : Hid (¬ standP 2 e f t o es.length) := veil (by unfold standP; omega)
    have ce := inB_no e 1 1048576 he
    clear he
    go_enter Tryz.func25, Tryz.ntmps25
    go_wp2_with (first | (go_at_call 26; refine (cr _).mono ?_; rintro x w1 ⟨rfl, rfl⟩; clear cr) | (go_at_call 26; refine (ce _).mono ?_; rintro x w1 ⟨rfl, rfl⟩; clear ce))
    go_ret
    exact ⟨6, rfl, .stand (unveil HN), below1 _ _⟩
  case pos =>
  have ce := inB_yes e 1 1048576 he
  have He := veil he
  clear he
  by_cases hf : f = 0
  case neg =>
    have HN : Hid (¬ standP 2 e f t o es.length) := veil (by unfold standP; omega)
    go_enter Tryz.func25, Tryz.ntmps25
    go_wp2_with (first | (go_at_call 26; refine (cr _).mono ?_; rintro x w1 ⟨rfl, rfl⟩; clear cr) | (go_at_call 26; refine (ce _).mono ?_; rintro x w1 ⟨rfl, rfl⟩; clear ce))
    go_ret
    exact ⟨6, rfl, .stand (unveil HN), below1 _ _⟩
  case pos =>
  subst hf
  by_cases ht : 0 ≤ t ∧ t ≤ 4
  case neg =>
    have HN : Hid (¬ standP 2 e 0 t o es.length) := veil (by unfold standP; omega)
    have ct := inB_no t 0 4 ht
    clear ht
    go_enter Tryz.func25, Tryz.ntmps25
    go_wp2_with (first | (go_at_call 26; refine (cr _).mono ?_; rintro x w1 ⟨rfl, rfl⟩; clear cr) | (go_at_call 26; refine (ce _).mono ?_; rintro x w1 ⟨rfl, rfl⟩; clear ce) | (go_at_call 26; refine (ct _).mono ?_; rintro x w1 ⟨rfl, rfl⟩; clear ct))
    go_ret
    exact ⟨6, rfl, .stand (unveil HN), below1 _ _⟩
  case pos =>
  have ct := inB_yes t 0 4 ht
  have Ht := veil ht
  clear ht
  by_cases ho : 0 ≤ o ∧ o ≤ 4
  case neg =>
    have HN : Hid (¬ standP 2 e 0 t o es.length) := veil (by unfold standP; omega)
    have co := inB_no o 0 4 ho
    clear ho
    go_enter Tryz.func25, Tryz.ntmps25
    go_wp2_with (first | (go_at_call 26; refine (cr _).mono ?_; rintro x w1 ⟨rfl, rfl⟩; clear cr) | (go_at_call 26; refine (ce _).mono ?_; rintro x w1 ⟨rfl, rfl⟩; clear ce) | (go_at_call 26; refine (ct _).mono ?_; rintro x w1 ⟨rfl, rfl⟩; clear ct) | (go_at_call 26; refine (co _).mono ?_; rintro x w1 ⟨rfl, rfl⟩; clear co))
    go_ret
    exact ⟨6, rfl, .stand (unveil HN), below1 _ _⟩
  case pos =>
  have co := inB_yes o 0 4 ho
  have Ho := veil ho
  clear ho
  have HS : Hid (standP 2 e 0 t o es.length) := veil (by unfold standP; have := unveil He; have := unveil Ht; have := unveil Ho; omega)
  go_enter Tryz.func25, Tryz.ntmps25
  go_upto_region 12 with (first | (go_at_call 26; refine (cr _).mono ?_; rintro x w1 ⟨rfl, rfl⟩; clear cr) | (go_at_call 26; refine (ce _).mono ?_; rintro x w1 ⟨rfl, rfl⟩; clear ce) | (go_at_call 26; refine (ct _).mono ?_; rintro x w1 ⟨rfl, rfl⟩; clear ct) | (go_at_call 26; refine (co _).mono ?_; rintro x w1 ⟨rfl, rfl⟩; clear co))
  obtain ⟨W1, hW1, c5, b1⟩ : ∃ W1, W1 = w.alloc (.cells (bCells 2 e 0 t o a es.length c) 24) ∧ W1.cell? ⟨w.heap.size, 5, none⟩ = some (.slice a es.length c) ∧ Below w.heap.size w W1 := ⟨_, rfl, (bBlock.new w _ _ _ _ _ _ _ _).cells.2.2.2.2.2, below1 _ _⟩
  rw [← hW1]
  clear hW1
  have HR := replayedOf_any es a c W1 (hr.below b1)
  go_upto_region 13 with (first
    | (go_at_call 34; refine HR.mono ?_; rintro x W2 ⟨y, er, s, rfl, rv, ⟨⟨a1, c1, a2, c2, ws, rfl, r1, r2, l1, l2, n1, n2, hW, f1, f2⟩⟩, b2⟩; have HV := veil rv; have B2 := Below.next b1 b2; clear HR b1 b2 c5 rv r1 r2 f1 f2)
    | (refine q_alloc 4 rfl rfl rfl ?_; intro W3 z3 b3; have B3 := Below.next B2 b3; have hz3 := B2.size; clear B2 b3)
    | (refine q_store (ra := a1) (la := a2) (ws' := ws) _ _ rfl rfl rfl rfl z3 hW ?_; intro W4 q4 t4; have B4 := t4.under B3 hz3; clear q4 t4 B3 z3))
  by_cases h0 : er = 0
  · subst h0
    go_wp2
    go_ret
    exact ⟨0, rfl, .ok (unveil HS) (unveil HV), B4⟩
  · go_wp2
    go_ret
    exact ⟨6, rfl, .form (unveil HS) (unveil HV) h0, B4⟩
set_option maxRecDepth 20000 in
set_option maxHeartbeats 4000000 in
theorem faultB_3 (e f t o : Int) (es : List Ev) (a : Option Addr) (c : Nat) (w : World) (hr : RowK .i64 w a (6 * es.length) (evFlat es)) : Calls Tryz.prog 25 #[bVal 3 e f t o a es.length c] w fun x w' => ∃ er, x = .returned (.int .i64 er) ∧ Fb 3 e f t o es er ∧ Below w.heap.size w w' := by
  have cr := inB_yes 3 0 4 (by decide)
  by_cases he : 1 ≤ e ∧ e ≤ 1048576
  case neg =>
    have HN : Hid (¬ standP 3 e f t o es.length) := veil (by unfold standP; omega)
    have ce := inB_no e 1 1048576 he
    clear he
    go_enter Tryz.func25, Tryz.ntmps25
    go_wp2_with (first | (go_at_call 26; refine (cr _).mono ?_; rintro x w1 ⟨rfl, rfl⟩; clear cr) | (go_at_call 26; refine (ce _).mono ?_; rintro x w1 ⟨rfl, rfl⟩; clear ce))
    go_ret
    exact ⟨6, rfl, .stand (unveil HN), below1 _ _⟩
  case pos =>
  have ce := inB_yes e 1 1048576 he
  have He := veil he
  clear he
  by_cases hf : f = 0
  case neg =>
    have HN : Hid (¬ standP 3 e f t o es.length) := veil (by unfold standP; omega)
    go_enter Tryz.func25, Tryz.ntmps25
    go_wp2_with (first | (go_at_call 26; refine (cr _).mono ?_; rintro x w1 ⟨rfl, rfl⟩; clear cr) | (go_at_call 26; refine (ce _).mono ?_; rintro x w1 ⟨rfl, rfl⟩; clear ce))
    go_ret
    exact ⟨6, rfl, .stand (unveil HN), below1 _ _⟩
  case pos =>
  subst hf
  by_cases ht : 0 ≤ t ∧ t ≤ 4
  case neg =>
    have HN : Hid (¬ standP 3 e 0 t o es.length) := veil (by unfold standP; omega)
    have ct := inB_no t 0 4 ht
    clear ht
    go_enter Tryz.func25, Tryz.ntmps25
    go_wp2_with (first | (go_at_call 26; refine (cr _).mono ?_; rintro x w1 ⟨rfl, rfl⟩; clear cr) | (go_at_call 26; refine (ce _).mono ?_; rintro x w1 ⟨rfl, rfl⟩; clear ce) | (go_at_call 26; refine (ct _).mono ?_; rintro x w1 ⟨rfl, rfl⟩; clear ct))
    go_ret
    exact ⟨6, rfl, .stand (unveil HN), below1 _ _⟩
  case pos =>
  have ct := inB_yes t 0 4 ht
  have Ht := veil ht
  clear ht
  by_cases ho : o = 0
  case neg =>
    have HN : Hid (¬ standP 3 e 0 t o es.length) := veil (by unfold standP; omega)
    go_enter Tryz.func25, Tryz.ntmps25
    go_wp2_with (first | (go_at_call 26; refine (cr _).mono ?_; rintro x w1 ⟨rfl, rfl⟩; clear cr) | (go_at_call 26; refine (ce _).mono ?_; rintro x w1 ⟨rfl, rfl⟩; clear ce) | (go_at_call 26; refine (ct _).mono ?_; rintro x w1 ⟨rfl, rfl⟩; clear ct))
    go_ret
    exact ⟨6, rfl, .stand (unveil HN), below1 _ _⟩
  case pos =>
  subst ho
  have HS : Hid (standP 3 e 0 t 0 es.length) := veil (by unfold standP; have := unveil He; have := unveil Ht; omega)
  go_enter Tryz.func25, Tryz.ntmps25
  go_upto_region 12 with (first | (go_at_call 26; refine (cr _).mono ?_; rintro x w1 ⟨rfl, rfl⟩; clear cr) | (go_at_call 26; refine (ce _).mono ?_; rintro x w1 ⟨rfl, rfl⟩; clear ce) | (go_at_call 26; refine (ct _).mono ?_; rintro x w1 ⟨rfl, rfl⟩; clear ct))
  obtain ⟨W1, hW1, c5, b1⟩ : ∃ W1, W1 = w.alloc (.cells (bCells 3 e 0 t 0 a es.length c) 24) ∧ W1.cell? ⟨w.heap.size, 5, none⟩ = some (.slice a es.length c) ∧ Below w.heap.size w W1 := ⟨_, rfl, (bBlock.new w _ _ _ _ _ _ _ _).cells.2.2.2.2.2, below1 _ _⟩
  rw [← hW1]
  clear hW1
  have HR := replayedOf_any es a c W1 (hr.below b1)
  go_upto_region 13 with (first
    | (go_at_call 34; refine HR.mono ?_; rintro x W2 ⟨y, er, s, rfl, rv, ⟨⟨a1, c1, a2, c2, ws, rfl, r1, r2, l1, l2, n1, n2, hW, f1, f2⟩⟩, b2⟩; have HV := veil rv; have B2 := Below.next b1 b2; clear HR b1 b2 c5 rv r1 r2 f1 f2)
    | (refine q_alloc 4 rfl rfl rfl ?_; intro W3 z3 b3; have B3 := Below.next B2 b3; have hz3 := B2.size; clear B2 b3)
    | (refine q_store (ra := a1) (la := a2) (ws' := ws) _ _ rfl rfl rfl rfl z3 hW ?_; intro W4 q4 t4; have B4 := t4.under B3 hz3; clear q4 t4 B3 z3))
  by_cases h0 : er = 0
  · subst h0
    go_wp2
    go_ret
    exact ⟨0, rfl, .ok (unveil HS) (unveil HV), B4⟩
  · go_wp2
    go_ret
    exact ⟨6, rfl, .form (unveil HS) (unveil HV) h0, B4⟩
set_option maxRecDepth 20000 in
set_option maxHeartbeats 4000000 in
theorem faultB_4 (e f t o : Int) (es : List Ev) (a : Option Addr) (c : Nat) (w : World) (hr : RowK .i64 w a (6 * es.length) (evFlat es)) : Calls Tryz.prog 25 #[bVal 4 e f t o a es.length c] w fun x w' => ∃ er, x = .returned (.int .i64 er) ∧ Fb 4 e f t o es er ∧ Below w.heap.size w w' := by
  have cr := inB_yes 4 0 4 (by decide)
  by_cases he : 1 ≤ e ∧ e ≤ 1048576
  case neg =>
    have HN : Hid (¬ standP 4 e f t o es.length) := veil (by unfold standP; omega)
    have ce := inB_no e 1 1048576 he
    clear he
    go_enter Tryz.func25, Tryz.ntmps25
    go_wp2_with (first | (go_at_call 26; refine (cr _).mono ?_; rintro x w1 ⟨rfl, rfl⟩; clear cr) | (go_at_call 26; refine (ce _).mono ?_; rintro x w1 ⟨rfl, rfl⟩; clear ce))
    go_ret
    exact ⟨6, rfl, .stand (unveil HN), below1 _ _⟩
  case pos =>
  have ce := inB_yes e 1 1048576 he
  have He := veil he
  clear he
  by_cases hf : 0 ≤ f ∧ f ≤ 4
  case neg =>
    have HN : Hid (¬ standP 4 e f t o es.length) := veil (by unfold standP; omega)
    have cf := inB_no f 0 4 hf
    clear hf
    go_enter Tryz.func25, Tryz.ntmps25
    go_wp2_with (first | (go_at_call 26; refine (cr _).mono ?_; rintro x w1 ⟨rfl, rfl⟩; clear cr) | (go_at_call 26; refine (ce _).mono ?_; rintro x w1 ⟨rfl, rfl⟩; clear ce) | (go_at_call 26; refine (cf _).mono ?_; rintro x w1 ⟨rfl, rfl⟩; clear cf))
    go_ret
    exact ⟨6, rfl, .stand (unveil HN), below1 _ _⟩
  case pos =>
  have cf := inB_yes f 0 4 hf
  have Hf := veil hf
  clear hf
  by_cases ht : t = 0
  case neg =>
    have HN : Hid (¬ standP 4 e f t o es.length) := veil (by unfold standP; omega)
    go_enter Tryz.func25, Tryz.ntmps25
    go_wp2_with (first | (go_at_call 26; refine (cr _).mono ?_; rintro x w1 ⟨rfl, rfl⟩; clear cr) | (go_at_call 26; refine (ce _).mono ?_; rintro x w1 ⟨rfl, rfl⟩; clear ce) | (go_at_call 26; refine (cf _).mono ?_; rintro x w1 ⟨rfl, rfl⟩; clear cf))
    go_ret
    exact ⟨6, rfl, .stand (unveil HN), below1 _ _⟩
  case pos =>
  subst ht
  by_cases ho : o = 0
  case neg =>
    have HN : Hid (¬ standP 4 e f 0 o es.length) := veil (by unfold standP; omega)
    go_enter Tryz.func25, Tryz.ntmps25
    go_wp2_with (first | (go_at_call 26; refine (cr _).mono ?_; rintro x w1 ⟨rfl, rfl⟩; clear cr) | (go_at_call 26; refine (ce _).mono ?_; rintro x w1 ⟨rfl, rfl⟩; clear ce) | (go_at_call 26; refine (cf _).mono ?_; rintro x w1 ⟨rfl, rfl⟩; clear cf))
    go_ret
    exact ⟨6, rfl, .stand (unveil HN), below1 _ _⟩
  case pos =>
  subst ho
  have HS : Hid (standP 4 e f 0 0 es.length) := veil (by unfold standP; have := unveil He; have := unveil Hf; omega)
  go_enter Tryz.func25, Tryz.ntmps25
  go_upto_region 12 with (first | (go_at_call 26; refine (cr _).mono ?_; rintro x w1 ⟨rfl, rfl⟩; clear cr) | (go_at_call 26; refine (ce _).mono ?_; rintro x w1 ⟨rfl, rfl⟩; clear ce) | (go_at_call 26; refine (cf _).mono ?_; rintro x w1 ⟨rfl, rfl⟩; clear cf))
  obtain ⟨W1, hW1, c5, b1⟩ : ∃ W1, W1 = w.alloc (.cells (bCells 4 e f 0 0 a es.length c) 24) ∧ W1.cell? ⟨w.heap.size, 5, none⟩ = some (.slice a es.length c) ∧ Below w.heap.size w W1 := ⟨_, rfl, (bBlock.new w _ _ _ _ _ _ _ _).cells.2.2.2.2.2, below1 _ _⟩
  rw [← hW1]
  clear hW1
  have HR := replayedOf_any es a c W1 (hr.below b1)
  go_upto_region 13 with (first
    | (go_at_call 34; refine HR.mono ?_; rintro x W2 ⟨y, er, s, rfl, rv, ⟨⟨a1, c1, a2, c2, ws, rfl, r1, r2, l1, l2, n1, n2, hW, f1, f2⟩⟩, b2⟩; have HV := veil rv; have B2 := Below.next b1 b2; clear HR b1 b2 c5 rv r1 r2 f1 f2)
    | (refine q_alloc 4 rfl rfl rfl ?_; intro W3 z3 b3; have B3 := Below.next B2 b3; have hz3 := B2.size; clear B2 b3)
    | (refine q_store (ra := a1) (la := a2) (ws' := ws) _ _ rfl rfl rfl rfl z3 hW ?_; intro W4 q4 t4; have B4 := t4.under B3 hz3; clear q4 t4 B3 z3))
  by_cases h0 : er = 0
  · subst h0
    go_wp2
    go_ret
    exact ⟨0, rfl, .ok (unveil HS) (unveil HV), B4⟩
  · go_wp2
    go_ret
    exact ⟨6, rfl, .form (unveil HS) (unveil HV) h0, B4⟩
theorem faultB_role (r e f t o : Int) (n : Nat) (a : Option Addr) (c : Nat) (w : World) (h : ¬ (0 ≤ r ∧ r ≤ 4)) : Calls Tryz.prog 25 #[bVal r e f t o a n c] w fun x w' => x = .returned (.int .i64 6) ∧ Below w.heap.size w w' := by
  have cr := inB_no r 0 4 h
  clear h
  go_enter Tryz.func25, Tryz.ntmps25
  go_wp2_with (first | (go_at_call 26; refine (cr _).mono ?_; rintro x w1 ⟨rfl, rfl⟩; clear cr))
  go_ret
  exact ⟨rfl, below1 _ _⟩
theorem faultB_fb (B : Bt) (a : Option Addr) (c : Nat) (w : World) (hb : BIn w B a c) : Calls Tryz.prog 25 #[bVal B.r B.e B.f B.t B.o a B.es.length c] w fun x w' => ∃ er, x = .returned (.int .i64 er) ∧ Fb B.r B.e B.f B.t B.o B.es er ∧ Below w.heap.size w w' := by
  obtain ⟨r, e, f, t, o, es⟩ := B
  by_cases h : 0 ≤ r ∧ r ≤ 4
  · rcases (show r = 0 ∨ r = 1 ∨ r = 2 ∨ r = 3 ∨ r = 4 by omega) with rfl | rfl | rfl | rfl | rfl
    · exact faultB_0 e f t o es a c w hb.row
    · exact faultB_1 e f t o es a c w hb.row
    · exact faultB_2 e f t o es a c w hb.row
    · exact faultB_3 e f t o es a c w hb.row
    · exact faultB_4 e f t o es a c w hb.row
  · refine (faultB_role r e f t o es.length a c w h).mono ?_
    rintro x w' ⟨rfl, b⟩
    have hn : ¬ standP r e f t o es.length := by unfold standP; omega
    exact ⟨6, rfl, .stand hn, b⟩
theorem Fb.iff {B : Bt} {er : Int} (h : Fb B.r B.e B.f B.t B.o B.es er) : (B.Ok ∧ er = 0) ∨ (¬ B.Ok ∧ er = 6) := by
  cases h with
  | stand h => exact .inr ⟨fun ok => h ok.stand, rfl⟩
  | form h hr h0 => exact .inr ⟨fun ok => h0 ((Rv.ok hr h).2 ok), rfl⟩
  | ok h hr => exact .inl ⟨(Rv.ok hr h).1 rfl, rfl⟩
theorem faultB_yes (B : Bt) (a : Option Addr) (c : Nat) (w : World) (hb : BIn w B a c) (ok : B.Ok) : Calls Tryz.prog 25 #[bVal B.r B.e B.f B.t B.o a B.es.length c] w fun x w' => x = .returned (.int .i64 0) ∧ Below w.heap.size w w' := by
  refine (faultB_fb B a c w hb).mono ?_
  rintro x w' ⟨er, rfl, h, b⟩
  rcases h.iff with ⟨_, rfl⟩ | ⟨h, _⟩
  · exact ⟨rfl, b⟩
  · exact absurd ok h
theorem faultB_no (B : Bt) (a : Option Addr) (c : Nat) (w : World) (hb : BIn w B a c) (ok : ¬ B.Ok) : Calls Tryz.prog 25 #[bVal B.r B.e B.f B.t B.o a B.es.length c] w fun x w' => x = .returned (.int .i64 6) ∧ Below w.heap.size w w' := by
  refine (faultB_fb B a c w hb).mono ?_
  rintro x w' ⟨er, rfl, h, b⟩
  rcases h.iff with ⟨h, _⟩ | ⟨_, rfl⟩
  · exact absurd h ok
  · exact ⟨rfl, b⟩
end Go.Proofs.YtbhlpiomoookcaaGreat
