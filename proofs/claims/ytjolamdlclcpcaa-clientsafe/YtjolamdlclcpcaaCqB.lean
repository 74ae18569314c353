/- Walks of client's within, isProducer, isQueue, mayBeAt, mayCount, mayWait, mayKnow. -/
import Derived.Test.YtjolamdlclcpcaaCqA
namespace Go.Proofs.Ytjolamdlclcpcaa
open Go.RowKit

theorem cwithin_any (x m : Int) (w : World) : Calls Try.prog 52 #[.int .i64 x, .int .i64 m] w fun e w' => e = .returned (.bool (decide (0 ≤ x ∧ x ≤ m))) ∧ w' = w := by
  by_cases h1 : 0 ≤ x
  · by_cases h2 : x ≤ m
    · rw [decide_eq_true (show 0 ≤ x ∧ x ≤ m from ⟨h1, h2⟩)]
      go_enter Try.func52, Try.ntmps52
      go_wp2
      go_ret
      exact ⟨rfl, rfl⟩
    · rw [decide_eq_false (show ¬ (0 ≤ x ∧ x ≤ m) from fun h => h2 h.2)]
      go_enter Try.func52, Try.ntmps52
      go_wp2
      go_ret
      exact ⟨rfl, rfl⟩
  · rw [decide_eq_false (show ¬ (0 ≤ x ∧ x ≤ m) from fun h => h1 h.1)]
    go_enter Try.func52, Try.ntmps52
    go_wp2
    go_ret
    exact ⟨rfl, rfl⟩
theorem isProducer_any (x : Int) (w : World) : Calls Try.prog 37 #[.int .i64 x] w fun e w' => e = .returned (.bool (decide (0 ≤ x ∧ x ≤ 3))) ∧ w' = w := by
  go_enter Try.func37, Try.ntmps37
  go_wp2_with (go_at_call 52; refine (cwithin_any _ _ _).mono ?_; rintro e w1 ⟨rfl, rfl⟩)
  go_ret
  exact ⟨by simp, rfl⟩
theorem cisQueue_any (x : Int) (w : World) : Calls Try.prog 43 #[.int .i64 x] w fun e w' => e = .returned (.bool (decide (0 ≤ x ∧ x ≤ 3))) ∧ w' = w := by
  go_enter Try.func43, Try.ntmps43
  go_wp2_with (go_at_call 52; refine (cwithin_any _ _ _).mono ?_; rintro e w1 ⟨rfl, rfl⟩)
  go_ret
  exact ⟨by simp, rfl⟩
theorem mayBeAt_any (x : Int) (w : World) : Calls Try.prog 44 #[.int .i64 x] w fun e w' => e = .returned (.bool (decide (-1 ≤ x ∧ x ≤ 4))) ∧ w' = w := by
  by_cases h : x = -1
  · subst h
    go_enter Try.func44, Try.ntmps44
    go_wp2_with (go_at_call 52; refine (cwithin_any _ _ _).mono ?_; rintro e w1 ⟨rfl, rfl⟩)
    go_ret
    exact ⟨by simp, rfl⟩
  · rw [show decide (-1 ≤ x ∧ x ≤ 4) = decide (0 ≤ x ∧ x ≤ 4) from by apply decide_eq_decide.2; omega]
    go_enter Try.func44, Try.ntmps44
    go_wp2_with (go_at_call 52; refine (cwithin_any _ _ _).mono ?_; rintro e w1 ⟨rfl, rfl⟩)
    go_ret
    exact ⟨by simp [h], rfl⟩
def kcountB (p n : Int) : Bool := decide ((0 ≤ p ∧ p ≤ 3) ∧ (0 ≤ n ∧ n ≤ 1073741824))
theorem cmayCount_any (p n : Int) (a : Option Addr) (m c : Nat) (wh : Nat → Int) (w : World) : Calls Try.prog 31 #[cVal p n a m c wh] w fun e w' => e = .returned (.bool (kcountB p n)) ∧ Below w.heap.size w w' := by
  have HP := fun w => isProducer_any p w
  by_cases h1 : 0 ≤ p ∧ p ≤ 3
  · rw [decide_eq_true h1] at HP
    rw [show kcountB p n = decide (0 ≤ n ∧ n ≤ 1073741824) from by unfold kcountB; apply decide_eq_decide.2; omega]
    clear h1
    go_enter Try.func31, Try.ntmps31
    go_wp2_with (first
      | (go_at_call 37; refine (HP _).mono ?_; rintro e w1 ⟨rfl, rfl⟩)
      | (go_at_call 52; refine (cwithin_any _ _ _).mono ?_; rintro e w1 ⟨rfl, rfl⟩))
    go_ret
    exact ⟨by simp, below1 _ _⟩
  · rw [decide_eq_false h1] at HP
    rw [show kcountB p n = false from by unfold kcountB; apply decide_eq_false; omega]
    clear h1
    go_enter Try.func31, Try.ntmps31
    go_wp2_with (first
      | (go_at_call 37; refine (HP _).mono ?_; rintro e w1 ⟨rfl, rfl⟩)
      | (go_at_call 52; refine (cwithin_any _ _ _).mono ?_; rintro e w1 ⟨rfl, rfl⟩))
    go_ret
    exact ⟨by simp, below1 _ _⟩
/-- may these wait? -/
def waitB (p n : Int) : Int → List Ev → Bool
  | _, [] => true
  | lo, v :: es => decide (eventFault v.k v.p v.i v.b v.he v.hn = 0 ∧ v.k = 1 ∧ v.p = p ∧ lo ≤ v.i ∧ v.i < n) && waitB p n (v.i + 1) es
theorem waitB_iff {p n : Int} : ∀ {es : List Ev} {lo : Int}, waitB p n lo es = true ↔ okW p n lo es
  | [], _ => by simp [waitB, okW]
  | v :: es, lo => by
    simp only [waitB, okW, Bool.and_eq_true, decide_eq_true_eq]
    rw [waitB_iff]
    constructor
    · rintro ⟨⟨a, b, c, d, e⟩, f⟩; exact ⟨a, b, c, d, e, f⟩
    · rintro ⟨a, b, c, d, e, f⟩; exact ⟨⟨a, b, c, d, e⟩, f⟩
theorem waitB_no {p n lo : Int} {v : Ev} {es : List Ev} (h : ¬ (eventFault v.k v.p v.i v.b v.he v.hn = 0 ∧ v.k = 1 ∧ v.p = p ∧ lo ≤ v.i ∧ v.i < n)) : waitB p n lo (v :: es) = false := by
  simp only [waitB, decide_eq_false h, Bool.false_and]
theorem waitB_yes {p n lo : Int} {v : Ev} {es : List Ev} (h : eventFault v.k v.p v.i v.b v.he v.hn = 0 ∧ v.k = 1 ∧ v.p = p ∧ lo ≤ v.i ∧ v.i < n) : waitB p n lo (v :: es) = waitB p n (v.i + 1) es := by
  simp only [waitB, decide_eq_true h, Bool.true_and]
/-- an event's six cells of a row. -/
theorem row_event {w : World} {b off : Nat} {es : List Ev} (hr : RowK .i64 w (some ⟨b, off, none⟩) (6 * es.length) (evFlat es)) (k : Nat) (hk : k < es.length) :
    w.cell? ⟨b, off + k * 6, none⟩ = some (.int .i64 es[k].k) ∧ w.cell? ⟨b, off + k * 6 + 1, none⟩ = some (.int .i64 es[k].p) ∧ w.cell? ⟨b, off + k * 6 + 2, none⟩ = some (.int .i64 es[k].i) ∧
    w.cell? ⟨b, off + k * 6 + 3, none⟩ = some (.int .i64 es[k].b) ∧ w.cell? ⟨b, off + k * 6 + 4, none⟩ = some (.int .i64 es[k].he) ∧ w.cell? ⟨b, off + k * 6 + 5, none⟩ = some (.int .i64 es[k].hn) := by
  obtain ⟨x0, x1, x2, x3, x4, x5⟩ := hr.six k hk
  have ea : ∀ t, t < 6 → (evFlat es).getD (6 * k + t) 0 = (evCells es[k]).getD t 0 := fun t ht => evFlat_at es k hk t ht
  rw [show 6 * k = 6 * k + 0 from rfl, ea 0 (by omega)] at x0
  rw [ea 1 (by omega)] at x1
  rw [ea 2 (by omega)] at x2
  rw [ea 3 (by omega)] at x3
  rw [ea 4 (by omega)] at x4
  rw [ea 5 (by omega)] at x5
  exact ⟨x0, x1, x2, x3, x4, x5⟩

set_option maxRecDepth 20000 in
set_option maxHeartbeats 4000000 in
theorem mayWait_any (p n : Int) (a : Option Addr) (c : Nat) (es : List Ev) (wh : Nat → Int) (w : World) (h : RowK .i64 w a (6 * es.length) (evFlat es)) (hn0 : 0 ≤ n) (hn1 : n ≤ 1073741824) (hl : es.length ≤ 9223372036854775806) :
    Calls Try.prog 32 #[cVal p n a es.length c wh] w fun e w' => e = .returned (.bool (waitB p n (n - 8) es)) ∧ Below w.heap.size w w' := by
  obtain ⟨rb, hrb⟩ : ∃ rb, rb = waitB p n (n - 8) es := ⟨_, rfl⟩
  rw [← hrb]
  have HRB := veil hrb
  clear hrb
  have HR : Hid (∀ w', Below w.heap.size w w' → RowK .i64 w' a (6 * es.length) (evFlat es)) := veil fun w' b => h.below b
  clear h
  go_enter Try.func32, Try.ntmps32
  go_upto_region 1 with fail
  obtain ⟨W, hW, cb, B0⟩ : ∃ W, W = w.alloc (.cells (cCells p n a es.length c wh) 25) ∧ cBlock W w.heap.size p n a es.length c wh ∧ Below w.heap.size w W := ⟨_, rfl, cBlock.new _ _ _ _ _ _ _, below1 _ _⟩
  rw [← hW]
  clear hW
  have HCB := veil cb
  have HB0 := veil B0
  obtain ⟨c0, c1, c2, _⟩ := cb.cells
  clear cb B0
  go_upto_region 3 with fail
  go_loopw [3, 12] (fun t i wr => ∃ (k : Nat) (lo : Int), k ≤ es.length ∧ i = .int .i64 k ∧ t = .int .i64 lo ∧ -8 ≤ lo ∧ lo ≤ 1073741825 ∧ Hid (rb = waitB p n lo (es.drop k)) ∧ Hid (cBlock wr w.heap.size p n a es.length c wh) ∧ Hid (Below w.heap.size w wr)) (fun _ i _ => es.length - (intOf i).toNat)
  case atStart => exact ⟨0, n - 8, Nat.zero_le _, rfl, by go_num, by omega, by omega, veil (by simpa using unveil HRB), HCB, HB0⟩
  case round =>
    obtain ⟨k, lo, hk, rfl, rfl, hlo0, hlo1, HRK, HCB1, HB1⟩ := hrel
    clear HRB HCB HB0 c0 c1 c2
    by_cases hlt : k < es.length
    case neg =>
      have hk' : k = es.length := by omega
      have he : rb = true := by rw [unveil HRK, hk', List.drop_length]; rfl
      subst he
      clear HRK
      go_wp2
      go_ret
      exact ⟨rfl, unveil HB1⟩
    case pos =>
    have hr := unveil HR wr (unveil HB1)
    obtain ⟨b, off, rfl⟩ := hr.form (by omega)
    obtain ⟨x0, x1, x2, x3, x4, x5⟩ := row_event hr k hlt
    have hbl : b < wr.heap.size := hr.lt (by omega)
    have hbn : b ≠ wr.heap.size := by omega
    have hd : es.drop k = es[k] :: es.drop (k + 1) := List.drop_eq_getElem_cons hlt
    have HD : Hid (rb = waitB p n lo (es[k] :: es.drop (k + 1))) := veil (by rw [← hd]; exact unveil HRK)
    obtain ⟨v, hv⟩ : ∃ v, v = es[k] := ⟨_, rfl⟩
    rw [← hv] at x0 x1 x2 x3 x4 x5 HD
    clear hr hd hv HRK
    go_upto_region 5 with fail
    obtain ⟨W1, hW1, b1, e1⟩ : ∃ W1, W1 = wr.alloc (.cells #[.int .i64 v.k, .int .i64 v.p, .int .i64 v.i, .int .i64 v.b, .int .i64 v.he, .int .i64 v.hn] 37) ∧ Below wr.heap.size wr W1 ∧ W1.heap[wr.heap.size]? = some (.cells #[.int .i64 v.k, .int .i64 v.p, .int .i64 v.i, .int .i64 v.b, .int .i64 v.he, .int .i64 v.hn] 37 (0, 0)) := ⟨_, rfl, below1 _ _, heap_alloc_new _ _⟩
    rw [← hW1]
    clear hW1 x0 x1 x2 x3 x4 x5
    have e1' : ∀ W2, Below W1.heap.size W1 W2 → W2.heap[wr.heap.size]? = some (.cells #[.int .i64 v.k, .int .i64 v.p, .int .i64 v.i, .int .i64 v.b, .int .i64 v.he, .int .i64 v.hn] 37 (0, 0)) := fun W2 b2 => (b2.block _ (block_lt e1)).trans e1
    have HE2 : Hid (∀ W2, Below W1.heap.size W1 W2 → W2.heap[wr.heap.size]? = some (.cells #[.int .i64 v.k, .int .i64 v.p, .int .i64 v.i, .int .i64 v.b, .int .i64 v.he, .int .i64 v.hn] 37 (0, 0)) ∧ cBlock W2 w.heap.size p n (some ⟨b, off, none⟩) es.length c wh ∧ Below w.heap.size w W2) := veil fun W2 b2 => ⟨e1' W2 b2, (unveil HCB1).next (Below.next b1 b2), Below.next (unveil HB1) (Below.next b1 b2)⟩
    obtain ⟨v0, v1, v2, v3, v4, v5⟩ := ev_cells e1
    clear e1 e1' b1 HCB1 HB1
    have HC := fun W => check_any v.k v.p v.i v.b v.he v.hn W
    obtain ⟨f, hf⟩ : ∃ f, f = eventFault v.k v.p v.i v.b v.he v.hn := ⟨_, rfl⟩
    rw [← hf] at HC
    have HF := veil hf
    clear hf
    obtain ⟨vk, vp, vi, vb, vhe, vhn⟩ := v
    simp only at *
    have fin : ∀ (hno : ¬ (f = 0 ∧ vk = 1 ∧ vp = p ∧ lo ≤ vi ∧ vi < n)), rb = false := fun hno => (unveil HD).trans (waitB_no (by rw [← unveil HF]; exact hno))
    have HFin := veil fin
    clear fin
    by_cases hf0 : f = 0
    case neg =>
      obtain rfl := unveil HFin (fun h => hf0 h.1)
      clear HFin HD HF
      go_wp2_with (go_at_call 30; refine (HC _).mono ?_; rintro e W2 ⟨rfl, b2⟩; obtain ⟨e2, cb2, B2⟩ := unveil HE2 W2 b2; obtain ⟨v0, v1, v2, v3, v4, v5⟩ := ev_cells e2; obtain ⟨c0, c1, c2, _⟩ := cb2.cells; clear HE2 HC e2)
      go_ret
      exact ⟨rfl, B2⟩
    case pos =>
    subst hf0
    by_cases hk1 : vk = 1
    case neg =>
      obtain rfl := unveil HFin (fun h => hk1 h.2.1)
      clear HFin HD HF
      go_wp2_with (go_at_call 30; refine (HC _).mono ?_; rintro e W2 ⟨rfl, b2⟩; obtain ⟨e2, cb2, B2⟩ := unveil HE2 W2 b2; obtain ⟨v0, v1, v2, v3, v4, v5⟩ := ev_cells e2; obtain ⟨c0, c1, c2, _⟩ := cb2.cells; clear HE2 HC e2)
      go_ret
      exact ⟨rfl, B2⟩
    case pos =>
    by_cases hp1 : vp = p
    case neg =>
      obtain rfl := unveil HFin (fun h => hp1 h.2.2.1)
      subst hk1
      clear HFin HD HF
      go_wp2_with (go_at_call 30; refine (HC _).mono ?_; rintro e W2 ⟨rfl, b2⟩; obtain ⟨e2, cb2, B2⟩ := unveil HE2 W2 b2; obtain ⟨v0, v1, v2, v3, v4, v5⟩ := ev_cells e2; obtain ⟨c0, c1, c2, _⟩ := cb2.cells; clear HE2 HC e2)
      go_ret
      exact ⟨rfl, B2⟩
    case pos =>
    by_cases hi1 : lo ≤ vi
    case neg =>
      obtain rfl := unveil HFin (fun h => hi1 h.2.2.2.1)
      have hi2 : vi < lo := by omega
      subst hk1 hp1
      clear HFin HD HF
      go_wp2_with (go_at_call 30; refine (HC _).mono ?_; rintro e W2 ⟨rfl, b2⟩; obtain ⟨e2, cb2, B2⟩ := unveil HE2 W2 b2; obtain ⟨v0, v1, v2, v3, v4, v5⟩ := ev_cells e2; obtain ⟨c0, c1, c2, _⟩ := cb2.cells; clear HE2 HC e2)
      go_ret
      exact ⟨rfl, B2⟩
    case pos =>
    by_cases hi3 : vi < n
    case neg =>
      obtain rfl := unveil HFin (fun h => hi3 h.2.2.2.2)
      subst hk1 hp1
      clear HFin HD HF
      go_wp2_with (go_at_call 30; refine (HC _).mono ?_; rintro e W2 ⟨rfl, b2⟩; obtain ⟨e2, cb2, B2⟩ := unveil HE2 W2 b2; obtain ⟨v0, v1, v2, v3, v4, v5⟩ := ev_cells e2; obtain ⟨c0, c1, c2, _⟩ := cb2.cells; clear HE2 HC e2)
      go_ret
      exact ⟨rfl, B2⟩
    case pos =>
    have HN : Hid (rb = waitB p n (vi + 1) (es.drop (k + 1))) := veil ((unveil HD).trans (waitB_yes ⟨(unveil HF).symm, hk1, hp1, hi1, hi3⟩))
    subst hk1 hp1
    clear HFin HD HF
    go_wp2_with (go_at_call 30; refine (HC _).mono ?_; rintro e W2 ⟨rfl, b2⟩; obtain ⟨e2, cb2, B2⟩ := unveil HE2 W2 b2; obtain ⟨v0, v1, v2, v3, v4, v5⟩ := ev_cells e2; obtain ⟨c0, c1, c2, _⟩ := cb2.cells; have HB2 := veil B2; have HCB2 := veil cb2; clear HE2 HC e2 B2 cb2)
    go_roundw
    case rel => exact ⟨k + 1, vi + 1, by omega, by go_num, by go_num, by omega, by omega, HN, HCB2, HB2⟩
    case measure => simp [intOf]; omega
def knowB (wh : Nat → Int) : Bool := decide ((-1 ≤ wh 0 ∧ wh 0 ≤ 4) ∧ (-1 ≤ wh 1 ∧ wh 1 ≤ 4) ∧ (-1 ≤ wh 2 ∧ wh 2 ≤ 4) ∧ (-1 ≤ wh 3 ∧ wh 3 ≤ 4))
theorem knowB_iff {wh : Nat → Int} : knowB wh = true ↔ okK wh := by
  unfold knowB okK
  rw [decide_eq_true_eq]
  constructor
  · rintro ⟨a, b, c, d⟩; exact below4c a b c d
  · intro h; exact ⟨h 0 (by omega), h 1 (by omega), h 2 (by omega), h 3 (by omega)⟩
set_option maxRecDepth 20000 in
theorem run_index_where (wh : Nat → Int) : ∀ k : Nat, k < 4 → ∀ w : World, (Instr.index 23 (.agg #[.int .i64 (wh 0), .int .i64 (wh 1), .int .i64 (wh 2), .int .i64 (wh 3)]) (.int .i64 k)).run Try.prog w = .ok (.int .i64 (wh k)) w := by
  refine below4c ?_ ?_ ?_ ?_ <;> (intro w; simp [Instr.index, run_underlying Try.underlying23, asIntOf, go_sem])
set_option maxRecDepth 20000 in
set_option maxHeartbeats 2000000 in
theorem mayKnow_any (p n : Int) (a : Option Addr) (m c : Nat) (wh : Nat → Int) (w : World) :
    Calls Try.prog 33 #[cVal p n a m c wh] w fun e w' => e = .returned (.bool (knowB wh)) ∧ Below w.heap.size w w' := by
  obtain ⟨rb, hrb⟩ : ∃ rb, rb = knowB wh := ⟨_, rfl⟩
  rw [← hrb]
  have HRB : Hid (rb = true ↔ okK wh) := veil (by rw [hrb]; exact knowB_iff)
  clear hrb
  have hix := run_index_where wh
  go_enter Try.func33, Try.ntmps33
  go_upto_region 1 with fail
  obtain ⟨W, hW, cb, B0⟩ : ∃ W, W = w.alloc (.cells (cCells p n a m c wh) 25) ∧ cBlock W w.heap.size p n a m c wh ∧ Below w.heap.size w W := ⟨_, rfl, cBlock.new _ _ _ _ _ _ _, below1 _ _⟩
  rw [← hW]
  clear hW
  have HB0 := veil B0
  obtain ⟨c0, c1, c2, c3, c4, c5, c6⟩ := cb.cells
  clear cb B0
  go_upto_region 2 with fail
  go_loopw [7] (fun i wr => ∃ k : Nat, k ≤ 4 ∧ i = .int .i64 k ∧ Hid (∀ q, q < k → -1 ≤ wh q ∧ wh q ≤ 4) ∧ wr = W) (fun i _ => 4 - (intOf i).toNat)
  case atStart => exact ⟨0, by omega, rfl, veil (fun q hq => by omega), rfl⟩
  case round =>
    obtain ⟨k, hk, rfl, HI, rfl⟩ := hrel
    clear c0 c1 c2 c3 c4 c5 c6
    by_cases hlt : k < 4
    case neg =>
      obtain rfl : k = 4 := by omega
      obtain rfl : rb = true := (unveil HRB).2 (unveil HI)
      clear hix
      go_wp2
      go_ret
      exact ⟨rfl, unveil HB0⟩
    case pos =>
    have hk1 := hix k hlt
    clear hix
    have HM := fun w => mayBeAt_any (wh k) w
    by_cases hx : -1 ≤ wh k ∧ wh k ≤ 4
    · rw [decide_eq_true hx] at HM
      have HI2 : Hid (∀ q, q < k + 1 → -1 ≤ wh q ∧ wh q ≤ 4) := veil fun q hq => by
        rcases Nat.lt_or_ge q k with h1 | h1
        · exact unveil HI q h1
        · obtain rfl : q = k := by omega
          exact hx
      generalize wh k = x at hk1 HM hx
      clear hx
      go_wp2_with (go_at_call 44; refine (HM _).mono ?_; rintro e w1 ⟨rfl, rfl⟩)
      go_roundw
      case rel => exact ⟨k + 1, by omega, by go_num, HI2, by first | rfl | trivial⟩
      case measure => simp [intOf]; omega
    · rw [decide_eq_false hx] at HM
      obtain rfl : rb = false := by
        cases rb with
        | false => rfl
        | true => exact absurd ((unveil HRB).1 rfl k hlt) hx
      generalize wh k = x at hk1 HM hx
      clear hx
      go_wp2_with (go_at_call 44; refine (HM _).mono ?_; rintro e w1 ⟨rfl, rfl⟩)
      go_ret
      exact ⟨rfl, unveil HB0⟩
end Go.Proofs.Ytjolamdlclcpcaa
