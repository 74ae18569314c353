/- Walks of the document's answers to a client: ClientFault, ClientCopy, ClientNew, ClientLearnt, ClientAsked. -/
import Derived.Test.YtjolamdlclcpcaaClH
import Derived.Test.YtjolamdlclcpcaaPkG
import Derived.BigQuiet
namespace Go.Proofs.Ytjolamdlclcpcaa
open Go.RowKit

theorem cIn_any (x lo hi : Int) (w : World) : Calls Try.prog 35 #[.int .i64 x, .int .i64 lo, .int .i64 hi] w fun e w' => e = .returned (.bool (decide (lo ≤ x ∧ x ≤ hi))) ∧ w' = w := by
  by_cases h1 : lo ≤ x
  · by_cases h2 : x ≤ hi
    · rw [decide_eq_true (show lo ≤ x ∧ x ≤ hi from ⟨h1, h2⟩)]
      go_enter Try.func35, Try.ntmps35
      go_wp2
      go_ret
      exact ⟨rfl, rfl⟩
    · rw [decide_eq_false (show ¬ (lo ≤ x ∧ x ≤ hi) from fun h => h2 h.2)]
      go_enter Try.func35, Try.ntmps35
      go_wp2
      go_ret
      exact ⟨rfl, rfl⟩
  · rw [decide_eq_false (show ¬ (lo ≤ x ∧ x ≤ hi) from fun h => h1 h.1)]
    go_enter Try.func35, Try.ntmps35
    go_wp2
    go_ret
    exact ⟨rfl, rfl⟩
theorem In_b (x lo hi : Int) (b : Bool) (h : decide (lo ≤ x ∧ x ≤ hi) = b) (w : World) : Calls Try.prog 35 #[.int .i64 x, .int .i64 lo, .int .i64 hi] w fun e w' => e = .returned (.bool b) ∧ w' = w := by
  subst h; exact cIn_any x lo hi w

theorem pub_id {p i b he hn : Int} (h : eventFault 1 p i b he hn = 0) : 0 ≤ i ∧ i ≤ 1073741824 := by
  unfold eventFault at h
  rw [if_pos rfl] at h
  split at h
  · omega
  · rename_i h1
    have h1 := Decidable.not_not.1 h1
    exact ⟨h1.2.2.1, h1.2.2.2.1⟩
/-- the least id that the k-th may have. -/
def lowAt (n : Int) (es : List Ev) : Nat → Int
  | 0 => n - 8
  | k + 1 => (es.getD k Ev.nil).i + 1

set_option maxRecDepth 20000 in
set_option maxHeartbeats 8000000 in
theorem cfault_any (C : Cl) (a : Option Addr) (c : Nat) (w : World) (h : CIn w C a c) :
    Calls Try.prog 15 #[cVal C.p C.n a C.es.length c C.wh] w fun e w' => e = .returned (.int .i64 (clFault C)) ∧ Below w.heap.size w w' := by
  obtain ⟨f, hf⟩ : ∃ f, f = clFault C := ⟨_, rfl⟩
  rw [← hf]
  have HF : Hid ((C.Ok → f = 0) ∧ (¬ C.Ok → f = 6)) := veil ⟨fun ok => by rw [hf]; exact if_pos ok, fun no => by rw [hf]; exact if_neg no⟩
  clear hf
  have HI := veil (C.ok_iff)
  have HR : Hid (∀ w', Below w.heap.size w w' → RowK .i64 w' a (6 * C.es.length) (evFlat C.es)) := veil fun w' b => h.row.below b
  have hbig : C.es.length ≤ 9223372036854775806 := by have := h.big; omega
  clear h
  obtain ⟨p, n, es, wh⟩ := C
  simp only at *
  have HI1 : Hid ((¬ countB p n = true → f = 6) ∧ (¬ waitB p n (n - 8) es = true → f = 6) ∧ (¬ knowB wh = true → f = 6) ∧ (countB p n = true → waitB p n (n - 8) es = true → knowB wh = true → f = 0)) := veil ⟨fun h => (unveil HF).2 fun ok => h ((unveil HI).1 ok).1, fun h => (unveil HF).2 fun ok => h ((unveil HI).1 ok).2.1, fun h => (unveil HF).2 fun ok => h ((unveil HI).1 ok).2.2, fun h1 h2 h3 => (unveil HF).1 ((unveil HI).2 ⟨h1, h2, h3⟩)⟩
  clear HF HI
  by_cases hp : 0 ≤ p ∧ p ≤ 3
  case neg =>
    obtain rfl : f = 6 := (unveil HI1).1 (fun h => hp (of_decide_eq_true h).1)
    clear HI1 HR
    have HP := fun w => In_b p 0 3 false (decide_eq_false hp) w
    clear hp
    go_enter Try.func15, Try.ntmps15
    go_wp2_with (go_at_call 35; refine (HP _).mono ?_; rintro e w1 ⟨rfl, hw1⟩; subst w1)
    go_ret
    exact ⟨rfl, below1 _ _⟩
  case pos =>
  by_cases hn : 0 ≤ n ∧ n ≤ 1073741824
  case neg =>
    obtain rfl : f = 6 := (unveil HI1).1 (fun h => hn (of_decide_eq_true h).2)
    clear HI1 HR
    have HP := fun w => In_b p 0 3 true (decide_eq_true hp) w
    have HN := fun w => In_b n 0 1073741824 false (decide_eq_false hn) w
    clear hp hn
    go_enter Try.func15, Try.ntmps15
    go_wp2_with (first
      | (go_at_call 35; with_reducible refine (HP _).mono ?_; rintro e w1 ⟨rfl, hw1⟩; subst w1; clear HP)
      | (go_at_call 35; refine (HN _).mono ?_; rintro e w1 ⟨rfl, hw1⟩; subst w1; clear HN))
    go_ret
    exact ⟨rfl, below1 _ _⟩
  case pos =>
  have HI2 : Hid ((¬ waitB p n (n - 8) es = true → f = 6) ∧ (¬ knowB wh = true → f = 6) ∧ (waitB p n (n - 8) es = true → knowB wh = true → f = 0)) := veil ⟨(unveil HI1).2.1, (unveil HI1).2.2.1, (unveil HI1).2.2.2 (decide_eq_true ⟨hp, hn⟩)⟩
  clear HI1
  have HP := fun w => In_b p 0 3 true (decide_eq_true hp) w
  have HN := fun w => In_b n 0 1073741824 true (decide_eq_true hn) w
  obtain ⟨hn0, hn1⟩ := hn
  clear hp
  go_enter Try.func15, Try.ntmps15
  go_upto_region 1 with fail
  obtain ⟨W, hW, cb, B0⟩ : ∃ W, W = w.alloc (.cells (cCells p n a es.length c wh) 25) ∧ cBlock W w.heap.size p n a es.length c wh ∧ Below w.heap.size w W := ⟨_, rfl, cBlock.new _ _ _ _ _ _ _, below1 _ _⟩
  rw [← hW]
  clear hW
  obtain ⟨c0, c1, c2, _⟩ := cb.cells
  have HCB := veil cb
  have HB0 := veil B0
  clear cb B0
  go_upto_region 4 with (first
      | (go_at_call 35; with_reducible refine (HP _).mono ?_; rintro e w1 ⟨rfl, hw1⟩; subst w1; clear HP)
      | (go_at_call 35; refine (HN _).mono ?_; rintro e w1 ⟨rfl, hw1⟩; subst w1; clear HN))
  go_loopw [3] (fun i wr => ∃ k : Nat, k ≤ es.length ∧ i = .int .i64 k ∧ Hid (waitB p n (n - 8) es = waitB p n (lowAt n es k) (es.drop k) ∧ n - 8 ≤ lowAt n es k) ∧ Hid (cBlock wr w.heap.size p n a es.length c wh) ∧ Hid (Below w.heap.size w wr)) (fun i _ => es.length - (intOf i).toNat)
  case atStart => exact ⟨0, Nat.zero_le _, rfl, veil ⟨rfl, Int.le_refl _⟩, HCB, HB0⟩
  case round =>
    obtain ⟨k, hk, rfl, HRK, HCB1, HB1⟩ := hrel
    clear HCB HB0 c0 c1 c2
    obtain ⟨c0, c1, c2, _⟩ := (unveil HCB1).cells
    by_cases hlt : k < es.length
    case pos =>
      have hr := unveil HR wr (unveil HB1)
      obtain ⟨b, off, rfl⟩ := hr.form (by omega)
      obtain ⟨x0, x1, x2, x3, x4, x5⟩ := row_event hr k hlt
      have hbl : b < wr.heap.size := hr.lt (by omega)
      have hbn : b ≠ wr.heap.size := by omega
      have hd : es.drop k = es[k] :: es.drop (k + 1) := List.drop_eq_getElem_cons hlt
      have hlow : Hid (lowAt n es (k + 1) = es[k].i + 1) := veil (by simp [lowAt, List.getElem?_eq_getElem hlt])
      obtain ⟨lo, hlo⟩ : ∃ lo, lo = lowAt n es k := ⟨_, rfl⟩
      have HD : Hid (waitB p n (n - 8) es = waitB p n lo (es[k] :: es.drop (k + 1))) := veil (by rw [← hd, hlo]; exact (unveil HRK).1)
      have HLO : Hid (n - 8 ≤ lo) := veil (by rw [hlo]; exact (unveil HRK).2)
      have HPV : Hid (∀ m, k = m + 1 → ∃ u, lo = u + 1 ∧ ∀ W, Below w.heap.size w W → W.cell? ⟨b, off + m * 6 + 2, none⟩ = some (.int .i64 u)) := veil fun m hm => by
        subst hm
        refine ⟨es[m].i, by rw [hlo]; simp [lowAt, List.getElem?_eq_getElem (show m < es.length by omega)], fun W bW => ?_⟩
        exact (row_event (unveil HR W bW) m (by omega)).2.2.1
      have HZ : Hid (k = 0 → lo = n - 8) := veil fun h => by subst h; exact hlo
      obtain ⟨v, hv⟩ : ∃ v, v = es[k] := ⟨_, rfl⟩
      rw [← hv] at x0 x1 x2 x3 x4 x5 HD hlow
      clear hr hd hv HRK hlo
      go_upto_region 7 with fail
      obtain ⟨W1, hW1, b1, e1⟩ : ∃ W1, W1 = wr.alloc (.cells #[.int .i64 v.k, .int .i64 v.p, .int .i64 v.i, .int .i64 v.b, .int .i64 v.he, .int .i64 v.hn] 37) ∧ Below wr.heap.size wr W1 ∧ eBlock W1 wr.heap.size v := ⟨_, rfl, below1 _ _, heap_alloc_new _ _⟩
      rw [← hW1]
      clear hW1 x0 x1 x2 x3 x4 x5 c0 c1 c2
      have HE2 : Hid (∀ W2, Below W1.heap.size W1 W2 → Below w.heap.size w W2 → True) := veil fun _ _ _ => trivial
      clear HE2
      have HE2 : Hid (∀ W2, Below W1.heap.size W1 W2 → eBlock W2 wr.heap.size v ∧ cBlock W2 w.heap.size p n (some ⟨b, off, none⟩) es.length c wh ∧ Below w.heap.size w W2) := veil fun W2 b2 => ⟨e1.next b2, (unveil HCB1).next (Below.next b1 b2), Below.next (unveil HB1) (Below.next b1 b2)⟩
      obtain ⟨v0, v1, v2, v3, v4, v5⟩ := e1.cells
      clear e1 b1 HCB1 HB1 hbl hbn
      have HC := fun W => fault_any v.k v.p v.i v.b v.he v.hn W
      obtain ⟨g, hg⟩ : ∃ g, g = eventFault v.k v.p v.i v.b v.he v.hn := ⟨_, rfl⟩
      rw [← hg] at HC
      have HF := veil hg
      clear hg
      generalize wr.heap.size = X at *
      obtain ⟨vk, vp, vi, vb, vhe, vhn⟩ := v
      simp only at v0 v1 v2 v3 v4 v5 HC HF HD hlow
      have fin : ∀ (hno : ¬ (g = 0 ∧ vk = 1 ∧ vp = p ∧ lo ≤ vi ∧ vi < n)), waitB p n (n - 8) es = false := fun hno => (unveil HD).trans (waitB_no (by rw [← unveil HF]; exact hno))
      have HFin := veil fin
      clear fin
      by_cases hg0 : g = 0
      case neg =>
        obtain rfl := (unveil HI2).1 (by rw [unveil HFin (fun h => hg0 h.1)]; decide)
        clear HI2 HFin HD HF
        go_wp2_with (first
          | (go_at_call 36; refine (HC _).mono ?_; rintro e W2 ⟨rfl, b2⟩; obtain ⟨e2, cb2, B2⟩ := unveil HE2 W2 b2; obtain ⟨v0, v1, v2, v3, v4, v5⟩ := e2.cells; obtain ⟨c0, c1, c2, _⟩ := cb2.cells; have HB2 := veil (And.intro B2 (And.intro e2 cb2)); clear HE2 HC B2 e2 cb2)
          | (go_at_call 35; refine (HIN _ (by first | rfl | omega | (rw [IntKind.wrap_i64]; omega)) _).mono ?_; rintro e w3 ⟨rfl, hw3⟩; subst w3; clear HIN))
        go_ret
        exact ⟨rfl, (unveil HB2).1⟩
      case pos =>
      subst hg0
      by_cases hk1 : vk = 1
      case neg =>
        obtain rfl := (unveil HI2).1 (by rw [unveil HFin (fun h => hk1 h.2.1)]; decide)
        clear HI2 HFin HD HF
        go_wp2_with (first
          | (go_at_call 36; refine (HC _).mono ?_; rintro e W2 ⟨rfl, b2⟩; obtain ⟨e2, cb2, B2⟩ := unveil HE2 W2 b2; obtain ⟨v0, v1, v2, v3, v4, v5⟩ := e2.cells; obtain ⟨c0, c1, c2, _⟩ := cb2.cells; have HB2 := veil (And.intro B2 (And.intro e2 cb2)); clear HE2 HC B2 e2 cb2)
          | (go_at_call 35; refine (HIN _ (by first | rfl | omega | (rw [IntKind.wrap_i64]; omega)) _).mono ?_; rintro e w3 ⟨rfl, hw3⟩; subst w3; clear HIN))
        go_ret
        exact ⟨rfl, (unveil HB2).1⟩
      case pos =>
      subst hk1
      by_cases hp1 : vp = p
      case neg =>
        obtain rfl := (unveil HI2).1 (by rw [unveil HFin (fun h => hp1 h.2.2.1)]; decide)
        clear HI2 HFin HD HF
        go_wp2_with (first
          | (go_at_call 36; refine (HC _).mono ?_; rintro e W2 ⟨rfl, b2⟩; obtain ⟨e2, cb2, B2⟩ := unveil HE2 W2 b2; obtain ⟨v0, v1, v2, v3, v4, v5⟩ := e2.cells; obtain ⟨c0, c1, c2, _⟩ := cb2.cells; have HB2 := veil (And.intro B2 (And.intro e2 cb2)); clear HE2 HC B2 e2 cb2)
          | (go_at_call 35; refine (HIN _ (by first | rfl | omega | (rw [IntKind.wrap_i64]; omega)) _).mono ?_; rintro e w3 ⟨rfl, hw3⟩; subst w3; clear HIN))
        go_ret
        exact ⟨rfl, (unveil HB2).1⟩
      case pos =>
      subst hp1
      obtain ⟨hi0, hi1⟩ := pub_id (unveil HF).symm
      by_cases hin : 1 ≤ n - vi ∧ n - vi ≤ 8
      case neg =>
        have HIN := fun z (hz : z = n - vi) w => In_b z 1 8 false (decide_eq_false (by rw [hz]; exact hin)) w
        obtain rfl := (unveil HI2).1 (by rw [unveil HFin (fun h => hin (by have := unveil HLO; omega))]; decide)
        clear HI2 HFin HD HF
        go_wp2_with (first
          | (go_at_call 36; refine (HC _).mono ?_; rintro e W2 ⟨rfl, b2⟩; obtain ⟨e2, cb2, B2⟩ := unveil HE2 W2 b2; obtain ⟨v0, v1, v2, v3, v4, v5⟩ := e2.cells; obtain ⟨c0, c1, c2, _⟩ := cb2.cells; have HB2 := veil (And.intro B2 (And.intro e2 cb2)); clear HE2 HC B2 e2 cb2)
          | (go_at_call 35; refine (HIN _ (by first | rfl | omega | (rw [IntKind.wrap_i64]; omega)) _).mono ?_; rintro e w3 ⟨rfl, hw3⟩; subst w3; clear HIN))
        go_ret
        exact ⟨rfl, (unveil HB2).1⟩
      case pos =>
      have HIN := fun z (hz : z = n - vi) w => In_b z 1 8 true (decide_eq_true (by rw [hz]; exact hin)) w
      have hvn : vi < n := by omega
      have hvl : n - 8 ≤ vi := by omega
      clear hin
      have HNX : Hid (lo ≤ vi → waitB vp n (n - 8) es = waitB vp n (lowAt n es (k + 1)) (es.drop (k + 1)) ∧ n - 8 ≤ lowAt n es (k + 1)) := veil fun hle => by
        rw [unveil hlow]
        exact ⟨(unveil HD).trans (waitB_yes ⟨(unveil HF).symm, rfl, rfl, hle, hvn⟩), by omega⟩
      have HBD : Hid (¬ lo ≤ vi → f = 6) := veil fun hle => (unveil HI2).1 (by rw [unveil HFin (fun h => hle h.2.2.2.1)]; decide)
      clear HFin HD HF hlow
      cases k with
      | zero =>
        have hle : lo ≤ vi := by have := unveil HZ rfl; omega
        have HN2 := unveil HNX hle
        have HN3 := veil HN2
        clear HNX HBD HZ HPV hle HN2 HLO
        go_upto_region 9 with (first
          | (go_at_call 36; refine (HC _).mono ?_; rintro e W2 ⟨rfl, b2⟩; obtain ⟨e2, cb2, B2⟩ := unveil HE2 W2 b2; obtain ⟨v0, v1, v2, v3, v4, v5⟩ := e2.cells; obtain ⟨c0, c1, c2, _⟩ := cb2.cells; have HB2 := veil (And.intro B2 (And.intro e2 cb2)); clear HE2 HC B2 e2 cb2)
          | (go_at_call 35; refine (HIN _ (by first | rfl | omega | (rw [IntKind.wrap_i64]; omega)) _).mono ?_; rintro e w3 ⟨rfl, hw3⟩; subst w3; clear HIN))
        go_wp2_with fail
        go_quiet (fail)
        clear v0 v1 v2 v3 v4 v5 c0 c1 c2
        go_wp2
        go_roundw
        case rel => exact ⟨0 + 1, by omega, by go_num, HN3, veil ((unveil HB2).2.2.next (belowN _ _)), veil (Below.next (unveil HB2).1 (belowN _ _))⟩
        case measure => simp [intOf]; omega
      | succ m =>
        obtain ⟨u, hu, hcell⟩ := unveil HPV m rfl
        have HCL := veil hcell
        clear hcell HPV HZ HLO
        by_cases hle : u < vi
        · have HN3 := veil (unveil HNX (by omega))
          have hle' : decide (vi ≤ u) = false := by simp; omega
          clear HNX HBD hu hle
          go_upto_region 9 with (first
          | (go_at_call 36; refine (HC _).mono ?_; rintro e W2 ⟨rfl, b2⟩; obtain ⟨e2, cb2, B2⟩ := unveil HE2 W2 b2; obtain ⟨v0, v1, v2, v3, v4, v5⟩ := e2.cells; obtain ⟨c0, c1, c2, _⟩ := cb2.cells; have HB2 := veil (And.intro B2 (And.intro e2 cb2)); clear HE2 HC B2 e2 cb2)
          | (go_at_call 35; refine (HIN _ (by first | rfl | omega | (rw [IntKind.wrap_i64]; omega)) _).mono ?_; rintro e w3 ⟨rfl, hw3⟩; subst w3; clear HIN))
          have y2 := unveil HCL _ (unveil HB2).1
          go_wp2_with fail
          go_quiet (fail)
          clear v0 v1 v2 v3 v4 v5 c0 c1 c2 y2
          go_wp2
          go_roundw
          case rel => exact ⟨m + 1 + 1, by omega, by go_num, HN3, veil ((unveil HB2).2.2.next (belowN _ _)), veil (Below.next (unveil HB2).1 (belowN _ _))⟩
          case measure => simp [intOf]; omega
        · obtain rfl := unveil HBD (by omega)
          have hle' : decide (vi ≤ u) = true := by simp; omega
          clear HNX HBD hu hle
          go_upto_region 9 with (first
          | (go_at_call 36; refine (HC _).mono ?_; rintro e W2 ⟨rfl, b2⟩; obtain ⟨e2, cb2, B2⟩ := unveil HE2 W2 b2; obtain ⟨v0, v1, v2, v3, v4, v5⟩ := e2.cells; obtain ⟨c0, c1, c2, _⟩ := cb2.cells; have HB2 := veil (And.intro B2 (And.intro e2 cb2)); clear HE2 HC B2 e2 cb2)
          | (go_at_call 35; refine (HIN _ (by first | rfl | omega | (rw [IntKind.wrap_i64]; omega)) _).mono ?_; rintro e w3 ⟨rfl, hw3⟩; subst w3; clear HIN))
          have y2 := unveil HCL _ (unveil HB2).1
          go_wp2_with fail
          go_quiet (fail)
          clear v0 v1 v2 v3 v4 v5 c0 c1 c2 y2
          go_wp2
          go_ret
          exact ⟨rfl, Below.next (unveil HB2).1 (belowN _ _)⟩
    case neg =>
      obtain rfl : k = es.length := by omega
      have HWT : Hid (waitB p n (n - 8) es = true) := veil (by rw [(unveil HRK).1, List.drop_length]; rfl)
      have HI3 : Hid ((¬ okK wh → f = 6) ∧ (okK wh → f = 0)) := veil ⟨fun h => (unveil HI2).2.1 (fun h' => h (knowB_iff.1 h')), fun h => (unveil HI2).2.2 (unveil HWT) (knowB_iff.2 h)⟩
      clear HI2 HWT HRK HR hbig
      go_upto_region 12 with fail
      go_loopw [5] (fun i wx => ∃ q : Nat, q ≤ 4 ∧ i = .int .i64 q ∧ Hid (∀ j, j < q → -1 ≤ wh j ∧ wh j ≤ 4) ∧ wx = wr) (fun i _ => 4 - (intOf i).toNat)
      case atStart => exact ⟨0, by omega, rfl, veil (fun j hj => by omega), by first | rfl | trivial⟩
      case round =>
        obtain ⟨q, hq, rfl, HJ, rfl⟩ := hrel
        by_cases hq4 : q < 4
        · have cq := (unveil HCB1).at q hq4
          by_cases hx : -1 ≤ wh q ∧ wh q ≤ 4
          · have HIN := fun w => In_b (wh q) (-1) 4 true (decide_eq_true hx) w
            have HJ2 : Hid (∀ j, j < q + 1 → -1 ≤ wh j ∧ wh j ≤ 4) := veil fun j hj => by
              rcases Nat.lt_or_ge j q with h1 | h1
              · exact unveil HJ j h1
              · obtain rfl : j = q := by omega
                exact hx
            generalize wh q = x at cq HIN hx
            clear hx
            go_wp2_with (go_at_call 35; refine (HIN _).mono ?_; rintro e w1 ⟨rfl, hw1⟩; subst w1)
            go_roundw
            case rel => exact ⟨q + 1, by omega, by go_num, HJ2, by first | rfl | trivial⟩
            case measure => simp [intOf]; omega
          · have HIN := fun w => In_b (wh q) (-1) 4 false (decide_eq_false hx) w
            obtain rfl : f = 6 := (unveil HI3).1 (fun h => hx (h q hq4))
            generalize wh q = x at cq HIN hx
            clear hx HI3
            go_wp2_with (go_at_call 35; refine (HIN _).mono ?_; rintro e w1 ⟨rfl, hw1⟩; subst w1)
            go_ret
            exact ⟨rfl, unveil HB1⟩
        · obtain rfl : q = 4 := by omega
          obtain rfl : f = 0 := (unveil HI3).2 (unveil HJ)
          clear HI3
          go_wp2
          go_ret
          exact ⟨rfl, unveil HB1⟩
end Go.Proofs.Ytjolamdlclcpcaa
