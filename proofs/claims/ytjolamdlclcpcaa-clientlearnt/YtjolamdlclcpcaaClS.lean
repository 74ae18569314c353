/- The walk of berthshiftkeep's ClientLearnt. -/
import Derived.Test.YtjolamdlclcpcaaClR
namespace Go.Proofs.Ytjolamdlclcpcaa
open Go.RowKit

/-- four numbers of a slice's own. -/
def nBlock (w : World) (R : Nat) (f : Nat → Int) : Prop := w.heap[R]? = some (.cells #[.int .i64 (f 0), .int .i64 (f 1), .int .i64 (f 2), .int .i64 (f 3)] 3 (0, 0))
theorem nBlock.cells {w : World} {R : Nat} {f : Nat → Int} (h : nBlock w R f) : ∀ k, k < 4 → w.cell? ⟨R, k, none⟩ = some (.int .i64 (f k)) := by
  unfold nBlock at h
  refine below4c ?_ ?_ ?_ ?_ <;> simp [World.cell?, h]
theorem nBlock.free {w : World} {R : Nat} {f : Nat → Int} (h : nBlock w R f) (o : Nat) : w.frozen? ⟨R, o, none⟩ = false := by
  unfold nBlock at h; simp [World.frozen?, h]
theorem nBlock.put {w : World} {R : Nat} {f : Nat → Int} (h : nBlock w R f) (k : Nat) (hk : k < 4) (x : Int) : nBlock (w.setCell ⟨R, k, none⟩ (.int .i64 x)) R (wput f k x) := by
  unfold nBlock at h ⊢
  rw [heap_setC h]
  have : ∀ k, k < 4 → (#[.int .i64 (f 0), .int .i64 (f 1), .int .i64 (f 2), .int .i64 (f 3)] : Array Value).set! k (.int .i64 x) = #[.int .i64 (wput f k x 0), .int .i64 (wput f k x 1), .int .i64 (wput f k x 2), .int .i64 (wput f k x 3)] := by
    refine below4c ?_ ?_ ?_ ?_ <;> simp [wput]
  rw [this k hk]
theorem nBlock.next {w w' : World} {R : Nat} {f : Nat → Int} (h : nBlock w R f) (b : Below w.heap.size w w') : nBlock w' R f := (b.block R (block_lt h)).trans h
theorem nBlock.turned {w w' : World} {R R' : Nat} {f : Nat → Int} (h : nBlock w R f) (t : Turned R' w w') (hR : R ≠ R') : nBlock w' R f := (t.block R hR).trans h
theorem CIn.turned {w w' : World} {C : Cl} {a : Option Addr} {c R : Nat} (h : CIn w C a c) (t : Turned R w w') (hR : ∀ x, a = some x → 0 < C.es.length → x.block ≠ R) : CIn w' C a c := ⟨t.row h.row (fun x hx h0 => hR x hx (by omega)), h.cap, h.nil, h.big⟩
/-- a client that knows no more than where queues are. -/
structure Lt (w W : World) (X Y : Nat) (f : Nat → Int) (a : Option Addr) (c : Nat) : Prop where
  cb : cBlock W X 0 0 a 0 c f
  nil : a = none → c = 0
  ok : okK f
  nb : nBlock W Y f
  bel : Below w.heap.size w W
  ne : Y ≠ X
  up : w.heap.size ≤ X
  up' : w.heap.size ≤ Y
theorem Lt.next {w W W' : World} {X Y : Nat} {f : Nat → Int} {a : Option Addr} {c : Nat} (h : Lt w W X Y f a c) (b : Below W.heap.size W W') : Lt w W' X Y f a c := ⟨h.cb.next b, h.nil, h.ok, h.nb.next b, Below.next h.bel b, h.ne, h.up, h.up'⟩
theorem Lt.cin {w W : World} {X Y : Nat} {f : Nat → Int} {a : Option Addr} {c : Nat} (h : Lt w W X Y f a c) (W' : World) : CIn W' ⟨0, 0, [], f⟩ a c := ⟨RowK.nil _ _ _, Nat.zero_le _, h.nil, by simp⟩
theorem Lt.cok {w W : World} {X Y : Nat} {f : Nat → Int} {a : Option Addr} {c : Nat} (h : Lt w W X Y f a c) : Cl.Ok ⟨0, 0, [], f⟩ := ⟨by show (0 : Int) ≤ 0; omega, by show (0 : Int) ≤ 3; omega, by show (0 : Int) ≤ 0; omega, by show (0 : Int) ≤ _; omega, trivial, h.ok⟩
theorem two_at {w : World} {b off n : Nat} {D : List Int} (h : RowK .i64 w (some ⟨b, off, none⟩) (2 * n) D) (k : Nat) (hk : k < n) :
    w.cell? ⟨b, off + k * 2, none⟩ = some (.int .i64 (D.getD (2 * k) 0)) ∧ w.cell? ⟨b, off + k * 2 + 1, none⟩ = some (.int .i64 (D.getD (2 * k + 1) 0)) := by
  rw [Nat.mul_comm k 2]
  exact ⟨h.at (2 * k) (by omega), h.at (2 * k + 1) (by omega)⟩
set_option maxRecDepth 20000 in
set_option maxHeartbeats 8000000 in
theorem walk_ClientLearnt (w : World) (a0 : Option Addr) (len cap : Nat) (D : List Int) (hrow : RowK .i64 w a0 (2 * len) D) (hlc : len ≤ cap) (_ : a0 = none → cap = 0) (hz : cap * 16 ≤ 140737488351232) :
    Calls Try.prog 11 #[.slice a0 len cap] w fun e w' => e = .returned (.bool true) ∧ Below w.heap.size w w' := by
  have H1 := new_yes 0 (by omega) w
  have HR : Hid (∀ W, Below w.heap.size w W → RowK .i64 W a0 (2 * len) D) := veil fun W b => hrow.below b
  have HWF : Hid (∀ j, (Lit.int .i64 (D.getD j 0)).wf = true) := veil fun j => by
    rcases Nat.lt_or_ge j D.length with h | h
    · exact hrow.wf _ (getD_mem D j h)
    · rw [List.getD_eq_getElem?_getD, List.getElem?_eq_none h]; rfl
  have hl : len ≤ 9223372036854775806 := by omega
  clear hrow hz hlc
  go_enter Try.func11, Try.ntmps11
  go_upto_region 2 with (go_at_call 16; refine H1.mono ?_; rintro e W1 ⟨rfl, d1⟩; clear H1)
  obtain ⟨W2, hW2, cb2, B2, hs2⟩ : ∃ W2, W2 = W1.alloc (.cells (cCells 0 0 none 0 0 (fun _ => -1)) 25) ∧ cBlock W2 W1.heap.size 0 0 none 0 0 (fun _ => -1) ∧ Below w.heap.size w W2 ∧ (w.heap.size ≤ W1.heap.size ∧ W1.heap.size < W2.heap.size) := ⟨_, rfl, cBlock.new _ _ _ _ _ _ _, Below.next d1 (below1 _ _), d1.size, by simp⟩
  rw [← hW2]
  clear hW2 d1
  generalize W1.heap.size = X at *
  go_upto_region 3 with fail
  obtain ⟨W3, hW3, L3⟩ : ∃ W3, W3 = W2.alloc (.cells #[.int .i64 (-1), .int .i64 (-1), .int .i64 (-1), .int .i64 (-1)] 3) ∧ Lt w W3 X W2.heap.size (fun _ => -1) none 0 :=
    ⟨_, rfl, cb2.next (below1 _ _), fun _ => rfl, fun _ _ => by show (-1 : Int) ≤ -1 ∧ (-1 : Int) ≤ 4; omega, heap_alloc_new _ _, Below.next B2 (below1 _ _), by omega, by omega, by omega⟩
  rw [← hW3]
  clear hW3 cb2 B2 hs2
  generalize W2.heap.size = Y at *
  have HL3 := veil L3
  clear L3
  go_upto_region 4 with fail
  go_loopw [6] (fun i wr => ∃ (k : Nat) (f : Nat → Int) (a : Option Addr) (c : Nat), k ≤ len ∧ k ≤ 20 ∧ i = .int .i64 k ∧ Hid (Lt w wr X Y f a c)) (fun i _ => 20 - (intOf i).toNat)
  case atStart => exact ⟨0, _, _, _, Nat.zero_le _, Nat.zero_le _, rfl, HL3⟩
  case round =>
    obtain ⟨k, f, a, c, hk, hk20, rfl, HL⟩ := hrel
    clear HL3
    by_cases hlt : k < len ∧ k < 20
    case pos =>
      obtain ⟨hlt, hlt20⟩ := hlt
      have hr := unveil HR wr (unveil HL).bel
      obtain ⟨bb, off, rfl⟩ := hr.form (by omega)
      obtain ⟨x0, x1⟩ := two_at hr k hlt
      have P1 := fun w => picked_any (D.getD (2 * k) 0) 4 w (unveil HWF _) (by decide) (by decide)
      have P2 := fun w => picked_any (D.getD (2 * k + 1) 0) 6 w (unveil HWF _) (by decide) (by decide)
      have hq := pickedOf_range (D.getD (2 * k) 0) 4 (by decide)
      have hm := pickedOf_range (D.getD (2 * k + 1) 0) 6 (by decide)
      generalize D.getD (2 * k) 0 = y0 at x0 P1 hq
      generalize D.getD (2 * k + 1) 0 = y1 at x1 P2 hm
      generalize pickedOf y0 4 = q at P1 hq
      generalize pickedOf y1 6 = m at P2 hm
      obtain ⟨qn, rfl⟩ : ∃ qn : Nat, q = qn := ⟨q.toNat, by omega⟩
      have hqn : qn < 4 := by omega
      obtain ⟨hm0, hm1⟩ := hm
      have hmn : m - 1 ≤ 4 := by omega
      clear hr hq
      go_upto_region 8 with (first
        | (go_at_call 27; with_reducible refine (P1 _).mono ?_; rintro e w2 ⟨rfl, rfl⟩; clear P1 x0)
        | (go_at_call 27; refine (P2 _).mono ?_; rintro e w2 ⟨rfl, rfl⟩; clear P2 x1))
      obtain ⟨nd, hnd⟩ : ∃ nd, nd = m - 1 := ⟨_, rfl⟩
      have hd : -1 ≤ nd ∧ nd ≤ 4 := by omega
      rw [← hnd]
      clear hnd hm0 hm1 hmn
      have HLn : Calls Try.prog 23 #[cVal 0 0 a 0 c f, .int .i64 qn, .int .i64 nd] wr fun e w' => ∃ a' c', e = .returned (.tuple #[cVal 0 0 a' 0 c' (wput f qn nd), .int .i64 0]) ∧ CIn w' ⟨0, 0, [], wput f qn nd⟩ a' c' ∧ Below wr.heap.size wr w' := learn_yes ⟨0, 0, [], f⟩ a c wr ((unveil HL).cin wr) (unveil HL).cok qn hqn nd hd
      obtain ⟨c0, c1, c2, c3, c4, c5, c6⟩ := (unveil HL).cb.cells
      go_upto_region 11 with (go_at_call 23; refine HLn.mono ?_; rintro e W4 ⟨a4, k4, rfl, i4, d4⟩; clear HLn c0 c1 c2 c3 c4 c5 c6; have HI4 := veil (And.intro i4 d4); clear i4 d4)
      obtain ⟨W5, hW5, L5, zb5, hs5⟩ : ∃ W5, W5 = W4.alloc (.cells (cCells 0 0 a4 0 k4 (wput f qn nd)) 25) ∧ Lt w W5 X Y f a c ∧ cBlock W5 W4.heap.size 0 0 a4 0 k4 (wput f qn nd) ∧ (X < W4.heap.size ∧ Y < W4.heap.size) := ⟨_, rfl, ((unveil HL).next (unveil HI4).2).next (below1 _ _), cBlock.new _ _ _ _ _ _ _, ((unveil HL).next (unveil HI4).2).cb.lt, block_lt ((unveil HL).next (unveil HI4).2).nb⟩
      rw [← hW5]
      clear hW5
      have hn4 := (unveil HI4).1.nil
      generalize W4.heap.size = Z at *
      obtain ⟨c0, c1, c2, c3, c4, c5, c6⟩ := zb5.cells
      obtain ⟨x0, x1, x2, x3, x4, x5, x6⟩ := L5.cb.cells
      have xf := L5.cb.free
      have HL5 := veil L5
      have HN4 := veil hn4
      clear zb5 L5 HI4 HL hn4
      have hXZ : X ≠ Z := by omega
      have hZX : Z ≠ X := by omega
      go_upto_region 12 with fail
      obtain ⟨W6, hW6, cb6, B6, tn6⟩ := c_stored (unveil HL5).cb (unveil HL5).bel (unveil HL5).up 0 0 a4 0 k4 (wput f qn nd)
      rw [← hW6]
      have nb6 := (unveil HL5).nb.turned tn6 (unveil HL5).ne
      clear hW6 c0 c1 c2 c3 c4 c5 c6 x0 x1 x2 x3 x4 x5 x6 xf
      have ck := nb6.cells qn hqn
      have nf := nb6.free
      have H6 := veil (And.intro cb6 (And.intro nb6 B6))
      clear cb6 nb6 B6 tn6
      go_upto_region 5 with fail
      obtain ⟨W7, hW7, L7⟩ : ∃ W7, W7 = W6.setCell ⟨Y, qn, none⟩ (.int .i64 nd) ∧ Lt w W7 X Y (wput f qn nd) a4 k4 := by
        have T := Turned.set Y qn W6 (.int .i64 nd)
        refine ⟨_, rfl, (unveil H6).1.turned T (Ne.symm (unveil HL5).ne), unveil HN4, fun q hq => ?_, (unveil H6).2.1.put qn hqn nd, T.under (unveil H6).2.2 (unveil HL5).up', (unveil HL5).ne, (unveil HL5).up, (unveil HL5).up'⟩
        unfold wput
        split
        · exact hd
        · exact (unveil HL5).ok q hq
      rw [← hW7]
      have HL7 := veil L7
      clear hW7 L7 ck nf H6
      go_wp2
      go_roundw
      case rel => exact ⟨k + 1, _, a4, k4, by omega, by omega, by go_num, HL7⟩
      case measure => simp [intOf]; omega
    case neg =>
      have hg : Hid True := veil trivial
      have key : (¬ (k : Int) < (len : Int)) ∨ ((k : Int) < (len : Int) ∧ ¬ (k : Int) < 20) := by omega
      clear hlt hg
      rcases key with hk1 | ⟨hk1, hk2⟩
      all_goals
        go_upto_region 14 with fail
        go_loopw [11] (fun i wx => ∃ q : Nat, q ≤ 4 ∧ i = .int .i64 q ∧ Hid (Lt w wx X Y f a c)) (fun i _ => 4 - (intOf i).toNat)
        case atStart => exact ⟨0, by omega, rfl, HL⟩
        case round =>
          obtain ⟨q, hq, rfl, HLq⟩ := hrel
          by_cases hq4 : q < 4
          case neg =>
            obtain rfl : q = 4 := by omega
            go_wp2
            go_ret
            exact ⟨rfl, (unveil HLq).bel⟩
          case pos =>
            have HA : Calls Try.prog 25 #[cVal 0 0 a 0 c f, .int .i64 q] wr fun e w' => ∃ x g, e = .returned (.tuple #[.int .i64 x, .int .i64 g]) ∧ Hid ((f q = -1 ∧ g = 7) ∨ (0 ≤ f q ∧ x = f q ∧ g = 0)) ∧ Below wr.heap.size wr w' := ask_yes ⟨0, 0, [], f⟩ a c wr ((unveil HLq).cin wr) (unveil HLq).cok q hq4
            obtain ⟨c0, c1, c2, c3, c4, c5, c6⟩ := (unveil HLq).cb.cells
            go_upto_region 17 with (go_at_call 25; refine HA.mono ?_; rintro e W4 ⟨x4, g4, rfl, HX, d4⟩; clear HA c0 c1 c2 c3 c4 c5 c6)
            have HL4 := veil ((unveil HLq).next d4)
            have ck := (unveil HL4).nb.cells q hq4
            clear d4 HLq
            rcases unveil HX with ⟨h1, rfl⟩ | ⟨h1, h2, rfl⟩
            · rw [h1] at ck
              clear h1 HX
              go_wp2
              go_roundw
              case rel => exact ⟨q + 1, by omega, by go_num, HL4⟩
              case measure => simp [intOf]; omega
            · rw [← h2] at ck h1
              clear h2 HX
              go_wp2
              go_roundw
              case rel => exact ⟨q + 1, by omega, by go_num, HL4⟩
              case measure => simp [intOf]; omega
end Go.Proofs.Ytjolamdlclcpcaa
