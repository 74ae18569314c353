/- The walk of berthshiftkeep's ClientSafe. -/
import Derived.Test.YtjolamdlclcpcaaClX
import Derived.Deep.RegionHeld3
namespace Go.Proofs.Ytjolamdlclcpcaa
open Go.RowKit

theorem two_at {w : World} {b off n : Nat} {D : List Int} (h : RowK .i64 w (some ⟨b, off, none⟩) (2 * n) D) (k : Nat) (hk : k < n) :
    w.cell? ⟨b, off + k * 2, none⟩ = some (.int .i64 (D.getD (2 * k) 0)) ∧ w.cell? ⟨b, off + k * 2 + 1, none⟩ = some (.int .i64 (D.getD (2 * k + 1) 0)) := by
  rw [Nat.mul_comm k 2]
  exact ⟨h.at (2 * k) (by omega), h.at (2 * k + 1) (by omega)⟩
abbrev clOf (sent : Nat) (es : List Ev) : Cl := ⟨1, sent, es, fun _ => -1⟩
/-- what holds in each round. -/
def SfR (w W : World) (X B sent : Nat) : Prop := ∃ (es : List Ev) (a : Option Addr) (c : Nat) (s : St) (a1 : Option Addr) (c1 : Nat) (a2 : Option Addr) (c2 : Nat) (ws : Nat → Value), Cs w W X B (clOf sent es) a c s a1 c1 a2 c2 ws ∧ (clOf sent es).Ok ∧ ∃ ids, Sf s ids sent
set_option maxRecDepth 20000 in
set_option maxHeartbeats 16000000 in
theorem walk_ClientSafe (w : World) (a0 : Option Addr) (len cap : Nat) (D : List Int) (hrow : RowK .i64 w a0 (2 * len) D) (hlc : len ≤ cap) (_ : a0 = none → cap = 0) (hz : cap * 16 ≤ 140737488351232) :
    Calls Try.prog 9 #[.slice a0 len cap] w fun e w' => e = .returned (.bool true) ∧ Below w.heap.size w w' := by
  have H1 := new_yes 1 (by omega) w
  have HR : Hid (∀ W, Below w.heap.size w W → RowK .i64 W a0 (2 * len) D) := veil fun W b => hrow.below b
  have HWF : Hid (∀ j, (Lit.int .i64 (D.getD j 0)).wf = true) := veil fun j => by
    rcases Nat.lt_or_ge j D.length with h | h
    · exact hrow.wf _ (getD_mem D j h)
    · rw [List.getD_eq_getElem?_getD, List.getElem?_eq_none h]; rfl
  have hl : len ≤ 9223372036854775806 := by omega
  clear hrow hz hlc
  go_enter Try.func9, Try.ntmps9
  go_upto_region 2 with (go_at_call 16; refine H1.mono ?_; rintro e W1 ⟨rfl, d1⟩; clear H1)
  obtain ⟨W2, hW2, cb2, B2, hs2⟩ : ∃ W2, W2 = W1.alloc (.cells (cCells 1 0 none 0 0 (fun _ => -1)) 25) ∧ cBlock W2 W1.heap.size 1 0 none 0 0 (fun _ => -1) ∧ Below w.heap.size w W2 ∧ (w.heap.size ≤ W1.heap.size ∧ W1.heap.size < W2.heap.size) := ⟨_, rfl, cBlock.new _ _ _ _ _ _ _, Below.next d1 (below1 _ _), d1.size, by simp⟩
  rw [← hW2]
  clear hW2 d1
  generalize W1.heap.size = X at *
  go_upto_region 3 with (refine q_alloc 5 rfl rfl rfl ?_; intro W3 z3 b3)
  have HS0 : Hid (SfR w W3 X W2.heap.size 0) := veil ⟨[], none, 0, St.zero, none, 0, none, 0, zeroW, ⟨cb2.next b3, CIn.nil' _ _ _ _, ⟨z3, RowK.nil _ _ _, RowK.nil _ _ _, fun _ => rfl, fun _ => rfl, zeroWins⟩, Below.next B2 b3, by omega, by omega, by omega, (fun x hx => by cases hx), (fun x hx => by cases hx), rfl⟩, Cl.new_ok (by omega), [], Sf.zero⟩
  obtain ⟨c0, c1, c2, c3, c4, c5, c6⟩ := (cb2.next b3).cells
  clear cb2 B2 z3 b3 hs2
  generalize W2.heap.size = B at *
  go_upto_region 7 with fail
  clear c0 c1 c2 c3 c4 c5 c6
  go_loopw [6, 7] (fun t i wr => ∃ k sent : Nat, k ≤ len ∧ k ≤ 80 ∧ sent ≤ k ∧ i = .int .i64 k ∧ t = .int .i64 sent ∧ Hid (SfR w wr X B sent)) (fun _ i _ => 80 - (intOf i).toNat)
  case atStart => exact ⟨0, 0, Nat.zero_le _, Nat.zero_le _, Nat.le_refl _, rfl, rfl, HS0⟩
  case round =>
    obtain ⟨k, sent, hk, hk80, hsk, rfl, rfl, HS⟩ := hrel
    clear HS0
    obtain ⟨es, a, c, s, a1, c1, a2, c2, ws, hC, hOk, ids, hSf⟩ := unveil HS
    have HC := veil hC
    have HK := veil hOk
    have HF := veil hSf
    have hes := hOk.len
    clear hC hOk hSf
    by_cases hlt : k < len ∧ k < 80
    case neg =>
      have key : (¬ (k : Int) < (len : Int)) ∨ ((k : Int) < (len : Int) ∧ ¬ (k : Int) < 80) := by omega
      have HCk : Calls Try.prog 13 #[cVal 1 sent a es.length c (fun _ => -1)] wr fun e w' => e = .returned (.int .i64 0) ∧ Below wr.heap.size wr w' := ccheck_yes (clOf sent es) a c wr (unveil HC).i (unveil HK)
      obtain ⟨c0, c1', c2', c3, c4, c5, c6⟩ := (unveil HC).cb.cells
      obtain ⟨_, q1, _⟩ := (unveil HC).q.q.heads
      have hnx : decide (s.nx ≤ (sent : Int)) = true := by have := (unveil HF).nx; have := (unveil HF).few; simp; omega
      have hel : decide ((es.length : Int) ≤ 8) = true := by have : es.length ≤ 8 := hes; simp; omega
      have hss : ((sent : Int) == (sent : Int)) = true := by simp
      have HX : Hid (∀ W, Below wr.heap.size wr W → Cs w W X B (clOf sent es) a c s a1 c1 a2 c2 ws) := veil fun W b => (unveil HC).next b
      clear hlt HS
      rcases key with hk1 | ⟨hk1, hk2⟩
      all_goals
        go_wp2_with (go_at_call 13; refine HCk.mono ?_; rintro e W5 ⟨rfl, d5⟩; clear HCk c0 c1' c2' c3 c4 c5 c6 q1; have C5 := unveil HX W5 d5; obtain ⟨c0, c1', c2', c3, c4, c5, c6⟩ := C5.cb.cells; have HC5 := veil C5; clear C5)
        go_ret
        exact ⟨by simp, (unveil HC5).bel⟩
    case pos =>
    obtain ⟨hlt, hlt80⟩ := hlt
    have hr := unveil HR wr (unveil HC).bel
    obtain ⟨bb, off0, rfl⟩ := hr.form (by omega)
    obtain ⟨x0, x1⟩ := two_at hr k hlt
    have hbl := hr.lt (by omega)
    have P1 : ∀ w, Calls Try.prog 27 #[.int .i64 (D.getD (2 * k) 0), .int .i64 3] w fun e w' => e = .returned (.int .i64 (pickedOf (D.getD (2 * k) 0) 3)) ∧ w' = w := fun w => (picked_any _ 3 w (unveil HWF _) (by decide) (by decide)).mono fun _ _ h => ⟨h.1, h.2.symm⟩
    have hm := pickedOf_range (D.getD (2 * k) 0) 3 (by decide)
    have wf1 := unveil HWF (2 * k + 1)
    generalize D.getD (2 * k) 0 = y0 at x0 P1 hm
    generalize D.getD (2 * k + 1) 0 = y1 at x1 wf1
    generalize pickedOf y0 3 = m at P1 hm
    clear hr
    have m3 : m = 0 ∨ m = 1 ∨ m = 2 := by omega
    clear hm HS
    rcases m3 with rfl | rfl | rfl
    · -- send
      go_upto_region 18 with (go_at_call 27; refine (P1 _).mono ?_; rintro e w2 ⟨rfl, hw2⟩; subst w2; clear P1 x0)
      by_cases hfull : (clOf sent es).full
      · have HSd : Calls Try.prog 19 #[cVal 1 sent a es.length c (fun _ => -1), .int .i64 k] wr fun e w' => ∃ a' c', e = .returned (.tuple #[cVal 0 0 a' 0 c' (fun _ => 0), evVal 0 0 0 0 0 0, .int .i64 14]) ∧ Below wr.heap.size wr w' := send_full (clOf sent es) a c wr (unveil HC).i (unveil HK) k (by omega) hfull
        obtain ⟨c0, c1', c2', c3, c4, c5, c6⟩ := (unveil HC).cb.cells
        clear hfull
        go_upto_region 20 with (go_at_call 19; refine HSd.mono ?_; rintro e W3 ⟨a3, k3, rfl, d3⟩; clear HSd c0 c1' c2' c3 c4 c5 c6)
        obtain ⟨W4, hW4, b4⟩ : ∃ W4, W4 = (W3.alloc (.cells (cCells 0 0 a3 0 k3 (fun _ => 0)) 25)).alloc (.cells #[.int .i64 0, .int .i64 0, .int .i64 0, .int .i64 0, .int .i64 0, .int .i64 0] 37) ∧ Below W3.heap.size W3 W4 := ⟨_, rfl, below2 _ _ _⟩
        rw [← hW4]
        have HS4 : Hid (SfR w W4 X B sent) := veil ⟨es, a, c, s, a1, c1, a2, c2, ws, ((unveil HC).next d3).next b4, unveil HK, ids, unveil HF⟩
        clear hW4 b4 d3 HC HK HF
        go_wp2
        go_roundw
        case rel => exact ⟨k + 1, sent, by omega, by omega, by omega, by go_num, rfl, HS4⟩
        case measure => simp [intOf]; omega
      · as_aux_lemma =>
        obtain ⟨v, hv⟩ : ∃ v : Ev, v = ⟨1, 1, sent, k, 0, 0⟩ := ⟨_, rfl⟩
        obtain ⟨es', hes'⟩ : ∃ es' : List Ev, es' = es ++ [v] := ⟨_, rfl⟩
        obtain ⟨n1, hn1⟩ : ∃ n1 : Int, n1 = (sent : Int) + 1 := ⟨_, rfl⟩
        have HSd : Calls Try.prog 19 #[cVal 1 sent a es.length c (fun _ => -1), .int .i64 k] wr fun e w' => ∃ a' c', e = .returned (.tuple #[cVal 1 n1 a' es'.length c' (fun _ => -1), evVal 1 1 sent k 0 0, .int .i64 0]) ∧ CIn w' ⟨1, n1, es', fun _ => -1⟩ a' c' ∧ (∀ x, a' = some x → wr.heap.size ≤ x.block) ∧ Below wr.heap.size wr w' := by
          have := send_yes (clOf sent es) a c wr (unveil HC).i (unveil HK) k (by omega) hfull
          have hle : es'.length = es.length + 1 := by rw [hes']; simp
          rw [hle, hes', hv, hn1]
          exact this
        have HOK' : Hid (Cl.Ok (clOf (sent + 1) es')) := veil (by rw [hes', hv]; exact Cl.Ok.sent (unveil HK) (by omega) hfull)
        have HN1 := veil hn1
        clear hv hes' hn1 hfull
        obtain ⟨c0, c1', c2', c3, c4, c5, c6⟩ := (unveil HC).cb.cells
        go_upto_region 20 with (go_at_call 19; refine HSd.mono ?_; rintro e W3 ⟨a3, k3, rfl, i3, u3, d3⟩; clear HSd c0 c1' c2' c3 c4 c5 c6; have HI3 := veil (And.intro i3 (And.intro u3 d3)); clear i3 u3 d3)
        obtain ⟨W4, hW4, C4, zb4, eb4, i4, hX4⟩ : ∃ W4, W4 = (W3.alloc (.cells (cCells 1 n1 a3 es'.length k3 (fun _ => -1)) 25)).alloc (.cells #[.int .i64 1, .int .i64 1, .int .i64 sent, .int .i64 k, .int .i64 0, .int .i64 0] 37) ∧ Cs w W4 X B (clOf sent es) a c s a1 c1 a2 c2 ws ∧ cBlock W4 W3.heap.size 1 n1 a3 es'.length k3 (fun _ => -1) ∧ eBlock W4 (W3.heap.size + 1) ⟨1, 1, sent, k, 0, 0⟩ ∧ CIn W4 ⟨1, n1, es', fun _ => -1⟩ a3 k3 ∧ X < W3.heap.size := by
          refine ⟨_, rfl, ((unveil HC).next (unveil HI3).2.2).next (below2 _ _ _), (cBlock.new _ _ _ _ _ _ _).next (below1 _ _), ?_, (unveil HI3).1.next (below2 _ _ _), ((unveil HC).next (unveil HI3).2.2).cb.lt⟩
          have h0 := heap_alloc_new (W3.alloc (.cells (cCells 1 n1 a3 es'.length k3 (fun _ => -1)) 25)) (.cells #[.int .i64 1, .int .i64 1, .int .i64 sent, .int .i64 k, .int .i64 0, .int .i64 0] 37)
          rw [show (W3.alloc (.cells (cCells 1 n1 a3 es'.length k3 (fun _ => -1)) 25)).heap.size = W3.heap.size + 1 by simp] at h0
          exact h0
        rw [← hW4]
        clear hW4
        have HU3 : Hid (∀ x, a3 = some x → 0 < es'.length → x.block ≠ X ∧ x.block ≠ B) := veil fun x hx _ => by
          have h1 := (unveil HI3).2.1 x hx
          have h2 := (unveil HC).cb.lt
          have h3 := (unveil HC).q.q.lt
          omega
        generalize W3.heap.size = G at *
        obtain ⟨g0, g1, g2, g3, g4, g5, g6⟩ := zb4.cells
        obtain ⟨e0, e1, e2, e3, e4, e5⟩ := eb4.cells
        obtain ⟨c0, c1', c2', c3, c4, c5, c6⟩ := C4.cb.cells
        have cf := C4.cb.free
        have HC4 := veil (And.intro C4 i4)
        clear C4 zb4 eb4 i4 HC HI3
        have hXG : X ≠ G := by omega
        have hGX : G ≠ X := by omega
        have hss : ((sent : Int) != (sent : Int)) = false := by simp
        have hkk : ((k : Int) != (k : Int)) = false := by simp
        go_upto_region 24 with fail
        obtain ⟨W8, hW8, cb8, B8, tn8⟩ := c_stored (unveil HC4).1.cb (unveil HC4).1.bel (unveil HC4).1.upX 1 n1 a3 es'.length k3 (fun _ => -1)
        rw [← hW8]
        have HS8 : Hid (SfR w W8 X B (sent + 1)) := veil ⟨es', a3, k3, s, a1, c1, a2, c2, ws, (unveil HC4).1.client (D := clOf (sent + 1) es') tn8 (by rw [unveil HN1] at cb8; exact cb8) (by have := (unveil HC4).2; rw [unveil HN1] at this; exact this) (unveil HU3), unveil HOK', ids, (unveil HF).more⟩
        clear hW8 g0 g1 g2 g3 g4 g5 g6 e0 e1 e2 e3 e4 e5 c0 c1' c2' c3 c4 c5 c6 cf cb8 B8 tn8
        go_wp2
        go_roundw
        case rel => exact ⟨k + 1, sent + 1, by omega, by omega, by omega, by go_num, by go_num, HS8⟩
        case measure => simp [intOf]; omega
    · -- publish
      by_cases hes0 : es.length = 0
      · obtain ⟨c0, c1', c2', c3, c4, c5, c6⟩ := (unveil HC).cb.cells
        have he0 : ((es.length : Int) == 0) = true := beq_iff_eq.2 (by omega)
        have HS4 : Hid (SfR w wr X B sent) := veil ⟨es, a, c, s, a1, c1, a2, c2, ws, unveil HC, unveil HK, ids, unveil HF⟩
        go_wp2_with (go_at_call 27; refine (P1 _).mono ?_; rintro e w2 ⟨rfl, hw2⟩; subst w2; clear P1 x0)
        go_roundw
        case rel => exact ⟨k + 1, sent, by omega, by omega, by omega, by go_num, rfl, HS4⟩
        case measure => simp [intOf]; omega
      · obtain ⟨c0, c1', c2', c3, c4, c5, c6⟩ := (unveil HC).cb.cells
        have he0 : ((es.length : Int) == 0) = false := beq_eq_false_iff_ne.2 (by omega)
        go_upto_region 27 with (go_at_call 27; refine (P1 _).mono ?_; rintro e w2 ⟨rfl, hw2⟩; subst w2; clear P1 x0)
        clear c0 c1' c2' c3 c4 c5 c6 he0
        have P2 : ∀ w, Calls Try.prog 27 #[.int .i64 y1, .int .i64 es.length] w fun e w' => e = .returned (.int .i64 (pickedOf y1 es.length)) ∧ w' = w := fun w => (picked_any y1 es.length w wf1 (by omega) (by have : es.length ≤ 8 := hes; omega)).mono fun _ _ h => ⟨h.1, h.2.symm⟩
        have hj := pickedOf_range y1 es.length (by omega)
        generalize pickedOf y1 es.length = j at P2 hj
        obtain ⟨jn, rfl⟩ : ∃ jn : Nat, j = jn := ⟨j.toNat, by omega⟩
        have hjn : jn < es.length := by omega
        have hrr : RowK .i64 wr a (6 * es.length) (evFlat es) := (unveil HC).i.row
        obtain ⟨g, off, rfl⟩ := hrr.form (show 0 < 6 * es.length by omega)
        obtain ⟨e0, e1, e2, e3, e4, e5⟩ := row_event hrr jn hjn
        have hgl := hrr.lt (show 0 < 6 * es.length by omega)
        obtain ⟨v, hv⟩ : ∃ v, v = es[jn] := ⟨_, rfl⟩
        have hvs : v.Ok ∧ v.k = 1 ∧ v.p = 1 ∧ (sent : Int) - 8 ≤ v.i ∧ v.i < (sent : Int) := by rw [hv]; exact okW_mem (unveil HK).w es[jn] (List.getElem_mem hjn)
        rw [← hv] at e0 e1 e2 e3 e4 e5
        have HV := veil hv
        have HVS := veil hvs
        have hi0 : 0 ≤ v.i ∧ v.i ≤ 1073741824 := by rcases Ev.cases hvs.1 with cc | cc | cc | cc <;> omega
        clear hv hvs hj hrr
        go_wp2_with fail
        have HDo : Hid (∀ W, Below wr.heap.size wr W → Calls Try.prog 28 #[qVal s.ep s.nx s.gv (.slice a1 s.rn c1) (.slice a2 s.ln c2) ws, evVal v.k v.p v.i v.b v.he v.hn] W fun e w' => ∃ (t : St) (ch : Bool) (b1 : Option Addr) (d1 : Nat) (b2 : Option Addr) (d2 : Nat) (vs : Nat → Value), e = .returned (.tuple #[qVal t.ep t.nx t.gv (.slice b1 t.rn d1) (.slice b2 t.ln d2) vs, ansVal 0 0 0 0, .bool ch, .int .i64 0]) ∧ (∃ ids', Sf t ids' sent) ∧ RowK .i64 w' b1 (2 * t.rn) t.R ∧ RowK .i64 w' b2 (4 * t.ln) t.L ∧ (b1 = none → d1 = 0) ∧ (b2 = none → d2 = 0) ∧ Wins vs t.wt t.wz ∧ (∀ x, b1 = some x → W.heap.size ≤ x.block) ∧ (∀ x, b2 = some x → W.heap.size ≤ x.block) ∧ Below W.heap.size W w') := veil fun W b => by
          refine (((unveil HC).next b).q.do (unveil HF).wf.ok v (unveil HVS).1).mono ?_
          rintro e w' ⟨s', an, ch, x, rfl, st, ⟨b1, d1, b2, d2, vs, rfl, r1, r2, _, _, n1, n2, hW, f1, f2⟩, bel⟩
          obtain ⟨rfl, ids', h'⟩ := (unveil HF).pub (by omega) (unveil HVS).1 (unveil HVS).2.1 (unveil HVS).2.2.1 (unveil HVS).2.2.2.1 (unveil HVS).2.2.2.2 st
          exact ⟨s', ch, b1, d1, b2, d2, vs, rfl, ⟨ids', h'⟩, r1, r2, n1, n2, hW, f1, f2, bel⟩
        go_cut [11, 12, 13, 14] (fun pQ pA bX eX wx => ∃ (XQ XA : Nat) (t : St) (ch : Bool) (b1 : Option Addr) (d1 : Nat) (b2 : Option Addr) (d2 : Nat) (vs : Nat → Value), pQ = .pointer (some ⟨XQ, 0, none⟩) ∧ pA = .pointer (some ⟨XA, 0, none⟩) ∧ bX = .bool ch ∧ eX = .int .i64 0 ∧ Bx wx XQ t b1 d1 b2 d2 vs ∧ ansBlock wx XA 0 0 0 0 ∧ Below wr.heap.size wr wx ∧ wr.heap.size ≤ XQ ∧ (∀ x, b1 = some x → wr.heap.size ≤ x.block) ∧ ∃ ids', Sf t ids' sent)
        case first =>
          as_aux_lemma =>
          refine wp_region_held_drew (S := Below wr.heap.size wr) (by kernel_rfl) (below_drew wr) (fun hHeld => ?_)
          refine wpAnyH_take (i := 0) (v := _) rfl (by kernel_rfl) (by kernel_rfl) (by kernel_rfl) (fun _ _ _ h => h) (yields_q _ rfl rfl rfl (fun _ b => ((unveil HC).next b).q.q)) hHeld ?_
          simp only [List.getElem_toArray, List.getElem_cons_zero, Act.put, List.setIfInBounds_toArray, List.set_cons_zero, List.set_cons_succ]
          refine wpAnyH_take (i := 1) (v := .pointer (some ⟨X, 2, none⟩)) rfl (by kernel_rfl) (by kernel_rfl) (by kernel_rfl) (fun _ _ _ h => h) (Or.inl ⟨by rfl, fun _ _ => by go_simp⟩) hHeld ?_
          simp only [List.getElem_toArray, List.getElem_cons_zero, List.getElem_cons_succ, Act.put, List.setIfInBounds_toArray, List.set_cons_zero, List.set_cons_succ]
          refine wpAnyH_take (i := 2) (v := .slice (some ⟨g, off, none⟩) es.length c) rfl (by kernel_rfl) (by kernel_rfl) (by kernel_rfl) (fun _ _ _ h => h) (Or.inl ⟨by rfl, fun w b => by obtain ⟨q0, q1, q2, q3, q4, q5, q6⟩ := ((unveil HC).next b).cb.cells; go_simp⟩) hHeld ?_
          simp only [List.getElem_toArray, List.getElem_cons_zero, List.getElem_cons_succ, Act.put, List.setIfInBounds_toArray, List.set_cons_zero, List.set_cons_succ]
          refine wpAnyH_take (i := 3) (v := .slice (some ⟨bb, off0, none⟩) len cap) rfl (by kernel_rfl) (by kernel_rfl) (by kernel_rfl) (fun _ _ _ h => h) (Or.inl ⟨by rfl, fun _ _ => by go_simp⟩) hHeld ?_
          simp only [List.getElem_toArray, List.getElem_cons_zero, List.getElem_cons_succ, Act.put, List.setIfInBounds_toArray, List.set_cons_zero, List.set_cons_succ]
          refine wpAnyH_take (i := 4) (v := .int .i64 k) rfl (by kernel_rfl) (by kernel_rfl) (by kernel_rfl) (fun _ _ _ h => h) (Or.inl ⟨by rfl, fun _ _ => by go_simp⟩) hHeld ?_
          simp only [List.getElem_toArray, List.getElem_cons_zero, List.getElem_cons_succ, Act.put, List.setIfInBounds_toArray, List.set_cons_zero, List.set_cons_succ]
          refine wpAnyH_take (i := 5) (v := .pointer (some ⟨bb, off0 + k * 2, none⟩)) rfl (by kernel_rfl) (by kernel_rfl) (by kernel_rfl) (fun _ _ _ h => h) (Or.inl ⟨by rfl, fun _ _ => by go_simp⟩) hHeld ?_
          simp only [List.getElem_toArray, List.getElem_cons_zero, List.getElem_cons_succ, Act.put, List.setIfInBounds_toArray, List.set_cons_zero, List.set_cons_succ]
          refine wpAnyH_take (i := 6) (v := .pointer (some ⟨bb, off0 + k * 2 + 1, none⟩)) rfl (by kernel_rfl) (by kernel_rfl) (by kernel_rfl) (fun _ _ _ h => h) (Or.inl ⟨by rfl, fun _ _ => by go_simp⟩) hHeld ?_
          simp only [List.getElem_toArray, List.getElem_cons_zero, List.getElem_cons_succ, Act.put, List.setIfInBounds_toArray, List.set_cons_zero, List.set_cons_succ]
          refine wpAnyH_take (i := 7) (v := .int .i64 y1) rfl (by kernel_rfl) (by kernel_rfl) (by kernel_rfl) (fun _ _ _ h => h) (Or.inl ⟨by rfl, fun w b => by have qc := (b.cell (p := ⟨bb, off0 + k * 2 + 1, none⟩) hbl).trans x1; go_simp⟩) hHeld ?_
          simp only [List.getElem_toArray, List.getElem_cons_zero, List.getElem_cons_succ, Act.put, List.setIfInBounds_toArray, List.set_cons_zero, List.set_cons_succ]
          refine wpAnyH_take (i := 8) (v := .pointer (some ⟨X, 2, none⟩)) rfl (by kernel_rfl) (by kernel_rfl) (by kernel_rfl) (fun _ _ _ h => h) (Or.inl ⟨by rfl, fun _ _ => by go_simp⟩) hHeld ?_
          simp only [List.getElem_toArray, List.getElem_cons_zero, List.getElem_cons_succ, Act.put, List.setIfInBounds_toArray, List.set_cons_zero, List.set_cons_succ]
          refine wpAnyH_take (i := 9) (v := .slice (some ⟨g, off, none⟩) es.length c) rfl (by kernel_rfl) (by kernel_rfl) (by kernel_rfl) (fun _ _ _ h => h) (Or.inl ⟨by rfl, fun w b => by obtain ⟨q0, q1, q2, q3, q4, q5, q6⟩ := ((unveil HC).next b).cb.cells; go_simp⟩) hHeld ?_
          simp only [List.getElem_toArray, List.getElem_cons_zero, List.getElem_cons_succ, Act.put, List.setIfInBounds_toArray, List.set_cons_zero, List.set_cons_succ]
          refine wpAnyH_take (i := 10) (v := .int .i64 es.length) rfl (by kernel_rfl) (by kernel_rfl) (by kernel_rfl) (fun _ _ _ h => h) (Or.inl ⟨by rfl, fun _ _ => by go_simp⟩) hHeld ?_
          simp only [List.getElem_toArray, List.getElem_cons_zero, List.getElem_cons_succ, Act.put, List.setIfInBounds_toArray, List.set_cons_zero, List.set_cons_succ]
          have bW0 := below_drew wr
          have hz0 : wr.heap.size ≤ wr.drew.heap.size := bW0.size
          obtain ⟨W0, hW0⟩ : ∃ W0, W0 = wr.drew := ⟨_, rfl⟩
          rw [← hW0] at bW0 hz0 hHeld ⊢
          clear hW0
          refine wpAnyH_ready (rs := [11, 20, 21]) (by kernel_rfl) (by simp) ?_
          refine AllReadyH.cons rfl (fun K hK => ?_) (AllReadyH.cons rfl (fun K hK => ?_) (AllReadyH.cons rfl (fun K hK => ?_) AllReadyH.nil))
          · simp only [List.getElem_toArray, List.getElem_cons_zero, List.getElem_cons_succ]
            go_simp
            refine (P2 _).mono ?_
            rintro x w9 ⟨rfl, hw9⟩
            subst w9
            refine hK.out _ _ bW0 (fun hHeld => ?_)
            clear hK K
            refine wpAnyH_take (i := 12) (v := .pointer (some ⟨g, off + jn * 6, none⟩)) rfl (by kernel_rfl) (by kernel_rfl) (by kernel_rfl) (fun _ _ _ h => h) (Or.inl ⟨by rfl, fun _ _ => by go_simp⟩) hHeld ?_
            simp only [List.getElem_toArray, List.getElem_cons_zero, List.getElem_cons_succ, Act.put, List.setIfInBounds_toArray, List.set_cons_zero, List.set_cons_succ]
            refine wpAnyH_take (i := 13) (v := evVal v.k v.p v.i v.b v.he v.hn) rfl (by kernel_rfl) (by kernel_rfl) (by kernel_rfl) (fun _ _ _ h => h) (Or.inl ⟨by rfl, fun w b => by have qc0 := (b.cell (p := ⟨g, off + jn * 6, none⟩) hgl).trans e0; have qc1 := (b.cell (p := ⟨g, off + jn * 6 + 1, none⟩) hgl).trans e1; have qc2 := (b.cell (p := ⟨g, off + jn * 6 + 2, none⟩) hgl).trans e2; have qc3 := (b.cell (p := ⟨g, off + jn * 6 + 3, none⟩) hgl).trans e3; have qc4 := (b.cell (p := ⟨g, off + jn * 6 + 4, none⟩) hgl).trans e4; have qc5 := (b.cell (p := ⟨g, off + jn * 6 + 5, none⟩) hgl).trans e5; go_simp⟩) hHeld ?_
            simp only [List.getElem_toArray, List.getElem_cons_zero, List.getElem_cons_succ, Act.put, List.setIfInBounds_toArray, List.set_cons_zero, List.set_cons_succ]
            refine wpAnyH_ready (rs := [14, 20, 21]) (by kernel_rfl) (by simp) ?_
            refine AllReadyH.cons rfl (fun K hK => ?_) (AllReadyH.cons rfl (fun K hK => ?_) (AllReadyH.cons rfl (fun K hK => ?_) AllReadyH.nil))
            · simp only [List.getElem_toArray, List.getElem_cons_zero, List.getElem_cons_succ]
              go_simp
              refine (unveil HDo _ bW0).mono ?_
              rintro e WC ⟨t, ch, b1', d1', b2', d2', vs', rfl, hSf, r1, r2, n1, n2, hW'', f1, f2, bn⟩
              have hr1 := fun x hx h0 => r1.blk_lt x hx h0
              have hr2 := fun x hx h0 => r2.blk_lt x hx h0
              have g1 : ∀ x, b1' = some x → wr.heap.size ≤ x.block := fun x hx => Nat.le_trans (bW0).size (f1 x hx)
              have bWC := Below.next bW0 bn
              have hSWC : W0.heap.size ≤ WC.heap.size := bn.size
              refine hK.out _ _ bWC (fun hHeld => ?_)
              clear hK K bn
              refine wpAnyH_take (i := 15) (v := .tuple #[qVal t.ep t.nx t.gv (.slice b1' t.rn d1') (.slice b2' t.ln d2') vs', ansVal 0 0 0 0, .bool ch, .int .i64 0]) rfl (by kernel_rfl) (by kernel_rfl) (by kernel_rfl) (fun _ _ _ h => h) (Or.inl ⟨by rfl, fun _ _ => by go_simp⟩) hHeld ?_
              simp only [List.getElem_toArray, List.getElem_cons_zero, List.getElem_cons_succ, Act.put, List.setIfInBounds_toArray, List.set_cons_zero, List.set_cons_succ]
              refine wpAnyH_take (i := 16) (v := qVal t.ep t.nx t.gv (.slice b1' t.rn d1') (.slice b2' t.ln d2') vs') rfl (by kernel_rfl) (by kernel_rfl) (by kernel_rfl) (fun _ _ _ h => h) (Or.inl ⟨by rfl, fun _ _ => by go_simp⟩) hHeld ?_
              simp only [List.getElem_toArray, List.getElem_cons_zero, List.getElem_cons_succ, Act.put, List.setIfInBounds_toArray, List.set_cons_zero, List.set_cons_succ]
              refine wpAnyH_take (i := 17) (v := ansVal 0 0 0 0) rfl (by kernel_rfl) (by kernel_rfl) (by kernel_rfl) (fun _ _ _ h => h) (Or.inl ⟨by rfl, fun _ _ => by go_simp⟩) hHeld ?_
              simp only [List.getElem_toArray, List.getElem_cons_zero, List.getElem_cons_succ, Act.put, List.setIfInBounds_toArray, List.set_cons_zero, List.set_cons_succ]
              refine wpAnyH_take (i := 18) (v := .bool ch) rfl (by kernel_rfl) (by kernel_rfl) (by kernel_rfl) (fun _ _ _ h => h) (Or.inl ⟨by rfl, fun _ _ => by go_simp⟩) hHeld ?_
              simp only [List.getElem_toArray, List.getElem_cons_zero, List.getElem_cons_succ, Act.put, List.setIfInBounds_toArray, List.set_cons_zero, List.set_cons_succ]
              refine wpAnyH_take (i := 19) (v := .int .i64 0) rfl (by kernel_rfl) (by kernel_rfl) (by kernel_rfl) (fun _ _ _ h => h) (Or.inl ⟨by rfl, fun _ _ => by go_simp⟩) hHeld ?_
              simp only [List.getElem_toArray, List.getElem_cons_zero, List.getElem_cons_succ, Act.put, List.setIfInBounds_toArray, List.set_cons_zero, List.set_cons_succ]
              refine wpAnyH_ready (rs := [20, 21]) (by kernel_rfl) (by simp) ?_
              refine AllReadyH.cons rfl (fun K hK => ?_) (AllReadyH.cons rfl (fun K hK => ?_) AllReadyH.nil)
              · simp only [List.getElem_toArray, List.getElem_cons_zero, List.getElem_cons_succ]
                refine ite_wanted rfl ?_
                refine q_alloc_wp 11 rfl rfl ?_
                intro WCQ zq bn
                have hXq : WC.heap.size < WCQ.heap.size := zq.lt
                have bWCQ := Below.next bWC bn
                have r1 := r1.below bn
                have r2 := r2.below bn
                have hSWCQ : WC.heap.size ≤ WCQ.heap.size := bn.size
                refine hK.out _ _ bWCQ (fun hHeld => ?_)
                clear hK K bn
                refine wpAnyH_ready (rs := [21]) (by kernel_rfl) (by simp) ?_
                refine AllReadyH.cons rfl (fun K hK => ?_) AllReadyH.nil
                · simp only [List.getElem_toArray, List.getElem_cons_zero, List.getElem_cons_succ]
                  go_simp
                  obtain ⟨WCQA, hWCQA, ya, bn⟩ : ∃ W, W = WCQ.alloc (.cells #[.int .i64 0, .int .i64 0, .int .i64 0, .int .i64 0] 59) ∧ ansBlock W WCQ.heap.size 0 0 0 0 ∧ Below WCQ.heap.size WCQ W := ⟨_, rfl, ansBlock.new _ 0 0 0 0, below1 _ _⟩
                  rw [← hWCQA]
                  have hXa : WCQ.heap.size < WCQA.heap.size := ya.lt
                  have bWCQA := Below.next bWCQ bn
                  clear hWCQA
                  have zq := zq.next bn
                  have r1 := r1.below bn
                  have r2 := r2.below bn
                  have hSWCQA : WCQ.heap.size ≤ WCQA.heap.size := bn.size
                  refine hK.out _ _ bWCQA (fun hHeld => ?_)
                  clear hK K bn
                  refine wpAnyH_ready (rs := [22]) (by kernel_rfl) (by simp) ?_
                  refine AllReadyH.cons rfl (fun K hK => ?_) AllReadyH.nil
                  simp only [List.getElem_toArray, List.getElem_cons_zero, List.getElem_cons_succ]
                  refine ite_wanted rfl ?_
                  refine q_store_wp (ra := b1') (la := b2') (ws' := vs') _ _ rfl rfl rfl zq hW'' ?_
                  intro Wq q5 t5
                  have ya5 := ya.turned t5 (by omega)
                  have r15 := t5.row r1 (fun x hx h0 => by have := f1 x hx; have := hr1 x hx h0; omega)
                  have r25 := t5.row r2 (fun x hx h0 => by have := f2 x hx; have := hr2 x hx h0; omega)
                  have b5 := t5.under bWCQA (by omega)
                  refine hK.out _ _ b5 (fun hHeld => ?_)
                  clear hK K
                  refine wpAnyH_ready (rs := [23]) (by kernel_rfl) (by simp) ?_
                  refine AllReadyH.cons rfl (fun K hK => ?_) AllReadyH.nil
                  simp only [List.getElem_toArray, List.getElem_cons_zero, List.getElem_cons_succ]
                  obtain ⟨y0, y1, y2, y3⟩ := ya5.cells
                  have yf := ya5.free
                  go_simp
                  have t6 := ans_turned Wq (WCQ.heap.size) 0 0 0 0
                  have ya6 := ya5.store 0 0 0 0
                  have q6 := t6.queue q5 (by omega)
                  have b6 := t6.under b5 (by omega)
                  have X6 : Bx _ (WC.heap.size) t b1' d1' b2' d2' vs' := ⟨q6, t6.row r15 (fun x hx h0 => by have := f1 x hx; have := hr1 x hx h0; omega), t6.row r25 (fun x hx h0 => by have := f2 x hx; have := hr2 x hx h0; omega), n1, n2, hW''⟩
                  unfold ansStore at ya6 X6 b6
                  refine hK.out _ _ b6 (fun hHeld => ?_)
                  clear hK K y0 y1 y2 y3 yf q6 t6
                  generalize (((Wq.setCell ⟨WCQ.heap.size, 0, none⟩ (.int .i64 0)).setCell ⟨WCQ.heap.size, 1, none⟩ (.int .i64 0)).setCell ⟨WCQ.heap.size, 2, none⟩ (.int .i64 0)).setCell ⟨WCQ.heap.size, 3, none⟩ (.int .i64 0) = W6 at ya6 X6 b6 hHeld ⊢
                  refine wpAnyH_take (i := 24) (v := .bool ch) rfl (by kernel_rfl) (by kernel_rfl) (by kernel_rfl) (fun _ _ _ h => h) (Or.inl ⟨by rfl, fun _ _ => by go_simp⟩) hHeld ?_
                  simp only [List.getElem_toArray, List.getElem_cons_zero, List.getElem_cons_succ, Act.put, List.setIfInBounds_toArray, List.set_cons_zero, List.set_cons_succ]
                  refine wpAnyH_take (i := 25) (v := .int .i64 0) rfl (by kernel_rfl) (by kernel_rfl) (by kernel_rfl) (fun _ _ _ h => h) (Or.inl ⟨by rfl, fun _ _ => by go_simp⟩) hHeld ?_
                  simp only [List.getElem_toArray, List.getElem_cons_zero, List.getElem_cons_succ, Act.put, List.setIfInBounds_toArray, List.set_cons_zero, List.set_cons_succ]
                  refine wpAnyH_done (by kernel_rfl) ?_ _
                  go_wp2_with fail
                  go_meet
                  exact ⟨_, _, t, ch, b1', d1', b2', d2', vs', rfl, rfl, rfl, rfl, X6, ya6, b6, by omega, g1, hSf⟩
              · simp only [List.getElem_toArray, List.getElem_cons_zero, List.getElem_cons_succ]
                go_simp
                obtain ⟨WCA, hWCA, ya, bn⟩ : ∃ W, W = WC.alloc (.cells #[.int .i64 0, .int .i64 0, .int .i64 0, .int .i64 0] 59) ∧ ansBlock W WC.heap.size 0 0 0 0 ∧ Below WC.heap.size WC W := ⟨_, rfl, ansBlock.new _ 0 0 0 0, below1 _ _⟩
                rw [← hWCA]
                have hXa : WC.heap.size < WCA.heap.size := ya.lt
                have bWCA := Below.next bWC bn
                clear hWCA
                have r1 := r1.below bn
                have r2 := r2.below bn
                have hSWCA : WC.heap.size ≤ WCA.heap.size := bn.size
                refine hK.out _ _ bWCA (fun hHeld => ?_)
                clear hK K bn
                refine wpAnyH_ready (rs := [20]) (by kernel_rfl) (by simp) ?_
                refine AllReadyH.cons rfl (fun K hK => ?_) AllReadyH.nil
                · simp only [List.getElem_toArray, List.getElem_cons_zero, List.getElem_cons_succ]
                  refine ite_wanted rfl ?_
                  refine q_alloc_wp 11 rfl rfl ?_
                  intro WCAQ zq bn
                  have hXq : WCA.heap.size < WCAQ.heap.size := zq.lt
                  have bWCAQ := Below.next bWCA bn
                  have ya := ya.next bn
                  have r1 := r1.below bn
                  have r2 := r2.below bn
                  have hSWCAQ : WCA.heap.size ≤ WCAQ.heap.size := bn.size
                  refine hK.out _ _ bWCAQ (fun hHeld => ?_)
                  clear hK K bn
                  refine wpAnyH_ready (rs := [22]) (by kernel_rfl) (by simp) ?_
                  refine AllReadyH.cons rfl (fun K hK => ?_) AllReadyH.nil
                  simp only [List.getElem_toArray, List.getElem_cons_zero, List.getElem_cons_succ]
                  refine ite_wanted rfl ?_
                  refine q_store_wp (ra := b1') (la := b2') (ws' := vs') _ _ rfl rfl rfl zq hW'' ?_
                  intro Wq q5 t5
                  have ya5 := ya.turned t5 (by omega)
                  have r15 := t5.row r1 (fun x hx h0 => by have := f1 x hx; have := hr1 x hx h0; omega)
                  have r25 := t5.row r2 (fun x hx h0 => by have := f2 x hx; have := hr2 x hx h0; omega)
                  have b5 := t5.under bWCAQ (by omega)
                  refine hK.out _ _ b5 (fun hHeld => ?_)
                  clear hK K
                  refine wpAnyH_ready (rs := [23]) (by kernel_rfl) (by simp) ?_
                  refine AllReadyH.cons rfl (fun K hK => ?_) AllReadyH.nil
                  simp only [List.getElem_toArray, List.getElem_cons_zero, List.getElem_cons_succ]
                  obtain ⟨y0, y1, y2, y3⟩ := ya5.cells
                  have yf := ya5.free
                  go_simp
                  have t6 := ans_turned Wq (WC.heap.size) 0 0 0 0
                  have ya6 := ya5.store 0 0 0 0
                  have q6 := t6.queue q5 (by omega)
                  have b6 := t6.under b5 (by omega)
                  have X6 : Bx _ (WCA.heap.size) t b1' d1' b2' d2' vs' := ⟨q6, t6.row r15 (fun x hx h0 => by have := f1 x hx; have := hr1 x hx h0; omega), t6.row r25 (fun x hx h0 => by have := f2 x hx; have := hr2 x hx h0; omega), n1, n2, hW''⟩
                  unfold ansStore at ya6 X6 b6
                  refine hK.out _ _ b6 (fun hHeld => ?_)
                  clear hK K y0 y1 y2 y3 yf q6 t6
                  generalize (((Wq.setCell ⟨WC.heap.size, 0, none⟩ (.int .i64 0)).setCell ⟨WC.heap.size, 1, none⟩ (.int .i64 0)).setCell ⟨WC.heap.size, 2, none⟩ (.int .i64 0)).setCell ⟨WC.heap.size, 3, none⟩ (.int .i64 0) = W6 at ya6 X6 b6 hHeld ⊢
                  refine wpAnyH_take (i := 24) (v := .bool ch) rfl (by kernel_rfl) (by kernel_rfl) (by kernel_rfl) (fun _ _ _ h => h) (Or.inl ⟨by rfl, fun _ _ => by go_simp⟩) hHeld ?_
                  simp only [List.getElem_toArray, List.getElem_cons_zero, List.getElem_cons_succ, Act.put, List.setIfInBounds_toArray, List.set_cons_zero, List.set_cons_succ]
                  refine wpAnyH_take (i := 25) (v := .int .i64 0) rfl (by kernel_rfl) (by kernel_rfl) (by kernel_rfl) (fun _ _ _ h => h) (Or.inl ⟨by rfl, fun _ _ => by go_simp⟩) hHeld ?_
                  simp only [List.getElem_toArray, List.getElem_cons_zero, List.getElem_cons_succ, Act.put, List.setIfInBounds_toArray, List.set_cons_zero, List.set_cons_succ]
                  refine wpAnyH_done (by kernel_rfl) ?_ _
                  go_wp2_with fail
                  go_meet
                  exact ⟨_, _, t, ch, b1', d1', b2', d2', vs', rfl, rfl, rfl, rfl, X6, ya6, b6, by omega, g1, hSf⟩
            · simp only [List.getElem_toArray, List.getElem_cons_zero, List.getElem_cons_succ]
              refine ite_wanted rfl ?_
              refine q_alloc_wp 11 rfl rfl ?_
              intro WQ zq bn
              have hXq : W0.heap.size < WQ.heap.size := zq.lt
              have bWQ := Below.next bW0 bn
              have hSWQ : W0.heap.size ≤ WQ.heap.size := bn.size
              refine hK.out _ _ bWQ (fun hHeld => ?_)
              clear hK K bn
              refine wpAnyH_ready (rs := [14, 21]) (by kernel_rfl) (by simp) ?_
              refine AllReadyH.cons rfl (fun K hK => ?_) (AllReadyH.cons rfl (fun K hK => ?_) AllReadyH.nil)
              · simp only [List.getElem_toArray, List.getElem_cons_zero, List.getElem_cons_succ]
                go_simp
                refine (unveil HDo _ bWQ).mono ?_
                rintro e WQC ⟨t, ch, b1', d1', b2', d2', vs', rfl, hSf, r1, r2, n1, n2, hW'', f1, f2, bn⟩
                have hr1 := fun x hx h0 => r1.blk_lt x hx h0
                have hr2 := fun x hx h0 => r2.blk_lt x hx h0
                have g1 : ∀ x, b1' = some x → wr.heap.size ≤ x.block := fun x hx => Nat.le_trans (bWQ).size (f1 x hx)
                have bWQC := Below.next bWQ bn
                have zq := zq.next bn
                have hSWQC : WQ.heap.size ≤ WQC.heap.size := bn.size
                refine hK.out _ _ bWQC (fun hHeld => ?_)
                clear hK K bn
                refine wpAnyH_take (i := 15) (v := .tuple #[qVal t.ep t.nx t.gv (.slice b1' t.rn d1') (.slice b2' t.ln d2') vs', ansVal 0 0 0 0, .bool ch, .int .i64 0]) rfl (by kernel_rfl) (by kernel_rfl) (by kernel_rfl) (fun _ _ _ h => h) (Or.inl ⟨by rfl, fun _ _ => by go_simp⟩) hHeld ?_
                simp only [List.getElem_toArray, List.getElem_cons_zero, List.getElem_cons_succ, Act.put, List.setIfInBounds_toArray, List.set_cons_zero, List.set_cons_succ]
                refine wpAnyH_take (i := 16) (v := qVal t.ep t.nx t.gv (.slice b1' t.rn d1') (.slice b2' t.ln d2') vs') rfl (by kernel_rfl) (by kernel_rfl) (by kernel_rfl) (fun _ _ _ h => h) (Or.inl ⟨by rfl, fun _ _ => by go_simp⟩) hHeld ?_
                simp only [List.getElem_toArray, List.getElem_cons_zero, List.getElem_cons_succ, Act.put, List.setIfInBounds_toArray, List.set_cons_zero, List.set_cons_succ]
                refine wpAnyH_take (i := 17) (v := ansVal 0 0 0 0) rfl (by kernel_rfl) (by kernel_rfl) (by kernel_rfl) (fun _ _ _ h => h) (Or.inl ⟨by rfl, fun _ _ => by go_simp⟩) hHeld ?_
                simp only [List.getElem_toArray, List.getElem_cons_zero, List.getElem_cons_succ, Act.put, List.setIfInBounds_toArray, List.set_cons_zero, List.set_cons_succ]
                refine wpAnyH_take (i := 18) (v := .bool ch) rfl (by kernel_rfl) (by kernel_rfl) (by kernel_rfl) (fun _ _ _ h => h) (Or.inl ⟨by rfl, fun _ _ => by go_simp⟩) hHeld ?_
                simp only [List.getElem_toArray, List.getElem_cons_zero, List.getElem_cons_succ, Act.put, List.setIfInBounds_toArray, List.set_cons_zero, List.set_cons_succ]
                refine wpAnyH_take (i := 19) (v := .int .i64 0) rfl (by kernel_rfl) (by kernel_rfl) (by kernel_rfl) (fun _ _ _ h => h) (Or.inl ⟨by rfl, fun _ _ => by go_simp⟩) hHeld ?_
                simp only [List.getElem_toArray, List.getElem_cons_zero, List.getElem_cons_succ, Act.put, List.setIfInBounds_toArray, List.set_cons_zero, List.set_cons_succ]
                refine wpAnyH_ready (rs := [21]) (by kernel_rfl) (by simp) ?_
                refine AllReadyH.cons rfl (fun K hK => ?_) AllReadyH.nil
                · simp only [List.getElem_toArray, List.getElem_cons_zero, List.getElem_cons_succ]
                  go_simp
                  obtain ⟨WQCA, hWQCA, ya, bn⟩ : ∃ W, W = WQC.alloc (.cells #[.int .i64 0, .int .i64 0, .int .i64 0, .int .i64 0] 59) ∧ ansBlock W WQC.heap.size 0 0 0 0 ∧ Below WQC.heap.size WQC W := ⟨_, rfl, ansBlock.new _ 0 0 0 0, below1 _ _⟩
                  rw [← hWQCA]
                  have hXa : WQC.heap.size < WQCA.heap.size := ya.lt
                  have bWQCA := Below.next bWQC bn
                  clear hWQCA
                  have zq := zq.next bn
                  have r1 := r1.below bn
                  have r2 := r2.below bn
                  have hSWQCA : WQC.heap.size ≤ WQCA.heap.size := bn.size
                  refine hK.out _ _ bWQCA (fun hHeld => ?_)
                  clear hK K bn
                  refine wpAnyH_ready (rs := [22]) (by kernel_rfl) (by simp) ?_
                  refine AllReadyH.cons rfl (fun K hK => ?_) AllReadyH.nil
                  simp only [List.getElem_toArray, List.getElem_cons_zero, List.getElem_cons_succ]
                  refine ite_wanted rfl ?_
                  refine q_store_wp (ra := b1') (la := b2') (ws' := vs') _ _ rfl rfl rfl zq hW'' ?_
                  intro Wq q5 t5
                  have ya5 := ya.turned t5 (by omega)
                  have r15 := t5.row r1 (fun x hx h0 => by have := f1 x hx; have := hr1 x hx h0; omega)
                  have r25 := t5.row r2 (fun x hx h0 => by have := f2 x hx; have := hr2 x hx h0; omega)
                  have b5 := t5.under bWQCA (by omega)
                  refine hK.out _ _ b5 (fun hHeld => ?_)
                  clear hK K
                  refine wpAnyH_ready (rs := [23]) (by kernel_rfl) (by simp) ?_
                  refine AllReadyH.cons rfl (fun K hK => ?_) AllReadyH.nil
                  simp only [List.getElem_toArray, List.getElem_cons_zero, List.getElem_cons_succ]
                  obtain ⟨y0, y1, y2, y3⟩ := ya5.cells
                  have yf := ya5.free
                  go_simp
                  have t6 := ans_turned Wq (WQC.heap.size) 0 0 0 0
                  have ya6 := ya5.store 0 0 0 0
                  have q6 := t6.queue q5 (by omega)
                  have b6 := t6.under b5 (by omega)
                  have X6 : Bx _ (W0.heap.size) t b1' d1' b2' d2' vs' := ⟨q6, t6.row r15 (fun x hx h0 => by have := f1 x hx; have := hr1 x hx h0; omega), t6.row r25 (fun x hx h0 => by have := f2 x hx; have := hr2 x hx h0; omega), n1, n2, hW''⟩
                  unfold ansStore at ya6 X6 b6
                  refine hK.out _ _ b6 (fun hHeld => ?_)
                  clear hK K y0 y1 y2 y3 yf q6 t6
                  generalize (((Wq.setCell ⟨WQC.heap.size, 0, none⟩ (.int .i64 0)).setCell ⟨WQC.heap.size, 1, none⟩ (.int .i64 0)).setCell ⟨WQC.heap.size, 2, none⟩ (.int .i64 0)).setCell ⟨WQC.heap.size, 3, none⟩ (.int .i64 0) = W6 at ya6 X6 b6 hHeld ⊢
                  refine wpAnyH_take (i := 24) (v := .bool ch) rfl (by kernel_rfl) (by kernel_rfl) (by kernel_rfl) (fun _ _ _ h => h) (Or.inl ⟨by rfl, fun _ _ => by go_simp⟩) hHeld ?_
                  simp only [List.getElem_toArray, List.getElem_cons_zero, List.getElem_cons_succ, Act.put, List.setIfInBounds_toArray, List.set_cons_zero, List.set_cons_succ]
                  refine wpAnyH_take (i := 25) (v := .int .i64 0) rfl (by kernel_rfl) (by kernel_rfl) (by kernel_rfl) (fun _ _ _ h => h) (Or.inl ⟨by rfl, fun _ _ => by go_simp⟩) hHeld ?_
                  simp only [List.getElem_toArray, List.getElem_cons_zero, List.getElem_cons_succ, Act.put, List.setIfInBounds_toArray, List.set_cons_zero, List.set_cons_succ]
                  refine wpAnyH_done (by kernel_rfl) ?_ _
                  go_wp2_with fail
                  go_meet
                  exact ⟨_, _, t, ch, b1', d1', b2', d2', vs', rfl, rfl, rfl, rfl, X6, ya6, b6, by omega, g1, hSf⟩
              · simp only [List.getElem_toArray, List.getElem_cons_zero, List.getElem_cons_succ]
                go_simp
                obtain ⟨WQA, hWQA, ya, bn⟩ : ∃ W, W = WQ.alloc (.cells #[.int .i64 0, .int .i64 0, .int .i64 0, .int .i64 0] 59) ∧ ansBlock W WQ.heap.size 0 0 0 0 ∧ Below WQ.heap.size WQ W := ⟨_, rfl, ansBlock.new _ 0 0 0 0, below1 _ _⟩
                rw [← hWQA]
                have hXa : WQ.heap.size < WQA.heap.size := ya.lt
                have bWQA := Below.next bWQ bn
                clear hWQA
                have zq := zq.next bn
                have hSWQA : WQ.heap.size ≤ WQA.heap.size := bn.size
                refine hK.out _ _ bWQA (fun hHeld => ?_)
                clear hK K bn
                refine wpAnyH_ready (rs := [14]) (by kernel_rfl) (by simp) ?_
                refine AllReadyH.cons rfl (fun K hK => ?_) AllReadyH.nil
                · simp only [List.getElem_toArray, List.getElem_cons_zero, List.getElem_cons_succ]
                  go_simp
                  refine (unveil HDo _ bWQA).mono ?_
                  rintro e WQAC ⟨t, ch, b1', d1', b2', d2', vs', rfl, hSf, r1, r2, n1, n2, hW'', f1, f2, bn⟩
                  have hr1 := fun x hx h0 => r1.blk_lt x hx h0
                  have hr2 := fun x hx h0 => r2.blk_lt x hx h0
                  have g1 : ∀ x, b1' = some x → wr.heap.size ≤ x.block := fun x hx => Nat.le_trans (bWQA).size (f1 x hx)
                  have bWQAC := Below.next bWQA bn
                  have zq := zq.next bn
                  have ya := ya.next bn
                  have hSWQAC : WQA.heap.size ≤ WQAC.heap.size := bn.size
                  refine hK.out _ _ bWQAC (fun hHeld => ?_)
                  clear hK K bn
                  refine wpAnyH_take (i := 15) (v := .tuple #[qVal t.ep t.nx t.gv (.slice b1' t.rn d1') (.slice b2' t.ln d2') vs', ansVal 0 0 0 0, .bool ch, .int .i64 0]) rfl (by kernel_rfl) (by kernel_rfl) (by kernel_rfl) (fun _ _ _ h => h) (Or.inl ⟨by rfl, fun _ _ => by go_simp⟩) hHeld ?_
                  simp only [List.getElem_toArray, List.getElem_cons_zero, List.getElem_cons_succ, Act.put, List.setIfInBounds_toArray, List.set_cons_zero, List.set_cons_succ]
                  refine wpAnyH_take (i := 16) (v := qVal t.ep t.nx t.gv (.slice b1' t.rn d1') (.slice b2' t.ln d2') vs') rfl (by kernel_rfl) (by kernel_rfl) (by kernel_rfl) (fun _ _ _ h => h) (Or.inl ⟨by rfl, fun _ _ => by go_simp⟩) hHeld ?_
                  simp only [List.getElem_toArray, List.getElem_cons_zero, List.getElem_cons_succ, Act.put, List.setIfInBounds_toArray, List.set_cons_zero, List.set_cons_succ]
                  refine wpAnyH_take (i := 17) (v := ansVal 0 0 0 0) rfl (by kernel_rfl) (by kernel_rfl) (by kernel_rfl) (fun _ _ _ h => h) (Or.inl ⟨by rfl, fun _ _ => by go_simp⟩) hHeld ?_
                  simp only [List.getElem_toArray, List.getElem_cons_zero, List.getElem_cons_succ, Act.put, List.setIfInBounds_toArray, List.set_cons_zero, List.set_cons_succ]
                  refine wpAnyH_take (i := 18) (v := .bool ch) rfl (by kernel_rfl) (by kernel_rfl) (by kernel_rfl) (fun _ _ _ h => h) (Or.inl ⟨by rfl, fun _ _ => by go_simp⟩) hHeld ?_
                  simp only [List.getElem_toArray, List.getElem_cons_zero, List.getElem_cons_succ, Act.put, List.setIfInBounds_toArray, List.set_cons_zero, List.set_cons_succ]
                  refine wpAnyH_take (i := 19) (v := .int .i64 0) rfl (by kernel_rfl) (by kernel_rfl) (by kernel_rfl) (fun _ _ _ h => h) (Or.inl ⟨by rfl, fun _ _ => by go_simp⟩) hHeld ?_
                  simp only [List.getElem_toArray, List.getElem_cons_zero, List.getElem_cons_succ, Act.put, List.setIfInBounds_toArray, List.set_cons_zero, List.set_cons_succ]
                  refine wpAnyH_ready (rs := [22]) (by kernel_rfl) (by simp) ?_
                  refine AllReadyH.cons rfl (fun K hK => ?_) AllReadyH.nil
                  simp only [List.getElem_toArray, List.getElem_cons_zero, List.getElem_cons_succ]
                  refine ite_wanted rfl ?_
                  refine q_store_wp (ra := b1') (la := b2') (ws' := vs') _ _ rfl rfl rfl zq hW'' ?_
                  intro Wq q5 t5
                  have ya5 := ya.turned t5 (by omega)
                  have r15 := t5.row r1 (fun x hx h0 => by have := f1 x hx; have := hr1 x hx h0; omega)
                  have r25 := t5.row r2 (fun x hx h0 => by have := f2 x hx; have := hr2 x hx h0; omega)
                  have b5 := t5.under bWQAC (by omega)
                  refine hK.out _ _ b5 (fun hHeld => ?_)
                  clear hK K
                  refine wpAnyH_ready (rs := [23]) (by kernel_rfl) (by simp) ?_
                  refine AllReadyH.cons rfl (fun K hK => ?_) AllReadyH.nil
                  simp only [List.getElem_toArray, List.getElem_cons_zero, List.getElem_cons_succ]
                  obtain ⟨y0, y1, y2, y3⟩ := ya5.cells
                  have yf := ya5.free
                  go_simp
                  have t6 := ans_turned Wq (WQ.heap.size) 0 0 0 0
                  have ya6 := ya5.store 0 0 0 0
                  have q6 := t6.queue q5 (by omega)
                  have b6 := t6.under b5 (by omega)
                  have X6 : Bx _ (W0.heap.size) t b1' d1' b2' d2' vs' := ⟨q6, t6.row r15 (fun x hx h0 => by have := f1 x hx; have := hr1 x hx h0; omega), t6.row r25 (fun x hx h0 => by have := f2 x hx; have := hr2 x hx h0; omega), n1, n2, hW''⟩
                  unfold ansStore at ya6 X6 b6
                  refine hK.out _ _ b6 (fun hHeld => ?_)
                  clear hK K y0 y1 y2 y3 yf q6 t6
                  generalize (((Wq.setCell ⟨WQ.heap.size, 0, none⟩ (.int .i64 0)).setCell ⟨WQ.heap.size, 1, none⟩ (.int .i64 0)).setCell ⟨WQ.heap.size, 2, none⟩ (.int .i64 0)).setCell ⟨WQ.heap.size, 3, none⟩ (.int .i64 0) = W6 at ya6 X6 b6 hHeld ⊢
                  refine wpAnyH_take (i := 24) (v := .bool ch) rfl (by kernel_rfl) (by kernel_rfl) (by kernel_rfl) (fun _ _ _ h => h) (Or.inl ⟨by rfl, fun _ _ => by go_simp⟩) hHeld ?_
                  simp only [List.getElem_toArray, List.getElem_cons_zero, List.getElem_cons_succ, Act.put, List.setIfInBounds_toArray, List.set_cons_zero, List.set_cons_succ]
                  refine wpAnyH_take (i := 25) (v := .int .i64 0) rfl (by kernel_rfl) (by kernel_rfl) (by kernel_rfl) (fun _ _ _ h => h) (Or.inl ⟨by rfl, fun _ _ => by go_simp⟩) hHeld ?_
                  simp only [List.getElem_toArray, List.getElem_cons_zero, List.getElem_cons_succ, Act.put, List.setIfInBounds_toArray, List.set_cons_zero, List.set_cons_succ]
                  refine wpAnyH_done (by kernel_rfl) ?_ _
                  go_wp2_with fail
                  go_meet
                  exact ⟨_, _, t, ch, b1', d1', b2', d2', vs', rfl, rfl, rfl, rfl, X6, ya6, b6, by omega, g1, hSf⟩
            · simp only [List.getElem_toArray, List.getElem_cons_zero, List.getElem_cons_succ]
              go_simp
              obtain ⟨WA, hWA, ya, bn⟩ : ∃ W, W = W0.alloc (.cells #[.int .i64 0, .int .i64 0, .int .i64 0, .int .i64 0] 59) ∧ ansBlock W W0.heap.size 0 0 0 0 ∧ Below W0.heap.size W0 W := ⟨_, rfl, ansBlock.new _ 0 0 0 0, below1 _ _⟩
              rw [← hWA]
              have hXa : W0.heap.size < WA.heap.size := ya.lt
              have bWA := Below.next bW0 bn
              clear hWA
              have hSWA : W0.heap.size ≤ WA.heap.size := bn.size
              refine hK.out _ _ bWA (fun hHeld => ?_)
              clear hK K bn
              refine wpAnyH_ready (rs := [14, 20]) (by kernel_rfl) (by simp) ?_
              refine AllReadyH.cons rfl (fun K hK => ?_) (AllReadyH.cons rfl (fun K hK => ?_) AllReadyH.nil)
              · simp only [List.getElem_toArray, List.getElem_cons_zero, List.getElem_cons_succ]
                go_simp
                refine (unveil HDo _ bWA).mono ?_
                rintro e WAC ⟨t, ch, b1', d1', b2', d2', vs', rfl, hSf, r1, r2, n1, n2, hW'', f1, f2, bn⟩
                have hr1 := fun x hx h0 => r1.blk_lt x hx h0
                have hr2 := fun x hx h0 => r2.blk_lt x hx h0
                have g1 : ∀ x, b1' = some x → wr.heap.size ≤ x.block := fun x hx => Nat.le_trans (bWA).size (f1 x hx)
                have bWAC := Below.next bWA bn
                have ya := ya.next bn
                have hSWAC : WA.heap.size ≤ WAC.heap.size := bn.size
                refine hK.out _ _ bWAC (fun hHeld => ?_)
                clear hK K bn
                refine wpAnyH_take (i := 15) (v := .tuple #[qVal t.ep t.nx t.gv (.slice b1' t.rn d1') (.slice b2' t.ln d2') vs', ansVal 0 0 0 0, .bool ch, .int .i64 0]) rfl (by kernel_rfl) (by kernel_rfl) (by kernel_rfl) (fun _ _ _ h => h) (Or.inl ⟨by rfl, fun _ _ => by go_simp⟩) hHeld ?_
                simp only [List.getElem_toArray, List.getElem_cons_zero, List.getElem_cons_succ, Act.put, List.setIfInBounds_toArray, List.set_cons_zero, List.set_cons_succ]
                refine wpAnyH_take (i := 16) (v := qVal t.ep t.nx t.gv (.slice b1' t.rn d1') (.slice b2' t.ln d2') vs') rfl (by kernel_rfl) (by kernel_rfl) (by kernel_rfl) (fun _ _ _ h => h) (Or.inl ⟨by rfl, fun _ _ => by go_simp⟩) hHeld ?_
                simp only [List.getElem_toArray, List.getElem_cons_zero, List.getElem_cons_succ, Act.put, List.setIfInBounds_toArray, List.set_cons_zero, List.set_cons_succ]
                refine wpAnyH_take (i := 17) (v := ansVal 0 0 0 0) rfl (by kernel_rfl) (by kernel_rfl) (by kernel_rfl) (fun _ _ _ h => h) (Or.inl ⟨by rfl, fun _ _ => by go_simp⟩) hHeld ?_
                simp only [List.getElem_toArray, List.getElem_cons_zero, List.getElem_cons_succ, Act.put, List.setIfInBounds_toArray, List.set_cons_zero, List.set_cons_succ]
                refine wpAnyH_take (i := 18) (v := .bool ch) rfl (by kernel_rfl) (by kernel_rfl) (by kernel_rfl) (fun _ _ _ h => h) (Or.inl ⟨by rfl, fun _ _ => by go_simp⟩) hHeld ?_
                simp only [List.getElem_toArray, List.getElem_cons_zero, List.getElem_cons_succ, Act.put, List.setIfInBounds_toArray, List.set_cons_zero, List.set_cons_succ]
                refine wpAnyH_take (i := 19) (v := .int .i64 0) rfl (by kernel_rfl) (by kernel_rfl) (by kernel_rfl) (fun _ _ _ h => h) (Or.inl ⟨by rfl, fun _ _ => by go_simp⟩) hHeld ?_
                simp only [List.getElem_toArray, List.getElem_cons_zero, List.getElem_cons_succ, Act.put, List.setIfInBounds_toArray, List.set_cons_zero, List.set_cons_succ]
                refine wpAnyH_ready (rs := [20]) (by kernel_rfl) (by simp) ?_
                refine AllReadyH.cons rfl (fun K hK => ?_) AllReadyH.nil
                · simp only [List.getElem_toArray, List.getElem_cons_zero, List.getElem_cons_succ]
                  refine ite_wanted rfl ?_
                  refine q_alloc_wp 11 rfl rfl ?_
                  intro WACQ zq bn
                  have hXq : WAC.heap.size < WACQ.heap.size := zq.lt
                  have bWACQ := Below.next bWAC bn
                  have ya := ya.next bn
                  have r1 := r1.below bn
                  have r2 := r2.below bn
                  have hSWACQ : WAC.heap.size ≤ WACQ.heap.size := bn.size
                  refine hK.out _ _ bWACQ (fun hHeld => ?_)
                  clear hK K bn
                  refine wpAnyH_ready (rs := [22]) (by kernel_rfl) (by simp) ?_
                  refine AllReadyH.cons rfl (fun K hK => ?_) AllReadyH.nil
                  simp only [List.getElem_toArray, List.getElem_cons_zero, List.getElem_cons_succ]
                  refine ite_wanted rfl ?_
                  refine q_store_wp (ra := b1') (la := b2') (ws' := vs') _ _ rfl rfl rfl zq hW'' ?_
                  intro Wq q5 t5
                  have ya5 := ya.turned t5 (by omega)
                  have r15 := t5.row r1 (fun x hx h0 => by have := f1 x hx; have := hr1 x hx h0; omega)
                  have r25 := t5.row r2 (fun x hx h0 => by have := f2 x hx; have := hr2 x hx h0; omega)
                  have b5 := t5.under bWACQ (by omega)
                  refine hK.out _ _ b5 (fun hHeld => ?_)
                  clear hK K
                  refine wpAnyH_ready (rs := [23]) (by kernel_rfl) (by simp) ?_
                  refine AllReadyH.cons rfl (fun K hK => ?_) AllReadyH.nil
                  simp only [List.getElem_toArray, List.getElem_cons_zero, List.getElem_cons_succ]
                  obtain ⟨y0, y1, y2, y3⟩ := ya5.cells
                  have yf := ya5.free
                  go_simp
                  have t6 := ans_turned Wq (W0.heap.size) 0 0 0 0
                  have ya6 := ya5.store 0 0 0 0
                  have q6 := t6.queue q5 (by omega)
                  have b6 := t6.under b5 (by omega)
                  have X6 : Bx _ (WAC.heap.size) t b1' d1' b2' d2' vs' := ⟨q6, t6.row r15 (fun x hx h0 => by have := f1 x hx; have := hr1 x hx h0; omega), t6.row r25 (fun x hx h0 => by have := f2 x hx; have := hr2 x hx h0; omega), n1, n2, hW''⟩
                  unfold ansStore at ya6 X6 b6
                  refine hK.out _ _ b6 (fun hHeld => ?_)
                  clear hK K y0 y1 y2 y3 yf q6 t6
                  generalize (((Wq.setCell ⟨W0.heap.size, 0, none⟩ (.int .i64 0)).setCell ⟨W0.heap.size, 1, none⟩ (.int .i64 0)).setCell ⟨W0.heap.size, 2, none⟩ (.int .i64 0)).setCell ⟨W0.heap.size, 3, none⟩ (.int .i64 0) = W6 at ya6 X6 b6 hHeld ⊢
                  refine wpAnyH_take (i := 24) (v := .bool ch) rfl (by kernel_rfl) (by kernel_rfl) (by kernel_rfl) (fun _ _ _ h => h) (Or.inl ⟨by rfl, fun _ _ => by go_simp⟩) hHeld ?_
                  simp only [List.getElem_toArray, List.getElem_cons_zero, List.getElem_cons_succ, Act.put, List.setIfInBounds_toArray, List.set_cons_zero, List.set_cons_succ]
                  refine wpAnyH_take (i := 25) (v := .int .i64 0) rfl (by kernel_rfl) (by kernel_rfl) (by kernel_rfl) (fun _ _ _ h => h) (Or.inl ⟨by rfl, fun _ _ => by go_simp⟩) hHeld ?_
                  simp only [List.getElem_toArray, List.getElem_cons_zero, List.getElem_cons_succ, Act.put, List.setIfInBounds_toArray, List.set_cons_zero, List.set_cons_succ]
                  refine wpAnyH_done (by kernel_rfl) ?_ _
                  go_wp2_with fail
                  go_meet
                  exact ⟨_, _, t, ch, b1', d1', b2', d2', vs', rfl, rfl, rfl, rfl, X6, ya6, b6, by omega, g1, hSf⟩
              · simp only [List.getElem_toArray, List.getElem_cons_zero, List.getElem_cons_succ]
                refine ite_wanted rfl ?_
                refine q_alloc_wp 11 rfl rfl ?_
                intro WAQ zq bn
                have hXq : WA.heap.size < WAQ.heap.size := zq.lt
                have bWAQ := Below.next bWA bn
                have ya := ya.next bn
                have hSWAQ : WA.heap.size ≤ WAQ.heap.size := bn.size
                refine hK.out _ _ bWAQ (fun hHeld => ?_)
                clear hK K bn
                refine wpAnyH_ready (rs := [14]) (by kernel_rfl) (by simp) ?_
                refine AllReadyH.cons rfl (fun K hK => ?_) AllReadyH.nil
                · simp only [List.getElem_toArray, List.getElem_cons_zero, List.getElem_cons_succ]
                  go_simp
                  refine (unveil HDo _ bWAQ).mono ?_
                  rintro e WAQC ⟨t, ch, b1', d1', b2', d2', vs', rfl, hSf, r1, r2, n1, n2, hW'', f1, f2, bn⟩
                  have hr1 := fun x hx h0 => r1.blk_lt x hx h0
                  have hr2 := fun x hx h0 => r2.blk_lt x hx h0
                  have g1 : ∀ x, b1' = some x → wr.heap.size ≤ x.block := fun x hx => Nat.le_trans (bWAQ).size (f1 x hx)
                  have bWAQC := Below.next bWAQ bn
                  have zq := zq.next bn
                  have ya := ya.next bn
                  have hSWAQC : WAQ.heap.size ≤ WAQC.heap.size := bn.size
                  refine hK.out _ _ bWAQC (fun hHeld => ?_)
                  clear hK K bn
                  refine wpAnyH_take (i := 15) (v := .tuple #[qVal t.ep t.nx t.gv (.slice b1' t.rn d1') (.slice b2' t.ln d2') vs', ansVal 0 0 0 0, .bool ch, .int .i64 0]) rfl (by kernel_rfl) (by kernel_rfl) (by kernel_rfl) (fun _ _ _ h => h) (Or.inl ⟨by rfl, fun _ _ => by go_simp⟩) hHeld ?_
                  simp only [List.getElem_toArray, List.getElem_cons_zero, List.getElem_cons_succ, Act.put, List.setIfInBounds_toArray, List.set_cons_zero, List.set_cons_succ]
                  refine wpAnyH_take (i := 16) (v := qVal t.ep t.nx t.gv (.slice b1' t.rn d1') (.slice b2' t.ln d2') vs') rfl (by kernel_rfl) (by kernel_rfl) (by kernel_rfl) (fun _ _ _ h => h) (Or.inl ⟨by rfl, fun _ _ => by go_simp⟩) hHeld ?_
                  simp only [List.getElem_toArray, List.getElem_cons_zero, List.getElem_cons_succ, Act.put, List.setIfInBounds_toArray, List.set_cons_zero, List.set_cons_succ]
                  refine wpAnyH_take (i := 17) (v := ansVal 0 0 0 0) rfl (by kernel_rfl) (by kernel_rfl) (by kernel_rfl) (fun _ _ _ h => h) (Or.inl ⟨by rfl, fun _ _ => by go_simp⟩) hHeld ?_
                  simp only [List.getElem_toArray, List.getElem_cons_zero, List.getElem_cons_succ, Act.put, List.setIfInBounds_toArray, List.set_cons_zero, List.set_cons_succ]
                  refine wpAnyH_take (i := 18) (v := .bool ch) rfl (by kernel_rfl) (by kernel_rfl) (by kernel_rfl) (fun _ _ _ h => h) (Or.inl ⟨by rfl, fun _ _ => by go_simp⟩) hHeld ?_
                  simp only [List.getElem_toArray, List.getElem_cons_zero, List.getElem_cons_succ, Act.put, List.setIfInBounds_toArray, List.set_cons_zero, List.set_cons_succ]
                  refine wpAnyH_take (i := 19) (v := .int .i64 0) rfl (by kernel_rfl) (by kernel_rfl) (by kernel_rfl) (fun _ _ _ h => h) (Or.inl ⟨by rfl, fun _ _ => by go_simp⟩) hHeld ?_
                  simp only [List.getElem_toArray, List.getElem_cons_zero, List.getElem_cons_succ, Act.put, List.setIfInBounds_toArray, List.set_cons_zero, List.set_cons_succ]
                  refine wpAnyH_ready (rs := [22]) (by kernel_rfl) (by simp) ?_
                  refine AllReadyH.cons rfl (fun K hK => ?_) AllReadyH.nil
                  simp only [List.getElem_toArray, List.getElem_cons_zero, List.getElem_cons_succ]
                  refine ite_wanted rfl ?_
                  refine q_store_wp (ra := b1') (la := b2') (ws' := vs') _ _ rfl rfl rfl zq hW'' ?_
                  intro Wq q5 t5
                  have ya5 := ya.turned t5 (by omega)
                  have r15 := t5.row r1 (fun x hx h0 => by have := f1 x hx; have := hr1 x hx h0; omega)
                  have r25 := t5.row r2 (fun x hx h0 => by have := f2 x hx; have := hr2 x hx h0; omega)
                  have b5 := t5.under bWAQC (by omega)
                  refine hK.out _ _ b5 (fun hHeld => ?_)
                  clear hK K
                  refine wpAnyH_ready (rs := [23]) (by kernel_rfl) (by simp) ?_
                  refine AllReadyH.cons rfl (fun K hK => ?_) AllReadyH.nil
                  simp only [List.getElem_toArray, List.getElem_cons_zero, List.getElem_cons_succ]
                  obtain ⟨y0, y1, y2, y3⟩ := ya5.cells
                  have yf := ya5.free
                  go_simp
                  have t6 := ans_turned Wq (W0.heap.size) 0 0 0 0
                  have ya6 := ya5.store 0 0 0 0
                  have q6 := t6.queue q5 (by omega)
                  have b6 := t6.under b5 (by omega)
                  have X6 : Bx _ (WA.heap.size) t b1' d1' b2' d2' vs' := ⟨q6, t6.row r15 (fun x hx h0 => by have := f1 x hx; have := hr1 x hx h0; omega), t6.row r25 (fun x hx h0 => by have := f2 x hx; have := hr2 x hx h0; omega), n1, n2, hW''⟩
                  unfold ansStore at ya6 X6 b6
                  refine hK.out _ _ b6 (fun hHeld => ?_)
                  clear hK K y0 y1 y2 y3 yf q6 t6
                  generalize (((Wq.setCell ⟨W0.heap.size, 0, none⟩ (.int .i64 0)).setCell ⟨W0.heap.size, 1, none⟩ (.int .i64 0)).setCell ⟨W0.heap.size, 2, none⟩ (.int .i64 0)).setCell ⟨W0.heap.size, 3, none⟩ (.int .i64 0) = W6 at ya6 X6 b6 hHeld ⊢
                  refine wpAnyH_take (i := 24) (v := .bool ch) rfl (by kernel_rfl) (by kernel_rfl) (by kernel_rfl) (fun _ _ _ h => h) (Or.inl ⟨by rfl, fun _ _ => by go_simp⟩) hHeld ?_
                  simp only [List.getElem_toArray, List.getElem_cons_zero, List.getElem_cons_succ, Act.put, List.setIfInBounds_toArray, List.set_cons_zero, List.set_cons_succ]
                  refine wpAnyH_take (i := 25) (v := .int .i64 0) rfl (by kernel_rfl) (by kernel_rfl) (by kernel_rfl) (fun _ _ _ h => h) (Or.inl ⟨by rfl, fun _ _ => by go_simp⟩) hHeld ?_
                  simp only [List.getElem_toArray, List.getElem_cons_zero, List.getElem_cons_succ, Act.put, List.setIfInBounds_toArray, List.set_cons_zero, List.set_cons_succ]
                  refine wpAnyH_done (by kernel_rfl) ?_ _
                  go_wp2_with fail
                  go_meet
                  exact ⟨_, _, t, ch, b1', d1', b2', d2', vs', rfl, rfl, rfl, rfl, X6, ya6, b6, by omega, g1, hSf⟩
          · simp only [List.getElem_toArray, List.getElem_cons_zero, List.getElem_cons_succ]
            refine ite_wanted rfl ?_
            refine q_alloc_wp 11 rfl rfl ?_
            intro WQ zq bn
            have hXq : W0.heap.size < WQ.heap.size := zq.lt
            have bWQ := Below.next bW0 bn
            have hSWQ : W0.heap.size ≤ WQ.heap.size := bn.size
            refine hK.out _ _ bWQ (fun hHeld => ?_)
            clear hK K bn
            refine wpAnyH_ready (rs := [11, 21]) (by kernel_rfl) (by simp) ?_
            refine AllReadyH.cons rfl (fun K hK => ?_) (AllReadyH.cons rfl (fun K hK => ?_) AllReadyH.nil)
            · simp only [List.getElem_toArray, List.getElem_cons_zero, List.getElem_cons_succ]
              go_simp
              refine (P2 _).mono ?_
              rintro x w9 ⟨rfl, hw9⟩
              subst w9
              refine hK.out _ _ bWQ (fun hHeld => ?_)
              clear hK K
              refine wpAnyH_take (i := 12) (v := .pointer (some ⟨g, off + jn * 6, none⟩)) rfl (by kernel_rfl) (by kernel_rfl) (by kernel_rfl) (fun _ _ _ h => h) (Or.inl ⟨by rfl, fun _ _ => by go_simp⟩) hHeld ?_
              simp only [List.getElem_toArray, List.getElem_cons_zero, List.getElem_cons_succ, Act.put, List.setIfInBounds_toArray, List.set_cons_zero, List.set_cons_succ]
              refine wpAnyH_take (i := 13) (v := evVal v.k v.p v.i v.b v.he v.hn) rfl (by kernel_rfl) (by kernel_rfl) (by kernel_rfl) (fun _ _ _ h => h) (Or.inl ⟨by rfl, fun w b => by have qc0 := (b.cell (p := ⟨g, off + jn * 6, none⟩) hgl).trans e0; have qc1 := (b.cell (p := ⟨g, off + jn * 6 + 1, none⟩) hgl).trans e1; have qc2 := (b.cell (p := ⟨g, off + jn * 6 + 2, none⟩) hgl).trans e2; have qc3 := (b.cell (p := ⟨g, off + jn * 6 + 3, none⟩) hgl).trans e3; have qc4 := (b.cell (p := ⟨g, off + jn * 6 + 4, none⟩) hgl).trans e4; have qc5 := (b.cell (p := ⟨g, off + jn * 6 + 5, none⟩) hgl).trans e5; go_simp⟩) hHeld ?_
              simp only [List.getElem_toArray, List.getElem_cons_zero, List.getElem_cons_succ, Act.put, List.setIfInBounds_toArray, List.set_cons_zero, List.set_cons_succ]
              refine wpAnyH_ready (rs := [14, 21]) (by kernel_rfl) (by simp) ?_
              refine AllReadyH.cons rfl (fun K hK => ?_) (AllReadyH.cons rfl (fun K hK => ?_) AllReadyH.nil)
              · simp only [List.getElem_toArray, List.getElem_cons_zero, List.getElem_cons_succ]
                go_simp
                refine (unveil HDo _ bWQ).mono ?_
                rintro e WQC ⟨t, ch, b1', d1', b2', d2', vs', rfl, hSf, r1, r2, n1, n2, hW'', f1, f2, bn⟩
                have hr1 := fun x hx h0 => r1.blk_lt x hx h0
                have hr2 := fun x hx h0 => r2.blk_lt x hx h0
                have g1 : ∀ x, b1' = some x → wr.heap.size ≤ x.block := fun x hx => Nat.le_trans (bWQ).size (f1 x hx)
                have bWQC := Below.next bWQ bn
                have zq := zq.next bn
                have hSWQC : WQ.heap.size ≤ WQC.heap.size := bn.size
                refine hK.out _ _ bWQC (fun hHeld => ?_)
                clear hK K bn
                refine wpAnyH_take (i := 15) (v := .tuple #[qVal t.ep t.nx t.gv (.slice b1' t.rn d1') (.slice b2' t.ln d2') vs', ansVal 0 0 0 0, .bool ch, .int .i64 0]) rfl (by kernel_rfl) (by kernel_rfl) (by kernel_rfl) (fun _ _ _ h => h) (Or.inl ⟨by rfl, fun _ _ => by go_simp⟩) hHeld ?_
                simp only [List.getElem_toArray, List.getElem_cons_zero, List.getElem_cons_succ, Act.put, List.setIfInBounds_toArray, List.set_cons_zero, List.set_cons_succ]
                refine wpAnyH_take (i := 16) (v := qVal t.ep t.nx t.gv (.slice b1' t.rn d1') (.slice b2' t.ln d2') vs') rfl (by kernel_rfl) (by kernel_rfl) (by kernel_rfl) (fun _ _ _ h => h) (Or.inl ⟨by rfl, fun _ _ => by go_simp⟩) hHeld ?_
                simp only [List.getElem_toArray, List.getElem_cons_zero, List.getElem_cons_succ, Act.put, List.setIfInBounds_toArray, List.set_cons_zero, List.set_cons_succ]
                refine wpAnyH_take (i := 17) (v := ansVal 0 0 0 0) rfl (by kernel_rfl) (by kernel_rfl) (by kernel_rfl) (fun _ _ _ h => h) (Or.inl ⟨by rfl, fun _ _ => by go_simp⟩) hHeld ?_
                simp only [List.getElem_toArray, List.getElem_cons_zero, List.getElem_cons_succ, Act.put, List.setIfInBounds_toArray, List.set_cons_zero, List.set_cons_succ]
                refine wpAnyH_take (i := 18) (v := .bool ch) rfl (by kernel_rfl) (by kernel_rfl) (by kernel_rfl) (fun _ _ _ h => h) (Or.inl ⟨by rfl, fun _ _ => by go_simp⟩) hHeld ?_
                simp only [List.getElem_toArray, List.getElem_cons_zero, List.getElem_cons_succ, Act.put, List.setIfInBounds_toArray, List.set_cons_zero, List.set_cons_succ]
                refine wpAnyH_take (i := 19) (v := .int .i64 0) rfl (by kernel_rfl) (by kernel_rfl) (by kernel_rfl) (fun _ _ _ h => h) (Or.inl ⟨by rfl, fun _ _ => by go_simp⟩) hHeld ?_
                simp only [List.getElem_toArray, List.getElem_cons_zero, List.getElem_cons_succ, Act.put, List.setIfInBounds_toArray, List.set_cons_zero, List.set_cons_succ]
                refine wpAnyH_ready (rs := [21]) (by kernel_rfl) (by simp) ?_
                refine AllReadyH.cons rfl (fun K hK => ?_) AllReadyH.nil
                · simp only [List.getElem_toArray, List.getElem_cons_zero, List.getElem_cons_succ]
                  go_simp
                  obtain ⟨WQCA, hWQCA, ya, bn⟩ : ∃ W, W = WQC.alloc (.cells #[.int .i64 0, .int .i64 0, .int .i64 0, .int .i64 0] 59) ∧ ansBlock W WQC.heap.size 0 0 0 0 ∧ Below WQC.heap.size WQC W := ⟨_, rfl, ansBlock.new _ 0 0 0 0, below1 _ _⟩
                  rw [← hWQCA]
                  have hXa : WQC.heap.size < WQCA.heap.size := ya.lt
                  have bWQCA := Below.next bWQC bn
                  clear hWQCA
                  have zq := zq.next bn
                  have r1 := r1.below bn
                  have r2 := r2.below bn
                  have hSWQCA : WQC.heap.size ≤ WQCA.heap.size := bn.size
                  refine hK.out _ _ bWQCA (fun hHeld => ?_)
                  clear hK K bn
                  refine wpAnyH_ready (rs := [22]) (by kernel_rfl) (by simp) ?_
                  refine AllReadyH.cons rfl (fun K hK => ?_) AllReadyH.nil
                  simp only [List.getElem_toArray, List.getElem_cons_zero, List.getElem_cons_succ]
                  refine ite_wanted rfl ?_
                  refine q_store_wp (ra := b1') (la := b2') (ws' := vs') _ _ rfl rfl rfl zq hW'' ?_
                  intro Wq q5 t5
                  have ya5 := ya.turned t5 (by omega)
                  have r15 := t5.row r1 (fun x hx h0 => by have := f1 x hx; have := hr1 x hx h0; omega)
                  have r25 := t5.row r2 (fun x hx h0 => by have := f2 x hx; have := hr2 x hx h0; omega)
                  have b5 := t5.under bWQCA (by omega)
                  refine hK.out _ _ b5 (fun hHeld => ?_)
                  clear hK K
                  refine wpAnyH_ready (rs := [23]) (by kernel_rfl) (by simp) ?_
                  refine AllReadyH.cons rfl (fun K hK => ?_) AllReadyH.nil
                  simp only [List.getElem_toArray, List.getElem_cons_zero, List.getElem_cons_succ]
                  obtain ⟨y0, y1, y2, y3⟩ := ya5.cells
                  have yf := ya5.free
                  go_simp
                  have t6 := ans_turned Wq (WQC.heap.size) 0 0 0 0
                  have ya6 := ya5.store 0 0 0 0
                  have q6 := t6.queue q5 (by omega)
                  have b6 := t6.under b5 (by omega)
                  have X6 : Bx _ (W0.heap.size) t b1' d1' b2' d2' vs' := ⟨q6, t6.row r15 (fun x hx h0 => by have := f1 x hx; have := hr1 x hx h0; omega), t6.row r25 (fun x hx h0 => by have := f2 x hx; have := hr2 x hx h0; omega), n1, n2, hW''⟩
                  unfold ansStore at ya6 X6 b6
                  refine hK.out _ _ b6 (fun hHeld => ?_)
                  clear hK K y0 y1 y2 y3 yf q6 t6
                  generalize (((Wq.setCell ⟨WQC.heap.size, 0, none⟩ (.int .i64 0)).setCell ⟨WQC.heap.size, 1, none⟩ (.int .i64 0)).setCell ⟨WQC.heap.size, 2, none⟩ (.int .i64 0)).setCell ⟨WQC.heap.size, 3, none⟩ (.int .i64 0) = W6 at ya6 X6 b6 hHeld ⊢
                  refine wpAnyH_take (i := 24) (v := .bool ch) rfl (by kernel_rfl) (by kernel_rfl) (by kernel_rfl) (fun _ _ _ h => h) (Or.inl ⟨by rfl, fun _ _ => by go_simp⟩) hHeld ?_
                  simp only [List.getElem_toArray, List.getElem_cons_zero, List.getElem_cons_succ, Act.put, List.setIfInBounds_toArray, List.set_cons_zero, List.set_cons_succ]
                  refine wpAnyH_take (i := 25) (v := .int .i64 0) rfl (by kernel_rfl) (by kernel_rfl) (by kernel_rfl) (fun _ _ _ h => h) (Or.inl ⟨by rfl, fun _ _ => by go_simp⟩) hHeld ?_
                  simp only [List.getElem_toArray, List.getElem_cons_zero, List.getElem_cons_succ, Act.put, List.setIfInBounds_toArray, List.set_cons_zero, List.set_cons_succ]
                  refine wpAnyH_done (by kernel_rfl) ?_ _
                  go_wp2_with fail
                  go_meet
                  exact ⟨_, _, t, ch, b1', d1', b2', d2', vs', rfl, rfl, rfl, rfl, X6, ya6, b6, by omega, g1, hSf⟩
              · simp only [List.getElem_toArray, List.getElem_cons_zero, List.getElem_cons_succ]
                go_simp
                obtain ⟨WQA, hWQA, ya, bn⟩ : ∃ W, W = WQ.alloc (.cells #[.int .i64 0, .int .i64 0, .int .i64 0, .int .i64 0] 59) ∧ ansBlock W WQ.heap.size 0 0 0 0 ∧ Below WQ.heap.size WQ W := ⟨_, rfl, ansBlock.new _ 0 0 0 0, below1 _ _⟩
                rw [← hWQA]
                have hXa : WQ.heap.size < WQA.heap.size := ya.lt
                have bWQA := Below.next bWQ bn
                clear hWQA
                have zq := zq.next bn
                have hSWQA : WQ.heap.size ≤ WQA.heap.size := bn.size
                refine hK.out _ _ bWQA (fun hHeld => ?_)
                clear hK K bn
                refine wpAnyH_ready (rs := [14]) (by kernel_rfl) (by simp) ?_
                refine AllReadyH.cons rfl (fun K hK => ?_) AllReadyH.nil
                · simp only [List.getElem_toArray, List.getElem_cons_zero, List.getElem_cons_succ]
                  go_simp
                  refine (unveil HDo _ bWQA).mono ?_
                  rintro e WQAC ⟨t, ch, b1', d1', b2', d2', vs', rfl, hSf, r1, r2, n1, n2, hW'', f1, f2, bn⟩
                  have hr1 := fun x hx h0 => r1.blk_lt x hx h0
                  have hr2 := fun x hx h0 => r2.blk_lt x hx h0
                  have g1 : ∀ x, b1' = some x → wr.heap.size ≤ x.block := fun x hx => Nat.le_trans (bWQA).size (f1 x hx)
                  have bWQAC := Below.next bWQA bn
                  have zq := zq.next bn
                  have ya := ya.next bn
                  have hSWQAC : WQA.heap.size ≤ WQAC.heap.size := bn.size
                  refine hK.out _ _ bWQAC (fun hHeld => ?_)
                  clear hK K bn
                  refine wpAnyH_take (i := 15) (v := .tuple #[qVal t.ep t.nx t.gv (.slice b1' t.rn d1') (.slice b2' t.ln d2') vs', ansVal 0 0 0 0, .bool ch, .int .i64 0]) rfl (by kernel_rfl) (by kernel_rfl) (by kernel_rfl) (fun _ _ _ h => h) (Or.inl ⟨by rfl, fun _ _ => by go_simp⟩) hHeld ?_
                  simp only [List.getElem_toArray, List.getElem_cons_zero, List.getElem_cons_succ, Act.put, List.setIfInBounds_toArray, List.set_cons_zero, List.set_cons_succ]
                  refine wpAnyH_take (i := 16) (v := qVal t.ep t.nx t.gv (.slice b1' t.rn d1') (.slice b2' t.ln d2') vs') rfl (by kernel_rfl) (by kernel_rfl) (by kernel_rfl) (fun _ _ _ h => h) (Or.inl ⟨by rfl, fun _ _ => by go_simp⟩) hHeld ?_
                  simp only [List.getElem_toArray, List.getElem_cons_zero, List.getElem_cons_succ, Act.put, List.setIfInBounds_toArray, List.set_cons_zero, List.set_cons_succ]
                  refine wpAnyH_take (i := 17) (v := ansVal 0 0 0 0) rfl (by kernel_rfl) (by kernel_rfl) (by kernel_rfl) (fun _ _ _ h => h) (Or.inl ⟨by rfl, fun _ _ => by go_simp⟩) hHeld ?_
                  simp only [List.getElem_toArray, List.getElem_cons_zero, List.getElem_cons_succ, Act.put, List.setIfInBounds_toArray, List.set_cons_zero, List.set_cons_succ]
                  refine wpAnyH_take (i := 18) (v := .bool ch) rfl (by kernel_rfl) (by kernel_rfl) (by kernel_rfl) (fun _ _ _ h => h) (Or.inl ⟨by rfl, fun _ _ => by go_simp⟩) hHeld ?_
                  simp only [List.getElem_toArray, List.getElem_cons_zero, List.getElem_cons_succ, Act.put, List.setIfInBounds_toArray, List.set_cons_zero, List.set_cons_succ]
                  refine wpAnyH_take (i := 19) (v := .int .i64 0) rfl (by kernel_rfl) (by kernel_rfl) (by kernel_rfl) (fun _ _ _ h => h) (Or.inl ⟨by rfl, fun _ _ => by go_simp⟩) hHeld ?_
                  simp only [List.getElem_toArray, List.getElem_cons_zero, List.getElem_cons_succ, Act.put, List.setIfInBounds_toArray, List.set_cons_zero, List.set_cons_succ]
                  refine wpAnyH_ready (rs := [22]) (by kernel_rfl) (by simp) ?_
                  refine AllReadyH.cons rfl (fun K hK => ?_) AllReadyH.nil
                  simp only [List.getElem_toArray, List.getElem_cons_zero, List.getElem_cons_succ]
                  refine ite_wanted rfl ?_
                  refine q_store_wp (ra := b1') (la := b2') (ws' := vs') _ _ rfl rfl rfl zq hW'' ?_
                  intro Wq q5 t5
                  have ya5 := ya.turned t5 (by omega)
                  have r15 := t5.row r1 (fun x hx h0 => by have := f1 x hx; have := hr1 x hx h0; omega)
                  have r25 := t5.row r2 (fun x hx h0 => by have := f2 x hx; have := hr2 x hx h0; omega)
                  have b5 := t5.under bWQAC (by omega)
                  refine hK.out _ _ b5 (fun hHeld => ?_)
                  clear hK K
                  refine wpAnyH_ready (rs := [23]) (by kernel_rfl) (by simp) ?_
                  refine AllReadyH.cons rfl (fun K hK => ?_) AllReadyH.nil
                  simp only [List.getElem_toArray, List.getElem_cons_zero, List.getElem_cons_succ]
                  obtain ⟨y0, y1, y2, y3⟩ := ya5.cells
                  have yf := ya5.free
                  go_simp
                  have t6 := ans_turned Wq (WQ.heap.size) 0 0 0 0
                  have ya6 := ya5.store 0 0 0 0
                  have q6 := t6.queue q5 (by omega)
                  have b6 := t6.under b5 (by omega)
                  have X6 : Bx _ (W0.heap.size) t b1' d1' b2' d2' vs' := ⟨q6, t6.row r15 (fun x hx h0 => by have := f1 x hx; have := hr1 x hx h0; omega), t6.row r25 (fun x hx h0 => by have := f2 x hx; have := hr2 x hx h0; omega), n1, n2, hW''⟩
                  unfold ansStore at ya6 X6 b6
                  refine hK.out _ _ b6 (fun hHeld => ?_)
                  clear hK K y0 y1 y2 y3 yf q6 t6
                  generalize (((Wq.setCell ⟨WQ.heap.size, 0, none⟩ (.int .i64 0)).setCell ⟨WQ.heap.size, 1, none⟩ (.int .i64 0)).setCell ⟨WQ.heap.size, 2, none⟩ (.int .i64 0)).setCell ⟨WQ.heap.size, 3, none⟩ (.int .i64 0) = W6 at ya6 X6 b6 hHeld ⊢
                  refine wpAnyH_take (i := 24) (v := .bool ch) rfl (by kernel_rfl) (by kernel_rfl) (by kernel_rfl) (fun _ _ _ h => h) (Or.inl ⟨by rfl, fun _ _ => by go_simp⟩) hHeld ?_
                  simp only [List.getElem_toArray, List.getElem_cons_zero, List.getElem_cons_succ, Act.put, List.setIfInBounds_toArray, List.set_cons_zero, List.set_cons_succ]
                  refine wpAnyH_take (i := 25) (v := .int .i64 0) rfl (by kernel_rfl) (by kernel_rfl) (by kernel_rfl) (fun _ _ _ h => h) (Or.inl ⟨by rfl, fun _ _ => by go_simp⟩) hHeld ?_
                  simp only [List.getElem_toArray, List.getElem_cons_zero, List.getElem_cons_succ, Act.put, List.setIfInBounds_toArray, List.set_cons_zero, List.set_cons_succ]
                  refine wpAnyH_done (by kernel_rfl) ?_ _
                  go_wp2_with fail
                  go_meet
                  exact ⟨_, _, t, ch, b1', d1', b2', d2', vs', rfl, rfl, rfl, rfl, X6, ya6, b6, by omega, g1, hSf⟩
            · simp only [List.getElem_toArray, List.getElem_cons_zero, List.getElem_cons_succ]
              go_simp
              obtain ⟨WQA, hWQA, ya, bn⟩ : ∃ W, W = WQ.alloc (.cells #[.int .i64 0, .int .i64 0, .int .i64 0, .int .i64 0] 59) ∧ ansBlock W WQ.heap.size 0 0 0 0 ∧ Below WQ.heap.size WQ W := ⟨_, rfl, ansBlock.new _ 0 0 0 0, below1 _ _⟩
              rw [← hWQA]
              have hXa : WQ.heap.size < WQA.heap.size := ya.lt
              have bWQA := Below.next bWQ bn
              clear hWQA
              have zq := zq.next bn
              have hSWQA : WQ.heap.size ≤ WQA.heap.size := bn.size
              refine hK.out _ _ bWQA (fun hHeld => ?_)
              clear hK K bn
              refine wpAnyH_ready (rs := [11]) (by kernel_rfl) (by simp) ?_
              refine AllReadyH.cons rfl (fun K hK => ?_) AllReadyH.nil
              · simp only [List.getElem_toArray, List.getElem_cons_zero, List.getElem_cons_succ]
                go_simp
                refine (P2 _).mono ?_
                rintro x w9 ⟨rfl, hw9⟩
                subst w9
                refine hK.out _ _ bWQA (fun hHeld => ?_)
                clear hK K
                refine wpAnyH_take (i := 12) (v := .pointer (some ⟨g, off + jn * 6, none⟩)) rfl (by kernel_rfl) (by kernel_rfl) (by kernel_rfl) (fun _ _ _ h => h) (Or.inl ⟨by rfl, fun _ _ => by go_simp⟩) hHeld ?_
                simp only [List.getElem_toArray, List.getElem_cons_zero, List.getElem_cons_succ, Act.put, List.setIfInBounds_toArray, List.set_cons_zero, List.set_cons_succ]
                refine wpAnyH_take (i := 13) (v := evVal v.k v.p v.i v.b v.he v.hn) rfl (by kernel_rfl) (by kernel_rfl) (by kernel_rfl) (fun _ _ _ h => h) (Or.inl ⟨by rfl, fun w b => by have qc0 := (b.cell (p := ⟨g, off + jn * 6, none⟩) hgl).trans e0; have qc1 := (b.cell (p := ⟨g, off + jn * 6 + 1, none⟩) hgl).trans e1; have qc2 := (b.cell (p := ⟨g, off + jn * 6 + 2, none⟩) hgl).trans e2; have qc3 := (b.cell (p := ⟨g, off + jn * 6 + 3, none⟩) hgl).trans e3; have qc4 := (b.cell (p := ⟨g, off + jn * 6 + 4, none⟩) hgl).trans e4; have qc5 := (b.cell (p := ⟨g, off + jn * 6 + 5, none⟩) hgl).trans e5; go_simp⟩) hHeld ?_
                simp only [List.getElem_toArray, List.getElem_cons_zero, List.getElem_cons_succ, Act.put, List.setIfInBounds_toArray, List.set_cons_zero, List.set_cons_succ]
                refine wpAnyH_ready (rs := [14]) (by kernel_rfl) (by simp) ?_
                refine AllReadyH.cons rfl (fun K hK => ?_) AllReadyH.nil
                · simp only [List.getElem_toArray, List.getElem_cons_zero, List.getElem_cons_succ]
                  go_simp
                  refine (unveil HDo _ bWQA).mono ?_
                  rintro e WQAC ⟨t, ch, b1', d1', b2', d2', vs', rfl, hSf, r1, r2, n1, n2, hW'', f1, f2, bn⟩
                  have hr1 := fun x hx h0 => r1.blk_lt x hx h0
                  have hr2 := fun x hx h0 => r2.blk_lt x hx h0
                  have g1 : ∀ x, b1' = some x → wr.heap.size ≤ x.block := fun x hx => Nat.le_trans (bWQA).size (f1 x hx)
                  have bWQAC := Below.next bWQA bn
                  have zq := zq.next bn
                  have ya := ya.next bn
                  have hSWQAC : WQA.heap.size ≤ WQAC.heap.size := bn.size
                  refine hK.out _ _ bWQAC (fun hHeld => ?_)
                  clear hK K bn
                  refine wpAnyH_take (i := 15) (v := .tuple #[qVal t.ep t.nx t.gv (.slice b1' t.rn d1') (.slice b2' t.ln d2') vs', ansVal 0 0 0 0, .bool ch, .int .i64 0]) rfl (by kernel_rfl) (by kernel_rfl) (by kernel_rfl) (fun _ _ _ h => h) (Or.inl ⟨by rfl, fun _ _ => by go_simp⟩) hHeld ?_
                  simp only [List.getElem_toArray, List.getElem_cons_zero, List.getElem_cons_succ, Act.put, List.setIfInBounds_toArray, List.set_cons_zero, List.set_cons_succ]
                  refine wpAnyH_take (i := 16) (v := qVal t.ep t.nx t.gv (.slice b1' t.rn d1') (.slice b2' t.ln d2') vs') rfl (by kernel_rfl) (by kernel_rfl) (by kernel_rfl) (fun _ _ _ h => h) (Or.inl ⟨by rfl, fun _ _ => by go_simp⟩) hHeld ?_
                  simp only [List.getElem_toArray, List.getElem_cons_zero, List.getElem_cons_succ, Act.put, List.setIfInBounds_toArray, List.set_cons_zero, List.set_cons_succ]
                  refine wpAnyH_take (i := 17) (v := ansVal 0 0 0 0) rfl (by kernel_rfl) (by kernel_rfl) (by kernel_rfl) (fun _ _ _ h => h) (Or.inl ⟨by rfl, fun _ _ => by go_simp⟩) hHeld ?_
                  simp only [List.getElem_toArray, List.getElem_cons_zero, List.getElem_cons_succ, Act.put, List.setIfInBounds_toArray, List.set_cons_zero, List.set_cons_succ]
                  refine wpAnyH_take (i := 18) (v := .bool ch) rfl (by kernel_rfl) (by kernel_rfl) (by kernel_rfl) (fun _ _ _ h => h) (Or.inl ⟨by rfl, fun _ _ => by go_simp⟩) hHeld ?_
                  simp only [List.getElem_toArray, List.getElem_cons_zero, List.getElem_cons_succ, Act.put, List.setIfInBounds_toArray, List.set_cons_zero, List.set_cons_succ]
                  refine wpAnyH_take (i := 19) (v := .int .i64 0) rfl (by kernel_rfl) (by kernel_rfl) (by kernel_rfl) (fun _ _ _ h => h) (Or.inl ⟨by rfl, fun _ _ => by go_simp⟩) hHeld ?_
                  simp only [List.getElem_toArray, List.getElem_cons_zero, List.getElem_cons_succ, Act.put, List.setIfInBounds_toArray, List.set_cons_zero, List.set_cons_succ]
                  refine wpAnyH_ready (rs := [22]) (by kernel_rfl) (by simp) ?_
                  refine AllReadyH.cons rfl (fun K hK => ?_) AllReadyH.nil
                  simp only [List.getElem_toArray, List.getElem_cons_zero, List.getElem_cons_succ]
                  refine ite_wanted rfl ?_
                  refine q_store_wp (ra := b1') (la := b2') (ws' := vs') _ _ rfl rfl rfl zq hW'' ?_
                  intro Wq q5 t5
                  have ya5 := ya.turned t5 (by omega)
                  have r15 := t5.row r1 (fun x hx h0 => by have := f1 x hx; have := hr1 x hx h0; omega)
                  have r25 := t5.row r2 (fun x hx h0 => by have := f2 x hx; have := hr2 x hx h0; omega)
                  have b5 := t5.under bWQAC (by omega)
                  refine hK.out _ _ b5 (fun hHeld => ?_)
                  clear hK K
                  refine wpAnyH_ready (rs := [23]) (by kernel_rfl) (by simp) ?_
                  refine AllReadyH.cons rfl (fun K hK => ?_) AllReadyH.nil
                  simp only [List.getElem_toArray, List.getElem_cons_zero, List.getElem_cons_succ]
                  obtain ⟨y0, y1, y2, y3⟩ := ya5.cells
                  have yf := ya5.free
                  go_simp
                  have t6 := ans_turned Wq (WQ.heap.size) 0 0 0 0
                  have ya6 := ya5.store 0 0 0 0
                  have q6 := t6.queue q5 (by omega)
                  have b6 := t6.under b5 (by omega)
                  have X6 : Bx _ (W0.heap.size) t b1' d1' b2' d2' vs' := ⟨q6, t6.row r15 (fun x hx h0 => by have := f1 x hx; have := hr1 x hx h0; omega), t6.row r25 (fun x hx h0 => by have := f2 x hx; have := hr2 x hx h0; omega), n1, n2, hW''⟩
                  unfold ansStore at ya6 X6 b6
                  refine hK.out _ _ b6 (fun hHeld => ?_)
                  clear hK K y0 y1 y2 y3 yf q6 t6
                  generalize (((Wq.setCell ⟨WQ.heap.size, 0, none⟩ (.int .i64 0)).setCell ⟨WQ.heap.size, 1, none⟩ (.int .i64 0)).setCell ⟨WQ.heap.size, 2, none⟩ (.int .i64 0)).setCell ⟨WQ.heap.size, 3, none⟩ (.int .i64 0) = W6 at ya6 X6 b6 hHeld ⊢
                  refine wpAnyH_take (i := 24) (v := .bool ch) rfl (by kernel_rfl) (by kernel_rfl) (by kernel_rfl) (fun _ _ _ h => h) (Or.inl ⟨by rfl, fun _ _ => by go_simp⟩) hHeld ?_
                  simp only [List.getElem_toArray, List.getElem_cons_zero, List.getElem_cons_succ, Act.put, List.setIfInBounds_toArray, List.set_cons_zero, List.set_cons_succ]
                  refine wpAnyH_take (i := 25) (v := .int .i64 0) rfl (by kernel_rfl) (by kernel_rfl) (by kernel_rfl) (fun _ _ _ h => h) (Or.inl ⟨by rfl, fun _ _ => by go_simp⟩) hHeld ?_
                  simp only [List.getElem_toArray, List.getElem_cons_zero, List.getElem_cons_succ, Act.put, List.setIfInBounds_toArray, List.set_cons_zero, List.set_cons_succ]
                  refine wpAnyH_done (by kernel_rfl) ?_ _
                  go_wp2_with fail
                  go_meet
                  exact ⟨_, _, t, ch, b1', d1', b2', d2', vs', rfl, rfl, rfl, rfl, X6, ya6, b6, by omega, g1, hSf⟩
          · simp only [List.getElem_toArray, List.getElem_cons_zero, List.getElem_cons_succ]
            go_simp
            obtain ⟨WA, hWA, ya, bn⟩ : ∃ W, W = W0.alloc (.cells #[.int .i64 0, .int .i64 0, .int .i64 0, .int .i64 0] 59) ∧ ansBlock W W0.heap.size 0 0 0 0 ∧ Below W0.heap.size W0 W := ⟨_, rfl, ansBlock.new _ 0 0 0 0, below1 _ _⟩
            rw [← hWA]
            have hXa : W0.heap.size < WA.heap.size := ya.lt
            have bWA := Below.next bW0 bn
            clear hWA
            have hSWA : W0.heap.size ≤ WA.heap.size := bn.size
            refine hK.out _ _ bWA (fun hHeld => ?_)
            clear hK K bn
            refine wpAnyH_ready (rs := [11, 20]) (by kernel_rfl) (by simp) ?_
            refine AllReadyH.cons rfl (fun K hK => ?_) (AllReadyH.cons rfl (fun K hK => ?_) AllReadyH.nil)
            · simp only [List.getElem_toArray, List.getElem_cons_zero, List.getElem_cons_succ]
              go_simp
              refine (P2 _).mono ?_
              rintro x w9 ⟨rfl, hw9⟩
              subst w9
              refine hK.out _ _ bWA (fun hHeld => ?_)
              clear hK K
              refine wpAnyH_take (i := 12) (v := .pointer (some ⟨g, off + jn * 6, none⟩)) rfl (by kernel_rfl) (by kernel_rfl) (by kernel_rfl) (fun _ _ _ h => h) (Or.inl ⟨by rfl, fun _ _ => by go_simp⟩) hHeld ?_
              simp only [List.getElem_toArray, List.getElem_cons_zero, List.getElem_cons_succ, Act.put, List.setIfInBounds_toArray, List.set_cons_zero, List.set_cons_succ]
              refine wpAnyH_take (i := 13) (v := evVal v.k v.p v.i v.b v.he v.hn) rfl (by kernel_rfl) (by kernel_rfl) (by kernel_rfl) (fun _ _ _ h => h) (Or.inl ⟨by rfl, fun w b => by have qc0 := (b.cell (p := ⟨g, off + jn * 6, none⟩) hgl).trans e0; have qc1 := (b.cell (p := ⟨g, off + jn * 6 + 1, none⟩) hgl).trans e1; have qc2 := (b.cell (p := ⟨g, off + jn * 6 + 2, none⟩) hgl).trans e2; have qc3 := (b.cell (p := ⟨g, off + jn * 6 + 3, none⟩) hgl).trans e3; have qc4 := (b.cell (p := ⟨g, off + jn * 6 + 4, none⟩) hgl).trans e4; have qc5 := (b.cell (p := ⟨g, off + jn * 6 + 5, none⟩) hgl).trans e5; go_simp⟩) hHeld ?_
              simp only [List.getElem_toArray, List.getElem_cons_zero, List.getElem_cons_succ, Act.put, List.setIfInBounds_toArray, List.set_cons_zero, List.set_cons_succ]
              refine wpAnyH_ready (rs := [14, 20]) (by kernel_rfl) (by simp) ?_
              refine AllReadyH.cons rfl (fun K hK => ?_) (AllReadyH.cons rfl (fun K hK => ?_) AllReadyH.nil)
              · simp only [List.getElem_toArray, List.getElem_cons_zero, List.getElem_cons_succ]
                go_simp
                refine (unveil HDo _ bWA).mono ?_
                rintro e WAC ⟨t, ch, b1', d1', b2', d2', vs', rfl, hSf, r1, r2, n1, n2, hW'', f1, f2, bn⟩
                have hr1 := fun x hx h0 => r1.blk_lt x hx h0
                have hr2 := fun x hx h0 => r2.blk_lt x hx h0
                have g1 : ∀ x, b1' = some x → wr.heap.size ≤ x.block := fun x hx => Nat.le_trans (bWA).size (f1 x hx)
                have bWAC := Below.next bWA bn
                have ya := ya.next bn
                have hSWAC : WA.heap.size ≤ WAC.heap.size := bn.size
                refine hK.out _ _ bWAC (fun hHeld => ?_)
                clear hK K bn
                refine wpAnyH_take (i := 15) (v := .tuple #[qVal t.ep t.nx t.gv (.slice b1' t.rn d1') (.slice b2' t.ln d2') vs', ansVal 0 0 0 0, .bool ch, .int .i64 0]) rfl (by kernel_rfl) (by kernel_rfl) (by kernel_rfl) (fun _ _ _ h => h) (Or.inl ⟨by rfl, fun _ _ => by go_simp⟩) hHeld ?_
                simp only [List.getElem_toArray, List.getElem_cons_zero, List.getElem_cons_succ, Act.put, List.setIfInBounds_toArray, List.set_cons_zero, List.set_cons_succ]
                refine wpAnyH_take (i := 16) (v := qVal t.ep t.nx t.gv (.slice b1' t.rn d1') (.slice b2' t.ln d2') vs') rfl (by kernel_rfl) (by kernel_rfl) (by kernel_rfl) (fun _ _ _ h => h) (Or.inl ⟨by rfl, fun _ _ => by go_simp⟩) hHeld ?_
                simp only [List.getElem_toArray, List.getElem_cons_zero, List.getElem_cons_succ, Act.put, List.setIfInBounds_toArray, List.set_cons_zero, List.set_cons_succ]
                refine wpAnyH_take (i := 17) (v := ansVal 0 0 0 0) rfl (by kernel_rfl) (by kernel_rfl) (by kernel_rfl) (fun _ _ _ h => h) (Or.inl ⟨by rfl, fun _ _ => by go_simp⟩) hHeld ?_
                simp only [List.getElem_toArray, List.getElem_cons_zero, List.getElem_cons_succ, Act.put, List.setIfInBounds_toArray, List.set_cons_zero, List.set_cons_succ]
                refine wpAnyH_take (i := 18) (v := .bool ch) rfl (by kernel_rfl) (by kernel_rfl) (by kernel_rfl) (fun _ _ _ h => h) (Or.inl ⟨by rfl, fun _ _ => by go_simp⟩) hHeld ?_
                simp only [List.getElem_toArray, List.getElem_cons_zero, List.getElem_cons_succ, Act.put, List.setIfInBounds_toArray, List.set_cons_zero, List.set_cons_succ]
                refine wpAnyH_take (i := 19) (v := .int .i64 0) rfl (by kernel_rfl) (by kernel_rfl) (by kernel_rfl) (fun _ _ _ h => h) (Or.inl ⟨by rfl, fun _ _ => by go_simp⟩) hHeld ?_
                simp only [List.getElem_toArray, List.getElem_cons_zero, List.getElem_cons_succ, Act.put, List.setIfInBounds_toArray, List.set_cons_zero, List.set_cons_succ]
                refine wpAnyH_ready (rs := [20]) (by kernel_rfl) (by simp) ?_
                refine AllReadyH.cons rfl (fun K hK => ?_) AllReadyH.nil
                · simp only [List.getElem_toArray, List.getElem_cons_zero, List.getElem_cons_succ]
                  refine ite_wanted rfl ?_
                  refine q_alloc_wp 11 rfl rfl ?_
                  intro WACQ zq bn
                  have hXq : WAC.heap.size < WACQ.heap.size := zq.lt
                  have bWACQ := Below.next bWAC bn
                  have ya := ya.next bn
                  have r1 := r1.below bn
                  have r2 := r2.below bn
                  have hSWACQ : WAC.heap.size ≤ WACQ.heap.size := bn.size
                  refine hK.out _ _ bWACQ (fun hHeld => ?_)
                  clear hK K bn
                  refine wpAnyH_ready (rs := [22]) (by kernel_rfl) (by simp) ?_
                  refine AllReadyH.cons rfl (fun K hK => ?_) AllReadyH.nil
                  simp only [List.getElem_toArray, List.getElem_cons_zero, List.getElem_cons_succ]
                  refine ite_wanted rfl ?_
                  refine q_store_wp (ra := b1') (la := b2') (ws' := vs') _ _ rfl rfl rfl zq hW'' ?_
                  intro Wq q5 t5
                  have ya5 := ya.turned t5 (by omega)
                  have r15 := t5.row r1 (fun x hx h0 => by have := f1 x hx; have := hr1 x hx h0; omega)
                  have r25 := t5.row r2 (fun x hx h0 => by have := f2 x hx; have := hr2 x hx h0; omega)
                  have b5 := t5.under bWACQ (by omega)
                  refine hK.out _ _ b5 (fun hHeld => ?_)
                  clear hK K
                  refine wpAnyH_ready (rs := [23]) (by kernel_rfl) (by simp) ?_
                  refine AllReadyH.cons rfl (fun K hK => ?_) AllReadyH.nil
                  simp only [List.getElem_toArray, List.getElem_cons_zero, List.getElem_cons_succ]
                  obtain ⟨y0, y1, y2, y3⟩ := ya5.cells
                  have yf := ya5.free
                  go_simp
                  have t6 := ans_turned Wq (W0.heap.size) 0 0 0 0
                  have ya6 := ya5.store 0 0 0 0
                  have q6 := t6.queue q5 (by omega)
                  have b6 := t6.under b5 (by omega)
                  have X6 : Bx _ (WAC.heap.size) t b1' d1' b2' d2' vs' := ⟨q6, t6.row r15 (fun x hx h0 => by have := f1 x hx; have := hr1 x hx h0; omega), t6.row r25 (fun x hx h0 => by have := f2 x hx; have := hr2 x hx h0; omega), n1, n2, hW''⟩
                  unfold ansStore at ya6 X6 b6
                  refine hK.out _ _ b6 (fun hHeld => ?_)
                  clear hK K y0 y1 y2 y3 yf q6 t6
                  generalize (((Wq.setCell ⟨W0.heap.size, 0, none⟩ (.int .i64 0)).setCell ⟨W0.heap.size, 1, none⟩ (.int .i64 0)).setCell ⟨W0.heap.size, 2, none⟩ (.int .i64 0)).setCell ⟨W0.heap.size, 3, none⟩ (.int .i64 0) = W6 at ya6 X6 b6 hHeld ⊢
                  refine wpAnyH_take (i := 24) (v := .bool ch) rfl (by kernel_rfl) (by kernel_rfl) (by kernel_rfl) (fun _ _ _ h => h) (Or.inl ⟨by rfl, fun _ _ => by go_simp⟩) hHeld ?_
                  simp only [List.getElem_toArray, List.getElem_cons_zero, List.getElem_cons_succ, Act.put, List.setIfInBounds_toArray, List.set_cons_zero, List.set_cons_succ]
                  refine wpAnyH_take (i := 25) (v := .int .i64 0) rfl (by kernel_rfl) (by kernel_rfl) (by kernel_rfl) (fun _ _ _ h => h) (Or.inl ⟨by rfl, fun _ _ => by go_simp⟩) hHeld ?_
                  simp only [List.getElem_toArray, List.getElem_cons_zero, List.getElem_cons_succ, Act.put, List.setIfInBounds_toArray, List.set_cons_zero, List.set_cons_succ]
                  refine wpAnyH_done (by kernel_rfl) ?_ _
                  go_wp2_with fail
                  go_meet
                  exact ⟨_, _, t, ch, b1', d1', b2', d2', vs', rfl, rfl, rfl, rfl, X6, ya6, b6, by omega, g1, hSf⟩
              · simp only [List.getElem_toArray, List.getElem_cons_zero, List.getElem_cons_succ]
                refine ite_wanted rfl ?_
                refine q_alloc_wp 11 rfl rfl ?_
                intro WAQ zq bn
                have hXq : WA.heap.size < WAQ.heap.size := zq.lt
                have bWAQ := Below.next bWA bn
                have ya := ya.next bn
                have hSWAQ : WA.heap.size ≤ WAQ.heap.size := bn.size
                refine hK.out _ _ bWAQ (fun hHeld => ?_)
                clear hK K bn
                refine wpAnyH_ready (rs := [14]) (by kernel_rfl) (by simp) ?_
                refine AllReadyH.cons rfl (fun K hK => ?_) AllReadyH.nil
                · simp only [List.getElem_toArray, List.getElem_cons_zero, List.getElem_cons_succ]
                  go_simp
                  refine (unveil HDo _ bWAQ).mono ?_
                  rintro e WAQC ⟨t, ch, b1', d1', b2', d2', vs', rfl, hSf, r1, r2, n1, n2, hW'', f1, f2, bn⟩
                  have hr1 := fun x hx h0 => r1.blk_lt x hx h0
                  have hr2 := fun x hx h0 => r2.blk_lt x hx h0
                  have g1 : ∀ x, b1' = some x → wr.heap.size ≤ x.block := fun x hx => Nat.le_trans (bWAQ).size (f1 x hx)
                  have bWAQC := Below.next bWAQ bn
                  have zq := zq.next bn
                  have ya := ya.next bn
                  have hSWAQC : WAQ.heap.size ≤ WAQC.heap.size := bn.size
                  refine hK.out _ _ bWAQC (fun hHeld => ?_)
                  clear hK K bn
                  refine wpAnyH_take (i := 15) (v := .tuple #[qVal t.ep t.nx t.gv (.slice b1' t.rn d1') (.slice b2' t.ln d2') vs', ansVal 0 0 0 0, .bool ch, .int .i64 0]) rfl (by kernel_rfl) (by kernel_rfl) (by kernel_rfl) (fun _ _ _ h => h) (Or.inl ⟨by rfl, fun _ _ => by go_simp⟩) hHeld ?_
                  simp only [List.getElem_toArray, List.getElem_cons_zero, List.getElem_cons_succ, Act.put, List.setIfInBounds_toArray, List.set_cons_zero, List.set_cons_succ]
                  refine wpAnyH_take (i := 16) (v := qVal t.ep t.nx t.gv (.slice b1' t.rn d1') (.slice b2' t.ln d2') vs') rfl (by kernel_rfl) (by kernel_rfl) (by kernel_rfl) (fun _ _ _ h => h) (Or.inl ⟨by rfl, fun _ _ => by go_simp⟩) hHeld ?_
                  simp only [List.getElem_toArray, List.getElem_cons_zero, List.getElem_cons_succ, Act.put, List.setIfInBounds_toArray, List.set_cons_zero, List.set_cons_succ]
                  refine wpAnyH_take (i := 17) (v := ansVal 0 0 0 0) rfl (by kernel_rfl) (by kernel_rfl) (by kernel_rfl) (fun _ _ _ h => h) (Or.inl ⟨by rfl, fun _ _ => by go_simp⟩) hHeld ?_
                  simp only [List.getElem_toArray, List.getElem_cons_zero, List.getElem_cons_succ, Act.put, List.setIfInBounds_toArray, List.set_cons_zero, List.set_cons_succ]
                  refine wpAnyH_take (i := 18) (v := .bool ch) rfl (by kernel_rfl) (by kernel_rfl) (by kernel_rfl) (fun _ _ _ h => h) (Or.inl ⟨by rfl, fun _ _ => by go_simp⟩) hHeld ?_
                  simp only [List.getElem_toArray, List.getElem_cons_zero, List.getElem_cons_succ, Act.put, List.setIfInBounds_toArray, List.set_cons_zero, List.set_cons_succ]
                  refine wpAnyH_take (i := 19) (v := .int .i64 0) rfl (by kernel_rfl) (by kernel_rfl) (by kernel_rfl) (fun _ _ _ h => h) (Or.inl ⟨by rfl, fun _ _ => by go_simp⟩) hHeld ?_
                  simp only [List.getElem_toArray, List.getElem_cons_zero, List.getElem_cons_succ, Act.put, List.setIfInBounds_toArray, List.set_cons_zero, List.set_cons_succ]
                  refine wpAnyH_ready (rs := [22]) (by kernel_rfl) (by simp) ?_
                  refine AllReadyH.cons rfl (fun K hK => ?_) AllReadyH.nil
                  simp only [List.getElem_toArray, List.getElem_cons_zero, List.getElem_cons_succ]
                  refine ite_wanted rfl ?_
                  refine q_store_wp (ra := b1') (la := b2') (ws' := vs') _ _ rfl rfl rfl zq hW'' ?_
                  intro Wq q5 t5
                  have ya5 := ya.turned t5 (by omega)
                  have r15 := t5.row r1 (fun x hx h0 => by have := f1 x hx; have := hr1 x hx h0; omega)
                  have r25 := t5.row r2 (fun x hx h0 => by have := f2 x hx; have := hr2 x hx h0; omega)
                  have b5 := t5.under bWAQC (by omega)
                  refine hK.out _ _ b5 (fun hHeld => ?_)
                  clear hK K
                  refine wpAnyH_ready (rs := [23]) (by kernel_rfl) (by simp) ?_
                  refine AllReadyH.cons rfl (fun K hK => ?_) AllReadyH.nil
                  simp only [List.getElem_toArray, List.getElem_cons_zero, List.getElem_cons_succ]
                  obtain ⟨y0, y1, y2, y3⟩ := ya5.cells
                  have yf := ya5.free
                  go_simp
                  have t6 := ans_turned Wq (W0.heap.size) 0 0 0 0
                  have ya6 := ya5.store 0 0 0 0
                  have q6 := t6.queue q5 (by omega)
                  have b6 := t6.under b5 (by omega)
                  have X6 : Bx _ (WA.heap.size) t b1' d1' b2' d2' vs' := ⟨q6, t6.row r15 (fun x hx h0 => by have := f1 x hx; have := hr1 x hx h0; omega), t6.row r25 (fun x hx h0 => by have := f2 x hx; have := hr2 x hx h0; omega), n1, n2, hW''⟩
                  unfold ansStore at ya6 X6 b6
                  refine hK.out _ _ b6 (fun hHeld => ?_)
                  clear hK K y0 y1 y2 y3 yf q6 t6
                  generalize (((Wq.setCell ⟨W0.heap.size, 0, none⟩ (.int .i64 0)).setCell ⟨W0.heap.size, 1, none⟩ (.int .i64 0)).setCell ⟨W0.heap.size, 2, none⟩ (.int .i64 0)).setCell ⟨W0.heap.size, 3, none⟩ (.int .i64 0) = W6 at ya6 X6 b6 hHeld ⊢
                  refine wpAnyH_take (i := 24) (v := .bool ch) rfl (by kernel_rfl) (by kernel_rfl) (by kernel_rfl) (fun _ _ _ h => h) (Or.inl ⟨by rfl, fun _ _ => by go_simp⟩) hHeld ?_
                  simp only [List.getElem_toArray, List.getElem_cons_zero, List.getElem_cons_succ, Act.put, List.setIfInBounds_toArray, List.set_cons_zero, List.set_cons_succ]
                  refine wpAnyH_take (i := 25) (v := .int .i64 0) rfl (by kernel_rfl) (by kernel_rfl) (by kernel_rfl) (fun _ _ _ h => h) (Or.inl ⟨by rfl, fun _ _ => by go_simp⟩) hHeld ?_
                  simp only [List.getElem_toArray, List.getElem_cons_zero, List.getElem_cons_succ, Act.put, List.setIfInBounds_toArray, List.set_cons_zero, List.set_cons_succ]
                  refine wpAnyH_done (by kernel_rfl) ?_ _
                  go_wp2_with fail
                  go_meet
                  exact ⟨_, _, t, ch, b1', d1', b2', d2', vs', rfl, rfl, rfl, rfl, X6, ya6, b6, by omega, g1, hSf⟩
            · simp only [List.getElem_toArray, List.getElem_cons_zero, List.getElem_cons_succ]
              refine ite_wanted rfl ?_
              refine q_alloc_wp 11 rfl rfl ?_
              intro WAQ zq bn
              have hXq : WA.heap.size < WAQ.heap.size := zq.lt
              have bWAQ := Below.next bWA bn
              have ya := ya.next bn
              have hSWAQ : WA.heap.size ≤ WAQ.heap.size := bn.size
              refine hK.out _ _ bWAQ (fun hHeld => ?_)
              clear hK K bn
              refine wpAnyH_ready (rs := [11]) (by kernel_rfl) (by simp) ?_
              refine AllReadyH.cons rfl (fun K hK => ?_) AllReadyH.nil
              · simp only [List.getElem_toArray, List.getElem_cons_zero, List.getElem_cons_succ]
                go_simp
                refine (P2 _).mono ?_
                rintro x w9 ⟨rfl, hw9⟩
                subst w9
                refine hK.out _ _ bWAQ (fun hHeld => ?_)
                clear hK K
                refine wpAnyH_take (i := 12) (v := .pointer (some ⟨g, off + jn * 6, none⟩)) rfl (by kernel_rfl) (by kernel_rfl) (by kernel_rfl) (fun _ _ _ h => h) (Or.inl ⟨by rfl, fun _ _ => by go_simp⟩) hHeld ?_
                simp only [List.getElem_toArray, List.getElem_cons_zero, List.getElem_cons_succ, Act.put, List.setIfInBounds_toArray, List.set_cons_zero, List.set_cons_succ]
                refine wpAnyH_take (i := 13) (v := evVal v.k v.p v.i v.b v.he v.hn) rfl (by kernel_rfl) (by kernel_rfl) (by kernel_rfl) (fun _ _ _ h => h) (Or.inl ⟨by rfl, fun w b => by have qc0 := (b.cell (p := ⟨g, off + jn * 6, none⟩) hgl).trans e0; have qc1 := (b.cell (p := ⟨g, off + jn * 6 + 1, none⟩) hgl).trans e1; have qc2 := (b.cell (p := ⟨g, off + jn * 6 + 2, none⟩) hgl).trans e2; have qc3 := (b.cell (p := ⟨g, off + jn * 6 + 3, none⟩) hgl).trans e3; have qc4 := (b.cell (p := ⟨g, off + jn * 6 + 4, none⟩) hgl).trans e4; have qc5 := (b.cell (p := ⟨g, off + jn * 6 + 5, none⟩) hgl).trans e5; go_simp⟩) hHeld ?_
                simp only [List.getElem_toArray, List.getElem_cons_zero, List.getElem_cons_succ, Act.put, List.setIfInBounds_toArray, List.set_cons_zero, List.set_cons_succ]
                refine wpAnyH_ready (rs := [14]) (by kernel_rfl) (by simp) ?_
                refine AllReadyH.cons rfl (fun K hK => ?_) AllReadyH.nil
                · simp only [List.getElem_toArray, List.getElem_cons_zero, List.getElem_cons_succ]
                  go_simp
                  refine (unveil HDo _ bWAQ).mono ?_
                  rintro e WAQC ⟨t, ch, b1', d1', b2', d2', vs', rfl, hSf, r1, r2, n1, n2, hW'', f1, f2, bn⟩
                  have hr1 := fun x hx h0 => r1.blk_lt x hx h0
                  have hr2 := fun x hx h0 => r2.blk_lt x hx h0
                  have g1 : ∀ x, b1' = some x → wr.heap.size ≤ x.block := fun x hx => Nat.le_trans (bWAQ).size (f1 x hx)
                  have bWAQC := Below.next bWAQ bn
                  have zq := zq.next bn
                  have ya := ya.next bn
                  have hSWAQC : WAQ.heap.size ≤ WAQC.heap.size := bn.size
                  refine hK.out _ _ bWAQC (fun hHeld => ?_)
                  clear hK K bn
                  refine wpAnyH_take (i := 15) (v := .tuple #[qVal t.ep t.nx t.gv (.slice b1' t.rn d1') (.slice b2' t.ln d2') vs', ansVal 0 0 0 0, .bool ch, .int .i64 0]) rfl (by kernel_rfl) (by kernel_rfl) (by kernel_rfl) (fun _ _ _ h => h) (Or.inl ⟨by rfl, fun _ _ => by go_simp⟩) hHeld ?_
                  simp only [List.getElem_toArray, List.getElem_cons_zero, List.getElem_cons_succ, Act.put, List.setIfInBounds_toArray, List.set_cons_zero, List.set_cons_succ]
                  refine wpAnyH_take (i := 16) (v := qVal t.ep t.nx t.gv (.slice b1' t.rn d1') (.slice b2' t.ln d2') vs') rfl (by kernel_rfl) (by kernel_rfl) (by kernel_rfl) (fun _ _ _ h => h) (Or.inl ⟨by rfl, fun _ _ => by go_simp⟩) hHeld ?_
                  simp only [List.getElem_toArray, List.getElem_cons_zero, List.getElem_cons_succ, Act.put, List.setIfInBounds_toArray, List.set_cons_zero, List.set_cons_succ]
                  refine wpAnyH_take (i := 17) (v := ansVal 0 0 0 0) rfl (by kernel_rfl) (by kernel_rfl) (by kernel_rfl) (fun _ _ _ h => h) (Or.inl ⟨by rfl, fun _ _ => by go_simp⟩) hHeld ?_
                  simp only [List.getElem_toArray, List.getElem_cons_zero, List.getElem_cons_succ, Act.put, List.setIfInBounds_toArray, List.set_cons_zero, List.set_cons_succ]
                  refine wpAnyH_take (i := 18) (v := .bool ch) rfl (by kernel_rfl) (by kernel_rfl) (by kernel_rfl) (fun _ _ _ h => h) (Or.inl ⟨by rfl, fun _ _ => by go_simp⟩) hHeld ?_
                  simp only [List.getElem_toArray, List.getElem_cons_zero, List.getElem_cons_succ, Act.put, List.setIfInBounds_toArray, List.set_cons_zero, List.set_cons_succ]
                  refine wpAnyH_take (i := 19) (v := .int .i64 0) rfl (by kernel_rfl) (by kernel_rfl) (by kernel_rfl) (fun _ _ _ h => h) (Or.inl ⟨by rfl, fun _ _ => by go_simp⟩) hHeld ?_
                  simp only [List.getElem_toArray, List.getElem_cons_zero, List.getElem_cons_succ, Act.put, List.setIfInBounds_toArray, List.set_cons_zero, List.set_cons_succ]
                  refine wpAnyH_ready (rs := [22]) (by kernel_rfl) (by simp) ?_
                  refine AllReadyH.cons rfl (fun K hK => ?_) AllReadyH.nil
                  simp only [List.getElem_toArray, List.getElem_cons_zero, List.getElem_cons_succ]
                  refine ite_wanted rfl ?_
                  refine q_store_wp (ra := b1') (la := b2') (ws' := vs') _ _ rfl rfl rfl zq hW'' ?_
                  intro Wq q5 t5
                  have ya5 := ya.turned t5 (by omega)
                  have r15 := t5.row r1 (fun x hx h0 => by have := f1 x hx; have := hr1 x hx h0; omega)
                  have r25 := t5.row r2 (fun x hx h0 => by have := f2 x hx; have := hr2 x hx h0; omega)
                  have b5 := t5.under bWAQC (by omega)
                  refine hK.out _ _ b5 (fun hHeld => ?_)
                  clear hK K
                  refine wpAnyH_ready (rs := [23]) (by kernel_rfl) (by simp) ?_
                  refine AllReadyH.cons rfl (fun K hK => ?_) AllReadyH.nil
                  simp only [List.getElem_toArray, List.getElem_cons_zero, List.getElem_cons_succ]
                  obtain ⟨y0, y1, y2, y3⟩ := ya5.cells
                  have yf := ya5.free
                  go_simp
                  have t6 := ans_turned Wq (W0.heap.size) 0 0 0 0
                  have ya6 := ya5.store 0 0 0 0
                  have q6 := t6.queue q5 (by omega)
                  have b6 := t6.under b5 (by omega)
                  have X6 : Bx _ (WA.heap.size) t b1' d1' b2' d2' vs' := ⟨q6, t6.row r15 (fun x hx h0 => by have := f1 x hx; have := hr1 x hx h0; omega), t6.row r25 (fun x hx h0 => by have := f2 x hx; have := hr2 x hx h0; omega), n1, n2, hW''⟩
                  unfold ansStore at ya6 X6 b6
                  refine hK.out _ _ b6 (fun hHeld => ?_)
                  clear hK K y0 y1 y2 y3 yf q6 t6
                  generalize (((Wq.setCell ⟨W0.heap.size, 0, none⟩ (.int .i64 0)).setCell ⟨W0.heap.size, 1, none⟩ (.int .i64 0)).setCell ⟨W0.heap.size, 2, none⟩ (.int .i64 0)).setCell ⟨W0.heap.size, 3, none⟩ (.int .i64 0) = W6 at ya6 X6 b6 hHeld ⊢
                  refine wpAnyH_take (i := 24) (v := .bool ch) rfl (by kernel_rfl) (by kernel_rfl) (by kernel_rfl) (fun _ _ _ h => h) (Or.inl ⟨by rfl, fun _ _ => by go_simp⟩) hHeld ?_
                  simp only [List.getElem_toArray, List.getElem_cons_zero, List.getElem_cons_succ, Act.put, List.setIfInBounds_toArray, List.set_cons_zero, List.set_cons_succ]
                  refine wpAnyH_take (i := 25) (v := .int .i64 0) rfl (by kernel_rfl) (by kernel_rfl) (by kernel_rfl) (fun _ _ _ h => h) (Or.inl ⟨by rfl, fun _ _ => by go_simp⟩) hHeld ?_
                  simp only [List.getElem_toArray, List.getElem_cons_zero, List.getElem_cons_succ, Act.put, List.setIfInBounds_toArray, List.set_cons_zero, List.set_cons_succ]
                  refine wpAnyH_done (by kernel_rfl) ?_ _
                  go_wp2_with fail
                  go_meet
                  exact ⟨_, _, t, ch, b1', d1', b2', d2', vs', rfl, rfl, rfl, rfl, X6, ya6, b6, by omega, g1, hSf⟩
        case rest =>
          as_aux_lemma =>
          obtain ⟨XQ, XA, t, ch, b1, d1, b2, d2, vs, rfl, rfl, rfl, rfl, BQ, ya, bel, hXQ, g1, ids', hSf'⟩ := hcut
          obtain ⟨W4, hW4⟩ : ∃ W4, W4 = wc := ⟨_, rfl⟩
          subst hW4
          have HC4 := veil ((unveil HC).next bel)
          have hXl := (unveil HC).cb.lt
          have hBl := (unveil HC).q.q.lt
          have HBQ := veil BQ
          have HF' := veil hSf'
          have HG1 := veil g1
          obtain ⟨y0', y1', y2', y3'⟩ := ya.cells
          clear ya bel BQ hSf' g1 HC HDo P2 e0 e1 e2 e3 e4 e5 hgl
          go_upto_region 30 with fail
          have hq := (unveil HBQ).q
          have hqb := (unveil HC4).q.q
          have hWv := (unveil HBQ).wins
          go_upto_region 8 with (first
            | (refine q_loads _ rfl rfl rfl hq ?_)
            | (refine q_store (ra := b1) (la := b2) (ws' := vs) _ _ rfl rfl rfl rfl hqb hWv ?_; intro W6 q6 t6))
          have HS8 : Hid (SfR w W6 X B sent) := veil ⟨es, _, c, t, b1, d1, b2, d2, vs, (unveil HC4).queue t6 q6 (unveil HBQ).r1 (unveil HBQ).r2 (unveil HBQ).n1 (unveil HBQ).n2 hWv (unveil HF').ln (fun x hx _ => by have := unveil HG1 x hx; omega), unveil HK, ids', unveil HF'⟩
          clear y0' y1' y2' y3' hq hqb hWv q6 t6
          go_wp2
          go_roundw
          case rel => exact ⟨k + 1, sent, by omega, by omega, by omega, by go_num, rfl, HS8⟩
          case measure => simp [intOf]; omega
    · -- an answer came
      by_cases hes0 : es.length = 0
      · obtain ⟨c0, c1', c2', c3, c4, c5, c6⟩ := (unveil HC).cb.cells
        have he0 : ((es.length : Int) == 0) = true := beq_iff_eq.2 (by omega)
        have HS4 : Hid (SfR w wr X B sent) := veil ⟨es, a, c, s, a1, c1, a2, c2, ws, unveil HC, unveil HK, ids, unveil HF⟩
        go_wp2_with (go_at_call 27; refine (P1 _).mono ?_; rintro e w2 ⟨rfl, hw2⟩; subst w2; clear P1 x0)
        go_roundw
        case rel => exact ⟨k + 1, sent, by omega, by omega, by omega, by go_num, rfl, HS4⟩
        case measure => simp [intOf]; omega
      · obtain ⟨c0, c1', c2', c3, c4, c5, c6⟩ := (unveil HC).cb.cells
        have he0 : ((es.length : Int) == 0) = false := beq_eq_false_iff_ne.2 (by omega)
        go_upto_region 11 with (go_at_call 27; refine (P1 _).mono ?_; rintro e w2 ⟨rfl, hw2⟩; subst w2; clear P1 x0)
        clear c0 c1' c2' c3 c4 c5 c6 he0
        have P2 : ∀ w, Calls Try.prog 27 #[.int .i64 y1, .int .i64 es.length] w fun e w' => e = .returned (.int .i64 (pickedOf y1 es.length)) ∧ w' = w := fun w => (picked_any y1 es.length w wf1 (by omega) (by have : es.length ≤ 8 := hes; omega)).mono fun _ _ h => ⟨h.1, h.2.symm⟩
        have hj := pickedOf_range y1 es.length (by omega)
        generalize pickedOf y1 es.length = j at P2 hj
        obtain ⟨jn, rfl⟩ : ∃ jn : Nat, j = jn := ⟨j.toNat, by omega⟩
        have hjn : jn < es.length := by omega
        have hrr : RowK .i64 wr a (6 * es.length) (evFlat es) := (unveil HC).i.row
        obtain ⟨g, off, rfl⟩ := hrr.form (show 0 < 6 * es.length by omega)
        obtain ⟨e0, e1, e2, e3, e4, e5⟩ := row_event hrr jn hjn
        have hgl := hrr.lt (show 0 < 6 * es.length by omega)
        obtain ⟨v, hv⟩ : ∃ v, v = es[jn] := ⟨_, rfl⟩
        have hvs : v.Ok ∧ v.k = 1 ∧ v.p = 1 ∧ (sent : Int) - 8 ≤ v.i ∧ v.i < (sent : Int) := by rw [hv]; exact okW_mem (unveil HK).w es[jn] (List.getElem_mem hjn)
        rw [← hv] at e0 e1 e2 e3 e4 e5
        have HV := veil hv
        have HVS := veil hvs
        have hi0 : 0 ≤ v.i ∧ v.i ≤ 1073741824 := by rcases Ev.cases hvs.1 with cc | cc | cc | cc <;> omega
        clear hv hvs hj hrr
        go_wp2_with fail
        go_cut [15] (fun pE wx => ∃ XE : Nat, pE = .pointer (some ⟨XE, 0, none⟩) ∧ eBlock wx XE v ∧ Below wr.heap.size wr wx ∧ wr.heap.size ≤ XE)
        case first =>
          as_aux_lemma =>
          refine wp_region_held_drew (S := Below wr.heap.size wr) (by kernel_rfl) (drew_below wr) (fun hHeld => ?_)
          refine wpAnyH_take (i := 0) (v := .pointer (some ⟨X, 2, none⟩)) rfl (by kernel_rfl) (by kernel_rfl) (by kernel_rfl) (fun _ _ _ h => h) (Or.inl ⟨by rfl, fun _ _ => by go_simp⟩) hHeld ?_
          simp only [List.getElem_toArray, List.getElem_cons_zero, Act.put, List.setIfInBounds_toArray, List.set_cons_zero, List.set_cons_succ]
          refine wpAnyH_take (i := 1) (v := .slice (some ⟨g, off, none⟩) es.length c) rfl (by kernel_rfl) (by kernel_rfl) (by kernel_rfl) (fun _ _ _ h => h) (Or.inl ⟨by rfl, fun w b => by obtain ⟨q0, q1, q2, q3, q4, q5, q6⟩ := ((unveil HC).next b).cb.cells; go_simp⟩) hHeld ?_
          simp only [List.getElem_toArray, List.getElem_cons_zero, List.getElem_cons_succ, Act.put, List.setIfInBounds_toArray, List.set_cons_zero, List.set_cons_succ]
          refine wpAnyH_take (i := 2) (v := .slice (some ⟨bb, off0, none⟩) len cap) rfl (by kernel_rfl) (by kernel_rfl) (by kernel_rfl) (fun _ _ _ h => h) (Or.inl ⟨by rfl, fun _ _ => by go_simp⟩) hHeld ?_
          simp only [List.getElem_toArray, List.getElem_cons_zero, List.getElem_cons_succ, Act.put, List.setIfInBounds_toArray, List.set_cons_zero, List.set_cons_succ]
          refine wpAnyH_take (i := 3) (v := .int .i64 k) rfl (by kernel_rfl) (by kernel_rfl) (by kernel_rfl) (fun _ _ _ h => h) (Or.inl ⟨by rfl, fun _ _ => by go_simp⟩) hHeld ?_
          simp only [List.getElem_toArray, List.getElem_cons_zero, List.getElem_cons_succ, Act.put, List.setIfInBounds_toArray, List.set_cons_zero, List.set_cons_succ]
          refine wpAnyH_take (i := 4) (v := .pointer (some ⟨bb, off0 + k * 2, none⟩)) rfl (by kernel_rfl) (by kernel_rfl) (by kernel_rfl) (fun _ _ _ h => h) (Or.inl ⟨by rfl, fun _ _ => by go_simp⟩) hHeld ?_
          simp only [List.getElem_toArray, List.getElem_cons_zero, List.getElem_cons_succ, Act.put, List.setIfInBounds_toArray, List.set_cons_zero, List.set_cons_succ]
          refine wpAnyH_take (i := 5) (v := .pointer (some ⟨bb, off0 + k * 2 + 1, none⟩)) rfl (by kernel_rfl) (by kernel_rfl) (by kernel_rfl) (fun _ _ _ h => h) (Or.inl ⟨by rfl, fun _ _ => by go_simp⟩) hHeld ?_
          simp only [List.getElem_toArray, List.getElem_cons_zero, List.getElem_cons_succ, Act.put, List.setIfInBounds_toArray, List.set_cons_zero, List.set_cons_succ]
          refine wpAnyH_take (i := 6) (v := .int .i64 y1) rfl (by kernel_rfl) (by kernel_rfl) (by kernel_rfl) (fun _ _ _ h => h) (Or.inl ⟨by rfl, fun w b => by have qc := (b.cell (p := ⟨bb, off0 + k * 2 + 1, none⟩) hbl).trans x1; go_simp⟩) hHeld ?_
          simp only [List.getElem_toArray, List.getElem_cons_zero, List.getElem_cons_succ, Act.put, List.setIfInBounds_toArray, List.set_cons_zero, List.set_cons_succ]
          refine wpAnyH_take (i := 7) (v := .pointer (some ⟨X, 2, none⟩)) rfl (by kernel_rfl) (by kernel_rfl) (by kernel_rfl) (fun _ _ _ h => h) (Or.inl ⟨by rfl, fun _ _ => by go_simp⟩) hHeld ?_
          simp only [List.getElem_toArray, List.getElem_cons_zero, List.getElem_cons_succ, Act.put, List.setIfInBounds_toArray, List.set_cons_zero, List.set_cons_succ]
          refine wpAnyH_take (i := 8) (v := .slice (some ⟨g, off, none⟩) es.length c) rfl (by kernel_rfl) (by kernel_rfl) (by kernel_rfl) (fun _ _ _ h => h) (Or.inl ⟨by rfl, fun w b => by obtain ⟨q0, q1, q2, q3, q4, q5, q6⟩ := ((unveil HC).next b).cb.cells; go_simp⟩) hHeld ?_
          simp only [List.getElem_toArray, List.getElem_cons_zero, List.getElem_cons_succ, Act.put, List.setIfInBounds_toArray, List.set_cons_zero, List.set_cons_succ]
          refine wpAnyH_take (i := 9) (v := .int .i64 es.length) rfl (by kernel_rfl) (by kernel_rfl) (by kernel_rfl) (fun _ _ _ h => h) (Or.inl ⟨by rfl, fun _ _ => by go_simp⟩) hHeld ?_
          simp only [List.getElem_toArray, List.getElem_cons_zero, List.getElem_cons_succ, Act.put, List.setIfInBounds_toArray, List.set_cons_zero, List.set_cons_succ]
          have bW0 := drew_below wr
          obtain ⟨W0, hW0⟩ : ∃ W0, W0 = wr.drew := ⟨_, rfl⟩
          rw [← hW0] at bW0 hHeld ⊢
          clear hW0
          refine wpAnyH_ready (rs := [10, 13]) (by kernel_rfl) (by simp) ?_
          refine AllReadyH.cons rfl (fun K hK => ?_) (AllReadyH.cons rfl (fun K hK => ?_) AllReadyH.nil)
          · simp only [List.getElem_toArray, List.getElem_cons_zero, List.getElem_cons_succ]
            go_simp
            refine (P2 _).mono ?_
            rintro x w9 ⟨rfl, hw9⟩
            subst w9
            refine hK.out _ _ bW0 (fun hHeld => ?_)
            clear hK K
            refine wpAnyH_take (i := 11) (v := .pointer (some ⟨g, off + jn * 6, none⟩)) rfl (by kernel_rfl) (by kernel_rfl) (by kernel_rfl) (fun _ _ _ h => h) (Or.inl ⟨by rfl, fun _ _ => by go_simp⟩) hHeld ?_
            simp only [List.getElem_toArray, List.getElem_cons_zero, List.getElem_cons_succ, Act.put, List.setIfInBounds_toArray, List.set_cons_zero, List.set_cons_succ]
            refine wpAnyH_take (i := 12) (v := evVal v.k v.p v.i v.b v.he v.hn) rfl (by kernel_rfl) (by kernel_rfl) (by kernel_rfl) (fun _ _ _ h => h) (Or.inl ⟨by rfl, fun w b => by have qc0 := (b.cell (p := ⟨g, off + jn * 6, none⟩) hgl).trans e0; have qc1 := (b.cell (p := ⟨g, off + jn * 6 + 1, none⟩) hgl).trans e1; have qc2 := (b.cell (p := ⟨g, off + jn * 6 + 2, none⟩) hgl).trans e2; have qc3 := (b.cell (p := ⟨g, off + jn * 6 + 3, none⟩) hgl).trans e3; have qc4 := (b.cell (p := ⟨g, off + jn * 6 + 4, none⟩) hgl).trans e4; have qc5 := (b.cell (p := ⟨g, off + jn * 6 + 5, none⟩) hgl).trans e5; go_simp⟩) hHeld ?_
            simp only [List.getElem_toArray, List.getElem_cons_zero, List.getElem_cons_succ, Act.put, List.setIfInBounds_toArray, List.set_cons_zero, List.set_cons_succ]
            refine wpAnyH_ready (rs := [13]) (by kernel_rfl) (by simp) ?_
            refine AllReadyH.cons rfl (fun K hK => ?_) AllReadyH.nil
            · simp only [List.getElem_toArray, List.getElem_cons_zero, List.getElem_cons_succ]
              go_simp
              obtain ⟨W0A, hW0A, zA, bA⟩ := ze_made W0
              rw [← hW0A]
              clear hW0A
              obtain ⟨XA, hX⟩ : ∃ X, X = W0.heap.size := ⟨_, rfl⟩
              have upA : wr.heap.size ≤ XA := by rw [hX]; exact bW0.size
              rw [← hX] at zA ⊢
              clear hX
              have bW0A := Below.next bW0 bA
              refine hK.out _ _ bW0A (fun hHeld => ?_)
              clear hK K bA
              refine wpAnyH_ready (rs := [14]) (by kernel_rfl) (by simp) ?_
              refine AllReadyH.cons rfl (fun K hK => ?_) AllReadyH.nil
              simp only [List.getElem_toArray, List.getElem_cons_zero, List.getElem_cons_succ]
              obtain ⟨z0, z1, z2, z3, z4, z5⟩ := zA.cells
              have zf := zA.free
              go_simp
              obtain ⟨We, hWe, dE, bE, tE⟩ := e_stored zA bW0A upA v.k v.p v.i v.b v.he v.hn
              rw [← hWe]
              refine hK.out _ _ bE (fun hHeld => ?_)
              clear hK K
              refine wpAnyH_done (by kernel_rfl) ?_ _
              go_wp2_with fail
              go_meet
              exact ⟨XA, rfl, dE, bE, upA⟩
          · simp only [List.getElem_toArray, List.getElem_cons_zero, List.getElem_cons_succ]
            go_simp
            obtain ⟨W0A, hW0A, zA, bA⟩ := ze_made W0
            rw [← hW0A]
            clear hW0A
            obtain ⟨XA, hX⟩ : ∃ X, X = W0.heap.size := ⟨_, rfl⟩
            have upA : wr.heap.size ≤ XA := by rw [hX]; exact bW0.size
            rw [← hX] at zA ⊢
            clear hX
            have bW0A := Below.next bW0 bA
            refine hK.out _ _ bW0A (fun hHeld => ?_)
            clear hK K bA
            refine wpAnyH_ready (rs := [10]) (by kernel_rfl) (by simp) ?_
            refine AllReadyH.cons rfl (fun K hK => ?_) AllReadyH.nil
            · simp only [List.getElem_toArray, List.getElem_cons_zero, List.getElem_cons_succ]
              go_simp
              refine (P2 _).mono ?_
              rintro x w9 ⟨rfl, hw9⟩
              subst w9
              refine hK.out _ _ bW0A (fun hHeld => ?_)
              clear hK K
              refine wpAnyH_take (i := 11) (v := .pointer (some ⟨g, off + jn * 6, none⟩)) rfl (by kernel_rfl) (by kernel_rfl) (by kernel_rfl) (fun _ _ _ h => h) (Or.inl ⟨by rfl, fun _ _ => by go_simp⟩) hHeld ?_
              simp only [List.getElem_toArray, List.getElem_cons_zero, List.getElem_cons_succ, Act.put, List.setIfInBounds_toArray, List.set_cons_zero, List.set_cons_succ]
              refine wpAnyH_take (i := 12) (v := evVal v.k v.p v.i v.b v.he v.hn) rfl (by kernel_rfl) (by kernel_rfl) (by kernel_rfl) (fun _ _ _ h => h) (Or.inl ⟨by rfl, fun w b => by have qc0 := (b.cell (p := ⟨g, off + jn * 6, none⟩) hgl).trans e0; have qc1 := (b.cell (p := ⟨g, off + jn * 6 + 1, none⟩) hgl).trans e1; have qc2 := (b.cell (p := ⟨g, off + jn * 6 + 2, none⟩) hgl).trans e2; have qc3 := (b.cell (p := ⟨g, off + jn * 6 + 3, none⟩) hgl).trans e3; have qc4 := (b.cell (p := ⟨g, off + jn * 6 + 4, none⟩) hgl).trans e4; have qc5 := (b.cell (p := ⟨g, off + jn * 6 + 5, none⟩) hgl).trans e5; go_simp⟩) hHeld ?_
              simp only [List.getElem_toArray, List.getElem_cons_zero, List.getElem_cons_succ, Act.put, List.setIfInBounds_toArray, List.set_cons_zero, List.set_cons_succ]
              refine wpAnyH_ready (rs := [14]) (by kernel_rfl) (by simp) ?_
              refine AllReadyH.cons rfl (fun K hK => ?_) AllReadyH.nil
              simp only [List.getElem_toArray, List.getElem_cons_zero, List.getElem_cons_succ]
              obtain ⟨z0, z1, z2, z3, z4, z5⟩ := zA.cells
              have zf := zA.free
              go_simp
              obtain ⟨We, hWe, dE, bE, tE⟩ := e_stored zA bW0A upA v.k v.p v.i v.b v.he v.hn
              rw [← hWe]
              refine hK.out _ _ bE (fun hHeld => ?_)
              clear hK K
              refine wpAnyH_done (by kernel_rfl) ?_ _
              go_wp2_with fail
              go_meet
              exact ⟨XA, rfl, dE, bE, upA⟩
        case rest =>
          as_aux_lemma =>
          obtain ⟨XE, rfl, eb, bel, hXE⟩ := hcut
          obtain ⟨W4, hW4⟩ : ∃ W4, W4 = wc := ⟨_, rfl⟩
          subst hW4
          have HC4 := veil ((unveil HC).next bel)
          have HEB := veil eb
          have hXl := (unveil HC).cb.lt
          have hBl := (unveil HC).q.q.lt
          clear bel HC P2 e0 e1 e2 e3 e4 e5 hgl
          obtain ⟨k0, k1, k2, k3, k4, k5, k6, k7, k8⟩ := (unveil HC4).q.q.nine (unveil HC4).q.wins 1 (by omega)
          have k0' : W4.cell? ⟨B, 14, none⟩ = some (.int .i64 (s.wt 1)) := k0
          have k1' : W4.cell? ⟨B, 15, none⟩ = some (.bool (s.wz 1 0)) := k1
          have k2' : W4.cell? ⟨B, 16, none⟩ = some (.bool (s.wz 1 1)) := k2
          have k3' : W4.cell? ⟨B, 17, none⟩ = some (.bool (s.wz 1 2)) := k3
          have k4' : W4.cell? ⟨B, 18, none⟩ = some (.bool (s.wz 1 3)) := k4
          have k5' : W4.cell? ⟨B, 19, none⟩ = some (.bool (s.wz 1 4)) := k5
          have k6' : W4.cell? ⟨B, 20, none⟩ = some (.bool (s.wz 1 5)) := k6
          have k7' : W4.cell? ⟨B, 21, none⟩ = some (.bool (s.wz 1 6)) := k7
          have k8' : W4.cell? ⟨B, 22, none⟩ = some (.bool (s.wz 1 7)) := k8
          clear k0 k1 k2 k3 k4 k5 k6 k7 k8
          obtain ⟨v0, v1, v2, v3, v4, v5⟩ := eb.cells
          have HSn := seen_yes (s.wt 1) v.i (s.wz 1) W4 (unveil HF).win.ok hi0.1 hi0.2 (by have := (unveil HF).top; have := (unveil HVS).2.2.2.1; omega)
          generalize inWin (s.wt 1) (s.wz 1) v.i = sb at HSn
          clear eb
          go_upto_region 13 with (go_at_call 29; refine HSn.mono ?_; rintro e W5 ⟨rfl, d5⟩; clear HSn k0' k1' k2' k3' k4' k5' k6' k7' k8' v0 v1 v2 v3 v4 v5)
          have HC5 := veil ((unveil HC4).next d5)
          have HEB5 := veil ((unveil HEB).next d5)
          clear d5 HC4 HEB
          cases sb with
          | false =>
            have HS4 : Hid (SfR w W5 X B sent) := veil ⟨es, _, c, s, a1, c1, a2, c2, ws, unveil HC5, unveil HK, ids, unveil HF⟩
            go_wp2
            go_roundw
            case rel => exact ⟨k + 1, sent, by omega, by omega, by omega, by go_num, rfl, HS4⟩
            case measure => simp [intOf]; omega
          | true =>
            obtain ⟨es', hes'⟩ : ∃ es' : List Ev, es' = es.eraseIdx jn := ⟨_, rfl⟩
            have HDn : Calls Try.prog 21 #[cVal 1 sent (some ⟨g, off, none⟩) es.length c (fun _ => -1), .int .i64 v.i] W5 fun e w' => ∃ a' c', e = .returned (.tuple #[cVal 1 sent a' es'.length c' (fun _ => -1), .int .i64 0]) ∧ CIn w' ⟨1, sent, es', fun _ => -1⟩ a' c' ∧ (∀ x, a' = some x → W5.heap.size ≤ x.block) ∧ Below W5.heap.size W5 w' := by
              have := done_yes (clOf sent es) (some ⟨g, off, none⟩) c W5 (unveil HC5).i (unveil HK) v.i jn hjn (by rw [unveil HV])
              rw [hes', List.length_eraseIdx_of_lt hjn]
              exact this
            have HOK' : Hid (Cl.Ok (clOf sent es')) := veil (by rw [hes']; exact Cl.Ok.done (unveil HK))
            clear hes'
            obtain ⟨c0, c1', c2', c3, c4, c5, c6⟩ := (unveil HC5).cb.cells
            obtain ⟨v0, v1, v2, v3, v4, v5⟩ := (unveil HEB5).cells
            go_upto_region 15 with (go_at_call 21; refine HDn.mono ?_; rintro e W6 ⟨a6, k6, rfl, i6, u6, d6⟩; clear HDn c0 c1' c2' c3 c4 c5 c6 v0 v1 v2 v3 v4 v5; have HI6 := veil (And.intro i6 (And.intro u6 d6)); clear i6 u6 d6)
            obtain ⟨W7, hW7, C7, gb7, i7, hG7⟩ : ∃ W7, W7 = W6.alloc (.cells (cCells 1 sent a6 es'.length k6 (fun _ => -1)) 25) ∧ Cs w W7 X B (clOf sent es) (some ⟨g, off, none⟩) c s a1 c1 a2 c2 ws ∧ cBlock W7 W6.heap.size 1 sent a6 es'.length k6 (fun _ => -1) ∧ CIn W7 ⟨1, sent, es', fun _ => -1⟩ a6 k6 ∧ X < W6.heap.size := ⟨_, rfl, ((unveil HC5).next (unveil HI6).2.2).next (below1 _ _), cBlock.new _ _ _ _ _ _ _, (unveil HI6).1.next (below1 _ _), ((unveil HC5).next (unveil HI6).2.2).cb.lt⟩
            rw [← hW7]
            clear hW7
            have HU6 : Hid (∀ x, a6 = some x → 0 < es'.length → x.block ≠ X ∧ x.block ≠ B) := veil fun x hx _ => by
              have h1 := (unveil HI6).2.1 x hx
              have h2 := (unveil HC5).cb.lt
              have h3 := (unveil HC5).q.q.lt
              omega
            generalize W6.heap.size = G at *
            obtain ⟨g0, g1, g2, g3, g4, g5, g6⟩ := gb7.cells
            obtain ⟨c0, c1', c2', c3, c4, c5, c6⟩ := C7.cb.cells
            have cf := C7.cb.free
            have HC7 := veil (And.intro C7 i7)
            clear C7 gb7 i7 HI6 HC5 HEB5
            have hXG : X ≠ G := by omega
            have hGX : G ≠ X := by omega
            go_upto_region 8 with fail
            obtain ⟨W8, hW8, cb8, B8, tn8⟩ := c_stored (unveil HC7).1.cb (unveil HC7).1.bel (unveil HC7).1.upX 1 sent a6 es'.length k6 (fun _ => -1)
            rw [← hW8]
            have HS8 : Hid (SfR w W8 X B sent) := veil ⟨es', a6, k6, s, a1, c1, a2, c2, ws, (unveil HC7).1.client (D := clOf sent es') tn8 cb8 (unveil HC7).2 (unveil HU6), unveil HOK', ids, unveil HF⟩
            clear hW8 g0 g1 g2 g3 g4 g5 g6 c0 c1' c2' c3 c4 c5 c6 cf cb8 B8 tn8
            go_wp2
            go_roundw
            case rel => exact ⟨k + 1, sent, by omega, by omega, by omega, by go_num, rfl, HS8⟩
            case measure => simp [intOf]; omega
end Go.Proofs.Ytjolamdlclcpcaa
