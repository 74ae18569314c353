/- The walk of PlanLess. -/
import Derived.Test.YtmkbidglfnpgjaaPnV
namespace Go.Proofs.Ytmkbidglfnpgjaa
open Go.RowKit

/-- which queues have gone, in memory. -/
def gone4 (w : World) (g : Nat) (gone : Int → Bool) : Prop := w.heap[g]? = some (.cells #[.bool (gone 0), .bool (gone 1), .bool (gone 2), .bool (gone 3)] 37 (0, 0))
theorem gone4.at {w : World} {g : Nat} {gone : Int → Bool} (h : gone4 w g gone) (q : Nat) (hq : q < 4) : w.cell? ⟨g, q, none⟩ = some (.bool (gone q)) ∧ w.frozen? ⟨g, q, none⟩ = false := by
  unfold gone4 at h
  refine ⟨?_, by simp [World.frozen?, h]⟩
  match q, hq with
  | 0, _ => simp [World.cell?, h]
  | 1, _ => simp [World.cell?, h]
  | 2, _ => simp [World.cell?, h]
  | 3, _ => simp [World.cell?, h]
theorem gone4.lt {w : World} {g : Nat} {gone : Int → Bool} (h : gone4 w g gone) : g < w.heap.size := by
  unfold gone4 at h
  rcases Nat.lt_or_ge g w.heap.size with h' | h'
  · exact h'
  · simp [Array.getElem?_eq_none h'] at h
theorem gone4.set {w : World} {g : Nat} {gone : Int → Bool} (h : gone4 w g gone) (q : Nat) (hq : q < 4) : gone4 (w.setCell ⟨g, q, none⟩ (.bool true)) g (fun z => gone z || z == q) := by
  unfold gone4 at h ⊢
  rw [heap_setP h]
  match q, hq with
  | 0, _ => simp
  | 1, _ => simp
  | 2, _ => simp
  | 3, _ => simp
theorem gone4.next {w w' : World} {g : Nat} {gone : Int → Bool} (h : gone4 w g gone) (hb : Below w.heap.size w w') : gone4 w' g gone := by
  have := h.lt
  unfold gone4 at h ⊢; rw [← h]; exact hb.block g this
/-- a plan is carried out. -/
theorem less_step {M m k : Nat} {L rest : List Ld} {gone : Int → Bool} {ws : List Int} {made PS : List Pl} (N : Now M L gone ws rest) (hq : ∀ j : Nat, j < L.length → (ldAt L j).q = j) (h : made ++ plansF (m - k) ws rest = PS) (hk : made.length = k) (hlt : k < PS.length) :
    ∃ b : Nat, b < L.length ∧ plAt PS k = ⟨b, busyOf ws, idleOf ws⟩ ∧ gone b = false ∧ (ldAt L b).n = busyOf ws ∧ busyOf ws ≠ idleOf ws ∧ 0 < (ldAt L b).w ∧
      ∃ ws' rest', Now M (setNode L b (idleOf ws)) (fun z => gone z || z == (b : Int)) ws' rest' ∧ (made ++ [⟨b, busyOf ws, idleOf ws⟩]) ++ plansF (m - (k + 1)) ws' rest' = PS ∧ gapOf ws' ≤ gapOf ws := by
  have hlen : PS.length = k + (plansF (m - k) ws rest).length := by rw [← h, List.length_append, hk]
  obtain ⟨m', hm'⟩ : ∃ m', m - k = m' + 1 := by
    cases hmk : m - k with
    | zero => rw [hmk] at hlen; simp [plansF] at hlen; omega
    | succ m' => exact ⟨m', rfl⟩
  rcases goes_is ws rest with e | ⟨j, e, hj, hc⟩
  · rw [plansF_stop e] at hlen; simp at hlen; omega
  · obtain ⟨b, hb, eb, hg⟩ := N.restMem j hj
    have hqb : (ldAt rest j).q = (b : Int) := by rw [← eb]; exact hq b hb
    obtain ⟨e1, e2⟩ := N.ends
    have hft : busyOf ws ≠ idleOf ws := by
      intro he
      have h3 := hc.2.1
      have h4 := hc.2.2
      unfold gapOf at h3
      rw [he] at h3
      omega
    have hgo := N.goes hj hb eb hc.1 e1 e2 hft
    rw [hqb] at hg hgo
    rw [hm', plansF_go e, hqb] at h
    refine ⟨b, hb, ?_, hg, by rw [eb]; exact hc.1, hft, by rw [eb]; exact hc.2.2, shift ws (busyOf ws) (idleOf ws) (ldAt rest j).w, rest.eraseIdx j, ?_, ?_, ?_⟩
    · rw [← h, plAt, List.getD_eq_getElem?_getD, List.getElem?_append_right (by omega), hk, Nat.sub_self]
      rfl
    · unfold setNode
      rw [hq b hb, eb]
      exact hgo
    · rw [List.append_assoc, show m - (k + 1) = m' by omega]
      exact h
    · exact shift_gap ws _ (by rw [N.len]; exact N.pos) hc.2.2 hc.2.1
/-- plans that are carried out, on their way. -/
structure LsSt (w wr : World) (M n m : Nat) (aL : Option Addr) (cL gG k : Nat) (was : Int) (PS : List Pl) (aP : Option Addr) : Prop where
  ex : ∃ L gone ws rest made, Now M L gone ws rest ∧ L.length = n ∧ (∀ j : Nat, j < L.length → (ldAt L j).q = j) ∧ RowK .i64 wr aL (3 * n) (ldFlat L) ∧ gone4 wr gG gone ∧ made ++ plansF (m - k) ws rest = PS ∧ made.length = k ∧ was = gapOf ws
  nil : aL = none → cL = 0
  apL : ∀ x, aL = some x → 0 < 3 * n → x.block ≠ gG
  rowP : RowK .i64 wr aP (3 * PS.length) (plFlat PS)
  apP : ∀ x, aP = some x → 0 < 3 * PS.length → x.block ≠ gG
  bel : Below w.heap.size w wr
  low : w.heap.size ≤ gG
/-- rows behind a plan's mark. -/
structure LsMid (w W2 : World) (n : Nat) (aL : Option Addr) (L : List Ld) (gG R : Nat) (gone : Int → Bool) (pl : Pl) (PS : List Pl) (aP : Option Addr) : Prop where
  rL : RowK .i64 W2 aL (3 * n) (ldFlat L)
  g4 : gone4 W2 gG gone
  pb : plBlock W2 R pl
  rP : RowK .i64 W2 aP (3 * PS.length) (plFlat PS)
  bel : Below w.heap.size w W2
theorem LsMid.mk' {w wr : World} {n gG b q : Nat} {aL aP : Option Addr} {L : List Ld} {gone : Int → Bool} {pl : Pl} {PS : List Pl} (rL : RowK .i64 wr aL (3 * n) (ldFlat L)) (g4 : gone4 wr gG gone) (rP : RowK .i64 wr aP (3 * PS.length) (plFlat PS)) (apL : ∀ x, aL = some x → 0 < 3 * n → x.block ≠ gG) (apP : ∀ x, aP = some x → 0 < 3 * PS.length → x.block ≠ gG) (bel : Below w.heap.size w wr) (low : w.heap.size ≤ gG) (hb : b < 4) :
    LsMid w (((wr.alloc (.cells #[.int .i64 pl.q, .int .i64 pl.f, .int .i64 pl.t] 39)).drewN q).setCell ⟨gG, b, none⟩ (.bool true)) n aL L gG wr.heap.size (fun z => gone z || z == (b : Int)) pl PS aP := by
  have B1 : Below wr.heap.size wr ((wr.alloc (.cells #[.int .i64 pl.q, .int .i64 pl.f, .int .i64 pl.t] 39)).drewN q) := below_n (below1 _ _) q
  have pb : plBlock ((wr.alloc (.cells #[.int .i64 pl.q, .int .i64 pl.f, .int .i64 pl.t] 39)).drewN q) wr.heap.size pl := heap_alloc_new wr _
  have T := Turned.set gG b ((wr.alloc (.cells #[.int .i64 pl.q, .int .i64 pl.f, .int .i64 pl.t] 39)).drewN q) (.bool true)
  have hlt := g4.lt
  exact ⟨T.row (rL.below B1) apL, (g4.next B1).set b hb, pb.turned T (by omega), T.row (rP.below B1) apP, T.under (Below.next bel B1) low⟩
set_option maxRecDepth 20000 in
set_option maxHeartbeats 4000000 in
theorem walk_PlanLess (w : World) (a0 : Option Addr) (len cap : Nat) (D : List Int) (hA : RowK .i64 w a0 (2 * len) D) (hc : len ≤ cap) (_ : a0 = none → cap = 0) (hz : cap * 16 ≤ 140737488351232) (zn : Int) (wn : (Lit.int .i64 zn).wf = true) (za : Int) (wa : (Lit.int .i64 za).wf = true) :
    Calls Try.prog 5 #[.slice a0 len cap, .int .i64 zn, .int .i64 za] w fun e w' => e = .returned (.bool true) ∧ Below w.heap.size w w' := by
  have r1 := pickedOf_range zn 5 (by omega)
  have P1 := fun w => (picked_any zn 5 w wn (by omega) (by omega)).mono (fun _ _ h => (⟨h.1, h.2.symm⟩ : _ ∧ _ = w))
  obtain ⟨p, hp⟩ : ∃ p : Nat, pickedOf zn 5 = p := ⟨(pickedOf zn 5).toNat, by omega⟩
  rw [hp] at P1 r1
  have r2 := pickedOf_range za 5 (by omega)
  have P2 := fun w => (picked_any za 5 w wa (by omega) (by omega)).mono (fun _ _ h => (⟨h.1, h.2.symm⟩ : _ ∧ _ = w))
  obtain ⟨x, hx⟩ : ∃ p : Nat, pickedOf za 5 = p := ⟨(pickedOf za 5).toNat, by omega⟩
  rw [hx] at P2 r2
  clear hp hx wn wa
  obtain ⟨M, hM⟩ : ∃ M : Nat, M = 1 + p := ⟨_, rfl⟩
  have hMi : (1 : Int) + (p : Int) = (M : Int) := by omega
  have HMi := veil hMi
  have HK : Hid (∀ z : Int, z = M → Calls Try.prog 16 #[.slice a0 len cap, .int .i64 z] w fun e w' => ∃ a1 c1, e = .returned (.slice a1 (min len 4) c1) ∧ RowK .i64 w' a1 (3 * (min len 4)) (ldFlat (kLds D M (min len 4))) ∧ (a1 = none → c1 = 0) ∧ Below w.heap.size w w') := veil fun z hz => by
    subst hz
    refine (keepLoads_any a0 len cap D M w hA (by omega) (by omega) (by omega)).mono ?_
    rintro e w' ⟨v, rfl, o, b⟩
    have hr := kLds_rise D M (by omega) (min len 4) (by omega)
    obtain ⟨a1, c1, rfl, r, _, _, h3, _⟩ := RowK.ofMany o (flat_wf M (by omega) _ hr.mem)
    rw [kLds_len] at r ⊢
    exact ⟨a1, c1, rfl, r, h3, b⟩
  have hr := kLds_rise D M (by omega) (min len 4) (by omega)
  have hln := kLds_len D M (min len 4)
  have hqi : ∀ j : Nat, j < (kLds D M (min len 4)).length → (ldAt (kLds D M (min len 4)) j).q = j := fun j hj => by
    rw [hln] at hj
    rw [kLds_at D M _ j hj]
    rfl
  have hn4 : min len 4 ≤ 4 := by omega
  generalize kLds D M (min len 4) = L at *
  generalize min len 4 = n at *
  have HBx : Hid (∀ a1 c1 w1 (z : Int), z = M → RowK .i64 w1 a1 (3 * n) (ldFlat L) → (a1 = none → c1 = 0) → Calls Try.prog 11 #[.slice a1 n c1, .int .i64 z, .int .i64 x] w1 fun e w' => ∃ a2 c2, e = .returned (.tuple #[.slice a2 (plansF x (works L M) L).length c2, .int .i64 0]) ∧ RowK .i64 w' a2 (3 * (plansF x (works L M) L).length) (plFlat (plansF x (works L M) L)) ∧ Below w1.heap.size w1 w') := veil fun a1 c1 w1 z hz h hc => by subst hz; exact balance_row hln h hc (by omega) (by omega) (by omega) hr
  have HSp : Hid (∀ a1 c1 w1 (z : Int), z = M → RowK .i64 w1 a1 (3 * n) (ldFlat L) → Calls Try.prog 8 #[.slice a1 n c1, .int .i64 z] w1 fun e w' => e = .returned (.tuple #[.int .i64 (gapOf (works L M)), .int .i64 0]) ∧ Below w1.heap.size w1 w') := veil fun a1 c1 w1 z hz h => by subst hz; exact spread_row hln h (by omega) (by omega) hr
  have HBu : Hid (∀ a1 c1 w1 (z : Int), z = M → RowK .i64 w1 a1 (3 * n) (ldFlat L) → Calls Try.prog 17 #[.slice a1 n c1, .int .i64 z] w1 fun e w' => e = .returned (.bool (decide (0 < gapOf (works L M)))) ∧ Below w1.heap.size w1 w') := veil fun a1 c1 w1 z hz h => by
    subst hz
    have := busy_any M a1 c1 L w1 (by rw [hln]; exact h) (by omega) (by omega) hr
    rwa [hln] at this
  have hpl := plansF_len x (works L M) L
  have hg0 := gap_ge L M (by omega)
  have HG1 : Hid (M = 1 → ¬ 0 < gapOf (works L M)) := veil fun h => by subst h; exact gap_one L
  have HBeg : Hid (∀ w5 a1 c1 a2, RowK .i64 w5 a1 (3 * n) (ldFlat L) → (a1 = none → c1 = 0) → RowK .i64 w5 a2 (3 * (plansF x (works L M) L).length) (plFlat (plansF x (works L M) L)) → Below w.heap.size w w5 → LsSt w (w5.alloc (.cells #[.bool false, .bool false, .bool false, .bool false] 37)) M n x a1 c1 w5.heap.size 0 (gapOf (works L M)) (plansF x (works L M) L) a2) := veil fun w5 a1 c1 a2 rL hc1 rP b5 =>
    ⟨⟨L, fun _ => false, works L M, L, [], Now.begin hr (by omega), hln, hqi, rL.below (below1 _ _), heap_alloc_new w5 _, rfl, rfl, rfl⟩, hc1,
      fun y hy h0 => by obtain ⟨b, off, e, hb, _⟩ := rL.cell 0 h0; rw [hy] at e; cases e; show b ≠ w5.heap.size; omega, rP.below (below1 _ _),
      fun y hy h0 => by obtain ⟨b, off, e, hb, _⟩ := rP.cell 0 h0; rw [hy] at e; cases e; show b ≠ w5.heap.size; omega, Below.next b5 (below1 _ _), b5.size⟩
  have HSpx : Hid (∀ L' : List Ld, L'.length = n → Rise M L' → ∀ a1 c1 w1 (z : Int), z = M → RowK .i64 w1 a1 (3 * n) (ldFlat L') → Calls Try.prog 8 #[.slice a1 n c1, .int .i64 z] w1 fun e w' => e = .returned (.tuple #[.int .i64 (gapOf (works L' M)), .int .i64 0]) ∧ Below w1.heap.size w1 w') := veil fun L' hL' hr' a1 c1 w1 z hz h => by subst hz; exact spread_row hL' h (by omega) (by omega) hr'
  clear hr hA hqi
  generalize plansF x (works L M) L = PS at *
  generalize gapOf (works L M) = gp at *
  generalize hF : ldFlat L = F at *
  clear hln hF
  obtain ⟨np, hnp⟩ : ∃ np, np = PS.length := ⟨_, rfl⟩
  rw [← hnp] at HBx HBeg hpl
  have Hnp := veil hnp
  clear hnp
  have hx5 : x < 5 := by omega
  have hM1 : 1 ≤ M := by omega
  have hM5 : M ≤ 5 := by omega
  have HM1 : Hid (M = 1 + p) := veil hM
  clear hM hMi
  go_enter Try.func5, Try.ntmps5
  go_upto_region 5 with (first
    | (go_at_call 15; first | (refine (P1 _).mono ?_; rintro _ w ⟨rfl, rfl⟩; clear P1) | (refine (P2 _).mono ?_; rintro _ w1 ⟨rfl, rfl⟩))
    | (go_at_call 16; refine (unveil HK _ (by first | exact unveil HMi | (rw [IntKind.wrap_i64]; omega))).mono ?_; rintro _ w1 ⟨a1, c1, rfl, rL, hn1, b1⟩; have R1 := veil rL; have B1 := veil b1; clear rL b1 HK)
    | (go_at_call 11; refine (unveil HBx a1 c1 w1 _ (by first | exact unveil HMi | (rw [IntKind.wrap_i64]; omega)) (unveil R1) hn1).mono ?_; rintro _ w2 ⟨a2, c2, rfl, r2, b2⟩; have R12 := veil ((unveil R1).below b2); have B2 := veil (Below.next (unveil B1) b2); have R2 := veil r2; clear r2 b2 HBx R1 B1)
    | (go_at_call 8; refine (unveil HSp a1 c1 w2 _ (by first | exact unveil HMi | (rw [IntKind.wrap_i64]; omega)) (unveil R12)).mono ?_; rintro _ w4 ⟨rfl, b4⟩; have R14 := veil ((unveil R12).below b4); have B4 := veil (Below.next (unveil B2) b4); have R24 := veil ((unveil R2).below b4); clear b4 HSp R12 B2 R2))
  have HBu1 := unveil HBu a1 c1 w4 _ (unveil HMi) (unveil R14)
  clear HBu
  have hnx : ¬ (x : Int) < (np : Int) := by omega
  have hgn : ¬ gp < 0 := by omega
  go_cut [66] (fun v wx => v = .bool false ∧ Below w4.heap.size w4 wx)
  case first =>
    by_cases hp0 : 0 < p
    · cases hgp : decide (0 < gp) with
      | true =>
        rw [hgp] at HBu1
        go_wp2_with (first | (go_at_call 15; refine (P2 _).mono ?_; rintro _ w4 ⟨rfl, rfl⟩) | (go_at_call 17; refine HBu1.mono ?_; rintro _ w5 ⟨rfl, b5⟩; have B5 := veil b5; clear b5 HBu1))
        go_meet
        exact ⟨by first | rfl | (simp; omega) | simp, unveil B5⟩
      | false =>
        rw [hgp] at HBu1
        go_wp2_with (first | (go_at_call 15; refine (P2 _).mono ?_; rintro _ w4 ⟨rfl, rfl⟩) | (go_at_call 17; refine HBu1.mono ?_; rintro _ w5 ⟨rfl, b5⟩; have B5 := veil b5; clear b5 HBu1))
        go_meet
        exact ⟨by first | rfl | (simp; omega) | simp, unveil B5⟩
    · have hgp : decide (0 < gp) = false := decide_eq_false (by have := unveil HG1 (by have := unveil HM1; omega); omega)
      clear HBu1
      go_wp2_with (go_at_call 15; refine (P2 _).mono ?_; rintro _ w4 ⟨rfl, rfl⟩)
      go_meet
      exact ⟨by first | rfl | (simp; omega) | simp, Below.refl _ _⟩
  case rest =>
    obtain ⟨rfl, b5⟩ := hcut
    have S0 := veil (unveil HBeg wc a1 c1 a2 ((unveil R14).below b5) hn1 ((unveil R24).below b5) (Below.next (unveil B4) b5))
    clear b5 B4 R24 R14 HBu1 HG1 HBeg P2
    go_wp2
    generalize wc.alloc (.cells #[.bool false, .bool false, .bool false, .bool false] 37) = W0 at S0 ⊢
    generalize wc.heap.size = gG at S0 ⊢
    go_loopw [8, 11, 14] (fun lv wv t wr => ∃ k : Nat, ∃ aL cL was, k ≤ np ∧ t = .int .i64 k ∧ lv = .slice aL n cL ∧ wv = .int .i64 was ∧ LsSt w wr M n x aL cL gG k was PS a2) (fun _ _ t _ => np - (intOf t).toNat)
    case atStart => exact ⟨0, _, _, _, Nat.zero_le _, rfl, rfl, rfl, unveil S0⟩
    case round =>
      clear S0
      obtain ⟨k, aL, cL, was, hk, rfl, rfl, rfl, S⟩ := hrel
      by_cases hlt : k < np
      · obtain ⟨L, gone, ws, rest, made, N, hLn, hLq, rL, g4, hall, hmk, hwas⟩ := S.ex
        obtain ⟨b, hb, hpk, hgb, hnb, hft, hwb, ws', rest', N', hall', hgap⟩ := less_step N hLq hall hmk (by rw [← unveil Hnp]; exact hlt)
        have hbn : b < n := by omega
        obtain ⟨aL', offL, rfl⟩ := rL.form (by omega)
        obtain ⟨x0, x1, x2⟩ := rL.three b hbn
        rw [hLq b hb] at x0
        have rP := S.rowP
        rw [← unveil Hnp] at rP
        obtain ⟨bP, oP, rfl⟩ := rP.form (by omega)
        obtain ⟨e0, e1, e2⟩ := plFlat_at PS k
        rw [hpk] at e0 e1 e2
        have y0 := rP.at (3 * k) (by omega)
        have y1 := rP.at (3 * k + 1) (by omega)
        have y2 := rP.at (3 * k + 2) (by omega)
        rw [e0] at y0
        rw [e1] at y1
        rw [e2] at y2
        rw [← Nat.add_assoc] at y1 y2
        rw [Nat.mul_comm 3 k] at y0 y1 y2
        dsimp only at y0 y1 y2
        rw [hnb] at x1
        have hb4 : b < 4 := by omega
        have hwf : ∀ u ∈ ldFlat (setNode L b (idleOf ws)), (Lit.int .i64 u).wf = true := flat_wf M (by omega) _ N'.rise.mem
        have HBh : Hid (∀ W2, RowK .i64 W2 (some ⟨aL', offL, none⟩) (3 * n) (ldFlat L) → Calls Try.prog 18 #[.slice (some ⟨aL', offL, none⟩) n cL, .agg #[.int .i64 b, .int .i64 (busyOf ws), .int .i64 (idleOf ws)]] W2 fun e w' => ∃ a5 c5, e = .returned (.slice a5 n c5) ∧ RowK .i64 w' a5 (3 * n) (ldFlat (setNode L b (idleOf ws))) ∧ (a5 = none → c5 = 0) ∧ (∀ y, a5 = some y → W2.heap.size ≤ y.block) ∧ Below W2.heap.size W2 w') := veil fun W2 r2 => by
          have hle : n ≤ 4 := hn4
          have hlen : (setNode L b (idleOf ws)).length = n := by unfold setNode; rw [List.length_set]; exact hLn
          subst hLn
          refine (behind_any _ cL L ⟨b, busyOf ws, idleOf ws⟩ b W2 r2 (fun h => by cases h) hle hb (hLq b hb) hnb (fun j hj hne => by rw [hLq j hj]; show ¬ (j : Int) = (b : Int); omega)).mono ?_
          rintro e w' ⟨v, rfl, o, bw⟩
          obtain ⟨a5, c5, rfl, r5, _, _, h3, h4⟩ := RowK.ofMany o hwf
          rw [hlen] at r5 ⊢
          exact ⟨a5, c5, rfl, r5, h3, h4, bw⟩
        have hlen' : (setNode L b (idleOf ws)).length = n := by unfold setNode; rw [List.length_set]; exact hLn
        have HS5 := veil (unveil HSpx _ hlen' N'.rise)
        have hLq' : ∀ j : Nat, j < (setNode L b (idleOf ws)).length → (ldAt (setNode L b (idleOf ws)) j).q = j := fun j hj => by
          rw [hlen'] at hj
          unfold setNode
          rw [ldAt_set _ _ _ _ hb]
          split
          · rename_i e; rw [e]; exact hLq b hb
          · exact hLq j (by omega)
        have e7 : gapOf (works (setNode L b (idleOf ws)) M) = gapOf ws' := by rw [N'.ws_eq]
        rw [e7] at HS5
        have HMd : Hid (∀ q, LsMid w (((wr.alloc (.cells #[.int .i64 b, .int .i64 (busyOf ws), .int .i64 (idleOf ws)] 39)).drewN q).setCell ⟨gG, b, none⟩ (.bool true)) n (some ⟨aL', offL, none⟩) L gG wr.heap.size (fun z => gone z || z == (b : Int)) ⟨b, busyOf ws, idleOf ws⟩ PS (some ⟨bP, oP, none⟩)) := veil fun q => LsMid.mk' (pl := ⟨b, busyOf ws, idleOf ws⟩) rL g4 S.rowP S.apL S.apP S.bel S.low hb4
        have HFin : Hid (∀ w6 a5 c5, RowK .i64 w6 a5 (3 * n) (ldFlat (setNode L b (idleOf ws))) → (a5 = none → c5 = 0) → (∀ y, a5 = some y → 0 < 3 * n → y.block ≠ gG) → gone4 w6 gG (fun z => gone z || z == (b : Int)) → RowK .i64 w6 (some ⟨bP, oP, none⟩) (3 * PS.length) (plFlat PS) → Below w.heap.size w w6 → LsSt w w6 M n x a5 c5 gG (k + 1) (gapOf ws') PS (some ⟨bP, oP, none⟩)) := veil fun w6 a5 c5 r5 hn5 ap5 g6 rP6 b6 => ⟨⟨_, _, ws', rest', made ++ [⟨b, busyOf ws, idleOf ws⟩], N', hlen', hLq', r5, g6, hall', by simp [hmk], rfl⟩, hn5, ap5, rP6, S.apP, b6, S.low⟩
        have hgt : ¬ was < gapOf ws' := by omega
        have hglt := g4.lt
        obtain ⟨cg, fg⟩ := g4.at b hb4
        rw [hgb] at cg
        have HFr : Hid (∀ o : Obj, (wr.alloc o).frozen? ⟨gG, b, none⟩ = false) := veil fun o => ((g4.next (below1 wr o)).at b hb4).2
        have hPl : bP < wr.heap.size := rP.lt (by omega)
        have hPn : bP ≠ wr.heap.size := by omega
        have hLl : aL' < wr.heap.size := rL.lt (by omega)
        have hLne : aL' ≠ wr.heap.size := by omega
        have hw0 : ((ldAt L b).w == 0) = false := by simp; omega
        have hfe : (((busyOf ws : Nat) : Int) == ((idleOf ws : Nat) : Int)) = false := by simp; omega
        have hq0 : decide ((b : Int) < 0) = false := by simp
        have hqn : decide ((n : Int) ≤ (b : Int)) = false := by simp; omega
        have hqn2 : decide (n ≤ b) = false := by simp; omega
        have hgGn : gG ≠ wr.heap.size := by omega
        clear N N' hall hall' hwas hgap hft hwb hmk hLq hLq' hpk rP rL g4 S hgb hnb e0 e1 e2 hwf e7 hlen' hLn hb HSpx
        generalize busyOf ws = bu at *
        generalize idleOf ws = id at *
        generalize gapOf ws' = gp' at *
        generalize (ldAt L b).w = wb at *
        generalize ldFlat (setNode L b id) = F5 at *
        go_wp2_with fail
        obtain ⟨W, hW, d0, d1, d2, dg, df, dx1, dx2⟩ : ∃ W, W = wr.alloc (.cells #[.int .i64 b, .int .i64 bu, .int .i64 id] 39) ∧ W.cell? ⟨wr.heap.size, 0, none⟩ = some (.int .i64 b) ∧ W.cell? ⟨wr.heap.size, 1, none⟩ = some (.int .i64 bu) ∧ W.cell? ⟨wr.heap.size, 2, none⟩ = some (.int .i64 id) ∧ W.cell? ⟨gG, b, none⟩ = some (.bool false) ∧ W.frozen? ⟨gG, b, none⟩ = false ∧
            W.cell? ⟨aL', offL + b * 3 + 1, none⟩ = some (.int .i64 bu) ∧ W.cell? ⟨aL', offL + b * 3 + 2, none⟩ = some (.int .i64 wb) := by
          have nb : plBlock (wr.alloc (.cells #[.int .i64 b, .int .i64 bu, .int .i64 id] 39)) wr.heap.size ⟨b, bu, id⟩ := heap_alloc_new wr _
          obtain ⟨n0, n1, n2⟩ := nb.cells
          exact ⟨_, rfl, n0, n1, n2, ((below1 wr _).cell hglt).trans cg, (unveil HFr _), ((below1 wr _).cell hLl).trans x1, ((below1 wr _).cell hLl).trans x2⟩
        rw [← hW] at HMd ⊢
        have HW := veil hW
        clear hW x0 x1 x2 y0 y1 y2 cg fg HFr
        go_quiet (fail)
        have HM2 := veil (unveil HMd nq)
        clear HMd
        go_wp2_with (first
          | (go_at_call 18; refine (unveil HBh _ (unveil HM2).rL).mono ?_; rintro _ w5 ⟨a5, c5, rfl, r5, hn5, up5, b5⟩; have R5 := veil r5; have U5 := veil up5; have G5 := veil ((unveil HM2).g4.next b5); have Q5 := veil ((unveil HM2).rP.below b5); have B5 := veil (Below.next (unveil HM2).bel b5); clear r5 b5 up5 HBh)
          | (go_at_call 8; refine (unveil HS5 a5 c5 w5 _ (by first | exact unveil HMi | (rw [IntKind.wrap_i64]; omega)) (unveil R5)).mono ?_; rintro _ w6 ⟨rfl, b6⟩; have R6 := veil ((unveil R5).below b6); have G6 := veil ((unveil G5).next b6); have Q6 := veil ((unveil Q5).below b6); have B6 := veil (Below.next (unveil B5) b6); clear b6 HS5))
        go_roundw
        case rel => exact ⟨k + 1, _, _, _, by omega, by go_num, rfl, rfl, unveil HFin w6 a5 c5 (unveil R6) hn5 (fun y hy _ => by have h1 := unveil U5 y hy; have h2 := (unveil HM2).g4.lt; omega) (unveil G6) (unveil Q6) (unveil B6)⟩
        case measure => simp [intOf]; omega
      · have BL := veil S.bel
        clear S
        go_wp2
        go_ret
        exact ⟨rfl, unveil BL⟩
end Go.Proofs.Ytmkbidglfnpgjaa
