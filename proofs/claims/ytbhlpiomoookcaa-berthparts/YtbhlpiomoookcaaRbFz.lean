/- The document's answer's leavingFault and PartOf. -/
import Derived.Test.YtbhlpiomoookcaaRbCz
import Derived.Test.YtbhlpiomoookcaaBeAll
import Derived.Test.YtbhlpiomoookcaaPaAll
import Derived.Deep.QuietTactic
import Derived.BigQuiet
namespace Go.Proofs.Ytbhlpiomoookcaa
open Go.RowKit
set_option maxRecDepth 20000 in
set_option maxHeartbeats 4000000 in
theorem leaving_any (B : Bt) (a : Option Addr) (c : Nat) (hv : Int) (w : World) (hb : BIn w B a c) : Calls Try.prog 61 #[bVal B.r B.e B.f B.t B.o a B.es.length c, .int .i64 hv] w fun x w' => x = .returned (.int .i64 (tellOf B hv)) ∧ Below w.heap.size w w' := by
  by_cases ok : B.Ok
  case neg =>
    rw [show tellOf B hv = 6 by simp [tellOf, ok]]
    go_enter Try.func61, Try.ntmps61
    go_upto_region 1 with fail
    obtain ⟨W1, hW1, d1, b1⟩ := one_b w B a c
    rw [← hW1]
    clear hW1
    have HC := faultB_no B a c W1 (hb.next b1) ok
    obtain ⟨x0, x1, x2, x3, x4, x5⟩ := d1.cells
    have HD1 := veil d1
    have HB1 := veil b1
    clear d1 b1
    go_wp2_with (first | (go_at_call 22; refine HC.mono ?_; rintro x W2 ⟨rfl, b2⟩; clear HC x0 x1 x2 x3 x4 x5; have d2 := (unveil HD1).next b2; obtain ⟨x0, x1, x2, x3, x4, x5⟩ := d2.cells; have HB2 := veil (Below.next (unveil HB1) b2); clear d2 b2))
    go_ret
    exact ⟨rfl, unveil HB2⟩
  case pos =>
  have hr23 : (¬ B.r = 2 ∧ ¬ B.r = 3) ∨ B.r = 2 ∨ (¬ B.r = 2 ∧ B.r = 3) := by omega
  rcases hr23 with ⟨h2, h3⟩ | h2 | ⟨h2, h3⟩
  · rw [show tellOf B hv = 7 by simp [tellOf, ok, h2, h3]]
    have h2b : (B.r != 2) = true := by simp [h2]
    have h3b : (B.r != 3) = true := by simp [h3]
    go_enter Try.func61, Try.ntmps61
    go_upto_region 1 with fail
    obtain ⟨W1, hW1, d1, b1⟩ := one_b w B a c
    rw [← hW1]
    clear hW1
    have HC := faultB_yes B a c W1 (hb.next b1) ok
    obtain ⟨x0, x1, x2, x3, x4, x5⟩ := d1.cells
    have HD1 := veil d1
    have HB1 := veil b1
    clear d1 b1
    go_wp2_with (first | (go_at_call 22; refine HC.mono ?_; rintro x W2 ⟨rfl, b2⟩; clear HC x0 x1 x2 x3 x4 x5; have d2 := (unveil HD1).next b2; obtain ⟨x0, x1, x2, x3, x4, x5⟩ := d2.cells; have HB2 := veil (Below.next (unveil HB1) b2); clear d2 b2))
    go_ret
    exact ⟨rfl, unveil HB2⟩
  · by_cases h4 : 0 ≤ hv ∧ hv ≤ (B.es.length : Int)
    · rw [show tellOf B hv = 0 by simp [tellOf, ok, h2, h4]]
      have HE := inB_yes hv 0 (B.es.length : Int) h4
      clear h4
      have Vh2 := veil h2
      clear h2
      go_enter Try.func61, Try.ntmps61
      go_upto_region 1 with fail
      obtain ⟨W1, hW1, d1, b1⟩ := one_b w B a c
      rw [← hW1]
      clear hW1
      have HC := faultB_yes B a c W1 (hb.next b1) ok
      obtain ⟨x0, x1, x2, x3, x4, x5⟩ := d1.cells
      have HD1 := veil d1
      have HB1 := veil b1
      clear d1 b1
      go_upto_region 2 with (go_at_call 22; refine HC.mono ?_; rintro x W2 ⟨rfl, b2⟩; clear HC x0 x1 x2 x3 x4 x5; have d2 := (unveil HD1).next b2; obtain ⟨x0, x1, x2, x3, x4, x5⟩ := d2.cells; have HB2 := veil (Below.next (unveil HB1) b2); clear d2 b2)
      have h2 := unveil Vh2
      go_wp2_with (first | (go_at_call 51; refine (HE _).mono ?_; rintro x w3 ⟨rfl, hw3⟩; subst w3))
      go_ret
      exact ⟨rfl, unveil HB2⟩
    · rw [show tellOf B hv = 2 by simp only [tellOf]; rw [if_neg (by simpa using ok), if_neg (by simp [h2]), if_pos h4]]
      have HE := inB_no hv 0 (B.es.length : Int) h4
      clear h4
      have Vh2 := veil h2
      clear h2
      go_enter Try.func61, Try.ntmps61
      go_upto_region 1 with fail
      obtain ⟨W1, hW1, d1, b1⟩ := one_b w B a c
      rw [← hW1]
      clear hW1
      have HC := faultB_yes B a c W1 (hb.next b1) ok
      obtain ⟨x0, x1, x2, x3, x4, x5⟩ := d1.cells
      have HD1 := veil d1
      have HB1 := veil b1
      clear d1 b1
      go_upto_region 2 with (go_at_call 22; refine HC.mono ?_; rintro x W2 ⟨rfl, b2⟩; clear HC x0 x1 x2 x3 x4 x5; have d2 := (unveil HD1).next b2; obtain ⟨x0, x1, x2, x3, x4, x5⟩ := d2.cells; have HB2 := veil (Below.next (unveil HB1) b2); clear d2 b2)
      have h2 := unveil Vh2
      go_wp2_with (first | (go_at_call 51; refine (HE _).mono ?_; rintro x w3 ⟨rfl, hw3⟩; subst w3))
      go_ret
      exact ⟨rfl, unveil HB2⟩
  · by_cases h4 : 0 ≤ hv ∧ hv ≤ (B.es.length : Int)
    · rw [show tellOf B hv = 0 by simp [tellOf, ok, h3, h4]]
      have HE := inB_yes hv 0 (B.es.length : Int) h4
      clear h4
      have Vh3 := veil h3
      clear h3
      go_enter Try.func61, Try.ntmps61
      go_upto_region 1 with fail
      obtain ⟨W1, hW1, d1, b1⟩ := one_b w B a c
      rw [← hW1]
      clear hW1
      have HC := faultB_yes B a c W1 (hb.next b1) ok
      obtain ⟨x0, x1, x2, x3, x4, x5⟩ := d1.cells
      have HD1 := veil d1
      have HB1 := veil b1
      clear d1 b1
      go_upto_region 2 with (go_at_call 22; refine HC.mono ?_; rintro x W2 ⟨rfl, b2⟩; clear HC x0 x1 x2 x3 x4 x5; have d2 := (unveil HD1).next b2; obtain ⟨x0, x1, x2, x3, x4, x5⟩ := d2.cells; have HB2 := veil (Below.next (unveil HB1) b2); clear d2 b2)
      have h3 := unveil Vh3
      go_wp2_with (first | (go_at_call 51; refine (HE _).mono ?_; rintro x w3 ⟨rfl, hw3⟩; subst w3))
      go_ret
      exact ⟨rfl, unveil HB2⟩
    · rw [show tellOf B hv = 2 by simp only [tellOf]; rw [if_neg (by simpa using ok), if_neg (by simp [h3]), if_pos h4]]
      have HE := inB_no hv 0 (B.es.length : Int) h4
      clear h4
      have Vh3 := veil h3
      clear h3
      go_enter Try.func61, Try.ntmps61
      go_upto_region 1 with fail
      obtain ⟨W1, hW1, d1, b1⟩ := one_b w B a c
      rw [← hW1]
      clear hW1
      have HC := faultB_yes B a c W1 (hb.next b1) ok
      obtain ⟨x0, x1, x2, x3, x4, x5⟩ := d1.cells
      have HD1 := veil d1
      have HB1 := veil b1
      clear d1 b1
      go_upto_region 2 with (go_at_call 22; refine HC.mono ?_; rintro x W2 ⟨rfl, b2⟩; clear HC x0 x1 x2 x3 x4 x5; have d2 := (unveil HD1).next b2; obtain ⟨x0, x1, x2, x3, x4, x5⟩ := d2.cells; have HB2 := veil (Below.next (unveil HB1) b2); clear d2 b2)
      have h3 := unveil Vh3
      go_wp2_with (first | (go_at_call 51; refine (HE _).mono ?_; rintro x w3 ⟨rfl, hw3⟩; subst w3))
      go_ret
      exact ⟨rfl, unveil HB2⟩
theorem ret_PartOf {W : World} {x : Value} {lt : Bool} {er : Int} {tmps : Array Value} (t4 : tmps[4]? = some x) (t5 : tmps[5]? = some (.bool lt)) (t6 : tmps[6]? = some (.int .i64 er)) :
    (results Try.f31 tmps).run Try.prog W = .ok (.tuple #[x, .bool lt, .int .i64 er]) W := by
  simp [results, Try.results31, t4, t5, t6]
theorem take_drop_snoc (es : List Ev) (h k : Nat) (hk : h + k < es.length) : (es.drop h).take (k + 1) = (es.drop h).take k ++ [es[h + k]] := by
  rw [List.take_succ_eq_append_getElem (by rw [List.length_drop]; omega)]
  simp
/-- PartOf on its way. -/
structure Pf (w wr : World) (B : Bt) (a : Option Addr) (c h k : Nat) (v : Value) : Prop where
  b : bBlock wr w.heap.size B.r B.e B.f B.t B.o a B.es.length c
  own : wr.ownsRow (w.heap.size + 1) 33 6 v k ((evFlat ((B.es.drop h).take k)).map (Value.int .i64))
  bel : Below w.heap.size w wr
set_option maxRecDepth 20000 in
set_option maxHeartbeats 8000000 in
theorem bpartOf_any (B : Bt) (a : Option Addr) (c : Nat) (hv : Int) (w : World) (hb : BIn w B a c) :
    Calls Try.prog 31 #[bVal B.r B.e B.f B.t B.o a B.es.length c, .int .i64 hv] w fun x w' => ∃ a' c' n' l lt er, x = .returned (.tuple #[.slice a' n' c', .bool lt, .int .i64 er]) ∧ n' = l.length ∧ partOf B hv = (l, lt, er) ∧ PartOut w w' l a' c' ∧ Below w.heap.size w w' := by
  obtain ⟨i6, hi6, hz60, hz61, hz62⟩ := info_of Try.infoEvent
  obtain ⟨g, hg⟩ : ∃ g, tellOf B hv = g := ⟨_, rfl⟩
  have HG := veil hg
  go_enter Try.func31, Try.ntmps31
  go_upto_region 1 with fail
  obtain ⟨W1, hW1, d1, b1⟩ := one_b w B a c
  rw [← hW1]
  have HC := leaving_any B a c hv W1 (hb.next b1)
  rw [hg] at HC
  obtain ⟨x0, x1, x2, x3, x4, x5⟩ := d1.cells
  have HD1 := veil d1
  have HB1 := veil b1
  clear hW1 d1 b1 hg
  go_upto_region 2 with (go_at_call 61; refine HC.mono ?_; rintro x W2 ⟨rfl, b2⟩; clear HC x0 x1 x2 x3 x4 x5; have d2 := (unveil HD1).next b2; have HB2 := veil (Below.next (unveil HB1) b2); have HD2 := veil d2; clear d2 b2)
  by_cases h0 : g = 0
  case neg =>
    go_wp2
    exact bodyPost_ret (ret_PartOf rfl rfl rfl) rfl ⟨none, 0, 0, [], false, g, rfl, rfl, by have := unveil HG; simp [partOf, this, h0], ⟨RowK.nil _ _ _, Nat.le_refl _, fun _ => rfl, fun x hx => by cases hx⟩, unveil HB2⟩
  case pos =>
  subst h0
  obtain ⟨ok, hr23, hh0, hh1⟩ := tell_zero (unveil HG)
  have hlen : B.es.length ≤ 2000 := ok.len
  obtain ⟨h, rfl⟩ : ∃ h : Nat, hv = h := ⟨hv.toNat, by omega⟩
  have hhl : h ≤ B.es.length := by omega
  have HRow : Hid (∀ W, Below w.heap.size w W → RowK .i64 W a (6 * B.es.length) (evFlat B.es)) := veil fun W b => hb.row.below b
  have hwf := veil hb.row.wf
  have HOK := veil ok
  clear hh0 hh1 hb ok
  go_upto_region 6 with fail
  go_loopw [8, 9] (fun v t wr => ∃ k : Nat, k ≤ 3 ∧ h + k ≤ B.es.length ∧ t = .int .i64 ((h + k : Nat) : Int) ∧ Pf w wr B a c h k v) (fun _ t _ => B.es.length - (intOf t).toNat)
  case atStart => exact ⟨0, by omega, by omega, by simp, unveil HD2, by simpa [evFlat] using World.ownsRow_nil _ _ _ _, unveil HB2⟩
  case round =>
    obtain ⟨k, hk3, hkl, rfl, P⟩ := hrel
    clear HD1 HB1 HD2 HB2
    obtain ⟨a1, c1, rfl⟩ := own_form P.own
    obtain ⟨x0, x1, x2, x3, x4, x5⟩ := P.b.cells
    by_cases hlt : k < 3 ∧ h + k < B.es.length
    case pos =>
      obtain ⟨hk, hn⟩ := hlt
      have rA := unveil HRow wr P.bel
      obtain ⟨b, off, rfl⟩ := rA.form (by omega)
      obtain ⟨y0, y1, y2, y3, y4, y5⟩ := rA.six (h + k) hn
      have ea : ∀ t, t < 6 → (evFlat B.es).getD (6 * (h + k) + t) 0 = (evCells B.es[h + k]).getD t 0 := fun t ht => evFlat_at B.es (h + k) hn t ht
      rw [show 6 * (h + k) = 6 * (h + k) + 0 from rfl, ea 0 (by omega)] at y0
      rw [ea 1 (by omega)] at y1
      rw [ea 2 (by omega)] at y2
      rw [ea 3 (by omega)] at y3
      rw [ea 4 (by omega)] at y4
      rw [ea 5 (by omega)] at y5
      have hT : Hid (evFlat ((B.es.drop h).take (k + 1)) = evFlat ((B.es.drop h).take k) ++ evCells B.es[h + k]) := veil (by rw [take_drop_snoc B.es h k hn, evFlat_snoc])
      obtain ⟨v, hv⟩ : ∃ v, v = B.es[h + k] := ⟨_, rfl⟩
      rw [← hv] at y0 y1 y2 y3 y4 y5 hT
      simp only [evCells, List.getD_cons_zero, List.getD_cons_succ] at y0 y1 y2 y3 y4 y5
      have hbl : b < wr.heap.size := rA.lt (by omega)
      have hbn : b ≠ wr.heap.size := by omega
      have hRl : w.heap.size < wr.heap.size := P.b.lt
      have hRn : w.heap.size ≠ wr.heap.size := by omega
      have b5 : Below wr.heap.size wr (wr.alloc (.cells #[.int .i64 v.k, .int .i64 v.p, .int .i64 v.i, .int .i64 v.b, .int .i64 v.he, .int .i64 v.hn] 33)) := below1 _ _
      have HO5 : Hid ((wr.alloc (.cells #[.int .i64 v.k, .int .i64 v.p, .int .i64 v.i, .int .i64 v.b, .int .i64 v.he, .int .i64 v.hn] 33)).ownsRow (w.heap.size + 1) 33 6 (.slice a1 k c1) k ((evFlat ((B.es.drop h).take k)).map (Value.int .i64))) := veil (own_still P.own (fun g _ hg => b5.block g hg))
      have HN : Hid (∀ w4 v4, (wr.alloc (.cells #[.int .i64 v.k, .int .i64 v.p, .int .i64 v.i, .int .i64 v.b, .int .i64 v.he, .int .i64 v.hn] 33)).grownBy w4 (Value.slice a1 k c1).ownBlock → w4.ownsRow (w.heap.size + 1) 33 6 v4 (k + 1) ((evFlat ((B.es.drop h).take (k + 1))).map (Value.int .i64)) → Pf w w4 B (some ⟨b, off, none⟩) c h (k + 1) v4) := veil fun w4 v4 gr own => ⟨by
          have := (P.b.next b5)
          unfold bBlock at this ⊢
          rw [gr.block w.heap.size (by have := b5.size; omega) (fun e => by have := (P.own.lt _ e.symm).1; omega)]
          exact this, own, (P.bel.trans (b5.mono P.bel.size)).grown gr (by have := b5.size; omega) (fun q hq => by have := (P.own.lt q hq).1; omega)⟩
      clear P rA ea hv b5
      have hki : (h : Int) + (k : Int) < (h : Int) + 3 := by omega
      go_wp2_with (at_builtin; refine wpList_append_own _ rfl _ _ 42 rfl (w.heap.size + 1) 33 i6 _ 6 48 Try.underlying42 hi6 hz60 hz61 hz62 rfl (by decide) (.slice a1 k c1) k ((evFlat ((B.es.drop h).take k)).map (Value.int .i64)) rfl (unveil HO5) ⟨wr.heap.size, 0, none⟩ 1 1 ((evCells v).map (Value.int .i64)) rfl rfl (news6 _ _ _ _ _ _ _ _) (ints_oneCell _ _) (by unfold maxLen; omega) (by omega) (by simp; omega) ?_; intro v' w4 own4 grow4 _; obtain ⟨a', cap', rfl⟩ := own_form own4; rw [← List.map_append, ← unveil hT] at own4; have HP4 := veil (unveil HN w4 _ grow4 own4); clear own4 grow4)
      all_goals (go_roundw <;> first | exact ⟨k + 1, by omega, by omega, by go_num, unveil HP4⟩ | (simp [intOf]; omega))
    case neg =>
      have hfin : (k = 3 ∨ h + k = B.es.length) := by omega
      have hl : ((B.es.drop h).take k).length = k := by rw [List.length_take, List.length_drop]; omega
      have hl3 : (B.es.drop h).take 3 = (B.es.drop h).take k := by
        rcases hfin with h' | h'
        · rw [h']
        · rw [List.take_of_length_le (by rw [List.length_drop]; omega), List.take_of_length_le (by rw [List.length_drop]; omega)]
      have HPo : Hid (∀ lt : Bool, lt = decide (B.r = 3 ∧ h + k = B.es.length) → partOf B (h : Int) = ((B.es.drop h).take k, lt, 0)) := veil fun lt hlt => by
        have hd : decide (B.r = 3 ∧ B.es.length ≤ h + 3) = decide (B.r = 3 ∧ h + k = B.es.length) := by
          apply decide_eq_decide.2
          omega
        have hG := unveil HG
        simp only [partOf, hG, Int.toNat_natCast]
        rw [if_neg (by simp), hl3, hd, hlt]
      have HOut : Hid (∀ W, Below wr.heap.size wr W → PartOut w W ((B.es.drop h).take k) a1 c1 ∧ Below w.heap.size w W) := veil fun W b => by
        obtain ⟨_, _, e, r, l, _, n, x⟩ := RowK.ofMany (own_still P.own (fun g _ hg => b.block g hg)) (fun u hu => unveil hwf u (by
          obtain ⟨z, hz, hu⟩ := List.mem_flatMap.1 hu
          exact List.mem_flatMap.2 ⟨z, List.mem_of_mem_drop (List.mem_of_mem_take hz), hu⟩))
        cases e
        exact ⟨⟨by rw [hl]; exact r, by rw [hl]; exact l, n, fun y hy => by have := x y hy; omega⟩, Below.next P.bel b⟩
      have hend : (¬ (((h + k : Nat) : Int) < (B.es.length : Int))) ∨ ((((h + k : Nat) : Int) < (B.es.length : Int)) ∧ ¬ (((h + k : Nat) : Int) < (h : Int) + 3)) := by omega
      have hwl := P.b.lt
      clear P hl3 hfin hlt
      by_cases hr3 : B.r = 3
      case pos =>
        by_cases hq : h + k = B.es.length
        case pos =>
          have hqb : (((h : Int) + (k : Int)) == (B.es.length : Int)) = true := by simp; omega
          have HPt := veil (unveil HPo true (by simp [hr3, hq]))
          clear HPo
          have hce : ¬ (((h + k : Nat) : Int) < (B.es.length : Int)) := by omega
          have hce2 : ¬ ((h : Int) + (k : Int) < (B.es.length : Int)) := by omega
          clear hend hq
          go_wp2_with fail
          go_quiet (fail)
          go_wp2
          obtain ⟨po, bo⟩ := unveil HOut _ (belowN _ _)
          exact bodyPost_ret (ret_PartOf rfl rfl rfl) rfl ⟨_, _, _, _, _, _, rfl, hl.symm, unveil HPt, po, bo⟩
        case neg =>
          have hqb : (((h : Int) + (k : Int)) == (B.es.length : Int)) = false := by simp; omega
          have HPt := veil (unveil HPo false (by simp [hq]))
          clear HPo
          have hce : (((h + k : Nat) : Int) < (B.es.length : Int)) := by omega
          have hce2 : ((h : Int) + (k : Int) < (B.es.length : Int)) := by omega
          have hcf : ¬ (((h + k : Nat) : Int) < (h : Int) + 3) := by omega
          have hcf2 : ¬ ((h : Int) + (k : Int) < (h : Int) + 3) := by omega
          clear hend hq
          go_wp2_with fail
          go_quiet (fail)
          go_wp2
          obtain ⟨po, bo⟩ := unveil HOut _ (belowN _ _)
          exact bodyPost_ret (ret_PartOf rfl rfl rfl) rfl ⟨_, _, _, _, _, _, rfl, hl.symm, unveil HPt, po, bo⟩
      case neg =>
        have HPt := veil (unveil HPo false (by simp [hr3]))
        clear HPo
        rcases hend with hce | ⟨hce, hcf⟩
        · have hce2 : ¬ ((h : Int) + (k : Int) < (B.es.length : Int)) := by omega
          go_wp2_with fail
          go_quiet (fail)
          go_wp2
          obtain ⟨po, bo⟩ := unveil HOut _ (belowN _ _)
          exact bodyPost_ret (ret_PartOf rfl rfl rfl) rfl ⟨_, _, _, _, _, _, rfl, hl.symm, unveil HPt, po, bo⟩
        · have hce2 : ((h : Int) + (k : Int) < (B.es.length : Int)) := by omega
          have hcf2 : ¬ ((h : Int) + (k : Int) < (h : Int) + 3) := by omega
          go_wp2_with fail
          go_quiet (fail)
          go_wp2
          obtain ⟨po, bo⟩ := unveil HOut _ (belowN _ _)
          exact bodyPost_ret (ret_PartOf rfl rfl rfl) rfl ⟨_, _, _, _, _, _, rfl, hl.symm, unveil HPt, po, bo⟩
end Go.Proofs.Ytbhlpiomoookcaa
