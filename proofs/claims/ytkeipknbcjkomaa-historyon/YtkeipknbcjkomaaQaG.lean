/- The walk of berthshiftkeep.HistoryAlike. -/
import Derived.Test.YtkeipknbcjkomaaQaD
namespace Go.Proofs.Ytkeipknbcjkomaa
open Go.RowKit

theorem evFlat_take (es : List Ev) (k : Nat) : (evFlat es).take (6 * k) = evFlat (es.take k) := by
  induction k generalizing es with
  | zero => simp [evFlat]
  | succ k ih =>
    cases es with
    | nil => simp [evFlat]
    | cons v es =>
      show (evCells v ++ evFlat es).take (6 * (k + 1)) = evCells v ++ evFlat (es.take k)
      rw [show 6 * (k + 1) = (evCells v).length + 6 * k by show _ = 6 + _; omega, List.take_append]
      rw [List.take_of_length_le (by omega), Nat.add_sub_cancel_left, ih]
theorem RowK.firsts {k : IntKind} {w : World} {a : Option Addr} {len : Nat} {l : List Int} (h : RowK k w a len l) (n : Nat) (hn : n ≤ len) : RowK k w a n (l.take n) := by
  have hl := h.len_eq
  refine ⟨by simp; omega, fun u hu => h.wf u (List.mem_of_mem_take hu), fun i hi => ?_⟩
  obtain ⟨b, off, ha, hlt, hc⟩ := h.cell i (by omega)
  refine ⟨b, off, ha, hlt, ?_⟩
  rw [hc]
  simp [hi]
theorem SameAt.symm {A B : List Int} {k : Nat} (h : SameAt A B k) : SameAt B A k := fun j hj => (h j hj).symm
theorem IsCommon.symm {A B : List Int} {la lb n : Nat} (h : IsCommon A B la lb n) : IsCommon B A lb la n :=
  ⟨h.leb, h.lea, fun k hk => (h.same k hk).symm, by
    rcases h.stop with h1 | h1 | h1
    · exact .inr (.inl h1)
    · exact .inl h1
    · exact .inr (.inr fun h2 => h1 h2.symm)⟩
theorem IsCommon.self {A : List Int} {la n : Nat} (h : IsCommon A A la la n) : n = la := by
  rcases h.stop with h1 | h1 | h1
  · exact h1
  · exact h1
  · exact absurd (fun j _ => rfl) h1
theorem IsCommon.least {A B : List Int} {la lb n k : Nat} (h : IsCommon A B la lb n) (hs : ∀ j, j < k → SameAt A B j) (ha : k ≤ la) (hb : k ≤ lb) : k ≤ n := by
  rcases Nat.lt_or_ge n k with h1 | h1
  · rcases h.stop with h2 | h2 | h2
    · omega
    · omega
    · exact absurd (hs n h1) h2
  · exact h1
theorem sameAt_take {es os : List Ev} {k : Nat} (h : es.take k = os.take k) (he : k ≤ es.length) (ho : k ≤ os.length) : ∀ j, j < k → SameAt (evFlat es) (evFlat os) j := by
  intro j hj i hi
  rw [evFlat_at es j (by omega) i hi, evFlat_at os j (by omega) i hi]
  have : es[j]'(by omega) = os[j]'(by omega) := by
    have h1 : (es.take k)[j]? = (os.take k)[j]? := by rw [h]
    rw [List.getElem?_take, List.getElem?_take, if_pos hj, if_pos hj, List.getElem?_eq_getElem (by omega), List.getElem?_eq_getElem (by omega)] at h1
    exact Option.some.inj h1
  rw [this]
/-- the other history, on its way. -/
structure Al (W3 wr : World) (base k m : Nat) (es os : List Ev) (v : Value) : Prop where
  own : wr.ownsRow base 45 6 v os.length ((evFlat os).map (Value.int .i64))
  len : os.length = k + m
  pre : es.take k = os.take k
  ok : ∀ v ∈ os, v.Ok
  bel : Below base W3 wr
set_option maxRecDepth 20000 in
set_option maxHeartbeats 4000000 in
theorem walk_HistoryAlike (w : World) (a : Option Addr) (len cap : Nat) (D : List Int) (h : RowK .i64 w a (4 * len) D) (_ : len ≤ cap) (_ : cap ≤ maxLen) (_ : a = none → cap = 0) (cut : Int) (wc : (Lit.int .i64 cut).wf = true) (b : Option Addr) (blen bcap : Nat) (E : List Int) (hE : RowK .i64 w b (4 * blen) E) (_ : blen ≤ bcap) (_ : bcap ≤ maxLen) (_ : b = none → bcap = 0) :
    Calls Try.prog 13 #[.slice a len cap, .int .i64 cut, .slice b blen bcap] w fun r w' => r = .returned (.bool true) ∧ Below w.heap.size w w' := by
  have HP := played_any a len cap 60 D w h (by omega)
  clear h
  obtain ⟨i6, hi6, hz60, hz61, hz62⟩ := info_of Try.infoEvent
  go_enter Try.func13, Try.ntmps13
  go_upto_region 2 with (first
    | (go_at_call 15; refine HP.mono ?_; rintro r W1 ⟨s, es, ans, x, ve, va, rfl, hist, hl, _, _, ⟨⟨a1, c1, a2, c2, ws, rfl, r1, r2, l1, l2, n1, n2, hW, f1, f2⟩⟩, oe, oa, B1⟩; have HH := veil hist; obtain ⟨ae, ce, rfl, re, hce, _, hne, _⟩ := RowK.ofMany oe (evFlat_wf fun v hv => (hist.like v hv).ok); clear hist oe oa f1 f2 HP)
    | (refine q_alloc 7 rfl rfl rfl ?_; intro W2 z2 b2)
    | (refine q_store (ra := a1) (la := a2) (ws' := ws) _ _ rfl rfl rfl rfl z2 hW ?_; intro W3 q3 t3; obtain ⟨X3, b3, B3⟩ := boxed r1 r2 n1 n2 hW B1 b2 t3 q3; have HB3 := veil B3; have HE3 := veil (re.below b3); clear z2 b2 q3 t3 r1 r2 n1 n2 B1 b3 X3 B3 re))
  obtain ⟨k, hk⟩ : ∃ k : Nat, pickedOf cut ((es.length : Int) + 1) = k := ⟨(pickedOf cut ((es.length : Int) + 1)).toNat, by have := pickedOf_range cut ((es.length : Int) + 1) (by omega); omega⟩
  have hkl : k ≤ es.length := by have := pickedOf_range cut ((es.length : Int) + 1) (by omega); omega
  have H1 := fun w => picked_any cut ((es.length : Int) + 1) w wc (by omega) (by omega)
  rw [hk] at H1
  clear hk
  go_upto_region 3 with (go_at_call 17; refine (H1 _).mono ?_; rintro r w1 ⟨rfl, rfl⟩)
  clear H1
  have rk := (unveil HE3).firsts (6 * k) (by omega)
  rw [evFlat_take] at rk
  have hbk : k ≤ ce := by omega
  have hn1 := hne
  obtain ⟨base, hbase⟩ : ∃ base, base = W3.heap.size := ⟨_, rfl⟩
  go_cut [12] (fun v wx => Al W3 wx base k 0 es (es.take k) v)
  case first =>
    cases ae with
    | none =>
      have hc0 := hne rfl
      subst hc0
      have hk0 : k = 0 := by omega
      subst hk0
      go_wp2_with (at_builtin; refine wpList_append_rows rfl (.const (.slice none 0 0)) (.tmp 32) 31 rfl base 45 i6 _ 6 48 Try.underlying31 hi6 hz60 hz61 hz62 rfl (by decide) (.slice none 0 0) 0 [] rfl (World.ownsRow_nil _ _ _ _) none 0 0 (evFlat (es.take 0)) rfl rk hne (by unfold maxLen; omega) (by omega) (by omega) ?_; intro v1 W4 o4 g4)
      go_meet
      refine ⟨?_, ?_, rfl, ?_, ?_⟩
      · simpa using o4
      · simp
      · intro v hv; simp at hv
      · exact (Below.refl base W3).grown g4 (by omega) (by simp [Value.ownBlock])
    | some x =>
      go_wp2_with (at_builtin; refine wpList_append_rows rfl (.const (.slice none 0 0)) (.tmp 32) 31 rfl base 45 i6 _ 6 48 Try.underlying31 hi6 hz60 hz61 hz62 rfl (by decide) (.slice none 0 0) 0 [] rfl (World.ownsRow_nil _ _ _ _) (some x) k ce (evFlat (es.take k)) rfl rk hne (by unfold maxLen; omega) (by omega) (by omega) ?_; intro v1 W4 o4 g4)
      simp only [Nat.zero_add, List.nil_append] at o4
      go_meet
      refine ⟨?_, ?_, by rw [List.take_take, Nat.min_self], ?_, ?_⟩
      · rw [List.length_take, Nat.min_eq_left hkl]; exact o4
      · rw [List.length_take, Nat.min_eq_left hkl]; rfl
      · intro v hv; exact ((unveil HH).like v (List.mem_of_mem_take hv)).ok
      · exact (Below.refl base W3).grown g4 (by omega) (by simp [Value.ownBlock])
  case rest =>
    have A0 := hcut
    clear hcut rk hn1 hbk
    go_upto_region 5 with fail
    go_loopw [12, 13] (fun v i wr => ∃ (m : Nat) (os : List Ev), m ≤ blen ∧ m ≤ 5 ∧ i = .int .i64 m ∧ Al W3 wr base k m es os v) (fun _ i _ => blen - (intOf i).toNat)
    case atStart => exact ⟨0, es.take k, Nat.zero_le _, by omega, rfl, A0⟩
    case round =>
      obtain ⟨m, os, hmb, hm5, rfl, A⟩ := hrel
      clear A0
      obtain ⟨ao, co, rfl⟩ := own_form A.own
      have hos := A.len
      have hol : os.length ≤ 65 := by omega
      have HOS := veil hos
      clear hos
      have Bw : Below w.heap.size w wr := (unveil HB3).trans (A.bel.mono (by rw [hbase]; exact (unveil HB3).size))
      by_cases hlt : m < blen ∧ m < 5
      case pos =>
        obtain ⟨h1, h2⟩ := hlt
        have hr := hE.below Bw
        obtain ⟨g, off, rfl⟩ := hE.form (by omega)
        obtain ⟨x0, hx0⟩ : ∃ x, x = E.getD (4 * m) 0 := ⟨_, rfl⟩
        obtain ⟨x1, hx1⟩ : ∃ x, x = E.getD (4 * m + 1) 0 := ⟨_, rfl⟩
        obtain ⟨x2, hx2⟩ : ∃ x, x = E.getD (4 * m + 2) 0 := ⟨_, rfl⟩
        obtain ⟨x3, hx3⟩ : ∃ x, x = E.getD (4 * m + 3) 0 := ⟨_, rfl⟩
        have k0 : wr.cell? ⟨g, off + m * 4, none⟩ = some (.int .i64 x0) := by rw [Nat.mul_comm m 4, hx0]; exact hr.at (4 * m) (by omega)
        have k1 : wr.cell? ⟨g, off + m * 4 + 1, none⟩ = some (.int .i64 x1) := by rw [Nat.mul_comm m 4, hx1]; exact hr.at (4 * m + 1) (by omega)
        have k2 : wr.cell? ⟨g, off + m * 4 + 2, none⟩ = some (.int .i64 x2) := by rw [Nat.mul_comm m 4, hx2]; exact hr.at (4 * m + 2) (by omega)
        have k3 : wr.cell? ⟨g, off + m * 4 + 3, none⟩ = some (.int .i64 x3) := by rw [Nat.mul_comm m 4, hx3]; exact hr.at (4 * m + 3) (by omega)
        have w0 : (Lit.int .i64 x0).wf = true := by rw [hx0]; exact getD_fits E hE.wf _
        have w1 : (Lit.int .i64 x1).wf = true := by rw [hx1]; exact getD_fits E hE.wf _
        have w2 : (Lit.int .i64 x2).wf = true := by rw [hx2]; exact getD_fits E hE.wf _
        have w3 : (Lit.int .i64 x3).wf = true := by rw [hx3]; exact getD_fits E hE.wf _
        obtain ⟨v, hv⟩ : ∃ v, v = deedEv x0 x1 x2 x3 := ⟨_, rfl⟩
        have hvo : v.Ok := by rw [hv]; exact (deedEv_like _ _ _ _).ok
        have hEv : ∀ w, Calls Try.prog 23 #[.agg #[.int .i64 x0, .int .i64 x1, .int .i64 x2, .int .i64 x3]] w fun e w' => e = .returned (evIn v) ∧ Below w.heap.size w w' := fun w => by rw [hv]; exact event_ev x0 x1 x2 x3 w w0 w1 w2 w3
        have HA := veil A
        have HE' := veil hE
        have HVO := veil hvo
        clear A hr hv w0 w1 w2 w3 hx0 hx1 hx2 hx3 hvo
        go_upto_region 8 with (go_at_call 23; refine (hEv _).mono ?_; rintro e W5 ⟨rfl, b5⟩; clear hEv k0 k1 k2 k3)
        obtain ⟨W6, hW6, b6, e6⟩ : ∃ W6, W6 = W5.alloc (.cells #[.int .i64 v.k, .int .i64 v.p, .int .i64 v.i, .int .i64 v.b, .int .i64 v.he, .int .i64 v.hn] 45) ∧ Below wr.heap.size wr W6 ∧ W6.heap[W5.heap.size]? = some (.cells #[.int .i64 v.k, .int .i64 v.p, .int .i64 v.i, .int .i64 v.b, .int .i64 v.he, .int .i64 v.hn] 45 (0, 0)) := ⟨_, rfl, Below.next b5 (below1 _ _), heap_alloc_new _ _⟩
        rw [← hW6]
        have c0 : W6.cell? ⟨W5.heap.size, 0, none⟩ = some (.int .i64 v.k) := by simp [World.cell?, e6]
        have c1 : W6.cell? ⟨W5.heap.size, 1, none⟩ = some (.int .i64 v.p) := by simp [World.cell?, e6]
        have c2 : W6.cell? ⟨W5.heap.size, 2, none⟩ = some (.int .i64 v.i) := by simp [World.cell?, e6]
        have c3 : W6.cell? ⟨W5.heap.size, 3, none⟩ = some (.int .i64 v.b) := by simp [World.cell?, e6]
        have c4 : W6.cell? ⟨W5.heap.size, 4, none⟩ = some (.int .i64 v.he) := by simp [World.cell?, e6]
        have c5 : W6.cell? ⟨W5.heap.size, 5, none⟩ = some (.int .i64 v.hn) := by simp [World.cell?, e6]
        have A' := unveil HA
        have B6 : Below base W3 W6 := A'.bel.trans (b6.mono (by have := A'.bel.size; omega))
        have b7 : Below W6.heap.size W6 (W6.alloc (.cells #[.int .i64 v.k, .int .i64 v.p, .int .i64 v.i, .int .i64 v.b, .int .i64 v.he, .int .i64 v.hn] 45)) := below1 _ _
        have HO := veil (own_still (own_still A'.own (fun g _ hg => b6.block g hg)) (fun g _ hg => b7.block g hg))
        have HG : Hid (∀ w4, (W6.alloc (.cells #[.int .i64 v.k, .int .i64 v.p, .int .i64 v.i, .int .i64 v.b, .int .i64 v.he, .int .i64 v.hn] 45)).grownBy w4 (Value.slice ao os.length co).ownBlock → Below base W3 w4) := veil fun w4 gg => (B6.trans (b7.mono (by have := B6.size; omega))).grown gg (by have := B6.size; have := b7.size; omega) (fun q hq => (A'.own.lt q hq).1)
        have hb6 : base ≤ W6.heap.size := by have := B6.size; omega
        have HL := veil (And.intro A'.pre A'.ok)
        clear hW6 e6 A' HA B6 b6 b5 b7
        go_wp2_with (at_builtin; refine wpList_append_own _ rfl _ _ 31 rfl base 45 i6 _ 6 48 Try.underlying31 hi6 hz60 hz61 hz62 rfl (by decide) (.slice ao os.length co) os.length ((evFlat os).map (Value.int .i64)) rfl (unveil HO) ⟨W6.heap.size, 0, none⟩ 1 1 ((evCells v).map (Value.int .i64)) rfl rfl (news6 _ _ _ _ _ _ _ _) (ints_oneCell _ _) (by unfold maxLen; omega) (by omega) (by simp; omega) ?_; intro v' W8 own8 grow8 _; have HO8 := veil own8; have HB8 := veil (unveil HG W8 grow8); clear own8 grow8)
        have A8 : Al W3 W8 base k (m + 1) es (os ++ [v]) v' := by
          have hL := unveil HL
          have hos := unveil HOS
          refine ⟨?_, by simp; omega, ?_, ?_, unveil HB8⟩
          · rw [evFlat_snoc, List.map_append, List.length_append]; exact unveil HO8
          · rw [List.take_append_of_le_length (by omega)]; exact hL.1
          · intro u hu
            rcases List.mem_append.1 hu with hu | hu
            · exact hL.2 u hu
            · obtain rfl := List.mem_singleton.1 hu
              exact unveil HVO
        go_roundw
        case rel => exact ⟨m + 1, os ++ [v], by omega, by omega, by go_num, A8⟩
        case measure => simp [intOf]; omega
      case neg =>
        have hend : m = blen ∨ (m < blen ∧ m = 5) := by omega
        obtain ⟨ao', co', hvo, ro, hco, _, hno, _⟩ := RowK.ofMany A.own (evFlat_wf A.ok)
        cases hvo
        have bb : Below W3.heap.size W3 wr := by rw [← hbase]; exact A.bel
        have rE := (unveil HE3).below bb
        have hsame := sameAt_take A.pre hkl (by have := unveil HOS; omega)
        have hko : k ≤ os.length := by have := unveil HOS; omega
        have HC1 := common_any ae ao es.length ce os.length co (evFlat es) (evFlat os) wr rE ro (by omega) (by omega)
        have HC2 : Hid (∀ w', Below wr.heap.size wr w' → Calls Try.prog 24 #[.slice ao os.length co, .slice ae es.length ce] w' fun e w'' => ∃ n : Nat, e = .returned (.int .i64 n) ∧ IsCommon (evFlat os) (evFlat es) os.length es.length n ∧ Below w'.heap.size w' w'') := veil fun w' b => common_any ao ae os.length co es.length ce (evFlat os) (evFlat es) w' (ro.below b) (rE.below b) (by omega) (by omega)
        have HC3 : Hid (∀ w', Below wr.heap.size wr w' → Calls Try.prog 24 #[.slice ao os.length co, .slice ao os.length co] w' fun e w'' => e = .returned (.int .i64 os.length) ∧ Below w'.heap.size w' w'') := veil fun w' b => by
          refine (common_any ao ao os.length co os.length co (evFlat os) (evFlat os) w' (ro.below b) (ro.below b) (by omega) (by omega)).mono ?_
          rintro e w'' ⟨n, rfl, hc, bb⟩
          obtain rfl := hc.self
          exact ⟨rfl, bb⟩
        have HRE := veil rE
        have HRO := veil ro
        have HSame := veil hsame
        have HBw := veil Bw
        clear A rE ro hsame hE Bw bb hlt
        rcases hend with rfl | ⟨hm1, rfl⟩
        all_goals
          go_upto_region 11 with (first
            | (go_at_call 24; refine HC1.mono ?_; rintro e W10 ⟨n, rfl, hc, b10⟩; clear HC1; have HCN := veil hc; have hC2 := unveil HC2 W10 b10; clear hc HC2)
            | (go_at_call 24; refine hC2.mono ?_; rintro e W11 ⟨n2, rfl, hc, b11⟩; have HN2 := veil hc; clear hc hC2))
          have hcn := unveil HCN
          obtain rfl : n2 = n := Nat.le_antisymm ((unveil HN2).symm.le hcn) (hcn.symm.le (unveil HN2))
          have hnk : ¬ n2 < k := by have := hcn.least (unveil HSame) hkl hko; omega
          have hne1 : ¬ es.length < n2 := by have := hcn.lea; omega
          have hno1 : ¬ os.length < n2 := by have := hcn.leb; omega
          have b12 := Below.next b10 b11
          have hC3 := unveil HC3 W11 b12
          clear hcn HN2 HC3 b10 b11
          go_upto_region 14 with (go_at_call 24; refine hC3.mono ?_; rintro e W12 ⟨rfl, bb⟩; have b13 := Below.next b12 bb; clear hC3 bb b12)
          go_loopw [17] (fun i wx => ∃ j : Nat, j ≤ n2 ∧ i = .int .i64 j ∧ Below wr.heap.size wr wx) (fun i _ => n2 - (intOf i).toNat)
          case atStart => exact ⟨0, Nat.zero_le _, rfl, b13⟩
          case round =>
            obtain ⟨j, hj, rfl, b14⟩ := hrel
            clear b13
            have rE := (unveil HRE).below b14
            have ro := (unveil HRO).below b14
            by_cases hjn : j < n2
            · have hs := (unveil HCN).same j hjn
              have hj1 : j < es.length := by omega
              have hj2 : j < os.length := by omega
              obtain ⟨ge, oe, rfl⟩ := rE.form (by omega)
              obtain ⟨go, oo, rfl⟩ := ro.form (by omega)
              obtain ⟨x0, x1, x2, x3, x4, x5⟩ := rE.six j hj1
              obtain ⟨y0, y1, y2, y3, y4, y5⟩ := ro.six j hj2
              have s0 := hs 0 (by omega)
              rw [Nat.add_zero] at s0
              rw [← s0] at y0
              rw [← hs 1 (by omega)] at y1
              rw [← hs 2 (by omega)] at y2
              rw [← hs 3 (by omega)] at y3
              rw [← hs 4 (by omega)] at y4
              rw [← hs 5 (by omega)] at y5
              clear rE ro hs s0
              generalize (evFlat es).getD (6 * j) 0 = p0 at x0 y0
              generalize (evFlat es).getD (6 * j + 1) 0 = p1 at x1 y1
              generalize (evFlat es).getD (6 * j + 2) 0 = p2 at x2 y2
              generalize (evFlat es).getD (6 * j + 3) 0 = p3 at x3 y3
              generalize (evFlat es).getD (6 * j + 4) 0 = p4 at x4 y4
              generalize (evFlat es).getD (6 * j + 5) 0 = p5 at x5 y5
              go_wp2_with fail
              go_quiet (fail)
              go_wp2
              go_roundw
              case rel => exact ⟨j + 1, by omega, by go_num, Below.next b14 (belowN _ _)⟩
              case measure => simp [intOf]; omega
            · obtain rfl : j = n2 := by omega
              go_upto_region 18 with fail
              by_cases h1 : j = es.length
              · have h1b : ((j : Int) == (es.length : Int)) = true := by simp [h1]
                clear rE ro h1
                go_quiet (fail)
                go_wp2
                go_ret
                exact ⟨rfl, (unveil HBw).trans ((Below.next b14 (belowN _ _)).mono (unveil HBw).size)⟩
              · have h1b : ((j : Int) == (es.length : Int)) = false := by simp; omega
                by_cases h2 : j = os.length
                · have h2b : ((j : Int) == (os.length : Int)) = true := by simp [h2]
                  clear rE ro h1 h2
                  go_quiet (fail)
                  go_wp2
                  go_ret
                  exact ⟨rfl, (unveil HBw).trans ((Below.next b14 (belowN _ _)).mono (unveil HBw).size)⟩
                · have h2b : ((j : Int) == (os.length : Int)) = false := by simp; omega
                  have hns : ¬ SameAt (evFlat es) (evFlat os) j := by
                    rcases (unveil HCN).stop with h | h | h
                    · exact absurd h h1
                    · exact absurd h h2
                    · exact h
                  have hj1 : j < es.length := by omega
                  have hj2 : j < os.length := by omega
                  obtain ⟨ge, oe, rfl⟩ := rE.form (by omega)
                  obtain ⟨go, oo, rfl⟩ := ro.form (by omega)
                  obtain ⟨x0, x1, x2, x3, x4, x5⟩ := rE.six j hj1
                  obtain ⟨y0, y1, y2, y3, y4, y5⟩ := ro.six j hj2
                  have hd : ¬ ((evFlat es).getD (6 * j) 0 = (evFlat os).getD (6 * j) 0 ∧ (evFlat es).getD (6 * j + 1) 0 = (evFlat os).getD (6 * j + 1) 0 ∧ (evFlat es).getD (6 * j + 2) 0 = (evFlat os).getD (6 * j + 2) 0 ∧ (evFlat es).getD (6 * j + 3) 0 = (evFlat os).getD (6 * j + 3) 0 ∧ (evFlat es).getD (6 * j + 4) 0 = (evFlat os).getD (6 * j + 4) 0 ∧ (evFlat es).getD (6 * j + 5) 0 = (evFlat os).getD (6 * j + 5) 0) := by
                    rintro ⟨e0, e1, e2, e3, e4, e5⟩
                    refine hns fun i hi => ?_
                    match i, hi with
                    | 0, _ => exact e0
                    | 1, _ => exact e1
                    | 2, _ => exact e2
                    | 3, _ => exact e3
                    | 4, _ => exact e4
                    | 5, _ => exact e5
                  clear rE ro hns h1 h2
                  generalize (evFlat es).getD (6 * j) 0 = p0 at x0 hd
                  generalize (evFlat es).getD (6 * j + 1) 0 = p1 at x1 hd
                  generalize (evFlat es).getD (6 * j + 2) 0 = p2 at x2 hd
                  generalize (evFlat es).getD (6 * j + 3) 0 = p3 at x3 hd
                  generalize (evFlat es).getD (6 * j + 4) 0 = p4 at x4 hd
                  generalize (evFlat es).getD (6 * j + 5) 0 = p5 at x5 hd
                  generalize (evFlat os).getD (6 * j) 0 = q0 at y0 hd
                  generalize (evFlat os).getD (6 * j + 1) 0 = q1 at y1 hd
                  generalize (evFlat os).getD (6 * j + 2) 0 = q2 at y2 hd
                  generalize (evFlat os).getD (6 * j + 3) 0 = q3 at y3 hd
                  generalize (evFlat os).getD (6 * j + 4) 0 = q4 at y4 hd
                  generalize (evFlat os).getD (6 * j + 5) 0 = q5 at y5 hd
                  have hd' := six_ne hd
                  clear hd
                  rcases hd' with hd | ⟨rfl, hd⟩ | ⟨rfl, rfl, hd⟩ | ⟨rfl, rfl, rfl, hd⟩ | ⟨rfl, rfl, rfl, rfl, hd⟩ | ⟨rfl, rfl, rfl, rfl, rfl, hd⟩
                  all_goals
                    go_quiet (fail)
                    go_wp2
                    go_ret
                    exact ⟨by simp, (unveil HBw).trans ((Below.next b14 (belowN _ _)).mono (unveil HBw).size)⟩
end Go.Proofs.Ytkeipknbcjkomaa
