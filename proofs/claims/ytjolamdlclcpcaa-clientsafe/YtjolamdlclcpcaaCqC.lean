/- Walks of client.Check, own, find, Ask, Learn. -/
import Derived.Test.YtjolamdlclcpcaaCqB
import Derived.Test.YtjolamdlclcpcaaClM
namespace Go.Proofs.Ytjolamdlclcpcaa
open Go.RowKit Go.Lib

open Classical in
noncomputable def clFault (C : Cl) : Int := if C.Ok then 0 else 6
theorem Cl.ok_iff (C : Cl) : C.Ok ↔ kcountB C.p C.n = true ∧ waitB C.p C.n (C.n - 8) C.es = true ∧ knowB C.wh = true := by
  rw [waitB_iff, knowB_iff]
  unfold kcountB
  rw [decide_eq_true_eq]
  constructor
  · intro h; exact ⟨⟨⟨h.p0, h.p1⟩, h.n0, h.n1⟩, h.w, h.k⟩
  · rintro ⟨⟨⟨a, b⟩, c, d⟩, e, f⟩; exact ⟨a, b, c, d, e, f⟩
set_option maxRecDepth 20000 in
set_option maxHeartbeats 2000000 in
theorem ccheck_any (C : Cl) (a : Option Addr) (c : Nat) (w : World) (h : CIn w C a c) :
    Calls Try.prog 13 #[cVal C.p C.n a C.es.length c C.wh] w fun e w' => e = .returned (.int .i64 (clFault C)) ∧ Below w.heap.size w w' := by
  obtain ⟨f, hf⟩ : ∃ f, f = clFault C := ⟨_, rfl⟩
  rw [← hf]
  have HF : Hid ((C.Ok → f = 0) ∧ (¬ C.Ok → f = 6)) := veil ⟨fun ok => by rw [hf]; exact if_pos ok, fun no => by rw [hf]; exact if_neg no⟩
  clear hf
  have HI := veil (C.ok_iff)
  have HR : Hid (∀ w', Below w.heap.size w w' → RowK .i64 w' a (6 * C.es.length) (evFlat C.es)) := veil fun w' b => h.row.below b
  have HG := veil h.big
  clear h
  have H1 := fun (m : Nat) w => cmayCount_any C.p C.n a m c C.wh w
  have H3 := fun (m : Nat) w => mayKnow_any C.p C.n a m c C.wh w
  have H2 : Hid (∀ W, Below w.heap.size w W → (0 ≤ C.n ∧ C.n ≤ 1073741824) → Calls Try.prog 32 #[cVal C.p C.n a C.es.length c C.wh] W fun e w' => e = .returned (.bool (waitB C.p C.n (C.n - 8) C.es)) ∧ Below W.heap.size W w') := veil fun W b hn => mayWait_any C.p C.n a c C.es C.wh W (unveil HR W b) hn.1 hn.2 (by have := unveil HG; omega)
  clear HR
  obtain ⟨p, n, es, wh⟩ := C
  simp only at *
  obtain ⟨b1, hb1⟩ : ∃ b, b = kcountB p n := ⟨_, rfl⟩
  obtain ⟨b2, hb2⟩ : ∃ b, b = waitB p n (n - 8) es := ⟨_, rfl⟩
  obtain ⟨b3, hb3⟩ : ∃ b, b = knowB wh := ⟨_, rfl⟩
  have HN : Hid (b1 = true → 0 ≤ n ∧ n ≤ 1073741824) := veil fun hb => by
    rw [hb1] at hb
    exact (of_decide_eq_true hb).2
  rw [← hb1, ← hb2, ← hb3] at HI
  rw [← hb1] at H1
  rw [← hb2] at H2
  rw [← hb3] at H3
  clear hb1 hb2 hb3
  go_enter Try.func13, Try.ntmps13
  go_upto_region 1 with fail
  obtain ⟨W, hW, cb, B0⟩ : ∃ W, W = w.alloc (.cells (cCells p n a es.length c wh) 25) ∧ cBlock W w.heap.size p n a es.length c wh ∧ Below w.heap.size w W := ⟨_, rfl, cBlock.new _ _ _ _ _ _ _, below1 _ _⟩
  rw [← hW]
  clear hW
  obtain ⟨c0, c1, c2, c3, c4, c5, c6⟩ := cb.cells
  have HB0 := veil (And.intro cb B0)
  clear cb B0
  cases b1 with
  | false =>
    have e6 : f = 6 := (unveil HF).2 (fun ok => by have := ((unveil HI).1 ok).1; cases this)
    subst e6
    clear HF HI HN H2 H3
    go_wp2_with (go_at_call 31; refine (H1 _ _).mono ?_; rintro e w1 ⟨rfl, d1⟩; clear H1)
    go_ret
    exact ⟨rfl, Below.next (unveil HB0).2 d1⟩
  | true =>
    have hn := unveil HN rfl
    cases b2 with
    | false =>
      have e6 : f = 6 := (unveil HF).2 (fun ok => by have := ((unveil HI).1 ok).2.1; cases this)
      subst e6
      clear HF HI HN H3
      have HNN := veil hn
      clear hn
      go_wp2_with (first
        | (go_at_call 31; refine (H1 _ _).mono ?_; rintro e w1 ⟨rfl, d1⟩; obtain ⟨c0, c1, c2, c3, c4, c5, c6⟩ := ((unveil HB0).1.next d1).cells; clear H1)
        | (go_at_call 32; refine (unveil H2 w1 (Below.next (unveil HB0).2 d1) (unveil HNN)).mono ?_; rintro e w2 ⟨rfl, d2⟩; clear H2))
      go_ret
      exact ⟨rfl, Below.next (Below.next (unveil HB0).2 d1) d2⟩
    | true =>
      have e6 : f = if b3 = true then 0 else 6 := by
        cases b3 with
        | true => exact (unveil HF).1 ((unveil HI).2 ⟨rfl, rfl, rfl⟩)
        | false => exact (unveil HF).2 (fun ok => by have := ((unveil HI).1 ok).2.2; cases this)
      have HE6 := veil e6
      clear HF HI HN e6
      have HNN := veil hn
      clear hn
      cases b3 with
      | true =>
        obtain rfl : f = 0 := unveil HE6
        clear HE6
        go_wp2_with (first
          | (go_at_call 31; refine (H1 _ _).mono ?_; rintro e w1 ⟨rfl, d1⟩; obtain ⟨c0, c1, c2, c3, c4, c5, c6⟩ := ((unveil HB0).1.next d1).cells; clear H1)
          | (go_at_call 32; refine (unveil H2 w1 (Below.next (unveil HB0).2 d1) (unveil HNN)).mono ?_; rintro e w2 ⟨rfl, d2⟩; clear c0 c1 c2 c3 c4 c5 c6; obtain ⟨c0, c1, c2, c3, c4, c5, c6⟩ := (((unveil HB0).1.next d1).next d2).cells; clear H2)
          | (go_at_call 33; refine (H3 _ _).mono ?_; rintro e w3 ⟨rfl, d3⟩; clear H3))
        go_ret
        exact ⟨rfl, Below.next (Below.next (Below.next (unveil HB0).2 d1) d2) d3⟩
      | false =>
        obtain rfl : f = 6 := unveil HE6
        clear HE6
        go_wp2_with (first
          | (go_at_call 31; refine (H1 _ _).mono ?_; rintro e w1 ⟨rfl, d1⟩; obtain ⟨c0, c1, c2, c3, c4, c5, c6⟩ := ((unveil HB0).1.next d1).cells; clear H1)
          | (go_at_call 32; refine (unveil H2 w1 (Below.next (unveil HB0).2 d1) (unveil HNN)).mono ?_; rintro e w2 ⟨rfl, d2⟩; clear c0 c1 c2 c3 c4 c5 c6; obtain ⟨c0, c1, c2, c3, c4, c5, c6⟩ := (((unveil HB0).1.next d1).next d2).cells; clear H2)
          | (go_at_call 33; refine (H3 _ _).mono ?_; rintro e w3 ⟨rfl, d3⟩; clear H3))
        go_ret
        exact ⟨rfl, Below.next (Below.next (Below.next (unveil HB0).2 d1) d2) d3⟩
theorem ccheck_yes (C : Cl) (a : Option Addr) (c : Nat) (w : World) (h : CIn w C a c) (ok : C.Ok) :
    Calls Try.prog 13 #[cVal C.p C.n a C.es.length c C.wh] w fun e w' => e = .returned (.int .i64 0) ∧ Below w.heap.size w w' := by
  have := ccheck_any C a c w h
  rwa [show clFault C = 0 from if_pos ok] at this
theorem ccheck_no (C : Cl) (a : Option Addr) (c : Nat) (w : World) (h : CIn w C a c) (ok : ¬ C.Ok) :
    Calls Try.prog 13 #[cVal C.p C.n a C.es.length c C.wh] w fun e w' => e = .returned (.int .i64 6) ∧ Below w.heap.size w w' := by
  have := ccheck_any C a c w h
  rwa [show clFault C = 6 from if_neg ok] at this
/-- the place of an id among those that wait, or -1. -/
def encE (v : Ev) : List Value := [.int .i64 v.k, .int .i64 v.p, .int .i64 v.i, .int .i64 v.b, .int .i64 v.he, .int .i64 v.hn]
instance : Inhabited Ev := ⟨Ev.nil⟩
def findOf (id : Int) (es : List Ev) : Int := Lib.idxBy (fun _ y => y.i == id) (es.take es.length) default
theorem findOf_spec (id : Int) (es : List Ev) : (findOf id es = -1 ∧ ∀ v ∈ es, ¬ v.i = id) ∨ ∃ k : Nat, ∃ hk : k < es.length, findOf id es = k ∧ es[k].i = id := by
  unfold findOf Lib.idxBy
  rw [List.take_length]
  rcases idx_spec (fun _ y => y.i == id) default es 0 with ⟨e, ha⟩ | ⟨m, hm, e, ht⟩
  · refine .inl ⟨e, fun v hv h => ?_⟩
    obtain ⟨j, hj, rfl⟩ := List.mem_iff_getElem.1 hv
    have := ha j hj
    simp [getElem!_pos es j hj] at this
    exact this h
  · refine .inr ⟨m, hm, by rw [e, Nat.zero_add], ?_⟩
    simp [getElem!_pos es m hm] at ht
    exact ht
set_option maxRecDepth 20000 in
set_option maxHeartbeats 2000000 in
theorem findPred {w : World} {E : Nat} {id : Int} (hE : w.heap[E]? = some (.cells #[.int .i64 id] 3 (0, 0))) :
    PredBelow Try.prog 55 #[.pointer (some ⟨E, 0, none⟩)] (fun x : Ev => .agg (encE x).toArray) (fun x => x.i == id) w := by
  rintro W ⟨x0, x1, x2, x3, x4, x5⟩ hb
  have e1 : W.heap[E]? = _ := (hb.block E (block_lt hE)).trans hE
  have hl := block_lt e1
  have k0 : W.cell? ⟨E, 0, none⟩ = some (.int .i64 id) := by simp [World.cell?, e1]
  have hn1 : E ≠ W.heap.size := by omega
  clear hE e1
  show Calls Try.prog 55 #[.agg #[.int .i64 x0, .int .i64 x1, .int .i64 x2, .int .i64 x3, .int .i64 x4, .int .i64 x5], .pointer (some ⟨E, 0, none⟩)] W _
  go_enter Try.func55, Try.ntmps55
  go_wp2
  all_goals (go_ret; exact ⟨by simp_all, hb.alloc hb.size _⟩)
theorem indexE_none (fv : Value) (w : World) : Calls Try.prog 54 #[.slice none 0 0, fv] w fun e w' => e = .returned (.int .i64 (-1)) ∧ w' = w := by
  go_enter Try.func54, Try.ntmps54
  go_wp2
  go_loopw [5, 8] (fun _ s8 wr => s8 = .int .i64 0 ∧ wr = w) (fun _ _ _ => 0)
  case atStart => exact ⟨rfl, rfl⟩
  case round =>
    obtain ⟨rfl, rfl⟩ := hrel
    go_wp2
    go_ret
    exact ⟨rfl, rfl⟩
theorem indexE_zero (a : Option Addr) (c : Nat) (fv : Value) (w : World) : Calls Try.prog 54 #[.slice a 0 c, fv] w fun e w' => e = .returned (.int .i64 (-1)) ∧ w' = w := by
  go_enter Try.func54, Try.ntmps54
  go_wp2
  go_loopw [5, 8] (fun _ s8 wr => s8 = .int .i64 0 ∧ wr = w) (fun _ _ _ => 0)
  case atStart => exact ⟨rfl, rfl⟩
  case round =>
    obtain ⟨rfl, rfl⟩ := hrel
    go_wp2
    go_ret
    exact ⟨rfl, rfl⟩
theorem indexE_any {W : World} {E : Nat} {c : Nat} {a : Option Addr} {es : List Ev} {id : Int} (hE : W.heap[E]? = some (.cells #[.int .i64 id] 3 (0, 0)))
    (hr : RowK .i64 W a (6 * es.length) (evFlat es)) (hl : es.length ≤ 500) :
    Calls Try.prog 54 #[.slice a es.length c, .func (.func 55) #[] #[.pointer (some ⟨E, 0, none⟩)]] W fun e w' => e = .returned (.int .i64 (findOf id es)) ∧ Below W.heap.size W w' := by
  rcases Nat.eq_zero_or_pos es.length with h0 | h0
  · rw [h0]
    refine (indexE_zero a c _ W).mono ?_
    rintro e w' ⟨rfl, rfl⟩
    refine ⟨?_, Below.refl _ _⟩
    rw [List.length_eq_zero_iff.1 h0]
    simp [findOf, Lib.idxBy, Lib.idxByFrom]
  · obtain ⟨b, off, rfl⟩ := hr.form (by omega)
    have eg : ∀ args w, (callFunc 55 args).run Try.prog w = .ok (.enter 55 args) w := enters_of Try.func55 (by kernel_rfl) rfl
    exact AnyQ.slices_IndexFunc Try.laysIndexE 6 Try.isAgg37 Try.sizeOf37 encE (fun _ => rfl) (fun x => x.i == id) 55 #[.pointer (some ⟨E, 0, none⟩)] eg b off es.length c es W (findPred hE) (Nat.le_refl _) (by omega) (hr.lt (by omega)) (fun j hj i v hi => by
      obtain ⟨x0, x1, x2, x3, x4, x5⟩ := row_event hr j hj
      rw [getElem!_pos es j hj] at hi
      match i, hi with
      | 0, hi => simp [encE] at hi; rw [← hi]; exact x0
      | 1, hi => simp [encE] at hi; rw [← hi]; exact x1
      | 2, hi => simp [encE] at hi; rw [← hi]; exact x2
      | 3, hi => simp [encE] at hi; rw [← hi]; exact x3
      | 4, hi => simp [encE] at hi; rw [← hi]; exact x4
      | 5, hi => simp [encE] at hi; rw [← hi]; exact x5
      | i + 6, hi => simp [encE] at hi)
set_option maxRecDepth 20000 in
set_option maxHeartbeats 2000000 in
theorem find_any (C : Cl) (a : Option Addr) (c : Nat) (id : Int) (w : World) (h : CIn w C a c) (hl : C.es.length ≤ 500) :
    Calls Try.prog 41 #[cVal C.p C.n a C.es.length c C.wh, .int .i64 id] w fun e w' => e = .returned (.int .i64 (findOf id C.es)) ∧ Below w.heap.size w w' := by
  obtain ⟨p, n, es, wh⟩ := C
  have HR : Hid (∀ w', Below w.heap.size w w' → RowK .i64 w' a (6 * es.length) (evFlat es)) := veil fun w' b => h.row.below b
  clear h
  simp only at *
  go_enter Try.func41, Try.ntmps41
  go_upto_region 1 with fail
  obtain ⟨W, hW, cb, eb, B0⟩ : ∃ W, W = (w.alloc (.cells (cCells p n a es.length c wh) 25)).alloc (.cells #[.int .i64 id] 3) ∧ cBlock W w.heap.size p n a es.length c wh ∧ W.heap[w.heap.size + 1]? = some (.cells #[.int .i64 id] 3 (0, 0)) ∧ Below w.heap.size w W := by
    refine ⟨_, rfl, (cBlock.new _ _ _ _ _ _ _).next (below1 _ _), ?_, below2 _ _ _⟩
    have h0 := heap_alloc_new (w.alloc (.cells (cCells p n a es.length c wh) 25)) (.cells #[.int .i64 id] 3)
    rw [show (w.alloc (.cells (cCells p n a es.length c wh) 25)).heap.size = w.heap.size + 1 by simp] at h0
    exact h0
  rw [← hW]
  clear hW
  have HX := veil (indexE_any (c := c) eb (unveil HR W B0) hl)
  obtain ⟨c0, c1, c2, c3, c4, c5, c6⟩ := cb.cells
  have HB0 := veil B0
  clear cb eb B0 HR
  go_wp2_with (go_at_call 54; refine (unveil HX).mono ?_; rintro e w2 ⟨rfl, d2⟩; clear HX)
  go_ret
  exact ⟨rfl, Below.next (unveil HB0) d2⟩
theorem ret_own {W : World} {R : Nat} {p n : Int} {a : Option Addr} {m c : Nat} {wh : Nat → Int} {tmps : Array Value} (d : cBlock W R p n a m c wh) (t2 : tmps[2]? = some (.pointer (some ⟨R, 0, none⟩))) :
    (results Try.f40 tmps).run Try.prog W = .ok (cVal p n a m c wh) W := by
  simp [results, Try.results40, t2, asAddr, load_client d]
/-- two boxes of clients. -/
theorem two_cl (w : World) (p n : Int) (a : Option Addr) (m c : Nat) (wh : Nat → Int) : ∃ W, W = (w.alloc (.cells (cCells p n a m c wh) 25)).alloc (.cells (cCells 0 0 none 0 0 (fun _ => 0)) 25) ∧ cBlock W w.heap.size p n a m c wh ∧ cBlock W (w.heap.size + 1) 0 0 none 0 0 (fun _ => 0) ∧ Below w.heap.size w W := by
  refine ⟨_, rfl, (cBlock.new _ _ _ _ _ _ _).next (below1 _ _), ?_, below2 _ _ _⟩
  have h0 := cBlock.new (w.alloc (.cells (cCells p n a m c wh) 25)) 0 0 none 0 0 (fun _ => 0)
  rw [show (w.alloc (.cells (cCells p n a m c wh) 25)).heap.size = w.heap.size + 1 by simp] at h0
  exact h0
set_option maxRecDepth 20000 in
set_option maxHeartbeats 4000000 in
theorem own_any (C : Cl) (a : Option Addr) (c : Nat) (w : World) (h : CIn w C a c) :
    Calls Try.prog 40 #[cVal C.p C.n a C.es.length c C.wh] w fun e w' => ∃ a' c', e = .returned (cVal C.p C.n a' C.es.length c' C.wh) ∧ w'.ownsRow (w.heap.size + 2) 37 6 (.slice a' C.es.length c') C.es.length ((evFlat C.es).map (Value.int .i64)) ∧ Below w.heap.size w w' := by
  obtain ⟨i6, hi6, hz60, hz61, hz62⟩ := info_of Try.infoEvent
  obtain ⟨p, n, es, wh⟩ := C
  have HR : Hid (∀ w', Below w.heap.size w w' → RowK .i64 w' a (6 * es.length) (evFlat es)) := veil fun w' b => h.row.below b
  have hnil := h.nil
  have hbig := h.big
  clear h
  simp only at *
  go_enter Try.func40, Try.ntmps40
  go_upto_region 1 with fail
  obtain ⟨W, hW, cb, zb, B0⟩ := two_cl w p n a es.length c wh
  rw [← hW]
  have hsz : W.heap.size = w.heap.size + 2 := by rw [hW]; simp
  clear hW
  have hR := unveil HR W B0
  obtain ⟨c0, c1, c2, c3, c4, c5, c6⟩ := cb.cells
  have cf := cb.free
  have HSZ := veil hsz
  have HB0 := veil (And.intro cb (And.intro zb B0))
  clear cb zb B0 HR hsz
  go_upto_region 2 with (at_builtin; refine wpList_append_rows rfl _ _ 22 rfl (w.heap.size + 2) 37 i6 _ 6 48 Try.underlying22 hi6 hz60 hz61 hz62 rfl (by decide) (.slice none 0 0) 0 [] rfl (World.ownsRow_nil _ _ _ _) a es.length c (evFlat es) rfl hR hnil (by unfold maxLen; omega) (by omega) (by have := unveil HSZ; omega) ?_; intro v2 W2 o2 g2; simp only [Nat.zero_add, List.nil_append] at o2; obtain ⟨a2, k2, rfl⟩ := own_form o2; have b2 : Below W.heap.size W W2 := (Below.refl _ _).grown g2 (Nat.le_refl _) (fun q hq => by cases hq); obtain ⟨c0, c1, c2, c3, c4, c5, c6⟩ := ((unveil HB0).1.next b2).cells; have cf := ((unveil HB0).1.next b2).free; have HO2 := veil o2; have HB2 := veil b2; clear o2 g2 b2)
  obtain ⟨W3, hW3, cb3, B3, tn3⟩ : ∃ W3, W3 = W2.setCell ⟨w.heap.size, 2, none⟩ (.slice a2 es.length k2) ∧ cBlock W3 w.heap.size p n a2 es.length k2 wh ∧ Below w.heap.size w W3 ∧ Turned w.heap.size W2 W3 :=
    ⟨_, rfl, ((unveil HB0).1.next (unveil HB2)).wait _ _ _, (Turned.set _ 2 _ _).under (Below.next (unveil HB0).2.2 (unveil HB2)) (Nat.le_refl _), Turned.set _ 2 _ _⟩
  rw [← hW3]
  clear hW3 c0 c1 c2 c3 c4 c5 c6 cf
  obtain ⟨c0, c1, c2, c3, c4, c5, c6⟩ := cb3.cells
  have zb3 := ((unveil HB0).2.1.next (unveil HB2)).turned tn3 (by omega)
  obtain ⟨z0, z1, z2, z3, z4, z5, z6⟩ := zb3.cells
  have zf := zb3.free
  have O3 := tn3.own (unveil HO2) (by omega)
  have HA := veil (And.intro zb3 (And.intro B3 O3))
  clear cb3 zb3 B3 tn3 O3 HO2 HB2 HB0
  go_wp2
  obtain ⟨W4, hW4, cb4, B4, tn4⟩ := c_stored (unveil HA).1 (unveil HA).2.1 (by omega) p n a2 es.length k2 wh
  rw [← hW4]
  exact bodyPost_ret (ret_own cb4 rfl) rfl ⟨a2, k2, rfl, tn4.own (unveil HA).2.2 (by omega), B4⟩
end Go.Proofs.Ytjolamdlclcpcaa
