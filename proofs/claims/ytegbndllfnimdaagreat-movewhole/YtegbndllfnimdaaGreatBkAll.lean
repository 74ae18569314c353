/- Texts put together: BkA, BkB, BkD. -/
import Derived.Test.YtegbndllfnimdaaGreatBeAll
import Derived.Deep.QuietTactic
import Derived.BigQuiet
namespace Go.Proofs.YtegbndllfnimdaaGreat
open Go.RowKit

/-- an active berth. -/
abbrev Bt.act (E : Int) (es : List Ev) : Bt := ⟨1, E, 0, 0, 0, es⟩
theorem Tells.act_ok {E : Int} {es : List Ev} {s : St} {ans : List An} (h : Tells es s ans) (hl : es.length ≤ 2000) (h1 : 1 ≤ E) (h2 : E ≤ 1048576) : (Bt.act E es).Ok :=
  ⟨.inr (.inl ⟨rfl, h1, h2, rfl, rfl, rfl⟩), hl, s, ans, h⟩
/-- Make at a berth that nobody has. -/
theorem make_first (E : Int) (h1 : 1 ≤ E) (h2 : E ≤ 1000) (w : World) : Calls Tryz.prog 56 #[bVal 0 0 0 0 0 none 0 0, .int .i64 E] w fun x w' => ∃ a c, x = .returned (.tuple #[bVal 1 E 0 0 0 a 0 c, .int .i64 0]) ∧ BIn w' (Bt.act E []) a c ∧ (∀ x, a = some x → w.heap.size ≤ x.block) ∧ Below w.heap.size w w' := by
  refine (bmake_any Bt.zero none 0 E w ⟨RowK.nil _ _ _, Nat.le_refl _, fun _ => rfl⟩).mono ?_
  rintro x w' ⟨y, B', er, rfl, hm, ⟨⟨a, c, rfl, i, u⟩⟩, b⟩
  have e : makeOf Bt.zero E = (Bt.act E [], 0) := by
    unfold makeOf
    rw [if_neg (fun h => h Bt.zero_ok), if_neg (fun h => h ⟨h1, by omega⟩), if_neg (fun h => h rfl), if_neg (by show ¬ E ≤ 0; omega)]
  rw [e] at hm
  cases hm
  exact ⟨a, c, rfl, i, u, b⟩
/-- Serve at a berth that serves. -/
theorem serve_keep (B : Bt) (a : Option Addr) (c : Nat) (v : Ev) (s : St) (ans : List An) (w : World) (hb : BIn w B a c) (ok : B.Ok) (hr : B.r = 1 ∨ B.r = 2) (hl : B.es.length < 1999) (ht : Tells B.es s ans) (hv : v.Ok) (hk : ¬ v.k = 4) :
    Calls Tryz.prog 34 #[bVal B.r B.e B.f B.t B.o a B.es.length c, evIn v] w fun x w' => ∃ y an ch s' l, x = .returned (.tuple #[y, anOf an, .bool ch, .int .i64 0]) ∧ Step s v s' an ch ∧ (ch = false → l = []) ∧ (ch = true → l = [v]) ∧ BOut w w' (B.more l) y ∧ Below w.heap.size w w' := by
  refine (serve_any B a c v w hb (fun u hu => evFlat_wf (es := [v]) (fun x hx => by rw [List.mem_singleton.1 hx]; exact hv) u (by simpa [evFlat] using hu))).mono ?_
  rintro x w' ⟨y, an, ch, er, B', rfl, sr, q, b⟩
  cases sr with
  | state h => exact absurd ok h
  | fault _ f hf h0 => exact absurd (hf.symm.trans hv) h0
  | brk _ _ h => exact absurd h hk
  | shut _ _ _ h => omega
  | none _ _ _ h => omega
  | same _ _ _ _ s1 ans1 ht1 s' an st =>
    obtain ⟨rfl, _⟩ := ht.one ht1
    exact ⟨y, an, false, s', [], rfl, st, fun _ => rfl, fun h => (by cases h), by rw [Bt.more_nil]; exact q, b⟩
  | full _ _ _ _ s1 ans1 ht1 s' an st h => omega
  | done _ _ _ _ s1 ans1 ht1 s' an st _ =>
    obtain ⟨rfl, _⟩ := ht.one ht1
    exact ⟨y, an, true, s', [v], rfl, st, fun h => (by cases h), fun _ => rfl, q, b⟩
/-- the same at an active berth. -/
theorem serve_act (E : Int) (es : List Ev) (a : Option Addr) (c : Nat) (v : Ev) (s : St) (ans : List An) (w : World) (hb : BIn w (Bt.act E es) a c) (h1 : 1 ≤ E) (h2 : E ≤ 1000) (hl : es.length ≤ 60) (ht : Tells es s ans) (hv : v.Ok) (hk : ¬ v.k = 4) :
    Calls Tryz.prog 34 #[bVal 1 E 0 0 0 a es.length c, evIn v] w fun x w' => ∃ a' c' n' an ch s' l, x = .returned (.tuple #[bVal 1 E 0 0 0 a' n' c', anOf an, .bool ch, .int .i64 0]) ∧ n' = (es ++ l).length ∧ Step s v s' an ch ∧ (ch = false → l = []) ∧ (ch = true → l = [v]) ∧ BIn w' (Bt.act E (es ++ l)) a' c' ∧ (∀ x, a' = some x → w.heap.size ≤ x.block) ∧ Below w.heap.size w w' := by
  refine (serve_keep (Bt.act E es) a c v s ans w hb (ht.act_ok (by omega) h1 (by omega)) (.inl rfl) (by show es.length < 1999; omega) ht hv hk).mono ?_
  rintro x w' ⟨y, an, ch, s', l, rfl, st, h3, h4, ⟨⟨a', c', rfl, i, u⟩⟩, b⟩
  exact ⟨a', c', _, an, ch, s', l, rfl, rfl, st, h3, h4, i, u, b⟩
theorem Hist.more {es : List Ev} {s s' : St} {ans : List An} {v : Ev} {an : An} {ch : Bool} {l : List Ev} (h : Hist es s ans) (hv : DeedLike v) (st : Step s v s' an ch) (h0 : ch = false → l = []) (h1 : ch = true → l = [v]) : ∃ ans', Hist (es ++ l) s' ans' := by
  cases ch with
  | false =>
    rw [h0 rfl, List.append_nil, st.same]
    exact ⟨ans, h⟩
  | true =>
    rw [h1 rfl]
    exact ⟨_, .snoc h hv st⟩
/-- served on its way. -/
structure Sd (w wr : World) (R : Nat) (E : Int) (es : List Ev) (a : Option Addr) (c : Nat) : Prop where
  z : bBlock wr w.heap.size 0 0 0 0 0 none 0 0
  b : bBlock wr R 1 E 0 0 0 a es.length c
  i : BIn wr (Bt.act E es) a c
  f : ∀ x, a = some x → w.heap.size < x.block ∧ (0 < es.length → x.block ≠ R)
  bel : Below w.heap.size w wr
  up : w.heap.size < R
theorem Sd.next {w wr wx : World} {R : Nat} {E : Int} {es : List Ev} {a : Option Addr} {c : Nat} (h : Sd w wr R E es a c) (b : Below wr.heap.size wr wx) : Sd w wx R E es a c :=
  ⟨h.z.next b, h.b.next b, h.i.next b, h.f, Below.next h.bel b, h.up⟩
/-- what served has behind some deeds. -/
structure Sh (E : Int) (es : List Ev) (s : St) (ans : List An) (m : Nat) : Prop where
  h : Hist es s ans
  len : es.length ≤ m
  nb : ∀ v ∈ es, ¬ v.k = 4
theorem ret_kserved {W : World} {R : Nat} {r e f t o : Int} {a : Option Addr} {n c : Nat} {ok : Bool} {tmps : Array Value} (d : bBlock W R r e f t o a n c) (t1 : tmps[6]? = some (.pointer (some ⟨R, 0, none⟩))) (t2 : tmps[7]? = some (.bool ok)) :
    (results Tryz.f26 tmps).run Tryz.prog W = .ok (.tuple #[bVal r e f t o a n c, .bool ok]) W := by
  simp [results, Tryz.results26, t1, t2, asAddr, load_berth d]
theorem zb_made (w : World) : ∃ W, W = w.alloc (.cells (bCells 0 0 0 0 0 none 0 0) 26) ∧ bBlock W w.heap.size 0 0 0 0 0 none 0 0 ∧ Below w.heap.size w W := ⟨_, rfl, bBlock.new _ _ _ _ _ _ _ _ _, below1 _ _⟩
theorem b_made (w : World) (r e f t o : Int) (a : Option Addr) (n c : Nat) : ∃ W, W = w.alloc (.cells (bCells r e f t o a n c) 26) ∧ bBlock W w.heap.size r e f t o a n c ∧ Below w.heap.size w W := ⟨_, rfl, bBlock.new _ _ _ _ _ _ _ _ _, below1 _ _⟩
theorem e_made (w : World) (v : Ev) : ∃ W, W = w.alloc (.cells #[.int .i64 v.k, .int .i64 v.p, .int .i64 v.i, .int .i64 v.b, .int .i64 v.he, .int .i64 v.hn] 48) ∧ W.heap[w.heap.size]? = some (.cells #[.int .i64 v.k, .int .i64 v.p, .int .i64 v.i, .int .i64 v.b, .int .i64 v.he, .int .i64 v.hn] 48 (0, 0)) ∧ Below w.heap.size w W := ⟨_, rfl, heap_alloc_new _ _, below1 _ _⟩
set_option maxRecDepth 20000 in
set_option maxHeartbeats 4000000 in
theorem kserved_any (ep : Int) (a0 : Option Addr) (len cap mo : Nat) (D : List Int) (w : World) (h : RowK .i64 w a0 (4 * len) D) (wep : (Lit.int .i64 ep).wf = true) (hmo : mo ≤ 60) :
    Calls Tryz.prog 26 #[.int .i64 ep, .slice a0 len cap, .int .i64 mo] w fun x w' => ∃ E es s ans y, x = .returned (.tuple #[y, .bool true]) ∧ Hist es s ans ∧ es.length ≤ mo ∧ (∀ v ∈ es, ¬ v.k = 4) ∧ 1 ≤ E ∧ E ≤ 1000 ∧ BOut w w' (Bt.act E es) y ∧ Below w.heap.size w w' := by
  have p0 := pickedOf_range ep 1000 (by decide)
  have H1 := fun w => picked_any ep 1000 w wep (by decide) (by decide)
  generalize pickedOf ep 1000 = p at p0 H1
  have HMk := fun w => make_first (1 + p) (by omega) (by omega) w
  obtain ⟨E, hE⟩ : ∃ E, E = 1 + p := ⟨_, rfl⟩
  rw [← hE] at HMk
  have hw : IntKind.i64.wrap (1 + p) = E := by rw [hE, IntKind.wrap_i64]; omega
  have hE1 : 1 ≤ E ∧ E ≤ 1000 := by omega
  clear hE p0
  go_enter Tryz.func26, Tryz.ntmps26
  go_upto_region 1 with fail
  obtain ⟨W1, hW1, z1, b1⟩ := zb_made w
  rw [← hW1]
  clear hW1
  go_upto_region 2 with (first
    | (go_at_call 29; refine (H1 _).mono ?_; rintro x w2 ⟨rfl, hw2⟩; subst w2)
    | (go_at_call 56; refine (HMk _).mono ?_; rintro x W2 ⟨a1, c1, rfl, i2, u2, b2⟩))
  obtain ⟨W3, hW3, k3, b3⟩ := b_made W2 1 E 0 0 0 a1 0 c1
  rw [← hW3]
  clear hW3 HMk H1
  have D3 : Sd w W3 W2.heap.size E [] a1 c1 := ⟨(z1.next b2).next b3, k3, i2.next b3, fun x hx => ⟨by have := u2 x hx; have := z1.lt; omega, fun h => absurd h (Nat.lt_irrefl _)⟩, Below.next (Below.next b1 b2) b3, by have := (z1.next b2).lt; omega⟩
  clear k3 z1 b1 i2 u2 b2 b3
  obtain ⟨R, hR⟩ : ∃ R, R = W2.heap.size := ⟨_, rfl⟩
  rw [← hR] at D3 ⊢
  clear hR
  obtain ⟨x0, x1, x2, x3, x4, x5⟩ := D3.b.cells
  have HD3 := veil D3
  clear D3
  go_upto_region 4 with fail
  clear x0 x1 x2 x3 x4 x5
  have D3 := unveil HD3
  clear HD3
  go_upto_region 5 with fail
  go_loopw [10] (fun i wr => ∃ (m : Nat) (es : List Ev) (s : St) (ans : List An) (a : Option Addr) (c : Nat), m ≤ len ∧ m ≤ mo ∧ i = .int .i64 m ∧ Sd w wr R E es a c ∧ Hid (Sh E es s ans m)) (fun i _ => len - (intOf i).toNat)
  case atStart => exact ⟨0, [], St.zero, [], a1, c1, Nat.zero_le _, Nat.zero_le _, rfl, D3, veil ⟨.nil, Nat.le_refl _, fun v hv => by cases hv⟩⟩
  case round =>
    obtain ⟨m, es, s, ans, a, c, hml, hmm, rfl, Dm, HS⟩ := hrel
    clear D3
    have sh := unveil HS
    have ht := sh.h.tells
    have hlen : es.length ≤ 60 := by have := sh.len; omega
    have ok : (Bt.act E es).Ok := ht.act_ok (by omega) hE1.1 (by omega)
    obtain ⟨n, hn⟩ : ∃ n, es.length = n := ⟨_, rfl⟩
    by_cases hlt : m < len ∧ m < mo
    case neg =>
      have hend : (m = len) ∨ (m < len ∧ m = mo) := by omega
      have HD := veil Dm
      have HC : Hid (∀ W, Below wr.heap.size wr W → Calls Tryz.prog 43 #[bVal 1 E 0 0 0 a es.length c] W fun x w' => x = .returned (.int .i64 0) ∧ Below W.heap.size W w') := veil fun W b => bcheck_yes (Bt.act E es) a c W (Dm.i.next b) ok
      have HX : Hid (1 ≤ E ∧ E ≤ 1000) := veil hE1
      have HLM : Hid (es.length ≤ mo) := veil (by have := sh.len; omega)
      clear Dm hlt hn ok ht sh hE1
      have hgo : ∀ (_ : Unit), True := fun _ => trivial
      clear hgo
      rcases hend with rfl | ⟨hlt, rfl⟩
      all_goals
        go_upto_region 13 with fail
        clear hml hmm
        have D0 := unveil HD
        refine wp_region_held_drew (S := fun u => bBlock u R 1 E 0 0 0 a es.length c) (by kernel_rfl) (D0.b.next (below_drew wr)) (fun hHeld => ?_)
        refine wpAnyH_take (i := 0) (v := bVal 1 E 0 0 0 a es.length c) rfl (by kernel_rfl) (by kernel_rfl) (by kernel_rfl) (fun _ _ _ h => h) (Or.inl ⟨by rfl, fun u h => by obtain ⟨x0, x1, x2, x3, x4, x5⟩ := bBlock.cells h; go_simp⟩) hHeld ?_
        simp only [List.getElem_toArray, List.getElem_cons_zero, Act.put, List.setIfInBounds_toArray, List.set_cons_zero, List.set_cons_succ]
        refine wpAnyH_take (i := 1) (v := bVal 1 E 0 0 0 a es.length c) rfl (by kernel_rfl) (by kernel_rfl) (by kernel_rfl) (fun _ _ _ h => h) (Or.inl ⟨by rfl, fun u h => by obtain ⟨x0, x1, x2, x3, x4, x5⟩ := bBlock.cells h; go_simp⟩) hHeld ?_
        simp only [List.getElem_toArray, List.getElem_cons_zero, List.getElem_cons_succ, Act.put, List.setIfInBounds_toArray, List.set_cons_zero, List.set_cons_succ]
        have D1 := D0.next (below_drew wr)
        have hC := unveil HC wr.drew (below_drew wr)
        obtain ⟨W0, hW0⟩ : ∃ W0, W0 = wr.drew := ⟨_, rfl⟩
        rw [← hW0] at D1 hC hHeld ⊢
        clear hW0 D0
        refine wpAnyH_ready (rs := [2]) (by kernel_rfl) (by simp) ?_
        refine AllReadyH.cons rfl (fun K hK => ?_) AllReadyH.nil
        simp only [List.getElem_toArray, List.getElem_cons_zero, List.getElem_cons_succ]
        go_simp
        refine hC.mono ?_
        rintro x W5 ⟨rfl, b5⟩
        have D5 := D1.next b5
        refine hK.out _ _ D5.b (fun hHeld => ?_)
        clear hK K D1 b5 hC
        refine wpAnyH_take (i := 3) (v := .bool true) rfl (by kernel_rfl) (by kernel_rfl) (by kernel_rfl) (fun _ _ _ h => h) (Or.inl ⟨by rfl, fun _ _ => by go_simp⟩) hHeld ?_
        simp only [List.getElem_toArray, List.getElem_cons_zero, List.getElem_cons_succ, Act.put, List.setIfInBounds_toArray, List.set_cons_zero, List.set_cons_succ]
        refine wpAnyH_ready (rs := [4]) (by kernel_rfl) (by simp) ?_
        refine AllReadyH.cons rfl (fun K hK => ?_) AllReadyH.nil
        simp only [List.getElem_toArray, List.getElem_cons_zero, List.getElem_cons_succ]
        obtain ⟨z0, z1, z2, z3, z4, z5⟩ := D5.z.cells
        have zf := D5.z.free
        go_simp
        obtain ⟨W6, hW6, d6, b6, t6⟩ := b_stored D5.z D5.bel (Nat.le_refl _) 1 E 0 0 0 a es.length c
        rw [← hW6]
        clear hW6
        have hup := D5.up
        have hff := D5.f
        have i6 := D5.i.turned t6 (fun x hx _ => by have := (hff x hx).1; omega)
        refine hK.out _ _ (D5.b.turned t6 (by omega)) (fun hHeld => ?_)
        clear hK K z0 z1 z2 z3 z4 z5 zf
        refine wpAnyH_take (i := 5) (v := .bool true) rfl (by kernel_rfl) (by kernel_rfl) (by kernel_rfl) (fun _ _ _ h => h) (Or.inl ⟨by rfl, fun _ _ => by go_simp⟩) hHeld ?_
        simp only [List.getElem_toArray, List.getElem_cons_zero, List.getElem_cons_succ, Act.put, List.setIfInBounds_toArray, List.set_cons_zero, List.set_cons_succ]
        refine wpAnyH_done (by kernel_rfl) ?_ _
        have HD6 := veil d6
        have HB6 := veil b6
        have HI6 := veil i6
        clear d6 b6 i6 t6 D5 hHeld
        go_wp2
        have sh := unveil HS
        exact bodyPost_ret (ret_kserved (unveil HD6) rfl rfl) rfl ⟨E, es, s, ans, _, rfl, sh.h, unveil HLM, sh.nb, (unveil HX).1, (unveil HX).2, ⟨a, c, rfl, unveil HI6, fun x hx => by have := (hff x hx).1; omega⟩, unveil HB6⟩
    case pos =>
      obtain ⟨h1, h2⟩ := hlt
      have hr := h.below Dm.bel
      obtain ⟨g, off, rfl⟩ := h.form (by omega)
      obtain ⟨x0, hx0⟩ : ∃ x, x = D.getD (4 * m) 0 := ⟨_, rfl⟩
      obtain ⟨x1, hx1⟩ : ∃ x, x = D.getD (4 * m + 1) 0 := ⟨_, rfl⟩
      obtain ⟨x2, hx2⟩ : ∃ x, x = D.getD (4 * m + 2) 0 := ⟨_, rfl⟩
      obtain ⟨x3, hx3⟩ : ∃ x, x = D.getD (4 * m + 3) 0 := ⟨_, rfl⟩
      have k0 : wr.cell? ⟨g, off + m * 4, none⟩ = some (.int .i64 x0) := by rw [Nat.mul_comm m 4, hx0]; exact hr.at (4 * m) (by omega)
      have k1 : wr.cell? ⟨g, off + m * 4 + 1, none⟩ = some (.int .i64 x1) := by rw [Nat.mul_comm m 4, hx1]; exact hr.at (4 * m + 1) (by omega)
      have k2 : wr.cell? ⟨g, off + m * 4 + 2, none⟩ = some (.int .i64 x2) := by rw [Nat.mul_comm m 4, hx2]; exact hr.at (4 * m + 2) (by omega)
      have k3 : wr.cell? ⟨g, off + m * 4 + 3, none⟩ = some (.int .i64 x3) := by rw [Nat.mul_comm m 4, hx3]; exact hr.at (4 * m + 3) (by omega)
      have w0 : (Lit.int .i64 x0).wf = true := by rw [hx0]; exact getD_fits D h.wf _
      have w1 : (Lit.int .i64 x1).wf = true := by rw [hx1]; exact getD_fits D h.wf _
      have w2 : (Lit.int .i64 x2).wf = true := by rw [hx2]; exact getD_fits D h.wf _
      have w3 : (Lit.int .i64 x3).wf = true := by rw [hx3]; exact getD_fits D h.wf _
      obtain ⟨v, hv⟩ : ∃ v, v = deedEv x0 x1 x2 x3 := ⟨_, rfl⟩
      have HV : Hid (DeedLike v) := veil (by rw [hv]; exact deedEv_like _ _ _ _)
      have hE : ∀ w, Calls Tryz.prog 33 #[.agg #[.int .i64 x0, .int .i64 x1, .int .i64 x2, .int .i64 x3]] w fun e w' => e = .returned (evIn v) ∧ Below w.heap.size w w' := fun w => by rw [hv]; exact event_ev x0 x1 x2 x3 w w0 w1 w2 w3
      have HD := veil Dm
      have H := veil h
      have HT := veil ht
      clear Dm h hr hv w0 w1 w2 w3 hx0 hx1 hx2 hx3 sh ht ok hn
      go_upto_region 8 with (go_at_call 33; refine (hE _).mono ?_; rintro x W4 ⟨rfl, b4⟩; clear hE k0 k1 k2 k3)
      obtain ⟨W5, hW5, e5, b5⟩ := e_made W4 v
      rw [← hW5]
      have D5 := ((unveil HD).next b4).next b5
      clear hW5 b4 b5 HD
      obtain ⟨v0, v1, v2, v3, v4, v5⟩ := ev_box (w0 := W4) e5
      by_cases hk : v.k = 4
      · have HD5 := veil D5
        clear D5 e5
        go_wp2
        refine ⟨⟨m + 1, es, s, ans, a, c, by omega, by omega, by go_num, unveil HD5, veil ⟨(unveil HS).h, by have := (unveil HS).len; omega, (unveil HS).nb⟩⟩, by simp [intOf]; omega⟩
      · have hSv := serve_act E es a c v s ans W5 D5.i hE1.1 hE1.2 hlen (unveil HT) (unveil HV).ok hk
        obtain ⟨y0, y1, y2, y3, y4, y5⟩ := D5.b.cells
        have HD5 := veil D5
        clear D5 e5
        go_upto_region 10 with (go_at_call 34; refine hSv.mono ?_; rintro x W6 ⟨a', c', n', an, ch, s', l, rfl, hn', st, hl0, hl1, i6, u6, b6⟩; have HN := veil hn'; have HST := veil st; have HI6 := veil i6; have HU6 := veil u6; have HD6 := veil ((unveil HD5).next b6); have HL := veil (And.intro hl0 hl1); have hs6 := b6.size; have hl5 := (unveil HD5).b.lt; clear hSv hn' st i6 u6 b6 hl0 hl1 y0 y1 y2 y3 y4 y5 v0 v1 v2 v3 v4 v5 HD5)
        obtain ⟨W8, hW8, q8, b8⟩ : ∃ W8, W8 = (W6.alloc (.cells (bCells 1 E 0 0 0 a' n' c') 26)).alloc (.cells #[.int .i64 an.c, .int .i64 an.he, .int .i64 an.no, .int .i64 an.bd] 44) ∧ bBlock W8 W6.heap.size 1 E 0 0 0 a' n' c' ∧ Below W6.heap.size W6 W8 := ⟨_, rfl, (bBlock.new _ _ _ _ _ _ _ _ _).next (below1 _ _), below2 _ _ _⟩
        rw [← hW8]
        clear hW8
        have D8 := (unveil HD6).next b8
        have hne : R ≠ W6.heap.size := by have := (unveil HD6).b.lt; omega
        obtain ⟨y0, y1, y2, y3, y4, y5⟩ := D8.b.cells
        obtain ⟨u0, u1, u2, u3, u4, u5⟩ := q8.cells
        have yf := D8.b.free
        have hw8 : IntKind.i64.wrap ((es.length : Int) + 1) = (es.length : Int) + 1 := by rw [IntKind.wrap_i64]; omega
        have e8 : ((n' : Int) == (es.length : Int) + 1) = ch := by
          have hnn := unveil HN
          cases ch with
          | false =>
            rw [(unveil HL).1 rfl] at hnn
            simp at hnn ⊢
            omega
          | true =>
            rw [(unveil HL).2 rfl] at hnn
            simp at hnn ⊢
            omega
        have HD8 := veil D8
        have HI8 := veil ((unveil HI6).next b8)
        have hup := (unveil HD6).up
        clear D8 q8 b8 HD6 HI6
        obtain ⟨ans', hh⟩ := (unveil HS).h.more (unveil HV) (unveil HST) (unveil HL).1 (unveil HL).2
        have HH : Hid (Sh E (es ++ l) s' ans' (m + 1)) := veil ⟨hh, by
          have := (unveil HS).len
          cases ch with
          | false => rw [(unveil HL).1 rfl]; simp; omega
          | true => rw [(unveil HL).2 rfl]; simp; omega, fun u hu => by
          rcases List.mem_append.1 hu with hu | hu
          · exact (unveil HS).nb u hu
          · cases ch with
            | false => rw [(unveil HL).1 rfl] at hu; cases hu
            | true => rw [(unveil HL).2 rfl] at hu; rw [List.mem_singleton.1 hu]; exact hk⟩
        clear hh
        have HCH := veil e8
        cases ch with
        | false =>
          go_wp2
          obtain ⟨W9, hW9, d9, b9, t9⟩ := b_stored (unveil HD8).b (unveil HD8).bel (Nat.le_of_lt hup) 1 E 0 0 0 a' n' c'
          rw [← hW9]
          have D9 : Sd w W9 R E (es ++ l) a' c' := ⟨(unveil HD8).z.turned t9 (by omega), by rw [← unveil HN]; exact d9, (unveil HI8).turned t9 (fun x hx _ => by have := unveil HU6 x hx; omega), fun x hx => by have := unveil HU6 x hx; omega, b9, hup⟩
          refine ⟨⟨m + 1, es ++ l, s', ans', a', c', by omega, by omega, by go_num, D9, HH⟩, by simp [intOf]; omega⟩
        | true =>
          go_wp2
          obtain ⟨W9, hW9, d9, b9, t9⟩ := b_stored (unveil HD8).b (unveil HD8).bel (Nat.le_of_lt hup) 1 E 0 0 0 a' n' c'
          rw [← hW9]
          have D9 : Sd w W9 R E (es ++ l) a' c' := ⟨(unveil HD8).z.turned t9 (by omega), by rw [← unveil HN]; exact d9, (unveil HI8).turned t9 (fun x hx _ => by have := unveil HU6 x hx; omega), fun x hx => by have := unveil HU6 x hx; omega, b9, hup⟩
          refine ⟨⟨m + 1, es ++ l, s', ans', a', c', by omega, by omega, by go_num, D9, HH⟩, by simp [intOf]; omega⟩
end Go.Proofs.YtegbndllfnimdaaGreat

namespace Go.Proofs.YtegbndllfnimdaaGreat
open Go.RowKit

abbrev Bt.drn (E t o : Int) (es : List Ev) : Bt := ⟨2, E, 0, t, o, es⟩
abbrev Bt.sld (E t : Int) (es : List Ev) : Bt := ⟨3, E, 0, t, 0, es⟩
abbrev Bt.imp (E f : Int) (es : List Ev) : Bt := ⟨4, E, f, 0, 0, es⟩
abbrev Bt.nob (E : Int) : Bt := ⟨0, E, 0, 0, 0, []⟩
section
variable {E t o f : Int} {es : List Ev} {s : St} {ans : List An}
theorem Tells.drn_ok (h : Tells es s ans) (hl : es.length ≤ 2000) (h1 : 1 ≤ E) (h2 : E ≤ 1048576) (h3 : 0 ≤ t) (h4 : t ≤ 4) (h5 : 0 ≤ o) (h6 : o ≤ 4) : (Bt.drn E t o es).Ok := ⟨.inr (.inr (.inl ⟨rfl, h1, h2, rfl, h3, h4, h5, h6⟩)), hl, s, ans, h⟩
theorem Tells.sld_ok (h : Tells es s ans) (hl : es.length ≤ 2000) (h1 : 1 ≤ E) (h2 : E ≤ 1048576) (h3 : 0 ≤ t) (h4 : t ≤ 4) : (Bt.sld E t es).Ok := ⟨.inr (.inr (.inr (.inl ⟨rfl, h1, h2, rfl, h3, h4, rfl⟩))), hl, s, ans, h⟩
theorem Tells.imp_ok (h : Tells es s ans) (hl : es.length ≤ 2000) (h1 : 1 ≤ E) (h2 : E ≤ 1048576) (h3 : 0 ≤ f) (h4 : f ≤ 4) : (Bt.imp E f es).Ok := ⟨.inr (.inr (.inr (.inr ⟨rfl, h1, h2, h3, h4, rfl, rfl⟩))), hl, s, ans, h⟩
theorem nob_ok (h1 : 0 ≤ E) (h2 : E ≤ 1048576) : (Bt.nob E).Ok := ⟨.inl ⟨rfl, rfl, h1, h2, rfl, rfl, rfl⟩, Nat.zero_le _, St.zero, [], .nil⟩
end
/-- what a call with a berth and an error answers. -/
theorem bt_out {g : Nat} {args : Array Value} {w : World} {p : Bt × Int} {B2 : Bt} {er2 : Int} (h : Calls Tryz.prog g args w fun x w' => ∃ y B' er, x = .returned (.tuple #[y, .int .i64 er]) ∧ p = (B', er) ∧ BOut w w' B' y ∧ Below w.heap.size w w') (e : p = (B2, er2)) :
    Calls Tryz.prog g args w fun x w' => ∃ a c, x = .returned (.tuple #[bVal B2.r B2.e B2.f B2.t B2.o a B2.es.length c, .int .i64 er2]) ∧ BIn w' B2 a c ∧ (∀ x, a = some x → w.heap.size ≤ x.block) ∧ Below w.heap.size w w' := by
  refine h.mono ?_
  rintro x w' ⟨y, B', er, rfl, e', ⟨⟨a, c, rfl, i, u⟩⟩, b⟩
  rw [e] at e'
  cases e'
  exact ⟨a, c, rfl, i, u, b⟩
/-- a berth in a box of a statement's own. -/
structure Kb (w wx : World) (R : Nat) (B : Bt) (a : Option Addr) (c : Nat) : Prop where
  b : bBlock wx R B.r B.e B.f B.t B.o a B.es.length c
  i : BIn wx B a c
  f : ∀ x, a = some x → 0 < B.es.length → x.block ≠ R
  bel : Below w.heap.size w wx
  up : w.heap.size ≤ R
theorem Kb.next {w wx wy : World} {R : Nat} {B : Bt} {a : Option Addr} {c : Nat} (h : Kb w wx R B a c) (b : Below wx.heap.size wx wy) : Kb w wy R B a c := ⟨h.b.next b, h.i.next b, h.f, Below.next h.bel b, h.up⟩
/-- a berth that was answered, in a new box. -/
theorem Kb.new {w w1 w2 : World} {B : Bt} {a : Option Addr} {c : Nat} (i : BIn w2 B a c) (b0 : Below w.heap.size w w1) (b : Below w1.heap.size w1 w2) :
    ∃ W, W = w2.alloc (.cells (bCells B.r B.e B.f B.t B.o a B.es.length c) 26) ∧ Kb w W w2.heap.size B a c ∧ Below w2.heap.size w2 W :=
  ⟨_, rfl, ⟨bBlock.new _ _ _ _ _ _ _ _ _, i.next (below1 _ _), fun x hx h0 => by have := i.row.blk_lt x hx (by omega); omega, Below.next (Below.next b0 b) (below1 _ _), Nat.le_trans b0.size b.size⟩, below1 _ _⟩
/-- a berth that was answered, stored into the box. -/
theorem Kb.put {w w1 w2 : World} {R : Nat} {B B' : Bt} {a a' : Option Addr} {c c' : Nat} (K : Kb w w1 R B a c) (i : BIn w2 B' a' c') (u : ∀ x, a' = some x → w1.heap.size ≤ x.block) (b : Below w1.heap.size w1 w2) :
    ∃ W, W = (((((w2.setCell ⟨R, 0, none⟩ (.int .i64 B'.r)).setCell ⟨R, 1, none⟩ (.int .i64 B'.e)).setCell ⟨R, 2, none⟩ (.int .i64 B'.f)).setCell ⟨R, 3, none⟩ (.int .i64 B'.t)).setCell ⟨R, 4, none⟩ (.int .i64 B'.o)).setCell ⟨R, 5, none⟩ (.slice a' B'.es.length c') ∧ Kb w W R B' a' c' ∧ Turned R w2 W := by
  have K2 := K.next b
  obtain ⟨W, hW, d, b2, t⟩ := b_stored K2.b K2.bel K.up B'.r B'.e B'.f B'.t B'.o a' B'.es.length c'
  have hlt := K.b.lt
  exact ⟨W, hW, ⟨d, i.turned t (fun x hx _ => by have := u x hx; omega), fun x hx _ => by have := u x hx; omega, b2, K.up⟩, t⟩
theorem Kb.turned {w wx wy : World} {R R' : Nat} {B : Bt} {a : Option Addr} {c : Nat} (h : Kb w wx R B a c) (t : Turned R' wx wy) (hR : R ≠ R') (hx : ∀ x, a = some x → 0 < B.es.length → x.block ≠ R') (hu : w.heap.size ≤ R') : Kb w wy R B a c := ⟨h.b.turned t hR, h.i.turned t hx, h.f, t.under h.bel hu, h.up⟩
section
variable (E : Int) (es : List Ev) (s : St) (ans : List An) (a : Option Addr) (c : Nat) (w : World)
/-- Go at an active berth. -/
theorem go_act (nd : Int) (hb : BIn w (Bt.act E es) a c) (ht : Tells es s ans) (hl : es.length ≤ 60) (h1 : 1 ≤ E) (h2 : E ≤ 1000) (h3 : 0 ≤ nd) (h4 : nd ≤ 4) :
    Calls Tryz.prog 27 #[bVal 1 E 0 0 0 a es.length c, .int .i64 nd] w fun x w' => ∃ a' c', x = .returned (.tuple #[bVal 2 E 0 nd 0 a' es.length c', .int .i64 0]) ∧ BIn w' (Bt.drn E nd 0 es) a' c' ∧ (∀ x, a' = some x → w.heap.size ≤ x.block) ∧ Below w.heap.size w w' :=
  bt_out (bgo_any (Bt.act E es) a c nd w hb) (B2 := Bt.drn E nd 0 es) (by
    unfold goesOf
    rw [if_neg (fun h => h (ht.act_ok (by omega) h1 (by omega))), if_neg (fun h => h ⟨h3, h4⟩), if_neg (by show ¬ ((1 : Int) = 2 ∨ (1 : Int) = 3); omega), if_neg (fun h => h rfl), if_neg (by show ¬ E = 1048576; omega)])
/-- Caught with all events: sealed. -/
theorem caught_all (t o : Int) (hb : BIn w (Bt.drn E t o es) a c) (ht : Tells es s ans) (hl : es.length ≤ 2000) (h1 : 1 ≤ E) (h2 : E ≤ 1000) (h3 : 0 ≤ t) (h4 : t ≤ 4) (h5 : 0 ≤ o) (h6 : o ≤ 4) :
    Calls Tryz.prog 28 #[bVal 2 E 0 t o a es.length c, .int .i64 es.length] w fun x w' => ∃ a' c', x = .returned (.tuple #[bVal 3 E 0 t 0 a' es.length c', .int .i64 0]) ∧ BIn w' (Bt.sld E t es) a' c' ∧ (∀ x, a' = some x → w.heap.size ≤ x.block) ∧ Below w.heap.size w w' :=
  bt_out (bcaught_any (Bt.drn E t o es) a c es.length w hb) (B2 := Bt.sld E t es) (by
    have h0 : tellOf (Bt.drn E t o es) es.length = 0 := by
      unfold tellOf
      rw [if_neg (fun h => h (ht.drn_ok hl h1 (by omega) h3 h4 h5 h6)), if_neg (fun h => h (.inl rfl)), if_neg (fun h => h ⟨by omega, Int.le_refl _⟩)]
    unfold caughtOf
    rw [if_neg (fun h => h h0), if_neg (by show ¬ (2 : Int) = 3; omega), if_pos (.inl rfl)])
end
end Go.Proofs.YtegbndllfnimdaaGreat

namespace Go.Proofs.YtegbndllfnimdaaGreat
open Go.RowKit

set_option maxHeartbeats 1000000 in
theorem sameEventsK_yes (a a' : Option Addr) (n cap cap' : Nat) (A : List Int) (w : World) (h : RowK .i64 w a (6 * n) A) (h' : RowK .i64 w a' (6 * n) A) (hm : n ≤ 3000000000000) :
    Calls Tryz.prog 12 #[.slice a n cap, .slice a' n cap'] w fun e w' => e = .returned (.bool true) ∧ ∃ m, w' = w.drewN m := by
  go_enter Tryz.func12, Tryz.ntmps12
  have ee : ((n : Int) == (n : Int)) = true := by simp
  go_wp2
  go_loopw [5] (fun t wr => ∃ k m : Nat, k ≤ n ∧ t = .int .i64 k ∧ wr = w.drewN m) (fun t _ => n - (intOf t).toNat)
  case atStart => exact ⟨0, 0, Nat.zero_le _, rfl, rfl⟩
  case round =>
    obtain ⟨k, m, hk, rfl, rfl⟩ := hrel
    by_cases hlt : k < n
    · obtain ⟨b, off, rfl⟩ := h.form (by omega)
      obtain ⟨b', off', rfl⟩ := h'.form (by omega)
      obtain ⟨m0, m1, m2, m3, m4, m5⟩ := h.six k hlt
      obtain ⟨n0, n1, n2, n3, n4, n5⟩ := h'.six k hlt
      generalize A.getD (6 * k) 0 = x0 at m0 n0
      generalize A.getD (6 * k + 1) 0 = x1 at m1 n1
      generalize A.getD (6 * k + 2) 0 = x2 at m2 n2
      generalize A.getD (6 * k + 3) 0 = x3 at m3 n3
      generalize A.getD (6 * k + 4) 0 = x4 at m4 n4
      generalize A.getD (6 * k + 5) 0 = x5 at m5 n5
      clear h h'
      have hki : (k : Int) < (n : Int) := by omega
      go_wp2_with fail
      go_quiet (fail)
      clear m0 m1 m2 m3 m4 m5 n0 n1 n2 n3 n4 n5
      go_wp2
      go_roundw
      case rel => exact ⟨k + 1, m + nq, by omega, by go_num, by first | exact (World.drewN_add _ _ _).symm | exact World.drewN_add _ _ _ | exact World.drewN_drewN _ _ _ | rfl | simp⟩
      case measure => simp [intOf]; omega
    · have hk' : k = n := by omega
      subst hk'
      go_wp2
      go_ret
      exact ⟨rfl, m, rfl⟩
theorem sameEventsK_below (a a' : Option Addr) (n cap cap' : Nat) (A : List Int) (w : World) (h : RowK .i64 w a (6 * n) A) (h' : RowK .i64 w a' (6 * n) A) (hm : n ≤ 3000000000000) :
    Calls Tryz.prog 12 #[.slice a n cap, .slice a' n cap'] w fun e w' => e = .returned (.bool true) ∧ Below w.heap.size w w' := by
  refine (sameEventsK_yes a a' n cap cap' A w h h' hm).mono ?_
  rintro e w' ⟨rfl, m, rfl⟩
  exact ⟨rfl, belowN _ _⟩
set_option maxRecDepth 20000 in
set_option maxHeartbeats 4000000 in
theorem sameBerthK_yes (r e f t o : Int) (a a' : Option Addr) (n cap cap' : Nat) (A : List Int) (w : World) (h : RowK .i64 w a (6 * n) A) (h' : RowK .i64 w a' (6 * n) A) (hm : n ≤ 3000000000000) :
    Calls Tryz.prog 31 #[bVal r e f t o a n cap, bVal r e f t o a' n cap'] w fun x w' => x = .returned (.bool true) ∧ Below w.heap.size w w' := by
  have hS : ∀ W, Below w.heap.size w W → Calls Tryz.prog 12 #[.slice a n cap, .slice a' n cap'] W fun e w' => e = .returned (.bool true) ∧ Below W.heap.size W w' := fun W b => sameEventsK_below a a' n cap cap' A W (h.below b) (h'.below b) hm
  have HS := veil hS
  clear h h' hS
  go_enter Tryz.func31, Tryz.ntmps31
  go_upto_region 1 with fail
  obtain ⟨W1, hW1, k1, k2, b1⟩ : ∃ W, W = (w.alloc (.cells (bCells r e f t o a n cap) 26)).alloc (.cells (bCells r e f t o a' n cap') 26) ∧ bBlock W w.heap.size r e f t o a n cap ∧ bBlock W (w.heap.size + 1) r e f t o a' n cap' ∧ Below w.heap.size w W := by
    refine ⟨_, rfl, (bBlock.new w _ _ _ _ _ _ _ _).next (below1 _ _), ?_, below2 _ _ _⟩
    have h0 := bBlock.new (w.alloc (.cells (bCells r e f t o a n cap) 26)) r e f t o a' n cap'
    rw [show (w.alloc (.cells (bCells r e f t o a n cap) 26)).heap.size = w.heap.size + 1 by simp] at h0
    exact h0
  rw [← hW1]
  have hC := unveil HS W1 b1
  obtain ⟨x0, x1, x2, x3, x4, x5⟩ := k1.cells
  obtain ⟨y0, y1, y2, y3, y4, y5⟩ := k2.cells
  have HB1 := veil b1
  clear hW1 k1 k2 b1 HS
  go_wp2_with (go_at_call 12; refine hC.mono ?_; rintro x W2 ⟨rfl, b2⟩; clear hC)
  go_ret
  exact ⟨by simp, Below.next (unveil HB1) b2⟩
end Go.Proofs.YtegbndllfnimdaaGreat
