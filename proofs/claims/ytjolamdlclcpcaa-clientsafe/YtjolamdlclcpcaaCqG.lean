/- Walks of client.Send, Done, New. -/
import Derived.Test.YtjolamdlclcpcaaCqF
namespace Go.Proofs.Ytjolamdlclcpcaa
open Go.RowKit

theorem MayR.total (C : Cl) (b : Int) : ∃ f, MayR C b f := by
  by_cases ok : C.Ok
  · by_cases hb : 0 ≤ b ∧ b ≤ 1000000
    · by_cases hf : C.full
      · exact ⟨_, .full ok hb hf⟩
      · exact ⟨_, .sent ok hb hf⟩
    · exact ⟨_, .range ok hb⟩
  · exact ⟨_, .state ok⟩
theorem MayR.det {C : Cl} {b f f' : Int} (h : MayR C b f) (h' : MayR C b f') : f = f' := by
  cases h <;> cases h' <;> first | rfl | contradiction
theorem maySend_is (C : Cl) (a : Option Addr) (c : Nat) (b f : Int) (w : World) (h : CIn w C a c) (hf : MayR C b f) :
    Calls Try.prog 39 #[cVal C.p C.n a C.es.length c C.wh, .int .i64 b] w fun e w' => e = .returned (.int .i64 f) ∧ Below w.heap.size w w' := by
  refine (maySend_any C a c b w h).mono ?_
  rintro e w' ⟨f', rfl, hm, bel⟩
  exact ⟨by rw [hf.det hm], bel⟩
theorem ret_Send {W : World} {R X : Nat} {p n : Int} {a : Option Addr} {m c : Nat} {wh : Nat → Int} {v : Ev} {e : Int} {tmps : Array Value} (d : cBlock W R p n a m c wh) (d' : eBlock W X v) (t4 : tmps[4]? = some (.pointer (some ⟨R, 0, none⟩))) (t5 : tmps[5]? = some (.pointer (some ⟨X, 0, none⟩))) (t6 : tmps[6]? = some (.int .i64 e)) :
    (results Try.f19 tmps).run Try.prog W = .ok (.tuple #[cVal p n a m c wh, evIn v, .int .i64 e]) W := by
  simp [results, Try.results19, t4, t5, t6, asAddr, load_client d, load_event d']
/-- what Send answers. -/
def SendOut (w w' : World) (C : Cl) (b : Int) (x : Value) : Prop := ∃ D y v e, x = .tuple #[y, evIn v, .int .i64 e] ∧ SendR C b D v e ∧ COut w w' D y
/-- the three boxes of Send. -/
theorem three_cl (w : World) (p n : Int) (a : Option Addr) (m c : Nat) (wh : Nat → Int) : ∃ W, W = ((w.alloc (.cells (cCells p n a m c wh) 25)).alloc (.cells (cCells 0 0 none 0 0 (fun _ => 0)) 25)).alloc (.cells #[.int .i64 0, .int .i64 0, .int .i64 0, .int .i64 0, .int .i64 0, .int .i64 0] 37) ∧
    cBlock W w.heap.size p n a m c wh ∧ cBlock W (w.heap.size + 1) 0 0 none 0 0 (fun _ => 0) ∧ eBlock W (w.heap.size + 2) Ev.nil ∧ Below w.heap.size w W ∧ W.heap.size = w.heap.size + 3 := by
  obtain ⟨W0, hW0, cb, zb, B0⟩ := two_cl w p n a m c wh
  have hs : W0.heap.size = w.heap.size + 2 := by rw [hW0]; simp
  refine ⟨W0.alloc (.cells #[.int .i64 0, .int .i64 0, .int .i64 0, .int .i64 0, .int .i64 0, .int .i64 0] 37), by rw [hW0], cb.next (below1 _ _), zb.next (below1 _ _), ?_, Below.next B0 (below1 _ _), by simp [hs]⟩
  have h0 := heap_alloc_new W0 (.cells #[.int .i64 0, .int .i64 0, .int .i64 0, .int .i64 0, .int .i64 0, .int .i64 0] 37)
  rw [hs] at h0
  exact h0
theorem evCells_wf {C : Cl} {b : Int} (ok : C.Ok) (hb : 0 ≤ b ∧ b ≤ 1000000) : ∀ u ∈ evCells (C.newEv b), (Lit.int .i64 u).wf = true := by
  intro u hu
  have := ok.p0; have := ok.p1; have := ok.n0; have := ok.n1
  simp only [evCells, Cl.newEv, List.mem_cons, List.not_mem_nil, or_false] at hu
  rcases hu with rfl | rfl | rfl | rfl | rfl | rfl <;> exact WalkArith.wf_i64 (by omega)

set_option maxRecDepth 20000 in
set_option maxHeartbeats 4000000 in
theorem send_any (C : Cl) (a : Option Addr) (c : Nat) (b : Int) (w : World) (h : CIn w C a c) :
    Calls Try.prog 19 #[cVal C.p C.n a C.es.length c C.wh, .int .i64 b] w fun e w' => ∃ x, e = .returned x ∧ SendOut w w' C b x ∧ Below w.heap.size w w' := by
  have HC : Hid (∀ W, Below w.heap.size w W → CIn W C a c) := veil fun W b => h.next b
  have hwf := h.row.wf
  clear h
  obtain ⟨W, hW, cb, zb, eb, B0, hsz⟩ := three_cl w C.p C.n a C.es.length c C.wh
  obtain ⟨f, hf⟩ := MayR.total C b
  have HC1 := maySend_is C a c b f W (unveil HC W B0) hf
  have HB := veil (And.intro cb (And.intro zb (And.intro eb (And.intro B0 hsz))))
  have bad : ∀ (hf0 : ¬ f = 0) (hr : SendR C b Cl.zero Ev.nil f), Calls Try.prog 19 #[cVal C.p C.n a C.es.length c C.wh, .int .i64 b] w fun e w' => ∃ x, e = .returned x ∧ SendOut w w' C b x ∧ Below w.heap.size w w' := by
    intro hf0 hr
    have HR := veil hr
    have hf1 : (f != 0) = true := by simpa using hf0
    clear HC hr hf
    go_enter Try.func19, Try.ntmps19
    go_upto_region 1 with fail
    rw [← hW]
    clear hW
    obtain ⟨c0, c1, c2, c3, c4, c5, c6⟩ := cb.cells
    clear cb zb eb B0 hsz
    go_wp2_with (go_at_call 39; refine HC1.mono ?_; rintro e W1 ⟨rfl, d1⟩; clear HC1 c0 c1 c2 c3 c4 c5 c6; obtain ⟨z0, z1, z2, z3, z4, z5, z6⟩ := ((unveil HB).2.1.next d1).cells; have zf := ((unveil HB).2.1.next d1).free; obtain ⟨e0, e1, e2, e3, e4, e5⟩ := ((unveil HB).2.2.1.next d1).cells; have ef := ((unveil HB).2.2.1.next d1).free)
    obtain ⟨W4, hW4, cb4, B4, tn4⟩ := c_stored ((unveil HB).2.1.next d1) (Below.next (unveil HB).2.2.2.1 d1) (by omega) 0 0 none 0 0 (fun _ => 0)
    rw [← hW4]
    obtain ⟨W5, hW5, eb5, B5, tn5⟩ := e_stored (((unveil HB).2.2.1.next d1).turned tn4 (by omega)) B4 (by omega) 0 0 0 0 0 0
    rw [← hW5]
    exact bodyPost_ret (ret_Send (cb4.turned tn5 (by omega)) eb5 rfl rfl rfl) rfl ⟨_, rfl, ⟨Cl.zero, _, Ev.nil, f, rfl, unveil HR, COut.zero _ _⟩, B5⟩
  cases hf with
  | state h => exact bad (by decide) (.state h)
  | range h hb => exact bad (by decide) (.range h hb)
  | full h hb hf => exact bad (by decide) (.full h hb hf)
  | sent ok hb hfl =>
  clear bad
  have HWF : Hid (∀ u ∈ evFlat C.es ++ evCells (C.newEv b), (Lit.int .i64 u).wf = true) := veil fun u hu => by
    rcases List.mem_append.1 hu with h | h
    · exact hwf u h
    · exact evCells_wf ok hb u h
  have HOK : Hid (C.Ok ∧ (0 ≤ b ∧ b ≤ 1000000) ∧ ¬ C.full) := veil ⟨ok, hb, hfl⟩
  have HO : Hid (∀ W, Below w.heap.size w W → Calls Try.prog 40 #[cVal C.p C.n a C.es.length c C.wh] W fun e w' => ∃ a' c', e = .returned (cVal C.p C.n a' C.es.length c' C.wh) ∧ w'.ownsRow (W.heap.size + 2) 37 6 (.slice a' C.es.length c') C.es.length ((evFlat C.es).map (Value.int .i64)) ∧ Below W.heap.size W w') := veil fun W b => own_any C a c W (unveil HC W b)
  have hl := ok.len
  have hn0 := ok.n0
  have hn1 : C.n < 1073741824 := by have := ok.n1; rcases Int.lt_or_eq_of_le this with h | h; exact h; exact absurd (.inl h) hfl
  obtain ⟨i6, hi6, hz60, hz61, hz62⟩ := info_of Try.infoEvent
  clear HC hwf ok hb hfl
  have HEND : Hid (∀ (W9 : World) (a' : Option Addr) (c' : Nat), W9.ownsRow (w.heap.size + 2) 37 6 (.slice a' (C.es.length + 1) c') (C.es.length + 1) ((evFlat C.es ++ evCells (C.newEv b)).map (Value.int .i64)) → SendOut w W9 C b (.tuple #[cVal C.p (C.n + 1) a' (C.es.length + 1) c' C.wh, evIn (C.newEv b), .int .i64 0])) := veil fun W9 a' c' o => by
    obtain ⟨a3, k3, e3, r3, l3, _, n3, u3⟩ := RowK.ofMany o (unveil HWF)
    cases e3
    have hlen : (C.es ++ [C.newEv b]).length = C.es.length + 1 := by simp
    refine ⟨_, _, _, _, rfl, .sent (unveil HOK).1 (unveil HOK).2.1 (unveil HOK).2.2, ⟨a', c', by rw [hlen], ⟨?_, ?_, n3, ?_⟩, fun x hx => by have := u3 x hx; omega⟩⟩
    · show RowK .i64 W9 a' (6 * (C.es ++ [C.newEv b]).length) (evFlat (C.es ++ [C.newEv b]))
      rw [hlen, evFlat_snoc]
      exact r3
    · show (C.es ++ [C.newEv b]).length ≤ c'
      rw [hlen]; exact l3
    · show (C.es ++ [C.newEv b]).length * 48 ≤ _
      rw [hlen]; omega
  clear HWF HOK
  obtain ⟨p, n, es, wh⟩ := C
  simp only [Cl.newEv, evCells] at *
  go_enter Try.func19, Try.ntmps19
  go_upto_region 1 with fail
  rw [← hW]
  clear hW
  obtain ⟨c0, c1, c2, c3, c4, c5, c6⟩ := cb.cells
  clear cb zb eb B0 hsz
  go_upto_region 4 with (go_at_call 39; refine HC1.mono ?_; rintro e W1 ⟨rfl, d1⟩; clear HC1 c0 c1 c2 c3 c4 c5 c6; obtain ⟨c0, c1, c2, c3, c4, c5, c6⟩ := ((unveil HB).1.next d1).cells)
  have hlt1 := ((unveil HB).1.next d1).lt
  have hne1 : w.heap.size ≠ W1.heap.size := by omega
  go_upto_region 5 with fail
  obtain ⟨W2, hW2, cb2, zb2, eb2, vb2, B2, hs2⟩ : ∃ W2, W2 = W1.alloc (.cells #[.int .i64 1, .int .i64 p, .int .i64 n, .int .i64 b, .int .i64 0, .int .i64 0] 37) ∧ cBlock W2 w.heap.size p n a es.length c wh ∧ cBlock W2 (w.heap.size + 1) 0 0 none 0 0 (fun _ => 0) ∧ eBlock W2 (w.heap.size + 2) Ev.nil ∧ eBlock W2 W1.heap.size ⟨1, p, n, b, 0, 0⟩ ∧ Below w.heap.size w W2 ∧ (w.heap.size + 3 ≤ W1.heap.size ∧ W2.heap.size = W1.heap.size + 1) :=
    ⟨_, rfl, ((unveil HB).1.next d1).next (below1 _ _), ((unveil HB).2.1.next d1).next (below1 _ _), ((unveil HB).2.2.1.next d1).next (below1 _ _), heap_alloc_new _ _, Below.next (Below.next (unveil HB).2.2.2.1 d1) (below1 _ _), by have := (unveil HB).2.2.2.2; have := d1.size; omega, by simp⟩
  rw [← hW2]
  clear hW2 c0 c1 c2 c3 c4 c5 c6 d1 HB hlt1 hne1
  generalize W1.heap.size = X at *
  obtain ⟨c0, c1, c2, c3, c4, c5, c6⟩ := cb2.cells
  have cf := cb2.free
  have HO1 := unveil HO W2 B2
  have H2 := veil (And.intro cb2 (And.intro zb2 (And.intro eb2 (And.intro vb2 (And.intro B2 hs2)))))
  clear cb2 zb2 eb2 vb2 B2 hs2 HO
  go_upto_region 6 with (go_at_call 40; refine HO1.mono ?_; rintro e W3 ⟨a3, k3, rfl, o3, d3⟩; clear HO1 c0 c1 c2 c3 c4 c5 c6 cf; obtain ⟨c0, c1, c2, c3, c4, c5, c6⟩ := ((unveil H2).1.next d3).cells; have cf := ((unveil H2).1.next d3).free; have HO3 := veil o3; have HD3 := veil d3; clear o3 d3)
  obtain ⟨W4, hW4, cb4, B4, tn4⟩ := c_stored ((unveil H2).1.next (unveil HD3)) (Below.next (unveil H2).2.2.2.2.1 (unveil HD3)) (Nat.le_refl _) p n a3 es.length k3 wh
  rw [← hW4]
  have hbs : Hid (w.heap.size + 3 ≤ X ∧ X < W2.heap.size + 2 ∧ W2.heap.size + 2 ≤ W2.heap.size + 2) := veil ⟨(unveil H2).2.2.2.2.2.1, by have := (unveil H2).2.2.2.2.2.2; omega, Nat.le_refl _⟩
  have zb4 := ((unveil H2).2.1.next (unveil HD3)).turned tn4 (by omega)
  have eb4 := ((unveil H2).2.2.1.next (unveil HD3)).turned tn4 (by omega)
  have vb4 := ((unveil H2).2.2.2.1.next (unveil HD3)).turned tn4 (by have := (unveil hbs).1; omega)
  have O4 := tn4.own (unveil HO3) (by have := unveil hbs; omega)
  have O4' : W4.ownsRow (X + 1) 37 6 (.slice a3 es.length k3) es.length ((evFlat es).map (Value.int .i64)) := own_lower O4 (by have := (unveil H2).2.2.2.2.2.2; omega)
  have hXs : w.heap.size + 3 ≤ X := (unveil hbs).1
  clear hW4 c0 c1 c2 c3 c4 c5 c6 cf hbs O4 HO3 HD3 H2
  obtain ⟨c0, c1, c2, c3, c4, c5, c6⟩ := cb4.cells
  have cf := cb4.free
  obtain ⟨v0, v1, v2, v3, v4, v5⟩ := vb4.cells
  have hX4 : X < W4.heap.size := vb4.lt
  have hsn : w.heap.size ≠ W4.heap.size := by omega
  have hXn : X ≠ W4.heap.size := by omega
  have b5 : Below W4.heap.size W4 (W4.alloc (.cells #[.int .i64 1, .int .i64 p, .int .i64 n, .int .i64 b, .int .i64 0, .int .i64 0] 37)) := below1 _ _
  have HO5 : Hid ((W4.alloc (.cells #[.int .i64 1, .int .i64 p, .int .i64 n, .int .i64 b, .int .i64 0, .int .i64 0] 37)).ownsRow (X + 1) 37 6 (.slice a3 es.length k3) es.length ((evFlat es).map (Value.int .i64))) := veil (own_still O4' (fun g _ hg => b5.block g hg))
  have HG : Hid (∀ w6, (W4.alloc (.cells #[.int .i64 1, .int .i64 p, .int .i64 n, .int .i64 b, .int .i64 0, .int .i64 0] 37)).grownBy w6 (Value.slice a3 es.length k3).ownBlock → Below (X + 1) W4 w6) := veil fun w6 g => ((b5.mono (show X + 1 ≤ W4.heap.size from hX4)).grown g (by have := b5.size; omega) (fun q hq => (O4'.lt q hq).1))
  have H4 := veil (And.intro cb4 (And.intro zb4 (And.intro eb4 (And.intro vb4 B4))))
  clear cb4 zb4 eb4 vb4 B4 b5 O4' tn4
  go_upto_region 7 with (at_builtin; refine wpList_append_own _ rfl _ _ 22 rfl (X + 1) 37 i6 _ 6 48 Try.underlying22 hi6 hz60 hz61 hz62 rfl (by decide) (.slice a3 es.length k3) es.length ((evFlat es).map (Value.int .i64)) rfl (unveil HO5) ⟨W4.heap.size, 0, none⟩ 1 1 ([1, p, n, b, 0, 0].map (Value.int .i64)) rfl rfl (news6 _ _ _ _ _ _ _ _) (ints_oneCell _ _) (by unfold maxLen; omega) (by omega) (by simp; omega) ?_; intro v6 W6 own6 grow6 _; obtain ⟨a6, k6, rfl⟩ := own_form own6; rw [← List.map_append] at own6; have HO6 := veil own6; have d6 := unveil HG W6 grow6; obtain ⟨c0, c1, c2, c3, c4, c5, c6⟩ := ((unveil H4).1.below d6 (by omega)).cells; have cf := ((unveil H4).1.below d6 (by omega)).free; have HD6 := veil d6; clear own6 grow6 d6)
  obtain ⟨W7, hW7, cb7, tn7⟩ : ∃ W7, W7 = W6.setCell ⟨w.heap.size, 2, none⟩ (.slice a6 (es.length + 1) k6) ∧ cBlock W7 w.heap.size p n a6 (es.length + 1) k6 wh ∧ Turned w.heap.size W6 W7 :=
    ⟨_, rfl, ((unveil H4).1.below (unveil HD6) (by omega)).wait _ _ _, Turned.set _ _ _ _⟩
  rw [← hW7]
  have B7 : Below w.heap.size w W7 := tn7.under ((unveil H4).2.2.2.2.trans ((unveil HD6).mono (by omega))) (Nat.le_refl _)
  have zb7 := ((unveil H4).2.1.below (unveil HD6) (by omega)).turned tn7 (by omega)
  have eb7 : eBlock W7 (w.heap.size + 2) Ev.nil := eBlock.turned (((unveil HD6).block _ (by omega)).trans (unveil H4).2.2.1) tn7 (by omega)
  have vb7 : eBlock W7 X ⟨1, p, n, b, 0, 0⟩ := eBlock.turned (((unveil HD6).block _ (by omega)).trans (unveil H4).2.2.2.1) tn7 (by omega)
  have O7 := tn7.own (unveil HO6) (by omega)
  clear hW7 c0 c1 c2 c3 c4 c5 c6 cf v0 v1 v2 v3 v4 v5 HO6 HD6 HO5 HG H4 hsn hXn hX4
  obtain ⟨c0, c1, c2, c3, c4, c5, c6⟩ := cb7.cells
  have cf := cb7.free
  have H7 := veil (And.intro cb7 (And.intro zb7 (And.intro eb7 (And.intro vb7 (And.intro B7 O7)))))
  clear cb7 zb7 eb7 vb7 B7 O7 tn7
  go_upto_region 8 with fail
  obtain ⟨W8, hW8, cb8, tn8⟩ : ∃ W8, W8 = W7.setCell ⟨w.heap.size, 1, none⟩ (.int .i64 (n + 1)) ∧ cBlock W8 w.heap.size p (n + 1) a6 (es.length + 1) k6 wh ∧ Turned w.heap.size W7 W8 :=
    ⟨_, rfl, (unveil H7).1.next' _, Turned.set _ _ _ _⟩
  rw [← hW8]
  have zb8 := (unveil H7).2.1.turned tn8 (by omega)
  have eb8 := (unveil H7).2.2.1.turned tn8 (by omega)
  have vb8 := (unveil H7).2.2.2.1.turned tn8 (by omega)
  have B8 := tn8.under (unveil H7).2.2.2.2.1 (Nat.le_refl _)
  have O8 := tn8.own (unveil H7).2.2.2.2.2 (by omega)
  clear hW8 c0 c1 c2 c3 c4 c5 c6 cf
  generalize n + 1 = n1 at *
  obtain ⟨c0, c1, c2, c3, c4, c5, c6⟩ := cb8.cells
  obtain ⟨z0, z1, z2, z3, z4, z5, z6⟩ := zb8.cells
  obtain ⟨e0, e1, e2, e3, e4, e5⟩ := eb8.cells
  obtain ⟨v0, v1, v2, v3, v4, v5⟩ := vb8.cells
  have zf := zb8.free
  have ef := eb8.free
  have n1' : w.heap.size ≠ w.heap.size + 1 := by omega
  have n2' : w.heap.size ≠ w.heap.size + 2 := by omega
  have n3' : X ≠ w.heap.size + 1 := by omega
  have n4' : X ≠ w.heap.size + 2 := by omega
  have H8 := veil (And.intro zb8 (And.intro eb8 (And.intro B8 O8)))
  clear cb8 zb8 eb8 vb8 B8 O8 tn8 H7
  go_wp2_with fail
  go_region
  all_goals (try go_wp2)
  all_goals first
    | (obtain ⟨W9, hW9, cb9, B9, tn9⟩ := c_stored (unveil H8).1 (unveil H8).2.2.1 (by omega) p n1 a6 (es.length + 1) k6 wh
       obtain ⟨WA, hWA, ebA, BA, tnA⟩ := e_stored ((unveil H8).2.1.turned tn9 (by omega)) B9 (by omega) 1 p n b 0 0
       rw [hW9] at hWA
       rw [← hWA]
       have tB := turned_drew w.heap.size WA
       exact bodyPost_ret (ret_Send ((cb9.turned tnA (by omega)).turned tB (by omega)) (ebA.turned tB (by omega)) rfl rfl rfl) rfl ⟨_, rfl, unveil HEND _ a6 k6 (own_lower (tB.own (tnA.own (tn9.own (unveil H8).2.2.2 (by omega)) (by omega)) (by omega)) (by omega)), tB.under BA (Nat.le_refl _)⟩)
    | (obtain ⟨W9, hW9, eb9, B9, tn9⟩ := e_stored (unveil H8).2.1 (unveil H8).2.2.1 (by omega) 1 p n b 0 0
       obtain ⟨WA, hWA, cbA, BA, tnA⟩ := c_stored ((unveil H8).1.turned tn9 (by omega)) B9 (by omega) p n1 a6 (es.length + 1) k6 wh
       rw [hW9] at hWA
       rw [← hWA]
       have tB := turned_drew w.heap.size WA
       exact bodyPost_ret (ret_Send (cbA.turned tB (by omega)) ((eb9.turned tnA (by omega)).turned tB (by omega)) rfl rfl rfl) rfl ⟨_, rfl, unveil HEND _ a6 k6 (own_lower (tB.own (tnA.own (tn9.own (unveil H8).2.2.2 (by omega)) (by omega)) (by omega)) (by omega)), tB.under BA (Nat.le_refl _)⟩)
end Go.Proofs.Ytjolamdlclcpcaa
